/- All and Sum of a meter, and the chapter's example. -/
import Derived.Test.YtfakgemifbgafaaMtE
import Derived.Laws.AppendOwn
import Derived.Laws.AppendOwnNone
import Derived.LoopTactic
namespace Go.Proofs.Ytfakgemifbgafaa
open Go.RowKit

/-- The slice v, whose elements are the numbers xs of kind k, is the call's own. -/
def OI (k : IntKind) (E : TypeId) (w : World) (base : Nat) (v : Value) (xs : List Int) : Prop := w.ownsRow base E 1 v xs.length (xs.map (Value.int k))
theorem OI.kept {k : IntKind} {E : TypeId} {w w' : World} {base : Nat} {v : Value} {xs : List Int} (h : OI k E w base v xs) (hb : Below w.heap.size w w') : OI k E w' base v xs := by
  obtain ⟨h1, h2⟩ := h
  refine ⟨h1, ?_⟩
  rcases h2 with h2 | ⟨g, cap, cur, hv, hg, hh, r⟩
  · exact .inl h2
  · exact .inr ⟨g, cap, cur, hv, hg, by rw [hb.block g (Array.getElem?_eq_some_iff.mp hh).1]; exact hh, r⟩
theorem OI.mono {k : IntKind} {E : TypeId} {w : World} {base base' : Nat} {v : Value} {xs : List Int} (h : OI k E w base v xs) (hb : base' ≤ base) : OI k E w base' v xs := by
  obtain ⟨h1, h2⟩ := h
  refine ⟨h1, ?_⟩
  rcases h2 with h2 | ⟨g, cap, cur, hv, hg, r⟩
  · exact .inl h2
  · exact .inr ⟨g, cap, cur, hv, by omega, r⟩
theorem OI.shape {k : IntKind} {E : TypeId} {w : World} {base : Nat} {v : Value} {xs : List Int} (h : OI k E w base v xs) : ∃ a cap, v = .slice a xs.length cap := by
  rcases h.2 with ⟨hv, hn⟩ | ⟨g, cap, cur, hv, r⟩
  · have : xs.length = 0 := hn
    exact ⟨none, 0, by rw [this]; exact hv⟩
  · exact ⟨_, cap, hv⟩
theorem OI.at {k : IntKind} {E : TypeId} {w : World} {base : Nat} {v : Value} {xs : List Int} (h : OI k E w base v xs) (hp : 0 < xs.length) :
    ∃ g cap, v = .slice (some ⟨g, 0, none⟩) xs.length cap ∧ base ≤ g ∧ g < w.heap.size ∧ ∀ i, i < xs.length → w.cell? ⟨g, i, none⟩ = some (.int k (xs.getD i 0)) := by
  have h' := h
  rcases h'.2 with ⟨hv, hn⟩ | ⟨g, cap, cur, hv, hg, hh, hc, hm, r⟩
  · omega
  · refine ⟨g, cap, hv, hg, (Array.getElem?_eq_some_iff.mp hh).1, fun i hi => ?_⟩
    subst hv
    have hh := World.ownsRow.cellAt h i (by omega)
    simp only [List.getElem?_map, List.getElem?_eq_getElem hi, Option.map_some] at hh
    rw [hh]
    simp [hi]

/-- The sum modulo 2^64. -/
def usum (l : List Int) : Int := l.foldl (fun s x => IntKind.u64.wrap (s + x)) 0
theorem usum_take (l : List Int) (k : Nat) (h : k < l.length) : usum (l.take (k + 1)) = IntKind.u64.wrap (usum (l.take k) + l.getD k 0) := by
  have e : l.getD k 0 = l[k] := by simp [h]
  rw [List.take_succ_eq_append_getElem h, e]
  unfold usum
  rw [List.foldl_append]
  rfl
theorem usum_range (l : List Int) : 0 ≤ usum l ∧ usum l < 18446744073709551616 := by
  rcases List.eq_nil_or_concat l with rfl | ⟨m, x, rfl⟩
  · simp [usum]
  · simp only [usum, List.concat_eq_append, List.foldl_append, List.foldl_cons, List.foldl_nil]
    rw [IntKind.wrap_u64]; omega

theorem all_nob (v : Value) (w : World) (h : Nob v w) : Calls Try.prog 24 #[v] w fun e w' => e = .returned (.slice none 0 0) ∧ w = w' := by
  go_enter Try.func24, Try.ntmps24
  go_wp2_with (go_at_call 26; refine (len_nob v _ h).mono ?_; rintro e w' ⟨rfl, rfl⟩)
  go_loop [3, 7] (fun s i => i = .int .i64 0 ∧ s = .slice none 0 0) (fun _ _ => 0)
  case atStart => exact ⟨rfl, rfl⟩
  case round =>
    obtain ⟨rfl, rfl⟩ := hrel
    go_wp2_with fail
    go_ret
    exact ⟨rfl, rfl⟩
theorem sum_nob (v : Value) (w : World) (h : Nob v w) : Calls Try.prog 25 #[v] w fun e w' => e = .returned (.int .u64 0) ∧ w = w' := by
  go_enter Try.func25, Try.ntmps25
  go_wp2_with (go_at_call 26; refine (len_nob v _ h).mono ?_; rintro e w' ⟨rfl, rfl⟩)
  go_loop [3, 7] (fun s i => i = .int .i64 0 ∧ s = .int .u64 0) (fun _ _ => 0)
  case atStart => exact ⟨rfl, rfl⟩
  case round =>
    obtain ⟨rfl, rfl⟩ := hrel
    go_wp2_with fail
    go_ret
    exact ⟨rfl, rfl⟩

set_option maxRecDepth 100000 in
set_option maxHeartbeats 1600000 in
theorem sum_met (b : Nat) (vs : List Int) (w : World) (M : Met b vs w) : Calls Try.prog 25 #[.pointer (some ⟨b, 0, none⟩)] w fun e w' => e = .returned (.int .u64 (usum vs)) ∧ w = w' := by
  have hf := M.few
  go_enter Try.func25, Try.ntmps25
  go_wp2_with (go_at_call 26; refine (len_met b _ _ M.n).mono ?_; rintro e w' ⟨rfl, rfl⟩)
  go_loop [3, 7] (fun s i => ∃ k : Nat, k ≤ vs.length ∧ i = .int .i64 k ∧ s = .int .u64 (usum (vs.take k))) (fun _ i => vs.length - (intOf i).toNat)
  case atStart => exact ⟨0, Nat.zero_le _, rfl, rfl⟩
  case round =>
    obtain ⟨k, hk, rfl, rfl⟩ := hrel
    by_cases hlt : k < vs.length
    · have hv := M.v k hlt
      obtain ⟨y, hy⟩ : ∃ y, vs.getD k 0 = y := ⟨_, rfl⟩
      have hu := usum_take vs k hlt
      rw [hy] at hv hu
      obtain ⟨s, hs⟩ : ∃ s, usum (vs.take k) = s := ⟨_, rfl⟩
      rw [hs] at hu ⊢
      have hl := load_u64 ⟨b, 1 + k, none⟩ y w hv
      have k0 : (0 : Int) ≤ (k : Int) := by omega
      have k16 : (k : Int) < 16 := by omega
      have d1 : decide ((k : Int) < (vs.length : Int)) = true := by simp [hlt]
      have HU := Lib.hid hu
      clear hu hs hy
      go_wp2_with (go_at_call 60; refine hl.mono ?_; rintro e w' ⟨rfl, rfl⟩)
      go_round
      case rel => exact ⟨k + 1, by omega, by go_num, by rw [HU.out]⟩
      case measure => simp [intOf]; omega
    · obtain rfl : k = vs.length := by omega
      have d1 : decide (((vs.length : Nat) : Int) < (vs.length : Int)) = false := by simp
      go_wp2_with fail
      go_ret
      exact ⟨rfl, rfl⟩
theorem words_info : (Try.prog.info? 42).map (fun i => (i.zero, i.size, i.bytes)) = some (some (.int .u64 0), 1, 8) := by kernel_rfl
set_option maxRecDepth 100000 in
set_option maxHeartbeats 1600000 in
theorem all_met (b : Nat) (vs : List Int) (w : World) (M : Met b vs w) : Calls Try.prog 24 #[.pointer (some ⟨b, 0, none⟩)] w fun e w' => ∃ v, e = .returned v ∧ Below w.heap.size w w' ∧ OI .u64 42 w' w.heap.size v vs := by
  have hf := M.few
  obtain ⟨i0, hi, hz0, hz1, hz2⟩ := info_parts words_info
  go_enter Try.func24, Try.ntmps24
  go_wp2_with (go_at_call 26; refine (len_met b _ _ M.n).mono ?_; rintro e w' ⟨rfl, rfl⟩)
  go_loopw [3, 7] (fun s i wr => ∃ k : Nat, k ≤ vs.length ∧ i = .int .i64 k ∧ Below w.heap.size w wr ∧ OI .u64 42 wr w.heap.size s (vs.take k)) (fun _ i _ => vs.length - (intOf i).toNat)
  case atStart => exact ⟨0, Nat.zero_le _, rfl, Below.refl _ _, World.ownsRow_nil _ _ _ _⟩
  case round =>
    obtain ⟨k, hk, rfl, hB, hO⟩ := hrel
    by_cases hlt : k < vs.length
    · have hv := (M.kept hB).v k hlt
      have ht : vs.take (k + 1) = vs.take k ++ [vs.getD k 0] := by
        rw [List.take_succ_eq_append_getElem hlt]; simp [hlt]
      obtain ⟨y, hy⟩ : ∃ y, vs.getD k 0 = y := ⟨_, rfl⟩
      rw [hy] at hv ht
      have hl := load_u64 ⟨b, 1 + k, none⟩ y wr hv
      have k0 : (0 : Int) ≤ (k : Int) := by omega
      have k16 : (k : Int) < 16 := by omega
      have d1 : decide ((k : Int) < (vs.length : Int)) = true := by simp [hlt]
      obtain ⟨l, hl0⟩ : ∃ l, vs.take k = l := ⟨_, rfl⟩
      have hll : l.length = k := by rw [← hl0]; simp; omega
      rw [hl0] at hO ht
      have HT := Lib.hid ht
      have HL := Lib.hid hll
      clear ht hll hl0 hy
      go_wp2_with (first
        | (go_at_call 60; refine hl.mono ?_; rintro e w' ⟨rfl, rfl⟩)
        | (at_builtin; refine wpList_append_own _ rfl _ _ 41 rfl w.heap.size 42 i0 (.int .u64 0) 1 8 Try.underlying41 hi hz0 hz1 hz2 rfl (by decide) _ _ _ rfl (hO.alloc _) ⟨wr.heap.size, 0, none⟩ 1 1 [.int .u64 y] rfl rfl ?c1 ?c2 ?c3 ?c4 ?c5 ?_))
      case c1 =>
        intro j u hj
        rcases j with _ | j
        · simp only [List.getElem?_cons_zero, Option.some.injEq] at hj
          subst hj
          simp [Addr.add]
        · simp at hj
      case c2 =>
        intro u hu
        simp only [List.mem_singleton] at hu
        subst hu
        rfl
      case c3 => have := HL.out; unfold maxLen; omega
      case c4 => have := HL.out; omega
      case c5 => have := hB.size; simp; omega
      intro v' w1 hown' hgrow _
      have hB1 : Below w.heap.size w w1 := (hB.alloc hB.size _).grown hgrow (by have := hB.size; simp; omega) fun k hk => (World.ownsRow.lt hO k hk).1
      have hO1 : OI .u64 42 w1 w.heap.size v' (l ++ [y]) := by
        unfold OI
        rw [List.length_append, List.map_append]
        exact hown'
      clear hown' hgrow hv hl
      go_wp2_with fail
      go_roundw
      case rel => exact ⟨k + 1, by omega, by go_num, hB1, by rw [HT.out]; exact hO1⟩
      case measure => simp [intOf]; omega
    · obtain rfl : k = vs.length := by omega
      have d1 : decide (((vs.length : Nat) : Int) < (vs.length : Int)) = false := by simp
      rw [List.take_length] at hO
      go_wp2_with fail
      go_ret
      exact ⟨_, rfl, hB, hO⟩
end Go.Proofs.Ytfakgemifbgafaa
