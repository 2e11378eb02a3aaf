/- A wheel's far: where a thing lies beyond the rings. -/
import Derived.Test.YtfclmbneimbmnaaDoorWhB
namespace Go.Proofs.YtfclmbneimbmnaaDoor
open Go.RowKit

/-- What far tells of an ID. -/
def FarT (l : List Th) (x r : Int) : Prop := (∃ k : Nat, r = k ∧ ∃ h : k < l.length, (l[k]).1 = x ∧ ∀ t ∈ l.take k, t.1 ≠ x) ∨ (r = -1 ∧ ∀ t ∈ l, t.1 ≠ x)

set_option maxRecDepth 100000 in
theorem far1_any (X : Nat) (x y z id : Int) (w : World) (hc : w.cell? ⟨X, 0, none⟩ = some (.int .u64 id)) :
    Calls Tryd.prog 120 #[.agg #[.int .u64 x, .int .u64 y, .int .i64 z], .pointer (some ⟨X, 0, none⟩)] w fun e w' => e = .returned (.bool (x == id)) ∧ Below w.heap.size w w' := by
  have hb : Below w.heap.size w (w.alloc (.cells #[.int .u64 x, .int .u64 y, .int .i64 z] 27)) := (Below.refl _ _).alloc (Nat.le_refl _) _
  have h1 := (hb.cell (p := ⟨X, 0, none⟩) (cell_lt hc)).trans hc
  have HB := Lib.hid hb
  clear hc hb
  go_enter Tryd.func120, Tryd.ntmps120
  go_wp2
  go_ret
  exact ⟨by simp, HB.out⟩

set_option maxRecDepth 100000 in
set_option maxHeartbeats 4000000 in
theorem indexf_any (a : Option Addr) (c X : Nat) (l : List Th) (id : Int) (w : World) (hR : TS w a l) (hc : w.cell? ⟨X, 0, none⟩ = some (.int .u64 id)) (hm : l.length ≤ 1000000) :
    Calls Tryd.prog 119 #[.slice a l.length c, .func (.func 120) #[] #[.pointer (some ⟨X, 0, none⟩)]] w fun e w' => ∃ r, e = .returned (.int .i64 r) ∧ FarT l id r ∧ Below w.heap.size w w' := by
  have HR := Lib.hid hR
  have HC := Lib.hid hc
  clear hR hc
  go_enter Tryd.func119, Tryd.ntmps119
  go_wp2
  go_loopg [5, 8] l.length (fun kx s5 s8 wr => ∃ k : Nat, (∃ v5 : Value, s5 = v5) ∧ s8 = .int .i64 k ∧ k ≤ l.length ∧ l.length - k ≤ kx ∧ Hid (∀ t ∈ l.take k, t.1 ≠ id) ∧ Hid (Below w.heap.size w wr))
  case atStart => exact ⟨0, ⟨_, rfl⟩, rfl, by omega, by omega, Lib.hid (by simp), Below.refl _ _⟩
  case round =>
    obtain ⟨k, ⟨v5, rfl⟩, rfl, hk, hkx, HN, HB⟩ := hrel
    by_cases hlt : k < l.length
    · have hltz : (k : Int) < (l.length : Int) := by omega
      have hk0 : (0 : Int) ≤ (k : Int) := by omega
      obtain ⟨B, o, rfl, c0, c1, c2⟩ := (HR.out.below HB.out) k hlt
      obtain ⟨x, hx⟩ : ∃ x, (l[k]).1 = x := ⟨_, rfl⟩
      obtain ⟨y, hy⟩ : ∃ y, (l[k]).2.1 = y := ⟨_, rfl⟩
      obtain ⟨z, hz⟩ : ∃ z, (l[k]).2.2 = z := ⟨_, rfl⟩
      rw [hx] at c0
      rw [hy] at c1
      rw [hz] at c2
      have hf := far1_any X x y z id wr ((HB.out.cell (p := ⟨X, 0, none⟩) (cell_lt HC.out)).trans HC.out)
      have HX := Lib.hid hx
      clear hx hy hz
      go_wp2_with fail
      refine hf.mono ?_
      rintro e w2 ⟨rfl, hb2⟩
      have HB2 := Lib.hid (HB.out.trans (hb2.mono HB.out.size))
      clear hf hb2 c0 c1 c2
      by_cases he : x = id
      · have heb : (x == id) = true := by simp [he]
        rw [heb]
        have HE := Lib.hid he
        clear he heb
        go_wp2_with fail
        go_ret
        exact ⟨_, rfl, .inl ⟨k, rfl, hlt, by rw [HX.out, HE.out], HN.out⟩, HB2.out⟩
      · have heb : (x == id) = false := by simp [he]
        rw [heb]
        go_wp2_with fail
        go_roundg (l.length - (k + 1))
        case measure => omega
        case rel =>
          refine ⟨k + 1, ⟨_, rfl⟩, by go_num, by omega, by omega, Lib.hid (fun t ht => ?_), HB2⟩
          rw [List.take_add_one, List.getElem?_eq_getElem hlt] at ht
          rcases List.mem_append.1 ht with h1 | h1
          · exact HN.out t h1
          · simp only [Option.toList_some, List.mem_singleton] at h1
            subst h1
            rw [HX.out]; exact he
    · have hltz : ¬ (k : Int) < (l.length : Int) := by omega
      obtain rfl : k = l.length := by omega
      go_wp2
      go_ret
      exact ⟨_, rfl, .inr ⟨rfl, fun t ht => HN.out t (by rw [List.take_length]; exact ht)⟩, HB.out⟩

/-- far. -/
theorem FarT.none {l : List Th} {x r : Int} (h : FarT l x r) (hn : ∀ t ∈ l, t.1 ≠ x) : r = -1 := by
  rcases h with ⟨k, _, hk, e, _⟩ | ⟨e, _⟩
  · exact absurd e (hn _ (List.getElem_mem hk))
  · exact e
set_option maxRecDepth 100000 in
theorem wfar (D : WD) (id : Int) (w : World) (h : Wl w D) : Calls Tryd.prog 88 #[.pointer (some ⟨D.q, 0, none⟩), .int .u64 id] w fun e w' => ∃ r, e = .returned (.int .i64 r) ∧ FarT D.BL id r ∧ Below w.heap.size w w' := by
  have hb : Below w.heap.size w (w.alloc (.cells #[.int .u64 id] 25)) := (Below.refl _ _).alloc (Nat.le_refl _) _
  have h1 := h.below hb
  have c5 := h1.c5
  obtain ⟨a, c, hbv, hR⟩ := h1.own.reads
  rw [hbv] at c5
  have hx : (w.alloc (.cells #[.int .u64 id] 25)).cell? ⟨w.heap.size, 0, none⟩ = some (.int .u64 id) := World.cell?_alloc_at _ _ _ _ rfl
  have hf := indexf_any a c w.heap.size D.BL id _ hR hx (by have := h.few; omega)
  have HB := Lib.hid hb
  clear h h1 hb hR hx hbv
  go_enter Tryd.func88, Tryd.ntmps88
  go_wp2_with (go_at_call 119; (with_reducible refine hf.mono ?_); rintro e w2 ⟨r, rfl, hF, hb2⟩; have HF := Lib.hid (And.intro hF (HB.out.trans (hb2.mono HB.out.size))); clear hF hb2 hf)
  go_ret
  exact ⟨_, rfl, HF.out.1, HF.out.2⟩


set_option maxRecDepth 100000 in
set_option maxHeartbeats 8000000 in
theorem wget_none (D : WD) (x : Int) (w : World) (h : Wl w D) (hx : IdOk x) (hM : ∀ k, k < 4 → (D.R k).M x = none) (hB : ∀ t ∈ D.BL, t.1 ≠ x) : Calls Tryd.prog 41 #[.pointer (some ⟨D.q, 0, none⟩), .int .u64 x] w fun e w' => e = .returned (.tuple #[.agg #[.int .u64 0, .int .u64 0, .int .i64 0], .bool false]) ∧ Below w.heap.size w w' := by
  have HX := Lib.hid hx
  have HM := Lib.hid hM
  have HBL := Lib.hid hB
  clear hx hM hB
  have mixed := insTh.mixed
  have hbA : Below w.heap.size w (w.alloc (.cells #[.int .u64 0, .int .u64 0, .int .i64 0] 27)) := (Below.refl _ _).alloc (Nat.le_refl _) _
  have hsA : (w.alloc (.cells #[.int .u64 0, .int .u64 0, .int .i64 0] 27)).heap.size = w.heap.size + 1 := by simp
  have hzA : ∀ o, (w.alloc (.cells #[.int .u64 0, .int .u64 0, .int .i64 0] 27)).frozen? ⟨w.heap.size, o, none⟩ = false := fun o => by simp
  have hqA := zero_three w
  have hA := h.below hbA
  have hc := wcreated D _ hA
  have r0 := hA.cr 0 (by omega)
  have r1 := hA.cr 1 (by omega)
  have r2 := hA.cr 2 (by omega)
  have r3 := hA.cr 3 (by omega)
  obtain ⟨T, hT⟩ : ∃ T, w.heap.size = T := ⟨_, rfl⟩
  have hqT : D.q < T := by have := h.qlt; omega
  have H0 := Lib.hid h
  obtain ⟨A, hAe⟩ : ∃ A : Array Value, #[Value.pointer (some ⟨(D.R 0).r, 0, none⟩), .pointer (some ⟨(D.R 1).r, 0, none⟩), .pointer (some ⟨(D.R 2).r, 0, none⟩), .pointer (some ⟨(D.R 3).r, 0, none⟩)] = A := ⟨_, rfl⟩
  have HIX : Hid (∀ k : Nat, k < 4 → ∀ w, Sem.run Tryd.prog (Instr.index 79 (.agg A) (.int .i64 k)) w = .ok (.pointer (some ⟨(D.R k).r, 0, none⟩)) w) := Lib.hid (fun k hk w => by
    subst hAe
    refine run_index_arr Tryd.underlying79 Tryd.sizeOf38 Tryd.isAgg38 k hk (by omega) ?_ w
    match k, hk with
    | 0, _ => rfl
    | 1, _ => rfl
    | 2, _ => rfl
    | 3, _ => rfl)
  go_enter Tryd.func41, Tryd.ntmps41
  go_wp2_with fail
  rw [hT] at hqA hzA hsA
  generalize w.alloc (.cells #[.int .u64 0, .int .u64 0, .int .i64 0] 27) = W1 at hbA hsA hzA hqA hc hA r0 r1 r2 r3 ⊢
  have HA := Lib.hid (And.intro hbA (And.intro hsA (And.intro hzA (And.intro hqA hA))))
  clear hA hzA hqA hbA h
  go_wp2_with (go_at_call 82; (with_reducible refine hc.mono ?_); rintro e w1 ⟨rfl, rfl⟩)
  try rw [hAe]
  clear r0 r1 r2 r3 hc hsA
  go_loopg [7, 8, 9, 10, 20] 4 (fun kx s7 s8 s9 s10 s20 wr => ∃ (j : Nat), (∃ v7 v8 v9 v10 : Value, s7 = v7 ∧ s8 = v8 ∧ s9 = v9 ∧ s10 = v10) ∧ s20 = .int .i64 j ∧ j ≤ 4 ∧ 4 - j ≤ kx ∧ Hid (Below w1.heap.size w1 wr))
  case atStart => exact ⟨0, ⟨_, _, _, _, rfl, rfl, rfl, rfl⟩, rfl, by omega, by omega, Below.refl _ _⟩
  case round =>
    obtain ⟨j, ⟨v7, v8, v9, v10, rfl, rfl, rfl, rfl⟩, rfl, hj, hjx, HB⟩ := hrel
    by_cases hlt : j < 4
    · have hj4 : j < 4 := by omega
      have hj4z : (j : Int) < 4 := by omega
      have hix := HIX.out j hj4
      have hg := get_none x wr ((HA.out.2.2.2.2.below HB.out).rg j hj4) HX.out (HM.out j (by omega))
      go_wp2_with (go_at_call 75; (with_reducible refine hg.mono ?_); rintro e w2 ⟨rfl, hb2⟩; have HB2 := Lib.hid (HB.out.trans ((hb2.trans ((Below.refl w2.heap.size w2).alloc (Nat.le_refl _) (.cells #[.int .u64 0, .int .u64 0, .int .i64 0] 27) |>.mono hb2.size)).mono HB.out.size)); clear hb2 hg)
      go_roundg (4 - (j + 1))
      case measure => omega
      case rel => exact ⟨j + 1, ⟨_, _, _, _, rfl, rfl, rfl, rfl⟩, by go_num, by omega, by omega, HB2⟩
    · have hj4z : ¬ (j : Int) < 4 := by omega
      have hf := wfar D x wr (HA.out.2.2.2.2.below HB.out)
      obtain ⟨hbA, hsA, hzA, hqA, hA⟩ := HA.out
      have q0 := (HB.out.cell (p := ⟨T, 0, none⟩) (by show T < _; omega)).trans hqA.1
      have q1 := (HB.out.cell (p := ⟨T, 1, none⟩) (by show T < _; omega)).trans hqA.2.1
      have q2 := (HB.out.cell (p := ⟨T, 2, none⟩) (by show T < _; omega)).trans hqA.2.2
      have z := fun o => (HB.out.frozen (p := ⟨T, o, none⟩) (by show T < _; omega)).trans (hzA o)
      have hTr : T < wr.heap.size := by have := HB.out.size; omega
      clear hbA hsA hzA hqA hA
      go_wp2_with (go_at_call 88; (with_reducible refine hf.mono ?_); rintro e w2 ⟨r, rfl, hF, hb2⟩; obtain rfl := hF.none HBL.out; have q0' := (hb2.cell (p := ⟨T, 0, none⟩) hTr).trans q0; have q1' := (hb2.cell (p := ⟨T, 1, none⟩) hTr).trans q1; have q2' := (hb2.cell (p := ⟨T, 2, none⟩) hTr).trans q2; have z0' := (hb2.frozen (p := ⟨T, 0, none⟩) hTr).trans (z 0); have z1' := (hb2.frozen (p := ⟨T, 1, none⟩) hTr).trans (z 1); have z2' := (hb2.frozen (p := ⟨T, 2, none⟩) hTr).trans (z 2); have HB2 := Lib.hid (HB.out.trans (hb2.mono HB.out.size)); clear hF hb2 hf q0 q1 q2 z)
      obtain ⟨k0, k1, k2⟩ := three_read (u := .int .u64 0) (v := .int .u64 0) (z := .int .i64 0) q0' q1' q2'
      have h3 := below_three (a := w) (w := w2) (HA.out.1.trans (HB2.out.mono HA.out.1.size)) (show w.heap.size ≤ T by omega) (.int .u64 0) (.int .u64 0) (.int .i64 0)
      generalize ((w2.setCell ⟨T, 0, none⟩ (.int .u64 0)).setCell ⟨T, 1, none⟩ (.int .u64 0)).setCell ⟨T, 2, none⟩ (.int .i64 0) = W3 at k0 k1 k2 h3 ⊢
      refine bodyPost_ret (v := .tuple #[.agg #[.int .u64 0, .int .u64 0, .int .i64 0], .bool false]) (by simp [results, Tryd.results41, go_sem, k0, k1, k2]) rfl ⟨rfl, h3⟩
end Go.Proofs.YtfclmbneimbmnaaDoor
