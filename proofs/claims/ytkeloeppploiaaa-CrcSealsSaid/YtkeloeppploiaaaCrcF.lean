/- The walk of CrcApart. -/
import Derived.Test.YtkeloeppploiaaaCrcE
namespace Go.Proofs.Ytkeloeppploiaaa
open Go.RowKit

theorem top_lt {bs : List Nat} (h : ∀ c ∈ bs, c < 256) : ∀ c ∈ bs ++ top bs, c < 256 := by
  have hx := onN_lt bs 11994318 (by omega) h
  intro c hc
  simp only [List.mem_append, top, List.mem_cons, List.not_mem_nil, or_false] at hc
  rcases hc with hc | rfl | rfl | rfl
  · exact h c hc
  all_goals omega
theorem top_len (bs : List Nat) : (bs ++ top bs).length = bs.length + 3 := by simp [top]
theorem top_take (bs : List Nat) : (bs ++ top bs).take bs.length = bs := by simp
theorem top_fits (bs : List Nat) : onN 11994318 ((bs ++ top bs).take bs.length) = (bs ++ top bs).getD bs.length 0 * 65536 + (bs ++ top bs).getD (bs.length + 1) 0 * 256 + (bs ++ top bs).getD (bs.length + 2) 0 := by
  rw [top_take]
  have e0 : (bs ++ top bs).getD bs.length 0 = onN 11994318 bs / 65536 := by simp [top]
  have e1 : (bs ++ top bs).getD (bs.length + 1) 0 = onN 11994318 bs / 256 % 256 := by simp [top]
  have e2 : (bs ++ top bs).getD (bs.length + 2) 0 = onN 11994318 bs % 256 := by simp [top]
  rw [e0, e1, e2]
  omega
/-- What was sealed is opened. -/
theorem open_sealed (v : Value) (bs : List Nat) (w : World) (hb : RB w v (bs ++ top bs)) (hm : bs.length ≤ 1000000) : Calls Try.prog 39 #[v] w (Opened w bs) := by
  have := open_good v (bs ++ top bs) bs.length w hb (top_len bs) hm (top_fits bs)
  rwa [top_take] at this

theorem RB.shapeN {w : World} {v : Value} {bs : List Nat} {n : Nat} (h : RB w v bs) (hn : bs.length = n) : ∃ a cap, v = .slice a n cap := by
  obtain ⟨a, cap, hv, _, _⟩ := h.shape
  exact ⟨a, cap, by rw [← hn]; exact hv⟩
/-- n cells of bytes, whatever they hold, that are the call's own. -/
def Own (w : World) (base : Nat) (v : Value) (n : Nat) : Prop := ∃ xs, w.ownsRow base 5 1 v n xs
theorem OB.own {w : World} {base : Nat} {v : Value} {bs : List Nat} {n : Nat} (h : OB w base v bs) (hn : bs.length = n) : Own w base v n := ⟨_, by rw [← hn]; exact h⟩
theorem Own.at {w : World} {base : Nat} {a : Option Addr} {n cap k : Nat} (h : Own w base (.slice a n cap) n) (hk : k < n) :
    ∃ g u, a = some ⟨g, 0, none⟩ ∧ base ≤ g ∧ g < w.heap.size ∧ w.cell? ⟨g, k, none⟩ = some u ∧ w.frozen? ⟨g, k, none⟩ = false := by
  obtain ⟨xs, h⟩ := h
  have h' := h
  rcases h'.2 with ⟨hv, hn⟩ | ⟨g, cap', cur, hv, hg, hh, _⟩
  · omega
  · simp only [Value.slice.injEq] at hv
    obtain ⟨rfl, _, rfl⟩ := hv
    have e := h'.1
    refine ⟨g, xs[k]'(by omega), rfl, hg, (Array.getElem?_eq_some_iff.mp hh).1, ?_, World.ownsRow.frozenAt h k⟩
    rw [World.ownsRow.cellAt h k (by omega)]
    simp
theorem Own.set {w : World} {base g n cap k : Nat} (h : Own w base (.slice (some ⟨g, 0, none⟩) n cap) n) (u : Value) : Own (w.setCell ⟨g, k, none⟩ u) base (.slice (some ⟨g, 0, none⟩) n cap) n := by
  obtain ⟨xs, h⟩ := h
  exact ⟨_, (World.ownsRow.stored h k u).1⟩
theorem OB.set {w : World} {base : Nat} {v : Value} {bs : List Nat} (h : OB w base v bs) {p : Addr} (hp : p.block < base) (u : Value) : OB (w.setCell p u) base v bs := ownsRow_setCell_below h hp u
theorem Own.setOther {w : World} {base : Nat} {v : Value} {n : Nat} (h : Own w base v n) {p : Addr} (hp : p.block < base) (u : Value) : Own (w.setCell p u) base v n := by
  obtain ⟨xs, h⟩ := h
  exact ⟨xs, ownsRow_setCell_below h hp u⟩

set_option maxHeartbeats 400000 in
theorem apart_big (a0 : Option Addr) (len0 cap0 : Nat) (a1 : Int) (w : World) (hl : 500 < len0) (hm : len0 ≤ 9223372036854775807) :
    Calls Try.prog 11 #[.slice a0 len0 cap0, .int .u8 a1] w fun e w' => e = .returned (.bool true) ∧ Below w.heap.size w w' := by
  go_enter Try.func11, Try.ntmps11
  go_wp2_with (go_at_call 32; refine (lives2 _).mono ?_; rintro e w' ⟨rfl, hb⟩)
  go_ret
  exact ⟨rfl, hb⟩

set_option maxHeartbeats 400000 in
theorem apart_small (v : Value) (bs : List Nat) (a1 : Int) (w : World) (hb : RB w v bs) (hl : bs.length ≤ 500) :
    Calls Try.prog 11 #[v, .int .u8 a1] w fun e w' => e = .returned (.bool true) ∧ Below w.heap.size w w' := by
  obtain ⟨a, cap, rfl, _, _⟩ := hb.shape
  obtain ⟨n, hn⟩ : ∃ n, bs.length = n := ⟨_, rfl⟩
  have HB := Lib.hid hb
  have HN := Lib.hid hn
  rw [hn] at hl ⊢
  clear hb hn
  go_enter Try.func11, Try.ntmps11
  go_wp2_with (first
    | (at_builtin; refine append_rb rfl (.tmp 15) (.tmp 16) rfl w.heap.size _ _ [] bs rfl rfl (ob_empty _ _ rfl) (by have := HB.out.kept ((Below.refl _ _).alloc (Nat.le_refl _) (.cells #[] 5)); rw [HN.out] at this; exact this) (by have := HN.out; simp; omega) (by simp) ?_; intro own w1 ho1 hg1; have hb1 := (ob_empty w _ rfl).below hg1 ((Below.refl w.heap.size w).alloc (Nat.le_refl _) _) (by simp); have hr1 := ho1.rb HB.out.1 (by have := HN.out; simp; omega); clear hg1; simp only [List.nil_append] at ho1 hr1; obtain ⟨ao, co, rfl⟩ := hr1.shapeN HN.out)
    | (go_at_call 38; refine (seal_any _ _ _ hr1 (by have := HN.out; simp; omega)).mono ?_; rintro e w2 ⟨s, rfl, ho2, hb2⟩; have hr2 := ho2.rb (top_lt HB.out.1) (by have := HN.out; rw [top_len]; omega); obtain ⟨sa, sc, rfl⟩ := hr2.shapeN ((top_len bs).trans (by rw [HN.out])))
    | (go_at_call 39; refine (open_sealed _ _ _ hr2 (by have := HN.out; simp; omega)).mono ?_; rintro e w3 ⟨b, rfl, ho3, hb3⟩))
  have lt1 : ∀ g, ao = some ⟨g, 0, none⟩ → g < w1.heap.size := fun g hg => (World.ownsRow.lt ho1 g (by rw [hg]; rfl)).2
  have lt2 : ∀ g, sa = some ⟨g, 0, none⟩ → g < w2.heap.size := fun g hg => (World.ownsRow.lt ho2 g (by rw [hg]; rfl)).2
  have hW3 : Below w.heap.size w w3 := (hb1.trans (hb2.mono hb1.size)).trans (hb3.mono (Nat.le_trans hb1.size hb2.size))
  have own3 : Own w3 w.heap.size (.slice ao n co) n := ((ho1.kept hb2).kept hb3).own HN.out
  have s3 : Own w3 w1.heap.size (.slice sa (n + 3) sc) (n + 3) := (ho2.kept hb3).own ((top_len bs).trans (by rw [HN.out]))
  have LT1 := Lib.hid lt1
  have LT2 := Lib.hid lt2
  have sz1 := hb1.size
  have sz2 := hb2.size
  clear lt1 lt2 ho1 ho2 hr1 hr2 hb1 hb2 hb3
  go_loopw [27] (fun i wr => ∃ k : Nat, k ≤ n ∧ i = .int .i64 k ∧ Below w.heap.size w wr ∧ Own wr w.heap.size (.slice ao n co) n ∧ Own wr w1.heap.size (.slice sa (n + 3) sc) (n + 3) ∧ OB wr w2.heap.size b bs) (fun i _ => n - (intOf i).toNat)
  case atStart => exact ⟨0, Nat.zero_le _, rfl, hW3, own3, s3, ho3⟩
  case round =>
    obtain ⟨k, hk, rfl, hW, hown, hs, hb⟩ := hrel
    clear hW3 own3 s3 ho3
    by_cases hlt : k < n
    · obtain ⟨g, u, rfl, hg, hgs, hcell, hfr⟩ := hown.at hlt
      have hg1 := LT1.out g rfl
      go_wp2
      go_roundw
      case rel => exact ⟨k + 1, by omega, by go_num, hW.setCell (by exact hg) _, hown.set _, hs.setOther (by exact hg1) _, hb.set (by simp; omega) _⟩
      case measure => simp [intOf]; omega
    · go_wp2
      have own3 := hown
      clear hk hlt own3 hown
      go_loopw [37] (fun i wr => ∃ k : Nat, k ≤ n + 3 ∧ i = .int .i64 k ∧ Below w.heap.size w wr ∧ Own wr w1.heap.size (.slice sa (n + 3) sc) (n + 3) ∧ OB wr w2.heap.size b bs) (fun i _ => n + 3 - (intOf i).toNat)
      case atStart => exact ⟨0, Nat.zero_le _, rfl, hW, hs, hb⟩
      case round =>
        obtain ⟨j, hj, rfl, hW', hs', hb'⟩ := hrel
        clear hW hs hb
        by_cases hlt : j < n + 3
        · obtain ⟨g, u, rfl, hg, hgs, hcell, hfr⟩ := hs'.at hlt
          have hg1 := LT2.out g rfl
          go_wp2
          go_roundw
          case rel => exact ⟨j + 1, by omega, by go_num, hW'.setCell (by simp; omega) _, hs'.set _, hb'.set (by exact hg1) _⟩
          case measure => simp [intOf]; omega
        · have hrb := hb'.rb HB.out.1 (by have := HN.out; omega)
          have hra := HB.out.kept hW'
          rw [HN.out] at hra
          have e1 := rb_string (P := Try.prog) hrb 27 9 5 Try.underlying27 Try.underlying5 Try.underlying9
          have e2 := rb_string (P := Try.prog) hra 27 9 5 Try.underlying27 Try.underlying5 Try.underlying9
          clear hrb hra
          go_wp2_with (go_at_call 32; refine (lives2 _).mono ?_; rintro e w' ⟨rfl, hl⟩)
          go_ret
          exact ⟨rfl, hW'.trans (hl.mono hW'.size)⟩
end Go.Proofs.Ytkeloeppploiaaa
