/- The walk of CrcBursts. -/
import Derived.Test.YtkeloeppploiaaaCrcF
import Derived.Test.YtkeloeppploiaaaCrcG
import Derived.RegionTactic
import Derived.BigRegion
namespace Go.Proofs.Ytkeloeppploiaaa
open Go.RowKit

theorem own_x (x : Nat) (hx : x < 16777216) : onN x [x / 65536, x / 256 % 256, x % 256] = 0 := by
  have h := onN_own (x / 65536) (x / 256 % 256) (x % 256) (by omega) (by omega) (by omega)
  have e : x / 65536 * 65536 + x / 256 % 256 * 256 + x % 256 = x := by omega
  exact Eq.subst (motive := fun y => onN y [x / 65536, x / 256 % 256, x % 256] = 0) e h
theorem onN_sealed (bs : List Nat) (h : ∀ c ∈ bs, c < 256) : onN 11994318 (bs ++ top bs) = 0 := by
  have hx := onN_lt bs 11994318 (by omega) h
  have := own_x _ hx
  rw [onN_append, top, this]
theorem split3 (l : List Nat) (m : Nat) (h : l.length = m + 3) : l = l.take m ++ [l.getD m 0, l.getD (m + 1) 0, l.getD (m + 2) 0] := by
  have d0 := List.drop_eq_getElem_cons (l := l) (i := m) (by omega)
  have d1 := List.drop_eq_getElem_cons (l := l) (i := m + 1) (by omega)
  have d2 := List.drop_eq_getElem_cons (l := l) (i := m + 2) (by omega)
  have d3 : l.drop (m + 2 + 1) = [] := List.drop_eq_nil_of_le (by omega)
  have g : ∀ i (hi : i < l.length), l.getD i 0 = l[i] := fun i hi => by simp [hi]
  rw [g m (by omega), g (m + 1) (by omega), g (m + 2) (by omega), ← d3, ← d2, ← d1, ← d0, List.take_append_drop]
/-- A row of bytes behind which the register isn't 0 is not opened. -/
theorem not_fits (l : List Nat) (m : Nat) (h : l.length = m + 3) (hl : ∀ c ∈ l, c < 256) (h0 : onN 11994318 l ≠ 0) :
    onN 11994318 (l.take m) ≠ l.getD m 0 * 65536 + l.getD (m + 1) 0 * 256 + l.getD (m + 2) 0 := by
  intro e
  apply h0
  have hb : ∀ i, i < l.length → l.getD i 0 < 256 := fun i hi => hl _ (by simp [hi])
  rw [split3 l m h, onN_append, e]
  exact onN_own _ _ _ (hb _ (by omega)) (hb _ (by omega)) (hb _ (by omega))

set_option maxHeartbeats 400000 in
theorem bursts_big (a0 : Option Addr) (len0 cap0 : Nat) (at1 t : Int) (w : World) (hl : 500 < len0) (hm : len0 ≤ 9223372036854775807) :
    Calls Try.prog 10 #[.slice a0 len0 cap0, .int .i64 at1, .int .u32 t] w fun e w' => e = .returned (.bool true) ∧ Below w.heap.size w w' := by
  go_enter Try.func10, Try.ntmps10
  go_wp2_with (go_at_call 32; refine (lives2 _).mono ?_; rintro e w' ⟨rfl, hb⟩)
  go_ret
  exact ⟨rfl, hb⟩
set_option maxHeartbeats 400000 in
theorem bursts_none (a0 : Option Addr) (len0 cap0 : Nat) (at1 : Int) (t : Nat) (w : World) (hl : len0 ≤ 500) (ht : t < 4294967296) (h0 : t % 16777216 = 0) :
    Calls Try.prog 10 #[.slice a0 len0 cap0, .int .i64 at1, .int .u32 (t : Int)] w fun e w' => e = .returned (.bool true) ∧ Below w.heap.size w w' := by
  have e : ((t : Int) % 16777216 == 0) = true := by simp; omega
  have hc : decide (500 < (len0 : Int)) = false := by simp; omega
  clear h0
  go_enter Try.func10, Try.ntmps10
  go_wp2_with (go_at_call 32; refine (lives2 _).mono ?_; rintro e w' ⟨rfl, hb⟩)
  go_ret
  exact ⟨rfl, hb⟩
set_option maxHeartbeats 400000 in
theorem bursts_out (v : Value) (bs : List Nat) (at1 : Int) (t : Nat) (w : World) (hb : RB w v bs) (hl : bs.length ≤ 500) (ht : t < 4294967296) (h0 : t % 16777216 ≠ 0) (ho : at1 < 0 ∨ 8 * (bs.length : Int) < at1) :
    Calls Try.prog 10 #[v, .int .i64 at1, .int .u32 (t : Int)] w fun e w' => e = .returned (.bool true) ∧ Below w.heap.size w w' := by
  have e : ((t : Int) % 16777216 == 0) = false := by simp; omega
  obtain ⟨a, cap, rfl, _, _⟩ := hb.shape
  obtain ⟨n, hn⟩ : ∃ n, bs.length = n := ⟨_, rfl⟩
  have HB := Lib.hid hb
  have HN := Lib.hid hn
  rw [hn] at hl ho ⊢
  have hc : decide (500 < (n : Int)) = false := by simp; omega
  clear hb hn h0
  rcases ho with ho | ho
  · go_enter Try.func10, Try.ntmps10
    go_wp2_with (first
      | (go_at_call 38; refine (seal_any _ _ _ (by rw [← HN.out]; exact HB.out) (by have := HN.out; omega)).mono ?_; rintro e w2 ⟨s, rfl, ho2, hb2⟩)
      | (go_at_call 32; refine (lives2 _).mono ?_; rintro e w' ⟨rfl, hl⟩))
    go_ret
    exact ⟨rfl, hb2.trans (hl.mono hb2.size)⟩
  · have h1 : decide (at1 < 0) = false := by simp; omega
    go_enter Try.func10, Try.ntmps10
    go_wp2_with (first
      | (go_at_call 38; refine (seal_any _ bs _ (by have := HB.out; rw [HN.out] at this; exact this) (by have := HN.out; omega)).mono ?_; rintro e w2 ⟨s, rfl, ho2, hb2⟩; obtain ⟨sa, sc, rfl⟩ := (ho2.rb (top_lt HB.out.1) (by have := HN.out; rw [top_len]; omega)).shapeN ((top_len bs).trans (by rw [HN.out])))
      | (go_at_call 32; refine (lives2 _).mono ?_; rintro e w' ⟨rfl, hl⟩))
    go_ret
    exact ⟨rfl, hb2.trans (hl.mono hb2.size)⟩
end Go.Proofs.Ytkeloeppploiaaa
