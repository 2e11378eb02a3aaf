/- Segments: which entries are sound, both ways; what is read of a frame. -/
import Derived.Test.YthefnakbpalecaaSgZ
import Derived.Test.YthefnakbpalecaaVyB
import Derived.Deep.DeepCutAuto
namespace Go.Proofs.Ythefnakbpalecaa
open Go.RowKit
def sdE (t : Nat) (k : Int) (n : Nat) : Bool := decide (1 ≤ t) && (decide (t ≤ 1152921504606846976) && (decide (1 ≤ k) && (decide (k ≤ 3) && decide (n ≤ 4096))))
set_option maxRecDepth 100000 in
theorem ssound_any (t : Nat) (k : Int) (a : Option Addr) (n c : Nat) (w : World) : Calls Try.prog 21 #[.agg #[.int .u64 (t : Int), .int .i64 k, .slice a n c]] w fun e w' => e = .returned (.bool (sdE t k n)) ∧ Below w.heap.size w w' := by
  obtain ⟨B1, so, -⟩ := box1 w #[.int .u64 (t : Int), .int .i64 k, .slice a n c] 31
  obtain ⟨N, hN⟩ : ∃ N, w.heap.size = N := ⟨_, rfl⟩
  rw [hN] at so
  have HB := Lib.hid B1
  have HS := Lib.hid so
  clear B1 so
  go_enter Try.func21, Try.ntmps21
  go_upto_region 1 with fail
  try rw [hN]
  clear hN
  generalize w.alloc (.cells #[.int .u64 (t : Int), .int .i64 k, .slice a n c] 31) = w1 at HB HS ⊢
  obtain ⟨c0, c1, c2⟩ := three_rd HS.out
  by_cases h0 : 1 ≤ t
  · have g00 : decide ((t : Int) ≥ 1) = true := decide_eq_true (by omega)
    have g01 : decide (1 ≤ (t : Int)) = true := decide_eq_true (by omega)
    have g02 : decide (1 ≤ t) = true := decide_eq_true (by omega)
    have g03 : decide (0 < t) = true := decide_eq_true (by omega)
    by_cases h1 : t ≤ 1152921504606846976
    · have g10 : decide ((t : Int) ≤ 1152921504606846976) = true := decide_eq_true (by omega)
      have g11 : decide (t ≤ 1152921504606846976) = true := decide_eq_true (by omega)
      by_cases h2 : 1 ≤ k
      · have g20 : decide (k ≥ 1) = true := decide_eq_true (by omega)
        have g21 : decide (1 ≤ k) = true := decide_eq_true (by omega)
        by_cases h3 : k ≤ 3
        · have g30 : decide (k ≤ 3) = true := decide_eq_true (by omega)
          by_cases h4 : n ≤ 4096
          · have g40 : decide ((n : Int) ≤ 4096) = true := decide_eq_true (by omega)
            have g41 : decide (n ≤ 4096) = true := decide_eq_true (by omega)
            have HV : Hid (sdE t k n = true) := Lib.hid (by unfold sdE; simp; omega)
            go_wp2_with fail
            go_ret
            exact ⟨by rw [HV.out]; rfl, HB.out⟩
          · have g40 : decide ((n : Int) ≤ 4096) = false := decide_eq_false (by omega)
            have g41 : decide (n ≤ 4096) = false := decide_eq_false (by omega)
            have HV : Hid (sdE t k n = false) := Lib.hid (by unfold sdE; simp; omega)
            go_wp2_with fail
            go_ret
            exact ⟨by rw [HV.out]; rfl, HB.out⟩
        · have g30 : decide (k ≤ 3) = false := decide_eq_false (by omega)
          have HV : Hid (sdE t k n = false) := Lib.hid (by unfold sdE; simp; omega)
          go_wp2_with fail
          go_ret
          exact ⟨by rw [HV.out]; rfl, HB.out⟩
      · have g20 : decide (k ≥ 1) = false := decide_eq_false (by omega)
        have g21 : decide (1 ≤ k) = false := decide_eq_false (by omega)
        have HV : Hid (sdE t k n = false) := Lib.hid (by unfold sdE; simp; omega)
        go_wp2_with fail
        go_ret
        exact ⟨by rw [HV.out]; rfl, HB.out⟩
    · have g10 : decide ((t : Int) ≤ 1152921504606846976) = false := decide_eq_false (by omega)
      have g11 : decide (t ≤ 1152921504606846976) = false := decide_eq_false (by omega)
      have HV : Hid (sdE t k n = false) := Lib.hid (by unfold sdE; simp; omega)
      go_wp2_with fail
      go_ret
      exact ⟨by rw [HV.out]; rfl, HB.out⟩
  · have g00 : decide ((t : Int) ≥ 1) = false := decide_eq_false (by omega)
    have g01 : decide (1 ≤ (t : Int)) = false := decide_eq_false (by omega)
    have g02 : decide (1 ≤ t) = false := decide_eq_false (by omega)
    have g03 : decide (0 < t) = false := decide_eq_false (by omega)
    have HV : Hid (sdE t k n = false) := Lib.hid (by unfold sdE; simp; omega)
    go_wp2_with fail
    go_ret
    exact ⟨by rw [HV.out]; rfl, HB.out⟩
set_option maxRecDepth 100000 in
theorem rssound_any (t : Nat) (k : Int) (a : Option Addr) (n c : Nat) (w : World) : Calls Try.prog 22 #[.agg #[.int .u64 (t : Int), .int .i64 k, .slice a n c]] w fun e w' => e = .returned (.bool (sdE t k n)) ∧ Below w.heap.size w w' := by
  obtain ⟨B1, so, -⟩ := box1 w #[.int .u64 (t : Int), .int .i64 k, .slice a n c] 31
  obtain ⟨N, hN⟩ : ∃ N, w.heap.size = N := ⟨_, rfl⟩
  rw [hN] at so
  have HB := Lib.hid B1
  have HS := Lib.hid so
  clear B1 so
  go_enter Try.func22, Try.ntmps22
  go_upto_region 1 with fail
  try rw [hN]
  clear hN
  generalize w.alloc (.cells #[.int .u64 (t : Int), .int .i64 k, .slice a n c] 31) = w1 at HB HS ⊢
  obtain ⟨c0, c1, c2⟩ := three_rd HS.out
  by_cases h0 : 1 ≤ t
  · have g00 : decide ((t : Int) ≥ 1) = true := decide_eq_true (by omega)
    have g01 : decide (1 ≤ (t : Int)) = true := decide_eq_true (by omega)
    have g02 : decide (1 ≤ t) = true := decide_eq_true (by omega)
    have g03 : decide (0 < t) = true := decide_eq_true (by omega)
    by_cases h1 : t ≤ 1152921504606846976
    · have g10 : decide ((t : Int) ≤ 1152921504606846976) = true := decide_eq_true (by omega)
      have g11 : decide (t ≤ 1152921504606846976) = true := decide_eq_true (by omega)
      by_cases h2 : 1 ≤ k
      · have g20 : decide (k ≥ 1) = true := decide_eq_true (by omega)
        have g21 : decide (1 ≤ k) = true := decide_eq_true (by omega)
        by_cases h3 : k ≤ 3
        · have g30 : decide (k ≤ 3) = true := decide_eq_true (by omega)
          by_cases h4 : n ≤ 4096
          · have g40 : decide ((n : Int) ≤ 4096) = true := decide_eq_true (by omega)
            have g41 : decide (n ≤ 4096) = true := decide_eq_true (by omega)
            have HV : Hid (sdE t k n = true) := Lib.hid (by unfold sdE; simp; omega)
            go_wp2_with fail
            go_ret
            exact ⟨by rw [HV.out]; rfl, HB.out⟩
          · have g40 : decide ((n : Int) ≤ 4096) = false := decide_eq_false (by omega)
            have g41 : decide (n ≤ 4096) = false := decide_eq_false (by omega)
            have HV : Hid (sdE t k n = false) := Lib.hid (by unfold sdE; simp; omega)
            go_wp2_with fail
            go_ret
            exact ⟨by rw [HV.out]; rfl, HB.out⟩
        · have g30 : decide (k ≤ 3) = false := decide_eq_false (by omega)
          have HV : Hid (sdE t k n = false) := Lib.hid (by unfold sdE; simp; omega)
          go_wp2_with fail
          go_ret
          exact ⟨by rw [HV.out]; rfl, HB.out⟩
      · have g20 : decide (k ≥ 1) = false := decide_eq_false (by omega)
        have g21 : decide (1 ≤ k) = false := decide_eq_false (by omega)
        have HV : Hid (sdE t k n = false) := Lib.hid (by unfold sdE; simp; omega)
        go_wp2_with fail
        go_ret
        exact ⟨by rw [HV.out]; rfl, HB.out⟩
    · have g10 : decide ((t : Int) ≤ 1152921504606846976) = false := decide_eq_false (by omega)
      have g11 : decide (t ≤ 1152921504606846976) = false := decide_eq_false (by omega)
      have HV : Hid (sdE t k n = false) := Lib.hid (by unfold sdE; simp; omega)
      go_wp2_with fail
      go_ret
      exact ⟨by rw [HV.out]; rfl, HB.out⟩
  · have g00 : decide ((t : Int) ≥ 1) = false := decide_eq_false (by omega)
    have g01 : decide (1 ≤ (t : Int)) = false := decide_eq_false (by omega)
    have g02 : decide (1 ≤ t) = false := decide_eq_false (by omega)
    have g03 : decide (0 < t) = false := decide_eq_false (by omega)
    have HV : Hid (sdE t k n = false) := Lib.hid (by unfold sdE; simp; omega)
    go_wp2_with fail
    go_ret
    exact ⟨by rw [HV.out]; rfl, HB.out⟩

/-- A text as it is read: what it is, what is left, whether that is bad. -/
def tN (most : Int) (ds : List Nat) : List Nat := match rText most ds with | some (x, _) => x | none => []
def tR (most : Int) (ds : List Nat) : List Nat := match rText most ds with | some (_, r) => r | none => []
def tB (most : Int) (ds : List Nat) : Bool := match rText most ds with | some _ => false | none => true
theorem text_rd1 (b : Nat) (n : Int) (ds : List Nat) (bad : Bool) (w : World) (hr : RR w b ds bad) (h63 : n ≤ 9223372036854775807) :
    Calls Try.prog 101 #[.pointer (some ⟨b, 0, none⟩), .int .i64 n] w fun e w' => e = .returned (.string (str (tN n ds))) ∧ RR w' b (tR n ds) (tB n ds) ∧ Rd b w w' := by
  refine (text_rd b n ds bad w hr h63).mono fun e w' h => ?_
  unfold tN tR tB
  cases hq : rText n ds with
  | none =>
    obtain ⟨h1, h2, h3⟩ := h.1 (by rw [hq]; rfl)
    exact ⟨h1, h2, h3⟩
  | some p => exact h.2 _ _ (by rw [hq]; rfl)
/-- The head of a segment. -/
def hdOk (kd : Nat) (body : List Nat) : Bool := decide (kd = 1) && (decide (nN 1152921504606846976 body ≠ 0) && (!(nB 1152921504606846976 body) && decide (nR 1152921504606846976 body = [])))
structure Ent where
  (t : Nat)
  (k : Int)
  (d : List Nat)
def en1 (body : List Nat) : List Nat := nR 18446744073709551615 body
def en2 (body : List Nat) : List Nat := nR 1152921504606846976 (en1 body)
def en3 (body : List Nat) : List Nat := nR 3 (en2 body)
def entOf (body : List Nat) : Ent := ⟨nN 1152921504606846976 (en1 body), (nN 3 (en2 body) : Int), tN 4096 (en3 body)⟩
def lnOk (kd : Nat) (body : List Nat) (idx : Nat) : Bool := decide (kd = 2) && (decide (nN 18446744073709551615 body = idx) && ((!(tB 4096 (en3 body)) && decide (tR 4096 (en3 body) = [])) && sdE (entOf body).t (entOf body).k (entOf body).d.length))
end Go.Proofs.Ythefnakbpalecaa
