/- Has of a row of spans. -/
import Derived.Test.YtfeegohjgecjgaaSpF
namespace Go.Proofs.Ytfeegohjgecjgaa
open Go.RowKit

def inB (f t m : Int) : Bool := decide (f ≤ m) && decide (m < t)
def hasB (F T : Nat → Int) (m : Int) : Nat → Bool
  | 0 => false
  | k + 1 => hasB F T m k || inB (F k) (T k) m
theorem hasB_iff {F T : Nat → Int} {m : Int} : ∀ n, hasB F T m n = true ↔ ∃ k, k < n ∧ F k ≤ m ∧ m < T k := by
  intro n
  induction n with
  | zero => simp [hasB]
  | succ n ih =>
    simp only [hasB, Bool.or_eq_true, ih, inB, Bool.and_eq_true, decide_eq_true_eq]
    constructor
    · rintro (⟨k, hk, h⟩ | h)
      · exact ⟨k, by omega, h⟩
      · exact ⟨n, by omega, h⟩
    · rintro ⟨k, hk, h⟩
      by_cases e : k = n
      · subst e; exact .inr h
      · exact .inl ⟨k, by omega, h⟩
/-- The function that Has hands on. -/
theorem in_any (f t m : Int) (p : Nat) (w : World) (hp : w.cell? ⟨p, 0, none⟩ = some (.int .i64 m)) (hlt : p < w.heap.size) :
    Calls Try.prog 90 #[.agg #[.int .i64 f, .int .i64 t], .pointer (some ⟨p, 0, none⟩)] w fun e w' => e = .returned (.bool (inB f t m)) ∧ Below w.heap.size w w' := by
  obtain ⟨c1, d1⟩ : ∃ c, decide (f ≤ m) = c := ⟨_, rfl⟩
  obtain ⟨c2, d2⟩ : ∃ c, decide (m < t) = c := ⟨_, rfl⟩
  have e : inB f t m = (c1 && c2) := by rw [← d1, ← d2]; rfl
  rw [e]
  clear e
  have hp' : (w.alloc (.cells #[.int .i64 f, .int .i64 t] 30)).cell? ⟨p, 0, none⟩ = some (.int .i64 m) := by rw [World.cell?_alloc_past _ _ _ hlt]; exact hp
  cases c1 <;> cases c2
  all_goals
    go_enter Try.func90, Try.ntmps90
    go_wp2
    go_ret
    exact ⟨rfl, (Below.refl _ _).alloc (Nat.le_refl _) _⟩
def Idx (b : Bool) (w : World) (e : Ending) (w' : World) : Prop := ∃ r : Int, e = .returned (.int .i64 r) ∧ decide (0 ≤ r) = b ∧ Below w.heap.size w w'
set_option maxRecDepth 100000 in
set_option maxHeartbeats 4000000 in
theorem index_any (a : Option Addr) (n cap : Nat) (F T : Nat → Int) (m : Int) (p : Nat) (w : World) (hS : Sps w a n F T) (hp : w.cell? ⟨p, 0, none⟩ = some (.int .i64 m)) (hlp : p < w.heap.size) :
    Calls Try.prog 98 #[.slice a n cap, .func (.func 90) #[] #[.pointer (some ⟨p, 0, none⟩)]] w (Idx (hasB F T m n) w) := by
  have hm := hS.1
  unfold maxLen at hm
  have HC := Lib.hid hS
  have HP := Lib.hid hp
  clear hS hp
  go_enter Try.func98, Try.ntmps98
  go_wp2_with fail
  go_loopw [8] (fun i wr => ∃ k : Nat, k ≤ n ∧ i = .int .i64 k ∧ hasB F T m k = false ∧ Below w.heap.size w wr) (fun i _ => n - (intOf i).toNat)
  case atStart => exact ⟨0, Nat.zero_le _, rfl, rfl, Below.refl _ _⟩
  case round =>
    obtain ⟨k, hk, rfl, hh, hB⟩ := hrel
    by_cases hlt : k < n
    · obtain ⟨ab, ao, rfl, hab, c0, c1, b0, b1, b2, b3⟩ := HC.out.at hB k hlt
      have HB := Lib.hid hB
      have HS := Lib.hid hB.size
      have hq : wr.cell? ⟨p, 0, none⟩ = some (.int .i64 m) := (hB.cell (p := ⟨p, 0, none⟩) hlp).trans HP.out
      have hlq : p < wr.heap.size := Nat.lt_of_lt_of_le hlp hB.size
      have HW := Lib.hid (show hasB F T m (k + 1) = inB (F k) (T k) m by simp [hasB, hh])
      obtain ⟨f, e0⟩ : ∃ x, F k = x := ⟨_, rfl⟩
      obtain ⟨t, e1⟩ : ∃ x, T k = x := ⟨_, rfl⟩
      rw [e0] at c0 b0 b1 HW
      rw [e1] at c1 b2 b3 HW
      have HI := Lib.hid (in_any f t m p wr hq hlq)
      clear hB e0 e1 hh hq
      have k0 : (0 : Int) ≤ (k : Int) := by omega
      have kl : (k : Int) < (n : Int) := by omega
      have d4 : decide ((k : Int) < (n : Int)) = true := by simp [hlt]
      obtain ⟨c, hc⟩ : ∃ c, inB f t m = c := ⟨_, rfl⟩
      rw [hc] at HW HI
      clear hc
      cases c
      · go_wp2_with fail
        refine HI.out.mono ?_
        rintro e w1 ⟨rfl, hb1⟩
        go_wp2_with fail
        go_roundw
        case rel => exact ⟨k + 1, hlt, by go_num, HW.out, HB.out.trans (hb1.mono HS.out)⟩
        case measure => simp [intOf]; omega
      · go_wp2_with fail
        refine HI.out.mono ?_
        rintro e w1 ⟨rfl, hb1⟩
        go_wp2_with fail
        go_ret
        exact ⟨_, rfl, by rw [(hasB_iff n).2 (by obtain ⟨j, hj, h⟩ := (hasB_iff _).1 HW.out; exact ⟨j, by omega, h⟩)]; exact decide_eq_true k0, HB.out.trans (hb1.mono HS.out)⟩
    · obtain rfl : k = n := by omega
      have HB := Lib.hid hB
      have HH := Lib.hid hh
      clear hB hh
      go_wp2_with fail
      go_ret
      exact ⟨_, rfl, by rw [HH.out]; rfl, HB.out⟩
theorem has_ok (a : Option Addr) (n cap : Nat) (F T : Nat → Int) (m : Int) (w : World) (hS : Sps w a n F T) (hn : n ≤ 32) (hg : good F T n = true) :
    Calls Try.prog 81 #[.slice a n cap, .int .i64 m] w fun e w' => e = .returned (.bool (hasB F T m n)) ∧ Below w.heap.size w w' := by
  have B0 : Below w.heap.size w (w.alloc (.cells #[.int .i64 m] 2)) := (Below.refl _ _).alloc (Nat.le_refl _) _
  have hr := row_any a n cap F T (w.alloc (.cells #[.int .i64 m] 2)) (hS.kept B0)
  rw [rowE_ok hn hg] at hr
  have HI := Lib.hid (fun w1 (hb : Below (w.alloc (.cells #[.int .i64 m] 2)).heap.size (w.alloc (.cells #[.int .i64 m] 2)) w1) => index_any a n cap F T m w.heap.size w1 ((hS.kept B0).kept hb) ((hb.cell (p := ⟨w.heap.size, 0, none⟩) (by simp)).trans (by simp)) (Nat.lt_of_lt_of_le (by simp) hb.size))
  have HB := Lib.hid B0
  clear hS hg B0
  generalize hasB F T m n = c at HI ⊢
  go_enter Try.func81, Try.ntmps81
  go_wp2_with fail
  refine hr.mono ?_
  rintro e w0 ⟨rfl, hb0⟩
  clear hr
  go_wp2_with fail
  have hx : Calls Try.prog 89 #[.slice a n cap, .func (.func 90) #[] #[.pointer (some ⟨w.heap.size, 0, none⟩)]] w0 fun e w' => e = .returned (.bool c) ∧ Below w0.heap.size w0 w' := by
    have h := HI.out w0 hb0
    clear HI HB
    go_enter Try.func89, Try.ntmps89
    go_wp2_with fail
    refine h.mono ?_
    rintro e w1 ⟨r, rfl, hd, hb1⟩
    go_wp2_with fail
    go_ret
    exact ⟨rfl, hb1⟩
  refine hx.mono ?_
  rintro e w1 ⟨rfl, hb1⟩
  go_wp2_with fail
  go_ret
  exact ⟨rfl, (HB.out.trans (hb0.mono HB.out.size)).trans (hb1.mono (HB.out.trans (hb0.mono HB.out.size)).size)⟩
end Go.Proofs.Ytfeegohjgecjgaa
