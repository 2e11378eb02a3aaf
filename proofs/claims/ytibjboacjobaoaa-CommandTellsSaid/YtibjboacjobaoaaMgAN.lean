import Derived.Test.YtibjboacjobaoaaMgAM
import Derived.Test.YtibjboacjobaoaaMgAD
import Derived.Lib.Hide
import Derived.IntWalk
namespace Go.Proofs.Ytibjboacjobaoaa
open Go.RowKit
/- Two calendars compared, both ways. -/
open Go.RowKit
theorem tri_at {w : World} {N : Nat} {x y z : Value} {t : TypeId} (h : w.heap[N]? = some (.cells #[x, y, z] t (0, 0))) : w.cell? ⟨N, 0, none⟩ = some x ∧ w.cell? ⟨N, 1, none⟩ = some y ∧ w.cell? ⟨N, 2, none⟩ = some z := by
  simp [World.cell?, h]
def calEq (off off' : Int) (F T F' T' : Nat → Int) (n n' : Nat) (G U G' U' : Nat → Int) (m m' : Nat) : Bool := decide (off = off') && (sameL F T F' T' n n' && sameL G U G' U' m m')
theorem sameB_self (F T : Nat → Int) : ∀ n, sameB F T F T n = true
  | 0 => rfl
  | n + 1 => by simp [sameB, sameB_self F T n]
theorem sameL_refl (F T : Nat → Int) (n : Nat) : sameL F T F T n n = true := by simp [sameL, sameB_self]
theorem sameL_of {F T F' T' : Nat → Int} {n : Nat} (h : ∀ k, k < n → F k = F' k ∧ T k = T' k) : sameL F T F' T' n n = true := by
  unfold sameL
  rw [sameB_iff.2 h]
  simp
theorem calEq_refl (off : Int) (F T : Nat → Int) (n : Nat) (G U : Nat → Int) (m : Nat) : calEq off off F T F T n n G U G U m m = true := by
  unfold calEq
  rw [sameL_refl, sameL_refl]
  simp
set_option maxRecDepth 100000 in
set_option maxHeartbeats 4000000 in
theorem csame_any (off off' : Int) (a : Option Addr) (n ca : Nat) (b : Option Addr) (m cb : Nat) (F T G U : Nat → Int) (a' : Option Addr) (n' ca' : Nat) (b' : Option Addr) (m' cb' : Nat) (F' T' G' U' : Nat → Int) (w : World) (hS : Sps w a n F T) (hR : Sps w b m G U) (hS' : Sps w a' n' F' T') (hR' : Sps w b' m' G' U') :
    Calls Try.prog 58 #[calV off a n ca b m cb, calV off' a' n' ca' b' m' cb'] w fun e w' => e = .returned (.bool (calEq off off' F T F' T' n n' G U G' U' m m')) ∧ Below w.heap.size w w' := by
  have HA := Lib.hid (fun W (hb : Below w.heap.size w W) => And.intro (same_any a a' n ca n' ca' F T F' T' W (hS.kept hb) (hS'.kept hb)) (same_any b b' m cb m' cb' G U G' U' W (hR.kept hb) (hR'.kept hb)))
  have HX : Hid (calEq off off' F T F' T' n n' G U G' U' m m' = (decide (off = off') && (sameL F T F' T' n n' && sameL G U G' U' m m'))) := Lib.hid rfl
  obtain ⟨ok, hok⟩ : ∃ x, calEq off off' F T F' T' n n' G U G' U' m m' = x := ⟨_, rfl⟩
  obtain ⟨e1, he1⟩ : ∃ x, sameL F T F' T' n n' = x := ⟨_, rfl⟩
  obtain ⟨e2, he2⟩ : ∃ x, sameL G U G' U' m m' = x := ⟨_, rfl⟩
  rw [hok, he1, he2] at HX
  rw [he1, he2] at HA
  rw [hok]
  obtain ⟨B2, s0, s1, sz⟩ := box2 w #[.int .i64 off, .slice a n ca, .slice b m cb] #[.int .i64 off', .slice a' n' ca', .slice b' m' cb'] 25 25
  obtain ⟨q0, q1, q2⟩ := tri_at s0
  obtain ⟨r0, r1, r2⟩ := tri_at s1
  have HB := Lib.hid B2
  clear hS hR hS' hR' hok he1 he2 s0 s1 sz B2
  unfold calV
  by_cases hof : off = off'
  · subst hof
    have hs1 := (HA.out _ HB.out).1
    go_enter Try.func58, Try.ntmps58
    go_wp2_with fail
    generalize ((w.alloc (.cells #[.int .i64 off, .slice a n ca, .slice b m cb] 25)).alloc (.cells #[.int .i64 off, .slice a' n' ca', .slice b' m' cb'] 25)) = W at hs1 q0 q1 q2 r0 r1 r2 HB ⊢
    refine hs1.mono ?_
    rintro e w3 ⟨rfl, q, rfl⟩
    have HB1 := Lib.hid (below_drewN' HB.out q)
    have q2' : (W.drewN q).cell? ⟨w.heap.size, 2, none⟩ = some (.slice b m cb) := q2
    have r2' : (W.drewN q).cell? ⟨w.heap.size + 1, 2, none⟩ = some (.slice b' m' cb') := r2
    have hs2 := (HA.out _ HB1.out).2
    clear q0 q1 q2 r0 r1 r2 hs1
    generalize W.drewN q = W3 at *
    cases e1
    · go_wp2_with fail
      go_ret
      exact ⟨by rw [HX.out]; simp, HB1.out⟩
    · go_wp2_with fail
      refine hs2.mono ?_
      rintro e w4 ⟨rfl, q, rfl⟩
      have HB2 := Lib.hid (below_drewN' HB1.out q)
      clear hs2
      go_wp2_with fail
      go_ret
      exact ⟨by rw [HX.out]; simp, HB2.out⟩
  · have hof2 : decide (off = off') = false := decide_eq_false hof
    go_enter Try.func58, Try.ntmps58
    go_wp2_with fail
    go_ret
    exact ⟨by rw [HX.out]; simp [hof], HB.out⟩
set_option maxRecDepth 100000 in
set_option maxHeartbeats 4000000 in
theorem rsame10_any (off off' : Int) (a : Option Addr) (n ca : Nat) (b : Option Addr) (m cb : Nat) (F T G U : Nat → Int) (a' : Option Addr) (n' ca' : Nat) (b' : Option Addr) (m' cb' : Nat) (F' T' G' U' : Nat → Int) (w : World) (hS : Sps w a n F T) (hR : Sps w b m G U) (hS' : Sps w a' n' F' T') (hR' : Sps w b' m' G' U') :
    Calls Try.prog 60 #[calV off a n ca b m cb, calV off' a' n' ca' b' m' cb'] w fun e w' => e = .returned (.bool (calEq off off' F T F' T' n n' G U G' U' m m')) ∧ Below w.heap.size w w' := by
  have HA := Lib.hid (fun W (hb : Below w.heap.size w W) => And.intro (rsame_any a a' n ca n' ca' F T F' T' W (hS.kept hb) (hS'.kept hb)) (rsame_any b b' m cb m' cb' G U G' U' W (hR.kept hb) (hR'.kept hb)))
  have HX : Hid (calEq off off' F T F' T' n n' G U G' U' m m' = (decide (off = off') && (sameL F T F' T' n n' && sameL G U G' U' m m'))) := Lib.hid rfl
  obtain ⟨ok, hok⟩ : ∃ x, calEq off off' F T F' T' n n' G U G' U' m m' = x := ⟨_, rfl⟩
  obtain ⟨e1, he1⟩ : ∃ x, sameL F T F' T' n n' = x := ⟨_, rfl⟩
  obtain ⟨e2, he2⟩ : ∃ x, sameL G U G' U' m m' = x := ⟨_, rfl⟩
  rw [hok, he1, he2] at HX
  rw [he1, he2] at HA
  rw [hok]
  obtain ⟨B2, s0, s1, sz⟩ := box2 w #[.int .i64 off, .slice a n ca, .slice b m cb] #[.int .i64 off', .slice a' n' ca', .slice b' m' cb'] 25 25
  obtain ⟨q0, q1, q2⟩ := tri_at s0
  obtain ⟨r0, r1, r2⟩ := tri_at s1
  have HB := Lib.hid B2
  clear hS hR hS' hR' hok he1 he2 s0 s1 sz B2
  unfold calV
  by_cases hof : off = off'
  · subst hof
    have hs1 := (HA.out _ HB.out).1
    go_enter Try.func60, Try.ntmps60
    go_wp2_with fail
    generalize ((w.alloc (.cells #[.int .i64 off, .slice a n ca, .slice b m cb] 25)).alloc (.cells #[.int .i64 off, .slice a' n' ca', .slice b' m' cb'] 25)) = W at hs1 q0 q1 q2 r0 r1 r2 HB ⊢
    refine hs1.mono ?_
    rintro e w3 ⟨rfl, q, rfl⟩
    have HB1 := Lib.hid (below_drewN' HB.out q)
    have q2' : (W.drewN q).cell? ⟨w.heap.size, 2, none⟩ = some (.slice b m cb) := q2
    have r2' : (W.drewN q).cell? ⟨w.heap.size + 1, 2, none⟩ = some (.slice b' m' cb') := r2
    have hs2 := (HA.out _ HB1.out).2
    clear q0 q1 q2 r0 r1 r2 hs1
    generalize W.drewN q = W3 at *
    cases e1
    · go_wp2_with fail
      go_ret
      exact ⟨by rw [HX.out]; simp, HB1.out⟩
    · go_wp2_with fail
      refine hs2.mono ?_
      rintro e w4 ⟨rfl, q, rfl⟩
      have HB2 := Lib.hid (below_drewN' HB1.out q)
      clear hs2
      go_wp2_with fail
      go_ret
      exact ⟨by rw [HX.out]; simp, HB2.out⟩
  · have hof2 : decide (off = off') = false := decide_eq_false hof
    go_enter Try.func60, Try.ntmps60
    go_wp2_with fail
    go_ret
    exact ⟨by rw [HX.out]; simp [hof], HB.out⟩
/- Contracts: how one is handed on, and whether one may be. -/
open Go.RowKit

/-- A contract as it is handed on. -/
def conV (c : Int) (a : Option Addr) (n ca : Nat) (r b : Int) : Value := .agg #[.int .i64 c, .slice a n ca, .int .i64 r, .int .i64 b]
def rngB (n l m : Int) : Bool := decide (l ≤ n) && decide (n ≤ m)
theorem rngB_iff {n l m : Int} : rngB n l m = true ↔ l ≤ n ∧ n ≤ m := by simp [rngB]
def lv1 (b p : Int) : Bool := rngB b 1 1125899906842624 && rngB p 0 7
def lvs (B P : Nat → Int) : Nat → Bool
  | 0 => true
  | k + 1 => lvs B P k && lv1 (B k) (P k)
theorem lvs_le {B P : Nat → Int} {n : Nat} : ∀ {k}, lvs B P n = true → k ≤ n → lvs B P k = true := by
  induction n with
  | zero => intro k h hk; obtain rfl : k = 0 := by omega
            exact h
  | succ n ih =>
    intro k h hk
    by_cases e : k = n + 1
    · subst e; exact h
    · simp only [lvs, Bool.and_eq_true] at h
      exact ih h.1 (by omega)
theorem lvs_at {B P : Nat → Int} {n k : Nat} (h : lvs B P n = true) (hk : k < n) : 1 ≤ B k ∧ B k ≤ 1125899906842624 ∧ 0 ≤ P k ∧ P k ≤ 7 := by
  have h1 := lvs_le h (show k + 1 ≤ n from hk)
  simp only [lvs, lv1, rngB, Bool.and_eq_true, decide_eq_true_eq] at h1
  omega
theorem lvs_bad {B P : Nat → Int} {n k : Nat} (h : lvs B P (k + 1) = false) (hk : k < n) : lvs B P n = false := by
  cases hg : lvs B P n with
  | false => rfl
  | true => rw [lvs_le hg hk] at h; cases h
/-- The head of a contract that may be: its numbers. -/
def headC (c : Int) (n : Nat) (r b : Int) : Bool := rngB c 0 7 && (rngB n 1 6 && (rngB r 1 8 && rngB b 1 1048576))
def goodC (c : Int) (n : Nat) (r b : Int) (B P : Nat → Int) : Bool := headC c n r b && lvs B P n
theorem goodC_n {c : Int} {n : Nat} {r b : Int} {B P : Nat → Int} (h : goodC c n r b B P = true) : 0 ≤ c ∧ c ≤ 7 ∧ 1 ≤ n ∧ n ≤ 6 ∧ lvs B P n = true := by
  simp only [goodC, headC, Bool.and_eq_true, rngB_iff] at h
  obtain ⟨⟨h1, h2, _⟩, h3⟩ := h
  exact ⟨h1.1, h1.2, by omega, by omega, h3⟩

set_option maxRecDepth 100000 in
theorem within_i (n l m : Int) (x : Bool) (hx : rngB n l m = x) (w : World) : Calls Try.prog 110 #[.int .i64 n, .int .i64 l, .int .i64 m] w fun e w' => e = .returned (.bool x) ∧ w = w' := by
  subst hx
  unfold rngB
  obtain ⟨x1, h1⟩ : ∃ x, decide (l ≤ n) = x := ⟨_, rfl⟩
  rw [h1]
  cases x1
  all_goals
    go_enter Try.func110, Try.ntmps110
    go_wp2
    go_ret
    exact ⟨rfl, rfl⟩
set_option maxRecDepth 100000 in
theorem within_l (n l m : Int) (x : Bool) (hx : rngB n l m = x) (w : World) : Calls Try.prog 111 #[.int .i64 n, .int .i64 l, .int .i64 m] w fun e w' => e = .returned (.bool x) ∧ w = w' := by
  subst hx
  unfold rngB
  obtain ⟨x1, h1⟩ : ∃ x, decide (l ≤ n) = x := ⟨_, rfl⟩
  rw [h1]
  cases x1
  all_goals
    go_enter Try.func111, Try.ntmps111
    go_wp2
    go_ret
    exact ⟨rfl, rfl⟩

set_option maxRecDepth 100000 in
set_option maxHeartbeats 4000000 in
theorem check_head (c : Int) (a : Option Addr) (n ca : Nat) (r b : Int) (w : World) (hn : n ≤ maxLen) (h : headC c n r b = false) :
    Calls Try.prog 53 #[conV c a n ca r b] w fun e w' => e = .returned (.int .i64 2) ∧ Below w.heap.size w w' := by
  have B1 : Below w.heap.size w (w.alloc (.cells #[.int .i64 c, .slice a n ca, .int .i64 r, .int .i64 b] 28)) := (Below.refl _ _).alloc (Nat.le_refl _) _
  have HB := Lib.hid B1
  unfold headC at h
  unfold maxLen at hn
  obtain ⟨x1, h1⟩ : ∃ x, rngB c 0 7 = x := ⟨_, rfl⟩
  obtain ⟨x2, h2⟩ : ∃ x, rngB n 1 6 = x := ⟨_, rfl⟩
  obtain ⟨x3, h3⟩ : ∃ x, rngB r 1 8 = x := ⟨_, rfl⟩
  obtain ⟨x4, h4⟩ : ∃ x, rngB b 1 1048576 = x := ⟨_, rfl⟩
  rw [h1, h2, h3, h4] at h
  have H1 := Lib.hid (fun w => within_i c 0 7 x1 h1 w)
  have H2 := Lib.hid (fun w => within_i n 1 6 x2 h2 w)
  have H3 := Lib.hid (fun w => within_i r 1 8 x3 h3 w)
  have H4 := Lib.hid (fun w => within_l b 1 1048576 x4 h4 w)
  unfold conV
  clear B1 h1 h2 h3 h4
  cases x1
  · clear h
    go_enter Try.func53, Try.ntmps53
    go_wp2_with (go_at_call 110; (with_reducible refine (H1.out _).mono ?_); rintro e w' ⟨rfl, rfl⟩)
    go_ret
    exact ⟨rfl, HB.out⟩
  cases x2
  · clear h
    go_enter Try.func53, Try.ntmps53
    go_wp2_with (go_at_call 110; (first | (with_reducible refine (H1.out _).mono ?_) | (with_reducible refine (H2.out _).mono ?_)); rintro e w' ⟨rfl, rfl⟩)
    go_ret
    exact ⟨rfl, HB.out⟩
  cases x3
  · clear h
    go_enter Try.func53, Try.ntmps53
    go_wp2_with (go_at_call 110; (first | (with_reducible refine (H1.out _).mono ?_) | (with_reducible refine (H2.out _).mono ?_) | (with_reducible refine (H3.out _).mono ?_)); rintro e w' ⟨rfl, rfl⟩)
    go_ret
    exact ⟨rfl, HB.out⟩
  cases x4
  · clear h
    go_enter Try.func53, Try.ntmps53
    go_wp2_with (first
      | (go_at_call 110; (first | (with_reducible refine (H1.out _).mono ?_) | (with_reducible refine (H2.out _).mono ?_) | (with_reducible refine (H3.out _).mono ?_)); rintro e w' ⟨rfl, rfl⟩)
      | (go_at_call 111; (with_reducible refine (H4.out _).mono ?_); rintro e w' ⟨rfl, rfl⟩))
    go_ret
    exact ⟨rfl, HB.out⟩
  · cases h
end Go.Proofs.Ytibjboacjobaoaa
