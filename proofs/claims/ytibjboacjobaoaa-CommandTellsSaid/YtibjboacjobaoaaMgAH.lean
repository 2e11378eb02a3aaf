import Derived.Test.YtibjboacjobaoaaMgAG
import Derived.Test.YtibjboacjobaoaaMgAD
import Derived.Test.YtibjboacjobaoaaMgAC
namespace Go.Proofs.Ytibjboacjobaoaa
open Go.RowKit
/- The search for a span, and how many seconds of a week are open before its second t. -/
open Go.RowKit

/-- The first span that ends behind t. -/
def Found (T : Nat → Int) (n : Nat) (t : Int) (w : World) (e : Ending) (w' : World) : Prop :=
  ∃ i : Nat, e = .returned (.int .i64 i) ∧ i ≤ n ∧ (∀ j, j < i → T j ≤ t) ∧ (∀ j, i ≤ j → j < n → t < T j) ∧ ∃ q, w' = w.drewN q
theorem wsum_found {F T : Nat → Int} {n i : Nat} {t : Int} (hg : good F T n = true) (hlo : ∀ j, j < i → T j ≤ t) (hhi : ∀ j, i ≤ j → j < n → t < T j) : ∀ k, k ≤ n → wsum F T 0 t k = if k ≤ i then tsum F T k else tsum F T i + max 0 (t - F i) := by
  intro k
  induction k with
  | zero => intro _; rw [if_pos (Nat.zero_le _)]; rfl
  | succ k ih =>
    intro hk
    have h := ih (by omega)
    obtain ⟨g0, g1, g2, _⟩ := good_at hg (show k < n by omega)
    simp only [wsum, h]
    by_cases e1 : k + 1 ≤ i
    · rw [if_pos (by omega), if_pos e1, clip_before _ _ _ g0 g1 (hlo k (by omega))]
      simp only [tsum]
    · by_cases e2 : k = i
      · subst e2
        rw [if_pos (Nat.le_refl _), if_neg e1]
        have ht := hhi k (Nat.le_refl _) (by omega)
        by_cases h1 : F k ≤ t
        · rw [clip_within _ _ _ g0 h1 ht]; omega
        · rw [clip_behind _ _ _ g0 g1 (by omega)]; omega
      · rw [if_neg (by omega), if_neg e1]
        have := hhi i (Nat.le_refl _) (by omega)
        have := good_order hg k i (by omega) (by omega)
        rw [clip_behind _ _ _ g0 g1 (by omega)]
        omega

/- The plan's methods: Until, Between, Open, Row. -/
open Go.RowKit

/-- A row within a week. -/
structure Wk (F T : Nat → Int) (n : Nat) : Prop where
  len : n ≤ 32
  good : good F T n = true
  week : ∀ k, k < n → T k ≤ 604800
theorem tsum_end {F T : Nat → Int} {n : Nat} (hg : Go.Proofs.Ytibjboacjobaoaa.good F T n = true) : ∀ k, k ≤ n → tsum F T k ≤ endF T k := by
  intro k
  induction k with
  | zero => intro _; exact Int.le_refl _
  | succ k ih =>
    intro hk
    have h := ih (by omega)
    obtain ⟨g0, g1, g2, g3⟩ := good_at hg (show k < n by omega)
    have e : endF T (k + 1) = T k := rfl
    have e2 : endF T k ≤ F k := by
      cases k with
      | zero => exact g0
      | succ k =>
        have e3 : k + 1 - 1 = k := rfl
        rw [e3] at g3
        show T k ≤ _
        omega
    simp only [tsum]
    omega
theorem Wk.total {F T : Nat → Int} {n : Nat} (h : Wk F T n) : 0 ≤ tsum F T n ∧ tsum F T n ≤ 604800 := by
  refine ⟨(tsum_bounds h.good n (Nat.le_refl _)).1, ?_⟩
  have h1 := tsum_end h.good n (Nat.le_refl _)
  cases n with
  | zero => show (0 : Int) ≤ _; omega
  | succ n =>
    have h2 := h.week n (by omega)
    have e : endF T (n + 1) = T n := rfl
    omega
theorem wsum_le {F T : Nat → Int} {n : Nat} (t : Int) (hg : good F T n = true) : ∀ k, k ≤ n → 0 ≤ wsum F T 0 t k ∧ wsum F T 0 t k ≤ tsum F T k := by
  intro k
  induction k with
  | zero => intro _; exact ⟨Int.le_refl _, Int.le_refl _⟩
  | succ k ih =>
    intro hk
    obtain ⟨h1, h2⟩ := ih (by omega)
    obtain ⟨g0, g1, g2, _⟩ := good_at hg (show k < n by omega)
    have := clip_bounds (F k) (T k) 0 t g0 g1 g2
    simp only [wsum, tsum]
    omega
def cl (t : Int) : Int := min (max t 0) 2251799813685248
theorem cl_bounds (t : Int) : 0 ≤ cl t ∧ cl t ≤ 2251799813685248 := by unfold cl; omega
/-- How many open seconds there are before t. -/
def untilV (F T : Nat → Int) (n : Nat) (t : Int) : Int := cl t / 604800 * tsum F T n + wsum F T 0 (cl t % 604800) n
theorem until_bounds {F T : Nat → Int} {n : Nat} (h : Wk F T n) (t : Int) : 0 ≤ cl t / 604800 * tsum F T n ∧ cl t / 604800 * tsum F T n ≤ 2251800000000000 ∧ 0 ≤ untilV F T n t ∧ untilV F T n t ≤ 2251800000604800 := by
  obtain ⟨h1, h2⟩ := cl_bounds t
  obtain ⟨h3, h4⟩ := h.total
  obtain ⟨h5, h6⟩ := wsum_le (cl t % 604800) h.good n (Nat.le_refl _)
  have q0 : 0 ≤ cl t / 604800 := by omega
  have q1 : cl t / 604800 ≤ 3723213977 := by omega
  have m0 : 0 ≤ cl t / 604800 * tsum F T n := Int.mul_nonneg q0 h3
  have m1 : cl t / 604800 * tsum F T n ≤ 3723213977 * 604800 := Int.mul_le_mul q1 h4 h3 (by omega)
  unfold untilV
  omega

def betweenV (F T : Nat → Int) (n : Nat) (x y : Int) : Int := max 0 (untilV F T n y - untilV F T n x)
/-- Whether a second is open. -/
def openB (F T : Nat → Int) (n : Nat) (t : Int) : Bool := decide (0 ≤ t) && (decide (t ≤ 2251799813685248) && hasB F T (t % 604800) n)
/-- The plan's row, copied. -/
def RowOf (base P C : Nat) (a : Option Addr) (n c : Nat) (F T : Nat → Int) (w : World) (e : Ending) (w' : World) : Prop := ∃ v, e = .returned v ∧ OS w' w.heap.size v (pairs F T n) ∧ Pl base P C a n c F T w' ∧ Below w.heap.size w w'
/- The plan's Nth; New. -/
open Go.RowKit

/-- Nth's answer: the second, and an error's number. -/
def pnV (F T : Nat → Int) (n : Nat) (m : Int) : Int :=
  if m < 0 then 0 else if tsum F T n = 0 then 0 else if 3723213977 < m / tsum F T n then 0 else
    if 2251799813685248 < m / tsum F T n * 604800 + nthV F T n (m % tsum F T n) then 0 else m / tsum F T n * 604800 + nthV F T n (m % tsum F T n)
def pnE (F T : Nat → Int) (n : Nat) (m : Int) : Int :=
  if m < 0 then 2 else if tsum F T n = 0 then 40 else if 3723213977 < m / tsum F T n then 10 else
    if 2251799813685248 < m / tsum F T n * 604800 + nthV F T n (m % tsum F T n) then 10 else 0
theorem pn_neg {F T : Nat → Int} {n : Nat} {m : Int} (h : m < 0) : pnV F T n m = 0 ∧ pnE F T n m = 2 := by simp [pnV, pnE, h]
theorem pn_closed {F T : Nat → Int} {n : Nat} {m : Int} (h : 0 ≤ m) (h0 : tsum F T n = 0) : pnV F T n m = 0 ∧ pnE F T n m = 40 := by
  simp [pnV, pnE, h0]; omega
theorem pn_far {F T : Nat → Int} {n : Nat} {m : Int} (h : 0 ≤ m) (h0 : tsum F T n ≠ 0) (h1 : 3723213977 < m / tsum F T n) : pnV F T n m = 0 ∧ pnE F T n m = 10 := by
  unfold pnV pnE
  rw [if_neg (by omega), if_neg h0, if_pos h1, if_neg (by omega), if_neg h0, if_pos h1]
  exact ⟨rfl, rfl⟩
theorem pn_past {F T : Nat → Int} {n : Nat} {m : Int} (h : 0 ≤ m) (h0 : tsum F T n ≠ 0) (h1 : ¬ 3723213977 < m / tsum F T n) (h2 : 2251799813685248 < m / tsum F T n * 604800 + nthV F T n (m % tsum F T n)) : pnV F T n m = 0 ∧ pnE F T n m = 10 := by
  unfold pnV pnE
  rw [if_neg (by omega), if_neg h0, if_neg h1, if_pos h2, if_neg (by omega), if_neg h0, if_neg h1, if_pos h2]
  exact ⟨rfl, rfl⟩
theorem pn_ok {F T : Nat → Int} {n : Nat} {m : Int} (h : 0 ≤ m) (h0 : tsum F T n ≠ 0) (h1 : ¬ 3723213977 < m / tsum F T n) (h2 : ¬ 2251799813685248 < m / tsum F T n * 604800 + nthV F T n (m % tsum F T n)) :
    pnV F T n m = m / tsum F T n * 604800 + nthV F T n (m % tsum F T n) ∧ pnE F T n m = 0 := by
  unfold pnV pnE
  rw [if_neg (by omega), if_neg h0, if_neg h1, if_neg h2, if_neg (by omega), if_neg h0, if_neg h1, if_neg h2]
  exact ⟨rfl, rfl⟩
theorem nth_bounds {F T : Nat → Int} {n : Nat} {m : Int} (h : Wk F T n) (h0 : 0 ≤ m) (h1 : m < tsum F T n) : 0 ≤ nthV F T n m ∧ nthV F T n m < 604800 := by
  obtain ⟨k, hk, h2, h3⟩ := tsum_find n h0 h1
  have e := nthV_at h.good hk h2 h3
  have h4 : tsum F T (k + 1) = tsum F T k + (T k - F k) := rfl
  have h5 := h.week k hk
  obtain ⟨g0, g1, g2, _⟩ := good_at h.good hk
  omega

/-- What the plan's Nth leaves behind. -/
def NthGot (base P C : Nat) (a : Option Addr) (n c : Nat) (F T : Nat → Int) (v e : Int) (w : World) (E : Ending) (w' : World) : Prop :=
  E = .returned (.tuple #[.int .i64 v, .int .i64 e]) ∧ Pl base P C a n c F T w' ∧ Stays base w w'
/- New, and the reference's Wrong. -/
open Go.RowKit

def weekB (T : Nat → Int) : Nat → Bool
  | 0 => true
  | k + 1 => weekB T k && decide (T k ≤ 604800)
theorem weekB_iff {T : Nat → Int} : ∀ n, weekB T n = true ↔ ∀ k, k < n → T k ≤ 604800 := by
  intro n
  induction n with
  | zero => simp [weekB]
  | succ n ih =>
    simp only [weekB, Bool.and_eq_true, ih, decide_eq_true_eq]
    constructor
    · rintro ⟨h1, h2⟩ k hk
      by_cases e : k = n
      · subst e; exact h2
      · exact h1 k (by omega)
    · intro h
      exact ⟨fun k hk => h k (by omega), h n (by omega)⟩
/-- New's number. -/
def wrongE (F T : Nat → Int) (n : Nat) : Int := if rowE F T n = 0 then (if weekB T n = true then 0 else 2) else rowE F T n
theorem Sps.congr {w : World} {a : Option Addr} {n : Nat} {F T F' T' : Nat → Int} (h : Sps w a n F T) (he : ∀ k, k < n → F k = F' k ∧ T k = T' k) : Sps w a n F' T' := by
  refine ⟨h.1, fun hp => ?_⟩
  obtain ⟨ab, ao, e, hl, hc⟩ := h.2 hp
  exact ⟨ab, ao, e, hl, fun k hk => by rw [← (he k hk).1, ← (he k hk).2]; exact hc k hk⟩

/-- A plan made. -/
def Planned (n : Nat) (F T : Nat → Int) (w : World) (e : Ending) (w' : World) : Prop :=
  ∃ P C a c, e = .returned (.tuple #[.pointer (some ⟨P, 0, none⟩), .int .i64 0]) ∧ Pl w.heap.size P C a n c F T w' ∧ Below w.heap.size w w'
set_option maxRecDepth 100000 in
set_option maxHeartbeats 4000000 in
theorem new_ok (a : Option Addr) (n cap : Nat) (F T : Nat → Int) (w : World) (hS : Sps w a n F T) (hw : Wk F T n) :
    Calls Try.prog 131 #[.slice a n cap] w (Planned n F T w) := by
  have hr := row_any a n cap F T w hS
  rw [rowE_ok hw.len hw.good] at hr
  have HC := Lib.hid hS
  have HW := Lib.hid hw
  have hm := hw.len
  -- the clone, the plan's block, the cell
  have key : ∀ (w2 : World) (va : Option Addr) (vc : Nat) (w1 : World), OS w2 w1.heap.size (.slice va n vc) (pairs F T n) → Below w.heap.size w w1 → Below w1.heap.size w1 w2 →
      Pl w.heap.size w2.heap.size (w2.heap.size + 1) va n vc F T ((w2.alloc (.cells #[.slice va n vc, .pointer (some ⟨w2.heap.size + 1, 0, none⟩)] 200)).alloc (.cells #[.func (.func 142) #[.pointer (some ⟨w2.heap.size, 0, none⟩)] #[], .int .u32 0, .int .i32 0, .int .u32 0, .slice none 0 0, .int .u32 0, .int .i64 0] 221)) ∧ Below w.heap.size w ((w2.alloc (.cells #[.slice va n vc, .pointer (some ⟨w2.heap.size + 1, 0, none⟩)] 200)).alloc (.cells #[.func (.func 142) #[.pointer (some ⟨w2.heap.size, 0, none⟩)] #[], .int .u32 0, .int .i32 0, .int .u32 0, .slice none 0 0, .int .u32 0, .int .i64 0] 221)) := by
    intro w2 va vc w1 hO hb1 hb2
    have hsz : w.heap.size ≤ w2.heap.size := Nat.le_trans hb1.size hb2.size
    have hS2 : Sps w2 va n F T := by
      have h := (hO.sps (by
        intro s hs
        obtain ⟨k, hk, rfl⟩ := pairs_mem.1 hs
        obtain ⟨_, _, _, _, _, _, b⟩ := HC.out.at (Below.refl _ _) k hk
        exact b)).2
      exact h.congr fun k hk => pairs_at F T n k hk
    have hva : ∀ x, 0 < n → va = some x → x.block < w2.heap.size := by
      intro x hp e
      obtain ⟨ab, ao, e2, hl, _⟩ := hS2.2 hp
      rw [e] at e2
      injection e2 with e2
      subst e2
      exact hl
    generalize hW : ((w2.alloc (.cells #[.slice va n vc, .pointer (some ⟨w2.heap.size + 1, 0, none⟩)] 200)).alloc (.cells #[.func (.func 142) #[.pointer (some ⟨w2.heap.size, 0, none⟩)] #[], .int .u32 0, .int .i32 0, .int .u32 0, .slice none 0 0, .int .u32 0, .int .i64 0] 221)) = W
    have B2 : Below w2.heap.size w2 W := by
      rw [← hW]
      exact ((Below.refl _ _).alloc (Nat.le_refl _) _).alloc (by simp) _
    have p0 : W.cell? ⟨w2.heap.size, 0, none⟩ = some (.slice va n vc) := by rw [← hW, World.cell?_alloc_past _ _ _ (by simp)]; simp
    have p1 : W.cell? ⟨w2.heap.size, 1, none⟩ = some (.pointer (some ⟨w2.heap.size + 1, 0, none⟩)) := by rw [← hW, World.cell?_alloc_past _ _ _ (by simp)]; simp
    have cl : ∀ j, W.cell? ⟨w2.heap.size + 1, j, none⟩ = (#[.func (.func 142) #[.pointer (some ⟨w2.heap.size, 0, none⟩)] #[], .int .u32 0, .int .i32 0, .int .u32 0, .slice none 0 0, .int .u32 0, .int .i64 0] : Array Value)[j]? := fun j => by
      rw [← hW, World.cell?_alloc_at _ _ _ _ (by simp)]
    have fz : ∀ j, W.frozen? ⟨w2.heap.size + 1, j, none⟩ = false := fun j => by
      rw [← hW, frozen?_alloc_cells, frozen?_alloc_cells]
      simp [World.frozen?]
    have hWs : W.heap.size = w2.heap.size + 2 := by rw [← hW]; simp
    refine ⟨⟨hsz, by omega, by omega, by omega, p0, p1, hS2.kept B2, fun x hp e => by have := hva x hp e; omega, .inl ⟨0, ?_⟩⟩, (hb1.trans (hb2.mono hb1.size)).trans (B2.mono hsz)⟩
    exact ⟨(cl 0).trans rfl, (cl 1).trans rfl, (cl 2).trans rfl, (cl 4).trans rfl, (cl 5).trans rfl, (cl 6).trans rfl, fz⟩
  have KEY := Lib.hid key
  have hclone : ∀ w1, Below w.heap.size w w1 → Calls Try.prog 140 #[.slice a n cap] w1 (Copied (pairs F T n) w1) := fun w1 hb => clone_any a n cap F T w1 (HC.out.kept hb) (by omega)
  have HCL := Lib.hid hclone
  have HLN := Lib.hid (pairs_len F T n)
  clear hS hw key hclone
  cases n with
  | zero =>
    go_enter Try.func131, Try.ntmps131
    go_wp2_with fail
    refine hr.mono ?_
    rintro e w1 ⟨rfl, hb1⟩
    have hcl := HCL.out w1 hb1
    go_wp2_with fail
    refine hcl.mono ?_
    rintro e w2 ⟨v, rfl, hO, hb2⟩
    obtain ⟨va, vc, rfl, _, _⟩ := hO.shape
    rw [HLN.out] at hO ⊢
    have HK := Lib.hid (KEY.out w2 va vc w1 hO hb1 hb2)
    clear hcl hO hb1 hb2
    go_wp2_with (first | (go_at_call 141; refine (new_fn _ _ _ _).mono ?_; rintro e w' ⟨rfl, rfl⟩))
    go_ret2
    exact ⟨_, _, _, _, rfl, HK.out.1, HK.out.2⟩
  | succ p =>
    have hlast := HW.out.week p (by omega)
    obtain ⟨u, hu⟩ : ∃ u, T p = u := ⟨_, rfl⟩
    rw [hu] at hlast
    have d1 : decide (604800 < u) = false := decide_eq_false (by omega)
    have HU := Lib.hid hu
    clear hu
    go_enter Try.func131, Try.ntmps131
    go_wp2_with fail
    refine hr.mono ?_
    rintro e w1 ⟨rfl, hb1⟩
    have hcl := HCL.out w1 hb1
    obtain ⟨ab, ao, rfl, hab, _, c1, _⟩ := HC.out.at hb1 p (by omega)
    rw [HU.out] at c1
    have p0 : (0 : Int) ≤ (p : Int) := by omega
    have p1 : (p : Int) < (p : Int) + 1 := by omega
    have p2 : (p : Int) ≤ 32 := by omega
    go_wp2_with fail
    refine hcl.mono ?_
    rintro e w2 ⟨v, rfl, hO, hb2⟩
    obtain ⟨va, vc, rfl, _, _⟩ := hO.shape
    rw [HLN.out] at hO ⊢
    have HK := Lib.hid (KEY.out w2 va vc w1 hO hb1 hb2)
    clear hcl hO hb1 hb2
    go_wp2_with (first | (go_at_call 141; refine (new_fn _ _ _ _).mono ?_; rintro e w' ⟨rfl, rfl⟩))
    go_ret2
    exact ⟨_, _, _, _, rfl, HK.out.1, HK.out.2⟩
set_option maxRecDepth 100000 in
set_option maxHeartbeats 4000000 in
/-- New, where the row is no plan's. -/
theorem new_bad (a : Option Addr) (n cap : Nat) (F T : Nat → Int) (w : World) (hS : Sps w a n F T) (hw : (rowE F T n != 0) = true) :
    Calls Try.prog 131 #[.slice a n cap] w fun e w' => e = .returned (.tuple #[.pointer none, .int .i64 (rowE F T n)]) ∧ Below w.heap.size w w' := by
  have hr := row_any a n cap F T w hS
  clear hS
  generalize rowE F T n = z at hr hw ⊢
  go_enter Try.func131, Try.ntmps131
  go_wp2_with fail
  refine hr.mono ?_
  rintro e w1 ⟨rfl, hb1⟩
  clear hr
  go_wp2_with fail
  go_ret2
  exact ⟨rfl, hb1⟩
set_option maxRecDepth 100000 in
set_option maxHeartbeats 4000000 in
/-- New, where a span extends beyond a week. -/
theorem new_long (a : Option Addr) (p cap : Nat) (F T : Nat → Int) (w : World) (hS : Sps w a (p + 1) F T) (hn : p + 1 ≤ 32) (hg : good F T (p + 1) = true) (hw : 604800 < T p) :
    Calls Try.prog 131 #[.slice a (p + 1) cap] w fun e w' => e = .returned (.tuple #[.pointer none, .int .i64 2]) ∧ Below w.heap.size w w' := by
  have hr := row_any a (p + 1) cap F T w hS
  rw [rowE_ok hn hg] at hr
  have HC := Lib.hid hS
  obtain ⟨u, hu⟩ : ∃ u, T p = u := ⟨_, rfl⟩
  rw [hu] at hw
  have d1 : decide (604800 < u) = true := decide_eq_true (by omega)
  have HU := Lib.hid hu
  clear hu hS hg
  go_enter Try.func131, Try.ntmps131
  go_wp2_with fail
  refine hr.mono ?_
  rintro e w1 ⟨rfl, hb1⟩
  clear hr
  obtain ⟨ab, ao, rfl, hab, _, c1, _⟩ := HC.out.at hb1 p (by omega)
  rw [HU.out] at c1
  have p0 : (0 : Int) ≤ (p : Int) := by omega
  have p1 : (p : Int) < (p : Int) + 1 := by omega
  have p2 : (p : Int) ≤ 32 := by omega
  go_wp2_with fail
  go_ret2
  exact ⟨rfl, hb1⟩

set_option maxRecDepth 100000 in
set_option maxHeartbeats 4000000 in
/-- The reference's number of a row. -/
theorem wrong_any (a : Option Addr) (n cap : Nat) (F T : Nat → Int) (w : World) (hS : Sps w a n F T) :
    Calls Try.prog 112 #[.slice a n cap] w fun e w' => e = .returned (.int .i64 (wrongE F T n)) ∧ Below w.heap.size w w' := by
  have hm := hS.1
  unfold maxLen at hm
  have hr := rrow_any a n cap F T w hS
  have HC := Lib.hid hS
  clear hS
  by_cases hz : rowE F T n = 0
  · have HV := Lib.hid (show wrongE F T n = if weekB T n = true then 0 else 2 by unfold wrongE; rw [if_pos hz])
    rw [hz] at hr
    clear hz
    go_enter Try.func112, Try.ntmps112
    go_wp2_with fail
    refine hr.mono ?_
    rintro e w1 ⟨rfl, hb1⟩
    clear hr
    have HB1 := Lib.hid hb1
    clear hb1
    go_wp2_with fail
    go_loopw [4] (fun i wr => ∃ k : Nat, k ≤ n ∧ i = .int .i64 k ∧ weekB T k = true ∧ wr = w1) (fun i _ => n - (intOf i).toNat)
    case atStart => exact ⟨0, Nat.zero_le _, rfl, rfl, rfl⟩
    case round =>
      obtain ⟨k, hk, rfl, hwk, rfl⟩ := hrel
      by_cases hlt : k < n
      · obtain ⟨ab, ao, rfl, hab, _, c1, _⟩ := HC.out.at HB1.out k hlt
        have HK : Hid (weekB T (k + 1) = decide (T k ≤ 604800)) := Lib.hid (by simp [weekB, hwk])
        have HX := Lib.hid (fun h => (weekB_iff (T := T) n).1 h k hlt)
        obtain ⟨u, hu⟩ : ∃ u, T k = u := ⟨_, rfl⟩
        rw [hu] at c1 HK HX
        clear hu hwk
        have k0 : (0 : Int) ≤ (k : Int) := by omega
        have kl : (k : Int) < (n : Int) := by omega
        have d4 : decide ((k : Int) < (n : Int)) = true := by simp [hlt]
        by_cases hlw : u ≤ 604800
        · have d5 : decide (604800 < u) = false := decide_eq_false (by omega)
          go_wp2_with fail
          go_roundw
          case rel => exact ⟨k + 1, hlt, by go_num, by rw [HK.out]; exact decide_eq_true hlw, trivial⟩
          case measure => simp [intOf]; omega
        · have d5 : decide (604800 < u) = true := decide_eq_true (by omega)
          go_wp2_with fail
          go_ret
          exact ⟨ret_int (by rw [HV.out, if_neg (fun h => by have := HX.out h; omega)]), HB1.out⟩
      · obtain rfl : k = n := by omega
        have HWK := Lib.hid hwk
        clear hwk
        go_wp2_with fail
        go_ret
        exact ⟨ret_int (by rw [HV.out, if_pos HWK.out]), HB1.out⟩
  · have HV := Lib.hid (show wrongE F T n = rowE F T n by unfold wrongE; rw [if_neg hz])
    have hz' : (rowE F T n != 0) = true := by simpa using hz
    generalize rowE F T n = z at hr hz' HV
    clear hz
    go_enter Try.func112, Try.ntmps112
    go_wp2_with fail
    refine hr.mono ?_
    rintro e w1 ⟨rfl, hb1⟩
    clear hr
    go_wp2_with fail
    go_ret
    exact ⟨ret_int HV.out.symm, hb1⟩
end Go.Proofs.Ytibjboacjobaoaa
