import Derived.Test.YthnnbmofpmedhaaOw1
import Derived.Test.YthnnbmofpmedhaaSp1
import Derived.IntWalk
import Derived.Test.YthnnbmofpmedhaaWk2
namespace Go.Proofs.Ythnnbmofpmedhaa
open Go.RowKit
/- The reference for rows: Cut, Within, Len. -/
open Go.RowKit

def cutOne (f t a b : Int) : List (Int × Int) := if mx f a < mn t b then [(mx f a, mn t b)] else []
def cutL (F T : Nat → Int) (a b : Int) : Nat → List (Int × Int)
  | 0 => []
  | k + 1 => cutL F T a b k ++ cutOne (F k) (T k) a b
theorem cutL_len (F T : Nat → Int) (a b : Int) : ∀ k, (cutL F T a b k).length ≤ k := by
  intro k
  induction k with
  | zero => exact Nat.le_refl _
  | succ k ih =>
    simp only [cutL, List.length_append]
    unfold cutOne
    split <;> simp <;> omega
theorem cutL_right {F T : Nat → Int} {n : Nat} (a b : Int) (hg : good F T n = true) : ∀ k, k ≤ n → ∀ s ∈ cutL F T a b k, 0 ≤ s.1 ∧ s.1 < s.2 ∧ s.2 ≤ 1125899906842624 := by
  intro k
  induction k with
  | zero => intro _ s hs; cases hs
  | succ k ih =>
    intro hk s hs
    simp only [cutL, List.mem_append] at hs
    rcases hs with hs | hs
    · exact ih (by omega) s hs
    · obtain ⟨g0, g1, g2, _⟩ := good_at hg (show k < n by omega)
      unfold cutOne at hs
      split at hs
      · rename_i h
        obtain rfl := List.mem_singleton.1 hs
        show 0 ≤ mx (F k) a ∧ mx (F k) a < mn (T k) b ∧ mn (T k) b ≤ _
        rcases mx_cases (F k) a with ⟨h1, h2⟩ | ⟨h1, h2⟩ <;> rcases mn_cases (T k) b with ⟨h3, h4⟩ | ⟨h3, h4⟩ <;> omega
      · cases hs
theorem tsum_congr {F T F' T' : Nat → Int} : ∀ k, (∀ j, j < k → F j = F' j ∧ T j = T' j) → tsum F T k = tsum F' T' k := by
  intro k
  induction k with
  | zero => intro _; rfl
  | succ k ih =>
    intro h
    simp only [tsum, ih fun j hj => h j (by omega), (h k (by omega)).1, (h k (by omega)).2]
/-- How many seconds the spans of a list have. -/
def sumL (l : List (Int × Int)) : Int := tsum (fr l) (til l) l.length
theorem fr_append_lt {l m : List (Int × Int)} {j : Nat} (h : j < l.length) : fr (l ++ m) j = fr l j ∧ til (l ++ m) j = til l j := by
  simp [fr, til, List.getElem?_append_left h]
theorem sumL_snoc (l : List (Int × Int)) (x : Int × Int) : sumL (l ++ [x]) = sumL l + (x.2 - x.1) := by
  unfold sumL
  rw [List.length_append]
  show tsum _ _ (l.length + 1) = _
  simp only [tsum]
  rw [tsum_congr (F' := fr l) (T' := til l) l.length fun j hj => fr_append_lt hj]
  simp [fr, til]
theorem sumL_cut {F T : Nat → Int} (a b : Int) : ∀ k, sumL (cutL F T a b k) = wsum F T a b k := by
  intro k
  induction k with
  | zero => rfl
  | succ k ih =>
    simp only [cutL, wsum]
    unfold cutOne
    rcases clip_cases (F k) (T k) a b with ⟨h, e⟩ | ⟨h, e⟩
    · rw [if_neg (by omega), List.append_nil, ih, e]; omega
    · rw [if_pos h, sumL_snoc, ih, e]
theorem tsum_list {l : List (Int × Int)} (hr : ∀ s ∈ l, 0 ≤ s.1 ∧ s.1 < s.2 ∧ s.2 ≤ 1125899906842624) : ∀ k, k ≤ l.length → 0 ≤ tsum (fr l) (til l) k ∧ tsum (fr l) (til l) k ≤ k * 1125899906842624 := by
  intro k
  induction k with
  | zero => intro _; simp [tsum]
  | succ k ih =>
    intro hk
    obtain ⟨h1, h2⟩ := ih (by omega)
    have h3 := hr (l.getD k (0, 0)) (by simp [show k < l.length by omega])
    have e1 : fr l k = (l.getD k (0, 0)).1 := rfl
    have e2 : til l k = (l.getD k (0, 0)).2 := rfl
    simp only [tsum]
    omega

set_option maxRecDepth 100000 in
set_option maxHeartbeats 4000000 in
theorem rcut_any (a : Option Addr) (n cap : Nat) (F T : Nat → Int) (x y : Int) (w : World) (hS : Sps w a n F T) (hn : n ≤ 32) (hg : good F T n = true) :
    Calls Try.prog 88 #[.slice a n cap, .int .i64 x, .int .i64 y] w (Copied (cutL F T x y n) w) := by
  have hm := hS.1
  unfold maxLen at hm
  have HC := Lib.hid hS
  have hr := rrow_any a n cap F T w hS
  rw [rowE_ok hn hg] at hr
  clear hS hg
  go_enter Try.func88, Try.ntmps88
  go_wp2_with fail
  refine hr.mono ?_
  rintro e w0 ⟨rfl, hb0⟩
  have HB0 := Lib.hid hb0
  clear hr hb0
  go_wp2_with fail
  go_loopw [7, 8] (fun v i wr => ∃ k : Nat, k ≤ n ∧ i = .int .i64 k ∧ OS wr w.heap.size v (cutL F T x y k) ∧ Below w.heap.size w wr) (fun _ i _ => n - (intOf i).toNat)
  case atStart => exact ⟨0, Nat.zero_le _, rfl, OS.nil _ _, HB0.out⟩
  case round =>
    obtain ⟨k, hk, rfl, hO, hB⟩ := hrel
    obtain ⟨va, vc, rfl, hml, _⟩ := hO.shape
    have hlen := cutL_len F T x y k
    by_cases hlt : k < n
    · obtain ⟨ab, ao, rfl, hab, c0, c1, b0, b1, b2, b3⟩ := HC.out.at hB k hlt
      have HK : Hid (cutL F T x y (k + 1) = cutL F T x y k ++ cutOne (F k) (T k) x y) := Lib.hid rfl
      have HB := Lib.hid hB
      have HO := Lib.hid hO
      have hll : (cutL F T x y k).length ≤ 100000 := by omega
      have HLL := Lib.hid hll
      have hbase : w.heap.size ≤ wr.heap.size := hB.size
      obtain ⟨f, e0⟩ : ∃ x, F k = x := ⟨_, rfl⟩
      obtain ⟨t, e1⟩ : ∃ x, T k = x := ⟨_, rfl⟩
      rw [e0] at c0 b0 b1 HK
      rw [e1] at c1 b2 b3 HK
      have hpa := part_any f t x y wr
      have HON : Hid (cutOne f t x y = if mx f x < mn t y then [(mx f x, mn t y)] else []) := Lib.hid rfl
      obtain ⟨c, hc⟩ : ∃ c, decide (mx f x < mn t y) = c := ⟨_, rfl⟩
      have HCD := Lib.hid hc
      obtain ⟨l, hl⟩ : ∃ l, cutL F T x y k = l := ⟨_, rfl⟩
      rw [hl] at HK HO HLL ⊢
      clear hO hB e0 e1 hl hll hc hml hlen
      have k0 : (0 : Int) ≤ (k : Int) := by omega
      have kl : (k : Int) < (n : Int) := by omega
      have d4 : decide ((k : Int) < (n : Int)) = true := by simp [hlt]
      cases c
      · go_wp2_with fail
        refine hpa.mono ?_
        rintro e w1 ⟨u, v, b, rfl, hu, hv, hb, hb1⟩
        rw [HCD.out] at hb
        subst hb
        have hBn : Below wr.heap.size wr (w1.alloc (.cells #[.int .i64 u, .int .i64 v] 106)) := hb1.alloc hb1.size _
        have HO1 := Lib.hid (HO.out.kept hBn)
        have HB1 := Lib.hid (HB.out.trans (hBn.mono hbase))
        clear hpa hu hv hb1 hBn
        go_wp2_with fail
        go_roundw
        case rel => exact ⟨k + 1, hlt, by go_num, by rw [HK.out, HON.out, if_neg (of_decide_eq_false HCD.out), List.append_nil]; exact HO1.out, HB1.out⟩
        case measure => simp [intOf]; omega
      · go_wp2_with fail
        refine hpa.mono ?_
        rintro e w1 ⟨u, v, b, rfl, hu, hv, hb, hb1⟩
        rw [HCD.out] at hb
        subst hb
        have hBn : Below wr.heap.size wr ((w1.alloc (.cells #[.int .i64 u, .int .i64 v] 106)).alloc (.cells #[.int .i64 u, .int .i64 v] 106)) := (hb1.alloc hb1.size _).alloc (by have := hb1.size; simp; omega) _
        have HO1 := Lib.hid (HO.out.kept hBn)
        have HB1 := Lib.hid (HB.out.trans (hBn.mono hbase))
        have HNS : Hid (∀ j z, [Value.int .i64 u, .int .i64 v][j]? = some z → ((w1.alloc (.cells #[.int .i64 u, .int .i64 v] 106)).alloc (.cells #[.int .i64 u, .int .i64 v] 106)).cell? ((⟨w1.heap.size + 1, 0, none⟩ : Addr).add j) = some z) := Lib.hid (by
          have := new_span (w1.alloc (.cells #[.int .i64 u, .int .i64 v] 106)) (.int .i64 u) (.int .i64 v) 106
          simpa using this)
        have HUV : Hid (u = mx f x ∧ v = mn t y) := Lib.hid ⟨hu, hv⟩
        have HSZ : Hid (w.heap.size ≤ ((w1.alloc (.cells #[.int .i64 u, .int .i64 v] 106)).alloc (.cells #[.int .i64 u, .int .i64 v] 106)).heap.size) := Lib.hid HB1.out.size
        clear hpa hu hv hb1 hBn
        go_wp2_with (at_builtin; refine append_span rfl (.tmp 31) (.tmp 33) rfl w.heap.size (.slice va l.length vc) l u v ⟨w1.heap.size + 1, 0, none⟩ 1 rfl rfl HO1.out HNS.out HLL.out HSZ.out ?_; intro v' w' hO' hst; have HO' := Lib.hid hO'; have HST := Lib.hid hst; clear hO' hst)
        go_roundw
        case rel => exact ⟨k + 1, hlt, by go_num, by rw [HK.out, HON.out, if_pos (of_decide_eq_true HCD.out), ← HUV.out.1, ← HUV.out.2]; exact HO'.out, HST.out.2 _ HB1.out⟩
        case measure => simp [intOf]; omega
    · obtain rfl : k = n := by omega
      have HB := Lib.hid hB
      have HO := Lib.hid hO
      clear hO hB
      go_wp2_with fail
      go_ret
      exact ⟨_, rfl, HO.out, HB.out⟩

set_option maxRecDepth 100000 in
set_option maxHeartbeats 4000000 in
theorem rwithin_any (a : Option Addr) (n cap : Nat) (F T : Nat → Int) (x y : Int) (w : World) (hS : Sps w a n F T) (hn : n ≤ 32) (hg : good F T n = true) :
    Calls Try.prog 86 #[.slice a n cap, .int .i64 x, .int .i64 y] w fun e w' => e = .returned (.int .i64 (wsum F T x y n)) ∧ Below w.heap.size w w' := by
  have hc := rcut_any a n cap F T x y w hS hn hg
  have hri := cutL_right x y hg n (Nat.le_refl _)
  have hle := cutL_len F T x y n
  have hsu := sumL_cut (F := F) (T := T) x y n
  obtain ⟨l, hl⟩ : ∃ l, cutL F T x y n = l := ⟨_, rfl⟩
  rw [hl] at hc hri hle hsu
  have HSU := Lib.hid hsu
  have HRI := Lib.hid hri
  have hln : l.length ≤ 32 := by omega
  have HTB := Lib.hid (tsum_list hri)
  clear hS hg hl hsu hri hle
  go_enter Try.func86, Try.ntmps86
  go_wp2_with fail
  refine hc.mono ?_
  rintro e w1 ⟨v, rfl, hO, hb1⟩
  obtain ⟨va, vc, rfl, _, _⟩ := hO.shape
  have hS1 := (hO.sps (fun s hs => by have := HRI.out s hs; omega)).2
  obtain ⟨N, hN⟩ : ∃ N, l.length = N := ⟨_, rfl⟩
  have HS1 := Lib.hid hS1
  have HB1 := Lib.hid hb1
  have HSL : Hid (sumL l = tsum (fr l) (til l) N) := Lib.hid (by rw [← hN]; rfl)
  rw [hN] at hln HS1 HTB ⊢
  have HNN := Lib.hid hN
  clear hc hO hb1 hS1 hN
  go_wp2_with fail
  go_loopw [8, 9] (fun s i wr => ∃ k : Nat, k ≤ N ∧ i = .int .i64 k ∧ s = .int .i64 (tsum (fr l) (til l) k) ∧ ∃ q, wr = w1.drewN q) (fun _ i _ => N - (intOf i).toNat)
  case atStart => exact ⟨0, Nat.zero_le _, rfl, rfl, 0, rfl⟩
  case round =>
    obtain ⟨k, hk, rfl, rfl, q, rfl⟩ := hrel
    by_cases hlt : k < N
    · obtain ⟨ab, ao, rfl, hab, c0, c1, b0, b1, b2, b3⟩ := HS1.out.at (Below.refl _ _) k hlt
      have hrk := HRI.out (l.getD k (0, 0)) (by have := HNN.out; simp [show k < l.length by omega])
      have e1 : fr l k = (l.getD k (0, 0)).1 := rfl
      have e2 : til l k = (l.getD k (0, 0)).2 := rfl
      rw [← e1, ← e2] at hrk
      obtain ⟨t0, t1⟩ := HTB.out k hk
      have t2 : tsum (fr l) (til l) k ≤ 36028797018963968 := by omega
      have HK : Hid (tsum (fr l) (til l) (k + 1) = tsum (fr l) (til l) k + (til l k - fr l k)) := Lib.hid rfl
      obtain ⟨f, hf⟩ : ∃ f, fr l k = f := ⟨_, rfl⟩
      obtain ⟨t, ht⟩ : ∃ f, til l k = f := ⟨_, rfl⟩
      obtain ⟨s, hs⟩ : ∃ f, tsum (fr l) (til l) k = f := ⟨_, rfl⟩
      rw [hf] at c0 b0 b1 hrk HK
      rw [ht] at c1 b2 b3 hrk HK
      rw [hs] at t0 t2 HK ⊢
      have k0 : (0 : Int) ≤ (k : Int) := by omega
      have kl : (k : Int) < (N : Int) := by omega
      have d4 : decide ((k : Int) < (N : Int)) = true := by simp [hlt]
      have w1' : IntKind.i64.wrap (s + t) = s + t := IntWalk.i64_in _ (by omega)
      have w2' : IntKind.i64.wrap (s + t - f) = s + t - f := IntWalk.i64_in _ (by omega)
      clear hf ht hs e1 e2 t1 hrk
      go_wp2_with fail
      go_quiet (fail)
      clear w1' w2'
      go_wp2_with fail
      go_roundw
      case rel => exact ⟨k + 1, hlt, by go_num, by rw [HK.out]; congr 1; omega, _, rfl⟩
      case measure => simp [intOf]; omega
    · obtain rfl : k = N := by omega
      go_wp2_with fail
      go_ret
      exact ⟨ret_int (by rw [← HSU.out, HSL.out]), below_drewN' HB1.out q⟩
theorem rlen_any (a : Option Addr) (n cap : Nat) (F T : Nat → Int) (w : World) (hS : Sps w a n F T) (hn : n ≤ 32) (hg : good F T n = true) :
    Calls Try.prog 77 #[.slice a n cap] w fun e w' => e = .returned (.int .i64 (tsum F T n)) ∧ Below w.heap.size w w' := by
  have hr := rwithin_any a n cap F T 0 1125899906842624 w hS hn hg
  rw [wsum_all hg n (Nat.le_refl _)] at hr
  generalize tsum F T n = z at hr ⊢
  clear hS hg
  go_enter Try.func77, Try.ntmps77
  go_wp2_with fail
  refine hr.mono ?_
  rintro e w0 ⟨rfl, hb0⟩
  clear hr
  go_wp2_with fail
  go_ret
  exact ⟨rfl, hb0⟩
/- The reference for rows: Has, Nth. -/
open Go.RowKit

/- The reference for plans: Open, Until, Between, Nth. -/
open Go.RowKit

set_option maxRecDepth 100000 in
set_option maxHeartbeats 4000000 in
theorem runtil_any (a : Option Addr) (n cap : Nat) (F T : Nat → Int) (t : Int) (w : World) (hS : Sps w a n F T) (hw : Wk F T n) :
    Calls Try.prog 103 #[.slice a n cap, .int .i64 t] w fun e w' => e = .returned (.int .i64 (untilV F T n t)) ∧ Below w.heap.size w w' := by
  have hl := rlen_any a n cap F T w hS hw.len hw.good
  have HWI := Lib.hid (fun y w1 (hb : Below w.heap.size w w1) => rwithin_any a n cap F T 0 y w1 (hS.kept hb) hw.len hw.good)
  have HB := Lib.hid (until_bounds hw t)
  obtain ⟨t0, t1⟩ := hw.total
  obtain ⟨x0, x1⟩ := cl_bounds t
  have HU := Lib.hid (show untilV F T n t = cl t / 604800 * tsum F T n + wsum F T 0 (cl t % 604800) n from rfl)
  have HWL := Lib.hid (wsum_le (cl t % 604800) hw.good n (Nat.le_refl _))
  obtain ⟨x, hcl⟩ : ∃ x, cl t = x := ⟨_, rfl⟩
  rw [hcl] at x0 x1 HU HB HWL
  obtain ⟨tot, ht⟩ : ∃ x, tsum F T n = x := ⟨_, rfl⟩
  rw [ht] at t0 t1 hl HB HU HWL
  have hcl' : min (max t 0) 2251799813685248 = x := hcl
  clear hS hw ht hcl
  obtain ⟨r, hr⟩ : ∃ r, x % 604800 = r := ⟨_, rfl⟩
  obtain ⟨q, hq⟩ : ∃ q, x / 604800 = q := ⟨_, rfl⟩
  have q0 : 0 ≤ q := by omega
  have q1 : q ≤ 3723213977 := by omega
  have r0 : 0 ≤ r := by omega
  rw [hr] at HU HWL
  rw [hq] at HU HB
  obtain ⟨m0, m1, _, _⟩ := HB.out
  obtain ⟨z, hz⟩ : ∃ z, wsum F T 0 r n = z := ⟨_, rfl⟩
  rw [hz] at HU HWL
  have HZ := Lib.hid hz
  obtain ⟨z0, z1⟩ := HWL.out
  have z2 : z ≤ 604800 := by omega
  clear hz
  by_cases hn : t < 0
  · have d1 : decide (t < 0) = true := decide_eq_true hn
    obtain rfl : x = 0 := by omega
    obtain rfl : q = 0 := by omega
    obtain rfl : r = 0 := by omega
    clear hq hr hcl' hn
    go_enter Try.func103, Try.ntmps103
    go_wp2_with fail
    refine hl.mono ?_
    rintro e w1 ⟨rfl, hb1⟩
    clear hl
    have HB1 := Lib.hid hb1
    clear hb1
    go_wp2_with fail
    refine (HWI.out 0 w1 HB1.out).mono ?_
    rintro e w2 ⟨rfl, hb2⟩
    rw [HZ.out]
    go_wp2_with fail
    go_ret
    exact ⟨ret_int (by rw [HU.out]; omega), HB1.out.trans (hb2.mono HB1.out.size)⟩
  · have d1 : decide (t < 0) = false := decide_eq_false hn
    by_cases hp : 2251799813685248 < t
    · have d2 : decide (2251799813685248 < t) = true := decide_eq_true hp
      obtain rfl : x = 2251799813685248 := by omega
      obtain rfl : q = 3723213977 := by omega
      have hr2 : r = 2251799813685248 % 604800 := hr.symm
      have HR := Lib.hid hr2
      clear hq hr hr2 hcl' hn hp
      go_enter Try.func103, Try.ntmps103
      go_wp2_with fail
      refine hl.mono ?_
      rintro e w1 ⟨rfl, hb1⟩
      clear hl
      have HB1 := Lib.hid hb1
      clear hb1
      go_wp2_with fail
      refine (HWI.out _ w1 HB1.out).mono ?_
      rintro e w2 ⟨rfl, hb2⟩
      have e1 : wsum F T 0 (2251799813685248 % 604800) n = z := by rw [← HR.out]; exact HZ.out
      have e1' := e1
      simp only [Int.reduceMod] at e1'
      rw [e1']
      clear e1 e1'
      go_wp2_with fail
      go_ret
      exact ⟨ret_int (by rw [HU.out]), HB1.out.trans (hb2.mono HB1.out.size)⟩
    · have d2 : decide (2251799813685248 < t) = false := decide_eq_false hp
      obtain rfl : x = t := by omega
      have HR := Lib.hid hr
      have HQ := Lib.hid hq
      have x2 : x ≤ 2251799813685248 := by omega
      clear hcl' hn hp hr hq
      go_enter Try.func103, Try.ntmps103
      go_wp2_with fail
      rw [HQ.out]
      refine hl.mono ?_
      rintro e w1 ⟨rfl, hb1⟩
      clear hl
      have HB1 := Lib.hid hb1
      clear hb1
      go_wp2_with fail
      rw [HR.out]
      refine (HWI.out r w1 HB1.out).mono ?_
      rintro e w2 ⟨rfl, hb2⟩
      rw [HZ.out]
      go_wp2_with fail
      go_ret
      exact ⟨ret_int HU.out.symm, HB1.out.trans (hb2.mono HB1.out.size)⟩

theorem rbetween_any (a : Option Addr) (n cap : Nat) (F T : Nat → Int) (x y : Int) (w : World) (hS : Sps w a n F T) (hw : Wk F T n) :
    Calls Try.prog 94 #[.slice a n cap, .int .i64 x, .int .i64 y] w fun e w' => e = .returned (.int .i64 (betweenV F T n x y)) ∧ Below w.heap.size w w' := by
  have h1 := runtil_any a n cap F T y w hS hw
  have HX := Lib.hid (fun w1 (hb : Below w.heap.size w w1) => runtil_any a n cap F T x w1 (hS.kept hb) hw)
  obtain ⟨_, _, b0, b1⟩ := until_bounds hw y
  obtain ⟨_, _, b2, b3⟩ := until_bounds hw x
  have HV := Lib.hid (show betweenV F T n x y = max 0 (untilV F T n y - untilV F T n x) from rfl)
  obtain ⟨u, hu⟩ : ∃ u, untilV F T n y = u := ⟨_, rfl⟩
  obtain ⟨v, hv⟩ : ∃ u, untilV F T n x = u := ⟨_, rfl⟩
  rw [hu] at b0 b1 HV h1
  rw [hv] at b2 b3 HV
  have HE := Lib.hid hv
  clear hS hw hu hv
  by_cases hlt : u - v < 0
  · have d1 : decide (u - v < 0) = true := decide_eq_true hlt
    go_enter Try.func94, Try.ntmps94
    go_wp2_with fail
    refine h1.mono ?_
    rintro e w1 ⟨rfl, hb1⟩
    have h2 := HX.out w1 hb1
    rw [HE.out] at h2
    have HB1 := Lib.hid hb1
    clear h1 hb1
    go_wp2_with fail
    refine h2.mono ?_
    rintro e w2 ⟨rfl, hb2⟩
    have HB2 := Lib.hid (HB1.out.trans (hb2.mono HB1.out.size))
    clear h2 hb2
    go_wp2_with fail
    go_ret
    exact ⟨ret_int (by rw [HV.out]; omega), HB2.out⟩
  · have d1 : decide (u - v < 0) = false := decide_eq_false hlt
    go_enter Try.func94, Try.ntmps94
    go_wp2_with fail
    refine h1.mono ?_
    rintro e w1 ⟨rfl, hb1⟩
    have h2 := HX.out w1 hb1
    rw [HE.out] at h2
    have HB1 := Lib.hid hb1
    clear h1 hb1
    go_wp2_with fail
    refine h2.mono ?_
    rintro e w2 ⟨rfl, hb2⟩
    have HB2 := Lib.hid (HB1.out.trans (hb2.mono HB1.out.size))
    clear h2 hb2
    go_wp2_with fail
    go_ret
    exact ⟨ret_int (by rw [HV.out]; omega), HB2.out⟩

/- WeekTells, walked. -/
open Go.RowKit

/-- A row that is no plan's: New's number and the reference's. -/
theorem new_no (a : Option Addr) (n cap : Nat) (F T : Nat → Int) (w : World) (hS : Sps w a n F T) (hw : (wrongE F T n != 0) = true) :
    Calls Try.prog 39 #[.slice a n cap] w fun e w' => e = .returned (.tuple #[.pointer none, .int .i64 (wrongE F T n)]) ∧ Below w.heap.size w w' := by
  by_cases hz : rowE F T n = 0
  · have hn : n ≤ 32 := by
      rcases Nat.lt_or_ge 32 n with h | h
      · rw [rowE_long h] at hz; cases hz
      · exact h
    have hg : good F T n = true := by
      cases h : good F T n with
      | true => rfl
      | false => rw [rowE_bad hn h] at hz; cases hz
    have hwk : weekB T n = false := by
      cases h : weekB T n with
      | false => rfl
      | true => unfold wrongE at hw; rw [if_pos hz, if_pos h] at hw; cases hw
    have he : wrongE F T n = 2 := by unfold wrongE; rw [if_pos hz, if_neg (by rw [hwk]; simp)]
    rw [he]
    cases n with
    | zero => cases hwk
    | succ p =>
      have hlong : 604800 < T p := by
        rcases Int.lt_or_le 604800 (T p) with h | h
        · exact h
        · exfalso
          have : weekB T (p + 1) = true := (weekB_iff _).2 fun k hk => by
            by_cases e : k = p
            · subst e; exact h
            · have h1 := good_order hg p k (by omega) (by omega)
              have h2 := (good_at hg (show p < p + 1 by omega)).2.1
              omega
          rw [this] at hwk; cases hwk
      exact new_long a p cap F T w hS hn hg hlong
  · have he : wrongE F T n = rowE F T n := by unfold wrongE; rw [if_neg hz]
    rw [he]
    exact new_bad a n cap F T w hS (by simpa using hz)
end Go.Proofs.Ythnnbmofpmedhaa
