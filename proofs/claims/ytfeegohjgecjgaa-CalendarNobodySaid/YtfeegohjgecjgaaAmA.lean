/- An almanac in memory; the search for the first span that ends behind an instant; closed, after. -/
import Derived.Test.YtfeegohjgecjgaaSpS
import Derived.Test.YtfeegohjgecjgaaOwB
namespace Go.Proofs.Ytfeegohjgecjgaa
open Go.RowKit

/-- How many spans end up to t. -/
def idx (T : Nat → Int) (t : Int) : Nat → Nat
  | 0 => 0
  | n + 1 => if T n ≤ t then n + 1 else idx T t n
theorem idx_le (T : Nat → Int) (t : Int) : ∀ n, idx T t n ≤ n := by
  intro n
  induction n with
  | zero => exact Nat.le_refl _
  | succ n ih => simp only [idx]; split <;> omega
theorem idx_hi {T : Nat → Int} {t : Int} : ∀ n j, idx T t n ≤ j → j < n → t < T j := by
  intro n
  induction n with
  | zero => intro j _ h; omega
  | succ n ih =>
    intro j h1 h2
    simp only [idx] at h1
    split at h1
    · omega
    · by_cases e : j = n
      · subst e; omega
      · exact ih j h1 (by omega)
theorem idx_top {T : Nat → Int} {t : Int} : ∀ n, 0 < idx T t n → T (idx T t n - 1) ≤ t := by
  intro n
  induction n with
  | zero => intro h; simp [idx] at h
  | succ n ih =>
    intro h
    simp only [idx] at h ⊢
    split
    · simpa using by assumption
    · rename_i hc
      rw [if_neg hc] at h
      exact ih h
theorem good_mono {F T : Nat → Int} {n : Nat} (hg : good F T n = true) : ∀ j k, j ≤ k → k < n → T j ≤ T k := fun j k hjk hk => by
  by_cases e : j = k
  · subst e; exact Int.le_refl _
  · have := good_order hg k j (by omega) hk
    have := (good_at hg hk).2.1
    omega
theorem idx_lo {F T : Nat → Int} {t : Int} {n : Nat} (hg : good F T n = true) : ∀ j, j < idx T t n → T j ≤ t := by
  intro j hj
  have h1 := idx_top n (show 0 < idx T t n by omega)
  have h2 := good_mono hg j (idx T t n - 1) (by omega) (by have := idx_le T t n; omega)
  omega
theorem idx_eq {T : Nat → Int} {t : Int} {n i : Nat} (hi : i ≤ n) (hlo : ∀ j, j < i → T j ≤ t) (hhi : ∀ j, i ≤ j → j < n → t < T j) : i = idx T t n := by
  rcases Nat.lt_trichotomy i (idx T t n) with h | h | h
  · have h1 := idx_top n (show 0 < idx T t n by omega)
    have h2 := hhi (idx T t n - 1) (by omega) (by have := idx_le T t n; omega)
    omega
  · exact h
  · have h1 := hlo (idx T t n) h
    have h2 := idx_hi (t := t) n (idx T t n) (Nat.le_refl _) (by omega)
    omega

/-- An almanac: none, or one in its block; its row. -/
structure Alm (p : Option Addr) (a : Option Addr) (n c : Nat) (F T : Nat → Int) (w : World) : Prop where
  mem : (p = none ∧ a = none ∧ n = 0 ∧ c = 0) ∨ ∃ A, p = some ⟨A, 0, none⟩ ∧ w.cell? ⟨A, 0, none⟩ = some (.slice a n c)
  sps : Sps w a n F T
  cap : n ≤ c
  len : n ≤ 32
  good : good F T n = true
theorem Alm.kept {p a : Option Addr} {n c : Nat} {F T : Nat → Int} {w w' : World} (h : Alm p a n c F T w) (hb : Below w.heap.size w w') : Alm p a n c F T w' := by
  refine ⟨?_, h.sps.kept hb, h.cap, h.len, h.good⟩
  rcases h.mem with h | ⟨A, hp, hc⟩
  · exact .inl h
  · exact .inr ⟨A, hp, (hb.cell (p := ⟨A, 0, none⟩) (cell_spot hc).2).trans hc⟩

theorem closed_any {p a : Option Addr} {n c : Nat} {F T : Nat → Int} {w : World} (h : Alm p a n c F T w) :
    Calls Try.prog 51 #[.pointer p] w fun e w' => e = .returned (.slice a n c) ∧ w = w' := by
  rcases h.mem with ⟨rfl, rfl, rfl, rfl⟩ | ⟨A, rfl, hc⟩
  · go_enter Try.func51, Try.ntmps51
    go_wp2
    go_ret
    exact ⟨rfl, rfl⟩
  · go_enter Try.func51, Try.ntmps51
    go_wp2
    go_ret
    exact ⟨rfl, rfl⟩

set_option maxRecDepth 100000 in
/-- The function that the search asks. -/
theorem asked_after (tb lb k : Nat) (a : Option Addr) (n c : Nat) (F T : Nat → Int) (t : Int) (w : World) (ht : w.cell? ⟨tb, 0, none⟩ = some (.int .i64 t)) (hl : w.cell? ⟨lb, 0, none⟩ = some (.slice a n c)) (hS : Sps w a n F T) (hk : k < n) :
    Calls Try.prog 75 #[.int .i64 k, .pointer (some ⟨tb, 0, none⟩), .pointer (some ⟨lb, 0, none⟩)] w fun e w' => e = .returned (.bool (decide (t < T k))) ∧ ∃ q, w' = w.drewN q := by
  obtain ⟨ab, ao, rfl, hab, c0, c1, _⟩ := hS.at (Below.refl _ _) k hk
  have k0 : (0 : Int) ≤ (k : Int) := by omega
  have kl : (k : Int) < (n : Int) := by omega
  obtain ⟨u, hu⟩ : ∃ u, T k = u := ⟨_, rfl⟩
  rw [hu] at c1 ⊢
  obtain ⟨b, hb⟩ : ∃ b, decide (t < u) = b := ⟨_, rfl⟩
  rw [hb]
  clear hS hu c0
  go_enter Try.func75, Try.ntmps75
  go_wp2_with fail
  go_quiet (fail)
  go_wp2_with fail
  go_ret
  exact ⟨rfl, _, rfl⟩

set_option maxRecDepth 100000 in
set_option maxHeartbeats 4000000 in
theorem search_after (tb lb : Nat) (a : Option Addr) (n c : Nat) (F T : Nat → Int) (t : Int) (w : World) (ht : w.cell? ⟨tb, 0, none⟩ = some (.int .i64 t)) (hl : w.cell? ⟨lb, 0, none⟩ = some (.slice a n c)) (hS : Sps w a n F T) (hn : n ≤ 32) (hg : good F T n = true) :
    Calls Try.prog 74 #[.int .i64 n, .func (.func 75) #[] #[.pointer (some ⟨tb, 0, none⟩), .pointer (some ⟨lb, 0, none⟩)]] w fun e w' => e = .returned (.int .i64 (idx T t n : Nat)) ∧ ∃ q, w' = w.drewN q := by
  have HB := Lib.hid (fun k q (hk : k < n) => asked_after tb lb k a n c F T t (w.drewN q) ht hl (hS.kept ⟨rfl, rfl, rfl, Nat.le_refl _, fun _ _ => rfl⟩) hk)
  have HM := Lib.hid (good_mono hg)
  clear ht hl hS hg
  go_enter Try.func74, Try.ntmps74
  go_wp2_with fail
  go_loopw [5, 6] (fun i j wr => ∃ (x y : Nat), i = .int .i64 x ∧ j = .int .i64 y ∧ x ≤ y ∧ y ≤ n ∧ (∀ k, k < x → T k ≤ t) ∧ (∀ k, y ≤ k → k < n → t < T k) ∧ ∃ q, wr = w.drewN q) (fun i j _ => (intOf j).toNat - (intOf i).toNat)
  case atStart => exact ⟨0, n, rfl, rfl, Nat.zero_le _, Nat.le_refl _, fun k h => by omega, fun k h1 h2 => by omega, 0, rfl⟩
  case round =>
    obtain ⟨x, y, rfl, rfl, hxy, hyn, hlo, hhi, q, rfl⟩ := hrel
    have HLO := Lib.hid hlo
    have HHI := Lib.hid hhi
    clear hlo hhi
    by_cases hlt : x < y
    · have d1 : decide ((x : Int) < (y : Int)) = true := by simp [hlt]
      have x0 : (0 : Int) ≤ (x : Int) := by omega
      have y0 : (0 : Int) ≤ (y : Int) := by omega
      have y1 : (y : Int) ≤ 32 := by omega
      have x1 : (x : Int) ≤ 32 := by omega
      go_wp2_with fail
      obtain ⟨m, hm⟩ : ∃ m : Nat, ((x : Int) + (y : Int)) / 2 = (m : Int) := ⟨(x + y) / 2, by omega⟩
      rw [hm]
      have hxm : x ≤ m := by omega
      have hmy : m < y := by omega
      clear hm
      have hb := HB.out m q (by omega)
      obtain ⟨b, hd⟩ : ∃ b, decide (t < T m) = b := ⟨_, rfl⟩
      rw [hd] at hb
      have m0 : (0 : Int) ≤ (m : Int) := by omega
      have m1 : (m : Int) ≤ 32 := by omega
      cases b
      · have hf := of_decide_eq_false hd
        have HF := Lib.hid hf
        clear hd hf
        go_wp2_with fail
        refine hb.mono ?_
        rintro e w1 ⟨rfl, q1, rfl⟩
        clear hb
        go_wp2_with fail
        go_roundw
        case rel => exact ⟨m + 1, y, by go_num, rfl, by omega, hyn, (fun k hk => by
          have h1 := HM.out k m (by omega) (by omega)
          have h2 := HF.out
          omega), HHI.out, _, rfl⟩
        case measure => simp [intOf]; omega
      · have ht := of_decide_eq_true hd
        have HF := Lib.hid ht
        clear hd ht
        go_wp2_with fail
        refine hb.mono ?_
        rintro e w1 ⟨rfl, q1, rfl⟩
        clear hb
        go_wp2_with fail
        go_roundw
        case rel => exact ⟨x, m, rfl, rfl, hxm, by omega, HLO.out, (fun k h1 h2 => by
          have h3 := HM.out m k h1 h2
          have h4 := HF.out
          omega), _, rfl⟩
        case measure => simp [intOf]; omega
    · obtain rfl : x = y := by omega
      go_wp2_with fail
      go_ret
      exact ⟨ret_int (by rw [idx_eq hyn HLO.out HHI.out]), q, rfl⟩
end Go.Proofs.Ytfeegohjgecjgaa
