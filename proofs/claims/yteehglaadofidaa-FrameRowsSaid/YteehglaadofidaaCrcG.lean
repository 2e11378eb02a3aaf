/- The 24-bit checksum is linear, and its step loses nothing: so a burst of at most 24 bits never leaves it as it was. -/
import Derived.Test.YteehglaadofidaaCrcA
namespace Go.Proofs.Yteehglaadofidaa

theorem xlc (a b c : Nat) : a ^^^ (b ^^^ c) = b ^^^ (a ^^^ c) := by rw [← Nat.xor_assoc, Nat.xor_comm a b, Nat.xor_assoc]
theorem xcancel (a b : Nat) : a ^^^ (b ^^^ a) = b := by rw [Nat.xor_comm b a, ← Nat.xor_assoc, Nat.xor_self, Nat.zero_xor]
theorem xcancel' (a b : Nat) : a ^^^ (b ^^^ a) = b := xcancel a b
theorem xzero {a b : Nat} (h : a ^^^ b = 0) : a = b := by
  have : (a ^^^ b) ^^^ b = b := by rw [h, Nat.zero_xor]
  rwa [Nat.xor_assoc, Nat.xor_self, Nat.xor_zero] at this
theorem onN_cons (x c : Nat) (l : List Nat) : onN x (c :: l) = onN (by8 x c) l := by simp only [onN, List.foldl_cons]
theorem onN_nil (x : Nat) : onN x [] = x := by simp only [onN, List.foldl_nil]
theorem two_xor (a b : Nat) : 2 * (a ^^^ b) = 2 * a ^^^ 2 * b := by
  have := Nat.shiftLeft_xor_distrib (a := a) (b := b) (i := 1)
  simpa [Nat.shiftLeft_eq, Nat.mul_comm] using this
theorem mul_xor (a b : Nat) : (a ^^^ b) * 65536 = a * 65536 ^^^ b * 65536 := by
  have := Nat.shiftLeft_xor_distrib (a := a) (b := b) (i := 16)
  simpa [Nat.shiftLeft_eq] using this
theorem bit23 (r : Nat) (h : r < 16777216) : r.testBit 23 = decide (16777215 < 2 * r) := by
  rw [Nat.testBit_eq_decide_div_mod_eq]
  rw [decide_eq_decide]
  omega
theorem sh_bit (r : Nat) (h : r < 16777216) : sh r = 2 * r ^^^ (if r.testBit 23 then 25578747 else 0) := by
  rw [bit23 r h]
  unfold sh
  by_cases g : 16777215 < 2 * r <;> simp [g]
theorem sh_xor (a b : Nat) (ha : a < 16777216) (hb : b < 16777216) : sh (a ^^^ b) = sh a ^^^ sh b := by
  rw [sh_bit _ (xor_lt24 ha hb), sh_bit a ha, sh_bit b hb, two_xor, Nat.testBit_xor]
  generalize 2 * a = x
  generalize 2 * b = y
  generalize 25578747 = p
  cases a.testBit 23 <;> cases b.testBit 23
  · simp
  · simp [Nat.xor_assoc]
  · simp only [Bool.xor_false, if_true, Bool.false_eq_true, if_false, Nat.xor_zero, Nat.xor_assoc]; rw [Nat.xor_comm y p]
  · simp only [Bool.xor_self, if_true, Bool.false_eq_true, if_false, Nat.xor_zero, Nat.xor_assoc]; rw [xcancel p y]
theorem sh_zero : sh 0 = 0 := by decide
theorem sh_ne (r : Nat) (h0 : r ≠ 0) : sh r ≠ 0 := by
  unfold sh
  split
  · intro e
    have := xzero e
    omega
  · omega
theorem shi_xor (n a b : Nat) (ha : a < 16777216) (hb : b < 16777216) : shi n (a ^^^ b) = shi n a ^^^ shi n b := by
  induction n with
  | zero => rfl
  | succ n ih => simp only [shi]; rw [ih, sh_xor _ _ (shi_lt n a ha) (shi_lt n b hb)]
theorem shi_ne (n a : Nat) (h : a ≠ 0) : shi n a ≠ 0 := by
  induction n with
  | zero => exact h
  | succ n ih => exact sh_ne _ ih
theorem shi_zero (n : Nat) : shi n 0 = 0 := by
  induction n with
  | zero => rfl
  | succ n ih => simp only [shi]; rw [ih]; exact sh_zero
theorem shi_add (m n a : Nat) : shi (m + n) a = shi m (shi n a) := by
  induction m with
  | zero => simp [shi]
  | succ m ih => rw [Nat.succ_add]; simp only [shi]; rw [ih]
theorem sh_small (a : Nat) (h : a < 8388608) : sh a = 2 * a := by unfold sh; rw [if_neg (by omega)]
theorem shi_small (n a : Nat) (h : a * 2 ^ n < 16777216) : shi n a = a * 2 ^ n := by
  induction n with
  | zero => simp [shi]
  | succ n ih =>
    have e : a * 2 ^ (n + 1) = 2 * (a * 2 ^ n) := by rw [Nat.pow_succ]; generalize 2 ^ n = p; rw [← Nat.mul_assoc]; omega
    simp only [shi]
    rw [ih (by omega), sh_small _ (by omega), e]
theorem by8_xor (x y c d : Nat) (hx : x < 16777216) (hy : y < 16777216) (hc : c < 256) (hd : d < 256) : by8 (x ^^^ y) (c ^^^ d) = by8 x c ^^^ by8 y d := by
  unfold by8
  rw [mul_xor, ← shi_xor 8 _ _ (xor_lt24 hx (by omega)) (xor_lt24 hy (by omega))]
  congr 1
  rw [Nat.xor_assoc, Nat.xor_assoc, xlc y (c * 65536) (d * 65536)]
theorem by8_zero (y : Nat) : by8 y 0 = shi 8 y := by unfold by8; simp
theorem onN_xor (l : List Nat) : ∀ (x y : Nat), x < 16777216 → y < 16777216 → (∀ c ∈ l, c < 256) → onN (x ^^^ y) l = onN x l ^^^ shi (8 * l.length) y := by
  induction l with
  | nil => intro x y _ _ _; simp [onN, shi]
  | cons c l ih =>
    intro x y hx hy hl
    have hc : c < 256 := hl c (by simp)
    have e := by8_xor x y c 0 hx hy hc (by omega)
    rw [Nat.xor_zero, by8_zero] at e
    rw [onN_cons, onN_cons, e, ih _ _ (by8_lt x c hx hc) (shi_lt 8 y hy) (fun d hd => hl d (by simp [hd])), ← shi_add, List.length_cons, Nat.mul_add]
/-- One byte is changed. -/
theorem onN_flip (A B : List Nat) (c d x : Nat) (hx : x < 16777216) (hA : ∀ c ∈ A, c < 256) (hB : ∀ c ∈ B, c < 256) (hc : c < 256) (hd : d < 256) :
    onN x (A ++ (c ^^^ d) :: B) = onN x (A ++ c :: B) ^^^ shi (8 * (B.length + 1)) (d * 65536) := by
  rw [onN_append, onN_append]
  have hy := onN_lt A x hx hA
  generalize onN x A = y at hy
  rw [onN_cons, onN_cons]
  have e := by8_xor y 0 c d hy (by omega) hc hd
  rw [Nat.xor_zero] at e
  have h0 : by8 0 d < 16777216 := by8_lt 0 d (by omega) hd
  rw [e, onN_xor B _ _ (by8_lt y c hy hc) h0 hB]
  have e2 : by8 0 d = shi 8 (d * 65536) := by unfold by8; simp
  rw [e2, ← shi_add, Nat.mul_add]
theorem set_split (l : List Nat) (j d : Nat) (hj : j < l.length) : l.set j (l.getD j 0 ^^^ d) = l.take j ++ (l.getD j 0 ^^^ d) :: l.drop (j + 1) ∧ l = l.take j ++ l.getD j 0 :: l.drop (j + 1) := by
  refine ⟨List.set_eq_take_append_cons_drop.trans (by rw [if_pos hj]), ?_⟩
  simp [hj]
theorem onN_set (l : List Nat) (x j d : Nat) (hx : x < 16777216) (hl : ∀ c ∈ l, c < 256) (hj : j < l.length) (hd : d < 256) :
    onN x (l.set j (l.getD j 0 ^^^ d)) = onN x l ^^^ shi (8 * (l.length - j)) (d * 65536) := by
  obtain ⟨e1, e2⟩ := set_split l j d hj
  have hc : l.getD j 0 < 256 := hl _ (by simp [hj])
  have h := onN_flip (l.take j) (l.drop (j + 1)) (l.getD j 0) d x hx (fun c h => hl c (List.mem_of_mem_take h)) (fun c h => hl c (List.mem_of_mem_drop h)) hc hd
  rw [e1, h, ← e2]
  congr 2
  simp; omega
/-- The mask of bit p of a row of bytes, as the register meets it. -/
theorem mask_shi (q : Nat) (hq : q < 8) (n i p : Nat) (hi : i < 24) (hp : p = 8 * (p / 8) + q) (h1 : i ≤ p) (h2 : p < 8 * n) :
    shi (8 * (n - p / 8)) (128 / 2 ^ q * 65536) = shi (8 * n - (p - i)) (2 ^ (23 - i)) := by
  have e1 : shi q (128 / 2 ^ q * 65536) = 8388608 := by
    have : q = 0 ∨ q = 1 ∨ q = 2 ∨ q = 3 ∨ q = 4 ∨ q = 5 ∨ q = 6 ∨ q = 7 := by omega
    rcases this with rfl | rfl | rfl | rfl | rfl | rfl | rfl | rfl <;> decide
  have e2 : shi i (2 ^ (23 - i)) = 8388608 := by
    have h : 2 ^ (23 - i) * 2 ^ i = 8388608 := by rw [← Nat.pow_add, Nat.sub_add_cancel (by omega)]
    rw [shi_small i _ (by omega), h]
  have e3 : 8 * (n - p / 8) = (8 * n - p) + q := by omega
  have e4 : 8 * n - (p - i) = (8 * n - p) + i := by omega
  rw [e3, e4, shi_add, shi_add, e1, e2]

/-- The bits of a burst, the first the highest. -/
def burst (t : Nat) : Nat → Nat
  | 0 => 0
  | k + 1 => if t.testBit k then burst t k ^^^ 2 ^ (23 - k) else burst t k
theorem burst_lt (t k : Nat) (hk : k ≤ 24) : burst t k < 16777216 := by
  induction k with
  | zero => simp [burst]
  | succ k ih =>
    unfold burst
    have := ih (by omega)
    have h2 : 2 ^ (23 - k) < 16777216 := by
      have : 2 ^ (23 - k) ≤ 2 ^ 23 := Nat.pow_le_pow_right (by omega) (by omega)
      omega
    split
    · exact xor_lt24 this h2
    · exact this
theorem burst_bit (t k i : Nat) (hk : k ≤ 24) (hi : i < 24) : (burst t k).testBit (23 - i) = (decide (i < k) && t.testBit i) := by
  induction k with
  | zero => simp [burst]
  | succ k ih =>
    have ih := ih (by omega)
    unfold burst
    by_cases e : i = k
    · subst e
      have : ¬ i < i := by omega
      simp only [this, decide_false, Bool.false_and] at ih
      by_cases g : t.testBit i
      · simp [g, Nat.testBit_xor, ih]
      · simp [g, ih]
    · have hne : ¬ (23 - k = 23 - i) := by omega
      have hlt : decide (i < k + 1) = decide (i < k) := by rw [decide_eq_decide]; omega
      rw [hlt]
      split
      · rw [Nat.testBit_xor, ih, Nat.testBit_two_pow_of_ne hne]; simp
      · exact ih
theorem burst_ne (t : Nat) (h : t % 16777216 ≠ 0) : burst t 24 ≠ 0 := by
  intro e
  apply h
  have : t % 2 ^ 24 = 0 := by
    apply Nat.eq_of_testBit_eq
    intro i
    rw [Nat.testBit_mod_two_pow, Nat.zero_testBit]
    by_cases hi : i < 24
    · have := burst_bit t 24 i (by omega) hi
      rw [e, Nat.zero_testBit] at this
      simpa [hi] using this.symm
    · simp [hi]
  simpa using this
theorem top_xor (c y : Nat) (hy : y < 65536) : (c * 65536 + y) ^^^ c * 65536 = y := by
  have e : c * 65536 + y = c * 65536 ^^^ y := by
    apply Nat.eq_of_testBit_eq
    intro i
    have h2 : c * 65536 = 2 ^ 16 * c := Nat.mul_comm c (2 ^ 16)
    rw [h2, Nat.testBit_two_pow_mul_add _ (by omega), Nat.testBit_xor, Nat.testBit_two_pow_mul]
    by_cases hi : i < 16
    · have : ¬ 16 ≤ i := by omega
      simp [hi, this]
    · have h16 : 16 ≤ i := by omega
      have : y.testBit i = false := Nat.testBit_lt_two_pow (Nat.lt_of_lt_of_le (show y < 2 ^ 16 by omega) (Nat.pow_le_pow_right (by omega) h16))
      simp [hi, h16, this]
  rw [e, Nat.xor_assoc, xcancel' (c * 65536) y]
theorem by8_top (c y : Nat) (hy : y < 65536) : by8 (c * 65536 + y) c = y * 256 := by
  have h := shi_small 8 y (by omega)
  have h2 : (2 : Nat) ^ 8 = 256 := rfl
  rw [h2] at h
  unfold by8
  rw [top_xor c y hy, h]
/-- Behind its own three bytes the register is 0. -/
theorem onN_own (c0 c1 c2 : Nat) (h0 : c0 < 256) (h1 : c1 < 256) (h2 : c2 < 256) : onN (c0 * 65536 + c1 * 256 + c2) [c0, c1, c2] = 0 := by
  have h : c0 * 65536 + c1 * 256 + c2 = c0 * 65536 + (c1 * 256 + c2) := Nat.add_assoc _ _ _
  rw [h, onN_cons, onN_cons, onN_cons, onN_nil, by8_top c0 _ (by omega), Nat.add_mul, Nat.mul_assoc c1, by8_top c1 _ (by omega), Nat.mul_assoc c2]
  have := by8_top c2 0 (by omega)
  rwa [Nat.add_zero, Nat.zero_mul] at this
end Go.Proofs.Yteehglaadofidaa
