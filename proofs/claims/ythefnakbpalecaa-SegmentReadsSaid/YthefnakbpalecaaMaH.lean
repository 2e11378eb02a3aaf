import Derived.Test.YthefnakbpalecaaMaC
import Derived.Deep.RegionWith
namespace Go.Proofs.Ythefnakbpalecaa
open Go.RowKit
/- The 24-bit checksum is linear, and its step loses nothing: so a burst of at most 24 bits never leaves it as it was. -/

theorem xlc (a b c : Nat) : a ^^^ (b ^^^ c) = b ^^^ (a ^^^ c) := by rw [← Nat.xor_assoc, Nat.xor_comm a b, Nat.xor_assoc]
theorem xcancel (a b : Nat) : a ^^^ (b ^^^ a) = b := by rw [Nat.xor_comm b a, ← Nat.xor_assoc, Nat.xor_self, Nat.zero_xor]
theorem xcancel' (a b : Nat) : a ^^^ (b ^^^ a) = b := xcancel a b
theorem xzero {a b : Nat} (h : a ^^^ b = 0) : a = b := by
  have : (a ^^^ b) ^^^ b = b := by rw [h, Nat.zero_xor]
  rwa [Nat.xor_assoc, Nat.xor_self, Nat.xor_zero] at this
theorem onN_cons (x c : Nat) (l : List Nat) : onN x (c :: l) = onN (by8 x c) l := by simp only [onN, List.foldl_cons]
theorem onN_nil (x : Nat) : onN x [] = x := by simp only [onN, List.foldl_nil]
theorem two_xor (a b : Nat) : 2 * (a ^^^ b) = 2 * a ^^^ 2 * b := by
  have := Nat.shiftLeft_xor_distrib (a := a) (b := b) (i := 1)
  simpa [Nat.shiftLeft_eq, Nat.mul_comm] using this
theorem mul_xor (a b : Nat) : (a ^^^ b) * 65536 = a * 65536 ^^^ b * 65536 := by
  have := Nat.shiftLeft_xor_distrib (a := a) (b := b) (i := 16)
  simpa [Nat.shiftLeft_eq] using this
theorem bit23 (r : Nat) (h : r < 16777216) : r.testBit 23 = decide (16777215 < 2 * r) := by
  rw [Nat.testBit_eq_decide_div_mod_eq]
  rw [decide_eq_decide]
  omega
theorem sh_bit (r : Nat) (h : r < 16777216) : sh r = 2 * r ^^^ (if r.testBit 23 then 25578747 else 0) := by
  rw [bit23 r h]
  unfold sh
  by_cases g : 16777215 < 2 * r <;> simp [g]
theorem sh_xor (a b : Nat) (ha : a < 16777216) (hb : b < 16777216) : sh (a ^^^ b) = sh a ^^^ sh b := by
  rw [sh_bit _ (xor_lt24 ha hb), sh_bit a ha, sh_bit b hb, two_xor, Nat.testBit_xor]
  generalize 2 * a = x
  generalize 2 * b = y
  generalize 25578747 = p
  cases a.testBit 23 <;> cases b.testBit 23
  · simp
  · simp [Nat.xor_assoc]
  · simp only [Bool.xor_false, if_true, Bool.false_eq_true, if_false, Nat.xor_zero, Nat.xor_assoc]; rw [Nat.xor_comm y p]
  · simp only [Bool.xor_self, if_true, Bool.false_eq_true, if_false, Nat.xor_zero, Nat.xor_assoc]; rw [xcancel p y]
theorem sh_zero : sh 0 = 0 := by decide
theorem sh_ne (r : Nat) (h0 : r ≠ 0) : sh r ≠ 0 := by
  unfold sh
  split
  · intro e
    have := xzero e
    omega
  · omega
theorem shi_xor (n a b : Nat) (ha : a < 16777216) (hb : b < 16777216) : shi n (a ^^^ b) = shi n a ^^^ shi n b := by
  induction n with
  | zero => rfl
  | succ n ih => simp only [shi]; rw [ih, sh_xor _ _ (shi_lt n a ha) (shi_lt n b hb)]
theorem shi_ne (n a : Nat) (h : a ≠ 0) : shi n a ≠ 0 := by
  induction n with
  | zero => exact h
  | succ n ih => exact sh_ne _ ih
theorem shi_zero (n : Nat) : shi n 0 = 0 := by
  induction n with
  | zero => rfl
  | succ n ih => simp only [shi]; rw [ih]; exact sh_zero
theorem shi_add (m n a : Nat) : shi (m + n) a = shi m (shi n a) := by
  induction m with
  | zero => simp [shi]
  | succ m ih => rw [Nat.succ_add]; simp only [shi]; rw [ih]
theorem sh_small (a : Nat) (h : a < 8388608) : sh a = 2 * a := by unfold sh; rw [if_neg (by omega)]
theorem shi_small (n a : Nat) (h : a * 2 ^ n < 16777216) : shi n a = a * 2 ^ n := by
  induction n with
  | zero => simp [shi]
  | succ n ih =>
    have e : a * 2 ^ (n + 1) = 2 * (a * 2 ^ n) := by rw [Nat.pow_succ]; generalize 2 ^ n = p; rw [← Nat.mul_assoc]; omega
    simp only [shi]
    rw [ih (by omega), sh_small _ (by omega), e]
theorem by8_xor (x y c d : Nat) (hx : x < 16777216) (hy : y < 16777216) (hc : c < 256) (hd : d < 256) : by8 (x ^^^ y) (c ^^^ d) = by8 x c ^^^ by8 y d := by
  unfold by8
  rw [mul_xor, ← shi_xor 8 _ _ (xor_lt24 hx (by omega)) (xor_lt24 hy (by omega))]
  congr 1
  rw [Nat.xor_assoc, Nat.xor_assoc, xlc y (c * 65536) (d * 65536)]
theorem by8_zero (y : Nat) : by8 y 0 = shi 8 y := by unfold by8; simp
theorem onN_xor (l : List Nat) : ∀ (x y : Nat), x < 16777216 → y < 16777216 → (∀ c ∈ l, c < 256) → onN (x ^^^ y) l = onN x l ^^^ shi (8 * l.length) y := by
  induction l with
  | nil => intro x y _ _ _; simp [onN, shi]
  | cons c l ih =>
    intro x y hx hy hl
    have hc : c < 256 := hl c (by simp)
    have e := by8_xor x y c 0 hx hy hc (by omega)
    rw [Nat.xor_zero, by8_zero] at e
    rw [onN_cons, onN_cons, e, ih _ _ (by8_lt x c hx hc) (shi_lt 8 y hy) (fun d hd => hl d (by simp [hd])), ← shi_add, List.length_cons, Nat.mul_add]
/-- One byte is changed. -/
theorem onN_flip (A B : List Nat) (c d x : Nat) (hx : x < 16777216) (hA : ∀ c ∈ A, c < 256) (hB : ∀ c ∈ B, c < 256) (hc : c < 256) (hd : d < 256) :
    onN x (A ++ (c ^^^ d) :: B) = onN x (A ++ c :: B) ^^^ shi (8 * (B.length + 1)) (d * 65536) := by
  rw [onN_append, onN_append]
  have hy := onN_lt A x hx hA
  generalize onN x A = y at hy
  rw [onN_cons, onN_cons]
  have e := by8_xor y 0 c d hy (by omega) hc hd
  rw [Nat.xor_zero] at e
  have h0 : by8 0 d < 16777216 := by8_lt 0 d (by omega) hd
  rw [e, onN_xor B _ _ (by8_lt y c hy hc) h0 hB]
  have e2 : by8 0 d = shi 8 (d * 65536) := by unfold by8; simp
  rw [e2, ← shi_add, Nat.mul_add]
theorem set_split (l : List Nat) (j d : Nat) (hj : j < l.length) : l.set j (l.getD j 0 ^^^ d) = l.take j ++ (l.getD j 0 ^^^ d) :: l.drop (j + 1) ∧ l = l.take j ++ l.getD j 0 :: l.drop (j + 1) := by
  refine ⟨List.set_eq_take_append_cons_drop.trans (by rw [if_pos hj]), ?_⟩
  simp [hj]
theorem onN_set (l : List Nat) (x j d : Nat) (hx : x < 16777216) (hl : ∀ c ∈ l, c < 256) (hj : j < l.length) (hd : d < 256) :
    onN x (l.set j (l.getD j 0 ^^^ d)) = onN x l ^^^ shi (8 * (l.length - j)) (d * 65536) := by
  obtain ⟨e1, e2⟩ := set_split l j d hj
  have hc : l.getD j 0 < 256 := hl _ (by simp [hj])
  have h := onN_flip (l.take j) (l.drop (j + 1)) (l.getD j 0) d x hx (fun c h => hl c (List.mem_of_mem_take h)) (fun c h => hl c (List.mem_of_mem_drop h)) hc hd
  rw [e1, h, ← e2]
  congr 2
  simp; omega
/-- The mask of bit p of a row of bytes, as the register meets it. -/
theorem mask_shi (q : Nat) (hq : q < 8) (n i p : Nat) (hi : i < 24) (hp : p = 8 * (p / 8) + q) (h1 : i ≤ p) (h2 : p < 8 * n) :
    shi (8 * (n - p / 8)) (128 / 2 ^ q * 65536) = shi (8 * n - (p - i)) (2 ^ (23 - i)) := by
  have e1 : shi q (128 / 2 ^ q * 65536) = 8388608 := by
    have : q = 0 ∨ q = 1 ∨ q = 2 ∨ q = 3 ∨ q = 4 ∨ q = 5 ∨ q = 6 ∨ q = 7 := by omega
    rcases this with rfl | rfl | rfl | rfl | rfl | rfl | rfl | rfl <;> decide
  have e2 : shi i (2 ^ (23 - i)) = 8388608 := by
    have h : 2 ^ (23 - i) * 2 ^ i = 8388608 := by rw [← Nat.pow_add, Nat.sub_add_cancel (by omega)]
    rw [shi_small i _ (by omega), h]
  have e3 : 8 * (n - p / 8) = (8 * n - p) + q := by omega
  have e4 : 8 * n - (p - i) = (8 * n - p) + i := by omega
  rw [e3, e4, shi_add, shi_add, e1, e2]

/-- The bits of a burst, the first the highest. -/
def burst (t : Nat) : Nat → Nat
  | 0 => 0
  | k + 1 => if t.testBit k then burst t k ^^^ 2 ^ (23 - k) else burst t k
theorem burst_lt (t k : Nat) (hk : k ≤ 24) : burst t k < 16777216 := by
  induction k with
  | zero => simp [burst]
  | succ k ih =>
    unfold burst
    have := ih (by omega)
    have h2 : 2 ^ (23 - k) < 16777216 := by
      have : 2 ^ (23 - k) ≤ 2 ^ 23 := Nat.pow_le_pow_right (by omega) (by omega)
      omega
    split
    · exact xor_lt24 this h2
    · exact this
theorem burst_bit (t k i : Nat) (hk : k ≤ 24) (hi : i < 24) : (burst t k).testBit (23 - i) = (decide (i < k) && t.testBit i) := by
  induction k with
  | zero => simp [burst]
  | succ k ih =>
    have ih := ih (by omega)
    unfold burst
    by_cases e : i = k
    · subst e
      have : ¬ i < i := by omega
      simp only [this, decide_false, Bool.false_and] at ih
      by_cases g : t.testBit i
      · simp [g, Nat.testBit_xor, ih]
      · simp [g, ih]
    · have hne : ¬ (23 - k = 23 - i) := by omega
      have hlt : decide (i < k + 1) = decide (i < k) := by rw [decide_eq_decide]; omega
      rw [hlt]
      split
      · rw [Nat.testBit_xor, ih, Nat.testBit_two_pow_of_ne hne]; simp
      · exact ih
theorem burst_ne (t : Nat) (h : t % 16777216 ≠ 0) : burst t 24 ≠ 0 := by
  intro e
  apply h
  have : t % 2 ^ 24 = 0 := by
    apply Nat.eq_of_testBit_eq
    intro i
    rw [Nat.testBit_mod_two_pow, Nat.zero_testBit]
    by_cases hi : i < 24
    · have := burst_bit t 24 i (by omega) hi
      rw [e, Nat.zero_testBit] at this
      simpa [hi] using this.symm
    · simp [hi]
  simpa using this
theorem top_xor (c y : Nat) (hy : y < 65536) : (c * 65536 + y) ^^^ c * 65536 = y := by
  have e : c * 65536 + y = c * 65536 ^^^ y := by
    apply Nat.eq_of_testBit_eq
    intro i
    have h2 : c * 65536 = 2 ^ 16 * c := Nat.mul_comm c (2 ^ 16)
    rw [h2, Nat.testBit_two_pow_mul_add _ (by omega), Nat.testBit_xor, Nat.testBit_two_pow_mul]
    by_cases hi : i < 16
    · have : ¬ 16 ≤ i := by omega
      simp [hi, this]
    · have h16 : 16 ≤ i := by omega
      have : y.testBit i = false := Nat.testBit_lt_two_pow (Nat.lt_of_lt_of_le (show y < 2 ^ 16 by omega) (Nat.pow_le_pow_right (by omega) h16))
      simp [hi, h16, this]
  rw [e, Nat.xor_assoc, xcancel' (c * 65536) y]
theorem by8_top (c y : Nat) (hy : y < 65536) : by8 (c * 65536 + y) c = y * 256 := by
  have h := shi_small 8 y (by omega)
  have h2 : (2 : Nat) ^ 8 = 256 := rfl
  rw [h2] at h
  unfold by8
  rw [top_xor c y hy, h]
/-- Behind its own three bytes the register is 0. -/
theorem onN_own (c0 c1 c2 : Nat) (h0 : c0 < 256) (h1 : c1 < 256) (h2 : c2 < 256) : onN (c0 * 65536 + c1 * 256 + c2) [c0, c1, c2] = 0 := by
  have h : c0 * 65536 + c1 * 256 + c2 = c0 * 65536 + (c1 * 256 + c2) := Nat.add_assoc _ _ _
  rw [h, onN_cons, onN_cons, onN_cons, onN_nil, by8_top c0 _ (by omega), Nat.add_mul, Nat.mul_assoc c1, by8_top c1 _ (by omega), Nat.mul_assoc c2]
  have := by8_top c2 0 (by omega)
  rwa [Nat.add_zero, Nat.zero_mul] at this
/- Plain facts of sealed bytes: what fits, and strings of bytes. -/
open Go.RowKit
theorem own_x (x : Nat) (hx : x < 16777216) : onN x [x / 65536, x / 256 % 256, x % 256] = 0 := by
  have h := onN_own (x / 65536) (x / 256 % 256) (x % 256) (by omega) (by omega) (by omega)
  have e : x / 65536 * 65536 + x / 256 % 256 * 256 + x % 256 = x := by omega
  exact Eq.subst (motive := fun y => onN y [x / 65536, x / 256 % 256, x % 256] = 0) e h
theorem onN_sealed (bs : List Nat) (h : ∀ c ∈ bs, c < 256) : onN 11994318 (bs ++ top bs) = 0 := by
  have hx := onN_lt bs 11994318 (by omega) h
  have := own_x _ hx
  rw [onN_append, top, this]
theorem split3 (l : List Nat) (m : Nat) (h : l.length = m + 3) : l = l.take m ++ [l.getD m 0, l.getD (m + 1) 0, l.getD (m + 2) 0] := by
  have d0 := List.drop_eq_getElem_cons (l := l) (i := m) (by omega)
  have d1 := List.drop_eq_getElem_cons (l := l) (i := m + 1) (by omega)
  have d2 := List.drop_eq_getElem_cons (l := l) (i := m + 2) (by omega)
  have d3 : l.drop (m + 2 + 1) = [] := List.drop_eq_nil_of_le (by omega)
  have g : ∀ i (hi : i < l.length), l.getD i 0 = l[i] := fun i hi => by simp [hi]
  rw [g m (by omega), g (m + 1) (by omega), g (m + 2) (by omega), ← d3, ← d2, ← d1, ← d0, List.take_append_drop]
/-- A row of bytes behind which the register isn't 0 is not opened. -/
theorem not_fits (l : List Nat) (m : Nat) (h : l.length = m + 3) (hl : ∀ c ∈ l, c < 256) (h0 : onN 11994318 l ≠ 0) :
    onN 11994318 (l.take m) ≠ l.getD m 0 * 65536 + l.getD (m + 1) 0 * 256 + l.getD (m + 2) 0 := by
  intro e
  apply h0
  have hb : ∀ i, i < l.length → l.getD i 0 < 256 := fun i hi => hl _ (by simp [hi])
  rw [split3 l m h, onN_append, e]
  exact onN_own _ _ _ (hb _ (by omega)) (hb _ (by omega)) (hb _ (by omega))

theorem str_list (a : List Nat) : (str a).toList = a.map UInt8.ofNat := by
  rw [ByteArray.toList_eq]; rfl
theorem ofNat_inj : ∀ (a b : List Nat), (∀ c ∈ a, c < 256) → (∀ c ∈ b, c < 256) → a.map UInt8.ofNat = b.map UInt8.ofNat → a = b
  | [], [], _, _, _ => rfl
  | [], _ :: _, _, _, h => by simp at h
  | _ :: _, [], _, _, h => by simp at h
  | x :: a, y :: b, ha, hb, h => by
    simp only [List.map_cons, List.cons.injEq] at h
    have h1 := congrArg UInt8.toNat h.1
    have hx := ha x (by simp)
    have hy := hb y (by simp)
    rw [UInt8.toNat_ofNat', UInt8.toNat_ofNat'] at h1
    have hxy : x = y := by omega
    rw [hxy, ofNat_inj a b (fun c hc => ha c (by simp [hc])) (fun c hc => hb c (by simp [hc])) h.2]
theorem str_ne {a b : List Nat} (ha : ∀ c ∈ a, c < 256) (hb : ∀ c ∈ b, c < 256) (h : a ≠ b) : ((str a).toList == (str b).toList) = false := by
  rw [str_list, str_list]
  simpa using fun e => h (ofNat_inj a b ha hb e)
theorem fits_iff (bs : List Nat) (m : Nat) (hl : bs.length = m + 3) (hb : ∀ c ∈ bs, c < 256) :
    onN 11994318 (bs.take m) = bs.getD m 0 * 65536 + bs.getD (m + 1) 0 * 256 + bs.getD (m + 2) 0 ↔ bs.take m ++ top (bs.take m) = bs := by
  have hbi : ∀ i, i < bs.length → bs.getD i 0 < 256 := fun i hi => hb _ (by simp [hi])
  have h0 := hbi m (by omega)
  have h1 := hbi (m + 1) (by omega)
  have h2 := hbi (m + 2) (by omega)
  constructor
  · intro e
    have hs := split3 bs m hl
    have ht : top (bs.take m) = [bs.getD m 0, bs.getD (m + 1) 0, bs.getD (m + 2) 0] := by
      unfold top
      rw [e]
      generalize bs.getD m 0 = x0 at *
      generalize bs.getD (m + 1) 0 = x1 at *
      generalize bs.getD (m + 2) 0 = x2 at *
      have e0 : (x0 * 65536 + x1 * 256 + x2) / 65536 = x0 := by omega
      have e1 : (x0 * 65536 + x1 * 256 + x2) / 256 % 256 = x1 := by omega
      have e2 : (x0 * 65536 + x1 * 256 + x2) % 256 = x2 := by omega
      rw [e0, e1, e2]
    rw [ht]; exact hs.symm
  · intro e
    have hlt : (bs.take m).length = m := by simp; omega
    have := top_fits (bs.take m)
    rw [hlt, e] at this
    exact this
/- The reference's way to the checksum, bit by bit, is the same. -/

def rb1 (r d : Nat) : Nat := if r / 8388608 % 2 = d then r * 2 % 16777216 else (r * 2 % 16777216) ^^^ 8801531
def refB (r c : Nat) : Nat → Nat
  | 0 => r
  | j + 1 => rb1 (refB r c j) (c / 2 ^ (7 - j) % 2)
theorem xor_add (a b n : Nat) (hb : b < 2 ^ n) : 2 ^ n * a + b = 2 ^ n * a ^^^ b := by
  apply Nat.eq_of_testBit_eq
  intro i
  rw [Nat.testBit_two_pow_mul_add _ hb, Nat.testBit_xor, Nat.testBit_two_pow_mul]
  by_cases hi : i < n
  · have : ¬ n ≤ i := by omega
    simp [hi, this]
  · have h16 : n ≤ i := by omega
    have : b.testBit i = false := Nat.testBit_lt_two_pow (Nat.lt_of_lt_of_le hb (Nat.pow_le_pow_right (by omega) h16))
    simp [hi, h16, this]
theorem xc2 (a b : Nat) : a ^^^ (a ^^^ b) = b := by rw [← Nat.xor_assoc, Nat.xor_self, Nat.zero_xor]
theorem poly_split : (25578747 : Nat) = 16777216 ^^^ 8801531 := by decide
theorem sh_high (r : Nat) (h : r < 16777216) (h1 : 8388608 ≤ r) : sh r = (r * 2 % 16777216) ^^^ 8801531 := by
  unfold sh
  rw [if_pos (by omega), poly_split, ← Nat.xor_assoc]
  congr 1
  have e := xor_add 1 (r * 2 % 16777216) 24 (by omega)
  have e2 : 2 * r = 2 ^ 24 * 1 + r * 2 % 16777216 := by omega
  rw [e2, e, Nat.xor_comm]
  exact xc2 16777216 _
theorem sh_low (r : Nat) (h1 : r < 8388608) : sh r = r * 2 % 16777216 := by
  rw [sh_small r h1]; omega
theorem xor_top23 (r : Nat) (h : r < 16777216) (h1 : 8388608 ≤ r) : r ^^^ 8388608 = r - 8388608 := by
  have e := xor_add 1 (r - 8388608) 23 (by omega)
  have e2 : r = 2 ^ 23 * 1 + (r - 8388608) := by omega
  have e3 : r = 8388608 ^^^ (r - 8388608) := e2.trans e
  generalize r - 8388608 = y at e3
  rw [e3, Nat.xor_comm]
  exact xc2 8388608 y
theorem xor_low23 (r : Nat) (h1 : r < 8388608) : r ^^^ 8388608 = r + 8388608 := by
  have e := xor_add 1 r 23 (by omega)
  rw [Nat.xor_comm]
  have e3 : 8388608 + r = 8388608 ^^^ r := e
  rw [← e3, Nat.add_comm]
theorem rb1_sh (r d : Nat) (h : r < 16777216) (hd : d < 2) : rb1 r d = sh (r ^^^ d * 8388608) := by
  unfold rb1
  by_cases h1 : 8388608 ≤ r
  · have e : r / 8388608 % 2 = 1 := by omega
    rw [e]
    by_cases hd1 : d = 1
    · subst hd1
      rw [if_pos rfl, Nat.one_mul, xor_top23 r h h1, sh_low _ (by omega)]
      omega
    · obtain rfl : d = 0 := by omega
      rw [if_neg (by omega), Nat.zero_mul, Nat.xor_zero, sh_high r h h1]
  · have e : r / 8388608 % 2 = 0 := by omega
    rw [e]
    by_cases hd1 : d = 1
    · subst hd1
      have e3 : (r + 8388608) * 2 % 16777216 = r * 2 % 16777216 := by omega
      rw [if_neg (by omega), Nat.one_mul, xor_low23 r (by omega), sh_high _ (by omega) (by omega), e3]
    · obtain rfl : d = 0 := by omega
      rw [if_pos rfl, Nat.zero_mul, Nat.xor_zero, sh_low r (by omega)]
theorem rb1_lt (r d : Nat) (h : r < 16777216) (hd : d < 2) : rb1 r d < 16777216 := by
  rw [rb1_sh r d h hd]
  exact sh_lt _ (xor_lt24 h (by omega))
theorem refB_lt (r c j : Nat) (h : r < 16777216) : refB r c j < 16777216 := by
  induction j with
  | zero => exact h
  | succ j ih => exact rb1_lt _ _ ih (Nat.mod_lt _ (by omega))
/-- One step: the highest bit that is still to come is met. -/
theorem rest_step (c j m : Nat) (hj : j + m = 7) : (c % 2 ^ (m + 1)) * 2 ^ (16 + j) = (c / 2 ^ m % 2) * 8388608 ^^^ (c % 2 ^ m) * 2 ^ (16 + j) := by
  have e1 : c % 2 ^ (m + 1) = 2 ^ m * (c / 2 ^ m % 2) + c % 2 ^ m := by
    rw [Nat.pow_succ, Nat.mod_mul, Nat.add_comm]
  have hp : (2 : Nat) ^ m * 2 ^ (16 + j) = 8388608 := by
    rw [← Nat.pow_add, show m + (16 + j) = 23 by omega]
  have hlt : (c % 2 ^ m) * 2 ^ (16 + j) < 2 ^ 23 := by
    have h1 : c % 2 ^ m < 2 ^ m := Nat.mod_lt _ (Nat.two_pow_pos m)
    have h2 := Nat.mul_lt_mul_of_pos_right h1 (Nat.two_pow_pos (16 + j))
    rw [hp] at h2
    omega
  have e := xor_add (c / 2 ^ m % 2) ((c % 2 ^ m) * 2 ^ (16 + j)) 23 hlt
  rw [e1, Nat.add_mul]
  have e4 : 2 ^ m * (c / 2 ^ m % 2) * 2 ^ (16 + j) = 2 ^ 23 * (c / 2 ^ m % 2) := by
    rw [Nat.mul_right_comm, hp]
  have e5 : (c / 2 ^ m % 2) * 8388608 = 2 ^ 23 * (c / 2 ^ m % 2) := Nat.mul_comm _ _
  rw [e4, e5]
  exact e
theorem refB_eq (r c : Nat) (h : r < 16777216) (hc : c < 256) : ∀ j m, j + m = 8 → shi j (r ^^^ c * 65536) = refB r c j ^^^ (c % 2 ^ m) * 2 ^ (16 + j) := by
  intro j
  induction j with
  | zero =>
    intro m hm
    obtain rfl : m = 8 := by omega
    have : c % 2 ^ 8 = c := Nat.mod_eq_of_lt hc
    rw [this]; rfl
  | succ j ih =>
    intro m hm
    have i := ih (m + 1) (by omega)
    have hm7 : 7 - j = m := by omega
    have hd : c / 2 ^ m % 2 < 2 := Nat.mod_lt _ (by omega)
    have hr := refB_lt r c j h
    have hlt : (c % 2 ^ m) * 2 ^ (16 + j) < 8388608 := by
      have h1 : c % 2 ^ m < 2 ^ m := Nat.mod_lt _ (Nat.two_pow_pos m)
      have h2 := Nat.mul_lt_mul_of_pos_right h1 (Nat.two_pow_pos (16 + j))
      rw [← Nat.pow_add, show m + (16 + j) = 23 by omega] at h2
      omega
    have hx : (c / 2 ^ m % 2) * 8388608 < 16777216 := by omega
    rw [shi, i, rest_step c j m (by omega), ← Nat.xor_assoc, sh_xor _ _ (xor_lt24 hr hx) (by omega), ← rb1_sh _ _ hr hd, sh_small _ hlt, refB, hm7]
    congr 1
    rw [← Nat.add_assoc, Nat.pow_succ, ← Nat.mul_assoc, Nat.mul_comm 2, Nat.mul_assoc, Nat.mul_comm 2]
theorem refB_by8 (r c : Nat) (h : r < 16777216) (hc : c < 256) : refB r c 8 = by8 r c := by
  have := refB_eq r c h hc 8 0 rfl
  rw [by8, this, Nat.pow_zero, Nat.mod_one, Nat.zero_mul, Nat.xor_zero]
/- Walks of the reference for crc24. -/
open Go.RowKit
theorem xor_poly (x : Nat) (h : x < 16777216) : bits .xor .u32 (x : Int) 8801531 = ((x ^^^ 8801531 : Nat) : Int) := by
  rw [show (8801531 : Int) = ((8801531 : Nat) : Int) from rfl, u32_xor_nat _ _ (by omega) (by omega)]
theorem byte_bit (c m : Nat) : (c : Int) / 2 ^ m = ((c / 2 ^ m : Nat) : Int) := by rw [Int.natCast_ediv, Int.natCast_pow]; rfl

set_option maxHeartbeats 400000 in
theorem refon_any (r : Nat) (v : Value) (bs : List Nat) (w : World) (hr : r < 4294967296) (hb : RB w v bs) :
    Calls Try.prog 150 #[.int .u32 (r : Nat), v] w fun e w' => e = .returned (.int .u32 ((onN (r % 16777216) bs : Nat) : Int)) ∧ w = w' := by
  have hc := hb.1
  have hm := hb.2.1
  obtain ⟨a, cap, rfl, _, _⟩ := hb.shape
  obtain ⟨len, hl⟩ : ∃ len, bs.length = len := ⟨_, rfl⟩
  rw [hl] at hb hm ⊢
  have hcase : ∀ k, k < len → ∃ b off, a = some ⟨b, off, none⟩ ∧ w.cell? ⟨b, off + k, none⟩ = some (.int .u8 ((bs.getD k 0 : Nat) : Int)) := by
    intro k hk
    obtain ⟨b, off, c, he, _, _, _, h⟩ := hb.at (by omega)
    simp only [Value.slice.injEq] at he
    exact ⟨b, off, he.1, h k (by omega)⟩
  clear hb
  have ha : (r : Int) % 16777216 = ((r % 16777216 : Nat) : Int) := by omega
  obtain ⟨q, hq⟩ : ∃ q, q = r % 16777216 := ⟨_, rfl⟩
  rw [← hq] at ha ⊢
  have hq' : q < 16777216 := by omega
  have HA := Lib.hid ha
  clear hq ha
  go_enter Try.func150, Try.ntmps150
  go_wp2
  have HL := Lib.hid hl
  have HC := Lib.hid hc
  have HS := Lib.hid hcase
  clear hl hc hcase
  go_loop [0, 5] (fun s i => ∃ k : Nat, k ≤ len ∧ i = .int .i64 k ∧ s = .int .u32 ((onN q (bs.take k) : Nat) : Int)) (fun _ i => len - (intOf i).toNat)
  case atStart => exact ⟨0, Nat.zero_le _, rfl, by rw [HA.out]; rfl⟩
  case round =>
    obtain ⟨k, hk, rfl, rfl⟩ := hrel
    by_cases hlt : k < len
    · obtain ⟨b, off, rfl, hcell⟩ := HS.out k hlt
      have hlb : k < bs.length := by rw [HL.out]; exact hlt
      have hc0 : bs.getD k 0 < 256 := HC.out _ (by simp [hlb])
      have hx0 : onN q (bs.take k) < 16777216 := onN_lt _ _ hq' (fun c h => HC.out c (List.mem_of_mem_take h))
      have HN := Lib.hid (by rw [take_succ_getD bs k hlb, onN_snoc, refB_by8 _ _ hx0 hc0] : onN q (bs.take (k + 1)) = refB (onN q (bs.take k)) (bs.getD k 0) 8)
      obtain ⟨c, hcc⟩ : ∃ c, c = bs.getD k 0 := ⟨_, rfl⟩
      obtain ⟨x, hxx⟩ : ∃ x, x = onN q (bs.take k) := ⟨_, rfl⟩
      rw [← hcc] at hc0 hcell HN
      rw [← hxx] at hx0 HN ⊢
      clear hcc hxx hlb
      go_wp2
      go_loop [0, 6] (fun s i => ∃ m : Nat, m ≤ 8 ∧ i = .int .i64 ((m : Int) - 1) ∧ s = .int .u32 ((refB x c (8 - m) : Nat) : Int)) (fun _ i => (intOf i + 1).toNat)
      case atStart => exact ⟨8, by omega, rfl, rfl⟩
      case round =>
        obtain ⟨m, hm8, rfl, rfl⟩ := hrel
        match m, hm8 with
        | 0, _ =>
          go_wp2
          go_round
          case rel => exact ⟨k + 1, by omega, by go_num, by rw [HN.out]⟩
          case measure => simp [intOf]; omega
        | m + 1, hm8 =>
          have e1 : (((m + 1 : Nat) : Int) - 1) = (m : Int) := by omega
          rw [e1]
          clear e1
          obtain ⟨y, hy⟩ : ∃ y, y = refB x c (8 - (m + 1)) := ⟨_, rfl⟩
          rw [← hy]
          have hy0 : y < 16777216 := by rw [hy]; exact refB_lt x c _ hx0
          have HY := Lib.hid (by rw [show 8 - m = 8 - (m + 1) + 1 by omega, refB, ← hy, show 7 - (8 - (m + 1)) = m by omega] : refB x c (8 - m) = rb1 y (c / 2 ^ m % 2))
          clear hy
          have hbit := byte_bit c m
          obtain ⟨d, hd⟩ : ∃ d, c / 2 ^ m = d := ⟨_, rfl⟩
          rw [hd] at hbit HY
          have hd0 : d < 256 := by rw [← hd]; exact Nat.lt_of_le_of_lt (Nat.div_le_self _ _) hc0
          clear hd
          by_cases ht : y / 8388608 % 2 = d % 2
          · have hq1 : ((y : Int) / 8388608 % 2 != (d : Int) % 2) = false := by simp; omega
            have HT := Lib.hid ht
            clear ht
            go_wp2
            go_round
            case rel => exact ⟨m, by omega, rfl, by rw [HY.out, rb1, if_pos HT.out]; go_num⟩
            case measure => simp [intOf]
          · have hq1 : ((y : Int) / 8388608 % 2 != (d : Int) % 2) = true := by simp; omega
            have HT := Lib.hid ht
            have hx := xor_poly (y * 2 % 16777216) (by omega)
            rw [show ((y * 2 % 16777216 : Nat) : Int) = (y : Int) * 2 % 16777216 by omega] at hx
            clear ht
            go_wp2
            go_round
            case rel => exact ⟨m, by omega, rfl, by rw [HY.out, rb1, if_neg HT.out]⟩
            case measure => simp [intOf]
    · go_wp2
      go_ret
      exact ⟨ret_int (by rw [List.take_of_length_le (by rw [HL.out]; omega)]), rfl⟩

theorem refsum_any (v : Value) (bs : List Nat) (w : World) (hb : RB w v bs) :
    Calls Try.prog 137 #[v] w fun e w' => e = .returned (.int .u32 ((onN 11994318 bs : Nat) : Int)) ∧ w = w' := by
  have H := Lib.hid (refon_any 11994318 v bs w (by omega) hb)
  go_enter Try.func137, Try.ntmps137
  go_wp2_with (go_at_call 150; refine (H.out).mono ?_; rintro e w' ⟨rfl, rfl⟩)
  go_ret
  exact ⟨rfl, rfl⟩

set_option maxHeartbeats 400000 in
theorem refseal_any (v : Value) (bs : List Nat) (w : World) (hb : RB w v bs) (hl : bs.length ≤ 100000) :
    Calls Try.prog 111 #[v] w (Owned w (bs ++ top bs)) := by
  obtain ⟨a, cap, rfl, _, _⟩ := hb.shape
  have hx := onN_lt bs 11994318 (by omega) hb.1
  have hs := refsum_any _ _ _ hb
  obtain ⟨n, hn⟩ : ∃ n, bs.length = n := ⟨_, rfl⟩
  obtain ⟨x, hxx⟩ : ∃ x, onN 11994318 bs = x := ⟨_, rfl⟩
  have ht : top bs = [x / 65536, x / 256 % 256, x % 256] := by unfold top; rw [hxx]
  rw [hxx] at hx hs
  rw [hn] at hl hs ⊢
  rw [ht]
  have HB := Lib.hid hb
  have HN := Lib.hid hn
  have HX := Lib.hid hxx
  have HS := Lib.hid hs
  clear hb hn hxx ht hs
  go_enter Try.func111, Try.ntmps111
  go_wp2_with (first
    | (go_at_call 137; refine (HS.out).mono ?_; rintro e w' ⟨rfl, rfl⟩)
    | (at_builtin; refine append_rb rfl (.tmp 6) (.tmp 7) rfl w.heap.size _ _ [] bs rfl rfl (ob_empty _ _ rfl) (by have := HB.out.kept ((Below.refl _ _).alloc (Nat.le_refl _) (.cells #[] 5)); rw [HN.out] at this; exact this) (by have := HN.out; simp; omega) (by simp) ?_; intro v2 w2 ho2 hg2; have hb2 := (ob_empty w _ rfl).below hg2 ((Below.refl w.heap.size w).alloc (Nat.le_refl _) _) (by simp); clear hg2)
    | (at_builtin; refine append_rb rfl (.tmp 8) (.tmp 17) rfl w.heap.size _ _ bs [x / 65536, x / 256 % 256, x % 256] rfl rfl (ho2.alloc _) (rb_top _ _ _ (by simp) hx) (by have := HN.out; simp; omega) (by have := hb2.size; simp; omega) ?_; intro v3 w3 ho3 hg3; have hb3 := (ho2.alloc _).below hg3 (hb2.alloc hb2.size _) (by have := hb2.size; simp; omega); clear hg3))
  go_ret
  exact ⟨v3, rfl, ho3, hb3⟩

theorem RB.drew {w : World} {v : Value} {bs : List Nat} (h : RB w v bs) : RB w.drew v bs := h.kept (Below.refl _ _).drew
end Go.Proofs.Ythefnakbpalecaa
