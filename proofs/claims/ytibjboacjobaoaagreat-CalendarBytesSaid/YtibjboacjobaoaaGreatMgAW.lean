import Derived.Test.YtibjboacjobaoaaGreatMgAR
import Derived.Test.YtibjboacjobaoaaGreatMgAN
import Derived.Test.YtibjboacjobaoaaGreatMgAV
import Derived.Test.YtibjboacjobaoaaGreatMgAU
namespace Go.Proofs.YtibjboacjobaoaaGreat
open Go.RowKit
/- What a calendar counts: how many instants are open ahead of one; free spans added up; what is due. -/
open Go.RowKit

theorem rowE_zero {F T : Nat → Int} {n : Nat} (h : rowE F T n = 0) : n ≤ 32 ∧ good F T n = true := by
  unfold rowE at h
  split at h
  · cases h
  · split at h
    · exact ⟨by omega, by assumption⟩
    · cases h
theorem ret_i64 {a b : Int} (h : a = b) : Value.int .i64 a = .int .i64 b := by rw [h]
theorem free_apart {F T : Nat → Int} {n : Nat} (y : Int) (hg : good F T n = true) : ∀ m i at_, i + m = n → (∀ j, j < i → T j ≤ at_) → ∀ s ∈ freeG F T y m i at_, ∀ j, j < n → T j ≤ s.1 ∨ s.2 ≤ F j := by
  intro m
  induction m with
  | zero =>
    intro i a h hT s hs j hj
    simp only [freeG, gap] at hs
    split at hs
    · simp only [List.mem_singleton] at hs
      subst hs
      exact .inl (hT j (by omega))
    · cases hs
  | succ m ih =>
    intro i a h hT s hs j hj
    simp only [freeG, List.mem_append, gap] at hs
    rcases hs with hs | hs
    · split at hs
      · simp only [List.mem_singleton] at hs
        subst hs
        by_cases hji : j < i
        · exact .inl (hT j hji)
        · refine .inr ?_
          show min y (F i) ≤ F j
          by_cases e : j = i
          · subst e; omega
          · have := good_order hg j i (by omega) hj
            have := (good_at hg (show i < n by omega)).2.1
            omega
      · cases hs
    · refine ih (i + 1) (T i) (by omega) (fun j hj => ?_) s hs j hj
      exact good_mono hg j i (by omega) (by omega)
theorem freeL_apart {F T : Nat → Int} {n : Nat} (x y : Int) (hg : good F T n = true) : ∀ s ∈ freeL F T n x y, ∀ j, j < n → T j ≤ s.1 ∨ s.2 ≤ F j := by
  have h1 := idx_le T x n
  exact free_apart y hg _ _ x (by omega) fun j hj => idx_lo hg j hj
theorem freeL_open {F T : Nat → Int} {n : Nat} {x y : Int} (hg : good F T n = true) {s : Int × Int} (hs : s ∈ freeL F T n x y) (t : Int) (h1 : s.1 ≤ t) (h2 : t < s.2) : hasB F T t n = false := by
  cases hh : hasB F T t n with
  | false => rfl
  | true =>
    obtain ⟨k, hk, h3, h4⟩ := (hasB_iff n).1 hh
    have := freeL_apart x y hg s hs k hk
    omega
/-- A calendar's data: the plan's row, the closed row, the offset. -/
structure Cal where
  F : Nat → Int
  T : Nat → Int
  n : Nat
  G : Nat → Int
  U : Nat → Int
  m : Nat
  off : Int
structure Cal.ok (D : Cal) : Prop where
  wk : Wk D.F D.T D.n
  good : Go.Proofs.YtibjboacjobaoaaGreat.good D.G D.U D.m = true
  len : D.m ≤ 32
  off0 : 0 ≤ D.off
  off1 : D.off < 604800
/-- How many seconds of the plan are open ahead of an instant. -/
def Cal.V (D : Cal) (t : Int) : Int := untilV D.F D.T D.n (t - D.off + 604800)
/-- Whether an instant is open, of those that are. -/
def Cal.opB (D : Cal) (t : Int) : Bool := !hasB D.G D.U t D.m && openB D.F D.T D.n (t - D.off + 604800)
def Cal.cnt (D : Cal) : Nat → Int
  | 0 => 0
  | k + 1 => D.cnt k + if D.opB (k : Int) = true then 1 else 0
/-- How many instants are open ahead of one. -/
def Cal.g (D : Cal) (t : Int) : Int := D.cnt t.toNat
theorem Cal.g_step (D : Cal) (t : Int) (h : 0 ≤ t) : D.g (t + 1) = D.g t + if D.opB t = true then 1 else 0 := by
  unfold Cal.g
  obtain ⟨k, rfl⟩ : ∃ k : Nat, t = k := ⟨t.toNat, by omega⟩
  rw [show ((k : Int) + 1).toNat = k + 1 by omega, show ((k : Int)).toNat = k by omega]
  rfl
theorem Cal.V_step {D : Cal} (h : D.ok) (t : Int) (h0 : 0 ≤ t) (h1 : t < 1125899906842624) : D.V (t + 1) = D.V t + if openB D.F D.T D.n (t - D.off + 604800) = true then 1 else 0 := by
  have h2 := h.off0
  have h3 := h.off1
  have := until_step h.wk (t - D.off + 604800) (by omega) (by omega)
  unfold Cal.V
  rw [show t + 1 - D.off + 604800 = t - D.off + 604800 + 1 by omega]
  omega
theorem up_to {a b : Int} (h : a ≤ b) : ∃ k : Nat, b = a + k := ⟨(b - a).toNat, by omega⟩
theorem Cal.g_mono (D : Cal) {a b : Int} (h0 : 0 ≤ a) (h : a ≤ b) : D.g a ≤ D.g b := by
  obtain ⟨k, rfl⟩ := up_to h
  clear h
  induction k with
  | zero => simp
  | succ k ih =>
    have := D.g_step (a + k) (by omega)
    rw [show a + ((k + 1 : Nat) : Int) = a + k + 1 by omega]
    split at this <;> omega
theorem Cal.g_lip (D : Cal) {a b : Int} (h0 : 0 ≤ a) (h : a ≤ b) : D.g b ≤ D.g a + (b - a) := by
  obtain ⟨k, rfl⟩ := up_to h
  clear h
  induction k with
  | zero => simp
  | succ k ih =>
    have := D.g_step (a + k) (by omega)
    rw [show a + ((k + 1 : Nat) : Int) = a + k + 1 by omega]
    split at this <;> omega
theorem Cal.V_mono {D : Cal} (h : D.ok) {a b : Int} (h0 : 0 ≤ a) (hab : a ≤ b) (h1 : b ≤ 1125899906842624) : D.V a ≤ D.V b := by
  obtain ⟨k, rfl⟩ := up_to hab
  clear hab
  induction k with
  | zero => simp
  | succ k ih =>
    have h2 := ih (by omega)
    have := D.V_step h (a + k) (by omega) (by omega)
    rw [show a + ((k + 1 : Nat) : Int) = a + k + 1 by omega]
    split at this <;> omega
/-- Where nothing is closed, the plan counts. -/
theorem Cal.g_free {D : Cal} (h : D.ok) {a b : Int} (h0 : 0 ≤ a) (hab : a ≤ b) (h1 : b ≤ 1125899906842624) (hf : ∀ t, a ≤ t → t < b → hasB D.G D.U t D.m = false) : D.g b - D.g a = D.V b - D.V a := by
  obtain ⟨k, rfl⟩ := up_to hab
  clear hab
  induction k with
  | zero => simp
  | succ k ih =>
    have h2 := ih (by omega) (fun t h3 h4 => hf t h3 (by omega))
    have h3 := D.V_step h (a + k) (by omega) (by omega)
    have h4 := D.g_step (a + k) (by omega)
    have h5 := hf (a + k) (by omega) (by omega)
    have h6 : D.opB (a + k) = openB D.F D.T D.n (a + k - D.off + 604800) := by unfold Cal.opB; rw [h5]; rfl
    rw [h6] at h4
    rw [show a + ((k + 1 : Nat) : Int) = a + k + 1 by omega]
    omega
/-- Where all is closed, nothing counts. -/
theorem Cal.g_closed (D : Cal) {a b : Int} (h0 : 0 ≤ a) (hab : a ≤ b) (hf : ∀ t, a ≤ t → t < b → hasB D.G D.U t D.m = true) : D.g b = D.g a := by
  obtain ⟨k, rfl⟩ := up_to hab
  clear hab
  induction k with
  | zero => simp
  | succ k ih =>
    have h2 := ih (fun t h3 h4 => hf t h3 (by omega))
    have h4 := D.g_step (a + k) (by omega)
    have h5 := hf (a + k) (by omega) (by omega)
    have h6 : D.opB (a + k) = false := by unfold Cal.opB; rw [h5]; rfl
    rw [h6] at h4
    rw [show a + ((k + 1 : Nat) : Int) = a + k + 1 by omega, h4, h2]
    simp
theorem has_in {G U : Nat → Int} {m i : Nat} {t : Int} (hi : i < m) (h1 : G i ≤ t) (h2 : t < U i) : hasB G U t m = true := (hasB_iff m).2 ⟨i, hi, h1, h2⟩
/-- How many seconds the plan has in the spans of a list. -/
def Cal.sv (D : Cal) (l : List (Int × Int)) : Int := l.foldl (fun acc s => acc + (D.V s.2 - D.V s.1)) 0
theorem Cal.sv_from (D : Cal) : ∀ (l : List (Int × Int)) (acc : Int), l.foldl (fun acc s => acc + (D.V s.2 - D.V s.1)) acc = acc + D.sv l := by
  intro l
  induction l with
  | nil => intro acc; show acc = acc + 0; omega
  | cons s l ih =>
    intro acc
    unfold Cal.sv
    simp only [List.foldl_cons]
    rw [ih, ih]
    omega
theorem Cal.sv_cons (D : Cal) (s : Int × Int) (l : List (Int × Int)) : D.sv (s :: l) = (D.V s.2 - D.V s.1) + D.sv l := by
  show (s :: l).foldl _ 0 = _
  rw [List.foldl_cons, D.sv_from]
  omega
theorem Cal.sv_append (D : Cal) (a b : List (Int × Int)) : D.sv (a ++ b) = D.sv a + D.sv b := by
  unfold Cal.sv
  rw [List.foldl_append, D.sv_from]
  rfl
theorem Cal.sv_snoc (D : Cal) (l : List (Int × Int)) (k : Nat) (s : Int × Int) (h : l[k]? = some s) : D.sv (l.take (k + 1)) = D.sv (l.take k) + (D.V s.2 - D.V s.1) := by
  rw [List.take_add_one, h]
  show D.sv (l.take k ++ [s]) = _
  rw [D.sv_append, D.sv_cons]
  show _ + (_ + 0) = _
  omega
/-- Spans one behind the other, the count going on from one to the next. -/
def Cal.Chain (D : Cal) : Int → List (Int × Int) → Prop
  | _, [] => True
  | c, s :: l => D.g s.1 = c ∧ D.g s.2 - D.g s.1 = D.V s.2 - D.V s.1 ∧ D.Chain (D.g s.2) l
theorem Cal.chain_gap {D : Cal} {x y c : Int} {l : List (Int × Int)} (h1 : x < y → D.g x = c ∧ D.g y - D.g x = D.V y - D.V x ∧ D.Chain (D.g y) l) (h2 : ¬ x < y → D.Chain c l) : D.Chain c (gap x y ++ l) := by
  unfold gap
  split
  · exact h1 (by assumption)
  · exact h2 (by assumption)
theorem Cal.sv_gap (D : Cal) (x y : Int) (l : List (Int × Int)) : D.sv (gap x y ++ l) = (if x < y then D.V y - D.V x else 0) + D.sv l := by
  unfold gap
  split
  · exact D.sv_cons _ _
  · show D.sv l = 0 + D.sv l; omega
theorem Cal.free_from {D : Cal} (h : D.ok) (y : Int) (hy : y ≤ 1125899906842624) : ∀ k i at_, i + k = D.m → 0 ≤ at_ → at_ ≤ 1125899906842624 → (0 < k → at_ < D.U i) → (∀ j, j < i → D.U j ≤ at_) →
    D.Chain (D.g at_) (freeG D.G D.U y k i at_) ∧ D.sv (freeG D.G D.U y k i at_) = D.g (max at_ y) - D.g at_ := by
  intro k
  induction k with
  | zero =>
    intro i a hi h0 h0' _ hj
    have hnone : ∀ t, a ≤ t → hasB D.G D.U t D.m = false := fun t ht => by
      cases hh : hasB D.G D.U t D.m with
      | false => rfl
      | true =>
        obtain ⟨j, hjm, h3, h4⟩ := (hasB_iff D.m).1 hh
        have := hj j (by omega)
        omega
    simp only [freeG]
    rw [← List.append_nil (gap a y)]
    by_cases hay : a < y
    · have h5 := D.g_free h (a := a) (b := y) h0 (by omega) hy (fun t h3 _ => hnone t h3)
      refine ⟨D.chain_gap (fun _ => ⟨rfl, h5, trivial⟩) (fun h6 => absurd hay h6), ?_⟩
      rw [D.sv_gap, if_pos hay, show max a y = y by omega]
      show _ + (0 : Int) = _
      omega
    · refine ⟨D.chain_gap (fun h6 => absurd h6 hay) (fun _ => trivial), ?_⟩
      rw [D.sv_gap, if_neg hay, show max a y = a by omega]
      show (0 : Int) + 0 = _
      omega
  | succ k ih =>
    intro i a hi h0 h0' hU hj
    have hg := h.good
    obtain ⟨g0, g1, g2, _⟩ := good_at hg (show i < D.m by omega)
    have hUa := hU (by omega)
    obtain ⟨ih1, ih2⟩ := ih (i + 1) (D.U i) (by omega) (by omega) g2 (fun hk => by
      have := good_order hg (i + 1) i (by omega) (by omega)
      have := (good_at hg (show i + 1 < D.m by omega)).2.1
      omega) (fun j hj' => good_mono hg j i (by omega) (by omega))
    have hnone : ∀ t, a ≤ t → t < D.G i → hasB D.G D.U t D.m = false := fun t ht ht2 => by
      cases hh : hasB D.G D.U t D.m with
      | false => rfl
      | true =>
        obtain ⟨j, hjm, h3, h4⟩ := (hasB_iff D.m).1 hh
        by_cases hji : j < i
        · have := hj j hji; omega
        · by_cases e : j = i
          · subst e; omega
          · have := good_order hg j i (by omega) hjm; omega
    have hall : ∀ t, D.G i ≤ t → t < D.U i → hasB D.G D.U t D.m = true := fun t h3 h4 => has_in (by omega) h3 h4
    simp only [freeG]
    by_cases hc : a < min y (D.G i)
    · have h5 := D.g_free h (a := a) (b := min y (D.G i)) h0 (by omega) (by omega) (fun t h3 h4 => hnone t h3 (by omega))
      have key : D.g (D.U i) = D.g (D.G i) := D.g_closed g0 (by omega) (fun t h3 h4 => hall t h3 h4)
      by_cases h6 : y ≤ D.G i
      · have e1 : min y (D.G i) = y := by omega
        rw [e1] at h5 hc ⊢
        have hrest : freeG D.G D.U y k (i + 1) (D.U i) = [] ∨ True := .inr trivial
        have e2 : max (D.U i) y = D.U i := by omega
        rw [e2] at ih2
        -- nothing behind is within the range
        have hnil : ∀ k i' a', y ≤ a' → (∀ j, i' ≤ j → j < i' + k → y ≤ D.U j) → freeG D.G D.U y k i' a' = [] := by
          intro k
          induction k with
          | zero => intro i' a' ha _; simp only [freeG, gap]; rw [if_neg (by omega)]
          | succ k ihk =>
            intro i' a' ha hUs
            simp only [freeG, gap]
            rw [if_neg (by omega), List.nil_append]
            exact ihk (i' + 1) (D.U i') (hUs i' (Nat.le_refl _) (by omega)) (fun j h7 h8 => hUs j (by omega) (by omega))
        have hr0 := hnil k (i + 1) (D.U i) (by omega) (fun j h7 h8 => by
          have := good_mono hg i j (by omega) (by omega)
          omega)
        rw [hr0]
        refine ⟨D.chain_gap (fun _ => ⟨rfl, h5, trivial⟩) (fun h7 => absurd hc h7), ?_⟩
        rw [D.sv_gap, if_pos hc, show max a y = y by omega]
        show _ + (0 : Int) = _
        omega
      · have e1 : min y (D.G i) = D.G i := by omega
        rw [e1] at h5 hc ⊢
        rw [key] at ih1
        refine ⟨D.chain_gap (fun _ => ⟨rfl, h5, ih1⟩) (fun h7 => absurd hc h7), ?_⟩
        rw [D.sv_gap, if_pos hc, ih2, key, show max a y = y by omega]
        by_cases h7 : D.U i ≤ y
        · rw [show max (D.U i) y = y by omega]; omega
        · rw [show max (D.U i) y = D.U i by omega, key]
          have := D.g_closed (a := D.G i) (b := y) g0 (by omega) (fun t h3 h4 => hall t h3 (by omega))
          omega
    · by_cases h6 : y ≤ a
      · have hnil : ∀ k i' a', y ≤ a' → (∀ j, i' ≤ j → j < i' + k → y ≤ D.U j) → freeG D.G D.U y k i' a' = [] := by
          intro k
          induction k with
          | zero => intro i' a' ha _; simp only [freeG, gap]; rw [if_neg (by omega)]
          | succ k ihk =>
            intro i' a' ha hUs
            simp only [freeG, gap]
            rw [if_neg (by omega), List.nil_append]
            exact ihk (i' + 1) (D.U i') (hUs i' (Nat.le_refl _) (by omega)) (fun j h7 h8 => hUs j (by omega) (by omega))
        have hr0 := hnil k (i + 1) (D.U i) (by omega) (fun j h7 h8 => by
          have := good_mono hg i j (by omega) (by omega)
          omega)
        rw [hr0]
        refine ⟨D.chain_gap (fun h7 => absurd h7 hc) (fun _ => trivial), ?_⟩
        rw [D.sv_gap, if_neg hc, show max a y = a by omega]
        show (0 : Int) + 0 = _
        omega
      · have hGa : D.G i ≤ a := by omega
        have key : D.g (D.U i) = D.g a := D.g_closed h0 (by omega) (fun t h3 h4 => hall t (by omega) h4)
        rw [key] at ih1 ih2
        refine ⟨D.chain_gap (fun h7 => absurd h7 hc) (fun _ => ih1), ?_⟩
        rw [D.sv_gap, if_neg hc, ih2, show max a y = y by omega]
        by_cases h7 : D.U i ≤ y
        · rw [show max (D.U i) y = y by omega]; omega
        · rw [show max (D.U i) y = D.U i by omega, key]
          have := D.g_closed (a := a) (b := y) h0 (by omega) (fun t h3 h4 => hall t (by omega) (by omega))
          omega
theorem Cal.free_all {D : Cal} (h : D.ok) {x y : Int} (hx : 0 ≤ x) (hxy : x ≤ y) (hy : y ≤ 1125899906842624) :
    D.Chain (D.g x) (freeL D.G D.U D.m x y) ∧ D.sv (freeL D.G D.U D.m x y) = D.g y - D.g x := by
  have h1 := idx_le D.U x D.m
  have h2 := D.free_from h y hy (D.m - idx D.U x D.m) (idx D.U x D.m) x (by omega) hx (by omega) (fun hk => idx_hi D.m _ (Nat.le_refl _) (by omega)) (fun j hj => idx_lo h.good j hj)
  rw [show max x y = y by omega] at h2
  exact h2
theorem Cal.chain_at {D : Cal} : ∀ (l : List (Int × Int)) (c : Int) (k : Nat) (s : Int × Int), D.Chain c l → l[k]? = some s → D.g s.1 = c + D.sv (l.take k) ∧ D.g s.2 - D.g s.1 = D.V s.2 - D.V s.1 := by
  intro l
  induction l with
  | nil => intro c k s _ h; simp at h
  | cons r l ih =>
    intro c k s hc hk
    obtain ⟨h1, h2, h3⟩ := hc
    cases k with
    | zero =>
      simp at hk
      subst hk
      refine ⟨?_, h2⟩
      show _ = c + 0
      omega
    | succ k =>
      obtain ⟨h4, h5⟩ := ih _ k s h3 (by simpa using hk)
      refine ⟨?_, h5⟩
      rw [List.take_succ_cons, D.sv_cons]
      omega
/- The plan's methods, told by what they turn: the plan's cell alone. -/
open Go.RowKit

theorem only_drewN (X : Nat → Prop) (w : World) (q : Nat) : Only X w (w.drewN q) := ⟨rfl, rfl, rfl, Nat.le_refl _, fun _ _ _ => rfl⟩
set_option maxRecDepth 100000 in
set_option maxHeartbeats 4000000 in
theorem within_planO {base P C : Nat} {a : Option Addr} {n c : Nat} {F T : Nat → Int} {w : World} (t : Int) (h : Pl base P C a n c F T w) (hn : n ≤ 32) (hg : good F T n = true) (hb : base ≤ w.heap.size) (ht0 : 0 ≤ t) (ht1 : t ≤ 1125899906842624) :
    Calls Tryz.prog 138 #[.pointer (some ⟨P, 0, none⟩), .int .i64 t] w fun e w' => e = .returned (.int .i64 (wsum F T 0 t n)) ∧ Pl base P C a n c F T w' ∧ Only (· = C) w w' := by
  have B1 : Below w.heap.size w ((w.alloc (.cells #[.pointer (some ⟨P, 0, none⟩)] 144)).alloc (.cells #[.int .i64 t] 2)) := ((Below.refl _ _).alloc (Nat.le_refl _) _).alloc (by simp) _
  have hP := h.kept B1
  have z0 : ((w.alloc (.cells #[.pointer (some ⟨P, 0, none⟩)] 144)).alloc (.cells #[.int .i64 t] 2)).cell? ⟨w.heap.size, 0, none⟩ = some (.pointer (some ⟨P, 0, none⟩)) := by rw [World.cell?_alloc_past _ _ _ (by simp)]; simp
  have z1 : ((w.alloc (.cells #[.pointer (some ⟨P, 0, none⟩)] 144)).alloc (.cells #[.int .i64 t] 2)).cell? ⟨w.heap.size + 1, 0, none⟩ = some (.int .i64 t) := by simp
  have hlt0 : w.heap.size < ((w.alloc (.cells #[.pointer (some ⟨P, 0, none⟩)] 144)).alloc (.cells #[.int .i64 t] 2)).heap.size := by simp; omega
  have hlt1 : w.heap.size + 1 < ((w.alloc (.cells #[.pointer (some ⟨P, 0, none⟩)] 144)).alloc (.cells #[.int .i64 t] 2)).heap.size := by simp
  have hltC := h.lt
  have HB1 := Lib.hid (Only.below (X := (· = C)) B1)
  have hse := search_any P (w.heap.size + 1) w.heap.size a n c F T t _ z1 z0 hP.row hP.sps hn hg
  have e1 := hP.bef
  have e2 := hP.row
  have HP := Lib.hid hP
  have HG := Lib.hid hg
  clear h hP B1 hg
  go_enter Tryz.func138, Tryz.ntmps138
  go_wp2_with fail
  generalize ((w.alloc (.cells #[.pointer (some ⟨P, 0, none⟩)] 144)).alloc (.cells #[.int .i64 t] 2)) = W at *
  refine hse.mono ?_
  rintro e w1 ⟨i, rfl, hin, hlo, hhi, q, rfl⟩
  clear hse
  have hP1 := HP.out.drewN q
  have f0 : (W.drewN q).cell? ⟨w.heap.size, 0, none⟩ = some (.pointer (some ⟨P, 0, none⟩)) := z0
  have f1 : (W.drewN q).cell? ⟨w.heap.size + 1, 0, none⟩ = some (.int .i64 t) := z1
  have f2 : (W.drewN q).cell? ⟨P, 1, none⟩ = some (.pointer (some ⟨C, 0, none⟩)) := e1
  have f3 : (W.drewN q).cell? ⟨P, 0, none⟩ = some (.slice a n c) := e2
  have hsz : (W.drewN q).heap.size = W.heap.size := rfl
  have hget := get_plan hP1 hn HG.out
  have HBQ := Lib.hid (HB1.out.trans (show Only (· = C) W (W.drewN q) from only_drewN _ _ q))
  have HLO := Lib.hid hlo
  have HHI := Lib.hid hhi
  clear hP1 hlo hhi z0 z1 e1 e2
  generalize W.drewN q = W1 at *
  go_wp2_with fail
  refine hget.mono ?_
  rintro e w2 ⟨g, vc, rfl, hk, hP2, hO2⟩
  have ck := hk i hin
  have e1 := hP2.row
  have e2 : w2.cell? ⟨w.heap.size, 0, none⟩ = some (.pointer (some ⟨P, 0, none⟩)) := (hO2.cell (p := ⟨w.heap.size, 0, none⟩) (by show w.heap.size < _; omega) (by show ¬ w.heap.size = C; omega)).trans f0
  have e3 : w2.cell? ⟨w.heap.size + 1, 0, none⟩ = some (.int .i64 t) := (hO2.cell (p := ⟨w.heap.size + 1, 0, none⟩) (by show w.heap.size + 1 < _; omega) (by show ¬ w.heap.size + 1 = C; omega)).trans f1
  have HST := Lib.hid (HBQ.out.trans (show Only (· = C) W1 w2 from hO2))
  have HS2 := Lib.hid hP2.sps
  have HP2 := Lib.hid hP2
  obtain ⟨p0, p1⟩ := tsum_bounds HG.out i hin
  have p2 : tsum F T i ≤ 36028797018963968 := by omega
  have HWF := Lib.hid (wsum_found HG.out HLO.out HHI.out n (Nat.le_refl _))
  obtain ⟨s, hs⟩ : ∃ s, tsum F T i = s := ⟨_, rfl⟩
  have HE := Lib.hid hs
  rw [hs] at ck p0 p2
  have i0 : (0 : Int) ≤ (i : Int) := by omega
  have i1 : (i : Int) < (n : Int) + 1 := by omega
  clear hget hk hP2 hO2 f0 f1 f2 f3 hs p1
  by_cases hlt : i < n
  · have d1 : decide ((i : Int) < (n : Int)) = true := by simp [hlt]
    have i2 : (i : Int) < (n : Int) := by omega
    obtain ⟨ab, ao, rfl, hab, c0, _, b0, b1, _, _⟩ := HS2.out.at (Below.refl _ _) i hlt
    obtain ⟨g0, g1, g2, _⟩ := good_at HG.out hlt
    have HR : Hid (wsum F T 0 t n = s + max 0 (t - F i)) := Lib.hid (by rw [HWF.out, if_neg (by omega), HE.out])
    obtain ⟨f, hf⟩ : ∃ f, F i = f := ⟨_, rfl⟩
    rw [hf] at c0 b0 b1 g0 g1 HR
    have w1' : IntKind.i64.wrap (t - f) = t - f := IntWalk.i64_in _ (by omega)
    have w2' : IntKind.i64.wrap (s + max 0 (t - f)) = s + max 0 (t - f) := IntWalk.i64_in _ (by omega)
    clear hf
    go_wp2_with fail
    go_quiet (fail)
    all_goals clear w1' w2'
    all_goals go_wp2_with fail
    all_goals
      go_ret
      exact ⟨ret_int (by have := HR.out; omega), HP2.out.drewN _, HST.out.trans (only_drewN _ _ _)⟩
  · have d1 : decide ((i : Int) < (n : Int)) = false := by simp; omega
    have HR : Hid (wsum F T 0 t n = s) := Lib.hid (by rw [HWF.out, if_pos (by omega), ← HE.out]; congr 1; omega)
    go_wp2_with fail
    go_ret
    exact ⟨ret_int HR.out.symm, HP2.out, HST.out⟩
set_option maxRecDepth 100000 in
set_option maxHeartbeats 4000000 in
theorem until_anyO {base P C : Nat} {a : Option Addr} {n c : Nat} {F T : Nat → Int} {w : World} (t : Int) (h : Pl base P C a n c F T w) (hw : Wk F T n) (hb : base ≤ w.heap.size) :
    Calls Tryz.prog 122 #[.pointer (some ⟨P, 0, none⟩), .int .i64 t] w fun e w' => e = .returned (.int .i64 (untilV F T n t)) ∧ Pl base P C a n c F T w' ∧ Only (· = C) w w' := by
  have hcr := created_yes P C w h.bef
  have htot := total_any h hw.len hw.good
  have HB := Lib.hid (until_bounds hw t)
  obtain ⟨t0, t1⟩ := hw.total
  obtain ⟨x0, x1⟩ := cl_bounds t
  have HU := Lib.hid (show untilV F T n t = cl t / 604800 * tsum F T n + wsum F T 0 (cl t % 604800) n from rfl)
  have HWL := Lib.hid (wsum_le (cl t % 604800) hw.good n (Nat.le_refl _))
  have hx : min (max t 0) 2251799813685248 = cl t := rfl
  obtain ⟨x, hcl⟩ : ∃ x, cl t = x := ⟨_, rfl⟩
  rw [hcl] at x0 x1 HU HB HWL hx
  obtain ⟨tot, ht⟩ : ∃ x, tsum F T n = x := ⟨_, rfl⟩
  rw [ht] at t0 t1 htot HB HU HWL
  have HX := Lib.hid hx
  have HW := Lib.hid hw
  clear h hcl hw hx ht
  have y0 : 0 ≤ min (max t 0) 2251799813685248 := by omega
  have y1 : min (max t 0) 2251799813685248 ≤ 2251799813685248 := by omega
  go_enter Tryz.func122, Tryz.ntmps122
  go_wp2_with fail
  refine hcr.mono ?_
  rintro e w' ⟨rfl, rfl⟩
  clear hcr
  go_wp2_with fail
  rw [HX.out]
  clear y0 y1
  obtain ⟨q, hq⟩ : ∃ q, x / 604800 = q := ⟨_, rfl⟩
  have q0 : 0 ≤ q := by omega
  have q1 : q ≤ 3723213977 := by omega
  obtain ⟨r, hr⟩ : ∃ r, x % 604800 = r := ⟨_, rfl⟩
  have r0 : 0 ≤ r := by omega
  have r1 : r ≤ 604799 := by omega
  rw [hq] at HU HB ⊢
  rw [hr] at HU HWL
  obtain ⟨m0, m1, _, _⟩ := HB.out
  have HR := Lib.hid hr
  clear hq hr
  refine htot.mono ?_
  rintro e w1 ⟨rfl, hP1, hO1⟩
  clear htot
  have hwi := within_planO r hP1 HW.out.len HW.out.good (Nat.le_trans hb hO1.size) r0 (by omega)
  obtain ⟨z, hz⟩ : ∃ z, wsum F T 0 r n = z := ⟨_, rfl⟩
  rw [hz] at hwi HU HWL
  obtain ⟨z0, z1⟩ := HWL.out
  have z2 : z ≤ 604800 := by omega
  have HS1 := Lib.hid (show Only (· = C) w w1 from hO1)
  clear hP1 hO1 hz
  go_wp2_with fail
  rw [HR.out]
  refine hwi.mono ?_
  rintro e w2 ⟨rfl, hP2, hS2⟩
  have HP2 := Lib.hid hP2
  have HS2 := Lib.hid (HS1.out.trans hS2)
  clear hwi hP2 hS2
  go_wp2_with fail
  go_ret
  exact ⟨ret_int HU.out.symm, HP2.out, HS2.out⟩
theorem between_anyO {base P C : Nat} {a : Option Addr} {n c : Nat} {F T : Nat → Int} {w : World} (x y : Int) (h : Pl base P C a n c F T w) (hw : Wk F T n) (hb : base ≤ w.heap.size) :
    Calls Tryz.prog 119 #[.pointer (some ⟨P, 0, none⟩), .int .i64 x, .int .i64 y] w fun e w' => e = .returned (.int .i64 (betweenV F T n x y)) ∧ Pl base P C a n c F T w' ∧ Only (· = C) w w' := by
  have h1 := until_anyO y h hw hb
  have HX := Lib.hid (fun w1 (h : Pl base P C a n c F T w1) (hb : base ≤ w1.heap.size) => until_anyO x h hw hb)
  obtain ⟨_, _, b0, b1⟩ := until_bounds hw y
  obtain ⟨_, _, b2, b3⟩ := until_bounds hw x
  have HV := Lib.hid (show betweenV F T n x y = max 0 (untilV F T n y - untilV F T n x) from rfl)
  obtain ⟨u, hu⟩ : ∃ u, untilV F T n y = u := ⟨_, rfl⟩
  obtain ⟨v, hv⟩ : ∃ u, untilV F T n x = u := ⟨_, rfl⟩
  rw [hu] at b0 b1 HV h1
  rw [hv] at b2 b3 HV
  have HE := Lib.hid hv
  clear h hw hu hv
  go_enter Tryz.func119, Tryz.ntmps119
  go_wp2_with fail
  refine h1.mono ?_
  rintro e w1 ⟨rfl, hP1, hS1⟩
  have h2 := HX.out w1 hP1 (Nat.le_trans hb hS1.size)
  rw [HE.out] at h2
  have HS1 := Lib.hid hS1
  clear h1 hP1 hS1
  go_wp2_with fail
  refine h2.mono ?_
  rintro e w2 ⟨rfl, hP2, hS2⟩
  have HP2 := Lib.hid hP2
  have HS2 := Lib.hid (HS1.out.trans hS2)
  clear h2 hP2 hS2
  go_wp2_with fail
  go_ret
  exact ⟨ret_int HV.out.symm, HP2.out, HS2.out⟩
/-- What the plan's Nth leaves behind. -/
def NthGotO (base P C : Nat) (a : Option Addr) (n c : Nat) (F T : Nat → Int) (v e : Int) (w : World) (E : Ending) (w' : World) : Prop :=
  E = .returned (.tuple #[.int .i64 v, .int .i64 e]) ∧ Pl base P C a n c F T w' ∧ Only (· = C) w w'
set_option maxRecDepth 100000 in
set_option maxHeartbeats 8000000 in
theorem nth_planO {base P C : Nat} {a : Option Addr} {n c : Nat} {F T : Nat → Int} {w : World} (m : Int) (h : Pl base P C a n c F T w) (hw : Wk F T n) (hb : base ≤ w.heap.size) (hm1 : m ≤ 9223372036854775807) :
    Calls Tryz.prog 121 #[.pointer (some ⟨P, 0, none⟩), .int .i64 m] w (NthGotO base P C a n c F T (pnV F T n m) (pnE F T n m) w) := by
  have htot := total_any h hw.len hw.good
  obtain ⟨t0, t1⟩ := hw.total
  have HW := Lib.hid hw
  have HN := Lib.hid (fun h => @pn_neg F T n m h)
  have HCL := Lib.hid (fun h h0 => @pn_closed F T n m h h0)
  have HF := Lib.hid (fun h h0 h1 => @pn_far F T n m h h0 h1)
  have HPA := Lib.hid (fun h h0 h1 h2 => @pn_past F T n m h h0 h1 h2)
  have HOK := Lib.hid (fun h h0 h1 h2 => @pn_ok F T n m h h0 h1 h2)
  have HNB := Lib.hid (fun x (h0 : 0 ≤ x) (h1 : x < tsum F T n) => nth_bounds (m := x) hw h0 h1)
  have HNY := Lib.hid (fun x (h0 : 0 ≤ x) (h1 : x < tsum F T n) w1 (hS : Sps w1 a n F T) => nth_yes a n c F T x w1 hS hw.len hw.good h0 h1)
  obtain ⟨tot, ht⟩ : ∃ x, tsum F T n = x := ⟨_, rfl⟩
  rw [ht] at t0 t1 htot HCL HF HPA HOK HNB HNY
  obtain ⟨v, hv⟩ : ∃ x, pnV F T n m = x := ⟨_, rfl⟩
  obtain ⟨er, he⟩ : ∃ x, pnE F T n m = x := ⟨_, rfl⟩
  rw [hv, he] at HN HCL HF HPA HOK ⊢
  clear h hw ht hv he
  go_enter Tryz.func121, Tryz.ntmps121
  go_wp2_with fail
  refine htot.mono ?_
  rintro e w1 ⟨rfl, hP1, hO1⟩
  clear htot
  have hcr := created_yes P C w1 hP1.bef
  have HS1 := Lib.hid (show Only (· = C) w w1 from hO1)
  have hrow := hP1.row
  have HP1 := Lib.hid hP1
  clear hP1 hO1
  by_cases h0 : m < 0
  · have d0 : decide (m < 0) = true := decide_eq_true h0
    obtain ⟨rfl, rfl⟩ := HN.out h0
    go_wp2_with fail
    refine hcr.mono ?_
    rintro e w' ⟨rfl, rfl⟩
    go_wp2_with fail
    go_ret2
    exact ⟨rfl, HP1.out, HS1.out⟩
  have d0 : decide (m < 0) = false := decide_eq_false h0
  have m0 : 0 ≤ m := by omega
  by_cases hz : tot = 0
  · obtain ⟨rfl, rfl⟩ := HCL.out m0 hz
    have d1 : (tot == 0) = true := by simp [hz]
    clear hz
    go_wp2_with fail
    refine hcr.mono ?_
    rintro e w' ⟨rfl, rfl⟩
    go_wp2_with fail
    go_ret2
    exact ⟨rfl, HP1.out, HS1.out⟩
  have d1 : (tot == 0) = false := by simp [hz]
  have t2 : 1 ≤ tot := by omega
  have q0 : 0 ≤ m / tot := Int.ediv_nonneg m0 (by omega)
  have q1 : m / tot ≤ m := Int.ediv_le_self tot m0
  have r0 : 0 ≤ m % tot := Int.emod_nonneg m hz
  have r1 : m % tot < tot := Int.emod_lt_of_pos m (by omega)
  by_cases hf : 3723213977 < m / tot
  · obtain ⟨rfl, rfl⟩ := HF.out m0 hz hf
    have d2 : decide (3723213977 < m / tot) = true := decide_eq_true hf
    clear hz
    go_wp2_with fail
    refine hcr.mono ?_
    rintro e w' ⟨rfl, rfl⟩
    go_wp2_with fail
    go_ret2
    exact ⟨rfl, HP1.out, HS1.out⟩
  have d2 : decide (3723213977 < m / tot) = false := decide_eq_false hf
  have hny := HNY.out (m % tot) r0 r1
  have hnb := HNB.out (m % tot) r0 r1
  have HE : Hid (∀ x, x = nthV F T n (m % tot) → x = nthV F T n (m % tot)) := Lib.hid (fun x h => h)
  have HPA := Lib.hid (HPA.out m0 hz (by omega))
  have HOK := Lib.hid (HOK.out m0 hz (by omega))
  obtain ⟨z, hzz⟩ : ∃ z, nthV F T n (m % tot) = z := ⟨_, rfl⟩
  rw [hzz] at hny hnb HPA HOK
  have z0 := hnb.1
  have z1 := hnb.2
  have HNY := Lib.hid hny
  clear hny hnb HE hzz
  obtain ⟨q, hq⟩ : ∃ q, m / tot = q := ⟨_, rfl⟩
  obtain ⟨r, hr⟩ : ∃ r, m % tot = r := ⟨_, rfl⟩
  have q2 : q ≤ 3723213977 := by omega
  have HQ := Lib.hid hq
  have HR := Lib.hid hr
  rw [hq] at HPA HOK q0
  rw [hr] at r0 r1 HNY
  have hmod : m.tmod tot = r := by rw [Int.tmod_eq_emod_of_nonneg m0, hr]
  have hwr : IntKind.i64.wrap r = r := IntWalk.i64_in _ (by omega)
  have h0w : w1.drew.cell? ⟨P, 0, none⟩ = some (.slice a n c) := hrow
  clear hq hr q1 hf
  go_wp2_with fail
  refine hcr.mono ?_
  rintro e w' ⟨rfl, rfl⟩
  clear hcr
  go_wp2_with fail
  have HY := Lib.hid (HNY.out w1.drew (HP1.out.sps.kept (Below.refl _ _).drew))
  have HPD := Lib.hid (HP1.out.kept (Below.refl _ _).drew)
  have HSD : Hid (Only (· = C) w1 w1.drew) := Lib.hid (Only.refl _ _).drew
  have hbd : base ≤ w1.drew.heap.size := Nat.le_trans hb HS1.out.size
  go_region_held3 (fun w' => w'.cell? ⟨P, 0, none⟩ = some (.slice a n c))
    (first | exact h0w | assumption)
    ((go_at_call 137; refine HY.out.mono ?_; rintro e w8 ⟨rfl, hb8⟩; have hS8 := (HPD.out.kept hb8).row; have HP8 := Lib.hid (HPD.out.kept hb8); have HS8 := Lib.hid (HS1.out.trans (HSD.out.trans (Only.below (X := (· = C)) hb8))); clear hb8))
  all_goals
    have hq := HQ.out
    clear hmod hwr
    by_cases hp : 2251799813685248 < q * 604800 + z
    · have d3 : decide (2251799813685248 < q * 604800 + z) = true := decide_eq_true hp
      obtain ⟨rfl, rfl⟩ := HPA.out hp
      go_wp2_with fail
      go_ret2
      exact ⟨rfl, HP8.out, HS8.out⟩
    · have d3 : decide (2251799813685248 < q * 604800 + z) = false := decide_eq_false hp
      have HV := Lib.hid (HOK.out (by omega))
      go_wp2_with fail
      go_ret2
      exact ⟨ret_two HV.out.1.symm HV.out.2.symm, HP8.out, HS8.out⟩
/- A clock in memory; its small functions. -/
open Go.RowKit

/-- Where a clock lies: its block, its almanac's, its plan's, the plan's cell's; the two rows. -/
structure Loc where
  base : Nat
  K : Nat
  A : Nat
  P : Nat
  C : Nat
  a : Option Addr
  ca : Nat
  b : Option Addr
  cb : Nat
structure Ck (L : Loc) (D : Cal) (w : World) : Prop where
  k0 : w.cell? ⟨L.K, 0, none⟩ = some (.pointer (some ⟨L.A, 0, none⟩))
  k1 : w.cell? ⟨L.K, 1, none⟩ = some (.pointer (some ⟨L.P, 0, none⟩))
  k2 : w.cell? ⟨L.K, 2, none⟩ = some (.int .i64 D.off)
  al : w.cell? ⟨L.A, 0, none⟩ = some (.slice L.b D.m L.cb)
  cs : Sps w L.b D.m D.G D.U
  cap : D.m ≤ L.cb
  pl : Pl L.base L.P L.C L.a D.n L.ca D.F D.T w
  neK : L.K ≠ L.C
  neA : L.A ≠ L.C
  far : ∀ x, 0 < D.m → L.b = some x → x.block ≠ L.C
theorem Ck.ltK {L : Loc} {D : Cal} {w : World} (h : Ck L D w) : L.K < w.heap.size := (cell_spot h.k0).2
theorem Ck.ltA {L : Loc} {D : Cal} {w : World} (h : Ck L D w) : L.A < w.heap.size := (cell_spot h.al).2
theorem Ck.alm {L : Loc} {D : Cal} {w : World} (h : Ck L D w) (hd : D.ok) : Alm (some ⟨L.A, 0, none⟩) L.b D.m L.cb D.G D.U w := ⟨.inr ⟨L.A, rfl, h.al⟩, h.cs, h.cap, hd.len, hd.good⟩
theorem Ck.kept {L : Loc} {D : Cal} {w w' : World} (h : Ck L D w) (hb : Below w.heap.size w w') : Ck L D w' :=
  ⟨(hb.cell (p := ⟨L.K, 0, none⟩) h.ltK).trans h.k0, (hb.cell (p := ⟨L.K, 1, none⟩) h.ltK).trans h.k1, (hb.cell (p := ⟨L.K, 2, none⟩) h.ltK).trans h.k2, (hb.cell (p := ⟨L.A, 0, none⟩) h.ltA).trans h.al, h.cs.kept hb, h.cap, h.pl.kept hb, h.neK, h.neA, h.far⟩
theorem Ck.only {L : Loc} {D : Cal} {w w' : World} (h : Ck L D w) (o : Only (· = L.C) w w') (hp : Pl L.base L.P L.C L.a D.n L.ca D.F D.T w') : Ck L D w' :=
  ⟨(o.cell (p := ⟨L.K, 0, none⟩) h.ltK h.neK).trans h.k0, (o.cell (p := ⟨L.K, 1, none⟩) h.ltK h.neK).trans h.k1, (o.cell (p := ⟨L.K, 2, none⟩) h.ltK h.neK).trans h.k2, (o.cell (p := ⟨L.A, 0, none⟩) h.ltA h.neA).trans h.al, h.cs.only o h.far, h.cap, hp, h.neK, h.neA, h.far⟩
theorem Ck.drewN {L : Loc} {D : Cal} {w : World} (h : Ck L D w) (q : Nat) : Ck L D (w.drewN q) := h.kept ⟨rfl, rfl, rfl, Nat.le_refl _, fun _ _ => rfl⟩

theorem ccreated_yes {L : Loc} {D : Cal} {w : World} (h : Ck L D w) : Calls Tryz.prog 90 #[.pointer (some ⟨L.K, 0, none⟩)] w fun e w' => e = .returned (.bool true) ∧ w = w' := by
  have k1 := h.k1
  clear h
  go_enter Tryz.func90, Tryz.ntmps90
  go_wp2
  go_ret
  exact ⟨rfl, rfl⟩
theorem ccreated_nil (w : World) : Calls Tryz.prog 90 #[.pointer none] w fun e w' => e = .returned (.bool false) ∧ w = w' := by
  go_enter Tryz.func90, Tryz.ntmps90
  go_wp2
  go_ret
  exact ⟨rfl, rfl⟩
theorem ccreated_no (K : Nat) (w : World) (h : w.cell? ⟨K, 1, none⟩ = some (.pointer none)) : Calls Tryz.prog 90 #[.pointer (some ⟨K, 0, none⟩)] w fun e w' => e = .returned (.bool false) ∧ w = w' := by
  go_enter Tryz.func90, Tryz.ntmps90
  go_wp2
  go_ret
  exact ⟨rfl, rfl⟩
theorem planned_any (K : Nat) (off t : Int) (w : World) (h : w.cell? ⟨K, 2, none⟩ = some (.int .i64 off)) (h0 : 0 ≤ off) (h1 : off < 604800) (t0 : 0 ≤ t) (t1 : t ≤ 1125899906842624) :
    Calls Tryz.prog 120 #[.pointer (some ⟨K, 0, none⟩), .int .i64 t] w fun e w' => e = .returned (.int .i64 (t - off + 604800)) ∧ w' = w := by
  go_enter Tryz.func120, Tryz.ntmps120
  go_wp2
  go_ret
  exact ⟨rfl, rfl⟩
def instB (t : Int) : Bool := decide (0 ≤ t) && decide (t ≤ 1125899906842624)
theorem instB_iff (t : Int) : instB t = true ↔ 0 ≤ t ∧ t ≤ 1125899906842624 := by simp [instB]
theorem instant_any (t : Int) (w : World) : Calls Tryz.prog 91 #[.int .i64 t] w fun e w' => e = .returned (.bool (instB t)) ∧ w = w' := by
  obtain ⟨c1, d1⟩ : ∃ c, decide (0 ≤ t) = c := ⟨_, rfl⟩
  obtain ⟨c2, d2⟩ : ∃ c, decide (t ≤ 1125899906842624) = c := ⟨_, rfl⟩
  have e : instB t = (c1 && c2) := by rw [← d1, ← d2]; rfl
  rw [e]
  clear e
  cases c1 <;> cases c2
  all_goals
    go_enter Tryz.func91, Tryz.ntmps91
    go_wp2
    go_ret
    exact ⟨rfl, rfl⟩
/-- What a clock's method leaves behind. -/
def Asks (L : Loc) (D : Cal) (v : Value) (w : World) (e : Ending) (w' : World) : Prop := e = .returned v ∧ Ck L D w' ∧ Only (· = L.C) w w'
set_option maxRecDepth 100000 in
set_option maxHeartbeats 4000000 in
theorem opened_any {L : Loc} {D : Cal} {w : World} (h : Ck L D w) (hd : D.ok) (x y : Int) (x0 : 0 ≤ x) (xy : x ≤ y) (y1 : y ≤ 1125899906842624) :
    Calls Tryz.prog 94 #[.pointer (some ⟨L.K, 0, none⟩), .agg #[.int .i64 x, .int .i64 y]] w (Asks L D (.int .i64 (D.V y - D.V x)) w) := by
  have B1 : Below w.heap.size w (w.alloc (.cells #[.int .i64 x, .int .i64 y] 101)) := (Below.refl _ _).alloc (Nat.le_refl _) _
  have h1 := h.kept B1
  have hval : betweenV D.F D.T D.n (x - D.off + 604800) (y - D.off + 604800) = D.V y - D.V x := by
    have := D.V_mono hd x0 xy y1
    show max 0 (D.V y - D.V x) = _
    omega
  have HO := Lib.hid (Only.below (X := (· = L.C)) B1)
  have k1 := h1.k1
  have k2 := h1.k2
  have s0 : (w.alloc (.cells #[.int .i64 x, .int .i64 y] 101)).cell? ⟨w.heap.size, 0, none⟩ = some (.int .i64 x) := by simp
  have s1 : (w.alloc (.cells #[.int .i64 x, .int .i64 y] 101)).cell? ⟨w.heap.size, 1, none⟩ = some (.int .i64 y) := by simp
  have hne : w.heap.size ≠ L.C := by have := h.pl.lt; omega
  have H1 := Lib.hid h1
  have HD := Lib.hid hd
  have HV := Lib.hid hval
  obtain ⟨off, ho⟩ : ∃ o, D.off = o := ⟨_, rfl⟩
  have hp := planned_any L.K off
  have o0 := hd.off0
  have o1 := hd.off1
  rw [ho] at k2 HV o0 o1
  have HOF := Lib.hid ho
  have HP := Lib.hid (fun t W (h : W.cell? ⟨L.K, 2, none⟩ = some (.int .i64 off)) (t0 : 0 ≤ t) (t1 : t ≤ 1125899906842624) => hp t W h o0 o1 t0 t1)
  clear h hd hval h1 B1 hp
  go_enter Tryz.func94, Tryz.ntmps94
  go_wp2_with fail
  generalize hW : (w.alloc (.cells #[.int .i64 x, .int .i64 y] 101)) = W at *
  obtain ⟨sz, hsz⟩ : ∃ s, w.heap.size = s := ⟨_, rfl⟩
  rw [hsz] at s0 s1 hne ⊢
  clear hW hsz
  have h0 : W.drew.cell? ⟨L.K, 1, none⟩ = some (.pointer (some ⟨L.P, 0, none⟩)) ∧ W.drew.cell? ⟨L.K, 2, none⟩ = some (.int .i64 off) ∧ W.drew.cell? ⟨sz, 0, none⟩ = some (.int .i64 x) ∧ W.drew.cell? ⟨sz, 1, none⟩ = some (.int .i64 y) ∧ Ck L D W.drew ∧ Only (· = L.C) w W.drew := ⟨k1, k2, s0, s1, H1.out.kept ((Below.refl _ _).drew), HO.out.drew⟩
  have HBT : Hid (∀ w', (w'.cell? ⟨L.K, 1, none⟩ = some (.pointer (some ⟨L.P, 0, none⟩)) ∧ w'.cell? ⟨L.K, 2, none⟩ = some (.int .i64 off) ∧ w'.cell? ⟨sz, 0, none⟩ = some (.int .i64 x) ∧ w'.cell? ⟨sz, 1, none⟩ = some (.int .i64 y) ∧ Ck L D w' ∧ Only (· = L.C) w w') →
      Calls Tryz.prog 119 #[.pointer (some ⟨L.P, 0, none⟩), .int .i64 (x - off + 604800), .int .i64 (y - off + 604800)] w' fun e w'' => e = .returned (.int .i64 (D.V y - D.V x)) ∧
        (w''.cell? ⟨L.K, 1, none⟩ = some (.pointer (some ⟨L.P, 0, none⟩)) ∧ w''.cell? ⟨L.K, 2, none⟩ = some (.int .i64 off) ∧ w''.cell? ⟨sz, 0, none⟩ = some (.int .i64 x) ∧ w''.cell? ⟨sz, 1, none⟩ = some (.int .i64 y) ∧ Ck L D w'' ∧ Only (· = L.C) w w'')) := Lib.hid (by
    rintro w' ⟨g1, g2, g3, g4, g5, g6⟩
    have := between_anyO (x - off + 604800) (y - off + 604800) g5.pl HD.out.wk (Nat.le_of_lt (Nat.lt_of_le_of_lt g5.pl.hP g5.pl.ltP))
    rw [HV.out] at this
    refine this.mono ?_
    rintro e w'' ⟨rfl, hp, ho⟩
    have hc := g5.only ho hp
    exact ⟨rfl, hc.k1, by rw [hc.k2, HOF.out], (ho.cell (p := ⟨sz, 0, none⟩) (cell_spot g3).2 hne).trans g3, (ho.cell (p := ⟨sz, 1, none⟩) (cell_spot g4).2 hne).trans g4, hc, g6.trans ho⟩)
  clear k1 k2 s0 s1
  go_region_held3 (fun w' => w'.cell? ⟨L.K, 1, none⟩ = some (.pointer (some ⟨L.P, 0, none⟩)) ∧ w'.cell? ⟨L.K, 2, none⟩ = some (.int .i64 off) ∧ w'.cell? ⟨sz, 0, none⟩ = some (.int .i64 x) ∧ w'.cell? ⟨sz, 1, none⟩ = some (.int .i64 y) ∧ Ck L D w' ∧ Only (· = L.C) w w')
    (first | exact h0 | assumption)
    (first
      | (go_at_call 119; refine (HBT.out _ (by assumption)).mono ?_; rintro e w8 ⟨rfl, hS8⟩)
      | (go_at_call 120; refine (HP.out _ _ (by simp [*]) (by omega) (by omega)).mono ?_; rintro e w8 ⟨rfl, rfl⟩))
  all_goals
    obtain ⟨_, _, _, _, hc8, ho8⟩ := hS8
    have HC8 := Lib.hid hc8
    have HO8 := Lib.hid ho8
    clear hc8 ho8 h0
    go_wp2_with fail
    go_ret
    exact ⟨rfl, HC8.out, HO8.out⟩

set_option maxRecDepth 100000 in
set_option maxHeartbeats 4000000 in
theorem nth_any {L : Loc} {D : Cal} {w : World} (h : Ck L D w) (hd : D.ok) (x y k : Int) (x0 : 0 ≤ x) (x1 : x ≤ 1125899906842624) (k0 : 0 ≤ k) (k1' : k ≤ 2251800000604800) (hv0 : 0 ≤ pnV D.F D.T D.n (D.V x + k)) (hv1 : pnV D.F D.T D.n (D.V x + k) ≤ 2251799813685248) :
    Calls Tryz.prog 95 #[.pointer (some ⟨L.K, 0, none⟩), .agg #[.int .i64 x, .int .i64 y], .int .i64 k] w (Asks L D (.int .i64 (pnV D.F D.T D.n (D.V x + k) + D.off - 604800)) w) := by
  have B1 : Below w.heap.size w (w.alloc (.cells #[.int .i64 x, .int .i64 y] 101)) := (Below.refl _ _).alloc (Nat.le_refl _) _
  have h1 := h.kept B1
  have HO := Lib.hid (Only.below (X := (· = L.C)) B1)
  have k1 := h1.k1
  have k2 := h1.k2
  have s0 : (w.alloc (.cells #[.int .i64 x, .int .i64 y] 101)).cell? ⟨w.heap.size, 0, none⟩ = some (.int .i64 x) := by simp
  have hne : w.heap.size ≠ L.C := by have := h.pl.lt; omega
  have H1 := Lib.hid h1
  have HD := Lib.hid hd
  have hvx : untilV D.F D.T D.n (x - D.off + 604800) = D.V x := rfl
  obtain ⟨_, _, u0, u1⟩ := until_bounds hd.wk (x - D.off + 604800)
  rw [hvx] at u0 u1
  obtain ⟨off, ho⟩ : ∃ o, D.off = o := ⟨_, rfl⟩
  have hp := planned_any L.K off
  have o0 := hd.off0
  have o1 := hd.off1
  rw [ho] at k2 hvx o0 o1 ⊢
  have HVX := Lib.hid hvx
  have HOF := Lib.hid ho
  obtain ⟨vx, hvv⟩ : ∃ v, D.V x = v := ⟨_, rfl⟩
  rw [hvv] at u0 u1 HVX hv0 hv1 ⊢
  obtain ⟨r, hr⟩ : ∃ v, pnV D.F D.T D.n (vx + k) = v := ⟨_, rfl⟩
  rw [hr] at hv0 hv1 ⊢
  have HR := Lib.hid hr
  have HP := Lib.hid (fun t W (h : W.cell? ⟨L.K, 2, none⟩ = some (.int .i64 off)) (t0 : 0 ≤ t) (t1 : t ≤ 1125899906842624) => hp t W h o0 o1 t0 t1)
  clear h hd hvx h1 B1 hp ho hvv hr
  go_enter Tryz.func95, Tryz.ntmps95
  go_wp2_with fail
  generalize hW : (w.alloc (.cells #[.int .i64 x, .int .i64 y] 101)) = W at *
  obtain ⟨sz, hsz⟩ : ∃ s, w.heap.size = s := ⟨_, rfl⟩
  rw [hsz] at s0 hne ⊢
  clear hW hsz
  have h0 : W.drew.cell? ⟨L.K, 1, none⟩ = some (.pointer (some ⟨L.P, 0, none⟩)) ∧ W.drew.cell? ⟨L.K, 2, none⟩ = some (.int .i64 off) ∧ W.drew.cell? ⟨sz, 0, none⟩ = some (.int .i64 x) ∧ Ck L D W.drew ∧ Only (· = L.C) w W.drew := ⟨k1, k2, s0, H1.out.kept ((Below.refl _ _).drew), HO.out.drew⟩
  have HUN : Hid (∀ w', (w'.cell? ⟨L.K, 1, none⟩ = some (.pointer (some ⟨L.P, 0, none⟩)) ∧ w'.cell? ⟨L.K, 2, none⟩ = some (.int .i64 off) ∧ w'.cell? ⟨sz, 0, none⟩ = some (.int .i64 x) ∧ Ck L D w' ∧ Only (· = L.C) w w') →
      Calls Tryz.prog 122 #[.pointer (some ⟨L.P, 0, none⟩), .int .i64 (x - off + 604800)] w' fun e w'' => e = .returned (.int .i64 vx) ∧
        (w''.cell? ⟨L.K, 1, none⟩ = some (.pointer (some ⟨L.P, 0, none⟩)) ∧ w''.cell? ⟨L.K, 2, none⟩ = some (.int .i64 off) ∧ w''.cell? ⟨sz, 0, none⟩ = some (.int .i64 x) ∧ Ck L D w'' ∧ Only (· = L.C) w w'')) := Lib.hid (by
    rintro w' ⟨g1, g2, g3, g5, g6⟩
    have := until_anyO (x - off + 604800) g5.pl HD.out.wk (Nat.le_of_lt (Nat.lt_of_le_of_lt g5.pl.hP g5.pl.ltP))
    rw [HVX.out] at this
    refine this.mono ?_
    rintro e w'' ⟨rfl, hp, ho⟩
    have hc := g5.only ho hp
    exact ⟨rfl, hc.k1, by rw [hc.k2, HOF.out], (ho.cell (p := ⟨sz, 0, none⟩) (cell_spot g3).2 hne).trans g3, hc, g6.trans ho⟩)
  have HNT : Hid (∀ w', (w'.cell? ⟨L.K, 1, none⟩ = some (.pointer (some ⟨L.P, 0, none⟩)) ∧ w'.cell? ⟨L.K, 2, none⟩ = some (.int .i64 off) ∧ w'.cell? ⟨sz, 0, none⟩ = some (.int .i64 x) ∧ Ck L D w' ∧ Only (· = L.C) w w') →
      Calls Tryz.prog 121 #[.pointer (some ⟨L.P, 0, none⟩), .int .i64 (vx + k)] w' fun e w'' => e = .returned (.tuple #[.int .i64 r, .int .i64 (pnE D.F D.T D.n (vx + k))]) ∧
        (w''.cell? ⟨L.K, 1, none⟩ = some (.pointer (some ⟨L.P, 0, none⟩)) ∧ w''.cell? ⟨L.K, 2, none⟩ = some (.int .i64 off) ∧ w''.cell? ⟨sz, 0, none⟩ = some (.int .i64 x) ∧ Ck L D w'' ∧ Only (· = L.C) w w'')) := Lib.hid (by
    rintro w' ⟨g1, g2, g3, g5, g6⟩
    have := nth_planO (vx + k) g5.pl HD.out.wk (Nat.le_of_lt (Nat.lt_of_le_of_lt g5.pl.hP g5.pl.ltP)) (by omega)
    rw [HR.out] at this
    refine this.mono ?_
    rintro e w'' ⟨rfl, hp, ho⟩
    have hc := g5.only ho hp
    exact ⟨rfl, hc.k1, by rw [hc.k2, HOF.out], (ho.cell (p := ⟨sz, 0, none⟩) (cell_spot g3).2 hne).trans g3, hc, g6.trans ho⟩)
  clear k1 k2 s0
  generalize pnE D.F D.T D.n (vx + k) = pe at *
  have hwk : IntKind.i64.wrap (vx + k) = vx + k := IntWalk.i64_in _ (by omega)
  go_region_held3 (fun w' => w'.cell? ⟨L.K, 1, none⟩ = some (.pointer (some ⟨L.P, 0, none⟩)) ∧ w'.cell? ⟨L.K, 2, none⟩ = some (.int .i64 off) ∧ w'.cell? ⟨sz, 0, none⟩ = some (.int .i64 x) ∧ Ck L D w' ∧ Only (· = L.C) w w')
    (first | exact h0 | assumption)
    (first
      | (go_at_call 122; refine (HUN.out _ (by assumption)).mono ?_; rintro e w8 ⟨rfl, hS8⟩)
      | (go_at_call 121; refine (HNT.out _ (by assumption)).mono ?_; rintro e w9 ⟨rfl, hS9⟩)
      | (go_at_call 120; refine (HP.out _ _ (by simp [*]) (by omega) (by omega)).mono ?_; rintro e w8 ⟨rfl, rfl⟩))
  all_goals
    obtain ⟨_, hk2, _, hc8, ho8⟩ := hS9
    have HC8 := Lib.hid hc8
    have HO8 := Lib.hid ho8
    clear hc8 ho8 h0
    go_wp2_with fail
    go_ret
    exact ⟨rfl, HC8.out, HO8.out⟩
end Go.Proofs.YtibjboacjobaoaaGreat
