/- DiceBounds. -/
import Derived.Test.YtfakgemifbgafaaDcF
namespace Go.Proofs.Ytfakgemifbgafaa
open Go.RowKit

/-- What Order hands back, of any number. -/
def ordI (n : Int) (bs : List Nat) : List Int × List Nat := if n < 1 ∨ 65536 < n then ([], bs) else ord (n.toNat - 1) (asc n.toNat) bs
/-- A row of numbers, or none, that can be read, from block B on. -/
def Rdn (B : Nat) (v : Value) (l : List Int) (w : World) : Prop := ∃ a c, v = .slice a l.length c ∧ (0 < l.length → ∃ g, a = some ⟨g, 0, none⟩ ∧ B ≤ g ∧ ∀ i, i < l.length → w.cell? ⟨g, i, none⟩ = some (.int .i64 (l.getD i 0)))
theorem Rdn.rdi {B : Nat} {v : Value} {l : List Int} {w : World} (h : Rdn B v l w) : Rdi v l w := by
  obtain ⟨a, c, h1, h2⟩ := h
  exact ⟨a, c, h1, fun h => by obtain ⟨g, e, _, h3⟩ := h2 h; exact ⟨g, e, h3⟩⟩
theorem Rdn.only {Y : Nat → Prop} {B : Nat} {v : Value} {l : List Int} {w w' : World} (h : Rdn B v l w) (hY : ∀ k, B ≤ k → k < w.heap.size → ¬ Y k) (o : Only Y w w') : Rdn B v l w' := by
  obtain ⟨a, c, h1, h2⟩ := h
  refine ⟨a, c, h1, fun h => ?_⟩
  obtain ⟨g, e, hg, h3⟩ := h2 h
  exact ⟨g, e, hg, fun i hi => by
    have hlt := (cell_spot (h3 i hi)).2
    exact (o.cell (p := ⟨g, i, none⟩) hlt (hY g hg hlt)).trans (h3 i hi)⟩
theorem order_all {X : Nat → Prop} (b : Nat) (n : Int) (ds : List Nat) (w : World) (D : Dic X b ds w) :
    Calls Try.prog 39 #[.pointer (some ⟨b, 0, none⟩), .int .i64 n] w fun e w' => ∃ v, e = .returned v ∧ Rdn w.heap.size v (ordI n ds).1 w' ∧ Dic X b (ordI n ds).2 w' ∧ Only (· = b) w w' := by
  unfold ordI
  by_cases h : n < 1 ∨ 65536 < n
  · rw [if_pos h]
    refine (order_none _ n w h).mono ?_
    rintro e w' ⟨rfl, rfl⟩
    exact ⟨_, rfl, ⟨none, 0, rfl, fun h => by simp at h⟩, D, Only.refl _ _⟩
  · rw [if_neg h]
    obtain ⟨k, rfl⟩ : ∃ k : Nat, n = (k : Int) := ⟨n.toNat, by omega⟩
    rw [Int.toNat_natCast]
    refine (order_dic b k ds w D (by omega) (by omega)).mono ?_
    rintro e w' ⟨v, rfl, ⟨g, c, h1, hg, h2⟩, D1, O1⟩
    exact ⟨v, rfl, ⟨_, c, h1, fun _ => ⟨g, rfl, hg, h2⟩⟩, D1, O1⟩

theorem swap_at (l : List Int) (i j k : Nat) (hi : i < l.length) (hj : j < l.length) (hk : k < l.length) : (swap l i j).getD k 0 = l.getD (if k = j then i else if k = i then j else k) 0 := by
  unfold swap
  simp only [List.getD_eq_getElem?_getD, List.getElem?_set, List.length_set]
  by_cases h1 : j = k
  · subst h1; simp [hj]
  · by_cases h2 : i = k
    · subst h2
      simp [h1, hi, Ne.symm h1]
    · simp [h1, h2, Ne.symm h1, Ne.symm h2]
/-- Each number below n once. -/
structure Each (n : Nat) (l : List Int) : Prop where
  len : l.length = n
  bnd : ∀ k, k < n → 0 ≤ l.getD k 0 ∧ l.getD k 0 < (n : Int)
  inj : ∀ a b, a < n → b < n → l.getD a 0 = l.getD b 0 → a = b
theorem Each.swap {n : Nat} {l : List Int} (E : Each n l) (i j : Nat) (hi : i < n) (hj : j < n) : Each n (swap l i j) := by
  have hl := E.len
  have at' : ∀ k, k < n → (Go.Proofs.Ytfakgemifbgafaa.swap l i j).getD k 0 = l.getD (if k = j then i else if k = i then j else k) 0 := fun k hk => swap_at l i j k (by omega) (by omega) (by omega)
  have lt' : ∀ k, k < n → (if k = j then i else if k = i then j else k) < n := fun k hk => by split; exact hi; split; exact hj; exact hk
  refine ⟨by rw [swap_length, hl], fun k hk => by rw [at' k hk]; exact E.bnd _ (lt' k hk), fun a b ha hb h => ?_⟩
  rw [at' a ha, at' b hb] at h
  have := E.inj _ _ (lt' a ha) (lt' b hb) h
  split at this <;> split at this <;> (try split at this) <;> (try split at this) <;> omega
theorem ord_each (n i : Nat) : ∀ (l : List Int) (bs : List Nat), i < n → Each n l → Each n (ord i l bs).1 := by
  induction i with
  | zero => intro l bs _ E; exact E
  | succ i ih =>
    intro l bs hi E
    rw [ord]
    have := below_lt (i + 2) bs (by omega)
    exact ih _ _ (by omega) (E.swap _ _ hi (by omega))
theorem asc_each (n : Nat) : Each n (asc n) := ⟨asc_length n, fun k hk => by rw [asc_at n k hk]; omega, fun a b ha hb h => by rw [asc_at n a ha, asc_at n b hb] at h; omega⟩
theorem ordI_each (k : Nat) (bs : List Nat) (h : k ≤ 65536) : Each k (ordI (k : Int) bs).1 := by
  unfold ordI
  by_cases h0 : k = 0
  · subst h0
    simp
    exact ⟨rfl, fun k hk => by omega, fun a b ha => by omega⟩
  · rw [if_neg (by omega), Int.toNat_natCast]
    exact ord_each k _ _ _ (by omega) (asc_each k)
theorem between_in (low high : Int) (bs : List Nat) (h : low ≤ high) (l0 : -9223372036854775808 ≤ low) (h1 : high ≤ 9223372036854775807) : low ≤ (between low high bs).1 ∧ (between low high bs).1 ≤ high := by
  unfold between
  rw [if_neg (by omega)]
  by_cases h' : high - low = 18446744073709551615
  · rw [if_pos h']
    simp only [wrap64]
    omega
  · rw [if_neg h']
    have hb := below_lt ((high - low).toNat + 1) bs (by omega)
    generalize (below ((high - low).toNat + 1) bs).1 = r at hb ⊢
    simp only [wrap64]
    omega
theorem between_out (low high : Int) (bs : List Nat) (h : high < low) : (between low high bs).1 = low := by
  unfold between
  rw [if_pos h]

/-- What was met, in block Q. -/
structure Seen (Q n : Nat) (f : Nat → Bool) (w : World) : Prop where
  c : ∀ j, j < n → w.cell? ⟨Q, j, none⟩ = some (.bool (f j))
  free : ∀ j, w.frozen? ⟨Q, j, none⟩ = false
theorem Seen.set {Q n : Nat} {f : Nat → Bool} {w : World} (S : Seen Q n f w) (j : Nat) (hj : j < n) : Seen Q n (fun i => if i = j then true else f i) (w.setCell ⟨Q, j, none⟩ (.bool true)) := by
  refine ⟨fun i hi => ?_, fun i => by simpa using S.free i⟩
  by_cases h : i = j
  · subst h
    rw [World.cell?_setCell_same _ _ _ (S.c i hi), if_pos rfl]
  · rw [if_neg h]
    exact (World.cell?_setCell_other _ ⟨Q, j, none⟩ ⟨Q, i, none⟩ _ (fun e => by injection e with e1 e2; omega)).trans (S.c i hi)
theorem bools_info' : (Try.prog.info? 4).map (fun i => (i.zero, i.size, i.bytes)) = some (some (.bool false), 1, 1) := by kernel_rfl
theorem seen_new (n : Nat) (w : World) : Seen w.heap.size n (fun _ => false) (w.alloc (.cells (madeCells #[.bool false] n) 4)) := by
  refine ⟨fun j hj => ?_, fun j => ?_⟩
  · rw [World.cell?_alloc_at _ _ _ _ rfl, made_at0 _ _ _ hj]
  · rw [frozen?_alloc_cells]
    have : w.heap[w.heap.size]? = none := by simp
    simp [World.frozen?, this]

set_option maxRecDepth 100000 in
set_option maxHeartbeats 4000000 in
theorem dbounds_big (a : Option Addr) (len cap : Nat) (n low high many : Int) (w : World) (hm : len ≤ 9223372036854775807) (h : 3000 < len) :
    Calls Try.prog 9 #[.slice a len cap, .int .u64 n, .int .i64 low, .int .i64 high, .int .u8 many] w fun e w' => e = .returned (.bool true) ∧ Below w.heap.size w w' := by
  have d1 : decide (3000 < (len : Int)) = true := by simp; omega
  go_enter Try.func9, Try.ntmps9
  go_wp2_with (go_at_call 32; refine (lives6 _).mono ?_; rintro e w' ⟨rfl, hl⟩)
  go_ret
  exact ⟨rfl, hl⟩
end Go.Proofs.Ytfakgemifbgafaa
