import Derived.Test.YtibjboacjobaoaaGreatMgAJ
import Derived.Deep.Slices
import Derived.BigQuiet
import Derived.Deep.QuietTactic
import Derived.LoopTactic
import Derived.OwnWalk
import Derived.Lib.Hide
import Derived.Test.YtibjboacjobaoaaGreatMgAI
namespace Go.Proofs.YtibjboacjobaoaaGreat
open Go.RowKit
/- Spans: how a row of them reads; the small functions, the program's and the reference's. -/
open Go.RowKit

/-- All old cells and marks read as before. -/
theorem bcell {W w1 : World} (hb : Below W.heap.size W w1) : (∀ b o, b < W.heap.size → w1.cell? ⟨b, o, none⟩ = W.cell? ⟨b, o, none⟩) ∧ (∀ b o, b < W.heap.size → w1.frozen? ⟨b, o, none⟩ = W.frozen? ⟨b, o, none⟩) :=
  ⟨fun b o h => hb.cell (p := ⟨b, o, none⟩) h, fun b o h => hb.frozen (p := ⟨b, o, none⟩) h⟩

/-- A new block, then a call that leaves what was there. -/
theorem below_call {B : Nat} {w wr w' : World} {o : Obj} (h : Below B w wr) (hB : B ≤ wr.heap.size) (hb : Below (wr.alloc o).heap.size (wr.alloc o) w') : Below B w w' :=
  (h.alloc hB _).trans (hb.mono (by simp; omega))

def rightB (f t : Int) : Bool := decide (0 ≤ f) && (decide (f < t) && decide (t ≤ 1125899906842624))
theorem rightB_iff (f t : Int) : rightB f t = true ↔ 0 ≤ f ∧ f < t ∧ t ≤ 1125899906842624 := by simp [rightB]

theorem right_any (f t : Int) (w : World) : Calls Tryz.prog 133 #[.agg #[.int .i64 f, .int .i64 t]] w fun e w' => e = .returned (.bool (rightB f t)) ∧ Below w.heap.size w w' := by
  obtain ⟨c1, d1⟩ : ∃ c, decide (0 ≤ f) = c := ⟨_, rfl⟩
  obtain ⟨c2, d2⟩ : ∃ c, decide (f < t) = c := ⟨_, rfl⟩
  obtain ⟨c3, d3⟩ : ∃ c, decide (t ≤ 1125899906842624) = c := ⟨_, rfl⟩
  have e : rightB f t = (c1 && (c2 && c3)) := by rw [← d1, ← d2, ← d3]; rfl
  rw [e]
  clear e
  cases c1 <;> cases c2 <;> cases c3
  all_goals
    go_enter Tryz.func133, Tryz.ntmps133
    go_wp2
    go_ret
    exact ⟨rfl, (Below.refl _ _).alloc (Nat.le_refl _) _⟩
theorem rright_any (f t : Int) (w : World) : Calls Tryz.prog 97 #[.agg #[.int .i64 f, .int .i64 t]] w fun e w' => e = .returned (.bool (rightB f t)) ∧ Below w.heap.size w w' := by
  obtain ⟨c1, d1⟩ : ∃ c, decide (0 ≤ f) = c := ⟨_, rfl⟩
  obtain ⟨c2, d2⟩ : ∃ c, decide (f < t) = c := ⟨_, rfl⟩
  obtain ⟨c3, d3⟩ : ∃ c, decide (t ≤ 1125899906842624) = c := ⟨_, rfl⟩
  have e : rightB f t = (c1 && (c2 && c3)) := by rw [← d1, ← d2, ← d3]; rfl
  rw [e]
  clear e
  cases c1 <;> cases c2 <;> cases c3
  all_goals
    go_enter Tryz.func97, Tryz.ntmps97
    go_wp2
    go_ret
    exact ⟨rfl, (Below.refl _ _).alloc (Nat.le_refl _) _⟩

theorem size_any (f t : Int) (w : World) (h1 : -9223372036854775808 ≤ t - f) (h2 : t - f ≤ 9223372036854775807) : Calls Tryz.prog 145 #[.agg #[.int .i64 f, .int .i64 t]] w fun e w' => e = .returned (.int .i64 (t - f)) ∧ Below w.heap.size w w' := by
  go_enter Tryz.func145, Tryz.ntmps145
  go_wp2
  go_ret
  exact ⟨rfl, (Below.refl _ _).alloc (Nat.le_refl _) _⟩

def mx (a b : Int) : Int := if a < b then b else a
def mn (a b : Int) : Int := if b < a then b else a
/-- What two spans have in common: from, to; 0 and 0 where there is nothing. -/
def comF (f t f' t' : Int) : Int := if mn t t' ≤ mx f f' then 0 else mx f f'
def comT (f t f' t' : Int) : Int := if mn t t' ≤ mx f f' then 0 else mn t t'
theorem com_cases (f t f' t' : Int) : (mn t t' ≤ mx f f' ∧ comF f t f' t' = 0 ∧ comT f t f' t' = 0) ∨ (mx f f' < mn t t' ∧ comF f t f' t' = mx f f' ∧ comT f t f' t' = mn t t') := by
  unfold comF comT
  by_cases h : mn t t' ≤ mx f f'
  · exact .inl ⟨h, by simp [h], by simp [h]⟩
  · exact .inr ⟨by omega, by simp [h], by simp [h]⟩
theorem mx_cases (a b : Int) : (a < b ∧ mx a b = b) ∨ (b ≤ a ∧ mx a b = a) := by unfold mx; split <;> omega
theorem mn_cases (a b : Int) : (b < a ∧ mn a b = b) ∨ (a ≤ b ∧ mn a b = a) := by unfold mn; split <;> omega
/-- A span handed back. -/
def GotSpan (x y : Int) (w : World) (e : Ending) (w' : World) : Prop := ∃ u v, e = .returned (.agg #[.int .i64 u, .int .i64 v]) ∧ u = x ∧ v = y ∧ Below w.heap.size w w'

def GotPart (x y : Int) (w : World) (e : Ending) (w' : World) : Prop := ∃ u v b, e = .returned (.tuple #[.agg #[.int .i64 u, .int .i64 v], .bool b]) ∧ u = x ∧ v = y ∧ b = decide (x < y) ∧ Below w.heap.size w w'
/- Boxes that a call makes first; what stays where a block was. -/
open Go.RowKit
theorem heap_old (w : World) (o : Obj) {k : Nat} (h : k < w.heap.size) : (w.alloc o).heap[k]? = w.heap[k]? := ((Below.refl _ w).alloc (Nat.le_refl _) o).block k h
/-- Boxes that a call makes first. -/
theorem box1 (w : World) (A : Array Value) (ta : TypeId) : Below w.heap.size w (w.alloc (.cells A ta)) ∧ (w.alloc (.cells A ta)).heap[w.heap.size]? = some (.cells A ta (0, 0)) ∧ (w.alloc (.cells A ta)).heap.size = w.heap.size + 1 :=
  ⟨(Below.refl _ _).alloc (Nat.le_refl _) _, heap_alloc_new w _, World.size_alloc ..⟩
theorem box2 (w : World) (A B : Array Value) (ta tb : TypeId) : Below w.heap.size w ((w.alloc (.cells A ta)).alloc (.cells B tb)) ∧
    ((w.alloc (.cells A ta)).alloc (.cells B tb)).heap[w.heap.size]? = some (.cells A ta (0, 0)) ∧ ((w.alloc (.cells A ta)).alloc (.cells B tb)).heap[w.heap.size + 1]? = some (.cells B tb (0, 0)) ∧ ((w.alloc (.cells A ta)).alloc (.cells B tb)).heap.size = w.heap.size + 1 + 1 := by
  obtain ⟨h1, h2, h3⟩ := box1 w A ta
  obtain ⟨k1, k2, k3⟩ := box1 (w.alloc (.cells A ta)) B tb
  rw [h3] at k2 k3
  exact ⟨h1.trans (k1.mono h1.size), (heap_old _ _ (by rw [h3]; omega)).trans h2, k2, k3⟩
theorem box3 (w : World) (A B C : Array Value) (ta tb tc : TypeId) : Below w.heap.size w (((w.alloc (.cells A ta)).alloc (.cells B tb)).alloc (.cells C tc)) ∧
    (((w.alloc (.cells A ta)).alloc (.cells B tb)).alloc (.cells C tc)).heap[w.heap.size]? = some (.cells A ta (0, 0)) ∧ (((w.alloc (.cells A ta)).alloc (.cells B tb)).alloc (.cells C tc)).heap[w.heap.size + 1]? = some (.cells B tb (0, 0)) ∧
    (((w.alloc (.cells A ta)).alloc (.cells B tb)).alloc (.cells C tc)).heap[w.heap.size + 1 + 1]? = some (.cells C tc (0, 0)) ∧ (((w.alloc (.cells A ta)).alloc (.cells B tb)).alloc (.cells C tc)).heap.size = w.heap.size + 1 + 1 + 1 := by
  obtain ⟨h1, h2, h2', h3⟩ := box2 w A B ta tb
  obtain ⟨k1, k2, k3⟩ := box1 ((w.alloc (.cells A ta)).alloc (.cells B tb)) C tc
  rw [h3] at k2 k3
  exact ⟨h1.trans (k1.mono h1.size), (heap_old _ _ (by rw [h3]; omega)).trans h2, (heap_old _ _ (by rw [h3]; omega)).trans h2', k2, k3⟩
theorem box4 (w : World) (A B C E : Array Value) (ta tb tc te : TypeId) : Below w.heap.size w ((((w.alloc (.cells A ta)).alloc (.cells B tb)).alloc (.cells C tc)).alloc (.cells E te)) ∧
    ((((w.alloc (.cells A ta)).alloc (.cells B tb)).alloc (.cells C tc)).alloc (.cells E te)).heap[w.heap.size]? = some (.cells A ta (0, 0)) ∧ ((((w.alloc (.cells A ta)).alloc (.cells B tb)).alloc (.cells C tc)).alloc (.cells E te)).heap[w.heap.size + 1]? = some (.cells B tb (0, 0)) ∧
    ((((w.alloc (.cells A ta)).alloc (.cells B tb)).alloc (.cells C tc)).alloc (.cells E te)).heap[w.heap.size + 1 + 1]? = some (.cells C tc (0, 0)) ∧ ((((w.alloc (.cells A ta)).alloc (.cells B tb)).alloc (.cells C tc)).alloc (.cells E te)).heap[w.heap.size + 1 + 1 + 1]? = some (.cells E te (0, 0)) ∧
    ((((w.alloc (.cells A ta)).alloc (.cells B tb)).alloc (.cells C tc)).alloc (.cells E te)).heap.size = w.heap.size + 1 + 1 + 1 + 1 := by
  obtain ⟨h1, h2, h2', h2'', h3⟩ := box3 w A B C ta tb tc
  obtain ⟨k1, k2, k3⟩ := box1 (((w.alloc (.cells A ta)).alloc (.cells B tb)).alloc (.cells C tc)) E te
  rw [h3] at k2 k3
  exact ⟨h1.trans (k1.mono h1.size), (heap_old _ _ (by rw [h3]; omega)).trans h2, (heap_old _ _ (by rw [h3]; omega)).trans h2', (heap_old _ _ (by rw [h3]; omega)).trans h2'', k2, k3⟩

theorem ex_lt {w : World} {T : Nat} {o : Obj} (h : w.heap[T]? = some o) : T < w.heap.size := (Array.getElem?_eq_some_iff.mp h).1
theorem ex_below {w w' : World} {T : Nat} {o : Obj} (h : w.heap[T]? = some o) (hb : Below w.heap.size w w') : w'.heap[T]? = some o := (hb.block T (ex_lt h)).trans h
/- Numbers that are read: what they are, what is left, whether that is bad; both readers. -/
open Go.RowKit
def nN (most : Nat) (ds : List Nat) : Nat := match rNum most ds with | some (n, _) => n | none => 0
def nR (most : Nat) (ds : List Nat) : List Nat := match rNum most ds with | some (_, r) => r | none => []
def nB (most : Nat) (ds : List Nat) : Bool := match rNum most ds with | some _ => false | none => true
theorem nN_le (most : Nat) (ds : List Nat) : nN most ds ≤ most := by
  unfold nN rNum
  split
  · rename_i n r h
    split at h
    · split at h
      · simp only [Option.some.injEq, Prod.mk.injEq] at h
        omega
      · cases h
    · cases h
  · omega
theorem num_rd1 (b most : Nat) (ds : List Nat) (bad : Bool) (w : World) (hr : RR w b ds bad) :
    Calls Tryz.prog 70 #[.pointer (some ⟨b, 0, none⟩), .int .u64 (most : Int)] w fun e w' => e = .returned (.int .u64 ((nN most ds : Nat) : Int)) ∧ RR w' b (nR most ds) (nB most ds) ∧ Rd b w w' := by
  refine (num_rd b most ds bad w hr).mono fun e w' h => ?_
  unfold nN nR nB
  cases hq : rNum most ds with
  | none => exact h.1 (by rw [hq]; rfl)
  | some p => exact h.2 _ _ (by rw [hq]; rfl)
theorem num_rf1 (b most : Nat) (ds : List Nat) (bad : Bool) (w : World) (hr : RF w b ds bad) :
    Calls Tryz.prog 72 #[.pointer (some ⟨b, 0, none⟩), .int .u64 (most : Int)] w fun e w' => e = .returned (.int .u64 ((nN most ds : Nat) : Int)) ∧ RF w' b (nR most ds) (nB most ds) ∧ Rd b w w' := by
  refine (num_rf b most ds bad w hr).mono fun e w' h => ?_
  unfold nN nR nB
  cases hq : rNum most ds with
  | none => exact h.1 (by rw [hq]; rfl)
  | some p => exact h.2 _ _ (by rw [hq]; rfl)
theorem RR.lt {w : World} {b : Nat} {ds : List Nat} {bad : Bool} (h : RR w b ds bad) : b < w.heap.size := by
  obtain ⟨v, h1, _⟩ := h
  exact lt_of_block h1
theorem RF.lt {w : World} {b : Nat} {ds : List Nat} {bad : Bool} (h : RF w b ds bad) : b < w.heap.size := by
  obtain ⟨v, h1, _⟩ := h
  exact lt_of_block h1
theorem Rd.below {b : Nat} {w w' : World} (h : Below w.heap.size w w') : Rd b w w' := Turn.below h
theorem Rd.keep {b : Nat} {w w' : World} (h : Rd b w w') {T : Nat} {ob : Obj} (k : w.heap[T]? = some ob) (hT : T ≠ b) : w'.heap[T]? = some ob := (h.block T (ex_lt k) hT (by simp [Value.ownBlock])).trans k

theorem one_at {w : World} {N : Nat} {a : Value} {t : TypeId} (h : w.heap[N]? = some (.cells #[a] t (0, 0))) : w.cell? ⟨N, 0, none⟩ = some a := by simp [World.cell?, h]
def iN (ds : List Nat) : Int := match rInt ds with | some (n, _) => n | none => 0
def iR (ds : List Nat) : List Nat := match rInt ds with | some (_, r) => r | none => []
def iB (ds : List Nat) : Bool := match rInt ds with | some _ => false | none => true
theorem iN_in (ds : List Nat) : -9223372036854775808 ≤ iN ds ∧ iN ds ≤ 9223372036854775807 := by
  unfold iN
  cases hp : rnum ds with
  | none => rw [rInt_none hp]; simp
  | some q =>
    obtain ⟨m, bl, r⟩ := q
    by_cases hle : m ≤ 9223372036854775807
    · rw [rInt_some hp hle]
      cases bl <;> simp <;> omega
    · rw [rInt_big hp hle]; simp
theorem int_rd1 (b : Nat) (ds : List Nat) (bad : Bool) (w : World) (hr : RR w b ds bad) :
    Calls Tryz.prog 54 #[.pointer (some ⟨b, 0, none⟩)] w fun e w' => e = .returned (.int .i64 (iN ds)) ∧ RR w' b (iR ds) (iB ds) ∧ Rd b w w' := by
  refine (int_rd b ds bad w hr).mono fun e w' h => ?_
  unfold iN iR iB
  cases hq : rInt ds with
  | none => exact h.1 (by rw [hq]; rfl)
  | some p => exact h.2 _ _ (by rw [hq]; rfl)
theorem int_rf1 (b : Nat) (ds : List Nat) (bad : Bool) (w : World) (hr : RF w b ds bad) :
    Calls Tryz.prog 61 #[.pointer (some ⟨b, 0, none⟩)] w fun e w' => e = .returned (.int .i64 (iN ds)) ∧ RF w' b (iR ds) (iB ds) ∧ Rd b w w' := by
  refine (int_rf b ds bad w hr).mono fun e w' h => ?_
  unfold iN iR iB
  cases hq : rInt ds with
  | none => exact h.1 (by rw [hq]; rfl)
  | some p => exact h.2 _ _ (by rw [hq]; rfl)
theorem nN_back (most n : Nat) (rest : List Nat) (h : n < 18446744073709551616) (hm : n ≤ most) : nN most (num 0 n ++ rest) = n ∧ nR most (num 0 n ++ rest) = rest ∧ nB most (num 0 n ++ rest) = false := by
  unfold nN nR nB
  rw [rNum_back n rest h most hm]
  exact ⟨rfl, rfl, rfl⟩
theorem iN_back (z : Int) (rest : List Nat) (h1 : -9223372036854775808 ≤ z) (h2 : z ≤ 9223372036854775807) : iN (intB z ++ rest) = z ∧ iR (intB z ++ rest) = rest ∧ iB (intB z ++ rest) = false := by
  unfold iN iR iB
  rw [rInt_back z rest h1 h2]
  exact ⟨rfl, rfl, rfl⟩
theorem nB_none (most : Nat) : nN most [] = 0 ∧ nR most [] = [] ∧ nB most [] = true := by
  unfold nN nR nB rNum rnum
  exact ⟨rfl, rfl, rfl⟩

/-- A reader and its bytes lie below every later block. -/
theorem RB.blk {w w' : World} {v : Value} {bs : List Nat} (h : RB w v bs) (hb : ∀ k, v.ownBlock = some k → k < w.heap.size → w'.heap[k]? = w.heap[k]?) : RB w' v bs := by
  obtain ⟨h1, h2, h3⟩ := h
  refine ⟨h1, h2, ?_⟩
  rcases h3 with h3 | ⟨x, cap, hv, ha, hm, hc⟩
  · exact .inl h3
  · refine .inr ⟨x, cap, hv, ha, hm, fun i hi => ?_⟩
    have hbk : (x.add i).block = x.block := by unfold Addr.add; split <;> rfl
    have hs := (cell_spot (hc i hi)).2
    rw [World.cell?_of_block (hb (x.add i).block (by rw [hbk, hv]; rfl) hs)]
    exact hc i hi
theorem RR.under {w w' : World} {b B : Nat} {ds : List Nat} {bad : Bool} (h : RR w b ds bad) (hb : Below B w w') (hB : b < B) : RR w' b ds bad := by
  obtain ⟨v, h1, h2, h3, h4⟩ := h
  exact ⟨v, (hb.block b hB).trans h1, h2.blk (fun k hk _ => hb.block k (Nat.lt_trans (h3 k hk) hB)), h3, h4⟩
theorem RF.under {w w' : World} {b B : Nat} {ds : List Nat} {bad : Bool} (h : RF w b ds bad) (hb : Below B w w') (hB : b < B) : RF w' b ds bad := by
  obtain ⟨v, h1, h2, h3, h4⟩ := h
  exact ⟨v, (hb.block b hB).trans h1, h2.blk (fun k hk _ => hb.block k (Nat.lt_trans (h3 k hk) hB)), h3, h4⟩
theorem Rd.under {b B : Nat} {w w1 w2 : World} (h : Rd b w w1) (hb : Below B w1 w2) (hB : w.heap.size ≤ B) : Rd b w w2 :=
  ⟨hb.os.trans h.os, hb.tape.trans h.tape, hb.output.trans h.output, Nat.le_trans h.size hb.size, fun k hk hne hv => (hb.block k (Nat.lt_of_lt_of_le hk hB)).trans (h.block k hk hne hv)⟩
theorem RF.bad_at {w : World} {b : Nat} {ds : List Nat} {bad : Bool} (h : RF w b ds bad) : w.cell? ⟨b, 1, none⟩ = some (.bool bad) := by
  obtain ⟨v, h1, _⟩ := h
  simp [World.cell?, h1]
/-- Pairs of numbers that are read. -/
def pL (m1 m2 : Nat) : Nat → List Nat → List (Int × Int)
  | 0, _ => []
  | k + 1, ds => (((nN m1 ds : Nat) : Int), ((nN m2 (nR m1 ds) : Nat) : Int)) :: pL m1 m2 k (nR m2 (nR m1 ds))
def pR (m1 m2 : Nat) : Nat → List Nat → List Nat
  | 0, ds => ds
  | k + 1, ds => pR m1 m2 k (nR m2 (nR m1 ds))
def pB (m1 m2 : Nat) : Nat → Bool → List Nat → Bool
  | 0, bad, _ => bad
  | k + 1, _, ds => pB m1 m2 k (nB m2 (nR m1 ds)) (nR m2 (nR m1 ds))
theorem pL_len (m1 m2 : Nat) : ∀ (k : Nat) (ds : List Nat), (pL m1 m2 k ds).length = k
  | 0, _ => rfl
  | k + 1, ds => by rw [pL, List.length_cons, pL_len]
theorem pL_in (m1 m2 : Nat) : ∀ (k : Nat) (ds : List Nat), ∀ s ∈ pL m1 m2 k ds, 0 ≤ s.1 ∧ s.1 ≤ m1 ∧ 0 ≤ s.2 ∧ s.2 ≤ m2
  | 0, _ => by simp [pL]
  | k + 1, ds => by
    intro s hs
    rw [pL, List.mem_cons] at hs
    rcases hs with rfl | hs
    · have h1 := nN_le m1 ds
      have h2 := nN_le m2 (nR m1 ds)
      simp only
      omega
    · exact pL_in m1 m2 k _ s hs
/-- The bytes of pairs. -/
def pW (l : List (Int × Int)) : List Nat := (l.map fun x => num 0 x.1.toNat ++ num 0 x.2.toNat).flatten
theorem pW_cons (x : Int × Int) (l : List (Int × Int)) : pW (x :: l) = num 0 x.1.toNat ++ (num 0 x.2.toNat ++ pW l) := by simp [pW]
theorem pW_snoc (l : List (Int × Int)) (x : Int × Int) : pW (l ++ [x]) = pW l ++ (num 0 x.1.toNat ++ num 0 x.2.toNat) := by simp [pW]
theorem p_back (m1 m2 : Nat) (h1 : m1 < 18446744073709551616) (h2 : m2 < 18446744073709551616) : ∀ (l : List (Int × Int)) (rest : List Nat), (∀ s ∈ l, 0 ≤ s.1 ∧ s.1 ≤ m1 ∧ 0 ≤ s.2 ∧ s.2 ≤ m2) → pL m1 m2 l.length (pW l ++ rest) = l ∧ pR m1 m2 l.length (pW l ++ rest) = rest ∧ pB m1 m2 l.length false (pW l ++ rest) = false
  | [], rest, _ => ⟨rfl, rfl, rfl⟩
  | x :: l, rest, h => by
    obtain ⟨a0, a1, b0, b1⟩ := h x (by simp)
    obtain ⟨e1, e2, -⟩ := nN_back m1 x.1.toNat (num 0 x.2.toNat ++ (pW l ++ rest)) (by omega) (by omega)
    obtain ⟨e4, e5, e6⟩ := nN_back m2 x.2.toNat (pW l ++ rest) (by omega) (by omega)
    obtain ⟨i1, i2, i3⟩ := p_back m1 m2 h1 h2 l rest (fun s hs => h s (List.mem_cons_of_mem _ hs))
    rw [pW_cons, List.append_assoc, List.append_assoc, List.length_cons, pL, pR, pB, e1, e2, e4, e5, e6, i1, i2, i3]
    refine ⟨?_, rfl, rfl⟩
    congr 1
    ext
    · show ((x.1.toNat : Nat) : Int) = x.1; omega
    · show ((x.2.toNat : Nat) : Int) = x.2; omega
theorem pB_len (m1 m2 : Nat) : ∀ (k : Nat) (ds : List Nat), pR m1 m2 (k + 1) ds = nR m2 (nR m1 (pR m1 m2 k ds))
  | 0, _ => rfl
  | k + 1, ds => by
    have := pB_len m1 m2 k (nR m2 (nR m1 ds))
    rw [pR, this, pR]
/-- What is read is its own encoding. -/
theorem nB_enc {most : Nat} {ds : List Nat} (h : nB most ds = false) (hlt : ∀ c ∈ ds, c < 256) : ds = num 0 (nN most ds) ++ nR most ds ∧ ∀ c ∈ nR most ds, c < 256 := by
  have key : ds = num 0 (nN most ds) ++ nR most ds := by
    unfold nB at h
    unfold nN nR
    cases hq : rNum most ds with
    | none => rw [hq] at h; cases h
    | some p =>
      obtain ⟨n, rest⟩ := p
      show ds = num 0 n ++ rest
      unfold rNum at hq
      cases hp : rnum ds with
      | none => rw [hp] at hq; simp at hq
      | some q =>
        obtain ⟨m, bl, r⟩ := q
        rw [hp] at hq
        cases bl with
        | true => simp at hq
        | false =>
          obtain ⟨hx, hy⟩ := rnum_enc hp hlt
          have hm : m = n ∧ r = rest := by
            by_cases hle : m ≤ most
            · simpa [hle] using hq
            · simp [hle] at hq
          obtain ⟨rfl, rfl⟩ := hm
          simpa using hx
  refine ⟨key, fun c hc => hlt c ?_⟩
  rw [key]
  exact List.mem_append_right _ hc
theorem iB_enc {ds : List Nat} (h : iB ds = false) (hlt : ∀ c ∈ ds, c < 256) : ds = intB (iN ds) ++ iR ds ∧ ∀ c ∈ iR ds, c < 256 := by
  have key : ds = intB (iN ds) ++ iR ds := by
    unfold iB at h
    unfold iN iR
    cases hp : rnum ds with
    | none => rw [rInt_none hp] at h; cases h
    | some q =>
      obtain ⟨m, bl, r⟩ := q
      by_cases hle : m ≤ 9223372036854775807
      · rw [rInt_some hp hle]
        obtain ⟨hx, _⟩ := rnum_enc hp hlt
        cases bl with
        | true =>
          have e : intB (-1 - (m : Int)) = num 128 m := by
            unfold intB
            rw [if_pos (by omega)]
            congr 1
            omega
          simpa [e] using hx
        | false =>
          have e : intB (m : Int) = num 0 m := by
            unfold intB
            rw [if_neg (by omega), Int.toNat_natCast]
          simpa [e] using hx
      · rw [rInt_big hp hle] at h; cases h
  refine ⟨key, fun c hc => hlt c ?_⟩
  rw [key]
  exact List.mem_append_right _ hc
theorem nB_nil (most : Nat) : nB most [] = true := (nB_none most).2.2
theorem nR_bad {most : Nat} {ds : List Nat} (h : nB most ds = true) : nR most ds = [] := by
  unfold nB at h
  unfold nR
  cases hq : rNum most ds with
  | none => rfl
  | some p => rw [hq] at h; cases h
theorem pB_bad (m1 m2 : Nat) : ∀ k, pB m1 m2 k true [] = true
  | 0 => rfl
  | k + 1 => by rw [pB, (nB_none m1).2.1, (nB_none m2).2.1, (nB_none m2).2.2]; exact pB_bad m1 m2 k
theorem pB_enc (m1 m2 : Nat) : ∀ (k : Nat) (bad : Bool) (ds : List Nat), pB m1 m2 k bad ds = false → (∀ c ∈ ds, c < 256) → (k = 0 → bad = false) ∧ ds = pW (pL m1 m2 k ds) ++ pR m1 m2 k ds ∧ ∀ c ∈ pR m1 m2 k ds, c < 256
  | 0, bad, ds, h, hlt => ⟨fun _ => h, rfl, hlt⟩
  | k + 1, bad, ds, h, hlt => by
    rw [pB] at h
    cases h1 : nB m1 ds with
    | true =>
      exfalso
      have e1 := nR_bad h1
      rw [e1, (nB_none m2).2.1, (nB_none m2).2.2, pB_bad] at h
      cases h
    | false =>
      obtain ⟨g1, g2⟩ := nB_enc h1 hlt
      cases h2 : nB m2 (nR m1 ds) with
      | true =>
        exfalso
        have e2 := nR_bad h2
        rw [h2, e2, pB_bad] at h
        cases h
      | false =>
        obtain ⟨k1, k2⟩ := nB_enc h2 g2
        obtain ⟨_, i2, i3⟩ := pB_enc m1 m2 k _ _ h k2
        refine ⟨fun hk => by omega, ?_, by rw [pR]; exact i3⟩
        rw [pL, pR, pW_cons, List.append_assoc, List.append_assoc, ← i2]
        simp only [Int.toNat_natCast]
        rw [← k1]
        exact g1
end Go.Proofs.YtibjboacjobaoaaGreat
