/- A table in use: LazyRows' own. -/
import Derived.Test.YtfakgemifbgafaaLzJ
namespace Go.Proofs.Ytfakgemifbgafaa
open Go.RowKit

/-- LazyRows' table over n numbers: L its variable, L + 1 the counts, L + 2 their variable, then the table's own blocks; f says which rows were asked for, m how many. -/
structure Use (L lb lo n : Nat) (V : Value) (z : Nat → Int) (f : Nat → Bool) (m : Nat) (w : World) : Prop where
  l : w.cell? ⟨L, 0, none⟩ = some V
  calls : w.cell? ⟨L + 2, 0, none⟩ = some (.slice (some ⟨L + 1, 0, none⟩) n n)
  row : w.cell? ⟨L + 3, 0, none⟩ = some (.func (.func 17) #[] #[.pointer (some ⟨L, 0, none⟩), .pointer (some ⟨L + 2, 0, none⟩)])
  rows : w.cell? ⟨L + 4, 0, none⟩ = some (.slice (some ⟨L + 6, 0, none⟩) n n)
  made : w.cell? ⟨L + 4, 1, none⟩ = some (.int .i64 (m : Int))
  t : w.cell? ⟨L + 5, 0, none⟩ = some (.pointer (some ⟨L + 4, 0, none⟩))
  free : ∀ b o, L ≤ b → b < L + 7 + 2 * n → w.frozen? ⟨b, o, none⟩ = false
  cell : ∀ i, i < n → w.cell? ⟨L + 6, i, none⟩ = some (.pointer (some ⟨L + 8 + 2 * i, 0, none⟩))
  ix : ∀ i, i < n → w.cell? ⟨L + 7 + 2 * i, 0, none⟩ = some (.int .i64 i)
  cnt : ∀ i, i < n → w.cell? ⟨L + 1, i, none⟩ = some (.int .i64 (if f i then 1 else 0))
  fresh : ∀ i, i < n → f i = false → Cel (L + 8 + 2 * i) (maker (L + 3) i) 0 0 0 0 w
  had : ∀ i, i < n → f i = true → ∃ k, Cel (L + 8 + 2 * i) .nilFunc 1 (z i) 1 k w
  lz : ∀ i, i < n → w.cell? ⟨lb, lo + i, none⟩ = some (.int .i64 (z i))
  big : L + 7 + 2 * n ≤ w.heap.size
  low : 0 < n → lb < L

/-- The row asked for for the first time is noted. -/
def noted (f : Nat → Bool) (i : Nat) : Nat → Bool := fun j => if j = i then true else f j

/-- What stays of a table in use, where certain cells alone may have turned. -/
theorem Use.step {L lb lo n : Nat} {V : Value} {z : Nat → Int} {f f' : Nat → Bool} {m m' : Nat} {w w' : World} (U : Use L lb lo n V z f m w)
    (hk : ∀ b o x, b < L + 7 + 2 * n → w.cell? ⟨b, o, none⟩ = some x → ¬ b = L + 1 → ¬ (b = L + 4 ∧ o = 1) → (∀ i, i < n → ¬ b = L + 8 + 2 * i) → w'.cell? ⟨b, o, none⟩ = some x)
    (hf : ∀ b o, L ≤ b → b < L + 7 + 2 * n → w'.frozen? ⟨b, o, none⟩ = false) (hs : w.heap.size ≤ w'.heap.size)
    (hm : w'.cell? ⟨L + 4, 1, none⟩ = some (.int .i64 (m' : Int)))
    (hc : ∀ i, i < n → w'.cell? ⟨L + 1, i, none⟩ = some (.int .i64 (if f' i then 1 else 0)))
    (h0 : ∀ i, i < n → f' i = false → Cel (L + 8 + 2 * i) (maker (L + 3) i) 0 0 0 0 w')
    (h1 : ∀ i, i < n → f' i = true → ∃ k, Cel (L + 8 + 2 * i) .nilFunc 1 (z i) 1 k w') : Use L lb lo n V z f' m' w' :=
  ⟨hk _ _ _ (by omega) U.l (by omega) (by omega) (fun i _ => by omega), hk _ _ _ (by omega) U.calls (by omega) (by omega) (fun i _ => by omega), hk _ _ _ (by omega) U.row (by omega) (by omega) (fun i _ => by omega),
   hk _ _ _ (by omega) U.rows (by omega) (by omega) (fun i _ => by omega), hm, hk _ _ _ (by omega) U.t (by omega) (by omega) (fun i _ => by omega), hf,
   fun i hi => hk _ _ _ (by omega) (U.cell i hi) (by omega) (by omega) (fun j _ => by omega), fun i hi => hk _ _ _ (by omega) (U.ix i hi) (by omega) (by omega) (fun j _ => by omega), hc, h0, h1,
   fun i hi => hk _ _ _ (by have := U.low (by omega); omega) (U.lz i hi) (by have := U.low (by omega); omega) (by have := U.low (by omega); omega) (fun j _ => by have := U.low (by omega); omega), Nat.le_trans U.big hs, U.low⟩
/-- Where none of its blocks turned it is as it was. -/
theorem Use.only {X : Nat → Prop} {L lb lo n : Nat} {V : Value} {z : Nat → Int} {f : Nat → Bool} {m : Nat} {w w' : World} (U : Use L lb lo n V z f m w) (hX : ∀ k, X k → L + 7 + 2 * n ≤ k) (o : Only X w w') : Use L lb lo n V z f m w' := by
  have hb := U.big
  have blk : ∀ b, b < L + 7 + 2 * n → w'.heap[b]? = w.heap[b]? := fun b h => o.block b (by omega) fun hx => by have := hX b hx; omega
  refine U.step (fun b o' x hbb hx _ _ _ => (World.cell?_of_block (a := ⟨b, o', none⟩) (blk b hbb)).trans hx) (fun b o' h1 h2 => (World.frozen?_of_block (a := ⟨b, o', none⟩) (blk b h2)).trans (U.free b o' h1 h2)) o.size ((World.cell?_of_block (a := ⟨L + 4, 1, none⟩) (blk (L + 4) (by omega))).trans U.made)
    (fun i hi => (World.cell?_of_block (a := ⟨L + 1, i, none⟩) (blk (L + 1) (by omega))).trans (U.cnt i hi)) (fun i hi h => (U.fresh i hi h).of_block (blk (L + 8 + 2 * i) (by omega))) (fun i hi h => ?_)
  obtain ⟨k, C⟩ := U.had i hi h
  exact ⟨k, C.of_block (blk (L + 8 + 2 * i) (by omega))⟩

set_option maxRecDepth 100000 in
set_option maxHeartbeats 1600000 in
/-- At, the first time. -/
theorem at_first {L lb lo n c : Nat} {z : Nat → Int} {f : Nat → Bool} {m : Nat} (i : Nat) (w : World) (U : Use L lb lo n (.slice (some ⟨lb, lo, none⟩) n c) z f m w) (hi : i < n) (hf : f i = false) (hm : m ≤ 1000) :
    Calls Try.prog 18 #[.pointer (some ⟨L + 4, 0, none⟩), .int .i64 (i : Int)] w fun e w' => e = .returned (.tuple #[.int .i64 (z i), .bool true]) ∧
      (Use L lb lo n (.slice (some ⟨lb, lo, none⟩) n c) z (noted f i) (m + 1) w' ∧ Only (fun k => L ≤ k ∧ k < L + 7 + 2 * n) w w') := by
  have hb := U.big
  have hlow := U.low (by omega)
  have C0 := U.fresh i hi hf
  have O := atBuild_only (L + 8 + 2 * i) 1 w
  have old : ∀ b o x, ¬ b = L + 8 + 2 * i → w.cell? ⟨b, o, none⟩ = some x → (atBuild (L + 8 + 2 * i) 1 w).cell? ⟨b, o, none⟩ = some x := fun b o x hne hx => (O.cell (lt_of_cell hx) hne).trans hx
  have fz : ∀ b o, L ≤ b → b < L + 7 + 2 * n → ¬ b = L + 8 + 2 * i → (atBuild (L + 8 + 2 * i) 1 w).frozen? ⟨b, o, none⟩ = false := fun b o h1 h2 h3 => (World.frozen?_of_block (a := ⟨b, o, none⟩) (O.block b (by omega) h3)).trans (U.free b o h1 h2)
  have c0 : w.cell? ⟨L + 1, i, none⟩ = some (.int .i64 0) := by have := U.cnt i hi; rwa [hf] at this
  have hF := lrow_in L (L + 2) lb lo (L + 1) n c n i 0 1 (z i) (atBuild (L + 8 + 2 * i) 1 w) hi (old _ _ _ (by omega) U.l) (old _ _ _ (by omega) U.calls) (old _ _ _ (by omega) c0) (old _ _ _ (by omega) (U.lz i hi)) (fz _ _ (by omega) (by omega) (by omega)) (by simp [wrap64]) (by omega) (by omega) (by omega)
  have m1 : ((atBuild (L + 8 + 2 * i) 1 w).setCell ⟨L + 1, i, none⟩ (.int .i64 1)).cell? ⟨L + 4, 1, none⟩ = some (.int .i64 (m : Int)) := (World.cell?_setCell_other _ ⟨L + 1, i, none⟩ ⟨L + 4, 1, none⟩ _ (fun e => by injection e with e1 e2; omega)).trans (old _ _ _ (by omega) U.made)
  have r := row2_fn (L + 4) (L + 5) (L + 3) (L + 7 + 2 * i) ⟨L, 0, none⟩ ⟨L + 2, 0, none⟩ i (z i) m (m + 1) (atBuild (L + 8 + 2 * i) 1 w) (fun w2 => w2 = (atBuild (L + 8 + 2 * i) 1 w).setCell ⟨L + 1, i, none⟩ (.int .i64 1)) (by unfold wrap64; omega)
    (old _ _ _ (by omega) U.t) (old _ _ _ (by omega) U.row) (old _ _ _ (by omega) (U.ix i hi)) (hF.mono (by
      rintro e w' ⟨rfl, rfl⟩
      exact ⟨rfl, m1, by simpa using fz (L + 4) 1 (by omega) (by omega) (by omega), rfl⟩))
  have g := get_fn 53 #[.pointer (some ⟨L + 5, 0, none⟩), .pointer (some ⟨L + 3, 0, none⟩), .pointer (some ⟨L + 7 + 2 * i, 0, none⟩)] (L + 8 + 2 * i) 0 (z i) 0 0 1 w
    (fun w2 => w2 = ((atBuild (L + 8 + 2 * i) 1 w).setCell ⟨L + 1, i, none⟩ (.int .i64 1)).setCell ⟨L + 4, 1, none⟩ (.int .i64 ((m : Int) + 1))) (by simp [wrap64]) (fun _ => by first | rfl | kernel_rfl | simp [go_sem]) (by
      have e : maker (L + 3) i = .func (.func 53) #[] #[.pointer (some ⟨L + 5, 0, none⟩), .pointer (some ⟨L + 3, 0, none⟩), .pointer (some ⟨L + 7 + 2 * i, 0, none⟩)] := by
        unfold maker
        rw [show L + 3 + 2 = L + 5 from rfl, show L + 3 + 4 + 2 * i = L + 7 + 2 * i from rfl]
      rwa [e] at C0)
    (r.mono (by
      rintro e w' ⟨rfl, w2, rfl, rfl⟩
      refine ⟨rfl, ?_, rfl⟩
      rw [Below.heap_setCell _ _ _ _ (by simp <;> omega), Below.heap_setCell _ _ _ _ (by simp <;> omega)]))
  refine at_some (L + 4) (L + 6) (L + 8 + 2 * i) n n i (z i) w _ U.rows hi (U.cell i hi) (g.mono ?_)
  rintro e w' ⟨rfl, C4, w2, rfl, P, hsz⟩
  have O2 : Only (fun k => k = L + 8 + 2 * i ∨ k = L + 1 ∨ k = L + 4) w w' :=
    (((O.more fun k hk => .inl hk).setCell ⟨L + 1, i, none⟩ _ (.inr (.inl rfl))).setCell ⟨L + 4, 1, none⟩ _ (.inr (.inr rfl))).trans (P.more fun k hk => .inl hk)
  have sz2 : ∀ b, b < w.heap.size → b < (((atBuild (L + 8 + 2 * i) 1 w).setCell ⟨L + 1, i, none⟩ (.int .i64 1)).setCell ⟨L + 4, 1, none⟩ (.int .i64 ((m : Int) + 1))).heap.size := fun b h => by simpa [atBuild_size] using h
  have pc : ∀ b o, b < w.heap.size → ¬ b = L + 8 + 2 * i → w'.cell? ⟨b, o, none⟩ = (((atBuild (L + 8 + 2 * i) 1 w).setCell ⟨L + 1, i, none⟩ (.int .i64 1)).setCell ⟨L + 4, 1, none⟩ (.int .i64 ((m : Int) + 1))).cell? ⟨b, o, none⟩ :=
    fun b o h hne => World.cell?_of_block (a := ⟨b, o, none⟩) (P.block b (sz2 b h) hne)
  have blk : ∀ b, b < w.heap.size → ¬ b = L + 8 + 2 * i → ¬ b = L + 1 → ¬ b = L + 4 → w'.heap[b]? = w.heap[b]? := fun b h h1 h2 h3 => O2.block b h fun hx => by omega
  refine ⟨rfl, U.step (fun b o x hbb hx h1 h2 h3 => ?_) (fun b o h1 h2 => ?_) O2.size ?_ (fun j hj => ?_) (fun j hj h => ?_) (fun j hj h => ?_), O2.more fun k hk => by omega⟩
  · rw [pc b o (by omega) (h3 i hi)]
    refine (World.cell?_setCell_other _ ⟨L + 4, 1, none⟩ ⟨b, o, none⟩ _ (fun e => h2 (by injection e with e1 e2; exact ⟨e1.symm, e2.symm⟩))).trans ?_
    refine (World.cell?_setCell_other _ ⟨L + 1, i, none⟩ ⟨b, o, none⟩ _ (fun e => h1 (by injection e with e1 e2; exact e1.symm))).trans ?_
    exact old _ _ _ (h3 i hi) hx
  · by_cases hbi : b = L + 8 + 2 * i
    · subst hbi; exact C4.free o
    · refine (World.frozen?_of_block (a := ⟨b, o, none⟩) (P.block b (sz2 b (by omega)) hbi)).trans ?_
      simpa using fz b o h1 h2 hbi
  · rw [pc (L + 4) 1 (by omega) (by omega)]
    exact World.cell?_setCell_same _ _ _ m1
  · rw [pc (L + 1) j (by omega) (by omega)]
    refine (World.cell?_setCell_other _ ⟨L + 4, 1, none⟩ ⟨L + 1, j, none⟩ _ (fun e => by injection e with e1 e2; omega)).trans ?_
    by_cases hji : j = i
    · subst hji
      simp only [noted, if_pos]
      exact World.cell?_setCell_same _ _ _ (old _ _ _ (by omega) c0)
    · simp only [noted, if_neg hji]
      refine (World.cell?_setCell_other _ ⟨L + 1, i, none⟩ ⟨L + 1, j, none⟩ _ (fun e => by injection e with e1 e2; omega)).trans ?_
      exact old _ _ _ (by omega) (U.cnt j hj)
  · have hji : ¬ j = i := by intro e; subst e; simp [noted] at h
    simp only [noted, if_neg hji] at h
    exact (U.fresh j hj h).of_block (blk (L + 8 + 2 * j) (by omega) (by omega) (by omega) (by omega))
  · by_cases hji : j = i
    · subst hji; exact ⟨_, C4⟩
    · simp only [noted, if_neg hji] at h
      obtain ⟨k, C⟩ := U.had j hj h
      exact ⟨k, C.of_block (blk (L + 8 + 2 * j) (by omega) (by omega) (by omega) (by omega))⟩

set_option maxRecDepth 100000 in
set_option maxHeartbeats 1600000 in
/-- At, again. -/
theorem at_again {L lb lo n c : Nat} {z : Nat → Int} {f : Nat → Bool} {m : Nat} (i : Nat) (w : World) (U : Use L lb lo n (.slice (some ⟨lb, lo, none⟩) n c) z f m w) (hi : i < n) (hf : f i = true) :
    Calls Try.prog 18 #[.pointer (some ⟨L + 4, 0, none⟩), .int .i64 (i : Int)] w fun e w' => e = .returned (.tuple #[.int .i64 (z i), .bool true]) ∧
      (Use L lb lo n (.slice (some ⟨lb, lo, none⟩) n c) z f m w' ∧ Only (fun k => L ≤ k ∧ k < L + 7 + 2 * n) w w') := by
  have hb := U.big
  have hlow := U.low (by omega)
  obtain ⟨k, C0⟩ := U.had i hi hf
  have g := get_again (L + 8 + 2 * i) .nilFunc (z i) 1 k (wrap64 (k + 1)) w rfl C0
  refine at_some (L + 4) (L + 6) (L + 8 + 2 * i) n n i (z i) w _ U.rows hi (U.cell i hi) (g.mono ?_)
  rintro e w' ⟨rfl, C4, O, hsz⟩
  have blk : ∀ b, b < w.heap.size → ¬ b = L + 8 + 2 * i → w'.heap[b]? = w.heap[b]? := fun b h h1 => O.block b h h1
  refine ⟨rfl, U.step (fun b o x hbb hx h1 h2 h3 => (O.cell (p := ⟨b, o, none⟩) (by show b < _; omega) (h3 i hi)).trans hx) (fun b o h1 h2 => ?_) O.size ((O.cell (p := ⟨L + 4, 1, none⟩) (by show L + 4 < _; omega) (by show ¬ L + 4 = _; omega)).trans U.made)
    (fun j hj => (O.cell (p := ⟨L + 1, j, none⟩) (by show L + 1 < _; omega) (by show ¬ L + 1 = _; omega)).trans (U.cnt j hj)) (fun j hj h => ?_) (fun j hj h => ?_), O.more fun k hk => by omega⟩
  · by_cases hbi : b = L + 8 + 2 * i
    · subst hbi; exact C4.free o
    · exact (World.frozen?_of_block (a := ⟨b, o, none⟩) (O.block b (by omega) hbi)).trans (U.free b o h1 h2)
  · have hji : ¬ j = i := by intro e; subst e; rw [hf] at h; cases h
    exact (U.fresh j hj h).of_block (blk (L + 8 + 2 * j) (by omega) (by omega))
  · by_cases hji : j = i
    · subst hji; exact ⟨_, C4⟩
    · obtain ⟨k, C⟩ := U.had j hj h
      exact ⟨k, C.of_block (blk (L + 8 + 2 * j) (by omega) (by omega))⟩
theorem tmade_some (tb : Nat) (m : Int) (w : World) (hr : w.cell? ⟨tb, 1, none⟩ = some (.int .i64 m)) (h : -9223372036854775808 ≤ m) (h' : m ≤ 9223372036854775807) : Calls Try.prog 19 #[.pointer (some ⟨tb, 0, none⟩)] w fun e w' => e = .returned (.int .i64 m) ∧ w = w' := by
  go_enter Try.func19, Try.ntmps19
  go_wp2_with (go_at_call 54; refine (load_int ⟨tb, 1, none⟩ m w hr).mono ?_; rintro e w' ⟨rfl, rfl⟩)
  go_ret
  exact ⟨rfl, rfl⟩
end Go.Proofs.Ytfakgemifbgafaa
