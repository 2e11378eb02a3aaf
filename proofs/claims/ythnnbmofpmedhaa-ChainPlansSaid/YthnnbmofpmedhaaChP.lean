/- Plans: what one is; rows of steps of one's own; follow. -/
import Derived.Test.YthnnbmofpmedhaaChO
namespace Go.Proofs.Ythnnbmofpmedhaa
open Go.RowKit
def frm (now : Int) (U : Nat → Int) : Nat → Int
  | 0 => now
  | i + 1 => U i
/-- Due by due: what each is, and with which number. -/
theorem Cal.track (D : Cal) (B : Nat → Int) (now : Int) : ∃ (U E : Nat → Int), ∀ i v e, D.Dues (frm now U i) (B i) v e → v = U i ∧ e = E i := by
  obtain ⟨pv, pe, hp⟩ : ∃ pv pe : Int → Int → Int, ∀ s b v e, D.Dues s b v e → v = pv s b ∧ e = pe s b := by
    refine ⟨fun s b => Classical.epsilon fun v => ∃ e, D.Dues s b v e, fun s b => Classical.epsilon fun e => ∃ v, D.Dues s b v e, fun s b v e h => ?_⟩
    obtain ⟨e', h1⟩ := Classical.epsilon_spec (p := fun v => ∃ e, D.Dues s b v e) ⟨v, e, h⟩
    obtain ⟨v', h2⟩ := Classical.epsilon_spec (p := fun e => ∃ v, D.Dues s b v e) ⟨e, v, h⟩
    exact ⟨(Cal.due_same h h1).1, (Cal.due_same h h2).2⟩
  obtain ⟨U, hU⟩ : ∃ U : Nat → Int, ∀ i, U i = pv (frm now U i) (B i) := by
    refine ⟨fun i => Nat.rec (motive := fun _ => Int) (pv now (B 0)) (fun k d => pv d (B (k + 1))) i, fun i => ?_⟩
    cases i with
    | zero => rfl
    | succ i => rfl
  exact ⟨U, fun i => pe (frm now U i) (B i), fun i v e h => ⟨(hp _ _ _ _ h).1.trans (hU i).symm, (hp _ _ _ _ h).2⟩⟩
abbrev Qd := Int × Int × Int × Int
def rows (now : Int) (B U : Nat → Int) : Nat → List Qd
  | 0 => []
  | k + 1 => rows now B U k ++ [((k : Int), frm now U k, B k, U k)]
theorem rows_len (now : Int) (B U : Nat → Int) (k : Nat) : (rows now B U k).length = k := by
  induction k with
  | zero => rfl
  | succ k ih => simp [rows, ih]
theorem rows_get (now : Int) (B U : Nat → Int) : ∀ (n k : Nat), k < n → (rows now B U n).getD k (0, 0, 0, 0) = ((k : Int), frm now U k, B k, U k)
  | 0, k, h => absurd h (Nat.not_lt_zero _)
  | n + 1, k, h => by
    unfold rows
    rcases Nat.lt_or_ge k n with hk | hk
    · rw [List.getD_eq_getElem?_getD, List.getElem?_append_left (by rw [rows_len]; exact hk), ← List.getD_eq_getElem?_getD]
      exact rows_get now B U n k hk
    · obtain rfl : k = n := by omega
      rw [List.getD_eq_getElem?_getD, List.getElem?_append_right (by rw [rows_len]; exact Nat.le_refl _), rows_len, Nat.sub_self]
      rfl
def Seq (D : Cal) (now : Int) (B U : Nat → Int) (k : Nat) : Prop := ∀ i, i < k → D.Dues (frm now U i) (B i) (U i) 0
/-- Where a plan stands behind k steps: it failed, goes on with a step, or is through. -/
def St (D : Cal) (n : Nat) (B U E : Nat → Int) (now : Int) (k : Nat) (l f c d er : Int) (more : Bool) : Prop := Seq D now B U k ∧
  ((er ≠ 0 ∧ k < n ∧ er = E k) ∨ (er = 0 ∧ more = true ∧ k < n ∧ l = k ∧ f = frm now U k ∧ c = B k ∧ d = U k ∧ D.Dues (frm now U k) (B k) (U k) 0) ∨ (er = 0 ∧ more = false ∧ k = n))
def PlanDone (D : Cal) (n : Nat) (B U E : Nat → Int) (now : Int) (ls : List Qd) (er : Int) : Prop :=
  (er = 0 ∧ ls = rows now B U n ∧ Seq D now B U n) ∨ (er ≠ 0 ∧ ls = [] ∧ ∃ k, k < n ∧ er = E k ∧ Seq D now B U k)
theorem PlanDone.same {D : Cal} {n : Nat} {B U E : Nat → Int} {now : Int} {ls ls' : List Qd} {er er' : Int} (hU : ∀ i v e, D.Dues (frm now U i) (B i) v e → v = U i ∧ e = E i) (h : PlanDone D n B U E now ls er) (h' : PlanDone D n B U E now ls' er') : ls = ls' ∧ er = er' := by
  have z : ∀ {k}, Seq D now B U k → ∀ i, i < k → E i = 0 := fun hs i hi => ((hU i _ _ (hs i hi)).2).symm
  rcases h with ⟨rfl, rfl, h1⟩ | ⟨h0, rfl, k, hk, hE, hs⟩ <;> rcases h' with ⟨rfl, rfl, k1⟩ | ⟨k0, rfl, k', hk', hE', hs'⟩
  · exact ⟨rfl, rfl⟩
  · exact absurd (hE'.trans (z h1 k' hk')) k0
  · exact absurd (hE.trans (z k1 k hk)) h0
  · rcases Nat.lt_trichotomy k k' with hc | hc | hc
    · exact absurd (hE.trans (z hs' k hc)) h0
    · subst hc; exact ⟨rfl, hE.trans hE'.symm⟩
    · exact absurd (hE'.trans (z hs k' hc)) k0
theorem St.first {D : Cal} {n : Nat} {B U E : Nat → Int} {now l f c d er : Int} (hU : ∀ i v e, D.Dues (frm now U i) (B i) v e → v = U i ∧ e = E i) (hn : 0 < n) (h : Ran D 0 (B 0) now l f c d er) : St D n B U E now 0 l f c d er (er == 0) := by
  refine ⟨fun i hi => absurd hi (Nat.not_lt_zero _), ?_⟩
  obtain ⟨v, e, hv, h⟩ := h
  obtain ⟨rfl, h2⟩ := hU 0 v e hv
  rcases h with ⟨rfl, rfl, rfl, rfl, rfl, rfl⟩ | ⟨h3, rfl, rfl, rfl, rfl, rfl⟩
  · exact .inr (.inl ⟨rfl, rfl, hn, rfl, rfl, rfl, rfl, hv⟩)
  · exact .inl ⟨h3, hn, h2⟩
/-- A step taken down, the next one asked for. -/
theorem St.next {D : Cal} {n : Nat} {B U E : Nat → Int} {now : Int} {k : Nat} {l' f' c' d' er' : Int} {ok : Bool} (hU : ∀ i v e, D.Dues (frm now U i) (B i) v e → v = U i ∧ e = E i) (hs : Seq D now B U k) (hk : k < n) (hd : D.Dues (frm now U k) (B k) (U k) 0) (h : Nxtd D n B k (U k) l' f' c' d' ok er') : St D n B U E now (k + 1) l' f' c' d' er' ok := by
  refine ⟨fun i hi => ?_, ?_⟩
  · rcases Nat.lt_or_ge i k with hc | hc
    · exact hs i hc
    · obtain rfl : i = k := by omega
      exact hd
  rcases h with ⟨h, _⟩ | ⟨_, h, rfl, rfl, rfl, rfl, rfl, rfl⟩ | ⟨_, h, hr, rfl⟩
  · omega
  · exact .inr (.inr ⟨rfl, rfl, by omega⟩)
  · have e1 : ((k : Int) + 1).toNat = k + 1 := by omega
    rw [e1] at hr
    obtain ⟨v, e, hv, hr⟩ := hr
    obtain ⟨rfl, h2⟩ := hU (k + 1) v e hv
    rcases hr with ⟨rfl, rfl, rfl, rfl, rfl, rfl⟩ | ⟨h3, rfl, rfl, rfl, rfl, rfl⟩
    · exact .inr (.inl ⟨rfl, rfl, by omega, by omega, rfl, rfl, rfl, hv⟩)
    · exact .inl ⟨h3, by omega, h2⟩

def qc (l : List Qd) : List Value := l.flatMap fun x => [.int .i64 x.1, .int .i64 x.2.1, .int .i64 x.2.2.1, .int .i64 x.2.2.2]
theorem qc_append (a b : List Qd) : qc (a ++ b) = qc a ++ qc b := by simp [qc]
theorem qc_len (l : List Qd) : (qc l).length = l.length * 4 := by
  unfold qc
  induction l with
  | nil => rfl
  | cons r l ih => rw [List.flatMap_cons, List.length_append, ih]; simp; omega
theorem qc_at : ∀ (l : List Qd) (k : Nat), k < l.length → (qc l)[k * 4]? = some (.int .i64 (l.getD k (0, 0, 0, 0)).1) ∧ (qc l)[k * 4 + 1]? = some (.int .i64 (l.getD k (0, 0, 0, 0)).2.1) ∧ (qc l)[k * 4 + 2]? = some (.int .i64 (l.getD k (0, 0, 0, 0)).2.2.1) ∧ (qc l)[k * 4 + 3]? = some (.int .i64 (l.getD k (0, 0, 0, 0)).2.2.2)
  | [], k, h => by simp at h
  | x :: l, 0, _ => ⟨rfl, rfl, rfl, rfl⟩
  | x :: l, k + 1, h => by
    have := qc_at l k (by simpa using h)
    have e : qc (x :: l) = .int .i64 x.1 :: .int .i64 x.2.1 :: .int .i64 x.2.2.1 :: .int .i64 x.2.2.2 :: qc l := rfl
    rw [e, show (k + 1) * 4 = k * 4 + 1 + 1 + 1 + 1 by omega, show k * 4 + 1 + 1 + 1 + 1 + 1 = (k * 4 + 1) + 1 + 1 + 1 + 1 by omega, show k * 4 + 1 + 1 + 1 + 1 + 2 = (k * 4 + 2) + 1 + 1 + 1 + 1 by omega, show k * 4 + 1 + 1 + 1 + 1 + 3 = (k * 4 + 3) + 1 + 1 + 1 + 1 by omega]
    simp only [List.getElem?_cons_succ]
    exact this
/-- The slice v, whose steps are l, is one's own. -/
def OQ (t : TypeId) (w : World) (base : Nat) (v : Value) (l : List Qd) : Prop := w.ownsRow base t 4 v l.length (qc l)
theorem OQ.nil (t : TypeId) (w : World) (base : Nat) : OQ t w base (.slice none 0 0) [] := ⟨rfl, .inl ⟨rfl, rfl⟩⟩
theorem OQ.keep {t : TypeId} {w w' : World} {base : Nat} {v : Value} {l : List Qd} (h : OQ t w base v l) (hb : ∀ g, base ≤ g → g < w.heap.size → w'.heap[g]? = w.heap[g]?) : OQ t w' base v l := by
  obtain ⟨h1, h2⟩ := h
  refine ⟨h1, ?_⟩
  rcases h2 with h2 | ⟨g, cap, cur, rfl, hg, hc, h3⟩
  · exact .inl h2
  · exact .inr ⟨g, cap, cur, rfl, hg, (hb g hg (Array.getElem?_eq_some_iff.mp hc).1).trans hc, h3⟩
theorem OQ.kept {t : TypeId} {w w' : World} {base : Nat} {v : Value} {l : List Qd} (h : OQ t w base v l) (hb : Below w.heap.size w w') : OQ t w' base v l := h.keep fun g _ hg => hb.block g hg
theorem OQ.only {t : TypeId} {w w' : World} {base C : Nat} {v : Value} {l : List Qd} (h : OQ t w base v l) (ho : Only (· = C) w w') (hC : C < base) : OQ t w' base v l := h.keep fun g h1 hg => ho.block g hg (by show ¬ g = C; omega)
theorem OQ.mono {t : TypeId} {w : World} {base base' : Nat} {v : Value} {l : List Qd} (h : OQ t w base v l) (hb : base' ≤ base) : OQ t w base' v l := by
  obtain ⟨h1, h2⟩ := h
  refine ⟨h1, ?_⟩
  rcases h2 with h2 | ⟨g, cap, cur, hv, hg, r⟩
  · exact .inl h2
  · exact .inr ⟨g, cap, cur, hv, by omega, r⟩
theorem OQ.shape {t : TypeId} {w : World} {base : Nat} {v : Value} {l : List Qd} (h : OQ t w base v l) : ∃ a c, v = .slice a l.length c ∧ l.length ≤ maxLen ∧
    (0 < l.length → ∃ g, a = some ⟨g, 0, none⟩ ∧ base ≤ g ∧ g < w.heap.size ∧ ∀ k, k < l.length → w.cell? ⟨g, k * 4, none⟩ = some (.int .i64 (l.getD k (0, 0, 0, 0)).1) ∧ w.cell? ⟨g, k * 4 + 1, none⟩ = some (.int .i64 (l.getD k (0, 0, 0, 0)).2.1) ∧ w.cell? ⟨g, k * 4 + 2, none⟩ = some (.int .i64 (l.getD k (0, 0, 0, 0)).2.2.1) ∧ w.cell? ⟨g, k * 4 + 3, none⟩ = some (.int .i64 (l.getD k (0, 0, 0, 0)).2.2.2)) := by
  have h' := h
  rcases h'.2 with ⟨hv, h0⟩ | ⟨g, cap, cur, hv, hg, hh, hc, hm, _⟩
  · exact ⟨none, 0, by rw [hv, h0], by rw [h0]; exact Nat.zero_le _, fun h1 => by omega⟩
  · subst hv
    refine ⟨_, cap, rfl, by omega, fun h1 => ⟨g, rfl, hg, (Array.getElem?_eq_some_iff.mp hh).1, fun k hk => ?_⟩⟩
    have c0 := World.ownsRow.cellAt h (k * 4) (by omega)
    have c1 := World.ownsRow.cellAt h (k * 4 + 1) (by omega)
    have c2 := World.ownsRow.cellAt h (k * 4 + 2) (by omega)
    have c3 := World.ownsRow.cellAt h (k * 4 + 3) (by omega)
    have hs := qc_at l k hk
    rw [hs.1] at c0
    rw [hs.2.1] at c1
    rw [hs.2.2.1] at c2
    rw [hs.2.2.2] at c3
    exact ⟨c0, c1, c2, c3⟩
/-- A world after an append to a row of one's own: what was there ahead of the base stays. -/
def Grew4 (t : TypeId) (base : Nat) (v : Value) (w w' : World) : Prop := w.grownBy w' v.ownBlock ∧ ∀ g, v.ownBlock = some g → base ≤ g ∧ g < w.heap.size ∧ ∃ cs r, w.heap[g]? = some (.cells cs t r)
theorem Grew4.size {t : TypeId} {base : Nat} {v : Value} {w w' : World} (h : Grew4 t base v w w') : w.heap.size ≤ w'.heap.size := h.1.size
theorem Grew4.block {t : TypeId} {base : Nat} {v : Value} {w w' : World} (h : Grew4 t base v w w') {k : Nat} (hk : k < base) (hb : base ≤ w.heap.size) : w'.heap[k]? = w.heap[k]? := h.1.block k (by omega) (fun e => by have := (h.2 k e.symm).1; omega)
theorem Grew4.other {t : TypeId} {base : Nat} {v : Value} {w w' : World} (h : Grew4 t base v w w') {k : Nat} (hk : k < w.heap.size) (hn : some k ≠ v.ownBlock) : w'.heap[k]? = w.heap[k]? := h.1.block k hk hn
theorem Grew4.below {t : TypeId} {base B : Nat} {v : Value} {W w w' : World} (h : Grew4 t base v w w') (hW : Below B W w) (hB : B ≤ base) (hb : base ≤ w.heap.size) : Below B W w' := hW.grown h.1 (by omega) fun k hk => by have := (h.2 k hk).1; omega
theorem Grew4.only {t : TypeId} {base : Nat} {X : Nat → Prop} {v : Value} {W w w' : World} (h : Grew4 t base v w w') (hW : Only X W w) (hB : W.heap.size ≤ base) : Only X W w' :=
  ⟨h.1.os.trans hW.os, h.1.tape.trans hW.tape, h.1.output.trans hW.output, Nat.le_trans hW.size h.1.size, fun k hk hx => (h.1.block k (Nat.lt_of_lt_of_le hk hW.size) (fun e => by have := (h.2 k e.symm).1; omega)).trans (hW.block k hk hx)⟩
theorem Grew4.ck {t : TypeId} {base : Nat} {v : Value} {w0 w w' : World} {L : Loc} {D : Cal} (h : Grew4 t base v w w') (ht : t ≠ 2) (h0 : Ck L D w0) (hB : w0.heap.size ≤ base) (hC : Ck L D w) : Ck L D w' := by
  cases hv : v.ownBlock with
  | none => exact hC.kept ⟨h.1.os, h.1.tape, h.1.output, h.1.size, fun k hk => h.1.block k hk (by rw [hv]; simp)⟩
  | some g =>
    obtain ⟨h1, h2, cs, r, h3⟩ := h.2 g hv
    have hap := hC.apT h3 ht
    exact Ck.other h0 (N := g) (by omega) hC hap (fun k hk hn => h.1.block k hk (by rw [hv]; simpa using hn)) h.1.size
theorem step_info_p : (Try.prog.info? 29).map (fun i => (i.zero, i.size, i.bytes)) = some (some (.agg #[.int .i64 0, .int .i64 0, .int .i64 0, .int .i64 0]), 4, 32) := by kernel_rfl
theorem append_qp {w : World} {ops : Array Oper} {rest : List Oper} {o : Oper} {a : Act} {Q : Exit → Act → World → Prop} (hgd : o.guard = none) (s x : Operand)
    (ho : o.op = .call { callee := .builtin .append, args := #[s, x], argTypes := #[50, 50] })
    (base : Nat) (v : Value) (l : List Qd) (q0 q1 q2 q3 : Int) (ad : Addr) (c : Nat) (hs : a.eval s = v) (hx : a.eval x = .slice (some ad) 1 c) (hown : OQ 29 w base v l)
    (hc : ∀ j u, [Value.int .i64 q0, .int .i64 q1, .int .i64 q2, .int .i64 q3][j]? = some u → w.cell? (ad.add j) = some u)
    (hlen : l.length ≤ 100000) (hbase : base ≤ w.heap.size)
    (h : ∀ v' w', OQ 29 w' base v' (l ++ [(q0, q1, q2, q3)]) → Grew4 29 base v w w' → wpList Try.prog ops Q rest (a.put o.dst v') w') : wpList Try.prog ops Q (o :: rest) a w := by
  obtain ⟨i0, hi, hz0, hz1, hz2⟩ := info_parts step_info_p
  refine wpList_append_own w hgd s x 50 ho base 29 i0 (.agg #[.int .i64 0, .int .i64 0, .int .i64 0, .int .i64 0]) 4 32 Try.underlying50 hi hz0 hz1 hz2 rfl (by decide) v l.length (qc l) hs hown ad 1 c [.int .i64 q0, .int .i64 q1, .int .i64 q2, .int .i64 q3] hx rfl hc
    (by intro u hu; simp only [List.mem_cons, List.not_mem_nil, or_false] at hu; rcases hu with rfl | rfl | rfl | rfl <;> rfl) (by unfold maxLen; omega) (by omega) hbase ?_
  intro v' w' h1 h2 _
  refine h v' w' (by unfold OQ; rw [List.length_append, qc_append]; exact h1) ⟨h2, fun g hg => ?_⟩
  rcases hown.2 with ⟨rfl, _⟩ | ⟨g', cap, cur, rfl, hg', hh, _⟩
  · cases hg
  · have e : g' = g := by simpa [Value.ownBlock] using hg
    subst e
    exact ⟨hg', (Array.getElem?_eq_some_iff.mp hh).1, _, _, hh⟩
theorem step_info_r : (Try.prog.info? 39).map (fun i => (i.zero, i.size, i.bytes)) = some (some (.agg #[.int .i64 0, .int .i64 0, .int .i64 0, .int .i64 0]), 4, 32) := by kernel_rfl
theorem append_qr {w : World} {ops : Array Oper} {rest : List Oper} {o : Oper} {a : Act} {Q : Exit → Act → World → Prop} (hgd : o.guard = none) (s x : Operand)
    (ho : o.op = .call { callee := .builtin .append, args := #[s, x], argTypes := #[53, 53] })
    (base : Nat) (v : Value) (l : List Qd) (q0 q1 q2 q3 : Int) (ad : Addr) (c : Nat) (hs : a.eval s = v) (hx : a.eval x = .slice (some ad) 1 c) (hown : OQ 39 w base v l)
    (hc : ∀ j u, [Value.int .i64 q0, .int .i64 q1, .int .i64 q2, .int .i64 q3][j]? = some u → w.cell? (ad.add j) = some u)
    (hlen : l.length ≤ 100000) (hbase : base ≤ w.heap.size)
    (h : ∀ v' w', OQ 39 w' base v' (l ++ [(q0, q1, q2, q3)]) → Grew4 39 base v w w' → wpList Try.prog ops Q rest (a.put o.dst v') w') : wpList Try.prog ops Q (o :: rest) a w := by
  obtain ⟨i0, hi, hz0, hz1, hz2⟩ := info_parts step_info_r
  refine wpList_append_own w hgd s x 53 ho base 39 i0 (.agg #[.int .i64 0, .int .i64 0, .int .i64 0, .int .i64 0]) 4 32 Try.underlying53 hi hz0 hz1 hz2 rfl (by decide) v l.length (qc l) hs hown ad 1 c [.int .i64 q0, .int .i64 q1, .int .i64 q2, .int .i64 q3] hx rfl hc
    (by intro u hu; simp only [List.mem_cons, List.not_mem_nil, or_false] at hu; rcases hu with rfl | rfl | rfl | rfl <;> rfl) (by unfold maxLen; omega) (by omega) hbase ?_
  intro v' w' h1 h2 _
  refine h v' w' (by unfold OQ; rw [List.length_append, qc_append]; exact h1) ⟨h2, fun g hg => ?_⟩
  rcases hown.2 with ⟨rfl, _⟩ | ⟨g', cap, cur, rfl, hg', hh, _⟩
  · cases hg
  · have e : g' = g := by simpa [Value.ownBlock] using hg
    subst e
    exact ⟨hg', (Array.getElem?_eq_some_iff.mp hh).1, _, _, hh⟩
theorem five_at {w : World} {N : Nat} {a b c d e : Value} {t : TypeId} (h : w.heap[N]? = some (.cells #[a, b, c, d, e] t (0, 0))) :
    w.cell? ⟨N, 0, none⟩ = some a ∧ w.cell? ⟨N, 1, none⟩ = some b ∧ w.cell? ⟨N, 2, none⟩ = some c ∧ w.cell? ⟨N, 3, none⟩ = some d ∧ w.cell? ⟨N, 4, none⟩ = some e := by
  simp [World.cell?, h]
set_option maxRecDepth 100000 in
set_option maxHeartbeats 4000000 in
theorem follow_any {L : Loc} {D : Cal} {w : World} (h : Ck L D w) (hd : D.ok) (c : Int) (a : Option Addr) (n ca : Nat) (r b : Int) (B P : Nat → Int) (lv x1 x2 x3 : Int) (hS : Sps w a n B P) (hg : goodC c n r b B P = true) :
    Calls Try.prog 46 #[.agg #[.pointer (some ⟨L.K, 0, none⟩), .int .i64 c, .slice a n ca, .int .i64 r, .int .i64 b], stepV lv x1 x2 x3] w (Gave3 L D w (Nxtd D n B lv x3)) := by
  obtain ⟨k, hk⟩ : ∃ k, some (⟨L.K, 0, none⟩ : Addr) = k := ⟨_, rfl⟩
  obtain ⟨B2, s0, s1, s2, sz⟩ := box3 w #[.pointer k, .int .i64 c, .slice a n ca, .int .i64 r, .int .i64 b] #[.int .i64 lv, .int .i64 x1, .int .i64 x2, .int .i64 x3] #[.int .i64 0, .int .i64 0, .int .i64 0, .int .i64 0] 100 29 29
  obtain ⟨c0, c1, c2, c3, c4⟩ := five_at s0
  obtain ⟨d0, d1, d2, d3, -⟩ := four_at s1
  have HNX : Hid (Calls Try.prog 15 #[.pointer k, conV c a n ca r b, stepV lv x1 x2 x3, .int .i64 x3] (((w.alloc (.cells #[.pointer k, .int .i64 c, .slice a n ca, .int .i64 r, .int .i64 b] 100)).alloc (.cells #[.int .i64 lv, .int .i64 x1, .int .i64 x2, .int .i64 x3] 29)).alloc (.cells #[.int .i64 0, .int .i64 0, .int .i64 0, .int .i64 0] 29)) (Gave3 L D (((w.alloc (.cells #[.pointer k, .int .i64 c, .slice a n ca, .int .i64 r, .int .i64 b] 100)).alloc (.cells #[.int .i64 lv, .int .i64 x1, .int .i64 x2, .int .i64 x3] 29)).alloc (.cells #[.int .i64 0, .int .i64 0, .int .i64 0, .int .i64 0] 29)) (Nxtd D n B lv x3))) := Lib.hid (by rw [← hk]; exact next_any (h.kept (hk ▸ B2)) hd c a n ca r b B P lv x1 x2 x3 x3 (hS.kept (hk ▸ B2)) hg)
  obtain ⟨_, _, n1, n6, hlv⟩ := goodC_n hg
  have HLV := Lib.hid hlv
  have HB := Lib.hid B2
  have HS := Lib.hid (And.intro s2 sz)
  have H0 := Lib.hid h
  have HD := Lib.hid hd
  have hLC := h.pl.lt
  rw [hk]
  unfold stepV at *
  unfold conV at *
  clear B2 s0 s1 s2 sz hS hg h hd hlv hk
  go_enter Try.func46, Try.ntmps46
  go_wp2_with fail
  generalize (((w.alloc (.cells #[.pointer k, .int .i64 c, .slice a n ca, .int .i64 r, .int .i64 b] 100)).alloc (.cells #[.int .i64 lv, .int .i64 x1, .int .i64 x2, .int .i64 x3] 29)).alloc (.cells #[.int .i64 0, .int .i64 0, .int .i64 0, .int .i64 0] 29)) = W at HB HS HNX c0 c1 c2 c3 c4 d0 d1 d2 d3 ⊢
  refine HNX.out.mono ?_
  rintro e w4 ⟨l, f, cc, d, ok, er, rfl, hR, hC, ho⟩
  have t1 := (ho.block (w.heap.size + 1 + 1) (by have := HS.out.2; omega) (by show ¬ w.heap.size + 1 + 1 = L.C; omega)).trans HS.out.1
  have HO := Lib.hid ((Only.below (X := (· = L.C)) HB.out).trans ho)
  have HC4 := Lib.hid hC
  have HRR := Lib.hid hR
  obtain ⟨q0, q1, q2, q3, y0, y1, y2, y3⟩ := four_at t1
  have HT := Lib.hid t1
  unfold stepV
  clear hR hC ho t1 c0 c1 c2 c3 c4 d0 d1 d2 d3
  go_wp2_with fail
  have hcs : 0 < D.n ∨ (l = 0 ∧ f = 0 ∧ cc = 0 ∧ d = 0) := by
    rcases HRR.out with ⟨_, h1, h2, h3, h4, _⟩ | ⟨_, _, h1, h2, h3, h4, _⟩ | ⟨h0, h1, h2, _⟩
    · exact .inr ⟨h1, h2, h3, h4⟩
    · exact .inr ⟨h1, h2, h3, h4⟩
    · have := (lvs_at HLV.out (show (lv + 1).toNat < n by omega)).1
      exact h2.case (by omega)
  have hk := H0.out.store (N := w.heap.size + 1 + 1) (by omega) HC4.out HD.out HT.out l f cc d hcs
  have ho := HO.out.put4 (N := w.heap.size + 1 + 1) (by omega) (.int .i64 l) (.int .i64 f) (.int .i64 cc) (.int .i64 d)
  obtain ⟨p0, p1, p2, p3⟩ := put4_cells HT.out (.int .i64 l) (.int .i64 f) (.int .i64 cc) (.int .i64 d)
  unfold put4 at p0 p1 p2 p3 hk ho
  exact bodyPost_ret (v := .tuple #[.agg #[.int .i64 l, .int .i64 f, .int .i64 cc, .int .i64 d], .bool ok, .int .i64 er]) (by simp [results, Try.results46, go_sem, p0, p1, p2, p3]) rfl ⟨l, f, cc, d, ok, er, rfl, HRR.out, hk, ho⟩
end Go.Proofs.Ythnnbmofpmedhaa
