/- Segments: a row of entries of one's own; what is read of rows of frames. -/
import Derived.Test.YthefnakbpalecaaSgC
import Derived.Laws.AppendOwnNone
import Derived.OwnWalk
import Derived.OwnWalkIn
namespace Go.Proofs.Ythefnakbpalecaa
open Go.RowKit
theorem en_info2 : (Try.prog.info? 31).map (fun i => (i.zero, i.size, i.bytes)) = some (some (.agg #[.int .u64 0, .int .i64 0, .slice none 0 0]), 3, 40) := by kernel_rfl
theorem ownsRow_slice' {w : World} {base : Nat} {e : TypeId} {size : Nat} {v : Value} {n : Nat} {xs : List Value} (h : w.ownsRow base e size v n xs) : ∃ a c, v = .slice a n c := by
  rcases h.2 with ⟨hv, h0⟩ | ⟨g, cap, cur, hv, _⟩
  · exact ⟨_, _, by rw [hv, h0]⟩
  · exact ⟨_, _, hv⟩
def eC (p : Ent × Value) : List Value := [.int .u64 (p.1.t : Int), .int .i64 p.1.k, p.2]
def eCells (L : List (Ent × Value)) : List Value := L.flatMap eC
theorem eCells_append (L : List (Ent × Value)) (p : Ent × Value) : eCells (L ++ [p]) = eCells L ++ eC p := by unfold eCells; rw [List.flatMap_append]; simp
theorem eCells_len (L : List (Ent × Value)) : (eCells L).length = L.length * 3 := by
  unfold eCells
  induction L with
  | nil => rfl
  | cons r rows ih => rw [List.flatMap_cons, List.length_append, ih]; simp [eC]; omega
theorem eCells_at : ∀ (L : List (Ent × Value)) (k : Nat) (p : Ent × Value), L[k]? = some p → (eCells L)[k * 3]? = some (.int .u64 (p.1.t : Int)) ∧ (eCells L)[k * 3 + 1]? = some (.int .i64 p.1.k) ∧ (eCells L)[k * 3 + 2]? = some p.2
  | [], k, p, h => by simp at h
  | x :: rows, 0, p, h => by
    simp at h; subst h
    exact ⟨rfl, rfl, rfl⟩
  | x :: rows, k + 1, p, h => by
    have := eCells_at rows k p (by simpa using h)
    have e : eCells (x :: rows) = .int .u64 (x.1.t : Int) :: .int .i64 x.1.k :: x.2 :: eCells rows := rfl
    rw [e, show (k + 1) * 3 = k * 3 + 1 + 1 + 1 by omega, show k * 3 + 1 + 1 + 1 + 1 = (k * 3 + 1) + 1 + 1 + 1 by omega, show k * 3 + 1 + 1 + 1 + 2 = (k * 3 + 2) + 1 + 1 + 1 by omega]
    simp only [List.getElem?_cons_succ]
    exact this
/-- The slice v, whose entries are L, is the call's own; their data can be read. -/
structure EO (w : World) (base : Nat) (v : Value) (L : List (Ent × Value)) : Prop where
  row : w.ownsRow base 31 3 v L.length (eCells L)
  dat : ∀ p ∈ L, RB w p.2 p.1.d ∧ ∃ g c, p.2 = .slice (some ⟨g, 0, none⟩) p.1.d.length c
theorem EO.nil (w : World) (base : Nat) : EO w base (.slice none 0 0) [] := ⟨World.ownsRow_nil _ _ _ _, fun p hp => by cases hp⟩
theorem EO.shape {w : World} {base : Nat} {v : Value} {L : List (Ent × Value)} (h : EO w base v L) : ∃ a c, v = .slice a L.length c := ownsRow_slice' h.row
theorem EO.tame {B : Nat} {w w' : World} {base : Nat} {v : Value} {L : List (Ent × Value)} (h : EO w base v L) (o : Tame B w w') : EO w' base v L := by
  obtain ⟨⟨h1, h2⟩, h3⟩ := h
  refine ⟨⟨h1, ?_⟩, fun p hp => ⟨o.rb (h3 p hp).1, (h3 p hp).2⟩⟩
  rcases h2 with h2 | ⟨g, cap, cur, hv, hg, hh, r⟩
  · exact .inl h2
  · exact .inr ⟨g, cap, cur, hv, hg, o.block g _ hh (.inl rfl), r⟩
theorem EO.below {w w' : World} {base : Nat} {v : Value} {L : List (Ent × Value)} (h : EO w base v L) (o : Below w.heap.size w w') : EO w' base v L := h.tame (Tame.of_below (B := 0) o)
theorem EO.own {w : World} {base : Nat} {v : Value} {L : List (Ent × Value)} (h : EO w base v L) : ∀ g, v.ownBlock = some g → base ≤ g ∧ g < w.heap.size := fun g hg => World.ownsRow.lt h.row g hg
theorem EO.set {w : World} {base : Nat} {v : Value} {L : List (Ent × Value)} (h : EO w base v L) {N : Nat} (hN : N < base) (hd : ∀ p ∈ L, p.2.ownBlock ≠ some N) (u : Value) : EO (w.setCell ⟨N, 0, none⟩ u) base v L :=
  ⟨ownsRow_setCell_below h.row (show N < base from hN) u, fun p hp => ⟨(h.dat p hp).1.keptX (Kept.setCell (X := fun q => q = N) w ⟨N, 0, none⟩ u rfl) (fun b hb e => hd p hp (by rw [hb, e])), (h.dat p hp).2⟩⟩
/-- Data do not lie where entries lie. -/
theorem EO.apart {w : World} {base : Nat} {v : Value} {L : List (Ent × Value)} (h : EO w base v L) {p : Ent × Value} (hp : p ∈ L) (h0 : 0 < p.1.d.length) : p.2.ownBlock ≠ v.ownBlock := by
  obtain ⟨hr, g, c, hpv⟩ := h.dat p hp
  have hL : 0 < L.length := List.length_pos_of_mem hp
  rcases h.row.2 with ⟨hv, hl⟩ | ⟨g2, cap, cur, hv, hg, hh, _⟩
  · omega
  · rw [hv, hpv]
    intro e
    simp only [Value.ownBlock, Option.some.injEq] at e
    subst e
    have c1 := World.ownsRow.cellAt (by rw [hv] at h; exact h.row) 0 (by omega)
    obtain ⟨q, hq⟩ : ∃ q, L[0]? = some q := ⟨_, List.getElem?_eq_getElem hL⟩
    have hc := (eCells_at L 0 q hq).1
    rw [Nat.zero_mul] at hc
    rw [hc] at c1
    rw [hpv] at hr
    obtain ⟨-, -, h3⟩ := hr
    rcases h3 with ⟨h3, -⟩ | ⟨x, cap', he, -, -, hcc⟩
    · cases h3
    · injection he with e1 e2 e3
      injection e1 with e1
      subst e1
      have c2 := hcc 0 h0
      rw [add_at] at c2
      rw [c1] at c2
      injection c2 with c2
      injection c2 with c2
      cases c2
theorem EO.grown {w w' : World} {base : Nat} {v : Value} {L : List (Ent × Value)} (h : EO w base v L) (hg : w.grownBy w' v.ownBlock) : ∀ p ∈ L, RB w' p.2 p.1.d := fun p hp => by
  by_cases h0 : 0 < p.1.d.length
  · exact (h.dat p hp).1.keptX (X := fun q => v.ownBlock = some q) ⟨hg.size, fun b hb hx => hg.block b hb (fun e => hx e.symm)⟩ (fun b hb e => h.apart hp h0 (hb.trans e.symm))
  · obtain ⟨h1, h2, h3⟩ := (h.dat p hp).1
    refine ⟨h1, h2, ?_⟩
    rcases h3 with h3 | ⟨x, cap, e, a, b, c⟩
    · exact .inl h3
    · exact .inr ⟨x, cap, e, a, b, fun i hi => by omega⟩
/-- append(s, one entry), under a fence. -/
theorem append_entIn {Fn : Fence} {n : Nat} {w : World} {ops : Array Oper} {rest : List Oper} {o : Oper} {a : Act} {Q : Exit → Act → World → Prop} (hgd : o.guard = none) (s x : Operand)
    (ho : o.op = .call { callee := .builtin .append, args := #[s, x], argTypes := #[23, 23] })
    (base : Nat) (v : Value) (L : List (Ent × Value)) (p : Ent × Value) (ad : Addr) (c : Nat) (hs : a.eval s = v) (hx : a.eval x = .slice (some ad) 1 c) (hown : EO w base v L)
    (hc : ∀ j u, (eC p)[j]? = some u → w.cell? (ad.add j) = some u) (hd : RB w p.2 p.1.d ∧ ∃ g c, p.2 = .slice (some ⟨g, 0, none⟩) p.1.d.length c) (hg : ∀ g, p.2.ownBlock = some g → v.ownBlock ≠ some g)
    (hlen : L.length ≤ 3000000) (hbase : base ≤ w.heap.size)
    (h : ∀ v' w', EO w' base v' (L ++ [p]) → w.grownBy w' v.ownBlock → wpListIn Fn n Try.prog ops Q rest (a.put o.dst v') w') : wpListIn Fn n Try.prog ops Q (o :: rest) a w := by
  obtain ⟨i0, hi, hz0, hz1, hz2⟩ := info_parts en_info2
  refine wpListIn_append_own w hgd s x 23 ho base 31 i0 (.agg #[.int .u64 0, .int .i64 0, .slice none 0 0]) 3 40 Try.underlying23 hi hz0 hz1 hz2 rfl (by decide) v L.length (eCells L) hs hown.row ad 1 c (eC p) hx rfl hc
    (by intro u hu; obtain ⟨-, g', c', e⟩ := hd; simp only [eC, List.mem_cons, List.not_mem_nil, or_false] at hu; rcases hu with rfl | rfl | rfl <;> first | rfl | (rw [e]; rfl)) (by unfold maxLen; omega) (by omega) hbase ?_
  intro v' w' h1 h2 _
  refine h v' w' ⟨by rw [eCells_append, List.length_append]; exact h1, fun q hq => ?_⟩ h2
  rcases List.mem_append.1 hq with hq | hq
  · exact ⟨hown.grown h2 q hq, (hown.dat q hq).2⟩
  · simp only [List.mem_singleton] at hq
    subst hq
    exact ⟨hd.1.keptX (X := fun b => v.ownBlock = some b) ⟨h2.size, fun b hb hx => h2.block b hb (fun e => hx e.symm)⟩ (fun b hb e => hg b hb e), hd.2⟩
/-- What is read of rows of frames. -/
def sRows : List (Nat × List Nat) → Nat → List Ent → Nat → Nat × List Ent × Nat
  | [], f, l, g => (f, l, g)
  | r :: rows, f, l, g => if g = 0 then (if hdOk r.1 r.2 then sRows rows (nN 1152921504606846976 r.2) l (g + (r.2.length + 8)) else (f, l, g)) else (if lnOk r.1 r.2 (f + l.length) then sRows rows f (l ++ [entOf r.2]) (g + (r.2.length + 8)) else (f, l, g))
def sRead (bs : List Nat) : Nat × List Ent × Nat := sRows (rowsOf bs) 0 [] 0
theorem sRows_nil (f : Nat) (l : List Ent) (g : Nat) : sRows [] f l g = (f, l, g) := rfl
theorem sRows_cons (r : Nat × List Nat) (rows : List (Nat × List Nat)) (f : Nat) (l : List Ent) (g : Nat) : sRows (r :: rows) f l g = if g = 0 then (if hdOk r.1 r.2 then sRows rows (nN 1152921504606846976 r.2) l (g + (r.2.length + 8)) else (f, l, g)) else (if lnOk r.1 r.2 (f + l.length) then sRows rows f (l ++ [entOf r.2]) (g + (r.2.length + 8)) else (f, l, g)) := rfl
end Go.Proofs.Ythefnakbpalecaa
