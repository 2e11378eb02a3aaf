/- Rows of numbers of one's own; a copy. -/
import Derived.Test.YtnhaakdjijjinaaRyB
import Derived.Laws.AppendOwn
import Derived.Laws.AppendOwnNone
import Derived.Laws.OwnMore
import Derived.OwnWalk
import Derived.Deep.RegionHeld
namespace Go.Proofs.Ytnhaakdjijjinaa
open Go.RowKit
theorem nums_info : (Try.prog.info? 23).map (fun i => (i.zero, i.size, i.bytes)) = some (some (.int .u64 0), 1, 8) := by kernel_rfl
def uc (l : List Nat) : List Value := l.map fun n => .int .u64 ((n : Nat) : Int)
theorem uc_append (l k : List Nat) : uc (l ++ k) = uc l ++ uc k := by simp [uc]
theorem uc_len (l : List Nat) : (uc l).length = l.length := by simp [uc]
theorem uc_one (l : List Nat) : ∀ u ∈ uc l, u.oneCell' = true := by
  intro u hu
  simp only [uc, List.mem_map] at hu
  obtain ⟨x, _, rfl⟩ := hu
  rfl
theorem uc_at (l : List Nat) (k : Nat) (hk : k < l.length) : (uc l)[k]? = some (.int .u64 ((l.getD k 0 : Nat) : Int)) := by
  simp [uc, hk]
/-- The slice v, whose numbers are l, is the call's own. -/
def OU (w : World) (base : Nat) (v : Value) (l : List Nat) : Prop := w.ownsRow base 23 1 v l.length (uc l)
theorem OU.kept {w w' : World} {base : Nat} {v : Value} {l : List Nat} (h : OU w base v l) (hb : Below w.heap.size w w') : OU w' base v l := by
  obtain ⟨h1, h2⟩ := h
  refine ⟨h1, ?_⟩
  rcases h2 with h2 | ⟨g, cap, cur, hv, hg, hh, r⟩
  · exact .inl h2
  · exact .inr ⟨g, cap, cur, hv, hg, by rw [hb.block g (Array.getElem?_eq_some_iff.mp hh).1]; exact hh, r⟩
theorem OU.mono {w : World} {base base' : Nat} {v : Value} {l : List Nat} (h : OU w base v l) (hb : base' ≤ base) : OU w base' v l := by
  obtain ⟨h1, h2⟩ := h
  refine ⟨h1, ?_⟩
  rcases h2 with h2 | ⟨g, cap, cur, hv, hg, r⟩
  · exact .inl h2
  · exact .inr ⟨g, cap, cur, hv, by omega, r⟩
theorem OU.nil (w : World) (base : Nat) : OU w base (.slice none 0 0) [] := ⟨rfl, .inl ⟨rfl, rfl⟩⟩
theorem OU.shape {w : World} {base : Nat} {v : Value} {l : List Nat} (h : OU w base v l) : ∃ a c, v = .slice a l.length c ∧ l.length ≤ maxLen ∧
    (0 < l.length → ∃ g, a = some ⟨g, 0, none⟩ ∧ base ≤ g ∧ g < w.heap.size ∧ ∀ k, k < l.length → w.cell? ⟨g, k, none⟩ = some (.int .u64 ((l.getD k 0 : Nat) : Int)) ∧ w.frozen? ⟨g, k, none⟩ = false) := by
  have h' := h
  rcases h'.2 with ⟨hv, h0⟩ | ⟨g, cap, cur, hv, hg, hh, hc, hm, _⟩
  · exact ⟨none, 0, by rw [hv, h0], by rw [h0]; exact Nat.zero_le _, fun h1 => by omega⟩
  · subst hv
    refine ⟨_, cap, rfl, by omega, fun h1 => ⟨g, rfl, hg, (Array.getElem?_eq_some_iff.mp hh).1, fun k hk => ?_⟩⟩
    have c0 := World.ownsRow.cellAt h k (by omega)
    rw [uc_at l k hk] at c0
    exact ⟨c0, World.ownsRow.frozenAt h _⟩
/-- An own row can be read. -/
theorem OU.us {w : World} {base : Nat} {a : Option Addr} {n c : Nat} {l : List Nat} (h : OU w base (.slice a n c) l) (hb : ∀ s ∈ l, s < 18446744073709551616) : n = l.length ∧ Us w a n l := by
  obtain ⟨a', c', e, hm, hc⟩ := h.shape
  injection e with e1 e2 e3
  subst e1 e2
  refine ⟨rfl, rfl, hm, hb, fun i hi => ?_⟩
  obtain ⟨g, ha, _, hlt, hk⟩ := hc (by omega)
  exact ⟨g, 0, ha, hlt, by rw [Nat.zero_add]; exact (hk i hi).1⟩
theorem OU.set {w : World} {base : Nat} {v : Value} {l : List Nat} (h : OU w base v l) {p : Addr} (hp : p.block < base) (u : Value) : OU (w.setCell p u) base v l := ownsRow_setCell_below h hp u
theorem OU.rd {w w' : World} {base b : Nat} {v : Value} {l : List Nat} (h : OU w base v l) (hr : Rd b w w') (hb : b < base) : OU w' base v l := by
  obtain ⟨h1, h2⟩ := h
  refine ⟨h1, ?_⟩
  rcases h2 with h2 | ⟨g, cap, cur, hv, hg, hh, r⟩
  · exact .inl h2
  · exact .inr ⟨g, cap, cur, hv, hg, by rw [hr.block g (Array.getElem?_eq_some_iff.mp hh).1 (by omega) (by simp [Value.ownBlock])]; exact hh, r⟩
theorem ou_made (w : World) : OU (w.alloc (.cells #[] 23)) w.heap.size (.slice (some ⟨w.heap.size, 0, none⟩) 0 0) [] := World.ownsRow_lit w #[] 0 (Nat.le_refl _) (by simp) rfl
/-- What was there stays. -/
structure Stays (base : Nat) (w w' : World) : Prop where
  size : w.heap.size ≤ w'.heap.size
  below : ∀ {W : World}, Below base W w → Below base W w'
/-- append(s, one number): as a step of a region. -/
theorem step_append_u {ops : Array Oper} {o : Oper} {a : Act} {w : World} {K : Act → World → Prop} {Q : Exit → Act → World → Prop} {E : Prop}
    (hgd : o.guard = none) (s x : Operand) (hop : o.op = Op.call { callee := Callee.builtin Builtin.append, args := #[s, x], argTypes := #[26, 26] })
    (base : Nat) (v : Value) (l : List Nat) (f : Nat) (ad : Addr) (c : Nat) (hs : a.eval s = v) (hx : a.eval x = .slice (some ad) 1 c) (hown : OU w base v l)
    (hc : w.cell? ad = some (.int .u64 (f : Int)))
    (hlen : l.length ≤ 100000) (hbase : base ≤ w.heap.size)
    (hK : ∀ v' w', OU w' base v' (l ++ [f]) → Stays base w w' → K (a.put o.dst v') w') :
    if Region.wanted o (yielded ops a.tmps) = true then Oper.wp Try.prog o a w K Q else E := by
  have hw : Region.wanted o (yielded ops a.tmps) = true := by simp [Region.wanted, hgd]
  rw [if_pos hw]
  obtain ⟨i0, hi, hz0, hz1, hz2⟩ := info_parts nums_info
  have hcc : ∀ j u, [Value.int .u64 (f : Int)][j]? = some u → w.cell? (ad.add j) = some u := by
    intro j u hj
    match j, hj with
    | 0, hj =>
      simp only [List.getElem?_cons_zero, Option.some.injEq] at hj
      subst hj
      have e := (cell_spot hc).1
      rw [e, add_at, Nat.add_zero, ← e]
      exact hc
  obtain ⟨v', w', hrun, h2, h3, _⟩ := run_append_own (P := Try.prog) w base 26 o.type 23 i0 (.int .u64 0) 1 8 Try.underlying26 hi hz0 hz1 hz2 rfl (by decide) v l.length (uc l) hown ad 1 c [.int .u64 (f : Int)] rfl hcc (by intro u hu; simp only [List.mem_cons, List.not_mem_nil, or_false] at hu; subst hu; rfl) (by unfold maxLen; omega) (by omega) hbase
  unfold Oper.wp
  simp [execOp, hop, resolve, invoke, builtin, hs, hx, hrun, Result.andThen]
  exact hK v' w' (by unfold OU; rw [List.length_append, uc_append]; exact h2) ⟨h3.size, fun hW => hW.grown h3 hbase fun k hk => (World.ownsRow.lt hown k hk).1⟩
/-- A copy of a row is the call's own. -/
def CopiedU (l : List Nat) (w : World) (e : Ending) (w' : World) : Prop := ∃ v, e = .returned v ∧ OU w' w.heap.size v l ∧ Below w.heap.size w w'
theorem us_none {w : World} {n : Nat} {xs : List Nat} (h : Us w none n xs) : n = 0 ∧ xs = [] := by
  have h0 : n = 0 := by
    rcases Nat.eq_zero_or_pos n with h0 | h0
    · exact h0
    · obtain ⟨b, o, e, _⟩ := h.2.2.2 0 h0
      cases e
  exact ⟨h0, List.length_eq_zero_iff.1 (h.1.trans h0)⟩
theorem us_news {w : World} {x : Addr} {n : Nat} {xs : List Nat} (h : Us w (some x) n xs) : ∀ j u, (uc xs)[j]? = some u → w.cell? (x.add j) = some u ∧ x.block < w.heap.size := by
  intro j u hu
  have hj : j < n := by
    have := (List.getElem?_eq_some_iff.1 hu).1
    rw [uc_len, h.1] at this
    exact this
  obtain ⟨b, off, e, hlt, hc⟩ := h.2.2.2 j hj
  injection e with e
  subst e
  rw [uc_at xs j (by rw [h.1]; exact hj)] at hu
  injection hu with hu
  rw [add_at, hc, hu]
  exact ⟨rfl, hlt⟩
set_option maxRecDepth 100000 in
set_option maxHeartbeats 8000000 in
theorem clone_us (a : Option Addr) (n ca : Nat) (xs : List Nat) (w : World) (hS : Us w a n xs) (hn : n ≤ 100000) :
    Calls Try.prog 41 #[.slice a n ca] w (CopiedU xs w) := by
  have HL := Lib.hid hS.1
  cases a with
  | none =>
    obtain ⟨rfl, rfl⟩ := us_none hS
    clear hS HL
    have he : ∀ w : World, (binOp .eql 26 (.slice none 0 ca) (.slice none 0 0)).run Try.prog w = .ok (.bool true) w := fun _ => rfl
    go_enter Try.func41, Try.ntmps41
    go_wp2_with fail
    go_ret
    exact ⟨_, rfl, OU.nil _ _, Below.refl _ _⟩
  | some x =>
    obtain ⟨i0, hi, hz0, hz1, hz2⟩ := info_parts nums_info
    have hnews : ∀ j u, (uc xs)[j]? = some u → (w.alloc (.cells #[] 23)).cell? (x.add j) = some u := by
      intro j u hu
      obtain ⟨h1, h2⟩ := us_news hS j u hu
      have hx := cell_spot h1
      rw [((Below.refl _ w).alloc (Nat.le_refl _) (.cells #[] 23)).cell hx.2]
      exact h1
    have HN := Lib.hid hnews
    clear hS hnews
    have he : ∀ w : World, (binOp .eql 26 (.slice (some x) n ca) (.slice none 0 0)).run Try.prog w = .ok (.bool false) w := fun _ => rfl
    go_enter Try.func41, Try.ntmps41
    go_wp2_with (at_builtin; refine wpList_append_own _ rfl (.tmp 5) (.tmp 6) 26 rfl w.heap.size 23 i0 (.int .u64 0) 1 8 Try.underlying26 hi hz0 hz1 hz2 rfl (by decide) _ _ _ rfl (ou_made w) x n ca (uc xs) rfl ?c0 HN.out (uc_one _) ?c3 ?c4 ?c5 ?_)
    case c0 => rw [uc_len, HL.out, Nat.mul_one]
    case c3 => unfold maxLen; show 0 + n ≤ _; omega
    case c4 => show (0 + n) * 8 ≤ _; omega
    case c5 => simp
    intro v1 w1 hown hgrow _
    have hB : Below w.heap.size w w1 := ((Below.refl w.heap.size w).alloc (Nat.le_refl _) (.cells #[] 23)).grown hgrow (by simp) fun k hk => (World.ownsRow.lt (ou_made w) k hk).1
    have HO : Hid (OU w1 w.heap.size v1 xs) := Lib.hid (by
      unfold OU
      have : ([] : List Nat).length + n = xs.length := by rw [HL.out]; simp
      rw [← this]
      simpa [uc] using hown)
    clear hown hgrow
    go_wp2_with fail
    go_ret
    exact ⟨_, rfl, HO.out, hB⟩
end Go.Proofs.Ytnhaakdjijjinaa
