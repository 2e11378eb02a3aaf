/- Session: what the table, the law's own two maps and the calls so far have to do with each other. -/
import Derived.Test.YtnhaakdjijjinaaSnF
import Derived.DeepKeys4
namespace Go.Proofs.Ytnhaakdjijjinaa
open Go.RowKit Go.Maps
/-- What a table keeps of a call, its row copied. -/
def Opn.req (x : Opn) (ac : Option Addr) (cc : Nat) : Value := .agg #[.int .u64 x.rq, .int .i64 x.cd, .int .i64 x.tm, .int .u64 x.id, .int .i64 x.cn, .int .i64 x.st, .int .i64 x.lv, .int .u64 x.ge, .int .i64 x.fr, .int .i64 x.lf, .int .i64 x.du, .int .i64 x.tl, .slice ac x.n cc, .int .u64 x.nt, .int .i64 x.de]
def Opn.val (x : Opn) : Value := .agg #[.int .i64 x.kd, .int .u64 x.cl, .int .u64 x.rq, .int .i64 x.cd, .int .i64 x.tm, .int .u64 x.id, .int .i64 x.cn, .int .i64 x.st, .int .i64 x.lv, .int .u64 x.ge, .int .i64 x.fr, .int .i64 x.lf, .int .i64 x.du, .int .i64 x.tl, .slice x.a x.n x.ca, .int .u64 x.nt, .int .i64 x.de]
theorem laid7 : laidOutB Try.prog = true := by kernel_rfl
theorem keyedA : Maps.Keyed Try.prog 73 := Keyed.of_law (deep_law_laid laid7 (m := 2) (by omega) (of_decide_eq_true (by kernel_rfl)) (by kernel_rfl) (by rw [Try.underlying73]))
def kA (c q : Int) : Value := .agg #[.int .u64 c, .int .u64 q]
set_option maxRecDepth 100000 in
theorem kA_ex {c q : Int} (hc : 0 ≤ c ∧ c < 18446744073709551616) (hq : 0 ≤ q ∧ q < 18446744073709551616) : ∃ l, keyOf Try.prog 73 (kA c q) = some l := by
  have h1 : Try.prog.keyType 73 = true := by kernel_rfl
  have h2 : (kA c q).formed Try.prog 73 = true := by
    have : Try.prog.cellsOf 73 = 2 := by kernel_rfl
    simp [Value.formed, Try.underlying73, kA, this]
  have h3 : ∃ ls, Try.prog.keyLits (Try.prog.types.size + 1) 73 [.int .u64 c, .int .u64 q] = some ls := by
    have w1 := u64_wf hc
    have w2 := u64_wf hq
    have c73 : Try.prog.cellsOf 73 = 2 := by kernel_rfl
    have c23 : Try.prog.cellsOf 23 = 1 := by kernel_rfl
    obtain ⟨m, hm⟩ : ∃ m, Try.prog.types.size = m + 1 := ⟨Try.prog.types.size - 1, by have : 0 < Try.prog.types.size := of_decide_eq_true (by kernel_rfl); omega⟩
    rw [hm]
    exact ⟨[.int .u64 c, .int .u64 q], by simp [Program.keyLits, Try.underlying73, Try.underlying23, c73, c23, w1, w2, List.range_succ]⟩
  obtain ⟨ls, hls⟩ := h3
  refine ⟨Lit.string (keyBytes ls), ?_⟩
  have h4 : (kA c q).cells.toList = [.int .u64 c, .int .u64 q] := rfl
  unfold keyOf
  rw [Try.underlying73]
  show (if Try.prog.keyType 73 && (kA c q).formed Try.prog 73 then (Try.prog.keyLits (Try.prog.types.size + 1) 73 (kA c q).cells.toList).map fun ls => Lit.string (keyBytes ls) else none) = _
  rw [h1, h2, h4, hls]
  rfl
theorem kA_inj {c q c' q' : Int} {l : Lit} (h : keyOf Try.prog 73 (kA c q) = some l) (h' : keyOf Try.prog 73 (kA c' q') = some l) : c = c' ∧ q = q' := by
  have e := keyedA.inj h h'
  unfold kA at e
  simp only [Value.agg.injEq, Array.mk.injEq, List.cons.injEq, Value.int.injEq, true_and, and_true] at e
  exact e
theorem Us.grown {w w' : World} {a : Option Addr} {n : Nat} {xs : List Nat} {mb : Nat} (h : Us w a n xs) (g : w.grownBy w' (some mb)) (hm : ∃ es cl, w.heap[mb]? = some (.map es cl)) : Us w' a n xs := by
  obtain ⟨h1, h2, h3, h4⟩ := h
  obtain ⟨es, cl, hm⟩ := hm
  refine ⟨h1, h2, h3, fun i hi => ?_⟩
  obtain ⟨b, off, ha, hlt, hc⟩ := h4 i hi
  have hne : b ≠ mb := by
    intro e
    subst e
    simp [World.cell?, hm] at hc
  refine ⟨b, off, ha, Nat.lt_of_lt_of_le hlt g.size, ?_⟩
  rw [World.cell?_of_block (g.block b hlt (by intro e; injection e with e; exact hne e))]
  exact hc
/-- The table and the law's maps behind k calls. -/
def Rel (W : World) (T mb m1 m2 k : Nat) (M D L : Lit → Option Value) (c c1 c2 : Nat) : Prop :=
  Tab W T mb c M ∧ VM 73 W m1 c1 D ∧ VM 23 W m2 c2 L ∧ (c ≤ k ∧ c1 ≤ k ∧ c2 ≤ k) ∧ (∀ l v, D l = some v → v = .bool true) ∧
  ∀ cl : Int, (0 ≤ cl ∧ cl < 18446744073709551616) →
    (M (.int .u64 cl) = none ∧ ∀ q l, keyOf Try.prog 73 (kA cl q) = some l → D l = none) ∨
    ∃ (x : Opn) (ac : Option Addr) (cc : Nat), M (.int .u64 cl) = some (x.req ac cc) ∧ L (.int .u64 cl) = some x.val ∧ Us W ac x.n x.xs ∧ Us W x.a x.n x.xs ∧ x.n ≤ 200 ∧ ∀ q l, keyOf Try.prog 73 (kA cl q) = some l → D l ≠ none → q ≤ x.rq
theorem Rel.kept {W W' : World} {T mb m1 m2 k : Nat} {M D L : Lit → Option Value} {c c1 c2 : Nat} (h : Rel W T mb m1 m2 k M D L c c1 c2) (hb : Below W.heap.size W W') : Rel W' T mb m1 m2 k M D L c c1 c2 := by
  obtain ⟨h1, h2, h3, h4, h6, h5⟩ := h
  refine ⟨h1.kept hb, h2.kept hb, h3.kept hb, h4, h6, fun cl hcl => ?_⟩
  rcases h5 cl hcl with h | ⟨x, ac, cc, k1, k2, k3, k4, k5⟩
  · exact .inl h
  · exact .inr ⟨x, ac, cc, k1, k2, k3.kept hb, k4.kept hb, k5⟩
theorem Rel.mono {W : World} {T mb m1 m2 k k' : Nat} {M D L : Lit → Option Value} {c c1 c2 : Nat} (h : Rel W T mb m1 m2 k M D L c c1 c2) (hk : k ≤ k') : Rel W T mb m1 m2 k' M D L c c1 c2 := by
  obtain ⟨h1, h2, h3, h4, h5⟩ := h
  exact ⟨h1, h2, h3, ⟨by omega, by omega, by omega⟩, h5⟩
/-- The last request of a client, and what the maps say of it. -/
theorem Rel.last {W : World} {T mb m1 m2 k : Nat} {M D L : Lit → Option Value} {c c1 c2 : Nat} (h : Rel W T mb m1 m2 k M D L c c1 c2) {cl : Int} (hcl : 0 ≤ cl ∧ cl < 18446744073709551616) :
    ∃ (q : Int) (cd tm id cn st lv ge fr lf du tl : Int) (a : Option Addr) (n ca : Nat) (nt de : Int) (xs : List Nat), (M (.int .u64 cl)).getD (.agg #[.int .u64 0, .int .i64 0, .int .i64 0, .int .u64 0, .int .i64 0, .int .i64 0, .int .i64 0, .int .u64 0, .int .i64 0, .int .i64 0, .int .i64 0, .int .i64 0, .slice none 0 0, .int .u64 0, .int .i64 0]) = .agg #[.int .u64 q, .int .i64 cd, .int .i64 tm, .int .u64 id, .int .i64 cn, .int .i64 st, .int .i64 lv, .int .u64 ge, .int .i64 fr, .int .i64 lf, .int .i64 du, .int .i64 tl, .slice a n ca, .int .u64 nt, .int .i64 de] ∧ Us W a n xs ∧ n ≤ 200 ∧
      (∀ r l, q < r → keyOf Try.prog 73 (kA cl r) = some l → (D l).getD (.bool false) = .bool false) ∧ (0 < q → ∃ (kd y : Int) (a' : Option Addr) (ca' : Nat), (L (.int .u64 cl)).getD (.agg #[.int .i64 0, .int .u64 0, .int .u64 0, .int .i64 0, .int .i64 0, .int .u64 0, .int .i64 0, .int .i64 0, .int .i64 0, .int .u64 0, .int .i64 0, .int .i64 0, .int .i64 0, .int .i64 0, .slice none 0 0, .int .u64 0, .int .i64 0]) = .agg #[.int .i64 kd, .int .u64 y, .int .u64 q, .int .i64 cd, .int .i64 tm, .int .u64 id, .int .i64 cn, .int .i64 st, .int .i64 lv, .int .u64 ge, .int .i64 fr, .int .i64 lf, .int .i64 du, .int .i64 tl, .slice a' n ca', .int .u64 nt, .int .i64 de] ∧ Us W a' n xs) := by
  rcases h.2.2.2.2.2 cl hcl with ⟨h1, h2⟩ | ⟨x, ac, cc, k1, k2, k3, k4, k5, k6⟩
  · refine ⟨0, 0, 0, 0, 0, 0, 0, 0, 0, 0, 0, 0, none, 0, 0, 0, 0, [], by rw [h1]; rfl, Us.none W, by omega, fun r l hr hl => by rw [h2 r l hl]; rfl, fun h0 => absurd h0 (by omega)⟩
  · refine ⟨x.rq, x.cd, x.tm, x.id, x.cn, x.st, x.lv, x.ge, x.fr, x.lf, x.du, x.tl, ac, x.n, cc, x.nt, x.de, x.xs, by rw [k1]; rfl, k3, k5, fun r l hr hl => ?_, fun _ => ⟨x.kd, x.cl, x.a, x.ca, by rw [k2]; rfl, k4⟩⟩
    have : D l = none := by
      cases e : D l with
      | none => rfl
      | some v => exact absurd (k6 r l hl (by rw [e]; simp)) (by omega)
    rw [this]
    rfl
theorem Rel.put {W W' : World} {T mb m1 m2 k : Nat} {M D L M' D' L' : Lit → Option Value} {c c1 c2 c' c1' c2' : Nat} (h : Rel W T mb m1 m2 k M D L c c1 c2) (x : Opn) (ac : Option Addr) (cc : Nat) (q : Int)
    (hT : Tab W' T mb c' M') (hD : VM 73 W' m1 c1' D') (hL : VM 23 W' m2 c2' L') (hc : c' ≤ k + 1 ∧ c1' ≤ k + 1 ∧ c2' ≤ k + 1) (hUs : ∀ a n xs, Us W a n xs → Us W' a n xs)
    (hM1 : M' (.int .u64 x.cl) = some (x.req ac cc)) (hM2 : ∀ y, y ≠ .int .u64 x.cl → M' y = M y) (hL1 : L' (.int .u64 x.cl) = some x.val) (hL2 : ∀ y, y ≠ .int .u64 x.cl → L' y = L y)
    {l0 : Lit} (hl0 : keyOf Try.prog 73 (kA x.cl x.rq) = some l0) (hD2 : ∀ y, y ≠ l0 → D' y = D y) (hU : Us W' ac x.n x.xs) (hU' : Us W' x.a x.n x.xs) (hn : x.n ≤ 200)
    (hq : ∀ r l, q < r → keyOf Try.prog 73 (kA x.cl r) = some l → (D l).getD (.bool false) = .bool false) (hD1 : D' l0 = some (.bool true)) (hqr : q < x.rq) : Rel W' T mb m1 m2 (k + 1) M' D' L' c' c1' c2' := by
  have hDt := h.2.2.2.2.1
  refine ⟨hT, hD, hL, hc, fun l v hl => ?_, fun cl hcl => ?_⟩
  · by_cases e : l = l0
    · subst e
      rw [hD1] at hl
      exact (Option.some.inj hl).symm
    · rw [hD2 l e] at hl
      exact hDt l v hl
  by_cases e : cl = x.cl
  · subst e
    refine .inr ⟨x, ac, cc, hM1, hL1, hU, hU', hn, fun r l hl hd => ?_⟩
    by_cases e2 : l = l0
    · subst e2
      exact Int.le_of_eq (kA_inj hl hl0).2
    · rw [hD2 l e2] at hd
      by_cases hr : q < r
      · have h1 := hq r l hr hl
        cases e3 : D l with
        | none => exact absurd e3 hd
        | some v =>
          rw [e3] at h1
          have h2 := hDt l v e3
          subst h2
          simp at h1
      · omega
  · have hne : (Lit.int .u64 cl) ≠ .int .u64 x.cl := fun h => e (by injection h)
    rcases h.2.2.2.2.2 cl hcl with ⟨h1, h2⟩ | ⟨y, a1, b1, k1, k2, k3, k4, k5, k6⟩
    · refine .inl ⟨by rw [hM2 _ hne]; exact h1, fun r l hl => ?_⟩
      have : l ≠ l0 := fun e2 => e (by subst e2; exact (kA_inj hl hl0).1)
      rw [hD2 l this]
      exact h2 r l hl
    · refine .inr ⟨y, a1, b1, by rw [hM2 _ hne]; exact k1, by rw [hL2 _ hne]; exact k2, hUs _ _ _ k3, hUs _ _ _ k4, k5, fun r l hl hd => ?_⟩
      have : l ≠ l0 := fun e2 => e (by subst e2; exact (kA_inj hl hl0).1)
      rw [hD2 l this] at hd
      exact k6 r l hl hd
end Go.Proofs.Ytnhaakdjijjinaa
