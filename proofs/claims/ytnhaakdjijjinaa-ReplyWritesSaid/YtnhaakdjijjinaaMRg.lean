import Derived.Test.YtnhaakdjijjinaaRyL
import Derived.Test.YtnhaakdjijjinaaMRc
import Derived.Test.YtnhaakdjijjinaaMRb
import Derived.Deep.QuietTactic
namespace Go.Proofs.Ytnhaakdjijjinaa
open Go.RowKit
/- Replies: what is read is its own encoding. -/
open Go.RowKit
theorem nB_step {m1 m2 : Nat} {ds : List Nat} (h : nB m2 (nR m1 ds) = false) : nB m1 ds = false := by
  cases h1 : nB m1 ds with
  | false => rfl
  | true => rw [nR_bad h1, (nB_none m2).2.2] at h; cases h
theorem iR_bad {ds : List Nat} (h : iB ds = true) : iR ds = [] := by
  unfold iB at h
  unfold iR
  cases hq : rInt ds with
  | none => rfl
  | some p => rw [hq] at h; cases h
theorem iB_nil : iB [] = true := by decide
theorem tkOk_nil : tkOk [] = false := by decide
theorem qR_nil (m : Nat) : ∀ k, qR m k [] = []
  | 0 => rfl
  | k + 1 => by rw [qR, (nB_none m).2.1]; exact qR_nil m k
theorem nums_cons (n : Nat) (l : List Nat) : nums (n :: l) = num 0 n ++ nums l := by simp [nums]
theorem q_enc (m : Nat) : ∀ (k : Nat) (ds : List Nat), nB m (qR m k ds) = false → (∀ c ∈ ds, c < 256) → ds = nums (qL m k ds) ++ qR m k ds ∧ ∀ c ∈ qR m k ds, c < 256
  | 0, ds, _, hlt => ⟨rfl, hlt⟩
  | k + 1, ds, h, hlt => by
    rw [qR] at h
    cases h1 : nB m ds with
    | true => rw [nR_bad h1, qR_nil, (nB_none m).2.2] at h; cases h
    | false =>
      obtain ⟨g1, g2⟩ := nB_enc h1 hlt
      obtain ⟨i1, i2⟩ := q_enc m k _ h g2
      refine ⟨?_, by rw [qR]; exact i2⟩
      rw [qL, qR, nums_cons, List.append_assoc, ← i1]
      exact g1
/-- What is read as a ticket is its own encoding. -/
theorem nine_enc (ds : List Nat) (h : nineB ds = false) (hlt : ∀ c ∈ ds, c < 256) : ds = nums [(nine ds).n1, (nine ds).n2, (nine ds).n3, (nine ds).n4, (nine ds).n5, (nine ds).n6, (nine ds).n7, (nine ds).n8, (nine ds).n9] ++ nineR ds ∧ ∀ c ∈ nineR ds, c < 256 := by
  unfold nineB at h
  have h8 := nB_step h
  have h7 := nB_step h8
  have h6 := nB_step h7
  have h5 := nB_step h6
  have h4 := nB_step h5
  have h3 := nB_step h4
  have h2 := nB_step h3
  have h1 := nB_step h2
  obtain ⟨e1, l1⟩ := nB_enc h1 hlt
  obtain ⟨e2, l2⟩ := nB_enc h2 l1
  obtain ⟨e3, l3⟩ := nB_enc h3 l2
  obtain ⟨e4, l4⟩ := nB_enc h4 l3
  obtain ⟨e5, l5⟩ := nB_enc h5 l4
  obtain ⟨e6, l6⟩ := nB_enc h6 l5
  obtain ⟨e7, l7⟩ := nB_enc h7 l6
  obtain ⟨e8, l8⟩ := nB_enc h8 l7
  obtain ⟨e9, l9⟩ := nB_enc h l8
  refine ⟨?_, l9⟩
  rw [nums_nine]
  unfold nine nineR
  simp only [List.append_assoc, List.nil_append]
  rw [← e9, ← e8, ← e7, ← e6, ← e5, ← e4, ← e3, ← e2, ← e1]
theorem zero_unsound {n1 n2 n3 n4 n5 n6 n7 n8 n9 : Nat} (h : soundB n2 n3 n4 n5 n6 n7 n8 n9 = true) : noT (n1 : Int) (n2 : Int) (n3 : Int) (n4 : Int) (n5 : Int) (n6 : Int) (n7 : Int) (n8 : Int) (n9 : Int) = false := by
  cases hz : noT (n1 : Int) (n2 : Int) (n3 : Int) (n4 : Int) (n5 : Int) (n6 : Int) (n7 : Int) (n8 : Int) (n9 : Int) with
  | false => rfl
  | true =>
    obtain ⟨-, e2, e3, e4, e5, e6, e7, e8, e9⟩ := (tEq_iff ..).1 hz
    rw [e2, e3, e4, e5, e6, e7, e8, e9] at h
    exact absurd h (by decide)
/-- The bytes of what is read. -/
def yW (ds : List Nat) : List Nat := repW (nN 99 ds) (iN (nR 99 ds)) (noT (yNine ds).n1 (yNine ds).n2 (yNine ds).n3 (yNine ds).n4 (yNine ds).n5 (yNine ds).n6 (yNine ds).n7 (yNine ds).n8 (yNine ds).n9) [(yNine ds).n1, (yNine ds).n2, (yNine ds).n3, (yNine ds).n4, (yNine ds).n5, (yNine ds).n6, (yNine ds).n7, (yNine ds).n8, (yNine ds).n9] (yXs ds) (nN 18446744073709551615 (y6 ds)) (nN 128 (y7 ds))
theorem y_tk (ds : List Nat) (hb : yBad ds = false) (h1 : nB 1 (y2 ds) = false) (hlt : ∀ c ∈ y3 ds, c < 256) : flagB (!noT (yNine ds).n1 (yNine ds).n2 (yNine ds).n3 (yNine ds).n4 (yNine ds).n5 (yNine ds).n6 (yNine ds).n7 (yNine ds).n8 (yNine ds).n9) = num 0 (nN 1 (y2 ds)) ∧
    y3 ds = tkW (noT (yNine ds).n1 (yNine ds).n2 (yNine ds).n3 (yNine ds).n4 (yNine ds).n5 (yNine ds).n6 (yNine ds).n7 (yNine ds).n8 (yNine ds).n9) [(yNine ds).n1, (yNine ds).n2, (yNine ds).n3, (yNine ds).n4, (yNine ds).n5, (yNine ds).n6, (yNine ds).n7, (yNine ds).n8, (yNine ds).n9] ++ y4 ds ∧ ∀ c ∈ y4 ds, c < 256 := by
  have hle := nN_le 1 (y2 ds)
  cases hf : fN (y2 ds) with
  | true =>
    have hk : tkOk (y3 ds) = true := by
      cases hk : tkOk (y3 ds) with
      | true => rfl
      | false => rw [yBad_of ds hf hk] at hb; cases hb
    have hn : yNine ds = nine (y3 ds) := by unfold yNine tkN; rw [hf, hk]; rfl
    have hr : y4 ds = nineR (y3 ds) := by unfold y4 tkRest; rw [hf, hk]; rfl
    have hk' := hk
    unfold tkOk at hk'
    simp only [Bool.and_eq_true, Bool.not_eq_true'] at hk'
    obtain ⟨e, l⟩ := nine_enc (y3 ds) hk'.1 hlt
    have hz := zero_unsound (n1 := (nine (y3 ds)).n1) hk'.2
    have h1' : nN 1 (y2 ds) = 1 := by unfold fN at hf; simpa using hf
    rw [hn, hr, hz, h1']
    exact ⟨rfl, e, l⟩
  | false =>
    have hn : yNine ds = zNine := by unfold yNine; rw [hf]; rfl
    have hr : y4 ds = y3 ds := by unfold y4; rw [hf]; rfl
    have h1' : nN 1 (y2 ds) = 0 := by unfold fN at hf; simp at hf; omega
    have hz : noT (zNine.n1 : Int) zNine.n2 zNine.n3 zNine.n4 zNine.n5 zNine.n6 zNine.n7 zNine.n8 zNine.n9 = true := by decide
    rw [hn, hr, hz, h1']
    exact ⟨rfl, rfl, hlt⟩
theorem y_enc (ds : List Nat) (hlt : ∀ c ∈ ds, c < 256) (hb : yBad ds = false) : ds = yW ds ++ yRest ds := by
  have h7 : nB 128 (y7 ds) = false := hb
  have h6 : nB 18446744073709551615 (y6 ds) = false := nB_step h7
  have h4 : nB 64 (y4 ds) = false := by
    cases h4 : nB 64 (y4 ds) with
    | false => rfl
    | true =>
      have e : y6 ds = [] := by unfold y6 y5; rw [nR_bad h4]; exact qR_nil _ _
      rw [e, (nB_none _).2.2] at h6
      cases h6
  have h1 : nB 1 (y2 ds) = false := by
    cases hf : fN (y2 ds) with
    | false =>
      have hr : y4 ds = nR 1 (y2 ds) := by unfold y4; rw [hf]; rfl
      rw [hr] at h4
      exact nB_step h4
    | true =>
      cases h1 : nB 1 (y2 ds) with
      | false => rfl
      | true =>
        have e : y3 ds = [] := nR_bad h1
        have := yBad_of ds hf (by rw [e]; exact tkOk_nil)
        rw [this] at hb
        cases hb
  have hi : iB (nR 99 ds) = false := by
    cases hi : iB (nR 99 ds) with
    | false => rfl
    | true =>
      have e : y2 ds = [] := iR_bad hi
      rw [e, (nB_none 1).2.2] at h1
      cases h1
  have h0 : nB 99 ds = false := by
    cases h0 : nB 99 ds with
    | false => rfl
    | true => rw [nR_bad h0, iB_nil] at hi; cases hi
  obtain ⟨e0, l0⟩ := nB_enc h0 hlt
  obtain ⟨e1, l1⟩ := iB_enc hi l0
  obtain ⟨e2, l2⟩ := nB_enc (ds := y2 ds) h1 l1
  obtain ⟨f1, e3, l3⟩ := y_tk ds hb h1 l2
  obtain ⟨e4, l4⟩ := nB_enc (ds := y4 ds) h4 l3
  obtain ⟨e5, l5⟩ := q_enc 18446744073709551615 (nN 64 (y4 ds)) (y5 ds) h6 l4
  obtain ⟨e6, l6⟩ := nB_enc (ds := y6 ds) h6 l5
  obtain ⟨e7, -⟩ := nB_enc (ds := y7 ds) h7 l6
  have hl : (yXs ds).length = nN 64 (y4 ds) := qL_len _ _ _
  unfold yW repW
  rw [hl, f1]
  simp only [List.append_assoc]
  have e7' : num 0 (nN 128 (y7 ds)) ++ yRest ds = y7 ds := e7.symm
  have e6' : num 0 (nN 18446744073709551615 (y6 ds)) ++ y7 ds = y6 ds := e6.symm
  have e5' : nums (yXs ds) ++ y6 ds = y5 ds := e5.symm
  have e4' : num 0 (nN 64 (y4 ds)) ++ y5 ds = y4 ds := e4.symm
  have e2' : num 0 (nN 1 (y2 ds)) ++ y3 ds = y2 ds := e2.symm
  have e1' : intB (iN (nR 99 ds)) ++ y2 ds = nR 99 ds := e1.symm
  rw [e7', e6', e5', e4', ← e3, e2', e1', ← e0]
/-- The bounds of what is read. -/
theorem yNine_le (ds : List Nat) : (yNine ds).n1 < 18446744073709551616 ∧ (yNine ds).n2 < 9223372036854775808 ∧ (yNine ds).n3 < 9223372036854775808 ∧ (yNine ds).n4 < 9223372036854775808 ∧ (yNine ds).n5 < 18446744073709551616 ∧ (yNine ds).n6 < 9223372036854775808 ∧ (yNine ds).n7 < 9223372036854775808 ∧ (yNine ds).n8 < 9223372036854775808 ∧ (yNine ds).n9 < 9223372036854775808 := by
  have key : ∀ es : List Nat, (nine es).n1 < 18446744073709551616 ∧ (nine es).n2 < 9223372036854775808 ∧ (nine es).n3 < 9223372036854775808 ∧ (nine es).n4 < 9223372036854775808 ∧ (nine es).n5 < 18446744073709551616 ∧ (nine es).n6 < 9223372036854775808 ∧ (nine es).n7 < 9223372036854775808 ∧ (nine es).n8 < 9223372036854775808 ∧ (nine es).n9 < 9223372036854775808 := by
    intro es
    unfold nine
    refine ⟨Nat.lt_succ_of_le (nN_le _ _), Nat.lt_of_le_of_lt (nN_le _ _) (by decide), Nat.lt_of_le_of_lt (nN_le _ _) (by decide), Nat.lt_of_le_of_lt (nN_le _ _) (by decide), Nat.lt_of_le_of_lt (nN_le _ _) (by decide), Nat.lt_of_le_of_lt (nN_le _ _) (by decide), Nat.lt_of_le_of_lt (nN_le _ _) (by decide), Nat.lt_of_le_of_lt (nN_le _ _) (by decide), Nat.lt_of_le_of_lt (nN_le _ _) (by decide)⟩
  unfold yNine tkN
  split
  · split
    · exact key _
    · decide
  · decide
/- A row of bytes that came in lies where there is memory. -/
open Go.RowKit
set_option maxRecDepth 100000 in
theorem slice_thereB {w : World} {base : Nat} {a : Option Addr} {n c : Nat} (h : Value.okWide Try.prog w .any base 35 (.slice a n c)) : ∀ k, w.heap.size ≤ k → (Value.slice a n c).ownBlock ≠ some k := by
  intro k hk e
  cases a with
  | none => simp [Value.ownBlock] at e
  | some x =>
    simp only [Value.ownBlock, Option.map_some, Option.some.injEq] at e
    simp only [Value.okWide, Try.underlying35, Cell.okWide, Cell.ok] at h
    obtain ⟨_, _, _, _, row, cells, hs, _⟩ := h
    have hx : w.heap[x.block]? = none := Array.getElem?_eq_none (by omega)
    simp [World.shape?, hx] at hs
/- Replies: what was written is read as it was. -/
open Go.RowKit
theorem q_back (m : Nat) (hm : m < 18446744073709551616) : ∀ (l : List Nat) (rest : List Nat), (∀ x ∈ l, x ≤ m) → qL m l.length (nums l ++ rest) = l ∧ qR m l.length (nums l ++ rest) = rest
  | [], rest, _ => ⟨rfl, rfl⟩
  | x :: l, rest, h => by
    have hx : x ≤ m := h x (by simp)
    obtain ⟨e1, e2, -⟩ := nN_back m x (nums l ++ rest) (by omega) hx
    obtain ⟨i1, i2⟩ := q_back m hm l rest (fun y hy => h y (List.mem_cons_of_mem _ hy))
    rw [nums_cons, List.append_assoc, List.length_cons, qL, qR, e1, e2, i1, i2]
    exact ⟨rfl, rfl⟩
/-- The numbers of a ticket that a sound reply has. -/
def TkS (n1 n2 n3 n4 n5 n6 n7 n8 n9 : Nat) : Prop := (n1 = 0 ∧ n2 = 0 ∧ n3 = 0 ∧ n4 = 0 ∧ n5 = 0 ∧ n6 = 0 ∧ n7 = 0 ∧ n8 = 0 ∧ n9 = 0) ∨ (soundB n2 n3 n4 n5 n6 n7 n8 n9 = true ∧ n1 ≤ 18446744073709551615 ∧ n2 ≤ 15 ∧ n3 ≤ 4 ∧ n4 ≤ 5 ∧ n5 ≤ 1152921504606846976 ∧ n6 ≤ 1125899906842624 ∧ n7 ≤ 1125899906842624 ∧ n8 ≤ 1125899906842624 ∧ n9 ≤ 2147483648)
/-- A ticket's nine numbers read back, whatever is behind. -/
theorem nine_back2 (n1 n2 n3 n4 n5 n6 n7 n8 n9 : Nat) (h1 : n1 ≤ 18446744073709551615) (h2 : n2 ≤ 15) (h3 : n3 ≤ 4) (h4 : n4 ≤ 5) (h5 : n5 ≤ 1152921504606846976) (h6 : n6 ≤ 1125899906842624) (h7 : n7 ≤ 1125899906842624) (h8 : n8 ≤ 1125899906842624) (h9 : n9 ≤ 2147483648) (more : List Nat) :
    nine (nums [n1, n2, n3, n4, n5, n6, n7, n8, n9] ++ more) = ⟨n1, n2, n3, n4, n5, n6, n7, n8, n9⟩ ∧ nineB (nums [n1, n2, n3, n4, n5, n6, n7, n8, n9] ++ more) = false ∧ nineR (nums [n1, n2, n3, n4, n5, n6, n7, n8, n9] ++ more) = more := by
  unfold nine nineB nineR
  rw [nums_nine]
  simp only [List.append_assoc, List.nil_append]
  obtain ⟨a1, r1, -⟩ := nN_back 18446744073709551615 n1 (num 0 n2 ++ (num 0 n3 ++ (num 0 n4 ++ (num 0 n5 ++ (num 0 n6 ++ (num 0 n7 ++ (num 0 n8 ++ (num 0 n9 ++ more)))))))) (by omega) h1
  obtain ⟨a2, r2, -⟩ := nN_back 15 n2 (num 0 n3 ++ (num 0 n4 ++ (num 0 n5 ++ (num 0 n6 ++ (num 0 n7 ++ (num 0 n8 ++ (num 0 n9 ++ more))))))) (by omega) h2
  obtain ⟨a3, r3, -⟩ := nN_back 4 n3 (num 0 n4 ++ (num 0 n5 ++ (num 0 n6 ++ (num 0 n7 ++ (num 0 n8 ++ (num 0 n9 ++ more)))))) (by omega) h3
  obtain ⟨a4, r4, -⟩ := nN_back 5 n4 (num 0 n5 ++ (num 0 n6 ++ (num 0 n7 ++ (num 0 n8 ++ (num 0 n9 ++ more))))) (by omega) h4
  obtain ⟨a5, r5, -⟩ := nN_back 1152921504606846976 n5 (num 0 n6 ++ (num 0 n7 ++ (num 0 n8 ++ (num 0 n9 ++ more)))) (by omega) h5
  obtain ⟨a6, r6, -⟩ := nN_back 1125899906842624 n6 (num 0 n7 ++ (num 0 n8 ++ (num 0 n9 ++ more))) (by omega) h6
  obtain ⟨a7, r7, -⟩ := nN_back 1125899906842624 n7 (num 0 n8 ++ (num 0 n9 ++ more)) (by omega) h7
  obtain ⟨a8, r8, -⟩ := nN_back 1125899906842624 n8 (num 0 n9 ++ more) (by omega) h8
  obtain ⟨a9, r9, b9⟩ := nN_back 2147483648 n9 more (by omega) h9
  simp only [r1, r2, r3, r4, r5, r6, r7, r8, r9, a1, a2, a3, a4, a5, a6, a7, a8, a9, b9, and_self]
/-- What is read of a sound reply's bytes. -/
theorem y_back (c : Nat) (tm : Int) (n1 n2 n3 n4 n5 n6 n7 n8 n9 : Nat) (xs : List Nat) (nt de : Nat) (more : List Nat) (hc : c ≤ 99) (ht0 : -9223372036854775808 ≤ tm) (ht1 : tm ≤ 9223372036854775807) (hk : TkS n1 n2 n3 n4 n5 n6 n7 n8 n9) (hxl : xs.length ≤ 64) (hx : ∀ x ∈ xs, x < 18446744073709551616) (hnt : nt < 18446744073709551616) (hde : de ≤ 128) (ds : List Nat)
    (hds : ds = repW c tm (noT n1 n2 n3 n4 n5 n6 n7 n8 n9) [n1, n2, n3, n4, n5, n6, n7, n8, n9] xs nt de ++ more) :
    nN 99 ds = c ∧ iN (nR 99 ds) = tm ∧ yNine ds = ⟨n1, n2, n3, n4, n5, n6, n7, n8, n9⟩ ∧ yXs ds = xs ∧ nN 18446744073709551615 (y6 ds) = nt ∧ nN 128 (y7 ds) = de ∧ yRest ds = more ∧ yBad ds = false := by
  have hd : ds = num 0 c ++ (intB tm ++ (flagB (!noT n1 n2 n3 n4 n5 n6 n7 n8 n9) ++ (tkW (noT n1 n2 n3 n4 n5 n6 n7 n8 n9) [n1, n2, n3, n4, n5, n6, n7, n8, n9] ++ (num 0 xs.length ++ (nums xs ++ (num 0 nt ++ (num 0 de ++ more))))))) := by
    rw [hds]
    unfold repW
    simp only [List.append_assoc]
  obtain ⟨a0, r0, -⟩ := nN_back 99 c (intB tm ++ (flagB (!noT n1 n2 n3 n4 n5 n6 n7 n8 n9) ++ (tkW (noT n1 n2 n3 n4 n5 n6 n7 n8 n9) [n1, n2, n3, n4, n5, n6, n7, n8, n9] ++ (num 0 xs.length ++ (nums xs ++ (num 0 nt ++ (num 0 de ++ more))))))) (by omega) hc
  obtain ⟨a1, r1, -⟩ := iN_back tm (flagB (!noT n1 n2 n3 n4 n5 n6 n7 n8 n9) ++ (tkW (noT n1 n2 n3 n4 n5 n6 n7 n8 n9) [n1, n2, n3, n4, n5, n6, n7, n8, n9] ++ (num 0 xs.length ++ (nums xs ++ (num 0 nt ++ (num 0 de ++ more)))))) ht0 ht1
  rw [← hd] at a0 r0
  rw [← r0] at a1 r1
  have e2 : y2 ds = _ := r1
  obtain ⟨a4, r4, -⟩ := nN_back 64 xs.length (nums xs ++ (num 0 nt ++ (num 0 de ++ more))) (by omega) hxl
  obtain ⟨a5, r5⟩ := q_back 18446744073709551615 (by omega) xs (num 0 nt ++ (num 0 de ++ more)) (fun x h => Nat.le_of_lt_succ (hx x h))
  obtain ⟨a6, r6, -⟩ := nN_back 18446744073709551615 nt (num 0 de ++ more) hnt (Nat.le_of_lt_succ hnt)
  obtain ⟨a7, r7, b7⟩ := nN_back 128 de more (by omega) hde
  have key : yNine ds = ⟨n1, n2, n3, n4, n5, n6, n7, n8, n9⟩ ∧ y4 ds = num 0 xs.length ++ (nums xs ++ (num 0 nt ++ (num 0 de ++ more))) := by
    rcases hk with ⟨rfl, rfl, rfl, rfl, rfl, rfl, rfl, rfl, rfl⟩ | ⟨hs, h1, h2, h3, h4, h5, h6, h7, h8, h9⟩
    · have hz : noT ((0 : Nat) : Int) ((0 : Nat) : Int) ((0 : Nat) : Int) ((0 : Nat) : Int) ((0 : Nat) : Int) ((0 : Nat) : Int) ((0 : Nat) : Int) ((0 : Nat) : Int) ((0 : Nat) : Int) = true := by decide
      rw [hz] at e2
      obtain ⟨f1, f2, -⟩ := nN_back 1 0 (num 0 xs.length ++ (nums xs ++ (num 0 nt ++ (num 0 de ++ more)))) (by omega) (by omega)
      have e2' : y2 ds = num 0 0 ++ (num 0 xs.length ++ (nums xs ++ (num 0 nt ++ (num 0 de ++ more)))) := e2
      have hf : fN (y2 ds) = false := by unfold fN; rw [e2', f1]; rfl
      have h3 : y3 ds = num 0 xs.length ++ (nums xs ++ (num 0 nt ++ (num 0 de ++ more))) := by unfold y3; rw [e2', f2]
      refine ⟨by unfold yNine; rw [hf]; rfl, by unfold y4; rw [hf, h3]; rfl⟩
    · have hz := zero_unsound (n1 := n1) hs
      rw [hz] at e2
      obtain ⟨f1, f2, -⟩ := nN_back 1 1 (nums [n1, n2, n3, n4, n5, n6, n7, n8, n9] ++ (num 0 xs.length ++ (nums xs ++ (num 0 nt ++ (num 0 de ++ more))))) (by omega) (by omega)
      have e2' : y2 ds = num 0 1 ++ (nums [n1, n2, n3, n4, n5, n6, n7, n8, n9] ++ (num 0 xs.length ++ (nums xs ++ (num 0 nt ++ (num 0 de ++ more))))) := e2
      have hf : fN (y2 ds) = true := by unfold fN; rw [e2', f1]; rfl
      have h3' : y3 ds = nums [n1, n2, n3, n4, n5, n6, n7, n8, n9] ++ (num 0 xs.length ++ (nums xs ++ (num 0 nt ++ (num 0 de ++ more)))) := by unfold y3; rw [e2', f2]
      obtain ⟨k1, k2, k3⟩ := nine_back2 n1 n2 n3 n4 n5 n6 n7 n8 n9 h1 h2 h3 h4 h5 h6 h7 h8 h9 (num 0 xs.length ++ (nums xs ++ (num 0 nt ++ (num 0 de ++ more))))
      have hok : tkOk (y3 ds) = true := by
        unfold tkOk
        rw [h3', k1, k2]
        unfold Nine.ok
        simpa using hs
      refine ⟨?_, ?_⟩
      · unfold yNine tkN
        rw [hf, hok, h3', k1]
        rfl
      · unfold y4 tkRest
        rw [hf, hok, h3', k3]
        rfl
  obtain ⟨hn, h4⟩ := key
  have h5 : y5 ds = nums xs ++ (num 0 nt ++ (num 0 de ++ more)) := by unfold y5; rw [h4, r4]
  have hx' : yXs ds = xs := by unfold yXs; rw [h4, a4, h5, a5]
  have h6 : y6 ds = num 0 nt ++ (num 0 de ++ more) := by unfold y6; rw [h4, a4, h5, r5]
  have h7 : y7 ds = num 0 de ++ more := by unfold y7; rw [h6, r6]
  exact ⟨a0, a1, hn, hx', by rw [h6, a6], by rw [h7, a7], by unfold yRest; rw [h7, r7], by unfold yBad; rw [h7, b7]⟩
/- Replies: the law of writing. -/
open Go.RowKit
set_option maxRecDepth 100000 in
set_option maxHeartbeats 8000000 in
theorem writes_skip (cd tm id cn st lv ge fr lf du tl : Int) (a : Option Addr) (n ca : Nat) (nt de : Int) (b : Option Addr) (m cb : Nat) (w : World) (h : ¬ (n ≤ 200 ∧ m ≤ 1000)) :
    Calls Try.prog 4 #[repV cd tm id cn st lv ge fr lf du tl a n ca nt de, .slice b m cb] w fun e w' => e = .returned (.bool true) ∧ Below w.heap.size w w' := by
  obtain ⟨B2, s0, -⟩ := box1 w #[.int .i64 cd, .int .i64 tm, .int .u64 id, .int .i64 cn, .int .i64 st, .int .i64 lv, .int .u64 ge, .int .i64 fr, .int .i64 lf, .int .i64 du, .int .i64 tl, .slice a n ca, .int .u64 nt, .int .i64 de] 28
  have HL1 := Lib.hid (fun W => light19 cd tm id cn st lv ge fr lf du tl a n ca nt de W)
  obtain ⟨z1, e1⟩ : ∃ z, decide (n ≤ 200) = z := ⟨_, rfl⟩
  rw [e1] at HL1
  obtain ⟨q0, q1, q2, q3, q4, q5, q6, q7, q8, q9, q10, q11, q12, q13⟩ := rep_at s0
  have HB := Lib.hid B2
  have hm : z1 = true → decide (1000 < (m : Int)) = true := fun hz => by
    rw [hz] at e1
    have := of_decide_eq_true e1
    exact decide_eq_true (by omega)
  clear B2 s0 e1 h
  unfold repV at *
  cases z1
  case false =>
    clear hm
    go_enter Try.func4, Try.ntmps4
    go_wp2_with fail
    refine (HL1.out _).mono ?_
    rintro e w1 ⟨rfl, hb⟩
    have HB1 := Lib.hid (HB.out.trans (hb.mono HB.out.size))
    clear hb q0 q1 q2 q3 q4 q5 q6 q7 q8 q9 q10 q11 q12 q13
    go_wp2_with fail
    refine (lives19 _).mono ?_
    rintro e w2 ⟨rfl, hb⟩
    have HB2 := Lib.hid (HB1.out.trans (hb.mono HB1.out.size))
    clear hb
    go_wp2_with fail
    go_ret
    exact ⟨rfl, HB2.out⟩
  have hd := hm rfl
  clear hm
  go_enter Try.func4, Try.ntmps4
  go_wp2_with fail
  refine (HL1.out _).mono ?_
  rintro e w1 ⟨rfl, hb⟩
  have HB1 := Lib.hid (HB.out.trans (hb.mono HB.out.size))
  clear hb q0 q1 q2 q3 q4 q5 q6 q7 q8 q9 q10 q11 q12 q13
  go_wp2_with fail
  refine (lives19 _).mono ?_
  rintro e w2 ⟨rfl, hb⟩
  have HB2 := Lib.hid (HB1.out.trans (hb.mono HB1.out.size))
  clear hb
  go_wp2_with fail
  go_ret
  exact ⟨rfl, HB2.out⟩
theorem wpAnyH_more {P : Program} {md : Region.Mode} {ops : Array Oper} {Q : Exit → Act → World → Prop} {S S' : World → Prop} (h : ∀ w, S' w → S w) : ∀ (fuel : Nat) (listed : Array Bool) (a : Act) (w : World), wpAnyH P md ops Q S' fuel listed a w → wpAnyH P md ops Q S fuel listed a w
  | 0, _, _, _, k => k
  | fuel + 1, _, _, _, k => ⟨k.1, fun i hi => wpOp_mono (fun _ _ h' => ⟨h _ h'.1, wpAnyH_more h fuel _ _ _ h'.2⟩) (k.2 i hi)⟩
theorem yields_rep2 {S : World → Prop} {T : Nat} { x0 x1 x2 x3 x4 x5 x6 x7 x8 x9 x10 x11 x12 x13 : Value} (hS : ∀ W, S W → W.heap[T]? = some (.cells #[x0, x1, x2, x3, x4, x5, x6, x7, x8, x9, x10, x11, x12, x13] 28 (0, 0))) (S' : World → Prop) (hSS : ∀ W, S' W → S W) (ops : Array Oper) (op : Oper) (a : Act) (hw : Region.wanted op (yielded ops a.tmps) = true) (x : Operand) (ho : op.op = .load 28 x) (hx : a.eval x = .pointer (some ⟨T, 0, none⟩)) : YieldsIf Try.prog ops S' op (.agg #[x0, x1, x2, x3, x4, x5, x6, x7, x8, x9, x10, x11, x12, x13]) a := by
  refine .inl ⟨hw, fun w hw' => ?_⟩
  obtain ⟨q0, q1, q2, q3, q4, q5, q6, q7, q8, q9, q10, q11, q12, q13⟩ := rep_at (hS w (hSS w hw'))
  clear hS hw hw' hSS
  unfold execOp
  simp only [ho, hx]
  clear ho hx
  go_simp
theorem yields_str {S' : World → Prop} {v : Value} {bs : List Nat} (hS : ∀ W, S' W → RB W v bs) (ops : Array Oper) (op : Oper) (a : Act) (hw : Region.wanted op (yielded ops a.tmps) = true) (x : Operand) (ho : op.op = .convert 35 9 x) (hx : a.eval x = v) : YieldsIf Try.prog ops S' op (.string (str bs)) a := by
  refine .inl ⟨hw, fun w hw' => ?_⟩
  have h := rb_string (P := Try.prog) (hS w hw') 35 9 5 Try.underlying35 Try.underlying5 Try.underlying9
  unfold execOp
  simp only [ho, hx]
  go_simp
theorem Us.turn {w w' : World} {a : Option Addr} {n : Nat} {xs : List Nat} {b : Nat} {v : Value} (h : Us w a n xs) (ht : Turn b v w w') (hb : ∀ g o, a = some ⟨g, o, Option.none⟩ → g ≠ b ∧ v.ownBlock ≠ some g) : Us w' a n xs := by
  obtain ⟨h1, h2, h3, h4⟩ := h
  refine ⟨h1, h2, h3, fun i hi => ?_⟩
  obtain ⟨g, o, ha, hlt, hc⟩ := h4 i hi
  exact ⟨g, o, ha, Nat.lt_of_lt_of_le hlt ht.size, by rw [ht.cell (p := ⟨g, o + i, Option.none⟩) hlt (hb g o ha).1 (fun h => (hb g o ha).2 h.symm)]; exact hc⟩
set_option maxRecDepth 100000 in
set_option maxHeartbeats 8000000 in
theorem writes_no (cd tm id cn st lv ge fr lf du tl : Int) (a : Option Addr) (n ca : Nat) (nt de : Int) (b : Option Addr) (m cb : Nat) (w : World) (hn : n ≤ 200) (hm : m ≤ 1000) (hfr : fr ≤ 9223372036854775807) (hs : repS cd tm id cn st lv ge fr lf du tl n de = false) :
    Calls Try.prog 4 #[repV cd tm id cn st lv ge fr lf du tl a n ca nt de, .slice b m cb] w fun e w' => e = .returned (.bool true) ∧ Below w.heap.size w w' := by
  obtain ⟨B2, s0, -⟩ := box1 w #[.int .i64 cd, .int .i64 tm, .int .u64 id, .int .i64 cn, .int .i64 st, .int .i64 lv, .int .u64 ge, .int .i64 fr, .int .i64 lf, .int .i64 du, .int .i64 tl, .slice a n ca, .int .u64 nt, .int .i64 de] 28
  have HL1 : Hid (∀ W, Calls Try.prog 10 #[repV cd tm id cn st lv ge fr lf du tl a n ca nt de] W fun e w' => e = .returned (.bool true) ∧ Below W.heap.size W w') := Lib.hid (fun W => by rw [← decide_eq_true hn]; exact light19 cd tm id cn st lv ge fr lf du tl a n ca nt de W)
  have HBY := Lib.hid (fun W => bytes19_no cd tm id cn st lv ge fr lf du tl a n ca nt de W hfr hs)
  have HRS : Hid (∀ W, Calls Try.prog 15 #[repV cd tm id cn st lv ge fr lf du tl a n ca nt de] W fun e w' => e = .returned (.bool false) ∧ Below W.heap.size W w') := Lib.hid (fun W => by rw [← hs]; exact rrsound19 cd tm id cn st lv ge fr lf du tl a n ca nt de W)
  have hd : decide (1000 < (m : Int)) = false := decide_eq_false (by omega)
  obtain ⟨q0, q1, q2, q3, q4, q5, q6, q7, q8, q9, q10, q11, q12, q13⟩ := rep_at s0
  have HB := Lib.hid B2
  have HS := Lib.hid s0
  clear B2 s0 hs hn hm hfr
  unfold repV at *
  go_enter Try.func4, Try.ntmps4
  go_wp2_with fail
  refine (HL1.out _).mono ?_
  rintro e w1 ⟨rfl, hb⟩
  have HB1 := Lib.hid (HB.out.trans (hb.mono HB.out.size))
  have HS1 := Lib.hid (ex_below HS.out hb)
  clear hb q0 q1 q2 q3 q4 q5 q6 q7 q8 q9 q10 q11 q12 q13
  obtain ⟨q0, q1, q2, q3, q4, q5, q6, q7, q8, q9, q10, q11, q12, q13⟩ := rep_at HS1.out
  go_wp2_with fail
  refine (HBY.out _).mono ?_
  rintro e w2 ⟨rfl, hb⟩
  have HB2 := Lib.hid (HB1.out.trans (hb.mono HB1.out.size))
  have HS2 := Lib.hid (ex_below HS1.out hb)
  clear hb q0 q1 q2 q3 q4 q5 q6 q7 q8 q9 q10 q11 q12 q13
  obtain ⟨q0, q1, q2, q3, q4, q5, q6, q7, q8, q9, q10, q11, q12, q13⟩ := rep_at HS2.out
  go_wp2_with fail
  refine (HRS.out _).mono ?_
  rintro e w3 ⟨rfl, hb⟩
  have HB3 := Lib.hid (HB2.out.trans (hb.mono HB2.out.size))
  clear hb q0 q1 q2 q3 q4 q5 q6 q7 q8 q9 q10 q11 q12 q13
  go_wp2_with fail
  refine (lives19 _).mono ?_
  rintro e w4 ⟨rfl, hb⟩
  have HB4 := Lib.hid (HB3.out.trans (hb.mono HB3.out.size))
  clear hb
  go_wp2_with fail
  go_ret
  exact ⟨rfl, HB4.out⟩
set_option maxRecDepth 100000 in
set_option maxHeartbeats 16000000 in
theorem writes_yes (c : Nat) (tm : Int) (n1 n2 n3 n4 n5 n6 n7 n8 n9 : Nat) (a : Option Addr) (n ca : Nat) (xs : List Nat) (nt de : Nat) (b : Option Addr) (m cb : Nat) (more : List Nat) (w : World) (hn : n ≤ 64) (hc : c ≤ 99) (ht0 : 0 ≤ tm) (ht1 : tm ≤ 1125899906842624) (hk : TkS n1 n2 n3 n4 n5 n6 n7 n8 n9) (b1 : n1 < 18446744073709551616) (b2 : n2 < 9223372036854775808) (b3 : n3 < 9223372036854775808) (b4 : n4 < 9223372036854775808) (b5 : n5 < 18446744073709551616) (b6 : n6 < 9223372036854775808) (b7 : n7 < 9223372036854775808) (b8 : n8 < 9223372036854775808) (b9 : n9 < 9223372036854775808) (hnt : nt < 18446744073709551616) (hde : de ≤ 128) (hU : Us w a n xs) (hF : Fr w a) (hrb : RB w (.slice b m cb) more) (hml : more.length = m) (hm : m ≤ 1000) (hown : ∀ k, w.heap.size ≤ k → (Value.slice b m cb).ownBlock ≠ some k) (hs : repS (c : Int) tm (n1 : Int) (n2 : Int) (n3 : Int) (n4 : Int) (n5 : Int) (n6 : Int) (n7 : Int) (n8 : Int) (n9 : Int) n (de : Int) = true) :
    Calls Try.prog 4 #[repV c tm n1 n2 n3 n4 n5 n6 n7 n8 n9 a n ca nt de, .slice b m cb] w fun e w' => e = .returned (.bool true) ∧ Below w.heap.size w w' := by
  obtain ⟨B2, s0, sz⟩ := box1 w #[.int .i64 (c : Int), .int .i64 tm, .int .u64 (n1 : Int), .int .i64 (n2 : Int), .int .i64 (n3 : Int), .int .i64 (n4 : Int), .int .u64 (n5 : Int), .int .i64 (n6 : Int), .int .i64 (n7 : Int), .int .i64 (n8 : Int), .int .i64 (n9 : Int), .slice a n ca, .int .u64 (nt : Int), .int .i64 (de : Int)] 28
  have HL1 : Hid (∀ W, Calls Try.prog 10 #[repV c tm n1 n2 n3 n4 n5 n6 n7 n8 n9 a n ca nt de] W fun e w' => e = .returned (.bool true) ∧ Below W.heap.size W w') := Lib.hid (fun W => by rw [← decide_eq_true (show n ≤ 200 by omega)]; exact light19 c tm n1 n2 n3 n4 n5 n6 n7 n8 n9 a n ca nt de W)
  obtain ⟨X, hX⟩ : ∃ X, repW c tm (noT n1 n2 n3 n4 n5 n6 n7 n8 n9) [n1, n2, n3, n4, n5, n6, n7, n8, n9] xs nt de = X := ⟨_, rfl⟩
  have hXlen : X.length ≤ 1000000 := by
    have h1 := num_len9 0 c (by omega)
    have h2 := intB_len9 tm (by omega) (by omega)
    have h3 := flagB_len9 (!noT n1 n2 n3 n4 n5 n6 n7 n8 n9)
    have h4 : (tkW (noT n1 n2 n3 n4 n5 n6 n7 n8 n9) [n1, n2, n3, n4, n5, n6, n7, n8, n9]).length ≤ 81 := by
      unfold tkW
      split
      · simp
      · exact flat_len (num 0) 9 _ (fun x hx => num_len9 0 x (nine_nums n1 n2 n3 n4 n5 n6 n7 n8 n9 b1 b2 b3 b4 b5 b6 b7 b8 b9 x hx))
    have h5 := num_len9 0 xs.length (by have := hU.1; omega)
    have h6 : (nums xs).length ≤ 9 * xs.length := flat_len (num 0) 9 xs (fun x hx => num_len9 0 x (hU.2.2.1 x hx))
    have h7 := num_len9 0 nt hnt
    have h8 := num_len9 0 de (by omega)
    have h9 := hU.1
    rw [← hX]
    unfold repW
    simp only [List.length_append]
    omega
  have HBY : Hid (∀ W, Us W a n xs → Fr W a → Calls Try.prog 18 #[repV c tm n1 n2 n3 n4 n5 n6 n7 n8 n9 a n ca nt de] W fun e w' => ∃ v, e = .returned (.tuple #[v, .int .i64 0]) ∧ OB w' W.heap.size v X ∧ Below W.heap.size W w') := Lib.hid (fun W h1 h2 => by
    rw [← hX]
    exact bytes19_yes c tm n1 n2 n3 n4 n5 n6 n7 n8 n9 b1 b2 b3 b4 b5 b6 b7 b8 b9 a n ca xs nt de (by omega) (by omega) (by omega) hnt (by omega) (by omega) W h1 h2 hs)
  have HRS : Hid (∀ W, Calls Try.prog 15 #[repV c tm n1 n2 n3 n4 n5 n6 n7 n8 n9 a n ca nt de] W fun e w' => e = .returned (.bool true) ∧ Below W.heap.size W w') := Lib.hid (fun W => by rw [← hs]; exact rrsound19 c tm n1 n2 n3 n4 n5 n6 n7 n8 n9 a n ca nt de W)
  have HPU : Hid (∀ (g : Nat) (W : World), WR W g (g + 1) (.slice none 0 0) [] → Us W a n xs → (∀ g' o, a = some ⟨g', o, none⟩ → g' < g + 1 ∧ g' ≠ g) → Calls Try.prog 19 #[.pointer (some ⟨g, 0, none⟩), repV c tm n1 n2 n3 n4 n5 n6 n7 n8 n9 a n ca nt de] W fun e w' => e = .returned (.tuple #[]) ∧ Wrote g (g + 1) (.slice none 0 0) W X w') := Lib.hid (fun g W h1 h2 h3 => by
    have h := put19 g (g + 1) (.slice none 0 0) [] (Nat.zero_le _) c tm n1 n2 n3 n4 n5 n6 n7 n8 n9 b1 b2 b3 b4 b5 b6 b7 b8 b9 a n ca xs nt de (by omega) (by omega) (by omega) hnt (by omega) (by omega) W h1 h2 h3
    rw [List.nil_append, hX] at h
    exact h)
  have HRP : Hid (∀ W, Us W a n xs → Calls Try.prog 22 #[repV c tm n1 n2 n3 n4 n5 n6 n7 n8 n9 a n ca nt de] W (Owned W X)) := Lib.hid (fun W h => by
    have h := rput19 c tm n1 n2 n3 n4 n5 n6 n7 n8 n9 b1 b2 b3 b4 b5 b6 b7 b8 b9 a n ca xs nt de (by omega) (by omega) (by omega) hnt (by omega) (by omega) W h
    rw [hX] at h
    exact h)
  have HRD : Hid (∀ rb W, RR W rb (X ++ more) false → Calls Try.prog 21 #[.pointer (some ⟨rb, 0, none⟩)] W fun e w' => ∃ a9 c9, e = .returned (.tuple #[repV c tm n1 n2 n3 n4 n5 n6 n7 n8 n9 a9 n c9 nt de, .bool true]) ∧ OU w' W.heap.size (.slice a9 n c9) xs ∧ RR w' rb more false ∧ Rd rb W w') := Lib.hid (fun rb W h => by
    obtain ⟨k1, k2, k3, k4, k5, k6, k7, k8⟩ := y_back c tm n1 n2 n3 n4 n5 n6 n7 n8 n9 xs nt de more hc (by omega) (by omega) hk (by have := hU.1; omega) hU.2.2.1 hnt hde (X ++ more) (by rw [hX])
    have hlen : xs.length = n := hU.1
    have hok : yOk (X ++ more) = true := by
      unfold yOk yS
      rw [k8, k1, k2, k3, k4, k6, hlen]
      simpa using hs
    refine (read19 rb _ false W h).mono fun e w' hh => ?_
    obtain ⟨a', ca', h1, h2, h3, h4⟩ := hh.1 hok
    unfold yV at h1
    rw [k1, k2, k3, k4, k5, k6, hlen] at h1
    rw [k4, hlen] at h2
    rw [k7] at h3
    exact ⟨a', ca', h1, h2, h3, h4⟩)
  have hX8 : ∀ y ∈ X, y < 256 := by
    intro y hy
    have hw : ∀ y ∈ repW c tm (noT n1 n2 n3 n4 n5 n6 n7 n8 n9) [n1, n2, n3, n4, n5, n6, n7, n8, n9] xs nt de, y < 256 := by
      unfold repW
      intro y hy
      simp only [List.mem_append] at hy
      rcases hy with (((((hy | hy) | hy) | hy) | hy) | hy) | (hy | hy)
      · exact num_lt' 0 c (by omega) (by omega) y hy
      · exact intB_lt tm (by omega) (by omega) y hy
      · exact flagB_lt _ y hy
      · unfold tkW at hy
        split at hy
        · cases hy
        · exact flat_lt (num 0) _ (fun x hx => num_lt' 0 x (by omega) (nine_nums n1 n2 n3 n4 n5 n6 n7 n8 n9 b1 b2 b3 b4 b5 b6 b7 b8 b9 x hx)) y hy
      · exact num_lt' 0 _ (by omega) (by have := hU.1; omega) y hy
      · exact flat_lt (num 0) xs (fun x hx => num_lt' 0 x (by omega) (hU.2.2.1 x hx)) y hy
      · exact num_lt' 0 nt (by omega) hnt y hy
      · exact num_lt' 0 de (by omega) (by omega) y hy
    exact hw y (by rw [hX]; exact hy)
  have hXN : X ≠ [] := by
    intro h0
    rw [h0] at hX
    have h := congrArg List.length hX
    unfold repW at h
    simp only [List.length_append, num_len, List.length_nil] at h
    omega
  have HX8 := Lib.hid (And.intro hX8 hXlen)
  have HXN := Lib.hid hXN
  have HOWN := Lib.hid hown
  have HXS : Hid (∀ x ∈ xs, x < 18446744073709551616) := Lib.hid hU.2.2.1
  have hd : decide (1000 < (m : Int)) = false := decide_eq_false (by omega)
  obtain ⟨XL, hXL⟩ : ∃ y, X.length = y := ⟨_, rfl⟩
  have HXL := Lib.hid hXL
  have HM := Lib.hid (And.intro hml hm)
  have HB := Lib.hid B2
  have HS := Lib.hid s0
  have HU := Lib.hid (And.intro (hU.kept B2) (hrb.kept B2))
  have HF := Lib.hid hF
  have hfr0 : Hid (∀ W, Below w.heap.size w W → Fr W a) := Lib.hid (fun W hb g o h => Nat.lt_of_lt_of_le (hF g o h) hb.size)
  have HSZ := Lib.hid sz
  obtain ⟨q0, q1, q2, q3, q4, q5, q6, q7, q8, q9, q10, q11, q12, q13⟩ := rep_at s0
  clear B2 s0 sz hs hn hc ht0 ht1 hk b1 b2 b3 b4 b5 b6 b7 b8 b9 hnt hde hU hF hrb hml hm hX hX8 hXlen hXL hXN hown
  unfold repV at *
  go_enter Try.func4, Try.ntmps4
  go_wp2_with fail
  refine (HL1.out _).mono ?_
  rintro e w1 ⟨rfl, hb⟩
  have HB1 := Lib.hid (HB.out.trans (hb.mono HB.out.size))
  have HS1 := Lib.hid (ex_below HS.out hb)
  have HU1 := Lib.hid (And.intro (HU.out.1.kept hb) (HU.out.2.kept hb))
  clear hb q0 q1 q2 q3 q4 q5 q6 q7 q8 q9 q10 q11 q12 q13 HB HS HU HL1
  obtain ⟨q0, q1, q2, q3, q4, q5, q6, q7, q8, q9, q10, q11, q12, q13⟩ := rep_at HS1.out
  go_wp2_with fail
  refine (HBY.out _ HU1.out.1 (hfr0.out _ HB1.out)).mono ?_
  rintro e w2 ⟨v5, rfl, ho, hb⟩
  have hr5 : RB w2 v5 X := ho.rb HX8.out.1 (by have := HX8.out.2; omega)
  obtain ⟨x5, c5, rfl⟩ := hr5.shapeN' HXL.out
  have HV2 := Lib.hid hr5
  have HB2 := Lib.hid (HB1.out.trans (hb.mono HB1.out.size))
  have HS2 := Lib.hid (ex_below HS1.out hb)
  have HU2 := Lib.hid (And.intro (HU1.out.1.kept hb) (HU1.out.2.kept hb))
  clear hb ho hr5 q0 q1 q2 q3 q4 q5 q6 q7 q8 q9 q10 q11 q12 q13 HB1 HS1 HU1 HBY
  obtain ⟨q0, q1, q2, q3, q4, q5, q6, q7, q8, q9, q10, q11, q12, q13⟩ := rep_at HS2.out
  go_wp2_with fail
  refine (HRS.out _).mono ?_
  rintro e w3 ⟨rfl, hb⟩
  have HV3 := Lib.hid (HV2.out.kept hb)
  have HB3 := Lib.hid (HB2.out.trans (hb.mono HB2.out.size))
  have HS3 := Lib.hid (ex_below HS2.out hb)
  have HU3 := Lib.hid (And.intro (HU2.out.1.kept hb) (HU2.out.2.kept hb))
  clear hb q0 q1 q2 q3 q4 q5 q6 q7 q8 q9 q10 q11 q12 q13 HB2 HS2 HU2 HV2 HRS
  obtain ⟨g, hg⟩ : ∃ g, w3.heap.size = g := ⟨_, rfl⟩
  obtain ⟨B4, s4, z4⟩ := box1 w3 #[.slice none 0 0] 39
  rw [hg] at s4 z4
  have HGE : Hid (w.heap.size < g) := Lib.hid (by have := ex_lt HS3.out; omega)
  have HWR : Hid (WR (w3.alloc (.cells #[.slice none 0 0] 39)) g (g + 1) (.slice none 0 0) []) := Lib.hid ⟨s4, Nat.lt_succ_self g, by omega, World.ownsRow_nil _ _ _ _, by simp⟩
  have HB4 := Lib.hid (HB3.out.trans (B4.mono HB3.out.size))
  have HU4 := Lib.hid (And.intro (HU3.out.1.kept B4) (HU3.out.2.kept B4))
  have HV4 := Lib.hid (HV3.out.kept B4)
  have HS4 := Lib.hid (ex_below HS3.out B4)
  have HVL : Hid (∀ k, (Value.slice x5 XL c5).ownBlock = some k → X ≠ [] → k < g) := Lib.hid (fun k hk hne => by
    rcases HV3.out.2.2 with ⟨-, h⟩ | ⟨x, cp, h1, -, -, h2⟩
    · exact absurd h hne
    · injection h1 with h1 _ _
      subst h1
      have h3 := (cell_spot (h2 0 (by cases X with | nil => exact absurd rfl hne | cons _ _ => simp))).2
      have hb : (x.add 0).block = x.block := by unfold Addr.add; split <;> rfl
      simp only [Value.ownBlock, Option.map_some, Option.some.injEq] at hk
      omega)
  obtain ⟨q0, q1, q2, q3, q4, q5, q6, q7, q8, q9, q10, q11, q12, q13⟩ := rep_at HS4.out
  clear B4 s4 z4 HB3 HS3 HU3 HV3
  go_wp2_with fail
  clear q0 q1 q2 q3 q4 q5 q6 q7 q8 q9 q10 q11 q12 q13
  refine (HPU.out g _ HWR.out HU4.out.1 (fun g' o h => by have h1 := HF.out g' o h; have h2 := HGE.out; omega)).mono ?_
  rintro e w5 ⟨rfl, vw, hw5, ht5, -⟩
  have HB5 := Lib.hid (ht5.outside HB4.out HB4.out.size (Nat.le_of_lt HGE.out) (by simp [Value.ownBlock]))
  have HV5 : Hid (RB w5 (.slice x5 XL c5) X) := Lib.hid (HV4.out.turned ht5 (fun hk => absurd (HVL.out g hk HXN.out) (by omega)))
  have HM5 : Hid (RB w5 (.slice b m cb) more) := Lib.hid (HU4.out.2.turned ht5 (HOWN.out g (Nat.le_of_lt HGE.out)))
  have HU5 : Hid (Us w5 a n xs) := Lib.hid (HU4.out.1.turn ht5 (fun g' o h => ⟨by have h1 := HF.out g' o h; have h2 := HGE.out; omega, by simp [Value.ownBlock]⟩))
  have HS5 := Lib.hid (Rd.keep ht5 HS4.out (by have := HGE.out; omega))
  have HW5 := Lib.hid hw5
  have HG5 : Hid (g < w5.heap.size) := Lib.hid hw5.lt
  clear hw5 ht5 HPU HWR HB4 HU4 HV4 HS4
  go_wp2_with (first
    | (at_builtin; refine append_rb rfl (.tmp 40) (.tmp 41) rfl w5.heap.size _ _ [] X rfl rfl (ob_empty _ _ rfl) (HV5.out.kept ((Below.refl _ _).alloc (Nat.le_refl _) (.cells #[] 5))) (by have := HX8.out.2; simp only [List.length_nil]; omega) (by simp) ?_; intro v6 w6 ho hg'; have HA6 := Lib.hid ((ob_empty w5 _ rfl).below hg' ((Below.refl _ _).alloc (Nat.le_refl _) _) (by simp)); have HO6 := Lib.hid ho; have HM6 := Lib.hid (HM5.out.kept HA6.out); clear ho hg')
    | (at_builtin; refine append_rb rfl (.tmp 42) (.tmp 43) rfl w5.heap.size _ _ ([] ++ X) more rfl rfl HO6.out HM6.out (by have := HX8.out.2; have := HM.out; simp only [List.length_append, List.length_nil]; omega) HA6.out.size ?_; intro v7 w7 ho hg'; have HA7 := Lib.hid (HO6.out.below hg' HA6.out HA6.out.size); have HO7 := Lib.hid ho; clear ho hg'))
  have HR7 : Hid (RB w7 v7 (X ++ more)) := Lib.hid (HO7.out.rb (fun y hy => by
    rw [List.nil_append] at hy
    rcases List.mem_append.1 hy with h | h
    · exact HX8.out.1 y h
    · exact HM5.out.1 y h) (by have := HX8.out.2; have := HM.out; simp only [List.length_append, List.length_nil]; omega))
  clear HO6 HO7 HM5 HM6 HA6
  refine (open_any v7 (X ++ more) w7 HR7.out (by have := HX8.out.2; have := HM.out; simp only [List.length_append]; omega)).mono ?_
  rintro e w8 ⟨rb, rfl, hle, hrr, hb⟩
  have HA8 := Lib.hid (HA7.out.trans (hb.mono HA7.out.size))
  have HRR8 := Lib.hid hrr
  have HLE : Hid (w5.heap.size ≤ rb) := Lib.hid (Nat.le_trans HA7.out.size hle)
  clear hle hrr hb HA7 HR7
  go_wp2_with fail
  refine (HRD.out rb w8 HRR8.out).mono ?_
  rintro e w9 ⟨a9, c9, rfl, ho9, hr9, ht9⟩
  have HB8 := HB5.out.trans (HA8.out.mono HB5.out.size)
  have HB9 := Lib.hid (ht9.outside HB8 HB8.size (Nat.le_trans HB5.out.size HLE.out))
  have HV9 : Hid (RB w9 (.slice x5 XL c5) X) := Lib.hid ((HV5.out.kept HA8.out).turned ht9 (fun hk => absurd (HVL.out rb hk HXN.out) (by have := HLE.out; have := HG5.out; omega)))
  have HU9 : Hid (Us w9 a n xs) := Lib.hid ((HU5.out.kept HA8.out).turn ht9 (fun g' o h => ⟨by have h1 := HF.out g' o h; have h2 := HLE.out; have h3 := HB5.out.size; omega, by simp [Value.ownBlock]⟩))
  have HS9 := Lib.hid (Rd.keep ht9 (ex_below HS5.out HA8.out) (by have h1 := ex_lt HS5.out; have := HLE.out; omega))
  have HW9 : Hid (WR w9 g (g + 1) vw X) := Lib.hid ((HW5.out.kept HA8.out).other ht9 (by have := HG5.out; have := HLE.out; omega) (fun hk => absurd (HW5.out.own_lt rb hk) (by have := HLE.out; omega)) (by simp [Value.ownBlock]) (by simp [Value.ownBlock]))
  have HR9 := Lib.hid hr9
  have HO9 : Hid (Us w9 a9 n xs) := Lib.hid ((ho9.us HXS.out).2)
  clear ho9 hr9 ht9 HB8 HB5 HV5 HU5 HS5 HW5 HA8 HRR8 HLE HG5 HRD
  go_wp2_with fail
  obtain ⟨bx, bn, bz⟩ := box1 w9 #[.int .i64 (c : Int), .int .i64 tm, .int .u64 (n1 : Int), .int .i64 (n2 : Int), .int .i64 (n3 : Int), .int .i64 (n4 : Int), .int .u64 (n5 : Int), .int .i64 (n6 : Int), .int .i64 (n7 : Int), .int .i64 (n8 : Int), .int .i64 (n9 : Int), .slice a9 n c9, .int .u64 (nt : Int), .int .i64 (de : Int)] 28
  obtain ⟨T9, hT9⟩ : ∃ y, w9.heap.size = y := ⟨_, rfl⟩
  rw [hT9] at bn
  have HS0 := Lib.hid (show (fun W => W.heap[w.heap.size]? = some (.cells #[.int .i64 (c : Int), .int .i64 tm, .int .u64 (n1 : Int), .int .i64 (n2 : Int), .int .i64 (n3 : Int), .int .i64 (n4 : Int), .int .u64 (n5 : Int), .int .i64 (n6 : Int), .int .i64 (n7 : Int), .int .i64 (n8 : Int), .int .i64 (n9 : Int), .slice a n ca, .int .u64 (nt : Int), .int .i64 (de : Int)] 28 (0, 0)) ∧ W.heap[T9]? = some (.cells #[.int .i64 (c : Int), .int .i64 tm, .int .u64 (n1 : Int), .int .i64 (n2 : Int), .int .i64 (n3 : Int), .int .i64 (n4 : Int), .int .u64 (n5 : Int), .int .i64 (n6 : Int), .int .i64 (n7 : Int), .int .i64 (n8 : Int), .int .i64 (n9 : Int), .slice a9 n c9, .int .u64 (nt : Int), .int .i64 (de : Int)] 28 (0, 0)) ∧ RR W rb more false ∧ WR W g (g + 1) vw X ∧ RB W (.slice x5 XL c5) X ∧ Us W a n xs ∧ Us W a9 n xs ∧ Below w.heap.size w W) (w9.alloc (.cells #[.int .i64 (c : Int), .int .i64 tm, .int .u64 (n1 : Int), .int .i64 (n2 : Int), .int .i64 (n3 : Int), .int .i64 (n4 : Int), .int .u64 (n5 : Int), .int .i64 (n6 : Int), .int .i64 (n7 : Int), .int .i64 (n8 : Int), .int .i64 (n9 : Int), .slice a9 n c9, .int .u64 (nt : Int), .int .i64 (de : Int)] 28)) from ⟨ex_below HS9.out bx, bn, HR9.out.kept bx, HW9.out.kept bx, HV9.out.kept bx, HU9.out.kept bx, HO9.out.kept bx, HB9.out.trans (bx.mono HB9.out.size)⟩)
  try rw [hT9]
  clear bx bn bz hT9 HS9 HR9 HW9 HV9 HU9 HO9 HB9
  generalize w9.alloc (.cells #[.int .i64 (c : Int), .int .i64 tm, .int .u64 (n1 : Int), .int .i64 (n2 : Int), .int .i64 (n3 : Int), .int .i64 (n4 : Int), .int .u64 (n5 : Int), .int .i64 (n6 : Int), .int .i64 (n7 : Int), .int .i64 (n8 : Int), .int .i64 (n9 : Int), .slice a9 n c9, .int .u64 (nt : Int), .int .i64 (de : Int)] 28) = V3 at HS0 ⊢
  have HSD : Hid (∀ W, (fun W => W.heap[w.heap.size]? = some (.cells #[.int .i64 (c : Int), .int .i64 tm, .int .u64 (n1 : Int), .int .i64 (n2 : Int), .int .i64 (n3 : Int), .int .i64 (n4 : Int), .int .u64 (n5 : Int), .int .i64 (n6 : Int), .int .i64 (n7 : Int), .int .i64 (n8 : Int), .int .i64 (n9 : Int), .slice a n ca, .int .u64 (nt : Int), .int .i64 (de : Int)] 28 (0, 0)) ∧ W.heap[T9]? = some (.cells #[.int .i64 (c : Int), .int .i64 tm, .int .u64 (n1 : Int), .int .i64 (n2 : Int), .int .i64 (n3 : Int), .int .i64 (n4 : Int), .int .u64 (n5 : Int), .int .i64 (n6 : Int), .int .i64 (n7 : Int), .int .i64 (n8 : Int), .int .i64 (n9 : Int), .slice a9 n c9, .int .u64 (nt : Int), .int .i64 (de : Int)] 28 (0, 0)) ∧ RR W rb more false ∧ WR W g (g + 1) vw X ∧ RB W (.slice x5 XL c5) X ∧ Us W a n xs ∧ Us W a9 n xs ∧ Below w.heap.size w W) W → ∀ W', Below W.heap.size W W' → (fun W => W.heap[w.heap.size]? = some (.cells #[.int .i64 (c : Int), .int .i64 tm, .int .u64 (n1 : Int), .int .i64 (n2 : Int), .int .i64 (n3 : Int), .int .i64 (n4 : Int), .int .u64 (n5 : Int), .int .i64 (n6 : Int), .int .i64 (n7 : Int), .int .i64 (n8 : Int), .int .i64 (n9 : Int), .slice a n ca, .int .u64 (nt : Int), .int .i64 (de : Int)] 28 (0, 0)) ∧ W.heap[T9]? = some (.cells #[.int .i64 (c : Int), .int .i64 tm, .int .u64 (n1 : Int), .int .i64 (n2 : Int), .int .i64 (n3 : Int), .int .i64 (n4 : Int), .int .u64 (n5 : Int), .int .i64 (n6 : Int), .int .i64 (n7 : Int), .int .i64 (n8 : Int), .int .i64 (n9 : Int), .slice a9 n c9, .int .u64 (nt : Int), .int .i64 (de : Int)] 28 (0, 0)) ∧ RR W rb more false ∧ WR W g (g + 1) vw X ∧ RB W (.slice x5 XL c5) X ∧ Us W a n xs ∧ Us W a9 n xs ∧ Below w.heap.size w W) W') := Lib.hid (fun W ⟨k1, k2, k3, k4, k5, k6, k7, k8⟩ W' hb => ⟨ex_below k1 hb, ex_below k2 hb, k3.kept hb, k4.kept hb, k5.kept hb, k6.kept hb, k7.kept hb, k8.trans (hb.mono k8.size)⟩)
  have HS0' := Lib.hid (HSD.out _ HS0.out V3.drew (Below.refl _ _).drew)
  clear HS0
  have HS0 := HS0'
  clear HS0'
  have HX1 : Hid (∀ W, (fun W => W.heap[w.heap.size]? = some (.cells #[.int .i64 (c : Int), .int .i64 tm, .int .u64 (n1 : Int), .int .i64 (n2 : Int), .int .i64 (n3 : Int), .int .i64 (n4 : Int), .int .u64 (n5 : Int), .int .i64 (n6 : Int), .int .i64 (n7 : Int), .int .i64 (n8 : Int), .int .i64 (n9 : Int), .slice a n ca, .int .u64 (nt : Int), .int .i64 (de : Int)] 28 (0, 0)) ∧ W.heap[T9]? = some (.cells #[.int .i64 (c : Int), .int .i64 tm, .int .u64 (n1 : Int), .int .i64 (n2 : Int), .int .i64 (n3 : Int), .int .i64 (n4 : Int), .int .u64 (n5 : Int), .int .i64 (n6 : Int), .int .i64 (n7 : Int), .int .i64 (n8 : Int), .int .i64 (n9 : Int), .slice a9 n c9, .int .u64 (nt : Int), .int .i64 (de : Int)] 28 (0, 0)) ∧ RR W rb more false ∧ WR W g (g + 1) vw X ∧ RB W (.slice x5 XL c5) X ∧ Us W a n xs ∧ Us W a9 n xs ∧ Below w.heap.size w W) W → W.heap[w.heap.size]? = some (.cells #[.int .i64 (c : Int), .int .i64 tm, .int .u64 (n1 : Int), .int .i64 (n2 : Int), .int .i64 (n3 : Int), .int .i64 (n4 : Int), .int .u64 (n5 : Int), .int .i64 (n6 : Int), .int .i64 (n7 : Int), .int .i64 (n8 : Int), .int .i64 (n9 : Int), .slice a n ca, .int .u64 (nt : Int), .int .i64 (de : Int)] 28 (0, 0))) := Lib.hid (fun W h => h.1)
  have HX2 : Hid (∀ W, (fun W => W.heap[w.heap.size]? = some (.cells #[.int .i64 (c : Int), .int .i64 tm, .int .u64 (n1 : Int), .int .i64 (n2 : Int), .int .i64 (n3 : Int), .int .i64 (n4 : Int), .int .u64 (n5 : Int), .int .i64 (n6 : Int), .int .i64 (n7 : Int), .int .i64 (n8 : Int), .int .i64 (n9 : Int), .slice a n ca, .int .u64 (nt : Int), .int .i64 (de : Int)] 28 (0, 0)) ∧ W.heap[T9]? = some (.cells #[.int .i64 (c : Int), .int .i64 tm, .int .u64 (n1 : Int), .int .i64 (n2 : Int), .int .i64 (n3 : Int), .int .i64 (n4 : Int), .int .u64 (n5 : Int), .int .i64 (n6 : Int), .int .i64 (n7 : Int), .int .i64 (n8 : Int), .int .i64 (n9 : Int), .slice a9 n c9, .int .u64 (nt : Int), .int .i64 (de : Int)] 28 (0, 0)) ∧ RR W rb more false ∧ WR W g (g + 1) vw X ∧ RB W (.slice x5 XL c5) X ∧ Us W a n xs ∧ Us W a9 n xs ∧ Below w.heap.size w W) W → W.heap[T9]? = some (.cells #[.int .i64 (c : Int), .int .i64 tm, .int .u64 (n1 : Int), .int .i64 (n2 : Int), .int .i64 (n3 : Int), .int .i64 (n4 : Int), .int .u64 (n5 : Int), .int .i64 (n6 : Int), .int .i64 (n7 : Int), .int .i64 (n8 : Int), .int .i64 (n9 : Int), .slice a9 n c9, .int .u64 (nt : Int), .int .i64 (de : Int)] 28 (0, 0))) := Lib.hid (fun W h => h.2.1)
  have HC1 : Hid (∀ W, (fun W => W.heap[w.heap.size]? = some (.cells #[.int .i64 (c : Int), .int .i64 tm, .int .u64 (n1 : Int), .int .i64 (n2 : Int), .int .i64 (n3 : Int), .int .i64 (n4 : Int), .int .u64 (n5 : Int), .int .i64 (n6 : Int), .int .i64 (n7 : Int), .int .i64 (n8 : Int), .int .i64 (n9 : Int), .slice a n ca, .int .u64 (nt : Int), .int .i64 (de : Int)] 28 (0, 0)) ∧ W.heap[T9]? = some (.cells #[.int .i64 (c : Int), .int .i64 tm, .int .u64 (n1 : Int), .int .i64 (n2 : Int), .int .i64 (n3 : Int), .int .i64 (n4 : Int), .int .u64 (n5 : Int), .int .i64 (n6 : Int), .int .i64 (n7 : Int), .int .i64 (n8 : Int), .int .i64 (n9 : Int), .slice a9 n c9, .int .u64 (nt : Int), .int .i64 (de : Int)] 28 (0, 0)) ∧ RR W rb more false ∧ WR W g (g + 1) vw X ∧ RB W (.slice x5 XL c5) X ∧ Us W a n xs ∧ Us W a9 n xs ∧ Below w.heap.size w W) W → Calls Try.prog 22 #[.agg #[.int .i64 (c : Int), .int .i64 tm, .int .u64 (n1 : Int), .int .i64 (n2 : Int), .int .i64 (n3 : Int), .int .i64 (n4 : Int), .int .u64 (n5 : Int), .int .i64 (n6 : Int), .int .i64 (n7 : Int), .int .i64 (n8 : Int), .int .i64 (n9 : Int), .slice a n ca, .int .u64 (nt : Int), .int .i64 (de : Int)]] W (Owned W X)) := Lib.hid (fun W h => HRP.out W h.2.2.2.2.2.1)
  have HC2 : Hid (∀ W, (fun W => W.heap[w.heap.size]? = some (.cells #[.int .i64 (c : Int), .int .i64 tm, .int .u64 (n1 : Int), .int .i64 (n2 : Int), .int .i64 (n3 : Int), .int .i64 (n4 : Int), .int .u64 (n5 : Int), .int .i64 (n6 : Int), .int .i64 (n7 : Int), .int .i64 (n8 : Int), .int .i64 (n9 : Int), .slice a n ca, .int .u64 (nt : Int), .int .i64 (de : Int)] 28 (0, 0)) ∧ W.heap[T9]? = some (.cells #[.int .i64 (c : Int), .int .i64 tm, .int .u64 (n1 : Int), .int .i64 (n2 : Int), .int .i64 (n3 : Int), .int .i64 (n4 : Int), .int .u64 (n5 : Int), .int .i64 (n6 : Int), .int .i64 (n7 : Int), .int .i64 (n8 : Int), .int .i64 (n9 : Int), .slice a9 n c9, .int .u64 (nt : Int), .int .i64 (de : Int)] 28 (0, 0)) ∧ RR W rb more false ∧ WR W g (g + 1) vw X ∧ RB W (.slice x5 XL c5) X ∧ Us W a n xs ∧ Us W a9 n xs ∧ Below w.heap.size w W) W → Calls Try.prog 23 #[.pointer (some ⟨g, 0, none⟩)] W (Owned W X)) := Lib.hid (fun W h => bytes_wr g (g + 1) vw X W h.2.2.2.1 (by have := HX8.out.2; omega))
  have HC3 : Hid (∀ W, (fun W => W.heap[w.heap.size]? = some (.cells #[.int .i64 (c : Int), .int .i64 tm, .int .u64 (n1 : Int), .int .i64 (n2 : Int), .int .i64 (n3 : Int), .int .i64 (n4 : Int), .int .u64 (n5 : Int), .int .i64 (n6 : Int), .int .i64 (n7 : Int), .int .i64 (n8 : Int), .int .i64 (n9 : Int), .slice a n ca, .int .u64 (nt : Int), .int .i64 (de : Int)] 28 (0, 0)) ∧ W.heap[T9]? = some (.cells #[.int .i64 (c : Int), .int .i64 tm, .int .u64 (n1 : Int), .int .i64 (n2 : Int), .int .i64 (n3 : Int), .int .i64 (n4 : Int), .int .u64 (n5 : Int), .int .i64 (n6 : Int), .int .i64 (n7 : Int), .int .i64 (n8 : Int), .int .i64 (n9 : Int), .slice a9 n c9, .int .u64 (nt : Int), .int .i64 (de : Int)] 28 (0, 0)) ∧ RR W rb more false ∧ WR W g (g + 1) vw X ∧ RB W (.slice x5 XL c5) X ∧ Us W a n xs ∧ Us W a9 n xs ∧ Below w.heap.size w W) W → Calls Try.prog 13 #[.agg #[.int .i64 (c : Int), .int .i64 tm, .int .u64 (n1 : Int), .int .i64 (n2 : Int), .int .i64 (n3 : Int), .int .i64 (n4 : Int), .int .u64 (n5 : Int), .int .i64 (n6 : Int), .int .i64 (n7 : Int), .int .i64 (n8 : Int), .int .i64 (n9 : Int), .slice a9 n c9, .int .u64 (nt : Int), .int .i64 (de : Int)], .agg #[.int .i64 (c : Int), .int .i64 tm, .int .u64 (n1 : Int), .int .i64 (n2 : Int), .int .i64 (n3 : Int), .int .i64 (n4 : Int), .int .u64 (n5 : Int), .int .i64 (n6 : Int), .int .i64 (n7 : Int), .int .i64 (n8 : Int), .int .i64 (n9 : Int), .slice a n ca, .int .u64 (nt : Int), .int .i64 (de : Int)]] W fun e w' => e = .returned (.bool true) ∧ Below W.heap.size W w') := Lib.hid (fun W h => by
    have h := rrep_same c tm n1 n2 n3 n4 n5 n6 n7 n8 n9 a9 n c9 nt de xs c tm n1 n2 n3 n4 n5 n6 n7 n8 n9 a n ca nt de xs W h.2.2.2.2.2.2.1 h.2.2.2.2.2.1
    rw [repEq_refl] at h
    exact h)
  have HC4 : Hid (∀ W, (fun W => W.heap[w.heap.size]? = some (.cells #[.int .i64 (c : Int), .int .i64 tm, .int .u64 (n1 : Int), .int .i64 (n2 : Int), .int .i64 (n3 : Int), .int .i64 (n4 : Int), .int .u64 (n5 : Int), .int .i64 (n6 : Int), .int .i64 (n7 : Int), .int .i64 (n8 : Int), .int .i64 (n9 : Int), .slice a n ca, .int .u64 (nt : Int), .int .i64 (de : Int)] 28 (0, 0)) ∧ W.heap[T9]? = some (.cells #[.int .i64 (c : Int), .int .i64 tm, .int .u64 (n1 : Int), .int .i64 (n2 : Int), .int .i64 (n3 : Int), .int .i64 (n4 : Int), .int .u64 (n5 : Int), .int .i64 (n6 : Int), .int .i64 (n7 : Int), .int .i64 (n8 : Int), .int .i64 (n9 : Int), .slice a9 n c9, .int .u64 (nt : Int), .int .i64 (de : Int)] 28 (0, 0)) ∧ RR W rb more false ∧ WR W g (g + 1) vw X ∧ RB W (.slice x5 XL c5) X ∧ Us W a n xs ∧ Us W a9 n xs ∧ Below w.heap.size w W) W → Calls Try.prog 24 #[.pointer (some ⟨rb, 0, none⟩)] W fun e w' => e = .returned (.int .i64 (m : Int)) ∧ W = w') := Lib.hid (fun W h => by
    have h := left_rd rb more false W h.2.2.1
    rw [HM.out.1] at h
    exact h)
  have HX5 : Hid (∀ W, (fun W => W.heap[w.heap.size]? = some (.cells #[.int .i64 (c : Int), .int .i64 tm, .int .u64 (n1 : Int), .int .i64 (n2 : Int), .int .i64 (n3 : Int), .int .i64 (n4 : Int), .int .u64 (n5 : Int), .int .i64 (n6 : Int), .int .i64 (n7 : Int), .int .i64 (n8 : Int), .int .i64 (n9 : Int), .slice a n ca, .int .u64 (nt : Int), .int .i64 (de : Int)] 28 (0, 0)) ∧ W.heap[T9]? = some (.cells #[.int .i64 (c : Int), .int .i64 tm, .int .u64 (n1 : Int), .int .i64 (n2 : Int), .int .i64 (n3 : Int), .int .i64 (n4 : Int), .int .u64 (n5 : Int), .int .i64 (n6 : Int), .int .i64 (n7 : Int), .int .i64 (n8 : Int), .int .i64 (n9 : Int), .slice a9 n c9, .int .u64 (nt : Int), .int .i64 (de : Int)] 28 (0, 0)) ∧ RR W rb more false ∧ WR W g (g + 1) vw X ∧ RB W (.slice x5 XL c5) X ∧ Us W a n xs ∧ Us W a9 n xs ∧ Below w.heap.size w W) W → RB W (.slice x5 XL c5) X) := Lib.hid (fun W h => h.2.2.2.2.1)
  generalize hS : (fun W : World => W.heap[w.heap.size]? = some (.cells #[.int .i64 (c : Int), .int .i64 tm, .int .u64 (n1 : Int), .int .i64 (n2 : Int), .int .i64 (n3 : Int), .int .i64 (n4 : Int), .int .u64 (n5 : Int), .int .i64 (n6 : Int), .int .i64 (n7 : Int), .int .i64 (n8 : Int), .int .i64 (n9 : Int), .slice a n ca, .int .u64 (nt : Int), .int .i64 (de : Int)] 28 (0, 0)) ∧ W.heap[T9]? = some (.cells #[.int .i64 (c : Int), .int .i64 tm, .int .u64 (n1 : Int), .int .i64 (n2 : Int), .int .i64 (n3 : Int), .int .i64 (n4 : Int), .int .u64 (n5 : Int), .int .i64 (n6 : Int), .int .i64 (n7 : Int), .int .i64 (n8 : Int), .int .i64 (n9 : Int), .slice a9 n c9, .int .u64 (nt : Int), .int .i64 (de : Int)] 28 (0, 0)) ∧ RR W rb more false ∧ WR W g (g + 1) vw X ∧ RB W (.slice x5 XL c5) X ∧ Us W a n xs ∧ Us W a9 n xs ∧ Below w.heap.size w W) = S at HS0 HSD HC1 HC2 HC3 HC4 HX1 HX2 HX5
  have HLA := Lib.hid (yields_rep2 (S := S) HX1.out)
  have HLX := Lib.hid (yields_rep2 (S := S) HX2.out)
  have HSE := Lib.hid hS
  clear hS HRP HVL HXN HX1 HX2
  generalize hA : Value.agg #[.int .i64 (c : Int), .int .i64 tm, .int .u64 (n1 : Int), .int .i64 (n2 : Int), .int .i64 (n3 : Int), .int .i64 (n4 : Int), .int .u64 (n5 : Int), .int .i64 (n6 : Int), .int .i64 (n7 : Int), .int .i64 (n8 : Int), .int .i64 (n9 : Int), .slice a n ca, .int .u64 (nt : Int), .int .i64 (de : Int)] = VA at HC1 HC3 HLA ⊢
  generalize hB : Value.agg #[.int .i64 (c : Int), .int .i64 tm, .int .u64 (n1 : Int), .int .i64 (n2 : Int), .int .i64 (n3 : Int), .int .i64 (n4 : Int), .int .u64 (n5 : Int), .int .i64 (n6 : Int), .int .i64 (n7 : Int), .int .i64 (n8 : Int), .int .i64 (n9 : Int), .slice a9 n c9, .int .u64 (nt : Int), .int .i64 (de : Int)] = VX at HC3 HLX ⊢
  clear hA hB
  refine wp_region_held_drew (S := S) (by kernel_rfl) HS0.out (fun hHeld => ?_)
  clear hHeld
  generalize V3.drew = V4 at HS0 ⊢
  refine wpAnyH_take (i := 0) (oi := { dst := some 51, op := Go.Op.move (Go.Operand.tmp 6), type := 22, pos := "law.go:56", after := #[], guard := none }) (v := ?_) rfl (by kernel_rfl) (by kernel_rfl) (by kernel_rfl) (fun _ _ _ h => h) (Or.inl ⟨by rfl, ?_⟩) HS0.out ?_
  case refine_2 => (intro w1 hS1; clear hS1; go_simp; try with_reducible rfl)
  try simp only [Act.put, List.setIfInBounds_toArray, List.set_cons_zero, List.set_cons_succ]
  refine wpAnyH_take (i := 1) (oi := { dst := some 52, op := Go.Op.binOp Go.BinOp.eql 22 (Go.Operand.tmp 51) (Go.Operand.const (Go.Value.int Go.IntKind.i64 0)) 22, type := 4, pos := "law.go:56", after := #[{ on := 0, ground := Go.Ground.data }], guard := none }) (v := ?_) rfl (by kernel_rfl) (by kernel_rfl) (by kernel_rfl) (fun _ _ _ h => h) (Or.inl ⟨by rfl, ?_⟩) HS0.out ?_
  case refine_2 => (intro w1 hS1; clear hS1; go_simp; try with_reducible rfl)
  try simp only [Act.put, List.setIfInBounds_toArray, List.set_cons_zero, List.set_cons_succ]
  refine wpAnyH_take (i := 2) (oi := { dst := some 53, op := Go.Op.move (Go.Operand.tmp 52), type := 4, pos := "law.go:56", after := #[{ on := 1, ground := Go.Ground.data }], guard := none }) (v := ?_) rfl (by kernel_rfl) (by kernel_rfl) (by kernel_rfl) (fun _ _ _ h => h) (Or.inl ⟨by rfl, ?_⟩) HS0.out ?_
  case refine_2 => (intro w1 hS1; clear hS1; go_simp; try with_reducible rfl)
  try simp only [Act.put, List.setIfInBounds_toArray, List.set_cons_zero, List.set_cons_succ]
  refine wpAnyH_take (i := 3) (oi := { dst := some 54, op := Go.Op.move (Go.Operand.tmp 5), type := 35, pos := "law.go:56", after := #[{ on := 2, ground := Go.Ground.guard }], guard := some (2, true) }) (v := ?_) rfl (by kernel_rfl) (by kernel_rfl) (by kernel_rfl) (fun _ _ _ h => h) (Or.inl ⟨by rfl, ?_⟩) HS0.out ?_
  case refine_2 => (intro w1 hS1; clear hS1; go_simp; try with_reducible rfl)
  try simp only [Act.put, List.setIfInBounds_toArray, List.set_cons_zero, List.set_cons_succ]
  refine wpAnyH_take (i := 4) (oi := { dst := some 55, op := Go.Op.convert 35 9 (Go.Operand.tmp 54), type := 9, pos := "law.go:56", after := #[{ on := 3, ground := Go.Ground.data }, { on := 2, ground := Go.Ground.guard }], guard := some (2, true) }) (v := .string (str X)) rfl (by kernel_rfl) (by kernel_rfl) (by kernel_rfl) (fun _ _ _ h => h) (by exact yields_str (fun W h => HX5.out W h) _ _ _ (by rfl) _ rfl rfl) HS0.out ?_
  try simp only [Act.put, List.setIfInBounds_toArray, List.set_cons_zero, List.set_cons_succ]
  refine wpAnyH_take (i := 5) (oi := { dst := some 56, op := Go.Op.load 28 (Go.Operand.tmp 2), type := 28, pos := "law.go:56", after := #[{ on := 2, ground := Go.Ground.guard }], guard := some (2, true) }) (v := VA) rfl (by kernel_rfl) (by kernel_rfl) (by kernel_rfl) (fun _ _ _ h => h) (by exact HLA.out _ (fun _ h => h) _ _ _ (by rfl) _ rfl rfl) HS0.out ?_
  try simp only [Act.put, List.setIfInBounds_toArray, List.set_cons_zero, List.set_cons_succ]
  refine wpAnyH_ready (rs := [6]) (by kernel_rfl) (by simp) ?_
  refine AllReadyH.cons (o := { dst := some 57, op := Go.Op.call { callee := Go.Callee.value (Go.Operand.func 22), args := #[Go.Operand.tmp 56], argTypes := #[28] }, type := 35, pos := "law.go:56", after := #[{ on := 5, ground := Go.Ground.data }, { on := 2, ground := Go.Ground.chain }, { on := 2, ground := Go.Ground.guard }], guard := some (2, true) }) rfl (fun K hK => ?_) AllReadyH.nil
  go_simp
  refine (HC1.out _ HS0.out).mono ?_
  rintro e V6 ⟨v6, rfl, ho6, hb6⟩
  have HR6 : Hid (RB V6 v6 X) := Lib.hid (ho6.rb HX8.out.1 (by have := HX8.out.2; omega))
  have HS0' := Lib.hid (HSD.out _ HS0.out V6 hb6)
  clear ho6 hb6
  clear HS0
  have HS0 := HS0'
  clear HS0'
  refine hK.out _ _ HS0.out (fun hHeld => ?_)
  refine wpAnyH_more (S' := fun W => S W ∧ RB W v6 X) (fun _ h => h.1) _ _ _ _ ?_
  have HS0' : Hid ((fun W => S W ∧ RB W v6 X) V6) := Lib.hid ⟨HS0.out, HR6.out⟩
  clear HR6
  clear HS0
  have HS0 := HS0'
  clear HS0'
  clear hK K hHeld
  try simp only [Act.put, List.setIfInBounds_toArray, List.set_cons_zero, List.set_cons_succ]
  refine wpAnyH_take (i := 7) (oi := { dst := some 58, op := Go.Op.convert 35 9 (Go.Operand.tmp 57), type := 9, pos := "law.go:56", after := #[{ on := 6, ground := Go.Ground.data }, { on := 2, ground := Go.Ground.guard }], guard := some (2, true) }) (v := .string (str X)) rfl (by kernel_rfl) (by kernel_rfl) (by kernel_rfl) (fun _ _ _ h => h) (by exact yields_str (fun W h => h.2) _ _ _ (by rfl) _ rfl rfl) HS0.out ?_
  try simp only [Act.put, List.setIfInBounds_toArray, List.set_cons_zero, List.set_cons_succ]
  refine wpAnyH_take (i := 8) (oi := { dst := some 59, op := Go.Op.binOp Go.BinOp.eql 9 (Go.Operand.tmp 55) (Go.Operand.tmp 58) 9, type := 4, pos := "law.go:56", after := #[{ on := 4, ground := Go.Ground.data }, { on := 7, ground := Go.Ground.data }, { on := 2, ground := Go.Ground.guard }], guard := some (2, true) }) (v := ?_) rfl (by kernel_rfl) (by kernel_rfl) (by kernel_rfl) (fun _ _ _ h => h) (Or.inl ⟨by rfl, ?_⟩) HS0.out ?_
  case refine_2 => (intro w1 hS1; clear hS1; go_simp; try with_reducible rfl)
  try simp only [Act.put, List.setIfInBounds_toArray, List.set_cons_zero, List.set_cons_succ]
  refine wpAnyH_take (i := 9) (oi := { dst := some 60, op := Go.Op.pick (Go.Operand.tmp 53) (Go.Operand.tmp 59) (Go.Operand.const (Go.Value.bool false)), type := 4, pos := "law.go:56", after := #[{ on := 2, ground := Go.Ground.data }, { on := 8, ground := Go.Ground.data }], guard := none }) (v := ?_) rfl (by kernel_rfl) (by kernel_rfl) (by kernel_rfl) (fun _ _ _ h => h) (Or.inl ⟨by rfl, ?_⟩) HS0.out ?_
  case refine_2 => (intro w1 hS1; clear hS1; go_simp; try with_reducible rfl)
  try simp only [Act.put, List.setIfInBounds_toArray, List.set_cons_zero, List.set_cons_succ]
  refine wpAnyH_take (i := 10) (oi := { dst := some 61, op := Go.Op.move (Go.Operand.tmp 60), type := 4, pos := "law.go:56", after := #[{ on := 9, ground := Go.Ground.data }, { on := 6, ground := Go.Ground.chain }], guard := none }) (v := ?_) rfl (by kernel_rfl) (by kernel_rfl) (by kernel_rfl) (fun _ _ _ h => h) (Or.inl ⟨by rfl, ?_⟩) HS0.out ?_
  case refine_2 => (intro w1 hS1; clear hS1; go_simp; try with_reducible rfl)
  try simp only [Act.put, List.setIfInBounds_toArray, List.set_cons_zero, List.set_cons_succ]
  refine wpAnyH_take (i := 13) (oi := { dst := some 64, op := Go.Op.move (Go.Operand.tmp 5), type := 35, pos := "law.go:56", after := #[{ on := 10, ground := Go.Ground.guard }], guard := some (10, true) }) (v := ?_) rfl (by kernel_rfl) (by kernel_rfl) (by kernel_rfl) (fun _ _ _ h => h) (Or.inl ⟨by rfl, ?_⟩) HS0.out ?_
  case refine_2 => (intro w1 hS1; clear hS1; go_simp; try with_reducible rfl)
  try simp only [Act.put, List.setIfInBounds_toArray, List.set_cons_zero, List.set_cons_succ]
  refine wpAnyH_take (i := 14) (oi := { dst := some 65, op := Go.Op.convert 35 9 (Go.Operand.tmp 64), type := 9, pos := "law.go:56", after := #[{ on := 13, ground := Go.Ground.data }, { on := 10, ground := Go.Ground.guard }], guard := some (10, true) }) (v := .string (str X)) rfl (by kernel_rfl) (by kernel_rfl) (by kernel_rfl) (fun _ _ _ h => h) (by exact yields_str (fun W h => HX5.out W h.1) _ _ _ (by rfl) _ rfl rfl) HS0.out ?_
  try simp only [Act.put, List.setIfInBounds_toArray, List.set_cons_zero, List.set_cons_succ]
  refine wpAnyH_ready (rs := [11]) (by kernel_rfl) (by simp) ?_
  refine AllReadyH.cons (o := { dst := some 62, op := Go.Op.call { callee := Go.Callee.value (Go.Operand.func 23), args := #[Go.Operand.tmp 7], argTypes := #[39] }, type := 35, pos := "law.go:56", after := #[{ on := 10, ground := Go.Ground.chain }, { on := 10, ground := Go.Ground.guard }], guard := some (10, true) }) rfl (fun K hK => ?_) AllReadyH.nil
  go_simp
  refine (HC2.out _ HS0.out.1).mono ?_
  rintro e V11 ⟨v11, rfl, ho6, hb6⟩
  have HR6 : Hid (RB V11 v11 X) := Lib.hid (ho6.rb HX8.out.1 (by have := HX8.out.2; omega))
  have HS0' : Hid ((fun W => S W ∧ RB W v6 X) V11) := Lib.hid ⟨HSD.out _ HS0.out.1 V11 hb6, HS0.out.2.kept hb6⟩
  clear ho6 hb6
  clear HS0
  have HS0 := HS0'
  clear HS0'
  refine hK.out _ _ HS0.out (fun hHeld => ?_)
  refine wpAnyH_more (S' := fun W => (S W ∧ RB W v6 X) ∧ RB W v11 X) (fun _ h => h.1) _ _ _ _ ?_
  have HS0' : Hid ((fun W => (S W ∧ RB W v6 X) ∧ RB W v11 X) V11) := Lib.hid ⟨HS0.out, HR6.out⟩
  clear HR6
  clear HS0
  have HS0 := HS0'
  clear HS0'
  clear hK K hHeld
  try simp only [Act.put, List.setIfInBounds_toArray, List.set_cons_zero, List.set_cons_succ]
  refine wpAnyH_take (i := 12) (oi := { dst := some 63, op := Go.Op.convert 35 9 (Go.Operand.tmp 62), type := 9, pos := "law.go:56", after := #[{ on := 11, ground := Go.Ground.data }, { on := 10, ground := Go.Ground.guard }], guard := some (10, true) }) (v := .string (str X)) rfl (by kernel_rfl) (by kernel_rfl) (by kernel_rfl) (fun _ _ _ h => h) (by exact yields_str (fun W h => h.2) _ _ _ (by rfl) _ rfl rfl) HS0.out ?_
  try simp only [Act.put, List.setIfInBounds_toArray, List.set_cons_zero, List.set_cons_succ]
  refine wpAnyH_take (i := 15) (oi := { dst := some 66, op := Go.Op.binOp Go.BinOp.eql 9 (Go.Operand.tmp 63) (Go.Operand.tmp 65) 9, type := 4, pos := "law.go:56", after := #[{ on := 12, ground := Go.Ground.data }, { on := 14, ground := Go.Ground.data }, { on := 10, ground := Go.Ground.guard }], guard := some (10, true) }) (v := ?_) rfl (by kernel_rfl) (by kernel_rfl) (by kernel_rfl) (fun _ _ _ h => h) (Or.inl ⟨by rfl, ?_⟩) HS0.out ?_
  case refine_2 => (intro w1 hS1; clear hS1; go_simp; try with_reducible rfl)
  try simp only [Act.put, List.setIfInBounds_toArray, List.set_cons_zero, List.set_cons_succ]
  refine wpAnyH_take (i := 16) (oi := { dst := some 67, op := Go.Op.pick (Go.Operand.tmp 61) (Go.Operand.tmp 66) (Go.Operand.const (Go.Value.bool false)), type := 4, pos := "law.go:56", after := #[{ on := 10, ground := Go.Ground.data }, { on := 15, ground := Go.Ground.data }], guard := none }) (v := ?_) rfl (by kernel_rfl) (by kernel_rfl) (by kernel_rfl) (fun _ _ _ h => h) (Or.inl ⟨by rfl, ?_⟩) HS0.out ?_
  case refine_2 => (intro w1 hS1; clear hS1; go_simp; try with_reducible rfl)
  try simp only [Act.put, List.setIfInBounds_toArray, List.set_cons_zero, List.set_cons_succ]
  refine wpAnyH_take (i := 17) (oi := { dst := some 68, op := Go.Op.move (Go.Operand.tmp 67), type := 4, pos := "law.go:56", after := #[{ on := 16, ground := Go.Ground.data }, { on := 11, ground := Go.Ground.chain }], guard := none }) (v := ?_) rfl (by kernel_rfl) (by kernel_rfl) (by kernel_rfl) (fun _ _ _ h => h) (Or.inl ⟨by rfl, ?_⟩) HS0.out ?_
  case refine_2 => (intro w1 hS1; clear hS1; go_simp; try with_reducible rfl)
  try simp only [Act.put, List.setIfInBounds_toArray, List.set_cons_zero, List.set_cons_succ]
  refine wpAnyH_take (i := 18) (oi := { dst := some 69, op := Go.Op.move (Go.Operand.tmp 10), type := 4, pos := "law.go:56", after := #[{ on := 17, ground := Go.Ground.guard }], guard := some (17, true) }) (v := ?_) rfl (by kernel_rfl) (by kernel_rfl) (by kernel_rfl) (fun _ _ _ h => h) (Or.inl ⟨by rfl, ?_⟩) HS0.out ?_
  case refine_2 => (intro w1 hS1; clear hS1; go_simp; try with_reducible rfl)
  try simp only [Act.put, List.setIfInBounds_toArray, List.set_cons_zero, List.set_cons_succ]
  refine wpAnyH_take (i := 19) (oi := { dst := some 70, op := Go.Op.pick (Go.Operand.tmp 68) (Go.Operand.tmp 69) (Go.Operand.const (Go.Value.bool false)), type := 4, pos := "law.go:56", after := #[{ on := 17, ground := Go.Ground.data }, { on := 18, ground := Go.Ground.data }], guard := none }) (v := ?_) rfl (by kernel_rfl) (by kernel_rfl) (by kernel_rfl) (fun _ _ _ h => h) (Or.inl ⟨by rfl, ?_⟩) HS0.out ?_
  case refine_2 => (intro w1 hS1; clear hS1; go_simp; try with_reducible rfl)
  try simp only [Act.put, List.setIfInBounds_toArray, List.set_cons_zero, List.set_cons_succ]
  refine wpAnyH_take (i := 20) (oi := { dst := some 71, op := Go.Op.move (Go.Operand.tmp 70), type := 4, pos := "law.go:56", after := #[{ on := 19, ground := Go.Ground.data }, { on := 17, ground := Go.Ground.chain }], guard := none }) (v := ?_) rfl (by kernel_rfl) (by kernel_rfl) (by kernel_rfl) (fun _ _ _ h => h) (Or.inl ⟨by rfl, ?_⟩) HS0.out ?_
  case refine_2 => (intro w1 hS1; clear hS1; go_simp; try with_reducible rfl)
  try simp only [Act.put, List.setIfInBounds_toArray, List.set_cons_zero, List.set_cons_succ]
  refine wpAnyH_take (i := 21) (oi := { dst := some 72, op := Go.Op.load 28 (Go.Operand.tmp 9), type := 28, pos := "law.go:56", after := #[{ on := 20, ground := Go.Ground.guard }], guard := some (20, true) }) (v := VX) rfl (by kernel_rfl) (by kernel_rfl) (by kernel_rfl) (fun _ _ _ h => h) (by exact HLX.out _ (fun _ h => h.1.1) _ _ _ (by rfl) _ rfl rfl) HS0.out ?_
  try simp only [Act.put, List.setIfInBounds_toArray, List.set_cons_zero, List.set_cons_succ]
  refine wpAnyH_take (i := 22) (oi := { dst := some 73, op := Go.Op.load 28 (Go.Operand.tmp 2), type := 28, pos := "law.go:56", after := #[{ on := 20, ground := Go.Ground.guard }], guard := some (20, true) }) (v := VA) rfl (by kernel_rfl) (by kernel_rfl) (by kernel_rfl) (fun _ _ _ h => h) (by exact HLA.out _ (fun _ h => h.1.1) _ _ _ (by rfl) _ rfl rfl) HS0.out ?_
  try simp only [Act.put, List.setIfInBounds_toArray, List.set_cons_zero, List.set_cons_succ]
  refine wpAnyH_ready (rs := [23]) (by kernel_rfl) (by simp) ?_
  refine AllReadyH.cons (o := { dst := some 74, op := Go.Op.call { callee := Go.Callee.value (Go.Operand.func 13), args := #[Go.Operand.tmp 72, Go.Operand.tmp 73], argTypes := #[28, 28] }, type := 4, pos := "law.go:56", after := #[{ on := 21, ground := Go.Ground.data }, { on := 22, ground := Go.Ground.data }, { on := 20, ground := Go.Ground.chain }, { on := 20, ground := Go.Ground.guard }], guard := some (20, true) }) rfl (fun K hK => ?_) AllReadyH.nil
  go_simp
  refine (HC3.out _ HS0.out.1.1).mono ?_
  rintro e V23 ⟨rfl, hb6⟩
  have HS0' : Hid ((fun W => (S W ∧ RB W v6 X) ∧ RB W v11 X) V23) := Lib.hid ⟨⟨HSD.out _ HS0.out.1.1 V23 hb6, HS0.out.1.2.kept hb6⟩, HS0.out.2.kept hb6⟩
  clear hb6
  clear HS0
  have HS0 := HS0'
  clear HS0'
  refine hK.out _ _ HS0.out (fun hHeld => ?_)
  clear hK K hHeld
  try simp only [Act.put, List.setIfInBounds_toArray, List.set_cons_zero, List.set_cons_succ]
  refine wpAnyH_take (i := 24) (oi := { dst := some 75, op := Go.Op.pick (Go.Operand.tmp 71) (Go.Operand.tmp 74) (Go.Operand.const (Go.Value.bool false)), type := 4, pos := "law.go:56", after := #[{ on := 20, ground := Go.Ground.data }, { on := 23, ground := Go.Ground.data }], guard := none }) (v := ?_) rfl (by kernel_rfl) (by kernel_rfl) (by kernel_rfl) (fun _ _ _ h => h) (Or.inl ⟨by rfl, ?_⟩) HS0.out ?_
  case refine_2 => (intro w1 hS1; clear hS1; go_simp; try with_reducible rfl)
  try simp only [Act.put, List.setIfInBounds_toArray, List.set_cons_zero, List.set_cons_succ]
  refine wpAnyH_take (i := 25) (oi := { dst := some 76, op := Go.Op.move (Go.Operand.tmp 75), type := 4, pos := "law.go:56", after := #[{ on := 24, ground := Go.Ground.data }, { on := 23, ground := Go.Ground.chain }], guard := none }) (v := ?_) rfl (by kernel_rfl) (by kernel_rfl) (by kernel_rfl) (fun _ _ _ h => h) (Or.inl ⟨by rfl, ?_⟩) HS0.out ?_
  case refine_2 => (intro w1 hS1; clear hS1; go_simp; try with_reducible rfl)
  try simp only [Act.put, List.setIfInBounds_toArray, List.set_cons_zero, List.set_cons_succ]
  refine wpAnyH_take (i := 26) (oi := { dst := some 77, op := Go.Op.move (Go.Operand.tmp 8), type := 42, pos := "law.go:56", after := #[{ on := 25, ground := Go.Ground.guard }], guard := some (25, true) }) (v := ?_) rfl (by kernel_rfl) (by kernel_rfl) (by kernel_rfl) (fun _ _ _ h => h) (Or.inl ⟨by rfl, ?_⟩) HS0.out ?_
  case refine_2 => (intro w1 hS1; clear hS1; go_simp; try with_reducible rfl)
  try simp only [Act.put, List.setIfInBounds_toArray, List.set_cons_zero, List.set_cons_succ]
  refine wpAnyH_take (i := 28) (oi := { dst := some 79, op := Go.Op.move (Go.Operand.tmp 1), type := 35, pos := "law.go:56", after := #[{ on := 25, ground := Go.Ground.guard }], guard := some (25, true) }) (v := ?_) rfl (by kernel_rfl) (by kernel_rfl) (by kernel_rfl) (fun _ _ _ h => h) (Or.inl ⟨by rfl, ?_⟩) HS0.out ?_
  case refine_2 => (intro w1 hS1; clear hS1; go_simp; try with_reducible rfl)
  try simp only [Act.put, List.setIfInBounds_toArray, List.set_cons_zero, List.set_cons_succ]
  refine wpAnyH_take (i := 29) (oi := { dst := some 80, op := Go.Op.call { callee := Go.Callee.builtin Go.Builtin.len, args := #[Go.Operand.tmp 79], argTypes := #[35] }, type := 3, pos := "law.go:56", after := #[{ on := 28, ground := Go.Ground.data }, { on := 25, ground := Go.Ground.guard }], guard := some (25, true) }) (v := ?_) rfl (by kernel_rfl) (by kernel_rfl) (by kernel_rfl) (fun _ _ _ h => h) (Or.inl ⟨by rfl, ?_⟩) HS0.out ?_
  case refine_2 => (intro w1 hS1; clear hS1; go_simp; try with_reducible rfl)
  try simp only [Act.put, List.setIfInBounds_toArray, List.set_cons_zero, List.set_cons_succ]
  refine wpAnyH_ready (rs := [27]) (by kernel_rfl) (by simp) ?_
  refine AllReadyH.cons (o := { dst := some 78, op := Go.Op.call { callee := Go.Callee.value (Go.Operand.func 24), args := #[Go.Operand.tmp 77], argTypes := #[42] }, type := 3, pos := "law.go:56", after := #[{ on := 26, ground := Go.Ground.data }, { on := 25, ground := Go.Ground.chain }, { on := 25, ground := Go.Ground.guard }], guard := some (25, true) }) rfl (fun K hK => ?_) AllReadyH.nil
  go_simp
  refine (HC4.out _ HS0.out.1.1).mono ?_
  rintro e V27 ⟨rfl, rfl⟩
  refine hK.out _ _ HS0.out (fun hHeld => ?_)
  clear hK K hHeld
  try simp only [Act.put, List.setIfInBounds_toArray, List.set_cons_zero, List.set_cons_succ]
  refine wpAnyH_take (i := 30) (oi := { dst := some 81, op := Go.Op.binOp Go.BinOp.eql 3 (Go.Operand.tmp 78) (Go.Operand.tmp 80) 3, type := 4, pos := "law.go:56", after := #[{ on := 27, ground := Go.Ground.data }, { on := 29, ground := Go.Ground.data }, { on := 25, ground := Go.Ground.guard }], guard := some (25, true) }) (v := ?_) rfl (by kernel_rfl) (by kernel_rfl) (by kernel_rfl) (fun _ _ _ h => h) (Or.inl ⟨by rfl, ?_⟩) HS0.out ?_
  case refine_2 => (intro w1 hS1; clear hS1; go_simp; try with_reducible rfl)
  try simp only [Act.put, List.setIfInBounds_toArray, List.set_cons_zero, List.set_cons_succ]
  refine wpAnyH_take (i := 31) (oi := { dst := some 82, op := Go.Op.pick (Go.Operand.tmp 76) (Go.Operand.tmp 81) (Go.Operand.const (Go.Value.bool false)), type := 4, pos := "law.go:56", after := #[{ on := 25, ground := Go.Ground.data }, { on := 30, ground := Go.Ground.data }], guard := none }) (v := ?_) rfl (by kernel_rfl) (by kernel_rfl) (by kernel_rfl) (fun _ _ _ h => h) (Or.inl ⟨by rfl, ?_⟩) HS0.out ?_
  case refine_2 => (intro w1 hS1; clear hS1; go_simp; try with_reducible rfl)
  try simp only [Act.put, List.setIfInBounds_toArray, List.set_cons_zero, List.set_cons_succ]
  refine wpAnyH_take (i := 32) (oi := { dst := some 83, op := Go.Op.move (Go.Operand.tmp 82), type := 4, pos := "law.go:56", after := #[{ on := 31, ground := Go.Ground.data }, { on := 27, ground := Go.Ground.chain }], guard := none }) (v := ?_) rfl (by kernel_rfl) (by kernel_rfl) (by kernel_rfl) (fun _ _ _ h => h) (Or.inl ⟨by rfl, ?_⟩) HS0.out ?_
  case refine_2 => (intro w1 hS1; clear hS1; go_simp; try with_reducible rfl)
  try simp only [Act.put, List.setIfInBounds_toArray, List.set_cons_zero, List.set_cons_succ]
  refine wpAnyH_ready (rs := [33]) (by kernel_rfl) (by simp) ?_
  refine AllReadyH.cons (o := { dst := some 84, op := Go.Op.call { callee := Go.Callee.value (Go.Operand.func 11), args := #[], argTypes := #[] }, type := 4, pos := "law.go:56", after := #[{ on := 32, ground := Go.Ground.chain }, { on := 32, ground := Go.Ground.guard }], guard := some (32, true) }) rfl (fun K hK => ?_) AllReadyH.nil
  go_simp
  refine (lives19 _).mono ?_
  rintro e V33 ⟨rfl, hb6⟩
  have HS0' : Hid ((fun W => (S W ∧ RB W v6 X) ∧ RB W v11 X) V33) := Lib.hid ⟨⟨HSD.out _ HS0.out.1.1 V33 hb6, HS0.out.1.2.kept hb6⟩, HS0.out.2.kept hb6⟩
  clear hb6
  clear HS0
  have HS0 := HS0'
  clear HS0'
  refine hK.out _ _ HS0.out (fun hHeld => ?_)
  clear hK K hHeld
  try simp only [Act.put, List.setIfInBounds_toArray, List.set_cons_zero, List.set_cons_succ]
  refine wpAnyH_take (i := 34) (oi := { dst := some 85, op := Go.Op.pick (Go.Operand.tmp 83) (Go.Operand.tmp 84) (Go.Operand.const (Go.Value.bool false)), type := 4, pos := "law.go:56", after := #[{ on := 32, ground := Go.Ground.data }, { on := 33, ground := Go.Ground.data }], guard := none }) (v := ?_) rfl (by kernel_rfl) (by kernel_rfl) (by kernel_rfl) (fun _ _ _ h => h) (Or.inl ⟨by rfl, ?_⟩) HS0.out ?_
  case refine_2 => (intro w1 hS1; clear hS1; go_simp; try with_reducible rfl)
  try simp only [Act.put, List.setIfInBounds_toArray, List.set_cons_zero, List.set_cons_succ]
  refine wpAnyH_take (i := 35) (oi := { dst := some 4, op := Go.Op.assign (Go.Operand.tmp 85), type := 4, pos := "law.go:56", after := #[{ on := 34, ground := Go.Ground.data }, { on := 33, ground := Go.Ground.chain }, { on := 0, ground := Go.Ground.phase }, { on := 1, ground := Go.Ground.phase }, { on := 2, ground := Go.Ground.phase }, { on := 3, ground := Go.Ground.phase }, { on := 4, ground := Go.Ground.phase }, { on := 5, ground := Go.Ground.phase }, { on := 6, ground := Go.Ground.phase }, { on := 7, ground := Go.Ground.phase }, { on := 8, ground := Go.Ground.phase }, { on := 9, ground := Go.Ground.phase }, { on := 10, ground := Go.Ground.phase }, { on := 11, ground := Go.Ground.phase }, { on := 12, ground := Go.Ground.phase }, { on := 13, ground := Go.Ground.phase }, { on := 14, ground := Go.Ground.phase }, { on := 15, ground := Go.Ground.phase }, { on := 16, ground := Go.Ground.phase }, { on := 17, ground := Go.Ground.phase }, { on := 18, ground := Go.Ground.phase }, { on := 19, ground := Go.Ground.phase }, { on := 20, ground := Go.Ground.phase }, { on := 21, ground := Go.Ground.phase }, { on := 22, ground := Go.Ground.phase }, { on := 23, ground := Go.Ground.phase }, { on := 24, ground := Go.Ground.phase }, { on := 25, ground := Go.Ground.phase }, { on := 26, ground := Go.Ground.phase }, { on := 27, ground := Go.Ground.phase }, { on := 28, ground := Go.Ground.phase }, { on := 29, ground := Go.Ground.phase }, { on := 30, ground := Go.Ground.phase }, { on := 31, ground := Go.Ground.phase }, { on := 32, ground := Go.Ground.phase }, { on := 33, ground := Go.Ground.phase }, { on := 34, ground := Go.Ground.phase }], guard := none }) (v := ?_) rfl (by kernel_rfl) (by kernel_rfl) (by kernel_rfl) (fun _ _ _ h => h) (Or.inl ⟨by rfl, ?_⟩) HS0.out ?_
  case refine_2 => (intro w1 hS1; clear hS1; go_simp; try with_reducible rfl)
  try simp only [Act.put, List.setIfInBounds_toArray, List.set_cons_zero, List.set_cons_succ]
  refine wpAnyH_done (by kernel_rfl) ?_ _
  have hS := HSE.out
  subst hS
  go_wp2_with fail
  go_ret
  exact ⟨rfl, HS0.out.1.1.2.2.2.2.2.2.2⟩
/- Replies: the law of writing, from its cases. -/
open Go.RowKit
set_option maxRecDepth 100000 in
set_option maxHeartbeats 8000000 in
theorem writes_walk (cd tm id cn st lv ge fr lf du tl : Int) (a : Option Addr) (n ca : Nat) (nt de : Int) (xs : List Nat) (b : Option Addr) (m cb : Nat) (more : List Nat) (w : World) (h : ReplyIn w id cn st lv ge fr lf du tl tm nt a n xs) (hb : BSc cb w b m more) (hown : ∀ k, w.heap.size ≤ k → (Value.slice b m cb).ownBlock ≠ some k) :
    Calls Try.prog 4 #[repV cd tm id cn st lv ge fr lf du tl a n ca nt de, .slice b m cb] w fun e w' => e = .returned (.bool true) ∧ Below w.heap.size w w' := by
  obtain ⟨hU, hF, htm, hid, hge, hfr, hnt⟩ := h
  by_cases hl : n ≤ 200 ∧ m ≤ 1000
  case neg => exact writes_skip cd tm id cn st lv ge fr lf du tl a n ca nt de b m cb w hl
  cases hs : repS cd tm id cn st lv ge fr lf du tl n de with
  | false => exact writes_no cd tm id cn st lv ge fr lf du tl a n ca nt de b m cb w hl.1 hl.2 hfr hs
  | true =>
    have h0 := hs
    unfold repS at h0
    simp only [Bool.and_eq_true, Bool.or_eq_true, decide_eq_true_eq] at h0
    obtain ⟨hc, ht, hk, hn, hd⟩ := h0
    unfold rngB at hc ht hd
    simp only [Bool.and_eq_true, decide_eq_true_eq] at hc ht hd
    obtain ⟨c, rfl⟩ : ∃ c : Nat, cd = (c : Int) := ⟨cd.toNat, by omega⟩
    obtain ⟨d, rfl⟩ : ∃ d : Nat, de = (d : Int) := ⟨de.toNat, by omega⟩
    obtain ⟨t, rfl⟩ : ∃ t : Nat, nt = (t : Int) := ⟨nt.toNat, by omega⟩
    have key : ∃ n1 n2 n3 n4 n5 n6 n7 n8 n9 : Nat, id = n1 ∧ cn = n2 ∧ st = n3 ∧ lv = n4 ∧ ge = n5 ∧ fr = n6 ∧ lf = n7 ∧ du = n8 ∧ tl = n9 ∧ TkS n1 n2 n3 n4 n5 n6 n7 n8 n9 ∧ n1 < 18446744073709551616 ∧ n2 < 9223372036854775808 ∧ n3 < 9223372036854775808 ∧ n4 < 9223372036854775808 ∧ n5 < 18446744073709551616 ∧ n6 < 9223372036854775808 ∧ n7 < 9223372036854775808 ∧ n8 < 9223372036854775808 ∧ n9 < 9223372036854775808 := by
      rcases hk with hk | hk
      · unfold noT at hk
        obtain ⟨rfl, rfl, rfl, rfl, rfl, rfl, rfl, rfl, rfl⟩ := (tEq_iff _ _ _ _ _ _ _ _ _ _ _ _ _ _ _ _ _ _).1 hk
        exact ⟨0, 0, 0, 0, 0, 0, 0, 0, 0, rfl, rfl, rfl, rfl, rfl, rfl, rfl, rfl, rfl, Or.inl ⟨rfl, rfl, rfl, rfl, rfl, rfl, rfl, rfl, rfl⟩, by decide, by decide, by decide, by decide, by decide, by decide, by decide, by decide, by decide⟩
      · obtain ⟨n1, n2, n3, n4, n5, n6, n7, n8, n9, rfl, rfl, rfl, rfl, rfl, rfl, rfl, rfl, rfl, b1, b2, b3, b4, b5, b6, b7, b8, b9⟩ := sound_nat hk hid hge
        exact ⟨n1, n2, n3, n4, n5, n6, n7, n8, n9, rfl, rfl, rfl, rfl, rfl, rfl, rfl, rfl, rfl, Or.inr ⟨hk, b1, b2, b3, b4, b5, b6, b7, b8, b9⟩, by omega, by omega, by omega, by omega, by omega, by omega, by omega, by omega, by omega⟩
    obtain ⟨n1, n2, n3, n4, n5, n6, n7, n8, n9, rfl, rfl, rfl, rfl, rfl, rfl, rfl, rfl, rfl, hT, b1, b2, b3, b4, b5, b6, b7, b8, b9⟩ := key
    exact writes_yes c tm n1 n2 n3 n4 n5 n6 n7 n8 n9 a n ca xs t d b m cb more w hn (by omega) (by omega) (by omega) hT b1 b2 b3 b4 b5 b6 b7 b8 b9 (by omega) (by omega) hU hF (hb.2 (by omega)) hb.1 hl.2 hown hs
end Go.Proofs.Ytnhaakdjijjinaa
