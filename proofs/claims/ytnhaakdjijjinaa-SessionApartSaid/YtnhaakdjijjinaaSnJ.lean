/- Session: a client is forgotten (Drop). -/
import Derived.Test.YtnhaakdjijjinaaMSa
namespace Go.Proofs.Ytnhaakdjijjinaa
open Go.RowKit Go.Maps Go.ChangeMaps
/-- delete(m, key). -/
theorem VM.del {k t e : TypeId} {w : World} {b c : Nat} {M : Lit → Option Value} (h : VM k w b c M) (K : Keyed Try.prog k) (ht : Try.prog.underlying t = some (.map k e)) {key : Value} {l : Lit} (hk : keyOf Try.prog k key = some l) (ty : TypeId) {M' : Lit → Option Value} (h1 : M' l = none) (h2 : ∀ x, x ≠ l → M' x = M x) :
    ∃ w', (Builtin.delete_ #[t, k] ty #[.map (some b), key]).run Try.prog w = .ok (.tuple #[]) w' ∧ VM k w' b (if (M l).isSome then c - 1 else c) M' ∧ w.grownBy w' (some b) := by
  obtain ⟨D, hO, hs, hM⟩ := h
  obtain ⟨w', hrun, hO', ht'⟩ := hO.drop K ht hk ty
  have hd := Maps.size_del (k := l) (hO.tidy K)
  have hcs : Maps.size (D.del l) = if (M l).isSome then c - 1 else c := by
    have hi := hM l
    cases e : M l with
    | none => rw [e] at hi; simp only at hi; rw [hi] at hd; simp at hd ⊢; omega
    | some p => rw [e] at hi; simp only at hi; rw [hi.1] at hd; simp at hd ⊢; omega
  have hg : w.grownBy w' (some b) := by
    obtain ⟨es, cl, es', cl', hb, rfl⟩ := ht'
    exact ⟨rfl, rfl, rfl, by simp [setBlock], fun i _ hi => heap_setBlock_other hb _ (fun e => hi (by rw [e]))⟩
  refine ⟨w', hrun, ⟨D.del l, ?_, hcs, ?_⟩, hg⟩
  · rw [← hcs]; exact VM.tight hO'
  · intro x
    by_cases hx : x = l
    · subst hx; rw [h1]; exact Maps.has_del_same
    · rw [h2 x hx]
      have hi := hM x
      rw [Maps.has_del_other hx]
      cases e : M x with
      | none => rw [e] at hi; exact hi
      | some p => rw [e] at hi; exact ⟨hi.1, fun z => by rw [Maps.atKey_del_other hx]; exact hi.2 z⟩
def dnC (M : Lit → Option Value) (l : Lit) (c : Nat) : Nat := if (M l).isSome then c - 1 else c
set_option maxRecDepth 100000 in
set_option maxHeartbeats 8000000 in
theorem drop_no (T mb c : Nat) (M : Lit → Option Value) (cl : Int) (cd tm id cn st lv ge fr lf du tl : Int) (a : Option Addr) (n ca : Nat) (nt de : Int) (w : World) (h : Tab w T mb c M) (hcl : 0 ≤ cl ∧ cl < 18446744073709551616) (hv : (M (.int .u64 cl)).getD (.agg #[.int .u64 0, .int .i64 0, .int .i64 0, .int .u64 0, .int .i64 0, .int .i64 0, .int .i64 0, .int .u64 0, .int .i64 0, .int .i64 0, .int .i64 0, .int .i64 0, .slice none 0 0, .int .u64 0, .int .i64 0]) = .agg #[.int .u64 0, .int .i64 cd, .int .i64 tm, .int .u64 id, .int .i64 cn, .int .i64 st, .int .i64 lv, .int .u64 ge, .int .i64 fr, .int .i64 lf, .int .i64 du, .int .i64 tl, .slice a n ca, .int .u64 nt, .int .i64 de]) :
    Calls Try.prog 40 #[.pointer (some ⟨T, 0, none⟩), .int .u64 cl] w fun e w' => e = .returned (.bool false) ∧ Below w.heap.size w w' := by
  have HL := Lib.hid (lastq_any T mb c M cl 0 cd tm id cn st lv ge fr lf du tl a n ca nt de w h hcl hv)
  clear h hv
  go_enter Try.func40, Try.ntmps40
  go_wp2_with fail
  refine HL.out.mono ?_
  rintro e w1 ⟨rfl, hb⟩
  have HB := Lib.hid hb
  clear hb HL
  go_wp2_with fail
  go_ret
  exact ⟨rfl, HB.out⟩
set_option maxRecDepth 100000 in
set_option maxHeartbeats 8000000 in
theorem drop_yes (T mb c : Nat) (M : Lit → Option Value) (cl q : Int) (cd tm id cn st lv ge fr lf du tl : Int) (a : Option Addr) (n ca : Nat) (nt de : Int) (w : World) (h : Tab w T mb c M) (hcl : 0 ≤ cl ∧ cl < 18446744073709551616) (hv : (M (.int .u64 cl)).getD (.agg #[.int .u64 0, .int .i64 0, .int .i64 0, .int .u64 0, .int .i64 0, .int .i64 0, .int .i64 0, .int .u64 0, .int .i64 0, .int .i64 0, .int .i64 0, .int .i64 0, .slice none 0 0, .int .u64 0, .int .i64 0]) = .agg #[.int .u64 q, .int .i64 cd, .int .i64 tm, .int .u64 id, .int .i64 cn, .int .i64 st, .int .i64 lv, .int .u64 ge, .int .i64 fr, .int .i64 lf, .int .i64 du, .int .i64 tl, .slice a n ca, .int .u64 nt, .int .i64 de]) (hq : q ≠ 0) {M' : Lit → Option Value} (h1 : M' (.int .u64 cl) = none) (h2 : ∀ x, x ≠ .int .u64 cl → M' x = M x) :
    Calls Try.prog 40 #[.pointer (some ⟨T, 0, none⟩), .int .u64 cl] w fun e w' => e = .returned (.bool true) ∧ Tab w' T mb (dnC M (.int .u64 cl) c) M' ∧ w.grownBy w' (some mb) := by
  have HL := Lib.hid (lastq_any T mb c M cl q cd tm id cn st lv ge fr lf du tl a n ca nt de w h hcl hv)
  have HT := Lib.hid h
  have d1 : decide (q = 0) = false := decide_eq_false hq
  have d2 : (q == 0) = false := by simpa using hq
  have HM := Lib.hid (And.intro h1 h2)
  clear h hv
  go_enter Try.func40, Try.ntmps40
  go_wp2_with fail
  refine HL.out.mono ?_
  rintro e w1 ⟨rfl, hb⟩
  have HB := Lib.hid hb
  have HT1 := Lib.hid (HT.out.kept hb)
  obtain ⟨w2, hrun, hv2, hg⟩ := HT1.out.2.del keyedU rq_und (keyU hcl) 0 HM.out.1 HM.out.2
  have c0 := one_at HT1.out.1
  have HF : Hid (Tab w2 T mb (dnC M (.int .u64 cl) c) M') := Lib.hid ⟨(hg.block T (ex_lt HT1.out.1) (by intro e; injection e with e; exact HT1.out.ne e)).trans HT1.out.1, hv2⟩
  have HG : Hid (w.grownBy w2 (some mb)) := Lib.hid ⟨hg.os.trans hb.os, hg.tape.trans hb.tape, hg.output.trans hb.output, Nat.le_trans hb.size hg.size, fun k hk hr => (hg.block k (Nat.lt_of_lt_of_le hk hb.size) hr).trans (hb.block k hk)⟩
  clear hb HL hv2 hg HB
  go_wp2_with fail
  go_ret
  exact ⟨rfl, HF.out, HG.out⟩
end Go.Proofs.Ytnhaakdjijjinaa
