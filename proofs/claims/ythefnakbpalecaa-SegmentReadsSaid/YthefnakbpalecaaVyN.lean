/- The vow: a state that nobody kept; boxes of two and of three. -/
import Derived.Test.YthefnakbpalecaaMaK
import Derived.Deep.DeepCutAuto
namespace Go.Proofs.Ythefnakbpalecaa
open Go.RowKit
theorem two_rd {w : World} {N : Nat} {x0 x1 : Value} {t : TypeId} (h : w.heap[N]? = some (.cells #[x0, x1] t (0, 0))) : w.cell? ⟨N, 0, none⟩ = some x0 ∧ w.cell? ⟨N, 1, none⟩ = some x1 := by
  refine ⟨?_, ?_⟩ <;> simp [World.cell?, h]
theorem three_rd {w : World} {N : Nat} {x0 x1 x2 : Value} {t : TypeId} (h : w.heap[N]? = some (.cells #[x0, x1, x2] t (0, 0))) : w.cell? ⟨N, 0, none⟩ = some x0 ∧ w.cell? ⟨N, 1, none⟩ = some x1 ∧ w.cell? ⟨N, 2, none⟩ = some x2 := by
  refine ⟨?_, ?_, ?_⟩ <;> simp [World.cell?, h]
theorem vs_info : (Try.prog.info? 48).map (·.size) = some 2 := by kernel_rfl
theorem vs_res {fn : Func} {p : Nat} (h : fn.results = #[.cell p 48]) (tmps : Array Value) (w : World) (N : Nat) (x0 x1 : Value) (hp : tmps.getD p undef = .pointer (some ⟨N, 0, none⟩)) (h0 : w.cell? ⟨N, 0, none⟩ = some x0) (h1 : w.cell? ⟨N, 1, none⟩ = some x1) : (results fn tmps).run Try.prog w = .ok (.agg #[x0, x1]) w := by
  have hR : w.rangeAt N 0 [x0, x1] := fun j u hj => by
    rcases j with _ | _ | j
    · injection hj with hj; subst hj; exact h0
    · injection hj with hj; subst hj; exact h1
    · cases hj
  have hl := run_loadVar_mid w N 0 _ [x0, x1] _ hR Try.underlying48 rfl vs_info
  have hp' : tmps[p]?.getD undef = .pointer (some ⟨N, 0, none⟩) := by simpa using hp
  simp [results, h, hp', asAddr, hl]
set_option maxRecDepth 100000 in
theorem vnone_any (w : World) : Calls Try.prog 80 #[] w fun e w' => e = .returned (.agg #[.int .u64 0, .int .i64 (-1)]) ∧ Below w.heap.size w w' := by
  obtain ⟨B1, s1, -⟩ := box1 w #[.int .u64 0, .int .i64 0] 48
  obtain ⟨p0, p1⟩ := two_rd s1
  have HB := Lib.hid B1
  have HS1 := Lib.hid s1
  clear B1 s1
  go_enter Try.func80, Try.ntmps80
  go_upto_region 1 with fail
  obtain ⟨N, hN⟩ : ∃ N, w.heap.size = N := ⟨_, rfl⟩
  have HN := Lib.hid hN
  rw [hN] at p0 p1 HS1
  try rw [hN]
  clear hN
  generalize w.alloc (.cells #[.int .u64 0, .int .i64 0] 48) = w1 at p0 p1 HS1 HB ⊢
  have f1 : ∀ o, w1.frozen? ⟨N, o, none⟩ = false := fun o => by simp [World.frozen?, HS1.out]
  go_wp2_with fail
  refine bodyPost_ret (vs_res rfl _ _ N (.int .u64 0) (.int .i64 (-1)) rfl (by go_simp) (by go_simp)) rfl ?_
  have hN := HN.out
  refine ⟨rfl, ?_⟩
  exact below_two (below_two (HB.out) (by omega) _ _) (by omega) _ _
end Go.Proofs.Ythefnakbpalecaa
