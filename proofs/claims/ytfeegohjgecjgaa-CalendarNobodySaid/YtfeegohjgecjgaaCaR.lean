/- Rest. -/
import Derived.Test.YtfeegohjgecjgaaCaF
namespace Go.Proofs.Ytfeegohjgecjgaa
open Go.RowKit
set_option maxRecDepth 100000 in
set_option maxHeartbeats 4000000 in
theorem rest_ok {L : Loc} {D : Cal} {w : World} (h : Ck L D w) (hd : D.ok) (s b t : Int) (s0 : 0 ≤ s) (st : s ≤ t) (t1 : t ≤ 1125899906842624) (b0 : 0 ≤ b) (b1 : b ≤ 9223372036854775807) :
    Calls Try.prog 44 #[.pointer (some ⟨L.K, 0, none⟩), .int .i64 s, .int .i64 b, .int .i64 t] w (Asks L D (.tuple #[.int .i64 (max 0 (b - (D.g t - D.g s))), .int .i64 0]) w) := by
  have hcr := ccreated_yes h
  have hel := elapsed_ok h hd s t s0 st t1
  have g1 := D.g_mono s0 st
  have g2 := D.g_lip s0 st
  obtain ⟨q, eq⟩ : ∃ q, D.g t - D.g s = q := ⟨_, rfl⟩
  rw [eq] at hel ⊢
  have q0 : 0 ≤ q := by omega
  have q1 : q ≤ 1125899906842624 := by omega
  have e1 : IntKind.i64.wrap (b - q) = b - q := IntWalk.i64_in _ (by omega)
  have d1 : decide (b < 0) = false := decide_eq_false (by omega)
  clear eq g1 g2 h hd
  go_enter Try.func44, Try.ntmps44
  go_wp2_with fail
  refine hcr.mono ?_
  rintro e w1 ⟨rfl, rfl⟩
  clear hcr
  go_wp2_with fail
  refine hel.mono ?_
  rintro e w2 ⟨rfl, hC, ho⟩
  have HR := Lib.hid (And.intro hC ho)
  clear hel hC ho
  go_wp2_with fail
  go_ret2
  exact ⟨rfl, HR.out.1, HR.out.2⟩
set_option maxRecDepth 100000 in
set_option maxHeartbeats 4000000 in
theorem rest_arg {L : Loc} {D : Cal} {w : World} (h : Ck L D w) (s b t : Int) (b0 : b < 0) :
    Calls Try.prog 44 #[.pointer (some ⟨L.K, 0, none⟩), .int .i64 s, .int .i64 b, .int .i64 t] w fun e w' => e = .returned (.tuple #[.int .i64 0, .int .i64 2]) ∧ Below w.heap.size w w' := by
  have hcr := ccreated_yes h
  have d1 : decide (b < 0) = true := decide_eq_true b0
  clear h
  go_enter Try.func44, Try.ntmps44
  go_wp2_with fail
  refine hcr.mono ?_
  rintro e w1 ⟨rfl, rfl⟩
  clear hcr
  go_wp2_with fail
  go_ret2
  exact ⟨rfl, Below.refl _ _⟩
set_option maxRecDepth 100000 in
set_option maxHeartbeats 4000000 in
theorem rest_bad {L : Loc} {D : Cal} {w : World} (h : Ck L D w) (s b t : Int) (b0 : ¬ b < 0) (hb : ¬ (instB s = true ∧ instB t = true ∧ s ≤ t)) :
    Calls Try.prog 44 #[.pointer (some ⟨L.K, 0, none⟩), .int .i64 s, .int .i64 b, .int .i64 t] w fun e w' => e = .returned (.tuple #[.int .i64 0, .int .i64 2]) ∧ Below w.heap.size w w' := by
  have hcr := ccreated_yes h
  have hel := elapsed_bad h s t hb
  have d1 : decide (b < 0) = false := decide_eq_false b0
  clear h hb
  go_enter Try.func44, Try.ntmps44
  go_wp2_with fail
  refine hcr.mono ?_
  rintro e w1 ⟨rfl, rfl⟩
  clear hcr
  go_wp2_with fail
  refine hel.mono ?_
  rintro e w2 ⟨rfl, hb2⟩
  have HB := Lib.hid hb2
  clear hel hb2
  go_wp2_with fail
  go_ret2
  exact ⟨rfl, HB.out⟩
set_option maxRecDepth 100000 in
set_option maxHeartbeats 4000000 in
theorem rest_none (p : Option Addr) (w : World) (s b t : Int) (hcr : Calls Try.prog 58 #[.pointer p] w fun e w' => e = .returned (.bool false) ∧ w = w') :
    Calls Try.prog 44 #[.pointer p, .int .i64 s, .int .i64 b, .int .i64 t] w fun e w' => e = .returned (.tuple #[.int .i64 0, .int .i64 1]) ∧ w = w' := by
  go_enter Try.func44, Try.ntmps44
  go_wp2_with fail
  refine hcr.mono ?_
  rintro e w1 ⟨rfl, rfl⟩
  clear hcr
  go_wp2_with fail
  go_ret2
  exact ⟨rfl, rfl⟩
end Go.Proofs.Ytfeegohjgecjgaa
