/- The reference's disk: rows of files that are the same. -/
import Derived.Test.YthkjjpkipeeimaaDrN
import Derived.Laws.StructEq
import Derived.Deep.LoopGhost
import Derived.Deep.QuietTactic
import Derived.BigQuiet
namespace Go.Proofs.Ythkjjpkipeeimaa
open Go.RowKit Go.Maps
theorem rf_struct : Try.prog.underlying 45 = some (.struct (Try.prog.fieldsOf 45)) := by kernel_rfl
theorem rf_held : Try.prog.stoodInHeld 45 = false := by kernel_rfl
theorem rf_guard : Try.prog.eqGuardType Try.prog.depth 45 = false := by kernel_rfl
theorem guard_rf (op : BinOp) (x y : Operand) (xs ys : Array Value) (w : World) : (eqGuard op 45 x y (.agg xs) (.agg ys)).run Try.prog w = .ok () w := run_eqGuard_agg w op _ x y xs ys rf_guard
set_option maxRecDepth 100000 in
theorem eq_rf (s1 s2 : ByteArray) (k : Int) (w : World) : (Op.equalIn 10000 45 (.agg #[.string s1, .string s2, .int .i64 k]) (.agg #[.string s1, .string s2, .int .i64 k])).run Try.prog w = .ok true w := by
  rw [run_equalIn_agg w 9999 _ _ _ rf_struct rf_held]
  have h : Try.prog.underlying 9 = some .string := Try.underlying9
  have h' : Try.prog.underlying 3 = some (.int .i64) := Try.underlying3
  simp [Op.eqFields, go_sem, h, h', Try.underlying45]
theorem neq_rf (p : Nm × Fl) (w : World) : (binOp .neq 45 (.agg #[encStr p.1, .string (str p.2.all), .int .i64 (p.2.kept : Int)]) (.agg #[encStr p.1, .string (str p.2.all), .int .i64 (p.2.kept : Int)])).run Try.prog w = .ok (.bool false) w := by
  rw [run_neq_struct]
  show ((Op.equalIn 10000 45 (.agg #[.string ⟨p.1.toArray⟩, .string (str p.2.all), .int .i64 (p.2.kept : Int)]) (.agg #[.string ⟨p.1.toArray⟩, .string (str p.2.all), .int .i64 (p.2.kept : Int)])).run Try.prog w).andThen _ = _
  rw [eq_rf]
  rfl
theorem FRow.drewN {w : World} {a : Option Addr} {L : Ft} (h : FRow w a L) (q : Nat) : FRow (w.drewN q) a L := fun i hi => by
  obtain ⟨b, o, e, h1, h2, h3, h4⟩ := h i hi
  exact ⟨b, o, e, by simpa using h1, h2, h3, h4⟩
set_option maxRecDepth 100000 in
set_option maxHeartbeats 8000000 in
theorem rsame_yes (a a' : Option Addr) (c c' : Nat) (L : Ft) (w : World) (h : FRow w a L) (h' : FRow w a' L) (hl : L.length ≤ 1000) : Calls Try.prog 22 #[.slice a L.length c, .slice a' L.length c'] w fun e w' => e = .returned (.bool true) ∧ Below w.heap.size w w' := by
  obtain ⟨ln, hln⟩ : ∃ ln, L.length = ln := ⟨_, rfl⟩
  have HLN := Lib.hid hln
  have HR := Lib.hid h
  have HR' := Lib.hid h'
  have HL := Lib.hid hl
  rw [hln]
  clear h h' hl hln
  go_enter Try.func22, Try.ntmps22
  go_wp2_with fail
  go_loopg [5] ln (fun kx s5 wr => ∃ i : Nat, s5 = .int .i64 i ∧ i ≤ ln ∧ ln - i ≤ kx ∧ Hid (Below w.heap.size w wr))
  case atStart => exact ⟨0, rfl, by omega, by omega, Lib.hid (Below.refl _ _)⟩
  case round =>
    obtain ⟨i, rfl, hi, hk, HB⟩ := hrel
    obtain ⟨w9, rfl⟩ : ∃ W, W = wr := ⟨_, rfl⟩
    by_cases hlt : i < ln
    · have hltz : (i : Int) < (ln : Int) := by omega
      have hi0 : (0 : Int) ≤ (i : Int) := by omega
      have hiL : i < L.length := by rw [HLN.out]; exact hlt
      obtain ⟨b, o, rfl, -, k0, k1, k2⟩ := (HR.out.below HB.out) i hiL
      obtain ⟨b', o', rfl, -, k0', k1', k2'⟩ := (HR'.out.below HB.out) i hiL
      obtain ⟨p, hp⟩ : ∃ p, L[i] = p := ⟨_, rfl⟩
      rw [hp] at k0 k1 k2 k0' k1' k2'
      have hne := neq_rf p
      have hgd := guard_rf
      have HWI : Hid (wrap64 ((i : Int) + 1) = (i : Int) + 1) := Lib.hid (IntWalk.wrap64_in _ (by have := HL.out; have := HLN.out; omega))
      clear hp hiL
      go_wp2_with fail
      go_region
      go_wp2_with fail
      go_roundg (ln - (i + 1))
      case measure => omega
      case rel => exact ⟨i + 1, by rw [HWI.out]; rfl, by omega, by omega, Lib.hid HB.out.drew⟩
    · have hltz : ¬ (i : Int) < (ln : Int) := by omega
      obtain rfl : i = ln := by omega
      go_wp2_with fail
      go_ret
      exact ⟨rfl, HB.out⟩
end Go.Proofs.Ythkjjpkipeeimaa
