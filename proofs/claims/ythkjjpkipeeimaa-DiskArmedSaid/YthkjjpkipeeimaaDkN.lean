/- The disk: Down, Steps, Arm, Boot, Resize. -/
import Derived.Test.YthkjjpkipeeimaaDkM
namespace Go.Proofs.Ythkjjpkipeeimaa
open Go.RowKit Go.Maps
section
variable {S : Nat → Prop} {w : World} {B m mt : Nat} {D : Dd} {M : Lit → Option Value} {V : Nm → Value}
theorem ddown_any (h : DKx S w B m mt D M V) : Calls Try.prog 18 #[.pointer (some ⟨B, 0, none⟩)] w fun e w' => e = .returned (.bool D.down) ∧ w = w' := by
  have H := Lib.hid h
  obtain ⟨-, -, -, c3, -⟩ := h.at
  clear h
  go_enter Try.func18, Try.ntmps18
  go_wp2_with fail
  refine (dcreated_yes H.out).mono ?_
  rintro e w1 ⟨rfl, rfl⟩
  go_wp2_with fail
  go_ret
  exact ⟨rfl, rfl⟩
theorem dsteps_any (h : DKx S w B m mt D M V) : Calls Try.prog 21 #[.pointer (some ⟨B, 0, none⟩)] w fun e w' => e = .returned (.int .u64 (D.st : Int)) ∧ w = w' := by
  have H := Lib.hid h
  obtain ⟨-, -, c2, -⟩ := h.at
  clear h
  go_enter Try.func21, Try.ntmps21
  go_wp2_with fail
  refine (dcreated_yes H.out).mono ?_
  rintro e w1 ⟨rfl, rfl⟩
  go_wp2_with fail
  refine (get_in mt [(D.st : Int)] 0 (D.st : Int) w H.out.met (by simp) rfl).mono ?_
  rintro e w1 ⟨rfl, rfl⟩
  go_wp2_with fail
  go_ret
  exact ⟨rfl, rfl⟩
def bootD (D : Dd) : Dd := ⟨D.room, D.fs, D.st, false, false, D.after⟩
theorem dboot (h : DKx S w B m mt D M V) : Calls Try.prog 33 #[.pointer (some ⟨B, 0, none⟩)] w fun e w' => e = .returned (.int .i64 0) ∧ DKx S w' B m mt (bootD D) M V ∧ Only S w w' := by
  have H := Lib.hid h
  obtain ⟨-, -, -, c3, c4, -⟩ := h.at
  have f3 := h.fr 3
  have f4 := h.fr 4
  have H1 := Lib.hid (h.field ⟨D.room, D.fs, D.st, false, D.armed, D.after⟩ 3 (.bool false) rfl rfl rfl h.rm h.af)
  have H2 := Lib.hid (H1.out.field (bootD D) 4 (.bool false) rfl rfl rfl h.rm h.af)
  have HO := Lib.hid (((Only.refl S w).setCell ⟨B, 3, none⟩ (.bool false) h.own.1).setCell ⟨B, 4, none⟩ (.bool false) h.own.1)
  clear h
  go_enter Try.func33, Try.ntmps33
  go_wp2_with fail
  refine (dcreated_yes H.out).mono ?_
  rintro e w1 ⟨rfl, rfl⟩
  go_wp2_with fail
  go_ret
  exact ⟨rfl, H2.out, HO.out⟩
theorem dresize_down (h : DKx S w B m mt D M V) (hd : D.down = true) (r : Int) : Calls Try.prog 32 #[.pointer (some ⟨B, 0, none⟩), .int .i64 r] w fun e w' => e = .returned (.int .i64 50) ∧ w = w' := by
  have hp : pw D.down = 50 := by rw [hd]; rfl
  have H := Lib.hid h
  clear h hd
  go_enter Try.func32, Try.ntmps32
  go_wp2_with fail
  refine (dpower_any H.out).mono ?_
  rintro e w1 ⟨rfl, rfl⟩
  rw [hp]
  clear hp
  go_wp2_with fail
  go_ret
  exact ⟨rfl, rfl⟩
theorem dresize_arg (h : DKx S w B m mt D M V) (hd : D.down = false) (r : Int) (hr : r < 0 ∨ 1048576 < r) : Calls Try.prog 32 #[.pointer (some ⟨B, 0, none⟩), .int .i64 r] w fun e w' => e = .returned (.int .i64 2) ∧ w = w' := by
  have hp : pw D.down = 0 := by rw [hd]; rfl
  have hb : (decide (0 ≤ r) && decide (r ≤ 1048576)) = false := by
    rcases hr with h | h
    · rw [decide_eq_false (by omega : ¬ 0 ≤ r)]; rfl
    · rw [decide_eq_false (by omega : ¬ r ≤ 1048576)]; simp
  have H := Lib.hid h
  clear h hd hr
  go_enter Try.func32, Try.ntmps32
  go_wp2_with fail
  refine (dpower_any H.out).mono ?_
  rintro e w1 ⟨rfl, rfl⟩
  rw [hp]
  clear hp
  go_wp2_with fail
  refine (possible_any r _).mono ?_
  rintro e w2 ⟨rfl, rfl⟩
  rw [hb]
  clear hb
  go_wp2_with fail
  go_ret
  exact ⟨rfl, rfl⟩
theorem dresize_ok (h : DKx S w B m mt D M V) (hd : D.down = false) (r : Int) (hr : 0 ≤ r ∧ r ≤ 1048576) : Calls Try.prog 32 #[.pointer (some ⟨B, 0, none⟩), .int .i64 r] w fun e w' => e = .returned (.int .i64 0) ∧ DKx S w' B m mt ⟨r, D.fs, D.st, D.down, D.armed, D.after⟩ M V ∧ Only S w w' := by
  have hp : pw D.down = 0 := by rw [hd]; rfl
  have hb : (decide (0 ≤ r) && decide (r ≤ 1048576)) = true := by rw [decide_eq_true hr.1, decide_eq_true hr.2]; rfl
  have H := Lib.hid h
  obtain ⟨k0, -⟩ := h.at
  have f0 := h.fr 0
  have H1 := Lib.hid (h.field ⟨r, D.fs, D.st, D.down, D.armed, D.after⟩ 0 (.int .i64 r) rfl rfl rfl hr h.af)
  have HO := Lib.hid ((Only.refl S w).setCell ⟨B, 0, none⟩ (.int .i64 r) h.own.1)
  clear h hd hr
  go_enter Try.func32, Try.ntmps32
  go_wp2_with fail
  refine (dpower_any H.out).mono ?_
  rintro e w1 ⟨rfl, rfl⟩
  rw [hp]
  clear hp
  go_wp2_with fail
  refine (possible_any r _).mono ?_
  rintro e w2 ⟨rfl, rfl⟩
  rw [hb]
  clear hb
  go_wp2_with fail
  go_ret
  exact ⟨rfl, H1.out, HO.out⟩
theorem darm_down (h : DKx S w B m mt D M V) (hd : D.down = true) (r : Int) : Calls Try.prog 26 #[.pointer (some ⟨B, 0, none⟩), .int .i64 r] w fun e w' => e = .returned (.int .i64 50) ∧ w = w' := by
  have hp : pw D.down = 50 := by rw [hd]; rfl
  have H := Lib.hid h
  clear h hd
  go_enter Try.func26, Try.ntmps26
  go_wp2_with fail
  refine (dpower_any H.out).mono ?_
  rintro e w1 ⟨rfl, rfl⟩
  rw [hp]
  clear hp
  go_wp2_with fail
  go_ret
  exact ⟨rfl, rfl⟩
theorem darm_arg (h : DKx S w B m mt D M V) (hd : D.down = false) (r : Int) (hr : r < 0) : Calls Try.prog 26 #[.pointer (some ⟨B, 0, none⟩), .int .i64 r] w fun e w' => e = .returned (.int .i64 2) ∧ w = w' := by
  have hp : pw D.down = 0 := by rw [hd]; rfl
  have hb : decide (r < 0) = true := decide_eq_true hr
  have H := Lib.hid h
  clear h hd hr
  go_enter Try.func26, Try.ntmps26
  go_wp2_with fail
  refine (dpower_any H.out).mono ?_
  rintro e w1 ⟨rfl, rfl⟩
  rw [hp]
  clear hp
  go_wp2_with fail
  go_ret
  exact ⟨rfl, rfl⟩
theorem darm_ok (h : DKx S w B m mt D M V) (hd : D.down = false) (r : Int) (hr : 0 ≤ r ∧ r < 9223372036854775808) (hst : D.st < 1000000000) : Calls Try.prog 26 #[.pointer (some ⟨B, 0, none⟩), .int .i64 r] w fun e w' => e = .returned (.int .i64 0) ∧ DKx S w' B m mt ⟨D.room, D.fs, D.st, D.down, true, (D.st : Int) + r⟩ M V ∧ Only S w w' := by
  have hp : pw D.down = 0 := by rw [hd]; rfl
  have hb : decide (r < 0) = false := decide_eq_false (by omega)
  have H := Lib.hid h
  obtain ⟨-, -, -, -, k4, k5⟩ := h.at
  have f4 := h.fr 4
  have f5 := h.fr 5
  have H1 := Lib.hid (h.field ⟨D.room, D.fs, D.st, D.down, true, D.after⟩ 4 (.bool true) rfl rfl rfl h.rm h.af)
  have H2 := Lib.hid (H1.out.field ⟨D.room, D.fs, D.st, D.down, true, (D.st : Int) + r⟩ 5 (.int .u64 ((D.st : Int) + r)) rfl rfl rfl h.rm ⟨by show 0 ≤ (D.st : Int) + r; omega, by show (D.st : Int) + r < _; omega⟩)
  have HO := Lib.hid (((Only.refl S w).setCell ⟨B, 4, none⟩ (.bool true) h.own.1).setCell ⟨B, 5, none⟩ (.int .u64 ((D.st : Int) + r)) h.own.1)
  have hw1 : IntKind.u64.wrap r = r := IntWalk.u64_in _ ⟨by omega, by omega⟩
  have hw2 : IntKind.u64.wrap ((D.st : Int) + r) = (D.st : Int) + r := IntWalk.u64_in _ ⟨by omega, by omega⟩
  clear h hd hr hst
  go_enter Try.func26, Try.ntmps26
  go_wp2_with fail
  refine (dpower_any H.out).mono ?_
  rintro e w1 ⟨rfl, rfl⟩
  rw [hp]
  clear hp
  go_wp2_with fail
  refine (dsteps_any H.out).mono ?_
  rintro e w2 ⟨rfl, rfl⟩
  go_wp2_with fail
  go_ret
  exact ⟨rfl, H2.out, HO.out⟩
end
end Go.Proofs.Ythkjjpkipeeimaa
