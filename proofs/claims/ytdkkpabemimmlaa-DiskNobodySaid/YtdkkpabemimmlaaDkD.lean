/- The disk: New; a step; a file found; what is free. -/
import Derived.Test.YtdkkpabemimmlaaDkC
import Derived.Deep.MidRow
import Derived.Maps.RangeWalk
namespace Go.Proofs.Ytdkkpabemimmlaa
open Go.RowKit Go.Maps
theorem new_none23 (r : Int) (w : World) (h : r < 0 ∨ 1048576 < r) : Calls Try.prog 12 #[.int .i64 r] w fun e w' => e = .returned (.pointer none) ∧ w = w' := by
  have hp : (decide (0 ≤ r) && decide (r ≤ 1048576)) = false := by
    rcases h with h | h
    · rw [decide_eq_false (by omega : ¬ 0 ≤ r)]; rfl
    · rw [decide_eq_false (by omega : ¬ r ≤ 1048576)]; simp
  go_enter Try.func12, Try.ntmps12
  go_wp2_with fail
  refine (possible_any r w).mono ?_
  rintro e w1 ⟨rfl, rfl⟩
  rw [hp]
  clear hp h
  go_wp2_with fail
  go_ret
  exact ⟨rfl, rfl⟩
def d0 (r : Int) : Dd := ⟨r, [], 0, false, false, 0⟩
theorem new_dk (r : Int) (w : World) (h : 0 ≤ r ∧ r ≤ 1048576) : Calls Try.prog 12 #[.int .i64 r] w fun e w' => ∃ B, e = .returned (.pointer (some ⟨B, 0, none⟩)) ∧ w.heap.size ≤ B ∧ DK (fun k => w.heap.size ≤ k ∧ k < w'.heap.size) w' B (d0 r) ∧ Below w.heap.size w w' := by
  have hp : (decide (0 ≤ r) && decide (r ≤ 1048576)) = true := by rw [decide_eq_true h.1, decide_eq_true h.2]; rfl
  have HR := Lib.hid h
  have hmm := @run_makeMap Try.prog
  clear h
  go_enter Try.func12, Try.ntmps12
  go_wp2_with fail
  refine (possible_any r w).mono ?_
  rintro e w1 ⟨rfl, rfl⟩
  rw [hp]
  clear hp
  go_wp2_with fail
  clear hmm
  have A1 : Below w.heap.size w (w.alloc (.map #[] 0)) := (Below.refl _ w).alloc (Nat.le_refl _) _
  have HV : Hid (VM 9 (w.alloc (.map #[] 0)) w.heap.size 0 (fun _ => none)) := Lib.hid (VM.made _ w)
  have HS1 : Hid ((w.alloc (.map #[] 0)).heap.size = w.heap.size + 1) := Lib.hid (by simp)
  have HB1 := Lib.hid A1
  clear A1
  obtain ⟨mm, hmm⟩ : ∃ mm, w.heap.size = mm := ⟨_, rfl⟩
  rw [hmm] at HV HS1
  have HMM := Lib.hid hmm
  rw [hmm]
  clear hmm
  generalize w.alloc (.map #[] 0) = w1 at HV HS1 HB1 ⊢
  refine (new_met 1 w1 (by decide) (by decide)).mono ?_
  rintro e w2 ⟨rfl, hb, hm, hs⟩
  have HM2 := Lib.hid hm
  have HV2 := Lib.hid (HV.out.kept hb)
  have HB2 := Lib.hid (HB1.out.trans (hb.mono HB1.out.size))
  have HS2 := Lib.hid hs
  clear hb hm hs
  go_wp2_with fail
  go_ret
  obtain ⟨B3, s3, h3⟩ := box1 w2 (DC (d0 r) mm w1.heap.size).toArray 65
  have e1 := HS1.out
  have e2 := HS2.out
  have e3 := HMM.out
  have h3' : (w2.alloc (.cells (DC (d0 r) mm w1.heap.size).toArray 65)).heap.size = mm + 3 := by rw [h3, e2, e1]
  refine ⟨w2.heap.size, rfl, by rw [e3]; show mm ≤ _; omega, ⟨mm, w1.heap.size, fun _ => none, fun _ => .slice none 0 0, ?_⟩, HB2.out.trans (B3.mono HB2.out.size)⟩
  refine ⟨s3, HM2.out.kept B3, ⟨HV2.out.kept B3, fun n => rfl, fun n f e => (by cases e), fun n f e => (by cases e), fun n k g _ e => absurd rfl e, fun n g e => absurd rfl e, List.Pairwise.nil, (by show sumF [] ≤ _; decide), (by show ([] : Ft).length ≤ _; decide)⟩, ⟨⟨?_, ?_⟩, ⟨?_, ?_⟩, ⟨?_, ?_⟩⟩, ⟨?_, ?_, ?_⟩, fun n g e => absurd rfl e, HR.out, ⟨(by show (0 : Int) ≤ 0; decide), (by show (0 : Int) < 18446744073709551616; decide)⟩, fun k hk => hk.2⟩
  all_goals first | (rw [e3]; show mm ≤ _; omega) | (show _ < (w2.alloc (.cells (DC (d0 r) mm w1.heap.size).toArray 65)).heap.size; omega) | omega
section
variable {S : Nat → Prop} {w : World} {B m mt : Nat} {D : Dd} {M : Lit → Option Value} {V : Nm → Value}
/-- What a step makes of a disk. -/
def stepD (D : Dd) : Dd := ⟨D.room, D.fs, D.st + 1, D.armed && decide (D.after < ((D.st + 1 : Nat) : Int)), D.armed, D.after⟩
theorem DKx.met1 (h : DKx S w B m mt D M V) {w' : World} (ho : Only (· = mt) w w') (hm : Met mt [((D.st + 1 : Nat) : Int)] w') : DKx S w' B m mt ⟨D.room, D.fs, D.st + 1, D.down, D.armed, D.after⟩ M V :=
  ⟨(ho.block B h.lt.1 h.ne.2.1).trans h.cells, hm, h.df.move (ho.block m h.lt.2.1 h.ne.2.2) (fun n g hn hg => ho.block g (h.df.lt hn hg) (h.fne n g hn hg).2.2), h.own, h.ne, h.fne, h.rm, h.af, fun k hs => Nat.lt_of_lt_of_le (h.bd k hs) ho.size⟩
theorem only_step (h : DKx S w B m mt D M V) {w' : World} (ho : Only (· = mt) w w') (v : Value) (i : Nat) : Only S w (w'.setCell ⟨B, i, none⟩ v) := (ho.more (fun k e => by rw [e]; exact h.own.2.2)).setCell _ _ h.own.1
set_option maxRecDepth 100000 in
theorem dstep (h : DKx S w B m mt D M V) (hst : D.st < 1000000000) : Calls Try.prog 76 #[.pointer (some ⟨B, 0, none⟩)] w fun e w' => e = .returned (.int .i64 (pw (stepD D).down)) ∧ DKx S w' B m mt (stepD D) M V ∧ Only S w w' := by
  have H := Lib.hid h
  have HST := Lib.hid hst
  obtain ⟨-, -, c2, -⟩ := h.at
  clear h hst
  go_enter Try.func76, Try.ntmps76
  go_wp2_with fail
  refine (add_ok mt [(D.st : Int)] 0 1 (D.st : Int) w H.out.met (by simp) rfl (by decide) (by unfold TOP; have := HST.out; omega)).mono ?_
  rintro e w1 ⟨rfl, ho, hm, hs⟩
  have H1 := Lib.hid (H.out.met1 ho (by simpa using hm))
  have HO := Lib.hid ho
  obtain ⟨-, -, -, c3, c4, c5⟩ := H1.out.at
  have f3 := H1.out.fr 3
  simp only at c3 c4 c5
  clear hm hs ho c2
  have hn1 : ((D.st + 1 : Nat) : Int) = (D.st : Int) + 1 := by omega
  cases ha : D.armed with
  | false =>
    have HD : Hid ((stepD D).down = false) := Lib.hid (by simp [stepD, ha])
    have H9 := Lib.hid (H1.out.field (stepD D) 3 (.bool false) (by simp [DC, stepD, ha]) rfl rfl H.out.rm H.out.af)
    rw [ha] at c4
    clear ha hn1
    go_wp2_with fail
    refine (dpower_any H9.out).mono ?_
    rintro e w2 ⟨rfl, rfl⟩
    go_wp2_with fail
    go_ret
    exact ⟨rfl, H9.out, only_step H.out HO.out _ _⟩
  | true =>
    by_cases hl : D.after < (D.st : Int) + 1
    · have HD : Hid ((stepD D).down = true) := Lib.hid (by simp [stepD, ha]; omega)
      have H9 := Lib.hid (H1.out.field (stepD D) 3 (.bool true) (by have := HD.out; simp [DC, stepD, ha] at this ⊢; omega) rfl rfl H.out.rm H.out.af)
      have dl : decide (D.after < (D.st : Int) + 1) = true := decide_eq_true hl
      rw [ha] at c4
      clear ha hn1 hl
      go_wp2_with fail
      refine (dpower_any H9.out).mono ?_
      rintro e w2 ⟨rfl, rfl⟩
      go_wp2_with fail
      go_ret
      exact ⟨rfl, H9.out, only_step H.out HO.out _ _⟩
    · have HD : Hid ((stepD D).down = false) := Lib.hid (by simp [stepD, ha]; omega)
      have H9 := Lib.hid (H1.out.field (stepD D) 3 (.bool false) (by have := HD.out; simp [DC, stepD, ha] at this ⊢; omega) rfl rfl H.out.rm H.out.af)
      have dl : decide (D.after < (D.st : Int) + 1) = false := decide_eq_false hl
      rw [ha] at c4
      clear ha hn1 hl
      go_wp2_with fail
      refine (dpower_any H9.out).mono ?_
      rintro e w2 ⟨rfl, rfl⟩
      go_wp2_with fail
      go_ret
      exact ⟨rfl, H9.out, only_step H.out HO.out _ _⟩
end
end Go.Proofs.Ytdkkpabemimmlaa
