/- The walk of a reader's number. -/
import Derived.Test.YtnhaakdjijjinaaQuL
import Derived.Deep.QuietTactic
import Derived.BigQuiet
import Derived.WalkSmall
namespace Go.Proofs.Ytnhaakdjijjinaa
open Go.RowKit

/-- The number that some bytes are, the most significant first. -/
def val (l : List Nat) : Nat := l.foldl (fun n c => n * 256 + c) 0
theorem val_snoc (l : List Nat) (c : Nat) : val (l ++ [c]) = val l * 256 + c := by simp only [val, List.foldl_append, List.foldl_cons, List.foldl_nil]
theorem val_take_succ (l : List Nat) (k : Nat) (hk : k < l.length) : val (l.take (k + 1)) = val (l.take k) * 256 + l.getD k 0 := by
  rw [take_succ_getD' l k hk, val_snoc]
theorem val_take_lt (l : List Nat) (h : ∀ c ∈ l, c < 256) : ∀ k, k ≤ l.length → val (l.take k) < 2 ^ (8 * k) := by
  intro k
  induction k with
  | zero => intro _; simp [val]
  | succ k ih =>
    intro hk
    have h1 := ih (by omega)
    have h2 : l.getD k 0 < 256 := h _ (by simp [show k < l.length by omega])
    rw [val_take_succ l k (by omega), Nat.mul_add, Nat.pow_add]
    omega
/-- What number reads: none, if it fails; else the number, whether it is below 0, and what is left. -/
def rnum : List Nat → Option (Nat × Bool × List Nat)
  | [] => none
  | h :: t => if 8 < h % 128 then none else if t.length < h % 128 then none else if 0 < h % 128 ∧ t.getD 0 0 = 0 then none else some (val (t.take (h % 128)), decide (128 ≤ h), t.drop (h % 128))
def NumNo (b : Nat) (w : World) (e : Ending) (w' : World) : Prop := e = .returned (.tuple #[.int .u64 0, .bool false]) ∧ RR w' b [] true ∧ Rd b w w'
def NumYes (b : Nat) (w : World) (n : Nat) (below : Bool) (rest : List Nat) (e : Ending) (w' : World) : Prop := e = .returned (.tuple #[.int .u64 (n : Int), .bool below]) ∧ RR w' b rest false ∧ Rd b w w'
theorem and128 (h : Nat) (hh : h < 256) : bits .andNot .u8 (h : Int) 128 = ((h % 128 : Nat) : Int) := by
  have all : ∀ j : Fin 256, bits .andNot .u8 ((j.val : Nat) : Int) 128 = ((j.val % 128 : Nat) : Int) := by decide +kernel
  exact all ⟨h, hh⟩

theorem number_empty (b : Nat) (bad : Bool) (w : World) (hr : RR w b [] bad) : Calls Try.prog 82 #[.pointer (some ⟨b, 0, none⟩)] w (NumNo b w) := by
  have H := Lib.hid (take_no b 1 [] bad w hr (by simp))
  clear hr
  go_enter Try.func82, Try.ntmps82
  go_wp2_with (go_at_call 90; refine (H.out).mono ?_; rintro e w' ⟨rfl, hr', ht⟩)
  go_ret2
  exact ⟨rfl, hr', ht⟩

set_option maxHeartbeats 1000000 in
theorem number_big (b h : Nat) (t : List Nat) (w : World) (hr : RR w b (h :: t) false) (hs : 8 < h % 128) : Calls Try.prog 82 #[.pointer (some ⟨b, 0, none⟩)] w (NumNo b w) := by
  have hh : h < 256 := by obtain ⟨v, _, h2, _⟩ := hr; exact h2.1 h (by simp)
  have H := Lib.hid (take_yes b 1 (h :: t) false w hr (by simp))
  have ha := and128 h hh
  obtain ⟨s, hs'⟩ : ∃ s, h % 128 = s := ⟨_, rfl⟩
  rw [hs'] at ha hs
  clear hr hs'
  go_enter Try.func82, Try.ntmps82
  go_wp2_with fail
  refine (H.out).mono ?_
  rintro e w1 ⟨v1, rfl, hv1, hb1, hr1, ht1⟩
  obtain ⟨b1, o1, c1, rfl, _, _, _, hcell⟩ := hv1.at (by simp)
  have hc0 : w1.cell? ⟨b1, o1, none⟩ = some (.int .u8 (h : Int)) := hcell 0 (by simp)
  have HF := Lib.hid (fail_rd b _ _ w1 hr1)
  clear hcell hv1 hb1 hr1
  go_wp2_with (go_at_call 59; refine (HF.out).mono ?_; rintro e w2 ⟨rfl, hr2, ht2⟩)
  go_ret2
  exact ⟨rfl, hr2, ht1.trans ht2⟩

set_option maxHeartbeats 1000000 in
theorem number_short (b h : Nat) (t : List Nat) (w : World) (hr : RR w b (h :: t) false) (hs : h % 128 ≤ 8) (hl : t.length < h % 128) : Calls Try.prog 82 #[.pointer (some ⟨b, 0, none⟩)] w (NumNo b w) := by
  have hh : h < 256 := by obtain ⟨v, _, h2, _⟩ := hr; exact h2.1 h (by simp)
  have H := Lib.hid (take_yes b 1 (h :: t) false w hr (by simp))
  have ha := and128 h hh
  obtain ⟨s, hs'⟩ : ∃ s, h % 128 = s := ⟨_, rfl⟩
  rw [hs'] at ha hs hl
  clear hr hs'
  have HL := Lib.hid hl
  clear hl
  go_enter Try.func82, Try.ntmps82
  go_wp2_with fail
  refine (H.out).mono ?_
  rintro e w1 ⟨v1, rfl, hv1, hb1, hr1, ht1⟩
  obtain ⟨b1, o1, c1, hv, _, _, _, hcell⟩ := hv1.at (by simp)
  have HT := Lib.hid (take_no b s _ _ w1 hr1 (by have := HL.out; simpa using this))
  subst hv
  have hbb : b1 ≠ b := by have := hb1 b1 rfl; omega
  have hc0 : w1.cell? ⟨b1, o1, none⟩ = some (.int .u8 (h : Int)) := hcell 0 (by simp)
  have HB := Lib.hid hbb
  clear hcell hv1 hb1 hr1 hbb
  go_wp2_with fail
  refine (HT.out).mono ?_
  rintro e w2 ⟨rfl, hr2, ht2⟩
  have hc2 : w2.cell? ⟨b1, o1, none⟩ = some (.int .u8 (h : Int)) := (ht2.cell (p := ⟨b1, o1, none⟩) (cell_spot hc0).2 HB.out (by simp [Value.ownBlock])).trans hc0
  have HR := Lib.hid hr2
  obtain ⟨v2, e2, _, _, _⟩ := hr2
  have hcb := (two_cells e2).2.1
  clear e2 hc0
  go_wp2
  go_loop [2, 39] (fun s i => s = .int .u64 0 ∧ i = .int .i64 0) (fun _ _ => 0)
  case atStart => exact ⟨rfl, rfl⟩
  case round =>
    obtain ⟨rfl, rfl⟩ := hrel
    by_cases hbit : (128 : Int) ≤ (h : Int)
    · have hd : decide ((128 : Int) ≤ (h : Int)) = true := by simpa using hbit
      go_wp2
      go_quiet (fail)
      go_wp2
      go_ret2
      exact ⟨rfl, HR.out.kept (below_drewN (Below.refl _ _) _), (ht1.trans ht2).trans (Turn.below (below_drewN (Below.refl _ _) _))⟩
    · have hd : decide ((128 : Int) ≤ (h : Int)) = false := by simpa using hbit
      clear hbit
      go_wp2
      go_quiet (fail)
      go_wp2
      go_ret2
      exact ⟨rfl, HR.out.kept (below_drewN (Below.refl _ _) _), (ht1.trans ht2).trans (Turn.below (below_drewN (Below.refl _ _) _))⟩
set_option maxHeartbeats 1000000 in
theorem number_zero (b h : Nat) (t : List Nat) (w : World) (hr : RR w b (h :: t) false) (hs : h % 128 ≤ 8) (hl : h % 128 ≤ t.length) (h0 : 0 < h % 128) (hz : t.getD 0 0 = 0) : Calls Try.prog 82 #[.pointer (some ⟨b, 0, none⟩)] w (NumNo b w) := by
  have hh : h < 256 := by obtain ⟨v, _, h2, _⟩ := hr; exact h2.1 h (by simp)
  have ht256 : ∀ c ∈ t, c < 256 := by obtain ⟨v, _, h2, _⟩ := hr; exact fun c hc => h2.1 c (by simp [hc])
  have H := Lib.hid (take_yes b 1 (h :: t) false w hr (by simp))
  have ha := and128 h hh
  obtain ⟨s, hs'⟩ : ∃ s, h % 128 = s := ⟨_, rfl⟩
  rw [hs'] at ha hs hl h0
  clear hr hs'
  have HL := Lib.hid hl
  have HT256 := Lib.hid ht256
  clear hl ht256
  go_enter Try.func82, Try.ntmps82
  go_wp2_with fail
  refine (H.out).mono ?_
  rintro e w1 ⟨v1, rfl, hv1, hb1, hr1, ht1⟩
  obtain ⟨b1, o1, c1, hv, _, _, _, hcell⟩ := hv1.at (by simp)
  have HT := Lib.hid (take_yes b s _ _ w1 hr1 HL.out)
  subst hv
  have hbb : b1 ≠ b := by have := hb1 b1 rfl; omega
  have hc0 : w1.cell? ⟨b1, o1, none⟩ = some (.int .u8 (h : Int)) := hcell 0 (by simp)
  have HB := Lib.hid hbb
  clear hcell hv1 hb1 hr1 hbb
  go_wp2_with fail
  refine (HT.out).mono ?_
  rintro e w2 ⟨v2, rfl, hv2, hb2, hr2, ht2⟩
  have hc2 : w2.cell? ⟨b1, o1, none⟩ = some (.int .u8 (h : Int)) := (ht2.cell (p := ⟨b1, o1, none⟩) (cell_spot hc0).2 HB.out (by simp [Value.ownBlock])).trans hc0
  have htl : (List.take s (List.drop 1 (h :: t))).length = s := by have := HL.out; simp; omega
  have HR := Lib.hid hr2
  clear hc0
  obtain ⟨b2, o2, c2, hv, _, _, _, hcell⟩ := hv2.at (by rw [htl]; exact h0)
  rw [htl] at hv
  subst hv
  have hcz : w2.cell? ⟨b2, o2, none⟩ = some (.int .u8 0) := by
    have := hcell 0 (by rw [htl]; exact h0)
    rw [Nat.add_zero] at this
    rw [this]
    have e : (List.take s (List.drop 1 (h :: t))).getD 0 0 = t.getD 0 0 := by simp [List.getElem?_take, h0]
    rw [e, hz]; rfl
  have HF := Lib.hid (fail_rd b _ _ w2 hr2)
  have hd0 : decide ((0 : Int) < (s : Int)) = true := by simp; omega
  clear hcell hv2 hb2 hr2 hz htl
  go_wp2_with (go_at_call 59; refine (HF.out).mono ?_; rintro e w3 ⟨rfl, hr3, ht3⟩)
  go_ret2
  exact ⟨rfl, hr3, (ht1.trans ht2).trans ht3⟩

theorem getD_mem (l : List Nat) (k : Nat) (h : k < l.length) : l.getD k 0 ∈ l := by rw [List.getD_eq_getElem?_getD, List.getElem?_eq_getElem h]; exact List.getElem_mem h
theorem or256 (x c : Nat) (hx : x < 72057594037927936) (hc : c < 256) : bits .or .u64 ((x : Int) * 256) (c : Int) = ((x * 256 + c : Nat) : Int) := by
  have e : x * 256 ||| c = x * 256 + c := by
    have := Nat.two_pow_add_eq_or_of_lt (i := 8) (b := c) (by omega) x
    rw [Nat.mul_comm x 256]; exact this.symm
  rw [show ((x : Int) * 256) = ((x * 256 : Nat) : Int) by omega, u64_or_nat _ _ (by omega) (by omega), e]

set_option maxHeartbeats 2000000 in
theorem number_ok (b h : Nat) (t : List Nat) (w : World) (hr : RR w b (h :: t) false) (hs : h % 128 ≤ 8) (hl : h % 128 ≤ t.length) (h0 : ¬ (0 < h % 128 ∧ t.getD 0 0 = 0)) :
    Calls Try.prog 82 #[.pointer (some ⟨b, 0, none⟩)] w (NumYes b w (val (t.take (h % 128))) (decide (128 ≤ h)) (t.drop (h % 128))) := by
  have hh : h < 256 := by obtain ⟨v, _, h2, _⟩ := hr; exact h2.1 h (by simp)
  have ht256 : ∀ c ∈ t, c < 256 := by obtain ⟨v, _, h2, _⟩ := hr; exact fun c hc => h2.1 c (by simp [hc])
  have H := Lib.hid (take_yes b 1 (h :: t) false w hr (by simp))
  have ha := and128 h hh
  obtain ⟨s, hs'⟩ : ∃ s, h % 128 = s := ⟨_, rfl⟩
  rw [hs'] at ha hs hl h0 ⊢
  clear hr hs'
  have HL := Lib.hid hl
  have HT256 := Lib.hid ht256
  clear hl ht256
  go_enter Try.func82, Try.ntmps82
  go_wp2_with fail
  refine (H.out).mono ?_
  rintro e w1 ⟨v1, rfl, hv1, hb1, hr1, ht1⟩
  obtain ⟨b1, o1, c1, hv, _, _, _, hcell⟩ := hv1.at (by simp)
  have HT := Lib.hid (take_yes b s _ _ w1 hr1 HL.out)
  subst hv
  have hbb : b1 ≠ b := by have := hb1 b1 rfl; omega
  have hc0 : w1.cell? ⟨b1, o1, none⟩ = some (.int .u8 (h : Int)) := hcell 0 (by simp)
  have HB := Lib.hid hbb
  clear hcell hv1 hb1 hr1 hbb
  go_wp2_with fail
  refine (HT.out).mono ?_
  rintro e w2 ⟨v2, rfl, hv2, hb2, hr2, ht2⟩
  have hc2 : w2.cell? ⟨b1, o1, none⟩ = some (.int .u8 (h : Int)) := (ht2.cell (p := ⟨b1, o1, none⟩) (cell_spot hc0).2 HB.out (by simp [Value.ownBlock])).trans hc0
  have htl : (List.take s (List.drop 1 (h :: t))).length = s := by have := HL.out; simp; omega
  have HR := Lib.hid hr2
  clear hc0
  have e1 : List.drop 1 (h :: t) = t := rfl
  rw [e1] at htl HR hv2 hr2
  obtain ⟨a2, c2, hv⟩ := hv2.shapeN' htl
  have hcl : ∀ k, k < s → ∃ b2 o2, a2 = some ⟨b2, o2, none⟩ ∧ w2.cell? ⟨b2, o2 + k, none⟩ = some (.int .u8 (((t.take s).getD k 0 : Nat) : Int)) := by
    intro k hk
    obtain ⟨b2, o2, c3, he, _, _, _, hcell⟩ := hv2.at (by omega)
    rw [hv] at he
    simp only [Value.slice.injEq] at he
    exact ⟨b2, o2, he.1, hcell k (by omega)⟩
  subst hv
  have HCL := Lib.hid hcl
  have HTL := Lib.hid htl
  obtain ⟨v9, e9, _, _, _⟩ := hr2
  have hcb := (two_cells e9).2.1
  have H0 := Lib.hid h0
  have hfirst : 0 < s → ∃ b2 o2 c, a2 = some ⟨b2, o2, none⟩ ∧ w2.cell? ⟨b2, o2, none⟩ = some (.int .u8 ((c : Nat) : Int)) ∧ ((c : Int) == 0) = false := by
    intro hp
    obtain ⟨b2, o2, ha2, hc⟩ := hcl 0 hp
    refine ⟨b2, o2, _, ha2, hc, ?_⟩
    have e : (t.take s).getD 0 0 = t.getD 0 0 := by simp [List.getElem?_take, hp]
    rw [e]
    have : ¬ t.getD 0 0 = 0 := fun hq => h0 ⟨hp, hq⟩
    simpa using this
  have HFI := Lib.hid hfirst
  clear hcl htl hv2 hb2 e9 h0 hfirst H HT e1
  by_cases hp : 0 < s
  · obtain ⟨b2, o2, c, rfl, hcf, hcz⟩ := HFI.out hp
    have hd0 : decide ((0 : Int) < (s : Int)) = true := by simp; omega
    go_wp2
    go_loop [2, 39] (fun n i => ∃ k : Nat, k ≤ s ∧ i = .int .i64 k ∧ n = .int .u64 ((val ((t.take s).take k) : Nat) : Int)) (fun _ i => s - (intOf i).toNat)
    case atStart => exact ⟨0, by omega, rfl, rfl⟩
    case round =>
      obtain ⟨k, hk, rfl, rfl⟩ := hrel
      by_cases hlt : k < s
      · obtain ⟨b3, o3, ha3, hc3⟩ := HCL.out k hlt
        simp only [Option.some.injEq, Addr.mk.injEq, and_true] at ha3
        obtain ⟨rfl, rfl⟩ := ha3
        have hkl : k < (t.take s).length := by rw [HTL.out]; exact hlt
        have HV := Lib.hid (val_take_succ (t.take s) k hkl)
        have hx56 : val ((t.take s).take k) < 72057594037927936 := by
          have h1 := val_take_lt (t.take s) (fun c hc => HT256.out c (List.mem_of_mem_take hc)) k (by omega)
          have h2 : 2 ^ (8 * k) ≤ 2 ^ 56 := Nat.pow_le_pow_right (by omega) (by omega)
          omega
        have hc256 : (t.take s).getD k 0 < 256 := HT256.out _ (List.mem_of_mem_take (getD_mem _ k hkl))
        obtain ⟨x, hx⟩ : ∃ x, val ((t.take s).take k) = x := ⟨_, rfl⟩
        obtain ⟨c', hc'⟩ : ∃ c', (t.take s).getD k 0 = c' := ⟨_, rfl⟩
        rw [hx] at HV hx56 ⊢
        rw [hc'] at HV hc256 hc3
        have hor := or256 x c' hx56 hc256
        have hsh : IntKind.u64.wrap ((x : Int) * 256) = (x : Int) * 256 := IntWalk.u64_in _ ⟨by omega, by omega⟩
        clear hx hc' hkl hx56
        go_wp2
        go_round
        case rel => exact ⟨k + 1, by omega, by go_num, by rw [HV.out]; go_num⟩
        case measure => simp [intOf]; omega
      · obtain rfl : k = s := by omega
        have hfin : (t.take k).take k = t.take k := List.take_of_length_le (by rw [HTL.out]; exact Nat.le_refl _)
        rw [hfin]
        clear hfin
        by_cases hbit : (128 : Int) ≤ (h : Int)
        · have hd : decide ((128 : Int) ≤ (h : Int)) = true := by simpa using hbit
          have HD := Lib.hid (show decide (128 ≤ h) = true by simp; omega)
          go_wp2
          go_quiet (fail)
          go_wp2
          go_ret2
          exact ⟨by rw [HD.out]; rfl, HR.out.kept (below_drewN (Below.refl _ _) _), (ht1.trans ht2).trans (Turn.below (below_drewN (Below.refl _ _) _))⟩
        · have hd : decide ((128 : Int) ≤ (h : Int)) = false := by simpa using hbit
          have HD := Lib.hid (show decide (128 ≤ h) = false by simp; omega)
          clear hbit
          go_wp2
          go_quiet (fail)
          go_wp2
          go_ret2
          exact ⟨by rw [HD.out]; rfl, HR.out.kept (below_drewN (Below.refl _ _) _), (ht1.trans ht2).trans (Turn.below (below_drewN (Below.refl _ _) _))⟩
  · obtain rfl : s = 0 := by omega
    go_wp2
    go_loop [2, 39] (fun n i => n = .int .u64 0 ∧ i = .int .i64 0) (fun _ _ => 0)
    case atStart => exact ⟨rfl, rfl⟩
    case round =>
      obtain ⟨rfl, rfl⟩ := hrel
      by_cases hbit : (128 : Int) ≤ (h : Int)
      · have hd : decide ((128 : Int) ≤ (h : Int)) = true := by simpa using hbit
        have HD := Lib.hid (show decide (128 ≤ h) = true by simp; omega)
        go_wp2
        go_quiet (fail)
        go_wp2
        go_ret2
        exact ⟨by rw [HD.out]; rfl, HR.out.kept (below_drewN (Below.refl _ _) _), (ht1.trans ht2).trans (Turn.below (below_drewN (Below.refl _ _) _))⟩
      · have hd : decide ((128 : Int) ≤ (h : Int)) = false := by simpa using hbit
        have HD := Lib.hid (show decide (128 ≤ h) = false by simp; omega)
        clear hbit
        go_wp2
        go_quiet (fail)
        go_wp2
        go_ret2
        exact ⟨by rw [HD.out]; rfl, HR.out.kept (below_drewN (Below.refl _ _) _), (ht1.trans ht2).trans (Turn.below (below_drewN (Below.refl _ _) _))⟩
end Go.Proofs.Ytnhaakdjijjinaa
