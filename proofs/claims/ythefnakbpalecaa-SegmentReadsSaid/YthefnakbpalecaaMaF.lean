import Derived.Test.YthefnakbpalecaaMaE
import Derived.Deep.QuietTactic
import Derived.BigQuiet
import Derived.WalkSmall
import Derived.Laws.DeepNot64
namespace Go.Proofs.Ythefnakbpalecaa
open Go.RowKit
/- The walk of a reader's number. -/
open Go.RowKit

/-- The number that some bytes are, the most significant first. -/
def val (l : List Nat) : Nat := l.foldl (fun n c => n * 256 + c) 0
theorem val_snoc (l : List Nat) (c : Nat) : val (l ++ [c]) = val l * 256 + c := by simp only [val, List.foldl_append, List.foldl_cons, List.foldl_nil]
theorem val_take_succ (l : List Nat) (k : Nat) (hk : k < l.length) : val (l.take (k + 1)) = val (l.take k) * 256 + l.getD k 0 := by
  rw [take_succ_getD' l k hk, val_snoc]
theorem val_take_lt (l : List Nat) (h : ∀ c ∈ l, c < 256) : ∀ k, k ≤ l.length → val (l.take k) < 2 ^ (8 * k) := by
  intro k
  induction k with
  | zero => intro _; simp [val]
  | succ k ih =>
    intro hk
    have h1 := ih (by omega)
    have h2 : l.getD k 0 < 256 := h _ (by simp [show k < l.length by omega])
    rw [val_take_succ l k (by omega), Nat.mul_add, Nat.pow_add]
    omega
/-- What number reads: none, if it fails; else the number, whether it is below 0, and what is left. -/
def rnum : List Nat → Option (Nat × Bool × List Nat)
  | [] => none
  | h :: t => if 8 < h % 128 then none else if t.length < h % 128 then none else if 0 < h % 128 ∧ t.getD 0 0 = 0 then none else some (val (t.take (h % 128)), decide (128 ≤ h), t.drop (h % 128))
def NumNo (b : Nat) (w : World) (e : Ending) (w' : World) : Prop := e = .returned (.tuple #[.int .u64 0, .bool false]) ∧ RR w' b [] true ∧ Rd b w w'
def NumYes (b : Nat) (w : World) (n : Nat) (below : Bool) (rest : List Nat) (e : Ending) (w' : World) : Prop := e = .returned (.tuple #[.int .u64 (n : Int), .bool below]) ∧ RR w' b rest false ∧ Rd b w w'
theorem and128 (h : Nat) (hh : h < 256) : bits .andNot .u8 (h : Int) 128 = ((h % 128 : Nat) : Int) := by
  have all : ∀ j : Fin 256, bits .andNot .u8 ((j.val : Nat) : Int) 128 = ((j.val % 128 : Nat) : Int) := by decide +kernel
  exact all ⟨h, hh⟩

theorem number_empty (b : Nat) (bad : Bool) (w : World) (hr : RR w b [] bad) : Calls Try.prog 127 #[.pointer (some ⟨b, 0, none⟩)] w (NumNo b w) := by
  have H := Lib.hid (take_no b 1 [] bad w hr (by simp))
  clear hr
  go_enter Try.func127, Try.ntmps127
  go_wp2_with (go_at_call 129; refine (H.out).mono ?_; rintro e w' ⟨rfl, hr', ht⟩)
  go_ret2
  exact ⟨rfl, hr', ht⟩

set_option maxHeartbeats 1000000 in
theorem number_big (b h : Nat) (t : List Nat) (w : World) (hr : RR w b (h :: t) false) (hs : 8 < h % 128) : Calls Try.prog 127 #[.pointer (some ⟨b, 0, none⟩)] w (NumNo b w) := by
  have hh : h < 256 := by obtain ⟨v, _, h2, _⟩ := hr; exact h2.1 h (by simp)
  have H := Lib.hid (take_yes b 1 (h :: t) false w hr (by simp))
  have ha := and128 h hh
  obtain ⟨s, hs'⟩ : ∃ s, h % 128 = s := ⟨_, rfl⟩
  rw [hs'] at ha hs
  clear hr hs'
  go_enter Try.func127, Try.ntmps127
  go_wp2_with fail
  refine (H.out).mono ?_
  rintro e w1 ⟨v1, rfl, hv1, hb1, hr1, ht1⟩
  obtain ⟨b1, o1, c1, rfl, _, _, _, hcell⟩ := hv1.at (by simp)
  have hc0 : w1.cell? ⟨b1, o1, none⟩ = some (.int .u8 (h : Int)) := hcell 0 (by simp)
  have HF := Lib.hid (fail_rd b _ _ w1 hr1)
  clear hcell hv1 hb1 hr1
  go_wp2_with (go_at_call 128; refine (HF.out).mono ?_; rintro e w2 ⟨rfl, hr2, ht2⟩)
  go_ret2
  exact ⟨rfl, hr2, ht1.trans ht2⟩

set_option maxHeartbeats 1000000 in
theorem number_short (b h : Nat) (t : List Nat) (w : World) (hr : RR w b (h :: t) false) (hs : h % 128 ≤ 8) (hl : t.length < h % 128) : Calls Try.prog 127 #[.pointer (some ⟨b, 0, none⟩)] w (NumNo b w) := by
  have hh : h < 256 := by obtain ⟨v, _, h2, _⟩ := hr; exact h2.1 h (by simp)
  have H := Lib.hid (take_yes b 1 (h :: t) false w hr (by simp))
  have ha := and128 h hh
  obtain ⟨s, hs'⟩ : ∃ s, h % 128 = s := ⟨_, rfl⟩
  rw [hs'] at ha hs hl
  clear hr hs'
  have HL := Lib.hid hl
  clear hl
  go_enter Try.func127, Try.ntmps127
  go_wp2_with fail
  refine (H.out).mono ?_
  rintro e w1 ⟨v1, rfl, hv1, hb1, hr1, ht1⟩
  obtain ⟨b1, o1, c1, hv, _, _, _, hcell⟩ := hv1.at (by simp)
  have HT := Lib.hid (take_no b s _ _ w1 hr1 (by have := HL.out; simpa using this))
  subst hv
  have hbb : b1 ≠ b := by have := hb1 b1 rfl; omega
  have hc0 : w1.cell? ⟨b1, o1, none⟩ = some (.int .u8 (h : Int)) := hcell 0 (by simp)
  have HB := Lib.hid hbb
  clear hcell hv1 hb1 hr1 hbb
  go_wp2_with fail
  refine (HT.out).mono ?_
  rintro e w2 ⟨rfl, hr2, ht2⟩
  have hc2 : w2.cell? ⟨b1, o1, none⟩ = some (.int .u8 (h : Int)) := (ht2.cell (p := ⟨b1, o1, none⟩) (cell_spot hc0).2 HB.out (by simp [Value.ownBlock])).trans hc0
  have HR := Lib.hid hr2
  obtain ⟨v2, e2, _, _, _⟩ := hr2
  have hcb := (two_cells e2).2.1
  clear e2 hc0
  go_wp2
  go_loop [2, 39] (fun s i => s = .int .u64 0 ∧ i = .int .i64 0) (fun _ _ => 0)
  case atStart => exact ⟨rfl, rfl⟩
  case round =>
    obtain ⟨rfl, rfl⟩ := hrel
    by_cases hbit : (128 : Int) ≤ (h : Int)
    · have hd : decide ((128 : Int) ≤ (h : Int)) = true := by simpa using hbit
      go_wp2
      go_quiet (fail)
      go_wp2
      go_ret2
      exact ⟨rfl, HR.out.kept (below_drewN (Below.refl _ _) _), (ht1.trans ht2).trans (Turn.below (below_drewN (Below.refl _ _) _))⟩
    · have hd : decide ((128 : Int) ≤ (h : Int)) = false := by simpa using hbit
      clear hbit
      go_wp2
      go_quiet (fail)
      go_wp2
      go_ret2
      exact ⟨rfl, HR.out.kept (below_drewN (Below.refl _ _) _), (ht1.trans ht2).trans (Turn.below (below_drewN (Below.refl _ _) _))⟩
set_option maxHeartbeats 1000000 in
theorem number_zero (b h : Nat) (t : List Nat) (w : World) (hr : RR w b (h :: t) false) (hs : h % 128 ≤ 8) (hl : h % 128 ≤ t.length) (h0 : 0 < h % 128) (hz : t.getD 0 0 = 0) : Calls Try.prog 127 #[.pointer (some ⟨b, 0, none⟩)] w (NumNo b w) := by
  have hh : h < 256 := by obtain ⟨v, _, h2, _⟩ := hr; exact h2.1 h (by simp)
  have ht256 : ∀ c ∈ t, c < 256 := by obtain ⟨v, _, h2, _⟩ := hr; exact fun c hc => h2.1 c (by simp [hc])
  have H := Lib.hid (take_yes b 1 (h :: t) false w hr (by simp))
  have ha := and128 h hh
  obtain ⟨s, hs'⟩ : ∃ s, h % 128 = s := ⟨_, rfl⟩
  rw [hs'] at ha hs hl h0
  clear hr hs'
  have HL := Lib.hid hl
  have HT256 := Lib.hid ht256
  clear hl ht256
  go_enter Try.func127, Try.ntmps127
  go_wp2_with fail
  refine (H.out).mono ?_
  rintro e w1 ⟨v1, rfl, hv1, hb1, hr1, ht1⟩
  obtain ⟨b1, o1, c1, hv, _, _, _, hcell⟩ := hv1.at (by simp)
  have HT := Lib.hid (take_yes b s _ _ w1 hr1 HL.out)
  subst hv
  have hbb : b1 ≠ b := by have := hb1 b1 rfl; omega
  have hc0 : w1.cell? ⟨b1, o1, none⟩ = some (.int .u8 (h : Int)) := hcell 0 (by simp)
  have HB := Lib.hid hbb
  clear hcell hv1 hb1 hr1 hbb
  go_wp2_with fail
  refine (HT.out).mono ?_
  rintro e w2 ⟨v2, rfl, hv2, hb2, hr2, ht2⟩
  have hc2 : w2.cell? ⟨b1, o1, none⟩ = some (.int .u8 (h : Int)) := (ht2.cell (p := ⟨b1, o1, none⟩) (cell_spot hc0).2 HB.out (by simp [Value.ownBlock])).trans hc0
  have htl : (List.take s (List.drop 1 (h :: t))).length = s := by have := HL.out; simp; omega
  have HR := Lib.hid hr2
  clear hc0
  obtain ⟨b2, o2, c2, hv, _, _, _, hcell⟩ := hv2.at (by rw [htl]; exact h0)
  rw [htl] at hv
  subst hv
  have hcz : w2.cell? ⟨b2, o2, none⟩ = some (.int .u8 0) := by
    have := hcell 0 (by rw [htl]; exact h0)
    rw [Nat.add_zero] at this
    rw [this]
    have e : (List.take s (List.drop 1 (h :: t))).getD 0 0 = t.getD 0 0 := by simp [List.getElem?_take, h0]
    rw [e, hz]; rfl
  have HF := Lib.hid (fail_rd b _ _ w2 hr2)
  have hd0 : decide ((0 : Int) < (s : Int)) = true := by simp; omega
  clear hcell hv2 hb2 hr2 hz htl
  go_wp2_with (go_at_call 128; refine (HF.out).mono ?_; rintro e w3 ⟨rfl, hr3, ht3⟩)
  go_ret2
  exact ⟨rfl, hr3, (ht1.trans ht2).trans ht3⟩

theorem getD_mem (l : List Nat) (k : Nat) (h : k < l.length) : l.getD k 0 ∈ l := by rw [List.getD_eq_getElem?_getD, List.getElem?_eq_getElem h]; exact List.getElem_mem h
theorem or256 (x c : Nat) (hx : x < 72057594037927936) (hc : c < 256) : bits .or .u64 ((x : Int) * 256) (c : Int) = ((x * 256 + c : Nat) : Int) := by
  have e : x * 256 ||| c = x * 256 + c := by
    have := Nat.two_pow_add_eq_or_of_lt (i := 8) (b := c) (by omega) x
    rw [Nat.mul_comm x 256]; exact this.symm
  rw [show ((x : Int) * 256) = ((x * 256 : Nat) : Int) by omega, u64_or_nat _ _ (by omega) (by omega), e]

set_option maxHeartbeats 2000000 in
theorem number_ok (b h : Nat) (t : List Nat) (w : World) (hr : RR w b (h :: t) false) (hs : h % 128 ≤ 8) (hl : h % 128 ≤ t.length) (h0 : ¬ (0 < h % 128 ∧ t.getD 0 0 = 0)) :
    Calls Try.prog 127 #[.pointer (some ⟨b, 0, none⟩)] w (NumYes b w (val (t.take (h % 128))) (decide (128 ≤ h)) (t.drop (h % 128))) := by
  have hh : h < 256 := by obtain ⟨v, _, h2, _⟩ := hr; exact h2.1 h (by simp)
  have ht256 : ∀ c ∈ t, c < 256 := by obtain ⟨v, _, h2, _⟩ := hr; exact fun c hc => h2.1 c (by simp [hc])
  have H := Lib.hid (take_yes b 1 (h :: t) false w hr (by simp))
  have ha := and128 h hh
  obtain ⟨s, hs'⟩ : ∃ s, h % 128 = s := ⟨_, rfl⟩
  rw [hs'] at ha hs hl h0 ⊢
  clear hr hs'
  have HL := Lib.hid hl
  have HT256 := Lib.hid ht256
  clear hl ht256
  go_enter Try.func127, Try.ntmps127
  go_wp2_with fail
  refine (H.out).mono ?_
  rintro e w1 ⟨v1, rfl, hv1, hb1, hr1, ht1⟩
  obtain ⟨b1, o1, c1, hv, _, _, _, hcell⟩ := hv1.at (by simp)
  have HT := Lib.hid (take_yes b s _ _ w1 hr1 HL.out)
  subst hv
  have hbb : b1 ≠ b := by have := hb1 b1 rfl; omega
  have hc0 : w1.cell? ⟨b1, o1, none⟩ = some (.int .u8 (h : Int)) := hcell 0 (by simp)
  have HB := Lib.hid hbb
  clear hcell hv1 hb1 hr1 hbb
  go_wp2_with fail
  refine (HT.out).mono ?_
  rintro e w2 ⟨v2, rfl, hv2, hb2, hr2, ht2⟩
  have hc2 : w2.cell? ⟨b1, o1, none⟩ = some (.int .u8 (h : Int)) := (ht2.cell (p := ⟨b1, o1, none⟩) (cell_spot hc0).2 HB.out (by simp [Value.ownBlock])).trans hc0
  have htl : (List.take s (List.drop 1 (h :: t))).length = s := by have := HL.out; simp; omega
  have HR := Lib.hid hr2
  clear hc0
  have e1 : List.drop 1 (h :: t) = t := rfl
  rw [e1] at htl HR hv2 hr2
  obtain ⟨a2, c2, hv⟩ := hv2.shapeN' htl
  have hcl : ∀ k, k < s → ∃ b2 o2, a2 = some ⟨b2, o2, none⟩ ∧ w2.cell? ⟨b2, o2 + k, none⟩ = some (.int .u8 (((t.take s).getD k 0 : Nat) : Int)) := by
    intro k hk
    obtain ⟨b2, o2, c3, he, _, _, _, hcell⟩ := hv2.at (by omega)
    rw [hv] at he
    simp only [Value.slice.injEq] at he
    exact ⟨b2, o2, he.1, hcell k (by omega)⟩
  subst hv
  have HCL := Lib.hid hcl
  have HTL := Lib.hid htl
  obtain ⟨v9, e9, _, _, _⟩ := hr2
  have hcb := (two_cells e9).2.1
  have H0 := Lib.hid h0
  have hfirst : 0 < s → ∃ b2 o2 c, a2 = some ⟨b2, o2, none⟩ ∧ w2.cell? ⟨b2, o2, none⟩ = some (.int .u8 ((c : Nat) : Int)) ∧ ((c : Int) == 0) = false := by
    intro hp
    obtain ⟨b2, o2, ha2, hc⟩ := hcl 0 hp
    refine ⟨b2, o2, _, ha2, hc, ?_⟩
    have e : (t.take s).getD 0 0 = t.getD 0 0 := by simp [List.getElem?_take, hp]
    rw [e]
    have : ¬ t.getD 0 0 = 0 := fun hq => h0 ⟨hp, hq⟩
    simpa using this
  have HFI := Lib.hid hfirst
  clear hcl htl hv2 hb2 e9 h0 hfirst H HT e1
  by_cases hp : 0 < s
  · obtain ⟨b2, o2, c, rfl, hcf, hcz⟩ := HFI.out hp
    have hd0 : decide ((0 : Int) < (s : Int)) = true := by simp; omega
    go_wp2
    go_loop [2, 39] (fun n i => ∃ k : Nat, k ≤ s ∧ i = .int .i64 k ∧ n = .int .u64 ((val ((t.take s).take k) : Nat) : Int)) (fun _ i => s - (intOf i).toNat)
    case atStart => exact ⟨0, by omega, rfl, rfl⟩
    case round =>
      obtain ⟨k, hk, rfl, rfl⟩ := hrel
      by_cases hlt : k < s
      · obtain ⟨b3, o3, ha3, hc3⟩ := HCL.out k hlt
        simp only [Option.some.injEq, Addr.mk.injEq, and_true] at ha3
        obtain ⟨rfl, rfl⟩ := ha3
        have hkl : k < (t.take s).length := by rw [HTL.out]; exact hlt
        have HV := Lib.hid (val_take_succ (t.take s) k hkl)
        have hx56 : val ((t.take s).take k) < 72057594037927936 := by
          have h1 := val_take_lt (t.take s) (fun c hc => HT256.out c (List.mem_of_mem_take hc)) k (by omega)
          have h2 : 2 ^ (8 * k) ≤ 2 ^ 56 := Nat.pow_le_pow_right (by omega) (by omega)
          omega
        have hc256 : (t.take s).getD k 0 < 256 := HT256.out _ (List.mem_of_mem_take (getD_mem _ k hkl))
        obtain ⟨x, hx⟩ : ∃ x, val ((t.take s).take k) = x := ⟨_, rfl⟩
        obtain ⟨c', hc'⟩ : ∃ c', (t.take s).getD k 0 = c' := ⟨_, rfl⟩
        rw [hx] at HV hx56 ⊢
        rw [hc'] at HV hc256 hc3
        have hor := or256 x c' hx56 hc256
        have hsh : IntKind.u64.wrap ((x : Int) * 256) = (x : Int) * 256 := IntWalk.u64_in _ ⟨by omega, by omega⟩
        clear hx hc' hkl hx56
        go_wp2
        go_round
        case rel => exact ⟨k + 1, by omega, by go_num, by rw [HV.out]; go_num⟩
        case measure => simp [intOf]; omega
      · obtain rfl : k = s := by omega
        have hfin : (t.take k).take k = t.take k := List.take_of_length_le (by rw [HTL.out]; exact Nat.le_refl _)
        rw [hfin]
        clear hfin
        by_cases hbit : (128 : Int) ≤ (h : Int)
        · have hd : decide ((128 : Int) ≤ (h : Int)) = true := by simpa using hbit
          have HD := Lib.hid (show decide (128 ≤ h) = true by simp; omega)
          go_wp2
          go_quiet (fail)
          go_wp2
          go_ret2
          exact ⟨by rw [HD.out]; rfl, HR.out.kept (below_drewN (Below.refl _ _) _), (ht1.trans ht2).trans (Turn.below (below_drewN (Below.refl _ _) _))⟩
        · have hd : decide ((128 : Int) ≤ (h : Int)) = false := by simpa using hbit
          have HD := Lib.hid (show decide (128 ≤ h) = false by simp; omega)
          clear hbit
          go_wp2
          go_quiet (fail)
          go_wp2
          go_ret2
          exact ⟨by rw [HD.out]; rfl, HR.out.kept (below_drewN (Below.refl _ _) _), (ht1.trans ht2).trans (Turn.below (below_drewN (Below.refl _ _) _))⟩
  · obtain rfl : s = 0 := by omega
    go_wp2
    go_loop [2, 39] (fun n i => n = .int .u64 0 ∧ i = .int .i64 0) (fun _ _ => 0)
    case atStart => exact ⟨rfl, rfl⟩
    case round =>
      obtain ⟨rfl, rfl⟩ := hrel
      by_cases hbit : (128 : Int) ≤ (h : Int)
      · have hd : decide ((128 : Int) ≤ (h : Int)) = true := by simpa using hbit
        have HD := Lib.hid (show decide (128 ≤ h) = true by simp; omega)
        go_wp2
        go_quiet (fail)
        go_wp2
        go_ret2
        exact ⟨by rw [HD.out]; rfl, HR.out.kept (below_drewN (Below.refl _ _) _), (ht1.trans ht2).trans (Turn.below (below_drewN (Below.refl _ _) _))⟩
      · have hd : decide ((128 : Int) ≤ (h : Int)) = false := by simpa using hbit
        have HD := Lib.hid (show decide (128 ≤ h) = false by simp; omega)
        clear hbit
        go_wp2
        go_quiet (fail)
        go_wp2
        go_ret2
        exact ⟨by rw [HD.out]; rfl, HR.out.kept (below_drewN (Below.refl _ _) _), (ht1.trans ht2).trans (Turn.below (below_drewN (Below.refl _ _) _))⟩
/- Walks of a reader's methods. -/
open Go.RowKit

/-- What number answers, by what it reads. -/
def NumRd (b : Nat) (w : World) (r : Option (Nat × Bool × List Nat)) (e : Ending) (w' : World) : Prop :=
  (r = none → NumNo b w e w') ∧ ∀ n bl rest, r = some (n, bl, rest) → NumYes b w n bl rest e w'
theorem number_rd (b : Nat) (ds : List Nat) (bad : Bool) (w : World) (hr : RR w b ds bad) : Calls Try.prog 127 #[.pointer (some ⟨b, 0, none⟩)] w (NumRd b w (rnum ds)) := by
  cases ds with
  | nil => exact (number_empty b bad w hr).mono fun e w' h => ⟨fun _ => h, fun n bl rest hq => by simp [rnum] at hq⟩
  | cons h t =>
    have hb : bad = false := by
      obtain ⟨_, _, _, _, h4⟩ := hr
      cases bad with
      | false => rfl
      | true => simp at h4
    subst hb
    by_cases h1 : 8 < h % 128
    · exact (number_big b h t w hr h1).mono fun e w' hq => ⟨fun _ => hq, fun n bl rest hx => by simp [rnum, h1] at hx⟩
    by_cases h2 : t.length < h % 128
    · exact (number_short b h t w hr (by omega) h2).mono fun e w' hq => ⟨fun _ => hq, fun n bl rest hx => by rw [rnum, if_neg h1, if_pos h2] at hx; cases hx⟩
    by_cases h3 : 0 < h % 128 ∧ t.getD 0 0 = 0
    · exact (number_zero b h t w hr (by omega) (by omega) h3.1 h3.2).mono fun e w' hq => ⟨fun _ => hq, fun n bl rest hx => by rw [rnum, if_neg h1, if_neg h2, if_pos h3] at hx; cases hx⟩
    · refine (number_ok b h t w hr (by omega) (by omega) h3).mono fun e w' hq => ⟨fun hx => ?_, fun n bl rest hx => ?_⟩
      · rw [rnum, if_neg h1, if_neg h2, if_neg h3] at hx; cases hx
      · rw [rnum, if_neg h1, if_neg h2, if_neg h3] at hx
        simp only [Option.some.injEq, Prod.mk.injEq] at hx
        obtain ⟨rfl, rfl, rfl⟩ := hx
        exact hq

/-- What a reading hands back: z, if it fails. -/
def Got (b : Nat) (w : World) (z : Value) (r : Option (Value × List Nat)) (e : Ending) (w' : World) : Prop :=
  (r = none → e = .returned z ∧ RR w' b [] true ∧ Rd b w w') ∧ ∀ v rest, r = some (v, rest) → e = .returned v ∧ RR w' b rest false ∧ Rd b w w'
theorem Got.no {b : Nat} {w w' : World} {z : Value} {r : Option (Value × List Nat)} (hr : r = none) (h1 : RR w' b [] true) (h2 : Rd b w w') : Got b w z r (.returned z) w' :=
  ⟨(fun _ => ⟨rfl, h1, h2⟩), (fun v rest hx => by rw [hr] at hx; cases hx)⟩
theorem Got.yes {b : Nat} {w w' : World} {z v : Value} {rest : List Nat} {r : Option (Value × List Nat)} (hr : r = some (v, rest)) (h1 : RR w' b rest false) (h2 : Rd b w w') : Got b w z r (.returned v) w' :=
  ⟨(fun hx => by rw [hr] at hx; cases hx), (fun v' rest' hx => by rw [hr] at hx; simp only [Option.some.injEq, Prod.mk.injEq] at hx; obtain ⟨rfl, rfl⟩ := hx; exact ⟨rfl, h1, h2⟩)⟩

/-- Num's reading. -/
def rNum (most : Nat) (ds : List Nat) : Option (Nat × List Nat) :=
  match rnum ds with
  | some (n, false, rest) => if n ≤ most then some (n, rest) else none
  | _ => none
def u64v (p : Nat × List Nat) : Value × List Nat := (.int .u64 ((p.1 : Nat) : Int), p.2)
set_option maxHeartbeats 1000000 in
theorem num_rd (b most : Nat) (ds : List Nat) (bad : Bool) (w : World) (hr : RR w b ds bad) :
    Calls Try.prog 100 #[.pointer (some ⟨b, 0, none⟩), .int .u64 (most : Int)] w (Got b w (.int .u64 0) ((rNum most ds).map u64v)) := by
  have hn := number_rd b ds bad w hr
  cases hrn : rnum ds with
  | none =>
    have HQ := Lib.hid (show (rNum most ds).map u64v = none by unfold rNum; rw [hrn]; rfl)
    rw [hrn] at hn
    have HN := Lib.hid hn
    obtain ⟨R, hR⟩ : ∃ R, (rNum most ds).map u64v = R := ⟨_, rfl⟩
    rw [hR] at HQ ⊢
    clear hrn hn hr hR
    have hm : (0 : Int) ≤ (most : Int) := by omega
    go_enter Try.func100, Try.ntmps100
    go_wp2_with fail
    refine (HN.out).mono ?_
    rintro e w1 ⟨hno, _⟩
    obtain ⟨rfl, hr1, ht1⟩ := hno rfl
    go_wp2
    go_ret
    exact Got.no HQ.out hr1 ht1
  | some p =>
    obtain ⟨n, bl, rest⟩ := p
    rw [hrn] at hn
    have HN := Lib.hid hn
    cases bl with
    | true =>
      have HQ := Lib.hid (show (rNum most ds).map u64v = none by unfold rNum; rw [hrn]; rfl)
      obtain ⟨R, hR⟩ : ∃ R, (rNum most ds).map u64v = R := ⟨_, rfl⟩
      rw [hR] at HQ ⊢
      clear hrn hn hr hR
      go_enter Try.func100, Try.ntmps100
      go_wp2_with fail
      refine (HN.out).mono ?_
      rintro e w1 ⟨_, hyes⟩
      obtain ⟨rfl, hr1, ht1⟩ := hyes _ _ _ rfl
      clear hyes
      have HF := Lib.hid (fail_rd b _ _ w1 hr1)
      go_wp2_with (go_at_call 128; refine (HF.out).mono ?_; rintro e w2 ⟨rfl, hr2, ht2⟩)
      go_ret
      exact Got.no HQ.out hr2 (ht1.trans ht2)
    | false =>
      by_cases hle : n ≤ most
      · have HQ := Lib.hid (show (rNum most ds).map u64v = some (.int .u64 (n : Int), rest) by unfold rNum; rw [hrn]; simp [hle, u64v])
        obtain ⟨R, hR⟩ : ∃ R, (rNum most ds).map u64v = R := ⟨_, rfl⟩
        rw [hR] at HQ ⊢
        have hd : decide ((most : Int) < (n : Int)) = false := by simp; omega
        clear hrn hn hr hR
        go_enter Try.func100, Try.ntmps100
        go_wp2_with fail
        refine (HN.out).mono ?_
        rintro e w1 ⟨_, hyes⟩
        obtain ⟨rfl, hr1, ht1⟩ := hyes _ _ _ rfl
        clear hyes
        go_wp2
        go_ret
        exact Got.yes HQ.out hr1 ht1
      · have HQ := Lib.hid (show (rNum most ds).map u64v = none by unfold rNum; rw [hrn]; simp [hle])
        obtain ⟨R, hR⟩ : ∃ R, (rNum most ds).map u64v = R := ⟨_, rfl⟩
        rw [hR] at HQ ⊢
        have hd : decide ((most : Int) < (n : Int)) = true := by simp; omega
        have hgt : most < n := by omega
        clear hrn hn hr hR hle
        go_enter Try.func100, Try.ntmps100
        go_wp2_with fail
        refine (HN.out).mono ?_
        rintro e w1 ⟨_, hyes⟩
        obtain ⟨rfl, hr1, ht1⟩ := hyes _ _ _ rfl
        clear hyes
        have HF := Lib.hid (fail_rd b _ _ w1 hr1)
        go_wp2_with (go_at_call 128; refine (HF.out).mono ?_; rintro e w2 ⟨rfl, hr2, ht2⟩)
        go_ret
        exact Got.no HQ.out hr2 (ht1.trans ht2)
/- Walks of a reader's methods: numbers with a sign, flags, strings, raw bytes. -/
open Go.RowKit

/-- Int's reading. -/
def rInt (ds : List Nat) : Option (Int × List Nat) :=
  match rnum ds with
  | some (n, bl, rest) => if n ≤ 9223372036854775807 then some (if bl then -1 - (n : Int) else (n : Int), rest) else none
  | none => none
def i64v (p : Int × List Nat) : Value × List Nat := (.int .i64 p.1, p.2)
theorem rInt_none {ds : List Nat} (h : rnum ds = none) : rInt ds = none := by unfold rInt; rw [h]
theorem rInt_big {ds rest : List Nat} {n : Nat} {bl : Bool} (h : rnum ds = some (n, bl, rest)) (hn : ¬ n ≤ 9223372036854775807) : rInt ds = none := by unfold rInt; rw [h]; exact if_neg hn
theorem rInt_some {ds rest : List Nat} {n : Nat} {bl : Bool} (h : rnum ds = some (n, bl, rest)) (hn : n ≤ 9223372036854775807) : rInt ds = some (if bl then -1 - (n : Int) else (n : Int), rest) := by unfold rInt; rw [h]; exact if_pos hn
/-- Flag's reading. -/
def rFlag (ds : List Nat) : Option (Bool × List Nat) := (rNum 1 ds).map fun p => (p.1 == 1, p.2)
def boolv (p : Bool × List Nat) : Value × List Nat := (.bool p.1, p.2)
/-- Raw's reading. -/
def rRaw (n : Int) (ds : List Nat) : Option (List Nat × List Nat) := if n < 0 ∨ (ds.length : Int) < n then none else some (ds.take n.toNat, ds.drop n.toNat)
/-- What Raw hands back. -/
def GotRaw (b : Nat) (w : World) (r : Option (List Nat × List Nat)) (e : Ending) (w' : World) : Prop :=
  (r = none → e = .returned (.slice none 0 0) ∧ RR w' b [] true ∧ Rd b w w') ∧ ∀ xs rest, r = some (xs, rest) → ∃ v bad, e = .returned v ∧ RB w' v xs ∧ RR w' b rest bad ∧ Rd b w w' ∧ (bad = true → True)
theorem clone_none (w : World) : Calls Try.prog 58 #[.slice none 0 0] w fun e w' => e = .returned (.slice none 0 0) ∧ w = w' := by
  have hn := fun (w : World) (n c : Nat) => Lib.run_eql_slice_nil (P := Try.prog) w 28 5 none n c 0 0 Try.underlying28
  go_enter Try.func58, Try.ntmps58
  go_wp2
  go_ret
  exact ⟨rfl, rfl⟩
/-- What Raw hands back, if it reads. -/
def RawYes (b : Nat) (w : World) (xs rest : List Nat) (bad : Bool) (e : Ending) (w' : World) : Prop := ∃ v, e = .returned v ∧ RB w' v xs ∧ RR w' b rest bad ∧ Rd b w w'
/-- Text's reading. -/
def rText (most : Int) (ds : List Nat) : Option (List Nat × List Nat) :=
  if most < 0 then none else match rNum most.toNat ds with
  | some (n, rest) => if n ≤ rest.length then some (rest.take n, rest.drop n) else none
  | none => none
def textv (p : List Nat × List Nat) : Value × List Nat := (.string (str p.1), p.2)
set_option maxHeartbeats 1000000 in
theorem text_neg (b : Nat) (n : Int) (ds : List Nat) (bad : Bool) (w : World) (hr : RR w b ds bad) (hn : n < 0) :
    Calls Try.prog 101 #[.pointer (some ⟨b, 0, none⟩), .int .i64 n] w (Got b w (.string ByteArray.empty) ((rText n ds).map textv)) := by
  have HF := Lib.hid (fail_rd b ds bad w hr)
  have HQ := Lib.hid (show (rText n ds).map textv = none by unfold rText; rw [if_pos hn]; rfl)
  obtain ⟨R, hR⟩ : ∃ R, (rText n ds).map textv = R := ⟨_, rfl⟩
  rw [hR] at HQ ⊢
  clear hr hR
  go_enter Try.func101, Try.ntmps101
  go_wp2_with (go_at_call 128; refine (HF.out).mono ?_; rintro e w2 ⟨rfl, hr2, ht2⟩)
  go_ret
  exact Got.no HQ.out hr2 ht2
theorem rText_pos (n : Nat) (ds : List Nat) : rText (n : Int) ds = match rNum n ds with
  | some (m, rest) => if m ≤ rest.length then some (rest.take m, rest.drop m) else none
  | none => none := by
  unfold rText
  rw [if_neg (by omega), Int.toNat_natCast]
set_option maxHeartbeats 1000000 in
theorem text_pos (b n : Nat) (ds : List Nat) (bad : Bool) (w : World) (hr : RR w b ds bad) (h63 : n ≤ 9223372036854775807) :
    Calls Try.prog 101 #[.pointer (some ⟨b, 0, none⟩), .int .i64 (n : Int)] w (Got b w (.string ByteArray.empty) ((rText (n : Int) ds).map textv)) := by
  have HN := Lib.hid (num_rd b n ds bad w hr)
  have hw : IntKind.u64.wrap (n : Int) = (n : Int) := IntWalk.u64_in _ ⟨by omega, by omega⟩
  have h0 : decide ((n : Int) < 0) = false := by simp
  cases hrn : rNum n ds with
  | none =>
    have HQ := Lib.hid (show (rText (n : Int) ds).map textv = none by rw [rText_pos, hrn]; rfl)
    rw [hrn] at HN
    obtain ⟨R, hR⟩ : ∃ R, (rText (n : Int) ds).map textv = R := ⟨_, rfl⟩
    rw [hR] at HQ ⊢
    clear hrn hr hR h63
    go_enter Try.func101, Try.ntmps101
    go_wp2_with fail
    refine (HN.out).mono ?_
    rintro e w1 ⟨hno, _⟩
    obtain ⟨rfl, hr1, ht1⟩ := hno rfl
    clear hno
    have HT := Lib.hid (take_yes b 0 [] true w1 hr1 (by simp))
    go_wp2_with (go_at_call 129; refine (HT.out).mono ?_; rintro e w2 ⟨v2, rfl, hv2, hb2, hr2, ht2⟩; have hcv := rb_string (P := Try.prog) hv2 28 9 5 Try.underlying28 Try.underlying5 Try.underlying9)
    go_ret
    exact Got.no HQ.out hr2 (ht1.trans ht2)
  | some p =>
    obtain ⟨m, rest⟩ := p
    by_cases hle : m ≤ rest.length
    · have HQ := Lib.hid (show (rText (n : Int) ds).map textv = some (.string (str (rest.take m)), rest.drop m) by rw [rText_pos, hrn]; simp [hle, textv])
      have HLE := Lib.hid hle
      clear hle
      rw [hrn] at HN
      obtain ⟨R, hR⟩ : ∃ R, (rText (n : Int) ds).map textv = R := ⟨_, rfl⟩
      rw [hR] at HQ ⊢
      clear hrn hr hR h63
      go_enter Try.func101, Try.ntmps101
      go_wp2_with fail
      refine (HN.out).mono ?_
      rintro e w1 ⟨_, hyes⟩
      obtain ⟨rfl, hr1, ht1⟩ := hyes _ _ rfl
      clear hyes
      have HT := Lib.hid (take_yes b m rest false w1 hr1 HLE.out)
      dsimp only
      go_wp2_with (go_at_call 129; refine (HT.out).mono ?_; rintro e w2 ⟨v2, rfl, hv2, hb2, hr2, ht2⟩; have hcv := rb_string (P := Try.prog) hv2 28 9 5 Try.underlying28 Try.underlying5 Try.underlying9)
      go_ret
      exact Got.yes HQ.out hr2 (ht1.trans ht2)
    · have HQ := Lib.hid (show (rText (n : Int) ds).map textv = none by rw [rText_pos, hrn]; simp [hle])
      have HLE := Lib.hid hle
      clear hle
      rw [hrn] at HN
      obtain ⟨R, hR⟩ : ∃ R, (rText (n : Int) ds).map textv = R := ⟨_, rfl⟩
      rw [hR] at HQ ⊢
      clear hrn hr hR h63
      go_enter Try.func101, Try.ntmps101
      go_wp2_with fail
      refine (HN.out).mono ?_
      rintro e w1 ⟨_, hyes⟩
      obtain ⟨rfl, hr1, ht1⟩ := hyes _ _ rfl
      clear hyes
      have HT := Lib.hid (take_no b m rest false w1 hr1 (by have := HLE.out; omega))
      have hcv := fun (w : World) => run_convert_bytes_nil (P := Try.prog) w 28 5 Try.underlying28 Try.underlying5 0 0 9 Try.underlying9
      dsimp only
      go_wp2_with (go_at_call 129; refine (HT.out).mono ?_; rintro e w2 ⟨rfl, hr2, ht2⟩)
      go_ret
      exact Got.no HQ.out hr2 (ht1.trans ht2)
theorem text_rd (b : Nat) (n : Int) (ds : List Nat) (bad : Bool) (w : World) (hr : RR w b ds bad) (h63 : n ≤ 9223372036854775807) :
    Calls Try.prog 101 #[.pointer (some ⟨b, 0, none⟩), .int .i64 n] w (Got b w (.string ByteArray.empty) ((rText n ds).map textv)) := by
  by_cases hn : n < 0
  · exact text_neg b n ds bad w hr hn
  · obtain ⟨m, rfl⟩ : ∃ m : Nat, n = (m : Int) := ⟨n.toNat, by omega⟩
    exact text_pos b m ds bad w hr (by omega)

/-! Nobody's reader. -/
theorem number_nil (w : World) : Calls Try.prog 127 #[.pointer none] w fun e w' => e = .returned (.tuple #[.int .u64 0, .bool false]) ∧ w = w' := by
  have H := Lib.hid (take_nil 1 w)
  go_enter Try.func127, Try.ntmps127
  go_wp2_with (go_at_call 129; refine (H.out).mono ?_; rintro e w' ⟨rfl, rfl⟩)
  go_ret2
  exact ⟨rfl, rfl⟩
theorem rnum_nil (most : Nat) (w : World) : Calls Try.prog 100 #[.pointer none, .int .u64 (most : Int)] w fun e w' => e = .returned (.int .u64 0) ∧ w = w' := by
  have hm : (0 : Int) ≤ (most : Int) := by omega
  go_enter Try.func100, Try.ntmps100
  go_wp2_with (go_at_call 127; refine (number_nil _).mono ?_; rintro e w' ⟨rfl, rfl⟩)
  go_ret
  exact ⟨rfl, rfl⟩
set_option maxHeartbeats 1000000 in
theorem rtext_nil (n : Int) (w : World) (h63 : n ≤ 9223372036854775807) (h0 : -9223372036854775808 ≤ n) : Calls Try.prog 101 #[.pointer none, .int .i64 n] w fun e w' => e = .returned (.string ByteArray.empty) ∧ w = w' := by
  by_cases hn : n < 0
  · go_enter Try.func101, Try.ntmps101
    go_wp2_with (go_at_call 128; refine (fail_nil _).mono ?_; rintro e w' ⟨rfl, rfl⟩)
    go_ret
    exact ⟨rfl, rfl⟩
  · obtain ⟨m, rfl⟩ : ∃ m : Nat, n = (m : Int) := ⟨n.toNat, by omega⟩
    have hw : IntKind.u64.wrap (m : Int) = (m : Int) := IntWalk.u64_in _ ⟨by omega, by omega⟩
    have hd : decide ((m : Int) < 0) = false := by simp
    have H := Lib.hid (rnum_nil m w)
    have HT := Lib.hid (take_nil 0 w)
    have hcv := fun (w : World) => run_convert_bytes_nil (P := Try.prog) w 28 5 Try.underlying28 Try.underlying5 0 0 9 Try.underlying9
    clear hn h63 h0
    go_enter Try.func101, Try.ntmps101
    go_wp2_with (first
      | (go_at_call 100; refine (H.out).mono ?_; rintro e w' ⟨rfl, rfl⟩)
      | (go_at_call 129; refine (HT.out).mono ?_; rintro e w' ⟨rfl, rfl⟩))
    go_ret
    exact ⟨rfl, rfl⟩
/- What is read as a number is its own encoding. -/

theorem val_cons (c : Nat) (l : List Nat) : val (c :: l) = c * 2 ^ (8 * l.length) + val l := by
  have key : ∀ (l : List Nat) (a : Nat), l.foldl (fun n c => n * 256 + c) a = a * 2 ^ (8 * l.length) + l.foldl (fun n c => n * 256 + c) 0 := by
    intro l
    induction l with
    | nil => intro a; simp
    | cons d l ih =>
      intro a
      rw [List.foldl_cons, List.foldl_cons, ih (a * 256 + d), ih (0 * 256 + d), List.length_cons, Nat.mul_add, Nat.pow_add]
      generalize 2 ^ (8 * l.length) = p
      have e : (2 : Nat) ^ (8 * 1) = 256 := rfl
      rw [e, Nat.zero_mul, Nat.zero_add, Nat.add_mul, Nat.mul_assoc, Nat.mul_comm 256 p, Nat.add_assoc]
  unfold val
  rw [List.foldl_cons, key l (0 * 256 + c), Nat.zero_mul, Nat.zero_add]
theorem val_lt (l : List Nat) (h : ∀ c ∈ l, c < 256) : val l < 2 ^ (8 * l.length) := by
  have := val_take_lt l h l.length (Nat.le_refl _)
  rwa [List.take_length] at this
theorem enc_mod (j a b : Nat) : enc j (a * 2 ^ (8 * j) + b) = enc j b := by
  induction j generalizing a b with
  | zero => rfl
  | succ j ih =>
    have e : a * 2 ^ (8 * (j + 1)) = a * 256 * 2 ^ (8 * j) := by
      rw [Nat.mul_add, Nat.pow_add, Nat.mul_assoc, Nat.mul_comm 256]
    rw [enc, enc, e, ih]
    congr 1
    have hp : 0 < 2 ^ (8 * j) := Nat.two_pow_pos _
    rw [Nat.mul_comm (a * 256), Nat.mul_add_div hp]
    omega
theorem enc_val (l : List Nat) (h : ∀ c ∈ l, c < 256) : enc l.length (val l) = l := by
  induction l with
  | nil => rfl
  | cons c l ih =>
    have hl := fun d hd => h d (List.mem_cons_of_mem c hd)
    have hc := h c (by simp)
    have hv := val_lt l hl
    rw [List.length_cons, enc, val_cons, enc_mod, ih hl]
    congr 1
    have hp : 0 < 2 ^ (8 * l.length) := Nat.two_pow_pos _
    rw [Nat.mul_comm c, Nat.mul_add_div hp, Nat.div_eq_of_lt hv]
    omega
theorem sz_val (l : List Nat) (h : ∀ c ∈ l, c < 256) (h0 : ¬ (0 < l.length ∧ l.getD 0 0 = 0)) : sz (val l) = l.length := by
  refine sz_unique _ _ (val_lt l h) fun hp => ?_
  cases l with
  | nil => simp at hp
  | cons c l =>
    have hc : c ≠ 0 := fun e => h0 ⟨by simp, by simpa using e⟩
    rw [val_cons, List.length_cons, Nat.add_sub_cancel]
    have : 1 * 2 ^ (8 * l.length) ≤ c * 2 ^ (8 * l.length) := Nat.mul_le_mul_right _ (by omega)
    omega
/-- What number reads is what is written of it, with what is left behind it. -/
theorem rnum_enc {ds rest : List Nat} {n : Nat} {bl : Bool} (h : rnum ds = some (n, bl, rest)) (hlt : ∀ c ∈ ds, c < 256) : ds = num (if bl then 128 else 0) n ++ rest ∧ n < 18446744073709551616 := by
  cases ds with
  | nil => simp [rnum] at h
  | cons c t =>
    rw [rnum] at h
    split at h
    · cases h
    rename_i h1
    split at h
    · cases h
    rename_i h2
    split at h
    · cases h
    rename_i h3
    simp only [Option.some.injEq, Prod.mk.injEq] at h
    obtain ⟨rfl, rfl, rfl⟩ := h
    have hc := hlt c (by simp)
    have ht : ∀ d ∈ t.take (c % 128), d < 256 := fun d hd => hlt d (List.mem_cons_of_mem c (List.mem_of_mem_take hd))
    have hl : (t.take (c % 128)).length = c % 128 := by simp; omega
    have h0 : ¬ (0 < (t.take (c % 128)).length ∧ (t.take (c % 128)).getD 0 0 = 0) := by
      rw [hl]
      intro hq
      exact h3 ⟨hq.1, by have := hq.2; simpa [List.getElem?_take, hq.1] using this⟩
    have hs := sz_val _ ht h0
    have he := enc_val _ ht
    rw [hl] at hs he
    refine ⟨?_, ?_⟩
    · unfold num
      rw [hs, he, List.cons_append, List.take_append_drop]
      congr 1
      by_cases hq : 128 ≤ c
      · simp [hq]; omega
      · simp [hq]; omega
    · have h8 := val_lt _ ht
      rw [hl] at h8
      have : 2 ^ (8 * (c % 128)) ≤ 2 ^ 64 := Nat.pow_le_pow_right (by omega) (by omega)
      have e : (2 : Nat) ^ 64 = 18446744073709551616 := by decide
      omega
/- What two readers and two writers leave of each other. -/
open Go.RowKit

/-- A reader's bytes don't lie in another's block. -/
theorem RR.other {w w' : World} {b b' : Nat} {ds es : List Nat} {bad bad' : Bool} (h : RR w b ds bad) (h' : RR w b' es bad') (ht : Rd b' w w') (hne : b ≠ b') : RR w' b ds bad := by
  obtain ⟨v, h1, h2, h3, h4⟩ := h
  obtain ⟨v', k1, k2, _⟩ := h'
  refine ⟨v, (ht.block b (lt_of_block h1) hne (by simp [Value.ownBlock])).trans h1, ?_, h3, h4⟩
  obtain ⟨g1, g2, g3⟩ := h2
  refine ⟨g1, g2, ?_⟩
  rcases g3 with g3 | ⟨x, cap, hv, ha, hm, hc⟩
  · exact .inl g3
  · refine .inr ⟨x, cap, hv, ha, hm, fun i hi => ?_⟩
    have hb : (x.add i).block ≠ b' := by
      intro e
      have hci := hc i hi
      obtain ⟨e2, _⟩ := cell_spot hci
      rw [e2, e] at hci
      unfold World.cell? at hci
      simp only [k1] at hci
      have : (#[v', Value.bool bad'] : Array Value)[(x.add i).off]? = some (Value.int .u8 ((ds.getD i 0 : Nat) : Int)) := by simpa using hci
      rcases h0 : (x.add i).off with _ | _ | k
      · rw [h0] at this
        simp at this
        obtain ⟨a, n, c, hv'⟩ : ∃ a n c, v' = .slice a n c := by
          obtain ⟨a, cap, hq, _, _⟩ := k2.shape
          exact ⟨_, _, _, hq⟩
        rw [hv'] at this
        cases this
      · rw [h0] at this; simp at this
      · rw [h0] at this; simp at this
    rw [ht.cell (p := x.add i) (cell_spot (hc i hi)).2 hb (by simp [Value.ownBlock])]
    exact hc i hi
theorem WR.other {w w' : World} {b b2 base : Nat} {v v2 : Value} {bs : List Nat} (h : WR w b base v bs) (ht : Turn b2 v2 w w') (hne : b ≠ b2) (h1 : v.ownBlock ≠ some b2) (h2 : v2.ownBlock ≠ some b) (h3 : ∀ k, v.ownBlock = some k → v2.ownBlock ≠ some k) : WR w' b base v bs := by
  obtain ⟨g1, g2, g3, g4, g5⟩ := h
  refine ⟨(ht.block b (lt_of_block g1) hne (fun e => h2 e.symm)).trans g1, g2, Nat.le_trans g3 ht.size, ?_, g5⟩
  obtain ⟨k1, k2⟩ := g4
  refine ⟨k1, ?_⟩
  rcases k2 with k2 | ⟨g, cap, cur, hv, hg, hh, r⟩
  · exact .inl k2
  · refine .inr ⟨g, cap, cur, hv, hg, ?_, r⟩
    have hvb : v.ownBlock = some g := by rw [hv]; rfl
    rw [ht.block g (Array.getElem?_eq_some_iff.mp hh).1 (fun e => h1 (by rw [hvb, e])) (fun e => h3 g hvb e.symm)]
    exact hh
/-- Num's reading, whatever it is. -/
theorem num_once (b : Nat) (ds : List Nat) (w : World) (hr : RR w b ds false) :
    Calls Try.prog 100 #[.pointer (some ⟨b, 0, none⟩), .int .u64 18446744073709551615] w fun e w' => ∃ n rest bad, e = .returned (.int .u64 ((n : Nat) : Int)) ∧ RR w' b rest bad ∧ Rd b w w' ∧ n < 18446744073709551616 ∧ (bad = false → ds = num 0 n ++ rest) := by
  have hlt : ∀ c ∈ ds, c < 256 := by obtain ⟨v, _, h2, _⟩ := hr; exact h2.1
  have hn := num_rd b 18446744073709551615 ds false w hr
  have e : ((18446744073709551615 : Nat) : Int) = 18446744073709551615 := rfl
  rw [e] at hn
  refine hn.mono fun e w' h => ?_
  cases hq : rNum 18446744073709551615 ds with
  | none =>
    rw [hq] at h
    obtain ⟨h1, h2, h3⟩ := h.1 rfl
    exact ⟨0, [], true, h1, h2, h3, by omega, by simp⟩
  | some p =>
    obtain ⟨n, rest⟩ := p
    rw [hq] at h
    obtain ⟨h1, h2, h3⟩ := h.2 _ _ rfl
    unfold rNum at hq
    cases hp : rnum ds with
    | none => rw [hp] at hq; simp at hq
    | some q =>
      obtain ⟨m, bl, r⟩ := q
      rw [hp] at hq
      cases bl with
      | true => simp at hq
      | false =>
        obtain ⟨hx, hy⟩ := rnum_enc hp hlt
        have hm : m = n ∧ r = rest := by
          by_cases hle : m ≤ 18446744073709551615
          · simpa [hle] using hq
          · simp [hle] at hq
        obtain ⟨rfl, rfl⟩ := hm
        exact ⟨m, r, false, h1, h2, h3, hy, fun _ => by simpa using hx⟩
/- What was written is read as it was: the bytes. -/
open Go.RowKit

theorem val_enc_mod (j n : Nat) : val (enc j n) = n % 2 ^ (8 * j) := by
  induction j with
  | zero => simp [enc, val, Nat.mod_one]
  | succ j ih =>
    rw [enc, val_cons, enc_len, ih, show 8 * (j + 1) = 8 * j + 8 by omega, Nat.pow_add, show (2 : Nat) ^ 8 = 256 from rfl, Nat.mod_mul, Nat.mul_comm (n / 2 ^ (8 * j) % 256), Nat.add_comm]
theorem enc_head (n : Nat) (h : 0 < sz n) (hs : n < 18446744073709551616) : (enc (sz n) n).getD 0 0 ≠ 0 := by
  have h1 := sz_low n h
  have h2 := sz_up n
  rw [enc_get (sz n) n 0 (sz n - 1) (by omega)]
  have hp : 0 < 2 ^ (8 * (sz n - 1)) := Nat.two_pow_pos _
  have h3 : 0 < n / 2 ^ (8 * (sz n - 1)) := Nat.div_pos h1 hp
  have h4 : n / 2 ^ (8 * (sz n - 1)) < 256 := by
    rw [Nat.div_lt_iff_lt_mul hp, show (256 : Nat) = 2 ^ 8 from rfl, ← Nat.pow_add, show 8 + 8 * (sz n - 1) = 8 * sz n by omega]
    exact h2
  omega
/-- A number that was written reads as itself, whatever stands behind it. -/
theorem rnum_back (n : Nat) (bl : Bool) (rest : List Nat) (h : n < 18446744073709551616) : rnum (num (if bl then 128 else 0) n ++ rest) = some (n, bl, rest) := by
  have h8 := sz_le n h
  have hm : ((if bl then 128 else 0) + sz n) % 128 = sz n := by cases bl <;> simp <;> omega
  have hb : decide (128 ≤ (if bl then 128 else 0) + sz n) = bl := by
    cases bl
    · simp; omega
    · simp
  have hl := enc_len (sz n) n
  have ht : (enc (sz n) n ++ rest).take (sz n) = enc (sz n) n := by rw [List.take_append_of_le_length (by omega), List.take_of_length_le (by omega)]
  have hd : (enc (sz n) n ++ rest).drop (sz n) = rest := by rw [List.drop_append_of_le_length (by omega), List.drop_of_length_le (by omega)]; rfl
  unfold num
  rw [List.cons_append, rnum, hm, hb, ht, hd, val_enc_mod, Nat.mod_eq_of_lt (sz_up n), if_neg (by omega), if_neg (by rw [List.length_append]; omega), if_neg]
  rintro ⟨h1, h2⟩
  refine enc_head n h1 h ?_
  have h3 : (enc (sz n) n).getD 0 0 = (enc (sz n) n ++ rest).getD 0 0 := by rw [List.getD_eq_getElem?_getD, List.getD_eq_getElem?_getD, List.getElem?_append_left (by omega)]
  exact h3.trans h2
theorem rNum_back (n : Nat) (rest : List Nat) (h : n < 18446744073709551616) (most : Nat) (hm : n ≤ most) : rNum most (num 0 n ++ rest) = some (n, rest) := by
  have := rnum_back n false rest h
  unfold rNum
  rw [show num 0 n ++ rest = num (if false = true then 128 else 0) n ++ rest from rfl, this]
  exact if_pos hm
theorem rInt_back (z : Int) (rest : List Nat) (h1 : -9223372036854775808 ≤ z) (h2 : z ≤ 9223372036854775807) : rInt (intB z ++ rest) = some (z, rest) := by
  unfold intB
  split
  · have := rnum_back (-1 - z).toNat true rest (by omega)
    rw [if_pos rfl] at this
    rw [rInt_some (n := (-1 - z).toNat) (bl := true) this (by omega)]
    simp only [if_true]
    congr 2
    omega
  · have := rnum_back z.toNat false rest (by omega)
    rw [if_neg Bool.false_ne_true] at this
    rw [rInt_some (n := z.toNat) (bl := false) this (by omega)]
    simp only [Bool.false_eq_true, if_false]
    congr 2
    omega
theorem rFlag_back (x : Bool) (rest : List Nat) : rFlag (flagB x ++ rest) = some (x, rest) := by
  unfold rFlag flagB
  cases x
  · simp only [Bool.false_eq_true, if_false]
    rw [rNum_back 0 rest (by omega) 1 (by omega)]; rfl
  · simp only [if_true]
    rw [rNum_back 1 rest (by omega) 1 (by omega)]; rfl
theorem rText_back (s : ByteArray) (rest : List Nat) (hs : s.size ≤ 40000) : rText (s.size : Int) (num 0 s.size ++ sB s ++ rest) = some (sB s, rest) := by
  unfold rText
  rw [if_neg (by omega), List.append_assoc, Int.toNat_natCast, rNum_back s.size _ (by omega) s.size (Nat.le_refl _)]
  have hl := sB_len s
  simp only [List.length_append, hl, if_pos (Nat.le_add_right _ _)]
  congr 2
  · rw [List.take_append_of_le_length (by omega), List.take_of_length_le (by omega)]
  · rw [List.drop_append_of_le_length (by omega), List.drop_of_length_le (by omega)]; rfl
theorem str_sB (s : ByteArray) : str (sB s) = s := by
  unfold str sB
  have e : (UInt8.ofNat ∘ UInt8.toNat) = id := by funext c; simp
  rw [List.map_map, e, List.map_id]
end Go.Proofs.Ythefnakbpalecaa
