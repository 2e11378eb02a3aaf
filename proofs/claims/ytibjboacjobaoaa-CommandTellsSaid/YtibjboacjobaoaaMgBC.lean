import Derived.Test.YtibjboacjobaoaaNkR
import Derived.Test.YtibjboacjobaoaaMgAS
import Derived.Deep.QuietTactic
import Derived.BigQuiet
import Derived.WalkSmall
import Derived.Laws.DeepNot64
namespace Go.Proofs.Ytibjboacjobaoaa
open Go.RowKit
/- Whether there may be a command: the reference, for every command; the two agree. -/
open Go.RowKit
theorem sameL_two (F T : Nat → Int) (n n' : Nat) : sameL F T F T n n' = decide (n = n') := by
  unfold sameL
  rw [sameB_self]
  simp
theorem seq_2 (kd cl rq id cn tm off : Int) (n m : Nat) (tc : Int) (l : Nat) (tr tb : Int) (F T G U B P : Nat → Int) (hk : kd = 2) (hc : ¬ 8 < cl) : (cmdEq kd kd cl cl rq rq id id 0 cn 0 tm off off F T F T n n G U G U m m 0 tc B P B P 0 l 0 tr 0 tb && decide (checkE off F T n G U m = 0)) = soundB kd cl rq id cn tm off n m tc l tr tb F T G U B P := by
  unfold soundB leftB cmdEq calEq conEq
  simp only [sameL_two]
  generalize goodC tc l tr tb B P = g
  generalize checkE off F T n G U m = ce
  subst hk
  rw [Bool.eq_iff_iff]
  cases g <;> simp [idB] <;> omega
theorem seq_3 (kd cl rq id cn tm off : Int) (n m : Nat) (tc : Int) (l : Nat) (tr tb : Int) (F T G U B P : Nat → Int) (hk : kd = 3) (hc : ¬ 8 < cl) : (cmdEq kd kd cl cl rq rq id id 0 cn 0 tm 0 off F T F T 0 n G U G U 0 m tc tc B P B P l l tr tr tb tb && goodC tc l tr tb B P) = soundB kd cl rq id cn tm off n m tc l tr tb F T G U B P := by
  unfold soundB leftB cmdEq calEq conEq
  simp only [sameL_two]
  generalize goodC tc l tr tb B P = g
  generalize checkE off F T n G U m = ce
  subst hk
  rw [Bool.eq_iff_iff]
  cases g <;> simp [idB] <;> omega
theorem seq_4 (kd cl rq id cn tm off : Int) (n m : Nat) (tc : Int) (l : Nat) (tr tb : Int) (F T G U B P : Nat → Int) (hk : kd = 4) (hc : ¬ 8 < cl) : (cmdEq kd kd cl cl rq rq id id cn cn 0 tm 0 off F T F T 0 n G U G U 0 m 0 tc B P B P 0 l 0 tr 0 tb && (decide (0 ≤ cn) && decide (cn ≤ 15))) = soundB kd cl rq id cn tm off n m tc l tr tb F T G U B P := by
  unfold soundB leftB cmdEq calEq conEq
  simp only [sameL_two]
  generalize goodC tc l tr tb B P = g
  generalize checkE off F T n G U m = ce
  subst hk
  rw [Bool.eq_iff_iff]
  cases g <;> simp [idB] <;> omega
theorem seq_9 (kd cl rq id cn tm off : Int) (n m : Nat) (tc : Int) (l : Nat) (tr tb : Int) (F T G U B P : Nat → Int) (hk : kd = 9) (hc : ¬ 8 < cl) : (cmdEq kd kd cl cl rq rq 0 id 0 cn tm tm 0 off F T F T 0 n G U G U 0 m 0 tc B P B P 0 l 0 tr 0 tb && (decide (0 ≤ cn) && decide (cn ≤ 15))) = soundB kd cl rq id cn tm off n m tc l tr tb F T G U B P := by
  unfold soundB leftB cmdEq calEq conEq
  simp only [sameL_two]
  generalize goodC tc l tr tb B P = g
  generalize checkE off F T n G U m = ce
  subst hk
  rw [Bool.eq_iff_iff]
  cases g <;> simp [idB] <;> omega
theorem seq_1 (kd cl rq id cn tm off : Int) (n m : Nat) (tc : Int) (l : Nat) (tr tb : Int) (F T G U B P : Nat → Int) (hk : kd = 1) (hc : ¬ 8 < cl) : (cmdEq kd kd cl cl rq rq 0 id 0 cn 0 tm 0 off F T F T 0 n G U G U 0 m 0 tc B P B P 0 l 0 tr 0 tb && (decide (0 ≤ cn) && decide (cn ≤ 15))) = soundB kd cl rq id cn tm off n m tc l tr tb F T G U B P := by
  unfold soundB leftB cmdEq calEq conEq
  simp only [sameL_two]
  generalize goodC tc l tr tb B P = g
  generalize checkE off F T n G U m = ce
  subst hk
  rw [Bool.eq_iff_iff]
  cases g <;> simp [idB] <;> omega
theorem seq_id (kd cl rq id cn tm off : Int) (n m : Nat) (tc : Int) (l : Nat) (tr tb : Int) (F T G U B P : Nat → Int) (hk : kd ≠ 1 ∧ kd ≠ 9 ∧ kd ≠ 2 ∧ kd ≠ 3 ∧ kd ≠ 4) (hk1 : 1 ≤ kd) (hk2 : kd ≤ 12) (hc : ¬ 8 < cl) : (cmdEq kd kd cl cl rq rq id id 0 cn 0 tm 0 off F T F T 0 n G U G U 0 m 0 tc B P B P 0 l 0 tr 0 tb && (decide (0 ≤ cn) && decide (cn ≤ 15))) = soundB kd cl rq id cn tm off n m tc l tr tb F T G U B P := by
  unfold soundB leftB cmdEq calEq conEq
  simp only [sameL_two]
  generalize goodC tc l tr tb B P = g
  generalize checkE off F T n G U m = ce
  have hi : idB kd = true := by unfold idB; simp; omega
  obtain ⟨a1, a9, a2, a3, a4⟩ := hk
  rw [Bool.eq_iff_iff]
  cases g <;> simp [idB, hi, a1, a9, a2, a3, a4] <;> omega
theorem rsound_any (kd cl rq id cn tm off : Int) (a : Option Addr) (n ca : Nat) (b : Option Addr) (m cb : Nat) (tc : Int) (d : Option Addr) (l cd : Nat) (tr tb : Int) (F T G U B P : Nat → Int) (w : World) (hS : Sps w a n F T) (hR : Sps w b m G U) (hD : Sps w d l B P) :
    Calls Try.prog 15 #[cmdV kd cl rq id cn tm off a n ca b m cb tc d l cd tr tb] w fun e w' => e = .returned (.bool (soundB kd cl rq id cn tm off n m tc l tr tb F T G U B P)) ∧ Below w.heap.size w w' := by
  by_cases hl : kd < 1
  · have hs : soundB kd cl rq id cn tm off n m tc l tr tb F T G U B P = false := by
      unfold soundB
      rw [decide_eq_false (show ¬ 1 ≤ kd by omega)]
      rfl
    rw [hs]
    exact rsound_lo kd cl rq id cn tm off a n ca b m cb tc d l cd tr tb hl w
  by_cases hh : 12 < kd
  · have hs : soundB kd cl rq id cn tm off n m tc l tr tb F T G U B P = false := by
      unfold soundB
      rw [decide_eq_false (show ¬ kd ≤ 12 by omega), Bool.and_false]
      rfl
    rw [hs]
    exact rsound_hi kd cl rq id cn tm off a n ca b m cb tc d l cd tr tb hh w
  by_cases hc : 8 < cl
  · have hs : soundB kd cl rq id cn tm off n m tc l tr tb F T G U B P = false := by
      unfold soundB
      rw [decide_eq_true hc]
      simp
    rw [hs]
    exact rsound_cl kd cl rq id cn tm off a n ca b m cb tc d l cd tr tb (by omega) (by omega) hc w
  by_cases h2 : kd = 2
  · rw [← seq_2 kd cl rq id cn tm off n m tc l tr tb F T G U B P h2 hc]
    exact rsound_2 kd cl rq id cn tm off a n ca b m cb tc d l cd tr tb F T G U B P h2 hc w hS hR hD
  by_cases h3 : kd = 3
  · rw [← seq_3 kd cl rq id cn tm off n m tc l tr tb F T G U B P h3 hc]
    exact rsound_3 kd cl rq id cn tm off a n ca b m cb tc d l cd tr tb F T G U B P h3 hc w hS hR hD
  by_cases h4 : kd = 4
  · rw [← seq_4 kd cl rq id cn tm off n m tc l tr tb F T G U B P h4 hc]
    exact rsound_4 kd cl rq id cn tm off a n ca b m cb tc d l cd tr tb F T G U B P h4 hc w hS hR hD
  by_cases h9 : kd = 9
  · rw [← seq_9 kd cl rq id cn tm off n m tc l tr tb F T G U B P h9 hc]
    exact rsound_9 kd cl rq id cn tm off a n ca b m cb tc d l cd tr tb F T G U B P h9 hc w hS hR hD
  by_cases h1 : kd = 1
  · rw [← seq_1 kd cl rq id cn tm off n m tc l tr tb F T G U B P h1 hc]
    exact rsound_1 kd cl rq id cn tm off a n ca b m cb tc d l cd tr tb F T G U B P h1 hc w hS hR hD
  rw [← seq_id kd cl rq id cn tm off n m tc l tr tb F T G U B P ⟨h1, h9, h2, h3, h4⟩ (by omega) (by omega) hc]
  exact rsound_id kd cl rq id cn tm off a n ca b m cb tc d l cd tr tb F T G U B P ⟨h1, h9, h2, h3, h4⟩ (by omega) (by omega) hc w hS hR hD
/- The walk of a reader's number. -/
open Go.RowKit

/-- The number that some bytes are, the most significant first. -/
def val (l : List Nat) : Nat := l.foldl (fun n c => n * 256 + c) 0
theorem val_snoc (l : List Nat) (c : Nat) : val (l ++ [c]) = val l * 256 + c := by simp only [val, List.foldl_append, List.foldl_cons, List.foldl_nil]
theorem val_take_succ (l : List Nat) (k : Nat) (hk : k < l.length) : val (l.take (k + 1)) = val (l.take k) * 256 + l.getD k 0 := by
  rw [take_succ_getD' l k hk, val_snoc]
theorem val_take_lt (l : List Nat) (h : ∀ c ∈ l, c < 256) : ∀ k, k ≤ l.length → val (l.take k) < 2 ^ (8 * k) := by
  intro k
  induction k with
  | zero => intro _; simp [val]
  | succ k ih =>
    intro hk
    have h1 := ih (by omega)
    have h2 : l.getD k 0 < 256 := h _ (by simp [show k < l.length by omega])
    rw [val_take_succ l k (by omega), Nat.mul_add, Nat.pow_add]
    omega
/-- What number reads: none, if it fails; else the number, whether it is below 0, and what is left. -/
def rnum : List Nat → Option (Nat × Bool × List Nat)
  | [] => none
  | h :: t => if 8 < h % 128 then none else if t.length < h % 128 then none else if 0 < h % 128 ∧ t.getD 0 0 = 0 then none else some (val (t.take (h % 128)), decide (128 ≤ h), t.drop (h % 128))
def NumNo (b : Nat) (w : World) (e : Ending) (w' : World) : Prop := e = .returned (.tuple #[.int .u64 0, .bool false]) ∧ RR w' b [] true ∧ Rd b w w'
def NumYes (b : Nat) (w : World) (n : Nat) (below : Bool) (rest : List Nat) (e : Ending) (w' : World) : Prop := e = .returned (.tuple #[.int .u64 (n : Int), .bool below]) ∧ RR w' b rest false ∧ Rd b w w'
theorem and128 (h : Nat) (hh : h < 256) : bits .andNot .u8 (h : Int) 128 = ((h % 128 : Nat) : Int) := by
  have all : ∀ j : Fin 256, bits .andNot .u8 ((j.val : Nat) : Int) 128 = ((j.val % 128 : Nat) : Int) := by decide +kernel
  exact all ⟨h, hh⟩

theorem number_empty (b : Nat) (bad : Bool) (w : World) (hr : RR w b [] bad) : Calls Try.prog 121 #[.pointer (some ⟨b, 0, none⟩)] w (NumNo b w) := by
  have H := Lib.hid (take_no b 1 [] bad w hr (by simp))
  clear hr
  go_enter Try.func121, Try.ntmps121
  go_wp2_with (go_at_call 138; refine (H.out).mono ?_; rintro e w' ⟨rfl, hr', ht⟩)
  go_ret2
  exact ⟨rfl, hr', ht⟩

set_option maxHeartbeats 1000000 in
theorem number_big (b h : Nat) (t : List Nat) (w : World) (hr : RR w b (h :: t) false) (hs : 8 < h % 128) : Calls Try.prog 121 #[.pointer (some ⟨b, 0, none⟩)] w (NumNo b w) := by
  have hh : h < 256 := by obtain ⟨v, _, h2, _⟩ := hr; exact h2.1 h (by simp)
  have H := Lib.hid (take_yes b 1 (h :: t) false w hr (by simp))
  have ha := and128 h hh
  obtain ⟨s, hs'⟩ : ∃ s, h % 128 = s := ⟨_, rfl⟩
  rw [hs'] at ha hs
  clear hr hs'
  go_enter Try.func121, Try.ntmps121
  go_wp2_with fail
  refine (H.out).mono ?_
  rintro e w1 ⟨v1, rfl, hv1, hb1, hr1, ht1⟩
  obtain ⟨b1, o1, c1, rfl, _, _, _, hcell⟩ := hv1.at (by simp)
  have hc0 : w1.cell? ⟨b1, o1, none⟩ = some (.int .u8 (h : Int)) := hcell 0 (by simp)
  have HF := Lib.hid (fail_rd b _ _ w1 hr1)
  clear hcell hv1 hb1 hr1
  go_wp2_with (go_at_call 105; refine (HF.out).mono ?_; rintro e w2 ⟨rfl, hr2, ht2⟩)
  go_ret2
  exact ⟨rfl, hr2, ht1.trans ht2⟩

set_option maxHeartbeats 1000000 in
theorem number_short (b h : Nat) (t : List Nat) (w : World) (hr : RR w b (h :: t) false) (hs : h % 128 ≤ 8) (hl : t.length < h % 128) : Calls Try.prog 121 #[.pointer (some ⟨b, 0, none⟩)] w (NumNo b w) := by
  have hh : h < 256 := by obtain ⟨v, _, h2, _⟩ := hr; exact h2.1 h (by simp)
  have H := Lib.hid (take_yes b 1 (h :: t) false w hr (by simp))
  have ha := and128 h hh
  obtain ⟨s, hs'⟩ : ∃ s, h % 128 = s := ⟨_, rfl⟩
  rw [hs'] at ha hs hl
  clear hr hs'
  have HL := Lib.hid hl
  clear hl
  go_enter Try.func121, Try.ntmps121
  go_wp2_with fail
  refine (H.out).mono ?_
  rintro e w1 ⟨v1, rfl, hv1, hb1, hr1, ht1⟩
  obtain ⟨b1, o1, c1, hv, _, _, _, hcell⟩ := hv1.at (by simp)
  have HT := Lib.hid (take_no b s _ _ w1 hr1 (by have := HL.out; simpa using this))
  subst hv
  have hbb : b1 ≠ b := by have := hb1 b1 rfl; omega
  have hc0 : w1.cell? ⟨b1, o1, none⟩ = some (.int .u8 (h : Int)) := hcell 0 (by simp)
  have HB := Lib.hid hbb
  clear hcell hv1 hb1 hr1 hbb
  go_wp2_with fail
  refine (HT.out).mono ?_
  rintro e w2 ⟨rfl, hr2, ht2⟩
  have hc2 : w2.cell? ⟨b1, o1, none⟩ = some (.int .u8 (h : Int)) := (ht2.cell (p := ⟨b1, o1, none⟩) (cell_spot hc0).2 HB.out (by simp [Value.ownBlock])).trans hc0
  have HR := Lib.hid hr2
  obtain ⟨v2, e2, _, _, _⟩ := hr2
  have hcb := (two_cells e2).2.1
  clear e2 hc0
  go_wp2
  go_loop [2, 39] (fun s i => s = .int .u64 0 ∧ i = .int .i64 0) (fun _ _ => 0)
  case atStart => exact ⟨rfl, rfl⟩
  case round =>
    obtain ⟨rfl, rfl⟩ := hrel
    by_cases hbit : (128 : Int) ≤ (h : Int)
    · have hd : decide ((128 : Int) ≤ (h : Int)) = true := by simpa using hbit
      go_wp2
      go_quiet (fail)
      go_wp2
      go_ret2
      exact ⟨rfl, HR.out.kept (below_drewN (Below.refl _ _) _), (ht1.trans ht2).trans (Turn.below (below_drewN (Below.refl _ _) _))⟩
    · have hd : decide ((128 : Int) ≤ (h : Int)) = false := by simpa using hbit
      clear hbit
      go_wp2
      go_quiet (fail)
      go_wp2
      go_ret2
      exact ⟨rfl, HR.out.kept (below_drewN (Below.refl _ _) _), (ht1.trans ht2).trans (Turn.below (below_drewN (Below.refl _ _) _))⟩
set_option maxHeartbeats 1000000 in
theorem number_zero (b h : Nat) (t : List Nat) (w : World) (hr : RR w b (h :: t) false) (hs : h % 128 ≤ 8) (hl : h % 128 ≤ t.length) (h0 : 0 < h % 128) (hz : t.getD 0 0 = 0) : Calls Try.prog 121 #[.pointer (some ⟨b, 0, none⟩)] w (NumNo b w) := by
  have hh : h < 256 := by obtain ⟨v, _, h2, _⟩ := hr; exact h2.1 h (by simp)
  have ht256 : ∀ c ∈ t, c < 256 := by obtain ⟨v, _, h2, _⟩ := hr; exact fun c hc => h2.1 c (by simp [hc])
  have H := Lib.hid (take_yes b 1 (h :: t) false w hr (by simp))
  have ha := and128 h hh
  obtain ⟨s, hs'⟩ : ∃ s, h % 128 = s := ⟨_, rfl⟩
  rw [hs'] at ha hs hl h0
  clear hr hs'
  have HL := Lib.hid hl
  have HT256 := Lib.hid ht256
  clear hl ht256
  go_enter Try.func121, Try.ntmps121
  go_wp2_with fail
  refine (H.out).mono ?_
  rintro e w1 ⟨v1, rfl, hv1, hb1, hr1, ht1⟩
  obtain ⟨b1, o1, c1, hv, _, _, _, hcell⟩ := hv1.at (by simp)
  have HT := Lib.hid (take_yes b s _ _ w1 hr1 HL.out)
  subst hv
  have hbb : b1 ≠ b := by have := hb1 b1 rfl; omega
  have hc0 : w1.cell? ⟨b1, o1, none⟩ = some (.int .u8 (h : Int)) := hcell 0 (by simp)
  have HB := Lib.hid hbb
  clear hcell hv1 hb1 hr1 hbb
  go_wp2_with fail
  refine (HT.out).mono ?_
  rintro e w2 ⟨v2, rfl, hv2, hb2, hr2, ht2⟩
  have hc2 : w2.cell? ⟨b1, o1, none⟩ = some (.int .u8 (h : Int)) := (ht2.cell (p := ⟨b1, o1, none⟩) (cell_spot hc0).2 HB.out (by simp [Value.ownBlock])).trans hc0
  have htl : (List.take s (List.drop 1 (h :: t))).length = s := by have := HL.out; simp; omega
  have HR := Lib.hid hr2
  clear hc0
  obtain ⟨b2, o2, c2, hv, _, _, _, hcell⟩ := hv2.at (by rw [htl]; exact h0)
  rw [htl] at hv
  subst hv
  have hcz : w2.cell? ⟨b2, o2, none⟩ = some (.int .u8 0) := by
    have := hcell 0 (by rw [htl]; exact h0)
    rw [Nat.add_zero] at this
    rw [this]
    have e : (List.take s (List.drop 1 (h :: t))).getD 0 0 = t.getD 0 0 := by simp [List.getElem?_take, h0]
    rw [e, hz]; rfl
  have HF := Lib.hid (fail_rd b _ _ w2 hr2)
  have hd0 : decide ((0 : Int) < (s : Int)) = true := by simp; omega
  clear hcell hv2 hb2 hr2 hz htl
  go_wp2_with (go_at_call 105; refine (HF.out).mono ?_; rintro e w3 ⟨rfl, hr3, ht3⟩)
  go_ret2
  exact ⟨rfl, hr3, (ht1.trans ht2).trans ht3⟩

theorem getD_mem (l : List Nat) (k : Nat) (h : k < l.length) : l.getD k 0 ∈ l := by rw [List.getD_eq_getElem?_getD, List.getElem?_eq_getElem h]; exact List.getElem_mem h
theorem or256 (x c : Nat) (hx : x < 72057594037927936) (hc : c < 256) : bits .or .u64 ((x : Int) * 256) (c : Int) = ((x * 256 + c : Nat) : Int) := by
  have e : x * 256 ||| c = x * 256 + c := by
    have := Nat.two_pow_add_eq_or_of_lt (i := 8) (b := c) (by omega) x
    rw [Nat.mul_comm x 256]; exact this.symm
  rw [show ((x : Int) * 256) = ((x * 256 : Nat) : Int) by omega, u64_or_nat _ _ (by omega) (by omega), e]

set_option maxHeartbeats 2000000 in
theorem number_ok (b h : Nat) (t : List Nat) (w : World) (hr : RR w b (h :: t) false) (hs : h % 128 ≤ 8) (hl : h % 128 ≤ t.length) (h0 : ¬ (0 < h % 128 ∧ t.getD 0 0 = 0)) :
    Calls Try.prog 121 #[.pointer (some ⟨b, 0, none⟩)] w (NumYes b w (val (t.take (h % 128))) (decide (128 ≤ h)) (t.drop (h % 128))) := by
  have hh : h < 256 := by obtain ⟨v, _, h2, _⟩ := hr; exact h2.1 h (by simp)
  have ht256 : ∀ c ∈ t, c < 256 := by obtain ⟨v, _, h2, _⟩ := hr; exact fun c hc => h2.1 c (by simp [hc])
  have H := Lib.hid (take_yes b 1 (h :: t) false w hr (by simp))
  have ha := and128 h hh
  obtain ⟨s, hs'⟩ : ∃ s, h % 128 = s := ⟨_, rfl⟩
  rw [hs'] at ha hs hl h0 ⊢
  clear hr hs'
  have HL := Lib.hid hl
  have HT256 := Lib.hid ht256
  clear hl ht256
  go_enter Try.func121, Try.ntmps121
  go_wp2_with fail
  refine (H.out).mono ?_
  rintro e w1 ⟨v1, rfl, hv1, hb1, hr1, ht1⟩
  obtain ⟨b1, o1, c1, hv, _, _, _, hcell⟩ := hv1.at (by simp)
  have HT := Lib.hid (take_yes b s _ _ w1 hr1 HL.out)
  subst hv
  have hbb : b1 ≠ b := by have := hb1 b1 rfl; omega
  have hc0 : w1.cell? ⟨b1, o1, none⟩ = some (.int .u8 (h : Int)) := hcell 0 (by simp)
  have HB := Lib.hid hbb
  clear hcell hv1 hb1 hr1 hbb
  go_wp2_with fail
  refine (HT.out).mono ?_
  rintro e w2 ⟨v2, rfl, hv2, hb2, hr2, ht2⟩
  have hc2 : w2.cell? ⟨b1, o1, none⟩ = some (.int .u8 (h : Int)) := (ht2.cell (p := ⟨b1, o1, none⟩) (cell_spot hc0).2 HB.out (by simp [Value.ownBlock])).trans hc0
  have htl : (List.take s (List.drop 1 (h :: t))).length = s := by have := HL.out; simp; omega
  have HR := Lib.hid hr2
  clear hc0
  have e1 : List.drop 1 (h :: t) = t := rfl
  rw [e1] at htl HR hv2 hr2
  obtain ⟨a2, c2, hv⟩ := hv2.shapeN' htl
  have hcl : ∀ k, k < s → ∃ b2 o2, a2 = some ⟨b2, o2, none⟩ ∧ w2.cell? ⟨b2, o2 + k, none⟩ = some (.int .u8 (((t.take s).getD k 0 : Nat) : Int)) := by
    intro k hk
    obtain ⟨b2, o2, c3, he, _, _, _, hcell⟩ := hv2.at (by omega)
    rw [hv] at he
    simp only [Value.slice.injEq] at he
    exact ⟨b2, o2, he.1, hcell k (by omega)⟩
  subst hv
  have HCL := Lib.hid hcl
  have HTL := Lib.hid htl
  obtain ⟨v9, e9, _, _, _⟩ := hr2
  have hcb := (two_cells e9).2.1
  have H0 := Lib.hid h0
  have hfirst : 0 < s → ∃ b2 o2 c, a2 = some ⟨b2, o2, none⟩ ∧ w2.cell? ⟨b2, o2, none⟩ = some (.int .u8 ((c : Nat) : Int)) ∧ ((c : Int) == 0) = false := by
    intro hp
    obtain ⟨b2, o2, ha2, hc⟩ := hcl 0 hp
    refine ⟨b2, o2, _, ha2, hc, ?_⟩
    have e : (t.take s).getD 0 0 = t.getD 0 0 := by simp [List.getElem?_take, hp]
    rw [e]
    have : ¬ t.getD 0 0 = 0 := fun hq => h0 ⟨hp, hq⟩
    simpa using this
  have HFI := Lib.hid hfirst
  clear hcl htl hv2 hb2 e9 h0 hfirst H HT e1
  by_cases hp : 0 < s
  · obtain ⟨b2, o2, c, rfl, hcf, hcz⟩ := HFI.out hp
    have hd0 : decide ((0 : Int) < (s : Int)) = true := by simp; omega
    go_wp2
    go_loop [2, 39] (fun n i => ∃ k : Nat, k ≤ s ∧ i = .int .i64 k ∧ n = .int .u64 ((val ((t.take s).take k) : Nat) : Int)) (fun _ i => s - (intOf i).toNat)
    case atStart => exact ⟨0, by omega, rfl, rfl⟩
    case round =>
      obtain ⟨k, hk, rfl, rfl⟩ := hrel
      by_cases hlt : k < s
      · obtain ⟨b3, o3, ha3, hc3⟩ := HCL.out k hlt
        simp only [Option.some.injEq, Addr.mk.injEq, and_true] at ha3
        obtain ⟨rfl, rfl⟩ := ha3
        have hkl : k < (t.take s).length := by rw [HTL.out]; exact hlt
        have HV := Lib.hid (val_take_succ (t.take s) k hkl)
        have hx56 : val ((t.take s).take k) < 72057594037927936 := by
          have h1 := val_take_lt (t.take s) (fun c hc => HT256.out c (List.mem_of_mem_take hc)) k (by omega)
          have h2 : 2 ^ (8 * k) ≤ 2 ^ 56 := Nat.pow_le_pow_right (by omega) (by omega)
          omega
        have hc256 : (t.take s).getD k 0 < 256 := HT256.out _ (List.mem_of_mem_take (getD_mem _ k hkl))
        obtain ⟨x, hx⟩ : ∃ x, val ((t.take s).take k) = x := ⟨_, rfl⟩
        obtain ⟨c', hc'⟩ : ∃ c', (t.take s).getD k 0 = c' := ⟨_, rfl⟩
        rw [hx] at HV hx56 ⊢
        rw [hc'] at HV hc256 hc3
        have hor := or256 x c' hx56 hc256
        have hsh : IntKind.u64.wrap ((x : Int) * 256) = (x : Int) * 256 := IntWalk.u64_in _ ⟨by omega, by omega⟩
        clear hx hc' hkl hx56
        go_wp2
        go_round
        case rel => exact ⟨k + 1, by omega, by go_num, by rw [HV.out]; go_num⟩
        case measure => simp [intOf]; omega
      · obtain rfl : k = s := by omega
        have hfin : (t.take k).take k = t.take k := List.take_of_length_le (by rw [HTL.out]; exact Nat.le_refl _)
        rw [hfin]
        clear hfin
        by_cases hbit : (128 : Int) ≤ (h : Int)
        · have hd : decide ((128 : Int) ≤ (h : Int)) = true := by simpa using hbit
          have HD := Lib.hid (show decide (128 ≤ h) = true by simp; omega)
          go_wp2
          go_quiet (fail)
          go_wp2
          go_ret2
          exact ⟨by rw [HD.out]; rfl, HR.out.kept (below_drewN (Below.refl _ _) _), (ht1.trans ht2).trans (Turn.below (below_drewN (Below.refl _ _) _))⟩
        · have hd : decide ((128 : Int) ≤ (h : Int)) = false := by simpa using hbit
          have HD := Lib.hid (show decide (128 ≤ h) = false by simp; omega)
          clear hbit
          go_wp2
          go_quiet (fail)
          go_wp2
          go_ret2
          exact ⟨by rw [HD.out]; rfl, HR.out.kept (below_drewN (Below.refl _ _) _), (ht1.trans ht2).trans (Turn.below (below_drewN (Below.refl _ _) _))⟩
  · obtain rfl : s = 0 := by omega
    go_wp2
    go_loop [2, 39] (fun n i => n = .int .u64 0 ∧ i = .int .i64 0) (fun _ _ => 0)
    case atStart => exact ⟨rfl, rfl⟩
    case round =>
      obtain ⟨rfl, rfl⟩ := hrel
      by_cases hbit : (128 : Int) ≤ (h : Int)
      · have hd : decide ((128 : Int) ≤ (h : Int)) = true := by simpa using hbit
        have HD := Lib.hid (show decide (128 ≤ h) = true by simp; omega)
        go_wp2
        go_quiet (fail)
        go_wp2
        go_ret2
        exact ⟨by rw [HD.out]; rfl, HR.out.kept (below_drewN (Below.refl _ _) _), (ht1.trans ht2).trans (Turn.below (below_drewN (Below.refl _ _) _))⟩
      · have hd : decide ((128 : Int) ≤ (h : Int)) = false := by simpa using hbit
        have HD := Lib.hid (show decide (128 ≤ h) = false by simp; omega)
        clear hbit
        go_wp2
        go_quiet (fail)
        go_wp2
        go_ret2
        exact ⟨by rw [HD.out]; rfl, HR.out.kept (below_drewN (Below.refl _ _) _), (ht1.trans ht2).trans (Turn.below (below_drewN (Below.refl _ _) _))⟩
/- Walks of a reader's methods. -/
open Go.RowKit

/-- What number answers, by what it reads. -/
def NumRd (b : Nat) (w : World) (r : Option (Nat × Bool × List Nat)) (e : Ending) (w' : World) : Prop :=
  (r = none → NumNo b w e w') ∧ ∀ n bl rest, r = some (n, bl, rest) → NumYes b w n bl rest e w'
theorem number_rd (b : Nat) (ds : List Nat) (bad : Bool) (w : World) (hr : RR w b ds bad) : Calls Try.prog 121 #[.pointer (some ⟨b, 0, none⟩)] w (NumRd b w (rnum ds)) := by
  cases ds with
  | nil => exact (number_empty b bad w hr).mono fun e w' h => ⟨fun _ => h, fun n bl rest hq => by simp [rnum] at hq⟩
  | cons h t =>
    have hb : bad = false := by
      obtain ⟨_, _, _, _, h4⟩ := hr
      cases bad with
      | false => rfl
      | true => simp at h4
    subst hb
    by_cases h1 : 8 < h % 128
    · exact (number_big b h t w hr h1).mono fun e w' hq => ⟨fun _ => hq, fun n bl rest hx => by simp [rnum, h1] at hx⟩
    by_cases h2 : t.length < h % 128
    · exact (number_short b h t w hr (by omega) h2).mono fun e w' hq => ⟨fun _ => hq, fun n bl rest hx => by rw [rnum, if_neg h1, if_pos h2] at hx; cases hx⟩
    by_cases h3 : 0 < h % 128 ∧ t.getD 0 0 = 0
    · exact (number_zero b h t w hr (by omega) (by omega) h3.1 h3.2).mono fun e w' hq => ⟨fun _ => hq, fun n bl rest hx => by rw [rnum, if_neg h1, if_neg h2, if_pos h3] at hx; cases hx⟩
    · refine (number_ok b h t w hr (by omega) (by omega) h3).mono fun e w' hq => ⟨fun hx => ?_, fun n bl rest hx => ?_⟩
      · rw [rnum, if_neg h1, if_neg h2, if_neg h3] at hx; cases hx
      · rw [rnum, if_neg h1, if_neg h2, if_neg h3] at hx
        simp only [Option.some.injEq, Prod.mk.injEq] at hx
        obtain ⟨rfl, rfl, rfl⟩ := hx
        exact hq

/-- What a reading hands back: z, if it fails. -/
def Got (b : Nat) (w : World) (z : Value) (r : Option (Value × List Nat)) (e : Ending) (w' : World) : Prop :=
  (r = none → e = .returned z ∧ RR w' b [] true ∧ Rd b w w') ∧ ∀ v rest, r = some (v, rest) → e = .returned v ∧ RR w' b rest false ∧ Rd b w w'
theorem Got.no {b : Nat} {w w' : World} {z : Value} {r : Option (Value × List Nat)} (hr : r = none) (h1 : RR w' b [] true) (h2 : Rd b w w') : Got b w z r (.returned z) w' :=
  ⟨(fun _ => ⟨rfl, h1, h2⟩), (fun v rest hx => by rw [hr] at hx; cases hx)⟩
theorem Got.yes {b : Nat} {w w' : World} {z v : Value} {rest : List Nat} {r : Option (Value × List Nat)} (hr : r = some (v, rest)) (h1 : RR w' b rest false) (h2 : Rd b w w') : Got b w z r (.returned v) w' :=
  ⟨(fun hx => by rw [hr] at hx; cases hx), (fun v' rest' hx => by rw [hr] at hx; simp only [Option.some.injEq, Prod.mk.injEq] at hx; obtain ⟨rfl, rfl⟩ := hx; exact ⟨rfl, h1, h2⟩)⟩

/-- Num's reading. -/
def rNum (most : Nat) (ds : List Nat) : Option (Nat × List Nat) :=
  match rnum ds with
  | some (n, false, rest) => if n ≤ most then some (n, rest) else none
  | _ => none
def u64v (p : Nat × List Nat) : Value × List Nat := (.int .u64 ((p.1 : Nat) : Int), p.2)
set_option maxHeartbeats 1000000 in
theorem num_rd (b most : Nat) (ds : List Nat) (bad : Bool) (w : World) (hr : RR w b ds bad) :
    Calls Try.prog 71 #[.pointer (some ⟨b, 0, none⟩), .int .u64 (most : Int)] w (Got b w (.int .u64 0) ((rNum most ds).map u64v)) := by
  have hn := number_rd b ds bad w hr
  cases hrn : rnum ds with
  | none =>
    have HQ := Lib.hid (show (rNum most ds).map u64v = none by unfold rNum; rw [hrn]; rfl)
    rw [hrn] at hn
    have HN := Lib.hid hn
    obtain ⟨R, hR⟩ : ∃ R, (rNum most ds).map u64v = R := ⟨_, rfl⟩
    rw [hR] at HQ ⊢
    clear hrn hn hr hR
    have hm : (0 : Int) ≤ (most : Int) := by omega
    go_enter Try.func71, Try.ntmps71
    go_wp2_with fail
    refine (HN.out).mono ?_
    rintro e w1 ⟨hno, _⟩
    obtain ⟨rfl, hr1, ht1⟩ := hno rfl
    go_wp2
    go_ret
    exact Got.no HQ.out hr1 ht1
  | some p =>
    obtain ⟨n, bl, rest⟩ := p
    rw [hrn] at hn
    have HN := Lib.hid hn
    cases bl with
    | true =>
      have HQ := Lib.hid (show (rNum most ds).map u64v = none by unfold rNum; rw [hrn]; rfl)
      obtain ⟨R, hR⟩ : ∃ R, (rNum most ds).map u64v = R := ⟨_, rfl⟩
      rw [hR] at HQ ⊢
      clear hrn hn hr hR
      go_enter Try.func71, Try.ntmps71
      go_wp2_with fail
      refine (HN.out).mono ?_
      rintro e w1 ⟨_, hyes⟩
      obtain ⟨rfl, hr1, ht1⟩ := hyes _ _ _ rfl
      clear hyes
      have HF := Lib.hid (fail_rd b _ _ w1 hr1)
      go_wp2_with (go_at_call 105; refine (HF.out).mono ?_; rintro e w2 ⟨rfl, hr2, ht2⟩)
      go_ret
      exact Got.no HQ.out hr2 (ht1.trans ht2)
    | false =>
      by_cases hle : n ≤ most
      · have HQ := Lib.hid (show (rNum most ds).map u64v = some (.int .u64 (n : Int), rest) by unfold rNum; rw [hrn]; simp [hle, u64v])
        obtain ⟨R, hR⟩ : ∃ R, (rNum most ds).map u64v = R := ⟨_, rfl⟩
        rw [hR] at HQ ⊢
        have hd : decide ((most : Int) < (n : Int)) = false := by simp; omega
        clear hrn hn hr hR
        go_enter Try.func71, Try.ntmps71
        go_wp2_with fail
        refine (HN.out).mono ?_
        rintro e w1 ⟨_, hyes⟩
        obtain ⟨rfl, hr1, ht1⟩ := hyes _ _ _ rfl
        clear hyes
        go_wp2
        go_ret
        exact Got.yes HQ.out hr1 ht1
      · have HQ := Lib.hid (show (rNum most ds).map u64v = none by unfold rNum; rw [hrn]; simp [hle])
        obtain ⟨R, hR⟩ : ∃ R, (rNum most ds).map u64v = R := ⟨_, rfl⟩
        rw [hR] at HQ ⊢
        have hd : decide ((most : Int) < (n : Int)) = true := by simp; omega
        have hgt : most < n := by omega
        clear hrn hn hr hR hle
        go_enter Try.func71, Try.ntmps71
        go_wp2_with fail
        refine (HN.out).mono ?_
        rintro e w1 ⟨_, hyes⟩
        obtain ⟨rfl, hr1, ht1⟩ := hyes _ _ _ rfl
        clear hyes
        have HF := Lib.hid (fail_rd b _ _ w1 hr1)
        go_wp2_with (go_at_call 105; refine (HF.out).mono ?_; rintro e w2 ⟨rfl, hr2, ht2⟩)
        go_ret
        exact Got.no HQ.out hr2 (ht1.trans ht2)
/- Walks of a reader's methods: numbers with a sign, flags, strings, raw bytes. -/
open Go.RowKit

/-- Int's reading. -/
def rInt (ds : List Nat) : Option (Int × List Nat) :=
  match rnum ds with
  | some (n, bl, rest) => if n ≤ 9223372036854775807 then some (if bl then -1 - (n : Int) else (n : Int), rest) else none
  | none => none
def i64v (p : Int × List Nat) : Value × List Nat := (.int .i64 p.1, p.2)
theorem rInt_none {ds : List Nat} (h : rnum ds = none) : rInt ds = none := by unfold rInt; rw [h]
theorem rInt_big {ds rest : List Nat} {n : Nat} {bl : Bool} (h : rnum ds = some (n, bl, rest)) (hn : ¬ n ≤ 9223372036854775807) : rInt ds = none := by unfold rInt; rw [h]; exact if_neg hn
theorem rInt_some {ds rest : List Nat} {n : Nat} {bl : Bool} (h : rnum ds = some (n, bl, rest)) (hn : n ≤ 9223372036854775807) : rInt ds = some (if bl then -1 - (n : Int) else (n : Int), rest) := by unfold rInt; rw [h]; exact if_pos hn
set_option maxHeartbeats 1000000 in
theorem int_rd (b : Nat) (ds : List Nat) (bad : Bool) (w : World) (hr : RR w b ds bad) :
    Calls Try.prog 72 #[.pointer (some ⟨b, 0, none⟩)] w (Got b w (.int .i64 0) ((rInt ds).map i64v)) := by
  have hn := number_rd b ds bad w hr
  cases hrn : rnum ds with
  | none =>
    have HQ := Lib.hid (show (rInt ds).map i64v = none by rw [rInt_none hrn]; rfl)
    rw [hrn] at hn
    have HN := Lib.hid hn
    obtain ⟨R, hR⟩ : ∃ R, (rInt ds).map i64v = R := ⟨_, rfl⟩
    rw [hR] at HQ ⊢
    clear hrn hn hr hR
    go_enter Try.func72, Try.ntmps72
    go_wp2_with fail
    refine (HN.out).mono ?_
    rintro e w1 ⟨hno, _⟩
    obtain ⟨rfl, hr1, ht1⟩ := hno rfl
    go_wp2
    go_ret
    exact Got.no HQ.out hr1 ht1
  | some p =>
    obtain ⟨n, bl, rest⟩ := p
    rw [hrn] at hn
    have HN := Lib.hid hn
    by_cases hle : n ≤ 9223372036854775807
    · have hd : decide ((9223372036854775807 : Int) < (n : Int)) = false := by simp; omega
      have hw : IntKind.i64.wrap (n : Int) = (n : Int) := IntWalk.i64_in _ ⟨by omega, by omega⟩
      have hx := i64_not n (by omega)
      cases bl with
      | true =>
        have HQ := Lib.hid (show (rInt ds).map i64v = some (.int .i64 (-1 - (n : Int)), rest) by rw [rInt_some hrn hle]; rfl)
        obtain ⟨R, hR⟩ : ∃ R, (rInt ds).map i64v = R := ⟨_, rfl⟩
        rw [hR] at HQ ⊢
        clear hrn hn hr hR hle
        go_enter Try.func72, Try.ntmps72
        go_wp2_with fail
        refine (HN.out).mono ?_
        rintro e w1 ⟨_, hyes⟩
        obtain ⟨rfl, hr1, ht1⟩ := hyes _ _ _ rfl
        clear hyes
        go_wp2
        go_ret
        exact Got.yes HQ.out hr1 ht1
      | false =>
        have HQ := Lib.hid (show (rInt ds).map i64v = some (.int .i64 (n : Int), rest) by rw [rInt_some hrn hle]; rfl)
        obtain ⟨R, hR⟩ : ∃ R, (rInt ds).map i64v = R := ⟨_, rfl⟩
        rw [hR] at HQ ⊢
        clear hrn hn hr hR hle hx
        go_enter Try.func72, Try.ntmps72
        go_wp2_with fail
        refine (HN.out).mono ?_
        rintro e w1 ⟨_, hyes⟩
        obtain ⟨rfl, hr1, ht1⟩ := hyes _ _ _ rfl
        clear hyes
        go_wp2
        go_ret
        exact Got.yes HQ.out hr1 ht1
    · have hd : decide ((9223372036854775807 : Int) < (n : Int)) = true := by simp; omega
      have HQ := Lib.hid (show (rInt ds).map i64v = none by rw [rInt_big hrn hle]; rfl)
      obtain ⟨R, hR⟩ : ∃ R, (rInt ds).map i64v = R := ⟨_, rfl⟩
      rw [hR] at HQ ⊢
      clear hrn hn hr hR hle
      go_enter Try.func72, Try.ntmps72
      go_wp2_with fail
      refine (HN.out).mono ?_
      rintro e w1 ⟨_, hyes⟩
      obtain ⟨rfl, hr1, ht1⟩ := hyes _ _ _ rfl
      clear hyes
      have HF := Lib.hid (fail_rd b _ _ w1 hr1)
      go_wp2_with (go_at_call 105; refine (HF.out).mono ?_; rintro e w2 ⟨rfl, hr2, ht2⟩)
      go_ret
      exact Got.no HQ.out hr2 (ht1.trans ht2)

/-- Flag's reading. -/
def rFlag (ds : List Nat) : Option (Bool × List Nat) := (rNum 1 ds).map fun p => (p.1 == 1, p.2)
def boolv (p : Bool × List Nat) : Value × List Nat := (.bool p.1, p.2)
/-- Raw's reading. -/
def rRaw (n : Int) (ds : List Nat) : Option (List Nat × List Nat) := if n < 0 ∨ (ds.length : Int) < n then none else some (ds.take n.toNat, ds.drop n.toNat)
/-- What Raw hands back. -/
def GotRaw (b : Nat) (w : World) (r : Option (List Nat × List Nat)) (e : Ending) (w' : World) : Prop :=
  (r = none → e = .returned (.slice none 0 0) ∧ RR w' b [] true ∧ Rd b w w') ∧ ∀ xs rest, r = some (xs, rest) → ∃ v bad, e = .returned v ∧ RB w' v xs ∧ RR w' b rest bad ∧ Rd b w w' ∧ (bad = true → True)
theorem clone_none (w : World) : Calls Try.prog 106 #[.slice none 0 0] w fun e w' => e = .returned (.slice none 0 0) ∧ w = w' := by
  have hn := fun (w : World) (n c : Nat) => Lib.run_eql_slice_nil (P := Try.prog) w 36 5 none n c 0 0 Try.underlying36
  go_enter Try.func106, Try.ntmps106
  go_wp2
  go_ret
  exact ⟨rfl, rfl⟩
/-- What Raw hands back, if it reads. -/
def RawYes (b : Nat) (w : World) (xs rest : List Nat) (bad : Bool) (e : Ending) (w' : World) : Prop := ∃ v, e = .returned v ∧ RB w' v xs ∧ RR w' b rest bad ∧ Rd b w w'
/-- Text's reading. -/
def rText (most : Int) (ds : List Nat) : Option (List Nat × List Nat) :=
  if most < 0 then none else match rNum most.toNat ds with
  | some (n, rest) => if n ≤ rest.length then some (rest.take n, rest.drop n) else none
  | none => none
def textv (p : List Nat × List Nat) : Value × List Nat := (.string (str p.1), p.2)
theorem rText_pos (n : Nat) (ds : List Nat) : rText (n : Int) ds = match rNum n ds with
  | some (m, rest) => if m ≤ rest.length then some (rest.take m, rest.drop m) else none
  | none => none := by
  unfold rText
  rw [if_neg (by omega), Int.toNat_natCast]
/-! Nobody's reader. -/
theorem number_nil (w : World) : Calls Try.prog 121 #[.pointer none] w fun e w' => e = .returned (.tuple #[.int .u64 0, .bool false]) ∧ w = w' := by
  have H := Lib.hid (take_nil 1 w)
  go_enter Try.func121, Try.ntmps121
  go_wp2_with (go_at_call 138; refine (H.out).mono ?_; rintro e w' ⟨rfl, rfl⟩)
  go_ret2
  exact ⟨rfl, rfl⟩
theorem rnum_nil (most : Nat) (w : World) : Calls Try.prog 71 #[.pointer none, .int .u64 (most : Int)] w fun e w' => e = .returned (.int .u64 0) ∧ w = w' := by
  have hm : (0 : Int) ≤ (most : Int) := by omega
  go_enter Try.func71, Try.ntmps71
  go_wp2_with (go_at_call 121; refine (number_nil _).mono ?_; rintro e w' ⟨rfl, rfl⟩)
  go_ret
  exact ⟨rfl, rfl⟩
theorem rint_nil (w : World) : Calls Try.prog 72 #[.pointer none] w fun e w' => e = .returned (.int .i64 0) ∧ w = w' := by
  go_enter Try.func72, Try.ntmps72
  go_wp2_with (go_at_call 121; refine (number_nil _).mono ?_; rintro e w' ⟨rfl, rfl⟩)
  go_ret
  exact ⟨rfl, rfl⟩
end Go.Proofs.Ytibjboacjobaoaa
