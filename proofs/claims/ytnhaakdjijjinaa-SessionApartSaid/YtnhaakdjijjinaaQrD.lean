/- The other reader: Flag, End and Int. -/
import Derived.Test.YtnhaakdjijjinaaQrC
namespace Go.Proofs.Ytnhaakdjijjinaa
open Go.RowKit

set_option maxHeartbeats 1000000 in
theorem flag_rf (b : Nat) (ds : List Nat) (bad : Bool) (w : World) (hr : RF w b ds bad) :
    Calls Try.prog 66 #[.pointer (some ⟨b, 0, none⟩)] w (GotF b w (.bool false) ((rFlag ds).map boolv)) := by
  have HN := Lib.hid (num_rf b 1 ds bad w hr)
  cases hrn : rNum 1 ds with
  | none =>
    have HQ := Lib.hid (show (rFlag ds).map boolv = none by unfold rFlag; rw [hrn]; rfl)
    rw [hrn] at HN
    obtain ⟨R, hR⟩ : ∃ R, (rFlag ds).map boolv = R := ⟨_, rfl⟩
    rw [hR] at HQ ⊢
    clear hrn hr hR
    go_enter Try.func66, Try.ntmps66
    go_wp2_with fail
    refine (HN.out).mono ?_
    rintro e w1 ⟨hno, _⟩
    obtain ⟨rfl, hr1, ht1⟩ := hno rfl
    go_wp2
    go_ret
    exact GotF.no HQ.out hr1 ht1
  | some p =>
    obtain ⟨n, rest⟩ := p
    have HQ := Lib.hid (show (rFlag ds).map boolv = some (.bool (n == 1), rest) by unfold rFlag; rw [hrn]; rfl)
    rw [hrn] at HN
    obtain ⟨R, hR⟩ : ∃ R, (rFlag ds).map boolv = R := ⟨_, rfl⟩
    rw [hR] at HQ ⊢
    clear hrn hr hR
    have hq : ((n : Int) == 1) = (n == 1) := by
      by_cases h : n = 1
      · subst h; rfl
      · have h2 : ¬ (n : Int) = 1 := by omega
        rw [show ((n : Int) == 1) = false by simpa using h2, show (n == 1) = false by simpa using h]
    go_enter Try.func66, Try.ntmps66
    go_wp2_with fail
    refine (HN.out).mono ?_
    rintro e w1 ⟨_, hyes⟩
    obtain ⟨rfl, hr1, ht1⟩ := hyes _ _ rfl
    clear hyes
    dsimp only
    go_wp2
    go_ret
    exact GotF.yes HQ.out hr1 ht1
theorem rnum_first (c : Nat) (t : List Nat) : rnum (c :: t) = match ofN (c % 128) t with | some (n, rest) => some (n, decide (128 ≤ c), rest) | none => none := by
  rw [rnum]
  unfold ofN
  by_cases h1 : 8 < c % 128
  · rw [if_pos h1, if_pos (.inl h1)]
  rw [if_neg h1]
  by_cases h2 : t.length < c % 128
  · rw [if_pos h2, if_pos (.inr (.inl h2))]
  rw [if_neg h2]
  by_cases h3 : 0 < c % 128 ∧ t.getD 0 0 = 0
  · rw [if_pos h3, if_pos (.inr (.inr h3))]
  rw [if_neg h3, if_neg (by rintro (h | h | h) <;> first | omega | exact h3 h)]
set_option maxHeartbeats 1000000 in
theorem int_rf_no (b : Nat) (ds : List Nat) (bad : Bool) (w : World) (hr : RF w b ds bad) (hn : rnum ds = none) :
    Calls Try.prog 65 #[.pointer (some ⟨b, 0, none⟩)] w fun e w' => e = .returned (.int .i64 0) ∧ RF w' b [] true ∧ Rd b w w' := by
  cases ds with
  | nil =>
    have HF := Lib.hid (first_no b bad w hr)
    have HX := Lib.hid (fail_rf b [] bad w hr)
    clear hr hn
    go_enter Try.func65, Try.ntmps65
    go_wp2_with (first
      | (go_at_call 85; refine HF.out.mono ?_; rintro e w1 ⟨rfl, rfl⟩)
      | (go_at_call 68; refine HX.out.mono ?_; rintro e w2 ⟨rfl, hr2, ht2⟩))
    go_ret
    exact ⟨rfl, hr2, ht2⟩
  | cons c t =>
    have hb : bad = false := by
      obtain ⟨v, _, _, _, h4⟩ := hr
      cases bad
      · rfl
      · simp at h4
    subst hb
    have hc : c < 256 := by obtain ⟨v, _, h2, _⟩ := hr; exact h2.1 c (by simp)
    have HF := Lib.hid (first_yes b c t w hr)
    have hof : ofN (c % 128) t = none := by
      rw [rnum_first] at hn
      cases h : ofN (c % 128) t with
      | none => rfl
      | some p => rw [h] at hn; cases hn
    have hnum : ∀ w1, RF w1 b t false → Calls Try.prog 86 #[.pointer (some ⟨b, 0, none⟩), .int .i64 ((c % 128 : Nat) : Int)] w1 fun e w2 => e = .returned (.tuple #[.int .u64 0, .bool false]) ∧ w1 = w2 := fun w1 h1 => (rfnum_any b (c % 128) t w1 h1).mono fun e w2 hq => by
      rcases hq with ⟨_, h1, h2⟩ | ⟨n', rest', h, _⟩
      · exact ⟨h1, h2⟩
      · rw [hof] at h; cases h
    have HQ := Lib.hid hnum
    have hm : ((c % 128 : Nat) : Int) = (c : Int) % 128 := by omega
    have hw : IntKind.i64.wrap ((c : Int) % 128) = (c : Int) % 128 := IntWalk.i64_in _ ⟨by omega, by omega⟩
    rw [hm] at HQ
    clear hr hn hof hnum hm
    go_enter Try.func65, Try.ntmps65
    go_wp2_with (first
      | (go_at_call 85; refine HF.out.mono ?_; rintro e w1 ⟨rfl, hr1, ht1⟩)
      | (go_at_call 86; refine (HQ.out w1 hr1).mono ?_; rintro e w2 ⟨rfl, rfl⟩)
      | (go_at_call 68; refine (fail_rf b _ _ _ hr1).mono ?_; rintro e w3 ⟨rfl, hr3, ht3⟩))
    go_ret
    exact ⟨rfl, hr3, ht1.trans ht3⟩
end Go.Proofs.Ytnhaakdjijjinaa
