/- Walks of a reader's methods: numbers with a sign, flags, strings, raw bytes. -/
import Derived.Test.YtnhaakdjijjinaaQuN
import Derived.Laws.DeepNot64
namespace Go.Proofs.Ytnhaakdjijjinaa
open Go.RowKit

/-- Int's reading. -/
def rInt (ds : List Nat) : Option (Int × List Nat) :=
  match rnum ds with
  | some (n, bl, rest) => if n ≤ 9223372036854775807 then some (if bl then -1 - (n : Int) else (n : Int), rest) else none
  | none => none
def i64v (p : Int × List Nat) : Value × List Nat := (.int .i64 p.1, p.2)
theorem rInt_none {ds : List Nat} (h : rnum ds = none) : rInt ds = none := by unfold rInt; rw [h]
theorem rInt_big {ds rest : List Nat} {n : Nat} {bl : Bool} (h : rnum ds = some (n, bl, rest)) (hn : ¬ n ≤ 9223372036854775807) : rInt ds = none := by unfold rInt; rw [h]; exact if_neg hn
theorem rInt_some {ds rest : List Nat} {n : Nat} {bl : Bool} (h : rnum ds = some (n, bl, rest)) (hn : n ≤ 9223372036854775807) : rInt ds = some (if bl then -1 - (n : Int) else (n : Int), rest) := by unfold rInt; rw [h]; exact if_pos hn
set_option maxHeartbeats 1000000 in
theorem int_rd (b : Nat) (ds : List Nat) (bad : Bool) (w : World) (hr : RR w b ds bad) :
    Calls Try.prog 56 #[.pointer (some ⟨b, 0, none⟩)] w (Got b w (.int .i64 0) ((rInt ds).map i64v)) := by
  have hn := number_rd b ds bad w hr
  cases hrn : rnum ds with
  | none =>
    have HQ := Lib.hid (show (rInt ds).map i64v = none by rw [rInt_none hrn]; rfl)
    rw [hrn] at hn
    have HN := Lib.hid hn
    obtain ⟨R, hR⟩ : ∃ R, (rInt ds).map i64v = R := ⟨_, rfl⟩
    rw [hR] at HQ ⊢
    clear hrn hn hr hR
    go_enter Try.func56, Try.ntmps56
    go_wp2_with fail
    refine (HN.out).mono ?_
    rintro e w1 ⟨hno, _⟩
    obtain ⟨rfl, hr1, ht1⟩ := hno rfl
    go_wp2
    go_ret
    exact Got.no HQ.out hr1 ht1
  | some p =>
    obtain ⟨n, bl, rest⟩ := p
    rw [hrn] at hn
    have HN := Lib.hid hn
    by_cases hle : n ≤ 9223372036854775807
    · have hd : decide ((9223372036854775807 : Int) < (n : Int)) = false := by simp; omega
      have hw : IntKind.i64.wrap (n : Int) = (n : Int) := IntWalk.i64_in _ ⟨by omega, by omega⟩
      have hx := i64_not n (by omega)
      cases bl with
      | true =>
        have HQ := Lib.hid (show (rInt ds).map i64v = some (.int .i64 (-1 - (n : Int)), rest) by rw [rInt_some hrn hle]; rfl)
        obtain ⟨R, hR⟩ : ∃ R, (rInt ds).map i64v = R := ⟨_, rfl⟩
        rw [hR] at HQ ⊢
        clear hrn hn hr hR hle
        go_enter Try.func56, Try.ntmps56
        go_wp2_with fail
        refine (HN.out).mono ?_
        rintro e w1 ⟨_, hyes⟩
        obtain ⟨rfl, hr1, ht1⟩ := hyes _ _ _ rfl
        clear hyes
        go_wp2
        go_ret
        exact Got.yes HQ.out hr1 ht1
      | false =>
        have HQ := Lib.hid (show (rInt ds).map i64v = some (.int .i64 (n : Int), rest) by rw [rInt_some hrn hle]; rfl)
        obtain ⟨R, hR⟩ : ∃ R, (rInt ds).map i64v = R := ⟨_, rfl⟩
        rw [hR] at HQ ⊢
        clear hrn hn hr hR hle hx
        go_enter Try.func56, Try.ntmps56
        go_wp2_with fail
        refine (HN.out).mono ?_
        rintro e w1 ⟨_, hyes⟩
        obtain ⟨rfl, hr1, ht1⟩ := hyes _ _ _ rfl
        clear hyes
        go_wp2
        go_ret
        exact Got.yes HQ.out hr1 ht1
    · have hd : decide ((9223372036854775807 : Int) < (n : Int)) = true := by simp; omega
      have HQ := Lib.hid (show (rInt ds).map i64v = none by rw [rInt_big hrn hle]; rfl)
      obtain ⟨R, hR⟩ : ∃ R, (rInt ds).map i64v = R := ⟨_, rfl⟩
      rw [hR] at HQ ⊢
      clear hrn hn hr hR hle
      go_enter Try.func56, Try.ntmps56
      go_wp2_with fail
      refine (HN.out).mono ?_
      rintro e w1 ⟨_, hyes⟩
      obtain ⟨rfl, hr1, ht1⟩ := hyes _ _ _ rfl
      clear hyes
      have HF := Lib.hid (fail_rd b _ _ w1 hr1)
      go_wp2_with (go_at_call 59; refine (HF.out).mono ?_; rintro e w2 ⟨rfl, hr2, ht2⟩)
      go_ret
      exact Got.no HQ.out hr2 (ht1.trans ht2)

/-- Flag's reading. -/
def rFlag (ds : List Nat) : Option (Bool × List Nat) := (rNum 1 ds).map fun p => (p.1 == 1, p.2)
def boolv (p : Bool × List Nat) : Value × List Nat := (.bool p.1, p.2)
set_option maxHeartbeats 1000000 in
theorem flag_rd (b : Nat) (ds : List Nat) (bad : Bool) (w : World) (hr : RR w b ds bad) :
    Calls Try.prog 57 #[.pointer (some ⟨b, 0, none⟩)] w (Got b w (.bool false) ((rFlag ds).map boolv)) := by
  have HN := Lib.hid (num_rd b 1 ds bad w hr)
  cases hrn : rNum 1 ds with
  | none =>
    have HQ := Lib.hid (show (rFlag ds).map boolv = none by unfold rFlag; rw [hrn]; rfl)
    rw [hrn] at HN
    obtain ⟨R, hR⟩ : ∃ R, (rFlag ds).map boolv = R := ⟨_, rfl⟩
    rw [hR] at HQ ⊢
    clear hrn hr hR
    go_enter Try.func57, Try.ntmps57
    go_wp2_with fail
    refine (HN.out).mono ?_
    rintro e w1 ⟨hno, _⟩
    obtain ⟨rfl, hr1, ht1⟩ := hno rfl
    go_wp2
    go_ret
    exact Got.no HQ.out hr1 ht1
  | some p =>
    obtain ⟨n, rest⟩ := p
    have HQ := Lib.hid (show (rFlag ds).map boolv = some (.bool (n == 1), rest) by unfold rFlag; rw [hrn]; rfl)
    rw [hrn] at HN
    obtain ⟨R, hR⟩ : ∃ R, (rFlag ds).map boolv = R := ⟨_, rfl⟩
    rw [hR] at HQ ⊢
    clear hrn hr hR
    have hq : ((n : Int) == 1) = (n == 1) := by
      by_cases h : n = 1
      · subst h; rfl
      · have h2 : ¬ (n : Int) = 1 := by omega
        rw [show ((n : Int) == 1) = false by simpa using h2, show (n == 1) = false by simpa using h]
    go_enter Try.func57, Try.ntmps57
    go_wp2_with fail
    refine (HN.out).mono ?_
    rintro e w1 ⟨_, hyes⟩
    obtain ⟨rfl, hr1, ht1⟩ := hyes _ _ rfl
    clear hyes
    dsimp only
    go_wp2
    go_ret
    exact Got.yes HQ.out hr1 ht1

/-- Raw's reading. -/
def rRaw (n : Int) (ds : List Nat) : Option (List Nat × List Nat) := if n < 0 ∨ (ds.length : Int) < n then none else some (ds.take n.toNat, ds.drop n.toNat)
/-- What Raw hands back. -/
def GotRaw (b : Nat) (w : World) (r : Option (List Nat × List Nat)) (e : Ending) (w' : World) : Prop :=
  (r = none → e = .returned (.slice none 0 0) ∧ RR w' b [] true ∧ Rd b w w') ∧ ∀ xs rest, r = some (xs, rest) → ∃ v bad, e = .returned v ∧ RB w' v xs ∧ RR w' b rest bad ∧ Rd b w w' ∧ (bad = true → True)
theorem clone_none (w : World) : Calls Try.prog 53 #[.slice none 0 0] w fun e w' => e = .returned (.slice none 0 0) ∧ w = w' := by
  have hn := fun (w : World) (n c : Nat) => Lib.run_eql_slice_nil (P := Try.prog) w 35 5 none n c 0 0 Try.underlying35
  go_enter Try.func53, Try.ntmps53
  go_wp2
  go_ret
  exact ⟨rfl, rfl⟩
/-- What Raw hands back, if it reads. -/
def RawYes (b : Nat) (w : World) (xs rest : List Nat) (bad : Bool) (e : Ending) (w' : World) : Prop := ∃ v, e = .returned v ∧ RB w' v xs ∧ RR w' b rest bad ∧ Rd b w w'
/-- Text's reading. -/
def rText (most : Int) (ds : List Nat) : Option (List Nat × List Nat) :=
  if most < 0 then none else match rNum most.toNat ds with
  | some (n, rest) => if n ≤ rest.length then some (rest.take n, rest.drop n) else none
  | none => none
def textv (p : List Nat × List Nat) : Value × List Nat := (.string (str p.1), p.2)
theorem rText_pos (n : Nat) (ds : List Nat) : rText (n : Int) ds = match rNum n ds with
  | some (m, rest) => if m ≤ rest.length then some (rest.take m, rest.drop m) else none
  | none => none := by
  unfold rText
  rw [if_neg (by omega), Int.toNat_natCast]
/-! Nobody's reader. -/
theorem number_nil (w : World) : Calls Try.prog 82 #[.pointer none] w fun e w' => e = .returned (.tuple #[.int .u64 0, .bool false]) ∧ w = w' := by
  have H := Lib.hid (take_nil 1 w)
  go_enter Try.func82, Try.ntmps82
  go_wp2_with (go_at_call 90; refine (H.out).mono ?_; rintro e w' ⟨rfl, rfl⟩)
  go_ret2
  exact ⟨rfl, rfl⟩
theorem rnum_nil (most : Nat) (w : World) : Calls Try.prog 54 #[.pointer none, .int .u64 (most : Int)] w fun e w' => e = .returned (.int .u64 0) ∧ w = w' := by
  have hm : (0 : Int) ≤ (most : Int) := by omega
  go_enter Try.func54, Try.ntmps54
  go_wp2_with (go_at_call 82; refine (number_nil _).mono ?_; rintro e w' ⟨rfl, rfl⟩)
  go_ret
  exact ⟨rfl, rfl⟩
theorem rint_nil (w : World) : Calls Try.prog 56 #[.pointer none] w fun e w' => e = .returned (.int .i64 0) ∧ w = w' := by
  go_enter Try.func56, Try.ntmps56
  go_wp2_with (go_at_call 82; refine (number_nil _).mono ?_; rintro e w' ⟨rfl, rfl⟩)
  go_ret
  exact ⟨rfl, rfl⟩
theorem rflag_nil (w : World) : Calls Try.prog 57 #[.pointer none] w fun e w' => e = .returned (.bool false) ∧ w = w' := by
  have H := Lib.hid (rnum_nil 1 w)
  go_enter Try.func57, Try.ntmps57
  go_wp2_with (go_at_call 54; refine (H.out).mono ?_; rintro e w' ⟨rfl, rfl⟩)
  go_ret
  exact ⟨rfl, rfl⟩
end Go.Proofs.Ytnhaakdjijjinaa
