/- Walks of a reader's methods: numbers with a sign, flags, strings, raw bytes. -/
import Derived.Test.YtkeloeppploiaaaQuN
import Derived.Laws.DeepNot64
namespace Go.Proofs.Ytkeloeppploiaaa
open Go.RowKit

/-- Int's reading. -/
def rInt (ds : List Nat) : Option (Int × List Nat) :=
  match rnum ds with
  | some (n, bl, rest) => if n ≤ 9223372036854775807 then some (if bl then -1 - (n : Int) else (n : Int), rest) else none
  | none => none
def i64v (p : Int × List Nat) : Value × List Nat := (.int .i64 p.1, p.2)
theorem rInt_none {ds : List Nat} (h : rnum ds = none) : rInt ds = none := by unfold rInt; rw [h]
theorem rInt_big {ds rest : List Nat} {n : Nat} {bl : Bool} (h : rnum ds = some (n, bl, rest)) (hn : ¬ n ≤ 9223372036854775807) : rInt ds = none := by unfold rInt; rw [h]; exact if_neg hn
theorem rInt_some {ds rest : List Nat} {n : Nat} {bl : Bool} (h : rnum ds = some (n, bl, rest)) (hn : n ≤ 9223372036854775807) : rInt ds = some (if bl then -1 - (n : Int) else (n : Int), rest) := by unfold rInt; rw [h]; exact if_pos hn
set_option maxHeartbeats 1000000 in
theorem int_rd (b : Nat) (ds : List Nat) (bad : Bool) (w : World) (hr : RR w b ds bad) :
    Calls Try.prog 27 #[.pointer (some ⟨b, 0, none⟩)] w (Got b w (.int .i64 0) ((rInt ds).map i64v)) := by
  have hn := number_rd b ds bad w hr
  cases hrn : rnum ds with
  | none =>
    have HQ := Lib.hid (show (rInt ds).map i64v = none by rw [rInt_none hrn]; rfl)
    rw [hrn] at hn
    have HN := Lib.hid hn
    obtain ⟨R, hR⟩ : ∃ R, (rInt ds).map i64v = R := ⟨_, rfl⟩
    rw [hR] at HQ ⊢
    clear hrn hn hr hR
    go_enter Try.func27, Try.ntmps27
    go_wp2_with fail
    refine (HN.out).mono ?_
    rintro e w1 ⟨hno, _⟩
    obtain ⟨rfl, hr1, ht1⟩ := hno rfl
    go_wp2
    go_ret
    exact Got.no HQ.out hr1 ht1
  | some p =>
    obtain ⟨n, bl, rest⟩ := p
    rw [hrn] at hn
    have HN := Lib.hid hn
    by_cases hle : n ≤ 9223372036854775807
    · have hd : decide ((9223372036854775807 : Int) < (n : Int)) = false := by simp; omega
      have hw : IntKind.i64.wrap (n : Int) = (n : Int) := IntWalk.i64_in _ ⟨by omega, by omega⟩
      have hx := i64_not n (by omega)
      cases bl with
      | true =>
        have HQ := Lib.hid (show (rInt ds).map i64v = some (.int .i64 (-1 - (n : Int)), rest) by rw [rInt_some hrn hle]; rfl)
        obtain ⟨R, hR⟩ : ∃ R, (rInt ds).map i64v = R := ⟨_, rfl⟩
        rw [hR] at HQ ⊢
        clear hrn hn hr hR hle
        go_enter Try.func27, Try.ntmps27
        go_wp2_with fail
        refine (HN.out).mono ?_
        rintro e w1 ⟨_, hyes⟩
        obtain ⟨rfl, hr1, ht1⟩ := hyes _ _ _ rfl
        clear hyes
        go_wp2
        go_ret
        exact Got.yes HQ.out hr1 ht1
      | false =>
        have HQ := Lib.hid (show (rInt ds).map i64v = some (.int .i64 (n : Int), rest) by rw [rInt_some hrn hle]; rfl)
        obtain ⟨R, hR⟩ : ∃ R, (rInt ds).map i64v = R := ⟨_, rfl⟩
        rw [hR] at HQ ⊢
        clear hrn hn hr hR hle hx
        go_enter Try.func27, Try.ntmps27
        go_wp2_with fail
        refine (HN.out).mono ?_
        rintro e w1 ⟨_, hyes⟩
        obtain ⟨rfl, hr1, ht1⟩ := hyes _ _ _ rfl
        clear hyes
        go_wp2
        go_ret
        exact Got.yes HQ.out hr1 ht1
    · have hd : decide ((9223372036854775807 : Int) < (n : Int)) = true := by simp; omega
      have HQ := Lib.hid (show (rInt ds).map i64v = none by rw [rInt_big hrn hle]; rfl)
      obtain ⟨R, hR⟩ : ∃ R, (rInt ds).map i64v = R := ⟨_, rfl⟩
      rw [hR] at HQ ⊢
      clear hrn hn hr hR hle
      go_enter Try.func27, Try.ntmps27
      go_wp2_with fail
      refine (HN.out).mono ?_
      rintro e w1 ⟨_, hyes⟩
      obtain ⟨rfl, hr1, ht1⟩ := hyes _ _ _ rfl
      clear hyes
      have HF := Lib.hid (fail_rd b _ _ w1 hr1)
      go_wp2_with (go_at_call 54; refine (HF.out).mono ?_; rintro e w2 ⟨rfl, hr2, ht2⟩)
      go_ret
      exact Got.no HQ.out hr2 (ht1.trans ht2)

/-- Flag's reading. -/
def rFlag (ds : List Nat) : Option (Bool × List Nat) := (rNum 1 ds).map fun p => (p.1 == 1, p.2)
def boolv (p : Bool × List Nat) : Value × List Nat := (.bool p.1, p.2)
set_option maxHeartbeats 1000000 in
theorem flag_rd (b : Nat) (ds : List Nat) (bad : Bool) (w : World) (hr : RR w b ds bad) :
    Calls Try.prog 28 #[.pointer (some ⟨b, 0, none⟩)] w (Got b w (.bool false) ((rFlag ds).map boolv)) := by
  have HN := Lib.hid (num_rd b 1 ds bad w hr)
  cases hrn : rNum 1 ds with
  | none =>
    have HQ := Lib.hid (show (rFlag ds).map boolv = none by unfold rFlag; rw [hrn]; rfl)
    rw [hrn] at HN
    obtain ⟨R, hR⟩ : ∃ R, (rFlag ds).map boolv = R := ⟨_, rfl⟩
    rw [hR] at HQ ⊢
    clear hrn hr hR
    go_enter Try.func28, Try.ntmps28
    go_wp2_with fail
    refine (HN.out).mono ?_
    rintro e w1 ⟨hno, _⟩
    obtain ⟨rfl, hr1, ht1⟩ := hno rfl
    go_wp2
    go_ret
    exact Got.no HQ.out hr1 ht1
  | some p =>
    obtain ⟨n, rest⟩ := p
    have HQ := Lib.hid (show (rFlag ds).map boolv = some (.bool (n == 1), rest) by unfold rFlag; rw [hrn]; rfl)
    rw [hrn] at HN
    obtain ⟨R, hR⟩ : ∃ R, (rFlag ds).map boolv = R := ⟨_, rfl⟩
    rw [hR] at HQ ⊢
    clear hrn hr hR
    have hq : ((n : Int) == 1) = (n == 1) := by
      by_cases h : n = 1
      · subst h; rfl
      · have h2 : ¬ (n : Int) = 1 := by omega
        rw [show ((n : Int) == 1) = false by simpa using h2, show (n == 1) = false by simpa using h]
    go_enter Try.func28, Try.ntmps28
    go_wp2_with fail
    refine (HN.out).mono ?_
    rintro e w1 ⟨_, hyes⟩
    obtain ⟨rfl, hr1, ht1⟩ := hyes _ _ rfl
    clear hyes
    dsimp only
    go_wp2
    go_ret
    exact Got.yes HQ.out hr1 ht1

/-- Raw's reading. -/
def rRaw (n : Int) (ds : List Nat) : Option (List Nat × List Nat) := if n < 0 ∨ (ds.length : Int) < n then none else some (ds.take n.toNat, ds.drop n.toNat)
/-- What Raw hands back. -/
def GotRaw (b : Nat) (w : World) (r : Option (List Nat × List Nat)) (e : Ending) (w' : World) : Prop :=
  (r = none → e = .returned (.slice none 0 0) ∧ RR w' b [] true ∧ Rd b w w') ∧ ∀ xs rest, r = some (xs, rest) → ∃ v bad, e = .returned v ∧ RB w' v xs ∧ RR w' b rest bad ∧ Rd b w w' ∧ (bad = true → True)
theorem clone_none (w : World) : Calls Try.prog 47 #[.slice none 0 0] w fun e w' => e = .returned (.slice none 0 0) ∧ w = w' := by
  have hn := fun (w : World) (n c : Nat) => Lib.run_eql_slice_nil (P := Try.prog) w 27 5 none n c 0 0 Try.underlying27
  go_enter Try.func47, Try.ntmps47
  go_wp2
  go_ret
  exact ⟨rfl, rfl⟩
set_option maxHeartbeats 1000000 in
theorem raw_neg (b : Nat) (n : Int) (ds : List Nat) (bad : Bool) (w : World) (hr : RR w b ds bad) (hn : n < 0) :
    Calls Try.prog 30 #[.pointer (some ⟨b, 0, none⟩), .int .i64 n] w fun e w' => e = .returned (.slice none 0 0) ∧ RR w' b [] true ∧ Rd b w w' := by
  have HF := Lib.hid (fail_rd b ds bad w hr)
  clear hr
  go_enter Try.func30, Try.ntmps30
  go_wp2_with (go_at_call 54; refine (HF.out).mono ?_; rintro e w2 ⟨rfl, hr2, ht2⟩)
  go_ret
  exact ⟨rfl, hr2, ht2⟩
set_option maxHeartbeats 1000000 in
theorem raw_over (b n : Nat) (ds : List Nat) (bad : Bool) (w : World) (hr : RR w b ds bad) (hn : ds.length < n) (h63 : n ≤ 9223372036854775807) :
    Calls Try.prog 30 #[.pointer (some ⟨b, 0, none⟩), .int .i64 (n : Int)] w fun e w' => e = .returned (.slice none 0 0) ∧ RR w' b [] true ∧ Rd b w w' := by
  have HT := Lib.hid (take_no b n ds bad w hr hn)
  have hw : IntKind.u64.wrap (n : Int) = (n : Int) := IntWalk.u64_in _ ⟨by omega, by omega⟩
  have h0 : decide ((n : Int) < 0) = false := by simp
  clear hr hn h63
  go_enter Try.func30, Try.ntmps30
  go_wp2_with (first
    | (go_at_call 58; refine (HT.out).mono ?_; rintro e w2 ⟨rfl, hr2, ht2⟩)
    | (go_at_call 47; refine (clone_none _).mono ?_; rintro e w3 ⟨rfl, rfl⟩))
  go_ret
  exact ⟨rfl, hr2, ht2⟩
/-- What Raw hands back, if it reads. -/
def RawYes (b : Nat) (w : World) (xs rest : List Nat) (bad : Bool) (e : Ending) (w' : World) : Prop := ∃ v, e = .returned v ∧ RB w' v xs ∧ RR w' b rest bad ∧ Rd b w w'
set_option maxHeartbeats 1000000 in
theorem raw_yes (b n : Nat) (ds : List Nat) (bad : Bool) (w : World) (hr : RR w b ds bad) (hn : n ≤ ds.length) (hl : ds.length ≤ 10000000) :
    Calls Try.prog 30 #[.pointer (some ⟨b, 0, none⟩), .int .i64 (n : Int)] w (RawYes b w (ds.take n) (ds.drop n) bad) := by
  have HT := Lib.hid (take_yes b n ds bad w hr hn)
  have HL := Lib.hid hl
  have hw : IntKind.u64.wrap (n : Int) = (n : Int) := IntWalk.u64_in _ ⟨by omega, by omega⟩
  have h0 : decide ((n : Int) < 0) = false := by simp
  clear hr hn hl
  go_enter Try.func30, Try.ntmps30
  go_wp2_with (first
    | (go_at_call 58; refine (HT.out).mono ?_; rintro e w2 ⟨v2, rfl, hv2, hb2, hr2, ht2⟩)
    | (go_at_call 47; refine (clone_any _ _ _ hv2).mono ?_; rintro e w3 ⟨v3, rfl, ho3, hb3⟩))
  go_ret
  exact ⟨_, rfl, ho3.rb hv2.1 (by have := HL.out; simp; omega), hr2.kept hb3, ht2.trans (Turn.below hb3)⟩

/-- Text's reading. -/
def rText (most : Int) (ds : List Nat) : Option (List Nat × List Nat) :=
  if most < 0 then none else match rNum most.toNat ds with
  | some (n, rest) => if n ≤ rest.length then some (rest.take n, rest.drop n) else none
  | none => none
def textv (p : List Nat × List Nat) : Value × List Nat := (.string (str p.1), p.2)
set_option maxHeartbeats 1000000 in
theorem text_neg (b : Nat) (n : Int) (ds : List Nat) (bad : Bool) (w : World) (hr : RR w b ds bad) (hn : n < 0) :
    Calls Try.prog 29 #[.pointer (some ⟨b, 0, none⟩), .int .i64 n] w (Got b w (.string ByteArray.empty) ((rText n ds).map textv)) := by
  have HF := Lib.hid (fail_rd b ds bad w hr)
  have HQ := Lib.hid (show (rText n ds).map textv = none by unfold rText; rw [if_pos hn]; rfl)
  obtain ⟨R, hR⟩ : ∃ R, (rText n ds).map textv = R := ⟨_, rfl⟩
  rw [hR] at HQ ⊢
  clear hr hR
  go_enter Try.func29, Try.ntmps29
  go_wp2_with (go_at_call 54; refine (HF.out).mono ?_; rintro e w2 ⟨rfl, hr2, ht2⟩)
  go_ret
  exact Got.no HQ.out hr2 ht2
theorem rText_pos (n : Nat) (ds : List Nat) : rText (n : Int) ds = match rNum n ds with
  | some (m, rest) => if m ≤ rest.length then some (rest.take m, rest.drop m) else none
  | none => none := by
  unfold rText
  rw [if_neg (by omega), Int.toNat_natCast]
set_option maxHeartbeats 1000000 in
theorem text_pos (b n : Nat) (ds : List Nat) (bad : Bool) (w : World) (hr : RR w b ds bad) (h63 : n ≤ 9223372036854775807) :
    Calls Try.prog 29 #[.pointer (some ⟨b, 0, none⟩), .int .i64 (n : Int)] w (Got b w (.string ByteArray.empty) ((rText (n : Int) ds).map textv)) := by
  have HN := Lib.hid (num_rd b n ds bad w hr)
  have hw : IntKind.u64.wrap (n : Int) = (n : Int) := IntWalk.u64_in _ ⟨by omega, by omega⟩
  have h0 : decide ((n : Int) < 0) = false := by simp
  cases hrn : rNum n ds with
  | none =>
    have HQ := Lib.hid (show (rText (n : Int) ds).map textv = none by rw [rText_pos, hrn]; rfl)
    rw [hrn] at HN
    obtain ⟨R, hR⟩ : ∃ R, (rText (n : Int) ds).map textv = R := ⟨_, rfl⟩
    rw [hR] at HQ ⊢
    clear hrn hr hR h63
    go_enter Try.func29, Try.ntmps29
    go_wp2_with fail
    refine (HN.out).mono ?_
    rintro e w1 ⟨hno, _⟩
    obtain ⟨rfl, hr1, ht1⟩ := hno rfl
    clear hno
    have HT := Lib.hid (take_yes b 0 [] true w1 hr1 (by simp))
    go_wp2_with (go_at_call 58; refine (HT.out).mono ?_; rintro e w2 ⟨v2, rfl, hv2, hb2, hr2, ht2⟩; have hcv := rb_string (P := Try.prog) hv2 27 9 5 Try.underlying27 Try.underlying5 Try.underlying9)
    go_ret
    exact Got.no HQ.out hr2 (ht1.trans ht2)
  | some p =>
    obtain ⟨m, rest⟩ := p
    by_cases hle : m ≤ rest.length
    · have HQ := Lib.hid (show (rText (n : Int) ds).map textv = some (.string (str (rest.take m)), rest.drop m) by rw [rText_pos, hrn]; simp [hle, textv])
      have HLE := Lib.hid hle
      clear hle
      rw [hrn] at HN
      obtain ⟨R, hR⟩ : ∃ R, (rText (n : Int) ds).map textv = R := ⟨_, rfl⟩
      rw [hR] at HQ ⊢
      clear hrn hr hR h63
      go_enter Try.func29, Try.ntmps29
      go_wp2_with fail
      refine (HN.out).mono ?_
      rintro e w1 ⟨_, hyes⟩
      obtain ⟨rfl, hr1, ht1⟩ := hyes _ _ rfl
      clear hyes
      have HT := Lib.hid (take_yes b m rest false w1 hr1 HLE.out)
      dsimp only
      go_wp2_with (go_at_call 58; refine (HT.out).mono ?_; rintro e w2 ⟨v2, rfl, hv2, hb2, hr2, ht2⟩; have hcv := rb_string (P := Try.prog) hv2 27 9 5 Try.underlying27 Try.underlying5 Try.underlying9)
      go_ret
      exact Got.yes HQ.out hr2 (ht1.trans ht2)
    · have HQ := Lib.hid (show (rText (n : Int) ds).map textv = none by rw [rText_pos, hrn]; simp [hle])
      have HLE := Lib.hid hle
      clear hle
      rw [hrn] at HN
      obtain ⟨R, hR⟩ : ∃ R, (rText (n : Int) ds).map textv = R := ⟨_, rfl⟩
      rw [hR] at HQ ⊢
      clear hrn hr hR h63
      go_enter Try.func29, Try.ntmps29
      go_wp2_with fail
      refine (HN.out).mono ?_
      rintro e w1 ⟨_, hyes⟩
      obtain ⟨rfl, hr1, ht1⟩ := hyes _ _ rfl
      clear hyes
      have HT := Lib.hid (take_no b m rest false w1 hr1 (by have := HLE.out; omega))
      have hcv := fun (w : World) => run_convert_bytes_nil (P := Try.prog) w 27 5 Try.underlying27 Try.underlying5 0 0 9 Try.underlying9
      dsimp only
      go_wp2_with (go_at_call 58; refine (HT.out).mono ?_; rintro e w2 ⟨rfl, hr2, ht2⟩)
      go_ret
      exact Got.no HQ.out hr2 (ht1.trans ht2)
theorem text_rd (b : Nat) (n : Int) (ds : List Nat) (bad : Bool) (w : World) (hr : RR w b ds bad) (h63 : n ≤ 9223372036854775807) :
    Calls Try.prog 29 #[.pointer (some ⟨b, 0, none⟩), .int .i64 n] w (Got b w (.string ByteArray.empty) ((rText n ds).map textv)) := by
  by_cases hn : n < 0
  · exact text_neg b n ds bad w hr hn
  · obtain ⟨m, rfl⟩ : ∃ m : Nat, n = (m : Int) := ⟨n.toNat, by omega⟩
    exact text_pos b m ds bad w hr (by omega)

/-! Nobody's reader. -/
theorem number_nil (w : World) : Calls Try.prog 57 #[.pointer none] w fun e w' => e = .returned (.tuple #[.int .u64 0, .bool false]) ∧ w = w' := by
  have H := Lib.hid (take_nil 1 w)
  go_enter Try.func57, Try.ntmps57
  go_wp2_with (go_at_call 58; refine (H.out).mono ?_; rintro e w' ⟨rfl, rfl⟩)
  go_ret2
  exact ⟨rfl, rfl⟩
theorem rnum_nil (most : Nat) (w : World) : Calls Try.prog 31 #[.pointer none, .int .u64 (most : Int)] w fun e w' => e = .returned (.int .u64 0) ∧ w = w' := by
  have hm : (0 : Int) ≤ (most : Int) := by omega
  go_enter Try.func31, Try.ntmps31
  go_wp2_with (go_at_call 57; refine (number_nil _).mono ?_; rintro e w' ⟨rfl, rfl⟩)
  go_ret
  exact ⟨rfl, rfl⟩
theorem rint_nil (w : World) : Calls Try.prog 27 #[.pointer none] w fun e w' => e = .returned (.int .i64 0) ∧ w = w' := by
  go_enter Try.func27, Try.ntmps27
  go_wp2_with (go_at_call 57; refine (number_nil _).mono ?_; rintro e w' ⟨rfl, rfl⟩)
  go_ret
  exact ⟨rfl, rfl⟩
theorem rflag_nil (w : World) : Calls Try.prog 28 #[.pointer none] w fun e w' => e = .returned (.bool false) ∧ w = w' := by
  have H := Lib.hid (rnum_nil 1 w)
  go_enter Try.func28, Try.ntmps28
  go_wp2_with (go_at_call 31; refine (H.out).mono ?_; rintro e w' ⟨rfl, rfl⟩)
  go_ret
  exact ⟨rfl, rfl⟩
set_option maxHeartbeats 1000000 in
theorem rtext_nil (n : Int) (w : World) (h63 : n ≤ 9223372036854775807) (h0 : -9223372036854775808 ≤ n) : Calls Try.prog 29 #[.pointer none, .int .i64 n] w fun e w' => e = .returned (.string ByteArray.empty) ∧ w = w' := by
  by_cases hn : n < 0
  · go_enter Try.func29, Try.ntmps29
    go_wp2_with (go_at_call 54; refine (fail_nil _).mono ?_; rintro e w' ⟨rfl, rfl⟩)
    go_ret
    exact ⟨rfl, rfl⟩
  · obtain ⟨m, rfl⟩ : ∃ m : Nat, n = (m : Int) := ⟨n.toNat, by omega⟩
    have hw : IntKind.u64.wrap (m : Int) = (m : Int) := IntWalk.u64_in _ ⟨by omega, by omega⟩
    have hd : decide ((m : Int) < 0) = false := by simp
    have H := Lib.hid (rnum_nil m w)
    have HT := Lib.hid (take_nil 0 w)
    have hcv := fun (w : World) => run_convert_bytes_nil (P := Try.prog) w 27 5 Try.underlying27 Try.underlying5 0 0 9 Try.underlying9
    clear hn h63 h0
    go_enter Try.func29, Try.ntmps29
    go_wp2_with (first
      | (go_at_call 31; refine (H.out).mono ?_; rintro e w' ⟨rfl, rfl⟩)
      | (go_at_call 58; refine (HT.out).mono ?_; rintro e w' ⟨rfl, rfl⟩))
    go_ret
    exact ⟨rfl, rfl⟩
set_option maxHeartbeats 1000000 in
theorem rraw_nil (n : Int) (w : World) (h63 : n ≤ 9223372036854775807) (h0 : -9223372036854775808 ≤ n) : Calls Try.prog 30 #[.pointer none, .int .i64 n] w fun e w' => e = .returned (.slice none 0 0) ∧ w = w' := by
  by_cases hn : n < 0
  · go_enter Try.func30, Try.ntmps30
    go_wp2_with (go_at_call 54; refine (fail_nil _).mono ?_; rintro e w' ⟨rfl, rfl⟩)
    go_ret
    exact ⟨rfl, rfl⟩
  · obtain ⟨m, rfl⟩ : ∃ m : Nat, n = (m : Int) := ⟨n.toNat, by omega⟩
    have hw : IntKind.u64.wrap (m : Int) = (m : Int) := IntWalk.u64_in _ ⟨by omega, by omega⟩
    have hd : decide ((m : Int) < 0) = false := by simp
    have HT := Lib.hid (take_nil m w)
    clear hn h63 h0
    go_enter Try.func30, Try.ntmps30
    go_wp2_with (first
      | (go_at_call 58; refine (HT.out).mono ?_; rintro e w' ⟨rfl, rfl⟩)
      | (go_at_call 47; refine (clone_none _).mono ?_; rintro e w' ⟨rfl, rfl⟩))
    go_ret
    exact ⟨rfl, rfl⟩
end Go.Proofs.Ytkeloeppploiaaa
