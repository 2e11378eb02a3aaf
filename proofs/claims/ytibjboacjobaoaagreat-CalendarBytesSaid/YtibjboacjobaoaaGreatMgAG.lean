import Derived.Test.YtibjboacjobaoaaGreatQuM
import Derived.Laws.DeepNot64
namespace Go.Proofs.YtibjboacjobaoaaGreat
open Go.RowKit
/- Walks of a reader's methods. -/
open Go.RowKit

/-- What number answers, by what it reads. -/
def NumRd (b : Nat) (w : World) (r : Option (Nat × Bool × List Nat)) (e : Ending) (w' : World) : Prop :=
  (r = none → NumNo b w e w') ∧ ∀ n bl rest, r = some (n, bl, rest) → NumYes b w n bl rest e w'
theorem number_rd (b : Nat) (ds : List Nat) (bad : Bool) (w : World) (hr : RR w b ds bad) : Calls Tryz.prog 100 #[.pointer (some ⟨b, 0, none⟩)] w (NumRd b w (rnum ds)) := by
  cases ds with
  | nil => exact (number_empty b bad w hr).mono fun e w' h => ⟨fun _ => h, fun n bl rest hq => by simp [rnum] at hq⟩
  | cons h t =>
    have hb : bad = false := by
      obtain ⟨_, _, _, _, h4⟩ := hr
      cases bad with
      | false => rfl
      | true => simp at h4
    subst hb
    by_cases h1 : 8 < h % 128
    · exact (number_big b h t w hr h1).mono fun e w' hq => ⟨fun _ => hq, fun n bl rest hx => by simp [rnum, h1] at hx⟩
    by_cases h2 : t.length < h % 128
    · exact (number_short b h t w hr (by omega) h2).mono fun e w' hq => ⟨fun _ => hq, fun n bl rest hx => by rw [rnum, if_neg h1, if_pos h2] at hx; cases hx⟩
    by_cases h3 : 0 < h % 128 ∧ t.getD 0 0 = 0
    · exact (number_zero b h t w hr (by omega) (by omega) h3.1 h3.2).mono fun e w' hq => ⟨fun _ => hq, fun n bl rest hx => by rw [rnum, if_neg h1, if_neg h2, if_pos h3] at hx; cases hx⟩
    · refine (number_ok b h t w hr (by omega) (by omega) h3).mono fun e w' hq => ⟨fun hx => ?_, fun n bl rest hx => ?_⟩
      · rw [rnum, if_neg h1, if_neg h2, if_neg h3] at hx; cases hx
      · rw [rnum, if_neg h1, if_neg h2, if_neg h3] at hx
        simp only [Option.some.injEq, Prod.mk.injEq] at hx
        obtain ⟨rfl, rfl, rfl⟩ := hx
        exact hq

/-- What a reading hands back: z, if it fails. -/
def Got (b : Nat) (w : World) (z : Value) (r : Option (Value × List Nat)) (e : Ending) (w' : World) : Prop :=
  (r = none → e = .returned z ∧ RR w' b [] true ∧ Rd b w w') ∧ ∀ v rest, r = some (v, rest) → e = .returned v ∧ RR w' b rest false ∧ Rd b w w'
theorem Got.no {b : Nat} {w w' : World} {z : Value} {r : Option (Value × List Nat)} (hr : r = none) (h1 : RR w' b [] true) (h2 : Rd b w w') : Got b w z r (.returned z) w' :=
  ⟨(fun _ => ⟨rfl, h1, h2⟩), (fun v rest hx => by rw [hr] at hx; cases hx)⟩
theorem Got.yes {b : Nat} {w w' : World} {z v : Value} {rest : List Nat} {r : Option (Value × List Nat)} (hr : r = some (v, rest)) (h1 : RR w' b rest false) (h2 : Rd b w w') : Got b w z r (.returned v) w' :=
  ⟨(fun hx => by rw [hr] at hx; cases hx), (fun v' rest' hx => by rw [hr] at hx; simp only [Option.some.injEq, Prod.mk.injEq] at hx; obtain ⟨rfl, rfl⟩ := hx; exact ⟨rfl, h1, h2⟩)⟩

/-- Num's reading. -/
def rNum (most : Nat) (ds : List Nat) : Option (Nat × List Nat) :=
  match rnum ds with
  | some (n, false, rest) => if n ≤ most then some (n, rest) else none
  | _ => none
def u64v (p : Nat × List Nat) : Value × List Nat := (.int .u64 ((p.1 : Nat) : Int), p.2)
set_option maxHeartbeats 1000000 in
theorem num_rd (b most : Nat) (ds : List Nat) (bad : Bool) (w : World) (hr : RR w b ds bad) :
    Calls Tryz.prog 70 #[.pointer (some ⟨b, 0, none⟩), .int .u64 (most : Int)] w (Got b w (.int .u64 0) ((rNum most ds).map u64v)) := by
  have hn := number_rd b ds bad w hr
  cases hrn : rnum ds with
  | none =>
    have HQ := Lib.hid (show (rNum most ds).map u64v = none by unfold rNum; rw [hrn]; rfl)
    rw [hrn] at hn
    have HN := Lib.hid hn
    obtain ⟨R, hR⟩ : ∃ R, (rNum most ds).map u64v = R := ⟨_, rfl⟩
    rw [hR] at HQ ⊢
    clear hrn hn hr hR
    have hm : (0 : Int) ≤ (most : Int) := by omega
    go_enter Tryz.func70, Tryz.ntmps70
    go_wp2_with fail
    refine (HN.out).mono ?_
    rintro e w1 ⟨hno, _⟩
    obtain ⟨rfl, hr1, ht1⟩ := hno rfl
    go_wp2
    go_ret
    exact Got.no HQ.out hr1 ht1
  | some p =>
    obtain ⟨n, bl, rest⟩ := p
    rw [hrn] at hn
    have HN := Lib.hid hn
    cases bl with
    | true =>
      have HQ := Lib.hid (show (rNum most ds).map u64v = none by unfold rNum; rw [hrn]; rfl)
      obtain ⟨R, hR⟩ : ∃ R, (rNum most ds).map u64v = R := ⟨_, rfl⟩
      rw [hR] at HQ ⊢
      clear hrn hn hr hR
      go_enter Tryz.func70, Tryz.ntmps70
      go_wp2_with fail
      refine (HN.out).mono ?_
      rintro e w1 ⟨_, hyes⟩
      obtain ⟨rfl, hr1, ht1⟩ := hyes _ _ _ rfl
      clear hyes
      have HF := Lib.hid (fail_rd b _ _ w1 hr1)
      go_wp2_with (go_at_call 57; refine (HF.out).mono ?_; rintro e w2 ⟨rfl, hr2, ht2⟩)
      go_ret
      exact Got.no HQ.out hr2 (ht1.trans ht2)
    | false =>
      by_cases hle : n ≤ most
      · have HQ := Lib.hid (show (rNum most ds).map u64v = some (.int .u64 (n : Int), rest) by unfold rNum; rw [hrn]; simp [hle, u64v])
        obtain ⟨R, hR⟩ : ∃ R, (rNum most ds).map u64v = R := ⟨_, rfl⟩
        rw [hR] at HQ ⊢
        have hd : decide ((most : Int) < (n : Int)) = false := by simp; omega
        clear hrn hn hr hR
        go_enter Tryz.func70, Tryz.ntmps70
        go_wp2_with fail
        refine (HN.out).mono ?_
        rintro e w1 ⟨_, hyes⟩
        obtain ⟨rfl, hr1, ht1⟩ := hyes _ _ _ rfl
        clear hyes
        go_wp2
        go_ret
        exact Got.yes HQ.out hr1 ht1
      · have HQ := Lib.hid (show (rNum most ds).map u64v = none by unfold rNum; rw [hrn]; simp [hle])
        obtain ⟨R, hR⟩ : ∃ R, (rNum most ds).map u64v = R := ⟨_, rfl⟩
        rw [hR] at HQ ⊢
        have hd : decide ((most : Int) < (n : Int)) = true := by simp; omega
        have hgt : most < n := by omega
        clear hrn hn hr hR hle
        go_enter Tryz.func70, Tryz.ntmps70
        go_wp2_with fail
        refine (HN.out).mono ?_
        rintro e w1 ⟨_, hyes⟩
        obtain ⟨rfl, hr1, ht1⟩ := hyes _ _ _ rfl
        clear hyes
        have HF := Lib.hid (fail_rd b _ _ w1 hr1)
        go_wp2_with (go_at_call 57; refine (HF.out).mono ?_; rintro e w2 ⟨rfl, hr2, ht2⟩)
        go_ret
        exact Got.no HQ.out hr2 (ht1.trans ht2)
/- Walks of a reader's methods: numbers with a sign, flags, strings, raw bytes. -/
open Go.RowKit

/-- Int's reading. -/
def rInt (ds : List Nat) : Option (Int × List Nat) :=
  match rnum ds with
  | some (n, bl, rest) => if n ≤ 9223372036854775807 then some (if bl then -1 - (n : Int) else (n : Int), rest) else none
  | none => none
def i64v (p : Int × List Nat) : Value × List Nat := (.int .i64 p.1, p.2)
theorem rInt_none {ds : List Nat} (h : rnum ds = none) : rInt ds = none := by unfold rInt; rw [h]
theorem rInt_big {ds rest : List Nat} {n : Nat} {bl : Bool} (h : rnum ds = some (n, bl, rest)) (hn : ¬ n ≤ 9223372036854775807) : rInt ds = none := by unfold rInt; rw [h]; exact if_neg hn
theorem rInt_some {ds rest : List Nat} {n : Nat} {bl : Bool} (h : rnum ds = some (n, bl, rest)) (hn : n ≤ 9223372036854775807) : rInt ds = some (if bl then -1 - (n : Int) else (n : Int), rest) := by unfold rInt; rw [h]; exact if_pos hn
set_option maxHeartbeats 1000000 in
theorem int_rd (b : Nat) (ds : List Nat) (bad : Bool) (w : World) (hr : RR w b ds bad) :
    Calls Tryz.prog 54 #[.pointer (some ⟨b, 0, none⟩)] w (Got b w (.int .i64 0) ((rInt ds).map i64v)) := by
  have hn := number_rd b ds bad w hr
  cases hrn : rnum ds with
  | none =>
    have HQ := Lib.hid (show (rInt ds).map i64v = none by rw [rInt_none hrn]; rfl)
    rw [hrn] at hn
    have HN := Lib.hid hn
    obtain ⟨R, hR⟩ : ∃ R, (rInt ds).map i64v = R := ⟨_, rfl⟩
    rw [hR] at HQ ⊢
    clear hrn hn hr hR
    go_enter Tryz.func54, Tryz.ntmps54
    go_wp2_with fail
    refine (HN.out).mono ?_
    rintro e w1 ⟨hno, _⟩
    obtain ⟨rfl, hr1, ht1⟩ := hno rfl
    go_wp2
    go_ret
    exact Got.no HQ.out hr1 ht1
  | some p =>
    obtain ⟨n, bl, rest⟩ := p
    rw [hrn] at hn
    have HN := Lib.hid hn
    by_cases hle : n ≤ 9223372036854775807
    · have hd : decide ((9223372036854775807 : Int) < (n : Int)) = false := by simp; omega
      have hw : IntKind.i64.wrap (n : Int) = (n : Int) := IntWalk.i64_in _ ⟨by omega, by omega⟩
      have hx := i64_not n (by omega)
      cases bl with
      | true =>
        have HQ := Lib.hid (show (rInt ds).map i64v = some (.int .i64 (-1 - (n : Int)), rest) by rw [rInt_some hrn hle]; rfl)
        obtain ⟨R, hR⟩ : ∃ R, (rInt ds).map i64v = R := ⟨_, rfl⟩
        rw [hR] at HQ ⊢
        clear hrn hn hr hR hle
        go_enter Tryz.func54, Tryz.ntmps54
        go_wp2_with fail
        refine (HN.out).mono ?_
        rintro e w1 ⟨_, hyes⟩
        obtain ⟨rfl, hr1, ht1⟩ := hyes _ _ _ rfl
        clear hyes
        go_wp2
        go_ret
        exact Got.yes HQ.out hr1 ht1
      | false =>
        have HQ := Lib.hid (show (rInt ds).map i64v = some (.int .i64 (n : Int), rest) by rw [rInt_some hrn hle]; rfl)
        obtain ⟨R, hR⟩ : ∃ R, (rInt ds).map i64v = R := ⟨_, rfl⟩
        rw [hR] at HQ ⊢
        clear hrn hn hr hR hle hx
        go_enter Tryz.func54, Tryz.ntmps54
        go_wp2_with fail
        refine (HN.out).mono ?_
        rintro e w1 ⟨_, hyes⟩
        obtain ⟨rfl, hr1, ht1⟩ := hyes _ _ _ rfl
        clear hyes
        go_wp2
        go_ret
        exact Got.yes HQ.out hr1 ht1
    · have hd : decide ((9223372036854775807 : Int) < (n : Int)) = true := by simp; omega
      have HQ := Lib.hid (show (rInt ds).map i64v = none by rw [rInt_big hrn hle]; rfl)
      obtain ⟨R, hR⟩ : ∃ R, (rInt ds).map i64v = R := ⟨_, rfl⟩
      rw [hR] at HQ ⊢
      clear hrn hn hr hR hle
      go_enter Tryz.func54, Tryz.ntmps54
      go_wp2_with fail
      refine (HN.out).mono ?_
      rintro e w1 ⟨_, hyes⟩
      obtain ⟨rfl, hr1, ht1⟩ := hyes _ _ _ rfl
      clear hyes
      have HF := Lib.hid (fail_rd b _ _ w1 hr1)
      go_wp2_with (go_at_call 57; refine (HF.out).mono ?_; rintro e w2 ⟨rfl, hr2, ht2⟩)
      go_ret
      exact Got.no HQ.out hr2 (ht1.trans ht2)

/-- Flag's reading. -/
def rFlag (ds : List Nat) : Option (Bool × List Nat) := (rNum 1 ds).map fun p => (p.1 == 1, p.2)
def boolv (p : Bool × List Nat) : Value × List Nat := (.bool p.1, p.2)
/-- Raw's reading. -/
def rRaw (n : Int) (ds : List Nat) : Option (List Nat × List Nat) := if n < 0 ∨ (ds.length : Int) < n then none else some (ds.take n.toNat, ds.drop n.toNat)
/-- What Raw hands back. -/
def GotRaw (b : Nat) (w : World) (r : Option (List Nat × List Nat)) (e : Ending) (w' : World) : Prop :=
  (r = none → e = .returned (.slice none 0 0) ∧ RR w' b [] true ∧ Rd b w w') ∧ ∀ xs rest, r = some (xs, rest) → ∃ v bad, e = .returned v ∧ RB w' v xs ∧ RR w' b rest bad ∧ Rd b w w' ∧ (bad = true → True)
theorem clone_none (w : World) : Calls Tryz.prog 58 #[.slice none 0 0] w fun e w' => e = .returned (.slice none 0 0) ∧ w = w' := by
  have hn := fun (w : World) (n c : Nat) => Lib.run_eql_slice_nil (P := Tryz.prog) w 25 5 none n c 0 0 Tryz.underlying25
  go_enter Tryz.func58, Tryz.ntmps58
  go_wp2
  go_ret
  exact ⟨rfl, rfl⟩
/-- What Raw hands back, if it reads. -/
def RawYes (b : Nat) (w : World) (xs rest : List Nat) (bad : Bool) (e : Ending) (w' : World) : Prop := ∃ v, e = .returned v ∧ RB w' v xs ∧ RR w' b rest bad ∧ Rd b w w'
/-- Text's reading. -/
def rText (most : Int) (ds : List Nat) : Option (List Nat × List Nat) :=
  if most < 0 then none else match rNum most.toNat ds with
  | some (n, rest) => if n ≤ rest.length then some (rest.take n, rest.drop n) else none
  | none => none
def textv (p : List Nat × List Nat) : Value × List Nat := (.string (str p.1), p.2)
theorem rText_pos (n : Nat) (ds : List Nat) : rText (n : Int) ds = match rNum n ds with
  | some (m, rest) => if m ≤ rest.length then some (rest.take m, rest.drop m) else none
  | none => none := by
  unfold rText
  rw [if_neg (by omega), Int.toNat_natCast]
/-! Nobody's reader. -/
theorem number_nil (w : World) : Calls Tryz.prog 100 #[.pointer none] w fun e w' => e = .returned (.tuple #[.int .u64 0, .bool false]) ∧ w = w' := by
  have H := Lib.hid (take_nil 1 w)
  go_enter Tryz.func100, Tryz.ntmps100
  go_wp2_with (go_at_call 126; refine (H.out).mono ?_; rintro e w' ⟨rfl, rfl⟩)
  go_ret2
  exact ⟨rfl, rfl⟩
theorem rnum_nil (most : Nat) (w : World) : Calls Tryz.prog 70 #[.pointer none, .int .u64 (most : Int)] w fun e w' => e = .returned (.int .u64 0) ∧ w = w' := by
  have hm : (0 : Int) ≤ (most : Int) := by omega
  go_enter Tryz.func70, Tryz.ntmps70
  go_wp2_with (go_at_call 100; refine (number_nil _).mono ?_; rintro e w' ⟨rfl, rfl⟩)
  go_ret
  exact ⟨rfl, rfl⟩
theorem rint_nil (w : World) : Calls Tryz.prog 54 #[.pointer none] w fun e w' => e = .returned (.int .i64 0) ∧ w = w' := by
  go_enter Tryz.func54, Tryz.ntmps54
  go_wp2_with (go_at_call 100; refine (number_nil _).mono ?_; rintro e w' ⟨rfl, rfl⟩)
  go_ret
  exact ⟨rfl, rfl⟩
/- What is read as a number is its own encoding. -/

theorem val_cons (c : Nat) (l : List Nat) : val (c :: l) = c * 2 ^ (8 * l.length) + val l := by
  have key : ∀ (l : List Nat) (a : Nat), l.foldl (fun n c => n * 256 + c) a = a * 2 ^ (8 * l.length) + l.foldl (fun n c => n * 256 + c) 0 := by
    intro l
    induction l with
    | nil => intro a; simp
    | cons d l ih =>
      intro a
      rw [List.foldl_cons, List.foldl_cons, ih (a * 256 + d), ih (0 * 256 + d), List.length_cons, Nat.mul_add, Nat.pow_add]
      generalize 2 ^ (8 * l.length) = p
      have e : (2 : Nat) ^ (8 * 1) = 256 := rfl
      rw [e, Nat.zero_mul, Nat.zero_add, Nat.add_mul, Nat.mul_assoc, Nat.mul_comm 256 p, Nat.add_assoc]
  unfold val
  rw [List.foldl_cons, key l (0 * 256 + c), Nat.zero_mul, Nat.zero_add]
theorem val_lt (l : List Nat) (h : ∀ c ∈ l, c < 256) : val l < 2 ^ (8 * l.length) := by
  have := val_take_lt l h l.length (Nat.le_refl _)
  rwa [List.take_length] at this
theorem enc_mod (j a b : Nat) : enc j (a * 2 ^ (8 * j) + b) = enc j b := by
  induction j generalizing a b with
  | zero => rfl
  | succ j ih =>
    have e : a * 2 ^ (8 * (j + 1)) = a * 256 * 2 ^ (8 * j) := by
      rw [Nat.mul_add, Nat.pow_add, Nat.mul_assoc, Nat.mul_comm 256]
    rw [enc, enc, e, ih]
    congr 1
    have hp : 0 < 2 ^ (8 * j) := Nat.two_pow_pos _
    rw [Nat.mul_comm (a * 256), Nat.mul_add_div hp]
    omega
theorem enc_val (l : List Nat) (h : ∀ c ∈ l, c < 256) : enc l.length (val l) = l := by
  induction l with
  | nil => rfl
  | cons c l ih =>
    have hl := fun d hd => h d (List.mem_cons_of_mem c hd)
    have hc := h c (by simp)
    have hv := val_lt l hl
    rw [List.length_cons, enc, val_cons, enc_mod, ih hl]
    congr 1
    have hp : 0 < 2 ^ (8 * l.length) := Nat.two_pow_pos _
    rw [Nat.mul_comm c, Nat.mul_add_div hp, Nat.div_eq_of_lt hv]
    omega
theorem sz_val (l : List Nat) (h : ∀ c ∈ l, c < 256) (h0 : ¬ (0 < l.length ∧ l.getD 0 0 = 0)) : sz (val l) = l.length := by
  refine sz_unique _ _ (val_lt l h) fun hp => ?_
  cases l with
  | nil => simp at hp
  | cons c l =>
    have hc : c ≠ 0 := fun e => h0 ⟨by simp, by simpa using e⟩
    rw [val_cons, List.length_cons, Nat.add_sub_cancel]
    have : 1 * 2 ^ (8 * l.length) ≤ c * 2 ^ (8 * l.length) := Nat.mul_le_mul_right _ (by omega)
    omega
/-- What number reads is what is written of it, with what is left behind it. -/
theorem rnum_enc {ds rest : List Nat} {n : Nat} {bl : Bool} (h : rnum ds = some (n, bl, rest)) (hlt : ∀ c ∈ ds, c < 256) : ds = num (if bl then 128 else 0) n ++ rest ∧ n < 18446744073709551616 := by
  cases ds with
  | nil => simp [rnum] at h
  | cons c t =>
    rw [rnum] at h
    split at h
    · cases h
    rename_i h1
    split at h
    · cases h
    rename_i h2
    split at h
    · cases h
    rename_i h3
    simp only [Option.some.injEq, Prod.mk.injEq] at h
    obtain ⟨rfl, rfl, rfl⟩ := h
    have hc := hlt c (by simp)
    have ht : ∀ d ∈ t.take (c % 128), d < 256 := fun d hd => hlt d (List.mem_cons_of_mem c (List.mem_of_mem_take hd))
    have hl : (t.take (c % 128)).length = c % 128 := by simp; omega
    have h0 : ¬ (0 < (t.take (c % 128)).length ∧ (t.take (c % 128)).getD 0 0 = 0) := by
      rw [hl]
      intro hq
      exact h3 ⟨hq.1, by have := hq.2; simpa [List.getElem?_take, hq.1] using this⟩
    have hs := sz_val _ ht h0
    have he := enc_val _ ht
    rw [hl] at hs he
    refine ⟨?_, ?_⟩
    · unfold num
      rw [hs, he, List.cons_append, List.take_append_drop]
      congr 1
      by_cases hq : 128 ≤ c
      · simp [hq]; omega
      · simp [hq]; omega
    · have h8 := val_lt _ ht
      rw [hl] at h8
      have : 2 ^ (8 * (c % 128)) ≤ 2 ^ 64 := Nat.pow_le_pow_right (by omega) (by omega)
      have e : (2 : Nat) ^ 64 = 18446744073709551616 := by decide
      omega
end Go.Proofs.YtibjboacjobaoaaGreat
