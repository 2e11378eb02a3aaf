/- Walks of a reader's methods. -/
import Derived.Test.YtnhaakdjijjinaaQuM
namespace Go.Proofs.Ytnhaakdjijjinaa
open Go.RowKit

/-- What number answers, by what it reads. -/
def NumRd (b : Nat) (w : World) (r : Option (Nat × Bool × List Nat)) (e : Ending) (w' : World) : Prop :=
  (r = none → NumNo b w e w') ∧ ∀ n bl rest, r = some (n, bl, rest) → NumYes b w n bl rest e w'
theorem number_rd (b : Nat) (ds : List Nat) (bad : Bool) (w : World) (hr : RR w b ds bad) : Calls Try.prog 82 #[.pointer (some ⟨b, 0, none⟩)] w (NumRd b w (rnum ds)) := by
  cases ds with
  | nil => exact (number_empty b bad w hr).mono fun e w' h => ⟨fun _ => h, fun n bl rest hq => by simp [rnum] at hq⟩
  | cons h t =>
    have hb : bad = false := by
      obtain ⟨_, _, _, _, h4⟩ := hr
      cases bad with
      | false => rfl
      | true => simp at h4
    subst hb
    by_cases h1 : 8 < h % 128
    · exact (number_big b h t w hr h1).mono fun e w' hq => ⟨fun _ => hq, fun n bl rest hx => by simp [rnum, h1] at hx⟩
    by_cases h2 : t.length < h % 128
    · exact (number_short b h t w hr (by omega) h2).mono fun e w' hq => ⟨fun _ => hq, fun n bl rest hx => by rw [rnum, if_neg h1, if_pos h2] at hx; cases hx⟩
    by_cases h3 : 0 < h % 128 ∧ t.getD 0 0 = 0
    · exact (number_zero b h t w hr (by omega) (by omega) h3.1 h3.2).mono fun e w' hq => ⟨fun _ => hq, fun n bl rest hx => by rw [rnum, if_neg h1, if_neg h2, if_pos h3] at hx; cases hx⟩
    · refine (number_ok b h t w hr (by omega) (by omega) h3).mono fun e w' hq => ⟨fun hx => ?_, fun n bl rest hx => ?_⟩
      · rw [rnum, if_neg h1, if_neg h2, if_neg h3] at hx; cases hx
      · rw [rnum, if_neg h1, if_neg h2, if_neg h3] at hx
        simp only [Option.some.injEq, Prod.mk.injEq] at hx
        obtain ⟨rfl, rfl, rfl⟩ := hx
        exact hq

/-- What a reading hands back: z, if it fails. -/
def Got (b : Nat) (w : World) (z : Value) (r : Option (Value × List Nat)) (e : Ending) (w' : World) : Prop :=
  (r = none → e = .returned z ∧ RR w' b [] true ∧ Rd b w w') ∧ ∀ v rest, r = some (v, rest) → e = .returned v ∧ RR w' b rest false ∧ Rd b w w'
theorem Got.no {b : Nat} {w w' : World} {z : Value} {r : Option (Value × List Nat)} (hr : r = none) (h1 : RR w' b [] true) (h2 : Rd b w w') : Got b w z r (.returned z) w' :=
  ⟨(fun _ => ⟨rfl, h1, h2⟩), (fun v rest hx => by rw [hr] at hx; cases hx)⟩
theorem Got.yes {b : Nat} {w w' : World} {z v : Value} {rest : List Nat} {r : Option (Value × List Nat)} (hr : r = some (v, rest)) (h1 : RR w' b rest false) (h2 : Rd b w w') : Got b w z r (.returned v) w' :=
  ⟨(fun hx => by rw [hr] at hx; cases hx), (fun v' rest' hx => by rw [hr] at hx; simp only [Option.some.injEq, Prod.mk.injEq] at hx; obtain ⟨rfl, rfl⟩ := hx; exact ⟨rfl, h1, h2⟩)⟩

/-- Num's reading. -/
def rNum (most : Nat) (ds : List Nat) : Option (Nat × List Nat) :=
  match rnum ds with
  | some (n, false, rest) => if n ≤ most then some (n, rest) else none
  | _ => none
def u64v (p : Nat × List Nat) : Value × List Nat := (.int .u64 ((p.1 : Nat) : Int), p.2)
set_option maxHeartbeats 1000000 in
theorem num_rd (b most : Nat) (ds : List Nat) (bad : Bool) (w : World) (hr : RR w b ds bad) :
    Calls Try.prog 54 #[.pointer (some ⟨b, 0, none⟩), .int .u64 (most : Int)] w (Got b w (.int .u64 0) ((rNum most ds).map u64v)) := by
  have hn := number_rd b ds bad w hr
  cases hrn : rnum ds with
  | none =>
    have HQ := Lib.hid (show (rNum most ds).map u64v = none by unfold rNum; rw [hrn]; rfl)
    rw [hrn] at hn
    have HN := Lib.hid hn
    obtain ⟨R, hR⟩ : ∃ R, (rNum most ds).map u64v = R := ⟨_, rfl⟩
    rw [hR] at HQ ⊢
    clear hrn hn hr hR
    have hm : (0 : Int) ≤ (most : Int) := by omega
    go_enter Try.func54, Try.ntmps54
    go_wp2_with fail
    refine (HN.out).mono ?_
    rintro e w1 ⟨hno, _⟩
    obtain ⟨rfl, hr1, ht1⟩ := hno rfl
    go_wp2
    go_ret
    exact Got.no HQ.out hr1 ht1
  | some p =>
    obtain ⟨n, bl, rest⟩ := p
    rw [hrn] at hn
    have HN := Lib.hid hn
    cases bl with
    | true =>
      have HQ := Lib.hid (show (rNum most ds).map u64v = none by unfold rNum; rw [hrn]; rfl)
      obtain ⟨R, hR⟩ : ∃ R, (rNum most ds).map u64v = R := ⟨_, rfl⟩
      rw [hR] at HQ ⊢
      clear hrn hn hr hR
      go_enter Try.func54, Try.ntmps54
      go_wp2_with fail
      refine (HN.out).mono ?_
      rintro e w1 ⟨_, hyes⟩
      obtain ⟨rfl, hr1, ht1⟩ := hyes _ _ _ rfl
      clear hyes
      have HF := Lib.hid (fail_rd b _ _ w1 hr1)
      go_wp2_with (go_at_call 59; refine (HF.out).mono ?_; rintro e w2 ⟨rfl, hr2, ht2⟩)
      go_ret
      exact Got.no HQ.out hr2 (ht1.trans ht2)
    | false =>
      by_cases hle : n ≤ most
      · have HQ := Lib.hid (show (rNum most ds).map u64v = some (.int .u64 (n : Int), rest) by unfold rNum; rw [hrn]; simp [hle, u64v])
        obtain ⟨R, hR⟩ : ∃ R, (rNum most ds).map u64v = R := ⟨_, rfl⟩
        rw [hR] at HQ ⊢
        have hd : decide ((most : Int) < (n : Int)) = false := by simp; omega
        clear hrn hn hr hR
        go_enter Try.func54, Try.ntmps54
        go_wp2_with fail
        refine (HN.out).mono ?_
        rintro e w1 ⟨_, hyes⟩
        obtain ⟨rfl, hr1, ht1⟩ := hyes _ _ _ rfl
        clear hyes
        go_wp2
        go_ret
        exact Got.yes HQ.out hr1 ht1
      · have HQ := Lib.hid (show (rNum most ds).map u64v = none by unfold rNum; rw [hrn]; simp [hle])
        obtain ⟨R, hR⟩ : ∃ R, (rNum most ds).map u64v = R := ⟨_, rfl⟩
        rw [hR] at HQ ⊢
        have hd : decide ((most : Int) < (n : Int)) = true := by simp; omega
        have hgt : most < n := by omega
        clear hrn hn hr hR hle
        go_enter Try.func54, Try.ntmps54
        go_wp2_with fail
        refine (HN.out).mono ?_
        rintro e w1 ⟨_, hyes⟩
        obtain ⟨rfl, hr1, ht1⟩ := hyes _ _ _ rfl
        clear hyes
        have HF := Lib.hid (fail_rd b _ _ w1 hr1)
        go_wp2_with (go_at_call 59; refine (HF.out).mono ?_; rintro e w2 ⟨rfl, hr2, ht2⟩)
        go_ret
        exact Got.no HQ.out hr2 (ht1.trans ht2)
end Go.Proofs.Ytnhaakdjijjinaa
