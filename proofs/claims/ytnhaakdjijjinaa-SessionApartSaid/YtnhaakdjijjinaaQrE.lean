/- The other reader: Int. -/
import Derived.Test.YtnhaakdjijjinaaQrD
namespace Go.Proofs.Ytnhaakdjijjinaa
open Go.RowKit

set_option maxHeartbeats 1000000 in
theorem int_rf_some (b n : Nat) (bl : Bool) (ds rest : List Nat) (bad : Bool) (w : World) (hr : RF w b ds bad) (hn : rnum ds = some (n, bl, rest)) :
    Calls Try.prog 65 #[.pointer (some ⟨b, 0, none⟩)] w (GotF b w (.int .i64 0) ((rInt ds).map i64v)) := by
  have hrI : (rInt ds).map i64v = if n ≤ 9223372036854775807 then some (.int .i64 (if bl then -1 - (n : Int) else (n : Int)), rest) else none := by
    unfold rInt
    rw [hn]
    by_cases h : n ≤ 9223372036854775807
    · simp only [if_pos h]; rfl
    · simp only [if_neg h]; rfl
  cases ds with
  | nil => simp [rnum] at hn
  | cons c t =>
    have hb : bad = false := by
      obtain ⟨v, _, _, _, h4⟩ := hr
      cases bad
      · rfl
      · simp at h4
    subst hb
    have hc : c < 256 := by obtain ⟨v, _, h2, _⟩ := hr; exact h2.1 c (by simp)
    have HF := Lib.hid (first_yes b c t w hr)
    rw [rnum_first] at hn
    have hof : ofN (c % 128) t = some (n, rest) ∧ bl = decide (128 ≤ c) := by
      cases h : ofN (c % 128) t with
      | none => rw [h] at hn; cases hn
      | some p =>
        obtain ⟨n', r'⟩ := p
        rw [h] at hn
        simp only [Option.some.injEq, Prod.mk.injEq] at hn
        obtain ⟨rfl, rfl, rfl⟩ := hn
        exact ⟨rfl, rfl⟩
    obtain ⟨hof, rfl⟩ := hof
    have hnum : ∀ w1, RF w1 b t false → Calls Try.prog 86 #[.pointer (some ⟨b, 0, none⟩), .int .i64 ((c % 128 : Nat) : Int)] w1 fun e w2 => e = .returned (.tuple #[.int .u64 ((n : Nat) : Int), .bool true]) ∧ RF w2 b rest false ∧ Rd b w1 w2 := fun w1 h1 => (rfnum_any b (c % 128) t w1 h1).mono fun e w2 hq => by
      rcases hq with ⟨h, _⟩ | ⟨n', rest', h, h2, h3, h4, _⟩
      · rw [hof] at h; cases h
      · rw [hof] at h
        simp only [Option.some.injEq, Prod.mk.injEq] at h
        obtain ⟨rfl, rfl⟩ := h
        exact ⟨h2, h3, h4⟩
    have HQ := Lib.hid hnum
    have hm : ((c % 128 : Nat) : Int) = (c : Int) % 128 := by omega
    have hw : IntKind.i64.wrap ((c : Int) % 128) = (c : Int) % 128 := IntWalk.i64_in _ ⟨by omega, by omega⟩
    rw [hm] at HQ
    rw [hrI]
    clear hr hn hof hnum hm hrI
    by_cases hle : n ≤ 9223372036854775807
    · rw [if_pos hle]
      have hd : decide ((n : Int) ≤ 9223372036854775807) = true := by simp; omega
      have hwn : IntKind.i64.wrap (n : Int) = (n : Int) := IntWalk.i64_in _ ⟨by omega, by omega⟩
      have hws : IntKind.i64.wrap (-1 - (n : Int)) = -1 - (n : Int) := IntWalk.i64_in _ ⟨by omega, by omega⟩
      by_cases h128 : 128 ≤ c
      · have hdc : decide ((128 : Int) ≤ (c : Int)) = true := by simp; omega
        rw [if_pos (by simp [h128])]
        go_enter Try.func65, Try.ntmps65
        go_wp2_with (first
          | (go_at_call 85; refine HF.out.mono ?_; rintro e w1 ⟨rfl, hr1, ht1⟩)
          | (go_at_call 86; refine (HQ.out w1 hr1).mono ?_; rintro e w2 ⟨rfl, hr2, ht2⟩))
        go_ret
        exact GotF.yes rfl hr2 (ht1.trans ht2)
      · have hdc : decide ((128 : Int) ≤ (c : Int)) = false := by simp; omega
        rw [if_neg (by simp [h128])]
        go_enter Try.func65, Try.ntmps65
        go_wp2_with (first
          | (go_at_call 85; refine HF.out.mono ?_; rintro e w1 ⟨rfl, hr1, ht1⟩)
          | (go_at_call 86; refine (HQ.out w1 hr1).mono ?_; rintro e w2 ⟨rfl, hr2, ht2⟩))
        go_ret
        exact GotF.yes rfl hr2 (ht1.trans ht2)
    · rw [if_neg hle]
      have hd : decide ((n : Int) ≤ 9223372036854775807) = false := by simp; omega
      go_enter Try.func65, Try.ntmps65
      go_wp2_with (first
        | (go_at_call 85; refine HF.out.mono ?_; rintro e w1 ⟨rfl, hr1, ht1⟩)
        | (go_at_call 86; refine (HQ.out w1 hr1).mono ?_; rintro e w2 ⟨rfl, hr2, ht2⟩)
        | (go_at_call 68; refine (fail_rf b _ _ _ hr2).mono ?_; rintro e w3 ⟨rfl, hr3, ht3⟩))
      go_ret
      exact GotF.no rfl hr3 ((ht1.trans ht2).trans ht3)
theorem int_rf (b : Nat) (ds : List Nat) (bad : Bool) (w : World) (hr : RF w b ds bad) :
    Calls Try.prog 65 #[.pointer (some ⟨b, 0, none⟩)] w (GotF b w (.int .i64 0) ((rInt ds).map i64v)) := by
  cases hn : rnum ds with
  | none =>
    refine (int_rf_no b ds bad w hr hn).mono ?_
    rintro e w' ⟨rfl, h1, h2⟩
    exact GotF.no (by rw [rInt_none hn]; rfl) h1 h2
  | some p =>
    obtain ⟨n, bl, rest⟩ := p
    exact int_rf_some b n bl ds rest bad w hr hn
end Go.Proofs.Ytnhaakdjijjinaa
