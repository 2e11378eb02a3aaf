/- The other reader: Num and Flag. -/
import Derived.Test.YtnhaakdjijjinaaQrB
namespace Go.Proofs.Ytnhaakdjijjinaa
open Go.RowKit

/-- What a method of the other reader hands back. -/
def GotF (b : Nat) (w : World) (z : Value) (r : Option (Value × List Nat)) (e : Ending) (w' : World) : Prop :=
  (r = none → e = .returned z ∧ RF w' b [] true ∧ Rd b w w') ∧ ∀ v rest, r = some (v, rest) → e = .returned v ∧ RF w' b rest false ∧ Rd b w w'
theorem GotF.no {b : Nat} {w w' : World} {z : Value} {r : Option (Value × List Nat)} (hr : r = none) (h1 : RF w' b [] true) (h2 : Rd b w w') : GotF b w z r (.returned z) w' :=
  ⟨(fun _ => ⟨rfl, h1, h2⟩), (fun v rest hx => by rw [hr] at hx; cases hx)⟩
theorem GotF.yes {b : Nat} {w w' : World} {z v : Value} {rest : List Nat} {r : Option (Value × List Nat)} (hr : r = some (v, rest)) (h1 : RF w' b rest false) (h2 : Rd b w w') : GotF b w z r (.returned v) w' :=
  ⟨(fun hx => by rw [hr] at hx; cases hx), (fun v' rest' hx => by rw [hr] at hx; simp only [Option.some.injEq, Prod.mk.injEq] at hx; obtain ⟨rfl, rfl⟩ := hx; exact ⟨rfl, h1, h2⟩)⟩

/-- number of the first byte, whatever it is. -/
def NumAny (b : Nat) (w : World) (r : Option (Nat × List Nat)) (e : Ending) (w' : World) : Prop :=
  (r = none ∧ e = .returned (.tuple #[.int .u64 0, .bool false]) ∧ w = w') ∨ ∃ n rest, r = some (n, rest) ∧ e = .returned (.tuple #[.int .u64 ((n : Nat) : Int), .bool true]) ∧ RF w' b rest false ∧ Rd b w w' ∧ n < 18446744073709551616
/-- The number of n bytes. -/
def ofN (n : Nat) (t : List Nat) : Option (Nat × List Nat) := if 8 < n ∨ t.length < n ∨ (0 < n ∧ t.getD 0 0 = 0) then none else some (val (t.take n), t.drop n)
theorem rfnum_any (b n : Nat) (t : List Nat) (w : World) (hr : RF w b t false) : Calls Try.prog 86 #[.pointer (some ⟨b, 0, none⟩), .int .i64 (n : Int)] w (NumAny b w (ofN n t)) := by
  have h256 : ∀ c ∈ t, c < 256 := by obtain ⟨v, _, h2, _⟩ := hr; exact h2.1
  by_cases h1 : 8 < n
  · exact (rfnum_big8 b n t false w h1).mono fun e w' h => .inl ⟨by unfold ofN; rw [if_pos (.inl h1)], h.1, h.2⟩
  by_cases h2 : t.length < n
  · exact (rfnum_short b n t false w hr (by omega) h2).mono fun e w' h => .inl ⟨by unfold ofN; rw [if_pos (.inr (.inl h2))], h.1, h.2⟩
  by_cases h3 : 0 < n ∧ t.getD 0 0 = 0
  · exact (rfnum_zero b n t false w hr (by omega) (by omega) h3.1 h3.2).mono fun e w' h => .inl ⟨by unfold ofN; rw [if_pos (.inr (.inr h3))], h.1, h.2⟩
  · refine (rfnum_yes b n t w hr (by omega) (by omega) h3).mono fun e w' h => .inr ⟨_, _, by unfold ofN; rw [if_neg (by rintro (h | h | h) <;> first | omega | exact h3 h)], h.1, h.2.1, h.2.2, ?_⟩
    have hv := val_take_lt t h256 n (by omega)
    have h4 : 2 ^ (8 * n) ≤ 2 ^ 64 := Nat.pow_le_pow_right (by omega) (by omega)
    omega
theorem rNum_first (most c : Nat) (t : List Nat) (hc : c < 256) : rNum most (c :: t) = match ofN c t with | some (n, rest) => if n ≤ most then some (n, rest) else none | none => none := by
  unfold rNum
  rw [rnum]
  by_cases h : c < 128
  · have e : c % 128 = c := Nat.mod_eq_of_lt h
    have hd : decide (128 ≤ c) = false := by simp; omega
    rw [e, hd]
    unfold ofN
    by_cases h1 : 8 < c
    · rw [if_pos h1, if_pos (.inl h1)]
    rw [if_neg h1]
    by_cases h2 : t.length < c
    · rw [if_pos h2, if_pos (.inr (.inl h2))]
    rw [if_neg h2]
    by_cases h3 : 0 < c ∧ t.getD 0 0 = 0
    · rw [if_pos h3, if_pos (.inr (.inr h3))]
    rw [if_neg h3, if_neg (by rintro (h | h | h) <;> first | omega | exact h3 h)]
  · have hd : decide (128 ≤ c) = true := by simp; omega
    have e : ofN c t = none := by unfold ofN; rw [if_pos (.inl (by omega))]
    rw [hd, e]
    split <;> simp_all
set_option maxHeartbeats 1000000 in
theorem num_rf (b most : Nat) (ds : List Nat) (bad : Bool) (w : World) (hr : RF w b ds bad) :
    Calls Try.prog 64 #[.pointer (some ⟨b, 0, none⟩), .int .u64 (most : Int)] w (GotF b w (.int .u64 0) ((rNum most ds).map u64v)) := by
  cases ds with
  | nil =>
    have HF := Lib.hid (first_no b bad w hr)
    have HX := Lib.hid (fail_rf b [] bad w hr)
    clear hr
    go_enter Try.func64, Try.ntmps64
    go_wp2_with (first
      | (go_at_call 85; refine HF.out.mono ?_; rintro e w1 ⟨rfl, rfl⟩)
      | (go_at_call 68; refine HX.out.mono ?_; rintro e w2 ⟨rfl, hr2, ht2⟩))
    go_ret
    exact GotF.no rfl hr2 ht2
  | cons c t =>
    have hb : bad = false := by
      obtain ⟨v, _, _, _, h4⟩ := hr
      cases bad
      · rfl
      · simp at h4
    subst hb
    have hc : c < 256 := by obtain ⟨v, _, h2, _⟩ := hr; exact h2.1 c (by simp)
    have HF := Lib.hid (first_yes b c t w hr)
    have HN := Lib.hid (rNum_first most c t hc)
    have hw : IntKind.i64.wrap (c : Int) = (c : Int) := IntWalk.i64_in _ ⟨by omega, by omega⟩
    clear hr
    cases hof : ofN c t with
    | none =>
      rw [hof] at HN
      have hnum : ∀ w1, RF w1 b t false → Calls Try.prog 86 #[.pointer (some ⟨b, 0, none⟩), .int .i64 (c : Int)] w1 fun e w2 => e = .returned (.tuple #[.int .u64 0, .bool false]) ∧ w1 = w2 := fun w1 h1 => (rfnum_any b c t w1 h1).mono fun e w2 hq => by
        rcases hq with ⟨_, h1, h2⟩ | ⟨n', rest', h, _⟩
        · exact ⟨h1, h2⟩
        · rw [hof] at h; cases h
      have HQ := Lib.hid hnum
      clear hnum hof
      go_enter Try.func64, Try.ntmps64
      go_wp2_with (first
        | (go_at_call 85; refine HF.out.mono ?_; rintro e w1 ⟨rfl, hr1, ht1⟩)
        | (go_at_call 86; refine (HQ.out w1 hr1).mono ?_; rintro e w2 ⟨rfl, rfl⟩)
        | (go_at_call 68; refine (fail_rf b _ _ _ hr1).mono ?_; rintro e w3 ⟨rfl, hr3, ht3⟩))
      go_ret
      exact GotF.no (by rw [HN.out]; rfl) hr3 (ht1.trans ht3)
    | some p =>
      obtain ⟨n, rest⟩ := p
      rw [hof] at HN
      have hnum : ∀ w1, RF w1 b t false → Calls Try.prog 86 #[.pointer (some ⟨b, 0, none⟩), .int .i64 (c : Int)] w1 fun e w2 => e = .returned (.tuple #[.int .u64 ((n : Nat) : Int), .bool true]) ∧ RF w2 b rest false ∧ Rd b w1 w2 := fun w1 h1 => (rfnum_any b c t w1 h1).mono fun e w2 hq => by
        rcases hq with ⟨h, _⟩ | ⟨n', rest', h, h2, h3, h4, _⟩
        · rw [hof] at h; cases h
        · rw [hof] at h
          simp only [Option.some.injEq, Prod.mk.injEq] at h
          obtain ⟨rfl, rfl⟩ := h
          exact ⟨h2, h3, h4⟩
      have HQ := Lib.hid hnum
      clear hnum hof
      by_cases hm : n ≤ most
      · have hd : decide ((n : Int) ≤ (most : Int)) = true := by simp; omega
        go_enter Try.func64, Try.ntmps64
        go_wp2_with (first
          | (go_at_call 85; refine HF.out.mono ?_; rintro e w1 ⟨rfl, hr1, ht1⟩)
          | (go_at_call 86; refine (HQ.out w1 hr1).mono ?_; rintro e w2 ⟨rfl, hr2, ht2⟩)
          | (go_at_call 68; refine (fail_rf b _ _ _ hr2).mono ?_; rintro e w3 ⟨rfl, hr3, ht3⟩))
        go_ret
        exact GotF.yes (by rw [HN.out, if_pos hm]; rfl) hr2 (ht1.trans ht2)
      · have hd : decide ((n : Int) ≤ (most : Int)) = false := by simp; omega
        go_enter Try.func64, Try.ntmps64
        go_wp2_with (first
          | (go_at_call 85; refine HF.out.mono ?_; rintro e w1 ⟨rfl, hr1, ht1⟩)
          | (go_at_call 86; refine (HQ.out w1 hr1).mono ?_; rintro e w2 ⟨rfl, hr2, ht2⟩)
          | (go_at_call 68; refine (fail_rf b _ _ _ hr2).mono ?_; rintro e w3 ⟨rfl, hr3, ht3⟩))
        go_ret
        exact GotF.no (by rw [HN.out, if_neg hm]; rfl) hr3 ((ht1.trans ht2).trans ht3)
end Go.Proofs.Ytnhaakdjijjinaa
