/- The reference's Used and Next. -/
import Derived.Test.YtfclmbneimbmnaaDoorRrC
import Derived.Laws.Bits64b
namespace Go.Proofs.YtfclmbneimbmnaaDoor
open Go.RowKit

/-- The set of slots. -/
def usedR (L : List Rt) : Nat := L.foldl (fun n x => n ||| 2 ^ x.2.toNat) 0
theorem usedR_step (L : List Rt) (k : Nat) (hk : k < L.length) : usedR (L.take (k + 1)) = usedR (L.take k) ||| 2 ^ (L[k]).2.toNat := by
  unfold usedR
  rw [List.take_add_one, List.getElem?_eq_getElem hk, List.foldl_append]
  rfl
theorem fold_bit (L : List Rt) : ∀ (n i : Nat), (L.foldl (fun n x => n ||| 2 ^ x.2.toNat) n).testBit i = (n.testBit i || L.any fun x => x.2.toNat == i) := by
  induction L with
  | nil => intro n i; simp
  | cons x L ih =>
    intro n i
    rw [List.foldl_cons, ih, Nat.testBit_or, Nat.testBit_two_pow, List.any_cons, Bool.or_assoc]
    congr 1
theorem usedR_bit (L : List Rt) (i : Nat) : (usedR L).testBit i = L.any fun x => x.2.toNat == i := by
  unfold usedR
  rw [fold_bit]
  simp
theorem usedR_lt (L : List Rt) (h : ∀ x ∈ L, 0 ≤ x.2 ∧ x.2 < 64) : usedR L < 2 ^ 64 := by
  apply Nat.lt_pow_two_of_testBit
  intro i hi
  rw [usedR_bit, List.any_eq_false]
  intro x hx
  have := h x hx
  simp
  omega
theorem Rel.used {S : Nat → List Th} {L : List Rt} (h : Rel S L) : bitsN (lenS S) 64 = usedR L := by
  apply Nat.eq_of_testBit_eq
  intro i
  rw [bitsN_bit, usedR_bit]
  by_cases hi : i < 64
  · rw [lenS_in S hi]
    have key : 0 < (S i).length ↔ ∃ x ∈ L, x.2 = (i : Int) := by
      rw [List.length_pos_iff_exists_mem]
      constructor
      · rintro ⟨t, ht⟩; exact ⟨_, (h.mem hi).1 ht, rfl⟩
      · rintro ⟨x, hx, e⟩; exact ⟨x.1, (h.mem hi).2 (by rw [← e]; exact hx)⟩
    by_cases h0 : 0 < (S i).length
    · obtain ⟨x, hx, e⟩ := key.1 h0
      have : (L.any fun x => x.2.toNat == i) = true := List.any_eq_true.2 ⟨x, hx, by simp [e]⟩
      simp [hi, h0, this]
    · have : (L.any fun x => x.2.toNat == i) = false := by
        rw [List.any_eq_false]
        intro x hx
        have h1 := (h.ok x hx).1
        simp
        intro e
        exact h0 (key.2 ⟨x, hx, by omega⟩)
      simp [h0, this]
  · have : (L.any fun x => x.2.toNat == i) = false := by
      rw [List.any_eq_false]
      intro x hx
      have h1 := (h.ok x hx).1
      simp
      omega
    simp [hi, this]

set_option maxRecDepth 100000 in
set_option maxHeartbeats 4000000 in
theorem rrused (p : Option Addr) (c : Nat) (L : List Rt) (w : World) (hR : RS w p L) (hm : L.length ≤ 1000000) (hs : ∀ x ∈ L, 0 ≤ x.2 ∧ x.2 < 64) :
    Calls Tryd.prog 26 #[.slice p L.length c] w fun e w' => e = .returned (.int .u64 (usedR L)) ∧ w' = w := by
  have HR := Lib.hid hR
  have HS := Lib.hid hs
  clear hR hs
  go_enter Tryd.func26, Tryd.ntmps26
  go_wp2
  go_loopg [3, 4] L.length (fun kx s3 s4 wr => ∃ k : Nat, s3 = .int .u64 (usedR (L.take k)) ∧ s4 = .int .i64 k ∧ k ≤ L.length ∧ L.length - k ≤ kx ∧ wr = w)
  case atStart => exact ⟨0, rfl, rfl, by omega, by omega, rfl⟩
  case round =>
    obtain ⟨k, rfl, rfl, hk, hkx, rfl⟩ := hrel
    by_cases hlt : k < L.length
    · have hltz : (k : Int) < (L.length : Int) := by omega
      have hk0 : (0 : Int) ≤ (k : Int) := by omega
      obtain ⟨B, o, rfl, d0, d1, d2, d3⟩ := HR.out k hlt
      have hst := usedR_step L k hlt
      have hsl := HS.out _ (List.getElem_mem hlt)
      have hlo := usedR_lt (L.take k) (fun x hx => HS.out x (List.mem_of_mem_take hx))
      obtain ⟨s, hse⟩ : ∃ s : Nat, (L[k]).2 = (s : Int) := ⟨(L[k]).2.toNat, by omega⟩
      rw [hse] at d3 hst hsl
      have hs64 : s < 64 := by omega
      have hp : 2 ^ s < 18446744073709551616 := Nat.pow_lt_pow_right (a := 2) (by omega) hs64
      obtain ⟨Pw, hPw⟩ : ∃ P, 2 ^ s = P := ⟨_, rfl⟩
      rw [hPw] at hp
      have ep : ((2 : Int) ^ s) = (Pw : Int) := by rw [← hPw]; push_cast; rfl
      have e1 : IntKind.u64.wrap (2 ^ s) = (Pw : Int) := by rw [ep, IntKind.wrap_u64]; omega
      have e1b : IntKind.u64.wrap (1 * 2 ^ s) = (Pw : Int) := by rw [Int.one_mul]; exact e1
      obtain ⟨U, hU⟩ : ∃ U, usedR (L.take k) = U := ⟨_, rfl⟩
      rw [hU] at hlo hst
      have e2 : bits .or .u64 (U : Int) (Pw : Int) = ((U ||| Pw : Nat) : Int) := bits_or_u64_nat _ _ hlo hp
      have hs0 : (0 : Int) ≤ (s : Int) := by omega
      have e3 : Hid (usedR (L.take (k + 1)) = U ||| Pw) := by rw [hst, ← hPw]; exact Lib.hid rfl
      rw [hU]
      clear hst hse hU hlo hp d0 d1 d2 ep
      go_wp2
      go_roundg (L.length - (k + 1))
      case measure => omega
      case rel => exact ⟨k + 1, by rw [e3.out], by go_num, by omega, by omega, rfl⟩
    · have hltz : ¬ (k : Int) < (L.length : Int) := by omega
      obtain rfl : k = L.length := by omega
      rw [List.take_length]
      go_wp2
      go_ret
      exact ⟨rfl, rfl⟩

/-- What Next tells, looking from slot f on. -/
def Nxt (L : List Rt) (f : Nat) (r1 r2 : Int) (r3 : Bool) : Prop :=
  (r3 = true ∧ ∃ j : Nat, j < 64 ∧ r1 = (((f + j) % 64 : Nat) : Int) ∧ r2 = (j : Int) ∧ (∃ x ∈ L, x.2 = (((f + j) % 64 : Nat) : Int)) ∧ ∀ i, i < j → ∀ x ∈ L, x.2 ≠ (((f + i) % 64 : Nat) : Int)) ∨
  (r1 = 0 ∧ r2 = 0 ∧ r3 = false ∧ ∀ i, i < 64 → ∀ x ∈ L, x.2 ≠ (((f + i) % 64 : Nat) : Int))

def NxtV (L : List Rt) (f : Nat) (v : Value) : Prop := ∃ r1 r2 r3, v = .tuple #[.int .i64 r1, .int .i64 r2, .bool r3] ∧ Nxt L f r1 r2 r3

set_option maxRecDepth 100000 in
set_option maxHeartbeats 4000000 in
theorem rrnext (p : Option Addr) (c : Nat) (L : List Rt) (from_ : Int) (w : World) (hR : RS w p L) (hm : L.length ≤ 1000000) :
    Calls Tryd.prog 74 #[.slice p L.length c, .int .i64 from_] w fun e w' => ∃ v, e = .returned v ∧ NxtV L (from_ % 64).toNat v ∧ w' = w := by
  have HR := Lib.hid hR
  obtain ⟨f, hf⟩ : ∃ f, (from_ % 64).toNat = f := ⟨_, rfl⟩
  have hf64 : f < 64 := by omega
  rw [hf]
  obtain ⟨g, hg⟩ : ∃ g, from_.tmod 64 = g := ⟨_, rfl⟩
  have hge : (0 ≤ from_ → g = from_ % 64) ∧ (from_ < 0 → g = -((-from_) % 64)) := by
    refine ⟨fun h => ?_, fun h => ?_⟩
    · rw [← hg, Int.tmod_eq_emod_of_nonneg h]
    · have h1 : from_.tmod 64 = -((-from_).tmod 64) := by rw [Int.neg_tmod, Int.neg_neg]
      rw [← hg, h1, Int.tmod_eq_emod_of_nonneg (by omega)]
  have hgr : -64 < g ∧ g < 64 := by by_cases h : 0 ≤ from_ <;> omega
  have hgf : (0 ≤ g → g = (f : Int)) ∧ (g < 0 → g + 64 = (f : Int)) := by by_cases h : 0 ≤ from_ <;> omega
  have w1 : IntKind.i64.wrap g = g := by rw [IntKind.wrap_i64]; omega
  have w2 : g < 0 → IntKind.i64.wrap (g + 64) = (f : Int) := fun h => by rw [hgf.2 h, IntKind.wrap_i64]; omega
  clear hR
  by_cases hneg : g < 0
  · have w3 := w2 hneg
    have w4 := hgf.2 hneg
    clear w2 hgf hf hge
    go_enter Tryd.func74, Tryd.ntmps74
    go_wp2
    go_loopg [8, 9] 64 (fun kx s8 s9 wr => ∃ t : Nat, s8 = .int .i64 t ∧ (∃ v9 : Value, s9 = v9) ∧ t ≤ 64 ∧ 64 - t ≤ kx ∧ Hid (∀ i, i < t → ∀ x ∈ L, x.2 ≠ (((f + i) % 64 : Nat) : Int)) ∧ wr = w)
    case atStart => exact ⟨0, rfl, ⟨_, rfl⟩, by omega, by omega, Lib.hid (fun i hi => by omega), rfl⟩
    case round =>
      obtain ⟨t, rfl, ⟨v9, rfl⟩, ht, hkt, HT, rfl⟩ := hrel
      by_cases hlt : t < 64
      · have hltz : (t : Int) < 64 := by omega
        have e3 : IntKind.i64.wrap ((f : Int) + (t : Int)) = ((f + t : Nat) : Int) := by rw [IntKind.wrap_i64]; omega
        have e4 : ((f + t : Nat) : Int).tmod 64 = (((f + t) % 64 : Nat) : Int) := by rw [Int.tmod_eq_emod_of_nonneg (by omega)]; omega
        have e5 : IntKind.i64.wrap (((f + t) % 64 : Nat) : Int) = (((f + t) % 64 : Nat) : Int) := by rw [IntKind.wrap_i64]; omega
        have e6 : ((f : Int) + (t : Int)) % 64 = (((f + t) % 64 : Nat) : Int) := by omega
        have e7 : ((f : Int) + (t : Int)).tmod 64 = (((f + t) % 64 : Nat) : Int) := by rw [Int.tmod_eq_emod_of_nonneg (by omega)]; omega
        obtain ⟨q, hq⟩ : ∃ q, (f + t) % 64 = q := ⟨_, rfl⟩
        rw [hq] at e4 e5 e6 e7
        have HQ := Lib.hid hq
        clear hq
        go_wp2_with fail
        go_loopg [9] L.length (fun kx s9 wr2 => ∃ k : Nat, s9 = .int .i64 k ∧ k ≤ L.length ∧ L.length - k ≤ kx ∧ Hid (∀ x ∈ L.take k, x.2 ≠ (q : Int)) ∧ wr2 = wr)
        case atStart => exact ⟨0, rfl, by omega, by omega, Lib.hid (by simp), rfl⟩
        case round =>
          obtain ⟨k, rfl, hk, hkx, HN, rfl⟩ := hrel
          by_cases hlk : k < L.length
          · have hlkz : (k : Int) < (L.length : Int) := by omega
            have hk0 : (0 : Int) ≤ (k : Int) := by omega
            obtain ⟨B, o, rfl, d0, d1, d2, d3⟩ := HR.out k hlk
            obtain ⟨x, hx⟩ : ∃ x, (L[k]).2 = x := ⟨_, rfl⟩
            rw [hx] at d3
            have HX := Lib.hid hx
            clear d0 d1 d2 hx
            by_cases he : x = (q : Int)
            · subst he
              go_wp2
              go_ret3
              exact ⟨_, rfl, ⟨_, _, _, rfl, .inl ⟨rfl, t, hlt, by rw [HQ.out], rfl, ⟨L[k], List.getElem_mem hlk, by rw [HX.out, HQ.out]⟩, HT.out⟩⟩, rfl⟩
            · have heb : (x == (q : Int)) = false := by simp [he]
              go_wp2
              go_roundg (L.length - (k + 1))
              case measure => omega
              case rel =>
                refine ⟨k + 1, by go_num, by omega, by omega, Lib.hid (fun y hy => ?_), rfl⟩
                rw [List.take_add_one, List.getElem?_eq_getElem hlk] at hy
                rcases List.mem_append.1 hy with h1 | h1
                · exact HN.out y h1
                · simp only [Option.toList_some, List.mem_singleton] at h1
                  subst h1
                  rw [HX.out]; exact he
          · have hlkz : ¬ (k : Int) < (L.length : Int) := by omega
            obtain rfl : k = L.length := by omega
            go_wp2
            go_roundg (64 - (t + 1))
            case measure => omega
            case rel =>
              refine ⟨t + 1, by go_num, ⟨_, rfl⟩, by omega, by omega, Lib.hid (fun i hi x hx => ?_), rfl⟩
              by_cases hit : i = t
              · subst hit
                rw [HQ.out]
                exact HN.out x (by rw [List.take_length]; exact hx)
              · exact HT.out i (by omega) x hx
      · have hltz : ¬ (t : Int) < 64 := by omega
        obtain rfl : t = 64 := by omega
        go_wp2
        go_ret3
        exact ⟨_, rfl, ⟨_, _, _, rfl, .inr ⟨rfl, rfl, rfl, HT.out⟩⟩, rfl⟩
  · have w4 := hgf.1 (by omega)
    subst w4
    clear w2 hgf hf hge
    go_enter Tryd.func74, Tryd.ntmps74
    go_wp2
    go_loopg [8, 9] 64 (fun kx s8 s9 wr => ∃ t : Nat, s8 = .int .i64 t ∧ (∃ v9 : Value, s9 = v9) ∧ t ≤ 64 ∧ 64 - t ≤ kx ∧ Hid (∀ i, i < t → ∀ x ∈ L, x.2 ≠ (((f + i) % 64 : Nat) : Int)) ∧ wr = w)
    case atStart => exact ⟨0, rfl, ⟨_, rfl⟩, by omega, by omega, Lib.hid (fun i hi => by omega), rfl⟩
    case round =>
      obtain ⟨t, rfl, ⟨v9, rfl⟩, ht, hkt, HT, rfl⟩ := hrel
      by_cases hlt : t < 64
      · have hltz : (t : Int) < 64 := by omega
        have e3 : IntKind.i64.wrap ((f : Int) + (t : Int)) = ((f + t : Nat) : Int) := by rw [IntKind.wrap_i64]; omega
        have e4 : ((f + t : Nat) : Int).tmod 64 = (((f + t) % 64 : Nat) : Int) := by rw [Int.tmod_eq_emod_of_nonneg (by omega)]; omega
        have e5 : IntKind.i64.wrap (((f + t) % 64 : Nat) : Int) = (((f + t) % 64 : Nat) : Int) := by rw [IntKind.wrap_i64]; omega
        have e6 : ((f : Int) + (t : Int)) % 64 = (((f + t) % 64 : Nat) : Int) := by omega
        have e7 : ((f : Int) + (t : Int)).tmod 64 = (((f + t) % 64 : Nat) : Int) := by rw [Int.tmod_eq_emod_of_nonneg (by omega)]; omega
        obtain ⟨q, hq⟩ : ∃ q, (f + t) % 64 = q := ⟨_, rfl⟩
        rw [hq] at e4 e5 e6 e7
        have HQ := Lib.hid hq
        clear hq
        go_wp2_with fail
        go_loopg [9] L.length (fun kx s9 wr2 => ∃ k : Nat, s9 = .int .i64 k ∧ k ≤ L.length ∧ L.length - k ≤ kx ∧ Hid (∀ x ∈ L.take k, x.2 ≠ (q : Int)) ∧ wr2 = wr)
        case atStart => exact ⟨0, rfl, by omega, by omega, Lib.hid (by simp), rfl⟩
        case round =>
          obtain ⟨k, rfl, hk, hkx, HN, rfl⟩ := hrel
          by_cases hlk : k < L.length
          · have hlkz : (k : Int) < (L.length : Int) := by omega
            have hk0 : (0 : Int) ≤ (k : Int) := by omega
            obtain ⟨B, o, rfl, d0, d1, d2, d3⟩ := HR.out k hlk
            obtain ⟨x, hx⟩ : ∃ x, (L[k]).2 = x := ⟨_, rfl⟩
            rw [hx] at d3
            have HX := Lib.hid hx
            clear d0 d1 d2 hx
            by_cases he : x = (q : Int)
            · subst he
              go_wp2
              go_ret3
              exact ⟨_, rfl, ⟨_, _, _, rfl, .inl ⟨rfl, t, hlt, by rw [HQ.out], rfl, ⟨L[k], List.getElem_mem hlk, by rw [HX.out, HQ.out]⟩, HT.out⟩⟩, rfl⟩
            · have heb : (x == (q : Int)) = false := by simp [he]
              go_wp2
              go_roundg (L.length - (k + 1))
              case measure => omega
              case rel =>
                refine ⟨k + 1, by go_num, by omega, by omega, Lib.hid (fun y hy => ?_), rfl⟩
                rw [List.take_add_one, List.getElem?_eq_getElem hlk] at hy
                rcases List.mem_append.1 hy with h1 | h1
                · exact HN.out y h1
                · simp only [Option.toList_some, List.mem_singleton] at h1
                  subst h1
                  rw [HX.out]; exact he
          · have hlkz : ¬ (k : Int) < (L.length : Int) := by omega
            obtain rfl : k = L.length := by omega
            go_wp2
            go_roundg (64 - (t + 1))
            case measure => omega
            case rel =>
              refine ⟨t + 1, by go_num, ⟨_, rfl⟩, by omega, by omega, Lib.hid (fun i hi x hx => ?_), rfl⟩
              by_cases hit : i = t
              · subst hit
                rw [HQ.out]
                exact HN.out x (by rw [List.take_length]; exact hx)
              · exact HT.out i (by omega) x hx
      · have hltz : ¬ (t : Int) < 64 := by omega
        obtain rfl : t = 64 := by omega
        go_wp2
        go_ret3
        exact ⟨_, rfl, ⟨_, _, _, rfl, .inr ⟨rfl, rfl, rfl, HT.out⟩⟩, rfl⟩
end Go.Proofs.YtfclmbneimbmnaaDoor
