/- The other reader: Text. -/
import Derived.Test.YtkeloeppploiaaaQrF
namespace Go.Proofs.Ytkeloeppploiaaa
open Go.RowKit

set_option maxHeartbeats 1000000 in
theorem textf_neg (b : Nat) (n : Int) (ds : List Nat) (bad : Bool) (w : World) (hr : RF w b ds bad) (hn : n < 0) :
    Calls Try.prog 52 #[.pointer (some ⟨b, 0, none⟩), .int .i64 n] w (GotF b w (.string ByteArray.empty) ((rText n ds).map textv)) := by
  have HQ := Lib.hid (show (rText n ds).map textv = none by unfold rText; rw [if_pos hn]; rfl)
  obtain ⟨R, hR⟩ : ∃ R, (rText n ds).map textv = R := ⟨_, rfl⟩
  rw [hR] at HQ ⊢
  have HF := Lib.hid (fail_rf b ds bad w hr)
  have hd : decide (n < 0) = true := by simp; omega
  clear hr hn hR
  go_enter Try.func52, Try.ntmps52
  go_wp2_with (go_at_call 55; refine (HF.out).mono ?_; rintro e w2 ⟨rfl, hr2, ht2⟩)
  go_ret
  exact GotF.no HQ.out hr2 ht2
set_option maxHeartbeats 2000000 in
theorem textf_pos (b m : Nat) (ds : List Nat) (bad : Bool) (w : World) (hr : RF w b ds bad) (h63 : m ≤ 9223372036854775807) (hl : ds.length ≤ 3000) :
    Calls Try.prog 52 #[.pointer (some ⟨b, 0, none⟩), .int .i64 (m : Int)] w (GotF b w (.string ByteArray.empty) ((rText (m : Int) ds).map textv)) := by
  have HN := Lib.hid (num_rf b m ds bad w hr)
  have hd : decide ((m : Int) < 0) = false := by simp
  have hw : IntKind.u64.wrap (m : Int) = (m : Int) := IntWalk.u64_in _ ⟨by omega, by omega⟩
  cases hrn : rNum m ds with
  | none =>
    have HQ := Lib.hid (show (rText (m : Int) ds).map textv = none by unfold rText; rw [if_neg (by omega), Int.toNat_natCast, hrn]; rfl)
    obtain ⟨R, hR⟩ : ∃ R, (rText (m : Int) ds).map textv = R := ⟨_, rfl⟩
    rw [hR] at HQ ⊢
    rw [hrn] at HN
    clear hr hR hrn hl
    go_enter Try.func52, Try.ntmps52
    go_wp2_with fail
    refine HN.out.mono ?_
    rintro e w1 ⟨hno, _⟩
    obtain ⟨rfl, hr1, ht1⟩ := hno rfl
    clear hno
    have HY := Lib.hid (rawf_yes b 0 [] true w1 hr1 (by simp) (by simp))
    obtain ⟨v, g1, g2, g3, g4⟩ := hr1
    obtain ⟨a, cap, rfl⟩ := g2.shapeN' (n := 0) rfl
    obtain ⟨c0, c1, f0, f1⟩ := two_cells g1
    clear g1 g2 g3 g4
    go_wp2_with (go_at_call 53; refine HY.out.mono ?_; rintro e w2 ⟨y, rfl, hy, hr2, ht2⟩; have hs := rb_string (P := Try.prog) hy 27 9 5 Try.underlying27 Try.underlying5 Try.underlying9; obtain ⟨ya, yc, rfl⟩ := hy.shapeN' (n := 0) rfl)
    go_ret
    exact GotF.no HQ.out hr2 (ht1.trans ht2)
  | some p =>
    obtain ⟨n, rest⟩ := p
    have HQ : (rText (m : Int) ds).map textv = if n ≤ rest.length then some (.string (str (rest.take n)), rest.drop n) else none := by
      unfold rText; rw [if_neg (by omega), Int.toNat_natCast, hrn]
      dsimp only
      split <;> rfl
    rw [HQ]
    rw [hrn] at HN
    have hnm : n ≤ m := by
      unfold rNum at hrn
      split at hrn
      · split at hrn
        · simp only [Option.some.injEq, Prod.mk.injEq] at hrn
          omega
        · cases hrn
      · cases hrn
    have hwn : IntKind.i64.wrap (n : Int) = (n : Int) := IntWalk.i64_in _ ⟨by omega, by omega⟩
    clear hr hrn HQ hl
    obtain ⟨L, hL⟩ : ∃ L, rest.length = L := ⟨_, rfl⟩
    rw [hL]
    by_cases hle : n ≤ L
    · rw [if_pos hle]
      go_enter Try.func52, Try.ntmps52
      go_wp2_with fail
      refine HN.out.mono ?_
      rintro e w1 ⟨_, hyes⟩
      obtain ⟨rfl, hr1, ht1⟩ := hyes _ _ rfl
      clear hyes
      have hLb : rest.length ≤ 140737488351232 := by obtain ⟨v, _, g2, _⟩ := hr1; exact g2.2.1
      have HY := Lib.hid (rawf_yes b n rest false w1 hr1 (by omega) hLb)
      have htl : (rest.take n).length = n := by rw [List.length_take]; omega
      obtain ⟨v, g1, g2, g3, g4⟩ := hr1
      obtain ⟨a, cap, rfl⟩ := g2.shapeN' hL
      obtain ⟨c0, c1, f0, f1⟩ := two_cells g1
      have hwl : IntKind.u64.wrap (L : Int) = (L : Int) := IntWalk.u64_in _ ⟨by omega, by omega⟩
      have hdl : decide ((L : Int) < (n : Int)) = false := by simp; omega
      clear g1 g2 g3 g4
      dsimp only
      go_wp2_with (go_at_call 53; refine HY.out.mono ?_; rintro e w2 ⟨y, rfl, hy, hr2, ht2⟩; have hs := rb_string (P := Try.prog) hy 27 9 5 Try.underlying27 Try.underlying5 Try.underlying9; obtain ⟨ya, yc, rfl⟩ := hy.shapeN' htl)
      go_ret
      exact GotF.yes rfl hr2 (ht1.trans ht2)
    · rw [if_neg hle]
      go_enter Try.func52, Try.ntmps52
      go_wp2_with fail
      refine HN.out.mono ?_
      rintro e w1 ⟨_, hyes⟩
      obtain ⟨rfl, hr1, ht1⟩ := hyes _ _ rfl
      clear hyes
      have hLb : rest.length ≤ 140737488351232 := by obtain ⟨v, _, g2, _⟩ := hr1; exact g2.2.1
      have HX := Lib.hid (fail_rf b rest false w1 hr1)
      obtain ⟨v, g1, g2, g3, g4⟩ := hr1
      obtain ⟨a, cap, rfl⟩ := g2.shapeN' hL
      obtain ⟨c0, c1, f0, f1⟩ := two_cells g1
      have hwl : IntKind.u64.wrap (L : Int) = (L : Int) := IntWalk.u64_in _ ⟨by omega, by omega⟩
      have hdl : decide ((L : Int) < (n : Int)) = true := by simp; omega
      clear g1 g2 g3 g4
      dsimp only
      go_wp2_with (go_at_call 55; refine HX.out.mono ?_; rintro e w2 ⟨rfl, hr2, ht2⟩)
      go_ret
      exact GotF.no rfl hr2 (ht1.trans ht2)
theorem text_rf (b : Nat) (n : Int) (ds : List Nat) (bad : Bool) (w : World) (hr : RF w b ds bad) (h63 : n ≤ 9223372036854775807) (hl : ds.length ≤ 3000) :
    Calls Try.prog 52 #[.pointer (some ⟨b, 0, none⟩), .int .i64 n] w (GotF b w (.string ByteArray.empty) ((rText n ds).map textv)) := by
  by_cases hn : n < 0
  · exact textf_neg b n ds bad w hr hn
  · obtain ⟨m, rfl⟩ : ∃ m : Nat, n = (m : Int) := ⟨n.toNat, by omega⟩
    exact textf_pos b m ds bad w hr (by omega) hl
end Go.Proofs.Ytkeloeppploiaaa
