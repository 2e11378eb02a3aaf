/- Join: the sort at no span, the check, the merging loop. -/
import Derived.Test.YthlmeppahcjlgaaSoB
import Derived.Test.YthlmeppahcjlgaaOwB
import Derived.Test.YthlmeppahcjlgaaJnM
import Derived.Shelf.Small.Bits
namespace Go.Proofs.Ythlmeppahcjlgaa
open Go.RowKit Go.Shelf Go.Sort

theorem insertion_none (fv : Value) (w : World) : Calls Try.prog 72 #[.slice none 0 0, .int .i64 0, .int .i64 0, fv] w fun e w' => e = .returned (.tuple #[]) ∧ w = w' := by
  go_enter Try.func72, Try.ntmps72
  go_wp2_with fail
  go_loopw [8] (fun i wr => i = .int .i64 1 ∧ wr = w) (fun _ _ => 0)
  case atStart => exact ⟨rfl, rfl⟩
  case round =>
    obtain ⟨rfl, rfl⟩ := hrel
    go_wp2_with fail
    go_end0
    exact ⟨rfl, rfl⟩
theorem pdq_none (lim : Int) (fv : Value) (w : World) : Calls Try.prog 62 #[.slice none 0 0, .int .i64 0, .int .i64 0, .int .i64 lim, fv] w fun e w' => e = .returned (.tuple #[]) ∧ w = w' := by
  have hi := fun W => insertion_none fv W
  go_enter Try.func62, Try.ntmps62
  go_wp2_with fail
  go_loopw [1, 2] (fun a b wr => a = .int .i64 0 ∧ b = .int .i64 0 ∧ wr = w) (fun _ _ _ => 0)
  case atStart => exact ⟨rfl, rfl, rfl⟩
  case round =>
    obtain ⟨rfl, rfl, rfl⟩ := hrel
    go_wp2_with (go_at_call 72; refine (hi _).mono ?_; rintro e w' ⟨rfl, rfl⟩)
    (try simp only [Exit.inBlock, Exit.then]); refine bodyPost_ret (results_none rfl _ _ _) rfl ?_
    exact ⟨rfl, rfl⟩
theorem sort_none (fv : Value) (w : World) : Calls Try.prog 48 #[.slice none 0 0, fv] w fun e w' => e = .returned (.tuple #[]) ∧ w = w' := by
  have hp := fun lim W => pdq_none lim fv W
  have hl : ∀ W, Calls Try.prog 63 #[.int .u64 0] W fun e w' => e = .returned (.int .i64 (Lib.bitLen 0 : Nat)) ∧ w' = W := fun W =>
    Any.bits_Len (SlLaysF0.n15.bits (P := Try.prog) (ρ := sortSp_ren) { sortSp with }) 0 W (by omega) (by omega)
  go_enter Try.func48, Try.ntmps48
  go_wp2_with (first
    | (go_at_call 63; refine (hl _).mono ?_; rintro e w' ⟨rfl, rfl⟩)
    | (go_at_call 62; refine (hp _ _).mono ?_; rintro e w' ⟨rfl, rfl⟩))
  go_end0
  exact ⟨rfl, rfl⟩

/-- A row of one's own, sorted. -/
def SortedOwn (base : Nat) (l : List (Int × Int)) (v : Value) (w : World) (e : Ending) (w' : World) : Prop :=
  ∃ a n c l', e = .returned (.tuple #[]) ∧ v = .slice a n c ∧ n = l'.length ∧ l'.Perm l ∧ (∀ i j (hi : i < l'.length) (hj : j < l'.length), i < j → (l'[i]).1 ≤ (l'[j]).1) ∧ Sps w' a n (fr l') (til l') ∧ w.heap.size ≤ w'.heap.size ∧ ∀ W, Below base W w → Below base W w'
theorem sort_own (base : Nat) (v : Value) (l : List (Int × Int)) (w : World) (hO : OS w base v l) (hl : l.length ≤ 100000) (hb : ∀ s ∈ l, -9223372036854775808 ≤ s.1 ∧ s.1 ≤ 9223372036854775807 ∧ -9223372036854775808 ≤ s.2 ∧ s.2 ≤ 9223372036854775807) (hbase : base ≤ w.heap.size) :
    Calls Try.prog 48 #[v, .func (.func 49) #[] #[]] w (SortedOwn base l v w) := by
  have h' := hO
  rcases h'.2 with ⟨hv, h0⟩ | ⟨g, cap, cur, hv, hg, hh, hc, hm, _⟩
  · obtain rfl : l = [] := List.length_eq_zero_iff.1 h0
    subst hv
    refine (sort_none _ w).mono ?_
    rintro e w' ⟨rfl, rfl⟩
    exact ⟨none, 0, 0, [], rfl, rfl, rfl, List.Perm.refl _, fun i j hi => by simp at hi, ⟨Nat.zero_le _, fun h => by omega⟩, Nat.le_refl _, fun _ h => h⟩
  · subst hv
    have hlt := (Array.getElem?_eq_some_iff.mp hh).1
    have hH : HSp w g 0 l := by
      intro j hj
      have hj' : j < l.length * 2 := by simpa using hj
      rw [Nat.zero_add]
      refine ⟨?_, World.ownsRow.frozenAt hO j⟩
      rw [World.ownsRow.cellAt hO j hj']
      have e1 := get_flatK encSp 2 l.toArray j (by simpa using hj')
      rw [e1]
      obtain ⟨k, hk | hk⟩ : ∃ k, j = k * 2 ∨ j = k * 2 + 1 := ⟨j / 2, by omega⟩
      · have hkl : k < l.length := by omega
        rw [hk, (spc_at l k hkl).1, show k * 2 / 2 = k by omega, show k * 2 % 2 = 0 by omega]
        simp [encSp, hkl]
      · have hkl : k < l.length := by omega
        rw [hk, (spc_at l k hkl).2, show (k * 2 + 1) / 2 = k by omega, show (k * 2 + 1) % 2 = 1 by omega]
        simp [encSp, hkl]
    refine (sort_any g 0 cap l w hH hlt (by omega)).mono ?_
    rintro e w' ⟨l', rfl, hp, hlen, hs, hH', hO'⟩
    refine ⟨_, _, _, l', rfl, rfl, hlen.symm, hp, hs, ⟨by unfold maxLen; omega, fun hpos => ⟨g, 0, rfl, Nat.lt_of_lt_of_le hlt hO'.size, fun k hk => ?_⟩⟩, hO'.size, fun W hW => hW.trans (hO'.toBelow hbase fun k hk => by subst hk; exact hg)⟩
    have hkl : k < l'.length := by omega
    have h2 := hH'.at k hkl
    have h3 := hb (l'[k]) (hp.mem_iff.1 (List.getElem_mem hkl))
    simp only [fr, til, List.getD_eq_getElem?_getD, List.getElem?_eq_getElem hkl, Option.getD_some]
    exact ⟨h2.1, h2.2, h3⟩

set_option maxRecDepth 100000 in
set_option maxHeartbeats 4000000 in
theorem join_bad (a : Option Addr) (n cap k0 : Nat) (F T : Nat → Int) (w : World) (hS : Sps w a n F T) (hk0 : k0 < n) (hbad : rightB (F k0) (T k0) = false) :
    Calls Try.prog 23 #[.slice a n cap] w fun e w' => e = .returned (.slice none 0 0) ∧ Below w.heap.size w w' := by
  have hm := hS.1
  unfold maxLen at hm
  have HC := Lib.hid hS
  have HB0 := Lib.hid hbad
  clear hS hbad
  go_enter Try.func23, Try.ntmps23
  go_wp2_with fail
  go_loopw [12] (fun i wr => ∃ k : Nat, k ≤ k0 ∧ i = .int .i64 k ∧ Below w.heap.size w wr) (fun i _ => n - (intOf i).toNat)
  case atStart => exact ⟨0, Nat.zero_le _, rfl, Below.refl _ _⟩
  case round =>
    obtain ⟨k, hk, rfl, hB⟩ := hrel
    have hlt : k < n := by omega
    obtain ⟨ab, ao, rfl, hab, c0, c1, b0, b1, b2, b3⟩ := HC.out.at hB k hlt
    have HB := Lib.hid hB
    have HS := Lib.hid hB.size
    have hnx : rightB (F k) (T k) = true → k + 1 ≤ k0 := by
      intro h
      rcases Nat.lt_or_ge k k0 with h1 | h1
      · exact h1
      · obtain rfl : k = k0 := by omega
        rw [HB0.out] at h; cases h
    obtain ⟨f, e0⟩ : ∃ x, F k = x := ⟨_, rfl⟩
    obtain ⟨t, e1⟩ : ∃ x, T k = x := ⟨_, rfl⟩
    rw [e0] at c0 b0 b1 hnx
    rw [e1] at c1 b2 b3 hnx
    clear hB e0 e1
    have i0 : (0 : Int) ≤ (k : Int) := by omega
    have kl : (k : Int) < (n : Int) := by omega
    have d4 : decide ((k : Int) < (n : Int)) = true := by simp [hlt]
    have hr' := right_any f t
    obtain ⟨c, hr⟩ : ∃ c, rightB f t = c := ⟨_, rfl⟩
    rw [hr] at hr' hnx
    clear hr
    have HX := Lib.hid hnx
    clear hnx
    cases c
    · go_wp2_with (go_at_call 13; refine (hr' _).mono ?_; rintro e w' ⟨rfl, hb⟩)
      go_ret
      exact ⟨rfl, below_call HB.out HS.out hb⟩
    · go_wp2_with (go_at_call 13; refine (hr' _).mono ?_; rintro e w' ⟨rfl, hb⟩)
      go_roundw
      case rel => exact ⟨k + 1, HX.out trivial, by go_num, below_call HB.out HS.out hb⟩
      case measure => simp [intOf]; omega
end Go.Proofs.Ythlmeppahcjlgaa
