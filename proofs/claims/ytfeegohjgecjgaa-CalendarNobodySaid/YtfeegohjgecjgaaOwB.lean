/- Rows of spans of one's own: a copy, and add. -/
import Derived.Test.YtfeegohjgecjgaaOwA
namespace Go.Proofs.Ytfeegohjgecjgaa
open Go.RowKit

/-- A copy of a row is the call's own. -/
def Copied (l : List (Int × Int)) (w : World) (e : Ending) (w' : World) : Prop := ∃ v, e = .returned v ∧ OS w' w.heap.size v l ∧ Below w.heap.size w w'
set_option maxRecDepth 100000 in
set_option maxHeartbeats 1600000 in
theorem clone_any (a : Option Addr) (n cap : Nat) (F T : Nat → Int) (w : World) (hS : Sps w a n F T) (hn : n ≤ 100000) :
    Calls Try.prog 48 #[.slice a n cap] w (Copied (pairs F T n) w) := by
  have HL := Lib.hid (pairs_len F T n)
  cases a with
  | none =>
    have h0 : n = 0 := by
      rcases Nat.eq_zero_or_pos n with h | h
      · exact h
      · obtain ⟨ab, ao, e, _⟩ := hS.2 h
        cases e
    subst h0
    clear hS
    have he : ∀ w : World, (binOp .eql 22 (.slice none 0 cap) (.slice none 0 0)).run Try.prog w = .ok (.bool true) w := fun _ => rfl
    go_enter Try.func48, Try.ntmps48
    go_wp2_with fail
    go_ret
    exact ⟨_, rfl, OS.nil _ _, Below.refl _ _⟩
  | some x =>
    obtain ⟨i0, hi, hz0, hz1, hz2⟩ := info_parts spans_info
    have hnews : ∀ j u, (spc (pairs F T n))[j]? = some u → (w.alloc (.cells #[] 30)).cell? (x.add j) = some u := by
      intro j u hu
      have hj : j < n * 2 := by
        have := (List.getElem?_eq_some_iff.1 hu).1
        rwa [spc_len, pairs_len] at this
      obtain ⟨ab, ao, e, hlt, hc⟩ := hS.2 (by omega)
      injection e with e
      subst e
      obtain ⟨k, hk | hk⟩ : ∃ k, j = k * 2 ∨ j = k * 2 + 1 := ⟨j / 2, by omega⟩
      · have hkn : k < n := by omega
        have h1 := (spc_at (pairs F T n) k (by rw [pairs_len]; exact hkn)).1
        rw [hk] at hu ⊢
        rw [h1] at hu
        rw [add_at, World.cell?_alloc_past _ _ _ hlt, (hc k hkn).1, ← hu, ← (pairs_at F T n k hkn).1]
        rfl
      · have hkn : k < n := by omega
        have h1 := (spc_at (pairs F T n) k (by rw [pairs_len]; exact hkn)).2
        rw [hk] at hu ⊢
        rw [h1] at hu
        rw [add_at, ← Nat.add_assoc, World.cell?_alloc_past _ _ _ hlt, (hc k hkn).2.1, ← hu, ← (pairs_at F T n k hkn).2]
        rfl
    have HN := Lib.hid hnews
    clear hS hnews
    have he : ∀ w : World, (binOp .eql 22 (.slice (some x) n cap) (.slice none 0 0)).run Try.prog w = .ok (.bool false) w := fun _ => rfl
    go_enter Try.func48, Try.ntmps48
    go_wp2_with (at_builtin; refine wpList_append_own _ rfl (.tmp 5) (.tmp 6) 22 rfl w.heap.size 30 i0 (.agg #[.int .i64 0, .int .i64 0]) 2 16 Try.underlying22 hi hz0 hz1 hz2 rfl (by decide) _ _ _ rfl (ow_none w) x n cap (spc (pairs F T n)) rfl ?c0 HN.out (spc_one _) ?c3 ?c4 ?c5 ?_)
    case c0 => rw [spc_len, HL.out]
    case c3 => unfold maxLen; show 0 + n ≤ _; omega
    case c4 => show (0 + n) * 16 ≤ _; omega
    case c5 => simp
    intro v1 w1 hown hgrow _
    have hB : Below w.heap.size w w1 := ((Below.refl w.heap.size w).alloc (Nat.le_refl _) (.cells #[] 30)).grown hgrow (by simp) fun k hk => (World.ownsRow.lt (ow_none w) k hk).1
    have hO : OS w1 w.heap.size v1 (pairs F T n) := by
      unfold OS
      rw [HL.out]
      exact hown
    have HB := Lib.hid hB
    have HO := Lib.hid hO
    clear hown hgrow hB hO
    go_wp2_with fail
    go_ret
    exact ⟨_, rfl, HO.out, HB.out⟩

/-- What add makes of a row of the call's own. -/
def Added (base : Nat) (l : List (Int × Int)) (w : World) (e : Ending) (w' : World) : Prop := ∃ v, e = .returned v ∧ OS w' base v l ∧ Stays base w w'
end Go.Proofs.Ytfeegohjgecjgaa
