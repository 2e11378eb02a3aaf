/- The chapter's example of rings. -/
import Derived.Test.YtfclmbneimbmnaaDoorRgF
namespace Go.Proofs.YtfclmbneimbmnaaDoor
open Go.RowKit

theorem OT.base {w : World} {base : Nat} {v : Value} {l : List Th} (h : OT w base v l) {g : Nat} (hg : v.ownBlock = some g) : base ≤ g := by
  rcases h.2 with ⟨rfl, _⟩ | ⟨g', cap, cur, rfl, hb, _⟩
  · cases hg
  · have e : g' = g := by simpa [Value.ownBlock] using hg
    omega

theorem put_below {w w' : World} {base r b s : Nat} {V : Nat → Value} {S : Nat → List Th} (hR : Rw w base r b V S) (hs : s < 64) (hr : base ≤ r) (hb : base ≤ b) (hw : base ≤ w.heap.size) (h : Only (fun k => k = r ∨ k = b ∨ (V s).ownBlock = some k) w w') : Below base w w' :=
  h.toBelow hw (fun k hk => by
    rcases hk with rfl | rfl | hk
    · exact hr
    · exact hb
    · exact (hR.row s hs).base hk)

/-- What a ring of the example is, with so many rows filled. -/
def Ex (w w' : World) (r b c : Nat) (M : Int → Option (Nat × Nat)) (S : Nat → List Th) : Prop :=
  ∃ V, Rg w' r b c V M ∧ Rw w' w.heap.size r b V S ∧ Below w.heap.size w w' ∧ w.heap.size ≤ r ∧ w.heap.size ≤ b ∧ r ≠ b

theorem ex_new (w : World) : Calls Tryd.prog 22 #[] w fun e w' => ∃ r b, e = .returned (.pointer (some ⟨r, 0, none⟩)) ∧ Hid (Ex w w' r b 0 (fun _ => none) (fun _ => [])) := by
  refine (new_any w).mono ?_
  rintro e w1 ⟨r, b, he, hr, hb, hrb, hG, hB1⟩
  exact ⟨r, b, he, _, hG, ⟨fun k _ => OT.nil _ _, fun k g _ h => (by cases h), fun j k g _ _ h => (by cases h)⟩, hB1, hr, hb, hrb⟩

theorem ex_put {w w1 : World} {r b c s : Nat} {si : Int} (hsi : si = s) {M : Int → Option (Nat × Nat)} {S : Nat → List Th} (x : Int) (hx : 0 ≤ x ∧ x < 100) (h : Ex w w1 r b c M S) (hM : M x = none) (hs : s < 64) (hc : c < 10) (hl : (S s).length < 10) :
    Calls Tryd.prog 66 #[.pointer (some ⟨r, 0, none⟩), .int .i64 si, .agg #[.int .u64 x, .int .u64 0, .int .i64 0]] w1 fun e w' => e = .returned (.int .i64 0) ∧ Hid (Ex w w' r b (c + 1) (updM M x (some (s, (S s).length))) (upd S s (S s ++ [(x, 0, 0)]))) := by
  subst hsi
  obtain ⟨V, hG, hR, hB, hr, hb, hrb⟩ := h
  refine (put_any x 0 0 w1 hG hR hs (by omega) hM (by omega) (by omega) hB.size hrb).mono ?_
  rintro e w2 ⟨he, V', hG', hR', hO⟩
  exact ⟨he, V', hG', hR', hB.trans (put_below hR hs hr hb hB.size hO), hr, hb, hrb⟩

/-- The example's ring, filled. -/
def exM : Int → Option (Nat × Nat) := updM (updM (fun _ => none) 1 (some (60, 0))) 2 (some (3, 0))
def exS : Nat → List Th := upd (upd (fun _ => []) 60 [(1, 0, 0)]) 3 [(2, 0, 0)]
theorem exS_len (k : Nat) : (exS k).length = exL k := by
  unfold exS exL upd
  by_cases h : k = 3
  · subst h; rfl
  · by_cases h2 : k = 60
    · subst h2; rfl
    · simp [h, h2]

theorem ex_shape {w w1 : World} {r b c : Nat} {M : Int → Option (Nat × Nat)} (h : Ex w w1 r b c M exS) : ∃ V, Rg w1 r b c V M ∧ ∀ k, k < 64 → ∃ a c, V k = .slice a (exL k) c := by
  obtain ⟨V, hG, hR, _⟩ := h
  exact ⟨V, hG, fun k hk => by have := (hR.row k hk).shape; rwa [exS_len] at this⟩

set_option maxRecDepth 100000 in
set_option maxHeartbeats 4000000 in
theorem lives11 (w : World) (hT : Tab w) : Calls Tryd.prog 15 #[] w fun e w' => e = .returned (.bool true) ∧ Below w.heap.size w w' := by
  have hN := ex_new w
  have HT := Lib.hid hT
  clear hT
  go_enter Tryd.func15, Tryd.ntmps15
  go_wp2_with (go_at_call 22; refine hN.mono ?_; rintro e w1 ⟨r, b, rfl, E1⟩)
  have hP1 := ex_put (s := 60) (si := 60) rfl 1 (by omega) E1.out rfl (by omega) (by omega) (by simp)
  clear hN
  go_wp2_with (go_at_call 66; with_reducible refine hP1.mono ?_; rintro e w2 ⟨rfl, E2⟩)
  have hP2 := ex_put (s := 3) (si := 3) rfl 2 (by omega) E2.out (by simp [updM]) (by omega) (by omega) (by simp [upd])
  clear hP1
  go_wp2_with (go_at_call 66; with_reducible refine hP2.mono ?_; rintro e w3 ⟨rfl, E3⟩)
  have hE3 : Ex w w3 r b 2 exM exS := E3.out
  obtain ⟨V, hG, hS⟩ := ex_shape hE3
  have hB3 : Below w.heap.size w w3 := by obtain ⟨_, _, _, h, _⟩ := hE3; exact h
  have hn1 := next_one w3 (HT.out.below hB3) hG hS
  have hn2 := next_two w3 (HT.out.below hB3) hG hS
  have hln := len_any w3 hG
  have HB := Lib.hid hB3
  clear hP2 E1 E2 E3 hE3 hG hS hB3
  go_wp2_with (first
    | (go_at_call 67; first | (with_reducible refine hn1.mono ?_; rintro e w4 ⟨rfl, rfl⟩) | (with_reducible refine hn2.mono ?_; rintro e w4 ⟨rfl, rfl⟩))
    | (go_at_call 24; refine hln.mono ?_; rintro e w4 ⟨rfl, rfl⟩))
  go_ret
  exact ⟨rfl, HB.out⟩
end Go.Proofs.YtfclmbneimbmnaaDoor
