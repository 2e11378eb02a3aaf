/- What two rows have in common: the rows as lists; add of what common gave; a scope with one label. -/
import Derived.Test.YthlmeppahcjlgaaBtM
import Derived.ScopeJumps
import Derived.WalkMore
import Derived.Deep.RegionHeld3
namespace Go.Proofs.Ythlmeppahcjlgaa
open Go.RowKit

theorem pairs_get {F T : Nat → Int} {n k : Nat} (h : k < (pairs F T n).length) : (pairs F T n)[k] = (F k, T k) := by simp [pairs]
theorem rowed_pairs {F T : Nat → Int} {n : Nat} (hg : good F T n = true) : rowed (pairs F T n) := by
  refine ⟨fun s hs => ?_, ?_⟩
  · obtain ⟨k, hk, rfl⟩ := pairs_mem.1 hs
    obtain ⟨g0, g1, g2, _⟩ := good_at hg hk
    exact ⟨g0, g1, g2⟩
  · rw [List.pairwise_iff_getElem]
    intro i j hi hj hij
    rw [pairs_get, pairs_get]
    rw [pairs_len] at hj
    exact good_order hg j i hij hj
/-- A row from its span i on. -/
def sh (F : Nat → Int) (i k : Nat) : Int := F (i + k)
theorem sh_zero (F : Nat → Int) : sh F 0 = F := by funext k; simp [sh]
theorem sh_at (F : Nat → Int) (i : Nat) : sh F i 0 = F i := rfl
theorem Sps.tail {w : World} {ab ao m i : Nat} {F T : Nat → Int} (h : Sps w (some ⟨ab, ao, none⟩) (m + 1) (sh F i) (sh T i)) : Sps w (some ⟨ab, ao + 2, none⟩) m (sh F (i + 1)) (sh T (i + 1)) := by
  refine ⟨by have := h.1; omega, fun hp => ?_⟩
  obtain ⟨ab', ao', e, hl, hc⟩ := h.2 (by omega)
  injection e with e
  injection e with e1 e2
  subst e1 e2
  refine ⟨_, _, rfl, hl, fun k hk => ?_⟩
  have := hc (k + 1) (by omega)
  rw [show ao + (k + 1) * 2 = ao + 2 + k * 2 by omega] at this
  have e3 : ∀ G : Nat → Int, sh G i (k + 1) = sh G (i + 1) k := fun G => by simp only [sh]; congr 1; omega
  rw [e3, e3] at this
  exact this
theorem Sps.none0 {w : World} {a : Option Addr} {F T : Nat → Int} : Sps w a 0 F T := ⟨Nat.zero_le _, fun h => by omega⟩

theorem add_common (base : Nat) (v : Value) (l : List (Int × Int)) (f t f' t' : Int) (w : World) (hO : OS w base v l) (hb : base ≤ w.heap.size) (hl : l.length ≤ 100000) :
    Calls Try.prog 44 #[v, .agg #[.int .i64 (comF f t f' t'), .int .i64 (comT f t f' t')]] w (Added base (l ++ cutOne f t f' t') w) := by
  unfold cutOne
  rcases com_cases f t f' t' with ⟨h, e1, e2⟩ | ⟨h, e1, e2⟩
  · rw [e1, e2, if_neg (by omega), List.append_nil]
    exact add_none base v l w hO hb
  · rw [e1, e2, if_pos h]
    refine add_some base v l _ _ w hO hb ?_ hl
    by_cases h0 : mx f f' = 0
    · have : mn t t' ≠ 0 := by omega
      simp [h0, this]
    · simp [h0]

/-- A scope with one label: what lies behind the label is walked once. -/
theorem wp_scope_once {P : Program} {Q : Exit → Act → World → Prop} {a : Act} {w : World} {c rest : Code} (l : Nat) (J : Act → World → Prop) (μ : Act → World → Nat) (hf : findLabel c l = some (Code.seq Code.skip rest))
    (pass : ∀ a w, J a w → rest.wp P (Exit.jump l (fun a' w' => J a' w' ∧ μ a' w' < μ a w) Q) a w)
    (first : Hid (∀ a w, J a w → rest.wp P (Exit.jump l J Q) a w) → c.wp P (Exit.jump l J Q) a w) : (Code.scope c).wp P Q a w := by
  refine wp_scope_jumps l J μ hf (first (Lib.hid fun a w h => wp_mono (pass a w h) ?_)) fun a w h => wp_seq (wp_skip (pass a w h))
  intro e a' w' hq
  cases e with
  | goto l' => exact ⟨hq.1, hq.2.1⟩
  | normal => exact hq
  | exit id => exact hq
  | ret => exact hq
  | panic ch => exact hq
  | outgrown => exact hq

/-- What Both hands back. -/
def BothOwn (l : List (Int × Int)) (w : World) (e : Ending) (w' : World) : Prop := ∃ v, e = .returned v ∧ OS w' w.heap.size v (if 32 < l.length then [] else l) ∧ Below w.heap.size w w'
end Go.Proofs.Ythlmeppahcjlgaa
