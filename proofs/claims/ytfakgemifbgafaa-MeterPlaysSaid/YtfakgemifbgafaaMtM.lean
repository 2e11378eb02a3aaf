/- One call both ways, of any kind, on any meter. -/
import Derived.Test.YtfakgemifbgafaaMtL
namespace Go.Proofs.Ytfakgemifbgafaa
open Go.RowKit

/-- The meter and the counts, alike. -/
structure Both (N n : Nat) (vs : List Int) (v : Value) (w : World) : Prop where
  len : vs.length = n
  met : Met N vs w
  wds : Wds N v vs w
theorem Both.kept {N n : Nat} {vs : List Int} {v : Value} {w w' : World} (B : Both N n vs v w) (h : Below w.heap.size w w') : Both N n vs v w' := ⟨B.len, B.met.kept h, B.wds.kept h⟩

/-- Behind a call both ways: alike again. -/
def Again (N n : Nat) (w : World) (v' : Value) (w' : World) : Prop := Only (· = N) w w' ∧ ∃ vs', Both N n vs' v' w'
/-- Behind the reference's call, ahead of the meter's. -/
def Mid (N : Nat) (vs vs' : List Int) (w : World) (v' : Value) (w1 : World) : Prop := Below w.heap.size w w1 ∧ Met N vs w1 ∧ Wds N v' vs' w1

theorem set_self (vs : List Int) (i : Nat) (y : Int) (hi : i < vs.length) (hy : vs.getD i 0 = y) : vs.set i y = vs := by
  rw [← hy]
  apply List.ext_getElem (by simp)
  intro j h1 h2
  simp only [List.getElem_set]
  split
  · rename_i e; subst e; simp [hi]
  · rfl
theorem fin_below {N n : Nat} {vs : List Int} {w w1 w2 : World} {v' : Value} (h : Mid N vs vs w v' w1) (hn : vs.length = n) (b : Below w1.heap.size w1 w2) : Again N n w v' w2 :=
  ⟨Only.below (below_tr h.1 b), vs, hn, h.2.1.kept b, h.2.2.kept b⟩
theorem fin_only {N n : Nat} {vs vs' : List Int} {w w1 w2 : World} {v' : Value} (h : Mid N vs vs' w v' w1) (hn : vs'.length = n) (o : Only (· = N) w1 w2) (M : Met N vs' w2) : Again N n w v' w2 :=
  ⟨(Only.below h.1).trans o, vs', hn, M, h.2.2.only o⟩

section any
variable {N n : Nat} {vs : List Int} {v : Value} (i x k : Int) {w : World} (B : Both N n vs v w)
include B
theorem ref_same (f : Value → Value) {g : Nat} {args : Array Value} (h : Calls Try.prog g args (boxed k i x w) fun e w' => e = .returned (f v) ∧ boxed k i x w = w') :
    Calls Try.prog g args (boxed k i x w) fun e w' => ∃ v', e = .returned (f v') ∧ Below (boxed k i x w).heap.size (boxed k i x w) w' ∧ Mid N vs vs w v' w' :=
  h.mono fun e w' ⟨h1, h2⟩ => by
    subst h2
    have b : Below w.heap.size w (boxed k i x w) := alloc_b _ _
    exact ⟨v, h1, Below.refl _ _, b, B.met.kept b, B.wds.kept b⟩
theorem ref_turn (vs' : List Int) (f : Value → Value) {g : Nat} {args : Array Value} (h : Calls Try.prog g args (boxed k i x w) (Turned N vs' (boxed k i x w) f)) :
    Calls Try.prog g args (boxed k i x w) fun e w' => ∃ v', e = .returned (f v') ∧ Below (boxed k i x w).heap.size (boxed k i x w) w' ∧ Mid N vs vs' w v' w' :=
  h.mono fun e w' ⟨v', h1, h2, h3⟩ => by
    have b : Below w.heap.size w (boxed k i x w) := alloc_b _ _
    have b' := below_tr b h2
    exact ⟨v', h1, h2, b', B.met.kept b', h3⟩
theorem at_box : Wds N v vs (boxed k i x w) := B.wds.kept (alloc_b _ _)
theorem at_met : Met N vs (boxed k i x w) := B.met.kept (alloc_b _ _)

theorem doing (hn : 0 < n) (hx : 0 ≤ x) : Calls Try.prog 23 #[.pointer (some ⟨N, 0, none⟩), v, .agg #[.int .i64 k, .int .i64 i, .int .u64 x]] w (Did (Again N n w)) := by
  have hl := B.len
  have hN : N < (boxed k i x w).heap.size := (at_met i x k B).lt
  by_cases hin : 0 ≤ i ∧ i < (n : Int)
  · obtain ⟨j, rfl⟩ := nat_of hin.1
    have hj : j < vs.length := by omega
    obtain ⟨y, hy⟩ : ∃ y, vs.getD j 0 = y := ⟨_, rfl⟩
    have lo := B.met.at_low j hj
    rw [hy] at lo
    by_cases h1 : k = 1
    · subst h1
      by_cases h : TOP < x
      · exact do_raise _ v j x 10 w (Mid N vs vs w) (Again N n w) (ref_same j x 1 B (fun v' => .tuple #[v', .int .i64 10]) (rraise_big N v vs j x _ (at_box j x 1 B) hj h))
          fun v' w1 m => (raise_big N vs j x y w1 m.2.1 hj hy h).mono fun e w' hh => ⟨hh.1, fin_below m hl hh.2⟩
      · by_cases h' : x ≤ y
        · have hs : vs.set j (if x < y then y else x) = vs := by
            by_cases h'' : x < y
            · rw [if_pos h'']; exact set_self vs j y hj hy
            · rw [if_neg h'']; exact set_self vs j x hj (by omega)
          exact do_raise _ v j x 0 w (Mid N vs vs w) (Again N n w) (ref_same j x 1 B (fun v' => .tuple #[v', .int .i64 0]) (rraise_keep N v vs j x y _ (at_box j x 1 B) hj hy (by omega) h'))
            fun v' w1 m => (raise_ok N vs j x y w1 m.2.1 hj hy hx (by omega)).mono fun e w' hh => ⟨hh.1, fin_only m hl hh.2.1 (by have := hh.2.2.1; rwa [hs] at this)⟩
        · have hs : (if x < y then y else x) = x := if_neg (by omega)
          exact do_raise _ v j x 0 w (Mid N vs (vs.set j x) w) (Again N n w) (ref_turn j x 1 B (vs.set j x) (fun v' => .tuple #[v', .int .i64 0]) (rraise_up N v vs j x y _ (at_box j x 1 B) hj hy (by omega) (by omega) hN))
            fun v' w1 m => (raise_ok N vs j x y w1 m.2.1 hj hy hx (by omega)).mono fun e w' hh => ⟨hh.1, fin_only m (by simpa using hl) hh.2.1 (by have := hh.2.2.1; rwa [hs] at this)⟩
    · by_cases h2 : k = 2
      · subst h2
        by_cases h : TOP < x
        · exact do_swap _ v j x 10 0 w (Mid N vs vs w) (Again N n w) (ref_same j x 2 B (fun v' => .tuple #[v', .int .u64 0, .int .i64 10]) (rswap_big N v vs j x _ (at_box j x 2 B) hj h))
            fun v' w1 m => (swap_big N vs j x y w1 m.2.1 hj hy h).mono fun e w' hh => ⟨hh.1, fin_below m hl hh.2⟩
        · exact do_swap _ v j x 0 y w (Mid N vs (vs.set j x) w) (Again N n w) (ref_turn j x 2 B (vs.set j x) (fun v' => .tuple #[v', .int .u64 y, .int .i64 0]) (rswap_ok N v vs j x y _ (at_box j x 2 B) hj hy (by omega) hN))
            fun v' w1 m => (swap_ok N vs j x y w1 m.2.1 hj hy hx (by omega)).mono fun e w' hh => ⟨hh.1, fin_only m (by simpa using hl) hh.2.1 hh.2.2.1⟩
      · by_cases h3 : k = 3
        · subst h3
          by_cases h : y = 0
          · exact do_once _ v j x w (Mid N vs (vs.set j 1) w) (Again N n w) true (ref_turn j x 3 B (vs.set j 1) (fun v' => .tuple #[v', .bool true]) (ronce_yes N v vs j y _ (at_box j x 3 B) hj hy h hN))
              fun v' w1 m => (once_yes N vs j y w1 m.2.1 hj hy h).mono fun e w' hh => ⟨hh.1, fin_only m (by simpa using hl) hh.2.1 hh.2.2.1⟩
          · exact do_once _ v j x w (Mid N vs vs w) (Again N n w) false (ref_same j x 3 B (fun v' => .tuple #[v', .bool false]) (ronce_no N v vs j y _ (at_box j x 3 B) hj hy h))
              fun v' w1 m => (once_no N vs j y w1 m.2.1 hj hy h).mono fun e w' hh => ⟨hh.1, fin_only m hl hh.2.1 hh.2.2.1⟩
        · by_cases h4 : k = 4
          · subst h4
            refine (do_get _ v j x y w (fun q => rget_in N v vs j y _ (show Wds N v vs ((boxed 4 j x w).drewN q) from at_box j x 4 B) hj hy) (fun q => get_in N vs j y _ ((at_met j x 4 B).drewN q) hj hy)).mono ?_
            rintro e w' ⟨v', h, rfl, b⟩
            exact ⟨v', h, Only.below b, vs, B.kept b⟩
          · by_cases h : TOP < y + x
            · exact do_add _ v j x 10 0 w (Mid N vs vs w) (Again N n w) k ⟨h1, h2, h3, h4⟩ (ref_same j x k B (fun v' => .tuple #[v', .int .u64 0, .int .i64 10]) (radd_big N v vs j x y _ (at_box j x k B) hj hy hx lo.1 lo.2 h))
                fun v' w1 m => (add_big N vs j x y w1 m.2.1 hj hy hx h).mono fun e w' hh => ⟨hh.1, fin_below m hl hh.2⟩
            · exact do_add _ v j x 0 (y + x) w (Mid N vs (vs.set j (y + x)) w) (Again N n w) k ⟨h1, h2, h3, h4⟩ (ref_turn j x k B (vs.set j (y + x)) (fun v' => .tuple #[v', .int .u64 (y + x), .int .i64 0]) (radd_ok N v vs j x y _ (at_box j x k B) hj hy hx lo.1 lo.2 (by omega) hN))
                fun v' w1 m => (add_ok N vs j x y w1 m.2.1 hj hy hx (by omega)).mono fun e w' hh => ⟨hh.1, fin_only m (by simpa using hl) hh.2.1 hh.2.2.1⟩
  · have ho : i < 0 ∨ (vs.length : Int) ≤ i := by omega
    have l0 : 0 < vs.length := by omega
    by_cases h1 : k = 1
    · subst h1
      exact do_raise _ v i x 2 w (Mid N vs vs w) (Again N n w) (ref_same i x 1 B (fun v' => .tuple #[v', .int .i64 2]) (rraise_out N v vs i x _ (at_box i x 1 B) ho))
        fun v' w1 m => (raise_out N vs i x w1 m.2.1 l0 ho).mono fun e w' hh => ⟨hh.1, fin_below m hl hh.2⟩
    · by_cases h2 : k = 2
      · subst h2
        exact do_swap _ v i x 2 0 w (Mid N vs vs w) (Again N n w) (ref_same i x 2 B (fun v' => .tuple #[v', .int .u64 0, .int .i64 2]) (rswap_out N v vs i x _ (at_box i x 2 B) ho))
          fun v' w1 m => (swap_out N vs i x w1 m.2.1 l0 ho).mono fun e w' hh => ⟨hh.1, fin_below m hl hh.2⟩
      · by_cases h3 : k = 3
        · subst h3
          exact do_once _ v i x w (Mid N vs vs w) (Again N n w) false (ref_same i x 3 B (fun v' => .tuple #[v', .bool false]) (ronce_out N v vs i _ (at_box i x 3 B) ho))
            fun v' w1 m => (once_out N vs i w1 m.2.1 l0 ho).mono fun e w' hh => ⟨hh.1, by have := hh.2; subst this; exact fin_below m hl (Below.refl _ _)⟩
        · by_cases h4 : k = 4
          · subst h4
            refine (do_get _ v i x 0 w (fun q => rget_out N v vs i _ (show Wds N v vs ((boxed 4 i x w).drewN q) from at_box i x 4 B) ho) (fun q => get_out N vs i _ ((at_met i x 4 B).drewN q) ho)).mono ?_
            rintro e w' ⟨v', h, rfl, b⟩
            exact ⟨v', h, Only.below b, vs, B.kept b⟩
          · exact do_add _ v i x 2 0 w (Mid N vs vs w) (Again N n w) k ⟨h1, h2, h3, h4⟩ (ref_same i x k B (fun v' => .tuple #[v', .int .u64 0, .int .i64 2]) (radd_out N v vs i x _ (at_box i x k B) ho))
              fun v' w1 m => (add_out N vs i x w1 m.2.1 l0 ho).mono fun e w' hh => ⟨hh.1, fin_below m hl hh.2⟩
end any
end Go.Proofs.Ytfakgemifbgafaa
