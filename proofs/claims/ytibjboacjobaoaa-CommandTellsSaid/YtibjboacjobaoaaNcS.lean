/- Contracts compared, both ways. -/
import Derived.Test.YtibjboacjobaoaaMgAB
import Derived.Test.YtibjboacjobaoaaMgAN
import Derived.Deep.LoopGhost
import Derived.Deep.QuietTactic
namespace Go.Proofs.Ytibjboacjobaoaa
open Go.RowKit
theorem qua_at {w : World} {N : Nat} {x y z u : Value} {t : TypeId} (h : w.heap[N]? = some (.cells #[x, y, z, u] t (0, 0))) : w.cell? ⟨N, 0, none⟩ = some x ∧ w.cell? ⟨N, 1, none⟩ = some y ∧ w.cell? ⟨N, 2, none⟩ = some z ∧ w.cell? ⟨N, 3, none⟩ = some u := by
  simp [World.cell?, h]
/-- Are two contracts the same? -/
def conEq (c c' : Int) (B P B' P' : Nat → Int) (n n' : Nat) (r r' b b' : Int) : Bool := decide (c = c') && (decide (r = r') && (decide (b = b') && sameL B P B' P' n n'))
theorem conEq_refl (c : Int) (B P : Nat → Int) (n : Nat) (r b : Int) : conEq c c B P B P n n r r b b = true := by
  unfold conEq
  rw [sameL_refl]
  simp
set_option maxRecDepth 100000 in
set_option maxHeartbeats 8000000 in
theorem con_same (c c' : Int) (a : Option Addr) (n ca : Nat) (r b : Int) (B P : Nat → Int) (a' : Option Addr) (n' ca' : Nat) (r' b' : Int) (B' P' : Nat → Int) (w : World) (hS : Sps w a n B P) (hS' : Sps w a' n' B' P') :
    Calls Try.prog 59 #[conV c a n ca r b, conV c' a' n' ca' r' b'] w fun e w' => e = .returned (.bool (conEq c c' B P B' P' n n' r r' b b')) ∧ Below w.heap.size w w' := by
  have HA := Lib.hid (fun W (hb : Below w.heap.size w W) => equal_levels a a' n ca n' ca' B P B' P' W (hS.kept hb) (hS'.kept hb))
  have HX : Hid (conEq c c' B P B' P' n n' r r' b b' = (decide (c = c') && (decide (r = r') && (decide (b = b') && sameL B P B' P' n n')))) := Lib.hid rfl
  obtain ⟨ok, hok⟩ : ∃ x, conEq c c' B P B' P' n n' r r' b b' = x := ⟨_, rfl⟩
  obtain ⟨e1, he1⟩ : ∃ x, sameL B P B' P' n n' = x := ⟨_, rfl⟩
  rw [hok, he1] at HX
  rw [he1] at HA
  rw [hok]
  obtain ⟨B2, s0, s1, sz⟩ := box2 w #[.int .i64 c, .slice a n ca, .int .i64 r, .int .i64 b] #[.int .i64 c', .slice a' n' ca', .int .i64 r', .int .i64 b'] 28 28
  obtain ⟨q0, q1, q2, q3⟩ := qua_at s0
  obtain ⟨r0, r1, r2, r3⟩ := qua_at s1
  have HB := Lib.hid B2
  have hs := HA.out _ B2
  clear hS hS' hok he1 s0 s1 sz B2
  unfold conV
  by_cases h1 : c = c'
  · by_cases h2 : r = r'
    · by_cases h3 : b = b'
      · subst h1 h2 h3
        go_enter Try.func59, Try.ntmps59
        go_wp2_with fail
        refine hs.mono ?_
        rintro e w3 ⟨rfl, q, rfl⟩
        have HB1 := Lib.hid (below_drewN' HB.out q)
        clear hs
        go_wp2_with fail
        go_ret
        exact ⟨by rw [HX.out]; simp, HB1.out⟩
      · have d3 : decide (b = b') = false := decide_eq_false h3
        subst h1 h2
        go_enter Try.func59, Try.ntmps59
        go_wp2_with fail
        go_ret
        exact ⟨by rw [HX.out]; simp [h3], HB.out⟩
    · have d2 : decide (r = r') = false := decide_eq_false h2
      subst h1
      go_enter Try.func59, Try.ntmps59
      go_wp2_with fail
      go_ret
      exact ⟨by rw [HX.out]; simp [h2], HB.out⟩
  · have d1 : decide (c = c') = false := decide_eq_false h1
    go_enter Try.func59, Try.ntmps59
    go_wp2_with fail
    go_ret
    exact ⟨by rw [HX.out]; simp [h1], HB.out⟩
set_option maxRecDepth 100000 in
set_option maxHeartbeats 8000000 in
theorem rcon_same (c c' : Int) (a : Option Addr) (n ca : Nat) (r b : Int) (B P : Nat → Int) (a' : Option Addr) (n' ca' : Nat) (r' b' : Int) (B' P' : Nat → Int) (w : World) (hS : Sps w a n B P) (hS' : Sps w a' n' B' P') :
    Calls Try.prog 61 #[conV c a n ca r b, conV c' a' n' ca' r' b'] w fun e w' => e = .returned (.bool (conEq c c' B P B' P' n n' r r' b b')) ∧ Below w.heap.size w w' := by
  have HX : Hid (conEq c c' B P B' P' n n' r r' b b' = (decide (c = c') && (decide (r = r') && (decide (b = b') && sameL B P B' P' n n')))) := Lib.hid rfl
  obtain ⟨ok, hok⟩ : ∃ x, conEq c c' B P B' P' n n' r r' b b' = x := ⟨_, rfl⟩
  rw [hok] at HX
  rw [hok]
  obtain ⟨B2, s0, s1, sz⟩ := box2 w #[.int .i64 c, .slice a n ca, .int .i64 r, .int .i64 b] #[.int .i64 c', .slice a' n' ca', .int .i64 r', .int .i64 b'] 28 28
  obtain ⟨q0, q1, q2, q3⟩ := qua_at s0
  obtain ⟨r0, r1, r2, r3⟩ := qua_at s1
  have HB := Lib.hid B2
  have HS := Lib.hid (And.intro (hS.kept B2) (hS'.kept B2))
  have HNM := Lib.hid (And.intro hS.1 hS'.1)
  clear hS hS' hok s0 s1 sz B2
  unfold conV
  by_cases h1 : c = c'
  · by_cases h2 : r = r'
    · by_cases h3 : b = b'
      · by_cases h4 : n = n'
        · subst h1 h2 h3 h4
          go_enter Try.func61, Try.ntmps61
          go_wp2_with fail
          generalize ((w.alloc (.cells #[.int .i64 c, .slice a n ca, .int .i64 r, .int .i64 b] 28)).alloc (.cells #[.int .i64 c, .slice a' n ca', .int .i64 r, .int .i64 b] 28)) = W0 at q0 q1 q2 q3 r0 r1 r2 r3 HB HS ⊢
          go_loopg [5] n (fun kx s5 wr => ∃ (k : Nat), s5 = .int .i64 k ∧ k ≤ n ∧ n - k ≤ kx ∧ Hid (sameB B P B' P' k = true) ∧ ∃ q, wr = W0.drewN q)
          case atStart => exact ⟨0, rfl, by omega, by omega, Lib.hid rfl, 0, rfl⟩
          case round =>
            obtain ⟨k, rfl, hk, hkx, HG, q, rfl⟩ := hrel
            have HBQ := Lib.hid (below_drewN' HB.out q)
            have hm := HNM.out.1
            unfold maxLen at hm
            by_cases hlt : k < n
            · have hltz : (k : Int) < (n : Int) := by omega
              have hk0 : (0 : Int) ≤ (k : Int) := by omega
              obtain ⟨ab, ao, rfl, hal, c0, c1, -⟩ := HS.out.1.at (Below.refl _ _) k hlt
              obtain ⟨ab', ao', rfl, hal', g0, g1, -⟩ := HS.out.2.at (Below.refl _ _) k hlt
              have HG2 := Lib.hid (show sameB B P B' P' (k + 1) = (B k == B' k && P k == P' k) by simp [sameB, HG.out])
              obtain ⟨f, e0⟩ : ∃ x, B k = x := ⟨_, rfl⟩
              obtain ⟨t, e1⟩ : ∃ x, P k = x := ⟨_, rfl⟩
              obtain ⟨f', e0'⟩ : ∃ x, B' k = x := ⟨_, rfl⟩
              obtain ⟨t', e1'⟩ : ∃ x, P' k = x := ⟨_, rfl⟩
              rw [e0, e1, e0', e1'] at HG2
              rw [e0] at c0
              rw [e1] at c1
              rw [e0'] at g0
              rw [e1'] at g1
              clear e0 e1 e0' e1'
              obtain ⟨x, hd⟩ : ∃ c, (f == f' && t == t') = c := ⟨_, rfl⟩
              have hnq : ∀ w, (binOp .neq 164 (.agg #[.int .i64 f, .int .i64 t]) (.agg #[.int .i64 f', .int .i64 t'])).run Try.prog w = .ok (.bool (!x)) w := fun w => by rw [neq_level, hd]
              have hgd := guard_level
              rw [hd] at HG2
              clear hd
              cases x
              · go_wp2_with fail
                go_quiet (fail)
                go_wp2_with fail
                go_ret
                exact ⟨by rw [HX.out]; simp [sameL, sameB_bad HG2.out hlt], below_drewN' HBQ.out _⟩
              · go_wp2_with fail
                go_quiet (fail)
                go_wp2_with fail
                go_roundg (n - (k + 1))
                case measure => omega
                case rel => exact ⟨k + 1, by go_num, by omega, by omega, HG2, _, rfl⟩
            · have hltz : ¬ (k : Int) < (n : Int) := by omega
              obtain rfl : k = n := by omega
              go_wp2_with fail
              go_ret
              exact ⟨by rw [HX.out]; simp [sameL, HG.out], HBQ.out⟩
        · have d4 : decide ((n : Int) = (n' : Int)) = false := decide_eq_false (by omega)
          have d4' : ((n : Int) == (n' : Int)) = false := by simp; omega
          subst h1 h2 h3
          go_enter Try.func61, Try.ntmps61
          go_wp2_with fail
          go_ret
          exact ⟨by rw [HX.out]; simp [sameL, h4], HB.out⟩
      · have d3 : decide (b = b') = false := decide_eq_false h3
        subst h1 h2
        go_enter Try.func61, Try.ntmps61
        go_wp2_with fail
        go_ret
        exact ⟨by rw [HX.out]; simp [h3], HB.out⟩
    · have d2 : decide (r = r') = false := decide_eq_false h2
      subst h1
      go_enter Try.func61, Try.ntmps61
      go_wp2_with fail
      go_ret
      exact ⟨by rw [HX.out]; simp [h2], HB.out⟩
  · have d1 : decide (c = c') = false := decide_eq_false h1
    go_enter Try.func61, Try.ntmps61
    go_wp2_with fail
    go_ret
    exact ⟨by rw [HX.out]; simp [h1], HB.out⟩
end Go.Proofs.Ytibjboacjobaoaa
