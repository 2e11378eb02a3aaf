/- The walk of MeterPlays. -/
import Derived.Test.YtfakgemifbgafaaMtM
namespace Go.Proofs.Ytfakgemifbgafaa
open Go.RowKit

set_option maxRecDepth 100000 in
set_option maxHeartbeats 1600000 in
theorem mplays_big (n : Int) (a : Option Addr) (len cap : Nat) (w : World) (hm : len ≤ 9223372036854775807) (h : n < 1 ∨ 16 < n ∨ 200 < len) :
    Calls Try.prog 5 #[.int .i64 n, .slice a len cap] w fun e w' => e = .returned (.bool true) ∧ Below w.heap.size w w' := by
  by_cases h1 : n < 1
  · have d1 : decide (n < 1) = true := by simp [h1]
    go_enter Try.func5, Try.ntmps5
    go_wp2_with (go_at_call 21; refine (lives5 _).mono ?_; rintro e w' ⟨rfl, hl⟩)
    go_ret
    exact ⟨rfl, hl⟩
  · have d1 : decide (n < 1) = false := by simp; omega
    by_cases h2 : 16 < n
    · have d2 : decide (16 < n) = true := by simp [h2]
      go_enter Try.func5, Try.ntmps5
      go_wp2_with (go_at_call 21; refine (lives5 _).mono ?_; rintro e w' ⟨rfl, hl⟩)
      go_ret
      exact ⟨rfl, hl⟩
    · have d2 : decide (16 < n) = false := by simp; omega
      have d3 : decide (200 < (len : Int)) = true := by simp; omega
      go_enter Try.func5, Try.ntmps5
      go_wp2_with (go_at_call 21; refine (lives5 _).mono ?_; rintro e w' ⟨rfl, hl⟩)
      go_ret
      exact ⟨rfl, hl⟩

theorem both_new (N n : Nat) (w1 : World) (hn : n ≤ 16) (hQ : w1.heap.size = N + 1) (M : Met N (List.replicate n 0) w1) :
    Both N n (List.replicate n 0) (.slice (some ⟨N + 1, 0, none⟩) n n) (w1.alloc (.cells (madeCells #[.int .u64 0] n) 42)) := by
  refine ⟨by simp, M.kept (alloc_b _ _), N + 1, n, by simp, by omega, by simp [hn], fun i hi => ?_⟩
  rw [List.length_replicate] at hi
  rw [World.cell?_alloc_at _ _ _ _ hQ.symm, made_at _ _ _ hi]
  simp [hi]
theorem wds_of_oi {N : Nat} {v : Value} {vs : List Int} {w : World} {base : Nat} (h : OI .u64 42 w base v vs) (hp : 0 < vs.length) (hf : vs.length ≤ 16) (hN : N < base) : Wds N v vs w := by
  obtain ⟨g, c, rfl, hg, _, hc⟩ := h.at hp
  exact ⟨g, c, rfl, by omega, hf, hc⟩

set_option maxRecDepth 100000 in
set_option maxHeartbeats 4000000 in
theorem mplays_ok (n : Nat) (a : Option Addr) (len cap : Nat) (K I X : Nat → Int) (w : World) (hn : 1 ≤ n) (hn' : n ≤ 16) (hl : len ≤ 200)
    (hc : 0 < len → ∃ ab ao, a = some ⟨ab, ao, none⟩ ∧ ab < w.heap.size ∧ ∀ k, k < len → w.cell? ⟨ab, ao + k * 3, none⟩ = some (.int .i64 (K k)) ∧ w.cell? ⟨ab, ao + k * 3 + 1, none⟩ = some (.int .i64 (I k)) ∧ w.cell? ⟨ab, ao + k * 3 + 2, none⟩ = some (.int .u64 (X k)) ∧ 0 ≤ X k) :
    Calls Try.prog 5 #[.int .i64 (n : Int), .slice a len cap] w fun e w' => e = .returned (.bool true) ∧ Below w.heap.size w w' := by
  have d1 : decide ((n : Int) < 1) = false := by simp; omega
  have d2 : decide (16 < (n : Int)) = false := by simp; omega
  have d3 : decide (200 < (len : Int)) = false := by simp; omega
  have hmw := run_make_row' (P := Try.prog) 41 42 (.int .u64 0) 8 Try.underlying41 words_info rfl .i64 .i64 n (by omega) (by omega)
  go_enter Try.func5, Try.ntmps5
  go_wp2_with fail
  refine (new_met n w hn hn').mono ?_
  rintro e w1 ⟨rfl, B1, M1, S1⟩
  have T1 := both_new w.heap.size n w1 hn' S1 M1
  have B2 : Below w.heap.size w (w1.alloc (.cells (madeCells #[.int .u64 0] n) 42)) := B1.alloc B1.size _
  clear M1
  go_wp2_with fail
  have HS := Lib.hid S1
  clear S1 B1
  go_loopw [6, 32] (fun v i wr => ∃ k : Nat, k ≤ len ∧ i = .int .i64 k ∧ Below w.heap.size w wr ∧ ∃ vs, Both w.heap.size n vs v wr) (fun _ i _ => len - (intOf i).toNat)
  case atStart => exact ⟨0, Nat.zero_le _, rfl, B2, _, T1⟩
  case round =>
    clear T1 B2
    obtain ⟨k, hk, rfl, hB, vs, T⟩ := hrel
    by_cases hlt : k < len
    · obtain ⟨ab, ao, rfl, hab, hcs⟩ := hc (by omega)
      obtain ⟨c0, c1, c2, x0⟩ := hcs k hlt
      have c0 := (hB.cell (p := ⟨ab, ao + k * 3, none⟩) hab).trans c0
      have c1 := (hB.cell (p := ⟨ab, ao + k * 3 + 1, none⟩) hab).trans c1
      have c2 := (hB.cell (p := ⟨ab, ao + k * 3 + 2, none⟩) hab).trans c2
      obtain ⟨kk, hkk⟩ : ∃ x, K k = x := ⟨_, rfl⟩
      obtain ⟨ii, hii⟩ : ∃ x, I k = x := ⟨_, rfl⟩
      obtain ⟨xx, hxx⟩ : ∃ x, X k = x := ⟨_, rfl⟩
      rw [hkk] at c0
      rw [hii] at c1
      rw [hxx] at c2 x0
      have k0 : (0 : Int) ≤ (k : Int) := by omega
      have kl : (k : Int) < (len : Int) := by omega
      have d4 : decide ((k : Int) < (len : Int)) = true := by simp [hlt]
      clear hcs hc hkk hii hxx hab
      have T0 := T.kept (alloc_b wr (.cells #[.int .i64 kk, .int .i64 ii, .int .u64 xx] 44))
      have B0 := hB.alloc hB.size (.cells #[.int .i64 kk, .int .i64 ii, .int .u64 xx] 44)
      have hD := doing ii xx kk T0 (by omega) x0
      clear T hB
      go_wp2_with fail
      refine hD.mono ?_
      rintro e w2 ⟨v', rfl, O2, vs', T2⟩
      have B2 := below_only B0 O2 B0.size
      clear hD O2 T0 B0 c0 c1 c2
      go_wp2_with fail
      refine (all_met w.heap.size vs' w2 T2.met).mono ?_
      rintro e w3 ⟨va, rfl, B3, O3⟩
      have T3 := T2.kept B3
      have B4 := below_tr B2 B3
      have Wa := wds_of_oi O3 (by rw [T2.len]; omega) T2.met.few T2.met.lt
      obtain ⟨ga, ca, ea, -, -, hca⟩ := Wa
      obtain ⟨g, c, eg, -, -, hcg⟩ := T3.wds
      rw [T3.len] at ea eg hca hcg
      subst ea
      have HT := Lib.hid T3
      subst eg
      clear T2 T3 O3 B2 B3
      go_wp2_with fail
      go_loopw [12, 13, 56] (fun s _ i wr2 => ∃ j : Nat, j ≤ n ∧ i = .int .i64 j ∧ s = .int .u64 (usum (vs'.take j)) ∧ ∃ q, wr2 = w3.drewN q) (fun _ _ i _ => n - (intOf i).toNat)
      case atStart => exact ⟨0, Nat.zero_le _, rfl, rfl, 0, rfl⟩
      case round =>
        obtain ⟨j, hj, rfl, rfl, q, rfl⟩ := hrel
        by_cases hjn : j < n
        · have h1 := hca j hjn
          have h2 := hcg j hjn
          have hu := usum_take vs' j (by rw [HT.out.len]; exact hjn)
          obtain ⟨y, hy⟩ : ∃ y, vs'.getD j 0 = y := ⟨_, rfl⟩
          obtain ⟨s, hs⟩ : ∃ s, usum (vs'.take j) = s := ⟨_, rfl⟩
          rw [hy] at h1 h2 hu
          rw [hs] at hu ⊢
          have HU := Lib.hid hu
          have j0 : (0 : Int) ≤ (j : Int) := by omega
          have jn : (j : Int) < (n : Int) := by omega
          have d5 : decide ((j : Int) < (n : Int)) = true := by simp [hjn]
          clear hca hcg hu hy hs
          go_wp2_with fail
          go_quiet (fail)
          go_wp2_with fail
          go_roundw
          case rel => exact ⟨j + 1, by omega, by go_num, by rw [HU.out], _, rfl⟩
          case measure => simp [intOf]; omega
        · obtain rfl : j = n := by omega
          have ht : vs'.take j = vs' := List.take_of_length_le (by rw [HT.out.len]; omega)
          rw [ht]
          have hS := sum_met w.heap.size vs' _ (HT.out.met.drewN q)
          have hTq : Both w.heap.size j vs' _ (w3.drewN q) := ⟨HT.out.len, HT.out.met.drewN q, HT.out.wds⟩
          have hBq := below_drew B4 q
          have d5 : decide (((j : Nat) : Int) < (j : Int)) = false := by simp
          clear hca hcg ht
          go_wp2_with (go_at_call 25; refine hS.mono ?_; rintro e w' ⟨rfl, rfl⟩)
          go_roundw
          case rel => exact ⟨k + 1, by omega, by go_num, hBq, vs', hTq⟩
          case measure => simp [intOf]; omega
    · obtain rfl : k = len := by omega
      have hL := len_met w.heap.size _ wr T.met.n
      rw [T.len] at hL
      clear T hc hlt
      go_wp2_with (first
        | (go_at_call 26; refine hL.mono ?_; rintro e w' ⟨rfl, rfl⟩)
        | (go_at_call 21; refine (lives5 _).mono ?_; rintro e w' ⟨rfl, hl5⟩))
      go_ret
      exact ⟨rfl, below_tr hB hl5⟩
end Go.Proofs.Ytfakgemifbgafaa
