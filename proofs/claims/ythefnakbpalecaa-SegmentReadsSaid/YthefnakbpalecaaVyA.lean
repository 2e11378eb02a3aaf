/- The vow: the line of a state. -/
import Derived.Test.YthefnakbpalecaaNbY
import Derived.Test.YthefnakbpalecaaNbA
import Derived.Test.YthefnakbpalecaaMaK
import Derived.Test.YthefnakbpalecaaMaI
import Derived.Deep.DeepCutAuto
namespace Go.Proofs.Ythefnakbpalecaa
open Go.RowKit
/-- A state's line: t the term, u the vote plus one. -/
def lineB (t u : Nat) : List Nat := frm 3 (num 0 t ++ num 0 u)
theorem body_len (t u : Nat) (ht : t < 18446744073709551616) (hu : u < 18446744073709551616) : (num 0 t ++ num 0 u).length ≤ 18 := by
  have h1 := num_len9 0 t ht
  have h2 := num_len9 0 u hu
  rw [List.length_append]; omega
theorem body_lt (t u : Nat) (ht : t < 18446744073709551616) (hu : u < 18446744073709551616) : ∀ c ∈ num 0 t ++ num 0 u, c < 256 := by
  intro c hc
  rcases List.mem_append.1 hc with h | h
  · exact num_lt' 0 t (by omega) ht c h
  · exact num_lt' 0 u (by omega) hu c h
theorem lineB_lt (t u : Nat) (ht : t < 18446744073709551616) (hu : u < 18446744073709551616) : ∀ c ∈ lineB t u, c < 256 :=
  frm_lt 3 _ (by omega) (by have := body_len t u ht hu; omega) (body_lt t u ht hu)
theorem lineB_len (t u : Nat) (ht : t < 18446744073709551616) (hu : u < 18446744073709551616) : (lineB t u).length ≤ 26 := by
  unfold lineB; rw [frm_len]; have := body_len t u ht hu; omega
set_option maxRecDepth 100000 in
theorem vline_any (t u : Nat) (v : Int) (w : World) (ht : t ≤ 1152921504606846976) (hu : u ≤ 7) (hv : v + 1 = (u : Int)) :
    Calls Try.prog 88 #[.agg #[.int .u64 (t : Int), .int .i64 v]] w (Owned w (lineB t u)) := by
  obtain ⟨B1, s0, -⟩ := box1 w #[.int .u64 (t : Int), .int .i64 v] 48
  have HB := Lib.hid B1
  have HS0 := Lib.hid s0
  have HVV := Lib.hid hv
  clear B1 s0 hv
  go_enter Try.func88, Try.ntmps88
  go_upto_region 1 with fail
  obtain ⟨N, hN⟩ : ∃ N, w.heap.size = N := ⟨_, rfl⟩
  have HN := Lib.hid hN
  rw [hN] at HS0
  try rw [hN]
  clear hN
  generalize w.alloc (.cells #[.int .u64 (t : Int), .int .i64 v] 48) = W1 at HB HS0 ⊢
  obtain ⟨g, hg⟩ : ∃ g, W1.heap.size = g := ⟨_, rfl⟩
  obtain ⟨B2, s2, z2⟩ := box1 W1 #[.slice none 0 0] 104
  rw [hg] at s2 z2
  have HGE : Hid (w.heap.size ≤ g) := Lib.hid (by rw [← hg]; exact HB.out.size)
  have HWR : Hid (WR (W1.alloc (.cells #[.slice none 0 0] 104)) g (g + 1) (.slice none 0 0) []) := Lib.hid ⟨s2, Nat.lt_succ_self g, by omega, World.ownsRow_nil _ _ _ _, by simp⟩
  have HB2 := Lib.hid (HB.out.trans (B2.mono HB.out.size))
  have HS2 := Lib.hid (ex_below HS0.out B2)
  clear B2 s2 z2
  go_upto_region 2 with fail
  try rw [hg]
  generalize W1.alloc (.cells #[.slice none 0 0] 104) = W2 at HWR HB2 HS2 ⊢
  obtain ⟨c0, c1⟩ := two_at HS2.out
  have k1 : IntKind.u64.wrap ((u : Nat) : Int) = ((u : Nat) : Int) := IntWalk.u64_in _ (by omega)
  have k2 : wrap64 (v + 1) = ((u : Nat) : Int) := by rw [HVV.out]; exact IntWalk.wrap64_in _ (by omega)
  have k3 : IntKind.i64.wrap (v + 1) = ((u : Nat) : Int) := by rw [HVV.out]; exact IntWalk.i64_in _ (by omega)
  have HNT := Lib.hid (num_two g (g + 1) _ t u [] W2 HWR.out (Nat.zero_le _) (by omega) (by omega))
  go_wp2_with fail
  refine HNT.out.mono ?_
  rintro e W3 ⟨rfl, v3, hw3, ht3, hm3⟩
  have HB3 := Lib.hid (Turn.outside ht3 HB2.out HB2.out.size HGE.out (by simp [Value.ownBlock]))
  have hby := bytes_wr g (g + 1) v3 _ W3 hw3 (by have := body_len t u (by omega) (by omega); simp only [List.nil_append]; omega)
  clear hw3 ht3 hm3 c0 c1 k1 k2 k3 HNT
  go_wp2_with fail
  refine hby.mono ?_
  rintro e W4 ⟨v4, rfl, ho4, hb4⟩
  have HB4 := Lib.hid (HB3.out.trans (hb4.mono HB3.out.size))
  rw [List.nil_append] at ho4
  have hr4 := ho4.rb (body_lt t u (by omega) (by omega)) (by have := body_len t u (by omega) (by omega); omega)
  have HWP := Lib.hid (wrap_ok 3 v4 _ W4 hr4 (by omega) (by omega) (by have := body_len t u (by omega) (by omega); omega))
  clear ho4 hb4 hby hr4
  go_wp2_with fail
  refine HWP.out.mono ?_
  rintro e W5 ⟨v5, rfl, ho5, hb5⟩
  have HB5 := Lib.hid (HB4.out.trans (hb5.mono HB4.out.size))
  have HO5 := Lib.hid (ho5.mono HB4.out.size)
  clear ho5 hb5
  go_wp2_with fail
  go_ret
  exact ⟨_, rfl, HO5.out, HB5.out⟩
end Go.Proofs.Ythefnakbpalecaa
