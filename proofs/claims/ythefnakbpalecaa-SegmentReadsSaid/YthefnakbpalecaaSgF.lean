/- Segments: Head and Line. -/
import Derived.Test.YthefnakbpalecaaVyA
import Derived.Test.YthefnakbpalecaaSgB
import Derived.Deep.DeepCutAuto
namespace Go.Proofs.Ythefnakbpalecaa
open Go.RowKit
/-- A segment's head. -/
def headB (f : Nat) : List Nat := frm 1 (num 0 f)
theorem headB_len (f : Nat) (hf : f < 18446744073709551616) : (headB f).length ≤ 17 := by unfold headB; rw [frm_len]; have := num_len9 0 f hf; omega
theorem headB_lt (f : Nat) (hf : f < 18446744073709551616) : ∀ c ∈ headB f, c < 256 := frm_lt 1 _ (by omega) (by have := num_len9 0 f hf; omega) (num_lt' 0 f (by omega) hf)
/-- What a line's frame holds. -/
def bodyS (idx t k : Nat) (d : List Nat) : List Nat := (num 0 idx ++ (num 0 t ++ num 0 k)) ++ (num 0 d.length ++ d)
def slineB (idx t k : Nat) (d : List Nat) : List Nat := frm 2 (bodyS idx t k d)
theorem bodyS_len (idx t k : Nat) (d : List Nat) (h1 : idx < 18446744073709551616) (h2 : t < 18446744073709551616) (h3 : k < 18446744073709551616) (h4 : d.length ≤ 4096) : (bodyS idx t k d).length ≤ d.length + 36 := by
  have e1 := num_len9 0 idx h1
  have e2 := num_len9 0 t h2
  have e3 := num_len9 0 k h3
  have e4 := num_len9 0 d.length (by omega)
  unfold bodyS
  simp only [List.length_append]; omega
theorem bodyS_lt (idx t k : Nat) (d : List Nat) (h1 : idx < 18446744073709551616) (h2 : t < 18446744073709551616) (h3 : k < 18446744073709551616) (h4 : d.length ≤ 4096) (h5 : ∀ c ∈ d, c < 256) : ∀ c ∈ bodyS idx t k d, c < 256 := by
  intro c hc
  unfold bodyS at hc
  simp only [List.mem_append] at hc
  rcases hc with (h | h | h) | h | h
  · exact num_lt' 0 idx (by omega) h1 c h
  · exact num_lt' 0 t (by omega) h2 c h
  · exact num_lt' 0 k (by omega) h3 c h
  · exact num_lt' 0 d.length (by omega) (by omega) c h
  · exact h5 c h
theorem slineB_len (idx t k : Nat) (d : List Nat) (h1 : idx < 18446744073709551616) (h2 : t < 18446744073709551616) (h3 : k < 18446744073709551616) (h4 : d.length ≤ 4096) : (slineB idx t k d).length ≤ 4140 := by unfold slineB; rw [frm_len]; have := bodyS_len idx t k d h1 h2 h3 h4; omega
theorem slineB_lt (idx t k : Nat) (d : List Nat) (h1 : idx < 18446744073709551616) (h2 : t < 18446744073709551616) (h3 : k < 18446744073709551616) (h4 : d.length ≤ 4096) (h5 : ∀ c ∈ d, c < 256) : ∀ c ∈ slineB idx t k d, c < 256 :=
  frm_lt 2 _ (by omega) (by have := bodyS_len idx t k d h1 h2 h3 h4; omega) (bodyS_lt idx t k d h1 h2 h3 h4 h5)
set_option maxRecDepth 100000 in
theorem shead_any (f : Nat) (w : World) (hf : f < 18446744073709551616) : Calls Try.prog 18 #[.int .u64 (f : Int)] w (Owned w (headB f)) := by
  obtain ⟨g, hg⟩ : ∃ g, w.heap.size = g := ⟨_, rfl⟩
  obtain ⟨B2, s2, z2⟩ := box1 w #[.slice none 0 0] 104
  rw [hg] at s2 z2
  have HWR : Hid (WR (w.alloc (.cells #[.slice none 0 0] 104)) g (g + 1) (.slice none 0 0) []) := Lib.hid ⟨s2, Nat.lt_succ_self g, by omega, World.ownsRow_nil _ _ _ _, by simp⟩
  have HB2 := Lib.hid B2
  have HGE : Hid (w.heap.size ≤ g) := Lib.hid (by omega)
  clear B2 s2 z2
  go_enter Try.func18, Try.ntmps18
  go_upto_region 2 with fail
  try rw [hg]
  generalize w.alloc (.cells #[.slice none 0 0] 104) = W2 at HWR HB2 ⊢
  have HNT := Lib.hid (num_one g (g + 1) _ f [] W2 HWR.out (Nat.zero_le _) hf)
  go_wp2_with fail
  refine HNT.out.mono ?_
  rintro e W3 ⟨rfl, v3, hw3, ht3, hm3⟩
  have HB3 := Lib.hid (Turn.outside ht3 HB2.out HB2.out.size HGE.out (by simp [Value.ownBlock]))
  have hby := bytes_wr g (g + 1) v3 _ W3 hw3 (by have := num_len9 0 f hf; simp only [List.nil_append]; omega)
  clear hw3 ht3 hm3 HNT
  go_wp2_with fail
  refine hby.mono ?_
  rintro e W4 ⟨v4, rfl, ho4, hb4⟩
  have HB4 := Lib.hid (HB3.out.trans (hb4.mono HB3.out.size))
  rw [List.nil_append] at ho4
  have hr4 := ho4.rb (num_lt' 0 f (by omega) hf) (by have := num_len9 0 f hf; omega)
  have HWP := Lib.hid (wrap_ok 1 v4 _ W4 hr4 (by omega) (by omega) (by have := num_len9 0 f hf; omega))
  clear ho4 hb4 hby hr4
  go_wp2_with fail
  refine HWP.out.mono ?_
  rintro e W5 ⟨v5, rfl, ho5, hb5⟩
  have HB5 := Lib.hid (HB4.out.trans (hb5.mono HB4.out.size))
  have HO5 := Lib.hid (ho5.mono HB4.out.size)
  clear ho5 hb5
  go_wp2_with fail
  go_ret
  exact ⟨_, rfl, HO5.out, HB5.out⟩
set_option maxRecDepth 100000 in
theorem sline_any (idx t : Nat) (k : Int) (v : Value) (d : List Nat) (w : World) (hi : idx < 18446744073709551616) (ht : t < 18446744073709551616) (hd : RB w v d) :
    Calls Try.prog 20 #[.int .u64 (idx : Int), .agg #[.int .u64 (t : Int), .int .i64 k, v]] w (fun e w' => Below w.heap.size w w' ∧ ∃ v', (sdE t k d.length = true ∧ e = .returned (.tuple #[v', .int .i64 0]) ∧ OB w' w.heap.size v' (slineB idx t k.toNat d)) ∨ (sdE t k d.length = false ∧ e = .returned (.tuple #[.slice none 0 0, .int .i64 2]))) := by
  obtain ⟨a0, cap0, rfl, _, _⟩ := hd.shape
  obtain ⟨n, hn⟩ : ∃ n, d.length = n := ⟨_, rfl⟩
  have HD := Lib.hid hd
  have HN := Lib.hid hn
  rw [hn] at HD ⊢
  obtain ⟨B1, s0, -⟩ := box1 w #[.int .u64 (t : Int), .int .i64 k, .slice a0 n cap0] 31
  have HB := Lib.hid B1
  have HS0 := Lib.hid s0
  have HD1 := Lib.hid (HD.out.kept B1)
  clear B1 s0 hd hn
  go_enter Try.func20, Try.ntmps20
  go_upto_region 1 with fail
  obtain ⟨N, hN⟩ : ∃ N, w.heap.size = N := ⟨_, rfl⟩
  have HNN := Lib.hid hN
  rw [hN] at HS0
  try rw [hN]
  clear hN
  generalize w.alloc (.cells #[.int .u64 (t : Int), .int .i64 k, .slice a0 n cap0] 31) = W1 at HB HS0 HD1 ⊢
  obtain ⟨c0, c1, c2⟩ := three_rd HS0.out
  obtain ⟨z, hz⟩ : ∃ z, sdE t k n = z := ⟨_, rfl⟩
  have HZ := Lib.hid hz
  have HSD := Lib.hid (ssound_any t k a0 n cap0 W1)
  rw [hz] at HSD
  clear hz
  cases z with
  | false =>
    go_wp2_with fail
    refine HSD.out.mono ?_
    rintro e w2 ⟨rfl, hb2⟩
    have HB2 := Lib.hid (HB.out.trans (hb2.mono HB.out.size))
    clear hb2 c0 c1 c2
    go_wp2_with fail
    exact bodyPost_ret (v := .tuple #[.slice none 0 0, .int .i64 2]) (by simp [results, Try.results20, go_sem]) rfl ⟨HB2.out, .slice none 0 0, .inr ⟨HZ.out, rfl⟩⟩
  | true =>
    have hzz := HZ.out
    unfold sdE at hzz
    simp only [Bool.and_eq_true, decide_eq_true_eq] at hzz
    obtain ⟨q1, q2, q3, q4, q5⟩ := hzz
    obtain ⟨u, hu⟩ : ∃ u : Nat, k.toNat = u := ⟨_, rfl⟩
    have hk : k = (u : Int) := by omega
    subst hk
    have HQ : Hid (t ≤ 1152921504606846976 ∧ u ≤ 3 ∧ n ≤ 4096) := Lib.hid ⟨q2, by omega, q5⟩
    clear hu q1 q2 q3 q4 q5
    go_wp2_with fail
    refine HSD.out.mono ?_
    rintro e w2 ⟨rfl, hb2⟩
    have HB2 := Lib.hid (HB.out.trans (hb2.mono HB.out.size))
    have HS2 := Lib.hid (ex_below HS0.out hb2)
    have HD2 := Lib.hid (HD1.out.kept hb2)
    clear hb2 c0 c1 c2 HSD
    go_upto_region 3 with fail
    obtain ⟨g, hg⟩ : ∃ g, w2.heap.size = g := ⟨_, rfl⟩
    obtain ⟨B3, s3, z3⟩ := box1 w2 #[.slice none 0 0] 104
    rw [hg] at s3 z3
    have HGE : Hid (w.heap.size ≤ g) := Lib.hid (by rw [← hg]; exact HB2.out.size)
    have HWR : Hid (WR (w2.alloc (.cells #[.slice none 0 0] 104)) g (g + 1) (.slice none 0 0) []) := Lib.hid ⟨s3, Nat.lt_succ_self g, by omega, World.ownsRow_nil _ _ _ _, by simp⟩
    have HB3 := Lib.hid (HB2.out.trans (B3.mono HB2.out.size))
    have HB23 := Lib.hid B3
    have HG2 := Lib.hid hg
    have HS3 := Lib.hid (ex_below HS2.out B3)
    have HD3 := Lib.hid (HD2.out.kept B3)
    have HNG : Hid (N < g) := Lib.hid (by rw [← hg]; exact ex_lt HS2.out)
    have HDG : Hid (∀ q, a0 = some q → 0 < n → q.block < g) := Lib.hid (by
      intro q hq h0
      rw [← hg]
      obtain ⟨-, -, h3⟩ := HD2.out
      rcases h3 with ⟨h3, h4⟩ | ⟨x, cap', he, -, -, hcc⟩
      · rw [hq] at h3; cases h3
      · injection he with e1 e2 e3
        rw [hq] at e1
        injection e1 with e1
        subst e1
        exact (cell_spot (hcc 0 (by have := HN.out; omega))).2)
    clear B3 s3 z3
    go_upto_region 4 with fail
    try rw [hg]
    generalize w2.alloc (.cells #[.slice none 0 0] 104) = W3 at HWR HB3 HB23 HS3 HD3 ⊢
    obtain ⟨c0, c1, c2⟩ := three_rd HS3.out
    have k1 : IntKind.u64.wrap ((u : Nat) : Int) = ((u : Nat) : Int) := IntWalk.u64_in _ (by have := HQ.out; omega)
    have HNT := Lib.hid (num_three g (g + 1) _ idx t u [] W3 HWR.out (Nat.zero_le _) hi ht (by have := HQ.out; omega))
    go_wp2_with fail
    refine HNT.out.mono ?_
    rintro e W4 ⟨rfl, v4, hw4, ht4, hm4⟩
    have HB24 := Lib.hid (Turn.outside ht4 HB23.out HB23.out.size (by have := HG2.out; omega) (by simp [Value.ownBlock]))
    have HD4 := Lib.hid (HD2.out.kept HB24.out)
    have HS4 := Lib.hid (ex_below HS2.out HB24.out)
    have HW4 := Lib.hid hw4
    rw [List.nil_append] at HW4
    have hq := HQ.out
    have hn2 := HN.out
    have hb9 : (num 0 idx ++ (num 0 t ++ num 0 u)).length ≤ 27 := by
      have e1 := num_len9 0 idx hi
      have e2 := num_len9 0 t ht
      have e3 := num_len9 0 u (by omega)
      simp only [List.length_append]; omega
    have HTX := Lib.hid (text_wr g (g + 1) v4 (str d) _ W4 HW4.out (by omega) (by rw [str_sz]; omega))
    rw [str_sz, sB_str d HD4.out.1] at HTX
    have es := rb_string (P := Try.prog) HD4.out 28 9 5 Try.underlying28 Try.underlying5 Try.underlying9
    have HBL := Lib.hid (bodyS_len idx t u d hi ht (by omega) (by omega))
    have HBT := Lib.hid (bodyS_lt idx t u d hi ht (by omega) (by omega) HD4.out.1)
    clear hw4 ht4 hm4 c0 c1 c2 k1 HNT hq hn2 hb9
    obtain ⟨c0, c1, c2⟩ := three_rd HS4.out
    go_wp2_with fail
    refine HTX.out.mono ?_
    rintro e W5 ⟨rfl, v5, hw5, ht5, hm5⟩
    have HB25 := Lib.hid (Turn.outside ht5 HB24.out HB24.out.size (by have := HG2.out; omega) (fun k hk => by have := HW4.out.base_le k hk; have := HG2.out; omega))
    have HB5 := Lib.hid (HB2.out.trans (HB25.out.mono HB2.out.size))
    have HBY := Lib.hid (bytes_wr g (g + 1) v5 (bodyS idx t u d) W5 (show WR W5 g (g + 1) v5 (bodyS idx t u d) from hw5) (by have := HBL.out; have := HQ.out; have := HN.out; omega))
    clear hw5 ht5 hm5 c0 c1 c2 es HTX HW4
    go_wp2_with fail
    refine HBY.out.mono ?_
    rintro e W6 ⟨v6, rfl, ho6, hb6⟩
    have HB6 := Lib.hid (HB5.out.trans (hb6.mono HB5.out.size))
    have hr6 := ho6.rb HBT.out (by have := HBL.out; have := HQ.out; have := HN.out; omega)
    have HWP := Lib.hid (wrap_ok 2 v6 _ W6 hr6 (by omega) (by omega) (by have := HBL.out; have := HQ.out; have := HN.out; omega))
    clear ho6 hb6 hr6 HBY
    go_wp2_with fail
    refine HWP.out.mono ?_
    rintro e W7 ⟨v7, rfl, ho7, hb7⟩
    have HB7 := Lib.hid (HB6.out.trans (hb7.mono HB6.out.size))
    have HO7 := Lib.hid (ho7.mono HB6.out.size)
    clear ho7 hb7
    go_wp2_with fail
    exact bodyPost_ret (v := .tuple #[v7, .int .i64 0]) (by simp [results, Try.results20, go_sem]) rfl ⟨HB7.out, v7, .inl ⟨HZ.out, rfl, by rw [Int.toNat_natCast]; exact HO7.out⟩⟩
end Go.Proofs.Ythefnakbpalecaa
