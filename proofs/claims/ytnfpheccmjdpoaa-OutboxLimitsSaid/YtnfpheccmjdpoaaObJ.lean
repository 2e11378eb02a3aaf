/- The outbox: the chapter's example. -/
import Derived.Test.YtnfpheccmjdpoaaObI
namespace Go.Proofs.Ytnfpheccmjdpoaa
open Go.RowKit
def n0 : Nt := ⟨0, 0, 0, 0, 0, 0, 1, 5, 0⟩
def n1 : Nt := ⟨1, 0, 0, 0, 1, 0, 1, 5, 0⟩
def n2 : Nt := ⟨1, 0, 0, 0, 1, 1, 1, 10, 5⟩
def n3 : Nt := ⟨1, 0, 0, 0, 3, 1, 1, 10, 5⟩
theorem n1_of : newN 0 n0 0 = n1 := rfl
theorem n2_of : tried3 n1 0 = n2 := by simp [tried3, mn, n1, n2]
theorem n2_wh4 : wh (fun x => reaN 4 x && exhN x) 0 [n2] = [] := by simp [wh, reaN, exhN, endN, n2]
theorem n2_wh5 : wh (fun x => reaN 5 x && exhN x) 0 [n2] = [0] := by simp [wh, reaN, exhN, endN, n2]
theorem n3_of : ticked [n2] [0] = [n3] := by simp [ticked, tk1, deadN, n2, n3]
theorem OnlyB.in {b B : Nat} {w w1 w2 : World} (h : OnlyB b w1 w2) (hb : Below B w w1) (hB : B ≤ b) (hs : B ≤ w1.heap.size) : Below B w w2 := hb.trans (h.toBelow hs (fun k hk => by rw [hk]; exact hB))
theorem OU.one {w : World} {base : Nat} {v : Value} {z : Int} (h : OU w base v [z]) : ∃ g c, v = .slice (some ⟨g, 0, none⟩) 1 c ∧ base ≤ g ∧ g < w.heap.size ∧ w.cell? ⟨g, 0, none⟩ = some (.int .u64 z) := by
  have hl := fun g => OU.lt h (g := g)
  obtain ⟨a, c, rfl, hc⟩ := h.cells
  obtain ⟨g, rfl, hg⟩ := hc 0 (by simp)
  exact ⟨g, c, rfl, (hl g rfl).1, (hl g rfl).2, hg⟩
theorem OU.none' {w : World} {base : Nat} {v : Value} (h : OU w base v []) : ∃ a c, v = .slice a 0 c := by
  obtain ⟨a, c, rfl, -⟩ := h.cells
  exact ⟨a, c, rfl⟩
set_option maxRecDepth 100000 in
set_option maxHeartbeats 8000000 in
theorem lives_any (w : World) : Calls Try.prog 9 #[] w fun e w' => e = .returned (.bool true) ∧ Below w.heap.size w w' := by
  go_enter Try.func9, Try.ntmps9
  go_wp2_with fail
  refine (new_box w).mono ?_
  rintro e w1 ⟨b, rfl, hb, hx, hB⟩
  have HX1 := Lib.hid hx
  have HB1 := Lib.hid hB
  have HBB := Lib.hid hb
  have HS1 : Hid (w.heap.size ≤ w1.heap.size) := Lib.hid hB.size
  clear hx hB hb
  go_wp2_with fail
  refine (put_ok b 0 [] n0 0 w1 HX1.out (by decide) (by decide) (by decide) (by decide)).mono ?_
  rintro e w2 ⟨rfl, hx, ho⟩
  have HX2 : Hid (BX w2 b 1 [n1]) := Lib.hid hx
  have HB2 := Lib.hid (ho.in HB1.out HBB.out HS1.out)
  have HS2 : Hid (w.heap.size ≤ w2.heap.size) := Lib.hid HB2.out.size
  clear hx ho HX1 HB1 HS1
  go_wp2_with fail
  refine (try_ok b 1 [n1] 1 0 w2 HX2.out 0 (by decide) (by decide) (by simp) (by decide) (by decide) (by decide) (by decide) (by decide) (by decide)).mono ?_
  rintro e w3 ⟨rfl, hx, ho⟩
  have HX3 : Hid (BX w3 b 1 [n2]) := Lib.hid (by rw [show ([n1].set 0 (tried3 [n1][0] 0)) = [tried3 n1 0] from rfl, n2_of] at hx; exact hx)
  have HB3 := Lib.hid (ho.in HB2.out HBB.out HS2.out)
  have HS3 : Hid (w.heap.size ≤ w3.heap.size) := Lib.hid HB3.out.size
  have hv : (tried3 [n1][0] 0).V = .agg #[.int .u64 1, .int .u64 0, .int .i64 0, .int .i64 0, .int .i64 1, .int .i64 1, .int .i64 1, .int .i64 10, .int .i64 5] := by rw [show ([n1][0]) = n1 from rfl, n2_of]; rfl
  rw [hv]
  clear hx ho HX2 HB2 HS2 hv
  go_wp2_with fail
  obtain ⟨B1, s0, -⟩ := box1 w3 #[.int .u64 1, .int .u64 0, .int .i64 0, .int .i64 0, .int .i64 1, .int .i64 1, .int .i64 1, .int .i64 10, .int .i64 5] 36
  obtain ⟨N, hN⟩ : ∃ N, w3.heap.size = N := ⟨_, rfl⟩
  have HX4 := Lib.hid (HX3.out.below B1)
  have HB4 := Lib.hid (HB3.out.trans (B1.mono HS3.out))
  rw [hN] at s0
  have HN4 := Lib.hid s0
  have HNB : Hid (N ≠ b) := Lib.hid (by have := HX3.out.lt; omega)
  try rw [hN]
  have HNS : Hid (w.heap.size ≤ N) := Lib.hid (by have := HS3.out; omega)
  clear B1 s0 hN HX3 HB3 HS3
  generalize w3.alloc (.cells #[.int .u64 1, .int .u64 0, .int .i64 0, .int .i64 0, .int .i64 1, .int .i64 1, .int .i64 1, .int .i64 10, .int .i64 5] 36) = w4 at HX4 HB4 HN4 ⊢
  refine (tick_box b 1 [n2] 4 w4 HX4.out [] n2_wh4).mono ?_
  rintro e w5 ⟨v, rfl, hu, hx, ho⟩
  obtain ⟨a5, c5, rfl⟩ := hu.none'
  have HX5 : Hid (BX w5 b 1 [n2]) := Lib.hid hx
  have HB5 := Lib.hid (ho.in HB4.out HBB.out HB4.out.size)
  have HN5 := Lib.hid ((ho.block N (ex_lt HN4.out) HNB.out).trans HN4.out)
  clear hu hx ho HX4 HB4 HN4
  go_wp2_with fail
  refine (tick_box b 1 [n2] 5 w5 HX5.out [0] n2_wh5).mono ?_
  rintro e w6 ⟨v, rfl, hu, hx, ho⟩
  have hu' : OU w6 w5.heap.size v [1] := by rw [show ([0] : List Int).map (idAt [n2]) = [1] from by simp [idAt, n2]] at hu; exact hu
  obtain ⟨g, c6, rfl, hg1, hg2, hg3⟩ := hu'.one
  rw [n3_of] at hx
  have HX6 : Hid (BX w6 b 1 [n3]) := Lib.hid hx
  have HB6 := Lib.hid (ho.in HB5.out HBB.out HB5.out.size)
  have HN6 := Lib.hid ((ho.block N (ex_lt HN5.out) HNB.out).trans HN5.out)
  have HG := Lib.hid hg3
  clear hu hu' hx ho HX5 HB5 HN5 hg1 hg2 hg3
  go_wp2_with fail
  refine (get_at b 1 [n3] 1 w6 HX6.out 0 (by decide) (by decide) (by simp)).mono ?_
  rintro e w7 ⟨rfl, hb⟩
  have hv : ([n3][0]).V = .agg #[.int .u64 1, .int .u64 0, .int .i64 0, .int .i64 0, .int .i64 3, .int .i64 1, .int .i64 1, .int .i64 10, .int .i64 5] := rfl
  rw [hv]
  have HB7 := Lib.hid (HB6.out.trans (hb.mono HB6.out.size))
  have HN7 := Lib.hid (ex_below HN6.out hb)
  have HG7 := Lib.hid ((hb.cell (p := ⟨g, 0, none⟩) (cell_spot HG.out).2).trans HG.out)
  clear hv hb HX6 HB6 HN6 HG
  obtain ⟨B8, s8, -⟩ := box1 w7 #[.int .u64 1, .int .u64 0, .int .i64 0, .int .i64 0, .int .i64 3, .int .i64 1, .int .i64 1, .int .i64 10, .int .i64 5] 36
  have HB8 := Lib.hid (HB7.out.trans (B8.mono HB7.out.size))
  obtain ⟨r0, r1, r2, r3, r4, r5, r6, r7, r8⟩ := nt_at0 (x := n2) (ex_below HN7.out B8)
  obtain ⟨u0, u1, u2, u3, u4, u5, u6, u7, u8⟩ := nt_at0 (x := n3) s8
  have u44 : (w7.alloc (.cells #[.int .u64 1, .int .u64 0, .int .i64 0, .int .i64 0, .int .i64 3, .int .i64 1, .int .i64 1, .int .i64 10, .int .i64 5] 36)).cell? ⟨w7.heap.size, 4, none⟩ = some (.int .i64 3) := u4
  have r88 : (w7.alloc (.cells #[.int .u64 1, .int .u64 0, .int .i64 0, .int .i64 0, .int .i64 3, .int .i64 1, .int .i64 1, .int .i64 10, .int .i64 5] 36)).cell? ⟨N, 8, none⟩ = some (.int .i64 5) := r8
  have hg8 := (B8.cell (p := ⟨g, 0, none⟩) (cell_spot HG7.out).2).trans HG7.out
  clear B8 s8 HB7 HN7 HG7 r0 r1 r2 r3 r4 r5 r6 r7 r8 u0 u1 u2 u3 u4 u5 u6 u7 u8
  go_wp2_with fail
  go_ret
  exact ⟨rfl, HB8.out⟩
end Go.Proofs.Ytnfpheccmjdpoaa
