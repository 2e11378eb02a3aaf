/- The reference's count and Elapsed. -/
import Derived.Test.YtfeegohjgecjgaaCaU
import Derived.Deep.RegionHeld3
namespace Go.Proofs.Ytfeegohjgecjgaa
open Go.RowKit
theorem Cal.V_bounds {D : Cal} (hd : D.ok) (t : Int) : 0 ≤ D.V t ∧ D.V t ≤ 2251800000604800 := by
  obtain ⟨_, _, h1, h2⟩ := until_bounds hd.wk (t - D.off + 604800)
  exact ⟨h1, h2⟩
theorem Cal.sv_bounds {D : Cal} (hd : D.ok) : ∀ l : List (Int × Int), (∀ s ∈ l, 0 ≤ s.1 ∧ s.1 < s.2 ∧ s.2 ≤ 1125899906842624) → 0 ≤ D.sv l ∧ D.sv l ≤ l.length * 2251800000604800 := by
  intro l
  induction l with
  | nil => intro _; exact ⟨Int.le_refl 0, by show (0 : Int) ≤ _; simp⟩
  | cons s l ih =>
    intro h
    obtain ⟨h1, h2⟩ := ih (fun r hr => h r (List.mem_cons_of_mem _ hr))
    obtain ⟨h3, h4, h5⟩ := h s (List.mem_cons_self ..)
    have h6 := D.V_mono hd h3 (by omega : s.1 ≤ s.2) h5
    have h7 := (D.V_bounds hd s.1).1
    have h8 := (D.V_bounds hd s.2).2
    rw [D.sv_cons, List.length_cons]
    omega

set_option maxRecDepth 100000 in
set_option maxHeartbeats 8000000 in
theorem rcount {D : Cal} (hd : D.ok) (a : Option Addr) (ca : Nat) (b : Option Addr) (cb : Nat) (x y : Int) (w : World) (hS : Sps w a D.n D.F D.T) (hR : Sps w b D.m D.G D.U) (x0 : 0 ≤ x) (hxy : x ≤ y) (y1 : y ≤ 1125899906842624) :
    Calls Try.prog 65 #[calV D.off a D.n ca b D.m cb, .int .i64 x, .int .i64 y] w fun e w' => e = .returned (.int .i64 (D.g y - D.g x)) ∧ Below w.heap.size w w' := by
  have B1 : Below w.heap.size w (w.alloc (.cells #[.int .i64 D.off, .slice a D.n ca, .slice b D.m cb] 53)) := (Below.refl _ _).alloc (Nat.le_refl _) _
  have c0 : (w.alloc (.cells #[.int .i64 D.off, .slice a D.n ca, .slice b D.m cb] 53)).cell? ⟨w.heap.size, 0, none⟩ = some (.int .i64 D.off) := by simp
  have c1 : (w.alloc (.cells #[.int .i64 D.off, .slice a D.n ca, .slice b D.m cb] 53)).cell? ⟨w.heap.size, 1, none⟩ = some (.slice a D.n ca) := by simp
  have c2 : (w.alloc (.cells #[.int .i64 D.off, .slice a D.n ca, .slice b D.m cb] 53)).cell? ⟨w.heap.size, 2, none⟩ = some (.slice b D.m cb) := by simp
  have hlt : w.heap.size < (w.alloc (.cells #[.int .i64 D.off, .slice a D.n ca, .slice b D.m cb] 53)).heap.size := by simp
  have HB1 := Lib.hid B1
  have HWK := Lib.hid (fun (u v : Int) (u0 : 0 ≤ u) (uv : u ≤ v) (v1 : v ≤ 1125899906842624) W (hb : Below w.heap.size w W) => rweekly hd a ca b cb u v W (hS.kept hb) u0 uv v1)
  have HCU := Lib.hid (fun W (hb : Below w.heap.size w W) => rcut_any b D.m cb D.G D.U x y W (hR.kept hb) hd.len hd.good)
  have hlen := cutL_len D.G D.U x y D.m
  have hml := hd.len
  have hri := cutL_right x y hd.good D.m (Nat.le_refl _)
  have HEQ := Lib.hid (D.count_cut hd x0 hxy y1)
  have HSV := Lib.hid (D.sv_bounds hd)
  have HVB := Lib.hid (D.V_bounds hd)
  have hmo := D.V_mono hd x0 hxy y1
  have hv0 := (D.V_bounds hd x).1
  have hv1 := (D.V_bounds hd y).2
  have hwk := HWK.out x y x0 hxy y1 _ B1
  obtain ⟨l, hl⟩ : ∃ l, cutL D.G D.U x y D.m = l := ⟨_, rfl⟩
  obtain ⟨n0, hn0⟩ : ∃ r, D.V y - D.V x = r := ⟨_, rfl⟩
  obtain ⟨z, hz⟩ : ∃ r, D.g y - D.g x = r := ⟨_, rfl⟩
  obtain ⟨off, ho⟩ : ∃ o, D.off = o := ⟨_, rfl⟩
  rw [hl] at HCU hlen HEQ hri
  rw [hn0] at hwk HEQ
  rw [hz] at HEQ ⊢
  have n00 : 0 ≤ n0 := by omega
  have n01 : n0 ≤ 2251800000604800 := by omega
  rw [ho] at HB1 c0 c1 c2 hlt hwk HWK ⊢
  have HC := Lib.hid (And.intro c0 (And.intro c1 (And.intro c2 hlt)))
  have HRI := Lib.hid hri
  have HD := Lib.hid hd
  unfold calV at *
  clear hd hS hR B1 hlt hl hz ho hn0 hmo hv0 hv1 hri
  go_enter Try.func65, Try.ntmps65
  go_wp2_with fail
  refine hwk.mono ?_
  rintro e w2 ⟨rfl, hb2⟩
  have HB2 := Lib.hid (HB1.out.trans (hb2.mono HB1.out.size))
  have c0' := (hb2.cell (p := ⟨w.heap.size, 0, none⟩) HC.out.2.2.2).trans HC.out.1
  have c1' := (hb2.cell (p := ⟨w.heap.size, 1, none⟩) HC.out.2.2.2).trans HC.out.2.1
  have c2' := (hb2.cell (p := ⟨w.heap.size, 2, none⟩) HC.out.2.2.2).trans HC.out.2.2.1
  have HC2 := Lib.hid (And.intro c0' (And.intro c1' (And.intro c2' (Nat.lt_of_lt_of_le HC.out.2.2.2 hb2.size))))
  have hcut := HCU.out w2 HB2.out
  clear hwk hb2 c0 c1 c2
  go_wp2_with fail
  refine hcut.mono ?_
  rintro e w3 ⟨v, rfl, hO, hb3⟩
  obtain ⟨va, vc, rfl, _, _⟩ := hO.shape
  have HB3 := Lib.hid (HB2.out.trans (hb3.mono HB2.out.size))
  have c0 := (hb3.cell (p := ⟨w.heap.size, 0, none⟩) HC2.out.2.2.2).trans HC2.out.1
  have c1 := (hb3.cell (p := ⟨w.heap.size, 1, none⟩) HC2.out.2.2.2).trans HC2.out.2.1
  have c2 := (hb3.cell (p := ⟨w.heap.size, 2, none⟩) HC2.out.2.2.2).trans HC2.out.2.2.1
  have HC3 := Lib.hid (And.intro c0 (And.intro c1 (And.intro c2 (Nat.lt_of_lt_of_le HC2.out.2.2.2 hb3.size))))
  obtain ⟨L, hL⟩ : ∃ L, l.length = L := ⟨_, rfl⟩
  have HS := Lib.hid (hO.sps (by intro s hs; have := HRI.out s hs; omega)).2
  rw [hL] at HS hlen ⊢
  have HL := Lib.hid hL
  clear hcut hO hb3 hL c0' c1' c2' c0 c1 c2
  go_wp2_with fail
  go_loopw [7, 9] (fun s i wr => ∃ q : Nat, q ≤ L ∧ i = .int .i64 q ∧ s = .int .i64 (n0 - D.sv (l.take q)) ∧ Below w3.heap.size w3 wr) (fun _ i _ => L - (intOf i).toNat)
  case atStart => exact ⟨0, Nat.zero_le _, rfl, ret_i64 (by show n0 = n0 - (0 : Int); omega), Below.refl _ _⟩
  case round =>
    obtain ⟨q, hq, rfl, rfl, hB⟩ := hrel
    have HB := Lib.hid (HB3.out.trans (hB.mono HB3.out.size))
    have HBB := Lib.hid hB
    by_cases hlt : q < L
    · obtain ⟨ab, ao, rfl, hab, c0, c1, b0, b1, b2, b3⟩ := HS.out.at hB q hlt
      have k0 := (hB.cell (p := ⟨w.heap.size, 0, none⟩) HC3.out.2.2.2).trans HC3.out.1
      have k1 := (hB.cell (p := ⟨w.heap.size, 1, none⟩) HC3.out.2.2.2).trans HC3.out.2.1
      have k2 := (hB.cell (p := ⟨w.heap.size, 2, none⟩) HC3.out.2.2.2).trans HC3.out.2.2.1
      have hlq : q < l.length := by rw [HL.out]; exact hlt
      have hget : l[q]? = some (fr l q, til l q) := by
        rw [List.getElem?_eq_getElem hlq]
        simp [fr, til, hlq]
      have hmem : (fr l q, til l q) ∈ l := List.mem_of_getElem? hget
      obtain ⟨m0, m1, m2⟩ := HRI.out _ hmem
      have hsn := D.sv_snoc l q _ hget
      obtain ⟨a0, a1⟩ := HSV.out (l.take q) (fun s hs => HRI.out s (List.mem_of_mem_take hs))
      have hln : (l.take q).length ≤ 32 := by rw [List.length_take]; omega
      obtain ⟨f, hf⟩ : ∃ f, fr l q = f := ⟨_, rfl⟩
      obtain ⟨u, hu⟩ : ∃ f, til l q = f := ⟨_, rfl⟩
      obtain ⟨acc, hacc⟩ : ∃ r, D.sv (l.take q) = r := ⟨_, rfl⟩
      rw [hf] at c0 b0 b1 hsn m0 m1
      rw [hu] at c1 b2 b3 hsn m1 m2
      rw [hacc] at hsn a0 a1 ⊢
      simp only at hsn m0 m1 m2
      have v0 := (HVB.out f).1
      have v1 := (HVB.out u).2
      have v2 := D.V_mono HD.out m0 (by omega : f ≤ u) m2
      obtain ⟨d, hdv⟩ : ∃ d, D.V u - D.V f = d := ⟨_, rfl⟩
      rw [hdv] at hsn
      have e1 : IntKind.i64.wrap (n0 - acc - d) = n0 - acc - d := IntWalk.i64_in _ (by omega)
      have HN := Lib.hid (show n0 - acc - d = n0 - D.sv (l.take (q + 1)) by rw [hsn]; omega)
      have q0 : (0 : Int) ≤ (q : Int) := by omega
      have ql : (q : Int) < (L : Int) := by omega
      have qd : decide ((q : Int) < (L : Int)) = true := decide_eq_true ql
      have h0 : wr.drew.cell? ⟨w.heap.size, 0, none⟩ = some (.int .i64 off) ∧ wr.drew.cell? ⟨w.heap.size, 1, none⟩ = some (.slice a D.n ca) ∧ wr.drew.cell? ⟨w.heap.size, 2, none⟩ = some (.slice b D.m cb) ∧ wr.drew.cell? ⟨ab, ao + q * 2, none⟩ = some (.int .i64 f) ∧ wr.drew.cell? ⟨ab, ao + q * 2 + 1, none⟩ = some (.int .i64 u) ∧ Below wr.heap.size wr wr.drew := ⟨k0, k1, k2, c0, c1, (Below.refl _ _).drew⟩
      have hWK : Hid (∀ w', (w'.cell? ⟨w.heap.size, 0, none⟩ = some (.int .i64 off) ∧ w'.cell? ⟨w.heap.size, 1, none⟩ = some (.slice a D.n ca) ∧ w'.cell? ⟨w.heap.size, 2, none⟩ = some (.slice b D.m cb) ∧ w'.cell? ⟨ab, ao + q * 2, none⟩ = some (.int .i64 f) ∧ w'.cell? ⟨ab, ao + q * 2 + 1, none⟩ = some (.int .i64 u) ∧ Below wr.heap.size wr w') →
          Calls Try.prog 83 #[.agg #[.int .i64 off, .slice a D.n ca, .slice b D.m cb], .int .i64 f, .int .i64 u] w' fun e w'' => e = .returned (.int .i64 d) ∧ (w''.cell? ⟨w.heap.size, 0, none⟩ = some (.int .i64 off) ∧ w''.cell? ⟨w.heap.size, 1, none⟩ = some (.slice a D.n ca) ∧ w''.cell? ⟨w.heap.size, 2, none⟩ = some (.slice b D.m cb) ∧ w''.cell? ⟨ab, ao + q * 2, none⟩ = some (.int .i64 f) ∧ w''.cell? ⟨ab, ao + q * 2 + 1, none⟩ = some (.int .i64 u) ∧ Below wr.heap.size wr w'')) := Lib.hid (by
        rintro w' ⟨g0, g1, g2, g3, g4, g5⟩
        have h := HWK.out f u m0 (by omega) m2 w' (HB.out.trans (g5.mono HB.out.size))
        rw [hdv] at h
        refine h.mono ?_
        rintro e w'' ⟨rfl, hb⟩
        exact ⟨rfl, (hb.cell (p := ⟨w.heap.size, 0, none⟩) (cell_spot g0).2).trans g0, (hb.cell (p := ⟨w.heap.size, 1, none⟩) (cell_spot g1).2).trans g1, (hb.cell (p := ⟨w.heap.size, 2, none⟩) (cell_spot g2).2).trans g2,
          (hb.cell (p := ⟨ab, ao + q * 2, none⟩) (cell_spot g3).2).trans g3, (hb.cell (p := ⟨ab, ao + q * 2 + 1, none⟩) (cell_spot g4).2).trans g4, g5.trans (hb.mono g5.size)⟩)
      have HBF := Lib.hid (fun W (h : Below wr.heap.size wr W) => hB.trans (h.mono hB.size))
      clear hf hu hacc hsn hget hmem a0 a1 hln v0 v1 v2 hdv hB m0 m1 m2 hlq HBB
      go_wp2_with fail
      clear k0 k1 k2 c0 c1
      go_region_held3 (fun w' => w'.cell? ⟨w.heap.size, 0, none⟩ = some (.int .i64 off) ∧ w'.cell? ⟨w.heap.size, 1, none⟩ = some (.slice a D.n ca) ∧ w'.cell? ⟨w.heap.size, 2, none⟩ = some (.slice b D.m cb) ∧ w'.cell? ⟨ab, ao + q * 2, none⟩ = some (.int .i64 f) ∧ w'.cell? ⟨ab, ao + q * 2 + 1, none⟩ = some (.int .i64 u) ∧ Below wr.heap.size wr w')
        (first | exact h0 | assumption)
        (first
          | (go_at_call 83; refine (hWK.out _ (by assumption)).mono ?_; rintro e w8 ⟨rfl, hS8⟩))
      all_goals
        obtain ⟨_, _, _, _, _, hb8⟩ := hS8
        have HB8 := Lib.hid (HBF.out _ hb8)
        clear hb8 h0
        go_wp2_with fail
        go_roundw
        case rel => exact ⟨q + 1, hlt, by go_num, ret_i64 HN.out, HB8.out⟩
        case measure => simp [intOf]; omega
    · obtain rfl : q = L := by omega
      have e : l.take q = l := List.take_of_length_le (by rw [HL.out]; exact Nat.le_refl _)
      rw [e, HEQ.out]
      have qd : decide ((q : Int) < (q : Int)) = false := decide_eq_false (by omega)
      clear hB
      go_wp2_with fail
      go_ret
      exact ⟨rfl, HB.out⟩
end Go.Proofs.Ytfeegohjgecjgaa
