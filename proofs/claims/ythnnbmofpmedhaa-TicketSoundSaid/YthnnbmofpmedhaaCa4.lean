import Derived.Test.YthnnbmofpmedhaaCa3
import Derived.Deep.RegionHeld3
namespace Go.Proofs.Ythnnbmofpmedhaa
open Go.RowKit
/- The reference's count of a calendar. -/
open Go.RowKit
theorem Cal.sv_one (D : Cal) (f t x y : Int) : D.sv (cutOne f t x y) = if mx f x < mn t y then D.V (mn t y) - D.V (mx f x) else 0 := by
  unfold cutOne
  split
  · rw [D.sv_cons]
    show (D.V (mn t y) - D.V (mx f x)) + (0 : Int) = _
    omega
  · rfl
theorem Cal.cut_step {D : Cal} (x y : Int) (hxy : x ≤ y) (hg : Go.Proofs.Ythnnbmofpmedhaa.good D.G D.U D.m = true) : ∀ k, k ≤ D.m →
    D.sv (cutL D.G D.U x (y + 1) k) = D.sv (cutL D.G D.U x y k) + if hasB D.G D.U y k = true then D.V (y + 1) - D.V y else 0 := by
  intro k
  induction k with
  | zero => intro _; simp [cutL, Cal.sv, hasB]
  | succ k ih =>
    intro hk
    have h1 := ih (by omega)
    simp only [cutL]
    rw [D.sv_append, D.sv_append, h1, D.sv_one, D.sv_one]
    by_cases hin : D.G k ≤ y ∧ y < D.U k
    · have hno : hasB D.G D.U y k = false := by
        cases hh : hasB D.G D.U y k with
        | false => rfl
        | true =>
          obtain ⟨j, hj, h3, h4⟩ := (hasB_iff k).1 hh
          have := good_order hg k j hj (by omega)
          omega
      have hyes : hasB D.G D.U y (k + 1) = true := has_in (Nat.lt_succ_self k) hin.1 hin.2
      rw [hno, hyes]
      have e1 : mn (D.U k) (y + 1) = y + 1 := by rcases mn_cases (D.U k) (y + 1) with ⟨h3, h4⟩ | ⟨h3, h4⟩ <;> omega
      have e2 : mn (D.U k) y = y := by rcases mn_cases (D.U k) y with ⟨h3, h4⟩ | ⟨h3, h4⟩ <;> omega
      have e3 : mx (D.G k) x ≤ y := by rcases mx_cases (D.G k) x with ⟨h3, h4⟩ | ⟨h3, h4⟩ <;> omega
      rw [e1, e2, if_pos (by omega : mx (D.G k) x < y + 1)]
      simp only [Bool.false_eq_true, if_false, if_true]
      by_cases h5 : mx (D.G k) x < y
      · rw [if_pos h5]; omega
      · rw [if_neg h5, show mx (D.G k) x = y by omega]; all_goals omega
    · have hsame : hasB D.G D.U y (k + 1) = hasB D.G D.U y k := by
        cases hh : hasB D.G D.U y k with
        | true =>
          obtain ⟨j, hj, h3, h4⟩ := (hasB_iff k).1 hh
          exact has_in (by omega) h3 h4
        | false =>
          cases h2 : hasB D.G D.U y (k + 1) with
          | false => rfl
          | true =>
            obtain ⟨j, hj, h3, h4⟩ := (hasB_iff (k + 1)).1 h2
            by_cases e : j = k
            · subst e; omega
            · have h5 := has_in (G := D.G) (U := D.U) (m := k) (i := j) (t := y) (by omega) h3 h4
              rw [hh] at h5
              cases h5
      rw [hsame]
      have e1 : (if mx (D.G k) x < mn (D.U k) (y + 1) then D.V (mn (D.U k) (y + 1)) - D.V (mx (D.G k) x) else 0) = (if mx (D.G k) x < mn (D.U k) y then D.V (mn (D.U k) y) - D.V (mx (D.G k) x) else 0) := by
        by_cases h5 : D.U k ≤ y
        · have e2 : mn (D.U k) (y + 1) = D.U k := by rcases mn_cases (D.U k) (y + 1) with ⟨h3, h4⟩ | ⟨h3, h4⟩ <;> omega
          have e3 : mn (D.U k) y = D.U k := by rcases mn_cases (D.U k) y with ⟨h3, h4⟩ | ⟨h3, h4⟩ <;> omega
          rw [e2, e3]
        · have e4 : y + 1 ≤ mx (D.G k) x := by rcases mx_cases (D.G k) x with ⟨h3, h4⟩ | ⟨h3, h4⟩ <;> omega
          rw [if_neg (by rcases mn_cases (D.U k) (y + 1) with ⟨h3, h4⟩ | ⟨h3, h4⟩ <;> omega), if_neg (by rcases mn_cases (D.U k) y with ⟨h3, h4⟩ | ⟨h3, h4⟩ <;> omega)]
      rw [e1]
      omega
theorem cut_none {G U : Nat → Int} {m : Nat} (x : Int) (hg : good G U m = true) : ∀ k, k ≤ m → cutL G U x x k = [] := by
  intro k
  induction k with
  | zero => intro _; rfl
  | succ k ih =>
    intro hk
    have := (good_at hg (show k < m by omega)).2.1
    simp only [cutL, ih (by omega), List.nil_append]
    unfold cutOne
    rw [if_neg]
    rcases mx_cases (G k) x with ⟨h3, h4⟩ | ⟨h3, h4⟩ <;> rcases mn_cases (U k) x with ⟨h5, h6⟩ | ⟨h5, h6⟩ <;> omega
/-- What the weeks have, less what is closed. -/
theorem Cal.count_cut {D : Cal} (hd : D.ok) {x y : Int} (x0 : 0 ≤ x) (hxy : x ≤ y) (y1 : y ≤ 1125899906842624) : D.V y - D.V x - D.sv (cutL D.G D.U x y D.m) = D.g y - D.g x := by
  obtain ⟨k, rfl⟩ := up_to hxy
  clear hxy
  induction k with
  | zero =>
    simp only [Int.natCast_zero, Int.add_zero]
    rw [cut_none x hd.good _ (Nat.le_refl _)]
    show _ - _ - (0 : Int) = _
    omega
  | succ k ih =>
    have h1 := ih (by omega)
    have h2 := D.cut_step x (x + k) (by omega) hd.good D.m (Nat.le_refl _)
    have h3 := D.V_step hd (x + k) (by omega) (by omega)
    have h4 := D.g_step (x + k) (by omega)
    rw [show x + ((k + 1 : Nat) : Int) = x + k + 1 by omega]
    rw [h2]
    have h6 : D.opB (x + k) = (!hasB D.G D.U (x + k) D.m && openB D.F D.T D.n (x + k - D.off + 604800)) := rfl
    rw [h6] at h4
    cases hh : hasB D.G D.U (x + k) D.m <;> cases ho : openB D.F D.T D.n (x + k - D.off + 604800)
    all_goals
      rw [hh, ho] at h4
      rw [ho] at h3
      simp at h3 h4
      simp
      omega

set_option maxRecDepth 100000 in
set_option maxHeartbeats 4000000 in
theorem rweekly {D : Cal} (hd : D.ok) (a : Option Addr) (ca : Nat) (b : Option Addr) (cb : Nat) (x y : Int) (w : World) (hS : Sps w a D.n D.F D.T) (x0 : 0 ≤ x) (hxy : x ≤ y) (y1 : y ≤ 1125899906842624) :
    Calls Try.prog 87 #[calV D.off a D.n ca b D.m cb, .int .i64 x, .int .i64 y] w fun e w' => e = .returned (.int .i64 (D.V y - D.V x)) ∧ Below w.heap.size w w' := by
  have o0 := hd.off0
  have o1 := hd.off1
  have hmo := D.V_mono hd x0 hxy y1
  have hbt := rbetween_any a D.n ca D.F D.T (x - D.off + 604800) (y - D.off + 604800) (w.alloc (.cells #[.int .i64 D.off, .slice a D.n ca, .slice b D.m cb] 24)) (hS.kept ((Below.refl _ _).alloc (Nat.le_refl _) _)) hd.wk
  have ev : betweenV D.F D.T D.n (x - D.off + 604800) (y - D.off + 604800) = D.V y - D.V x := by
    show max 0 (D.V y - D.V x) = _
    omega
  rw [ev] at hbt
  obtain ⟨off, ho⟩ : ∃ o, D.off = o := ⟨_, rfl⟩
  have B1 : Below w.heap.size w (w.alloc (.cells #[.int .i64 off, .slice a D.n ca, .slice b D.m cb] 24)) := (Below.refl _ _).alloc (Nat.le_refl _) _
  have c0 : (w.alloc (.cells #[.int .i64 off, .slice a D.n ca, .slice b D.m cb] 24)).cell? ⟨w.heap.size, 0, none⟩ = some (.int .i64 off) := by simp
  have c1 : (w.alloc (.cells #[.int .i64 off, .slice a D.n ca, .slice b D.m cb] 24)).cell? ⟨w.heap.size, 1, none⟩ = some (.slice a D.n ca) := by simp
  have HB1 := Lib.hid B1
  rw [ho] at hbt o0 o1 ⊢
  have e1 : IntKind.i64.wrap (x - off) = x - off := IntWalk.i64_in _ (by omega)
  have e2 : IntKind.i64.wrap (x - off + 604800) = x - off + 604800 := IntWalk.i64_in _ (by omega)
  have e3 : IntKind.i64.wrap (y - off) = y - off := IntWalk.i64_in _ (by omega)
  have e4 : IntKind.i64.wrap (y - off + 604800) = y - off + 604800 := IntWalk.i64_in _ (by omega)
  obtain ⟨r, er⟩ : ∃ r, D.V y - D.V x = r := ⟨_, rfl⟩
  rw [er] at hbt ⊢
  unfold calV
  clear hd hS B1 ho ev er hmo
  go_enter Try.func87, Try.ntmps87
  go_wp2_with fail
  refine hbt.mono ?_
  rintro e w2 ⟨rfl, hb2⟩
  have HB2 := Lib.hid (HB1.out.trans (hb2.mono HB1.out.size))
  clear hbt hb2
  go_wp2_with fail
  go_ret
  exact ⟨rfl, HB2.out⟩
/- The reference's count and Elapsed. -/
open Go.RowKit
theorem Cal.V_bounds {D : Cal} (hd : D.ok) (t : Int) : 0 ≤ D.V t ∧ D.V t ≤ 2251800000604800 := by
  obtain ⟨_, _, h1, h2⟩ := until_bounds hd.wk (t - D.off + 604800)
  exact ⟨h1, h2⟩
theorem Cal.sv_bounds {D : Cal} (hd : D.ok) : ∀ l : List (Int × Int), (∀ s ∈ l, 0 ≤ s.1 ∧ s.1 < s.2 ∧ s.2 ≤ 1125899906842624) → 0 ≤ D.sv l ∧ D.sv l ≤ l.length * 2251800000604800 := by
  intro l
  induction l with
  | nil => intro _; exact ⟨Int.le_refl 0, by show (0 : Int) ≤ _; simp⟩
  | cons s l ih =>
    intro h
    obtain ⟨h1, h2⟩ := ih (fun r hr => h r (List.mem_cons_of_mem _ hr))
    obtain ⟨h3, h4, h5⟩ := h s (List.mem_cons_self ..)
    have h6 := D.V_mono hd h3 (by omega : s.1 ≤ s.2) h5
    have h7 := (D.V_bounds hd s.1).1
    have h8 := (D.V_bounds hd s.2).2
    rw [D.sv_cons, List.length_cons]
    omega

set_option maxRecDepth 100000 in
set_option maxHeartbeats 8000000 in
theorem rcount {D : Cal} (hd : D.ok) (a : Option Addr) (ca : Nat) (b : Option Addr) (cb : Nat) (x y : Int) (w : World) (hS : Sps w a D.n D.F D.T) (hR : Sps w b D.m D.G D.U) (x0 : 0 ≤ x) (hxy : x ≤ y) (y1 : y ≤ 1125899906842624) :
    Calls Try.prog 78 #[calV D.off a D.n ca b D.m cb, .int .i64 x, .int .i64 y] w fun e w' => e = .returned (.int .i64 (D.g y - D.g x)) ∧ Below w.heap.size w w' := by
  have B1 : Below w.heap.size w (w.alloc (.cells #[.int .i64 D.off, .slice a D.n ca, .slice b D.m cb] 24)) := (Below.refl _ _).alloc (Nat.le_refl _) _
  have c0 : (w.alloc (.cells #[.int .i64 D.off, .slice a D.n ca, .slice b D.m cb] 24)).cell? ⟨w.heap.size, 0, none⟩ = some (.int .i64 D.off) := by simp
  have c1 : (w.alloc (.cells #[.int .i64 D.off, .slice a D.n ca, .slice b D.m cb] 24)).cell? ⟨w.heap.size, 1, none⟩ = some (.slice a D.n ca) := by simp
  have c2 : (w.alloc (.cells #[.int .i64 D.off, .slice a D.n ca, .slice b D.m cb] 24)).cell? ⟨w.heap.size, 2, none⟩ = some (.slice b D.m cb) := by simp
  have hlt : w.heap.size < (w.alloc (.cells #[.int .i64 D.off, .slice a D.n ca, .slice b D.m cb] 24)).heap.size := by simp
  have HB1 := Lib.hid B1
  have HWK := Lib.hid (fun (u v : Int) (u0 : 0 ≤ u) (uv : u ≤ v) (v1 : v ≤ 1125899906842624) W (hb : Below w.heap.size w W) => rweekly hd a ca b cb u v W (hS.kept hb) u0 uv v1)
  have HCU := Lib.hid (fun W (hb : Below w.heap.size w W) => rcut_any b D.m cb D.G D.U x y W (hR.kept hb) hd.len hd.good)
  have hlen := cutL_len D.G D.U x y D.m
  have hml := hd.len
  have hri := cutL_right x y hd.good D.m (Nat.le_refl _)
  have HEQ := Lib.hid (D.count_cut hd x0 hxy y1)
  have HSV := Lib.hid (D.sv_bounds hd)
  have HVB := Lib.hid (D.V_bounds hd)
  have hmo := D.V_mono hd x0 hxy y1
  have hv0 := (D.V_bounds hd x).1
  have hv1 := (D.V_bounds hd y).2
  have hwk := HWK.out x y x0 hxy y1 _ B1
  obtain ⟨l, hl⟩ : ∃ l, cutL D.G D.U x y D.m = l := ⟨_, rfl⟩
  obtain ⟨n0, hn0⟩ : ∃ r, D.V y - D.V x = r := ⟨_, rfl⟩
  obtain ⟨z, hz⟩ : ∃ r, D.g y - D.g x = r := ⟨_, rfl⟩
  obtain ⟨off, ho⟩ : ∃ o, D.off = o := ⟨_, rfl⟩
  rw [hl] at HCU hlen HEQ hri
  rw [hn0] at hwk HEQ
  rw [hz] at HEQ ⊢
  have n00 : 0 ≤ n0 := by omega
  have n01 : n0 ≤ 2251800000604800 := by omega
  rw [ho] at HB1 c0 c1 c2 hlt hwk HWK ⊢
  have HC := Lib.hid (And.intro c0 (And.intro c1 (And.intro c2 hlt)))
  have HRI := Lib.hid hri
  have HD := Lib.hid hd
  unfold calV at *
  clear hd hS hR B1 hlt hl hz ho hn0 hmo hv0 hv1 hri
  go_enter Try.func78, Try.ntmps78
  go_wp2_with fail
  refine hwk.mono ?_
  rintro e w2 ⟨rfl, hb2⟩
  have HB2 := Lib.hid (HB1.out.trans (hb2.mono HB1.out.size))
  have c0' := (hb2.cell (p := ⟨w.heap.size, 0, none⟩) HC.out.2.2.2).trans HC.out.1
  have c1' := (hb2.cell (p := ⟨w.heap.size, 1, none⟩) HC.out.2.2.2).trans HC.out.2.1
  have c2' := (hb2.cell (p := ⟨w.heap.size, 2, none⟩) HC.out.2.2.2).trans HC.out.2.2.1
  have HC2 := Lib.hid (And.intro c0' (And.intro c1' (And.intro c2' (Nat.lt_of_lt_of_le HC.out.2.2.2 hb2.size))))
  have hcut := HCU.out w2 HB2.out
  clear hwk hb2 c0 c1 c2
  go_wp2_with fail
  refine hcut.mono ?_
  rintro e w3 ⟨v, rfl, hO, hb3⟩
  obtain ⟨va, vc, rfl, _, _⟩ := hO.shape
  have HB3 := Lib.hid (HB2.out.trans (hb3.mono HB2.out.size))
  have c0 := (hb3.cell (p := ⟨w.heap.size, 0, none⟩) HC2.out.2.2.2).trans HC2.out.1
  have c1 := (hb3.cell (p := ⟨w.heap.size, 1, none⟩) HC2.out.2.2.2).trans HC2.out.2.1
  have c2 := (hb3.cell (p := ⟨w.heap.size, 2, none⟩) HC2.out.2.2.2).trans HC2.out.2.2.1
  have HC3 := Lib.hid (And.intro c0 (And.intro c1 (And.intro c2 (Nat.lt_of_lt_of_le HC2.out.2.2.2 hb3.size))))
  obtain ⟨L, hL⟩ : ∃ L, l.length = L := ⟨_, rfl⟩
  have HS := Lib.hid (hO.sps (by intro s hs; have := HRI.out s hs; omega)).2
  rw [hL] at HS hlen ⊢
  have HL := Lib.hid hL
  clear hcut hO hb3 hL c0' c1' c2' c0 c1 c2
  go_wp2_with fail
  go_loopw [7, 9] (fun s i wr => ∃ q : Nat, q ≤ L ∧ i = .int .i64 q ∧ s = .int .i64 (n0 - D.sv (l.take q)) ∧ Below w3.heap.size w3 wr) (fun _ i _ => L - (intOf i).toNat)
  case atStart => exact ⟨0, Nat.zero_le _, rfl, ret_i64 (by show n0 = n0 - (0 : Int); omega), Below.refl _ _⟩
  case round =>
    obtain ⟨q, hq, rfl, rfl, hB⟩ := hrel
    have HB := Lib.hid (HB3.out.trans (hB.mono HB3.out.size))
    have HBB := Lib.hid hB
    by_cases hlt : q < L
    · obtain ⟨ab, ao, rfl, hab, c0, c1, b0, b1, b2, b3⟩ := HS.out.at hB q hlt
      have k0 := (hB.cell (p := ⟨w.heap.size, 0, none⟩) HC3.out.2.2.2).trans HC3.out.1
      have k1 := (hB.cell (p := ⟨w.heap.size, 1, none⟩) HC3.out.2.2.2).trans HC3.out.2.1
      have k2 := (hB.cell (p := ⟨w.heap.size, 2, none⟩) HC3.out.2.2.2).trans HC3.out.2.2.1
      have hlq : q < l.length := by rw [HL.out]; exact hlt
      have hget : l[q]? = some (fr l q, til l q) := by
        rw [List.getElem?_eq_getElem hlq]
        simp [fr, til, hlq]
      have hmem : (fr l q, til l q) ∈ l := List.mem_of_getElem? hget
      obtain ⟨m0, m1, m2⟩ := HRI.out _ hmem
      have hsn := D.sv_snoc l q _ hget
      obtain ⟨a0, a1⟩ := HSV.out (l.take q) (fun s hs => HRI.out s (List.mem_of_mem_take hs))
      have hln : (l.take q).length ≤ 32 := by rw [List.length_take]; omega
      obtain ⟨f, hf⟩ : ∃ f, fr l q = f := ⟨_, rfl⟩
      obtain ⟨u, hu⟩ : ∃ f, til l q = f := ⟨_, rfl⟩
      obtain ⟨acc, hacc⟩ : ∃ r, D.sv (l.take q) = r := ⟨_, rfl⟩
      rw [hf] at c0 b0 b1 hsn m0 m1
      rw [hu] at c1 b2 b3 hsn m1 m2
      rw [hacc] at hsn a0 a1 ⊢
      simp only at hsn m0 m1 m2
      have v0 := (HVB.out f).1
      have v1 := (HVB.out u).2
      have v2 := D.V_mono HD.out m0 (by omega : f ≤ u) m2
      obtain ⟨d, hdv⟩ : ∃ d, D.V u - D.V f = d := ⟨_, rfl⟩
      rw [hdv] at hsn
      have e1 : IntKind.i64.wrap (n0 - acc - d) = n0 - acc - d := IntWalk.i64_in _ (by omega)
      have HN := Lib.hid (show n0 - acc - d = n0 - D.sv (l.take (q + 1)) by rw [hsn]; omega)
      have q0 : (0 : Int) ≤ (q : Int) := by omega
      have ql : (q : Int) < (L : Int) := by omega
      have qd : decide ((q : Int) < (L : Int)) = true := decide_eq_true ql
      have h0 : wr.drew.cell? ⟨w.heap.size, 0, none⟩ = some (.int .i64 off) ∧ wr.drew.cell? ⟨w.heap.size, 1, none⟩ = some (.slice a D.n ca) ∧ wr.drew.cell? ⟨w.heap.size, 2, none⟩ = some (.slice b D.m cb) ∧ wr.drew.cell? ⟨ab, ao + q * 2, none⟩ = some (.int .i64 f) ∧ wr.drew.cell? ⟨ab, ao + q * 2 + 1, none⟩ = some (.int .i64 u) ∧ Below wr.heap.size wr wr.drew := ⟨k0, k1, k2, c0, c1, (Below.refl _ _).drew⟩
      have hWK : Hid (∀ w', (w'.cell? ⟨w.heap.size, 0, none⟩ = some (.int .i64 off) ∧ w'.cell? ⟨w.heap.size, 1, none⟩ = some (.slice a D.n ca) ∧ w'.cell? ⟨w.heap.size, 2, none⟩ = some (.slice b D.m cb) ∧ w'.cell? ⟨ab, ao + q * 2, none⟩ = some (.int .i64 f) ∧ w'.cell? ⟨ab, ao + q * 2 + 1, none⟩ = some (.int .i64 u) ∧ Below wr.heap.size wr w') →
          Calls Try.prog 87 #[.agg #[.int .i64 off, .slice a D.n ca, .slice b D.m cb], .int .i64 f, .int .i64 u] w' fun e w'' => e = .returned (.int .i64 d) ∧ (w''.cell? ⟨w.heap.size, 0, none⟩ = some (.int .i64 off) ∧ w''.cell? ⟨w.heap.size, 1, none⟩ = some (.slice a D.n ca) ∧ w''.cell? ⟨w.heap.size, 2, none⟩ = some (.slice b D.m cb) ∧ w''.cell? ⟨ab, ao + q * 2, none⟩ = some (.int .i64 f) ∧ w''.cell? ⟨ab, ao + q * 2 + 1, none⟩ = some (.int .i64 u) ∧ Below wr.heap.size wr w'')) := Lib.hid (by
        rintro w' ⟨g0, g1, g2, g3, g4, g5⟩
        have h := HWK.out f u m0 (by omega) m2 w' (HB.out.trans (g5.mono HB.out.size))
        rw [hdv] at h
        refine h.mono ?_
        rintro e w'' ⟨rfl, hb⟩
        exact ⟨rfl, (hb.cell (p := ⟨w.heap.size, 0, none⟩) (cell_spot g0).2).trans g0, (hb.cell (p := ⟨w.heap.size, 1, none⟩) (cell_spot g1).2).trans g1, (hb.cell (p := ⟨w.heap.size, 2, none⟩) (cell_spot g2).2).trans g2,
          (hb.cell (p := ⟨ab, ao + q * 2, none⟩) (cell_spot g3).2).trans g3, (hb.cell (p := ⟨ab, ao + q * 2 + 1, none⟩) (cell_spot g4).2).trans g4, g5.trans (hb.mono g5.size)⟩)
      have HBF := Lib.hid (fun W (h : Below wr.heap.size wr W) => hB.trans (h.mono hB.size))
      clear hf hu hacc hsn hget hmem a0 a1 hln v0 v1 v2 hdv hB m0 m1 m2 hlq HBB
      go_wp2_with fail
      clear k0 k1 k2 c0 c1
      go_region_held3 (fun w' => w'.cell? ⟨w.heap.size, 0, none⟩ = some (.int .i64 off) ∧ w'.cell? ⟨w.heap.size, 1, none⟩ = some (.slice a D.n ca) ∧ w'.cell? ⟨w.heap.size, 2, none⟩ = some (.slice b D.m cb) ∧ w'.cell? ⟨ab, ao + q * 2, none⟩ = some (.int .i64 f) ∧ w'.cell? ⟨ab, ao + q * 2 + 1, none⟩ = some (.int .i64 u) ∧ Below wr.heap.size wr w')
        (first | exact h0 | assumption)
        (first
          | (go_at_call 87; refine (hWK.out _ (by assumption)).mono ?_; rintro e w8 ⟨rfl, hS8⟩))
      all_goals
        obtain ⟨_, _, _, _, _, hb8⟩ := hS8
        have HB8 := Lib.hid (HBF.out _ hb8)
        clear hb8 h0
        go_wp2_with fail
        go_roundw
        case rel => exact ⟨q + 1, hlt, by go_num, ret_i64 HN.out, HB8.out⟩
        case measure => simp [intOf]; omega
    · obtain rfl : q = L := by omega
      have e : l.take q = l := List.take_of_length_le (by rw [HL.out]; exact Nat.le_refl _)
      rw [e, HEQ.out]
      have qd : decide ((q : Int) < (q : Int)) = false := decide_eq_false (by omega)
      clear hB
      go_wp2_with fail
      go_ret
      exact ⟨rfl, HB.out⟩
/- The reference's Elapsed, Due and Rest of a calendar. -/
open Go.RowKit
set_option maxRecDepth 100000 in
set_option maxHeartbeats 8000000 in
theorem relapsed_bad {D : Cal} (hd : D.ok) (a : Option Addr) (ca : Nat) (b : Option Addr) (cb : Nat) (x y : Int) (w : World) (hS : Sps w a D.n D.F D.T) (hR : Sps w b D.m D.G D.U) (hb : ¬ (instB x = true ∧ instB y = true ∧ x ≤ y)) :
    Calls Try.prog 67 #[calV D.off a D.n ca b D.m cb, .int .i64 x, .int .i64 y] w fun e w' => e = .returned (.tuple #[.int .i64 0, .int .i64 2]) ∧ Below w.heap.size w w' := by
  obtain ⟨off, ho⟩ : ∃ o, D.off = o := ⟨_, rfl⟩
  have B1 : Below w.heap.size w (w.alloc (.cells #[.int .i64 off, .slice a D.n ca, .slice b D.m cb] 24)) := (Below.refl _ _).alloc (Nat.le_refl _) _
  have c0 : (w.alloc (.cells #[.int .i64 off, .slice a D.n ca, .slice b D.m cb] 24)).cell? ⟨w.heap.size, 0, none⟩ = some (.int .i64 off) := by simp
  have c1 : (w.alloc (.cells #[.int .i64 off, .slice a D.n ca, .slice b D.m cb] 24)).cell? ⟨w.heap.size, 1, none⟩ = some (.slice a D.n ca) := by simp
  have c2 : (w.alloc (.cells #[.int .i64 off, .slice a D.n ca, .slice b D.m cb] 24)).cell? ⟨w.heap.size, 2, none⟩ = some (.slice b D.m cb) := by simp
  have hlt : w.heap.size < (w.alloc (.cells #[.int .i64 off, .slice a D.n ca, .slice b D.m cb] 24)).heap.size := by simp
  have HB1 := Lib.hid B1
  have hi1 := rinstant_any x
  have hi2 := rinstant_any y
  obtain ⟨bx, ex⟩ : ∃ b, instB x = b := ⟨_, rfl⟩
  obtain ⟨by_, ey⟩ : ∃ b, instB y = b := ⟨_, rfl⟩
  obtain ⟨d, ed⟩ : ∃ b, decide (y < x) = b := ⟨_, rfl⟩
  have hbad : bx = false ∨ by_ = false ∨ d = true := by
    cases bx with
    | false => exact .inl rfl
    | true =>
      cases by_ with
      | false => exact .inr (.inl rfl)
      | true => exact .inr (.inr (by rw [← ed]; exact decide_eq_true (by
          rcases Int.lt_or_le y x with h | h
          · exact h
          · exact absurd ⟨ex, ey, h⟩ hb)))
  rw [ex] at hi1
  rw [ey] at hi2
  have HI1 := Lib.hid hi1
  have HI2 := Lib.hid hi2
  rw [ho]
  unfold calV
  clear hd hS hR hb ex ey B1 ho hi1 hi2 hlt
  cases bx
  case false =>
    go_enter Try.func67, Try.ntmps67
    go_wp2_with fail
    refine (HI1.out _).mono ?_
    rintro e w2 ⟨rfl, rfl⟩
    go_wp2_with fail
    go_ret2
    exact ⟨rfl, HB1.out⟩
  cases by_
  case false =>
    go_enter Try.func67, Try.ntmps67
    go_wp2_with fail
    refine (HI1.out _).mono ?_
    rintro e w2 ⟨rfl, rfl⟩
    go_wp2_with fail
    refine (HI2.out _).mono ?_
    rintro e w2 ⟨rfl, rfl⟩
    go_wp2_with fail
    go_ret2
    exact ⟨rfl, HB1.out⟩
  cases d
  case false => rcases hbad with h | h | h <;> cases h
  clear hbad
  go_enter Try.func67, Try.ntmps67
  go_wp2_with fail
  refine (HI1.out _).mono ?_
  rintro e w2 ⟨rfl, rfl⟩
  go_wp2_with fail
  refine (HI2.out _).mono ?_
  rintro e w2 ⟨rfl, rfl⟩
  go_wp2_with fail
  go_ret2
  exact ⟨rfl, HB1.out⟩
set_option maxRecDepth 100000 in
set_option maxHeartbeats 8000000 in
theorem relapsed_ok {D : Cal} (hd : D.ok) (a : Option Addr) (ca : Nat) (b : Option Addr) (cb : Nat) (x y : Int) (w : World) (hS : Sps w a D.n D.F D.T) (hR : Sps w b D.m D.G D.U) (x0 : 0 ≤ x) (xy : x ≤ y) (y1 : y ≤ 1125899906842624) :
    Calls Try.prog 67 #[calV D.off a D.n ca b D.m cb, .int .i64 x, .int .i64 y] w fun e w' => e = .returned (.tuple #[.int .i64 (D.g y - D.g x), .int .i64 0]) ∧ Below w.heap.size w w' := by
  have HCNT := Lib.hid (fun (u v : Int) (u0 : 0 ≤ u) (uv : u ≤ v) (v1 : v ≤ 1125899906842624) W (hb : Below w.heap.size w W) => rcount hd a ca b cb u v W (hS.kept hb) (hR.kept hb) u0 uv v1)
  obtain ⟨off, ho⟩ : ∃ o, D.off = o := ⟨_, rfl⟩
  have B1 : Below w.heap.size w (w.alloc (.cells #[.int .i64 off, .slice a D.n ca, .slice b D.m cb] 24)) := (Below.refl _ _).alloc (Nat.le_refl _) _
  have c0 : (w.alloc (.cells #[.int .i64 off, .slice a D.n ca, .slice b D.m cb] 24)).cell? ⟨w.heap.size, 0, none⟩ = some (.int .i64 off) := by simp
  have c1 : (w.alloc (.cells #[.int .i64 off, .slice a D.n ca, .slice b D.m cb] 24)).cell? ⟨w.heap.size, 1, none⟩ = some (.slice a D.n ca) := by simp
  have c2 : (w.alloc (.cells #[.int .i64 off, .slice a D.n ca, .slice b D.m cb] 24)).cell? ⟨w.heap.size, 2, none⟩ = some (.slice b D.m cb) := by simp
  have hlt : w.heap.size < (w.alloc (.cells #[.int .i64 off, .slice a D.n ca, .slice b D.m cb] 24)).heap.size := by simp
  have HB1 := Lib.hid B1
  have hi1 := rinstant_any x
  have hi2 := rinstant_any y
  rw [(instB_iff x).2 ⟨by omega, by omega⟩] at hi1
  rw [(instB_iff y).2 ⟨by omega, by omega⟩] at hi2
  have HI1 := Lib.hid hi1
  have HI2 := Lib.hid hi2
  have ed : decide (y < x) = false := decide_eq_false (by omega)
  have hct := HCNT.out x y x0 xy y1 _ HB1.out
  rw [ho] at hct ⊢
  generalize D.g y - D.g x = z at *
  unfold calV at *
  clear hd hS hR B1 ho hi1 hi2 hlt HCNT
  go_enter Try.func67, Try.ntmps67
  go_wp2_with fail
  refine (HI1.out _).mono ?_
  rintro e w2 ⟨rfl, rfl⟩
  go_wp2_with fail
  refine (HI2.out _).mono ?_
  rintro e w2 ⟨rfl, rfl⟩
  go_wp2_with fail
  refine hct.mono ?_
  rintro e w3 ⟨rfl, hb3⟩
  have HB3 := Lib.hid (HB1.out.trans (hb3.mono HB1.out.size))
  clear hct hb3
  go_wp2_with fail
  go_ret2
  exact ⟨rfl, HB3.out⟩
set_option maxRecDepth 100000 in
set_option maxHeartbeats 8000000 in
theorem rrest_arg {D : Cal} (hd : D.ok) (a : Option Addr) (ca : Nat) (b : Option Addr) (cb : Nat) (s y t : Int) (w : World) (hS : Sps w a D.n D.F D.T) (hR : Sps w b D.m D.G D.U) (hy : y < 0) :
    Calls Try.prog 45 #[calV D.off a D.n ca b D.m cb, .int .i64 s, .int .i64 y, .int .i64 t] w fun e w' => e = .returned (.tuple #[.int .i64 0, .int .i64 2]) ∧ Below w.heap.size w w' := by
  obtain ⟨off, ho⟩ : ∃ o, D.off = o := ⟨_, rfl⟩
  have B1 : Below w.heap.size w (w.alloc (.cells #[.int .i64 off, .slice a D.n ca, .slice b D.m cb] 24)) := (Below.refl _ _).alloc (Nat.le_refl _) _
  have c0 : (w.alloc (.cells #[.int .i64 off, .slice a D.n ca, .slice b D.m cb] 24)).cell? ⟨w.heap.size, 0, none⟩ = some (.int .i64 off) := by simp
  have c1 : (w.alloc (.cells #[.int .i64 off, .slice a D.n ca, .slice b D.m cb] 24)).cell? ⟨w.heap.size, 1, none⟩ = some (.slice a D.n ca) := by simp
  have c2 : (w.alloc (.cells #[.int .i64 off, .slice a D.n ca, .slice b D.m cb] 24)).cell? ⟨w.heap.size, 2, none⟩ = some (.slice b D.m cb) := by simp
  have hlt : w.heap.size < (w.alloc (.cells #[.int .i64 off, .slice a D.n ca, .slice b D.m cb] 24)).heap.size := by simp
  have HB1 := Lib.hid B1
  have d1 : decide (y < 0) = true := decide_eq_true hy
  rw [ho]
  unfold calV
  clear hd hS hR B1 ho hlt
  go_enter Try.func45, Try.ntmps45
  go_wp2_with fail
  go_ret2
  exact ⟨rfl, HB1.out⟩
set_option maxRecDepth 100000 in
set_option maxHeartbeats 8000000 in
theorem rrest_bad {D : Cal} (hd : D.ok) (a : Option Addr) (ca : Nat) (b : Option Addr) (cb : Nat) (s y t : Int) (w : World) (hS : Sps w a D.n D.F D.T) (hR : Sps w b D.m D.G D.U) (hy : ¬ y < 0) (hb : ¬ (instB s = true ∧ instB t = true ∧ s ≤ t)) :
    Calls Try.prog 45 #[calV D.off a D.n ca b D.m cb, .int .i64 s, .int .i64 y, .int .i64 t] w fun e w' => e = .returned (.tuple #[.int .i64 0, .int .i64 2]) ∧ Below w.heap.size w w' := by
  obtain ⟨off, ho⟩ : ∃ o, D.off = o := ⟨_, rfl⟩
  have B1 : Below w.heap.size w (w.alloc (.cells #[.int .i64 off, .slice a D.n ca, .slice b D.m cb] 24)) := (Below.refl _ _).alloc (Nat.le_refl _) _
  have c0 : (w.alloc (.cells #[.int .i64 off, .slice a D.n ca, .slice b D.m cb] 24)).cell? ⟨w.heap.size, 0, none⟩ = some (.int .i64 off) := by simp
  have c1 : (w.alloc (.cells #[.int .i64 off, .slice a D.n ca, .slice b D.m cb] 24)).cell? ⟨w.heap.size, 1, none⟩ = some (.slice a D.n ca) := by simp
  have c2 : (w.alloc (.cells #[.int .i64 off, .slice a D.n ca, .slice b D.m cb] 24)).cell? ⟨w.heap.size, 2, none⟩ = some (.slice b D.m cb) := by simp
  have hlt : w.heap.size < (w.alloc (.cells #[.int .i64 off, .slice a D.n ca, .slice b D.m cb] 24)).heap.size := by simp
  have HB1 := Lib.hid B1
  have d1 : decide (y < 0) = false := decide_eq_false hy
  have hel := relapsed_bad hd a ca b cb s t (w.alloc (.cells #[.int .i64 D.off, .slice a D.n ca, .slice b D.m cb] 24)) (hS.kept (by rw [ho]; exact B1)) (hR.kept (by rw [ho]; exact B1)) hb
  rw [ho] at hel ⊢
  unfold calV at *
  clear hd hS hR B1 ho hlt
  go_enter Try.func45, Try.ntmps45
  go_wp2_with fail
  refine hel.mono ?_
  rintro e w3 ⟨rfl, hb3⟩
  have HB3 := Lib.hid (HB1.out.trans (hb3.mono HB1.out.size))
  clear hel hb3
  go_wp2_with fail
  go_ret2
  exact ⟨rfl, HB3.out⟩
set_option maxRecDepth 100000 in
set_option maxHeartbeats 8000000 in
theorem rrest_ok {D : Cal} (hd : D.ok) (a : Option Addr) (ca : Nat) (b : Option Addr) (cb : Nat) (s y t : Int) (w : World) (hS : Sps w a D.n D.F D.T) (hR : Sps w b D.m D.G D.U) (s0 : 0 ≤ s) (st : s ≤ t) (t1 : t ≤ 1125899906842624) (y0 : 0 ≤ y) (y1 : y ≤ 9223372036854775807) :
    Calls Try.prog 45 #[calV D.off a D.n ca b D.m cb, .int .i64 s, .int .i64 y, .int .i64 t] w fun e w' => e = .returned (.tuple #[.int .i64 (max 0 (y - (D.g t - D.g s))), .int .i64 0]) ∧ Below w.heap.size w w' := by
  obtain ⟨off, ho⟩ : ∃ o, D.off = o := ⟨_, rfl⟩
  have B1 : Below w.heap.size w (w.alloc (.cells #[.int .i64 off, .slice a D.n ca, .slice b D.m cb] 24)) := (Below.refl _ _).alloc (Nat.le_refl _) _
  have c0 : (w.alloc (.cells #[.int .i64 off, .slice a D.n ca, .slice b D.m cb] 24)).cell? ⟨w.heap.size, 0, none⟩ = some (.int .i64 off) := by simp
  have c1 : (w.alloc (.cells #[.int .i64 off, .slice a D.n ca, .slice b D.m cb] 24)).cell? ⟨w.heap.size, 1, none⟩ = some (.slice a D.n ca) := by simp
  have c2 : (w.alloc (.cells #[.int .i64 off, .slice a D.n ca, .slice b D.m cb] 24)).cell? ⟨w.heap.size, 2, none⟩ = some (.slice b D.m cb) := by simp
  have hlt : w.heap.size < (w.alloc (.cells #[.int .i64 off, .slice a D.n ca, .slice b D.m cb] 24)).heap.size := by simp
  have HB1 := Lib.hid B1
  have d1 : decide (y < 0) = false := decide_eq_false (by omega)
  have hel := relapsed_ok hd a ca b cb s t (w.alloc (.cells #[.int .i64 D.off, .slice a D.n ca, .slice b D.m cb] 24)) (hS.kept (by rw [ho]; exact B1)) (hR.kept (by rw [ho]; exact B1)) s0 st t1
  have g1 := D.g_mono s0 st
  have g2 := D.g_lip s0 st
  obtain ⟨q, eq⟩ : ∃ q, D.g t - D.g s = q := ⟨_, rfl⟩
  rw [ho, eq] at hel
  rw [ho, eq]
  have q0 : 0 ≤ q := by omega
  have q1 : q ≤ 1125899906842624 := by omega
  have e1 : IntKind.i64.wrap (y - q) = y - q := IntWalk.i64_in _ (by omega)
  unfold calV at *
  clear hd hS hR B1 ho hlt eq g1 g2
  by_cases hc : y < q
  · have d2 : decide (y < q) = true := decide_eq_true hc
    rw [show max 0 (y - q) = 0 by omega]
    go_enter Try.func45, Try.ntmps45
    go_wp2_with fail
    refine hel.mono ?_
    rintro e w3 ⟨rfl, hb3⟩
    have HB3 := Lib.hid (HB1.out.trans (hb3.mono HB1.out.size))
    clear hel hb3
    go_wp2_with fail
    go_ret2
    exact ⟨rfl, HB3.out⟩
  · have d2 : decide (y < q) = false := decide_eq_false hc
    rw [show max 0 (y - q) = y - q by omega]
    go_enter Try.func45, Try.ntmps45
    go_wp2_with fail
    refine hel.mono ?_
    rintro e w3 ⟨rfl, hb3⟩
    have HB3 := Lib.hid (HB1.out.trans (hb3.mono HB1.out.size))
    clear hel hb3
    go_wp2_with fail
    go_ret2
    exact ⟨rfl, HB3.out⟩
/- The reference's Due of a calendar. -/
open Go.RowKit
set_option maxRecDepth 100000 in
set_option maxHeartbeats 8000000 in
theorem rdue_bad {D : Cal} (hd : D.ok) (a : Option Addr) (ca : Nat) (b : Option Addr) (cb : Nat) (s y : Int) (w : World) (hS : Sps w a D.n D.F D.T) (hR : Sps w b D.m D.G D.U) (hb : ¬ (instB s = true ∧ 0 ≤ y)) :
    Calls Try.prog 66 #[calV D.off a D.n ca b D.m cb, .int .i64 s, .int .i64 y] w fun e w' => (∃ v er, e = .returned (.tuple #[.int .i64 v, .int .i64 er]) ∧ D.Dues s y v er) ∧ Below w.heap.size w w' := by
  obtain ⟨off, ho⟩ : ∃ o, D.off = o := ⟨_, rfl⟩
  have B1 : Below w.heap.size w (w.alloc (.cells #[.int .i64 off, .slice a D.n ca, .slice b D.m cb] 24)) := (Below.refl _ _).alloc (Nat.le_refl _) _
  have c0 : (w.alloc (.cells #[.int .i64 off, .slice a D.n ca, .slice b D.m cb] 24)).cell? ⟨w.heap.size, 0, none⟩ = some (.int .i64 off) := by simp
  have c1 : (w.alloc (.cells #[.int .i64 off, .slice a D.n ca, .slice b D.m cb] 24)).cell? ⟨w.heap.size, 1, none⟩ = some (.slice a D.n ca) := by simp
  have c2 : (w.alloc (.cells #[.int .i64 off, .slice a D.n ca, .slice b D.m cb] 24)).cell? ⟨w.heap.size, 2, none⟩ = some (.slice b D.m cb) := by simp
  have hlt : w.heap.size < (w.alloc (.cells #[.int .i64 off, .slice a D.n ca, .slice b D.m cb] 24)).heap.size := by simp
  have HB1 := Lib.hid B1
  have HD := Lib.hid (show D.Dues s y 0 2 from .inl ⟨fun h => hb ⟨(instB_iff s).2 ⟨h.1, h.2.1⟩, h.2.2⟩, rfl, rfl⟩)
  have hi1 := rinstant_any s
  obtain ⟨bx, ex⟩ : ∃ b, instB s = b := ⟨_, rfl⟩
  rw [ex] at hi1
  have HI1 := Lib.hid hi1
  rw [ho]
  cases bx
  case false =>
    unfold calV
    clear hd hS hR hb ex B1 ho hi1 hlt
    go_enter Try.func66, Try.ntmps66
    go_wp2_with fail
    refine (HI1.out _).mono ?_
    rintro e w2 ⟨rfl, rfl⟩
    go_wp2_with fail
    go_ret2
    exact ⟨⟨_, _, rfl, HD.out⟩, HB1.out⟩
  case true =>
    have d1 : decide (y < 0) = true := decide_eq_true (by
      rcases Int.lt_or_le y 0 with h | h
      · exact h
      · exact absurd ⟨ex, h⟩ hb)
    unfold calV
    clear hd hS hR hb ex B1 ho hi1 hlt
    go_enter Try.func66, Try.ntmps66
    go_wp2_with fail
    refine (HI1.out _).mono ?_
    rintro e w2 ⟨rfl, rfl⟩
    go_wp2_with fail
    go_ret2
    exact ⟨⟨_, _, rfl, HD.out⟩, HB1.out⟩
set_option maxRecDepth 100000 in
set_option maxHeartbeats 8000000 in
theorem rdue_zero {D : Cal} (hd : D.ok) (a : Option Addr) (ca : Nat) (b : Option Addr) (cb : Nat) (s y : Int) (w : World) (hS : Sps w a D.n D.F D.T) (hR : Sps w b D.m D.G D.U) (hs : instB s = true) (hy : y = 0) :
    Calls Try.prog 66 #[calV D.off a D.n ca b D.m cb, .int .i64 s, .int .i64 y] w fun e w' => (∃ v er, e = .returned (.tuple #[.int .i64 v, .int .i64 er]) ∧ D.Dues s y v er) ∧ Below w.heap.size w w' := by
  obtain ⟨off, ho⟩ : ∃ o, D.off = o := ⟨_, rfl⟩
  have B1 : Below w.heap.size w (w.alloc (.cells #[.int .i64 off, .slice a D.n ca, .slice b D.m cb] 24)) := (Below.refl _ _).alloc (Nat.le_refl _) _
  have c0 : (w.alloc (.cells #[.int .i64 off, .slice a D.n ca, .slice b D.m cb] 24)).cell? ⟨w.heap.size, 0, none⟩ = some (.int .i64 off) := by simp
  have c1 : (w.alloc (.cells #[.int .i64 off, .slice a D.n ca, .slice b D.m cb] 24)).cell? ⟨w.heap.size, 1, none⟩ = some (.slice a D.n ca) := by simp
  have c2 : (w.alloc (.cells #[.int .i64 off, .slice a D.n ca, .slice b D.m cb] 24)).cell? ⟨w.heap.size, 2, none⟩ = some (.slice b D.m cb) := by simp
  have hlt : w.heap.size < (w.alloc (.cells #[.int .i64 off, .slice a D.n ca, .slice b D.m cb] 24)).heap.size := by simp
  have HB1 := Lib.hid B1
  obtain ⟨s0, s1⟩ := (instB_iff s).1 hs
  have HD := Lib.hid (show D.Dues s y s 0 from .inr (.inl ⟨s0, s1, hy, rfl, rfl⟩))
  have hi1 := rinstant_any s
  rw [hs] at hi1
  have HI1 := Lib.hid hi1
  have d1 : decide (y < 0) = false := decide_eq_false (by omega)
  have d2 : (y == 0) = true := by simpa using hy
  rw [ho]
  unfold calV
  clear hd hS hR B1 ho hi1 hlt hy hs
  go_enter Try.func66, Try.ntmps66
  go_wp2_with fail
  refine (HI1.out _).mono ?_
  rintro e w2 ⟨rfl, rfl⟩
  go_wp2_with fail
  go_ret2
  exact ⟨⟨_, _, rfl, HD.out⟩, HB1.out⟩
set_option maxRecDepth 100000 in
set_option maxHeartbeats 8000000 in
theorem rdue_closed {D : Cal} (hd : D.ok) (a : Option Addr) (ca : Nat) (b : Option Addr) (cb : Nat) (s y : Int) (w : World) (hS : Sps w a D.n D.F D.T) (hR : Sps w b D.m D.G D.U) (hs : instB s = true) (hy : 0 < y) (ht : tsum D.F D.T D.n = 0) :
    Calls Try.prog 66 #[calV D.off a D.n ca b D.m cb, .int .i64 s, .int .i64 y] w fun e w' => (∃ v er, e = .returned (.tuple #[.int .i64 v, .int .i64 er]) ∧ D.Dues s y v er) ∧ Below w.heap.size w w' := by
  obtain ⟨off, ho⟩ : ∃ o, D.off = o := ⟨_, rfl⟩
  have B1 : Below w.heap.size w (w.alloc (.cells #[.int .i64 off, .slice a D.n ca, .slice b D.m cb] 24)) := (Below.refl _ _).alloc (Nat.le_refl _) _
  have c0 : (w.alloc (.cells #[.int .i64 off, .slice a D.n ca, .slice b D.m cb] 24)).cell? ⟨w.heap.size, 0, none⟩ = some (.int .i64 off) := by simp
  have c1 : (w.alloc (.cells #[.int .i64 off, .slice a D.n ca, .slice b D.m cb] 24)).cell? ⟨w.heap.size, 1, none⟩ = some (.slice a D.n ca) := by simp
  have c2 : (w.alloc (.cells #[.int .i64 off, .slice a D.n ca, .slice b D.m cb] 24)).cell? ⟨w.heap.size, 2, none⟩ = some (.slice b D.m cb) := by simp
  have hlt : w.heap.size < (w.alloc (.cells #[.int .i64 off, .slice a D.n ca, .slice b D.m cb] 24)).heap.size := by simp
  have HB1 := Lib.hid B1
  obtain ⟨s0, s1⟩ := (instB_iff s).1 hs
  have HD := Lib.hid (show D.Dues s y 0 40 from .inr (.inr (.inl ⟨s0, s1, hy, ht, rfl, rfl⟩)))
  have hi1 := rinstant_any s
  rw [hs] at hi1
  have HI1 := Lib.hid hi1
  have d1 : decide (y < 0) = false := decide_eq_false (by omega)
  have d2 : (y == 0) = false := by simp; omega
  have hlen := rlen_any a D.n ca D.F D.T _ (hS.kept B1) hd.wk.len hd.wk.good
  rw [ht] at hlen
  rw [ho]
  unfold calV
  clear hd hS hR B1 ho hi1 hlt hy hs ht
  go_enter Try.func66, Try.ntmps66
  go_wp2_with fail
  refine (HI1.out _).mono ?_
  rintro e w2 ⟨rfl, rfl⟩
  go_wp2_with fail
  refine hlen.mono ?_
  rintro e w2 ⟨rfl, hb2⟩
  have HB2 := Lib.hid (HB1.out.trans (hb2.mono HB1.out.size))
  clear hlen hb2
  go_wp2_with fail
  go_ret2
  exact ⟨⟨_, _, rfl, HD.out⟩, HB2.out⟩
set_option maxRecDepth 100000 in
set_option maxHeartbeats 8000000 in
theorem rdue_open {D : Cal} (hd : D.ok) (a : Option Addr) (ca : Nat) (b : Option Addr) (cb : Nat) (s y : Int) (w : World) (hS : Sps w a D.n D.F D.T) (hR : Sps w b D.m D.G D.U) (hs : instB s = true) (hy : 0 < y) (hy1 : y ≤ 9223372036854775807) (ht : tsum D.F D.T D.n ≠ 0) :
    Calls Try.prog 66 #[calV D.off a D.n ca b D.m cb, .int .i64 s, .int .i64 y] w fun e w' => (∃ v er, e = .returned (.tuple #[.int .i64 v, .int .i64 er]) ∧ D.Dues s y v er) ∧ Below w.heap.size w w' := by
  have HCNT := Lib.hid (fun (u v : Int) (u0 : 0 ≤ u) (uv : u ≤ v) (v1 : v ≤ 1125899906842624) W (hb : Below w.heap.size w W) => rcount hd a ca b cb u v W (hS.kept hb) (hR.kept hb) u0 uv v1)
  obtain ⟨off, ho⟩ : ∃ o, D.off = o := ⟨_, rfl⟩
  have B1 : Below w.heap.size w (w.alloc (.cells #[.int .i64 off, .slice a D.n ca, .slice b D.m cb] 24)) := (Below.refl _ _).alloc (Nat.le_refl _) _
  have c0 : (w.alloc (.cells #[.int .i64 off, .slice a D.n ca, .slice b D.m cb] 24)).cell? ⟨w.heap.size, 0, none⟩ = some (.int .i64 off) := by simp
  have c1 : (w.alloc (.cells #[.int .i64 off, .slice a D.n ca, .slice b D.m cb] 24)).cell? ⟨w.heap.size, 1, none⟩ = some (.slice a D.n ca) := by simp
  have c2 : (w.alloc (.cells #[.int .i64 off, .slice a D.n ca, .slice b D.m cb] 24)).cell? ⟨w.heap.size, 2, none⟩ = some (.slice b D.m cb) := by simp
  have hlt : w.heap.size < (w.alloc (.cells #[.int .i64 off, .slice a D.n ca, .slice b D.m cb] 24)).heap.size := by simp
  have HB1 := Lib.hid B1
  obtain ⟨s0, s1⟩ := (instB_iff s).1 hs
  have HDU := Lib.hid (fun v e (h : D.DueIs s y v e) => show D.Dues s y v e from .inr (.inr (.inr ⟨s0, s1, hy, ht, h⟩)))
  have hi1 := rinstant_any s
  rw [hs] at hi1
  have HI1 := Lib.hid hi1
  have d1 : decide (y < 0) = false := decide_eq_false (by omega)
  have d2 : (y == 0) = false := by simp; omega
  have d3 : (tsum D.F D.T D.n == 0) = false := by simpa using ht
  have hlen := rlen_any a D.n ca D.F D.T _ (hS.kept B1) hd.wk.len hd.wk.good
  generalize tsum D.F D.T D.n = tt at hlen d3
  have HCELL := Lib.hid (fun W (hb : Below (w.alloc (.cells #[.int .i64 off, .slice a D.n ca, .slice b D.m cb] 24)).heap.size (w.alloc (.cells #[.int .i64 off, .slice a D.n ca, .slice b D.m cb] 24)) W) => And.intro ((hb.cell (p := ⟨w.heap.size, 0, none⟩) hlt).trans c0) (And.intro ((hb.cell (p := ⟨w.heap.size, 1, none⟩) hlt).trans c1) ((hb.cell (p := ⟨w.heap.size, 2, none⟩) hlt).trans c2)))
  have HGM := Lib.hid (fun (u v : Int) (u0 : 0 ≤ u) (uv : u ≤ v) => D.g_mono u0 uv)
  have HGS := Lib.hid (fun (u : Int) (u0 : 0 ≤ u) => D.g_step u u0)
  rw [ho] at HCNT
  rw [ho]
  unfold calV at *
  clear hd hS hR B1 ho hi1 hlt hs ht
  go_enter Try.func66, Try.ntmps66
  go_wp2_with fail
  generalize w.alloc (.cells #[.int .i64 off, .slice a D.n ca, .slice b D.m cb] 24) = W1 at *
  refine (HI1.out _).mono ?_
  rintro e w2 ⟨rfl, rfl⟩
  go_wp2_with fail
  refine hlen.mono ?_
  rintro e w2 ⟨rfl, hb2⟩
  have HB2 := Lib.hid (HB1.out.trans (hb2.mono HB1.out.size))
  have HS2 := Lib.hid hb2
  have hct := HCNT.out s 1125899906842624 s0 s1 (Int.le_refl _) w2 HB2.out
  have hgm := HGM.out s 1125899906842624 s0 s1
  obtain ⟨q, eq⟩ : ∃ q, D.g 1125899906842624 - D.g s = q := ⟨_, rfl⟩
  have q0 : 0 ≤ q := by omega
  rw [eq] at hct
  have HQ := Lib.hid eq
  obtain ⟨k0, k1, k2⟩ := HCELL.out w2 hb2
  clear hlen hb2 c0 c1 c2 eq hgm
  go_wp2_with fail
  refine hct.mono ?_
  rintro e w3 ⟨rfl, hb3⟩
  have HB3 := Lib.hid (HB2.out.trans (hb3.mono HB2.out.size))
  have HS3 := Lib.hid (HS2.out.trans (hb3.mono HS2.out.size))
  clear hct hb3 k0 k1 k2
  by_cases hq : q < y
  · have dq : decide (q < y) = true := decide_eq_true hq
    go_wp2_with fail
    go_ret2
    exact ⟨⟨_, _, rfl, HDU.out 0 10 (.inl ⟨rfl, rfl, by rw [HQ.out]; exact hq⟩)⟩, HB3.out⟩
  · have dq : decide (q < y) = false := decide_eq_false hq
    have hsH : s < 1125899906842624 := by
      rcases Int.lt_or_le s 1125899906842624 with h | h
      · exact h
      · have e : s = 1125899906842624 := by omega
        have := HQ.out
        rw [e] at this
        generalize D.g 1125899906842624 = gH at this
        omega
    have HTOP := Lib.hid (show D.g s + y ≤ D.g 1125899906842624 by
      have := HQ.out
      generalize D.g 1125899906842624 = gH at *
      omega)
    go_wp2_with fail
    go_loopw [8, 9] (fun i j wr => ∃ l h : Int, i = .int .i64 l ∧ j = .int .i64 h ∧ s ≤ l ∧ l < h ∧ h ≤ 1125899906842624 ∧ D.g l < D.g s + y ∧ D.g s + y ≤ D.g h ∧ Below w3.heap.size w3 wr) (fun i j _ => (intOf j - intOf i).toNat)
    case atStart => exact ⟨s, 1125899906842624, rfl, rfl, Int.le_refl _, hsH, Int.le_refl _, by omega, HTOP.out, Below.refl _ _⟩
    case round =>
      obtain ⟨l, h, rfl, rfl, sl, lh, hH, gl, gh, hB⟩ := hrel
      have HSR := Lib.hid (HS3.out.trans (hB.mono HS3.out.size))
      have HBR := Lib.hid (HB3.out.trans (hB.mono HB3.out.size))
      have HBW := Lib.hid hB
      have e1 : IntKind.i64.wrap (h - l) = h - l := IntWalk.i64_in _ (by omega)
      by_cases hone : 1 < h - l
      · have dd : decide (1 < h - l) = true := decide_eq_true hone
        obtain ⟨k, hk⟩ : ∃ k, (h - l) / 2 = k := ⟨_, rfl⟩
        have hk0 : 0 < k := by omega
        have hk1 : k < h - l := by omega
        have e2 : (h - l).tdiv 2 = k := by rw [Int.tdiv_eq_ediv_of_nonneg (by omega), hk]
        have e3 : IntKind.i64.wrap k = k := IntWalk.i64_in _ (by omega)
        have e4 : IntKind.i64.wrap (l + k) = l + k := IntWalk.i64_in _ (by omega)
        obtain ⟨k0, k1, k2⟩ := HCELL.out wr HSR.out
        have hct := HCNT.out s (l + k) s0 (by omega) (by omega) wr HBR.out
        obtain ⟨z, ez⟩ : ∃ z, D.g (l + k) - D.g s = z := ⟨_, rfl⟩
        rw [ez] at hct
        have l0 : 0 ≤ l := by omega
        have HR := Lib.hid (And.intro sl (And.intro hH (And.intro gl gh)))
        have HM := Lib.hid (show s ≤ l + k ∧ l + k < h ∧ l < l + k ∧ (h - (l + k)).toNat < (h - l).toNat ∧ (l + k - l).toNat < (h - l).toNat by omega)
        by_cases hz : z < y
        · have dz : decide (z < y) = true := decide_eq_true hz
          have HZ := Lib.hid (show D.g (l + k) < D.g s + y by omega)
          clear hB sl lh gl gh ez hone
          go_wp2_with fail
          refine hct.mono ?_
          rintro e w5 ⟨rfl, hb5⟩
          have HB5 := Lib.hid (HBW.out.trans (hb5.mono HBW.out.size))
          clear hct hb5 k0 k1 k2
          go_wp2_with fail
          go_roundw
          case rel => exact ⟨l + k, h, rfl, rfl, HM.out.1, HM.out.2.1, HR.out.2.1, HZ.out, HR.out.2.2.2, HB5.out⟩
          case measure => exact HM.out.2.2.2.1
        · have dz : decide (z < y) = false := decide_eq_false hz
          have HZ := Lib.hid (show D.g s + y ≤ D.g (l + k) by omega)
          clear hB sl lh gl gh ez hone
          go_wp2_with fail
          refine hct.mono ?_
          rintro e w5 ⟨rfl, hb5⟩
          have HB5 := Lib.hid (HBW.out.trans (hb5.mono HBW.out.size))
          clear hct hb5 k0 k1 k2
          go_wp2_with fail
          go_roundw
          case rel => exact ⟨l, l + k, rfl, rfl, HR.out.1, HM.out.2.2.1, by have := HM.out.2.1; have := HR.out.2.1; omega, HR.out.2.2.1, HZ.out, HB5.out⟩
          case measure => exact HM.out.2.2.2.2
      · have dd : decide (1 < h - l) = false := decide_eq_false hone
        have eh : h = l + 1 := by omega
        have hst := HGS.out l (by omega)
        rw [← eh] at hst
        have HF := Lib.hid (show D.DueIs s y h 0 by
          refine .inr ⟨rfl, ?_⟩
          have e5 : h - 1 = l := by omega
          rw [e5]
          cases hop : D.opB l with
          | false =>
            rw [hop] at hst
            simp only [Bool.false_eq_true, if_false] at hst
            omega
          | true =>
            rw [hop] at hst
            simp only [if_true] at hst
            exact ⟨by omega, rfl, by omega, hH⟩)
        clear hB hst gl gh eh hone sl lh
        go_wp2_with fail
        go_ret2
        exact ⟨⟨_, _, rfl, HDU.out h 0 HF.out⟩, HBR.out⟩
/-- The reference's Due, whatever is asked. -/
theorem rdue_any {D : Cal} (hd : D.ok) (a : Option Addr) (ca : Nat) (b : Option Addr) (cb : Nat) (s y : Int) (w : World) (hS : Sps w a D.n D.F D.T) (hR : Sps w b D.m D.G D.U) (hy1 : y ≤ 9223372036854775807) :
    Calls Try.prog 66 #[calV D.off a D.n ca b D.m cb, .int .i64 s, .int .i64 y] w fun e w' => (∃ v er, e = .returned (.tuple #[.int .i64 v, .int .i64 er]) ∧ D.Dues s y v er) ∧ Below w.heap.size w w' := by
  by_cases h1 : instB s = true ∧ 0 ≤ y
  · by_cases h2 : y = 0
    · exact rdue_zero hd a ca b cb s y w hS hR h1.1 h2
    · by_cases h3 : tsum D.F D.T D.n = 0
      · exact rdue_closed hd a ca b cb s y w hS hR h1.1 (by omega) h3
      · exact rdue_open hd a ca b cb s y w hS hR h1.1 (by omega) hy1 h3
  · exact rdue_bad hd a ca b cb s y w hS hR h1
/- CalendarCounts. -/
open Go.RowKit
/-- What is due is one thing. -/
theorem Cal.due_same {D : Cal} {s b v e v' e' : Int} (h : D.Dues s b v e) (h' : D.Dues s b v' e') : v = v' ∧ e = e' := by
  rcases h with ⟨h1, h2, h3⟩ | ⟨s0, s1, h1, h2, h3⟩ | ⟨s0, s1, h1, h2, h3, h4⟩ | ⟨s0, s1, h1, h2, h3⟩
  · rcases h' with ⟨_, g2, g3⟩ | ⟨g0, g1, g2, _, _⟩ | ⟨g0, g1, g2, _, _, _⟩ | ⟨g0, g1, g2, _, _⟩
    · exact ⟨by omega, by omega⟩
    · omega
    · omega
    · omega
  · rcases h' with ⟨g1, _, _⟩ | ⟨_, _, _, g2, g3⟩ | ⟨_, _, g2, _, _, _⟩ | ⟨_, _, g2, _, _⟩
    · omega
    · exact ⟨by omega, by omega⟩
    · omega
    · omega
  · rcases h' with ⟨g1, _, _⟩ | ⟨_, _, g1, _, _⟩ | ⟨_, _, _, _, g2, g3⟩ | ⟨_, _, _, g2, _⟩
    · omega
    · omega
    · exact ⟨by omega, by omega⟩
    · exact absurd h2 g2
  · rcases h' with ⟨g1, _, _⟩ | ⟨_, _, g1, _, _⟩ | ⟨_, _, _, g2, _, _⟩ | ⟨_, _, _, _, g3⟩
    · omega
    · omega
    · exact absurd g2 h2
    · unfold Cal.DueIs at h3 g3
      generalize eH : (1125899906842624 : Int) = H at h3 g3
      rcases h3 with ⟨h3, h4, h5⟩ | ⟨h3, h4, h5, h6, h7⟩
      · rcases g3 with ⟨g3, g4, g5⟩ | ⟨g3, g4, g5, g6, g7⟩
        · exact ⟨by omega, by omega⟩
        · have h9 := D.g_mono (a := v') (b := H) (by omega) g7
          omega
      · rcases g3 with ⟨g3, g4, g5⟩ | ⟨g3, g4, g5, g6, g7⟩
        · have h9 := D.g_mono (a := v) (b := H) (by omega) h7
          omega
        · refine ⟨?_, by omega⟩
          have h9 := D.g_step (v - 1) (by omega)
          rw [h5, show v - 1 + 1 = v by omega] at h9
          have h10 := D.g_step (v' - 1) (by omega)
          rw [g5, show v' - 1 + 1 = v' by omega] at h10
          simp only [if_true] at h9 h10
          rcases Int.lt_trichotomy v v' with hc | hc | hc
          · have := D.g_mono (a := v) (b := v' - 1) (by omega) (by omega)
            omega
          · exact hc
          · have := D.g_mono (a := v') (b := v - 1) (by omega) (by omega)
            omega
/-- Elapsed and Rest, both ways, with one answer. -/
def El (D : Cal) (x y v e : Int) : Prop := (instB x = true ∧ instB y = true ∧ x ≤ y ∧ v = D.g y - D.g x ∧ e = 0) ∨ (¬ (instB x = true ∧ instB y = true ∧ x ≤ y) ∧ v = 0 ∧ e = 2)
theorem cel {L : Loc} {D : Cal} {w : World} (h : Ck L D w) (hd : D.ok) (x y : Int) : ∃ v e, (Calls Try.prog 23 #[.pointer (some ⟨L.K, 0, none⟩), .int .i64 x, .int .i64 y] w (Asks L D (.tuple #[.int .i64 v, .int .i64 e]) w)) ∧
    ∀ a ca b cb w', Sps w' a D.n D.F D.T → Sps w' b D.m D.G D.U → Calls Try.prog 67 #[calV D.off a D.n ca b D.m cb, .int .i64 x, .int .i64 y] w' fun en w'' => en = .returned (.tuple #[.int .i64 v, .int .i64 e]) ∧ Below w'.heap.size w' w'' := by
  by_cases hb : instB x = true ∧ instB y = true ∧ x ≤ y
  · obtain ⟨x0, _⟩ := (instB_iff x).1 hb.1
    obtain ⟨_, y1⟩ := (instB_iff y).1 hb.2.1
    exact ⟨_, _, elapsed_ok h hd x y x0 hb.2.2 y1, fun a ca b cb w' hS hR => relapsed_ok hd a ca b cb x y w' hS hR x0 hb.2.2 y1⟩
  · refine ⟨0, 2, (elapsed_bad h x y hb).mono ?_, fun a ca b cb w' hS hR => relapsed_bad hd a ca b cb x y w' hS hR hb⟩
    rintro en w' ⟨rfl, hb⟩
    exact ⟨rfl, h.kept hb, Only.below hb⟩
theorem cre {L : Loc} {D : Cal} {w : World} (h : Ck L D w) (hd : D.ok) (x b y : Int) (b1 : b ≤ 9223372036854775807) : ∃ v e, (Calls Try.prog 44 #[.pointer (some ⟨L.K, 0, none⟩), .int .i64 x, .int .i64 b, .int .i64 y] w (Asks L D (.tuple #[.int .i64 v, .int .i64 e]) w)) ∧
    ∀ a ca b' cb w', Sps w' a D.n D.F D.T → Sps w' b' D.m D.G D.U → Calls Try.prog 45 #[calV D.off a D.n ca b' D.m cb, .int .i64 x, .int .i64 b, .int .i64 y] w' fun en w'' => en = .returned (.tuple #[.int .i64 v, .int .i64 e]) ∧ Below w'.heap.size w' w'' := by
  by_cases b0 : b < 0
  · refine ⟨0, 2, (rest_arg h x b y b0).mono ?_, fun a ca b' cb w' hS hR => rrest_arg hd a ca b' cb x b y w' hS hR b0⟩
    rintro en w' ⟨rfl, hb⟩
    exact ⟨rfl, h.kept hb, Only.below hb⟩
  · by_cases hb : instB x = true ∧ instB y = true ∧ x ≤ y
    · obtain ⟨x0, _⟩ := (instB_iff x).1 hb.1
      obtain ⟨_, y1⟩ := (instB_iff y).1 hb.2.1
      exact ⟨_, _, rest_ok h hd x b y x0 hb.2.2 y1 (by omega) b1, fun a ca b' cb w' hS hR => rrest_ok hd a ca b' cb x b y w' hS hR x0 hb.2.2 y1 (by omega) b1⟩
    · refine ⟨0, 2, (rest_bad h x b y b0 hb).mono ?_, fun a ca b' cb w' hS hR => rrest_bad hd a ca b' cb x b y w' hS hR b0 hb⟩
      rintro en w' ⟨rfl, hb⟩
      exact ⟨rfl, h.kept hb, Only.below hb⟩

end Go.Proofs.Ythnnbmofpmedhaa
