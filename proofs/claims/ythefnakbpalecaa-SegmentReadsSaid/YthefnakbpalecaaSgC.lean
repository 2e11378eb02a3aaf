/- Segments: readLine. -/
import Derived.Test.YthefnakbpalecaaSgB
import Derived.Deep.DeepCutAuto
namespace Go.Proofs.Ythefnakbpalecaa
open Go.RowKit
theorem en_info : (Try.prog.info? 31).map (·.size) = some 3 := by kernel_rfl
theorem en_res {fn : Func} {p q : Nat} (h : fn.results = #[.cell p 31, .tmp q]) (tmps : Array Value) (w : World) (N : Nat) (x0 x1 x2 y : Value) (hp : tmps.getD p undef = .pointer (some ⟨N, 0, none⟩)) (hq : tmps.getD q undef = y) (h0 : w.cell? ⟨N, 0, none⟩ = some x0) (h1 : w.cell? ⟨N, 1, none⟩ = some x1) (h2 : w.cell? ⟨N, 2, none⟩ = some x2) : (results fn tmps).run Try.prog w = .ok (.tuple #[.agg #[x0, x1, x2], y]) w := by
  have hR : w.rangeAt N 0 [x0, x1, x2] := fun j u hj => by
    rcases j with _ | _ | _ | j
    · injection hj with hj; subst hj; exact h0
    · injection hj with hj; subst hj; exact h1
    · injection hj with hj; subst hj; exact h2
    · cases hj
  have hl := run_loadVar_mid w N 0 _ [x0, x1, x2] _ hR Try.underlying31 rfl en_info
  have hp' : tmps[p]?.getD undef = .pointer (some ⟨N, 0, none⟩) := by simpa using hp
  have hq' : tmps[q]?.getD undef = y := by simpa using hq
  clear hR
  simp [results, h, hp', hq', asAddr, go_sem, h0, h1, h2, Result.andThen]
/-- What readLine owes. -/
def RdLn (w : World) (ok : Bool) (x : Ent) (e : Ending) (w' : World) : Prop :=
  Below w.heap.size w w' ∧ ((ok = true ∧ ∃ g c, e = .returned (.tuple #[.agg #[.int .u64 (x.t : Int), .int .i64 x.k, .slice (some ⟨g, 0, none⟩) x.d.length c], .bool true]) ∧ RB w' (.slice (some ⟨g, 0, none⟩) x.d.length c) x.d ∧ w.heap.size ≤ g ∧ g < w'.heap.size) ∨
    (ok = false ∧ e = .returned (.tuple #[.agg #[.int .u64 0, .int .i64 0, .slice none 0 0], .bool false])))
theorem rNum_some {n : Nat} {ds : List Nat} {m : Nat} {rest : List Nat} (h : rNum n ds = some (m, rest)) : m ≤ n ∧ ((∀ c ∈ ds, c < 256) → ∀ c ∈ rest, c < 256) := by
  unfold rNum at h
  cases hr : rnum ds with
  | none => rw [hr] at h; cases h
  | some p =>
    obtain ⟨q, bl, r⟩ := p
    rw [hr] at h
    cases bl with
    | true => cases h
    | false =>
      dsimp only at h
      by_cases hq : q ≤ n
      · rw [if_pos hq] at h
        simp only [Option.some.injEq, Prod.mk.injEq] at h
        obtain ⟨rfl, rfl⟩ := h
        refine ⟨hq, fun hlt c hc => ?_⟩
        have := (rnum_enc hr hlt).1
        exact hlt c (by rw [this]; exact List.mem_append_right _ hc)
      · rw [if_neg hq] at h; cases h
theorem tN_ok (n : Nat) (ds : List Nat) (hlt : ∀ c ∈ ds, c < 256) : (tN (n : Int) ds).length ≤ n ∧ ∀ c ∈ tN (n : Int) ds, c < 256 := by
  unfold tN
  rw [rText_pos]
  cases hq : rNum n ds with
  | none => exact ⟨Nat.zero_le _, fun c hc => by cases hc⟩
  | some p =>
    obtain ⟨m, rest⟩ := p
    obtain ⟨h1, h2⟩ := rNum_some hq
    dsimp only
    by_cases hm : m ≤ rest.length
    · rw [if_pos hm]
      dsimp only
      exact ⟨by rw [List.length_take]; omega, fun c hc => h2 hlt c (List.mem_of_mem_take hc)⟩
    · rw [if_neg hm]
      exact ⟨Nat.zero_le _, fun c hc => by cases hc⟩
theorem nR_lt (n : Nat) (ds : List Nat) (hlt : ∀ c ∈ ds, c < 256) : ∀ c ∈ nR n ds, c < 256 := by
  unfold nR
  cases hq : rNum n ds with
  | none => exact fun c hc => by cases hc
  | some p => exact (rNum_some hq).2 hlt
set_option maxRecDepth 100000 in
set_option maxHeartbeats 1000000 in
theorem rline_any (kd : Nat) (v : Value) (bs : List Nat) (idx : Nat) (w : World) (hb : RB w v bs) (hl : bs.length ≤ 2000000) (hkd : kd < 256) (hidx : idx < 18446744073709551616) :
    Calls Try.prog 71 #[.int .u8 (kd : Int), v, .int .u64 (idx : Int)] w (RdLn w (lnOk kd bs idx) (entOf bs)) := by
  have HOP := Lib.hid (open_any v bs w hb (by omega))
  have HRB := Lib.hid hb
  have hlt := hb.1
  obtain ⟨hd1, hd2⟩ := tN_ok 4096 (en3 bs) (nR_lt _ _ (nR_lt _ _ (nR_lt _ _ hlt)))
  obtain ⟨a, c, rfl, -, -⟩ := hb.shape
  obtain ⟨L, hL⟩ : ∃ L, bs.length = L := ⟨_, rfl⟩
  rw [hL] at HOP HRB ⊢
  obtain ⟨ix, hix⟩ : ∃ T, nN 18446744073709551615 bs = T := ⟨_, rfl⟩
  obtain ⟨T, hT⟩ : ∃ T, nN 1152921504606846976 (en1 bs) = T := ⟨_, rfl⟩
  obtain ⟨K, hK⟩ : ∃ T, nN 3 (en2 bs) = T := ⟨_, rfl⟩
  obtain ⟨d, hd⟩ : ∃ T, tN 4096 (en3 bs) = T := ⟨_, rfl⟩
  obtain ⟨R, hR⟩ : ∃ T, tR 4096 (en3 bs) = T := ⟨_, rfl⟩
  obtain ⟨X, hX⟩ : ∃ T, tB 4096 (en3 bs) = T := ⟨_, rfl⟩
  have hK3 : K ≤ 3 := by rw [← hK]; exact nN_le _ _
  have hix2 : ix ≤ 18446744073709551615 := by rw [← hix]; exact nN_le _ _
  have hEN : entOf bs = ⟨T, (K : Int), d⟩ := by unfold entOf; rw [hT, hK, hd]
  have HH : Hid (lnOk kd bs idx = (decide (kd = 2) && (decide (ix = idx) && ((!X && decide (R = [])) && sdE T (K : Int) d.length)))) := Lib.hid (by unfold lnOk; rw [hEN, hix, hR, hX])
  rw [hEN]
  have hcd : ((4096 : Nat) : Int) = 4096 := rfl
  rw [hcd] at hd1 hd2
  rw [hd] at hd1 hd2
  have HIX := Lib.hid hix
  have HT := Lib.hid hT
  have HK := Lib.hid hK
  have HD := Lib.hid hd
  have HR := Lib.hid hR
  have HX := Lib.hid hX
  have HD1 := Lib.hid hd1
  have HD2 := Lib.hid hd2
  obtain ⟨z, hz⟩ : ∃ z, lnOk kd bs idx = z := ⟨_, rfl⟩
  have HZ := Lib.hid hz
  rw [hz]
  obtain ⟨B0, s0, z0⟩ := box1 w #[.int .u64 0, .int .i64 0, .slice none 0 0] 31
  have HB0 := Lib.hid B0
  have HS0 := Lib.hid s0
  clear hlt hd1 hd2 hb hL hix hT hK hd hR hX hEN hcd hz B0 s0 z0
  go_enter Try.func71, Try.ntmps71
  go_upto_region 1 with fail
  obtain ⟨N, hN⟩ : ∃ N, w.heap.size = N := ⟨_, rfl⟩
  have HN := Lib.hid hN
  rw [hN] at HS0
  try rw [hN]
  clear hN
  have HOP1 : Hid (∀ W, RB W (.slice a L c) bs → Calls Try.prog 99 #[.slice a L c] W (Opens W bs)) := Lib.hid (fun W hW => open_any _ bs W hW (by omega))
  have HRB1 := Lib.hid (HRB.out.kept HB0.out)
  generalize w.alloc (.cells #[.int .u64 0, .int .i64 0, .slice none 0 0] 31) = w1 at HB0 HS0 HRB1 ⊢
  go_wp2_with fail
  refine (HOP1.out _ HRB1.out).mono ?_
  rintro e w2 ⟨b, rfl, hbz, hr2, hb2⟩
  have HB2 := Lib.hid (HB0.out.trans (hb2.mono HB0.out.size))
  have HS2 := Lib.hid (ex_below HS0.out hb2)
  have HBZ : Hid (w.heap.size ≤ b ∧ N ≠ b) := Lib.hid ⟨Nat.le_trans HB0.out.size hbz, by have := ex_lt HS0.out; omega⟩
  have HN1 := Lib.hid (num_rd2 b 18446744073709551615 18446744073709551615 (by omega) bs false w2 hr2)
  rw [HIX.out] at HN1
  clear hbz hr2 hb2 HOP HOP1 HB0 HS0 HRB1
  go_wp2_with fail
  refine HN1.out.mono ?_
  rintro e w3 ⟨rfl, hr3, ht3⟩
  have HB3 := Lib.hid (Rd.outside ht3 HB2.out HB2.out.size HBZ.out.1)
  have HS3 := Lib.hid (Rd.keep ht3 HS2.out HBZ.out.2)
  have HN2 := Lib.hid (num_rd2 b 1152921504606846976 1152921504606846976 (by omega) _ _ w3 hr3)
  have hT3 := HT.out
  unfold en1 at hT3
  rw [hT3] at HN2
  clear hr3 ht3 hT3 HN1 HB2 HS2
  go_wp2_with fail
  refine HN2.out.mono ?_
  rintro e w4 ⟨rfl, hr4, ht4⟩
  have HB4 := Lib.hid (Rd.outside ht4 HB3.out HB3.out.size HBZ.out.1)
  have HS4 := Lib.hid (Rd.keep ht4 HS3.out HBZ.out.2)
  have HN3 := Lib.hid (num_rd2 b 3 3 (by omega) _ _ w4 hr4)
  have hK4 := HK.out
  unfold en2 en1 at hK4
  rw [hK4] at HN3
  clear hr4 ht4 hK4 HN2 HB3 HS3
  go_wp2_with fail
  refine HN3.out.mono ?_
  rintro e w5 ⟨rfl, hr5, ht5⟩
  have HB5 := Lib.hid (Rd.outside ht5 HB4.out HB4.out.size HBZ.out.1)
  have HS5 := Lib.hid (Rd.keep ht5 HS4.out HBZ.out.2)
  have HTX := Lib.hid (text_rd1 b 4096 _ _ w5 hr5 (by omega))
  have hD5 := HD.out
  have hR5 := HR.out
  have hX5 := HX.out
  unfold en3 en2 en1 at hD5 hR5 hX5
  rw [hD5, hR5, hX5] at HTX
  have kw : IntKind.i64.wrap ((K : Nat) : Int) = ((K : Nat) : Int) := IntWalk.i64_in _ (by omega)
  clear hr5 ht5 hD5 hR5 hX5 HN3 HB4 HS4
  go_wp2_with fail
  refine HTX.out.mono ?_
  rintro e w6 ⟨rfl, hr6, ht6⟩
  have HB6 := Lib.hid (Rd.outside ht6 HB5.out HB5.out.size HBZ.out.1)
  have HS6 := Lib.hid (Rd.keep ht6 HS5.out HBZ.out.2)
  obtain ⟨g, cap, w7, hcv, hrb7, hg1, hg2, hb7⟩ := bytes_fresh w6 d HD2.out (by have := HD1.out; omega)
  have HB7 := Lib.hid (HB6.out.trans (hb7.mono HB6.out.size))
  have HS7 := Lib.hid (ex_below HS6.out hb7)
  have HR7 := Lib.hid (hr6.kept hb7)
  have HRB7 := Lib.hid hrb7
  have HG : Hid (w.heap.size ≤ g ∧ g < w7.heap.size ∧ g ≠ N) := Lib.hid ⟨Nat.le_trans HB6.out.size hg1, hg2, by have := ex_lt HS6.out; omega⟩
  obtain ⟨dl, hdl⟩ : ∃ x, d.length = x := ⟨_, rfl⟩
  have HDL := Lib.hid hdl
  rw [hdl] at hcv HRB7
  obtain ⟨b8, s8, z8⟩ := box1 w7 #[.int .u64 (T : Int), .int .i64 (K : Int), .slice (some ⟨g, 0, none⟩) dl cap] 31
  have HB8 := Lib.hid (HB7.out.trans (b8.mono HB7.out.size))
  have HS8 := Lib.hid (ex_below HS7.out b8)
  have HE8 := Lib.hid s8
  have HR8 := Lib.hid (HR7.out.kept b8)
  have HRB8 := Lib.hid (HRB7.out.kept b8)
  have HZ8 := Lib.hid z8
  clear hr6 ht6 hrb7 hg1 hg2 hb7 b8 s8 z8 HB5 HS5 HB6 HS6 HB7 HS7 HR7 HRB7 HTX hdl
  have HH2 := HH.out
  rw [HZ.out] at HH2
  have HHZ := Lib.hid HH2
  clear HH2
  obtain ⟨k0, k1, k2⟩ := three_rd HS8.out
  have f8 : ∀ o, (w7.alloc (.cells #[.int .u64 (T : Int), .int .i64 (K : Int), .slice (some ⟨g, 0, none⟩) dl cap] 31)).frozen? ⟨N, o, none⟩ = false := fun o => by
    have h3 := HS8.out
    simp only [World.frozen?, h3]; rfl
  by_cases hk : kd = 2
  · subst hk
    by_cases hx : ix = idx
    · subst hx
      have e1 : ((ix : Int) != (ix : Int)) = false := by simp
      go_wp2_with fail
      clear k0 k1 k2 f8
      obtain ⟨x8, hx8⟩ : ∃ x, w7.heap.size = x := ⟨_, rfl⟩
      rw [hx8] at HE8
      try rw [hx8]
      generalize w7.alloc (.cells #[.int .u64 (T : Int), .int .i64 (K : Int), .slice (some ⟨g, 0, none⟩) dl cap] 31) = w8 at HB8 HS8 HE8 HR8 HRB8 HZ8 ⊢
      try rw [hx8]
      rw [hx8] at HZ8
      have HX8 := Lib.hid hx8
      clear hx8
      obtain ⟨k0, k1, k2⟩ := three_rd HS8.out
      have f8 : ∀ o, w8.frozen? ⟨N, o, none⟩ = false := fun o => by simp [World.frozen?, HS8.out]
      have HE := Lib.hid (end_rd b R X w8 HR8.out)
      by_cases hok : X = false ∧ R = []
      · have he : endOf R X = 0 := by
          unfold endOf
          rw [if_neg]
          rintro (h | h)
          · rw [hok.1] at h; cases h
          · exact h hok.2
        rw [he] at HE
        obtain ⟨y, hy⟩ : ∃ y, sdE T (K : Int) dl = y := ⟨_, rfl⟩
        have HF0 : Hid (z = y) := Lib.hid (by rw [HHZ.out, hok.1, hok.2, HDL.out, hy]; simp)
        have HSN : Hid (Calls Try.prog 21 #[.agg #[.int .u64 (T : Int), .int .i64 (K : Int), .slice (some ⟨g, 0, none⟩) dl cap]] w8 fun e w' => e = .returned (.bool y) ∧ Below w8.heap.size w8 w') := Lib.hid (by rw [← hy]; exact ssound_any T (K : Int) (some ⟨g, 0, none⟩) dl cap w8)
        obtain ⟨p0, p1, p2⟩ := three_rd HE8.out
        clear hy
        refine HE.out.mono ?_
        rintro e w9 ⟨rfl, rfl⟩
        go_wp2_with fail
        refine HSN.out.mono ?_
        rintro e w9 ⟨rfl, hb9⟩
        have HB9 := Lib.hid (HB8.out.trans (hb9.mono HB8.out.size))
        have HS9 := Lib.hid (ex_below HS8.out hb9)
        have HE9 := Lib.hid (ex_below HE8.out hb9)
        have HRB9 := Lib.hid (HRB8.out.kept hb9)
        have HZ9 : Hid (g < w9.heap.size) := Lib.hid (by have h1 := HG.out.2.1; have h2 := HZ8.out; have h3 := hb9.size; have h4 := HX8.out; omega)
        clear hb9 k0 k1 k2 f8 p0 p1 p2
        obtain ⟨k0, k1, k2⟩ := three_rd HS9.out
        obtain ⟨p0, p1, p2⟩ := three_rd HE9.out
        have f9 : ∀ o, w9.frozen? ⟨N, o, none⟩ = false := fun o => by simp [World.frozen?, HS9.out]
        cases y with
        | true =>
          go_wp2_with fail
          refine bodyPost_ret (en_res rfl _ _ N (.int .u64 (T : Int)) (.int .i64 (K : Int)) (.slice (some ⟨g, 0, none⟩) dl cap) (.bool true) rfl rfl (by go_simp) (by go_simp) (by go_simp)) rfl ?_
          have hN2 := HN.out
          refine ⟨below_two (below_two (below_two HB9.out (by omega) _ _) (by omega) _ _) (by omega) _ _, .inl ⟨HF0.out, g, cap, ?_, ?_, HG.out.1, by simp; exact HZ9.out⟩⟩
          · dsimp only; rw [HDL.out]
          · dsimp only
            rw [HDL.out]
            have hgN := HG.out.2.2
            refine RB.keptX HRB9.out (((Kept.setCell (X := fun q => q = N) w9 ⟨N, 0, none⟩ _ rfl).trans (Kept.setCell (X := fun q => q = N) _ ⟨N, 1, none⟩ _ rfl)).trans (Kept.setCell (X := fun q => q = N) _ ⟨N, 2, none⟩ _ rfl)) (fun q hq h => ?_)
            injection hq with hq
            exact hgN (hq.trans h)
        | false =>
          have HF : Hid (z = false) := Lib.hid HF0.out
          go_wp2_with fail
          refine bodyPost_ret (en_res rfl _ _ N (.int .u64 0) (.int .i64 0) (.slice none 0 0) (.bool false) rfl rfl (by go_simp) (by go_simp) (by go_simp)) rfl ?_
          have hN2 := HN.out
          exact ⟨below_two (below_two (below_two HB9.out (by omega) _ _) (by omega) _ _) (by omega) _ _, .inr ⟨HF.out, rfl⟩⟩
      · have he : endOf R X = 20 := by
          unfold endOf; rw [if_pos]
          by_cases hb : X = true
          · exact .inl hb
          · refine .inr (fun h => hok ⟨by simpa using hb, h⟩)
        rw [he] at HE
        have HF : Hid (z = false) := Lib.hid (by
          rw [HHZ.out]
          cases X
          · have : R ≠ [] := fun h => hok ⟨rfl, h⟩
            simp [this]
          · simp)
        refine HE.out.mono ?_
        rintro e w9 ⟨rfl, rfl⟩
        go_wp2_with fail
        refine bodyPost_ret (en_res rfl _ _ N (.int .u64 0) (.int .i64 0) (.slice none 0 0) (.bool false) rfl rfl (by go_simp) (by go_simp) (by go_simp)) rfl ?_
        have hN2 := HN.out
        exact ⟨below_two (below_two (below_two HB8.out (by omega) _ _) (by omega) _ _) (by omega) _ _, .inr ⟨HF.out, rfl⟩⟩
    · have g0 : ((ix : Int) == (idx : Int)) = false := by simp; omega
      have g1 : decide ((ix : Int) = (idx : Int)) = false := decide_eq_false (by omega)
      have g2 : (ix == idx) = false := by simp [hx]
      have g3 : decide (ix = idx) = false := decide_eq_false hx
      have g4 : ¬ ((ix : Int) = (idx : Int)) := by omega
      have g5 : ((ix : Int) != (idx : Int)) = true := by simp; omega
      have HF : Hid (z = false) := Lib.hid (by rw [HHZ.out]; simp [hx])
      go_wp2_with fail
      refine bodyPost_ret (en_res rfl _ _ N (.int .u64 0) (.int .i64 0) (.slice none 0 0) (.bool false) rfl rfl (by go_simp) (by go_simp) (by go_simp)) rfl ?_
      have hN2 := HN.out
      exact ⟨below_two (below_two (below_two HB8.out (by omega) _ _) (by omega) _ _) (by omega) _ _, .inr ⟨HF.out, rfl⟩⟩
  · have HF : Hid (z = false) := Lib.hid (by rw [HHZ.out]; simp [hk])
    have g0 : ((kd : Int) == 2) = false := by simp; omega
    have g1 : decide ((kd : Int) = 2) = false := decide_eq_false (by omega)
    have g2 : (kd == 2) = false := by simp; omega
    have g3 : decide (kd = 2) = false := decide_eq_false hk
    have g4 : ((kd : Int) != 2) = true := by simp; omega
    go_wp2_with fail
    refine bodyPost_ret (en_res rfl _ _ N (.int .u64 0) (.int .i64 0) (.slice none 0 0) (.bool false) rfl rfl (by go_simp) (by go_simp) (by go_simp)) rfl ?_
    have hN2 := HN.out
    exact ⟨below_two (below_two (below_two HB8.out (by omega) _ _) (by omega) _ _) (by omega) _ _, .inr ⟨HF.out, rfl⟩⟩
end Go.Proofs.Ythefnakbpalecaa
