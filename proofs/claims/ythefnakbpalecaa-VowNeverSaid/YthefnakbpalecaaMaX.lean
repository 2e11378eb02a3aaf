import Derived.Test.YthefnakbpalecaaMaW
import Derived.Test.YthefnakbpalecaaMaF
import Derived.Test.YthefnakbpalecaaDkZ
import Derived.Deep.DeepCutAuto
namespace Go.Proofs.Ythefnakbpalecaa
open Go.RowKit
/- The vow: lines in a row, as they are read. No Go text here. -/
open Go.RowKit Go.Maps
theorem rows_frm (k : Nat) (body more : List Nat) (hk : k ≠ 0) (hn : body.length ≤ 65536) (hb : ∀ c ∈ body, c < 256) : rowsOf (frm k body ++ more) = (k, body) :: rowsOf more := by
  have ht := take_frm k body more hk hn hb
  rw [rows_yes (by rw [ht]), ht]
  dsimp only
  rw [List.drop_left' (by rw [frm_len])]
theorem rdOk_line (t u : Nat) (ht : t ≤ 1152921504606846976) (hu : u ≤ 7) : rdOk 3 (num 0 t ++ num 0 u) = true ∧ rdT (num 0 t ++ num 0 u) = t ∧ rdU (num 0 t ++ num 0 u) = u := by
  have h1 := rNum_back t (num 0 u) (by omega) 1152921504606846976 ht
  have h2 := rNum_back u [] (by omega) 7 hu
  rw [List.append_nil] at h2
  have e1 : nR 1152921504606846976 (num 0 t ++ num 0 u) = num 0 u := by unfold nR; rw [h1]
  have e2 : nN 1152921504606846976 (num 0 t ++ num 0 u) = t := by unfold nN; rw [h1]
  have e3 : nR 7 (num 0 u) = [] := by unfold nR; rw [h2]
  have e4 : nN 7 (num 0 u) = u := by unfold nN; rw [h2]
  have e5 : nB 7 (num 0 u) = false := by unfold nB; rw [h2]
  refine ⟨?_, e2, by unfold rdU; rw [e1, e4]⟩
  unfold rdOk
  rw [e1, e3, e5]; rfl
theorem vRows_line (t u : Nat) (ht : t ≤ 1152921504606846976) (hu : u ≤ 7) (more : List Nat) (t0 : Nat) (v0 : Int) (g : Nat) :
    vRows (rowsOf (lineB t u ++ more)) t0 v0 g = vRows (rowsOf more) t ((u : Int) - 1) (g + (lineB t u).length) := by
  obtain ⟨h1, h2, h3⟩ := rdOk_line t u ht hu
  unfold lineB
  rw [rows_frm 3 _ more (by omega) (by have := body_len t u (by omega) (by omega); omega) (body_lt t u (by omega) (by omega)), vRows_cons, if_pos h1, h2, h3, frm_len]
theorem rowsOf_nil : rowsOf [] = [] := rows_no (by rw [ftake_nil]; decide)
theorem vRead_one (t u : Nat) (ht : t ≤ 1152921504606846976) (hu : u ≤ 7) : vRead (lineB t u) = (t, (u : Int) - 1, (lineB t u).length) := by
  have h := vRows_line t u ht hu [] 0 (-1) 0
  rw [List.append_nil, rowsOf_nil, vRows_nil, Nat.zero_add] at h
  exact h
theorem line_one (t u : Nat) : 8 ≤ (lineB t u).length := by unfold lineB; rw [frm_len]; omega
/- The vow: the chapter's example. -/
open Go.RowKit Go.Maps
/-- The example's disks: new; with a line; after a crash. -/
def e0 : Dd := ⟨1000, [], 0, false, false, 0⟩
def e1 (X : List Nat) : Dd := ⟨1000, [(nVow, ⟨X, X.length⟩)], 2, false, false, 0⟩
def e2 (X : List Nat) : Dd := ⟨1000, [(nVow, ⟨X, X.length⟩)], 3, false, false, 0⟩
theorem ex_open0 : openV e0 = (e0, 0, 0, -1) := rfl
theorem ex_keep0 (X : List Nat) (hX : lineB 3 2 = X) (h1 : X.length ≤ 26) : keepV e0 0 (-1) 3 1 = (e1 X, 0, 3, 1) := by
  have hs : storeD e0 (lineB 3 2) = (e1 X, 0) := by
    rw [hX]
    have ha : appendD e0 nVow X = (⟨1000, [(nVow, ⟨X, 0⟩)], 1, false, false, 0⟩, 0) := by
      have hf : ¬ (freeD e0 < (X.length : Int)) := by unfold freeD e0; simp [sumF]; omega
      unfold appendD
      rw [if_neg (show ¬ e0.down = true by decide), if_neg (show ¬ validN nVow = false by decide)]
      show (if 128 ≤ e0.fs.length then _ else if freeD e0 < (X.length : Int) then _ else _) = _
      rw [if_neg (by decide), if_neg hf]
      rfl
    unfold storeD
    rw [if_neg (by decide), if_pos (by decide)]
    unfold writeD
    rw [ha]
    rfl
  unfold keepV
  rw [if_neg (by decide), if_neg (by decide), if_neg (by decide)]
  rw [show (1 + 1 : Int).toNat = 2 from rfl, hs]
  rfl
theorem ex_crash (X : List Nat) (h : X ≠ []) : bootD (crashD (e1 X) []) = e1 X := by
  unfold crashD e1 bootD
  simp only [crashF]
  rw [if_neg (by omega)]
  simp only [oneF, if_neg h, List.append_nil]
theorem ex_open1 (X : List Nat) (hX : lineB 3 2 = X) : openV (e1 X) = (e2 X, 0, 3, 1) := by
  have hv : vRead X = (3, 1, X.length) := by rw [← hX, vRead_one 3 2 (by omega) (by omega)]; rfl
  have hd : discD (e1 X) = (e1 X, 0) := rfl
  unfold openV
  rw [hd, if_pos rfl]
  show loadV (e1 X) = _
  unfold loadV
  rw [show getF (e1 X).fs nVow = some ⟨X, X.length⟩ from rfl]
  dsimp only
  rw [hv]
  dsimp only
  rw [if_neg (by omega)]
  rfl
theorem ex_keep1 (X : List Nat) : keepV (e2 X) 3 1 3 2 = (e2 X, 34, 3, 1) := by
  unfold keepV
  rw [if_neg (by decide), if_pos (by decide)]
set_option maxRecDepth 100000 in
set_option maxHeartbeats 8000000 in
theorem lives26 (w : World) : Calls Try.prog 31 #[] w fun e w' => e = .returned (.bool true) ∧ Below w.heap.size w w' := by
  obtain ⟨X, hX⟩ : ∃ X, lineB 3 2 = X := ⟨_, rfl⟩
  have hXl : X.length ≤ 26 := by rw [← hX]; exact lineB_len 3 2 (by omega) (by omega)
  have hXn : X ≠ [] := fun h => by have := line_one 3 2; rw [hX, h] at this; simp at this
  have K0 := Lib.hid (ex_keep0 X hX hXl)
  have K1 := Lib.hid (ex_crash X hXn)
  have K2 := Lib.hid (ex_open1 X hX)
  have K3 := Lib.hid (ex_keep1 X)
  clear hX hXl hXn
  go_enter Try.func31, Try.ntmps31
  go_wp2_with fail
  refine (new_dk 1000 w (by decide)).mono ?_
  rintro e w1 ⟨B, rfl, hB, ⟨m, mt, M, V, h⟩, hb⟩
  have HO := Lib.hid (vopen_any (D := e0) h (by decide))
  rw [ex_open0] at HO
  have HS : Hid (∀ k, (fun k => w.heap.size ≤ k ∧ k < w1.heap.size) k → w.heap.size ≤ k) := Lib.hid (fun k hk => hk.1)
  obtain ⟨S, hS⟩ : ∃ S : Nat → Prop, (fun k => w.heap.size ≤ k ∧ k < w1.heap.size) = S := ⟨_, rfl⟩
  rw [hS] at HO HS
  have HB := Lib.hid hb
  have HBB := Lib.hid hB
  clear h hb hB hS
  go_wp2_with fail
  refine HO.out.mono ?_
  rintro e w2 ⟨S2, ⟨m2, mt2, M2, V2, hd2⟩, hf2, ⟨hne, -⟩ | ⟨-, b, rfl, hbk, hbz, hbs⟩⟩
  · exact absurd rfl hne
  obtain ⟨hb2, hs2⟩ := fr_below HB.out HB.out.size HS.out hf2
  have HB2 := Lib.hid hb2
  have HS2 := Lib.hid hs2
  have HK := Lib.hid (vkeep_any hd2 (by decide) hbk hbs 3 1)
  dsimp only at HK
  rw [K0.out] at HK
  have HBZ := Lib.hid (Nat.le_trans HB.out.size hbz)
  clear hd2 hf2 hbk hbz hbs hb2 hs2 HB HS HO
  go_wp2_with fail
  refine HK.out.mono ?_
  rintro e w3 ⟨S3, rfl, ⟨m3, mt3, M3, V3, hd3⟩, hbk3, hbs3, hss3, ho3⟩
  have HB3 := Lib.hid (HB2.out.trans (ho3.toBelow HB2.out.size (fun k hk => hk.elim (HS2.out k) (fun e => e ▸ HBZ.out))))
  have HS3 : Hid (∀ k, S3 k → w.heap.size ≤ k) := Lib.hid (fun k hk => (hss3 k hk).elim (HS2.out k) (fun h => Nat.le_trans HB2.out.size h))
  have HC := Lib.hid (dcrash_did hd3 none 0 [] (fun i hi => by cases hi) (Nat.le_refl _) (fun t ht => by cases ht))
  clear hd3 hbk3 hbs3 hss3 ho3 HB2 HS2 HK HBZ
  go_wp2_with fail
  refine HC.out.mono ?_
  rintro e w4 ⟨S4, rfl, ⟨m4, mt4, M4, V4, hd4⟩, hf4⟩
  obtain ⟨hb4, hs4⟩ := fr_below HB3.out HB3.out.size HS3.out hf4
  have HB4 := Lib.hid hb4
  have HS4 := Lib.hid hs4
  have HBO := Lib.hid (dboot_any hd4)
  rw [K1.out] at HBO
  clear hd4 hf4 hb4 hs4 HB3 HS3 HC
  go_wp2_with fail
  refine HBO.out.mono ?_
  rintro e w5 ⟨S5, rfl, ⟨m5, mt5, M5, V5, hd5⟩, hf5⟩
  obtain ⟨hb5, hs5⟩ := fr_below HB4.out HB4.out.size HS4.out hf5
  have HB5 := Lib.hid hb5
  have HS5 := Lib.hid hs5
  have HO := Lib.hid (vopen_any hd5 (show (2 : Nat) < 900000000 by omega))
  rw [K2.out] at HO
  clear hd5 hf5 hb5 hs5 HB4 HS4 HBO
  go_wp2_with fail
  refine HO.out.mono ?_
  rintro e w6 ⟨S6, ⟨m6, mt6, M6, V6, hd6⟩, hf6, ⟨hne, -⟩ | ⟨-, b6, rfl, hbk, hbz, hbs⟩⟩
  · exact absurd rfl hne
  obtain ⟨hb6, hs6⟩ := fr_below HB5.out HB5.out.size HS5.out hf6
  have HB6 := Lib.hid hb6
  have HS6 := Lib.hid hs6
  have HD6 := Lib.hid hd6
  have HBK := Lib.hid hbk
  have HBS := Lib.hid hbs
  have HBZ := Lib.hid (Nat.le_trans HB5.out.size hbz)
  clear hd6 hf6 hbk hbz hbs hb6 hs6 HB5 HS5 HO
  go_wp2_with fail
  refine (vstate_yes HBK.out).mono ?_
  rintro e w7 ⟨rfl, hb7⟩
  have HB7 := Lib.hid (HB6.out.trans (hb7.mono HB6.out.size))
  have HK := Lib.hid (vkeep_any (HD6.out.below hb7) (show (3 : Nat) < 800000000 by omega) (show BK w7 b6 B 3 1 from ex_below HBK.out hb7) HBS.out 3 2)
  dsimp only at HK
  rw [K3.out] at HK
  clear hb7
  go_wp2_with fail
  refine HK.out.mono ?_
  rintro e w8 ⟨S8, rfl, -, -, -, -, ho8⟩
  have HB8 := Lib.hid (HB7.out.trans (ho8.toBelow HB7.out.size (fun k hk => hk.elim (HS6.out k) (fun e => e ▸ HBZ.out))))
  clear ho8
  go_wp2_with fail
  go_ret
  exact ⟨rfl, HB8.out⟩
end Go.Proofs.Ythefnakbpalecaa
