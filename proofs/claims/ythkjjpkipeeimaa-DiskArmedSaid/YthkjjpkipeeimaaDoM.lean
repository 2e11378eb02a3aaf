/- The law's do where the reference's disk is not armed. -/
import Derived.Test.YthkjjpkipeeimaaDoL
namespace Go.Proofs.Ythkjjpkipeeimaa
open Go.RowKit Go.Maps
def DoP2 (S : Nat → Prop) (w : World) (B : Nat) (e : Ending) (w' : World) (D' Q' : Dd) : Prop := ∃ S' a' c' ar' b, e = .returned (.tuple #[RVal Q' a' c' ar', .bool b]) ∧ DK S' w' B D' ∧ Fr S w S' w' ∧ RA S' w' Q' a' ar'
set_option maxRecDepth 100000 in
set_option maxHeartbeats 8000000 in
theorem dp_sync {S : Nat → Prop} {w : World} {B m mt : Nat} {D Q : Dd} {M : Lit → Option Value} {V : Nm → Value} {B0 : Nat} {a : Option Addr} (c : Nat) {ar : Int} (h : DKx S w B m mt D M V) (hra : RA S w Q a ar) (hfq : FitD Q) (hst : D.st < 1000000) (n : Int) (nm tt tx : List UInt8) (ts : List (Nat × Nat)) (ya : Option Addr) (yc : Nat) (hl : nm.length ≤ 100) (hstq : Q.st < 1000000) : Calls Try.prog 16 #[.pointer (some ⟨B, 0, none⟩), .agg #[.int .i64 Q.room, .slice a Q.fs.length c, .bool Q.down, .int .i64 ar, .int .u64 (Q.st : Int)], .agg #[.int .i64 1, .int .i64 n, encStr nm, encStr tt, encStr tx, .slice ya ts.length yc]] w fun e w' => DoP2 S w B e w' (syncD D nm).1 (syncD Q nm).1 := by
  obtain ⟨⟨D2, k2⟩, hr2⟩ : ∃ r, syncD D nm = r := ⟨_, rfl⟩
  obtain ⟨⟨D1, k1⟩, hr⟩ : ∃ r, syncD Q nm = r := ⟨_, rfl⟩
  rw [hr, hr2]
  have HRE := Lib.hid hr
  have HRP := Lib.hid hr2
  clear hr hr2
  have HSQ := Lib.hid hstq
  clear hstq
  have HL := Lib.hid hl
  clear hl
  obtain ⟨B1, s0, so, s1, hz⟩ := box3 w #[.int .i64 Q.room, .slice a Q.fs.length c, .bool Q.down, .int .i64 ar, .int .u64 (Q.st : Int)] #[.int .i64 1, .int .i64 n, encStr nm, encStr tt, encStr tx, .slice ya ts.length yc] #[.int .i64 0, .slice none 0 0, .bool false, .int .i64 0, .int .u64 0] 30 34 30
  have HB1 := Lib.hid B1
  have HS01 := Lib.hid s0
  have HO1 := Lib.hid so
  have HS11 := Lib.hid s1
  have HZ := Lib.hid hz
  have H1 := Lib.hid (h.below B1)
  have HFT := Lib.hid hfq
  have HBD := Lib.hid h.bd
  have HST := Lib.hid hst
  obtain ⟨N, hN⟩ : ∃ N, w.heap.size = N := ⟨_, rfl⟩
  have HN := Lib.hid hN
  have HR1 := Lib.hid (hra.start B1 hN)
  clear h B1 s0 so s1 hz hra hst hfq
  rw [hN] at HS01 HO1 HS11 HZ
  clear hN
  go_enter Try.func16, Try.ntmps16
  go_upto_region 1 with fail
  have hN := HN.out
  try rw [hN]
  clear hN
  generalize ((w.alloc (.cells #[.int .i64 Q.room, .slice a Q.fs.length c, .bool Q.down, .int .i64 ar, .int .u64 (Q.st : Int)] 30)).alloc (.cells #[.int .i64 1, .int .i64 n, encStr nm, encStr tt, encStr tx, .slice ya ts.length yc] 34)).alloc (.cells #[.int .i64 0, .slice none 0 0, .bool false, .int .i64 0, .int .u64 0] 30) = w1 at H1 HS01 HO1 HS11 HB1 HZ HR1 ⊢
  have HPB : Hid (∀ k, P3 S N k → k < w1.heap.size) := Lib.hid (fun k hk => by
    have hz := HZ.out
    have hN := HN.out
    rcases hk with hk | hk
    · have := HBD.out k hk; omega
    · omega)
  obtain ⟨c0, c1, c2, c3, c4⟩ := five_rd HS01.out
  obtain ⟨q0, q1, q2, q3, q4, q5⟩ := six_rd HO1.out
  have HC := Lib.hid (rsync_any (c := c) HR1.out HFT.out HPB.out (n := nm) (by have := HSQ.out; omega))
  rw [HRE.out] at HC
  go_wp2_with fail
  refine HC.out.mono ?_
  rintro e w2 ⟨ra1, rc1, rr1, rfl, hra1, hb⟩
  clear HC HR1
  clear c0 c1 c2 c3 c4 q0 q1 q2 q3 q4 q5
  have HRA := Lib.hid hra1
  clear hra1
  have HS02 := Lib.hid (ex_below HS01.out hb)
  have HO2 := Lib.hid (ex_below HO1.out hb)
  have HS12 := Lib.hid (ex_below HS11.out hb)
  have H2 := Lib.hid (H1.out.below hb)
  have HB2 := Lib.hid (HB1.out.trans (hb.mono HB1.out.size))
  clear HS01 HO1 HS11 H1 HB1 hb
  obtain ⟨c0, c1, c2, c3, c4⟩ := five_rd HS02.out
  have fHS0 : ∀ o, w2.frozen? ⟨N, o, none⟩ = false := fun o => by simp [World.frozen?, HS02.out]
  unfold RVal
  dsimp only
  have hNN := HN.out
  have HQ_HS0 := Lib.hid (set5 HS02.out (.int .i64 D1.room) (.slice ra1 D1.fs.length rc1) (.bool D1.down) (.int .i64 rr1) (.int .u64 (D1.st : Int)))
  have HQ_HO : Hid ((((((w2.setCell ⟨N, 0, none⟩ (.int .i64 D1.room)).setCell ⟨N, 1, none⟩ (.slice ra1 D1.fs.length rc1)).setCell ⟨N, 2, none⟩ (.bool D1.down)).setCell ⟨N, 3, none⟩ (.int .i64 rr1)).setCell ⟨N, 4, none⟩ (.int .u64 (D1.st : Int))).heap[N + 1]? = some (.cells #[.int .i64 1, .int .i64 n, encStr nm, encStr tt, encStr tx, .slice ya ts.length yc] 34 (0, 0))) := Lib.hid ((Below.heap_setCell _ _ _ _ (show N + 1 ≠ N by omega)).trans ((Below.heap_setCell _ _ _ _ (show N + 1 ≠ N by omega)).trans ((Below.heap_setCell _ _ _ _ (show N + 1 ≠ N by omega)).trans ((Below.heap_setCell _ _ _ _ (show N + 1 ≠ N by omega)).trans ((Below.heap_setCell _ _ _ _ (show N + 1 ≠ N by omega)).trans (HO2.out))))))
  have HQ_HS1 : Hid ((((((w2.setCell ⟨N, 0, none⟩ (.int .i64 D1.room)).setCell ⟨N, 1, none⟩ (.slice ra1 D1.fs.length rc1)).setCell ⟨N, 2, none⟩ (.bool D1.down)).setCell ⟨N, 3, none⟩ (.int .i64 rr1)).setCell ⟨N, 4, none⟩ (.int .u64 (D1.st : Int))).heap[N + 1 + 1]? = some (.cells #[.int .i64 0, .slice none 0 0, .bool false, .int .i64 0, .int .u64 0] 30 (0, 0))) := Lib.hid ((Below.heap_setCell _ _ _ _ (show N + 1 + 1 ≠ N by omega)).trans ((Below.heap_setCell _ _ _ _ (show N + 1 + 1 ≠ N by omega)).trans ((Below.heap_setCell _ _ _ _ (show N + 1 + 1 ≠ N by omega)).trans ((Below.heap_setCell _ _ _ _ (show N + 1 + 1 ≠ N by omega)).trans ((Below.heap_setCell _ _ _ _ (show N + 1 + 1 ≠ N by omega)).trans (HS12.out))))))
  have HQB := Lib.hid (below_two (below_two (below_two (below_two (below_two (HB2.out) (show w.heap.size ≤ N by omega) 0 (.int .i64 D1.room)) (show w.heap.size ≤ N by omega) 1 (.slice ra1 D1.fs.length rc1)) (show w.heap.size ≤ N by omega) 2 (.bool D1.down)) (show w.heap.size ≤ N by omega) 3 (.int .i64 rr1)) (show w.heap.size ≤ N by omega) 4 (.int .u64 (D1.st : Int)))
  have hsn : ∀ k, S k → k ≠ N := fun k hk => by have := HBD.out k hk; omega
  have HQH : Hid (DKx S (((((w2.setCell ⟨N, 0, none⟩ (.int .i64 D1.room)).setCell ⟨N, 1, none⟩ (.slice ra1 D1.fs.length rc1)).setCell ⟨N, 2, none⟩ (.bool D1.down)).setCell ⟨N, 3, none⟩ (.int .i64 rr1)).setCell ⟨N, 4, none⟩ (.int .u64 (D1.st : Int))) B m mt D M V) := Lib.hid (H2.out.move (by simp) (fun k _ hs => (Below.heap_setCell _ _ _ _ (show k ≠ N from hsn k hs)).trans ((Below.heap_setCell _ _ _ _ (show k ≠ N from hsn k hs)).trans ((Below.heap_setCell _ _ _ _ (show k ≠ N from hsn k hs)).trans ((Below.heap_setCell _ _ _ _ (show k ≠ N from hsn k hs)).trans ((Below.heap_setCell _ _ _ _ (show k ≠ N from hsn k hs)).trans (rfl)))))))
  have HQR := Lib.hid (RA.set (RA.set (RA.set (RA.set (RA.set (HRA.out) (p := ⟨N, 0, none⟩) (show P3 S N N from .inr ⟨Nat.le_refl _, by omega⟩) (.int .i64 D1.room)) (p := ⟨N, 1, none⟩) (show P3 S N N from .inr ⟨Nat.le_refl _, by omega⟩) (.slice ra1 D1.fs.length rc1)) (p := ⟨N, 2, none⟩) (show P3 S N N from .inr ⟨Nat.le_refl _, by omega⟩) (.bool D1.down)) (p := ⟨N, 3, none⟩) (show P3 S N N from .inr ⟨Nat.le_refl _, by omega⟩) (.int .i64 rr1)) (p := ⟨N, 4, none⟩) (show P3 S N N from .inr ⟨Nat.le_refl _, by omega⟩) (.int .u64 (D1.st : Int)))
  clear hNN hsn
  go_upto_region 8 with fail
  generalize (((((w2.setCell ⟨N, 0, none⟩ (.int .i64 D1.room)).setCell ⟨N, 1, none⟩ (.slice ra1 D1.fs.length rc1)).setCell ⟨N, 2, none⟩ (.bool D1.down)).setCell ⟨N, 3, none⟩ (.int .i64 rr1)).setCell ⟨N, 4, none⟩ (.int .u64 (D1.st : Int))) = w3 at HQ_HS0 HQ_HO HQ_HS1 HQB HQH HQR ⊢
  have HS03 := HQ_HS0
  have HO3 := HQ_HO
  have HS13 := HQ_HS1
  have HB3 := HQB
  have H3 := HQH
  have HRB := HQR
  clear HQ_HS0 HQ_HO HQ_HS1 HQB HQH HQR HS02 HO2 HS12 HB2 H2 HRA
  obtain ⟨q0, q1, q2, q3, q4, q5⟩ := six_rd HO3.out
  have HC := Lib.hid (dsync_any H3.out (n := nm) (by have := HL.out; omega) (by have := HST.out; omega))
  rw [HRP.out] at HC
  go_wp2_with fail
  refine HC.out.mono ?_
  rintro e w4 ⟨S2, rfl, hdk, hfr⟩
  clear HC HPB
  clear q0 q1 q2 q3 q4 q5
  have hN := HN.out
  have hout : ∀ {k : Nat}, k < w3.heap.size → N ≤ k → w4.heap[k]? = w3.heap[k]? := fun hk hle => (hfr.out hk (fun hs => by have := HBD.out _ hs; omega)).1
  have HS04 := Lib.hid ((hout (ex_lt HS03.out) (by omega)).trans HS03.out)
  have HS14 := Lib.hid ((hout (ex_lt HS13.out) (by omega)).trans HS13.out)
  have HRC := Lib.hid (HRB.out.call hfr)
  have HNZ : Hid (N + 1 + 1 < w3.heap.size) := Lib.hid (ex_lt HS13.out)
  have HFR := Lib.hid hfr
  have HFW := Lib.hid (frb HB3.out hfr)
  have HDK := Lib.hid hdk
  clear hN hout hdk hfr HS03 HS13 HO3 HB3 H3 HRB
  clear HRE HRP
  obtain ⟨c0, c1, c2, c3, c4⟩ := five_rd HS04.out
  obtain ⟨p0, p1, p2, p3, p4⟩ := five_rd HS14.out
  have fHS0 : ∀ o, w4.frozen? ⟨N, o, none⟩ = false := fun o => by simp [World.frozen?, HS04.out]
  have fHS1 : ∀ o, w4.frozen? ⟨N + 1 + 1, o, none⟩ = false := fun o => by simp [World.frozen?, HS14.out]
  go_wp2_with fail
  refine bodyPost_ret (rd_res rfl _ _ (N + 1 + 1) (.int .i64 D1.room) (.slice ra1 D1.fs.length rc1) (.bool D1.down) (.int .i64 rr1) (.int .u64 (D1.st : Int)) rfl (by go_simp) (by go_simp) (by go_simp) (by go_simp) (by go_simp)) rfl ?_
  have hN := HN.out
  have hsn : ∀ k, S2 k → k ≠ N + 1 + 1 := fun k hk => by
    rcases HFR.out.2.2 k hk with h1 | h1
    · have := HBD.out k h1; omega
    · have := HNZ.out; omega
  obtain ⟨m2, mt2, M2, V2, hdk⟩ := HDK.out
  refine ⟨S2, ra1, rc1, rr1, _, rfl, ⟨m2, mt2, M2, V2, hdk.move (by simp) (fun k _ hs => (Below.heap_setCell _ _ _ _ (show k ≠ N + 1 + 1 from hsn k hs)).trans ((Below.heap_setCell _ _ _ _ (show k ≠ N + 1 + 1 from hsn k hs)).trans ((Below.heap_setCell _ _ _ _ (show k ≠ N + 1 + 1 from hsn k hs)).trans ((Below.heap_setCell _ _ _ _ (show k ≠ N + 1 + 1 from hsn k hs)).trans ((Below.heap_setCell _ _ _ _ (show k ≠ N + 1 + 1 from hsn k hs)).trans (rfl))))))⟩, ⟨only_new (only_new (only_new (only_new (only_new (HFW.out.1) (show w.heap.size ≤ N + 1 + 1 by omega) 0 (.int .i64 D1.room)) (show w.heap.size ≤ N + 1 + 1 by omega) 1 (.slice ra1 D1.fs.length rc1)) (show w.heap.size ≤ N + 1 + 1 by omega) 2 (.bool D1.down)) (show w.heap.size ≤ N + 1 + 1 by omega) 3 (.int .i64 rr1)) (show w.heap.size ≤ N + 1 + 1 by omega) 4 (.int .u64 (D1.st : Int)), HFW.out.2.1, HFW.out.2.2⟩, ?_⟩
  exact (RA.set (RA.set (RA.set (RA.set (RA.set (HRC.out) (p := ⟨N + 1 + 1, 0, none⟩) (show P3 S2 N (N + 1 + 1) from .inr ⟨by omega, by omega⟩) (.int .i64 D1.room)) (p := ⟨N + 1 + 1, 1, none⟩) (show P3 S2 N (N + 1 + 1) from .inr ⟨by omega, by omega⟩) (.slice ra1 D1.fs.length rc1)) (p := ⟨N + 1 + 1, 2, none⟩) (show P3 S2 N (N + 1 + 1) from .inr ⟨by omega, by omega⟩) (.bool D1.down)) (p := ⟨N + 1 + 1, 3, none⟩) (show P3 S2 N (N + 1 + 1) from .inr ⟨by omega, by omega⟩) (.int .i64 rr1)) (p := ⟨N + 1 + 1, 4, none⟩) (show P3 S2 N (N + 1 + 1) from .inr ⟨by omega, by omega⟩) (.int .u64 (D1.st : Int))).weak (fun k hk => .inl hk)
set_option maxRecDepth 100000 in
set_option maxHeartbeats 8000000 in
theorem dp_cut {S : Nat → Prop} {w : World} {B m mt : Nat} {D Q : Dd} {M : Lit → Option Value} {V : Nm → Value} {B0 : Nat} {a : Option Addr} (c : Nat) {ar : Int} (h : DKx S w B m mt D M V) (hra : RA S w Q a ar) (hfq : FitD Q) (hst : D.st < 1000000) (n : Int) (nm tt tx : List UInt8) (ts : List (Nat × Nat)) (ya : Option Addr) (yc : Nat) (hl : nm.length ≤ 100) (hstq : Q.st < 1000000) : Calls Try.prog 16 #[.pointer (some ⟨B, 0, none⟩), .agg #[.int .i64 Q.room, .slice a Q.fs.length c, .bool Q.down, .int .i64 ar, .int .u64 (Q.st : Int)], .agg #[.int .i64 2, .int .i64 n, encStr nm, encStr tt, encStr tx, .slice ya ts.length yc]] w fun e w' => DoP2 S w B e w' (cutD D nm n).1 (cutD Q nm n).1 := by
  obtain ⟨⟨D2, k2⟩, hr2⟩ : ∃ r, cutD D nm n = r := ⟨_, rfl⟩
  obtain ⟨⟨D1, k1⟩, hr⟩ : ∃ r, cutD Q nm n = r := ⟨_, rfl⟩
  rw [hr, hr2]
  have HRE := Lib.hid hr
  have HRP := Lib.hid hr2
  clear hr hr2
  have HSQ := Lib.hid hstq
  clear hstq
  have HL := Lib.hid hl
  clear hl
  obtain ⟨B1, s0, so, s1, hz⟩ := box3 w #[.int .i64 Q.room, .slice a Q.fs.length c, .bool Q.down, .int .i64 ar, .int .u64 (Q.st : Int)] #[.int .i64 2, .int .i64 n, encStr nm, encStr tt, encStr tx, .slice ya ts.length yc] #[.int .i64 0, .slice none 0 0, .bool false, .int .i64 0, .int .u64 0] 30 34 30
  have HB1 := Lib.hid B1
  have HS01 := Lib.hid s0
  have HO1 := Lib.hid so
  have HS11 := Lib.hid s1
  have HZ := Lib.hid hz
  have H1 := Lib.hid (h.below B1)
  have HFT := Lib.hid hfq
  have HBD := Lib.hid h.bd
  have HST := Lib.hid hst
  obtain ⟨N, hN⟩ : ∃ N, w.heap.size = N := ⟨_, rfl⟩
  have HN := Lib.hid hN
  have HR1 := Lib.hid (hra.start B1 hN)
  clear h B1 s0 so s1 hz hra hst hfq
  rw [hN] at HS01 HO1 HS11 HZ
  clear hN
  go_enter Try.func16, Try.ntmps16
  go_upto_region 1 with fail
  have hN := HN.out
  try rw [hN]
  clear hN
  generalize ((w.alloc (.cells #[.int .i64 Q.room, .slice a Q.fs.length c, .bool Q.down, .int .i64 ar, .int .u64 (Q.st : Int)] 30)).alloc (.cells #[.int .i64 2, .int .i64 n, encStr nm, encStr tt, encStr tx, .slice ya ts.length yc] 34)).alloc (.cells #[.int .i64 0, .slice none 0 0, .bool false, .int .i64 0, .int .u64 0] 30) = w1 at H1 HS01 HO1 HS11 HB1 HZ HR1 ⊢
  have HPB : Hid (∀ k, P3 S N k → k < w1.heap.size) := Lib.hid (fun k hk => by
    have hz := HZ.out
    have hN := HN.out
    rcases hk with hk | hk
    · have := HBD.out k hk; omega
    · omega)
  obtain ⟨c0, c1, c2, c3, c4⟩ := five_rd HS01.out
  obtain ⟨q0, q1, q2, q3, q4, q5⟩ := six_rd HO1.out
  have HC := Lib.hid (rcut_any (c := c) HR1.out HFT.out HPB.out (n := nm) n (by have := HSQ.out; omega))
  rw [HRE.out] at HC
  go_wp2_with fail
  refine HC.out.mono ?_
  rintro e w2 ⟨ra1, rc1, rr1, rfl, hra1, hb⟩
  clear HC HR1
  clear c0 c1 c2 c3 c4 q0 q1 q2 q3 q4 q5
  have HRA := Lib.hid hra1
  clear hra1
  have HS02 := Lib.hid (ex_below HS01.out hb)
  have HO2 := Lib.hid (ex_below HO1.out hb)
  have HS12 := Lib.hid (ex_below HS11.out hb)
  have H2 := Lib.hid (H1.out.below hb)
  have HB2 := Lib.hid (HB1.out.trans (hb.mono HB1.out.size))
  clear HS01 HO1 HS11 H1 HB1 hb
  obtain ⟨c0, c1, c2, c3, c4⟩ := five_rd HS02.out
  have fHS0 : ∀ o, w2.frozen? ⟨N, o, none⟩ = false := fun o => by simp [World.frozen?, HS02.out]
  unfold RVal
  dsimp only
  have hNN := HN.out
  have HQ_HS0 := Lib.hid (set5 HS02.out (.int .i64 D1.room) (.slice ra1 D1.fs.length rc1) (.bool D1.down) (.int .i64 rr1) (.int .u64 (D1.st : Int)))
  have HQ_HO : Hid ((((((w2.setCell ⟨N, 0, none⟩ (.int .i64 D1.room)).setCell ⟨N, 1, none⟩ (.slice ra1 D1.fs.length rc1)).setCell ⟨N, 2, none⟩ (.bool D1.down)).setCell ⟨N, 3, none⟩ (.int .i64 rr1)).setCell ⟨N, 4, none⟩ (.int .u64 (D1.st : Int))).heap[N + 1]? = some (.cells #[.int .i64 2, .int .i64 n, encStr nm, encStr tt, encStr tx, .slice ya ts.length yc] 34 (0, 0))) := Lib.hid ((Below.heap_setCell _ _ _ _ (show N + 1 ≠ N by omega)).trans ((Below.heap_setCell _ _ _ _ (show N + 1 ≠ N by omega)).trans ((Below.heap_setCell _ _ _ _ (show N + 1 ≠ N by omega)).trans ((Below.heap_setCell _ _ _ _ (show N + 1 ≠ N by omega)).trans ((Below.heap_setCell _ _ _ _ (show N + 1 ≠ N by omega)).trans (HO2.out))))))
  have HQ_HS1 : Hid ((((((w2.setCell ⟨N, 0, none⟩ (.int .i64 D1.room)).setCell ⟨N, 1, none⟩ (.slice ra1 D1.fs.length rc1)).setCell ⟨N, 2, none⟩ (.bool D1.down)).setCell ⟨N, 3, none⟩ (.int .i64 rr1)).setCell ⟨N, 4, none⟩ (.int .u64 (D1.st : Int))).heap[N + 1 + 1]? = some (.cells #[.int .i64 0, .slice none 0 0, .bool false, .int .i64 0, .int .u64 0] 30 (0, 0))) := Lib.hid ((Below.heap_setCell _ _ _ _ (show N + 1 + 1 ≠ N by omega)).trans ((Below.heap_setCell _ _ _ _ (show N + 1 + 1 ≠ N by omega)).trans ((Below.heap_setCell _ _ _ _ (show N + 1 + 1 ≠ N by omega)).trans ((Below.heap_setCell _ _ _ _ (show N + 1 + 1 ≠ N by omega)).trans ((Below.heap_setCell _ _ _ _ (show N + 1 + 1 ≠ N by omega)).trans (HS12.out))))))
  have HQB := Lib.hid (below_two (below_two (below_two (below_two (below_two (HB2.out) (show w.heap.size ≤ N by omega) 0 (.int .i64 D1.room)) (show w.heap.size ≤ N by omega) 1 (.slice ra1 D1.fs.length rc1)) (show w.heap.size ≤ N by omega) 2 (.bool D1.down)) (show w.heap.size ≤ N by omega) 3 (.int .i64 rr1)) (show w.heap.size ≤ N by omega) 4 (.int .u64 (D1.st : Int)))
  have hsn : ∀ k, S k → k ≠ N := fun k hk => by have := HBD.out k hk; omega
  have HQH : Hid (DKx S (((((w2.setCell ⟨N, 0, none⟩ (.int .i64 D1.room)).setCell ⟨N, 1, none⟩ (.slice ra1 D1.fs.length rc1)).setCell ⟨N, 2, none⟩ (.bool D1.down)).setCell ⟨N, 3, none⟩ (.int .i64 rr1)).setCell ⟨N, 4, none⟩ (.int .u64 (D1.st : Int))) B m mt D M V) := Lib.hid (H2.out.move (by simp) (fun k _ hs => (Below.heap_setCell _ _ _ _ (show k ≠ N from hsn k hs)).trans ((Below.heap_setCell _ _ _ _ (show k ≠ N from hsn k hs)).trans ((Below.heap_setCell _ _ _ _ (show k ≠ N from hsn k hs)).trans ((Below.heap_setCell _ _ _ _ (show k ≠ N from hsn k hs)).trans ((Below.heap_setCell _ _ _ _ (show k ≠ N from hsn k hs)).trans (rfl)))))))
  have HQR := Lib.hid (RA.set (RA.set (RA.set (RA.set (RA.set (HRA.out) (p := ⟨N, 0, none⟩) (show P3 S N N from .inr ⟨Nat.le_refl _, by omega⟩) (.int .i64 D1.room)) (p := ⟨N, 1, none⟩) (show P3 S N N from .inr ⟨Nat.le_refl _, by omega⟩) (.slice ra1 D1.fs.length rc1)) (p := ⟨N, 2, none⟩) (show P3 S N N from .inr ⟨Nat.le_refl _, by omega⟩) (.bool D1.down)) (p := ⟨N, 3, none⟩) (show P3 S N N from .inr ⟨Nat.le_refl _, by omega⟩) (.int .i64 rr1)) (p := ⟨N, 4, none⟩) (show P3 S N N from .inr ⟨Nat.le_refl _, by omega⟩) (.int .u64 (D1.st : Int)))
  clear hNN hsn
  go_upto_region 11 with fail
  generalize (((((w2.setCell ⟨N, 0, none⟩ (.int .i64 D1.room)).setCell ⟨N, 1, none⟩ (.slice ra1 D1.fs.length rc1)).setCell ⟨N, 2, none⟩ (.bool D1.down)).setCell ⟨N, 3, none⟩ (.int .i64 rr1)).setCell ⟨N, 4, none⟩ (.int .u64 (D1.st : Int))) = w3 at HQ_HS0 HQ_HO HQ_HS1 HQB HQH HQR ⊢
  have HS03 := HQ_HS0
  have HO3 := HQ_HO
  have HS13 := HQ_HS1
  have HB3 := HQB
  have H3 := HQH
  have HRB := HQR
  clear HQ_HS0 HQ_HO HQ_HS1 HQB HQH HQR HS02 HO2 HS12 HB2 H2 HRA
  obtain ⟨q0, q1, q2, q3, q4, q5⟩ := six_rd HO3.out
  have HC := Lib.hid (dcut_any H3.out (n := nm) (by have := HL.out; omega) (by have := HST.out; omega) n)
  rw [HRP.out] at HC
  go_wp2_with fail
  refine HC.out.mono ?_
  rintro e w4 ⟨S2, rfl, hdk, hfr⟩
  clear HC HPB
  clear q0 q1 q2 q3 q4 q5
  have hN := HN.out
  have hout : ∀ {k : Nat}, k < w3.heap.size → N ≤ k → w4.heap[k]? = w3.heap[k]? := fun hk hle => (hfr.out hk (fun hs => by have := HBD.out _ hs; omega)).1
  have HS04 := Lib.hid ((hout (ex_lt HS03.out) (by omega)).trans HS03.out)
  have HS14 := Lib.hid ((hout (ex_lt HS13.out) (by omega)).trans HS13.out)
  have HRC := Lib.hid (HRB.out.call hfr)
  have HNZ : Hid (N + 1 + 1 < w3.heap.size) := Lib.hid (ex_lt HS13.out)
  have HFR := Lib.hid hfr
  have HFW := Lib.hid (frb HB3.out hfr)
  have HDK := Lib.hid hdk
  clear hN hout hdk hfr HS03 HS13 HO3 HB3 H3 HRB
  clear HRE HRP
  obtain ⟨c0, c1, c2, c3, c4⟩ := five_rd HS04.out
  obtain ⟨p0, p1, p2, p3, p4⟩ := five_rd HS14.out
  have fHS0 : ∀ o, w4.frozen? ⟨N, o, none⟩ = false := fun o => by simp [World.frozen?, HS04.out]
  have fHS1 : ∀ o, w4.frozen? ⟨N + 1 + 1, o, none⟩ = false := fun o => by simp [World.frozen?, HS14.out]
  go_wp2_with fail
  refine bodyPost_ret (rd_res rfl _ _ (N + 1 + 1) (.int .i64 D1.room) (.slice ra1 D1.fs.length rc1) (.bool D1.down) (.int .i64 rr1) (.int .u64 (D1.st : Int)) rfl (by go_simp) (by go_simp) (by go_simp) (by go_simp) (by go_simp)) rfl ?_
  have hN := HN.out
  have hsn : ∀ k, S2 k → k ≠ N + 1 + 1 := fun k hk => by
    rcases HFR.out.2.2 k hk with h1 | h1
    · have := HBD.out k h1; omega
    · have := HNZ.out; omega
  obtain ⟨m2, mt2, M2, V2, hdk⟩ := HDK.out
  refine ⟨S2, ra1, rc1, rr1, _, rfl, ⟨m2, mt2, M2, V2, hdk.move (by simp) (fun k _ hs => (Below.heap_setCell _ _ _ _ (show k ≠ N + 1 + 1 from hsn k hs)).trans ((Below.heap_setCell _ _ _ _ (show k ≠ N + 1 + 1 from hsn k hs)).trans ((Below.heap_setCell _ _ _ _ (show k ≠ N + 1 + 1 from hsn k hs)).trans ((Below.heap_setCell _ _ _ _ (show k ≠ N + 1 + 1 from hsn k hs)).trans ((Below.heap_setCell _ _ _ _ (show k ≠ N + 1 + 1 from hsn k hs)).trans (rfl))))))⟩, ⟨only_new (only_new (only_new (only_new (only_new (HFW.out.1) (show w.heap.size ≤ N + 1 + 1 by omega) 0 (.int .i64 D1.room)) (show w.heap.size ≤ N + 1 + 1 by omega) 1 (.slice ra1 D1.fs.length rc1)) (show w.heap.size ≤ N + 1 + 1 by omega) 2 (.bool D1.down)) (show w.heap.size ≤ N + 1 + 1 by omega) 3 (.int .i64 rr1)) (show w.heap.size ≤ N + 1 + 1 by omega) 4 (.int .u64 (D1.st : Int)), HFW.out.2.1, HFW.out.2.2⟩, ?_⟩
  exact (RA.set (RA.set (RA.set (RA.set (RA.set (HRC.out) (p := ⟨N + 1 + 1, 0, none⟩) (show P3 S2 N (N + 1 + 1) from .inr ⟨by omega, by omega⟩) (.int .i64 D1.room)) (p := ⟨N + 1 + 1, 1, none⟩) (show P3 S2 N (N + 1 + 1) from .inr ⟨by omega, by omega⟩) (.slice ra1 D1.fs.length rc1)) (p := ⟨N + 1 + 1, 2, none⟩) (show P3 S2 N (N + 1 + 1) from .inr ⟨by omega, by omega⟩) (.bool D1.down)) (p := ⟨N + 1 + 1, 3, none⟩) (show P3 S2 N (N + 1 + 1) from .inr ⟨by omega, by omega⟩) (.int .i64 rr1)) (p := ⟨N + 1 + 1, 4, none⟩) (show P3 S2 N (N + 1 + 1) from .inr ⟨by omega, by omega⟩) (.int .u64 (D1.st : Int))).weak (fun k hk => .inl hk)
set_option maxRecDepth 100000 in
set_option maxHeartbeats 8000000 in
theorem dp_remove {S : Nat → Prop} {w : World} {B m mt : Nat} {D Q : Dd} {M : Lit → Option Value} {V : Nm → Value} {B0 : Nat} {a : Option Addr} (c : Nat) {ar : Int} (h : DKx S w B m mt D M V) (hra : RA S w Q a ar) (hfq : FitD Q) (hst : D.st < 1000000) (n : Int) (nm tt tx : List UInt8) (ts : List (Nat × Nat)) (ya : Option Addr) (yc : Nat) (hl : nm.length ≤ 100) (hstq : Q.st < 1000000) : Calls Try.prog 16 #[.pointer (some ⟨B, 0, none⟩), .agg #[.int .i64 Q.room, .slice a Q.fs.length c, .bool Q.down, .int .i64 ar, .int .u64 (Q.st : Int)], .agg #[.int .i64 3, .int .i64 n, encStr nm, encStr tt, encStr tx, .slice ya ts.length yc]] w fun e w' => DoP2 S w B e w' (removeD D nm).1 (removeD Q nm).1 := by
  obtain ⟨⟨D2, k2⟩, hr2⟩ : ∃ r, removeD D nm = r := ⟨_, rfl⟩
  obtain ⟨⟨D1, k1⟩, hr⟩ : ∃ r, removeD Q nm = r := ⟨_, rfl⟩
  rw [hr, hr2]
  have HRE := Lib.hid hr
  have HRP := Lib.hid hr2
  clear hr hr2
  have HSQ := Lib.hid hstq
  clear hstq
  have HL := Lib.hid hl
  clear hl
  obtain ⟨B1, s0, so, s1, hz⟩ := box3 w #[.int .i64 Q.room, .slice a Q.fs.length c, .bool Q.down, .int .i64 ar, .int .u64 (Q.st : Int)] #[.int .i64 3, .int .i64 n, encStr nm, encStr tt, encStr tx, .slice ya ts.length yc] #[.int .i64 0, .slice none 0 0, .bool false, .int .i64 0, .int .u64 0] 30 34 30
  have HB1 := Lib.hid B1
  have HS01 := Lib.hid s0
  have HO1 := Lib.hid so
  have HS11 := Lib.hid s1
  have HZ := Lib.hid hz
  have H1 := Lib.hid (h.below B1)
  have HFT := Lib.hid hfq
  have HBD := Lib.hid h.bd
  have HST := Lib.hid hst
  obtain ⟨N, hN⟩ : ∃ N, w.heap.size = N := ⟨_, rfl⟩
  have HN := Lib.hid hN
  have HR1 := Lib.hid (hra.start B1 hN)
  clear h B1 s0 so s1 hz hra hst hfq
  rw [hN] at HS01 HO1 HS11 HZ
  clear hN
  go_enter Try.func16, Try.ntmps16
  go_upto_region 1 with fail
  have hN := HN.out
  try rw [hN]
  clear hN
  generalize ((w.alloc (.cells #[.int .i64 Q.room, .slice a Q.fs.length c, .bool Q.down, .int .i64 ar, .int .u64 (Q.st : Int)] 30)).alloc (.cells #[.int .i64 3, .int .i64 n, encStr nm, encStr tt, encStr tx, .slice ya ts.length yc] 34)).alloc (.cells #[.int .i64 0, .slice none 0 0, .bool false, .int .i64 0, .int .u64 0] 30) = w1 at H1 HS01 HO1 HS11 HB1 HZ HR1 ⊢
  have HPB : Hid (∀ k, P3 S N k → k < w1.heap.size) := Lib.hid (fun k hk => by
    have hz := HZ.out
    have hN := HN.out
    rcases hk with hk | hk
    · have := HBD.out k hk; omega
    · omega)
  obtain ⟨c0, c1, c2, c3, c4⟩ := five_rd HS01.out
  obtain ⟨q0, q1, q2, q3, q4, q5⟩ := six_rd HO1.out
  have HC := Lib.hid (rremove_any (c := c) HR1.out HFT.out HPB.out (n := nm) (by have := HSQ.out; omega))
  rw [HRE.out] at HC
  go_wp2_with fail
  refine HC.out.mono ?_
  rintro e w2 ⟨ra1, rc1, rr1, rfl, hra1, hb⟩
  clear HC HR1
  clear c0 c1 c2 c3 c4 q0 q1 q2 q3 q4 q5
  have HRA := Lib.hid hra1
  clear hra1
  have HS02 := Lib.hid (ex_below HS01.out hb)
  have HO2 := Lib.hid (ex_below HO1.out hb)
  have HS12 := Lib.hid (ex_below HS11.out hb)
  have H2 := Lib.hid (H1.out.below hb)
  have HB2 := Lib.hid (HB1.out.trans (hb.mono HB1.out.size))
  clear HS01 HO1 HS11 H1 HB1 hb
  obtain ⟨c0, c1, c2, c3, c4⟩ := five_rd HS02.out
  have fHS0 : ∀ o, w2.frozen? ⟨N, o, none⟩ = false := fun o => by simp [World.frozen?, HS02.out]
  unfold RVal
  dsimp only
  have hNN := HN.out
  have HQ_HS0 := Lib.hid (set5 HS02.out (.int .i64 D1.room) (.slice ra1 D1.fs.length rc1) (.bool D1.down) (.int .i64 rr1) (.int .u64 (D1.st : Int)))
  have HQ_HO : Hid ((((((w2.setCell ⟨N, 0, none⟩ (.int .i64 D1.room)).setCell ⟨N, 1, none⟩ (.slice ra1 D1.fs.length rc1)).setCell ⟨N, 2, none⟩ (.bool D1.down)).setCell ⟨N, 3, none⟩ (.int .i64 rr1)).setCell ⟨N, 4, none⟩ (.int .u64 (D1.st : Int))).heap[N + 1]? = some (.cells #[.int .i64 3, .int .i64 n, encStr nm, encStr tt, encStr tx, .slice ya ts.length yc] 34 (0, 0))) := Lib.hid ((Below.heap_setCell _ _ _ _ (show N + 1 ≠ N by omega)).trans ((Below.heap_setCell _ _ _ _ (show N + 1 ≠ N by omega)).trans ((Below.heap_setCell _ _ _ _ (show N + 1 ≠ N by omega)).trans ((Below.heap_setCell _ _ _ _ (show N + 1 ≠ N by omega)).trans ((Below.heap_setCell _ _ _ _ (show N + 1 ≠ N by omega)).trans (HO2.out))))))
  have HQ_HS1 : Hid ((((((w2.setCell ⟨N, 0, none⟩ (.int .i64 D1.room)).setCell ⟨N, 1, none⟩ (.slice ra1 D1.fs.length rc1)).setCell ⟨N, 2, none⟩ (.bool D1.down)).setCell ⟨N, 3, none⟩ (.int .i64 rr1)).setCell ⟨N, 4, none⟩ (.int .u64 (D1.st : Int))).heap[N + 1 + 1]? = some (.cells #[.int .i64 0, .slice none 0 0, .bool false, .int .i64 0, .int .u64 0] 30 (0, 0))) := Lib.hid ((Below.heap_setCell _ _ _ _ (show N + 1 + 1 ≠ N by omega)).trans ((Below.heap_setCell _ _ _ _ (show N + 1 + 1 ≠ N by omega)).trans ((Below.heap_setCell _ _ _ _ (show N + 1 + 1 ≠ N by omega)).trans ((Below.heap_setCell _ _ _ _ (show N + 1 + 1 ≠ N by omega)).trans ((Below.heap_setCell _ _ _ _ (show N + 1 + 1 ≠ N by omega)).trans (HS12.out))))))
  have HQB := Lib.hid (below_two (below_two (below_two (below_two (below_two (HB2.out) (show w.heap.size ≤ N by omega) 0 (.int .i64 D1.room)) (show w.heap.size ≤ N by omega) 1 (.slice ra1 D1.fs.length rc1)) (show w.heap.size ≤ N by omega) 2 (.bool D1.down)) (show w.heap.size ≤ N by omega) 3 (.int .i64 rr1)) (show w.heap.size ≤ N by omega) 4 (.int .u64 (D1.st : Int)))
  have hsn : ∀ k, S k → k ≠ N := fun k hk => by have := HBD.out k hk; omega
  have HQH : Hid (DKx S (((((w2.setCell ⟨N, 0, none⟩ (.int .i64 D1.room)).setCell ⟨N, 1, none⟩ (.slice ra1 D1.fs.length rc1)).setCell ⟨N, 2, none⟩ (.bool D1.down)).setCell ⟨N, 3, none⟩ (.int .i64 rr1)).setCell ⟨N, 4, none⟩ (.int .u64 (D1.st : Int))) B m mt D M V) := Lib.hid (H2.out.move (by simp) (fun k _ hs => (Below.heap_setCell _ _ _ _ (show k ≠ N from hsn k hs)).trans ((Below.heap_setCell _ _ _ _ (show k ≠ N from hsn k hs)).trans ((Below.heap_setCell _ _ _ _ (show k ≠ N from hsn k hs)).trans ((Below.heap_setCell _ _ _ _ (show k ≠ N from hsn k hs)).trans ((Below.heap_setCell _ _ _ _ (show k ≠ N from hsn k hs)).trans (rfl)))))))
  have HQR := Lib.hid (RA.set (RA.set (RA.set (RA.set (RA.set (HRA.out) (p := ⟨N, 0, none⟩) (show P3 S N N from .inr ⟨Nat.le_refl _, by omega⟩) (.int .i64 D1.room)) (p := ⟨N, 1, none⟩) (show P3 S N N from .inr ⟨Nat.le_refl _, by omega⟩) (.slice ra1 D1.fs.length rc1)) (p := ⟨N, 2, none⟩) (show P3 S N N from .inr ⟨Nat.le_refl _, by omega⟩) (.bool D1.down)) (p := ⟨N, 3, none⟩) (show P3 S N N from .inr ⟨Nat.le_refl _, by omega⟩) (.int .i64 rr1)) (p := ⟨N, 4, none⟩) (show P3 S N N from .inr ⟨Nat.le_refl _, by omega⟩) (.int .u64 (D1.st : Int)))
  clear hNN hsn
  go_upto_region 14 with fail
  generalize (((((w2.setCell ⟨N, 0, none⟩ (.int .i64 D1.room)).setCell ⟨N, 1, none⟩ (.slice ra1 D1.fs.length rc1)).setCell ⟨N, 2, none⟩ (.bool D1.down)).setCell ⟨N, 3, none⟩ (.int .i64 rr1)).setCell ⟨N, 4, none⟩ (.int .u64 (D1.st : Int))) = w3 at HQ_HS0 HQ_HO HQ_HS1 HQB HQH HQR ⊢
  have HS03 := HQ_HS0
  have HO3 := HQ_HO
  have HS13 := HQ_HS1
  have HB3 := HQB
  have H3 := HQH
  have HRB := HQR
  clear HQ_HS0 HQ_HO HQ_HS1 HQB HQH HQR HS02 HO2 HS12 HB2 H2 HRA
  obtain ⟨q0, q1, q2, q3, q4, q5⟩ := six_rd HO3.out
  have HC := Lib.hid (dremove_any H3.out (n := nm) (by have := HL.out; omega) (by have := HST.out; omega))
  rw [HRP.out] at HC
  go_wp2_with fail
  refine HC.out.mono ?_
  rintro e w4 ⟨S2, rfl, hdk, hfr⟩
  clear HC HPB
  clear q0 q1 q2 q3 q4 q5
  have hN := HN.out
  have hout : ∀ {k : Nat}, k < w3.heap.size → N ≤ k → w4.heap[k]? = w3.heap[k]? := fun hk hle => (hfr.out hk (fun hs => by have := HBD.out _ hs; omega)).1
  have HS04 := Lib.hid ((hout (ex_lt HS03.out) (by omega)).trans HS03.out)
  have HS14 := Lib.hid ((hout (ex_lt HS13.out) (by omega)).trans HS13.out)
  have HRC := Lib.hid (HRB.out.call hfr)
  have HNZ : Hid (N + 1 + 1 < w3.heap.size) := Lib.hid (ex_lt HS13.out)
  have HFR := Lib.hid hfr
  have HFW := Lib.hid (frb HB3.out hfr)
  have HDK := Lib.hid hdk
  clear hN hout hdk hfr HS03 HS13 HO3 HB3 H3 HRB
  clear HRE HRP
  obtain ⟨c0, c1, c2, c3, c4⟩ := five_rd HS04.out
  obtain ⟨p0, p1, p2, p3, p4⟩ := five_rd HS14.out
  have fHS0 : ∀ o, w4.frozen? ⟨N, o, none⟩ = false := fun o => by simp [World.frozen?, HS04.out]
  have fHS1 : ∀ o, w4.frozen? ⟨N + 1 + 1, o, none⟩ = false := fun o => by simp [World.frozen?, HS14.out]
  go_wp2_with fail
  refine bodyPost_ret (rd_res rfl _ _ (N + 1 + 1) (.int .i64 D1.room) (.slice ra1 D1.fs.length rc1) (.bool D1.down) (.int .i64 rr1) (.int .u64 (D1.st : Int)) rfl (by go_simp) (by go_simp) (by go_simp) (by go_simp) (by go_simp)) rfl ?_
  have hN := HN.out
  have hsn : ∀ k, S2 k → k ≠ N + 1 + 1 := fun k hk => by
    rcases HFR.out.2.2 k hk with h1 | h1
    · have := HBD.out k h1; omega
    · have := HNZ.out; omega
  obtain ⟨m2, mt2, M2, V2, hdk⟩ := HDK.out
  refine ⟨S2, ra1, rc1, rr1, _, rfl, ⟨m2, mt2, M2, V2, hdk.move (by simp) (fun k _ hs => (Below.heap_setCell _ _ _ _ (show k ≠ N + 1 + 1 from hsn k hs)).trans ((Below.heap_setCell _ _ _ _ (show k ≠ N + 1 + 1 from hsn k hs)).trans ((Below.heap_setCell _ _ _ _ (show k ≠ N + 1 + 1 from hsn k hs)).trans ((Below.heap_setCell _ _ _ _ (show k ≠ N + 1 + 1 from hsn k hs)).trans ((Below.heap_setCell _ _ _ _ (show k ≠ N + 1 + 1 from hsn k hs)).trans (rfl))))))⟩, ⟨only_new (only_new (only_new (only_new (only_new (HFW.out.1) (show w.heap.size ≤ N + 1 + 1 by omega) 0 (.int .i64 D1.room)) (show w.heap.size ≤ N + 1 + 1 by omega) 1 (.slice ra1 D1.fs.length rc1)) (show w.heap.size ≤ N + 1 + 1 by omega) 2 (.bool D1.down)) (show w.heap.size ≤ N + 1 + 1 by omega) 3 (.int .i64 rr1)) (show w.heap.size ≤ N + 1 + 1 by omega) 4 (.int .u64 (D1.st : Int)), HFW.out.2.1, HFW.out.2.2⟩, ?_⟩
  exact (RA.set (RA.set (RA.set (RA.set (RA.set (HRC.out) (p := ⟨N + 1 + 1, 0, none⟩) (show P3 S2 N (N + 1 + 1) from .inr ⟨by omega, by omega⟩) (.int .i64 D1.room)) (p := ⟨N + 1 + 1, 1, none⟩) (show P3 S2 N (N + 1 + 1) from .inr ⟨by omega, by omega⟩) (.slice ra1 D1.fs.length rc1)) (p := ⟨N + 1 + 1, 2, none⟩) (show P3 S2 N (N + 1 + 1) from .inr ⟨by omega, by omega⟩) (.bool D1.down)) (p := ⟨N + 1 + 1, 3, none⟩) (show P3 S2 N (N + 1 + 1) from .inr ⟨by omega, by omega⟩) (.int .i64 rr1)) (p := ⟨N + 1 + 1, 4, none⟩) (show P3 S2 N (N + 1 + 1) from .inr ⟨by omega, by omega⟩) (.int .u64 (D1.st : Int))).weak (fun k hk => .inl hk)
set_option maxRecDepth 100000 in
set_option maxHeartbeats 8000000 in
theorem dp_move {S : Nat → Prop} {w : World} {B m mt : Nat} {D Q : Dd} {M : Lit → Option Value} {V : Nm → Value} {B0 : Nat} {a : Option Addr} (c : Nat) {ar : Int} (h : DKx S w B m mt D M V) (hra : RA S w Q a ar) (hfq : FitD Q) (hst : D.st < 1000000) (n : Int) (nm tt tx : List UInt8) (ts : List (Nat × Nat)) (ya : Option Addr) (yc : Nat) (hl : nm.length ≤ 100) (hstq : Q.st < 1000000) : Calls Try.prog 16 #[.pointer (some ⟨B, 0, none⟩), .agg #[.int .i64 Q.room, .slice a Q.fs.length c, .bool Q.down, .int .i64 ar, .int .u64 (Q.st : Int)], .agg #[.int .i64 4, .int .i64 n, encStr nm, encStr tt, encStr tx, .slice ya ts.length yc]] w fun e w' => DoP2 S w B e w' (moveD D nm tt).1 (moveD Q nm tt).1 := by
  obtain ⟨⟨D2, k2⟩, hr2⟩ : ∃ r, moveD D nm tt = r := ⟨_, rfl⟩
  obtain ⟨⟨D1, k1⟩, hr⟩ : ∃ r, moveD Q nm tt = r := ⟨_, rfl⟩
  rw [hr, hr2]
  have HRE := Lib.hid hr
  have HRP := Lib.hid hr2
  clear hr hr2
  have HSQ := Lib.hid hstq
  clear hstq
  have HL := Lib.hid hl
  clear hl
  obtain ⟨B1, s0, so, s1, hz⟩ := box3 w #[.int .i64 Q.room, .slice a Q.fs.length c, .bool Q.down, .int .i64 ar, .int .u64 (Q.st : Int)] #[.int .i64 4, .int .i64 n, encStr nm, encStr tt, encStr tx, .slice ya ts.length yc] #[.int .i64 0, .slice none 0 0, .bool false, .int .i64 0, .int .u64 0] 30 34 30
  have HB1 := Lib.hid B1
  have HS01 := Lib.hid s0
  have HO1 := Lib.hid so
  have HS11 := Lib.hid s1
  have HZ := Lib.hid hz
  have H1 := Lib.hid (h.below B1)
  have HFT := Lib.hid hfq
  have HBD := Lib.hid h.bd
  have HST := Lib.hid hst
  obtain ⟨N, hN⟩ : ∃ N, w.heap.size = N := ⟨_, rfl⟩
  have HN := Lib.hid hN
  have HR1 := Lib.hid (hra.start B1 hN)
  clear h B1 s0 so s1 hz hra hst hfq
  rw [hN] at HS01 HO1 HS11 HZ
  clear hN
  go_enter Try.func16, Try.ntmps16
  go_upto_region 1 with fail
  have hN := HN.out
  try rw [hN]
  clear hN
  generalize ((w.alloc (.cells #[.int .i64 Q.room, .slice a Q.fs.length c, .bool Q.down, .int .i64 ar, .int .u64 (Q.st : Int)] 30)).alloc (.cells #[.int .i64 4, .int .i64 n, encStr nm, encStr tt, encStr tx, .slice ya ts.length yc] 34)).alloc (.cells #[.int .i64 0, .slice none 0 0, .bool false, .int .i64 0, .int .u64 0] 30) = w1 at H1 HS01 HO1 HS11 HB1 HZ HR1 ⊢
  have HPB : Hid (∀ k, P3 S N k → k < w1.heap.size) := Lib.hid (fun k hk => by
    have hz := HZ.out
    have hN := HN.out
    rcases hk with hk | hk
    · have := HBD.out k hk; omega
    · omega)
  obtain ⟨c0, c1, c2, c3, c4⟩ := five_rd HS01.out
  obtain ⟨q0, q1, q2, q3, q4, q5⟩ := six_rd HO1.out
  have HC := Lib.hid (rmove_any (c := c) HR1.out HFT.out HPB.out (n := nm) tt (by have := HSQ.out; omega))
  rw [HRE.out] at HC
  go_wp2_with fail
  refine HC.out.mono ?_
  rintro e w2 ⟨ra1, rc1, rr1, rfl, hra1, hb⟩
  clear HC HR1
  clear c0 c1 c2 c3 c4 q0 q1 q2 q3 q4 q5
  have HRA := Lib.hid hra1
  clear hra1
  have HS02 := Lib.hid (ex_below HS01.out hb)
  have HO2 := Lib.hid (ex_below HO1.out hb)
  have HS12 := Lib.hid (ex_below HS11.out hb)
  have H2 := Lib.hid (H1.out.below hb)
  have HB2 := Lib.hid (HB1.out.trans (hb.mono HB1.out.size))
  clear HS01 HO1 HS11 H1 HB1 hb
  obtain ⟨c0, c1, c2, c3, c4⟩ := five_rd HS02.out
  have fHS0 : ∀ o, w2.frozen? ⟨N, o, none⟩ = false := fun o => by simp [World.frozen?, HS02.out]
  unfold RVal
  dsimp only
  have hNN := HN.out
  have HQ_HS0 := Lib.hid (set5 HS02.out (.int .i64 D1.room) (.slice ra1 D1.fs.length rc1) (.bool D1.down) (.int .i64 rr1) (.int .u64 (D1.st : Int)))
  have HQ_HO : Hid ((((((w2.setCell ⟨N, 0, none⟩ (.int .i64 D1.room)).setCell ⟨N, 1, none⟩ (.slice ra1 D1.fs.length rc1)).setCell ⟨N, 2, none⟩ (.bool D1.down)).setCell ⟨N, 3, none⟩ (.int .i64 rr1)).setCell ⟨N, 4, none⟩ (.int .u64 (D1.st : Int))).heap[N + 1]? = some (.cells #[.int .i64 4, .int .i64 n, encStr nm, encStr tt, encStr tx, .slice ya ts.length yc] 34 (0, 0))) := Lib.hid ((Below.heap_setCell _ _ _ _ (show N + 1 ≠ N by omega)).trans ((Below.heap_setCell _ _ _ _ (show N + 1 ≠ N by omega)).trans ((Below.heap_setCell _ _ _ _ (show N + 1 ≠ N by omega)).trans ((Below.heap_setCell _ _ _ _ (show N + 1 ≠ N by omega)).trans ((Below.heap_setCell _ _ _ _ (show N + 1 ≠ N by omega)).trans (HO2.out))))))
  have HQ_HS1 : Hid ((((((w2.setCell ⟨N, 0, none⟩ (.int .i64 D1.room)).setCell ⟨N, 1, none⟩ (.slice ra1 D1.fs.length rc1)).setCell ⟨N, 2, none⟩ (.bool D1.down)).setCell ⟨N, 3, none⟩ (.int .i64 rr1)).setCell ⟨N, 4, none⟩ (.int .u64 (D1.st : Int))).heap[N + 1 + 1]? = some (.cells #[.int .i64 0, .slice none 0 0, .bool false, .int .i64 0, .int .u64 0] 30 (0, 0))) := Lib.hid ((Below.heap_setCell _ _ _ _ (show N + 1 + 1 ≠ N by omega)).trans ((Below.heap_setCell _ _ _ _ (show N + 1 + 1 ≠ N by omega)).trans ((Below.heap_setCell _ _ _ _ (show N + 1 + 1 ≠ N by omega)).trans ((Below.heap_setCell _ _ _ _ (show N + 1 + 1 ≠ N by omega)).trans ((Below.heap_setCell _ _ _ _ (show N + 1 + 1 ≠ N by omega)).trans (HS12.out))))))
  have HQB := Lib.hid (below_two (below_two (below_two (below_two (below_two (HB2.out) (show w.heap.size ≤ N by omega) 0 (.int .i64 D1.room)) (show w.heap.size ≤ N by omega) 1 (.slice ra1 D1.fs.length rc1)) (show w.heap.size ≤ N by omega) 2 (.bool D1.down)) (show w.heap.size ≤ N by omega) 3 (.int .i64 rr1)) (show w.heap.size ≤ N by omega) 4 (.int .u64 (D1.st : Int)))
  have hsn : ∀ k, S k → k ≠ N := fun k hk => by have := HBD.out k hk; omega
  have HQH : Hid (DKx S (((((w2.setCell ⟨N, 0, none⟩ (.int .i64 D1.room)).setCell ⟨N, 1, none⟩ (.slice ra1 D1.fs.length rc1)).setCell ⟨N, 2, none⟩ (.bool D1.down)).setCell ⟨N, 3, none⟩ (.int .i64 rr1)).setCell ⟨N, 4, none⟩ (.int .u64 (D1.st : Int))) B m mt D M V) := Lib.hid (H2.out.move (by simp) (fun k _ hs => (Below.heap_setCell _ _ _ _ (show k ≠ N from hsn k hs)).trans ((Below.heap_setCell _ _ _ _ (show k ≠ N from hsn k hs)).trans ((Below.heap_setCell _ _ _ _ (show k ≠ N from hsn k hs)).trans ((Below.heap_setCell _ _ _ _ (show k ≠ N from hsn k hs)).trans ((Below.heap_setCell _ _ _ _ (show k ≠ N from hsn k hs)).trans (rfl)))))))
  have HQR := Lib.hid (RA.set (RA.set (RA.set (RA.set (RA.set (HRA.out) (p := ⟨N, 0, none⟩) (show P3 S N N from .inr ⟨Nat.le_refl _, by omega⟩) (.int .i64 D1.room)) (p := ⟨N, 1, none⟩) (show P3 S N N from .inr ⟨Nat.le_refl _, by omega⟩) (.slice ra1 D1.fs.length rc1)) (p := ⟨N, 2, none⟩) (show P3 S N N from .inr ⟨Nat.le_refl _, by omega⟩) (.bool D1.down)) (p := ⟨N, 3, none⟩) (show P3 S N N from .inr ⟨Nat.le_refl _, by omega⟩) (.int .i64 rr1)) (p := ⟨N, 4, none⟩) (show P3 S N N from .inr ⟨Nat.le_refl _, by omega⟩) (.int .u64 (D1.st : Int)))
  clear hNN hsn
  go_upto_region 17 with fail
  generalize (((((w2.setCell ⟨N, 0, none⟩ (.int .i64 D1.room)).setCell ⟨N, 1, none⟩ (.slice ra1 D1.fs.length rc1)).setCell ⟨N, 2, none⟩ (.bool D1.down)).setCell ⟨N, 3, none⟩ (.int .i64 rr1)).setCell ⟨N, 4, none⟩ (.int .u64 (D1.st : Int))) = w3 at HQ_HS0 HQ_HO HQ_HS1 HQB HQH HQR ⊢
  have HS03 := HQ_HS0
  have HO3 := HQ_HO
  have HS13 := HQ_HS1
  have HB3 := HQB
  have H3 := HQH
  have HRB := HQR
  clear HQ_HS0 HQ_HO HQ_HS1 HQB HQH HQR HS02 HO2 HS12 HB2 H2 HRA
  obtain ⟨q0, q1, q2, q3, q4, q5⟩ := six_rd HO3.out
  have HC := Lib.hid (dmove_any H3.out (n := nm) (by have := HL.out; omega) (by have := HST.out; omega) tt)
  rw [HRP.out] at HC
  go_wp2_with fail
  refine HC.out.mono ?_
  rintro e w4 ⟨S2, rfl, hdk, hfr⟩
  clear HC HPB
  clear q0 q1 q2 q3 q4 q5
  have hN := HN.out
  have hout : ∀ {k : Nat}, k < w3.heap.size → N ≤ k → w4.heap[k]? = w3.heap[k]? := fun hk hle => (hfr.out hk (fun hs => by have := HBD.out _ hs; omega)).1
  have HS04 := Lib.hid ((hout (ex_lt HS03.out) (by omega)).trans HS03.out)
  have HS14 := Lib.hid ((hout (ex_lt HS13.out) (by omega)).trans HS13.out)
  have HRC := Lib.hid (HRB.out.call hfr)
  have HNZ : Hid (N + 1 + 1 < w3.heap.size) := Lib.hid (ex_lt HS13.out)
  have HFR := Lib.hid hfr
  have HFW := Lib.hid (frb HB3.out hfr)
  have HDK := Lib.hid hdk
  clear hN hout hdk hfr HS03 HS13 HO3 HB3 H3 HRB
  clear HRE HRP
  obtain ⟨c0, c1, c2, c3, c4⟩ := five_rd HS04.out
  obtain ⟨p0, p1, p2, p3, p4⟩ := five_rd HS14.out
  have fHS0 : ∀ o, w4.frozen? ⟨N, o, none⟩ = false := fun o => by simp [World.frozen?, HS04.out]
  have fHS1 : ∀ o, w4.frozen? ⟨N + 1 + 1, o, none⟩ = false := fun o => by simp [World.frozen?, HS14.out]
  go_wp2_with fail
  refine bodyPost_ret (rd_res rfl _ _ (N + 1 + 1) (.int .i64 D1.room) (.slice ra1 D1.fs.length rc1) (.bool D1.down) (.int .i64 rr1) (.int .u64 (D1.st : Int)) rfl (by go_simp) (by go_simp) (by go_simp) (by go_simp) (by go_simp)) rfl ?_
  have hN := HN.out
  have hsn : ∀ k, S2 k → k ≠ N + 1 + 1 := fun k hk => by
    rcases HFR.out.2.2 k hk with h1 | h1
    · have := HBD.out k h1; omega
    · have := HNZ.out; omega
  obtain ⟨m2, mt2, M2, V2, hdk⟩ := HDK.out
  refine ⟨S2, ra1, rc1, rr1, _, rfl, ⟨m2, mt2, M2, V2, hdk.move (by simp) (fun k _ hs => (Below.heap_setCell _ _ _ _ (show k ≠ N + 1 + 1 from hsn k hs)).trans ((Below.heap_setCell _ _ _ _ (show k ≠ N + 1 + 1 from hsn k hs)).trans ((Below.heap_setCell _ _ _ _ (show k ≠ N + 1 + 1 from hsn k hs)).trans ((Below.heap_setCell _ _ _ _ (show k ≠ N + 1 + 1 from hsn k hs)).trans ((Below.heap_setCell _ _ _ _ (show k ≠ N + 1 + 1 from hsn k hs)).trans (rfl))))))⟩, ⟨only_new (only_new (only_new (only_new (only_new (HFW.out.1) (show w.heap.size ≤ N + 1 + 1 by omega) 0 (.int .i64 D1.room)) (show w.heap.size ≤ N + 1 + 1 by omega) 1 (.slice ra1 D1.fs.length rc1)) (show w.heap.size ≤ N + 1 + 1 by omega) 2 (.bool D1.down)) (show w.heap.size ≤ N + 1 + 1 by omega) 3 (.int .i64 rr1)) (show w.heap.size ≤ N + 1 + 1 by omega) 4 (.int .u64 (D1.st : Int)), HFW.out.2.1, HFW.out.2.2⟩, ?_⟩
  exact (RA.set (RA.set (RA.set (RA.set (RA.set (HRC.out) (p := ⟨N + 1 + 1, 0, none⟩) (show P3 S2 N (N + 1 + 1) from .inr ⟨by omega, by omega⟩) (.int .i64 D1.room)) (p := ⟨N + 1 + 1, 1, none⟩) (show P3 S2 N (N + 1 + 1) from .inr ⟨by omega, by omega⟩) (.slice ra1 D1.fs.length rc1)) (p := ⟨N + 1 + 1, 2, none⟩) (show P3 S2 N (N + 1 + 1) from .inr ⟨by omega, by omega⟩) (.bool D1.down)) (p := ⟨N + 1 + 1, 3, none⟩) (show P3 S2 N (N + 1 + 1) from .inr ⟨by omega, by omega⟩) (.int .i64 rr1)) (p := ⟨N + 1 + 1, 4, none⟩) (show P3 S2 N (N + 1 + 1) from .inr ⟨by omega, by omega⟩) (.int .u64 (D1.st : Int))).weak (fun k hk => .inl hk)
set_option maxRecDepth 100000 in
set_option maxHeartbeats 8000000 in
theorem dp_read {S : Nat → Prop} {w : World} {B m mt : Nat} {D Q : Dd} {M : Lit → Option Value} {V : Nm → Value} {B0 : Nat} {a : Option Addr} (c : Nat) {ar : Int} (h : DKx S w B m mt D M V) (hra : RA S w Q a ar) (hfq : FitD Q) (hst : D.st < 1000000) (n : Int) (nm tt tx : List UInt8) (ts : List (Nat × Nat)) (ya : Option Addr) (yc : Nat) (hl : nm.length ≤ 100) (hrq : readD Q nm = readD D nm) : Calls Try.prog 16 #[.pointer (some ⟨B, 0, none⟩), .agg #[.int .i64 Q.room, .slice a Q.fs.length c, .bool Q.down, .int .i64 ar, .int .u64 (Q.st : Int)], .agg #[.int .i64 5, .int .i64 n, encStr nm, encStr tt, encStr tx, .slice ya ts.length yc]] w fun e w' => DoP2 S w B e w' D Q := by
  have HL := Lib.hid hl
  have HRQ := Lib.hid hrq
  clear hl hrq
  obtain ⟨B1, s0, so, s1, hz⟩ := box3 w #[.int .i64 Q.room, .slice a Q.fs.length c, .bool Q.down, .int .i64 ar, .int .u64 (Q.st : Int)] #[.int .i64 5, .int .i64 n, encStr nm, encStr tt, encStr tx, .slice ya ts.length yc] #[.int .i64 0, .slice none 0 0, .bool false, .int .i64 0, .int .u64 0] 30 34 30
  have HB1 := Lib.hid B1
  have HS01 := Lib.hid s0
  have HO1 := Lib.hid so
  have HS11 := Lib.hid s1
  have HZ := Lib.hid hz
  have H1 := Lib.hid (h.below B1)
  have HFT := Lib.hid hfq
  have HBD := Lib.hid h.bd
  have HST := Lib.hid hst
  obtain ⟨N, hN⟩ : ∃ N, w.heap.size = N := ⟨_, rfl⟩
  have HN := Lib.hid hN
  have HR1 := Lib.hid (hra.start B1 hN)
  clear h B1 s0 so s1 hz hra hst hfq
  rw [hN] at HS01 HO1 HS11 HZ
  clear hN
  go_enter Try.func16, Try.ntmps16
  go_upto_region 1 with fail
  have hN := HN.out
  try rw [hN]
  clear hN
  generalize ((w.alloc (.cells #[.int .i64 Q.room, .slice a Q.fs.length c, .bool Q.down, .int .i64 ar, .int .u64 (Q.st : Int)] 30)).alloc (.cells #[.int .i64 5, .int .i64 n, encStr nm, encStr tt, encStr tx, .slice ya ts.length yc] 34)).alloc (.cells #[.int .i64 0, .slice none 0 0, .bool false, .int .i64 0, .int .u64 0] 30) = w1 at H1 HS01 HO1 HS11 HB1 HZ HR1 ⊢
  have HPB : Hid (∀ k, P3 S N k → k < w1.heap.size) := Lib.hid (fun k hk => by
    have hz := HZ.out
    have hN := HN.out
    rcases hk with hk | hk
    · have := HBD.out k hk; omega
    · omega)
  obtain ⟨⟨bs, k1⟩, hr⟩ : ∃ r, readD D nm = r := ⟨_, rfl⟩
  have HRE := Lib.hid hr
  clear hr
  obtain ⟨c0, c1, c2, c3, c4⟩ := five_rd HS01.out
  obtain ⟨q0, q1, q2, q3, q4, q5⟩ := six_rd HO1.out
  have HC := Lib.hid (rread_any (c := c) HR1.out HFT.out HPB.out (n := nm))
  rw [HRQ.out, HRE.out] at HC
  go_wp2_with fail
  refine HC.out.mono ?_
  rintro e w2 ⟨rfl, hb⟩
  clear HC
  clear c0 c1 c2 c3 c4 q0 q1 q2 q3 q4 q5
  have HRA := Lib.hid (HR1.out.below hb)
  clear HR1
  have HS02 := Lib.hid (ex_below HS01.out hb)
  have HO2 := Lib.hid (ex_below HO1.out hb)
  have HS12 := Lib.hid (ex_below HS11.out hb)
  have H2 := Lib.hid (H1.out.below hb)
  have HB2 := Lib.hid (HB1.out.trans (hb.mono HB1.out.size))
  clear HS01 HO1 HS11 H1 HB1 hb
  obtain ⟨q0, q1, q2, q3, q4, q5⟩ := six_rd HO2.out
  have HC := Lib.hid (dread_any H2.out (n := nm) (by have := HL.out; omega))
  rw [HRE.out] at HC
  go_wp2_with fail
  refine HC.out.mono ?_
  rintro e w3 ⟨v1, rfl, hrb, hb⟩
  clear HC
  clear q0 q1 q2 q3 q4 q5
  have HRC := Lib.hid (HRA.out.below hb)
  clear HRA
  have HS03 := Lib.hid (ex_below HS02.out hb)
  have HO3 := Lib.hid (ex_below HO2.out hb)
  have HS13 := Lib.hid (ex_below HS12.out hb)
  have H3 := Lib.hid (H2.out.below hb)
  have HB3 := Lib.hid (HB2.out.trans (hb.mono HB2.out.size))
  clear HS02 HO2 HS12 H2 HB2 hb
  have hst := rb_string (P := Try.prog) hrb 51 9 5 Try.underlying51 Try.underlying5 Try.underlying9
  obtain ⟨sx, hsx⟩ : ∃ sx, str bs = sx := ⟨_, rfl⟩
  rw [hsx] at hst
  try rw [hsx]
  clear hrb hsx
  have HDK : Hid (DK S w3 B D) := Lib.hid ⟨m, mt, M, V, H3.out⟩
  have HFR : Hid (Fr S w3 S w3) := Lib.hid (Fr.below (Below.refl _ _))
  have HFW : Hid (Fr S w S w3) := Lib.hid (Fr.below HB3.out)
  have HNZ : Hid (N + 1 + 1 < w3.heap.size) := Lib.hid (ex_lt HS13.out)
  clear HRE
  obtain ⟨c0, c1, c2, c3, c4⟩ := five_rd HS03.out
  obtain ⟨p0, p1, p2, p3, p4⟩ := five_rd HS13.out
  have fHS0 : ∀ o, w3.frozen? ⟨N, o, none⟩ = false := fun o => by simp [World.frozen?, HS03.out]
  have fHS1 : ∀ o, w3.frozen? ⟨N + 1 + 1, o, none⟩ = false := fun o => by simp [World.frozen?, HS13.out]
  go_wp2_with fail
  refine bodyPost_ret (rd_res rfl _ _ (N + 1 + 1) (.int .i64 Q.room) (.slice a Q.fs.length c) (.bool Q.down) (.int .i64 ar) (.int .u64 (Q.st : Int)) rfl (by go_simp) (by go_simp) (by go_simp) (by go_simp) (by go_simp)) rfl ?_
  have hN := HN.out
  have hsn : ∀ k, S k → k ≠ N + 1 + 1 := fun k hk => by
    rcases HFR.out.2.2 k hk with h1 | h1
    · have := HBD.out k h1; omega
    · have := HNZ.out; omega
  obtain ⟨m2, mt2, M2, V2, hdk⟩ := HDK.out
  refine ⟨S, a, c, ar, _, rfl, ⟨m2, mt2, M2, V2, hdk.move (by simp) (fun k _ hs => (Below.heap_setCell _ _ _ _ (show k ≠ N + 1 + 1 from hsn k hs)).trans ((Below.heap_setCell _ _ _ _ (show k ≠ N + 1 + 1 from hsn k hs)).trans ((Below.heap_setCell _ _ _ _ (show k ≠ N + 1 + 1 from hsn k hs)).trans ((Below.heap_setCell _ _ _ _ (show k ≠ N + 1 + 1 from hsn k hs)).trans ((Below.heap_setCell _ _ _ _ (show k ≠ N + 1 + 1 from hsn k hs)).trans (rfl))))))⟩, ⟨only_new (only_new (only_new (only_new (only_new (HFW.out.1) (show w.heap.size ≤ N + 1 + 1 by omega) 0 (.int .i64 Q.room)) (show w.heap.size ≤ N + 1 + 1 by omega) 1 (.slice a Q.fs.length c)) (show w.heap.size ≤ N + 1 + 1 by omega) 2 (.bool Q.down)) (show w.heap.size ≤ N + 1 + 1 by omega) 3 (.int .i64 ar)) (show w.heap.size ≤ N + 1 + 1 by omega) 4 (.int .u64 (Q.st : Int)), HFW.out.2.1, HFW.out.2.2⟩, ?_⟩
  exact (RA.set (RA.set (RA.set (RA.set (RA.set (HRC.out) (p := ⟨N + 1 + 1, 0, none⟩) (show P3 S N (N + 1 + 1) from .inr ⟨by omega, by omega⟩) (.int .i64 Q.room)) (p := ⟨N + 1 + 1, 1, none⟩) (show P3 S N (N + 1 + 1) from .inr ⟨by omega, by omega⟩) (.slice a Q.fs.length c)) (p := ⟨N + 1 + 1, 2, none⟩) (show P3 S N (N + 1 + 1) from .inr ⟨by omega, by omega⟩) (.bool Q.down)) (p := ⟨N + 1 + 1, 3, none⟩) (show P3 S N (N + 1 + 1) from .inr ⟨by omega, by omega⟩) (.int .i64 ar)) (p := ⟨N + 1 + 1, 4, none⟩) (show P3 S N (N + 1 + 1) from .inr ⟨by omega, by omega⟩) (.int .u64 (Q.st : Int))).weak (fun k hk => .inl hk)
set_option maxRecDepth 100000 in
set_option maxHeartbeats 8000000 in
theorem dp_append {S : Nat → Prop} {w : World} {B m mt : Nat} {D Q : Dd} {M : Lit → Option Value} {V : Nm → Value} {B0 : Nat} {a : Option Addr} (c : Nat) {ar : Int} (h : DKx S w B m mt D M V) (hra : RA S w Q a ar) (hfq : FitD Q) (hst : D.st < 1000000) (n : Int) (nm tt tx : List UInt8) (ts : List (Nat × Nat)) (ya : Option Addr) (yc : Nat) (kd : Int) (hk1 : kd ≠ 1) (hk2 : kd ≠ 2) (hk3 : kd ≠ 3) (hk4 : kd ≠ 4) (hk5 : kd ≠ 5) (hk6 : kd ≠ 6) (hk7 : kd ≠ 7) (hk8 : kd ≠ 8) (hk9 : kd ≠ 9) (htl : tx.length ≤ 2000) (hstq : Q.st < 1000000) : Calls Try.prog 16 #[.pointer (some ⟨B, 0, none⟩), .agg #[.int .i64 Q.room, .slice a Q.fs.length c, .bool Q.down, .int .i64 ar, .int .u64 (Q.st : Int)], .agg #[.int .i64 kd, .int .i64 n, encStr nm, encStr tt, encStr tx, .slice ya ts.length yc]] w fun e w' => DoP2 S w B e w' (appendD D nm (tx.map UInt8.toNat)).1 (appendD Q nm (tx.map UInt8.toNat)).1 := by
  rw [enc_bs tx]
  obtain ⟨bs, hbs⟩ : ∃ bs, tx.map UInt8.toNat = bs := ⟨_, rfl⟩
  have HBL : Hid (bs.length ≤ 2000 ∧ ∀ c ∈ bs, c < 256) := Lib.hid ⟨by rw [← hbs, List.length_map]; exact htl, fun c hc => by
    rw [← hbs] at hc
    obtain ⟨b, -, rfl⟩ := List.mem_map.1 hc
    exact b.toNat_lt⟩
  rw [hbs]
  obtain ⟨⟨D2, k2⟩, hr2⟩ : ∃ r, appendD D nm bs = r := ⟨_, rfl⟩
  obtain ⟨⟨D1, k1⟩, hr⟩ : ∃ r, appendD Q nm bs = r := ⟨_, rfl⟩
  rw [hr, hr2]
  have HRE := Lib.hid hr
  have HRP := Lib.hid hr2
  have HSQ := Lib.hid hstq
  clear hr hr2 hbs htl hstq
  have g1 : decide (kd = 1) = false := decide_eq_false hk1
  have e1 : (kd == 1) = false := by simpa using hk1
  clear hk1
  have g2 : decide (kd = 2) = false := decide_eq_false hk2
  have e2 : (kd == 2) = false := by simpa using hk2
  clear hk2
  have g3 : decide (kd = 3) = false := decide_eq_false hk3
  have e3 : (kd == 3) = false := by simpa using hk3
  clear hk3
  have g4 : decide (kd = 4) = false := decide_eq_false hk4
  have e4 : (kd == 4) = false := by simpa using hk4
  clear hk4
  have g5 : decide (kd = 5) = false := decide_eq_false hk5
  have e5 : (kd == 5) = false := by simpa using hk5
  clear hk5
  have g6 : decide (kd = 6) = false := decide_eq_false hk6
  have e6 : (kd == 6) = false := by simpa using hk6
  clear hk6
  have g7 : decide (kd = 7) = false := decide_eq_false hk7
  have e7 : (kd == 7) = false := by simpa using hk7
  clear hk7
  have g8 : decide (kd = 8) = false := decide_eq_false hk8
  have e8 : (kd == 8) = false := by simpa using hk8
  clear hk8
  have g9 : decide (kd = 9) = false := decide_eq_false hk9
  have e9 : (kd == 9) = false := by simpa using hk9
  clear hk9
  obtain ⟨B1, s0, so, s1, hz⟩ := box3 w #[.int .i64 Q.room, .slice a Q.fs.length c, .bool Q.down, .int .i64 ar, .int .u64 (Q.st : Int)] #[.int .i64 kd, .int .i64 n, encStr nm, encStr tt, .string (str bs), .slice ya ts.length yc] #[.int .i64 0, .slice none 0 0, .bool false, .int .i64 0, .int .u64 0] 30 34 30
  have HB1 := Lib.hid B1
  have HS01 := Lib.hid s0
  have HO1 := Lib.hid so
  have HS11 := Lib.hid s1
  have HZ := Lib.hid hz
  have H1 := Lib.hid (h.below B1)
  have HFT := Lib.hid hfq
  have HBD := Lib.hid h.bd
  have HST := Lib.hid hst
  obtain ⟨N, hN⟩ : ∃ N, w.heap.size = N := ⟨_, rfl⟩
  have HN := Lib.hid hN
  have HR1 := Lib.hid (hra.start B1 hN)
  clear h B1 s0 so s1 hz hra hst hfq
  rw [hN] at HS01 HO1 HS11 HZ
  clear hN
  go_enter Try.func16, Try.ntmps16
  go_upto_region 1 with fail
  have hN := HN.out
  try rw [hN]
  clear hN
  generalize ((w.alloc (.cells #[.int .i64 Q.room, .slice a Q.fs.length c, .bool Q.down, .int .i64 ar, .int .u64 (Q.st : Int)] 30)).alloc (.cells #[.int .i64 kd, .int .i64 n, encStr nm, encStr tt, .string (str bs), .slice ya ts.length yc] 34)).alloc (.cells #[.int .i64 0, .slice none 0 0, .bool false, .int .i64 0, .int .u64 0] 30) = w1 at H1 HS01 HO1 HS11 HB1 HZ HR1 ⊢
  have HPB : Hid (∀ k, P3 S N k → k < w1.heap.size) := Lib.hid (fun k hk => by
    have hz := HZ.out
    have hN := HN.out
    rcases hk with hk | hk
    · have := HBD.out k hk; omega
    · omega)
  obtain ⟨c0, c1, c2, c3, c4⟩ := five_rd HS01.out
  obtain ⟨q0, q1, q2, q3, q4, q5⟩ := six_rd HO1.out
  have HC := Lib.hid (rappend_any (c := c) HR1.out HFT.out HPB.out nm bs (by have := HSQ.out; omega))
  rw [HRE.out] at HC
  go_wp2_with fail
  refine HC.out.mono ?_
  rintro e w2 ⟨ra1, rc1, rr1, rfl, hra1, hb⟩
  clear HC HR1
  clear c0 c1 c2 c3 c4 q0 q1 q2 q3 q4 q5
  have HRA := Lib.hid hra1
  clear hra1
  have HS02 := Lib.hid (ex_below HS01.out hb)
  have HO2 := Lib.hid (ex_below HO1.out hb)
  have HS12 := Lib.hid (ex_below HS11.out hb)
  have H2 := Lib.hid (H1.out.below hb)
  have HB2 := Lib.hid (HB1.out.trans (hb.mono HB1.out.size))
  clear HS01 HO1 HS11 H1 HB1 hb
  obtain ⟨c0, c1, c2, c3, c4⟩ := five_rd HS02.out
  have fHS0 : ∀ o, w2.frozen? ⟨N, o, none⟩ = false := fun o => by simp [World.frozen?, HS02.out]
  unfold RVal
  dsimp only
  clear g1 e1 g2 e2 g3 e3 g4 e4 g5 e5 g6 e6 g7 e7 g8 e8 g9 e9
  have hNN := HN.out
  have HQ_HS0 := Lib.hid (set5 HS02.out (.int .i64 D1.room) (.slice ra1 D1.fs.length rc1) (.bool D1.down) (.int .i64 rr1) (.int .u64 (D1.st : Int)))
  have HQ_HO : Hid ((((((w2.setCell ⟨N, 0, none⟩ (.int .i64 D1.room)).setCell ⟨N, 1, none⟩ (.slice ra1 D1.fs.length rc1)).setCell ⟨N, 2, none⟩ (.bool D1.down)).setCell ⟨N, 3, none⟩ (.int .i64 rr1)).setCell ⟨N, 4, none⟩ (.int .u64 (D1.st : Int))).heap[N + 1]? = some (.cells #[.int .i64 kd, .int .i64 n, encStr nm, encStr tt, .string (str bs), .slice ya ts.length yc] 34 (0, 0))) := Lib.hid ((Below.heap_setCell _ _ _ _ (show N + 1 ≠ N by omega)).trans ((Below.heap_setCell _ _ _ _ (show N + 1 ≠ N by omega)).trans ((Below.heap_setCell _ _ _ _ (show N + 1 ≠ N by omega)).trans ((Below.heap_setCell _ _ _ _ (show N + 1 ≠ N by omega)).trans ((Below.heap_setCell _ _ _ _ (show N + 1 ≠ N by omega)).trans (HO2.out))))))
  have HQ_HS1 : Hid ((((((w2.setCell ⟨N, 0, none⟩ (.int .i64 D1.room)).setCell ⟨N, 1, none⟩ (.slice ra1 D1.fs.length rc1)).setCell ⟨N, 2, none⟩ (.bool D1.down)).setCell ⟨N, 3, none⟩ (.int .i64 rr1)).setCell ⟨N, 4, none⟩ (.int .u64 (D1.st : Int))).heap[N + 1 + 1]? = some (.cells #[.int .i64 0, .slice none 0 0, .bool false, .int .i64 0, .int .u64 0] 30 (0, 0))) := Lib.hid ((Below.heap_setCell _ _ _ _ (show N + 1 + 1 ≠ N by omega)).trans ((Below.heap_setCell _ _ _ _ (show N + 1 + 1 ≠ N by omega)).trans ((Below.heap_setCell _ _ _ _ (show N + 1 + 1 ≠ N by omega)).trans ((Below.heap_setCell _ _ _ _ (show N + 1 + 1 ≠ N by omega)).trans ((Below.heap_setCell _ _ _ _ (show N + 1 + 1 ≠ N by omega)).trans (HS12.out))))))
  have HQB := Lib.hid (below_two (below_two (below_two (below_two (below_two (HB2.out) (show w.heap.size ≤ N by omega) 0 (.int .i64 D1.room)) (show w.heap.size ≤ N by omega) 1 (.slice ra1 D1.fs.length rc1)) (show w.heap.size ≤ N by omega) 2 (.bool D1.down)) (show w.heap.size ≤ N by omega) 3 (.int .i64 rr1)) (show w.heap.size ≤ N by omega) 4 (.int .u64 (D1.st : Int)))
  have hsn : ∀ k, S k → k ≠ N := fun k hk => by have := HBD.out k hk; omega
  have HQH : Hid (DKx S (((((w2.setCell ⟨N, 0, none⟩ (.int .i64 D1.room)).setCell ⟨N, 1, none⟩ (.slice ra1 D1.fs.length rc1)).setCell ⟨N, 2, none⟩ (.bool D1.down)).setCell ⟨N, 3, none⟩ (.int .i64 rr1)).setCell ⟨N, 4, none⟩ (.int .u64 (D1.st : Int))) B m mt D M V) := Lib.hid (H2.out.move (by simp) (fun k _ hs => (Below.heap_setCell _ _ _ _ (show k ≠ N from hsn k hs)).trans ((Below.heap_setCell _ _ _ _ (show k ≠ N from hsn k hs)).trans ((Below.heap_setCell _ _ _ _ (show k ≠ N from hsn k hs)).trans ((Below.heap_setCell _ _ _ _ (show k ≠ N from hsn k hs)).trans ((Below.heap_setCell _ _ _ _ (show k ≠ N from hsn k hs)).trans (rfl)))))))
  have HQR := Lib.hid (RA.set (RA.set (RA.set (RA.set (RA.set (HRA.out) (p := ⟨N, 0, none⟩) (show P3 S N N from .inr ⟨Nat.le_refl _, by omega⟩) (.int .i64 D1.room)) (p := ⟨N, 1, none⟩) (show P3 S N N from .inr ⟨Nat.le_refl _, by omega⟩) (.slice ra1 D1.fs.length rc1)) (p := ⟨N, 2, none⟩) (show P3 S N N from .inr ⟨Nat.le_refl _, by omega⟩) (.bool D1.down)) (p := ⟨N, 3, none⟩) (show P3 S N N from .inr ⟨Nat.le_refl _, by omega⟩) (.int .i64 rr1)) (p := ⟨N, 4, none⟩) (show P3 S N N from .inr ⟨Nat.le_refl _, by omega⟩) (.int .u64 (D1.st : Int)))
  clear hNN hsn
  go_upto_region 5 with fail
  generalize (((((w2.setCell ⟨N, 0, none⟩ (.int .i64 D1.room)).setCell ⟨N, 1, none⟩ (.slice ra1 D1.fs.length rc1)).setCell ⟨N, 2, none⟩ (.bool D1.down)).setCell ⟨N, 3, none⟩ (.int .i64 rr1)).setCell ⟨N, 4, none⟩ (.int .u64 (D1.st : Int))) = w3 at HQ_HS0 HQ_HO HQ_HS1 HQB HQH HQR ⊢
  have HS03 := HQ_HS0
  have HO3 := HQ_HO
  have HS13 := HQ_HS1
  have HB3 := HQB
  have H3 := HQH
  have HRB := HQR
  clear HQ_HS0 HQ_HO HQ_HS1 HQB HQH HQR HS02 HO2 HS12 HB2 H2 HRA
  obtain ⟨q0, q1, q2, q3, q4, q5⟩ := six_rd HO3.out
  obtain ⟨g, cap, wv, hcv, hbr, hbv, hc1, hc2, hg⟩ := bytes_new w3 bs HBL.out.2 (by have := HBL.out.1; omega)
  have HC := Lib.hid (dappend_any (H3.out.below hbv) nm (by have := HST.out; omega) (some ⟨g, 0, none⟩) cap bs (hbr.rb HBL.out.2 (by have := HBL.out.1; omega) hc1 hc2))
  rw [HRP.out] at HC
  have HBV := Lib.hid hbv
  clear hbr hbv hc1 hc2 hg
  go_wp2_with fail
  refine HC.out.mono ?_
  rintro e wz ⟨S2, rfl, hdk, hfr⟩
  clear HC HPB hcv
  clear q0 q1 q2 q3 q4 q5
  have hb := HBV.out
  have HRBv := Lib.hid (HRB.out.below hb)
  clear HRB
  have HRB := HRBv
  clear HRBv
  obtain ⟨w4, hwv⟩ : ∃ W, wv = W := ⟨_, rfl⟩
  rw [hwv] at hb hfr HRB
  clear hwv
  have HS04 := Lib.hid (ex_below HS03.out hb)
  have HO4 := Lib.hid (ex_below HO3.out hb)
  have HS14 := Lib.hid (ex_below HS13.out hb)
  have H4 := Lib.hid (H3.out.below hb)
  have HB4 := Lib.hid (HB3.out.trans (hb.mono HB3.out.size))
  clear HS03 HO3 HS13 H3 HB3 hb
  obtain ⟨w5, hwz⟩ : ∃ W, wz = W := ⟨_, rfl⟩
  rw [hwz] at hdk hfr ⊢
  clear hwz HBV
  have hN := HN.out
  have hout : ∀ {k : Nat}, k < w4.heap.size → N ≤ k → w5.heap[k]? = w4.heap[k]? := fun hk hle => (hfr.out hk (fun hs => by have := HBD.out _ hs; omega)).1
  have HS05 := Lib.hid ((hout (ex_lt HS04.out) (by omega)).trans HS04.out)
  have HS15 := Lib.hid ((hout (ex_lt HS14.out) (by omega)).trans HS14.out)
  have HRC := Lib.hid (HRB.out.call hfr)
  have HNZ : Hid (N + 1 + 1 < w4.heap.size) := Lib.hid (ex_lt HS14.out)
  have HFR := Lib.hid hfr
  have HFW := Lib.hid (frb HB4.out hfr)
  have HDK := Lib.hid hdk
  clear hN hout hdk hfr HS04 HS14 HO4 HB4 H4 HRB
  clear HRE HRP
  obtain ⟨c0, c1, c2, c3, c4⟩ := five_rd HS05.out
  obtain ⟨p0, p1, p2, p3, p4⟩ := five_rd HS15.out
  have fHS0 : ∀ o, w5.frozen? ⟨N, o, none⟩ = false := fun o => by simp [World.frozen?, HS05.out]
  have fHS1 : ∀ o, w5.frozen? ⟨N + 1 + 1, o, none⟩ = false := fun o => by simp [World.frozen?, HS15.out]
  go_wp2_with fail
  refine bodyPost_ret (rd_res rfl _ _ (N + 1 + 1) (.int .i64 D1.room) (.slice ra1 D1.fs.length rc1) (.bool D1.down) (.int .i64 rr1) (.int .u64 (D1.st : Int)) rfl (by go_simp) (by go_simp) (by go_simp) (by go_simp) (by go_simp)) rfl ?_
  have hN := HN.out
  have hsn : ∀ k, S2 k → k ≠ N + 1 + 1 := fun k hk => by
    rcases HFR.out.2.2 k hk with h1 | h1
    · have := HBD.out k h1; omega
    · have := HNZ.out; omega
  obtain ⟨m2, mt2, M2, V2, hdk⟩ := HDK.out
  refine ⟨S2, ra1, rc1, rr1, _, rfl, ⟨m2, mt2, M2, V2, hdk.move (by simp) (fun k _ hs => (Below.heap_setCell _ _ _ _ (show k ≠ N + 1 + 1 from hsn k hs)).trans ((Below.heap_setCell _ _ _ _ (show k ≠ N + 1 + 1 from hsn k hs)).trans ((Below.heap_setCell _ _ _ _ (show k ≠ N + 1 + 1 from hsn k hs)).trans ((Below.heap_setCell _ _ _ _ (show k ≠ N + 1 + 1 from hsn k hs)).trans ((Below.heap_setCell _ _ _ _ (show k ≠ N + 1 + 1 from hsn k hs)).trans (rfl))))))⟩, ⟨only_new (only_new (only_new (only_new (only_new (HFW.out.1) (show w.heap.size ≤ N + 1 + 1 by omega) 0 (.int .i64 D1.room)) (show w.heap.size ≤ N + 1 + 1 by omega) 1 (.slice ra1 D1.fs.length rc1)) (show w.heap.size ≤ N + 1 + 1 by omega) 2 (.bool D1.down)) (show w.heap.size ≤ N + 1 + 1 by omega) 3 (.int .i64 rr1)) (show w.heap.size ≤ N + 1 + 1 by omega) 4 (.int .u64 (D1.st : Int)), HFW.out.2.1, HFW.out.2.2⟩, ?_⟩
  exact (RA.set (RA.set (RA.set (RA.set (RA.set (HRC.out) (p := ⟨N + 1 + 1, 0, none⟩) (show P3 S2 N (N + 1 + 1) from .inr ⟨by omega, by omega⟩) (.int .i64 D1.room)) (p := ⟨N + 1 + 1, 1, none⟩) (show P3 S2 N (N + 1 + 1) from .inr ⟨by omega, by omega⟩) (.slice ra1 D1.fs.length rc1)) (p := ⟨N + 1 + 1, 2, none⟩) (show P3 S2 N (N + 1 + 1) from .inr ⟨by omega, by omega⟩) (.bool D1.down)) (p := ⟨N + 1 + 1, 3, none⟩) (show P3 S2 N (N + 1 + 1) from .inr ⟨by omega, by omega⟩) (.int .i64 rr1)) (p := ⟨N + 1 + 1, 4, none⟩) (show P3 S2 N (N + 1 + 1) from .inr ⟨by omega, by omega⟩) (.int .u64 (D1.st : Int))).weak (fun k hk => .inl hk)
end Go.Proofs.Ythkjjpkipeeimaa
