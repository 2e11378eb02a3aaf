/- The law's do: a call, both ways. -/
import Derived.Test.YthkjjpkipeeimaaDoE
namespace Go.Proofs.Ythkjjpkipeeimaa
open Go.RowKit Go.Maps
theorem six_rd {w : World} {N : Nat} {x0 x1 x2 x3 x4 x5 : Value} {t : TypeId} (h : w.heap[N]? = some (.cells #[x0, x1, x2, x3, x4, x5] t (0, 0))) : w.cell? ⟨N, 0, none⟩ = some x0 ∧ w.cell? ⟨N, 1, none⟩ = some x1 ∧ w.cell? ⟨N, 2, none⟩ = some x2 ∧ w.cell? ⟨N, 3, none⟩ = some x3 ∧ w.cell? ⟨N, 4, none⟩ = some x4 ∧ w.cell? ⟨N, 5, none⟩ = some x5 := by
  refine ⟨?_, ?_, ?_, ?_, ?_, ?_⟩ <;> simp [World.cell?, h]
/-- What a call makes of the disk. -/
def opD (D : Dd) (y : Oq) : Dd :=
  if y.kd = 1 then (syncD D y.nm).1 else if y.kd = 2 then (cutD D y.nm y.n).1 else if y.kd = 3 then (removeD D y.nm).1 else if y.kd = 4 then (moveD D y.nm y.tt).1 else if y.kd = 5 then D
  else if y.kd = 6 then (armD D y.n).1 else if y.kd = 7 then crashD D y.ts else if y.kd = 8 then bootD D else if y.kd = 9 then (resizeD D y.n).1 else (appendD D y.nm y.bs).1
/-- What do told, and what it made of the disk and of the reference's. -/
def DoP (S : Nat → Prop) (w : World) (B : Nat) (e : Ending) (w' : World) (D' : Dd) : Prop := ∃ S' a' c' ar', e = .returned (.tuple #[RVal D' a' c' ar', .bool true]) ∧ DK S' w' B D' ∧ Fr S w S' w' ∧ RA S' w' D' a' ar'
/-- The three boxes that do makes for itself. -/
def P3 (S : Nat → Prop) (N : Nat) : Nat → Prop := fun k => S k ∨ (N ≤ k ∧ k < N + 3)
theorem RA.start {S : Nat → Prop} {w w1 : World} {D : Dd} {a : Option Addr} {ar : Int} {N : Nat} (h : RA S w D a ar) (hb : Below w.heap.size w w1) (hN : w.heap.size = N) : RA (P3 S N) w1 D a ar := ⟨h.row.below hb, fun x e => ⟨fun hp => by
  rcases hp with hp | hp
  · exact (h.out x e).1 hp
  · have := (h.out x e).2; omega, Nat.lt_of_lt_of_le (h.out x e).2 hb.size⟩, h.lt, h.arm⟩
theorem RA.call {S S' : Nat → Prop} {w w' : World} {D : Dd} {a : Option Addr} {ar : Int} {N : Nat} (h : RA (P3 S N) w D a ar) (hf : Fr S w S' w') : RA (P3 S' N) w' D a ar := h.only (hf.1.more (fun k hk => .inl hk)) (fun k hk => by
  rcases hk with hk | hk
  · rcases hf.2.2 k hk with h1 | h1
    · exact .inl (.inl h1)
    · exact .inr h1
  · exact .inl (.inr hk))
theorem RA.weak {P P' : Nat → Prop} {w : World} {D : Dd} {a : Option Addr} {ar : Int} (h : RA P w D a ar) (hp : ∀ k, P' k → P k) : RA P' w D a ar := h.only (Only.refl P w) (fun k hk => .inl (hp k hk))
theorem DK.fit2 {S : Nat → Prop} {w : World} {B : Nat} {D : Dd} (h : DK S w B D) : FitD D := h.fit
theorem frb {S : Nat → Prop} {w w1 w2 : World} {S' : Nat → Prop} (hb : Below w.heap.size w w1) (hf : Fr S w1 S' w2) : Fr S w S' w2 := (Fr.below hb).trans hf
set_option maxRecDepth 100000 in
set_option maxHeartbeats 8000000 in
theorem do_sync {S : Nat → Prop} {w : World} {B m mt : Nat} {D : Dd} {M : Lit → Option Value} {V : Nm → Value} {B0 : Nat} {a : Option Addr} (c : Nat) {ar : Int} (h : DKx S w B m mt D M V) (hra : RA S w D a ar) (hst : D.st < 1000000) (n : Int) (nm tt tx : List UInt8) (ts : List (Nat × Nat)) (ya : Option Addr) (yc : Nat) (hl : nm.length ≤ 100) : Calls Try.prog 16 #[.pointer (some ⟨B, 0, none⟩), .agg #[.int .i64 D.room, .slice a D.fs.length c, .bool D.down, .int .i64 ar, .int .u64 (D.st : Int)], .agg #[.int .i64 1, .int .i64 n, encStr nm, encStr tt, encStr tx, .slice ya ts.length yc]] w fun e w' => DoP S w B e w' ((syncD D nm).1) := by
  obtain ⟨⟨D1, k1⟩, hr⟩ : ∃ r, syncD D nm = r := ⟨_, rfl⟩
  rw [hr]
  have HRE := Lib.hid hr
  clear hr
  have HL := Lib.hid hl
  clear hl
  obtain ⟨B1, s0, so, s1, hz⟩ := box3 w #[.int .i64 D.room, .slice a D.fs.length c, .bool D.down, .int .i64 ar, .int .u64 (D.st : Int)] #[.int .i64 1, .int .i64 n, encStr nm, encStr tt, encStr tx, .slice ya ts.length yc] #[.int .i64 0, .slice none 0 0, .bool false, .int .i64 0, .int .u64 0] 30 34 30
  have HB1 := Lib.hid B1
  have HS01 := Lib.hid s0
  have HO1 := Lib.hid so
  have HS11 := Lib.hid s1
  have HZ := Lib.hid hz
  have H1 := Lib.hid (h.below B1)
  have HFT := Lib.hid h.fit
  have HBD := Lib.hid h.bd
  have HST := Lib.hid hst
  obtain ⟨N, hN⟩ : ∃ N, w.heap.size = N := ⟨_, rfl⟩
  have HN := Lib.hid hN
  have HR1 := Lib.hid (hra.start B1 hN)
  clear h B1 s0 so s1 hz hra hst
  rw [hN] at HS01 HO1 HS11 HZ
  clear hN
  go_enter Try.func16, Try.ntmps16
  go_upto_region 1 with fail
  have hN := HN.out
  try rw [hN]
  clear hN
  generalize ((w.alloc (.cells #[.int .i64 D.room, .slice a D.fs.length c, .bool D.down, .int .i64 ar, .int .u64 (D.st : Int)] 30)).alloc (.cells #[.int .i64 1, .int .i64 n, encStr nm, encStr tt, encStr tx, .slice ya ts.length yc] 34)).alloc (.cells #[.int .i64 0, .slice none 0 0, .bool false, .int .i64 0, .int .u64 0] 30) = w1 at H1 HS01 HO1 HS11 HB1 HZ HR1 ⊢
  have HPB : Hid (∀ k, P3 S N k → k < w1.heap.size) := Lib.hid (fun k hk => by
    have hz := HZ.out
    have hN := HN.out
    rcases hk with hk | hk
    · have := HBD.out k hk; omega
    · omega)
  obtain ⟨c0, c1, c2, c3, c4⟩ := five_rd HS01.out
  obtain ⟨q0, q1, q2, q3, q4, q5⟩ := six_rd HO1.out
  have HC := Lib.hid (rsync_any (c := c) HR1.out HFT.out HPB.out (n := nm) (by have := HST.out; omega))
  rw [HRE.out] at HC
  go_wp2_with fail
  refine HC.out.mono ?_
  rintro e w2 ⟨ra1, rc1, rr1, rfl, hra1, hb⟩
  clear HC HR1
  clear c0 c1 c2 c3 c4 q0 q1 q2 q3 q4 q5
  have HRA := Lib.hid hra1
  clear hra1
  have HS02 := Lib.hid (ex_below HS01.out hb)
  have HO2 := Lib.hid (ex_below HO1.out hb)
  have HS12 := Lib.hid (ex_below HS11.out hb)
  have H2 := Lib.hid (H1.out.below hb)
  have HB2 := Lib.hid (HB1.out.trans (hb.mono HB1.out.size))
  clear HS01 HO1 HS11 H1 HB1 hb
  obtain ⟨c0, c1, c2, c3, c4⟩ := five_rd HS02.out
  have fHS0 : ∀ o, w2.frozen? ⟨N, o, none⟩ = false := fun o => by simp [World.frozen?, HS02.out]
  unfold RVal
  dsimp only
  have hNN := HN.out
  have HQ_HS0 := Lib.hid (set5 HS02.out (.int .i64 D1.room) (.slice ra1 D1.fs.length rc1) (.bool D1.down) (.int .i64 rr1) (.int .u64 (D1.st : Int)))
  have HQ_HO : Hid ((((((w2.setCell ⟨N, 0, none⟩ (.int .i64 D1.room)).setCell ⟨N, 1, none⟩ (.slice ra1 D1.fs.length rc1)).setCell ⟨N, 2, none⟩ (.bool D1.down)).setCell ⟨N, 3, none⟩ (.int .i64 rr1)).setCell ⟨N, 4, none⟩ (.int .u64 (D1.st : Int))).heap[N + 1]? = some (.cells #[.int .i64 1, .int .i64 n, encStr nm, encStr tt, encStr tx, .slice ya ts.length yc] 34 (0, 0))) := Lib.hid ((Below.heap_setCell _ _ _ _ (show N + 1 ≠ N by omega)).trans ((Below.heap_setCell _ _ _ _ (show N + 1 ≠ N by omega)).trans ((Below.heap_setCell _ _ _ _ (show N + 1 ≠ N by omega)).trans ((Below.heap_setCell _ _ _ _ (show N + 1 ≠ N by omega)).trans ((Below.heap_setCell _ _ _ _ (show N + 1 ≠ N by omega)).trans (HO2.out))))))
  have HQ_HS1 : Hid ((((((w2.setCell ⟨N, 0, none⟩ (.int .i64 D1.room)).setCell ⟨N, 1, none⟩ (.slice ra1 D1.fs.length rc1)).setCell ⟨N, 2, none⟩ (.bool D1.down)).setCell ⟨N, 3, none⟩ (.int .i64 rr1)).setCell ⟨N, 4, none⟩ (.int .u64 (D1.st : Int))).heap[N + 1 + 1]? = some (.cells #[.int .i64 0, .slice none 0 0, .bool false, .int .i64 0, .int .u64 0] 30 (0, 0))) := Lib.hid ((Below.heap_setCell _ _ _ _ (show N + 1 + 1 ≠ N by omega)).trans ((Below.heap_setCell _ _ _ _ (show N + 1 + 1 ≠ N by omega)).trans ((Below.heap_setCell _ _ _ _ (show N + 1 + 1 ≠ N by omega)).trans ((Below.heap_setCell _ _ _ _ (show N + 1 + 1 ≠ N by omega)).trans ((Below.heap_setCell _ _ _ _ (show N + 1 + 1 ≠ N by omega)).trans (HS12.out))))))
  have HQB := Lib.hid (below_two (below_two (below_two (below_two (below_two (HB2.out) (show w.heap.size ≤ N by omega) 0 (.int .i64 D1.room)) (show w.heap.size ≤ N by omega) 1 (.slice ra1 D1.fs.length rc1)) (show w.heap.size ≤ N by omega) 2 (.bool D1.down)) (show w.heap.size ≤ N by omega) 3 (.int .i64 rr1)) (show w.heap.size ≤ N by omega) 4 (.int .u64 (D1.st : Int)))
  have hsn : ∀ k, S k → k ≠ N := fun k hk => by have := HBD.out k hk; omega
  have HQH : Hid (DKx S (((((w2.setCell ⟨N, 0, none⟩ (.int .i64 D1.room)).setCell ⟨N, 1, none⟩ (.slice ra1 D1.fs.length rc1)).setCell ⟨N, 2, none⟩ (.bool D1.down)).setCell ⟨N, 3, none⟩ (.int .i64 rr1)).setCell ⟨N, 4, none⟩ (.int .u64 (D1.st : Int))) B m mt D M V) := Lib.hid (H2.out.move (by simp) (fun k _ hs => (Below.heap_setCell _ _ _ _ (show k ≠ N from hsn k hs)).trans ((Below.heap_setCell _ _ _ _ (show k ≠ N from hsn k hs)).trans ((Below.heap_setCell _ _ _ _ (show k ≠ N from hsn k hs)).trans ((Below.heap_setCell _ _ _ _ (show k ≠ N from hsn k hs)).trans ((Below.heap_setCell _ _ _ _ (show k ≠ N from hsn k hs)).trans (rfl)))))))
  have HQR := Lib.hid (RA.set (RA.set (RA.set (RA.set (RA.set (HRA.out) (p := ⟨N, 0, none⟩) (show P3 S N N from .inr ⟨Nat.le_refl _, by omega⟩) (.int .i64 D1.room)) (p := ⟨N, 1, none⟩) (show P3 S N N from .inr ⟨Nat.le_refl _, by omega⟩) (.slice ra1 D1.fs.length rc1)) (p := ⟨N, 2, none⟩) (show P3 S N N from .inr ⟨Nat.le_refl _, by omega⟩) (.bool D1.down)) (p := ⟨N, 3, none⟩) (show P3 S N N from .inr ⟨Nat.le_refl _, by omega⟩) (.int .i64 rr1)) (p := ⟨N, 4, none⟩) (show P3 S N N from .inr ⟨Nat.le_refl _, by omega⟩) (.int .u64 (D1.st : Int)))
  clear hNN hsn
  go_upto_region 8 with fail
  generalize (((((w2.setCell ⟨N, 0, none⟩ (.int .i64 D1.room)).setCell ⟨N, 1, none⟩ (.slice ra1 D1.fs.length rc1)).setCell ⟨N, 2, none⟩ (.bool D1.down)).setCell ⟨N, 3, none⟩ (.int .i64 rr1)).setCell ⟨N, 4, none⟩ (.int .u64 (D1.st : Int))) = w3 at HQ_HS0 HQ_HO HQ_HS1 HQB HQH HQR ⊢
  have HS03 := HQ_HS0
  have HO3 := HQ_HO
  have HS13 := HQ_HS1
  have HB3 := HQB
  have H3 := HQH
  have HRB := HQR
  clear HQ_HS0 HQ_HO HQ_HS1 HQB HQH HQR HS02 HO2 HS12 HB2 H2 HRA
  obtain ⟨q0, q1, q2, q3, q4, q5⟩ := six_rd HO3.out
  have HC := Lib.hid (dsync_any H3.out (n := nm) (by have := HL.out; omega) (by have := HST.out; omega))
  rw [HRE.out] at HC
  go_wp2_with fail
  refine HC.out.mono ?_
  rintro e w4 ⟨S2, rfl, hdk, hfr⟩
  clear HC HPB
  clear q0 q1 q2 q3 q4 q5
  have hN := HN.out
  have hout : ∀ {k : Nat}, k < w3.heap.size → N ≤ k → w4.heap[k]? = w3.heap[k]? := fun hk hle => (hfr.out hk (fun hs => by have := HBD.out _ hs; omega)).1
  have HS04 := Lib.hid ((hout (ex_lt HS03.out) (by omega)).trans HS03.out)
  have HS14 := Lib.hid ((hout (ex_lt HS13.out) (by omega)).trans HS13.out)
  have HRC := Lib.hid (HRB.out.call hfr)
  have HNZ : Hid (N + 1 + 1 < w3.heap.size) := Lib.hid (ex_lt HS13.out)
  have HFR := Lib.hid hfr
  have HFW := Lib.hid (frb HB3.out hfr)
  have HDK := Lib.hid hdk
  clear hN hout hdk hfr HS03 HS13 HO3 HB3 H3 HRB
  clear HRE
  obtain ⟨c0, c1, c2, c3, c4⟩ := five_rd HS04.out
  obtain ⟨p0, p1, p2, p3, p4⟩ := five_rd HS14.out
  have fHS0 : ∀ o, w4.frozen? ⟨N, o, none⟩ = false := fun o => by simp [World.frozen?, HS04.out]
  have fHS1 : ∀ o, w4.frozen? ⟨N + 1 + 1, o, none⟩ = false := fun o => by simp [World.frozen?, HS14.out]
  go_wp2_with fail
  refine bodyPost_ret (rd_res rfl _ _ (N + 1 + 1) (.int .i64 D1.room) (.slice ra1 D1.fs.length rc1) (.bool D1.down) (.int .i64 rr1) (.int .u64 (D1.st : Int)) rfl (by go_simp) (by go_simp) (by go_simp) (by go_simp) (by go_simp)) rfl ?_
  have hN := HN.out
  have hsn : ∀ k, S2 k → k ≠ N + 1 + 1 := fun k hk => by
    rcases HFR.out.2.2 k hk with h1 | h1
    · have := HBD.out k h1; omega
    · have := HNZ.out; omega
  obtain ⟨m2, mt2, M2, V2, hdk⟩ := HDK.out
  refine ⟨S2, ra1, rc1, rr1, rfl, ⟨m2, mt2, M2, V2, hdk.move (by simp) (fun k _ hs => (Below.heap_setCell _ _ _ _ (show k ≠ N + 1 + 1 from hsn k hs)).trans ((Below.heap_setCell _ _ _ _ (show k ≠ N + 1 + 1 from hsn k hs)).trans ((Below.heap_setCell _ _ _ _ (show k ≠ N + 1 + 1 from hsn k hs)).trans ((Below.heap_setCell _ _ _ _ (show k ≠ N + 1 + 1 from hsn k hs)).trans ((Below.heap_setCell _ _ _ _ (show k ≠ N + 1 + 1 from hsn k hs)).trans (rfl))))))⟩, ⟨only_new (only_new (only_new (only_new (only_new (HFW.out.1) (show w.heap.size ≤ N + 1 + 1 by omega) 0 (.int .i64 D1.room)) (show w.heap.size ≤ N + 1 + 1 by omega) 1 (.slice ra1 D1.fs.length rc1)) (show w.heap.size ≤ N + 1 + 1 by omega) 2 (.bool D1.down)) (show w.heap.size ≤ N + 1 + 1 by omega) 3 (.int .i64 rr1)) (show w.heap.size ≤ N + 1 + 1 by omega) 4 (.int .u64 (D1.st : Int)), HFW.out.2.1, HFW.out.2.2⟩, ?_⟩
  exact (RA.set (RA.set (RA.set (RA.set (RA.set (HRC.out) (p := ⟨N + 1 + 1, 0, none⟩) (show P3 S2 N (N + 1 + 1) from .inr ⟨by omega, by omega⟩) (.int .i64 D1.room)) (p := ⟨N + 1 + 1, 1, none⟩) (show P3 S2 N (N + 1 + 1) from .inr ⟨by omega, by omega⟩) (.slice ra1 D1.fs.length rc1)) (p := ⟨N + 1 + 1, 2, none⟩) (show P3 S2 N (N + 1 + 1) from .inr ⟨by omega, by omega⟩) (.bool D1.down)) (p := ⟨N + 1 + 1, 3, none⟩) (show P3 S2 N (N + 1 + 1) from .inr ⟨by omega, by omega⟩) (.int .i64 rr1)) (p := ⟨N + 1 + 1, 4, none⟩) (show P3 S2 N (N + 1 + 1) from .inr ⟨by omega, by omega⟩) (.int .u64 (D1.st : Int))).weak (fun k hk => .inl hk)
set_option maxRecDepth 100000 in
set_option maxHeartbeats 8000000 in
theorem do_cut {S : Nat → Prop} {w : World} {B m mt : Nat} {D : Dd} {M : Lit → Option Value} {V : Nm → Value} {B0 : Nat} {a : Option Addr} (c : Nat) {ar : Int} (h : DKx S w B m mt D M V) (hra : RA S w D a ar) (hst : D.st < 1000000) (n : Int) (nm tt tx : List UInt8) (ts : List (Nat × Nat)) (ya : Option Addr) (yc : Nat) (hl : nm.length ≤ 100) : Calls Try.prog 16 #[.pointer (some ⟨B, 0, none⟩), .agg #[.int .i64 D.room, .slice a D.fs.length c, .bool D.down, .int .i64 ar, .int .u64 (D.st : Int)], .agg #[.int .i64 2, .int .i64 n, encStr nm, encStr tt, encStr tx, .slice ya ts.length yc]] w fun e w' => DoP S w B e w' ((cutD D nm n).1) := by
  obtain ⟨⟨D1, k1⟩, hr⟩ : ∃ r, cutD D nm n = r := ⟨_, rfl⟩
  rw [hr]
  have HRE := Lib.hid hr
  clear hr
  have HL := Lib.hid hl
  clear hl
  obtain ⟨B1, s0, so, s1, hz⟩ := box3 w #[.int .i64 D.room, .slice a D.fs.length c, .bool D.down, .int .i64 ar, .int .u64 (D.st : Int)] #[.int .i64 2, .int .i64 n, encStr nm, encStr tt, encStr tx, .slice ya ts.length yc] #[.int .i64 0, .slice none 0 0, .bool false, .int .i64 0, .int .u64 0] 30 34 30
  have HB1 := Lib.hid B1
  have HS01 := Lib.hid s0
  have HO1 := Lib.hid so
  have HS11 := Lib.hid s1
  have HZ := Lib.hid hz
  have H1 := Lib.hid (h.below B1)
  have HFT := Lib.hid h.fit
  have HBD := Lib.hid h.bd
  have HST := Lib.hid hst
  obtain ⟨N, hN⟩ : ∃ N, w.heap.size = N := ⟨_, rfl⟩
  have HN := Lib.hid hN
  have HR1 := Lib.hid (hra.start B1 hN)
  clear h B1 s0 so s1 hz hra hst
  rw [hN] at HS01 HO1 HS11 HZ
  clear hN
  go_enter Try.func16, Try.ntmps16
  go_upto_region 1 with fail
  have hN := HN.out
  try rw [hN]
  clear hN
  generalize ((w.alloc (.cells #[.int .i64 D.room, .slice a D.fs.length c, .bool D.down, .int .i64 ar, .int .u64 (D.st : Int)] 30)).alloc (.cells #[.int .i64 2, .int .i64 n, encStr nm, encStr tt, encStr tx, .slice ya ts.length yc] 34)).alloc (.cells #[.int .i64 0, .slice none 0 0, .bool false, .int .i64 0, .int .u64 0] 30) = w1 at H1 HS01 HO1 HS11 HB1 HZ HR1 ⊢
  have HPB : Hid (∀ k, P3 S N k → k < w1.heap.size) := Lib.hid (fun k hk => by
    have hz := HZ.out
    have hN := HN.out
    rcases hk with hk | hk
    · have := HBD.out k hk; omega
    · omega)
  obtain ⟨c0, c1, c2, c3, c4⟩ := five_rd HS01.out
  obtain ⟨q0, q1, q2, q3, q4, q5⟩ := six_rd HO1.out
  have HC := Lib.hid (rcut_any (c := c) HR1.out HFT.out HPB.out (n := nm) n (by have := HST.out; omega))
  rw [HRE.out] at HC
  go_wp2_with fail
  refine HC.out.mono ?_
  rintro e w2 ⟨ra1, rc1, rr1, rfl, hra1, hb⟩
  clear HC HR1
  clear c0 c1 c2 c3 c4 q0 q1 q2 q3 q4 q5
  have HRA := Lib.hid hra1
  clear hra1
  have HS02 := Lib.hid (ex_below HS01.out hb)
  have HO2 := Lib.hid (ex_below HO1.out hb)
  have HS12 := Lib.hid (ex_below HS11.out hb)
  have H2 := Lib.hid (H1.out.below hb)
  have HB2 := Lib.hid (HB1.out.trans (hb.mono HB1.out.size))
  clear HS01 HO1 HS11 H1 HB1 hb
  obtain ⟨c0, c1, c2, c3, c4⟩ := five_rd HS02.out
  have fHS0 : ∀ o, w2.frozen? ⟨N, o, none⟩ = false := fun o => by simp [World.frozen?, HS02.out]
  unfold RVal
  dsimp only
  have hNN := HN.out
  have HQ_HS0 := Lib.hid (set5 HS02.out (.int .i64 D1.room) (.slice ra1 D1.fs.length rc1) (.bool D1.down) (.int .i64 rr1) (.int .u64 (D1.st : Int)))
  have HQ_HO : Hid ((((((w2.setCell ⟨N, 0, none⟩ (.int .i64 D1.room)).setCell ⟨N, 1, none⟩ (.slice ra1 D1.fs.length rc1)).setCell ⟨N, 2, none⟩ (.bool D1.down)).setCell ⟨N, 3, none⟩ (.int .i64 rr1)).setCell ⟨N, 4, none⟩ (.int .u64 (D1.st : Int))).heap[N + 1]? = some (.cells #[.int .i64 2, .int .i64 n, encStr nm, encStr tt, encStr tx, .slice ya ts.length yc] 34 (0, 0))) := Lib.hid ((Below.heap_setCell _ _ _ _ (show N + 1 ≠ N by omega)).trans ((Below.heap_setCell _ _ _ _ (show N + 1 ≠ N by omega)).trans ((Below.heap_setCell _ _ _ _ (show N + 1 ≠ N by omega)).trans ((Below.heap_setCell _ _ _ _ (show N + 1 ≠ N by omega)).trans ((Below.heap_setCell _ _ _ _ (show N + 1 ≠ N by omega)).trans (HO2.out))))))
  have HQ_HS1 : Hid ((((((w2.setCell ⟨N, 0, none⟩ (.int .i64 D1.room)).setCell ⟨N, 1, none⟩ (.slice ra1 D1.fs.length rc1)).setCell ⟨N, 2, none⟩ (.bool D1.down)).setCell ⟨N, 3, none⟩ (.int .i64 rr1)).setCell ⟨N, 4, none⟩ (.int .u64 (D1.st : Int))).heap[N + 1 + 1]? = some (.cells #[.int .i64 0, .slice none 0 0, .bool false, .int .i64 0, .int .u64 0] 30 (0, 0))) := Lib.hid ((Below.heap_setCell _ _ _ _ (show N + 1 + 1 ≠ N by omega)).trans ((Below.heap_setCell _ _ _ _ (show N + 1 + 1 ≠ N by omega)).trans ((Below.heap_setCell _ _ _ _ (show N + 1 + 1 ≠ N by omega)).trans ((Below.heap_setCell _ _ _ _ (show N + 1 + 1 ≠ N by omega)).trans ((Below.heap_setCell _ _ _ _ (show N + 1 + 1 ≠ N by omega)).trans (HS12.out))))))
  have HQB := Lib.hid (below_two (below_two (below_two (below_two (below_two (HB2.out) (show w.heap.size ≤ N by omega) 0 (.int .i64 D1.room)) (show w.heap.size ≤ N by omega) 1 (.slice ra1 D1.fs.length rc1)) (show w.heap.size ≤ N by omega) 2 (.bool D1.down)) (show w.heap.size ≤ N by omega) 3 (.int .i64 rr1)) (show w.heap.size ≤ N by omega) 4 (.int .u64 (D1.st : Int)))
  have hsn : ∀ k, S k → k ≠ N := fun k hk => by have := HBD.out k hk; omega
  have HQH : Hid (DKx S (((((w2.setCell ⟨N, 0, none⟩ (.int .i64 D1.room)).setCell ⟨N, 1, none⟩ (.slice ra1 D1.fs.length rc1)).setCell ⟨N, 2, none⟩ (.bool D1.down)).setCell ⟨N, 3, none⟩ (.int .i64 rr1)).setCell ⟨N, 4, none⟩ (.int .u64 (D1.st : Int))) B m mt D M V) := Lib.hid (H2.out.move (by simp) (fun k _ hs => (Below.heap_setCell _ _ _ _ (show k ≠ N from hsn k hs)).trans ((Below.heap_setCell _ _ _ _ (show k ≠ N from hsn k hs)).trans ((Below.heap_setCell _ _ _ _ (show k ≠ N from hsn k hs)).trans ((Below.heap_setCell _ _ _ _ (show k ≠ N from hsn k hs)).trans ((Below.heap_setCell _ _ _ _ (show k ≠ N from hsn k hs)).trans (rfl)))))))
  have HQR := Lib.hid (RA.set (RA.set (RA.set (RA.set (RA.set (HRA.out) (p := ⟨N, 0, none⟩) (show P3 S N N from .inr ⟨Nat.le_refl _, by omega⟩) (.int .i64 D1.room)) (p := ⟨N, 1, none⟩) (show P3 S N N from .inr ⟨Nat.le_refl _, by omega⟩) (.slice ra1 D1.fs.length rc1)) (p := ⟨N, 2, none⟩) (show P3 S N N from .inr ⟨Nat.le_refl _, by omega⟩) (.bool D1.down)) (p := ⟨N, 3, none⟩) (show P3 S N N from .inr ⟨Nat.le_refl _, by omega⟩) (.int .i64 rr1)) (p := ⟨N, 4, none⟩) (show P3 S N N from .inr ⟨Nat.le_refl _, by omega⟩) (.int .u64 (D1.st : Int)))
  clear hNN hsn
  go_upto_region 11 with fail
  generalize (((((w2.setCell ⟨N, 0, none⟩ (.int .i64 D1.room)).setCell ⟨N, 1, none⟩ (.slice ra1 D1.fs.length rc1)).setCell ⟨N, 2, none⟩ (.bool D1.down)).setCell ⟨N, 3, none⟩ (.int .i64 rr1)).setCell ⟨N, 4, none⟩ (.int .u64 (D1.st : Int))) = w3 at HQ_HS0 HQ_HO HQ_HS1 HQB HQH HQR ⊢
  have HS03 := HQ_HS0
  have HO3 := HQ_HO
  have HS13 := HQ_HS1
  have HB3 := HQB
  have H3 := HQH
  have HRB := HQR
  clear HQ_HS0 HQ_HO HQ_HS1 HQB HQH HQR HS02 HO2 HS12 HB2 H2 HRA
  obtain ⟨q0, q1, q2, q3, q4, q5⟩ := six_rd HO3.out
  have HC := Lib.hid (dcut_any H3.out (n := nm) (by have := HL.out; omega) (by have := HST.out; omega) n)
  rw [HRE.out] at HC
  go_wp2_with fail
  refine HC.out.mono ?_
  rintro e w4 ⟨S2, rfl, hdk, hfr⟩
  clear HC HPB
  clear q0 q1 q2 q3 q4 q5
  have hN := HN.out
  have hout : ∀ {k : Nat}, k < w3.heap.size → N ≤ k → w4.heap[k]? = w3.heap[k]? := fun hk hle => (hfr.out hk (fun hs => by have := HBD.out _ hs; omega)).1
  have HS04 := Lib.hid ((hout (ex_lt HS03.out) (by omega)).trans HS03.out)
  have HS14 := Lib.hid ((hout (ex_lt HS13.out) (by omega)).trans HS13.out)
  have HRC := Lib.hid (HRB.out.call hfr)
  have HNZ : Hid (N + 1 + 1 < w3.heap.size) := Lib.hid (ex_lt HS13.out)
  have HFR := Lib.hid hfr
  have HFW := Lib.hid (frb HB3.out hfr)
  have HDK := Lib.hid hdk
  clear hN hout hdk hfr HS03 HS13 HO3 HB3 H3 HRB
  clear HRE
  obtain ⟨c0, c1, c2, c3, c4⟩ := five_rd HS04.out
  obtain ⟨p0, p1, p2, p3, p4⟩ := five_rd HS14.out
  have fHS0 : ∀ o, w4.frozen? ⟨N, o, none⟩ = false := fun o => by simp [World.frozen?, HS04.out]
  have fHS1 : ∀ o, w4.frozen? ⟨N + 1 + 1, o, none⟩ = false := fun o => by simp [World.frozen?, HS14.out]
  go_wp2_with fail
  refine bodyPost_ret (rd_res rfl _ _ (N + 1 + 1) (.int .i64 D1.room) (.slice ra1 D1.fs.length rc1) (.bool D1.down) (.int .i64 rr1) (.int .u64 (D1.st : Int)) rfl (by go_simp) (by go_simp) (by go_simp) (by go_simp) (by go_simp)) rfl ?_
  have hN := HN.out
  have hsn : ∀ k, S2 k → k ≠ N + 1 + 1 := fun k hk => by
    rcases HFR.out.2.2 k hk with h1 | h1
    · have := HBD.out k h1; omega
    · have := HNZ.out; omega
  obtain ⟨m2, mt2, M2, V2, hdk⟩ := HDK.out
  refine ⟨S2, ra1, rc1, rr1, rfl, ⟨m2, mt2, M2, V2, hdk.move (by simp) (fun k _ hs => (Below.heap_setCell _ _ _ _ (show k ≠ N + 1 + 1 from hsn k hs)).trans ((Below.heap_setCell _ _ _ _ (show k ≠ N + 1 + 1 from hsn k hs)).trans ((Below.heap_setCell _ _ _ _ (show k ≠ N + 1 + 1 from hsn k hs)).trans ((Below.heap_setCell _ _ _ _ (show k ≠ N + 1 + 1 from hsn k hs)).trans ((Below.heap_setCell _ _ _ _ (show k ≠ N + 1 + 1 from hsn k hs)).trans (rfl))))))⟩, ⟨only_new (only_new (only_new (only_new (only_new (HFW.out.1) (show w.heap.size ≤ N + 1 + 1 by omega) 0 (.int .i64 D1.room)) (show w.heap.size ≤ N + 1 + 1 by omega) 1 (.slice ra1 D1.fs.length rc1)) (show w.heap.size ≤ N + 1 + 1 by omega) 2 (.bool D1.down)) (show w.heap.size ≤ N + 1 + 1 by omega) 3 (.int .i64 rr1)) (show w.heap.size ≤ N + 1 + 1 by omega) 4 (.int .u64 (D1.st : Int)), HFW.out.2.1, HFW.out.2.2⟩, ?_⟩
  exact (RA.set (RA.set (RA.set (RA.set (RA.set (HRC.out) (p := ⟨N + 1 + 1, 0, none⟩) (show P3 S2 N (N + 1 + 1) from .inr ⟨by omega, by omega⟩) (.int .i64 D1.room)) (p := ⟨N + 1 + 1, 1, none⟩) (show P3 S2 N (N + 1 + 1) from .inr ⟨by omega, by omega⟩) (.slice ra1 D1.fs.length rc1)) (p := ⟨N + 1 + 1, 2, none⟩) (show P3 S2 N (N + 1 + 1) from .inr ⟨by omega, by omega⟩) (.bool D1.down)) (p := ⟨N + 1 + 1, 3, none⟩) (show P3 S2 N (N + 1 + 1) from .inr ⟨by omega, by omega⟩) (.int .i64 rr1)) (p := ⟨N + 1 + 1, 4, none⟩) (show P3 S2 N (N + 1 + 1) from .inr ⟨by omega, by omega⟩) (.int .u64 (D1.st : Int))).weak (fun k hk => .inl hk)
set_option maxRecDepth 100000 in
set_option maxHeartbeats 8000000 in
theorem do_remove {S : Nat → Prop} {w : World} {B m mt : Nat} {D : Dd} {M : Lit → Option Value} {V : Nm → Value} {B0 : Nat} {a : Option Addr} (c : Nat) {ar : Int} (h : DKx S w B m mt D M V) (hra : RA S w D a ar) (hst : D.st < 1000000) (n : Int) (nm tt tx : List UInt8) (ts : List (Nat × Nat)) (ya : Option Addr) (yc : Nat) (hl : nm.length ≤ 100) : Calls Try.prog 16 #[.pointer (some ⟨B, 0, none⟩), .agg #[.int .i64 D.room, .slice a D.fs.length c, .bool D.down, .int .i64 ar, .int .u64 (D.st : Int)], .agg #[.int .i64 3, .int .i64 n, encStr nm, encStr tt, encStr tx, .slice ya ts.length yc]] w fun e w' => DoP S w B e w' ((removeD D nm).1) := by
  obtain ⟨⟨D1, k1⟩, hr⟩ : ∃ r, removeD D nm = r := ⟨_, rfl⟩
  rw [hr]
  have HRE := Lib.hid hr
  clear hr
  have HL := Lib.hid hl
  clear hl
  obtain ⟨B1, s0, so, s1, hz⟩ := box3 w #[.int .i64 D.room, .slice a D.fs.length c, .bool D.down, .int .i64 ar, .int .u64 (D.st : Int)] #[.int .i64 3, .int .i64 n, encStr nm, encStr tt, encStr tx, .slice ya ts.length yc] #[.int .i64 0, .slice none 0 0, .bool false, .int .i64 0, .int .u64 0] 30 34 30
  have HB1 := Lib.hid B1
  have HS01 := Lib.hid s0
  have HO1 := Lib.hid so
  have HS11 := Lib.hid s1
  have HZ := Lib.hid hz
  have H1 := Lib.hid (h.below B1)
  have HFT := Lib.hid h.fit
  have HBD := Lib.hid h.bd
  have HST := Lib.hid hst
  obtain ⟨N, hN⟩ : ∃ N, w.heap.size = N := ⟨_, rfl⟩
  have HN := Lib.hid hN
  have HR1 := Lib.hid (hra.start B1 hN)
  clear h B1 s0 so s1 hz hra hst
  rw [hN] at HS01 HO1 HS11 HZ
  clear hN
  go_enter Try.func16, Try.ntmps16
  go_upto_region 1 with fail
  have hN := HN.out
  try rw [hN]
  clear hN
  generalize ((w.alloc (.cells #[.int .i64 D.room, .slice a D.fs.length c, .bool D.down, .int .i64 ar, .int .u64 (D.st : Int)] 30)).alloc (.cells #[.int .i64 3, .int .i64 n, encStr nm, encStr tt, encStr tx, .slice ya ts.length yc] 34)).alloc (.cells #[.int .i64 0, .slice none 0 0, .bool false, .int .i64 0, .int .u64 0] 30) = w1 at H1 HS01 HO1 HS11 HB1 HZ HR1 ⊢
  have HPB : Hid (∀ k, P3 S N k → k < w1.heap.size) := Lib.hid (fun k hk => by
    have hz := HZ.out
    have hN := HN.out
    rcases hk with hk | hk
    · have := HBD.out k hk; omega
    · omega)
  obtain ⟨c0, c1, c2, c3, c4⟩ := five_rd HS01.out
  obtain ⟨q0, q1, q2, q3, q4, q5⟩ := six_rd HO1.out
  have HC := Lib.hid (rremove_any (c := c) HR1.out HFT.out HPB.out (n := nm) (by have := HST.out; omega))
  rw [HRE.out] at HC
  go_wp2_with fail
  refine HC.out.mono ?_
  rintro e w2 ⟨ra1, rc1, rr1, rfl, hra1, hb⟩
  clear HC HR1
  clear c0 c1 c2 c3 c4 q0 q1 q2 q3 q4 q5
  have HRA := Lib.hid hra1
  clear hra1
  have HS02 := Lib.hid (ex_below HS01.out hb)
  have HO2 := Lib.hid (ex_below HO1.out hb)
  have HS12 := Lib.hid (ex_below HS11.out hb)
  have H2 := Lib.hid (H1.out.below hb)
  have HB2 := Lib.hid (HB1.out.trans (hb.mono HB1.out.size))
  clear HS01 HO1 HS11 H1 HB1 hb
  obtain ⟨c0, c1, c2, c3, c4⟩ := five_rd HS02.out
  have fHS0 : ∀ o, w2.frozen? ⟨N, o, none⟩ = false := fun o => by simp [World.frozen?, HS02.out]
  unfold RVal
  dsimp only
  have hNN := HN.out
  have HQ_HS0 := Lib.hid (set5 HS02.out (.int .i64 D1.room) (.slice ra1 D1.fs.length rc1) (.bool D1.down) (.int .i64 rr1) (.int .u64 (D1.st : Int)))
  have HQ_HO : Hid ((((((w2.setCell ⟨N, 0, none⟩ (.int .i64 D1.room)).setCell ⟨N, 1, none⟩ (.slice ra1 D1.fs.length rc1)).setCell ⟨N, 2, none⟩ (.bool D1.down)).setCell ⟨N, 3, none⟩ (.int .i64 rr1)).setCell ⟨N, 4, none⟩ (.int .u64 (D1.st : Int))).heap[N + 1]? = some (.cells #[.int .i64 3, .int .i64 n, encStr nm, encStr tt, encStr tx, .slice ya ts.length yc] 34 (0, 0))) := Lib.hid ((Below.heap_setCell _ _ _ _ (show N + 1 ≠ N by omega)).trans ((Below.heap_setCell _ _ _ _ (show N + 1 ≠ N by omega)).trans ((Below.heap_setCell _ _ _ _ (show N + 1 ≠ N by omega)).trans ((Below.heap_setCell _ _ _ _ (show N + 1 ≠ N by omega)).trans ((Below.heap_setCell _ _ _ _ (show N + 1 ≠ N by omega)).trans (HO2.out))))))
  have HQ_HS1 : Hid ((((((w2.setCell ⟨N, 0, none⟩ (.int .i64 D1.room)).setCell ⟨N, 1, none⟩ (.slice ra1 D1.fs.length rc1)).setCell ⟨N, 2, none⟩ (.bool D1.down)).setCell ⟨N, 3, none⟩ (.int .i64 rr1)).setCell ⟨N, 4, none⟩ (.int .u64 (D1.st : Int))).heap[N + 1 + 1]? = some (.cells #[.int .i64 0, .slice none 0 0, .bool false, .int .i64 0, .int .u64 0] 30 (0, 0))) := Lib.hid ((Below.heap_setCell _ _ _ _ (show N + 1 + 1 ≠ N by omega)).trans ((Below.heap_setCell _ _ _ _ (show N + 1 + 1 ≠ N by omega)).trans ((Below.heap_setCell _ _ _ _ (show N + 1 + 1 ≠ N by omega)).trans ((Below.heap_setCell _ _ _ _ (show N + 1 + 1 ≠ N by omega)).trans ((Below.heap_setCell _ _ _ _ (show N + 1 + 1 ≠ N by omega)).trans (HS12.out))))))
  have HQB := Lib.hid (below_two (below_two (below_two (below_two (below_two (HB2.out) (show w.heap.size ≤ N by omega) 0 (.int .i64 D1.room)) (show w.heap.size ≤ N by omega) 1 (.slice ra1 D1.fs.length rc1)) (show w.heap.size ≤ N by omega) 2 (.bool D1.down)) (show w.heap.size ≤ N by omega) 3 (.int .i64 rr1)) (show w.heap.size ≤ N by omega) 4 (.int .u64 (D1.st : Int)))
  have hsn : ∀ k, S k → k ≠ N := fun k hk => by have := HBD.out k hk; omega
  have HQH : Hid (DKx S (((((w2.setCell ⟨N, 0, none⟩ (.int .i64 D1.room)).setCell ⟨N, 1, none⟩ (.slice ra1 D1.fs.length rc1)).setCell ⟨N, 2, none⟩ (.bool D1.down)).setCell ⟨N, 3, none⟩ (.int .i64 rr1)).setCell ⟨N, 4, none⟩ (.int .u64 (D1.st : Int))) B m mt D M V) := Lib.hid (H2.out.move (by simp) (fun k _ hs => (Below.heap_setCell _ _ _ _ (show k ≠ N from hsn k hs)).trans ((Below.heap_setCell _ _ _ _ (show k ≠ N from hsn k hs)).trans ((Below.heap_setCell _ _ _ _ (show k ≠ N from hsn k hs)).trans ((Below.heap_setCell _ _ _ _ (show k ≠ N from hsn k hs)).trans ((Below.heap_setCell _ _ _ _ (show k ≠ N from hsn k hs)).trans (rfl)))))))
  have HQR := Lib.hid (RA.set (RA.set (RA.set (RA.set (RA.set (HRA.out) (p := ⟨N, 0, none⟩) (show P3 S N N from .inr ⟨Nat.le_refl _, by omega⟩) (.int .i64 D1.room)) (p := ⟨N, 1, none⟩) (show P3 S N N from .inr ⟨Nat.le_refl _, by omega⟩) (.slice ra1 D1.fs.length rc1)) (p := ⟨N, 2, none⟩) (show P3 S N N from .inr ⟨Nat.le_refl _, by omega⟩) (.bool D1.down)) (p := ⟨N, 3, none⟩) (show P3 S N N from .inr ⟨Nat.le_refl _, by omega⟩) (.int .i64 rr1)) (p := ⟨N, 4, none⟩) (show P3 S N N from .inr ⟨Nat.le_refl _, by omega⟩) (.int .u64 (D1.st : Int)))
  clear hNN hsn
  go_upto_region 14 with fail
  generalize (((((w2.setCell ⟨N, 0, none⟩ (.int .i64 D1.room)).setCell ⟨N, 1, none⟩ (.slice ra1 D1.fs.length rc1)).setCell ⟨N, 2, none⟩ (.bool D1.down)).setCell ⟨N, 3, none⟩ (.int .i64 rr1)).setCell ⟨N, 4, none⟩ (.int .u64 (D1.st : Int))) = w3 at HQ_HS0 HQ_HO HQ_HS1 HQB HQH HQR ⊢
  have HS03 := HQ_HS0
  have HO3 := HQ_HO
  have HS13 := HQ_HS1
  have HB3 := HQB
  have H3 := HQH
  have HRB := HQR
  clear HQ_HS0 HQ_HO HQ_HS1 HQB HQH HQR HS02 HO2 HS12 HB2 H2 HRA
  obtain ⟨q0, q1, q2, q3, q4, q5⟩ := six_rd HO3.out
  have HC := Lib.hid (dremove_any H3.out (n := nm) (by have := HL.out; omega) (by have := HST.out; omega))
  rw [HRE.out] at HC
  go_wp2_with fail
  refine HC.out.mono ?_
  rintro e w4 ⟨S2, rfl, hdk, hfr⟩
  clear HC HPB
  clear q0 q1 q2 q3 q4 q5
  have hN := HN.out
  have hout : ∀ {k : Nat}, k < w3.heap.size → N ≤ k → w4.heap[k]? = w3.heap[k]? := fun hk hle => (hfr.out hk (fun hs => by have := HBD.out _ hs; omega)).1
  have HS04 := Lib.hid ((hout (ex_lt HS03.out) (by omega)).trans HS03.out)
  have HS14 := Lib.hid ((hout (ex_lt HS13.out) (by omega)).trans HS13.out)
  have HRC := Lib.hid (HRB.out.call hfr)
  have HNZ : Hid (N + 1 + 1 < w3.heap.size) := Lib.hid (ex_lt HS13.out)
  have HFR := Lib.hid hfr
  have HFW := Lib.hid (frb HB3.out hfr)
  have HDK := Lib.hid hdk
  clear hN hout hdk hfr HS03 HS13 HO3 HB3 H3 HRB
  clear HRE
  obtain ⟨c0, c1, c2, c3, c4⟩ := five_rd HS04.out
  obtain ⟨p0, p1, p2, p3, p4⟩ := five_rd HS14.out
  have fHS0 : ∀ o, w4.frozen? ⟨N, o, none⟩ = false := fun o => by simp [World.frozen?, HS04.out]
  have fHS1 : ∀ o, w4.frozen? ⟨N + 1 + 1, o, none⟩ = false := fun o => by simp [World.frozen?, HS14.out]
  go_wp2_with fail
  refine bodyPost_ret (rd_res rfl _ _ (N + 1 + 1) (.int .i64 D1.room) (.slice ra1 D1.fs.length rc1) (.bool D1.down) (.int .i64 rr1) (.int .u64 (D1.st : Int)) rfl (by go_simp) (by go_simp) (by go_simp) (by go_simp) (by go_simp)) rfl ?_
  have hN := HN.out
  have hsn : ∀ k, S2 k → k ≠ N + 1 + 1 := fun k hk => by
    rcases HFR.out.2.2 k hk with h1 | h1
    · have := HBD.out k h1; omega
    · have := HNZ.out; omega
  obtain ⟨m2, mt2, M2, V2, hdk⟩ := HDK.out
  refine ⟨S2, ra1, rc1, rr1, rfl, ⟨m2, mt2, M2, V2, hdk.move (by simp) (fun k _ hs => (Below.heap_setCell _ _ _ _ (show k ≠ N + 1 + 1 from hsn k hs)).trans ((Below.heap_setCell _ _ _ _ (show k ≠ N + 1 + 1 from hsn k hs)).trans ((Below.heap_setCell _ _ _ _ (show k ≠ N + 1 + 1 from hsn k hs)).trans ((Below.heap_setCell _ _ _ _ (show k ≠ N + 1 + 1 from hsn k hs)).trans ((Below.heap_setCell _ _ _ _ (show k ≠ N + 1 + 1 from hsn k hs)).trans (rfl))))))⟩, ⟨only_new (only_new (only_new (only_new (only_new (HFW.out.1) (show w.heap.size ≤ N + 1 + 1 by omega) 0 (.int .i64 D1.room)) (show w.heap.size ≤ N + 1 + 1 by omega) 1 (.slice ra1 D1.fs.length rc1)) (show w.heap.size ≤ N + 1 + 1 by omega) 2 (.bool D1.down)) (show w.heap.size ≤ N + 1 + 1 by omega) 3 (.int .i64 rr1)) (show w.heap.size ≤ N + 1 + 1 by omega) 4 (.int .u64 (D1.st : Int)), HFW.out.2.1, HFW.out.2.2⟩, ?_⟩
  exact (RA.set (RA.set (RA.set (RA.set (RA.set (HRC.out) (p := ⟨N + 1 + 1, 0, none⟩) (show P3 S2 N (N + 1 + 1) from .inr ⟨by omega, by omega⟩) (.int .i64 D1.room)) (p := ⟨N + 1 + 1, 1, none⟩) (show P3 S2 N (N + 1 + 1) from .inr ⟨by omega, by omega⟩) (.slice ra1 D1.fs.length rc1)) (p := ⟨N + 1 + 1, 2, none⟩) (show P3 S2 N (N + 1 + 1) from .inr ⟨by omega, by omega⟩) (.bool D1.down)) (p := ⟨N + 1 + 1, 3, none⟩) (show P3 S2 N (N + 1 + 1) from .inr ⟨by omega, by omega⟩) (.int .i64 rr1)) (p := ⟨N + 1 + 1, 4, none⟩) (show P3 S2 N (N + 1 + 1) from .inr ⟨by omega, by omega⟩) (.int .u64 (D1.st : Int))).weak (fun k hk => .inl hk)
set_option maxRecDepth 100000 in
set_option maxHeartbeats 8000000 in
theorem do_move {S : Nat → Prop} {w : World} {B m mt : Nat} {D : Dd} {M : Lit → Option Value} {V : Nm → Value} {B0 : Nat} {a : Option Addr} (c : Nat) {ar : Int} (h : DKx S w B m mt D M V) (hra : RA S w D a ar) (hst : D.st < 1000000) (n : Int) (nm tt tx : List UInt8) (ts : List (Nat × Nat)) (ya : Option Addr) (yc : Nat) (hl : nm.length ≤ 100) : Calls Try.prog 16 #[.pointer (some ⟨B, 0, none⟩), .agg #[.int .i64 D.room, .slice a D.fs.length c, .bool D.down, .int .i64 ar, .int .u64 (D.st : Int)], .agg #[.int .i64 4, .int .i64 n, encStr nm, encStr tt, encStr tx, .slice ya ts.length yc]] w fun e w' => DoP S w B e w' ((moveD D nm tt).1) := by
  obtain ⟨⟨D1, k1⟩, hr⟩ : ∃ r, moveD D nm tt = r := ⟨_, rfl⟩
  rw [hr]
  have HRE := Lib.hid hr
  clear hr
  have HL := Lib.hid hl
  clear hl
  obtain ⟨B1, s0, so, s1, hz⟩ := box3 w #[.int .i64 D.room, .slice a D.fs.length c, .bool D.down, .int .i64 ar, .int .u64 (D.st : Int)] #[.int .i64 4, .int .i64 n, encStr nm, encStr tt, encStr tx, .slice ya ts.length yc] #[.int .i64 0, .slice none 0 0, .bool false, .int .i64 0, .int .u64 0] 30 34 30
  have HB1 := Lib.hid B1
  have HS01 := Lib.hid s0
  have HO1 := Lib.hid so
  have HS11 := Lib.hid s1
  have HZ := Lib.hid hz
  have H1 := Lib.hid (h.below B1)
  have HFT := Lib.hid h.fit
  have HBD := Lib.hid h.bd
  have HST := Lib.hid hst
  obtain ⟨N, hN⟩ : ∃ N, w.heap.size = N := ⟨_, rfl⟩
  have HN := Lib.hid hN
  have HR1 := Lib.hid (hra.start B1 hN)
  clear h B1 s0 so s1 hz hra hst
  rw [hN] at HS01 HO1 HS11 HZ
  clear hN
  go_enter Try.func16, Try.ntmps16
  go_upto_region 1 with fail
  have hN := HN.out
  try rw [hN]
  clear hN
  generalize ((w.alloc (.cells #[.int .i64 D.room, .slice a D.fs.length c, .bool D.down, .int .i64 ar, .int .u64 (D.st : Int)] 30)).alloc (.cells #[.int .i64 4, .int .i64 n, encStr nm, encStr tt, encStr tx, .slice ya ts.length yc] 34)).alloc (.cells #[.int .i64 0, .slice none 0 0, .bool false, .int .i64 0, .int .u64 0] 30) = w1 at H1 HS01 HO1 HS11 HB1 HZ HR1 ⊢
  have HPB : Hid (∀ k, P3 S N k → k < w1.heap.size) := Lib.hid (fun k hk => by
    have hz := HZ.out
    have hN := HN.out
    rcases hk with hk | hk
    · have := HBD.out k hk; omega
    · omega)
  obtain ⟨c0, c1, c2, c3, c4⟩ := five_rd HS01.out
  obtain ⟨q0, q1, q2, q3, q4, q5⟩ := six_rd HO1.out
  have HC := Lib.hid (rmove_any (c := c) HR1.out HFT.out HPB.out (n := nm) tt (by have := HST.out; omega))
  rw [HRE.out] at HC
  go_wp2_with fail
  refine HC.out.mono ?_
  rintro e w2 ⟨ra1, rc1, rr1, rfl, hra1, hb⟩
  clear HC HR1
  clear c0 c1 c2 c3 c4 q0 q1 q2 q3 q4 q5
  have HRA := Lib.hid hra1
  clear hra1
  have HS02 := Lib.hid (ex_below HS01.out hb)
  have HO2 := Lib.hid (ex_below HO1.out hb)
  have HS12 := Lib.hid (ex_below HS11.out hb)
  have H2 := Lib.hid (H1.out.below hb)
  have HB2 := Lib.hid (HB1.out.trans (hb.mono HB1.out.size))
  clear HS01 HO1 HS11 H1 HB1 hb
  obtain ⟨c0, c1, c2, c3, c4⟩ := five_rd HS02.out
  have fHS0 : ∀ o, w2.frozen? ⟨N, o, none⟩ = false := fun o => by simp [World.frozen?, HS02.out]
  unfold RVal
  dsimp only
  have hNN := HN.out
  have HQ_HS0 := Lib.hid (set5 HS02.out (.int .i64 D1.room) (.slice ra1 D1.fs.length rc1) (.bool D1.down) (.int .i64 rr1) (.int .u64 (D1.st : Int)))
  have HQ_HO : Hid ((((((w2.setCell ⟨N, 0, none⟩ (.int .i64 D1.room)).setCell ⟨N, 1, none⟩ (.slice ra1 D1.fs.length rc1)).setCell ⟨N, 2, none⟩ (.bool D1.down)).setCell ⟨N, 3, none⟩ (.int .i64 rr1)).setCell ⟨N, 4, none⟩ (.int .u64 (D1.st : Int))).heap[N + 1]? = some (.cells #[.int .i64 4, .int .i64 n, encStr nm, encStr tt, encStr tx, .slice ya ts.length yc] 34 (0, 0))) := Lib.hid ((Below.heap_setCell _ _ _ _ (show N + 1 ≠ N by omega)).trans ((Below.heap_setCell _ _ _ _ (show N + 1 ≠ N by omega)).trans ((Below.heap_setCell _ _ _ _ (show N + 1 ≠ N by omega)).trans ((Below.heap_setCell _ _ _ _ (show N + 1 ≠ N by omega)).trans ((Below.heap_setCell _ _ _ _ (show N + 1 ≠ N by omega)).trans (HO2.out))))))
  have HQ_HS1 : Hid ((((((w2.setCell ⟨N, 0, none⟩ (.int .i64 D1.room)).setCell ⟨N, 1, none⟩ (.slice ra1 D1.fs.length rc1)).setCell ⟨N, 2, none⟩ (.bool D1.down)).setCell ⟨N, 3, none⟩ (.int .i64 rr1)).setCell ⟨N, 4, none⟩ (.int .u64 (D1.st : Int))).heap[N + 1 + 1]? = some (.cells #[.int .i64 0, .slice none 0 0, .bool false, .int .i64 0, .int .u64 0] 30 (0, 0))) := Lib.hid ((Below.heap_setCell _ _ _ _ (show N + 1 + 1 ≠ N by omega)).trans ((Below.heap_setCell _ _ _ _ (show N + 1 + 1 ≠ N by omega)).trans ((Below.heap_setCell _ _ _ _ (show N + 1 + 1 ≠ N by omega)).trans ((Below.heap_setCell _ _ _ _ (show N + 1 + 1 ≠ N by omega)).trans ((Below.heap_setCell _ _ _ _ (show N + 1 + 1 ≠ N by omega)).trans (HS12.out))))))
  have HQB := Lib.hid (below_two (below_two (below_two (below_two (below_two (HB2.out) (show w.heap.size ≤ N by omega) 0 (.int .i64 D1.room)) (show w.heap.size ≤ N by omega) 1 (.slice ra1 D1.fs.length rc1)) (show w.heap.size ≤ N by omega) 2 (.bool D1.down)) (show w.heap.size ≤ N by omega) 3 (.int .i64 rr1)) (show w.heap.size ≤ N by omega) 4 (.int .u64 (D1.st : Int)))
  have hsn : ∀ k, S k → k ≠ N := fun k hk => by have := HBD.out k hk; omega
  have HQH : Hid (DKx S (((((w2.setCell ⟨N, 0, none⟩ (.int .i64 D1.room)).setCell ⟨N, 1, none⟩ (.slice ra1 D1.fs.length rc1)).setCell ⟨N, 2, none⟩ (.bool D1.down)).setCell ⟨N, 3, none⟩ (.int .i64 rr1)).setCell ⟨N, 4, none⟩ (.int .u64 (D1.st : Int))) B m mt D M V) := Lib.hid (H2.out.move (by simp) (fun k _ hs => (Below.heap_setCell _ _ _ _ (show k ≠ N from hsn k hs)).trans ((Below.heap_setCell _ _ _ _ (show k ≠ N from hsn k hs)).trans ((Below.heap_setCell _ _ _ _ (show k ≠ N from hsn k hs)).trans ((Below.heap_setCell _ _ _ _ (show k ≠ N from hsn k hs)).trans ((Below.heap_setCell _ _ _ _ (show k ≠ N from hsn k hs)).trans (rfl)))))))
  have HQR := Lib.hid (RA.set (RA.set (RA.set (RA.set (RA.set (HRA.out) (p := ⟨N, 0, none⟩) (show P3 S N N from .inr ⟨Nat.le_refl _, by omega⟩) (.int .i64 D1.room)) (p := ⟨N, 1, none⟩) (show P3 S N N from .inr ⟨Nat.le_refl _, by omega⟩) (.slice ra1 D1.fs.length rc1)) (p := ⟨N, 2, none⟩) (show P3 S N N from .inr ⟨Nat.le_refl _, by omega⟩) (.bool D1.down)) (p := ⟨N, 3, none⟩) (show P3 S N N from .inr ⟨Nat.le_refl _, by omega⟩) (.int .i64 rr1)) (p := ⟨N, 4, none⟩) (show P3 S N N from .inr ⟨Nat.le_refl _, by omega⟩) (.int .u64 (D1.st : Int)))
  clear hNN hsn
  go_upto_region 17 with fail
  generalize (((((w2.setCell ⟨N, 0, none⟩ (.int .i64 D1.room)).setCell ⟨N, 1, none⟩ (.slice ra1 D1.fs.length rc1)).setCell ⟨N, 2, none⟩ (.bool D1.down)).setCell ⟨N, 3, none⟩ (.int .i64 rr1)).setCell ⟨N, 4, none⟩ (.int .u64 (D1.st : Int))) = w3 at HQ_HS0 HQ_HO HQ_HS1 HQB HQH HQR ⊢
  have HS03 := HQ_HS0
  have HO3 := HQ_HO
  have HS13 := HQ_HS1
  have HB3 := HQB
  have H3 := HQH
  have HRB := HQR
  clear HQ_HS0 HQ_HO HQ_HS1 HQB HQH HQR HS02 HO2 HS12 HB2 H2 HRA
  obtain ⟨q0, q1, q2, q3, q4, q5⟩ := six_rd HO3.out
  have HC := Lib.hid (dmove_any H3.out (n := nm) (by have := HL.out; omega) (by have := HST.out; omega) tt)
  rw [HRE.out] at HC
  go_wp2_with fail
  refine HC.out.mono ?_
  rintro e w4 ⟨S2, rfl, hdk, hfr⟩
  clear HC HPB
  clear q0 q1 q2 q3 q4 q5
  have hN := HN.out
  have hout : ∀ {k : Nat}, k < w3.heap.size → N ≤ k → w4.heap[k]? = w3.heap[k]? := fun hk hle => (hfr.out hk (fun hs => by have := HBD.out _ hs; omega)).1
  have HS04 := Lib.hid ((hout (ex_lt HS03.out) (by omega)).trans HS03.out)
  have HS14 := Lib.hid ((hout (ex_lt HS13.out) (by omega)).trans HS13.out)
  have HRC := Lib.hid (HRB.out.call hfr)
  have HNZ : Hid (N + 1 + 1 < w3.heap.size) := Lib.hid (ex_lt HS13.out)
  have HFR := Lib.hid hfr
  have HFW := Lib.hid (frb HB3.out hfr)
  have HDK := Lib.hid hdk
  clear hN hout hdk hfr HS03 HS13 HO3 HB3 H3 HRB
  clear HRE
  obtain ⟨c0, c1, c2, c3, c4⟩ := five_rd HS04.out
  obtain ⟨p0, p1, p2, p3, p4⟩ := five_rd HS14.out
  have fHS0 : ∀ o, w4.frozen? ⟨N, o, none⟩ = false := fun o => by simp [World.frozen?, HS04.out]
  have fHS1 : ∀ o, w4.frozen? ⟨N + 1 + 1, o, none⟩ = false := fun o => by simp [World.frozen?, HS14.out]
  go_wp2_with fail
  refine bodyPost_ret (rd_res rfl _ _ (N + 1 + 1) (.int .i64 D1.room) (.slice ra1 D1.fs.length rc1) (.bool D1.down) (.int .i64 rr1) (.int .u64 (D1.st : Int)) rfl (by go_simp) (by go_simp) (by go_simp) (by go_simp) (by go_simp)) rfl ?_
  have hN := HN.out
  have hsn : ∀ k, S2 k → k ≠ N + 1 + 1 := fun k hk => by
    rcases HFR.out.2.2 k hk with h1 | h1
    · have := HBD.out k h1; omega
    · have := HNZ.out; omega
  obtain ⟨m2, mt2, M2, V2, hdk⟩ := HDK.out
  refine ⟨S2, ra1, rc1, rr1, rfl, ⟨m2, mt2, M2, V2, hdk.move (by simp) (fun k _ hs => (Below.heap_setCell _ _ _ _ (show k ≠ N + 1 + 1 from hsn k hs)).trans ((Below.heap_setCell _ _ _ _ (show k ≠ N + 1 + 1 from hsn k hs)).trans ((Below.heap_setCell _ _ _ _ (show k ≠ N + 1 + 1 from hsn k hs)).trans ((Below.heap_setCell _ _ _ _ (show k ≠ N + 1 + 1 from hsn k hs)).trans ((Below.heap_setCell _ _ _ _ (show k ≠ N + 1 + 1 from hsn k hs)).trans (rfl))))))⟩, ⟨only_new (only_new (only_new (only_new (only_new (HFW.out.1) (show w.heap.size ≤ N + 1 + 1 by omega) 0 (.int .i64 D1.room)) (show w.heap.size ≤ N + 1 + 1 by omega) 1 (.slice ra1 D1.fs.length rc1)) (show w.heap.size ≤ N + 1 + 1 by omega) 2 (.bool D1.down)) (show w.heap.size ≤ N + 1 + 1 by omega) 3 (.int .i64 rr1)) (show w.heap.size ≤ N + 1 + 1 by omega) 4 (.int .u64 (D1.st : Int)), HFW.out.2.1, HFW.out.2.2⟩, ?_⟩
  exact (RA.set (RA.set (RA.set (RA.set (RA.set (HRC.out) (p := ⟨N + 1 + 1, 0, none⟩) (show P3 S2 N (N + 1 + 1) from .inr ⟨by omega, by omega⟩) (.int .i64 D1.room)) (p := ⟨N + 1 + 1, 1, none⟩) (show P3 S2 N (N + 1 + 1) from .inr ⟨by omega, by omega⟩) (.slice ra1 D1.fs.length rc1)) (p := ⟨N + 1 + 1, 2, none⟩) (show P3 S2 N (N + 1 + 1) from .inr ⟨by omega, by omega⟩) (.bool D1.down)) (p := ⟨N + 1 + 1, 3, none⟩) (show P3 S2 N (N + 1 + 1) from .inr ⟨by omega, by omega⟩) (.int .i64 rr1)) (p := ⟨N + 1 + 1, 4, none⟩) (show P3 S2 N (N + 1 + 1) from .inr ⟨by omega, by omega⟩) (.int .u64 (D1.st : Int))).weak (fun k hk => .inl hk)
set_option maxRecDepth 100000 in
set_option maxHeartbeats 8000000 in
theorem do_arm {S : Nat → Prop} {w : World} {B m mt : Nat} {D : Dd} {M : Lit → Option Value} {V : Nm → Value} {B0 : Nat} {a : Option Addr} (c : Nat) {ar : Int} (h : DKx S w B m mt D M V) (hra : RA S w D a ar) (hst : D.st < 1000000) (n : Int) (nm tt tx : List UInt8) (ts : List (Nat × Nat)) (ya : Option Addr) (yc : Nat) (hn : n < 9223372036854775808) : Calls Try.prog 16 #[.pointer (some ⟨B, 0, none⟩), .agg #[.int .i64 D.room, .slice a D.fs.length c, .bool D.down, .int .i64 ar, .int .u64 (D.st : Int)], .agg #[.int .i64 6, .int .i64 n, encStr nm, encStr tt, encStr tx, .slice ya ts.length yc]] w fun e w' => DoP S w B e w' ((armD D n).1) := by
  obtain ⟨⟨D1, k1⟩, hr⟩ : ∃ r, armD D n = r := ⟨_, rfl⟩
  rw [hr]
  have HRE := Lib.hid hr
  clear hr
  have HNB := Lib.hid hn
  clear hn
  obtain ⟨B1, s0, so, s1, hz⟩ := box3 w #[.int .i64 D.room, .slice a D.fs.length c, .bool D.down, .int .i64 ar, .int .u64 (D.st : Int)] #[.int .i64 6, .int .i64 n, encStr nm, encStr tt, encStr tx, .slice ya ts.length yc] #[.int .i64 0, .slice none 0 0, .bool false, .int .i64 0, .int .u64 0] 30 34 30
  have HB1 := Lib.hid B1
  have HS01 := Lib.hid s0
  have HO1 := Lib.hid so
  have HS11 := Lib.hid s1
  have HZ := Lib.hid hz
  have H1 := Lib.hid (h.below B1)
  have HFT := Lib.hid h.fit
  have HBD := Lib.hid h.bd
  have HST := Lib.hid hst
  obtain ⟨N, hN⟩ : ∃ N, w.heap.size = N := ⟨_, rfl⟩
  have HN := Lib.hid hN
  have HR1 := Lib.hid (hra.start B1 hN)
  clear h B1 s0 so s1 hz hra hst
  rw [hN] at HS01 HO1 HS11 HZ
  clear hN
  go_enter Try.func16, Try.ntmps16
  go_upto_region 1 with fail
  have hN := HN.out
  try rw [hN]
  clear hN
  generalize ((w.alloc (.cells #[.int .i64 D.room, .slice a D.fs.length c, .bool D.down, .int .i64 ar, .int .u64 (D.st : Int)] 30)).alloc (.cells #[.int .i64 6, .int .i64 n, encStr nm, encStr tt, encStr tx, .slice ya ts.length yc] 34)).alloc (.cells #[.int .i64 0, .slice none 0 0, .bool false, .int .i64 0, .int .u64 0] 30) = w1 at H1 HS01 HO1 HS11 HB1 HZ HR1 ⊢
  have HPB : Hid (∀ k, P3 S N k → k < w1.heap.size) := Lib.hid (fun k hk => by
    have hz := HZ.out
    have hN := HN.out
    rcases hk with hk | hk
    · have := HBD.out k hk; omega
    · omega)
  obtain ⟨c0, c1, c2, c3, c4⟩ := five_rd HS01.out
  obtain ⟨q0, q1, q2, q3, q4, q5⟩ := six_rd HO1.out
  have HC := Lib.hid (rarm_any (c := c) HR1.out HFT.out HPB.out n HNB.out)
  rw [HRE.out] at HC
  go_wp2_with fail
  refine HC.out.mono ?_
  rintro e w2 ⟨ra1, rc1, rr1, rfl, hra1, hb⟩
  clear HC HR1
  clear c0 c1 c2 c3 c4 q0 q1 q2 q3 q4 q5
  have HRA := Lib.hid hra1
  clear hra1
  have HS02 := Lib.hid (ex_below HS01.out hb)
  have HO2 := Lib.hid (ex_below HO1.out hb)
  have HS12 := Lib.hid (ex_below HS11.out hb)
  have H2 := Lib.hid (H1.out.below hb)
  have HB2 := Lib.hid (HB1.out.trans (hb.mono HB1.out.size))
  clear HS01 HO1 HS11 H1 HB1 hb
  obtain ⟨c0, c1, c2, c3, c4⟩ := five_rd HS02.out
  have fHS0 : ∀ o, w2.frozen? ⟨N, o, none⟩ = false := fun o => by simp [World.frozen?, HS02.out]
  unfold RVal
  dsimp only
  have hNN := HN.out
  have HQ_HS0 := Lib.hid (set5 HS02.out (.int .i64 D1.room) (.slice ra1 D1.fs.length rc1) (.bool D1.down) (.int .i64 rr1) (.int .u64 (D1.st : Int)))
  have HQ_HO : Hid ((((((w2.setCell ⟨N, 0, none⟩ (.int .i64 D1.room)).setCell ⟨N, 1, none⟩ (.slice ra1 D1.fs.length rc1)).setCell ⟨N, 2, none⟩ (.bool D1.down)).setCell ⟨N, 3, none⟩ (.int .i64 rr1)).setCell ⟨N, 4, none⟩ (.int .u64 (D1.st : Int))).heap[N + 1]? = some (.cells #[.int .i64 6, .int .i64 n, encStr nm, encStr tt, encStr tx, .slice ya ts.length yc] 34 (0, 0))) := Lib.hid ((Below.heap_setCell _ _ _ _ (show N + 1 ≠ N by omega)).trans ((Below.heap_setCell _ _ _ _ (show N + 1 ≠ N by omega)).trans ((Below.heap_setCell _ _ _ _ (show N + 1 ≠ N by omega)).trans ((Below.heap_setCell _ _ _ _ (show N + 1 ≠ N by omega)).trans ((Below.heap_setCell _ _ _ _ (show N + 1 ≠ N by omega)).trans (HO2.out))))))
  have HQ_HS1 : Hid ((((((w2.setCell ⟨N, 0, none⟩ (.int .i64 D1.room)).setCell ⟨N, 1, none⟩ (.slice ra1 D1.fs.length rc1)).setCell ⟨N, 2, none⟩ (.bool D1.down)).setCell ⟨N, 3, none⟩ (.int .i64 rr1)).setCell ⟨N, 4, none⟩ (.int .u64 (D1.st : Int))).heap[N + 1 + 1]? = some (.cells #[.int .i64 0, .slice none 0 0, .bool false, .int .i64 0, .int .u64 0] 30 (0, 0))) := Lib.hid ((Below.heap_setCell _ _ _ _ (show N + 1 + 1 ≠ N by omega)).trans ((Below.heap_setCell _ _ _ _ (show N + 1 + 1 ≠ N by omega)).trans ((Below.heap_setCell _ _ _ _ (show N + 1 + 1 ≠ N by omega)).trans ((Below.heap_setCell _ _ _ _ (show N + 1 + 1 ≠ N by omega)).trans ((Below.heap_setCell _ _ _ _ (show N + 1 + 1 ≠ N by omega)).trans (HS12.out))))))
  have HQB := Lib.hid (below_two (below_two (below_two (below_two (below_two (HB2.out) (show w.heap.size ≤ N by omega) 0 (.int .i64 D1.room)) (show w.heap.size ≤ N by omega) 1 (.slice ra1 D1.fs.length rc1)) (show w.heap.size ≤ N by omega) 2 (.bool D1.down)) (show w.heap.size ≤ N by omega) 3 (.int .i64 rr1)) (show w.heap.size ≤ N by omega) 4 (.int .u64 (D1.st : Int)))
  have hsn : ∀ k, S k → k ≠ N := fun k hk => by have := HBD.out k hk; omega
  have HQH : Hid (DKx S (((((w2.setCell ⟨N, 0, none⟩ (.int .i64 D1.room)).setCell ⟨N, 1, none⟩ (.slice ra1 D1.fs.length rc1)).setCell ⟨N, 2, none⟩ (.bool D1.down)).setCell ⟨N, 3, none⟩ (.int .i64 rr1)).setCell ⟨N, 4, none⟩ (.int .u64 (D1.st : Int))) B m mt D M V) := Lib.hid (H2.out.move (by simp) (fun k _ hs => (Below.heap_setCell _ _ _ _ (show k ≠ N from hsn k hs)).trans ((Below.heap_setCell _ _ _ _ (show k ≠ N from hsn k hs)).trans ((Below.heap_setCell _ _ _ _ (show k ≠ N from hsn k hs)).trans ((Below.heap_setCell _ _ _ _ (show k ≠ N from hsn k hs)).trans ((Below.heap_setCell _ _ _ _ (show k ≠ N from hsn k hs)).trans (rfl)))))))
  have HQR := Lib.hid (RA.set (RA.set (RA.set (RA.set (RA.set (HRA.out) (p := ⟨N, 0, none⟩) (show P3 S N N from .inr ⟨Nat.le_refl _, by omega⟩) (.int .i64 D1.room)) (p := ⟨N, 1, none⟩) (show P3 S N N from .inr ⟨Nat.le_refl _, by omega⟩) (.slice ra1 D1.fs.length rc1)) (p := ⟨N, 2, none⟩) (show P3 S N N from .inr ⟨Nat.le_refl _, by omega⟩) (.bool D1.down)) (p := ⟨N, 3, none⟩) (show P3 S N N from .inr ⟨Nat.le_refl _, by omega⟩) (.int .i64 rr1)) (p := ⟨N, 4, none⟩) (show P3 S N N from .inr ⟨Nat.le_refl _, by omega⟩) (.int .u64 (D1.st : Int)))
  clear hNN hsn
  go_upto_region 24 with fail
  generalize (((((w2.setCell ⟨N, 0, none⟩ (.int .i64 D1.room)).setCell ⟨N, 1, none⟩ (.slice ra1 D1.fs.length rc1)).setCell ⟨N, 2, none⟩ (.bool D1.down)).setCell ⟨N, 3, none⟩ (.int .i64 rr1)).setCell ⟨N, 4, none⟩ (.int .u64 (D1.st : Int))) = w3 at HQ_HS0 HQ_HO HQ_HS1 HQB HQH HQR ⊢
  have HS03 := HQ_HS0
  have HO3 := HQ_HO
  have HS13 := HQ_HS1
  have HB3 := HQB
  have H3 := HQH
  have HRB := HQR
  clear HQ_HS0 HQ_HO HQ_HS1 HQB HQH HQR HS02 HO2 HS12 HB2 H2 HRA
  obtain ⟨q0, q1, q2, q3, q4, q5⟩ := six_rd HO3.out
  have HC := Lib.hid (darm_any H3.out (by have := HST.out; omega) n HNB.out)
  rw [HRE.out] at HC
  go_wp2_with fail
  refine HC.out.mono ?_
  rintro e w4 ⟨S2, rfl, hdk, hfr⟩
  clear HC HPB
  clear q0 q1 q2 q3 q4 q5
  have hN := HN.out
  have hout : ∀ {k : Nat}, k < w3.heap.size → N ≤ k → w4.heap[k]? = w3.heap[k]? := fun hk hle => (hfr.out hk (fun hs => by have := HBD.out _ hs; omega)).1
  have HS04 := Lib.hid ((hout (ex_lt HS03.out) (by omega)).trans HS03.out)
  have HS14 := Lib.hid ((hout (ex_lt HS13.out) (by omega)).trans HS13.out)
  have HRC := Lib.hid (HRB.out.call hfr)
  have HNZ : Hid (N + 1 + 1 < w3.heap.size) := Lib.hid (ex_lt HS13.out)
  have HFR := Lib.hid hfr
  have HFW := Lib.hid (frb HB3.out hfr)
  have HDK := Lib.hid hdk
  clear hN hout hdk hfr HS03 HS13 HO3 HB3 H3 HRB
  clear HRE
  obtain ⟨c0, c1, c2, c3, c4⟩ := five_rd HS04.out
  obtain ⟨p0, p1, p2, p3, p4⟩ := five_rd HS14.out
  have fHS0 : ∀ o, w4.frozen? ⟨N, o, none⟩ = false := fun o => by simp [World.frozen?, HS04.out]
  have fHS1 : ∀ o, w4.frozen? ⟨N + 1 + 1, o, none⟩ = false := fun o => by simp [World.frozen?, HS14.out]
  go_wp2_with fail
  refine bodyPost_ret (rd_res rfl _ _ (N + 1 + 1) (.int .i64 D1.room) (.slice ra1 D1.fs.length rc1) (.bool D1.down) (.int .i64 rr1) (.int .u64 (D1.st : Int)) rfl (by go_simp) (by go_simp) (by go_simp) (by go_simp) (by go_simp)) rfl ?_
  have hN := HN.out
  have hsn : ∀ k, S2 k → k ≠ N + 1 + 1 := fun k hk => by
    rcases HFR.out.2.2 k hk with h1 | h1
    · have := HBD.out k h1; omega
    · have := HNZ.out; omega
  obtain ⟨m2, mt2, M2, V2, hdk⟩ := HDK.out
  refine ⟨S2, ra1, rc1, rr1, rfl, ⟨m2, mt2, M2, V2, hdk.move (by simp) (fun k _ hs => (Below.heap_setCell _ _ _ _ (show k ≠ N + 1 + 1 from hsn k hs)).trans ((Below.heap_setCell _ _ _ _ (show k ≠ N + 1 + 1 from hsn k hs)).trans ((Below.heap_setCell _ _ _ _ (show k ≠ N + 1 + 1 from hsn k hs)).trans ((Below.heap_setCell _ _ _ _ (show k ≠ N + 1 + 1 from hsn k hs)).trans ((Below.heap_setCell _ _ _ _ (show k ≠ N + 1 + 1 from hsn k hs)).trans (rfl))))))⟩, ⟨only_new (only_new (only_new (only_new (only_new (HFW.out.1) (show w.heap.size ≤ N + 1 + 1 by omega) 0 (.int .i64 D1.room)) (show w.heap.size ≤ N + 1 + 1 by omega) 1 (.slice ra1 D1.fs.length rc1)) (show w.heap.size ≤ N + 1 + 1 by omega) 2 (.bool D1.down)) (show w.heap.size ≤ N + 1 + 1 by omega) 3 (.int .i64 rr1)) (show w.heap.size ≤ N + 1 + 1 by omega) 4 (.int .u64 (D1.st : Int)), HFW.out.2.1, HFW.out.2.2⟩, ?_⟩
  exact (RA.set (RA.set (RA.set (RA.set (RA.set (HRC.out) (p := ⟨N + 1 + 1, 0, none⟩) (show P3 S2 N (N + 1 + 1) from .inr ⟨by omega, by omega⟩) (.int .i64 D1.room)) (p := ⟨N + 1 + 1, 1, none⟩) (show P3 S2 N (N + 1 + 1) from .inr ⟨by omega, by omega⟩) (.slice ra1 D1.fs.length rc1)) (p := ⟨N + 1 + 1, 2, none⟩) (show P3 S2 N (N + 1 + 1) from .inr ⟨by omega, by omega⟩) (.bool D1.down)) (p := ⟨N + 1 + 1, 3, none⟩) (show P3 S2 N (N + 1 + 1) from .inr ⟨by omega, by omega⟩) (.int .i64 rr1)) (p := ⟨N + 1 + 1, 4, none⟩) (show P3 S2 N (N + 1 + 1) from .inr ⟨by omega, by omega⟩) (.int .u64 (D1.st : Int))).weak (fun k hk => .inl hk)
set_option maxRecDepth 100000 in
set_option maxHeartbeats 8000000 in
theorem do_resize {S : Nat → Prop} {w : World} {B m mt : Nat} {D : Dd} {M : Lit → Option Value} {V : Nm → Value} {B0 : Nat} {a : Option Addr} (c : Nat) {ar : Int} (h : DKx S w B m mt D M V) (hra : RA S w D a ar) (hst : D.st < 1000000) (n : Int) (nm tt tx : List UInt8) (ts : List (Nat × Nat)) (ya : Option Addr) (yc : Nat) : Calls Try.prog 16 #[.pointer (some ⟨B, 0, none⟩), .agg #[.int .i64 D.room, .slice a D.fs.length c, .bool D.down, .int .i64 ar, .int .u64 (D.st : Int)], .agg #[.int .i64 9, .int .i64 n, encStr nm, encStr tt, encStr tx, .slice ya ts.length yc]] w fun e w' => DoP S w B e w' ((resizeD D n).1) := by
  obtain ⟨⟨D1, k1⟩, hr⟩ : ∃ r, resizeD D n = r := ⟨_, rfl⟩
  rw [hr]
  have HRE := Lib.hid hr
  clear hr
  obtain ⟨B1, s0, so, s1, hz⟩ := box3 w #[.int .i64 D.room, .slice a D.fs.length c, .bool D.down, .int .i64 ar, .int .u64 (D.st : Int)] #[.int .i64 9, .int .i64 n, encStr nm, encStr tt, encStr tx, .slice ya ts.length yc] #[.int .i64 0, .slice none 0 0, .bool false, .int .i64 0, .int .u64 0] 30 34 30
  have HB1 := Lib.hid B1
  have HS01 := Lib.hid s0
  have HO1 := Lib.hid so
  have HS11 := Lib.hid s1
  have HZ := Lib.hid hz
  have H1 := Lib.hid (h.below B1)
  have HFT := Lib.hid h.fit
  have HBD := Lib.hid h.bd
  have HST := Lib.hid hst
  obtain ⟨N, hN⟩ : ∃ N, w.heap.size = N := ⟨_, rfl⟩
  have HN := Lib.hid hN
  have HR1 := Lib.hid (hra.start B1 hN)
  clear h B1 s0 so s1 hz hra hst
  rw [hN] at HS01 HO1 HS11 HZ
  clear hN
  go_enter Try.func16, Try.ntmps16
  go_upto_region 1 with fail
  have hN := HN.out
  try rw [hN]
  clear hN
  generalize ((w.alloc (.cells #[.int .i64 D.room, .slice a D.fs.length c, .bool D.down, .int .i64 ar, .int .u64 (D.st : Int)] 30)).alloc (.cells #[.int .i64 9, .int .i64 n, encStr nm, encStr tt, encStr tx, .slice ya ts.length yc] 34)).alloc (.cells #[.int .i64 0, .slice none 0 0, .bool false, .int .i64 0, .int .u64 0] 30) = w1 at H1 HS01 HO1 HS11 HB1 HZ HR1 ⊢
  have HPB : Hid (∀ k, P3 S N k → k < w1.heap.size) := Lib.hid (fun k hk => by
    have hz := HZ.out
    have hN := HN.out
    rcases hk with hk | hk
    · have := HBD.out k hk; omega
    · omega)
  obtain ⟨c0, c1, c2, c3, c4⟩ := five_rd HS01.out
  obtain ⟨q0, q1, q2, q3, q4, q5⟩ := six_rd HO1.out
  have HC := Lib.hid (rresize_any (c := c) HR1.out HFT.out HPB.out n)
  rw [HRE.out] at HC
  go_wp2_with fail
  refine HC.out.mono ?_
  rintro e w2 ⟨ra1, rc1, rr1, rfl, hra1, hb⟩
  clear HC HR1
  clear c0 c1 c2 c3 c4 q0 q1 q2 q3 q4 q5
  have HRA := Lib.hid hra1
  clear hra1
  have HS02 := Lib.hid (ex_below HS01.out hb)
  have HO2 := Lib.hid (ex_below HO1.out hb)
  have HS12 := Lib.hid (ex_below HS11.out hb)
  have H2 := Lib.hid (H1.out.below hb)
  have HB2 := Lib.hid (HB1.out.trans (hb.mono HB1.out.size))
  clear HS01 HO1 HS11 H1 HB1 hb
  obtain ⟨c0, c1, c2, c3, c4⟩ := five_rd HS02.out
  have fHS0 : ∀ o, w2.frozen? ⟨N, o, none⟩ = false := fun o => by simp [World.frozen?, HS02.out]
  unfold RVal
  dsimp only
  have hNN := HN.out
  have HQ_HS0 := Lib.hid (set5 HS02.out (.int .i64 D1.room) (.slice ra1 D1.fs.length rc1) (.bool D1.down) (.int .i64 rr1) (.int .u64 (D1.st : Int)))
  have HQ_HO : Hid ((((((w2.setCell ⟨N, 0, none⟩ (.int .i64 D1.room)).setCell ⟨N, 1, none⟩ (.slice ra1 D1.fs.length rc1)).setCell ⟨N, 2, none⟩ (.bool D1.down)).setCell ⟨N, 3, none⟩ (.int .i64 rr1)).setCell ⟨N, 4, none⟩ (.int .u64 (D1.st : Int))).heap[N + 1]? = some (.cells #[.int .i64 9, .int .i64 n, encStr nm, encStr tt, encStr tx, .slice ya ts.length yc] 34 (0, 0))) := Lib.hid ((Below.heap_setCell _ _ _ _ (show N + 1 ≠ N by omega)).trans ((Below.heap_setCell _ _ _ _ (show N + 1 ≠ N by omega)).trans ((Below.heap_setCell _ _ _ _ (show N + 1 ≠ N by omega)).trans ((Below.heap_setCell _ _ _ _ (show N + 1 ≠ N by omega)).trans ((Below.heap_setCell _ _ _ _ (show N + 1 ≠ N by omega)).trans (HO2.out))))))
  have HQ_HS1 : Hid ((((((w2.setCell ⟨N, 0, none⟩ (.int .i64 D1.room)).setCell ⟨N, 1, none⟩ (.slice ra1 D1.fs.length rc1)).setCell ⟨N, 2, none⟩ (.bool D1.down)).setCell ⟨N, 3, none⟩ (.int .i64 rr1)).setCell ⟨N, 4, none⟩ (.int .u64 (D1.st : Int))).heap[N + 1 + 1]? = some (.cells #[.int .i64 0, .slice none 0 0, .bool false, .int .i64 0, .int .u64 0] 30 (0, 0))) := Lib.hid ((Below.heap_setCell _ _ _ _ (show N + 1 + 1 ≠ N by omega)).trans ((Below.heap_setCell _ _ _ _ (show N + 1 + 1 ≠ N by omega)).trans ((Below.heap_setCell _ _ _ _ (show N + 1 + 1 ≠ N by omega)).trans ((Below.heap_setCell _ _ _ _ (show N + 1 + 1 ≠ N by omega)).trans ((Below.heap_setCell _ _ _ _ (show N + 1 + 1 ≠ N by omega)).trans (HS12.out))))))
  have HQB := Lib.hid (below_two (below_two (below_two (below_two (below_two (HB2.out) (show w.heap.size ≤ N by omega) 0 (.int .i64 D1.room)) (show w.heap.size ≤ N by omega) 1 (.slice ra1 D1.fs.length rc1)) (show w.heap.size ≤ N by omega) 2 (.bool D1.down)) (show w.heap.size ≤ N by omega) 3 (.int .i64 rr1)) (show w.heap.size ≤ N by omega) 4 (.int .u64 (D1.st : Int)))
  have hsn : ∀ k, S k → k ≠ N := fun k hk => by have := HBD.out k hk; omega
  have HQH : Hid (DKx S (((((w2.setCell ⟨N, 0, none⟩ (.int .i64 D1.room)).setCell ⟨N, 1, none⟩ (.slice ra1 D1.fs.length rc1)).setCell ⟨N, 2, none⟩ (.bool D1.down)).setCell ⟨N, 3, none⟩ (.int .i64 rr1)).setCell ⟨N, 4, none⟩ (.int .u64 (D1.st : Int))) B m mt D M V) := Lib.hid (H2.out.move (by simp) (fun k _ hs => (Below.heap_setCell _ _ _ _ (show k ≠ N from hsn k hs)).trans ((Below.heap_setCell _ _ _ _ (show k ≠ N from hsn k hs)).trans ((Below.heap_setCell _ _ _ _ (show k ≠ N from hsn k hs)).trans ((Below.heap_setCell _ _ _ _ (show k ≠ N from hsn k hs)).trans ((Below.heap_setCell _ _ _ _ (show k ≠ N from hsn k hs)).trans (rfl)))))))
  have HQR := Lib.hid (RA.set (RA.set (RA.set (RA.set (RA.set (HRA.out) (p := ⟨N, 0, none⟩) (show P3 S N N from .inr ⟨Nat.le_refl _, by omega⟩) (.int .i64 D1.room)) (p := ⟨N, 1, none⟩) (show P3 S N N from .inr ⟨Nat.le_refl _, by omega⟩) (.slice ra1 D1.fs.length rc1)) (p := ⟨N, 2, none⟩) (show P3 S N N from .inr ⟨Nat.le_refl _, by omega⟩) (.bool D1.down)) (p := ⟨N, 3, none⟩) (show P3 S N N from .inr ⟨Nat.le_refl _, by omega⟩) (.int .i64 rr1)) (p := ⟨N, 4, none⟩) (show P3 S N N from .inr ⟨Nat.le_refl _, by omega⟩) (.int .u64 (D1.st : Int)))
  clear hNN hsn
  go_upto_region 33 with fail
  generalize (((((w2.setCell ⟨N, 0, none⟩ (.int .i64 D1.room)).setCell ⟨N, 1, none⟩ (.slice ra1 D1.fs.length rc1)).setCell ⟨N, 2, none⟩ (.bool D1.down)).setCell ⟨N, 3, none⟩ (.int .i64 rr1)).setCell ⟨N, 4, none⟩ (.int .u64 (D1.st : Int))) = w3 at HQ_HS0 HQ_HO HQ_HS1 HQB HQH HQR ⊢
  have HS03 := HQ_HS0
  have HO3 := HQ_HO
  have HS13 := HQ_HS1
  have HB3 := HQB
  have H3 := HQH
  have HRB := HQR
  clear HQ_HS0 HQ_HO HQ_HS1 HQB HQH HQR HS02 HO2 HS12 HB2 H2 HRA
  obtain ⟨q0, q1, q2, q3, q4, q5⟩ := six_rd HO3.out
  have HC := Lib.hid (dresize_any H3.out n)
  rw [HRE.out] at HC
  go_wp2_with fail
  refine HC.out.mono ?_
  rintro e w4 ⟨S2, rfl, hdk, hfr⟩
  clear HC HPB
  clear q0 q1 q2 q3 q4 q5
  have hN := HN.out
  have hout : ∀ {k : Nat}, k < w3.heap.size → N ≤ k → w4.heap[k]? = w3.heap[k]? := fun hk hle => (hfr.out hk (fun hs => by have := HBD.out _ hs; omega)).1
  have HS04 := Lib.hid ((hout (ex_lt HS03.out) (by omega)).trans HS03.out)
  have HS14 := Lib.hid ((hout (ex_lt HS13.out) (by omega)).trans HS13.out)
  have HRC := Lib.hid (HRB.out.call hfr)
  have HNZ : Hid (N + 1 + 1 < w3.heap.size) := Lib.hid (ex_lt HS13.out)
  have HFR := Lib.hid hfr
  have HFW := Lib.hid (frb HB3.out hfr)
  have HDK := Lib.hid hdk
  clear hN hout hdk hfr HS03 HS13 HO3 HB3 H3 HRB
  clear HRE
  obtain ⟨c0, c1, c2, c3, c4⟩ := five_rd HS04.out
  obtain ⟨p0, p1, p2, p3, p4⟩ := five_rd HS14.out
  have fHS0 : ∀ o, w4.frozen? ⟨N, o, none⟩ = false := fun o => by simp [World.frozen?, HS04.out]
  have fHS1 : ∀ o, w4.frozen? ⟨N + 1 + 1, o, none⟩ = false := fun o => by simp [World.frozen?, HS14.out]
  go_wp2_with fail
  refine bodyPost_ret (rd_res rfl _ _ (N + 1 + 1) (.int .i64 D1.room) (.slice ra1 D1.fs.length rc1) (.bool D1.down) (.int .i64 rr1) (.int .u64 (D1.st : Int)) rfl (by go_simp) (by go_simp) (by go_simp) (by go_simp) (by go_simp)) rfl ?_
  have hN := HN.out
  have hsn : ∀ k, S2 k → k ≠ N + 1 + 1 := fun k hk => by
    rcases HFR.out.2.2 k hk with h1 | h1
    · have := HBD.out k h1; omega
    · have := HNZ.out; omega
  obtain ⟨m2, mt2, M2, V2, hdk⟩ := HDK.out
  refine ⟨S2, ra1, rc1, rr1, rfl, ⟨m2, mt2, M2, V2, hdk.move (by simp) (fun k _ hs => (Below.heap_setCell _ _ _ _ (show k ≠ N + 1 + 1 from hsn k hs)).trans ((Below.heap_setCell _ _ _ _ (show k ≠ N + 1 + 1 from hsn k hs)).trans ((Below.heap_setCell _ _ _ _ (show k ≠ N + 1 + 1 from hsn k hs)).trans ((Below.heap_setCell _ _ _ _ (show k ≠ N + 1 + 1 from hsn k hs)).trans ((Below.heap_setCell _ _ _ _ (show k ≠ N + 1 + 1 from hsn k hs)).trans (rfl))))))⟩, ⟨only_new (only_new (only_new (only_new (only_new (HFW.out.1) (show w.heap.size ≤ N + 1 + 1 by omega) 0 (.int .i64 D1.room)) (show w.heap.size ≤ N + 1 + 1 by omega) 1 (.slice ra1 D1.fs.length rc1)) (show w.heap.size ≤ N + 1 + 1 by omega) 2 (.bool D1.down)) (show w.heap.size ≤ N + 1 + 1 by omega) 3 (.int .i64 rr1)) (show w.heap.size ≤ N + 1 + 1 by omega) 4 (.int .u64 (D1.st : Int)), HFW.out.2.1, HFW.out.2.2⟩, ?_⟩
  exact (RA.set (RA.set (RA.set (RA.set (RA.set (HRC.out) (p := ⟨N + 1 + 1, 0, none⟩) (show P3 S2 N (N + 1 + 1) from .inr ⟨by omega, by omega⟩) (.int .i64 D1.room)) (p := ⟨N + 1 + 1, 1, none⟩) (show P3 S2 N (N + 1 + 1) from .inr ⟨by omega, by omega⟩) (.slice ra1 D1.fs.length rc1)) (p := ⟨N + 1 + 1, 2, none⟩) (show P3 S2 N (N + 1 + 1) from .inr ⟨by omega, by omega⟩) (.bool D1.down)) (p := ⟨N + 1 + 1, 3, none⟩) (show P3 S2 N (N + 1 + 1) from .inr ⟨by omega, by omega⟩) (.int .i64 rr1)) (p := ⟨N + 1 + 1, 4, none⟩) (show P3 S2 N (N + 1 + 1) from .inr ⟨by omega, by omega⟩) (.int .u64 (D1.st : Int))).weak (fun k hk => .inl hk)
end Go.Proofs.Ythkjjpkipeeimaa
