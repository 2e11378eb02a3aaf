/- The reference's disk: Sync. -/
import Derived.Test.YthkjjpkipeeimaaDrH
import Derived.Test.YthkjjpkipeeimaaDoA
namespace Go.Proofs.Ythkjjpkipeeimaa
open Go.RowKit Go.Maps
def arS (ar : Int) : Int := if 0 < ar then ar - 1 else ar
theorem rstep_go (room : Int) (a : Option Addr) (n c : Nat) (down : Bool) (ar : Int) (ha : ar ≠ 0 ∧ ar < 9223372036854775808) (st : Int) (w : World) (hst : 0 ≤ st ∧ st < 1000000000) : Calls Try.prog 109 #[.agg #[.int .i64 room, .slice a n c, .bool down, .int .i64 ar, .int .u64 st]] w fun e w' => e = .returned (.tuple #[.agg #[.int .i64 room, .slice a n c, .bool down, .int .i64 (arS ar), .int .u64 (st + 1)], .bool true]) ∧ Below w.heap.size w w' := by
  unfold arS
  by_cases h : 0 < ar
  · rw [if_pos h]
    exact rstep_on room a n c down ar ⟨h, ha.2⟩ st w hst
  · rw [if_neg h]
    exact rstep_un room a n c down ar (by omega) st w hst
theorem set3 {w : World} {N : Nat} {x0 x1 x2 : Value} {t : TypeId} (h : w.heap[N]? = some (.cells #[x0, x1, x2] t (0, 0))) (y0 y1 y2 : Value) : (((w.setCell ⟨N, 0, none⟩ y0).setCell ⟨N, 1, none⟩ y1).setCell ⟨N, 2, none⟩ y2).heap[N]? = some (.cells #[y0, y1, y2] t (0, 0)) := by
  have e0 := heap_setCell_same w N 0 _ _ y0 h
  have e1 := heap_setCell_same _ N 1 _ _ y1 e0
  have e2 := heap_setCell_same _ N 2 _ _ y2 e1
  rw [e2]
  simp
/-- What stands at the place that Find told. -/
theorem FRow.found {w W : World} {a : Option Addr} {L : Ft} {n : Nm} {f : Fl} {k : Int} (h : FRow w a L) (hb : Below w.heap.size w W) (hs : SrtF L) (hf : getF L n = some f) (hk : Found L n k) : ∃ (i : Nat) (b o : Nat), k = (i : Int) ∧ i < L.length ∧ a = some ⟨b, o, none⟩ ∧ W.cell? ⟨b, o + i * 3, none⟩ = some (encStr n) ∧ W.cell? ⟨b, o + i * 3 + 1, none⟩ = some (.string (str f.all)) ∧ W.cell? ⟨b, o + i * 3 + 2, none⟩ = some (.int .i64 (f.kept : Int)) := by
  rcases hk.get hs with ⟨-, h1⟩ | ⟨i, hi, e, h1, h2⟩
  · rw [h1] at hf; cases hf
  · rw [h2] at hf
    injection hf with hf
    obtain ⟨b, o, e2, -, k0, k1, k2⟩ := (h.below hb) i hi
    rw [h1] at k0
    rw [hf] at k1 k2
    exact ⟨i, b, o, e, hi, e2, k0, k1, k2⟩
theorem Found.no {L : Ft} {n : Nm} {k : Int} (h : Found L n k) (hn : getF L n = none) (hs : SrtF L) : k = -1 := by
  rcases h.get hs with ⟨e, -⟩ | ⟨i, hi, e, h1, h2⟩
  · exact e
  · rw [h2] at hn; cases hn
set_option maxRecDepth 100000 in
set_option maxHeartbeats 8000000 in
theorem rsync_down (room : Int) (a : Option Addr) (c : Nat) (ar st : Int) (L : Ft) (n : Nm) (w : World) (h : FRow w a L) (hl : L.length ≤ 1000) : Calls Try.prog 60 #[.agg #[.int .i64 room, .slice a L.length c, .bool true, .int .i64 ar, .int .u64 st], encStr n] w fun e w' => e = .returned (.tuple #[.agg #[.int .i64 room, .slice a L.length c, .bool true, .int .i64 ar, .int .u64 st], .int .i64 50]) ∧ Below w.heap.size w w' := by
  obtain ⟨ln, hln⟩ : ∃ ln, L.length = ln := ⟨_, rfl⟩
  have HLN := Lib.hid hln
  obtain ⟨B1, s0, s1, hz⟩ := box2 w #[.int .i64 room, .slice a ln c, .bool true, .int .i64 ar, .int .u64 st] #[.int .i64 0, .slice none 0 0, .bool false, .int .i64 0, .int .u64 0] 30 30
  have HB1 := Lib.hid B1
  have HS01 := Lib.hid s0
  have HS11 := Lib.hid s1
  have HZ := Lib.hid hz
  have HR := Lib.hid h
  have HL := Lib.hid hl
  rw [hln]
  clear h B1 s0 s1 hz hl hln
  go_enter Try.func60, Try.ntmps60
  go_upto_region 1 with fail
  obtain ⟨N, hN⟩ : ∃ N, w.heap.size = N := ⟨_, rfl⟩
  have HN := Lib.hid hN
  rw [hN] at HS01 HS11 HZ
  try rw [hN]
  clear hN
  generalize (w.alloc (.cells #[.int .i64 room, .slice a ln c, .bool true, .int .i64 ar, .int .u64 st] 30)).alloc (.cells #[.int .i64 0, .slice none 0 0, .bool false, .int .i64 0, .int .u64 0] 30) = w1 at HS01 HS11 HB1 HZ ⊢
  obtain ⟨c0, c1, c2, c3, c4⟩ := five_rd HS01.out
  have HC := Lib.hid (rfind room a c true ar st L n w1 (HR.out.below HB1.out) (by have := HL.out; omega))
  have hln := HLN.out
  try rw [hln] at HC
  clear hln
  go_wp2_with fail
  refine HC.out.mono ?_
  rintro e w2 ⟨k, rfl, -, hb⟩
  clear HC
  clear c0 c1 c2 c3 c4
  have HS02 := Lib.hid (ex_below HS01.out hb)
  have HS12 := Lib.hid (ex_below HS11.out hb)
  have HB2 := Lib.hid (HB1.out.trans (hb.mono HB1.out.size))
  clear HS01 HS11 HB1 hb
  obtain ⟨c0, c1, c2, c3, c4⟩ := five_rd HS02.out
  obtain ⟨p0, p1, p2, p3, p4⟩ := five_rd HS12.out
  have fHS0 : ∀ o, w2.frozen? ⟨N, o, none⟩ = false := fun o => by simp [World.frozen?, HS02.out]
  have fHS1 : ∀ o, w2.frozen? ⟨N + 1, o, none⟩ = false := fun o => by simp [World.frozen?, HS12.out]
  go_wp2_with fail
  refine bodyPost_ret (rd_res rfl _ _ (N + 1) (.int .i64 room) (.slice a ln c) (.bool true) (.int .i64 ar) (.int .u64 st) rfl (by go_simp) (by go_simp) (by go_simp) (by go_simp) (by go_simp)) rfl ?_
  have hN := HN.out
  refine ⟨rfl, ?_⟩
  exact below_two (below_two (below_two (below_two (below_two (HB2.out) (by omega) _ _) (by omega) _ _) (by omega) _ _) (by omega) _ _) (by omega) _ _
set_option maxRecDepth 100000 in
set_option maxHeartbeats 8000000 in
theorem rsync_none (room : Int) (a : Option Addr) (c : Nat) (ar st : Int) (L : Ft) (n : Nm) (w : World) (h : FRow w a L) (hl : L.length ≤ 1000) (hs : SrtF L) (hn : getF L n = none) : Calls Try.prog 60 #[.agg #[.int .i64 room, .slice a L.length c, .bool false, .int .i64 ar, .int .u64 st], encStr n] w fun e w' => e = .returned (.tuple #[.agg #[.int .i64 room, .slice a L.length c, .bool false, .int .i64 ar, .int .u64 st], .int .i64 31]) ∧ Below w.heap.size w w' := by
  obtain ⟨ln, hln⟩ : ∃ ln, L.length = ln := ⟨_, rfl⟩
  have HLN := Lib.hid hln
  obtain ⟨B1, s0, s1, hz⟩ := box2 w #[.int .i64 room, .slice a ln c, .bool false, .int .i64 ar, .int .u64 st] #[.int .i64 0, .slice none 0 0, .bool false, .int .i64 0, .int .u64 0] 30 30
  have HB1 := Lib.hid B1
  have HS01 := Lib.hid s0
  have HS11 := Lib.hid s1
  have HZ := Lib.hid hz
  have HR := Lib.hid h
  have HL := Lib.hid hl
  have HSRT := Lib.hid hs
  have HNO := Lib.hid hn
  rw [hln]
  clear h B1 s0 s1 hz hl hs hn hln
  go_enter Try.func60, Try.ntmps60
  go_upto_region 1 with fail
  obtain ⟨N, hN⟩ : ∃ N, w.heap.size = N := ⟨_, rfl⟩
  have HN := Lib.hid hN
  rw [hN] at HS01 HS11 HZ
  try rw [hN]
  clear hN
  generalize (w.alloc (.cells #[.int .i64 room, .slice a ln c, .bool false, .int .i64 ar, .int .u64 st] 30)).alloc (.cells #[.int .i64 0, .slice none 0 0, .bool false, .int .i64 0, .int .u64 0] 30) = w1 at HS01 HS11 HB1 HZ ⊢
  obtain ⟨c0, c1, c2, c3, c4⟩ := five_rd HS01.out
  have HC := Lib.hid (rfind room a c false ar st L n w1 (HR.out.below HB1.out) (by have := HL.out; omega))
  have hln := HLN.out
  try rw [hln] at HC
  clear hln
  go_wp2_with fail
  refine HC.out.mono ?_
  rintro e w2 ⟨k, rfl, hk, hb⟩
  clear HC
  clear c0 c1 c2 c3 c4
  obtain rfl := hk.no HNO.out HSRT.out
  clear hk
  have HS02 := Lib.hid (ex_below HS01.out hb)
  have HS12 := Lib.hid (ex_below HS11.out hb)
  have HB2 := Lib.hid (HB1.out.trans (hb.mono HB1.out.size))
  clear HS01 HS11 HB1 hb
  obtain ⟨c0, c1, c2, c3, c4⟩ := five_rd HS02.out
  obtain ⟨p0, p1, p2, p3, p4⟩ := five_rd HS12.out
  have fHS0 : ∀ o, w2.frozen? ⟨N, o, none⟩ = false := fun o => by simp [World.frozen?, HS02.out]
  have fHS1 : ∀ o, w2.frozen? ⟨N + 1, o, none⟩ = false := fun o => by simp [World.frozen?, HS12.out]
  go_wp2_with fail
  refine bodyPost_ret (rd_res rfl _ _ (N + 1) (.int .i64 room) (.slice a ln c) (.bool false) (.int .i64 ar) (.int .u64 st) rfl (by go_simp) (by go_simp) (by go_simp) (by go_simp) (by go_simp)) rfl ?_
  have hN := HN.out
  refine ⟨rfl, ?_⟩
  exact below_two (below_two (below_two (below_two (below_two (HB2.out) (by omega) _ _) (by omega) _ _) (by omega) _ _) (by omega) _ _) (by omega) _ _
set_option maxRecDepth 100000 in
set_option maxHeartbeats 8000000 in
theorem rsync_sd (room : Int) (a : Option Addr) (c : Nat) (ar st : Int) (L : Ft) (n : Nm) (f : Fl) (w : World) (h : FRow w a L) (hl : L.length ≤ 1000) (hs : SrtF L) (hf : getF L n = some f) (hst : 0 ≤ st ∧ st < 1000000000) : Calls Try.prog 60 #[.agg #[.int .i64 room, .slice a L.length c, .bool false, .int .i64 0, .int .u64 st], encStr n] w fun e w' => e = .returned (.tuple #[.agg #[.int .i64 room, .slice a L.length c, .bool true, .int .i64 (-1), .int .u64 (st + 1)], .int .i64 50]) ∧ Below w.heap.size w w' := by
  obtain ⟨ln, hln⟩ : ∃ ln, L.length = ln := ⟨_, rfl⟩
  have HLN := Lib.hid hln
  obtain ⟨B1, s0, s1, hz⟩ := box2 w #[.int .i64 room, .slice a ln c, .bool false, .int .i64 0, .int .u64 st] #[.int .i64 0, .slice none 0 0, .bool false, .int .i64 0, .int .u64 0] 30 30
  have HB1 := Lib.hid B1
  have HS01 := Lib.hid s0
  have HS11 := Lib.hid s1
  have HZ := Lib.hid hz
  have HR := Lib.hid h
  have HL := Lib.hid hl
  have HSRT := Lib.hid hs
  have HFF := Lib.hid hf
  have HST := Lib.hid hst
  rw [hln]
  clear h B1 s0 s1 hz hl hs hf hst hln
  go_enter Try.func60, Try.ntmps60
  go_upto_region 1 with fail
  obtain ⟨N, hN⟩ : ∃ N, w.heap.size = N := ⟨_, rfl⟩
  have HN := Lib.hid hN
  rw [hN] at HS01 HS11 HZ
  try rw [hN]
  clear hN
  generalize (w.alloc (.cells #[.int .i64 room, .slice a ln c, .bool false, .int .i64 0, .int .u64 st] 30)).alloc (.cells #[.int .i64 0, .slice none 0 0, .bool false, .int .i64 0, .int .u64 0] 30) = w1 at HS01 HS11 HB1 HZ ⊢
  obtain ⟨c0, c1, c2, c3, c4⟩ := five_rd HS01.out
  have HC := Lib.hid (rfind room a c false 0 st L n w1 (HR.out.below HB1.out) (by have := HL.out; omega))
  have hln := HLN.out
  try rw [hln] at HC
  clear hln
  go_wp2_with fail
  refine HC.out.mono ?_
  rintro e w2 ⟨k, rfl, hk, hb⟩
  clear HC
  clear c0 c1 c2 c3 c4
  obtain ⟨i, b, o, rfl, hiL, rfl, -⟩ := HR.out.found HB1.out HSRT.out HFF.out hk
  clear hk hiL
  have HS02 := Lib.hid (ex_below HS01.out hb)
  have HS12 := Lib.hid (ex_below HS11.out hb)
  have HB2 := Lib.hid (HB1.out.trans (hb.mono HB1.out.size))
  clear HS01 HS11 HB1 hb
  have hi0 : ¬ (i : Int) < 0 := by omega
  obtain ⟨c0, c1, c2, c3, c4⟩ := five_rd HS02.out
  have HC := Lib.hid (rstep_zero room (some ⟨b, o, none⟩) ln c false st w2 HST.out)
  have hln := HLN.out
  try rw [hln] at HC
  clear hln
  go_wp2_with fail
  refine HC.out.mono ?_
  rintro e w3 ⟨rfl, hb⟩
  clear HC
  clear c0 c1 c2 c3 c4
  have HS03 := Lib.hid (ex_below HS02.out hb)
  have HS13 := Lib.hid (ex_below HS12.out hb)
  have HB3 := Lib.hid (HB2.out.trans (hb.mono HB2.out.size))
  clear HS02 HS12 HB2 hb
  obtain ⟨c0, c1, c2, c3, c4⟩ := five_rd HS03.out
  have fHS0 : ∀ o, w3.frozen? ⟨N, o, none⟩ = false := fun o => by simp [World.frozen?, HS03.out]
  have hNN := HN.out
  have hZZ := HZ.out
  have HQ_HS0 := Lib.hid (set5 HS03.out (.int .i64 room) (.slice (some ⟨b, o, none⟩) ln c) (.bool true) (.int .i64 (-1)) (.int .u64 (st + 1)))
  have HQ_HS1 : Hid ((((((w3.setCell ⟨N, 0, none⟩ (.int .i64 room)).setCell ⟨N, 1, none⟩ (.slice (some ⟨b, o, none⟩) ln c)).setCell ⟨N, 2, none⟩ (.bool true)).setCell ⟨N, 3, none⟩ (.int .i64 (-1))).setCell ⟨N, 4, none⟩ (.int .u64 (st + 1))).heap[N + 1]? = some (.cells #[.int .i64 0, .slice none 0 0, .bool false, .int .i64 0, .int .u64 0] 30 (0, 0))) := Lib.hid ((Below.heap_setCell _ _ _ _ (show N + 1 ≠ N by omega)).trans ((Below.heap_setCell _ _ _ _ (show N + 1 ≠ N by omega)).trans ((Below.heap_setCell _ _ _ _ (show N + 1 ≠ N by omega)).trans ((Below.heap_setCell _ _ _ _ (show N + 1 ≠ N by omega)).trans ((Below.heap_setCell _ _ _ _ (show N + 1 ≠ N by omega)).trans (HS13.out))))))
  have HQB := Lib.hid (below_two (below_two (below_two (below_two (below_two (HB3.out) (show w.heap.size ≤ N by omega) 0 (.int .i64 room)) (show w.heap.size ≤ N by omega) 1 (.slice (some ⟨b, o, none⟩) ln c)) (show w.heap.size ≤ N by omega) 2 (.bool true)) (show w.heap.size ≤ N by omega) 3 (.int .i64 (-1))) (show w.heap.size ≤ N by omega) 4 (.int .u64 (st + 1)))
  clear hNN hZZ
  go_upto_region 7 with fail
  generalize (((((w3.setCell ⟨N, 0, none⟩ (.int .i64 room)).setCell ⟨N, 1, none⟩ (.slice (some ⟨b, o, none⟩) ln c)).setCell ⟨N, 2, none⟩ (.bool true)).setCell ⟨N, 3, none⟩ (.int .i64 (-1))).setCell ⟨N, 4, none⟩ (.int .u64 (st + 1))) = w4 at HQ_HS0 HQ_HS1 HQB ⊢
  have HS04 := HQ_HS0
  have HS14 := HQ_HS1
  have HB4 := HQB
  clear HQ_HS0 HQ_HS1 HQB HS03 HS13 HB3
  clear fHS0
  clear c0 c1 c2 c3 c4
  obtain ⟨c0, c1, c2, c3, c4⟩ := five_rd HS04.out
  obtain ⟨p0, p1, p2, p3, p4⟩ := five_rd HS14.out
  have fHS0 : ∀ o, w4.frozen? ⟨N, o, none⟩ = false := fun o => by simp [World.frozen?, HS04.out]
  have fHS1 : ∀ o, w4.frozen? ⟨N + 1, o, none⟩ = false := fun o => by simp [World.frozen?, HS14.out]
  go_wp2_with fail
  refine bodyPost_ret (rd_res rfl _ _ (N + 1) (.int .i64 room) (.slice (some ⟨b, o, none⟩) ln c) (.bool true) (.int .i64 (-1)) (.int .u64 (st + 1)) rfl (by go_simp) (by go_simp) (by go_simp) (by go_simp) (by go_simp)) rfl ?_
  have hN := HN.out
  refine ⟨rfl, ?_⟩
  exact below_two (below_two (below_two (below_two (below_two (HB4.out) (by omega) _ _) (by omega) _ _) (by omega) _ _) (by omega) _ _) (by omega) _ _
set_option maxRecDepth 100000 in
set_option maxHeartbeats 8000000 in
theorem rsync_ok (room : Int) (a : Option Addr) (c : Nat) (ar st : Int) (L : Ft) (n : Nm) (f : Fl) (w : World) (h : FRow w a L) (hl : L.length ≤ 1000) (hs : SrtF L) (hf : getF L n = some f) (ha : ar ≠ 0 ∧ ar < 9223372036854775808) (hst : 0 ≤ st ∧ st < 1000000000) : Calls Try.prog 60 #[.agg #[.int .i64 room, .slice a L.length c, .bool false, .int .i64 ar, .int .u64 st], encStr n] w fun e w' => ∃ v, e = .returned (.tuple #[.agg #[.int .i64 room, v, .bool false, .int .i64 (arS ar), .int .u64 (st + 1)], .int .i64 0]) ∧ OF w' w.heap.size v (putF L n ⟨f.all, f.all.length⟩) ∧ Below w.heap.size w w' := by
  obtain ⟨ln, hln⟩ : ∃ ln, L.length = ln := ⟨_, rfl⟩
  have HLN := Lib.hid hln
  obtain ⟨B1, s0, s1, hz⟩ := box2 w #[.int .i64 room, .slice a ln c, .bool false, .int .i64 ar, .int .u64 st] #[.int .i64 0, .slice none 0 0, .bool false, .int .i64 0, .int .u64 0] 30 30
  have HB1 := Lib.hid B1
  have HS01 := Lib.hid s0
  have HS11 := Lib.hid s1
  have HZ := Lib.hid hz
  have HR := Lib.hid h
  have HL := Lib.hid hl
  have HSRT := Lib.hid hs
  have HFF := Lib.hid hf
  have HST := Lib.hid hst
  have HA := Lib.hid ha
  rw [hln]
  clear h B1 s0 s1 hz hl hs hf hst ha hln
  go_enter Try.func60, Try.ntmps60
  go_upto_region 1 with fail
  obtain ⟨N, hN⟩ : ∃ N, w.heap.size = N := ⟨_, rfl⟩
  have HN := Lib.hid hN
  rw [hN] at HS01 HS11 HZ
  try rw [hN]
  clear hN
  generalize (w.alloc (.cells #[.int .i64 room, .slice a ln c, .bool false, .int .i64 ar, .int .u64 st] 30)).alloc (.cells #[.int .i64 0, .slice none 0 0, .bool false, .int .i64 0, .int .u64 0] 30) = w1 at HS01 HS11 HB1 HZ ⊢
  obtain ⟨c0, c1, c2, c3, c4⟩ := five_rd HS01.out
  have HC := Lib.hid (rfind room a c false ar st L n w1 (HR.out.below HB1.out) (by have := HL.out; omega))
  have hln := HLN.out
  try rw [hln] at HC
  clear hln
  go_wp2_with fail
  refine HC.out.mono ?_
  rintro e w2 ⟨k, rfl, hk, hb⟩
  clear HC
  clear c0 c1 c2 c3 c4
  obtain ⟨i, b, o, rfl, hiL, rfl, -⟩ := HR.out.found HB1.out HSRT.out HFF.out hk
  have HK := Lib.hid hk
  rw [HLN.out] at hiL
  have HIL := Lib.hid hiL
  clear hk hiL
  have HS02 := Lib.hid (ex_below HS01.out hb)
  have HS12 := Lib.hid (ex_below HS11.out hb)
  have HB2 := Lib.hid (HB1.out.trans (hb.mono HB1.out.size))
  clear HS01 HS11 HB1 hb
  have hi0 : ¬ (i : Int) < 0 := by omega
  obtain ⟨c0, c1, c2, c3, c4⟩ := five_rd HS02.out
  have HC := Lib.hid (rstep_go room (some ⟨b, o, none⟩) ln c false ar HA.out st w2 HST.out)
  have hln := HLN.out
  try rw [hln] at HC
  clear hln
  go_wp2_with fail
  refine HC.out.mono ?_
  rintro e w3 ⟨rfl, hb⟩
  clear HC
  clear c0 c1 c2 c3 c4
  have HS03 := Lib.hid (ex_below HS02.out hb)
  have HS13 := Lib.hid (ex_below HS12.out hb)
  have HB3 := Lib.hid (HB2.out.trans (hb.mono HB2.out.size))
  clear HS02 HS12 HB2 hb
  obtain ⟨ar2, har⟩ : ∃ x, arS ar = x := ⟨_, rfl⟩
  rw [har]
  have HAR := Lib.hid har
  clear har
  obtain ⟨c0, c1, c2, c3, c4⟩ := five_rd HS03.out
  have fHS0 : ∀ o, w3.frozen? ⟨N, o, none⟩ = false := fun o => by simp [World.frozen?, HS03.out]
  have hNN := HN.out
  have hZZ := HZ.out
  have HQ_HS0 := Lib.hid (set5 HS03.out (.int .i64 room) (.slice (some ⟨b, o, none⟩) ln c) (.bool false) (.int .i64 ar2) (.int .u64 (st + 1)))
  have HQ_HS1 : Hid ((((((w3.setCell ⟨N, 0, none⟩ (.int .i64 room)).setCell ⟨N, 1, none⟩ (.slice (some ⟨b, o, none⟩) ln c)).setCell ⟨N, 2, none⟩ (.bool false)).setCell ⟨N, 3, none⟩ (.int .i64 ar2)).setCell ⟨N, 4, none⟩ (.int .u64 (st + 1))).heap[N + 1]? = some (.cells #[.int .i64 0, .slice none 0 0, .bool false, .int .i64 0, .int .u64 0] 30 (0, 0))) := Lib.hid ((Below.heap_setCell _ _ _ _ (show N + 1 ≠ N by omega)).trans ((Below.heap_setCell _ _ _ _ (show N + 1 ≠ N by omega)).trans ((Below.heap_setCell _ _ _ _ (show N + 1 ≠ N by omega)).trans ((Below.heap_setCell _ _ _ _ (show N + 1 ≠ N by omega)).trans ((Below.heap_setCell _ _ _ _ (show N + 1 ≠ N by omega)).trans (HS13.out))))))
  have HQB := Lib.hid (below_two (below_two (below_two (below_two (below_two (HB3.out) (show w.heap.size ≤ N by omega) 0 (.int .i64 room)) (show w.heap.size ≤ N by omega) 1 (.slice (some ⟨b, o, none⟩) ln c)) (show w.heap.size ≤ N by omega) 2 (.bool false)) (show w.heap.size ≤ N by omega) 3 (.int .i64 ar2)) (show w.heap.size ≤ N by omega) 4 (.int .u64 (st + 1)))
  clear hNN hZZ
  go_upto_region 7 with fail
  generalize (((((w3.setCell ⟨N, 0, none⟩ (.int .i64 room)).setCell ⟨N, 1, none⟩ (.slice (some ⟨b, o, none⟩) ln c)).setCell ⟨N, 2, none⟩ (.bool false)).setCell ⟨N, 3, none⟩ (.int .i64 ar2)).setCell ⟨N, 4, none⟩ (.int .u64 (st + 1))) = w4 at HQ_HS0 HQ_HS1 HQB ⊢
  have HS04 := HQ_HS0
  have HS14 := HQ_HS1
  have HB4 := HQB
  clear HQ_HS0 HQ_HS1 HQB HS03 HS13 HB3
  clear fHS0
  clear c0 c1 c2 c3 c4
  obtain ⟨j, b', o', e1, -, e2, k0, k1, k2⟩ := HR.out.found HB4.out HSRT.out HFF.out HK.out
  injection e2 with e2
  injection e2 with e2 e3
  subst e2 e3
  obtain rfl : j = i := by omega
  clear e1
  have hltz : (j : Int) < (ln : Int) := by have := HIL.out; omega
  have hge : (0 : Int) ≤ (j : Int) := by omega
  obtain ⟨c0, c1, c2, c3, c4⟩ := five_rd HS04.out
  obtain ⟨hbf, hsf, hzf⟩ := box1 w4 #[encStr n, .string (str f.all), .int .i64 (f.kept : Int)] 45
  obtain ⟨NF, hNF⟩ : ∃ NF, w4.heap.size = NF := ⟨_, rfl⟩
  have HNFe := Lib.hid hNF
  have HNF : Hid (N + 1 < NF ∧ w.heap.size ≤ NF) := Lib.hid ⟨by have := ex_lt HS14.out; omega, by have := HB4.out.size; omega⟩
  have HS05 := Lib.hid (ex_below HS04.out hbf)
  have HS15 := Lib.hid (ex_below HS14.out hbf)
  have HB5 := Lib.hid (HB4.out.trans (hbf.mono HB4.out.size))
  rw [hNF] at hsf
  have HF5 := Lib.hid hsf
  clear hbf hsf hzf HS04 HS14 HB4
  go_upto_region 10 with fail
  try rw [hNF]
  clear hNF
  generalize w4.alloc (.cells #[encStr n, .string (str f.all), .int .i64 (f.kept : Int)] 45) = w5 at HS05 HS15 HF5 HB5 ⊢
  clear k0 k1 k2
  clear c0 c1 c2 c3 c4
  obtain ⟨x0, x1, x2⟩ := three_rd HF5.out
  have fHF : ∀ o, w5.frozen? ⟨NF, o, none⟩ = false := fun o => by simp [World.frozen?, HF5.out]
  have hqs : (str f.all).size = f.all.length := str_size _
  have hNN := HN.out
  have hZZ := HZ.out
  have HQ_HF : Hid ((w5.setCell ⟨NF, 2, none⟩ (.int .i64 (f.all.length : Int))).heap[NF]? = some (.cells #[encStr n, .string (str f.all), .int .i64 (f.all.length : Int)] 45 (0, 0))) := Lib.hid (by rw [heap_setCell_same w5 _ 2 _ _ _ HF5.out]; simp)
  have HQ_HS0 : Hid ((w5.setCell ⟨NF, 2, none⟩ (.int .i64 (f.all.length : Int))).heap[N]? = some (.cells #[.int .i64 room, .slice (some ⟨b, o, none⟩) ln c, .bool false, .int .i64 ar2, .int .u64 (st + 1)] 30 (0, 0))) := Lib.hid ((Below.heap_setCell _ _ _ _ (show N ≠ NF by have := HNF.out; omega)).trans (HS05.out))
  have HQ_HS1 : Hid ((w5.setCell ⟨NF, 2, none⟩ (.int .i64 (f.all.length : Int))).heap[N + 1]? = some (.cells #[.int .i64 0, .slice none 0 0, .bool false, .int .i64 0, .int .u64 0] 30 (0, 0))) := Lib.hid ((Below.heap_setCell _ _ _ _ (show N + 1 ≠ NF by have := HNF.out; omega)).trans (HS15.out))
  have HQB := Lib.hid (below_two (HB5.out) (show w.heap.size ≤ NF by have := HNF.out; omega) 2 (.int .i64 (f.all.length : Int)))
  clear hNN hZZ
  go_upto_region 11 with fail
  generalize (w5.setCell ⟨NF, 2, none⟩ (.int .i64 (f.all.length : Int))) = w6 at HQ_HS0 HQ_HS1 HQ_HF HQB ⊢
  have HS06 := HQ_HS0
  have HS16 := HQ_HS1
  have HF6 := HQ_HF
  have HB6 := HQB
  clear HQ_HS0 HQ_HS1 HQ_HF HQB HS05 HS15 HF5 HB5
  clear fHF
  clear x0 x1 x2
  clear hqs
  obtain ⟨c0, c1, c2, c3, c4⟩ := five_rd HS06.out
  obtain ⟨x0, x1, x2⟩ := three_rd HF6.out
  have HC := Lib.hid (rwith room (some ⟨b, o, none⟩) c false ar2 (st + 1) L n ⟨f.all, f.all.length⟩ w6 (HR.out.below HB6.out) HL.out)
  have hln := HLN.out
  try rw [hln] at HC
  clear hln
  go_wp2_with fail
  refine HC.out.mono ?_
  rintro e w7 ⟨v, rfl, ho, hb⟩
  clear HC
  clear c0 c1 c2 c3 c4 x0 x1 x2
  obtain ⟨av, cv, hv, -⟩ := ho.row
  obtain ⟨lv, hlv⟩ : ∃ lv, (inF (n, ⟨f.all, f.all.length⟩) (woF L n)).length = lv := ⟨_, rfl⟩
  rw [hlv] at hv
  subst hv
  rw [woF_del, in_put n _ HSRT.out] at ho
  have HO := Lib.hid ho
  have HOb : Hid (N + 1 < w6.heap.size ∧ NF < w6.heap.size) := Lib.hid ⟨ex_lt HS16.out, ex_lt HF6.out⟩
  have HSZ : Hid (w.heap.size ≤ w6.heap.size) := Lib.hid HB6.out.size
  clear ho hlv
  have HS07 := Lib.hid (ex_below HS06.out hb)
  have HS17 := Lib.hid (ex_below HS16.out hb)
  have HF7 := Lib.hid (ex_below HF6.out hb)
  have HB7 := Lib.hid (HB6.out.trans (hb.mono HB6.out.size))
  clear HS06 HS16 HF6 HB6 hb
  obtain ⟨c0, c1, c2, c3, c4⟩ := five_rd HS07.out
  obtain ⟨p0, p1, p2, p3, p4⟩ := five_rd HS17.out
  have fHS0 : ∀ o, w7.frozen? ⟨N, o, none⟩ = false := fun o => by simp [World.frozen?, HS07.out]
  have fHS1 : ∀ o, w7.frozen? ⟨N + 1, o, none⟩ = false := fun o => by simp [World.frozen?, HS17.out]
  go_wp2_with fail
  refine bodyPost_ret (rd_res rfl _ _ (N + 1) (.int .i64 room) (.slice av lv cv) (.bool false) (.int .i64 ar2) (.int .u64 (st + 1)) rfl (by go_simp) (by go_simp) (by go_simp) (by go_simp) (by go_simp)) rfl ?_
  have hN := HN.out
  have hob := HOb.out
  refine ⟨_, by rw [HAR.out]; rfl, ?_, ?_⟩
  · exact OF.mono (OF.set (OF.set (OF.set (OF.set (OF.set (HO.out) (by show N + 1 < _; omega) _) (by show N + 1 < _; omega) _) (by show N + 1 < _; omega) _) (by show N + 1 < _; omega) _) (by show N + 1 < _; omega) _) HSZ.out
  · exact below_two (below_two (below_two (below_two (below_two (HB7.out) (by omega) _ _) (by omega) _ _) (by omega) _ _) (by omega) _ _) (by omega) _ _
end Go.Proofs.Ythkjjpkipeeimaa
