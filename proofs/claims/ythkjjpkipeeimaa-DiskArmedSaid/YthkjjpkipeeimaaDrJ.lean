/- The reference's disk: Remove, Move. -/
import Derived.Test.YthkjjpkipeeimaaDrI
namespace Go.Proofs.Ythkjjpkipeeimaa
open Go.RowKit Go.Maps
set_option maxRecDepth 100000 in
set_option maxHeartbeats 8000000 in
theorem rremove_down (room : Int) (a : Option Addr) (c : Nat) (ar st : Int) (L : Ft) (n : Nm) (w : World) (h : FRow w a L) (hl : L.length ≤ 1000) : Calls Try.prog 62 #[.agg #[.int .i64 room, .slice a L.length c, .bool true, .int .i64 ar, .int .u64 st], encStr n] w fun e w' => e = .returned (.tuple #[.agg #[.int .i64 room, .slice a L.length c, .bool true, .int .i64 ar, .int .u64 st], .int .i64 50]) ∧ Below w.heap.size w w' := by
  obtain ⟨ln, hln⟩ : ∃ ln, L.length = ln := ⟨_, rfl⟩
  have HLN := Lib.hid hln
  obtain ⟨B1, s0, s1, hz⟩ := box2 w #[.int .i64 room, .slice a ln c, .bool true, .int .i64 ar, .int .u64 st] #[.int .i64 0, .slice none 0 0, .bool false, .int .i64 0, .int .u64 0] 30 30
  have HB1 := Lib.hid B1
  have HS01 := Lib.hid s0
  have HS11 := Lib.hid s1
  have HZ := Lib.hid hz
  have HR := Lib.hid h
  have HL := Lib.hid hl
  rw [hln]
  clear h B1 s0 s1 hz hl hln
  go_enter Try.func62, Try.ntmps62
  go_upto_region 1 with fail
  obtain ⟨N, hN⟩ : ∃ N, w.heap.size = N := ⟨_, rfl⟩
  have HN := Lib.hid hN
  rw [hN] at HS01 HS11 HZ
  try rw [hN]
  clear hN
  generalize (w.alloc (.cells #[.int .i64 room, .slice a ln c, .bool true, .int .i64 ar, .int .u64 st] 30)).alloc (.cells #[.int .i64 0, .slice none 0 0, .bool false, .int .i64 0, .int .u64 0] 30) = w1 at HS01 HS11 HB1 HZ ⊢
  obtain ⟨c0, c1, c2, c3, c4⟩ := five_rd HS01.out
  obtain ⟨p0, p1, p2, p3, p4⟩ := five_rd HS11.out
  have fHS0 : ∀ o, w1.frozen? ⟨N, o, none⟩ = false := fun o => by simp [World.frozen?, HS01.out]
  have fHS1 : ∀ o, w1.frozen? ⟨N + 1, o, none⟩ = false := fun o => by simp [World.frozen?, HS11.out]
  go_wp2_with fail
  refine bodyPost_ret (rd_res rfl _ _ (N + 1) (.int .i64 room) (.slice a ln c) (.bool true) (.int .i64 ar) (.int .u64 st) rfl (by go_simp) (by go_simp) (by go_simp) (by go_simp) (by go_simp)) rfl ?_
  have hN := HN.out
  refine ⟨rfl, ?_⟩
  exact below_two (below_two (below_two (below_two (below_two (HB1.out) (by omega) _ _) (by omega) _ _) (by omega) _ _) (by omega) _ _) (by omega) _ _
set_option maxRecDepth 100000 in
set_option maxHeartbeats 8000000 in
theorem rremove_none (room : Int) (a : Option Addr) (c : Nat) (ar st : Int) (L : Ft) (n : Nm) (w : World) (h : FRow w a L) (hl : L.length ≤ 1000) (hs : SrtF L) (hn : getF L n = none) : Calls Try.prog 62 #[.agg #[.int .i64 room, .slice a L.length c, .bool false, .int .i64 ar, .int .u64 st], encStr n] w fun e w' => e = .returned (.tuple #[.agg #[.int .i64 room, .slice a L.length c, .bool false, .int .i64 ar, .int .u64 st], .int .i64 31]) ∧ Below w.heap.size w w' := by
  obtain ⟨ln, hln⟩ : ∃ ln, L.length = ln := ⟨_, rfl⟩
  have HLN := Lib.hid hln
  obtain ⟨B1, s0, s1, hz⟩ := box2 w #[.int .i64 room, .slice a ln c, .bool false, .int .i64 ar, .int .u64 st] #[.int .i64 0, .slice none 0 0, .bool false, .int .i64 0, .int .u64 0] 30 30
  have HB1 := Lib.hid B1
  have HS01 := Lib.hid s0
  have HS11 := Lib.hid s1
  have HZ := Lib.hid hz
  have HR := Lib.hid h
  have HL := Lib.hid hl
  have HSRT := Lib.hid hs
  have HNO := Lib.hid hn
  rw [hln]
  clear h B1 s0 s1 hz hl hs hn hln
  go_enter Try.func62, Try.ntmps62
  go_upto_region 1 with fail
  obtain ⟨N, hN⟩ : ∃ N, w.heap.size = N := ⟨_, rfl⟩
  have HN := Lib.hid hN
  rw [hN] at HS01 HS11 HZ
  try rw [hN]
  clear hN
  generalize (w.alloc (.cells #[.int .i64 room, .slice a ln c, .bool false, .int .i64 ar, .int .u64 st] 30)).alloc (.cells #[.int .i64 0, .slice none 0 0, .bool false, .int .i64 0, .int .u64 0] 30) = w1 at HS01 HS11 HB1 HZ ⊢
  obtain ⟨c0, c1, c2, c3, c4⟩ := five_rd HS01.out
  go_upto_region 3 with fail
  clear c0 c1 c2 c3 c4
  obtain ⟨c0, c1, c2, c3, c4⟩ := five_rd HS01.out
  have HC := Lib.hid (rfind room a c false ar st L n w1 (HR.out.below HB1.out) (by have := HL.out; omega))
  have hln := HLN.out
  try rw [hln] at HC
  clear hln
  go_wp2_with fail
  refine HC.out.mono ?_
  rintro e w2 ⟨k, rfl, hk, hb⟩
  clear HC
  clear c0 c1 c2 c3 c4
  obtain rfl := hk.no HNO.out HSRT.out
  clear hk
  have HS02 := Lib.hid (ex_below HS01.out hb)
  have HS12 := Lib.hid (ex_below HS11.out hb)
  have HB2 := Lib.hid (HB1.out.trans (hb.mono HB1.out.size))
  clear HS01 HS11 HB1 hb
  obtain ⟨c0, c1, c2, c3, c4⟩ := five_rd HS02.out
  obtain ⟨p0, p1, p2, p3, p4⟩ := five_rd HS12.out
  have fHS0 : ∀ o, w2.frozen? ⟨N, o, none⟩ = false := fun o => by simp [World.frozen?, HS02.out]
  have fHS1 : ∀ o, w2.frozen? ⟨N + 1, o, none⟩ = false := fun o => by simp [World.frozen?, HS12.out]
  go_wp2_with fail
  refine bodyPost_ret (rd_res rfl _ _ (N + 1) (.int .i64 room) (.slice a ln c) (.bool false) (.int .i64 ar) (.int .u64 st) rfl (by go_simp) (by go_simp) (by go_simp) (by go_simp) (by go_simp)) rfl ?_
  have hN := HN.out
  refine ⟨rfl, ?_⟩
  exact below_two (below_two (below_two (below_two (below_two (HB2.out) (by omega) _ _) (by omega) _ _) (by omega) _ _) (by omega) _ _) (by omega) _ _
set_option maxRecDepth 100000 in
set_option maxHeartbeats 8000000 in
theorem rremove_sd (room : Int) (a : Option Addr) (c : Nat) (ar st : Int) (L : Ft) (n : Nm) (f : Fl) (w : World) (h : FRow w a L) (hl : L.length ≤ 1000) (hs : SrtF L) (hf : getF L n = some f) (hst : 0 ≤ st ∧ st < 1000000000) : Calls Try.prog 62 #[.agg #[.int .i64 room, .slice a L.length c, .bool false, .int .i64 0, .int .u64 st], encStr n] w fun e w' => e = .returned (.tuple #[.agg #[.int .i64 room, .slice a L.length c, .bool true, .int .i64 (-1), .int .u64 (st + 1)], .int .i64 50]) ∧ Below w.heap.size w w' := by
  obtain ⟨ln, hln⟩ : ∃ ln, L.length = ln := ⟨_, rfl⟩
  have HLN := Lib.hid hln
  obtain ⟨B1, s0, s1, hz⟩ := box2 w #[.int .i64 room, .slice a ln c, .bool false, .int .i64 0, .int .u64 st] #[.int .i64 0, .slice none 0 0, .bool false, .int .i64 0, .int .u64 0] 30 30
  have HB1 := Lib.hid B1
  have HS01 := Lib.hid s0
  have HS11 := Lib.hid s1
  have HZ := Lib.hid hz
  have HR := Lib.hid h
  have HL := Lib.hid hl
  have HSRT := Lib.hid hs
  have HFF := Lib.hid hf
  have HST := Lib.hid hst
  rw [hln]
  clear h B1 s0 s1 hz hl hs hf hst hln
  go_enter Try.func62, Try.ntmps62
  go_upto_region 1 with fail
  obtain ⟨N, hN⟩ : ∃ N, w.heap.size = N := ⟨_, rfl⟩
  have HN := Lib.hid hN
  rw [hN] at HS01 HS11 HZ
  try rw [hN]
  clear hN
  generalize (w.alloc (.cells #[.int .i64 room, .slice a ln c, .bool false, .int .i64 0, .int .u64 st] 30)).alloc (.cells #[.int .i64 0, .slice none 0 0, .bool false, .int .i64 0, .int .u64 0] 30) = w1 at HS01 HS11 HB1 HZ ⊢
  obtain ⟨c0, c1, c2, c3, c4⟩ := five_rd HS01.out
  go_upto_region 3 with fail
  clear c0 c1 c2 c3 c4
  obtain ⟨c0, c1, c2, c3, c4⟩ := five_rd HS01.out
  have HC := Lib.hid (rfind room a c false 0 st L n w1 (HR.out.below HB1.out) (by have := HL.out; omega))
  have hln := HLN.out
  try rw [hln] at HC
  clear hln
  go_wp2_with fail
  refine HC.out.mono ?_
  rintro e w2 ⟨k, rfl, hk, hb⟩
  clear HC
  clear c0 c1 c2 c3 c4
  obtain ⟨i, b, o, rfl, hiL, rfl, -⟩ := HR.out.found HB1.out HSRT.out HFF.out hk
  have HK := Lib.hid hk
  rw [HLN.out] at hiL
  have HIL := Lib.hid hiL
  clear hk hiL
  have HS02 := Lib.hid (ex_below HS01.out hb)
  have HS12 := Lib.hid (ex_below HS11.out hb)
  have HB2 := Lib.hid (HB1.out.trans (hb.mono HB1.out.size))
  clear HS01 HS11 HB1 hb
  have hi0 : ¬ (i : Int) < 0 := by omega
  have hltz : (i : Int) < (ln : Int) := by have := HIL.out; omega
  have hge : (0 : Int) ≤ (i : Int) := by omega
  obtain ⟨c0, c1, c2, c3, c4⟩ := five_rd HS02.out
  have HC := Lib.hid (rstep_zero room (some ⟨b, o, none⟩) ln c false st w2 HST.out)
  have hln := HLN.out
  try rw [hln] at HC
  clear hln
  go_wp2_with fail
  refine HC.out.mono ?_
  rintro e w3 ⟨rfl, hb⟩
  clear HC
  clear c0 c1 c2 c3 c4
  have HS03 := Lib.hid (ex_below HS02.out hb)
  have HS13 := Lib.hid (ex_below HS12.out hb)
  have HB3 := Lib.hid (HB2.out.trans (hb.mono HB2.out.size))
  clear HS02 HS12 HB2 hb
  obtain ⟨c0, c1, c2, c3, c4⟩ := five_rd HS03.out
  have fHS0 : ∀ o, w3.frozen? ⟨N, o, none⟩ = false := fun o => by simp [World.frozen?, HS03.out]
  have hNN := HN.out
  have hZZ := HZ.out
  have HQ_HS0 := Lib.hid (set5 HS03.out (.int .i64 room) (.slice (some ⟨b, o, none⟩) ln c) (.bool true) (.int .i64 (-1)) (.int .u64 (st + 1)))
  have HQ_HS1 : Hid ((((((w3.setCell ⟨N, 0, none⟩ (.int .i64 room)).setCell ⟨N, 1, none⟩ (.slice (some ⟨b, o, none⟩) ln c)).setCell ⟨N, 2, none⟩ (.bool true)).setCell ⟨N, 3, none⟩ (.int .i64 (-1))).setCell ⟨N, 4, none⟩ (.int .u64 (st + 1))).heap[N + 1]? = some (.cells #[.int .i64 0, .slice none 0 0, .bool false, .int .i64 0, .int .u64 0] 30 (0, 0))) := Lib.hid ((Below.heap_setCell _ _ _ _ (show N + 1 ≠ N by omega)).trans ((Below.heap_setCell _ _ _ _ (show N + 1 ≠ N by omega)).trans ((Below.heap_setCell _ _ _ _ (show N + 1 ≠ N by omega)).trans ((Below.heap_setCell _ _ _ _ (show N + 1 ≠ N by omega)).trans ((Below.heap_setCell _ _ _ _ (show N + 1 ≠ N by omega)).trans (HS13.out))))))
  have HQB := Lib.hid (below_two (below_two (below_two (below_two (below_two (HB3.out) (show w.heap.size ≤ N by omega) 0 (.int .i64 room)) (show w.heap.size ≤ N by omega) 1 (.slice (some ⟨b, o, none⟩) ln c)) (show w.heap.size ≤ N by omega) 2 (.bool true)) (show w.heap.size ≤ N by omega) 3 (.int .i64 (-1))) (show w.heap.size ≤ N by omega) 4 (.int .u64 (st + 1)))
  clear hNN hZZ
  go_upto_region 6 with fail
  generalize (((((w3.setCell ⟨N, 0, none⟩ (.int .i64 room)).setCell ⟨N, 1, none⟩ (.slice (some ⟨b, o, none⟩) ln c)).setCell ⟨N, 2, none⟩ (.bool true)).setCell ⟨N, 3, none⟩ (.int .i64 (-1))).setCell ⟨N, 4, none⟩ (.int .u64 (st + 1))) = w4 at HQ_HS0 HQ_HS1 HQB ⊢
  have HS04 := HQ_HS0
  have HS14 := HQ_HS1
  have HB4 := HQB
  clear HQ_HS0 HQ_HS1 HQB HS03 HS13 HB3
  clear fHS0
  clear c0 c1 c2 c3 c4
  obtain ⟨c0, c1, c2, c3, c4⟩ := five_rd HS04.out
  obtain ⟨p0, p1, p2, p3, p4⟩ := five_rd HS14.out
  have fHS0 : ∀ o, w4.frozen? ⟨N, o, none⟩ = false := fun o => by simp [World.frozen?, HS04.out]
  have fHS1 : ∀ o, w4.frozen? ⟨N + 1, o, none⟩ = false := fun o => by simp [World.frozen?, HS14.out]
  go_wp2_with fail
  refine bodyPost_ret (rd_res rfl _ _ (N + 1) (.int .i64 room) (.slice (some ⟨b, o, none⟩) ln c) (.bool true) (.int .i64 (-1)) (.int .u64 (st + 1)) rfl (by go_simp) (by go_simp) (by go_simp) (by go_simp) (by go_simp)) rfl ?_
  have hN := HN.out
  refine ⟨rfl, ?_⟩
  exact below_two (below_two (below_two (below_two (below_two (HB4.out) (by omega) _ _) (by omega) _ _) (by omega) _ _) (by omega) _ _) (by omega) _ _
set_option maxRecDepth 100000 in
set_option maxHeartbeats 8000000 in
theorem rremove_ok (room : Int) (a : Option Addr) (c : Nat) (ar st : Int) (L : Ft) (n : Nm) (f : Fl) (w : World) (h : FRow w a L) (hl : L.length ≤ 1000) (hs : SrtF L) (hf : getF L n = some f) (ha : ar ≠ 0 ∧ ar < 9223372036854775808) (hst : 0 ≤ st ∧ st < 1000000000) : Calls Try.prog 62 #[.agg #[.int .i64 room, .slice a L.length c, .bool false, .int .i64 ar, .int .u64 st], encStr n] w fun e w' => ∃ v, e = .returned (.tuple #[.agg #[.int .i64 room, v, .bool false, .int .i64 (arS ar), .int .u64 (st + 1)], .int .i64 0]) ∧ OF w' w.heap.size v (delF L n) ∧ Below w.heap.size w w' := by
  obtain ⟨ln, hln⟩ : ∃ ln, L.length = ln := ⟨_, rfl⟩
  have HLN := Lib.hid hln
  obtain ⟨B1, s0, s1, hz⟩ := box2 w #[.int .i64 room, .slice a ln c, .bool false, .int .i64 ar, .int .u64 st] #[.int .i64 0, .slice none 0 0, .bool false, .int .i64 0, .int .u64 0] 30 30
  have HB1 := Lib.hid B1
  have HS01 := Lib.hid s0
  have HS11 := Lib.hid s1
  have HZ := Lib.hid hz
  have HR := Lib.hid h
  have HL := Lib.hid hl
  have HSRT := Lib.hid hs
  have HFF := Lib.hid hf
  have HST := Lib.hid hst
  have HA := Lib.hid ha
  rw [hln]
  clear h B1 s0 s1 hz hl hs hf hst ha hln
  go_enter Try.func62, Try.ntmps62
  go_upto_region 1 with fail
  obtain ⟨N, hN⟩ : ∃ N, w.heap.size = N := ⟨_, rfl⟩
  have HN := Lib.hid hN
  rw [hN] at HS01 HS11 HZ
  try rw [hN]
  clear hN
  generalize (w.alloc (.cells #[.int .i64 room, .slice a ln c, .bool false, .int .i64 ar, .int .u64 st] 30)).alloc (.cells #[.int .i64 0, .slice none 0 0, .bool false, .int .i64 0, .int .u64 0] 30) = w1 at HS01 HS11 HB1 HZ ⊢
  obtain ⟨c0, c1, c2, c3, c4⟩ := five_rd HS01.out
  go_upto_region 3 with fail
  clear c0 c1 c2 c3 c4
  obtain ⟨c0, c1, c2, c3, c4⟩ := five_rd HS01.out
  have HC := Lib.hid (rfind room a c false ar st L n w1 (HR.out.below HB1.out) (by have := HL.out; omega))
  have hln := HLN.out
  try rw [hln] at HC
  clear hln
  go_wp2_with fail
  refine HC.out.mono ?_
  rintro e w2 ⟨k, rfl, hk, hb⟩
  clear HC
  clear c0 c1 c2 c3 c4
  obtain ⟨i, b, o, rfl, hiL, rfl, -⟩ := HR.out.found HB1.out HSRT.out HFF.out hk
  have HK := Lib.hid hk
  rw [HLN.out] at hiL
  have HIL := Lib.hid hiL
  clear hk hiL
  have HS02 := Lib.hid (ex_below HS01.out hb)
  have HS12 := Lib.hid (ex_below HS11.out hb)
  have HB2 := Lib.hid (HB1.out.trans (hb.mono HB1.out.size))
  clear HS01 HS11 HB1 hb
  have hi0 : ¬ (i : Int) < 0 := by omega
  have hltz : (i : Int) < (ln : Int) := by have := HIL.out; omega
  have hge : (0 : Int) ≤ (i : Int) := by omega
  obtain ⟨c0, c1, c2, c3, c4⟩ := five_rd HS02.out
  have HC := Lib.hid (rstep_go room (some ⟨b, o, none⟩) ln c false ar HA.out st w2 HST.out)
  have hln := HLN.out
  try rw [hln] at HC
  clear hln
  go_wp2_with fail
  refine HC.out.mono ?_
  rintro e w3 ⟨rfl, hb⟩
  clear HC
  clear c0 c1 c2 c3 c4
  have HS03 := Lib.hid (ex_below HS02.out hb)
  have HS13 := Lib.hid (ex_below HS12.out hb)
  have HB3 := Lib.hid (HB2.out.trans (hb.mono HB2.out.size))
  clear HS02 HS12 HB2 hb
  obtain ⟨ar2, har⟩ : ∃ x, arS ar = x := ⟨_, rfl⟩
  try rw [har]
  have HAR := Lib.hid har
  clear har
  obtain ⟨c0, c1, c2, c3, c4⟩ := five_rd HS03.out
  have fHS0 : ∀ o, w3.frozen? ⟨N, o, none⟩ = false := fun o => by simp [World.frozen?, HS03.out]
  have hNN := HN.out
  have hZZ := HZ.out
  have HQ_HS0 := Lib.hid (set5 HS03.out (.int .i64 room) (.slice (some ⟨b, o, none⟩) ln c) (.bool false) (.int .i64 ar2) (.int .u64 (st + 1)))
  have HQ_HS1 : Hid ((((((w3.setCell ⟨N, 0, none⟩ (.int .i64 room)).setCell ⟨N, 1, none⟩ (.slice (some ⟨b, o, none⟩) ln c)).setCell ⟨N, 2, none⟩ (.bool false)).setCell ⟨N, 3, none⟩ (.int .i64 ar2)).setCell ⟨N, 4, none⟩ (.int .u64 (st + 1))).heap[N + 1]? = some (.cells #[.int .i64 0, .slice none 0 0, .bool false, .int .i64 0, .int .u64 0] 30 (0, 0))) := Lib.hid ((Below.heap_setCell _ _ _ _ (show N + 1 ≠ N by omega)).trans ((Below.heap_setCell _ _ _ _ (show N + 1 ≠ N by omega)).trans ((Below.heap_setCell _ _ _ _ (show N + 1 ≠ N by omega)).trans ((Below.heap_setCell _ _ _ _ (show N + 1 ≠ N by omega)).trans ((Below.heap_setCell _ _ _ _ (show N + 1 ≠ N by omega)).trans (HS13.out))))))
  have HQB := Lib.hid (below_two (below_two (below_two (below_two (below_two (HB3.out) (show w.heap.size ≤ N by omega) 0 (.int .i64 room)) (show w.heap.size ≤ N by omega) 1 (.slice (some ⟨b, o, none⟩) ln c)) (show w.heap.size ≤ N by omega) 2 (.bool false)) (show w.heap.size ≤ N by omega) 3 (.int .i64 ar2)) (show w.heap.size ≤ N by omega) 4 (.int .u64 (st + 1)))
  clear hNN hZZ
  go_upto_region 6 with fail
  generalize (((((w3.setCell ⟨N, 0, none⟩ (.int .i64 room)).setCell ⟨N, 1, none⟩ (.slice (some ⟨b, o, none⟩) ln c)).setCell ⟨N, 2, none⟩ (.bool false)).setCell ⟨N, 3, none⟩ (.int .i64 ar2)).setCell ⟨N, 4, none⟩ (.int .u64 (st + 1))) = w4 at HQ_HS0 HQ_HS1 HQB ⊢
  have HS04 := HQ_HS0
  have HS14 := HQ_HS1
  have HB4 := HQB
  clear HQ_HS0 HQ_HS1 HQB HS03 HS13 HB3
  clear fHS0
  clear c0 c1 c2 c3 c4
  obtain ⟨c0, c1, c2, c3, c4⟩ := five_rd HS04.out
  have HC := Lib.hid (rwithout room (some ⟨b, o, none⟩) c false ar2 (st + 1) L n w4 (HR.out.below HB4.out) (by have := HL.out; omega))
  have hln := HLN.out
  try rw [hln] at HC
  clear hln
  go_wp2_with fail
  refine HC.out.mono ?_
  rintro e w5 ⟨v, rfl, ho, hb⟩
  clear HC
  clear c0 c1 c2 c3 c4
  obtain ⟨av, cv, hv, -⟩ := ho.row
  obtain ⟨lv, hlv⟩ : ∃ lv, (woF L n).length = lv := ⟨_, rfl⟩
  rw [hlv] at hv
  subst hv
  rw [woF_del] at ho
  have HO := Lib.hid ho
  have HOb : Hid (N + 1 < w4.heap.size) := Lib.hid (ex_lt HS14.out)
  have HLV := Lib.hid hlv
  have HSZ : Hid (w.heap.size ≤ w4.heap.size) := Lib.hid HB4.out.size
  clear ho hlv
  have HS05 := Lib.hid (ex_below HS04.out hb)
  have HS15 := Lib.hid (ex_below HS14.out hb)
  have HB5 := Lib.hid (HB4.out.trans (hb.mono HB4.out.size))
  clear HS04 HS14 HB4 hb
  obtain ⟨c0, c1, c2, c3, c4⟩ := five_rd HS05.out
  obtain ⟨p0, p1, p2, p3, p4⟩ := five_rd HS15.out
  have fHS0 : ∀ o, w5.frozen? ⟨N, o, none⟩ = false := fun o => by simp [World.frozen?, HS05.out]
  have fHS1 : ∀ o, w5.frozen? ⟨N + 1, o, none⟩ = false := fun o => by simp [World.frozen?, HS15.out]
  go_wp2_with fail
  refine bodyPost_ret (rd_res rfl _ _ (N + 1) (.int .i64 room) (.slice av lv cv) (.bool false) (.int .i64 ar2) (.int .u64 (st + 1)) rfl (by go_simp) (by go_simp) (by go_simp) (by go_simp) (by go_simp)) rfl ?_
  have hN := HN.out
  have hob := HOb.out
  refine ⟨_, by rw [HAR.out]; rfl, ?_, ?_⟩
  · exact OF.mono (OF.set (OF.set (OF.set (OF.set (OF.set (HO.out) (by show N + 1 < _; omega) _) (by show N + 1 < _; omega) _) (by show N + 1 < _; omega) _) (by show N + 1 < _; omega) _) (by show N + 1 < _; omega) _) HSZ.out
  · exact below_two (below_two (below_two (below_two (below_two (HB5.out) (by omega) _ _) (by omega) _ _) (by omega) _ _) (by omega) _ _) (by omega) _ _
set_option maxRecDepth 100000 in
set_option maxHeartbeats 8000000 in
theorem rmove_down (room : Int) (a : Option Addr) (c : Nat) (ar st : Int) (L : Ft) (n : Nm) (n2 : Nm) (w : World) (h : FRow w a L) (hl : L.length ≤ 1000) : Calls Try.prog 63 #[.agg #[.int .i64 room, .slice a L.length c, .bool true, .int .i64 ar, .int .u64 st], encStr n, encStr n2] w fun e w' => e = .returned (.tuple #[.agg #[.int .i64 room, .slice a L.length c, .bool true, .int .i64 ar, .int .u64 st], .int .i64 50]) ∧ Below w.heap.size w w' := by
  obtain ⟨ln, hln⟩ : ∃ ln, L.length = ln := ⟨_, rfl⟩
  have HLN := Lib.hid hln
  obtain ⟨B1, s0, s1, hz⟩ := box2 w #[.int .i64 room, .slice a ln c, .bool true, .int .i64 ar, .int .u64 st] #[.int .i64 0, .slice none 0 0, .bool false, .int .i64 0, .int .u64 0] 30 30
  have HB1 := Lib.hid B1
  have HS01 := Lib.hid s0
  have HS11 := Lib.hid s1
  have HZ := Lib.hid hz
  have HR := Lib.hid h
  have HL := Lib.hid hl
  rw [hln]
  clear h B1 s0 s1 hz hl hln
  go_enter Try.func63, Try.ntmps63
  go_upto_region 1 with fail
  obtain ⟨N, hN⟩ : ∃ N, w.heap.size = N := ⟨_, rfl⟩
  have HN := Lib.hid hN
  rw [hN] at HS01 HS11 HZ
  try rw [hN]
  clear hN
  generalize (w.alloc (.cells #[.int .i64 room, .slice a ln c, .bool true, .int .i64 ar, .int .u64 st] 30)).alloc (.cells #[.int .i64 0, .slice none 0 0, .bool false, .int .i64 0, .int .u64 0] 30) = w1 at HS01 HS11 HB1 HZ ⊢
  obtain ⟨c0, c1, c2, c3, c4⟩ := five_rd HS01.out
  have HC := Lib.hid (rfind room a c true ar st L n w1 (HR.out.below HB1.out) (by have := HL.out; omega))
  have hln := HLN.out
  try rw [hln] at HC
  clear hln
  go_wp2_with fail
  refine HC.out.mono ?_
  rintro e w2 ⟨k, rfl, -, hb⟩
  clear HC
  clear c0 c1 c2 c3 c4
  have HS02 := Lib.hid (ex_below HS01.out hb)
  have HS12 := Lib.hid (ex_below HS11.out hb)
  have HB2 := Lib.hid (HB1.out.trans (hb.mono HB1.out.size))
  clear HS01 HS11 HB1 hb
  obtain ⟨c0, c1, c2, c3, c4⟩ := five_rd HS02.out
  obtain ⟨p0, p1, p2, p3, p4⟩ := five_rd HS12.out
  have fHS0 : ∀ o, w2.frozen? ⟨N, o, none⟩ = false := fun o => by simp [World.frozen?, HS02.out]
  have fHS1 : ∀ o, w2.frozen? ⟨N + 1, o, none⟩ = false := fun o => by simp [World.frozen?, HS12.out]
  go_wp2_with fail
  refine bodyPost_ret (rd_res rfl _ _ (N + 1) (.int .i64 room) (.slice a ln c) (.bool true) (.int .i64 ar) (.int .u64 st) rfl (by go_simp) (by go_simp) (by go_simp) (by go_simp) (by go_simp)) rfl ?_
  have hN := HN.out
  refine ⟨rfl, ?_⟩
  exact below_two (below_two (below_two (below_two (below_two (HB2.out) (by omega) _ _) (by omega) _ _) (by omega) _ _) (by omega) _ _) (by omega) _ _
set_option maxRecDepth 100000 in
set_option maxHeartbeats 8000000 in
theorem rmove_none (room : Int) (a : Option Addr) (c : Nat) (ar st : Int) (L : Ft) (n : Nm) (n2 : Nm) (w : World) (h : FRow w a L) (hl : L.length ≤ 1000) (hs : SrtF L) (hn : getF L n = none) : Calls Try.prog 63 #[.agg #[.int .i64 room, .slice a L.length c, .bool false, .int .i64 ar, .int .u64 st], encStr n, encStr n2] w fun e w' => e = .returned (.tuple #[.agg #[.int .i64 room, .slice a L.length c, .bool false, .int .i64 ar, .int .u64 st], .int .i64 31]) ∧ Below w.heap.size w w' := by
  obtain ⟨ln, hln⟩ : ∃ ln, L.length = ln := ⟨_, rfl⟩
  have HLN := Lib.hid hln
  obtain ⟨B1, s0, s1, hz⟩ := box2 w #[.int .i64 room, .slice a ln c, .bool false, .int .i64 ar, .int .u64 st] #[.int .i64 0, .slice none 0 0, .bool false, .int .i64 0, .int .u64 0] 30 30
  have HB1 := Lib.hid B1
  have HS01 := Lib.hid s0
  have HS11 := Lib.hid s1
  have HZ := Lib.hid hz
  have HR := Lib.hid h
  have HL := Lib.hid hl
  have HSRT := Lib.hid hs
  have HNO := Lib.hid hn
  rw [hln]
  clear h B1 s0 s1 hz hl hs hn hln
  go_enter Try.func63, Try.ntmps63
  go_upto_region 1 with fail
  obtain ⟨N, hN⟩ : ∃ N, w.heap.size = N := ⟨_, rfl⟩
  have HN := Lib.hid hN
  rw [hN] at HS01 HS11 HZ
  try rw [hN]
  clear hN
  generalize (w.alloc (.cells #[.int .i64 room, .slice a ln c, .bool false, .int .i64 ar, .int .u64 st] 30)).alloc (.cells #[.int .i64 0, .slice none 0 0, .bool false, .int .i64 0, .int .u64 0] 30) = w1 at HS01 HS11 HB1 HZ ⊢
  obtain ⟨c0, c1, c2, c3, c4⟩ := five_rd HS01.out
  have HC := Lib.hid (rfind room a c false ar st L n w1 (HR.out.below HB1.out) (by have := HL.out; omega))
  have hln := HLN.out
  try rw [hln] at HC
  clear hln
  go_wp2_with fail
  refine HC.out.mono ?_
  rintro e w2 ⟨k, rfl, hk, hb⟩
  clear HC
  clear c0 c1 c2 c3 c4
  obtain rfl := hk.no HNO.out HSRT.out
  clear hk
  have HS02 := Lib.hid (ex_below HS01.out hb)
  have HS12 := Lib.hid (ex_below HS11.out hb)
  have HB2 := Lib.hid (HB1.out.trans (hb.mono HB1.out.size))
  clear HS01 HS11 HB1 hb
  obtain ⟨c0, c1, c2, c3, c4⟩ := five_rd HS02.out
  obtain ⟨p0, p1, p2, p3, p4⟩ := five_rd HS12.out
  have fHS0 : ∀ o, w2.frozen? ⟨N, o, none⟩ = false := fun o => by simp [World.frozen?, HS02.out]
  have fHS1 : ∀ o, w2.frozen? ⟨N + 1, o, none⟩ = false := fun o => by simp [World.frozen?, HS12.out]
  go_wp2_with fail
  refine bodyPost_ret (rd_res rfl _ _ (N + 1) (.int .i64 room) (.slice a ln c) (.bool false) (.int .i64 ar) (.int .u64 st) rfl (by go_simp) (by go_simp) (by go_simp) (by go_simp) (by go_simp)) rfl ?_
  have hN := HN.out
  refine ⟨rfl, ?_⟩
  exact below_two (below_two (below_two (below_two (below_two (HB2.out) (by omega) _ _) (by omega) _ _) (by omega) _ _) (by omega) _ _) (by omega) _ _
set_option maxRecDepth 100000 in
set_option maxHeartbeats 8000000 in
theorem rmove_arg (room : Int) (a : Option Addr) (c : Nat) (ar st : Int) (L : Ft) (n : Nm) (n2 : Nm) (f : Fl) (w : World) (h : FRow w a L) (hl : L.length ≤ 1000) (hs : SrtF L) (hf : getF L n = some f) (hv : validN n2 = false) : Calls Try.prog 63 #[.agg #[.int .i64 room, .slice a L.length c, .bool false, .int .i64 ar, .int .u64 st], encStr n, encStr n2] w fun e w' => e = .returned (.tuple #[.agg #[.int .i64 room, .slice a L.length c, .bool false, .int .i64 ar, .int .u64 st], .int .i64 2]) ∧ Below w.heap.size w w' := by
  obtain ⟨ln, hln⟩ : ∃ ln, L.length = ln := ⟨_, rfl⟩
  have HLN := Lib.hid hln
  obtain ⟨B1, s0, s1, hz⟩ := box2 w #[.int .i64 room, .slice a ln c, .bool false, .int .i64 ar, .int .u64 st] #[.int .i64 0, .slice none 0 0, .bool false, .int .i64 0, .int .u64 0] 30 30
  have HB1 := Lib.hid B1
  have HS01 := Lib.hid s0
  have HS11 := Lib.hid s1
  have HZ := Lib.hid hz
  have HR := Lib.hid h
  have HL := Lib.hid hl
  have HSRT := Lib.hid hs
  have HFF := Lib.hid hf
  have HV := Lib.hid hv
  rw [hln]
  clear h B1 s0 s1 hz hl hs hf hv hln
  go_enter Try.func63, Try.ntmps63
  go_upto_region 1 with fail
  obtain ⟨N, hN⟩ : ∃ N, w.heap.size = N := ⟨_, rfl⟩
  have HN := Lib.hid hN
  rw [hN] at HS01 HS11 HZ
  try rw [hN]
  clear hN
  generalize (w.alloc (.cells #[.int .i64 room, .slice a ln c, .bool false, .int .i64 ar, .int .u64 st] 30)).alloc (.cells #[.int .i64 0, .slice none 0 0, .bool false, .int .i64 0, .int .u64 0] 30) = w1 at HS01 HS11 HB1 HZ ⊢
  obtain ⟨c0, c1, c2, c3, c4⟩ := five_rd HS01.out
  have HC := Lib.hid (rfind room a c false ar st L n w1 (HR.out.below HB1.out) (by have := HL.out; omega))
  have hln := HLN.out
  try rw [hln] at HC
  clear hln
  go_wp2_with fail
  refine HC.out.mono ?_
  rintro e w2 ⟨k, rfl, hk, hb⟩
  clear HC
  clear c0 c1 c2 c3 c4
  obtain ⟨i, b, o, rfl, hiL, rfl, -⟩ := HR.out.found HB1.out HSRT.out HFF.out hk
  have HK := Lib.hid hk
  rw [HLN.out] at hiL
  have HIL := Lib.hid hiL
  clear hk hiL
  have HS02 := Lib.hid (ex_below HS01.out hb)
  have HS12 := Lib.hid (ex_below HS11.out hb)
  have HB2 := Lib.hid (HB1.out.trans (hb.mono HB1.out.size))
  clear HS01 HS11 HB1 hb
  have hi0 : ¬ (i : Int) < 0 := by omega
  have hltz : (i : Int) < (ln : Int) := by have := HIL.out; omega
  have hge : (0 : Int) ≤ (i : Int) := by omega
  obtain ⟨c0, c1, c2, c3, c4⟩ := five_rd HS02.out
  have hnm := rnamed n2 w2
  rw [HV.out] at hnm
  have HNM := Lib.hid hnm
  clear hnm
  go_wp2_with fail
  refine HNM.out.mono ?_
  rintro e wq ⟨rfl, rfl⟩
  clear c0 c1 c2 c3 c4
  obtain ⟨c0, c1, c2, c3, c4⟩ := five_rd HS02.out
  obtain ⟨p0, p1, p2, p3, p4⟩ := five_rd HS12.out
  have fHS0 : ∀ o, w2.frozen? ⟨N, o, none⟩ = false := fun o => by simp [World.frozen?, HS02.out]
  have fHS1 : ∀ o, w2.frozen? ⟨N + 1, o, none⟩ = false := fun o => by simp [World.frozen?, HS12.out]
  go_wp2_with fail
  refine bodyPost_ret (rd_res rfl _ _ (N + 1) (.int .i64 room) (.slice (some ⟨b, o, none⟩) ln c) (.bool false) (.int .i64 ar) (.int .u64 st) rfl (by go_simp) (by go_simp) (by go_simp) (by go_simp) (by go_simp)) rfl ?_
  have hN := HN.out
  refine ⟨rfl, ?_⟩
  exact below_two (below_two (below_two (below_two (below_two (HB2.out) (by omega) _ _) (by omega) _ _) (by omega) _ _) (by omega) _ _) (by omega) _ _
set_option maxRecDepth 100000 in
set_option maxHeartbeats 8000000 in
theorem rmove_sd (room : Int) (a : Option Addr) (c : Nat) (ar st : Int) (L : Ft) (n : Nm) (n2 : Nm) (f : Fl) (w : World) (h : FRow w a L) (hl : L.length ≤ 1000) (hs : SrtF L) (hf : getF L n = some f) (hv : validN n2 = true) (hst : 0 ≤ st ∧ st < 1000000000) : Calls Try.prog 63 #[.agg #[.int .i64 room, .slice a L.length c, .bool false, .int .i64 0, .int .u64 st], encStr n, encStr n2] w fun e w' => e = .returned (.tuple #[.agg #[.int .i64 room, .slice a L.length c, .bool true, .int .i64 (-1), .int .u64 (st + 1)], .int .i64 50]) ∧ Below w.heap.size w w' := by
  obtain ⟨ln, hln⟩ : ∃ ln, L.length = ln := ⟨_, rfl⟩
  have HLN := Lib.hid hln
  obtain ⟨B1, s0, s1, hz⟩ := box2 w #[.int .i64 room, .slice a ln c, .bool false, .int .i64 0, .int .u64 st] #[.int .i64 0, .slice none 0 0, .bool false, .int .i64 0, .int .u64 0] 30 30
  have HB1 := Lib.hid B1
  have HS01 := Lib.hid s0
  have HS11 := Lib.hid s1
  have HZ := Lib.hid hz
  have HR := Lib.hid h
  have HL := Lib.hid hl
  have HSRT := Lib.hid hs
  have HFF := Lib.hid hf
  have HV := Lib.hid hv
  have HST := Lib.hid hst
  rw [hln]
  clear h B1 s0 s1 hz hl hs hf hv hst hln
  go_enter Try.func63, Try.ntmps63
  go_upto_region 1 with fail
  obtain ⟨N, hN⟩ : ∃ N, w.heap.size = N := ⟨_, rfl⟩
  have HN := Lib.hid hN
  rw [hN] at HS01 HS11 HZ
  try rw [hN]
  clear hN
  generalize (w.alloc (.cells #[.int .i64 room, .slice a ln c, .bool false, .int .i64 0, .int .u64 st] 30)).alloc (.cells #[.int .i64 0, .slice none 0 0, .bool false, .int .i64 0, .int .u64 0] 30) = w1 at HS01 HS11 HB1 HZ ⊢
  obtain ⟨c0, c1, c2, c3, c4⟩ := five_rd HS01.out
  have HC := Lib.hid (rfind room a c false 0 st L n w1 (HR.out.below HB1.out) (by have := HL.out; omega))
  have hln := HLN.out
  try rw [hln] at HC
  clear hln
  go_wp2_with fail
  refine HC.out.mono ?_
  rintro e w2 ⟨k, rfl, hk, hb⟩
  clear HC
  clear c0 c1 c2 c3 c4
  obtain ⟨i, b, o, rfl, hiL, rfl, -⟩ := HR.out.found HB1.out HSRT.out HFF.out hk
  have HK := Lib.hid hk
  rw [HLN.out] at hiL
  have HIL := Lib.hid hiL
  clear hk hiL
  have HS02 := Lib.hid (ex_below HS01.out hb)
  have HS12 := Lib.hid (ex_below HS11.out hb)
  have HB2 := Lib.hid (HB1.out.trans (hb.mono HB1.out.size))
  clear HS01 HS11 HB1 hb
  have hi0 : ¬ (i : Int) < 0 := by omega
  have hltz : (i : Int) < (ln : Int) := by have := HIL.out; omega
  have hge : (0 : Int) ≤ (i : Int) := by omega
  obtain ⟨c0, c1, c2, c3, c4⟩ := five_rd HS02.out
  have hnm := rnamed n2 w2
  rw [HV.out] at hnm
  have HNM := Lib.hid hnm
  clear hnm
  go_wp2_with fail
  refine HNM.out.mono ?_
  rintro e wq ⟨rfl, rfl⟩
  clear c0 c1 c2 c3 c4
  obtain ⟨c0, c1, c2, c3, c4⟩ := five_rd HS02.out
  have HC := Lib.hid (rstep_zero room (some ⟨b, o, none⟩) ln c false st w2 HST.out)
  have hln := HLN.out
  try rw [hln] at HC
  clear hln
  go_wp2_with fail
  refine HC.out.mono ?_
  rintro e w3 ⟨rfl, hb⟩
  clear HC
  clear c0 c1 c2 c3 c4
  have HS03 := Lib.hid (ex_below HS02.out hb)
  have HS13 := Lib.hid (ex_below HS12.out hb)
  have HB3 := Lib.hid (HB2.out.trans (hb.mono HB2.out.size))
  clear HS02 HS12 HB2 hb
  obtain ⟨c0, c1, c2, c3, c4⟩ := five_rd HS03.out
  have fHS0 : ∀ o, w3.frozen? ⟨N, o, none⟩ = false := fun o => by simp [World.frozen?, HS03.out]
  have hNN := HN.out
  have hZZ := HZ.out
  have HQ_HS0 := Lib.hid (set5 HS03.out (.int .i64 room) (.slice (some ⟨b, o, none⟩) ln c) (.bool true) (.int .i64 (-1)) (.int .u64 (st + 1)))
  have HQ_HS1 : Hid ((((((w3.setCell ⟨N, 0, none⟩ (.int .i64 room)).setCell ⟨N, 1, none⟩ (.slice (some ⟨b, o, none⟩) ln c)).setCell ⟨N, 2, none⟩ (.bool true)).setCell ⟨N, 3, none⟩ (.int .i64 (-1))).setCell ⟨N, 4, none⟩ (.int .u64 (st + 1))).heap[N + 1]? = some (.cells #[.int .i64 0, .slice none 0 0, .bool false, .int .i64 0, .int .u64 0] 30 (0, 0))) := Lib.hid ((Below.heap_setCell _ _ _ _ (show N + 1 ≠ N by omega)).trans ((Below.heap_setCell _ _ _ _ (show N + 1 ≠ N by omega)).trans ((Below.heap_setCell _ _ _ _ (show N + 1 ≠ N by omega)).trans ((Below.heap_setCell _ _ _ _ (show N + 1 ≠ N by omega)).trans ((Below.heap_setCell _ _ _ _ (show N + 1 ≠ N by omega)).trans (HS13.out))))))
  have HQB := Lib.hid (below_two (below_two (below_two (below_two (below_two (HB3.out) (show w.heap.size ≤ N by omega) 0 (.int .i64 room)) (show w.heap.size ≤ N by omega) 1 (.slice (some ⟨b, o, none⟩) ln c)) (show w.heap.size ≤ N by omega) 2 (.bool true)) (show w.heap.size ≤ N by omega) 3 (.int .i64 (-1))) (show w.heap.size ≤ N by omega) 4 (.int .u64 (st + 1)))
  clear hNN hZZ
  go_upto_region 9 with fail
  generalize (((((w3.setCell ⟨N, 0, none⟩ (.int .i64 room)).setCell ⟨N, 1, none⟩ (.slice (some ⟨b, o, none⟩) ln c)).setCell ⟨N, 2, none⟩ (.bool true)).setCell ⟨N, 3, none⟩ (.int .i64 (-1))).setCell ⟨N, 4, none⟩ (.int .u64 (st + 1))) = w4 at HQ_HS0 HQ_HS1 HQB ⊢
  have HS04 := HQ_HS0
  have HS14 := HQ_HS1
  have HB4 := HQB
  clear HQ_HS0 HQ_HS1 HQB HS03 HS13 HB3
  clear fHS0
  clear c0 c1 c2 c3 c4
  obtain ⟨c0, c1, c2, c3, c4⟩ := five_rd HS04.out
  obtain ⟨p0, p1, p2, p3, p4⟩ := five_rd HS14.out
  have fHS0 : ∀ o, w4.frozen? ⟨N, o, none⟩ = false := fun o => by simp [World.frozen?, HS04.out]
  have fHS1 : ∀ o, w4.frozen? ⟨N + 1, o, none⟩ = false := fun o => by simp [World.frozen?, HS14.out]
  go_wp2_with fail
  refine bodyPost_ret (rd_res rfl _ _ (N + 1) (.int .i64 room) (.slice (some ⟨b, o, none⟩) ln c) (.bool true) (.int .i64 (-1)) (.int .u64 (st + 1)) rfl (by go_simp) (by go_simp) (by go_simp) (by go_simp) (by go_simp)) rfl ?_
  have hN := HN.out
  refine ⟨rfl, ?_⟩
  exact below_two (below_two (below_two (below_two (below_two (HB4.out) (by omega) _ _) (by omega) _ _) (by omega) _ _) (by omega) _ _) (by omega) _ _
set_option maxRecDepth 100000 in
set_option maxHeartbeats 8000000 in
theorem rmove_ok (room : Int) (a : Option Addr) (c : Nat) (ar st : Int) (L : Ft) (n : Nm) (n2 : Nm) (f : Fl) (w : World) (h : FRow w a L) (hl : L.length ≤ 1000) (hs : SrtF L) (hf : getF L n = some f) (hv : validN n2 = true) (ha : ar ≠ 0 ∧ ar < 9223372036854775808) (hst : 0 ≤ st ∧ st < 1000000000) : Calls Try.prog 63 #[.agg #[.int .i64 room, .slice a L.length c, .bool false, .int .i64 ar, .int .u64 st], encStr n, encStr n2] w fun e w' => ∃ v, e = .returned (.tuple #[.agg #[.int .i64 room, v, .bool false, .int .i64 (arS ar), .int .u64 (st + 1)], .int .i64 0]) ∧ OF w' w.heap.size v (putF (delF L n) n2 f) ∧ Below w.heap.size w w' := by
  obtain ⟨ln, hln⟩ : ∃ ln, L.length = ln := ⟨_, rfl⟩
  have HLN := Lib.hid hln
  obtain ⟨B1, s0, s1, hz⟩ := box2 w #[.int .i64 room, .slice a ln c, .bool false, .int .i64 ar, .int .u64 st] #[.int .i64 0, .slice none 0 0, .bool false, .int .i64 0, .int .u64 0] 30 30
  have HB1 := Lib.hid B1
  have HS01 := Lib.hid s0
  have HS11 := Lib.hid s1
  have HZ := Lib.hid hz
  have HR := Lib.hid h
  have HL := Lib.hid hl
  have HSRT := Lib.hid hs
  have HFF := Lib.hid hf
  have HV := Lib.hid hv
  have HST := Lib.hid hst
  have HA := Lib.hid ha
  rw [hln]
  clear h B1 s0 s1 hz hl hs hf hv hst ha hln
  go_enter Try.func63, Try.ntmps63
  go_upto_region 1 with fail
  obtain ⟨N, hN⟩ : ∃ N, w.heap.size = N := ⟨_, rfl⟩
  have HN := Lib.hid hN
  rw [hN] at HS01 HS11 HZ
  try rw [hN]
  clear hN
  generalize (w.alloc (.cells #[.int .i64 room, .slice a ln c, .bool false, .int .i64 ar, .int .u64 st] 30)).alloc (.cells #[.int .i64 0, .slice none 0 0, .bool false, .int .i64 0, .int .u64 0] 30) = w1 at HS01 HS11 HB1 HZ ⊢
  obtain ⟨c0, c1, c2, c3, c4⟩ := five_rd HS01.out
  have HC := Lib.hid (rfind room a c false ar st L n w1 (HR.out.below HB1.out) (by have := HL.out; omega))
  have hln := HLN.out
  try rw [hln] at HC
  clear hln
  go_wp2_with fail
  refine HC.out.mono ?_
  rintro e w2 ⟨k, rfl, hk, hb⟩
  clear HC
  clear c0 c1 c2 c3 c4
  obtain ⟨i, b, o, rfl, hiL, rfl, -⟩ := HR.out.found HB1.out HSRT.out HFF.out hk
  have HK := Lib.hid hk
  rw [HLN.out] at hiL
  have HIL := Lib.hid hiL
  clear hk hiL
  have HS02 := Lib.hid (ex_below HS01.out hb)
  have HS12 := Lib.hid (ex_below HS11.out hb)
  have HB2 := Lib.hid (HB1.out.trans (hb.mono HB1.out.size))
  clear HS01 HS11 HB1 hb
  have hi0 : ¬ (i : Int) < 0 := by omega
  have hltz : (i : Int) < (ln : Int) := by have := HIL.out; omega
  have hge : (0 : Int) ≤ (i : Int) := by omega
  obtain ⟨c0, c1, c2, c3, c4⟩ := five_rd HS02.out
  have hnm := rnamed n2 w2
  rw [HV.out] at hnm
  have HNM := Lib.hid hnm
  clear hnm
  go_wp2_with fail
  refine HNM.out.mono ?_
  rintro e wq ⟨rfl, rfl⟩
  clear c0 c1 c2 c3 c4
  obtain ⟨c0, c1, c2, c3, c4⟩ := five_rd HS02.out
  have HC := Lib.hid (rstep_go room (some ⟨b, o, none⟩) ln c false ar HA.out st w2 HST.out)
  have hln := HLN.out
  try rw [hln] at HC
  clear hln
  go_wp2_with fail
  refine HC.out.mono ?_
  rintro e w3 ⟨rfl, hb⟩
  clear HC
  clear c0 c1 c2 c3 c4
  have HS03 := Lib.hid (ex_below HS02.out hb)
  have HS13 := Lib.hid (ex_below HS12.out hb)
  have HB3 := Lib.hid (HB2.out.trans (hb.mono HB2.out.size))
  clear HS02 HS12 HB2 hb
  obtain ⟨ar2, har⟩ : ∃ x, arS ar = x := ⟨_, rfl⟩
  try rw [har]
  have HAR := Lib.hid har
  clear har
  obtain ⟨c0, c1, c2, c3, c4⟩ := five_rd HS03.out
  have fHS0 : ∀ o, w3.frozen? ⟨N, o, none⟩ = false := fun o => by simp [World.frozen?, HS03.out]
  have hNN := HN.out
  have hZZ := HZ.out
  have HQ_HS0 := Lib.hid (set5 HS03.out (.int .i64 room) (.slice (some ⟨b, o, none⟩) ln c) (.bool false) (.int .i64 ar2) (.int .u64 (st + 1)))
  have HQ_HS1 : Hid ((((((w3.setCell ⟨N, 0, none⟩ (.int .i64 room)).setCell ⟨N, 1, none⟩ (.slice (some ⟨b, o, none⟩) ln c)).setCell ⟨N, 2, none⟩ (.bool false)).setCell ⟨N, 3, none⟩ (.int .i64 ar2)).setCell ⟨N, 4, none⟩ (.int .u64 (st + 1))).heap[N + 1]? = some (.cells #[.int .i64 0, .slice none 0 0, .bool false, .int .i64 0, .int .u64 0] 30 (0, 0))) := Lib.hid ((Below.heap_setCell _ _ _ _ (show N + 1 ≠ N by omega)).trans ((Below.heap_setCell _ _ _ _ (show N + 1 ≠ N by omega)).trans ((Below.heap_setCell _ _ _ _ (show N + 1 ≠ N by omega)).trans ((Below.heap_setCell _ _ _ _ (show N + 1 ≠ N by omega)).trans ((Below.heap_setCell _ _ _ _ (show N + 1 ≠ N by omega)).trans (HS13.out))))))
  have HQB := Lib.hid (below_two (below_two (below_two (below_two (below_two (HB3.out) (show w.heap.size ≤ N by omega) 0 (.int .i64 room)) (show w.heap.size ≤ N by omega) 1 (.slice (some ⟨b, o, none⟩) ln c)) (show w.heap.size ≤ N by omega) 2 (.bool false)) (show w.heap.size ≤ N by omega) 3 (.int .i64 ar2)) (show w.heap.size ≤ N by omega) 4 (.int .u64 (st + 1)))
  clear hNN hZZ
  go_upto_region 9 with fail
  generalize (((((w3.setCell ⟨N, 0, none⟩ (.int .i64 room)).setCell ⟨N, 1, none⟩ (.slice (some ⟨b, o, none⟩) ln c)).setCell ⟨N, 2, none⟩ (.bool false)).setCell ⟨N, 3, none⟩ (.int .i64 ar2)).setCell ⟨N, 4, none⟩ (.int .u64 (st + 1))) = w4 at HQ_HS0 HQ_HS1 HQB ⊢
  have HS04 := HQ_HS0
  have HS14 := HQ_HS1
  have HB4 := HQB
  clear HQ_HS0 HQ_HS1 HQB HS03 HS13 HB3
  clear fHS0
  clear c0 c1 c2 c3 c4
  obtain ⟨j, b', o', e1, -, e2, k0, k1, k2⟩ := HR.out.found HB4.out HSRT.out HFF.out HK.out
  injection e2 with e2
  injection e2 with e2 e3
  subst e2 e3
  obtain rfl : i = j := by omega
  clear e1
  obtain ⟨c0, c1, c2, c3, c4⟩ := five_rd HS04.out
  obtain ⟨hbf, hsf, hzf⟩ := box1 w4 #[encStr n, .string (str f.all), .int .i64 (f.kept : Int)] 45
  obtain ⟨NF, hNF⟩ : ∃ NF, w4.heap.size = NF := ⟨_, rfl⟩
  have HNFe := Lib.hid hNF
  have HNF : Hid (N + 1 < NF ∧ w.heap.size ≤ NF) := Lib.hid ⟨by have := ex_lt HS14.out; omega, by have := HB4.out.size; omega⟩
  have HS05 := Lib.hid (ex_below HS04.out hbf)
  have HS15 := Lib.hid (ex_below HS14.out hbf)
  have HB5 := Lib.hid (HB4.out.trans (hbf.mono HB4.out.size))
  rw [hNF] at hsf
  have HF5 := Lib.hid hsf
  clear hbf hsf hzf HS04 HS14 HB4
  go_upto_region 12 with fail
  try rw [hNF]
  clear hNF
  generalize w4.alloc (.cells #[encStr n, .string (str f.all), .int .i64 (f.kept : Int)] 45) = w5 at HS05 HS15 HF5 HB5 ⊢
  clear k0 k1 k2
  clear c0 c1 c2 c3 c4
  obtain ⟨c0, c1, c2, c3, c4⟩ := five_rd HS05.out
  have HC := Lib.hid (rwithout room (some ⟨b, o, none⟩) c false ar2 (st + 1) L n w5 (HR.out.below HB5.out) (by have := HL.out; omega))
  have hln := HLN.out
  try rw [hln] at HC
  clear hln
  go_wp2_with fail
  refine HC.out.mono ?_
  rintro e w6 ⟨v, rfl, ho, hb⟩
  clear HC
  clear c0 c1 c2 c3 c4
  have HO1b : Hid (N + 1 < w5.heap.size ∧ NF < w5.heap.size) := Lib.hid ⟨ex_lt HS15.out, ex_lt HF5.out⟩
  obtain ⟨av, cv, hv, -⟩ := ho.row
  obtain ⟨lv, hlv⟩ : ∃ lv, (woF L n).length = lv := ⟨_, rfl⟩
  rw [hlv] at hv
  subst hv
  have HLV1 := Lib.hid hlv
  have HO1 := Lib.hid ho
  clear ho hlv
  have HS06 := Lib.hid (ex_below HS05.out hb)
  have HS16 := Lib.hid (ex_below HS15.out hb)
  have HF6 := Lib.hid (ex_below HF5.out hb)
  have HB6 := Lib.hid (HB5.out.trans (hb.mono HB5.out.size))
  clear HS05 HS15 HF5 HB5 hb
  obtain ⟨c0, c1, c2, c3, c4⟩ := five_rd HS06.out
  have fHS0 : ∀ o, w6.frozen? ⟨N, o, none⟩ = false := fun o => by simp [World.frozen?, HS06.out]
  have hNN := HN.out
  have hZZ := HZ.out
  have HQ_HS0 := Lib.hid (set5 HS06.out (.int .i64 room) (.slice av lv cv) (.bool false) (.int .i64 ar2) (.int .u64 (st + 1)))
  have HQ_HS1 : Hid ((((((w6.setCell ⟨N, 0, none⟩ (.int .i64 room)).setCell ⟨N, 1, none⟩ (.slice av lv cv)).setCell ⟨N, 2, none⟩ (.bool false)).setCell ⟨N, 3, none⟩ (.int .i64 ar2)).setCell ⟨N, 4, none⟩ (.int .u64 (st + 1))).heap[N + 1]? = some (.cells #[.int .i64 0, .slice none 0 0, .bool false, .int .i64 0, .int .u64 0] 30 (0, 0))) := Lib.hid ((Below.heap_setCell _ _ _ _ (show N + 1 ≠ N by have := HNF.out; omega)).trans ((Below.heap_setCell _ _ _ _ (show N + 1 ≠ N by have := HNF.out; omega)).trans ((Below.heap_setCell _ _ _ _ (show N + 1 ≠ N by have := HNF.out; omega)).trans ((Below.heap_setCell _ _ _ _ (show N + 1 ≠ N by have := HNF.out; omega)).trans ((Below.heap_setCell _ _ _ _ (show N + 1 ≠ N by have := HNF.out; omega)).trans (HS16.out))))))
  have HQ_HF : Hid ((((((w6.setCell ⟨N, 0, none⟩ (.int .i64 room)).setCell ⟨N, 1, none⟩ (.slice av lv cv)).setCell ⟨N, 2, none⟩ (.bool false)).setCell ⟨N, 3, none⟩ (.int .i64 ar2)).setCell ⟨N, 4, none⟩ (.int .u64 (st + 1))).heap[NF]? = some (.cells #[encStr n, .string (str f.all), .int .i64 (f.kept : Int)] 45 (0, 0))) := Lib.hid ((Below.heap_setCell _ _ _ _ (show NF ≠ N by have := HNF.out; omega)).trans ((Below.heap_setCell _ _ _ _ (show NF ≠ N by have := HNF.out; omega)).trans ((Below.heap_setCell _ _ _ _ (show NF ≠ N by have := HNF.out; omega)).trans ((Below.heap_setCell _ _ _ _ (show NF ≠ N by have := HNF.out; omega)).trans ((Below.heap_setCell _ _ _ _ (show NF ≠ N by have := HNF.out; omega)).trans (HF6.out))))))
  have HQB := Lib.hid (below_two (below_two (below_two (below_two (below_two (HB6.out) (show w.heap.size ≤ N by have := HNF.out; omega) 0 (.int .i64 room)) (show w.heap.size ≤ N by have := HNF.out; omega) 1 (.slice av lv cv)) (show w.heap.size ≤ N by have := HNF.out; omega) 2 (.bool false)) (show w.heap.size ≤ N by have := HNF.out; omega) 3 (.int .i64 ar2)) (show w.heap.size ≤ N by have := HNF.out; omega) 4 (.int .u64 (st + 1)))
  have HQO := Lib.hid (OF.set (OF.set (OF.set (OF.set (OF.set (HO1.out) (p := ⟨N, 0, none⟩) (show N < _ by have := HO1b.out; omega) (.int .i64 room)) (p := ⟨N, 1, none⟩) (show N < _ by have := HO1b.out; omega) (.slice av lv cv)) (p := ⟨N, 2, none⟩) (show N < _ by have := HO1b.out; omega) (.bool false)) (p := ⟨N, 3, none⟩) (show N < _ by have := HO1b.out; omega) (.int .i64 ar2)) (p := ⟨N, 4, none⟩) (show N < _ by have := HO1b.out; omega) (.int .u64 (st + 1)))
  clear hNN hZZ
  go_upto_region 13 with fail
  generalize (((((w6.setCell ⟨N, 0, none⟩ (.int .i64 room)).setCell ⟨N, 1, none⟩ (.slice av lv cv)).setCell ⟨N, 2, none⟩ (.bool false)).setCell ⟨N, 3, none⟩ (.int .i64 ar2)).setCell ⟨N, 4, none⟩ (.int .u64 (st + 1))) = w7 at HQ_HS0 HQ_HS1 HQ_HF HQB HQO ⊢
  have HS07 := HQ_HS0
  have HS17 := HQ_HS1
  have HF7 := HQ_HF
  have HB7 := HQB
  have HO1 := HQO
  clear HQ_HS0 HQ_HS1 HQ_HF HQB HQO HS06 HS16 HF6 HB6
  clear fHS0
  clear c0 c1 c2 c3 c4
  obtain ⟨x0, x1, x2⟩ := three_rd HF7.out
  have fHF : ∀ o, w7.frozen? ⟨NF, o, none⟩ = false := fun o => by simp [World.frozen?, HF7.out]
  have hNN := HN.out
  have hZZ := HZ.out
  have HQ_HF : Hid ((w7.setCell ⟨NF, 0, none⟩ (encStr n2)).heap[NF]? = some (.cells #[encStr n2, .string (str f.all), .int .i64 (f.kept : Int)] 45 (0, 0))) := Lib.hid (by rw [heap_setCell_same w7 _ 0 _ _ _ HF7.out]; simp)
  have HQ_HS0 : Hid ((w7.setCell ⟨NF, 0, none⟩ (encStr n2)).heap[N]? = some (.cells #[.int .i64 room, .slice av lv cv, .bool false, .int .i64 ar2, .int .u64 (st + 1)] 30 (0, 0))) := Lib.hid ((Below.heap_setCell _ _ _ _ (show N ≠ NF by have := HNF.out; omega)).trans (HS07.out))
  have HQ_HS1 : Hid ((w7.setCell ⟨NF, 0, none⟩ (encStr n2)).heap[N + 1]? = some (.cells #[.int .i64 0, .slice none 0 0, .bool false, .int .i64 0, .int .u64 0] 30 (0, 0))) := Lib.hid ((Below.heap_setCell _ _ _ _ (show N + 1 ≠ NF by have := HNF.out; omega)).trans (HS17.out))
  have HQB := Lib.hid (below_two (HB7.out) (show w.heap.size ≤ NF by have := HNF.out; omega) 0 (encStr n2))
  have HQO := Lib.hid (OF.set (HO1.out) (p := ⟨NF, 0, none⟩) (show NF < _ by have := HO1b.out; omega) (encStr n2))
  clear hNN hZZ
  go_upto_region 14 with fail
  generalize (w7.setCell ⟨NF, 0, none⟩ (encStr n2)) = w8 at HQ_HS0 HQ_HS1 HQ_HF HQB HQO ⊢
  have HS08 := HQ_HS0
  have HS18 := HQ_HS1
  have HF8 := HQ_HF
  have HB8 := HQB
  have HO1 := HQO
  clear HQ_HS0 HQ_HS1 HQ_HF HQB HQO HS07 HS17 HF7 HB7
  clear fHF
  clear x0 x1 x2
  have HRW : Hid (FRow w8 av (woF L n)) := Lib.hid (by
    obtain ⟨a', c', e, hr⟩ := HO1.out.row
    injection e with e1
    subst e1
    exact hr)
  have HLW : Hid ((woF L n).length ≤ 1000) := Lib.hid (by have := woF_len L n; have := HL.out; omega)
  have HSW : Hid (SrtF (woF L n)) := Lib.hid (by rw [woF_del]; exact HSRT.out.del n)
  obtain ⟨c0, c1, c2, c3, c4⟩ := five_rd HS08.out
  obtain ⟨x0, x1, x2⟩ := three_rd HF8.out
  have HC := Lib.hid (rwith room av cv false ar2 (st + 1) (woF L n) n2 f w8 HRW.out HLW.out)
  have hln := HLV1.out
  rw [hln] at HC
  clear hln
  go_wp2_with fail
  refine HC.out.mono ?_
  rintro e w9 ⟨v, rfl, ho, hb⟩
  clear HC
  clear c0 c1 c2 c3 c4 x0 x1 x2
  have HAV := trivial
  obtain ⟨av2, cv2, hv, -⟩ := ho.row
  obtain ⟨lv2, hlv⟩ : ∃ lv, (inF (n2, f) (woF (woF L n) n2)).length = lv := ⟨_, rfl⟩
  rw [hlv] at hv
  subst hv
  rw [woF_del (woF L n), in_put n2 f HSW.out, woF_del] at ho
  have HO := Lib.hid ho
  have HOb : Hid (N + 1 < w8.heap.size ∧ NF < w8.heap.size) := Lib.hid ⟨ex_lt HS18.out, ex_lt HF8.out⟩
  have HSZ : Hid (w.heap.size ≤ w8.heap.size) := Lib.hid HB8.out.size
  clear ho hlv HRW HO1
  have HS09 := Lib.hid (ex_below HS08.out hb)
  have HS19 := Lib.hid (ex_below HS18.out hb)
  have HF9 := Lib.hid (ex_below HF8.out hb)
  have HB9 := Lib.hid (HB8.out.trans (hb.mono HB8.out.size))
  clear HS08 HS18 HF8 HB8 hb
  obtain ⟨c0, c1, c2, c3, c4⟩ := five_rd HS09.out
  obtain ⟨p0, p1, p2, p3, p4⟩ := five_rd HS19.out
  have fHS0 : ∀ o, w9.frozen? ⟨N, o, none⟩ = false := fun o => by simp [World.frozen?, HS09.out]
  have fHS1 : ∀ o, w9.frozen? ⟨N + 1, o, none⟩ = false := fun o => by simp [World.frozen?, HS19.out]
  go_wp2_with fail
  refine bodyPost_ret (rd_res rfl _ _ (N + 1) (.int .i64 room) (.slice av2 lv2 cv2) (.bool false) (.int .i64 ar2) (.int .u64 (st + 1)) rfl (by go_simp) (by go_simp) (by go_simp) (by go_simp) (by go_simp)) rfl ?_
  have hN := HN.out
  have hob := HOb.out
  refine ⟨_, by rw [HAR.out]; rfl, ?_, ?_⟩
  · exact OF.mono (OF.set (OF.set (OF.set (OF.set (OF.set (HO.out) (by show N + 1 < _; omega) _) (by show N + 1 < _; omega) _) (by show N + 1 < _; omega) _) (by show N + 1 < _; omega) _) (by show N + 1 < _; omega) _) HSZ.out
  · exact below_two (below_two (below_two (below_two (below_two (HB9.out) (by omega) _ _) (by omega) _ _) (by omega) _ _) (by omega) _ _) (by omega) _ _
end Go.Proofs.Ythkjjpkipeeimaa
