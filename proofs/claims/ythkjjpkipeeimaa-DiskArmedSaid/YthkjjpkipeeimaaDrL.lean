/- The reference's disk: Append. -/
import Derived.Test.YthkjjpkipeeimaaDrK
namespace Go.Proofs.Ythkjjpkipeeimaa
open Go.RowKit Go.Maps
theorem run_cat0 (x : List Nat) (h : x.length ≤ 1000000000) (w : World) : (Op.stringOp .add ⟨#[]⟩ (str x)).run Try.prog w = .ok (.string (str x)) w := run_cat [] x (by simpa using h) w
set_option maxRecDepth 100000 in
set_option maxHeartbeats 8000000 in
theorem rappend_down (room : Int) (a : Option Addr) (c : Nat) (ar st : Int) (L : Ft) (n : Nm) (bs : List Nat) (w : World) (h : FRow w a L) (hl : L.length ≤ 1000) : Calls Try.prog 70 #[.agg #[.int .i64 room, .slice a L.length c, .bool true, .int .i64 ar, .int .u64 st], encStr n, .string (str bs)] w fun e w' => e = .returned (.tuple #[.agg #[.int .i64 room, .slice a L.length c, .bool true, .int .i64 ar, .int .u64 st], .int .i64 50]) ∧ Below w.heap.size w w' := by
  obtain ⟨ln, hln⟩ : ∃ ln, L.length = ln := ⟨_, rfl⟩
  have HLN := Lib.hid hln
  obtain ⟨B1, s0, s1, hz⟩ := box2 w #[.int .i64 room, .slice a ln c, .bool true, .int .i64 ar, .int .u64 st] #[.int .i64 0, .slice none 0 0, .bool false, .int .i64 0, .int .u64 0] 30 30
  have HB1 := Lib.hid B1
  have HS01 := Lib.hid s0
  have HS11 := Lib.hid s1
  have HZ := Lib.hid hz
  have HR := Lib.hid h
  have HL := Lib.hid hl
  rw [hln]
  clear h B1 s0 s1 hz hl hln
  go_enter Try.func70, Try.ntmps70
  go_upto_region 1 with fail
  obtain ⟨N, hN⟩ : ∃ N, w.heap.size = N := ⟨_, rfl⟩
  have HN := Lib.hid hN
  rw [hN] at HS01 HS11 HZ
  try rw [hN]
  clear hN
  generalize (w.alloc (.cells #[.int .i64 room, .slice a ln c, .bool true, .int .i64 ar, .int .u64 st] 30)).alloc (.cells #[.int .i64 0, .slice none 0 0, .bool false, .int .i64 0, .int .u64 0] 30) = w1 at HS01 HS11 HB1 HZ ⊢
  obtain ⟨c0, c1, c2, c3, c4⟩ := five_rd HS01.out
  obtain ⟨p0, p1, p2, p3, p4⟩ := five_rd HS11.out
  have fHS0 : ∀ o, w1.frozen? ⟨N, o, none⟩ = false := fun o => by simp [World.frozen?, HS01.out]
  have fHS1 : ∀ o, w1.frozen? ⟨N + 1, o, none⟩ = false := fun o => by simp [World.frozen?, HS11.out]
  go_wp2_with fail
  refine bodyPost_ret (rd_res rfl _ _ (N + 1) (.int .i64 room) (.slice a ln c) (.bool true) (.int .i64 ar) (.int .u64 st) rfl (by go_simp) (by go_simp) (by go_simp) (by go_simp) (by go_simp)) rfl ?_
  have hN := HN.out
  refine ⟨rfl, ?_⟩
  exact below_two (below_two (below_two (below_two (below_two (HB1.out) (by omega) _ _) (by omega) _ _) (by omega) _ _) (by omega) _ _) (by omega) _ _
set_option maxRecDepth 100000 in
set_option maxHeartbeats 8000000 in
theorem rappend_arg (room : Int) (a : Option Addr) (c : Nat) (ar st : Int) (L : Ft) (n : Nm) (bs : List Nat) (w : World) (h : FRow w a L) (hl : L.length ≤ 1000) (hv : validN n = false) : Calls Try.prog 70 #[.agg #[.int .i64 room, .slice a L.length c, .bool false, .int .i64 ar, .int .u64 st], encStr n, .string (str bs)] w fun e w' => e = .returned (.tuple #[.agg #[.int .i64 room, .slice a L.length c, .bool false, .int .i64 ar, .int .u64 st], .int .i64 2]) ∧ Below w.heap.size w w' := by
  obtain ⟨ln, hln⟩ : ∃ ln, L.length = ln := ⟨_, rfl⟩
  have HLN := Lib.hid hln
  obtain ⟨B1, s0, s1, hz⟩ := box2 w #[.int .i64 room, .slice a ln c, .bool false, .int .i64 ar, .int .u64 st] #[.int .i64 0, .slice none 0 0, .bool false, .int .i64 0, .int .u64 0] 30 30
  have HB1 := Lib.hid B1
  have HS01 := Lib.hid s0
  have HS11 := Lib.hid s1
  have HZ := Lib.hid hz
  have HR := Lib.hid h
  have HL := Lib.hid hl
  have HV := Lib.hid hv
  rw [hln]
  clear h B1 s0 s1 hz hl hv hln
  go_enter Try.func70, Try.ntmps70
  go_upto_region 1 with fail
  obtain ⟨N, hN⟩ : ∃ N, w.heap.size = N := ⟨_, rfl⟩
  have HN := Lib.hid hN
  rw [hN] at HS01 HS11 HZ
  try rw [hN]
  clear hN
  generalize (w.alloc (.cells #[.int .i64 room, .slice a ln c, .bool false, .int .i64 ar, .int .u64 st] 30)).alloc (.cells #[.int .i64 0, .slice none 0 0, .bool false, .int .i64 0, .int .u64 0] 30) = w1 at HS01 HS11 HB1 HZ ⊢
  obtain ⟨c0, c1, c2, c3, c4⟩ := five_rd HS01.out
  have hnm := rnamed n w1
  rw [HV.out] at hnm
  have HNM := Lib.hid hnm
  clear hnm
  go_wp2_with fail
  refine HNM.out.mono ?_
  rintro e wq ⟨rfl, rfl⟩
  clear c0 c1 c2 c3 c4
  obtain ⟨c0, c1, c2, c3, c4⟩ := five_rd HS01.out
  obtain ⟨p0, p1, p2, p3, p4⟩ := five_rd HS11.out
  have fHS0 : ∀ o, w1.frozen? ⟨N, o, none⟩ = false := fun o => by simp [World.frozen?, HS01.out]
  have fHS1 : ∀ o, w1.frozen? ⟨N + 1, o, none⟩ = false := fun o => by simp [World.frozen?, HS11.out]
  go_wp2_with fail
  refine bodyPost_ret (rd_res rfl _ _ (N + 1) (.int .i64 room) (.slice a ln c) (.bool false) (.int .i64 ar) (.int .u64 st) rfl (by go_simp) (by go_simp) (by go_simp) (by go_simp) (by go_simp)) rfl ?_
  have hN := HN.out
  refine ⟨rfl, ?_⟩
  exact below_two (below_two (below_two (below_two (below_two (HB1.out) (by omega) _ _) (by omega) _ _) (by omega) _ _) (by omega) _ _) (by omega) _ _
set_option maxRecDepth 100000 in
set_option maxHeartbeats 8000000 in
theorem rappend_many (room : Int) (a : Option Addr) (c : Nat) (ar st : Int) (L : Ft) (n : Nm) (bs : List Nat) (w : World) (h : FRow w a L) (hl : L.length ≤ 1000) (hs : SrtF L) (hn : getF L n = none) (hv : validN n = true) (hm : 128 ≤ L.length) : Calls Try.prog 70 #[.agg #[.int .i64 room, .slice a L.length c, .bool false, .int .i64 ar, .int .u64 st], encStr n, .string (str bs)] w fun e w' => e = .returned (.tuple #[.agg #[.int .i64 room, .slice a L.length c, .bool false, .int .i64 ar, .int .u64 st], .int .i64 30]) ∧ Below w.heap.size w w' := by
  obtain ⟨ln, hln⟩ : ∃ ln, L.length = ln := ⟨_, rfl⟩
  have HLN := Lib.hid hln
  obtain ⟨B1, s0, s1, hz⟩ := box2 w #[.int .i64 room, .slice a ln c, .bool false, .int .i64 ar, .int .u64 st] #[.int .i64 0, .slice none 0 0, .bool false, .int .i64 0, .int .u64 0] 30 30
  have HB1 := Lib.hid B1
  have HS01 := Lib.hid s0
  have HS11 := Lib.hid s1
  have HZ := Lib.hid hz
  have HR := Lib.hid h
  have HL := Lib.hid hl
  have HSRT := Lib.hid hs
  have HNO := Lib.hid hn
  have HV := Lib.hid hv
  have HM := Lib.hid hm
  rw [hln]
  clear h B1 s0 s1 hz hl hs hn hv hm hln
  go_enter Try.func70, Try.ntmps70
  go_upto_region 1 with fail
  obtain ⟨N, hN⟩ : ∃ N, w.heap.size = N := ⟨_, rfl⟩
  have HN := Lib.hid hN
  rw [hN] at HS01 HS11 HZ
  try rw [hN]
  clear hN
  generalize (w.alloc (.cells #[.int .i64 room, .slice a ln c, .bool false, .int .i64 ar, .int .u64 st] 30)).alloc (.cells #[.int .i64 0, .slice none 0 0, .bool false, .int .i64 0, .int .u64 0] 30) = w1 at HS01 HS11 HB1 HZ ⊢
  obtain ⟨c0, c1, c2, c3, c4⟩ := five_rd HS01.out
  have hnm := rnamed n w1
  rw [HV.out] at hnm
  have HNM := Lib.hid hnm
  clear hnm
  go_wp2_with fail
  refine HNM.out.mono ?_
  rintro e wq ⟨rfl, rfl⟩
  clear c0 c1 c2 c3 c4
  obtain ⟨c0, c1, c2, c3, c4⟩ := five_rd HS01.out
  have HC := Lib.hid (rfind room a c false ar st L n w1 (HR.out.below HB1.out) (by have := HL.out; omega))
  have hln := HLN.out
  try rw [hln] at HC
  clear hln
  go_wp2_with fail
  refine HC.out.mono ?_
  rintro e w2 ⟨k, rfl, hk, hb⟩
  clear HC
  clear c0 c1 c2 c3 c4
  obtain rfl := hk.no HNO.out HSRT.out
  clear hk
  have HS02 := Lib.hid (ex_below HS01.out hb)
  have HS12 := Lib.hid (ex_below HS11.out hb)
  have HB2 := Lib.hid (HB1.out.trans (hb.mono HB1.out.size))
  clear HS01 HS11 HB1 hb
  have dg0 : decide ((ln : Int) ≥ 128) = true := decide_eq_true (by have := HM.out; have := HLN.out; omega)
  have dgp0 : (ln : Int) ≥ 128 := by have := HM.out; have := HLN.out; omega
  have dg1 : decide (128 ≤ (ln : Int)) = true := decide_eq_true (by have := HM.out; have := HLN.out; omega)
  have dgp1 : 128 ≤ (ln : Int) := by have := HM.out; have := HLN.out; omega
  have dg2 : decide (128 ≤ ln) = true := decide_eq_true (by have := HM.out; have := HLN.out; omega)
  have dgp2 : 128 ≤ ln := by have := HM.out; have := HLN.out; omega
  have dg3 : decide (ln ≥ 128) = true := decide_eq_true (by have := HM.out; have := HLN.out; omega)
  have dgp3 : ln ≥ 128 := by have := HM.out; have := HLN.out; omega
  obtain ⟨c0, c1, c2, c3, c4⟩ := five_rd HS02.out
  obtain ⟨p0, p1, p2, p3, p4⟩ := five_rd HS12.out
  have fHS0 : ∀ o, w2.frozen? ⟨N, o, none⟩ = false := fun o => by simp [World.frozen?, HS02.out]
  have fHS1 : ∀ o, w2.frozen? ⟨N + 1, o, none⟩ = false := fun o => by simp [World.frozen?, HS12.out]
  go_wp2_with fail
  refine bodyPost_ret (rd_res rfl _ _ (N + 1) (.int .i64 room) (.slice a ln c) (.bool false) (.int .i64 ar) (.int .u64 st) rfl (by go_simp) (by go_simp) (by go_simp) (by go_simp) (by go_simp)) rfl ?_
  have hN := HN.out
  refine ⟨rfl, ?_⟩
  exact below_two (below_two (below_two (below_two (below_two (HB2.out) (by omega) _ _) (by omega) _ _) (by omega) _ _) (by omega) _ _) (by omega) _ _
set_option maxRecDepth 100000 in
set_option maxHeartbeats 8000000 in
theorem rappend_full0 (room : Int) (a : Option Addr) (c : Nat) (ar st : Int) (L : Ft) (n : Nm) (bs : List Nat) (fr : Int) (w : World) (h : FRow w a L) (hl : L.length ≤ 1000) (hs : SrtF L) (hn : getF L n = none) (hv : validN n = true) (hrm : 0 ≤ room ∧ room ≤ 1048576) (hsm : sumF L ≤ 1000000000) (hfr : (if room < (sumF L : Int) then 0 else room - (sumF L : Int)) = fr) (hm : L.length < 128) (hm2 : fr < (bs.length : Int)) : Calls Try.prog 70 #[.agg #[.int .i64 room, .slice a L.length c, .bool false, .int .i64 ar, .int .u64 st], encStr n, .string (str bs)] w fun e w' => e = .returned (.tuple #[.agg #[.int .i64 room, .slice a L.length c, .bool false, .int .i64 ar, .int .u64 st], .int .i64 30]) ∧ Below w.heap.size w w' := by
  obtain ⟨ln, hln⟩ : ∃ ln, L.length = ln := ⟨_, rfl⟩
  have HLN := Lib.hid hln
  obtain ⟨B1, s0, s1, hz⟩ := box2 w #[.int .i64 room, .slice a ln c, .bool false, .int .i64 ar, .int .u64 st] #[.int .i64 0, .slice none 0 0, .bool false, .int .i64 0, .int .u64 0] 30 30
  have HB1 := Lib.hid B1
  have HS01 := Lib.hid s0
  have HS11 := Lib.hid s1
  have HZ := Lib.hid hz
  have HR := Lib.hid h
  have HL := Lib.hid hl
  have HSRT := Lib.hid hs
  have HNO := Lib.hid hn
  have HV := Lib.hid hv
  have HRM := Lib.hid hrm
  have HSM := Lib.hid hsm
  have HFR := Lib.hid hfr
  have HM := Lib.hid hm
  have HM2 := Lib.hid hm2
  rw [hln]
  clear h B1 s0 s1 hz hl hs hn hv hrm hsm hfr hm hm2 hln
  go_enter Try.func70, Try.ntmps70
  go_upto_region 1 with fail
  obtain ⟨N, hN⟩ : ∃ N, w.heap.size = N := ⟨_, rfl⟩
  have HN := Lib.hid hN
  rw [hN] at HS01 HS11 HZ
  try rw [hN]
  clear hN
  generalize (w.alloc (.cells #[.int .i64 room, .slice a ln c, .bool false, .int .i64 ar, .int .u64 st] 30)).alloc (.cells #[.int .i64 0, .slice none 0 0, .bool false, .int .i64 0, .int .u64 0] 30) = w1 at HS01 HS11 HB1 HZ ⊢
  obtain ⟨c0, c1, c2, c3, c4⟩ := five_rd HS01.out
  have hnm := rnamed n w1
  rw [HV.out] at hnm
  have HNM := Lib.hid hnm
  clear hnm
  go_wp2_with fail
  refine HNM.out.mono ?_
  rintro e wq ⟨rfl, rfl⟩
  clear c0 c1 c2 c3 c4
  obtain ⟨c0, c1, c2, c3, c4⟩ := five_rd HS01.out
  have HC := Lib.hid (rfind room a c false ar st L n w1 (HR.out.below HB1.out) (by have := HL.out; omega))
  have hln := HLN.out
  try rw [hln] at HC
  clear hln
  go_wp2_with fail
  refine HC.out.mono ?_
  rintro e w2 ⟨k, rfl, hk, hb⟩
  clear HC
  clear c0 c1 c2 c3 c4
  obtain rfl := hk.no HNO.out HSRT.out
  clear hk
  have HS02 := Lib.hid (ex_below HS01.out hb)
  have HS12 := Lib.hid (ex_below HS11.out hb)
  have HB2 := Lib.hid (HB1.out.trans (hb.mono HB1.out.size))
  clear HS01 HS11 HB1 hb
  have dg0 : decide ((ln : Int) ≥ 128) = false := decide_eq_false (by have := HM.out; have := HLN.out; omega)
  have dgp0 : ¬ ((ln : Int) ≥ 128) := by have := HM.out; have := HLN.out; omega
  have dg1 : decide (128 ≤ (ln : Int)) = false := decide_eq_false (by have := HM.out; have := HLN.out; omega)
  have dgp1 : ¬ (128 ≤ (ln : Int)) := by have := HM.out; have := HLN.out; omega
  have dg2 : decide (128 ≤ ln) = false := decide_eq_false (by have := HM.out; have := HLN.out; omega)
  have dgp2 : ¬ (128 ≤ ln) := by have := HM.out; have := HLN.out; omega
  have dg3 : decide (ln ≥ 128) = false := decide_eq_false (by have := HM.out; have := HLN.out; omega)
  have dgp3 : ¬ (ln ≥ 128) := by have := HM.out; have := HLN.out; omega
  have df0 : decide ((bs.length : Int) > fr) = true := decide_eq_true (by have := HM2.out; omega)
  have dfp0 : (bs.length : Int) > fr := by have := HM2.out; omega
  have df1 : decide (fr < (bs.length : Int)) = true := decide_eq_true (by have := HM2.out; omega)
  have dfp1 : fr < (bs.length : Int) := by have := HM2.out; omega
  have hqs : (str bs).size = bs.length := str_size _
  obtain ⟨c0, c1, c2, c3, c4⟩ := five_rd HS02.out
  have hfr := rfree room a c false ar st L w2 (HR.out.below HB2.out) (by have := HL.out; omega) HRM.out HSM.out
  rw [HFR.out, HLN.out] at hfr
  have HFC := Lib.hid hfr
  clear hfr
  go_wp2_with fail
  refine HFC.out.mono ?_
  rintro e w3 ⟨rfl, hb⟩
  clear HFC
  clear c0 c1 c2 c3 c4
  have HS03 := Lib.hid (ex_below HS02.out hb)
  have HS13 := Lib.hid (ex_below HS12.out hb)
  have HB3 := Lib.hid (HB2.out.trans (hb.mono HB2.out.size))
  clear HS02 HS12 HB2 hb
  obtain ⟨c0, c1, c2, c3, c4⟩ := five_rd HS03.out
  obtain ⟨p0, p1, p2, p3, p4⟩ := five_rd HS13.out
  have fHS0 : ∀ o, w3.frozen? ⟨N, o, none⟩ = false := fun o => by simp [World.frozen?, HS03.out]
  have fHS1 : ∀ o, w3.frozen? ⟨N + 1, o, none⟩ = false := fun o => by simp [World.frozen?, HS13.out]
  go_wp2_with fail
  refine bodyPost_ret (rd_res rfl _ _ (N + 1) (.int .i64 room) (.slice a ln c) (.bool false) (.int .i64 ar) (.int .u64 st) rfl (by go_simp) (by go_simp) (by go_simp) (by go_simp) (by go_simp)) rfl ?_
  have hN := HN.out
  refine ⟨rfl, ?_⟩
  exact below_two (below_two (below_two (below_two (below_two (HB3.out) (by omega) _ _) (by omega) _ _) (by omega) _ _) (by omega) _ _) (by omega) _ _
set_option maxRecDepth 100000 in
set_option maxHeartbeats 8000000 in
theorem rappend_ok0z (room : Int) (a : Option Addr) (c : Nat) (ar st : Int) (L : Ft) (n : Nm) (bs : List Nat) (fr : Int) (w : World) (h : FRow w a L) (hl : L.length ≤ 1000) (hs : SrtF L) (hn : getF L n = none) (hv : validN n = true) (hrm : 0 ≤ room ∧ room ≤ 1048576) (hsm : sumF L ≤ 1000000000) (hfr : (if room < (sumF L : Int) then 0 else room - (sumF L : Int)) = fr) (hm : L.length < 128) (hm2 : (bs.length : Int) ≤ fr) (hst : 0 ≤ st ∧ st < 1000000000) : Calls Try.prog 70 #[.agg #[.int .i64 room, .slice a L.length c, .bool false, .int .i64 0, .int .u64 st], encStr n, .string (str bs)] w fun e w' => ∃ v, e = .returned (.tuple #[.agg #[.int .i64 room, v, .bool true, .int .i64 (-1), .int .u64 (st + 1)], .int .i64 50]) ∧ OF w' w.heap.size v (putF L n ⟨bs, 0⟩) ∧ Below w.heap.size w w' := by
  obtain ⟨ln, hln⟩ : ∃ ln, L.length = ln := ⟨_, rfl⟩
  have HLN := Lib.hid hln
  obtain ⟨B1, s0, s1, hz⟩ := box2 w #[.int .i64 room, .slice a ln c, .bool false, .int .i64 0, .int .u64 st] #[.int .i64 0, .slice none 0 0, .bool false, .int .i64 0, .int .u64 0] 30 30
  have HB1 := Lib.hid B1
  have HS01 := Lib.hid s0
  have HS11 := Lib.hid s1
  have HZ := Lib.hid hz
  have HR := Lib.hid h
  have HL := Lib.hid hl
  have HSRT := Lib.hid hs
  have HNO := Lib.hid hn
  have HV := Lib.hid hv
  have HRM := Lib.hid hrm
  have HSM := Lib.hid hsm
  have HFR := Lib.hid hfr
  have HM := Lib.hid hm
  have HM2 := Lib.hid hm2
  have HST := Lib.hid hst
  rw [hln]
  clear h B1 s0 s1 hz hl hs hn hv hrm hsm hfr hm hm2 hst hln
  go_enter Try.func70, Try.ntmps70
  go_upto_region 1 with fail
  obtain ⟨N, hN⟩ : ∃ N, w.heap.size = N := ⟨_, rfl⟩
  have HN := Lib.hid hN
  rw [hN] at HS01 HS11 HZ
  try rw [hN]
  clear hN
  generalize (w.alloc (.cells #[.int .i64 room, .slice a ln c, .bool false, .int .i64 0, .int .u64 st] 30)).alloc (.cells #[.int .i64 0, .slice none 0 0, .bool false, .int .i64 0, .int .u64 0] 30) = w1 at HS01 HS11 HB1 HZ ⊢
  obtain ⟨c0, c1, c2, c3, c4⟩ := five_rd HS01.out
  have hnm := rnamed n w1
  rw [HV.out] at hnm
  have HNM := Lib.hid hnm
  clear hnm
  go_wp2_with fail
  refine HNM.out.mono ?_
  rintro e wq ⟨rfl, rfl⟩
  clear c0 c1 c2 c3 c4
  obtain ⟨c0, c1, c2, c3, c4⟩ := five_rd HS01.out
  have HC := Lib.hid (rfind room a c false 0 st L n w1 (HR.out.below HB1.out) (by have := HL.out; omega))
  have hln := HLN.out
  try rw [hln] at HC
  clear hln
  go_wp2_with fail
  refine HC.out.mono ?_
  rintro e w2 ⟨k, rfl, hk, hb⟩
  clear HC
  clear c0 c1 c2 c3 c4
  obtain rfl := hk.no HNO.out HSRT.out
  clear hk
  have HS02 := Lib.hid (ex_below HS01.out hb)
  have HS12 := Lib.hid (ex_below HS11.out hb)
  have HB2 := Lib.hid (HB1.out.trans (hb.mono HB1.out.size))
  clear HS01 HS11 HB1 hb
  have dg0 : decide ((ln : Int) ≥ 128) = false := decide_eq_false (by have := HM.out; have := HLN.out; omega)
  have dgp0 : ¬ ((ln : Int) ≥ 128) := by have := HM.out; have := HLN.out; omega
  have dg1 : decide (128 ≤ (ln : Int)) = false := decide_eq_false (by have := HM.out; have := HLN.out; omega)
  have dgp1 : ¬ (128 ≤ (ln : Int)) := by have := HM.out; have := HLN.out; omega
  have dg2 : decide (128 ≤ ln) = false := decide_eq_false (by have := HM.out; have := HLN.out; omega)
  have dgp2 : ¬ (128 ≤ ln) := by have := HM.out; have := HLN.out; omega
  have dg3 : decide (ln ≥ 128) = false := decide_eq_false (by have := HM.out; have := HLN.out; omega)
  have dgp3 : ¬ (ln ≥ 128) := by have := HM.out; have := HLN.out; omega
  have HBS : Hid (bs.length ≤ 10000000) := Lib.hid (by have h1 := HM2.out; have h2 := HRM.out; have h3 := HFR.out; split at h3 <;> omega)
  have df0 : decide ((bs.length : Int) > fr) = false := decide_eq_false (by have := HM2.out; omega)
  have dfp0 : ¬ ((bs.length : Int) > fr) := by have := HM2.out; omega
  have df1 : decide (fr < (bs.length : Int)) = false := decide_eq_false (by have := HM2.out; omega)
  have dfp1 : ¬ (fr < (bs.length : Int)) := by have := HM2.out; omega
  have hqs : (str bs).size = bs.length := str_size _
  obtain ⟨c0, c1, c2, c3, c4⟩ := five_rd HS02.out
  have hfr := rfree room a c false 0 st L w2 (HR.out.below HB2.out) (by have := HL.out; omega) HRM.out HSM.out
  rw [HFR.out, HLN.out] at hfr
  have HFC := Lib.hid hfr
  clear hfr
  go_wp2_with fail
  refine HFC.out.mono ?_
  rintro e w3 ⟨rfl, hb⟩
  clear HFC
  clear c0 c1 c2 c3 c4
  have HS03 := Lib.hid (ex_below HS02.out hb)
  have HS13 := Lib.hid (ex_below HS12.out hb)
  have HB3 := Lib.hid (HB2.out.trans (hb.mono HB2.out.size))
  clear HS02 HS12 HB2 hb
  go_upto_region 8 with fail
  clear df0 dfp0 df1 dfp1
  clear hqs
  clear dg0 dgp0 dg1 dgp1 dg2 dgp2 dg3 dgp3
  obtain ⟨hbf, hsf, hzf⟩ := box1 w3 #[encStr n, .string ⟨#[]⟩, .int .i64 0] 45
  obtain ⟨NF, hNF⟩ : ∃ NF, w3.heap.size = NF := ⟨_, rfl⟩
  have HNFe := Lib.hid hNF
  have HNF : Hid (N + 1 < NF ∧ w.heap.size ≤ NF) := Lib.hid ⟨by have := ex_lt HS13.out; omega, by have := HB3.out.size; omega⟩
  have HS04 := Lib.hid (ex_below HS03.out hbf)
  have HS14 := Lib.hid (ex_below HS13.out hbf)
  have HB4 := Lib.hid (HB3.out.trans (hbf.mono HB3.out.size))
  rw [hNF] at hsf
  have HF4 := Lib.hid hsf
  clear hbf hsf hzf HS03 HS13 HB3
  go_upto_region 9 with fail
  try rw [hNF]
  clear hNF
  generalize w3.alloc (.cells #[encStr n, .string ⟨#[]⟩, .int .i64 0] 45) = w4 at HS04 HS14 HF4 HB4 ⊢
  have hct := run_cat0 bs (by have := HBS.out; omega)
  obtain ⟨x0, x1, x2⟩ := three_rd HF4.out
  have fHF : ∀ o, w4.frozen? ⟨NF, o, none⟩ = false := fun o => by simp [World.frozen?, HF4.out]
  have hNN := HN.out
  have hZZ := HZ.out
  have HQ_HF : Hid ((w4.setCell ⟨NF, 1, none⟩ (.string (str bs))).heap[NF]? = some (.cells #[encStr n, .string (str bs), .int .i64 0] 45 (0, 0))) := Lib.hid (by rw [heap_setCell_same w4 _ 1 _ _ _ HF4.out]; simp)
  have HQ_HS0 : Hid ((w4.setCell ⟨NF, 1, none⟩ (.string (str bs))).heap[N]? = some (.cells #[.int .i64 room, .slice a ln c, .bool false, .int .i64 0, .int .u64 st] 30 (0, 0))) := Lib.hid ((Below.heap_setCell _ _ _ _ (show N ≠ NF by have := HNF.out; omega)).trans (HS04.out))
  have HQ_HS1 : Hid ((w4.setCell ⟨NF, 1, none⟩ (.string (str bs))).heap[N + 1]? = some (.cells #[.int .i64 0, .slice none 0 0, .bool false, .int .i64 0, .int .u64 0] 30 (0, 0))) := Lib.hid ((Below.heap_setCell _ _ _ _ (show N + 1 ≠ NF by have := HNF.out; omega)).trans (HS14.out))
  have HQB := Lib.hid (below_two (HB4.out) (show w.heap.size ≤ NF by have := HNF.out; omega) 1 (.string (str bs)))
  clear hNN hZZ
  go_upto_region 12 with fail
  generalize (w4.setCell ⟨NF, 1, none⟩ (.string (str bs))) = w5 at HQ_HS0 HQ_HS1 HQ_HF HQB ⊢
  have HS05 := HQ_HS0
  have HS15 := HQ_HS1
  have HF5 := HQ_HF
  have HB5 := HQB
  clear HQ_HS0 HQ_HS1 HQ_HF HQB HS04 HS14 HF4 HB4
  clear fHF hct
  clear x0 x1 x2
  obtain ⟨c0, c1, c2, c3, c4⟩ := five_rd HS05.out
  obtain ⟨x0, x1, x2⟩ := three_rd HF5.out
  have HC := Lib.hid (rwith room a c false 0 st L n ⟨bs, 0⟩ w5 (HR.out.below HB5.out) HL.out)
  have hln := HLN.out
  try rw [hln] at HC
  clear hln
  go_wp2_with fail
  refine HC.out.mono ?_
  rintro e w6 ⟨v, rfl, ho, hb⟩
  clear HC
  clear c0 c1 c2 c3 c4 x0 x1 x2
  obtain ⟨av, cv, hv, -⟩ := ho.row
  obtain ⟨lv, hlv⟩ : ∃ lv, (inF (n, ⟨bs, 0⟩) (woF L n)).length = lv := ⟨_, rfl⟩
  rw [hlv] at hv
  subst hv
  rw [woF_del, in_put n _ HSRT.out] at ho
  have HO := Lib.hid ho
  have HOb : Hid (N + 1 < w5.heap.size ∧ NF < w5.heap.size) := Lib.hid ⟨ex_lt HS15.out, ex_lt HF5.out⟩
  have HLV := Lib.hid hlv
  have HSZ : Hid (w.heap.size ≤ w5.heap.size) := Lib.hid HB5.out.size
  clear ho hlv
  have HS06 := Lib.hid (ex_below HS05.out hb)
  have HS16 := Lib.hid (ex_below HS15.out hb)
  have HF6 := Lib.hid (ex_below HF5.out hb)
  have HB6 := Lib.hid (HB5.out.trans (hb.mono HB5.out.size))
  clear HS05 HS15 HF5 HB5 hb
  obtain ⟨c0, c1, c2, c3, c4⟩ := five_rd HS06.out
  have HC := Lib.hid (rstep_zero room av lv cv false st w6 HST.out)
  have hln := HLN.out
  try rw [hln] at HC
  clear hln
  go_wp2_with fail
  refine HC.out.mono ?_
  rintro e w7 ⟨rfl, hb⟩
  clear HC
  clear c0 c1 c2 c3 c4
  have HS07 := Lib.hid (ex_below HS06.out hb)
  have HS17 := Lib.hid (ex_below HS16.out hb)
  have HF7 := Lib.hid (ex_below HF6.out hb)
  have HB7 := Lib.hid (HB6.out.trans (hb.mono HB6.out.size))
  have HO := Lib.hid (HO.out.kept hb)
  clear HS06 HS16 HF6 HB6 hb
  obtain ⟨c0, c1, c2, c3, c4⟩ := five_rd HS07.out
  have fHS0 : ∀ o, w7.frozen? ⟨N, o, none⟩ = false := fun o => by simp [World.frozen?, HS07.out]
  have hob0 := HOb.out
  have HOE := Lib.hid hob0
  clear hob0
  have HOb2 := HOb
  have hNN := HN.out
  have hZZ := HZ.out
  have HQ_HS0 := Lib.hid (set5 HS07.out (.int .i64 room) (.slice av lv cv) (.bool true) (.int .i64 (-1)) (.int .u64 (st + 1)))
  have HQ_HS1 : Hid ((((((w7.setCell ⟨N, 0, none⟩ (.int .i64 room)).setCell ⟨N, 1, none⟩ (.slice av lv cv)).setCell ⟨N, 2, none⟩ (.bool true)).setCell ⟨N, 3, none⟩ (.int .i64 (-1))).setCell ⟨N, 4, none⟩ (.int .u64 (st + 1))).heap[N + 1]? = some (.cells #[.int .i64 0, .slice none 0 0, .bool false, .int .i64 0, .int .u64 0] 30 (0, 0))) := Lib.hid ((Below.heap_setCell _ _ _ _ (show N + 1 ≠ N by have := HNF.out; omega)).trans ((Below.heap_setCell _ _ _ _ (show N + 1 ≠ N by have := HNF.out; omega)).trans ((Below.heap_setCell _ _ _ _ (show N + 1 ≠ N by have := HNF.out; omega)).trans ((Below.heap_setCell _ _ _ _ (show N + 1 ≠ N by have := HNF.out; omega)).trans ((Below.heap_setCell _ _ _ _ (show N + 1 ≠ N by have := HNF.out; omega)).trans (HS17.out))))))
  have HQ_HF : Hid ((((((w7.setCell ⟨N, 0, none⟩ (.int .i64 room)).setCell ⟨N, 1, none⟩ (.slice av lv cv)).setCell ⟨N, 2, none⟩ (.bool true)).setCell ⟨N, 3, none⟩ (.int .i64 (-1))).setCell ⟨N, 4, none⟩ (.int .u64 (st + 1))).heap[NF]? = some (.cells #[encStr n, .string (str bs), .int .i64 0] 45 (0, 0))) := Lib.hid ((Below.heap_setCell _ _ _ _ (show NF ≠ N by have := HNF.out; omega)).trans ((Below.heap_setCell _ _ _ _ (show NF ≠ N by have := HNF.out; omega)).trans ((Below.heap_setCell _ _ _ _ (show NF ≠ N by have := HNF.out; omega)).trans ((Below.heap_setCell _ _ _ _ (show NF ≠ N by have := HNF.out; omega)).trans ((Below.heap_setCell _ _ _ _ (show NF ≠ N by have := HNF.out; omega)).trans (HF7.out))))))
  have HQB := Lib.hid (below_two (below_two (below_two (below_two (below_two (HB7.out) (show w.heap.size ≤ N by have := HNF.out; omega) 0 (.int .i64 room)) (show w.heap.size ≤ N by have := HNF.out; omega) 1 (.slice av lv cv)) (show w.heap.size ≤ N by have := HNF.out; omega) 2 (.bool true)) (show w.heap.size ≤ N by have := HNF.out; omega) 3 (.int .i64 (-1))) (show w.heap.size ≤ N by have := HNF.out; omega) 4 (.int .u64 (st + 1)))
  have HQO := Lib.hid (OF.set (OF.set (OF.set (OF.set (OF.set (HO.out) (p := ⟨N, 0, none⟩) (show N < _ by have := HOb.out; omega) (.int .i64 room)) (p := ⟨N, 1, none⟩) (show N < _ by have := HOb.out; omega) (.slice av lv cv)) (p := ⟨N, 2, none⟩) (show N < _ by have := HOb.out; omega) (.bool true)) (p := ⟨N, 3, none⟩) (show N < _ by have := HOb.out; omega) (.int .i64 (-1))) (p := ⟨N, 4, none⟩) (show N < _ by have := HOb.out; omega) (.int .u64 (st + 1)))
  clear hNN hZZ
  go_upto_region 13 with fail
  generalize (((((w7.setCell ⟨N, 0, none⟩ (.int .i64 room)).setCell ⟨N, 1, none⟩ (.slice av lv cv)).setCell ⟨N, 2, none⟩ (.bool true)).setCell ⟨N, 3, none⟩ (.int .i64 (-1))).setCell ⟨N, 4, none⟩ (.int .u64 (st + 1))) = w8 at HQ_HS0 HQ_HS1 HQ_HF HQB HQO ⊢
  have HS08 := HQ_HS0
  have HS18 := HQ_HS1
  have HF8 := HQ_HF
  have HB8 := HQB
  have HO := HQO
  clear HQ_HS0 HQ_HS1 HQ_HF HQB HQO HS07 HS17 HF7 HB7
  clear fHS0
  clear c0 c1 c2 c3 c4
  obtain ⟨c0, c1, c2, c3, c4⟩ := five_rd HS08.out
  obtain ⟨p0, p1, p2, p3, p4⟩ := five_rd HS18.out
  have fHS0 : ∀ o, w8.frozen? ⟨N, o, none⟩ = false := fun o => by simp [World.frozen?, HS08.out]
  have fHS1 : ∀ o, w8.frozen? ⟨N + 1, o, none⟩ = false := fun o => by simp [World.frozen?, HS18.out]
  go_wp2_with fail
  refine bodyPost_ret (rd_res rfl _ _ (N + 1) (.int .i64 room) (.slice av lv cv) (.bool true) (.int .i64 (-1)) (.int .u64 (st + 1)) rfl (by go_simp) (by go_simp) (by go_simp) (by go_simp) (by go_simp)) rfl ?_
  have hN := HN.out
  have hob := HOb.out
  refine ⟨_, rfl, ?_, ?_⟩
  · exact OF.mono (OF.set (OF.set (OF.set (OF.set (OF.set (HO.out) (by show N + 1 < _; omega) _) (by show N + 1 < _; omega) _) (by show N + 1 < _; omega) _) (by show N + 1 < _; omega) _) (by show N + 1 < _; omega) _) HSZ.out
  · exact below_two (below_two (below_two (below_two (below_two (HB8.out) (by omega) _ _) (by omega) _ _) (by omega) _ _) (by omega) _ _) (by omega) _ _
set_option maxRecDepth 100000 in
set_option maxHeartbeats 8000000 in
theorem rappend_ok0 (room : Int) (a : Option Addr) (c : Nat) (ar st : Int) (L : Ft) (n : Nm) (bs : List Nat) (fr : Int) (w : World) (h : FRow w a L) (hl : L.length ≤ 1000) (hs : SrtF L) (hn : getF L n = none) (hv : validN n = true) (hrm : 0 ≤ room ∧ room ≤ 1048576) (hsm : sumF L ≤ 1000000000) (hfr : (if room < (sumF L : Int) then 0 else room - (sumF L : Int)) = fr) (hm : L.length < 128) (hm2 : (bs.length : Int) ≤ fr) (ha : ar ≠ 0 ∧ ar < 9223372036854775808) (hst : 0 ≤ st ∧ st < 1000000000) : Calls Try.prog 70 #[.agg #[.int .i64 room, .slice a L.length c, .bool false, .int .i64 ar, .int .u64 st], encStr n, .string (str bs)] w fun e w' => ∃ v, e = .returned (.tuple #[.agg #[.int .i64 room, v, .bool false, .int .i64 (arS ar), .int .u64 (st + 1)], .int .i64 0]) ∧ OF w' w.heap.size v (putF L n ⟨bs, 0⟩) ∧ Below w.heap.size w w' := by
  obtain ⟨ln, hln⟩ : ∃ ln, L.length = ln := ⟨_, rfl⟩
  have HLN := Lib.hid hln
  obtain ⟨B1, s0, s1, hz⟩ := box2 w #[.int .i64 room, .slice a ln c, .bool false, .int .i64 ar, .int .u64 st] #[.int .i64 0, .slice none 0 0, .bool false, .int .i64 0, .int .u64 0] 30 30
  have HB1 := Lib.hid B1
  have HS01 := Lib.hid s0
  have HS11 := Lib.hid s1
  have HZ := Lib.hid hz
  have HR := Lib.hid h
  have HL := Lib.hid hl
  have HSRT := Lib.hid hs
  have HNO := Lib.hid hn
  have HV := Lib.hid hv
  have HRM := Lib.hid hrm
  have HSM := Lib.hid hsm
  have HFR := Lib.hid hfr
  have HM := Lib.hid hm
  have HM2 := Lib.hid hm2
  have HST := Lib.hid hst
  have HA := Lib.hid ha
  rw [hln]
  clear h B1 s0 s1 hz hl hs hn hv hrm hsm hfr hm hm2 hst ha hln
  go_enter Try.func70, Try.ntmps70
  go_upto_region 1 with fail
  obtain ⟨N, hN⟩ : ∃ N, w.heap.size = N := ⟨_, rfl⟩
  have HN := Lib.hid hN
  rw [hN] at HS01 HS11 HZ
  try rw [hN]
  clear hN
  generalize (w.alloc (.cells #[.int .i64 room, .slice a ln c, .bool false, .int .i64 ar, .int .u64 st] 30)).alloc (.cells #[.int .i64 0, .slice none 0 0, .bool false, .int .i64 0, .int .u64 0] 30) = w1 at HS01 HS11 HB1 HZ ⊢
  obtain ⟨c0, c1, c2, c3, c4⟩ := five_rd HS01.out
  have hnm := rnamed n w1
  rw [HV.out] at hnm
  have HNM := Lib.hid hnm
  clear hnm
  go_wp2_with fail
  refine HNM.out.mono ?_
  rintro e wq ⟨rfl, rfl⟩
  clear c0 c1 c2 c3 c4
  obtain ⟨c0, c1, c2, c3, c4⟩ := five_rd HS01.out
  have HC := Lib.hid (rfind room a c false ar st L n w1 (HR.out.below HB1.out) (by have := HL.out; omega))
  have hln := HLN.out
  try rw [hln] at HC
  clear hln
  go_wp2_with fail
  refine HC.out.mono ?_
  rintro e w2 ⟨k, rfl, hk, hb⟩
  clear HC
  clear c0 c1 c2 c3 c4
  obtain rfl := hk.no HNO.out HSRT.out
  clear hk
  have HS02 := Lib.hid (ex_below HS01.out hb)
  have HS12 := Lib.hid (ex_below HS11.out hb)
  have HB2 := Lib.hid (HB1.out.trans (hb.mono HB1.out.size))
  clear HS01 HS11 HB1 hb
  have dg0 : decide ((ln : Int) ≥ 128) = false := decide_eq_false (by have := HM.out; have := HLN.out; omega)
  have dgp0 : ¬ ((ln : Int) ≥ 128) := by have := HM.out; have := HLN.out; omega
  have dg1 : decide (128 ≤ (ln : Int)) = false := decide_eq_false (by have := HM.out; have := HLN.out; omega)
  have dgp1 : ¬ (128 ≤ (ln : Int)) := by have := HM.out; have := HLN.out; omega
  have dg2 : decide (128 ≤ ln) = false := decide_eq_false (by have := HM.out; have := HLN.out; omega)
  have dgp2 : ¬ (128 ≤ ln) := by have := HM.out; have := HLN.out; omega
  have dg3 : decide (ln ≥ 128) = false := decide_eq_false (by have := HM.out; have := HLN.out; omega)
  have dgp3 : ¬ (ln ≥ 128) := by have := HM.out; have := HLN.out; omega
  have HBS : Hid (bs.length ≤ 10000000) := Lib.hid (by have h1 := HM2.out; have h2 := HRM.out; have h3 := HFR.out; split at h3 <;> omega)
  have df0 : decide ((bs.length : Int) > fr) = false := decide_eq_false (by have := HM2.out; omega)
  have dfp0 : ¬ ((bs.length : Int) > fr) := by have := HM2.out; omega
  have df1 : decide (fr < (bs.length : Int)) = false := decide_eq_false (by have := HM2.out; omega)
  have dfp1 : ¬ (fr < (bs.length : Int)) := by have := HM2.out; omega
  have hqs : (str bs).size = bs.length := str_size _
  obtain ⟨c0, c1, c2, c3, c4⟩ := five_rd HS02.out
  have hfr := rfree room a c false ar st L w2 (HR.out.below HB2.out) (by have := HL.out; omega) HRM.out HSM.out
  rw [HFR.out, HLN.out] at hfr
  have HFC := Lib.hid hfr
  clear hfr
  go_wp2_with fail
  refine HFC.out.mono ?_
  rintro e w3 ⟨rfl, hb⟩
  clear HFC
  clear c0 c1 c2 c3 c4
  have HS03 := Lib.hid (ex_below HS02.out hb)
  have HS13 := Lib.hid (ex_below HS12.out hb)
  have HB3 := Lib.hid (HB2.out.trans (hb.mono HB2.out.size))
  clear HS02 HS12 HB2 hb
  go_upto_region 8 with fail
  clear df0 dfp0 df1 dfp1
  clear hqs
  clear dg0 dgp0 dg1 dgp1 dg2 dgp2 dg3 dgp3
  obtain ⟨hbf, hsf, hzf⟩ := box1 w3 #[encStr n, .string ⟨#[]⟩, .int .i64 0] 45
  obtain ⟨NF, hNF⟩ : ∃ NF, w3.heap.size = NF := ⟨_, rfl⟩
  have HNFe := Lib.hid hNF
  have HNF : Hid (N + 1 < NF ∧ w.heap.size ≤ NF) := Lib.hid ⟨by have := ex_lt HS13.out; omega, by have := HB3.out.size; omega⟩
  have HS04 := Lib.hid (ex_below HS03.out hbf)
  have HS14 := Lib.hid (ex_below HS13.out hbf)
  have HB4 := Lib.hid (HB3.out.trans (hbf.mono HB3.out.size))
  rw [hNF] at hsf
  have HF4 := Lib.hid hsf
  clear hbf hsf hzf HS03 HS13 HB3
  go_upto_region 9 with fail
  try rw [hNF]
  clear hNF
  generalize w3.alloc (.cells #[encStr n, .string ⟨#[]⟩, .int .i64 0] 45) = w4 at HS04 HS14 HF4 HB4 ⊢
  have hct := run_cat0 bs (by have := HBS.out; omega)
  obtain ⟨x0, x1, x2⟩ := three_rd HF4.out
  have fHF : ∀ o, w4.frozen? ⟨NF, o, none⟩ = false := fun o => by simp [World.frozen?, HF4.out]
  have hNN := HN.out
  have hZZ := HZ.out
  have HQ_HF : Hid ((w4.setCell ⟨NF, 1, none⟩ (.string (str bs))).heap[NF]? = some (.cells #[encStr n, .string (str bs), .int .i64 0] 45 (0, 0))) := Lib.hid (by rw [heap_setCell_same w4 _ 1 _ _ _ HF4.out]; simp)
  have HQ_HS0 : Hid ((w4.setCell ⟨NF, 1, none⟩ (.string (str bs))).heap[N]? = some (.cells #[.int .i64 room, .slice a ln c, .bool false, .int .i64 ar, .int .u64 st] 30 (0, 0))) := Lib.hid ((Below.heap_setCell _ _ _ _ (show N ≠ NF by have := HNF.out; omega)).trans (HS04.out))
  have HQ_HS1 : Hid ((w4.setCell ⟨NF, 1, none⟩ (.string (str bs))).heap[N + 1]? = some (.cells #[.int .i64 0, .slice none 0 0, .bool false, .int .i64 0, .int .u64 0] 30 (0, 0))) := Lib.hid ((Below.heap_setCell _ _ _ _ (show N + 1 ≠ NF by have := HNF.out; omega)).trans (HS14.out))
  have HQB := Lib.hid (below_two (HB4.out) (show w.heap.size ≤ NF by have := HNF.out; omega) 1 (.string (str bs)))
  clear hNN hZZ
  go_upto_region 12 with fail
  generalize (w4.setCell ⟨NF, 1, none⟩ (.string (str bs))) = w5 at HQ_HS0 HQ_HS1 HQ_HF HQB ⊢
  have HS05 := HQ_HS0
  have HS15 := HQ_HS1
  have HF5 := HQ_HF
  have HB5 := HQB
  clear HQ_HS0 HQ_HS1 HQ_HF HQB HS04 HS14 HF4 HB4
  clear fHF hct
  clear x0 x1 x2
  obtain ⟨c0, c1, c2, c3, c4⟩ := five_rd HS05.out
  obtain ⟨x0, x1, x2⟩ := three_rd HF5.out
  have HC := Lib.hid (rwith room a c false ar st L n ⟨bs, 0⟩ w5 (HR.out.below HB5.out) HL.out)
  have hln := HLN.out
  try rw [hln] at HC
  clear hln
  go_wp2_with fail
  refine HC.out.mono ?_
  rintro e w6 ⟨v, rfl, ho, hb⟩
  clear HC
  clear c0 c1 c2 c3 c4 x0 x1 x2
  obtain ⟨av, cv, hv, -⟩ := ho.row
  obtain ⟨lv, hlv⟩ : ∃ lv, (inF (n, ⟨bs, 0⟩) (woF L n)).length = lv := ⟨_, rfl⟩
  rw [hlv] at hv
  subst hv
  rw [woF_del, in_put n _ HSRT.out] at ho
  have HO := Lib.hid ho
  have HOb : Hid (N + 1 < w5.heap.size ∧ NF < w5.heap.size) := Lib.hid ⟨ex_lt HS15.out, ex_lt HF5.out⟩
  have HLV := Lib.hid hlv
  have HSZ : Hid (w.heap.size ≤ w5.heap.size) := Lib.hid HB5.out.size
  clear ho hlv
  have HS06 := Lib.hid (ex_below HS05.out hb)
  have HS16 := Lib.hid (ex_below HS15.out hb)
  have HF6 := Lib.hid (ex_below HF5.out hb)
  have HB6 := Lib.hid (HB5.out.trans (hb.mono HB5.out.size))
  clear HS05 HS15 HF5 HB5 hb
  obtain ⟨c0, c1, c2, c3, c4⟩ := five_rd HS06.out
  have HC := Lib.hid (rstep_go room av lv cv false ar HA.out st w6 HST.out)
  have hln := HLN.out
  try rw [hln] at HC
  clear hln
  go_wp2_with fail
  refine HC.out.mono ?_
  rintro e w7 ⟨rfl, hb⟩
  clear HC
  clear c0 c1 c2 c3 c4
  have HS07 := Lib.hid (ex_below HS06.out hb)
  have HS17 := Lib.hid (ex_below HS16.out hb)
  have HF7 := Lib.hid (ex_below HF6.out hb)
  have HB7 := Lib.hid (HB6.out.trans (hb.mono HB6.out.size))
  have HO := Lib.hid (HO.out.kept hb)
  clear HS06 HS16 HF6 HB6 hb
  obtain ⟨ar2, har⟩ : ∃ x, arS ar = x := ⟨_, rfl⟩
  try rw [har]
  have HAR := Lib.hid har
  clear har
  obtain ⟨c0, c1, c2, c3, c4⟩ := five_rd HS07.out
  have fHS0 : ∀ o, w7.frozen? ⟨N, o, none⟩ = false := fun o => by simp [World.frozen?, HS07.out]
  have hob0 := HOb.out
  have HOE := Lib.hid hob0
  clear hob0
  have HOb2 := HOb
  have hNN := HN.out
  have hZZ := HZ.out
  have HQ_HS0 := Lib.hid (set5 HS07.out (.int .i64 room) (.slice av lv cv) (.bool false) (.int .i64 ar2) (.int .u64 (st + 1)))
  have HQ_HS1 : Hid ((((((w7.setCell ⟨N, 0, none⟩ (.int .i64 room)).setCell ⟨N, 1, none⟩ (.slice av lv cv)).setCell ⟨N, 2, none⟩ (.bool false)).setCell ⟨N, 3, none⟩ (.int .i64 ar2)).setCell ⟨N, 4, none⟩ (.int .u64 (st + 1))).heap[N + 1]? = some (.cells #[.int .i64 0, .slice none 0 0, .bool false, .int .i64 0, .int .u64 0] 30 (0, 0))) := Lib.hid ((Below.heap_setCell _ _ _ _ (show N + 1 ≠ N by have := HNF.out; omega)).trans ((Below.heap_setCell _ _ _ _ (show N + 1 ≠ N by have := HNF.out; omega)).trans ((Below.heap_setCell _ _ _ _ (show N + 1 ≠ N by have := HNF.out; omega)).trans ((Below.heap_setCell _ _ _ _ (show N + 1 ≠ N by have := HNF.out; omega)).trans ((Below.heap_setCell _ _ _ _ (show N + 1 ≠ N by have := HNF.out; omega)).trans (HS17.out))))))
  have HQ_HF : Hid ((((((w7.setCell ⟨N, 0, none⟩ (.int .i64 room)).setCell ⟨N, 1, none⟩ (.slice av lv cv)).setCell ⟨N, 2, none⟩ (.bool false)).setCell ⟨N, 3, none⟩ (.int .i64 ar2)).setCell ⟨N, 4, none⟩ (.int .u64 (st + 1))).heap[NF]? = some (.cells #[encStr n, .string (str bs), .int .i64 0] 45 (0, 0))) := Lib.hid ((Below.heap_setCell _ _ _ _ (show NF ≠ N by have := HNF.out; omega)).trans ((Below.heap_setCell _ _ _ _ (show NF ≠ N by have := HNF.out; omega)).trans ((Below.heap_setCell _ _ _ _ (show NF ≠ N by have := HNF.out; omega)).trans ((Below.heap_setCell _ _ _ _ (show NF ≠ N by have := HNF.out; omega)).trans ((Below.heap_setCell _ _ _ _ (show NF ≠ N by have := HNF.out; omega)).trans (HF7.out))))))
  have HQB := Lib.hid (below_two (below_two (below_two (below_two (below_two (HB7.out) (show w.heap.size ≤ N by have := HNF.out; omega) 0 (.int .i64 room)) (show w.heap.size ≤ N by have := HNF.out; omega) 1 (.slice av lv cv)) (show w.heap.size ≤ N by have := HNF.out; omega) 2 (.bool false)) (show w.heap.size ≤ N by have := HNF.out; omega) 3 (.int .i64 ar2)) (show w.heap.size ≤ N by have := HNF.out; omega) 4 (.int .u64 (st + 1)))
  have HQO := Lib.hid (OF.set (OF.set (OF.set (OF.set (OF.set (HO.out) (p := ⟨N, 0, none⟩) (show N < _ by have := HOb.out; omega) (.int .i64 room)) (p := ⟨N, 1, none⟩) (show N < _ by have := HOb.out; omega) (.slice av lv cv)) (p := ⟨N, 2, none⟩) (show N < _ by have := HOb.out; omega) (.bool false)) (p := ⟨N, 3, none⟩) (show N < _ by have := HOb.out; omega) (.int .i64 ar2)) (p := ⟨N, 4, none⟩) (show N < _ by have := HOb.out; omega) (.int .u64 (st + 1)))
  clear hNN hZZ
  go_upto_region 13 with fail
  generalize (((((w7.setCell ⟨N, 0, none⟩ (.int .i64 room)).setCell ⟨N, 1, none⟩ (.slice av lv cv)).setCell ⟨N, 2, none⟩ (.bool false)).setCell ⟨N, 3, none⟩ (.int .i64 ar2)).setCell ⟨N, 4, none⟩ (.int .u64 (st + 1))) = w8 at HQ_HS0 HQ_HS1 HQ_HF HQB HQO ⊢
  have HS08 := HQ_HS0
  have HS18 := HQ_HS1
  have HF8 := HQ_HF
  have HB8 := HQB
  have HO := HQO
  clear HQ_HS0 HQ_HS1 HQ_HF HQB HQO HS07 HS17 HF7 HB7
  clear fHS0
  clear c0 c1 c2 c3 c4
  obtain ⟨c0, c1, c2, c3, c4⟩ := five_rd HS08.out
  obtain ⟨p0, p1, p2, p3, p4⟩ := five_rd HS18.out
  have fHS0 : ∀ o, w8.frozen? ⟨N, o, none⟩ = false := fun o => by simp [World.frozen?, HS08.out]
  have fHS1 : ∀ o, w8.frozen? ⟨N + 1, o, none⟩ = false := fun o => by simp [World.frozen?, HS18.out]
  go_wp2_with fail
  refine bodyPost_ret (rd_res rfl _ _ (N + 1) (.int .i64 room) (.slice av lv cv) (.bool false) (.int .i64 ar2) (.int .u64 (st + 1)) rfl (by go_simp) (by go_simp) (by go_simp) (by go_simp) (by go_simp)) rfl ?_
  have hN := HN.out
  have hob := HOb.out
  refine ⟨_, by rw [HAR.out]; rfl, ?_, ?_⟩
  · exact OF.mono (OF.set (OF.set (OF.set (OF.set (OF.set (HO.out) (by show N + 1 < _; omega) _) (by show N + 1 < _; omega) _) (by show N + 1 < _; omega) _) (by show N + 1 < _; omega) _) (by show N + 1 < _; omega) _) HSZ.out
  · exact below_two (below_two (below_two (below_two (below_two (HB8.out) (by omega) _ _) (by omega) _ _) (by omega) _ _) (by omega) _ _) (by omega) _ _
set_option maxRecDepth 100000 in
set_option maxHeartbeats 8000000 in
theorem rappend_full1 (room : Int) (a : Option Addr) (c : Nat) (ar st : Int) (L : Ft) (n : Nm) (bs : List Nat) (fr : Int) (f : Fl) (w : World) (h : FRow w a L) (hl : L.length ≤ 1000) (hs : SrtF L) (hf : getF L n = some f) (hv : validN n = true) (hrm : 0 ≤ room ∧ room ≤ 1048576) (hsm : sumF L ≤ 1000000000) (hfr : (if room < (sumF L : Int) then 0 else room - (sumF L : Int)) = fr) (hm2 : fr < (bs.length : Int)) : Calls Try.prog 70 #[.agg #[.int .i64 room, .slice a L.length c, .bool false, .int .i64 ar, .int .u64 st], encStr n, .string (str bs)] w fun e w' => e = .returned (.tuple #[.agg #[.int .i64 room, .slice a L.length c, .bool false, .int .i64 ar, .int .u64 st], .int .i64 30]) ∧ Below w.heap.size w w' := by
  obtain ⟨ln, hln⟩ : ∃ ln, L.length = ln := ⟨_, rfl⟩
  have HLN := Lib.hid hln
  obtain ⟨B1, s0, s1, hz⟩ := box2 w #[.int .i64 room, .slice a ln c, .bool false, .int .i64 ar, .int .u64 st] #[.int .i64 0, .slice none 0 0, .bool false, .int .i64 0, .int .u64 0] 30 30
  have HB1 := Lib.hid B1
  have HS01 := Lib.hid s0
  have HS11 := Lib.hid s1
  have HZ := Lib.hid hz
  have HR := Lib.hid h
  have HL := Lib.hid hl
  have HSRT := Lib.hid hs
  have HFF := Lib.hid hf
  have HV := Lib.hid hv
  have HRM := Lib.hid hrm
  have HSM := Lib.hid hsm
  have HFR := Lib.hid hfr
  have HM2 := Lib.hid hm2
  rw [hln]
  clear h B1 s0 s1 hz hl hs hf hv hrm hsm hfr hm2 hln
  go_enter Try.func70, Try.ntmps70
  go_upto_region 1 with fail
  obtain ⟨N, hN⟩ : ∃ N, w.heap.size = N := ⟨_, rfl⟩
  have HN := Lib.hid hN
  rw [hN] at HS01 HS11 HZ
  try rw [hN]
  clear hN
  generalize (w.alloc (.cells #[.int .i64 room, .slice a ln c, .bool false, .int .i64 ar, .int .u64 st] 30)).alloc (.cells #[.int .i64 0, .slice none 0 0, .bool false, .int .i64 0, .int .u64 0] 30) = w1 at HS01 HS11 HB1 HZ ⊢
  obtain ⟨c0, c1, c2, c3, c4⟩ := five_rd HS01.out
  have hnm := rnamed n w1
  rw [HV.out] at hnm
  have HNM := Lib.hid hnm
  clear hnm
  go_wp2_with fail
  refine HNM.out.mono ?_
  rintro e wq ⟨rfl, rfl⟩
  clear c0 c1 c2 c3 c4
  obtain ⟨c0, c1, c2, c3, c4⟩ := five_rd HS01.out
  have HC := Lib.hid (rfind room a c false ar st L n w1 (HR.out.below HB1.out) (by have := HL.out; omega))
  have hln := HLN.out
  try rw [hln] at HC
  clear hln
  go_wp2_with fail
  refine HC.out.mono ?_
  rintro e w2 ⟨k, rfl, hk, hb⟩
  clear HC
  clear c0 c1 c2 c3 c4
  obtain ⟨i, b, o, rfl, hiL, rfl, -⟩ := HR.out.found HB1.out HSRT.out HFF.out hk
  have HK := Lib.hid hk
  rw [HLN.out] at hiL
  have HIL := Lib.hid hiL
  clear hk hiL
  have HS02 := Lib.hid (ex_below HS01.out hb)
  have HS12 := Lib.hid (ex_below HS11.out hb)
  have HB2 := Lib.hid (HB1.out.trans (hb.mono HB1.out.size))
  clear HS01 HS11 HB1 hb
  have hi0 : ¬ (i : Int) < 0 := by omega
  have hltz : (i : Int) < (ln : Int) := by have := HIL.out; omega
  have hge : (0 : Int) ≤ (i : Int) := by omega
  have df0 : decide ((bs.length : Int) > fr) = true := decide_eq_true (by have := HM2.out; omega)
  have dfp0 : (bs.length : Int) > fr := by have := HM2.out; omega
  have df1 : decide (fr < (bs.length : Int)) = true := decide_eq_true (by have := HM2.out; omega)
  have dfp1 : fr < (bs.length : Int) := by have := HM2.out; omega
  have hqs : (str bs).size = bs.length := str_size _
  obtain ⟨c0, c1, c2, c3, c4⟩ := five_rd HS02.out
  have hfr := rfree room (some ⟨b, o, none⟩) c false ar st L w2 (HR.out.below HB2.out) (by have := HL.out; omega) HRM.out HSM.out
  rw [HFR.out, HLN.out] at hfr
  have HFC := Lib.hid hfr
  clear hfr
  go_wp2_with fail
  refine HFC.out.mono ?_
  rintro e w3 ⟨rfl, hb⟩
  clear HFC
  clear c0 c1 c2 c3 c4
  have HS03 := Lib.hid (ex_below HS02.out hb)
  have HS13 := Lib.hid (ex_below HS12.out hb)
  have HB3 := Lib.hid (HB2.out.trans (hb.mono HB2.out.size))
  clear HS02 HS12 HB2 hb
  obtain ⟨c0, c1, c2, c3, c4⟩ := five_rd HS03.out
  obtain ⟨p0, p1, p2, p3, p4⟩ := five_rd HS13.out
  have fHS0 : ∀ o, w3.frozen? ⟨N, o, none⟩ = false := fun o => by simp [World.frozen?, HS03.out]
  have fHS1 : ∀ o, w3.frozen? ⟨N + 1, o, none⟩ = false := fun o => by simp [World.frozen?, HS13.out]
  go_wp2_with fail
  refine bodyPost_ret (rd_res rfl _ _ (N + 1) (.int .i64 room) (.slice (some ⟨b, o, none⟩) ln c) (.bool false) (.int .i64 ar) (.int .u64 st) rfl (by go_simp) (by go_simp) (by go_simp) (by go_simp) (by go_simp)) rfl ?_
  have hN := HN.out
  refine ⟨rfl, ?_⟩
  exact below_two (below_two (below_two (below_two (below_two (HB3.out) (by omega) _ _) (by omega) _ _) (by omega) _ _) (by omega) _ _) (by omega) _ _
set_option maxRecDepth 100000 in
set_option maxHeartbeats 8000000 in
theorem rappend_ok1z (room : Int) (a : Option Addr) (c : Nat) (ar st : Int) (L : Ft) (n : Nm) (bs : List Nat) (fr : Int) (f : Fl) (w : World) (h : FRow w a L) (hl : L.length ≤ 1000) (hs : SrtF L) (hf : getF L n = some f) (hv : validN n = true) (hrm : 0 ≤ room ∧ room ≤ 1048576) (hsm : sumF L ≤ 1000000000) (hfr : (if room < (sumF L : Int) then 0 else room - (sumF L : Int)) = fr) (hm2 : (bs.length : Int) ≤ fr) (hst : 0 ≤ st ∧ st < 1000000000) (hfs : f.all.length ≤ 100000000) : Calls Try.prog 70 #[.agg #[.int .i64 room, .slice a L.length c, .bool false, .int .i64 0, .int .u64 st], encStr n, .string (str bs)] w fun e w' => ∃ v, e = .returned (.tuple #[.agg #[.int .i64 room, v, .bool true, .int .i64 (-1), .int .u64 (st + 1)], .int .i64 50]) ∧ OF w' w.heap.size v (putF L n ⟨f.all ++ bs, f.kept⟩) ∧ Below w.heap.size w w' := by
  obtain ⟨ln, hln⟩ : ∃ ln, L.length = ln := ⟨_, rfl⟩
  have HLN := Lib.hid hln
  obtain ⟨B1, s0, s1, hz⟩ := box2 w #[.int .i64 room, .slice a ln c, .bool false, .int .i64 0, .int .u64 st] #[.int .i64 0, .slice none 0 0, .bool false, .int .i64 0, .int .u64 0] 30 30
  have HB1 := Lib.hid B1
  have HS01 := Lib.hid s0
  have HS11 := Lib.hid s1
  have HZ := Lib.hid hz
  have HR := Lib.hid h
  have HL := Lib.hid hl
  have HSRT := Lib.hid hs
  have HFF := Lib.hid hf
  have HV := Lib.hid hv
  have HRM := Lib.hid hrm
  have HSM := Lib.hid hsm
  have HFR := Lib.hid hfr
  have HM2 := Lib.hid hm2
  have HST := Lib.hid hst
  have HFS := Lib.hid hfs
  rw [hln]
  clear h B1 s0 s1 hz hl hs hf hv hrm hsm hfr hm2 hst hfs hln
  go_enter Try.func70, Try.ntmps70
  go_upto_region 1 with fail
  obtain ⟨N, hN⟩ : ∃ N, w.heap.size = N := ⟨_, rfl⟩
  have HN := Lib.hid hN
  rw [hN] at HS01 HS11 HZ
  try rw [hN]
  clear hN
  generalize (w.alloc (.cells #[.int .i64 room, .slice a ln c, .bool false, .int .i64 0, .int .u64 st] 30)).alloc (.cells #[.int .i64 0, .slice none 0 0, .bool false, .int .i64 0, .int .u64 0] 30) = w1 at HS01 HS11 HB1 HZ ⊢
  obtain ⟨c0, c1, c2, c3, c4⟩ := five_rd HS01.out
  have hnm := rnamed n w1
  rw [HV.out] at hnm
  have HNM := Lib.hid hnm
  clear hnm
  go_wp2_with fail
  refine HNM.out.mono ?_
  rintro e wq ⟨rfl, rfl⟩
  clear c0 c1 c2 c3 c4
  obtain ⟨c0, c1, c2, c3, c4⟩ := five_rd HS01.out
  have HC := Lib.hid (rfind room a c false 0 st L n w1 (HR.out.below HB1.out) (by have := HL.out; omega))
  have hln := HLN.out
  try rw [hln] at HC
  clear hln
  go_wp2_with fail
  refine HC.out.mono ?_
  rintro e w2 ⟨k, rfl, hk, hb⟩
  clear HC
  clear c0 c1 c2 c3 c4
  obtain ⟨i, b, o, rfl, hiL, rfl, -⟩ := HR.out.found HB1.out HSRT.out HFF.out hk
  have HK := Lib.hid hk
  rw [HLN.out] at hiL
  have HIL := Lib.hid hiL
  clear hk hiL
  have HS02 := Lib.hid (ex_below HS01.out hb)
  have HS12 := Lib.hid (ex_below HS11.out hb)
  have HB2 := Lib.hid (HB1.out.trans (hb.mono HB1.out.size))
  clear HS01 HS11 HB1 hb
  have hi0 : ¬ (i : Int) < 0 := by omega
  have hltz : (i : Int) < (ln : Int) := by have := HIL.out; omega
  have hge : (0 : Int) ≤ (i : Int) := by omega
  have HBS : Hid (bs.length ≤ 10000000) := Lib.hid (by have h1 := HM2.out; have h2 := HRM.out; have h3 := HFR.out; split at h3 <;> omega)
  have df0 : decide ((bs.length : Int) > fr) = false := decide_eq_false (by have := HM2.out; omega)
  have dfp0 : ¬ ((bs.length : Int) > fr) := by have := HM2.out; omega
  have df1 : decide (fr < (bs.length : Int)) = false := decide_eq_false (by have := HM2.out; omega)
  have dfp1 : ¬ (fr < (bs.length : Int)) := by have := HM2.out; omega
  have hqs : (str bs).size = bs.length := str_size _
  obtain ⟨c0, c1, c2, c3, c4⟩ := five_rd HS02.out
  have hfr := rfree room (some ⟨b, o, none⟩) c false 0 st L w2 (HR.out.below HB2.out) (by have := HL.out; omega) HRM.out HSM.out
  rw [HFR.out, HLN.out] at hfr
  have HFC := Lib.hid hfr
  clear hfr
  go_wp2_with fail
  refine HFC.out.mono ?_
  rintro e w3 ⟨rfl, hb⟩
  clear HFC
  clear c0 c1 c2 c3 c4
  have HS03 := Lib.hid (ex_below HS02.out hb)
  have HS13 := Lib.hid (ex_below HS12.out hb)
  have HB3 := Lib.hid (HB2.out.trans (hb.mono HB2.out.size))
  clear HS02 HS12 HB2 hb
  go_upto_region 8 with fail
  clear df0 dfp0 df1 dfp1
  clear hqs
  obtain ⟨hbf, hsf, hzf⟩ := box1 w3 #[encStr n, .string ⟨#[]⟩, .int .i64 0] 45
  obtain ⟨NF, hNF⟩ : ∃ NF, w3.heap.size = NF := ⟨_, rfl⟩
  have HNFe := Lib.hid hNF
  have HNF : Hid (N + 1 < NF ∧ w.heap.size ≤ NF) := Lib.hid ⟨by have := ex_lt HS13.out; omega, by have := HB3.out.size; omega⟩
  have HS04 := Lib.hid (ex_below HS03.out hbf)
  have HS14 := Lib.hid (ex_below HS13.out hbf)
  have HB4 := Lib.hid (HB3.out.trans (hbf.mono HB3.out.size))
  rw [hNF] at hsf
  have HF4 := Lib.hid hsf
  clear hbf hsf hzf HS03 HS13 HB3
  go_upto_region 9 with fail
  try rw [hNF]
  clear hNF
  generalize w3.alloc (.cells #[encStr n, .string ⟨#[]⟩, .int .i64 0] 45) = w4 at HS04 HS14 HF4 HB4 ⊢
  obtain ⟨j, b', o', e1, -, e2, k0, k1, k2⟩ := HR.out.found HB4.out HSRT.out HFF.out HK.out
  injection e2 with e2
  injection e2 with e2 e3
  subst e2 e3
  obtain rfl : i = j := by omega
  clear e1
  obtain ⟨c0, c1, c2, c3, c4⟩ := five_rd HS04.out
  obtain ⟨x0, x1, x2⟩ := three_rd HF4.out
  have fHF : ∀ o, w4.frozen? ⟨NF, o, none⟩ = false := fun o => by simp [World.frozen?, HF4.out]
  have hNN := HN.out
  have hZZ := HZ.out
  have HQ_HF := Lib.hid (set3 HF4.out (encStr n) (.string (str f.all)) (.int .i64 (f.kept : Int)))
  have HQ_HS0 : Hid ((((w4.setCell ⟨NF, 0, none⟩ (encStr n)).setCell ⟨NF, 1, none⟩ (.string (str f.all))).setCell ⟨NF, 2, none⟩ (.int .i64 (f.kept : Int))).heap[N]? = some (.cells #[.int .i64 room, .slice (some ⟨b, o, none⟩) ln c, .bool false, .int .i64 0, .int .u64 st] 30 (0, 0))) := Lib.hid ((Below.heap_setCell _ _ _ _ (show N ≠ NF by have := HNF.out; omega)).trans ((Below.heap_setCell _ _ _ _ (show N ≠ NF by have := HNF.out; omega)).trans ((Below.heap_setCell _ _ _ _ (show N ≠ NF by have := HNF.out; omega)).trans (HS04.out))))
  have HQ_HS1 : Hid ((((w4.setCell ⟨NF, 0, none⟩ (encStr n)).setCell ⟨NF, 1, none⟩ (.string (str f.all))).setCell ⟨NF, 2, none⟩ (.int .i64 (f.kept : Int))).heap[N + 1]? = some (.cells #[.int .i64 0, .slice none 0 0, .bool false, .int .i64 0, .int .u64 0] 30 (0, 0))) := Lib.hid ((Below.heap_setCell _ _ _ _ (show N + 1 ≠ NF by have := HNF.out; omega)).trans ((Below.heap_setCell _ _ _ _ (show N + 1 ≠ NF by have := HNF.out; omega)).trans ((Below.heap_setCell _ _ _ _ (show N + 1 ≠ NF by have := HNF.out; omega)).trans (HS14.out))))
  have HQB := Lib.hid (below_two (below_two (below_two (HB4.out) (show w.heap.size ≤ NF by have := HNF.out; omega) 0 (encStr n)) (show w.heap.size ≤ NF by have := HNF.out; omega) 1 (.string (str f.all))) (show w.heap.size ≤ NF by have := HNF.out; omega) 2 (.int .i64 (f.kept : Int)))
  clear hNN hZZ
  go_upto_region 11 with fail
  generalize (((w4.setCell ⟨NF, 0, none⟩ (encStr n)).setCell ⟨NF, 1, none⟩ (.string (str f.all))).setCell ⟨NF, 2, none⟩ (.int .i64 (f.kept : Int))) = w5 at HQ_HS0 HQ_HS1 HQ_HF HQB ⊢
  have HS05 := HQ_HS0
  have HS15 := HQ_HS1
  have HF5 := HQ_HF
  have HB5 := HQB
  clear HQ_HS0 HQ_HS1 HQ_HF HQB HS04 HS14 HF4 HB4
  clear fHF k0 k1 k2
  clear x0 x1 x2 c0 c1 c2 c3 c4
  have hct := run_cat f.all bs (by have := HFS.out; have := HBS.out; omega)
  obtain ⟨x0, x1, x2⟩ := three_rd HF5.out
  have fHF : ∀ o, w5.frozen? ⟨NF, o, none⟩ = false := fun o => by simp [World.frozen?, HF5.out]
  have hNN := HN.out
  have hZZ := HZ.out
  have HQ_HF : Hid ((w5.setCell ⟨NF, 1, none⟩ (.string (str (f.all ++ bs)))).heap[NF]? = some (.cells #[encStr n, .string (str (f.all ++ bs)), .int .i64 (f.kept : Int)] 45 (0, 0))) := Lib.hid (by rw [heap_setCell_same w5 _ 1 _ _ _ HF5.out]; simp)
  have HQ_HS0 : Hid ((w5.setCell ⟨NF, 1, none⟩ (.string (str (f.all ++ bs)))).heap[N]? = some (.cells #[.int .i64 room, .slice (some ⟨b, o, none⟩) ln c, .bool false, .int .i64 0, .int .u64 st] 30 (0, 0))) := Lib.hid ((Below.heap_setCell _ _ _ _ (show N ≠ NF by have := HNF.out; omega)).trans (HS05.out))
  have HQ_HS1 : Hid ((w5.setCell ⟨NF, 1, none⟩ (.string (str (f.all ++ bs)))).heap[N + 1]? = some (.cells #[.int .i64 0, .slice none 0 0, .bool false, .int .i64 0, .int .u64 0] 30 (0, 0))) := Lib.hid ((Below.heap_setCell _ _ _ _ (show N + 1 ≠ NF by have := HNF.out; omega)).trans (HS15.out))
  have HQB := Lib.hid (below_two (HB5.out) (show w.heap.size ≤ NF by have := HNF.out; omega) 1 (.string (str (f.all ++ bs))))
  clear hNN hZZ
  go_upto_region 12 with fail
  generalize (w5.setCell ⟨NF, 1, none⟩ (.string (str (f.all ++ bs)))) = w6 at HQ_HS0 HQ_HS1 HQ_HF HQB ⊢
  have HS06 := HQ_HS0
  have HS16 := HQ_HS1
  have HF6 := HQ_HF
  have HB6 := HQB
  clear HQ_HS0 HQ_HS1 HQ_HF HQB HS05 HS15 HF5 HB5
  clear fHF hct
  clear x0 x1 x2
  obtain ⟨c0, c1, c2, c3, c4⟩ := five_rd HS06.out
  obtain ⟨x0, x1, x2⟩ := three_rd HF6.out
  have HC := Lib.hid (rwith room (some ⟨b, o, none⟩) c false 0 st L n ⟨f.all ++ bs, f.kept⟩ w6 (HR.out.below HB6.out) HL.out)
  have hln := HLN.out
  try rw [hln] at HC
  clear hln
  go_wp2_with fail
  refine HC.out.mono ?_
  rintro e w7 ⟨v, rfl, ho, hb⟩
  clear HC
  clear c0 c1 c2 c3 c4 x0 x1 x2
  obtain ⟨av, cv, hv, -⟩ := ho.row
  obtain ⟨lv, hlv⟩ : ∃ lv, (inF (n, ⟨f.all ++ bs, f.kept⟩) (woF L n)).length = lv := ⟨_, rfl⟩
  rw [hlv] at hv
  subst hv
  rw [woF_del, in_put n _ HSRT.out] at ho
  have HO := Lib.hid ho
  have HOb : Hid (N + 1 < w6.heap.size ∧ NF < w6.heap.size) := Lib.hid ⟨ex_lt HS16.out, ex_lt HF6.out⟩
  have HLV := Lib.hid hlv
  have HSZ : Hid (w.heap.size ≤ w6.heap.size) := Lib.hid HB6.out.size
  clear ho hlv
  have HS07 := Lib.hid (ex_below HS06.out hb)
  have HS17 := Lib.hid (ex_below HS16.out hb)
  have HF7 := Lib.hid (ex_below HF6.out hb)
  have HB7 := Lib.hid (HB6.out.trans (hb.mono HB6.out.size))
  clear HS06 HS16 HF6 HB6 hb
  obtain ⟨c0, c1, c2, c3, c4⟩ := five_rd HS07.out
  have HC := Lib.hid (rstep_zero room av lv cv false st w7 HST.out)
  have hln := HLN.out
  try rw [hln] at HC
  clear hln
  go_wp2_with fail
  refine HC.out.mono ?_
  rintro e w8 ⟨rfl, hb⟩
  clear HC
  clear c0 c1 c2 c3 c4
  have HS08 := Lib.hid (ex_below HS07.out hb)
  have HS18 := Lib.hid (ex_below HS17.out hb)
  have HF8 := Lib.hid (ex_below HF7.out hb)
  have HB8 := Lib.hid (HB7.out.trans (hb.mono HB7.out.size))
  have HO := Lib.hid (HO.out.kept hb)
  clear HS07 HS17 HF7 HB7 hb
  obtain ⟨c0, c1, c2, c3, c4⟩ := five_rd HS08.out
  have fHS0 : ∀ o, w8.frozen? ⟨N, o, none⟩ = false := fun o => by simp [World.frozen?, HS08.out]
  have hob0 := HOb.out
  have HOE := Lib.hid hob0
  clear hob0
  have HOb2 := HOb
  have hNN := HN.out
  have hZZ := HZ.out
  have HQ_HS0 := Lib.hid (set5 HS08.out (.int .i64 room) (.slice av lv cv) (.bool true) (.int .i64 (-1)) (.int .u64 (st + 1)))
  have HQ_HS1 : Hid ((((((w8.setCell ⟨N, 0, none⟩ (.int .i64 room)).setCell ⟨N, 1, none⟩ (.slice av lv cv)).setCell ⟨N, 2, none⟩ (.bool true)).setCell ⟨N, 3, none⟩ (.int .i64 (-1))).setCell ⟨N, 4, none⟩ (.int .u64 (st + 1))).heap[N + 1]? = some (.cells #[.int .i64 0, .slice none 0 0, .bool false, .int .i64 0, .int .u64 0] 30 (0, 0))) := Lib.hid ((Below.heap_setCell _ _ _ _ (show N + 1 ≠ N by have := HNF.out; omega)).trans ((Below.heap_setCell _ _ _ _ (show N + 1 ≠ N by have := HNF.out; omega)).trans ((Below.heap_setCell _ _ _ _ (show N + 1 ≠ N by have := HNF.out; omega)).trans ((Below.heap_setCell _ _ _ _ (show N + 1 ≠ N by have := HNF.out; omega)).trans ((Below.heap_setCell _ _ _ _ (show N + 1 ≠ N by have := HNF.out; omega)).trans (HS18.out))))))
  have HQ_HF : Hid ((((((w8.setCell ⟨N, 0, none⟩ (.int .i64 room)).setCell ⟨N, 1, none⟩ (.slice av lv cv)).setCell ⟨N, 2, none⟩ (.bool true)).setCell ⟨N, 3, none⟩ (.int .i64 (-1))).setCell ⟨N, 4, none⟩ (.int .u64 (st + 1))).heap[NF]? = some (.cells #[encStr n, .string (str (f.all ++ bs)), .int .i64 (f.kept : Int)] 45 (0, 0))) := Lib.hid ((Below.heap_setCell _ _ _ _ (show NF ≠ N by have := HNF.out; omega)).trans ((Below.heap_setCell _ _ _ _ (show NF ≠ N by have := HNF.out; omega)).trans ((Below.heap_setCell _ _ _ _ (show NF ≠ N by have := HNF.out; omega)).trans ((Below.heap_setCell _ _ _ _ (show NF ≠ N by have := HNF.out; omega)).trans ((Below.heap_setCell _ _ _ _ (show NF ≠ N by have := HNF.out; omega)).trans (HF8.out))))))
  have HQB := Lib.hid (below_two (below_two (below_two (below_two (below_two (HB8.out) (show w.heap.size ≤ N by have := HNF.out; omega) 0 (.int .i64 room)) (show w.heap.size ≤ N by have := HNF.out; omega) 1 (.slice av lv cv)) (show w.heap.size ≤ N by have := HNF.out; omega) 2 (.bool true)) (show w.heap.size ≤ N by have := HNF.out; omega) 3 (.int .i64 (-1))) (show w.heap.size ≤ N by have := HNF.out; omega) 4 (.int .u64 (st + 1)))
  have HQO := Lib.hid (OF.set (OF.set (OF.set (OF.set (OF.set (HO.out) (p := ⟨N, 0, none⟩) (show N < _ by have := HOb.out; omega) (.int .i64 room)) (p := ⟨N, 1, none⟩) (show N < _ by have := HOb.out; omega) (.slice av lv cv)) (p := ⟨N, 2, none⟩) (show N < _ by have := HOb.out; omega) (.bool true)) (p := ⟨N, 3, none⟩) (show N < _ by have := HOb.out; omega) (.int .i64 (-1))) (p := ⟨N, 4, none⟩) (show N < _ by have := HOb.out; omega) (.int .u64 (st + 1)))
  clear hNN hZZ
  go_upto_region 13 with fail
  generalize (((((w8.setCell ⟨N, 0, none⟩ (.int .i64 room)).setCell ⟨N, 1, none⟩ (.slice av lv cv)).setCell ⟨N, 2, none⟩ (.bool true)).setCell ⟨N, 3, none⟩ (.int .i64 (-1))).setCell ⟨N, 4, none⟩ (.int .u64 (st + 1))) = w9 at HQ_HS0 HQ_HS1 HQ_HF HQB HQO ⊢
  have HS09 := HQ_HS0
  have HS19 := HQ_HS1
  have HF9 := HQ_HF
  have HB9 := HQB
  have HO := HQO
  clear HQ_HS0 HQ_HS1 HQ_HF HQB HQO HS08 HS18 HF8 HB8
  clear fHS0
  clear c0 c1 c2 c3 c4
  obtain ⟨c0, c1, c2, c3, c4⟩ := five_rd HS09.out
  obtain ⟨p0, p1, p2, p3, p4⟩ := five_rd HS19.out
  have fHS0 : ∀ o, w9.frozen? ⟨N, o, none⟩ = false := fun o => by simp [World.frozen?, HS09.out]
  have fHS1 : ∀ o, w9.frozen? ⟨N + 1, o, none⟩ = false := fun o => by simp [World.frozen?, HS19.out]
  go_wp2_with fail
  refine bodyPost_ret (rd_res rfl _ _ (N + 1) (.int .i64 room) (.slice av lv cv) (.bool true) (.int .i64 (-1)) (.int .u64 (st + 1)) rfl (by go_simp) (by go_simp) (by go_simp) (by go_simp) (by go_simp)) rfl ?_
  have hN := HN.out
  have hob := HOb.out
  refine ⟨_, rfl, ?_, ?_⟩
  · exact OF.mono (OF.set (OF.set (OF.set (OF.set (OF.set (HO.out) (by show N + 1 < _; omega) _) (by show N + 1 < _; omega) _) (by show N + 1 < _; omega) _) (by show N + 1 < _; omega) _) (by show N + 1 < _; omega) _) HSZ.out
  · exact below_two (below_two (below_two (below_two (below_two (HB9.out) (by omega) _ _) (by omega) _ _) (by omega) _ _) (by omega) _ _) (by omega) _ _
set_option maxRecDepth 100000 in
set_option maxHeartbeats 8000000 in
theorem rappend_ok1 (room : Int) (a : Option Addr) (c : Nat) (ar st : Int) (L : Ft) (n : Nm) (bs : List Nat) (fr : Int) (f : Fl) (w : World) (h : FRow w a L) (hl : L.length ≤ 1000) (hs : SrtF L) (hf : getF L n = some f) (hv : validN n = true) (hrm : 0 ≤ room ∧ room ≤ 1048576) (hsm : sumF L ≤ 1000000000) (hfr : (if room < (sumF L : Int) then 0 else room - (sumF L : Int)) = fr) (hm2 : (bs.length : Int) ≤ fr) (ha : ar ≠ 0 ∧ ar < 9223372036854775808) (hst : 0 ≤ st ∧ st < 1000000000) (hfs : f.all.length ≤ 100000000) : Calls Try.prog 70 #[.agg #[.int .i64 room, .slice a L.length c, .bool false, .int .i64 ar, .int .u64 st], encStr n, .string (str bs)] w fun e w' => ∃ v, e = .returned (.tuple #[.agg #[.int .i64 room, v, .bool false, .int .i64 (arS ar), .int .u64 (st + 1)], .int .i64 0]) ∧ OF w' w.heap.size v (putF L n ⟨f.all ++ bs, f.kept⟩) ∧ Below w.heap.size w w' := by
  obtain ⟨ln, hln⟩ : ∃ ln, L.length = ln := ⟨_, rfl⟩
  have HLN := Lib.hid hln
  obtain ⟨B1, s0, s1, hz⟩ := box2 w #[.int .i64 room, .slice a ln c, .bool false, .int .i64 ar, .int .u64 st] #[.int .i64 0, .slice none 0 0, .bool false, .int .i64 0, .int .u64 0] 30 30
  have HB1 := Lib.hid B1
  have HS01 := Lib.hid s0
  have HS11 := Lib.hid s1
  have HZ := Lib.hid hz
  have HR := Lib.hid h
  have HL := Lib.hid hl
  have HSRT := Lib.hid hs
  have HFF := Lib.hid hf
  have HV := Lib.hid hv
  have HRM := Lib.hid hrm
  have HSM := Lib.hid hsm
  have HFR := Lib.hid hfr
  have HM2 := Lib.hid hm2
  have HST := Lib.hid hst
  have HA := Lib.hid ha
  have HFS := Lib.hid hfs
  rw [hln]
  clear h B1 s0 s1 hz hl hs hf hv hrm hsm hfr hm2 hst ha hfs hln
  go_enter Try.func70, Try.ntmps70
  go_upto_region 1 with fail
  obtain ⟨N, hN⟩ : ∃ N, w.heap.size = N := ⟨_, rfl⟩
  have HN := Lib.hid hN
  rw [hN] at HS01 HS11 HZ
  try rw [hN]
  clear hN
  generalize (w.alloc (.cells #[.int .i64 room, .slice a ln c, .bool false, .int .i64 ar, .int .u64 st] 30)).alloc (.cells #[.int .i64 0, .slice none 0 0, .bool false, .int .i64 0, .int .u64 0] 30) = w1 at HS01 HS11 HB1 HZ ⊢
  obtain ⟨c0, c1, c2, c3, c4⟩ := five_rd HS01.out
  have hnm := rnamed n w1
  rw [HV.out] at hnm
  have HNM := Lib.hid hnm
  clear hnm
  go_wp2_with fail
  refine HNM.out.mono ?_
  rintro e wq ⟨rfl, rfl⟩
  clear c0 c1 c2 c3 c4
  obtain ⟨c0, c1, c2, c3, c4⟩ := five_rd HS01.out
  have HC := Lib.hid (rfind room a c false ar st L n w1 (HR.out.below HB1.out) (by have := HL.out; omega))
  have hln := HLN.out
  try rw [hln] at HC
  clear hln
  go_wp2_with fail
  refine HC.out.mono ?_
  rintro e w2 ⟨k, rfl, hk, hb⟩
  clear HC
  clear c0 c1 c2 c3 c4
  obtain ⟨i, b, o, rfl, hiL, rfl, -⟩ := HR.out.found HB1.out HSRT.out HFF.out hk
  have HK := Lib.hid hk
  rw [HLN.out] at hiL
  have HIL := Lib.hid hiL
  clear hk hiL
  have HS02 := Lib.hid (ex_below HS01.out hb)
  have HS12 := Lib.hid (ex_below HS11.out hb)
  have HB2 := Lib.hid (HB1.out.trans (hb.mono HB1.out.size))
  clear HS01 HS11 HB1 hb
  have hi0 : ¬ (i : Int) < 0 := by omega
  have hltz : (i : Int) < (ln : Int) := by have := HIL.out; omega
  have hge : (0 : Int) ≤ (i : Int) := by omega
  have HBS : Hid (bs.length ≤ 10000000) := Lib.hid (by have h1 := HM2.out; have h2 := HRM.out; have h3 := HFR.out; split at h3 <;> omega)
  have df0 : decide ((bs.length : Int) > fr) = false := decide_eq_false (by have := HM2.out; omega)
  have dfp0 : ¬ ((bs.length : Int) > fr) := by have := HM2.out; omega
  have df1 : decide (fr < (bs.length : Int)) = false := decide_eq_false (by have := HM2.out; omega)
  have dfp1 : ¬ (fr < (bs.length : Int)) := by have := HM2.out; omega
  have hqs : (str bs).size = bs.length := str_size _
  obtain ⟨c0, c1, c2, c3, c4⟩ := five_rd HS02.out
  have hfr := rfree room (some ⟨b, o, none⟩) c false ar st L w2 (HR.out.below HB2.out) (by have := HL.out; omega) HRM.out HSM.out
  rw [HFR.out, HLN.out] at hfr
  have HFC := Lib.hid hfr
  clear hfr
  go_wp2_with fail
  refine HFC.out.mono ?_
  rintro e w3 ⟨rfl, hb⟩
  clear HFC
  clear c0 c1 c2 c3 c4
  have HS03 := Lib.hid (ex_below HS02.out hb)
  have HS13 := Lib.hid (ex_below HS12.out hb)
  have HB3 := Lib.hid (HB2.out.trans (hb.mono HB2.out.size))
  clear HS02 HS12 HB2 hb
  go_upto_region 8 with fail
  clear df0 dfp0 df1 dfp1
  clear hqs
  obtain ⟨hbf, hsf, hzf⟩ := box1 w3 #[encStr n, .string ⟨#[]⟩, .int .i64 0] 45
  obtain ⟨NF, hNF⟩ : ∃ NF, w3.heap.size = NF := ⟨_, rfl⟩
  have HNFe := Lib.hid hNF
  have HNF : Hid (N + 1 < NF ∧ w.heap.size ≤ NF) := Lib.hid ⟨by have := ex_lt HS13.out; omega, by have := HB3.out.size; omega⟩
  have HS04 := Lib.hid (ex_below HS03.out hbf)
  have HS14 := Lib.hid (ex_below HS13.out hbf)
  have HB4 := Lib.hid (HB3.out.trans (hbf.mono HB3.out.size))
  rw [hNF] at hsf
  have HF4 := Lib.hid hsf
  clear hbf hsf hzf HS03 HS13 HB3
  go_upto_region 9 with fail
  try rw [hNF]
  clear hNF
  generalize w3.alloc (.cells #[encStr n, .string ⟨#[]⟩, .int .i64 0] 45) = w4 at HS04 HS14 HF4 HB4 ⊢
  obtain ⟨j, b', o', e1, -, e2, k0, k1, k2⟩ := HR.out.found HB4.out HSRT.out HFF.out HK.out
  injection e2 with e2
  injection e2 with e2 e3
  subst e2 e3
  obtain rfl : i = j := by omega
  clear e1
  obtain ⟨c0, c1, c2, c3, c4⟩ := five_rd HS04.out
  obtain ⟨x0, x1, x2⟩ := three_rd HF4.out
  have fHF : ∀ o, w4.frozen? ⟨NF, o, none⟩ = false := fun o => by simp [World.frozen?, HF4.out]
  have hNN := HN.out
  have hZZ := HZ.out
  have HQ_HF := Lib.hid (set3 HF4.out (encStr n) (.string (str f.all)) (.int .i64 (f.kept : Int)))
  have HQ_HS0 : Hid ((((w4.setCell ⟨NF, 0, none⟩ (encStr n)).setCell ⟨NF, 1, none⟩ (.string (str f.all))).setCell ⟨NF, 2, none⟩ (.int .i64 (f.kept : Int))).heap[N]? = some (.cells #[.int .i64 room, .slice (some ⟨b, o, none⟩) ln c, .bool false, .int .i64 ar, .int .u64 st] 30 (0, 0))) := Lib.hid ((Below.heap_setCell _ _ _ _ (show N ≠ NF by have := HNF.out; omega)).trans ((Below.heap_setCell _ _ _ _ (show N ≠ NF by have := HNF.out; omega)).trans ((Below.heap_setCell _ _ _ _ (show N ≠ NF by have := HNF.out; omega)).trans (HS04.out))))
  have HQ_HS1 : Hid ((((w4.setCell ⟨NF, 0, none⟩ (encStr n)).setCell ⟨NF, 1, none⟩ (.string (str f.all))).setCell ⟨NF, 2, none⟩ (.int .i64 (f.kept : Int))).heap[N + 1]? = some (.cells #[.int .i64 0, .slice none 0 0, .bool false, .int .i64 0, .int .u64 0] 30 (0, 0))) := Lib.hid ((Below.heap_setCell _ _ _ _ (show N + 1 ≠ NF by have := HNF.out; omega)).trans ((Below.heap_setCell _ _ _ _ (show N + 1 ≠ NF by have := HNF.out; omega)).trans ((Below.heap_setCell _ _ _ _ (show N + 1 ≠ NF by have := HNF.out; omega)).trans (HS14.out))))
  have HQB := Lib.hid (below_two (below_two (below_two (HB4.out) (show w.heap.size ≤ NF by have := HNF.out; omega) 0 (encStr n)) (show w.heap.size ≤ NF by have := HNF.out; omega) 1 (.string (str f.all))) (show w.heap.size ≤ NF by have := HNF.out; omega) 2 (.int .i64 (f.kept : Int)))
  clear hNN hZZ
  go_upto_region 11 with fail
  generalize (((w4.setCell ⟨NF, 0, none⟩ (encStr n)).setCell ⟨NF, 1, none⟩ (.string (str f.all))).setCell ⟨NF, 2, none⟩ (.int .i64 (f.kept : Int))) = w5 at HQ_HS0 HQ_HS1 HQ_HF HQB ⊢
  have HS05 := HQ_HS0
  have HS15 := HQ_HS1
  have HF5 := HQ_HF
  have HB5 := HQB
  clear HQ_HS0 HQ_HS1 HQ_HF HQB HS04 HS14 HF4 HB4
  clear fHF k0 k1 k2
  clear x0 x1 x2 c0 c1 c2 c3 c4
  have hct := run_cat f.all bs (by have := HFS.out; have := HBS.out; omega)
  obtain ⟨x0, x1, x2⟩ := three_rd HF5.out
  have fHF : ∀ o, w5.frozen? ⟨NF, o, none⟩ = false := fun o => by simp [World.frozen?, HF5.out]
  have hNN := HN.out
  have hZZ := HZ.out
  have HQ_HF : Hid ((w5.setCell ⟨NF, 1, none⟩ (.string (str (f.all ++ bs)))).heap[NF]? = some (.cells #[encStr n, .string (str (f.all ++ bs)), .int .i64 (f.kept : Int)] 45 (0, 0))) := Lib.hid (by rw [heap_setCell_same w5 _ 1 _ _ _ HF5.out]; simp)
  have HQ_HS0 : Hid ((w5.setCell ⟨NF, 1, none⟩ (.string (str (f.all ++ bs)))).heap[N]? = some (.cells #[.int .i64 room, .slice (some ⟨b, o, none⟩) ln c, .bool false, .int .i64 ar, .int .u64 st] 30 (0, 0))) := Lib.hid ((Below.heap_setCell _ _ _ _ (show N ≠ NF by have := HNF.out; omega)).trans (HS05.out))
  have HQ_HS1 : Hid ((w5.setCell ⟨NF, 1, none⟩ (.string (str (f.all ++ bs)))).heap[N + 1]? = some (.cells #[.int .i64 0, .slice none 0 0, .bool false, .int .i64 0, .int .u64 0] 30 (0, 0))) := Lib.hid ((Below.heap_setCell _ _ _ _ (show N + 1 ≠ NF by have := HNF.out; omega)).trans (HS15.out))
  have HQB := Lib.hid (below_two (HB5.out) (show w.heap.size ≤ NF by have := HNF.out; omega) 1 (.string (str (f.all ++ bs))))
  clear hNN hZZ
  go_upto_region 12 with fail
  generalize (w5.setCell ⟨NF, 1, none⟩ (.string (str (f.all ++ bs)))) = w6 at HQ_HS0 HQ_HS1 HQ_HF HQB ⊢
  have HS06 := HQ_HS0
  have HS16 := HQ_HS1
  have HF6 := HQ_HF
  have HB6 := HQB
  clear HQ_HS0 HQ_HS1 HQ_HF HQB HS05 HS15 HF5 HB5
  clear fHF hct
  clear x0 x1 x2
  obtain ⟨c0, c1, c2, c3, c4⟩ := five_rd HS06.out
  obtain ⟨x0, x1, x2⟩ := three_rd HF6.out
  have HC := Lib.hid (rwith room (some ⟨b, o, none⟩) c false ar st L n ⟨f.all ++ bs, f.kept⟩ w6 (HR.out.below HB6.out) HL.out)
  have hln := HLN.out
  try rw [hln] at HC
  clear hln
  go_wp2_with fail
  refine HC.out.mono ?_
  rintro e w7 ⟨v, rfl, ho, hb⟩
  clear HC
  clear c0 c1 c2 c3 c4 x0 x1 x2
  obtain ⟨av, cv, hv, -⟩ := ho.row
  obtain ⟨lv, hlv⟩ : ∃ lv, (inF (n, ⟨f.all ++ bs, f.kept⟩) (woF L n)).length = lv := ⟨_, rfl⟩
  rw [hlv] at hv
  subst hv
  rw [woF_del, in_put n _ HSRT.out] at ho
  have HO := Lib.hid ho
  have HOb : Hid (N + 1 < w6.heap.size ∧ NF < w6.heap.size) := Lib.hid ⟨ex_lt HS16.out, ex_lt HF6.out⟩
  have HLV := Lib.hid hlv
  have HSZ : Hid (w.heap.size ≤ w6.heap.size) := Lib.hid HB6.out.size
  clear ho hlv
  have HS07 := Lib.hid (ex_below HS06.out hb)
  have HS17 := Lib.hid (ex_below HS16.out hb)
  have HF7 := Lib.hid (ex_below HF6.out hb)
  have HB7 := Lib.hid (HB6.out.trans (hb.mono HB6.out.size))
  clear HS06 HS16 HF6 HB6 hb
  obtain ⟨c0, c1, c2, c3, c4⟩ := five_rd HS07.out
  have HC := Lib.hid (rstep_go room av lv cv false ar HA.out st w7 HST.out)
  have hln := HLN.out
  try rw [hln] at HC
  clear hln
  go_wp2_with fail
  refine HC.out.mono ?_
  rintro e w8 ⟨rfl, hb⟩
  clear HC
  clear c0 c1 c2 c3 c4
  have HS08 := Lib.hid (ex_below HS07.out hb)
  have HS18 := Lib.hid (ex_below HS17.out hb)
  have HF8 := Lib.hid (ex_below HF7.out hb)
  have HB8 := Lib.hid (HB7.out.trans (hb.mono HB7.out.size))
  have HO := Lib.hid (HO.out.kept hb)
  clear HS07 HS17 HF7 HB7 hb
  obtain ⟨ar2, har⟩ : ∃ x, arS ar = x := ⟨_, rfl⟩
  try rw [har]
  have HAR := Lib.hid har
  clear har
  obtain ⟨c0, c1, c2, c3, c4⟩ := five_rd HS08.out
  have fHS0 : ∀ o, w8.frozen? ⟨N, o, none⟩ = false := fun o => by simp [World.frozen?, HS08.out]
  have hob0 := HOb.out
  have HOE := Lib.hid hob0
  clear hob0
  have HOb2 := HOb
  have hNN := HN.out
  have hZZ := HZ.out
  have HQ_HS0 := Lib.hid (set5 HS08.out (.int .i64 room) (.slice av lv cv) (.bool false) (.int .i64 ar2) (.int .u64 (st + 1)))
  have HQ_HS1 : Hid ((((((w8.setCell ⟨N, 0, none⟩ (.int .i64 room)).setCell ⟨N, 1, none⟩ (.slice av lv cv)).setCell ⟨N, 2, none⟩ (.bool false)).setCell ⟨N, 3, none⟩ (.int .i64 ar2)).setCell ⟨N, 4, none⟩ (.int .u64 (st + 1))).heap[N + 1]? = some (.cells #[.int .i64 0, .slice none 0 0, .bool false, .int .i64 0, .int .u64 0] 30 (0, 0))) := Lib.hid ((Below.heap_setCell _ _ _ _ (show N + 1 ≠ N by have := HNF.out; omega)).trans ((Below.heap_setCell _ _ _ _ (show N + 1 ≠ N by have := HNF.out; omega)).trans ((Below.heap_setCell _ _ _ _ (show N + 1 ≠ N by have := HNF.out; omega)).trans ((Below.heap_setCell _ _ _ _ (show N + 1 ≠ N by have := HNF.out; omega)).trans ((Below.heap_setCell _ _ _ _ (show N + 1 ≠ N by have := HNF.out; omega)).trans (HS18.out))))))
  have HQ_HF : Hid ((((((w8.setCell ⟨N, 0, none⟩ (.int .i64 room)).setCell ⟨N, 1, none⟩ (.slice av lv cv)).setCell ⟨N, 2, none⟩ (.bool false)).setCell ⟨N, 3, none⟩ (.int .i64 ar2)).setCell ⟨N, 4, none⟩ (.int .u64 (st + 1))).heap[NF]? = some (.cells #[encStr n, .string (str (f.all ++ bs)), .int .i64 (f.kept : Int)] 45 (0, 0))) := Lib.hid ((Below.heap_setCell _ _ _ _ (show NF ≠ N by have := HNF.out; omega)).trans ((Below.heap_setCell _ _ _ _ (show NF ≠ N by have := HNF.out; omega)).trans ((Below.heap_setCell _ _ _ _ (show NF ≠ N by have := HNF.out; omega)).trans ((Below.heap_setCell _ _ _ _ (show NF ≠ N by have := HNF.out; omega)).trans ((Below.heap_setCell _ _ _ _ (show NF ≠ N by have := HNF.out; omega)).trans (HF8.out))))))
  have HQB := Lib.hid (below_two (below_two (below_two (below_two (below_two (HB8.out) (show w.heap.size ≤ N by have := HNF.out; omega) 0 (.int .i64 room)) (show w.heap.size ≤ N by have := HNF.out; omega) 1 (.slice av lv cv)) (show w.heap.size ≤ N by have := HNF.out; omega) 2 (.bool false)) (show w.heap.size ≤ N by have := HNF.out; omega) 3 (.int .i64 ar2)) (show w.heap.size ≤ N by have := HNF.out; omega) 4 (.int .u64 (st + 1)))
  have HQO := Lib.hid (OF.set (OF.set (OF.set (OF.set (OF.set (HO.out) (p := ⟨N, 0, none⟩) (show N < _ by have := HOb.out; omega) (.int .i64 room)) (p := ⟨N, 1, none⟩) (show N < _ by have := HOb.out; omega) (.slice av lv cv)) (p := ⟨N, 2, none⟩) (show N < _ by have := HOb.out; omega) (.bool false)) (p := ⟨N, 3, none⟩) (show N < _ by have := HOb.out; omega) (.int .i64 ar2)) (p := ⟨N, 4, none⟩) (show N < _ by have := HOb.out; omega) (.int .u64 (st + 1)))
  clear hNN hZZ
  go_upto_region 13 with fail
  generalize (((((w8.setCell ⟨N, 0, none⟩ (.int .i64 room)).setCell ⟨N, 1, none⟩ (.slice av lv cv)).setCell ⟨N, 2, none⟩ (.bool false)).setCell ⟨N, 3, none⟩ (.int .i64 ar2)).setCell ⟨N, 4, none⟩ (.int .u64 (st + 1))) = w9 at HQ_HS0 HQ_HS1 HQ_HF HQB HQO ⊢
  have HS09 := HQ_HS0
  have HS19 := HQ_HS1
  have HF9 := HQ_HF
  have HB9 := HQB
  have HO := HQO
  clear HQ_HS0 HQ_HS1 HQ_HF HQB HQO HS08 HS18 HF8 HB8
  clear fHS0
  clear c0 c1 c2 c3 c4
  obtain ⟨c0, c1, c2, c3, c4⟩ := five_rd HS09.out
  obtain ⟨p0, p1, p2, p3, p4⟩ := five_rd HS19.out
  have fHS0 : ∀ o, w9.frozen? ⟨N, o, none⟩ = false := fun o => by simp [World.frozen?, HS09.out]
  have fHS1 : ∀ o, w9.frozen? ⟨N + 1, o, none⟩ = false := fun o => by simp [World.frozen?, HS19.out]
  go_wp2_with fail
  refine bodyPost_ret (rd_res rfl _ _ (N + 1) (.int .i64 room) (.slice av lv cv) (.bool false) (.int .i64 ar2) (.int .u64 (st + 1)) rfl (by go_simp) (by go_simp) (by go_simp) (by go_simp) (by go_simp)) rfl ?_
  have hN := HN.out
  have hob := HOb.out
  refine ⟨_, by rw [HAR.out]; rfl, ?_, ?_⟩
  · exact OF.mono (OF.set (OF.set (OF.set (OF.set (OF.set (HO.out) (by show N + 1 < _; omega) _) (by show N + 1 < _; omega) _) (by show N + 1 < _; omega) _) (by show N + 1 < _; omega) _) (by show N + 1 < _; omega) _) HSZ.out
  · exact below_two (below_two (below_two (below_two (below_two (HB9.out) (by omega) _ _) (by omega) _ _) (by omega) _ _) (by omega) _ _) (by omega) _ _
end Go.Proofs.Ythkjjpkipeeimaa
