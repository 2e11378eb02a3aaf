/- The reference's disk: Cut, Append, Read. -/
import Derived.Test.YthkjjpkipeeimaaDrI
import Derived.Laws.Concat
namespace Go.Proofs.Ythkjjpkipeeimaa
open Go.RowKit Go.Maps
theorem str_take (bs : List Nat) (k : Nat) : (str bs).extract 0 k = str (bs.take k) := by
  apply ByteArray.ext
  simp [str, ByteArray.data_extract]
theorem str_drop (bs : List Nat) (k : Nat) : (str bs).extract k (str bs).size = str (bs.drop k) := by
  apply ByteArray.ext
  simp [str, ByteArray.data_extract, ByteArray.size]
  rw [List.take_of_length_le]
  simp
theorem str_cat (x y : List Nat) : str x ++ str y = str (x ++ y) := by
  apply ByteArray.ext
  simp [str, ByteArray.data_append]
theorem run_head (bs : List Nat) (k : Nat) (h : k ≤ bs.length) (w : World) : (Instr.slice 9 (.string (str bs)) none (some (.int .i64 (k : Int))) none).run Try.prog w = .ok (.string (str (bs.take k))) w := by
  rw [run_slice_string_h w 9 (str bs) Try.underlying9 .i64 (k : Int) (by omega) (by rw [str_size]; omega), Int.toNat_natCast, str_take]
theorem run_tail (bs : List Nat) (k : Nat) (h : k ≤ bs.length) (w : World) : (Instr.slice 9 (.string (str bs)) (some (.int .i64 (k : Int))) none none).run Try.prog w = .ok (.string (str (bs.drop k))) w := by
  rw [run_slice_string_l w 9 (str bs) Try.underlying9 .i64 (k : Int) (by omega) (by rw [str_size]; omega), Int.toNat_natCast, str_drop]
theorem run_cat (x y : List Nat) (h : x.length + y.length ≤ 1000000000) (w : World) : (Op.stringOp .add (str x) (str y)).run Try.prog w = .ok (.string (str (x ++ y))) w := by
  rw [run_string_add_sum w _ _ (by rw [str_size, str_size]; omega), str_cat]
set_option maxRecDepth 100000 in
set_option maxHeartbeats 8000000 in
theorem rcut_down (room : Int) (a : Option Addr) (c : Nat) (ar st : Int) (L : Ft) (n : Nm) (kk : Int) (w : World) (h : FRow w a L) (hl : L.length ≤ 1000) : Calls Try.prog 61 #[.agg #[.int .i64 room, .slice a L.length c, .bool true, .int .i64 ar, .int .u64 st], encStr n, .int .i64 kk] w fun e w' => e = .returned (.tuple #[.agg #[.int .i64 room, .slice a L.length c, .bool true, .int .i64 ar, .int .u64 st], .int .i64 50]) ∧ Below w.heap.size w w' := by
  obtain ⟨ln, hln⟩ : ∃ ln, L.length = ln := ⟨_, rfl⟩
  have HLN := Lib.hid hln
  obtain ⟨B1, s0, s1, hz⟩ := box2 w #[.int .i64 room, .slice a ln c, .bool true, .int .i64 ar, .int .u64 st] #[.int .i64 0, .slice none 0 0, .bool false, .int .i64 0, .int .u64 0] 30 30
  have HB1 := Lib.hid B1
  have HS01 := Lib.hid s0
  have HS11 := Lib.hid s1
  have HZ := Lib.hid hz
  have HR := Lib.hid h
  have HL := Lib.hid hl
  rw [hln]
  clear h B1 s0 s1 hz hl hln
  go_enter Try.func61, Try.ntmps61
  go_upto_region 1 with fail
  obtain ⟨N, hN⟩ : ∃ N, w.heap.size = N := ⟨_, rfl⟩
  have HN := Lib.hid hN
  rw [hN] at HS01 HS11 HZ
  try rw [hN]
  clear hN
  generalize (w.alloc (.cells #[.int .i64 room, .slice a ln c, .bool true, .int .i64 ar, .int .u64 st] 30)).alloc (.cells #[.int .i64 0, .slice none 0 0, .bool false, .int .i64 0, .int .u64 0] 30) = w1 at HS01 HS11 HB1 HZ ⊢
  obtain ⟨c0, c1, c2, c3, c4⟩ := five_rd HS01.out
  have HC := Lib.hid (rfind room a c true ar st L n w1 (HR.out.below HB1.out) (by have := HL.out; omega))
  have hln := HLN.out
  try rw [hln] at HC
  clear hln
  go_wp2_with fail
  refine HC.out.mono ?_
  rintro e w2 ⟨k, rfl, -, hb⟩
  clear HC
  clear c0 c1 c2 c3 c4
  have HS02 := Lib.hid (ex_below HS01.out hb)
  have HS12 := Lib.hid (ex_below HS11.out hb)
  have HB2 := Lib.hid (HB1.out.trans (hb.mono HB1.out.size))
  clear HS01 HS11 HB1 hb
  obtain ⟨c0, c1, c2, c3, c4⟩ := five_rd HS02.out
  obtain ⟨p0, p1, p2, p3, p4⟩ := five_rd HS12.out
  have fHS0 : ∀ o, w2.frozen? ⟨N, o, none⟩ = false := fun o => by simp [World.frozen?, HS02.out]
  have fHS1 : ∀ o, w2.frozen? ⟨N + 1, o, none⟩ = false := fun o => by simp [World.frozen?, HS12.out]
  go_wp2_with fail
  refine bodyPost_ret (rd_res rfl _ _ (N + 1) (.int .i64 room) (.slice a ln c) (.bool true) (.int .i64 ar) (.int .u64 st) rfl (by go_simp) (by go_simp) (by go_simp) (by go_simp) (by go_simp)) rfl ?_
  have hN := HN.out
  refine ⟨rfl, ?_⟩
  exact below_two (below_two (below_two (below_two (below_two (HB2.out) (by omega) _ _) (by omega) _ _) (by omega) _ _) (by omega) _ _) (by omega) _ _
set_option maxRecDepth 100000 in
set_option maxHeartbeats 8000000 in
theorem rcut_none (room : Int) (a : Option Addr) (c : Nat) (ar st : Int) (L : Ft) (n : Nm) (kk : Int) (w : World) (h : FRow w a L) (hl : L.length ≤ 1000) (hs : SrtF L) (hn : getF L n = none) : Calls Try.prog 61 #[.agg #[.int .i64 room, .slice a L.length c, .bool false, .int .i64 ar, .int .u64 st], encStr n, .int .i64 kk] w fun e w' => e = .returned (.tuple #[.agg #[.int .i64 room, .slice a L.length c, .bool false, .int .i64 ar, .int .u64 st], .int .i64 31]) ∧ Below w.heap.size w w' := by
  obtain ⟨ln, hln⟩ : ∃ ln, L.length = ln := ⟨_, rfl⟩
  have HLN := Lib.hid hln
  obtain ⟨B1, s0, s1, hz⟩ := box2 w #[.int .i64 room, .slice a ln c, .bool false, .int .i64 ar, .int .u64 st] #[.int .i64 0, .slice none 0 0, .bool false, .int .i64 0, .int .u64 0] 30 30
  have HB1 := Lib.hid B1
  have HS01 := Lib.hid s0
  have HS11 := Lib.hid s1
  have HZ := Lib.hid hz
  have HR := Lib.hid h
  have HL := Lib.hid hl
  have HSRT := Lib.hid hs
  have HNO := Lib.hid hn
  rw [hln]
  clear h B1 s0 s1 hz hl hs hn hln
  go_enter Try.func61, Try.ntmps61
  go_upto_region 1 with fail
  obtain ⟨N, hN⟩ : ∃ N, w.heap.size = N := ⟨_, rfl⟩
  have HN := Lib.hid hN
  rw [hN] at HS01 HS11 HZ
  try rw [hN]
  clear hN
  generalize (w.alloc (.cells #[.int .i64 room, .slice a ln c, .bool false, .int .i64 ar, .int .u64 st] 30)).alloc (.cells #[.int .i64 0, .slice none 0 0, .bool false, .int .i64 0, .int .u64 0] 30) = w1 at HS01 HS11 HB1 HZ ⊢
  obtain ⟨c0, c1, c2, c3, c4⟩ := five_rd HS01.out
  have HC := Lib.hid (rfind room a c false ar st L n w1 (HR.out.below HB1.out) (by have := HL.out; omega))
  have hln := HLN.out
  try rw [hln] at HC
  clear hln
  go_wp2_with fail
  refine HC.out.mono ?_
  rintro e w2 ⟨k, rfl, hk, hb⟩
  clear HC
  clear c0 c1 c2 c3 c4
  obtain rfl := hk.no HNO.out HSRT.out
  clear hk
  have HS02 := Lib.hid (ex_below HS01.out hb)
  have HS12 := Lib.hid (ex_below HS11.out hb)
  have HB2 := Lib.hid (HB1.out.trans (hb.mono HB1.out.size))
  clear HS01 HS11 HB1 hb
  obtain ⟨c0, c1, c2, c3, c4⟩ := five_rd HS02.out
  obtain ⟨p0, p1, p2, p3, p4⟩ := five_rd HS12.out
  have fHS0 : ∀ o, w2.frozen? ⟨N, o, none⟩ = false := fun o => by simp [World.frozen?, HS02.out]
  have fHS1 : ∀ o, w2.frozen? ⟨N + 1, o, none⟩ = false := fun o => by simp [World.frozen?, HS12.out]
  go_wp2_with fail
  refine bodyPost_ret (rd_res rfl _ _ (N + 1) (.int .i64 room) (.slice a ln c) (.bool false) (.int .i64 ar) (.int .u64 st) rfl (by go_simp) (by go_simp) (by go_simp) (by go_simp) (by go_simp)) rfl ?_
  have hN := HN.out
  refine ⟨rfl, ?_⟩
  exact below_two (below_two (below_two (below_two (below_two (HB2.out) (by omega) _ _) (by omega) _ _) (by omega) _ _) (by omega) _ _) (by omega) _ _
set_option maxRecDepth 100000 in
set_option maxHeartbeats 8000000 in
theorem rcut_neg (room : Int) (a : Option Addr) (c : Nat) (ar st : Int) (L : Ft) (n : Nm) (kk : Int) (f : Fl) (w : World) (h : FRow w a L) (hl : L.length ≤ 1000) (hs : SrtF L) (hf : getF L n = some f) (hk0 : kk < 0) : Calls Try.prog 61 #[.agg #[.int .i64 room, .slice a L.length c, .bool false, .int .i64 ar, .int .u64 st], encStr n, .int .i64 kk] w fun e w' => e = .returned (.tuple #[.agg #[.int .i64 room, .slice a L.length c, .bool false, .int .i64 ar, .int .u64 st], .int .i64 2]) ∧ Below w.heap.size w w' := by
  obtain ⟨ln, hln⟩ : ∃ ln, L.length = ln := ⟨_, rfl⟩
  have HLN := Lib.hid hln
  obtain ⟨B1, s0, s1, hz⟩ := box2 w #[.int .i64 room, .slice a ln c, .bool false, .int .i64 ar, .int .u64 st] #[.int .i64 0, .slice none 0 0, .bool false, .int .i64 0, .int .u64 0] 30 30
  have HB1 := Lib.hid B1
  have HS01 := Lib.hid s0
  have HS11 := Lib.hid s1
  have HZ := Lib.hid hz
  have HR := Lib.hid h
  have HL := Lib.hid hl
  have HSRT := Lib.hid hs
  have HFF := Lib.hid hf
  have HKK := Lib.hid hk0
  rw [hln]
  clear h B1 s0 s1 hz hl hs hf hk0 hln
  go_enter Try.func61, Try.ntmps61
  go_upto_region 1 with fail
  obtain ⟨N, hN⟩ : ∃ N, w.heap.size = N := ⟨_, rfl⟩
  have HN := Lib.hid hN
  rw [hN] at HS01 HS11 HZ
  try rw [hN]
  clear hN
  generalize (w.alloc (.cells #[.int .i64 room, .slice a ln c, .bool false, .int .i64 ar, .int .u64 st] 30)).alloc (.cells #[.int .i64 0, .slice none 0 0, .bool false, .int .i64 0, .int .u64 0] 30) = w1 at HS01 HS11 HB1 HZ ⊢
  obtain ⟨c0, c1, c2, c3, c4⟩ := five_rd HS01.out
  have HC := Lib.hid (rfind room a c false ar st L n w1 (HR.out.below HB1.out) (by have := HL.out; omega))
  have hln := HLN.out
  try rw [hln] at HC
  clear hln
  go_wp2_with fail
  refine HC.out.mono ?_
  rintro e w2 ⟨k, rfl, hk, hb⟩
  clear HC
  clear c0 c1 c2 c3 c4
  obtain ⟨i, b, o, rfl, hiL, rfl, -⟩ := HR.out.found HB1.out HSRT.out HFF.out hk
  have HK := Lib.hid hk
  rw [HLN.out] at hiL
  have HIL := Lib.hid hiL
  clear hk hiL
  have HS02 := Lib.hid (ex_below HS01.out hb)
  have HS12 := Lib.hid (ex_below HS11.out hb)
  have HB2 := Lib.hid (HB1.out.trans (hb.mono HB1.out.size))
  clear HS01 HS11 HB1 hb
  have hi0 : ¬ (i : Int) < 0 := by omega
  have hltz : (i : Int) < (ln : Int) := by have := HIL.out; omega
  have hge : (0 : Int) ≤ (i : Int) := by omega
  obtain ⟨j, b', o', e1, -, e2, k0, k1, k2⟩ := HR.out.found HB2.out HSRT.out HFF.out HK.out
  injection e2 with e2
  injection e2 with e2 e3
  subst e2 e3
  obtain rfl : i = j := by omega
  clear e1
  obtain ⟨c0, c1, c2, c3, c4⟩ := five_rd HS02.out
  obtain ⟨hbf, hsf, hzf⟩ := box1 w2 #[encStr n, .string (str f.all), .int .i64 (f.kept : Int)] 45
  obtain ⟨NF, hNF⟩ : ∃ NF, w2.heap.size = NF := ⟨_, rfl⟩
  have HNFe := Lib.hid hNF
  have HNF : Hid (N + 1 < NF ∧ w.heap.size ≤ NF) := Lib.hid ⟨by have := ex_lt HS12.out; omega, by have := HB2.out.size; omega⟩
  have HS03 := Lib.hid (ex_below HS02.out hbf)
  have HS13 := Lib.hid (ex_below HS12.out hbf)
  have HB3 := Lib.hid (HB2.out.trans (hbf.mono HB2.out.size))
  rw [hNF] at hsf
  have HF3 := Lib.hid hsf
  clear hbf hsf hzf HS02 HS12 HB2
  go_upto_region 7 with fail
  try rw [hNF]
  clear hNF
  generalize w2.alloc (.cells #[encStr n, .string (str f.all), .int .i64 (f.kept : Int)] 45) = w3 at HS03 HS13 HF3 HB3 ⊢
  clear k0 k1 k2
  clear c0 c1 c2 c3 c4
  obtain ⟨x0, x1, x2⟩ := three_rd HF3.out
  have hkk := HKK.out
  have dk0 : decide (kk < 0) = true := decide_eq_true hkk
  clear hkk
  obtain ⟨c0, c1, c2, c3, c4⟩ := five_rd HS03.out
  obtain ⟨p0, p1, p2, p3, p4⟩ := five_rd HS13.out
  have fHS0 : ∀ o, w3.frozen? ⟨N, o, none⟩ = false := fun o => by simp [World.frozen?, HS03.out]
  have fHS1 : ∀ o, w3.frozen? ⟨N + 1, o, none⟩ = false := fun o => by simp [World.frozen?, HS13.out]
  go_wp2_with fail
  refine bodyPost_ret (rd_res rfl _ _ (N + 1) (.int .i64 room) (.slice (some ⟨b, o, none⟩) ln c) (.bool false) (.int .i64 ar) (.int .u64 st) rfl (by go_simp) (by go_simp) (by go_simp) (by go_simp) (by go_simp)) rfl ?_
  have hN := HN.out
  refine ⟨rfl, ?_⟩
  exact below_two (below_two (below_two (below_two (below_two (HB3.out) (by omega) _ _) (by omega) _ _) (by omega) _ _) (by omega) _ _) (by omega) _ _
set_option maxRecDepth 100000 in
set_option maxHeartbeats 8000000 in
theorem rcut_big (room : Int) (a : Option Addr) (c : Nat) (ar st : Int) (L : Ft) (n : Nm) (kk : Int) (f : Fl) (w : World) (h : FRow w a L) (hl : L.length ≤ 1000) (hs : SrtF L) (hf : getF L n = some f) (hk0 : 0 ≤ kk ∧ (f.all.length : Int) < kk) : Calls Try.prog 61 #[.agg #[.int .i64 room, .slice a L.length c, .bool false, .int .i64 ar, .int .u64 st], encStr n, .int .i64 kk] w fun e w' => e = .returned (.tuple #[.agg #[.int .i64 room, .slice a L.length c, .bool false, .int .i64 ar, .int .u64 st], .int .i64 2]) ∧ Below w.heap.size w w' := by
  obtain ⟨ln, hln⟩ : ∃ ln, L.length = ln := ⟨_, rfl⟩
  have HLN := Lib.hid hln
  obtain ⟨B1, s0, s1, hz⟩ := box2 w #[.int .i64 room, .slice a ln c, .bool false, .int .i64 ar, .int .u64 st] #[.int .i64 0, .slice none 0 0, .bool false, .int .i64 0, .int .u64 0] 30 30
  have HB1 := Lib.hid B1
  have HS01 := Lib.hid s0
  have HS11 := Lib.hid s1
  have HZ := Lib.hid hz
  have HR := Lib.hid h
  have HL := Lib.hid hl
  have HSRT := Lib.hid hs
  have HFF := Lib.hid hf
  have HKK := Lib.hid hk0
  rw [hln]
  clear h B1 s0 s1 hz hl hs hf hk0 hln
  go_enter Try.func61, Try.ntmps61
  go_upto_region 1 with fail
  obtain ⟨N, hN⟩ : ∃ N, w.heap.size = N := ⟨_, rfl⟩
  have HN := Lib.hid hN
  rw [hN] at HS01 HS11 HZ
  try rw [hN]
  clear hN
  generalize (w.alloc (.cells #[.int .i64 room, .slice a ln c, .bool false, .int .i64 ar, .int .u64 st] 30)).alloc (.cells #[.int .i64 0, .slice none 0 0, .bool false, .int .i64 0, .int .u64 0] 30) = w1 at HS01 HS11 HB1 HZ ⊢
  obtain ⟨c0, c1, c2, c3, c4⟩ := five_rd HS01.out
  have HC := Lib.hid (rfind room a c false ar st L n w1 (HR.out.below HB1.out) (by have := HL.out; omega))
  have hln := HLN.out
  try rw [hln] at HC
  clear hln
  go_wp2_with fail
  refine HC.out.mono ?_
  rintro e w2 ⟨k, rfl, hk, hb⟩
  clear HC
  clear c0 c1 c2 c3 c4
  obtain ⟨i, b, o, rfl, hiL, rfl, -⟩ := HR.out.found HB1.out HSRT.out HFF.out hk
  have HK := Lib.hid hk
  rw [HLN.out] at hiL
  have HIL := Lib.hid hiL
  clear hk hiL
  have HS02 := Lib.hid (ex_below HS01.out hb)
  have HS12 := Lib.hid (ex_below HS11.out hb)
  have HB2 := Lib.hid (HB1.out.trans (hb.mono HB1.out.size))
  clear HS01 HS11 HB1 hb
  have hi0 : ¬ (i : Int) < 0 := by omega
  have hltz : (i : Int) < (ln : Int) := by have := HIL.out; omega
  have hge : (0 : Int) ≤ (i : Int) := by omega
  obtain ⟨j, b', o', e1, -, e2, k0, k1, k2⟩ := HR.out.found HB2.out HSRT.out HFF.out HK.out
  injection e2 with e2
  injection e2 with e2 e3
  subst e2 e3
  obtain rfl : i = j := by omega
  clear e1
  obtain ⟨c0, c1, c2, c3, c4⟩ := five_rd HS02.out
  obtain ⟨hbf, hsf, hzf⟩ := box1 w2 #[encStr n, .string (str f.all), .int .i64 (f.kept : Int)] 45
  obtain ⟨NF, hNF⟩ : ∃ NF, w2.heap.size = NF := ⟨_, rfl⟩
  have HNFe := Lib.hid hNF
  have HNF : Hid (N + 1 < NF ∧ w.heap.size ≤ NF) := Lib.hid ⟨by have := ex_lt HS12.out; omega, by have := HB2.out.size; omega⟩
  have HS03 := Lib.hid (ex_below HS02.out hbf)
  have HS13 := Lib.hid (ex_below HS12.out hbf)
  have HB3 := Lib.hid (HB2.out.trans (hbf.mono HB2.out.size))
  rw [hNF] at hsf
  have HF3 := Lib.hid hsf
  clear hbf hsf hzf HS02 HS12 HB2
  go_upto_region 7 with fail
  try rw [hNF]
  clear hNF
  generalize w2.alloc (.cells #[encStr n, .string (str f.all), .int .i64 (f.kept : Int)] 45) = w3 at HS03 HS13 HF3 HB3 ⊢
  clear k0 k1 k2
  clear c0 c1 c2 c3 c4
  obtain ⟨x0, x1, x2⟩ := three_rd HF3.out
  have hkk := HKK.out
  have dk0 : decide (kk < 0) = false := decide_eq_false (by omega)
  have dk1 : decide (kk > (f.all.length : Int)) = true := decide_eq_true (by omega)
  have dk2 : decide ((f.all.length : Int) < kk) = true := decide_eq_true (by omega)
  have hqs : (str f.all).size = f.all.length := str_size _
  clear hkk
  obtain ⟨c0, c1, c2, c3, c4⟩ := five_rd HS03.out
  obtain ⟨p0, p1, p2, p3, p4⟩ := five_rd HS13.out
  have fHS0 : ∀ o, w3.frozen? ⟨N, o, none⟩ = false := fun o => by simp [World.frozen?, HS03.out]
  have fHS1 : ∀ o, w3.frozen? ⟨N + 1, o, none⟩ = false := fun o => by simp [World.frozen?, HS13.out]
  go_wp2_with fail
  refine bodyPost_ret (rd_res rfl _ _ (N + 1) (.int .i64 room) (.slice (some ⟨b, o, none⟩) ln c) (.bool false) (.int .i64 ar) (.int .u64 st) rfl (by go_simp) (by go_simp) (by go_simp) (by go_simp) (by go_simp)) rfl ?_
  have hN := HN.out
  refine ⟨rfl, ?_⟩
  exact below_two (below_two (below_two (below_two (below_two (HB3.out) (by omega) _ _) (by omega) _ _) (by omega) _ _) (by omega) _ _) (by omega) _ _
set_option maxRecDepth 100000 in
set_option maxHeartbeats 8000000 in
theorem rcut_sd (room : Int) (a : Option Addr) (c : Nat) (ar st : Int) (L : Ft) (n : Nm) (kk : Nat) (f : Fl) (w : World) (h : FRow w a L) (hl : L.length ≤ 1000) (hs : SrtF L) (hf : getF L n = some f) (hk0 : kk ≤ f.all.length) (hst : 0 ≤ st ∧ st < 1000000000) : Calls Try.prog 61 #[.agg #[.int .i64 room, .slice a L.length c, .bool false, .int .i64 0, .int .u64 st], encStr n, .int .i64 (kk : Int)] w fun e w' => e = .returned (.tuple #[.agg #[.int .i64 room, .slice a L.length c, .bool true, .int .i64 (-1), .int .u64 (st + 1)], .int .i64 50]) ∧ Below w.heap.size w w' := by
  obtain ⟨ln, hln⟩ : ∃ ln, L.length = ln := ⟨_, rfl⟩
  have HLN := Lib.hid hln
  obtain ⟨B1, s0, s1, hz⟩ := box2 w #[.int .i64 room, .slice a ln c, .bool false, .int .i64 0, .int .u64 st] #[.int .i64 0, .slice none 0 0, .bool false, .int .i64 0, .int .u64 0] 30 30
  have HB1 := Lib.hid B1
  have HS01 := Lib.hid s0
  have HS11 := Lib.hid s1
  have HZ := Lib.hid hz
  have HR := Lib.hid h
  have HL := Lib.hid hl
  have HSRT := Lib.hid hs
  have HFF := Lib.hid hf
  have HST := Lib.hid hst
  have HKK := Lib.hid hk0
  rw [hln]
  clear h B1 s0 s1 hz hl hs hf hst hk0 hln
  go_enter Try.func61, Try.ntmps61
  go_upto_region 1 with fail
  obtain ⟨N, hN⟩ : ∃ N, w.heap.size = N := ⟨_, rfl⟩
  have HN := Lib.hid hN
  rw [hN] at HS01 HS11 HZ
  try rw [hN]
  clear hN
  generalize (w.alloc (.cells #[.int .i64 room, .slice a ln c, .bool false, .int .i64 0, .int .u64 st] 30)).alloc (.cells #[.int .i64 0, .slice none 0 0, .bool false, .int .i64 0, .int .u64 0] 30) = w1 at HS01 HS11 HB1 HZ ⊢
  obtain ⟨c0, c1, c2, c3, c4⟩ := five_rd HS01.out
  have HC := Lib.hid (rfind room a c false 0 st L n w1 (HR.out.below HB1.out) (by have := HL.out; omega))
  have hln := HLN.out
  try rw [hln] at HC
  clear hln
  go_wp2_with fail
  refine HC.out.mono ?_
  rintro e w2 ⟨k, rfl, hk, hb⟩
  clear HC
  clear c0 c1 c2 c3 c4
  obtain ⟨i, b, o, rfl, hiL, rfl, -⟩ := HR.out.found HB1.out HSRT.out HFF.out hk
  have HK := Lib.hid hk
  rw [HLN.out] at hiL
  have HIL := Lib.hid hiL
  clear hk hiL
  have HS02 := Lib.hid (ex_below HS01.out hb)
  have HS12 := Lib.hid (ex_below HS11.out hb)
  have HB2 := Lib.hid (HB1.out.trans (hb.mono HB1.out.size))
  clear HS01 HS11 HB1 hb
  have hi0 : ¬ (i : Int) < 0 := by omega
  have hltz : (i : Int) < (ln : Int) := by have := HIL.out; omega
  have hge : (0 : Int) ≤ (i : Int) := by omega
  obtain ⟨j, b', o', e1, -, e2, k0, k1, k2⟩ := HR.out.found HB2.out HSRT.out HFF.out HK.out
  injection e2 with e2
  injection e2 with e2 e3
  subst e2 e3
  obtain rfl : i = j := by omega
  clear e1
  obtain ⟨c0, c1, c2, c3, c4⟩ := five_rd HS02.out
  obtain ⟨hbf, hsf, hzf⟩ := box1 w2 #[encStr n, .string (str f.all), .int .i64 (f.kept : Int)] 45
  obtain ⟨NF, hNF⟩ : ∃ NF, w2.heap.size = NF := ⟨_, rfl⟩
  have HNFe := Lib.hid hNF
  have HNF : Hid (N + 1 < NF ∧ w.heap.size ≤ NF) := Lib.hid ⟨by have := ex_lt HS12.out; omega, by have := HB2.out.size; omega⟩
  have HS03 := Lib.hid (ex_below HS02.out hbf)
  have HS13 := Lib.hid (ex_below HS12.out hbf)
  have HB3 := Lib.hid (HB2.out.trans (hbf.mono HB2.out.size))
  rw [hNF] at hsf
  have HF3 := Lib.hid hsf
  clear hbf hsf hzf HS02 HS12 HB2
  go_upto_region 7 with fail
  try rw [hNF]
  clear hNF
  generalize w2.alloc (.cells #[encStr n, .string (str f.all), .int .i64 (f.kept : Int)] 45) = w3 at HS03 HS13 HF3 HB3 ⊢
  clear k0 k1 k2
  clear c0 c1 c2 c3 c4
  obtain ⟨x0, x1, x2⟩ := three_rd HF3.out
  have dk3 : decide (f.all.length < kk) = false := decide_eq_false (by have := HKK.out; omega)
  have dk4 : ¬ f.all.length < kk := by have := HKK.out; omega
  have dk0 : decide ((kk : Int) < 0) = false := decide_eq_false (by omega)
  have dk1 : decide ((kk : Int) > (f.all.length : Int)) = false := decide_eq_false (by have := HKK.out; omega)
  have dk2 : decide ((f.all.length : Int) < (kk : Int)) = false := decide_eq_false (by have := HKK.out; omega)
  have hqs : (str f.all).size = f.all.length := str_size _
  obtain ⟨c0, c1, c2, c3, c4⟩ := five_rd HS03.out
  go_upto_region 9 with fail
  clear c0 c1 c2 c3 c4 x0 x1 x2
  clear dk0 dk1 dk2 dk3 dk4 hqs
  obtain ⟨c0, c1, c2, c3, c4⟩ := five_rd HS03.out
  have HC := Lib.hid (rstep_zero room (some ⟨b, o, none⟩) ln c false st w3 HST.out)
  have hln := HLN.out
  try rw [hln] at HC
  clear hln
  go_wp2_with fail
  refine HC.out.mono ?_
  rintro e w4 ⟨rfl, hb⟩
  clear HC
  clear c0 c1 c2 c3 c4
  have HS04 := Lib.hid (ex_below HS03.out hb)
  have HS14 := Lib.hid (ex_below HS13.out hb)
  have HF4 := Lib.hid (ex_below HF3.out hb)
  have HB4 := Lib.hid (HB3.out.trans (hb.mono HB3.out.size))
  clear HS03 HS13 HF3 HB3 hb
  obtain ⟨c0, c1, c2, c3, c4⟩ := five_rd HS04.out
  have fHS0 : ∀ o, w4.frozen? ⟨N, o, none⟩ = false := fun o => by simp [World.frozen?, HS04.out]
  have hNN := HN.out
  have hZZ := HZ.out
  have HQ_HS0 := Lib.hid (set5 HS04.out (.int .i64 room) (.slice (some ⟨b, o, none⟩) ln c) (.bool true) (.int .i64 (-1)) (.int .u64 (st + 1)))
  have HQ_HS1 : Hid ((((((w4.setCell ⟨N, 0, none⟩ (.int .i64 room)).setCell ⟨N, 1, none⟩ (.slice (some ⟨b, o, none⟩) ln c)).setCell ⟨N, 2, none⟩ (.bool true)).setCell ⟨N, 3, none⟩ (.int .i64 (-1))).setCell ⟨N, 4, none⟩ (.int .u64 (st + 1))).heap[N + 1]? = some (.cells #[.int .i64 0, .slice none 0 0, .bool false, .int .i64 0, .int .u64 0] 30 (0, 0))) := Lib.hid ((Below.heap_setCell _ _ _ _ (show N + 1 ≠ N by have := HNF.out; omega)).trans ((Below.heap_setCell _ _ _ _ (show N + 1 ≠ N by have := HNF.out; omega)).trans ((Below.heap_setCell _ _ _ _ (show N + 1 ≠ N by have := HNF.out; omega)).trans ((Below.heap_setCell _ _ _ _ (show N + 1 ≠ N by have := HNF.out; omega)).trans ((Below.heap_setCell _ _ _ _ (show N + 1 ≠ N by have := HNF.out; omega)).trans (HS14.out))))))
  have HQ_HF : Hid ((((((w4.setCell ⟨N, 0, none⟩ (.int .i64 room)).setCell ⟨N, 1, none⟩ (.slice (some ⟨b, o, none⟩) ln c)).setCell ⟨N, 2, none⟩ (.bool true)).setCell ⟨N, 3, none⟩ (.int .i64 (-1))).setCell ⟨N, 4, none⟩ (.int .u64 (st + 1))).heap[NF]? = some (.cells #[encStr n, .string (str f.all), .int .i64 (f.kept : Int)] 45 (0, 0))) := Lib.hid ((Below.heap_setCell _ _ _ _ (show NF ≠ N by have := HNF.out; omega)).trans ((Below.heap_setCell _ _ _ _ (show NF ≠ N by have := HNF.out; omega)).trans ((Below.heap_setCell _ _ _ _ (show NF ≠ N by have := HNF.out; omega)).trans ((Below.heap_setCell _ _ _ _ (show NF ≠ N by have := HNF.out; omega)).trans ((Below.heap_setCell _ _ _ _ (show NF ≠ N by have := HNF.out; omega)).trans (HF4.out))))))
  have HQB := Lib.hid (below_two (below_two (below_two (below_two (below_two (HB4.out) (show w.heap.size ≤ N by have := HNF.out; omega) 0 (.int .i64 room)) (show w.heap.size ≤ N by have := HNF.out; omega) 1 (.slice (some ⟨b, o, none⟩) ln c)) (show w.heap.size ≤ N by have := HNF.out; omega) 2 (.bool true)) (show w.heap.size ≤ N by have := HNF.out; omega) 3 (.int .i64 (-1))) (show w.heap.size ≤ N by have := HNF.out; omega) 4 (.int .u64 (st + 1)))
  clear hNN hZZ
  go_upto_region 10 with fail
  generalize (((((w4.setCell ⟨N, 0, none⟩ (.int .i64 room)).setCell ⟨N, 1, none⟩ (.slice (some ⟨b, o, none⟩) ln c)).setCell ⟨N, 2, none⟩ (.bool true)).setCell ⟨N, 3, none⟩ (.int .i64 (-1))).setCell ⟨N, 4, none⟩ (.int .u64 (st + 1))) = w5 at HQ_HS0 HQ_HS1 HQ_HF HQB ⊢
  have HS05 := HQ_HS0
  have HS15 := HQ_HS1
  have HF5 := HQ_HF
  have HB5 := HQB
  clear HQ_HS0 HQ_HS1 HQ_HF HQB HS04 HS14 HF4 HB4
  clear fHS0
  clear c0 c1 c2 c3 c4
  obtain ⟨c0, c1, c2, c3, c4⟩ := five_rd HS05.out
  obtain ⟨p0, p1, p2, p3, p4⟩ := five_rd HS15.out
  have fHS0 : ∀ o, w5.frozen? ⟨N, o, none⟩ = false := fun o => by simp [World.frozen?, HS05.out]
  have fHS1 : ∀ o, w5.frozen? ⟨N + 1, o, none⟩ = false := fun o => by simp [World.frozen?, HS15.out]
  go_wp2_with fail
  refine bodyPost_ret (rd_res rfl _ _ (N + 1) (.int .i64 room) (.slice (some ⟨b, o, none⟩) ln c) (.bool true) (.int .i64 (-1)) (.int .u64 (st + 1)) rfl (by go_simp) (by go_simp) (by go_simp) (by go_simp) (by go_simp)) rfl ?_
  have hN := HN.out
  refine ⟨rfl, ?_⟩
  exact below_two (below_two (below_two (below_two (below_two (HB5.out) (by omega) _ _) (by omega) _ _) (by omega) _ _) (by omega) _ _) (by omega) _ _
set_option maxRecDepth 100000 in
set_option maxHeartbeats 8000000 in
theorem rcut_ok1 (room : Int) (a : Option Addr) (c : Nat) (ar st : Int) (L : Ft) (n : Nm) (kk : Nat) (f : Fl) (w : World) (h : FRow w a L) (hl : L.length ≤ 1000) (hs : SrtF L) (hf : getF L n = some f) (hk0 : kk ≤ f.all.length) (hm : kk < f.kept) (ha : ar ≠ 0 ∧ ar < 9223372036854775808) (hst : 0 ≤ st ∧ st < 1000000000) : Calls Try.prog 61 #[.agg #[.int .i64 room, .slice a L.length c, .bool false, .int .i64 ar, .int .u64 st], encStr n, .int .i64 (kk : Int)] w fun e w' => ∃ v, e = .returned (.tuple #[.agg #[.int .i64 room, v, .bool false, .int .i64 (arS ar), .int .u64 (st + 1)], .int .i64 0]) ∧ OF w' w.heap.size v (putF L n ⟨f.all.take kk, kk⟩) ∧ Below w.heap.size w w' := by
  obtain ⟨ln, hln⟩ : ∃ ln, L.length = ln := ⟨_, rfl⟩
  have HLN := Lib.hid hln
  obtain ⟨B1, s0, s1, hz⟩ := box2 w #[.int .i64 room, .slice a ln c, .bool false, .int .i64 ar, .int .u64 st] #[.int .i64 0, .slice none 0 0, .bool false, .int .i64 0, .int .u64 0] 30 30
  have HB1 := Lib.hid B1
  have HS01 := Lib.hid s0
  have HS11 := Lib.hid s1
  have HZ := Lib.hid hz
  have HR := Lib.hid h
  have HL := Lib.hid hl
  have HSRT := Lib.hid hs
  have HFF := Lib.hid hf
  have HST := Lib.hid hst
  have HA := Lib.hid ha
  have HKK := Lib.hid hk0
  have HM := Lib.hid hm
  rw [hln]
  clear h B1 s0 s1 hz hl hs hf hst ha hk0 hm hln
  go_enter Try.func61, Try.ntmps61
  go_upto_region 1 with fail
  obtain ⟨N, hN⟩ : ∃ N, w.heap.size = N := ⟨_, rfl⟩
  have HN := Lib.hid hN
  rw [hN] at HS01 HS11 HZ
  try rw [hN]
  clear hN
  generalize (w.alloc (.cells #[.int .i64 room, .slice a ln c, .bool false, .int .i64 ar, .int .u64 st] 30)).alloc (.cells #[.int .i64 0, .slice none 0 0, .bool false, .int .i64 0, .int .u64 0] 30) = w1 at HS01 HS11 HB1 HZ ⊢
  obtain ⟨c0, c1, c2, c3, c4⟩ := five_rd HS01.out
  have HC := Lib.hid (rfind room a c false ar st L n w1 (HR.out.below HB1.out) (by have := HL.out; omega))
  have hln := HLN.out
  try rw [hln] at HC
  clear hln
  go_wp2_with fail
  refine HC.out.mono ?_
  rintro e w2 ⟨k, rfl, hk, hb⟩
  clear HC
  clear c0 c1 c2 c3 c4
  obtain ⟨i, b, o, rfl, hiL, rfl, -⟩ := HR.out.found HB1.out HSRT.out HFF.out hk
  have HK := Lib.hid hk
  rw [HLN.out] at hiL
  have HIL := Lib.hid hiL
  clear hk hiL
  have HS02 := Lib.hid (ex_below HS01.out hb)
  have HS12 := Lib.hid (ex_below HS11.out hb)
  have HB2 := Lib.hid (HB1.out.trans (hb.mono HB1.out.size))
  clear HS01 HS11 HB1 hb
  have hi0 : ¬ (i : Int) < 0 := by omega
  have hltz : (i : Int) < (ln : Int) := by have := HIL.out; omega
  have hge : (0 : Int) ≤ (i : Int) := by omega
  obtain ⟨j, b', o', e1, -, e2, k0, k1, k2⟩ := HR.out.found HB2.out HSRT.out HFF.out HK.out
  injection e2 with e2
  injection e2 with e2 e3
  subst e2 e3
  obtain rfl : i = j := by omega
  clear e1
  obtain ⟨c0, c1, c2, c3, c4⟩ := five_rd HS02.out
  obtain ⟨hbf, hsf, hzf⟩ := box1 w2 #[encStr n, .string (str f.all), .int .i64 (f.kept : Int)] 45
  obtain ⟨NF, hNF⟩ : ∃ NF, w2.heap.size = NF := ⟨_, rfl⟩
  have HNFe := Lib.hid hNF
  have HNF : Hid (N + 1 < NF ∧ w.heap.size ≤ NF) := Lib.hid ⟨by have := ex_lt HS12.out; omega, by have := HB2.out.size; omega⟩
  have HS03 := Lib.hid (ex_below HS02.out hbf)
  have HS13 := Lib.hid (ex_below HS12.out hbf)
  have HB3 := Lib.hid (HB2.out.trans (hbf.mono HB2.out.size))
  rw [hNF] at hsf
  have HF3 := Lib.hid hsf
  clear hbf hsf hzf HS02 HS12 HB2
  go_upto_region 7 with fail
  try rw [hNF]
  clear hNF
  generalize w2.alloc (.cells #[encStr n, .string (str f.all), .int .i64 (f.kept : Int)] 45) = w3 at HS03 HS13 HF3 HB3 ⊢
  clear k0 k1 k2
  clear c0 c1 c2 c3 c4
  obtain ⟨x0, x1, x2⟩ := three_rd HF3.out
  have dk3 : decide (f.all.length < kk) = false := decide_eq_false (by have := HKK.out; omega)
  have dk4 : ¬ f.all.length < kk := by have := HKK.out; omega
  have dk0 : decide ((kk : Int) < 0) = false := decide_eq_false (by omega)
  have dk1 : decide ((kk : Int) > (f.all.length : Int)) = false := decide_eq_false (by have := HKK.out; omega)
  have dk2 : decide ((f.all.length : Int) < (kk : Int)) = false := decide_eq_false (by have := HKK.out; omega)
  have hqs : (str f.all).size = f.all.length := str_size _
  obtain ⟨c0, c1, c2, c3, c4⟩ := five_rd HS03.out
  go_upto_region 9 with fail
  clear c0 c1 c2 c3 c4 x0 x1 x2
  clear dk0 dk1 dk2 dk3 dk4 hqs
  obtain ⟨c0, c1, c2, c3, c4⟩ := five_rd HS03.out
  have HC := Lib.hid (rstep_go room (some ⟨b, o, none⟩) ln c false ar HA.out st w3 HST.out)
  have hln := HLN.out
  try rw [hln] at HC
  clear hln
  go_wp2_with fail
  refine HC.out.mono ?_
  rintro e w4 ⟨rfl, hb⟩
  clear HC
  clear c0 c1 c2 c3 c4
  have HS04 := Lib.hid (ex_below HS03.out hb)
  have HS14 := Lib.hid (ex_below HS13.out hb)
  have HF4 := Lib.hid (ex_below HF3.out hb)
  have HB4 := Lib.hid (HB3.out.trans (hb.mono HB3.out.size))
  clear HS03 HS13 HF3 HB3 hb
  obtain ⟨ar2, har⟩ : ∃ x, arS ar = x := ⟨_, rfl⟩
  try rw [har]
  have HAR := Lib.hid har
  clear har
  obtain ⟨c0, c1, c2, c3, c4⟩ := five_rd HS04.out
  have fHS0 : ∀ o, w4.frozen? ⟨N, o, none⟩ = false := fun o => by simp [World.frozen?, HS04.out]
  have hNN := HN.out
  have hZZ := HZ.out
  have HQ_HS0 := Lib.hid (set5 HS04.out (.int .i64 room) (.slice (some ⟨b, o, none⟩) ln c) (.bool false) (.int .i64 ar2) (.int .u64 (st + 1)))
  have HQ_HS1 : Hid ((((((w4.setCell ⟨N, 0, none⟩ (.int .i64 room)).setCell ⟨N, 1, none⟩ (.slice (some ⟨b, o, none⟩) ln c)).setCell ⟨N, 2, none⟩ (.bool false)).setCell ⟨N, 3, none⟩ (.int .i64 ar2)).setCell ⟨N, 4, none⟩ (.int .u64 (st + 1))).heap[N + 1]? = some (.cells #[.int .i64 0, .slice none 0 0, .bool false, .int .i64 0, .int .u64 0] 30 (0, 0))) := Lib.hid ((Below.heap_setCell _ _ _ _ (show N + 1 ≠ N by have := HNF.out; omega)).trans ((Below.heap_setCell _ _ _ _ (show N + 1 ≠ N by have := HNF.out; omega)).trans ((Below.heap_setCell _ _ _ _ (show N + 1 ≠ N by have := HNF.out; omega)).trans ((Below.heap_setCell _ _ _ _ (show N + 1 ≠ N by have := HNF.out; omega)).trans ((Below.heap_setCell _ _ _ _ (show N + 1 ≠ N by have := HNF.out; omega)).trans (HS14.out))))))
  have HQ_HF : Hid ((((((w4.setCell ⟨N, 0, none⟩ (.int .i64 room)).setCell ⟨N, 1, none⟩ (.slice (some ⟨b, o, none⟩) ln c)).setCell ⟨N, 2, none⟩ (.bool false)).setCell ⟨N, 3, none⟩ (.int .i64 ar2)).setCell ⟨N, 4, none⟩ (.int .u64 (st + 1))).heap[NF]? = some (.cells #[encStr n, .string (str f.all), .int .i64 (f.kept : Int)] 45 (0, 0))) := Lib.hid ((Below.heap_setCell _ _ _ _ (show NF ≠ N by have := HNF.out; omega)).trans ((Below.heap_setCell _ _ _ _ (show NF ≠ N by have := HNF.out; omega)).trans ((Below.heap_setCell _ _ _ _ (show NF ≠ N by have := HNF.out; omega)).trans ((Below.heap_setCell _ _ _ _ (show NF ≠ N by have := HNF.out; omega)).trans ((Below.heap_setCell _ _ _ _ (show NF ≠ N by have := HNF.out; omega)).trans (HF4.out))))))
  have HQB := Lib.hid (below_two (below_two (below_two (below_two (below_two (HB4.out) (show w.heap.size ≤ N by have := HNF.out; omega) 0 (.int .i64 room)) (show w.heap.size ≤ N by have := HNF.out; omega) 1 (.slice (some ⟨b, o, none⟩) ln c)) (show w.heap.size ≤ N by have := HNF.out; omega) 2 (.bool false)) (show w.heap.size ≤ N by have := HNF.out; omega) 3 (.int .i64 ar2)) (show w.heap.size ≤ N by have := HNF.out; omega) 4 (.int .u64 (st + 1)))
  clear hNN hZZ
  go_upto_region 10 with fail
  generalize (((((w4.setCell ⟨N, 0, none⟩ (.int .i64 room)).setCell ⟨N, 1, none⟩ (.slice (some ⟨b, o, none⟩) ln c)).setCell ⟨N, 2, none⟩ (.bool false)).setCell ⟨N, 3, none⟩ (.int .i64 ar2)).setCell ⟨N, 4, none⟩ (.int .u64 (st + 1))) = w5 at HQ_HS0 HQ_HS1 HQ_HF HQB ⊢
  have HS05 := HQ_HS0
  have HS15 := HQ_HS1
  have HF5 := HQ_HF
  have HB5 := HQB
  clear HQ_HS0 HQ_HS1 HQ_HF HQB HS04 HS14 HF4 HB4
  clear fHS0
  clear c0 c1 c2 c3 c4
  obtain ⟨x0, x1, x2⟩ := three_rd HF5.out
  have fHF : ∀ o, w5.frozen? ⟨NF, o, none⟩ = false := fun o => by simp [World.frozen?, HF5.out]
  have hsl := run_head f.all kk HKK.out
  obtain ⟨c0, c1, c2, c3, c4⟩ := five_rd HS05.out
  have hNN := HN.out
  have hZZ := HZ.out
  have HQ_HF : Hid ((w5.setCell ⟨NF, 1, none⟩ (.string (str (f.all.take kk)))).heap[NF]? = some (.cells #[encStr n, .string (str (f.all.take kk)), .int .i64 (f.kept : Int)] 45 (0, 0))) := Lib.hid (by rw [heap_setCell_same w5 _ 1 _ _ _ HF5.out]; simp)
  have HQ_HS0 : Hid ((w5.setCell ⟨NF, 1, none⟩ (.string (str (f.all.take kk)))).heap[N]? = some (.cells #[.int .i64 room, .slice (some ⟨b, o, none⟩) ln c, .bool false, .int .i64 ar2, .int .u64 (st + 1)] 30 (0, 0))) := Lib.hid ((Below.heap_setCell _ _ _ _ (show N ≠ NF by have := HNF.out; omega)).trans (HS05.out))
  have HQ_HS1 : Hid ((w5.setCell ⟨NF, 1, none⟩ (.string (str (f.all.take kk)))).heap[N + 1]? = some (.cells #[.int .i64 0, .slice none 0 0, .bool false, .int .i64 0, .int .u64 0] 30 (0, 0))) := Lib.hid ((Below.heap_setCell _ _ _ _ (show N + 1 ≠ NF by have := HNF.out; omega)).trans (HS15.out))
  have HQB := Lib.hid (below_two (HB5.out) (show w.heap.size ≤ NF by have := HNF.out; omega) 1 (.string (str (f.all.take kk))))
  clear hNN hZZ
  go_upto_region 13 with fail
  generalize (w5.setCell ⟨NF, 1, none⟩ (.string (str (f.all.take kk)))) = w6 at HQ_HS0 HQ_HS1 HQ_HF HQB ⊢
  have HS06 := HQ_HS0
  have HS16 := HQ_HS1
  have HF6 := HQ_HF
  have HB6 := HQB
  clear HQ_HS0 HQ_HS1 HQ_HF HQB HS05 HS15 HF5 HB5
  clear fHF hsl
  clear x0 x1 x2 c0 c1 c2 c3 c4
  have dm3 : decide (kk < f.kept) = true := decide_eq_true HM.out
  have dm4 : kk < f.kept := HM.out
  have dm : decide ((f.kept : Int) > (kk : Int)) = true := decide_eq_true (by have := HM.out; omega)
  have dm2 : decide ((kk : Int) < (f.kept : Int)) = true := decide_eq_true (by have := HM.out; omega)
  obtain ⟨x0, x1, x2⟩ := three_rd HF6.out
  have fHF : ∀ o, w6.frozen? ⟨NF, o, none⟩ = false := fun o => by simp [World.frozen?, HF6.out]
  have hNN := HN.out
  have hZZ := HZ.out
  have HQ_HF : Hid ((w6.setCell ⟨NF, 2, none⟩ (.int .i64 (kk : Int))).heap[NF]? = some (.cells #[encStr n, .string (str (f.all.take kk)), .int .i64 (kk : Int)] 45 (0, 0))) := Lib.hid (by rw [heap_setCell_same w6 _ 2 _ _ _ HF6.out]; simp)
  have HQ_HS0 : Hid ((w6.setCell ⟨NF, 2, none⟩ (.int .i64 (kk : Int))).heap[N]? = some (.cells #[.int .i64 room, .slice (some ⟨b, o, none⟩) ln c, .bool false, .int .i64 ar2, .int .u64 (st + 1)] 30 (0, 0))) := Lib.hid ((Below.heap_setCell _ _ _ _ (show N ≠ NF by have := HNF.out; omega)).trans (HS06.out))
  have HQ_HS1 : Hid ((w6.setCell ⟨NF, 2, none⟩ (.int .i64 (kk : Int))).heap[N + 1]? = some (.cells #[.int .i64 0, .slice none 0 0, .bool false, .int .i64 0, .int .u64 0] 30 (0, 0))) := Lib.hid ((Below.heap_setCell _ _ _ _ (show N + 1 ≠ NF by have := HNF.out; omega)).trans (HS16.out))
  have HQB := Lib.hid (below_two (HB6.out) (show w.heap.size ≤ NF by have := HNF.out; omega) 2 (.int .i64 (kk : Int)))
  clear hNN hZZ
  go_upto_region 15 with fail
  generalize (w6.setCell ⟨NF, 2, none⟩ (.int .i64 (kk : Int))) = w7 at HQ_HS0 HQ_HS1 HQ_HF HQB ⊢
  have HS07 := HQ_HS0
  have HS17 := HQ_HS1
  have HF7 := HQ_HF
  have HB7 := HQB
  clear HQ_HS0 HQ_HS1 HQ_HF HQB HS06 HS16 HF6 HB6
  clear fHF dm dm2 dm3 dm4
  clear x0 x1 x2
  obtain ⟨c0, c1, c2, c3, c4⟩ := five_rd HS07.out
  obtain ⟨x0, x1, x2⟩ := three_rd HF7.out
  have HC := Lib.hid (rwith room (some ⟨b, o, none⟩) c false ar2 (st + 1) L n ⟨f.all.take kk, kk⟩ w7 (HR.out.below HB7.out) HL.out)
  have hln := HLN.out
  try rw [hln] at HC
  clear hln
  go_wp2_with fail
  refine HC.out.mono ?_
  rintro e w8 ⟨v, rfl, ho, hb⟩
  clear HC
  clear c0 c1 c2 c3 c4 x0 x1 x2
  obtain ⟨av, cv, hv, -⟩ := ho.row
  obtain ⟨lv, hlv⟩ : ∃ lv, (inF (n, ⟨f.all.take kk, kk⟩) (woF L n)).length = lv := ⟨_, rfl⟩
  rw [hlv] at hv
  subst hv
  rw [woF_del, in_put n _ HSRT.out] at ho
  have HO := Lib.hid ho
  have HOb : Hid (N + 1 < w7.heap.size ∧ NF < w7.heap.size) := Lib.hid ⟨ex_lt HS17.out, ex_lt HF7.out⟩
  have HLV := Lib.hid hlv
  have HSZ : Hid (w.heap.size ≤ w7.heap.size) := Lib.hid HB7.out.size
  clear ho hlv
  have HS08 := Lib.hid (ex_below HS07.out hb)
  have HS18 := Lib.hid (ex_below HS17.out hb)
  have HF8 := Lib.hid (ex_below HF7.out hb)
  have HB8 := Lib.hid (HB7.out.trans (hb.mono HB7.out.size))
  clear HS07 HS17 HF7 HB7 hb
  obtain ⟨c0, c1, c2, c3, c4⟩ := five_rd HS08.out
  obtain ⟨p0, p1, p2, p3, p4⟩ := five_rd HS18.out
  have fHS0 : ∀ o, w8.frozen? ⟨N, o, none⟩ = false := fun o => by simp [World.frozen?, HS08.out]
  have fHS1 : ∀ o, w8.frozen? ⟨N + 1, o, none⟩ = false := fun o => by simp [World.frozen?, HS18.out]
  go_wp2_with fail
  refine bodyPost_ret (rd_res rfl _ _ (N + 1) (.int .i64 room) (.slice av lv cv) (.bool false) (.int .i64 ar2) (.int .u64 (st + 1)) rfl (by go_simp) (by go_simp) (by go_simp) (by go_simp) (by go_simp)) rfl ?_
  have hN := HN.out
  have hob := HOb.out
  refine ⟨_, by rw [HAR.out]; rfl, ?_, ?_⟩
  · exact OF.mono (OF.set (OF.set (OF.set (OF.set (OF.set (HO.out) (by show N + 1 < _; omega) _) (by show N + 1 < _; omega) _) (by show N + 1 < _; omega) _) (by show N + 1 < _; omega) _) (by show N + 1 < _; omega) _) HSZ.out
  · exact below_two (below_two (below_two (below_two (below_two (HB8.out) (by omega) _ _) (by omega) _ _) (by omega) _ _) (by omega) _ _) (by omega) _ _
set_option maxRecDepth 100000 in
set_option maxHeartbeats 8000000 in
theorem rcut_ok2 (room : Int) (a : Option Addr) (c : Nat) (ar st : Int) (L : Ft) (n : Nm) (kk : Nat) (f : Fl) (w : World) (h : FRow w a L) (hl : L.length ≤ 1000) (hs : SrtF L) (hf : getF L n = some f) (hk0 : kk ≤ f.all.length) (hm : f.kept ≤ kk) (ha : ar ≠ 0 ∧ ar < 9223372036854775808) (hst : 0 ≤ st ∧ st < 1000000000) : Calls Try.prog 61 #[.agg #[.int .i64 room, .slice a L.length c, .bool false, .int .i64 ar, .int .u64 st], encStr n, .int .i64 (kk : Int)] w fun e w' => ∃ v, e = .returned (.tuple #[.agg #[.int .i64 room, v, .bool false, .int .i64 (arS ar), .int .u64 (st + 1)], .int .i64 0]) ∧ OF w' w.heap.size v (putF L n ⟨f.all.take kk, f.kept⟩) ∧ Below w.heap.size w w' := by
  obtain ⟨ln, hln⟩ : ∃ ln, L.length = ln := ⟨_, rfl⟩
  have HLN := Lib.hid hln
  obtain ⟨B1, s0, s1, hz⟩ := box2 w #[.int .i64 room, .slice a ln c, .bool false, .int .i64 ar, .int .u64 st] #[.int .i64 0, .slice none 0 0, .bool false, .int .i64 0, .int .u64 0] 30 30
  have HB1 := Lib.hid B1
  have HS01 := Lib.hid s0
  have HS11 := Lib.hid s1
  have HZ := Lib.hid hz
  have HR := Lib.hid h
  have HL := Lib.hid hl
  have HSRT := Lib.hid hs
  have HFF := Lib.hid hf
  have HST := Lib.hid hst
  have HA := Lib.hid ha
  have HKK := Lib.hid hk0
  have HM := Lib.hid hm
  rw [hln]
  clear h B1 s0 s1 hz hl hs hf hst ha hk0 hm hln
  go_enter Try.func61, Try.ntmps61
  go_upto_region 1 with fail
  obtain ⟨N, hN⟩ : ∃ N, w.heap.size = N := ⟨_, rfl⟩
  have HN := Lib.hid hN
  rw [hN] at HS01 HS11 HZ
  try rw [hN]
  clear hN
  generalize (w.alloc (.cells #[.int .i64 room, .slice a ln c, .bool false, .int .i64 ar, .int .u64 st] 30)).alloc (.cells #[.int .i64 0, .slice none 0 0, .bool false, .int .i64 0, .int .u64 0] 30) = w1 at HS01 HS11 HB1 HZ ⊢
  obtain ⟨c0, c1, c2, c3, c4⟩ := five_rd HS01.out
  have HC := Lib.hid (rfind room a c false ar st L n w1 (HR.out.below HB1.out) (by have := HL.out; omega))
  have hln := HLN.out
  try rw [hln] at HC
  clear hln
  go_wp2_with fail
  refine HC.out.mono ?_
  rintro e w2 ⟨k, rfl, hk, hb⟩
  clear HC
  clear c0 c1 c2 c3 c4
  obtain ⟨i, b, o, rfl, hiL, rfl, -⟩ := HR.out.found HB1.out HSRT.out HFF.out hk
  have HK := Lib.hid hk
  rw [HLN.out] at hiL
  have HIL := Lib.hid hiL
  clear hk hiL
  have HS02 := Lib.hid (ex_below HS01.out hb)
  have HS12 := Lib.hid (ex_below HS11.out hb)
  have HB2 := Lib.hid (HB1.out.trans (hb.mono HB1.out.size))
  clear HS01 HS11 HB1 hb
  have hi0 : ¬ (i : Int) < 0 := by omega
  have hltz : (i : Int) < (ln : Int) := by have := HIL.out; omega
  have hge : (0 : Int) ≤ (i : Int) := by omega
  obtain ⟨j, b', o', e1, -, e2, k0, k1, k2⟩ := HR.out.found HB2.out HSRT.out HFF.out HK.out
  injection e2 with e2
  injection e2 with e2 e3
  subst e2 e3
  obtain rfl : i = j := by omega
  clear e1
  obtain ⟨c0, c1, c2, c3, c4⟩ := five_rd HS02.out
  obtain ⟨hbf, hsf, hzf⟩ := box1 w2 #[encStr n, .string (str f.all), .int .i64 (f.kept : Int)] 45
  obtain ⟨NF, hNF⟩ : ∃ NF, w2.heap.size = NF := ⟨_, rfl⟩
  have HNFe := Lib.hid hNF
  have HNF : Hid (N + 1 < NF ∧ w.heap.size ≤ NF) := Lib.hid ⟨by have := ex_lt HS12.out; omega, by have := HB2.out.size; omega⟩
  have HS03 := Lib.hid (ex_below HS02.out hbf)
  have HS13 := Lib.hid (ex_below HS12.out hbf)
  have HB3 := Lib.hid (HB2.out.trans (hbf.mono HB2.out.size))
  rw [hNF] at hsf
  have HF3 := Lib.hid hsf
  clear hbf hsf hzf HS02 HS12 HB2
  go_upto_region 7 with fail
  try rw [hNF]
  clear hNF
  generalize w2.alloc (.cells #[encStr n, .string (str f.all), .int .i64 (f.kept : Int)] 45) = w3 at HS03 HS13 HF3 HB3 ⊢
  clear k0 k1 k2
  clear c0 c1 c2 c3 c4
  obtain ⟨x0, x1, x2⟩ := three_rd HF3.out
  have dk3 : decide (f.all.length < kk) = false := decide_eq_false (by have := HKK.out; omega)
  have dk4 : ¬ f.all.length < kk := by have := HKK.out; omega
  have dk0 : decide ((kk : Int) < 0) = false := decide_eq_false (by omega)
  have dk1 : decide ((kk : Int) > (f.all.length : Int)) = false := decide_eq_false (by have := HKK.out; omega)
  have dk2 : decide ((f.all.length : Int) < (kk : Int)) = false := decide_eq_false (by have := HKK.out; omega)
  have hqs : (str f.all).size = f.all.length := str_size _
  obtain ⟨c0, c1, c2, c3, c4⟩ := five_rd HS03.out
  go_upto_region 9 with fail
  clear c0 c1 c2 c3 c4 x0 x1 x2
  clear dk0 dk1 dk2 dk3 dk4 hqs
  obtain ⟨c0, c1, c2, c3, c4⟩ := five_rd HS03.out
  have HC := Lib.hid (rstep_go room (some ⟨b, o, none⟩) ln c false ar HA.out st w3 HST.out)
  have hln := HLN.out
  try rw [hln] at HC
  clear hln
  go_wp2_with fail
  refine HC.out.mono ?_
  rintro e w4 ⟨rfl, hb⟩
  clear HC
  clear c0 c1 c2 c3 c4
  have HS04 := Lib.hid (ex_below HS03.out hb)
  have HS14 := Lib.hid (ex_below HS13.out hb)
  have HF4 := Lib.hid (ex_below HF3.out hb)
  have HB4 := Lib.hid (HB3.out.trans (hb.mono HB3.out.size))
  clear HS03 HS13 HF3 HB3 hb
  obtain ⟨ar2, har⟩ : ∃ x, arS ar = x := ⟨_, rfl⟩
  try rw [har]
  have HAR := Lib.hid har
  clear har
  obtain ⟨c0, c1, c2, c3, c4⟩ := five_rd HS04.out
  have fHS0 : ∀ o, w4.frozen? ⟨N, o, none⟩ = false := fun o => by simp [World.frozen?, HS04.out]
  have hNN := HN.out
  have hZZ := HZ.out
  have HQ_HS0 := Lib.hid (set5 HS04.out (.int .i64 room) (.slice (some ⟨b, o, none⟩) ln c) (.bool false) (.int .i64 ar2) (.int .u64 (st + 1)))
  have HQ_HS1 : Hid ((((((w4.setCell ⟨N, 0, none⟩ (.int .i64 room)).setCell ⟨N, 1, none⟩ (.slice (some ⟨b, o, none⟩) ln c)).setCell ⟨N, 2, none⟩ (.bool false)).setCell ⟨N, 3, none⟩ (.int .i64 ar2)).setCell ⟨N, 4, none⟩ (.int .u64 (st + 1))).heap[N + 1]? = some (.cells #[.int .i64 0, .slice none 0 0, .bool false, .int .i64 0, .int .u64 0] 30 (0, 0))) := Lib.hid ((Below.heap_setCell _ _ _ _ (show N + 1 ≠ N by have := HNF.out; omega)).trans ((Below.heap_setCell _ _ _ _ (show N + 1 ≠ N by have := HNF.out; omega)).trans ((Below.heap_setCell _ _ _ _ (show N + 1 ≠ N by have := HNF.out; omega)).trans ((Below.heap_setCell _ _ _ _ (show N + 1 ≠ N by have := HNF.out; omega)).trans ((Below.heap_setCell _ _ _ _ (show N + 1 ≠ N by have := HNF.out; omega)).trans (HS14.out))))))
  have HQ_HF : Hid ((((((w4.setCell ⟨N, 0, none⟩ (.int .i64 room)).setCell ⟨N, 1, none⟩ (.slice (some ⟨b, o, none⟩) ln c)).setCell ⟨N, 2, none⟩ (.bool false)).setCell ⟨N, 3, none⟩ (.int .i64 ar2)).setCell ⟨N, 4, none⟩ (.int .u64 (st + 1))).heap[NF]? = some (.cells #[encStr n, .string (str f.all), .int .i64 (f.kept : Int)] 45 (0, 0))) := Lib.hid ((Below.heap_setCell _ _ _ _ (show NF ≠ N by have := HNF.out; omega)).trans ((Below.heap_setCell _ _ _ _ (show NF ≠ N by have := HNF.out; omega)).trans ((Below.heap_setCell _ _ _ _ (show NF ≠ N by have := HNF.out; omega)).trans ((Below.heap_setCell _ _ _ _ (show NF ≠ N by have := HNF.out; omega)).trans ((Below.heap_setCell _ _ _ _ (show NF ≠ N by have := HNF.out; omega)).trans (HF4.out))))))
  have HQB := Lib.hid (below_two (below_two (below_two (below_two (below_two (HB4.out) (show w.heap.size ≤ N by have := HNF.out; omega) 0 (.int .i64 room)) (show w.heap.size ≤ N by have := HNF.out; omega) 1 (.slice (some ⟨b, o, none⟩) ln c)) (show w.heap.size ≤ N by have := HNF.out; omega) 2 (.bool false)) (show w.heap.size ≤ N by have := HNF.out; omega) 3 (.int .i64 ar2)) (show w.heap.size ≤ N by have := HNF.out; omega) 4 (.int .u64 (st + 1)))
  clear hNN hZZ
  go_upto_region 10 with fail
  generalize (((((w4.setCell ⟨N, 0, none⟩ (.int .i64 room)).setCell ⟨N, 1, none⟩ (.slice (some ⟨b, o, none⟩) ln c)).setCell ⟨N, 2, none⟩ (.bool false)).setCell ⟨N, 3, none⟩ (.int .i64 ar2)).setCell ⟨N, 4, none⟩ (.int .u64 (st + 1))) = w5 at HQ_HS0 HQ_HS1 HQ_HF HQB ⊢
  have HS05 := HQ_HS0
  have HS15 := HQ_HS1
  have HF5 := HQ_HF
  have HB5 := HQB
  clear HQ_HS0 HQ_HS1 HQ_HF HQB HS04 HS14 HF4 HB4
  clear fHS0
  clear c0 c1 c2 c3 c4
  obtain ⟨x0, x1, x2⟩ := three_rd HF5.out
  have fHF : ∀ o, w5.frozen? ⟨NF, o, none⟩ = false := fun o => by simp [World.frozen?, HF5.out]
  have hsl := run_head f.all kk HKK.out
  obtain ⟨c0, c1, c2, c3, c4⟩ := five_rd HS05.out
  have hNN := HN.out
  have hZZ := HZ.out
  have HQ_HF : Hid ((w5.setCell ⟨NF, 1, none⟩ (.string (str (f.all.take kk)))).heap[NF]? = some (.cells #[encStr n, .string (str (f.all.take kk)), .int .i64 (f.kept : Int)] 45 (0, 0))) := Lib.hid (by rw [heap_setCell_same w5 _ 1 _ _ _ HF5.out]; simp)
  have HQ_HS0 : Hid ((w5.setCell ⟨NF, 1, none⟩ (.string (str (f.all.take kk)))).heap[N]? = some (.cells #[.int .i64 room, .slice (some ⟨b, o, none⟩) ln c, .bool false, .int .i64 ar2, .int .u64 (st + 1)] 30 (0, 0))) := Lib.hid ((Below.heap_setCell _ _ _ _ (show N ≠ NF by have := HNF.out; omega)).trans (HS05.out))
  have HQ_HS1 : Hid ((w5.setCell ⟨NF, 1, none⟩ (.string (str (f.all.take kk)))).heap[N + 1]? = some (.cells #[.int .i64 0, .slice none 0 0, .bool false, .int .i64 0, .int .u64 0] 30 (0, 0))) := Lib.hid ((Below.heap_setCell _ _ _ _ (show N + 1 ≠ NF by have := HNF.out; omega)).trans (HS15.out))
  have HQB := Lib.hid (below_two (HB5.out) (show w.heap.size ≤ NF by have := HNF.out; omega) 1 (.string (str (f.all.take kk))))
  clear hNN hZZ
  go_upto_region 13 with fail
  generalize (w5.setCell ⟨NF, 1, none⟩ (.string (str (f.all.take kk)))) = w6 at HQ_HS0 HQ_HS1 HQ_HF HQB ⊢
  have HS06 := HQ_HS0
  have HS16 := HQ_HS1
  have HF6 := HQ_HF
  have HB6 := HQB
  clear HQ_HS0 HQ_HS1 HQ_HF HQB HS05 HS15 HF5 HB5
  clear fHF hsl
  clear x0 x1 x2 c0 c1 c2 c3 c4
  have dm3 : decide (kk < f.kept) = false := decide_eq_false (by have := HM.out; omega)
  have dm4 : ¬ kk < f.kept := by have := HM.out; omega
  have dm : decide ((f.kept : Int) > (kk : Int)) = false := decide_eq_false (by have := HM.out; omega)
  have dm2 : decide ((kk : Int) < (f.kept : Int)) = false := decide_eq_false (by have := HM.out; omega)
  obtain ⟨x0, x1, x2⟩ := three_rd HF6.out
  go_upto_region 15 with fail
  clear dm dm2 dm3 dm4
  clear x0 x1 x2
  obtain ⟨c0, c1, c2, c3, c4⟩ := five_rd HS06.out
  obtain ⟨x0, x1, x2⟩ := three_rd HF6.out
  have HC := Lib.hid (rwith room (some ⟨b, o, none⟩) c false ar2 (st + 1) L n ⟨f.all.take kk, f.kept⟩ w6 (HR.out.below HB6.out) HL.out)
  have hln := HLN.out
  try rw [hln] at HC
  clear hln
  go_wp2_with fail
  refine HC.out.mono ?_
  rintro e w7 ⟨v, rfl, ho, hb⟩
  clear HC
  clear c0 c1 c2 c3 c4 x0 x1 x2
  obtain ⟨av, cv, hv, -⟩ := ho.row
  obtain ⟨lv, hlv⟩ : ∃ lv, (inF (n, ⟨f.all.take kk, f.kept⟩) (woF L n)).length = lv := ⟨_, rfl⟩
  rw [hlv] at hv
  subst hv
  rw [woF_del, in_put n _ HSRT.out] at ho
  have HO := Lib.hid ho
  have HOb : Hid (N + 1 < w6.heap.size ∧ NF < w6.heap.size) := Lib.hid ⟨ex_lt HS16.out, ex_lt HF6.out⟩
  have HLV := Lib.hid hlv
  have HSZ : Hid (w.heap.size ≤ w6.heap.size) := Lib.hid HB6.out.size
  clear ho hlv
  have HS07 := Lib.hid (ex_below HS06.out hb)
  have HS17 := Lib.hid (ex_below HS16.out hb)
  have HF7 := Lib.hid (ex_below HF6.out hb)
  have HB7 := Lib.hid (HB6.out.trans (hb.mono HB6.out.size))
  clear HS06 HS16 HF6 HB6 hb
  obtain ⟨c0, c1, c2, c3, c4⟩ := five_rd HS07.out
  obtain ⟨p0, p1, p2, p3, p4⟩ := five_rd HS17.out
  have fHS0 : ∀ o, w7.frozen? ⟨N, o, none⟩ = false := fun o => by simp [World.frozen?, HS07.out]
  have fHS1 : ∀ o, w7.frozen? ⟨N + 1, o, none⟩ = false := fun o => by simp [World.frozen?, HS17.out]
  go_wp2_with fail
  refine bodyPost_ret (rd_res rfl _ _ (N + 1) (.int .i64 room) (.slice av lv cv) (.bool false) (.int .i64 ar2) (.int .u64 (st + 1)) rfl (by go_simp) (by go_simp) (by go_simp) (by go_simp) (by go_simp)) rfl ?_
  have hN := HN.out
  have hob := HOb.out
  refine ⟨_, by rw [HAR.out]; rfl, ?_, ?_⟩
  · exact OF.mono (OF.set (OF.set (OF.set (OF.set (OF.set (HO.out) (by show N + 1 < _; omega) _) (by show N + 1 < _; omega) _) (by show N + 1 < _; omega) _) (by show N + 1 < _; omega) _) (by show N + 1 < _; omega) _) HSZ.out
  · exact below_two (below_two (below_two (below_two (below_two (HB7.out) (by omega) _ _) (by omega) _ _) (by omega) _ _) (by omega) _ _) (by omega) _ _
set_option maxRecDepth 100000 in
set_option maxHeartbeats 8000000 in
theorem rread_down (room : Int) (a : Option Addr) (c : Nat) (ar st : Int) (L : Ft) (n : Nm) (w : World) (h : FRow w a L) (hl : L.length ≤ 1000) : Calls Try.prog 64 #[.agg #[.int .i64 room, .slice a L.length c, .bool true, .int .i64 ar, .int .u64 st], encStr n] w fun e w' => e = .returned (.tuple #[.string (str []), .int .i64 50]) ∧ Below w.heap.size w w' := by
  obtain ⟨ln, hln⟩ : ∃ ln, L.length = ln := ⟨_, rfl⟩
  have HLN := Lib.hid hln
  obtain ⟨B1, s0, hz⟩ := box1 w #[.int .i64 room, .slice a ln c, .bool true, .int .i64 ar, .int .u64 st] 30
  have HB1 := Lib.hid B1
  have HS01 := Lib.hid s0
  have HZ := Lib.hid hz
  have HR := Lib.hid h
  have HL := Lib.hid hl
  rw [hln]
  clear h B1 s0 hz hln hl
  go_enter Try.func64, Try.ntmps64
  go_upto_region 1 with fail
  obtain ⟨N, hN⟩ : ∃ N, w.heap.size = N := ⟨_, rfl⟩
  have HN := Lib.hid hN
  rw [hN] at HS01 HZ
  try rw [hN]
  clear hN
  generalize w.alloc (.cells #[.int .i64 room, .slice a ln c, .bool true, .int .i64 ar, .int .u64 st] 30) = w1 at HS01 HB1 HZ ⊢
  obtain ⟨c0, c1, c2, c3, c4⟩ := five_rd HS01.out
  go_wp2_with fail
  refine bodyPost_ret (results_tmp2 rfl _ _ _) rfl ?_
  exact ⟨rfl, HB1.out⟩
set_option maxRecDepth 100000 in
set_option maxHeartbeats 8000000 in
theorem rread_none (room : Int) (a : Option Addr) (c : Nat) (ar st : Int) (L : Ft) (n : Nm) (w : World) (h : FRow w a L) (hl : L.length ≤ 1000) (hs : SrtF L) (hn : getF L n = none) : Calls Try.prog 64 #[.agg #[.int .i64 room, .slice a L.length c, .bool false, .int .i64 ar, .int .u64 st], encStr n] w fun e w' => e = .returned (.tuple #[.string (str []), .int .i64 31]) ∧ Below w.heap.size w w' := by
  obtain ⟨ln, hln⟩ : ∃ ln, L.length = ln := ⟨_, rfl⟩
  have HLN := Lib.hid hln
  obtain ⟨B1, s0, hz⟩ := box1 w #[.int .i64 room, .slice a ln c, .bool false, .int .i64 ar, .int .u64 st] 30
  have HB1 := Lib.hid B1
  have HS01 := Lib.hid s0
  have HZ := Lib.hid hz
  have HR := Lib.hid h
  have HL := Lib.hid hl
  have HSRT := Lib.hid hs
  have HNO := Lib.hid hn
  rw [hln]
  clear h B1 s0 hz hln hl hs hn
  go_enter Try.func64, Try.ntmps64
  go_upto_region 1 with fail
  obtain ⟨N, hN⟩ : ∃ N, w.heap.size = N := ⟨_, rfl⟩
  have HN := Lib.hid hN
  rw [hN] at HS01 HZ
  try rw [hN]
  clear hN
  generalize w.alloc (.cells #[.int .i64 room, .slice a ln c, .bool false, .int .i64 ar, .int .u64 st] 30) = w1 at HS01 HB1 HZ ⊢
  obtain ⟨c0, c1, c2, c3, c4⟩ := five_rd HS01.out
  go_upto_region 3 with fail
  clear c0 c1 c2 c3 c4
  obtain ⟨c0, c1, c2, c3, c4⟩ := five_rd HS01.out
  have HC := Lib.hid (rfind room a c false ar st L n w1 (HR.out.below HB1.out) (by have := HL.out; omega))
  have hln := HLN.out
  try rw [hln] at HC
  clear hln
  go_wp2_with fail
  refine HC.out.mono ?_
  rintro e w2 ⟨k, rfl, hk, hb⟩
  clear HC
  clear c0 c1 c2 c3 c4
  obtain rfl := hk.no HNO.out HSRT.out
  clear hk
  have HS02 := Lib.hid (ex_below HS01.out hb)
  have HB2 := Lib.hid (HB1.out.trans (hb.mono HB1.out.size))
  clear HS01 HB1 hb
  go_wp2_with fail
  refine bodyPost_ret (results_tmp2 rfl _ _ _) rfl ?_
  exact ⟨rfl, HB2.out⟩
set_option maxRecDepth 100000 in
set_option maxHeartbeats 8000000 in
theorem rread_ok (room : Int) (a : Option Addr) (c : Nat) (ar st : Int) (L : Ft) (n : Nm) (f : Fl) (w : World) (h : FRow w a L) (hl : L.length ≤ 1000) (hs : SrtF L) (hf : getF L n = some f) : Calls Try.prog 64 #[.agg #[.int .i64 room, .slice a L.length c, .bool false, .int .i64 ar, .int .u64 st], encStr n] w fun e w' => e = .returned (.tuple #[.string (str f.all), .int .i64 0]) ∧ Below w.heap.size w w' := by
  obtain ⟨ln, hln⟩ : ∃ ln, L.length = ln := ⟨_, rfl⟩
  have HLN := Lib.hid hln
  obtain ⟨B1, s0, hz⟩ := box1 w #[.int .i64 room, .slice a ln c, .bool false, .int .i64 ar, .int .u64 st] 30
  have HB1 := Lib.hid B1
  have HS01 := Lib.hid s0
  have HZ := Lib.hid hz
  have HR := Lib.hid h
  have HL := Lib.hid hl
  have HSRT := Lib.hid hs
  have HFF := Lib.hid hf
  rw [hln]
  clear h B1 s0 hz hln hl hs hf
  go_enter Try.func64, Try.ntmps64
  go_upto_region 1 with fail
  obtain ⟨N, hN⟩ : ∃ N, w.heap.size = N := ⟨_, rfl⟩
  have HN := Lib.hid hN
  rw [hN] at HS01 HZ
  try rw [hN]
  clear hN
  generalize w.alloc (.cells #[.int .i64 room, .slice a ln c, .bool false, .int .i64 ar, .int .u64 st] 30) = w1 at HS01 HB1 HZ ⊢
  obtain ⟨c0, c1, c2, c3, c4⟩ := five_rd HS01.out
  go_upto_region 3 with fail
  clear c0 c1 c2 c3 c4
  obtain ⟨c0, c1, c2, c3, c4⟩ := five_rd HS01.out
  have HC := Lib.hid (rfind room a c false ar st L n w1 (HR.out.below HB1.out) (by have := HL.out; omega))
  have hln := HLN.out
  try rw [hln] at HC
  clear hln
  go_wp2_with fail
  refine HC.out.mono ?_
  rintro e w2 ⟨k, rfl, hk, hb⟩
  clear HC
  clear c0 c1 c2 c3 c4
  obtain ⟨i, b, o, rfl, hiL, rfl, -⟩ := HR.out.found HB1.out HSRT.out HFF.out hk
  have HK := Lib.hid hk
  rw [HLN.out] at hiL
  have HIL := Lib.hid hiL
  clear hk hiL
  have HS02 := Lib.hid (ex_below HS01.out hb)
  have HB2 := Lib.hid (HB1.out.trans (hb.mono HB1.out.size))
  clear HS01 HB1 hb
  have hi0 : ¬ (i : Int) < 0 := by omega
  have hltz : (i : Int) < (ln : Int) := by have := HIL.out; omega
  have hge : (0 : Int) ≤ (i : Int) := by omega
  obtain ⟨j, b', o', e1, -, e2, k0, k1, k2⟩ := HR.out.found HB2.out HSRT.out HFF.out HK.out
  injection e2 with e2
  injection e2 with e2 e3
  subst e2 e3
  obtain rfl : i = j := by omega
  clear e1
  obtain ⟨c0, c1, c2, c3, c4⟩ := five_rd HS02.out
  go_wp2_with fail
  refine bodyPost_ret (results_tmp2 rfl _ _ _) rfl ?_
  exact ⟨rfl, HB2.out⟩
end Go.Proofs.Ythkjjpkipeeimaa
