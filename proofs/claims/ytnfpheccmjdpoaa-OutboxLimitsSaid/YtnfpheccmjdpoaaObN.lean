/- The outbox: what is refused. -/
import Derived.Test.YtnfpheccmjdpoaaObK
namespace Go.Proofs.Ytnfpheccmjdpoaa
open Go.RowKit
set_option maxRecDepth 100000 in
set_option maxHeartbeats 8000000 in
theorem try_none (b : Nat) (last : Int) (l : List Nt) (id now : Int) (w : World) (h : BX w b last l) (h2 : ∀ x ∈ l, x.id ≠ id) : Calls Try.prog 20 #[.pointer (some ⟨b, 0, none⟩), .int .u64 id, .int .i64 now] w fun e w' => e = .returned (.tuple #[nz.V, .int .i64 31]) ∧ Below w.heap.size w w' := by
  obtain ⟨B1, s0, -⟩ := box1 w #[.int .u64 0, .int .u64 0, .int .i64 0, .int .i64 0, .int .i64 0, .int .i64 0, .int .i64 0, .int .i64 0, .int .i64 0] 36
  have HX := Lib.hid (h.below B1)
  have HB := Lib.hid B1
  have HS := Lib.hid s0
  have H2 := Lib.hid h2
  clear h B1 s0 h2
  go_enter Try.func20, Try.ntmps20
  go_wp2_with fail
  obtain ⟨N, hN⟩ : ∃ N, w.heap.size = N := ⟨_, rfl⟩
  rw [hN] at HS
  try rw [hN]
  have HN := Lib.hid hN
  clear hN
  generalize w.alloc (.cells #[.int .u64 0, .int .u64 0, .int .i64 0, .int .i64 0, .int .i64 0, .int .i64 0, .int .i64 0, .int .i64 0, .int .i64 0] 36) = w1 at HX HB HS ⊢
  refine (find_none b last l id w1 HX.out H2.out).mono ?_
  rintro e w2 ⟨rfl, hb⟩
  have HB2 := Lib.hid (HB.out.trans (hb.mono HB.out.size))
  have HT2 : Hid (w2.there N 0 9) := Lib.hid (there_new (ex_below HS.out hb))
  clear hb HX HB HS
  go_wp2_with (refine wpList_store_mid rfl 36 (.tmp 6) (.tmp 19) rfl N 0 nz.L.toArray rfl rfl HT2.out (nt_infoL nz) (nt_oneL nz) ?_; rw [List.toList_toArray]; generalize hW9 : w2.setCells N 0 nz.L = w9; have HW := Lib.hid hW9; clear hW9)
  refine bodyPost_ret (nt_res rfl _ _ N nz rfl (res_set HT2.out HW.out.symm)) rfl ?_
  have HWN := HN.out
  subst HWN
  refine ⟨rfl, ?_⟩
  rw [← HW.out]
  exact below_cells HB2.out (Nat.le_refl _) _ _
set_option maxRecDepth 100000 in
set_option maxHeartbeats 8000000 in
theorem ack_none (b : Nat) (last : Int) (l : List Nt) (id : Int) (w : World) (h : BX w b last l) (h2 : ∀ x ∈ l, x.id ≠ id) : Calls Try.prog 22 #[.pointer (some ⟨b, 0, none⟩), .int .u64 id] w fun e w' => e = .returned (.tuple #[nz.V, .int .i64 31]) ∧ Below w.heap.size w w' := by
  obtain ⟨B1, s0, -⟩ := box1 w #[.int .u64 0, .int .u64 0, .int .i64 0, .int .i64 0, .int .i64 0, .int .i64 0, .int .i64 0, .int .i64 0, .int .i64 0] 36
  have HX := Lib.hid (h.below B1)
  have HB := Lib.hid B1
  have HS := Lib.hid s0
  have H2 := Lib.hid h2
  clear h B1 s0 h2
  go_enter Try.func22, Try.ntmps22
  go_wp2_with fail
  obtain ⟨N, hN⟩ : ∃ N, w.heap.size = N := ⟨_, rfl⟩
  rw [hN] at HS
  try rw [hN]
  have HN := Lib.hid hN
  clear hN
  generalize w.alloc (.cells #[.int .u64 0, .int .u64 0, .int .i64 0, .int .i64 0, .int .i64 0, .int .i64 0, .int .i64 0, .int .i64 0, .int .i64 0] 36) = w1 at HX HB HS ⊢
  refine (find_none b last l id w1 HX.out H2.out).mono ?_
  rintro e w2 ⟨rfl, hb⟩
  have HB2 := Lib.hid (HB.out.trans (hb.mono HB.out.size))
  have HT2 : Hid (w2.there N 0 9) := Lib.hid (there_new (ex_below HS.out hb))
  clear hb HX HB HS
  go_wp2_with (refine wpList_store_mid rfl 36 (.tmp 4) (.tmp 17) rfl N 0 nz.L.toArray rfl rfl HT2.out (nt_infoL nz) (nt_oneL nz) ?_; rw [List.toList_toArray]; generalize hW9 : w2.setCells N 0 nz.L = w9; have HW := Lib.hid hW9; clear hW9)
  refine bodyPost_ret (nt_res rfl _ _ N nz rfl (res_set HT2.out HW.out.symm)) rfl ?_
  have HWN := HN.out
  subst HWN
  refine ⟨rfl, ?_⟩
  rw [← HW.out]
  exact below_cells HB2.out (Nat.le_refl _) _ _
set_option maxRecDepth 100000 in
set_option maxHeartbeats 8000000 in
theorem try_ended (b : Nat) (last : Int) (l : List Nt) (id now : Int) (w : World) (h : BX w b last l) (k : Nat) (hk : k < l.length) (h1 : l[k].id = id) (h2 : ∀ x ∈ l.take k, x.id ≠ id) (he : endN l[k] = true) : Calls Try.prog 20 #[.pointer (some ⟨b, 0, none⟩), .int .u64 id, .int .i64 now] w fun e w' => e = .returned (.tuple #[nz.V, .int .i64 33]) ∧ Below w.heap.size w w' := by
  obtain ⟨B1, s0, -⟩ := box1 w #[.int .u64 0, .int .u64 0, .int .i64 0, .int .i64 0, .int .i64 0, .int .i64 0, .int .i64 0, .int .i64 0, .int .i64 0] 36
  have HX := Lib.hid (h.below B1)
  have HB := Lib.hid B1
  have HS := Lib.hid s0
  have H2 := Lib.hid h2
  clear h B1 s0 h2
  go_enter Try.func20, Try.ntmps20
  go_wp2_with fail
  obtain ⟨N, hN⟩ : ∃ N, w.heap.size = N := ⟨_, rfl⟩
  rw [hN] at HS
  try rw [hN]
  have HN := Lib.hid hN
  clear hN
  generalize w.alloc (.cells #[.int .u64 0, .int .u64 0, .int .i64 0, .int .i64 0, .int .i64 0, .int .i64 0, .int .i64 0, .int .i64 0, .int .i64 0] 36) = w1 at HX HB HS ⊢
  refine (find_at b last l id w1 HX.out k hk h1 H2.out).mono ?_
  rintro e w2 ⟨rfl, hb⟩
  have HX2 := Lib.hid (HX.out.below hb)
  have HB2 := Lib.hid (HB.out.trans (hb.mono HB.out.size))
  have HS2 := Lib.hid (ex_below HS.out hb)
  clear hb HX HB HS
  have hr := HX2.out.row k hk
  obtain ⟨x, hx⟩ : ∃ x, l[k] = x := ⟨_, rfl⟩
  rw [hx] at hr he
  clear hx
  have HR := Lib.hid hr
  obtain ⟨q0, q1, q2, q3, q4, q5, q6, q7, q8⟩ := hr
  obtain ⟨o, ho⟩ : ∃ o, 2 + k * 9 = o := ⟨_, rfl⟩
  rw [ho] at q0 q1 q2 q3 q4 q5 q6 q7 q8 HR
  rw [ho]
  clear ho
  go_wp2_with fail
  clear q0 q1 q2 q3 q4 q5 q6 q7 q8
  refine (ended_any x w2).mono ?_
  rintro e w3 ⟨rfl, hb⟩
  have HB3 := Lib.hid (HB2.out.trans (hb.mono HB2.out.size))
  have HS3 := Lib.hid (ex_below HS2.out hb)
  have HT3 : Hid (w3.there N 0 9) := Lib.hid (there_new HS3.out)
  have HR3 := Lib.hid (HR.out.below hb)
  obtain ⟨q0, q1, q2, q3, q4, q5, q6, q7, q8⟩ := HR3.out
  clear hb HX2 HB2 HS2 HR
  rw [he]
  go_wp2_with (refine wpList_store_mid rfl 36 (.tmp 6) (.tmp 32) rfl N 0 nz.L.toArray rfl rfl HT3.out (nt_infoL nz) (nt_oneL nz) ?_; rw [List.toList_toArray]; generalize hW9 : w3.setCells N 0 nz.L = w9; have HW := Lib.hid hW9; clear hW9)
  refine bodyPost_ret (nt_res rfl _ _ N nz rfl (res_set HT3.out HW.out.symm)) rfl ?_
  have HWN := HN.out
  subst HWN
  refine ⟨rfl, ?_⟩
  rw [← HW.out]
  exact below_cells HB3.out (Nat.le_refl _) _ _
set_option maxRecDepth 100000 in
set_option maxHeartbeats 8000000 in
theorem ack_ended (b : Nat) (last : Int) (l : List Nt) (id : Int) (w : World) (h : BX w b last l) (k : Nat) (hk : k < l.length) (h1 : l[k].id = id) (h2 : ∀ x ∈ l.take k, x.id ≠ id) (he : endN l[k] = true) : Calls Try.prog 22 #[.pointer (some ⟨b, 0, none⟩), .int .u64 id] w fun e w' => e = .returned (.tuple #[nz.V, .int .i64 33]) ∧ Below w.heap.size w w' := by
  obtain ⟨B1, s0, -⟩ := box1 w #[.int .u64 0, .int .u64 0, .int .i64 0, .int .i64 0, .int .i64 0, .int .i64 0, .int .i64 0, .int .i64 0, .int .i64 0] 36
  have HX := Lib.hid (h.below B1)
  have HB := Lib.hid B1
  have HS := Lib.hid s0
  have H2 := Lib.hid h2
  clear h B1 s0 h2
  go_enter Try.func22, Try.ntmps22
  go_wp2_with fail
  obtain ⟨N, hN⟩ : ∃ N, w.heap.size = N := ⟨_, rfl⟩
  rw [hN] at HS
  try rw [hN]
  have HN := Lib.hid hN
  clear hN
  generalize w.alloc (.cells #[.int .u64 0, .int .u64 0, .int .i64 0, .int .i64 0, .int .i64 0, .int .i64 0, .int .i64 0, .int .i64 0, .int .i64 0] 36) = w1 at HX HB HS ⊢
  refine (find_at b last l id w1 HX.out k hk h1 H2.out).mono ?_
  rintro e w2 ⟨rfl, hb⟩
  have HX2 := Lib.hid (HX.out.below hb)
  have HB2 := Lib.hid (HB.out.trans (hb.mono HB.out.size))
  have HS2 := Lib.hid (ex_below HS.out hb)
  clear hb HX HB HS
  have hr := HX2.out.row k hk
  obtain ⟨x, hx⟩ : ∃ x, l[k] = x := ⟨_, rfl⟩
  rw [hx] at hr he
  clear hx
  have HR := Lib.hid hr
  obtain ⟨q0, q1, q2, q3, q4, q5, q6, q7, q8⟩ := hr
  obtain ⟨o, ho⟩ : ∃ o, 2 + k * 9 = o := ⟨_, rfl⟩
  rw [ho] at q0 q1 q2 q3 q4 q5 q6 q7 q8 HR
  rw [ho]
  clear ho
  go_wp2_with fail
  clear q0 q1 q2 q3 q4 q5 q6 q7 q8
  refine (ended_any x w2).mono ?_
  rintro e w3 ⟨rfl, hb⟩
  have HB3 := Lib.hid (HB2.out.trans (hb.mono HB2.out.size))
  have HS3 := Lib.hid (ex_below HS2.out hb)
  have HT3 : Hid (w3.there N 0 9) := Lib.hid (there_new HS3.out)
  have HR3 := Lib.hid (HR.out.below hb)
  obtain ⟨q0, q1, q2, q3, q4, q5, q6, q7, q8⟩ := HR3.out
  clear hb HX2 HB2 HS2 HR
  rw [he]
  go_wp2_with (refine wpList_store_mid rfl 36 (.tmp 4) (.tmp 31) rfl N 0 nz.L.toArray rfl rfl HT3.out (nt_infoL nz) (nt_oneL nz) ?_; rw [List.toList_toArray]; generalize hW9 : w3.setCells N 0 nz.L = w9; have HW := Lib.hid hW9; clear hW9)
  refine bodyPost_ret (nt_res rfl _ _ N nz rfl (res_set HT3.out HW.out.symm)) rfl ?_
  have HWN := HN.out
  subst HWN
  refine ⟨rfl, ?_⟩
  rw [← HW.out]
  exact below_cells HB3.out (Nat.le_refl _) _ _
set_option maxRecDepth 100000 in
set_option maxHeartbeats 8000000 in
theorem try_exh (b : Nat) (last : Int) (l : List Nt) (id now : Int) (w : World) (h : BX w b last l) (k : Nat) (hk : k < l.length) (h1 : l[k].id = id) (h2 : ∀ x ∈ l.take k, x.id ≠ id) (he : endN l[k] = false) (hq : exhN l[k] = true) : Calls Try.prog 20 #[.pointer (some ⟨b, 0, none⟩), .int .u64 id, .int .i64 now] w fun e w' => e = .returned (.tuple #[nz.V, .int .i64 33]) ∧ Below w.heap.size w w' := by
  obtain ⟨B1, s0, -⟩ := box1 w #[.int .u64 0, .int .u64 0, .int .i64 0, .int .i64 0, .int .i64 0, .int .i64 0, .int .i64 0, .int .i64 0, .int .i64 0] 36
  have HX := Lib.hid (h.below B1)
  have HB := Lib.hid B1
  have HS := Lib.hid s0
  have H2 := Lib.hid h2
  clear h B1 s0 h2
  go_enter Try.func20, Try.ntmps20
  go_wp2_with fail
  obtain ⟨N, hN⟩ : ∃ N, w.heap.size = N := ⟨_, rfl⟩
  rw [hN] at HS
  try rw [hN]
  have HN := Lib.hid hN
  clear hN
  generalize w.alloc (.cells #[.int .u64 0, .int .u64 0, .int .i64 0, .int .i64 0, .int .i64 0, .int .i64 0, .int .i64 0, .int .i64 0, .int .i64 0] 36) = w1 at HX HB HS ⊢
  refine (find_at b last l id w1 HX.out k hk h1 H2.out).mono ?_
  rintro e w2 ⟨rfl, hb⟩
  have HX2 := Lib.hid (HX.out.below hb)
  have HB2 := Lib.hid (HB.out.trans (hb.mono HB.out.size))
  have HS2 := Lib.hid (ex_below HS.out hb)
  clear hb HX HB HS
  have hr := HX2.out.row k hk
  obtain ⟨x, hx⟩ : ∃ x, l[k] = x := ⟨_, rfl⟩
  rw [hx] at hr he hq
  clear hx
  have HR := Lib.hid hr
  obtain ⟨q0, q1, q2, q3, q4, q5, q6, q7, q8⟩ := hr
  obtain ⟨o, ho⟩ : ∃ o, 2 + k * 9 = o := ⟨_, rfl⟩
  rw [ho] at q0 q1 q2 q3 q4 q5 q6 q7 q8 HR
  rw [ho]
  clear ho
  go_wp2_with fail
  clear q0 q1 q2 q3 q4 q5 q6 q7 q8
  refine (ended_any x w2).mono ?_
  rintro e w3 ⟨rfl, hb⟩
  have HB3 := Lib.hid (HB2.out.trans (hb.mono HB2.out.size))
  have HS3 := Lib.hid (ex_below HS2.out hb)
  have HT3 : Hid (w3.there N 0 9) := Lib.hid (there_new HS3.out)
  have HR3 := Lib.hid (HR.out.below hb)
  obtain ⟨q0, q1, q2, q3, q4, q5, q6, q7, q8⟩ := HR3.out
  clear hb HX2 HB2 HS2 HR
  rw [he]
  go_wp2_with fail
  clear q0 q1 q2 q3 q4 q5 q6 q7 q8
  refine (exhausted_any x w3).mono ?_
  rintro e w4 ⟨rfl, hb⟩
  rw [hq]
  have HB4 := Lib.hid (HB3.out.trans (hb.mono HB3.out.size))
  have HT4 : Hid (w4.there N 0 9) := Lib.hid (there_new (ex_below HS3.out hb))
  clear hb HB3 HS3 HR3 HT3
  go_wp2_with (refine wpList_store_mid rfl 36 (.tmp 6) (.tmp 32) rfl N 0 nz.L.toArray rfl rfl HT4.out (nt_infoL nz) (nt_oneL nz) ?_; rw [List.toList_toArray]; generalize hW9 : w4.setCells N 0 nz.L = w9; have HW := Lib.hid hW9; clear hW9)
  refine bodyPost_ret (nt_res rfl _ _ N nz rfl (res_set HT4.out HW.out.symm)) rfl ?_
  have HWN := HN.out
  subst HWN
  refine ⟨rfl, ?_⟩
  rw [← HW.out]
  exact below_cells HB4.out (Nat.le_refl _) _ _
set_option maxRecDepth 100000 in
set_option maxHeartbeats 8000000 in
theorem try_busy (b : Nat) (last : Int) (l : List Nt) (id now : Int) (w : World) (h : BX w b last l) (k : Nat) (hk : k < l.length) (h1 : l[k].id = id) (h2 : ∀ x ∈ l.take k, x.id ≠ id) (he : endN l[k] = false) (hq : exhN l[k] = false) (hn : now < l[k].nx) : Calls Try.prog 20 #[.pointer (some ⟨b, 0, none⟩), .int .u64 id, .int .i64 now] w fun e w' => e = .returned (.tuple #[nz.V, .int .i64 52]) ∧ Below w.heap.size w w' := by
  obtain ⟨B1, s0, -⟩ := box1 w #[.int .u64 0, .int .u64 0, .int .i64 0, .int .i64 0, .int .i64 0, .int .i64 0, .int .i64 0, .int .i64 0, .int .i64 0] 36
  have HX := Lib.hid (h.below B1)
  have HB := Lib.hid B1
  have HS := Lib.hid s0
  have H2 := Lib.hid h2
  clear h B1 s0 h2
  go_enter Try.func20, Try.ntmps20
  go_wp2_with fail
  obtain ⟨N, hN⟩ : ∃ N, w.heap.size = N := ⟨_, rfl⟩
  rw [hN] at HS
  try rw [hN]
  have HN := Lib.hid hN
  clear hN
  generalize w.alloc (.cells #[.int .u64 0, .int .u64 0, .int .i64 0, .int .i64 0, .int .i64 0, .int .i64 0, .int .i64 0, .int .i64 0, .int .i64 0] 36) = w1 at HX HB HS ⊢
  refine (find_at b last l id w1 HX.out k hk h1 H2.out).mono ?_
  rintro e w2 ⟨rfl, hb⟩
  have HX2 := Lib.hid (HX.out.below hb)
  have HB2 := Lib.hid (HB.out.trans (hb.mono HB.out.size))
  have HS2 := Lib.hid (ex_below HS.out hb)
  clear hb HX HB HS
  have hr := HX2.out.row k hk
  obtain ⟨x, hx⟩ : ∃ x, l[k] = x := ⟨_, rfl⟩
  rw [hx] at hr he hq hn
  clear hx
  have HR := Lib.hid hr
  obtain ⟨q0, q1, q2, q3, q4, q5, q6, q7, q8⟩ := hr
  obtain ⟨o, ho⟩ : ∃ o, 2 + k * 9 = o := ⟨_, rfl⟩
  rw [ho] at q0 q1 q2 q3 q4 q5 q6 q7 q8 HR
  rw [ho]
  clear ho
  go_wp2_with fail
  clear q0 q1 q2 q3 q4 q5 q6 q7 q8
  refine (ended_any x w2).mono ?_
  rintro e w3 ⟨rfl, hb⟩
  have HB3 := Lib.hid (HB2.out.trans (hb.mono HB2.out.size))
  have HS3 := Lib.hid (ex_below HS2.out hb)
  have HT3 : Hid (w3.there N 0 9) := Lib.hid (there_new HS3.out)
  have HR3 := Lib.hid (HR.out.below hb)
  obtain ⟨q0, q1, q2, q3, q4, q5, q6, q7, q8⟩ := HR3.out
  clear hb HX2 HB2 HS2 HR
  rw [he]
  have d1 : decide (now < x.nx) = true := decide_eq_true hn
  go_wp2_with fail
  clear q0 q1 q2 q3 q4 q5 q6 q7 q8
  refine (exhausted_any x w3).mono ?_
  rintro e w4 ⟨rfl, hb⟩
  rw [hq]
  have HB4 := Lib.hid (HB3.out.trans (hb.mono HB3.out.size))
  have HT4 : Hid (w4.there N 0 9) := Lib.hid (there_new (ex_below HS3.out hb))
  obtain ⟨q0, q1, q2, q3, q4, q5, q6, q7, q8⟩ := HR3.out.below hb
  clear hb HB3 HS3 HR3 HT3
  go_wp2_with (refine wpList_store_mid rfl 36 (.tmp 6) (.tmp 40) rfl N 0 nz.L.toArray rfl rfl HT4.out (nt_infoL nz) (nt_oneL nz) ?_; rw [List.toList_toArray]; generalize hW9 : w4.setCells N 0 nz.L = w9; have HW := Lib.hid hW9; clear hW9)
  refine bodyPost_ret (nt_res rfl _ _ N nz rfl (res_set HT4.out HW.out.symm)) rfl ?_
  have HWN := HN.out
  subst HWN
  refine ⟨rfl, ?_⟩
  rw [← HW.out]
  exact below_cells HB4.out (Nat.le_refl _) _ _
set_option maxRecDepth 100000 in
set_option maxHeartbeats 8000000 in
theorem ack_zero (b : Nat) (last : Int) (l : List Nt) (id : Int) (w : World) (h : BX w b last l) (k : Nat) (hk : k < l.length) (h1 : l[k].id = id) (h2 : ∀ x ∈ l.take k, x.id ≠ id) (he : endN l[k] = false) (hq : l[k].tr = 0) : Calls Try.prog 22 #[.pointer (some ⟨b, 0, none⟩), .int .u64 id] w fun e w' => e = .returned (.tuple #[nz.V, .int .i64 33]) ∧ Below w.heap.size w w' := by
  obtain ⟨B1, s0, -⟩ := box1 w #[.int .u64 0, .int .u64 0, .int .i64 0, .int .i64 0, .int .i64 0, .int .i64 0, .int .i64 0, .int .i64 0, .int .i64 0] 36
  have HX := Lib.hid (h.below B1)
  have HB := Lib.hid B1
  have HS := Lib.hid s0
  have H2 := Lib.hid h2
  clear h B1 s0 h2
  go_enter Try.func22, Try.ntmps22
  go_wp2_with fail
  obtain ⟨N, hN⟩ : ∃ N, w.heap.size = N := ⟨_, rfl⟩
  rw [hN] at HS
  try rw [hN]
  have HN := Lib.hid hN
  clear hN
  generalize w.alloc (.cells #[.int .u64 0, .int .u64 0, .int .i64 0, .int .i64 0, .int .i64 0, .int .i64 0, .int .i64 0, .int .i64 0, .int .i64 0] 36) = w1 at HX HB HS ⊢
  refine (find_at b last l id w1 HX.out k hk h1 H2.out).mono ?_
  rintro e w2 ⟨rfl, hb⟩
  have HX2 := Lib.hid (HX.out.below hb)
  have HB2 := Lib.hid (HB.out.trans (hb.mono HB.out.size))
  have HS2 := Lib.hid (ex_below HS.out hb)
  clear hb HX HB HS
  have hr := HX2.out.row k hk
  obtain ⟨x, hx⟩ : ∃ x, l[k] = x := ⟨_, rfl⟩
  rw [hx] at hr he hq
  clear hx
  have HQ := Lib.hid hq
  clear hq
  have HR := Lib.hid hr
  obtain ⟨q0, q1, q2, q3, q4, q5, q6, q7, q8⟩ := hr
  obtain ⟨o, ho⟩ : ∃ o, 2 + k * 9 = o := ⟨_, rfl⟩
  rw [ho] at q0 q1 q2 q3 q4 q5 q6 q7 q8 HR
  rw [ho]
  clear ho
  go_wp2_with fail
  clear q0 q1 q2 q3 q4 q5 q6 q7 q8
  refine (ended_any x w2).mono ?_
  rintro e w3 ⟨rfl, hb⟩
  have HB3 := Lib.hid (HB2.out.trans (hb.mono HB2.out.size))
  have HS3 := Lib.hid (ex_below HS2.out hb)
  have HT3 : Hid (w3.there N 0 9) := Lib.hid (there_new HS3.out)
  have HR3 := Lib.hid (HR.out.below hb)
  obtain ⟨q0, q1, q2, q3, q4, q5, q6, q7, q8⟩ := HR3.out
  clear hb HX2 HB2 HS2 HR
  rw [he]
  have d1 : decide (x.tr = 0) = true := decide_eq_true HQ.out
  have d2 : (x.tr == 0) = true := by simp [HQ.out]
  go_wp2_with (refine wpList_store_mid rfl 36 (.tmp 4) (.tmp 31) rfl N 0 nz.L.toArray rfl rfl HT3.out (nt_infoL nz) (nt_oneL nz) ?_; rw [List.toList_toArray]; generalize hW9 : w3.setCells N 0 nz.L = w9; have HW := Lib.hid hW9; clear hW9)
  refine bodyPost_ret (nt_res rfl _ _ N nz rfl (res_set HT3.out HW.out.symm)) rfl ?_
  have HWN := HN.out
  subst HWN
  refine ⟨rfl, ?_⟩
  rw [← HW.out]
  exact below_cells HB3.out (Nat.le_refl _) _ _
set_option maxRecDepth 100000 in
set_option maxHeartbeats 8000000 in
theorem put_big (b : Nat) (last : Int) (l : List Nt) (x : Nt) (now : Int) (w : World) (h : BX w b last l) (hn : insN now = true ∧ adrN x = true) (hl : 1152921504606846976 ≤ last)  :
    Calls Try.prog 24 #[.pointer (some ⟨b, 0, none⟩), .agg #[.int .u64 x.id, .int .u64 x.tk, .int .i64 x.lv, .int .i64 x.pa, .int .i64 x.st, .int .i64 x.tr, .int .i64 x.rt, .int .i64 x.wt, .int .i64 x.nx], .int .i64 now] w fun e w' => e = .returned (.tuple #[.int .u64 0, .int .i64 10]) ∧ Below w.heap.size w w' := by
  obtain ⟨B1, s0, -⟩ := box1 w #[.int .u64 x.id, .int .u64 x.tk, .int .i64 x.lv, .int .i64 x.pa, .int .i64 x.st, .int .i64 x.tr, .int .i64 x.rt, .int .i64 x.wt, .int .i64 x.nx] 36
  have HX := Lib.hid (h.below B1)
  have HB := Lib.hid B1
  have HS := Lib.hid s0
  have HBL : Hid (b < w.heap.size) := Lib.hid h.lt
  obtain ⟨q0, q1, q2, q3, q4, q5, q6, q7, q8⟩ := nt_at0 s0
  have HN := Lib.hid hn
  have HLL := Lib.hid hl
  have dl : decide (1152921504606846976 ≤ last) = true := decide_eq_true hl
  clear h B1 s0 hn hl
  go_enter Try.func24, Try.ntmps24
  go_wp2_with fail
  obtain ⟨N, hN⟩ : ∃ N, w.heap.size = N := ⟨_, rfl⟩
  have HNB : Hid (b ≠ N ∧ w.heap.size = N) := Lib.hid ⟨by have := HBL.out; omega, hN⟩
  rw [hN] at HS
  try rw [hN]
  rw [hN] at q0 q1 q2 q3 q4 q5 q6 q7 q8
  clear hN
  generalize w.alloc (.cells #[.int .u64 x.id, .int .u64 x.tk, .int .i64 x.lv, .int .i64 x.pa, .int .i64 x.st, .int .i64 x.tr, .int .i64 x.rt, .int .i64 x.wt, .int .i64 x.nx] 36) = w1 at HX HB HS q0 q1 q2 q3 q4 q5 q6 q7 q8 ⊢
  refine (created_box b last l w1 HX.out).mono ?_
  rintro e w2 ⟨rfl, rfl⟩
  go_wp2_with fail
  refine (instant_any now w1).mono ?_
  rintro e w2 ⟨rfl, rfl⟩
  rw [HN.out.1]
  go_wp2_with fail
  refine (addressed_any x w1).mono ?_
  rintro e w2 ⟨rfl, hb⟩
  rw [HN.out.2]
  have HX2 := Lib.hid (HX.out.below hb)
  have HB2 := Lib.hid (HB.out.trans (hb.mono HB.out.size))
  have HS2 := Lib.hid (ex_below HS.out hb)
  have c0 := HX2.out.c0
  clear hb q0 q1 q2 q3 q4 q5 q6 q7 q8 HX HB HS
  go_wp2_with fail
  refine bodyPost_ret (results_tmp2 rfl _ _ _) rfl ?_
  exact ⟨rfl, HB2.out⟩
end Go.Proofs.Ytnfpheccmjdpoaa
