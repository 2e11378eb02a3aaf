/- The outbox: a notice is put in place of one that has ended. -/
import Derived.Test.YtnfpheccmjdpoaaObG
namespace Go.Proofs.Ytnfpheccmjdpoaa
open Go.RowKit
theorem first_of {l : List Nt} {q : Nt → Bool} {j k : Nat} (hj : j < l.length) (hk : k < l.length) (h1 : q l[j] = true) (h2 : ∀ x ∈ l.take j, q x = false) (h3 : q l[k] = true) (h4 : ∀ x ∈ l.take k, q x = false) : j = k := by
  rcases Nat.lt_trichotomy j k with h | h | h
  · exact absurd (h4 _ (List.mem_take_iff_getElem.2 ⟨j, by omega, rfl⟩)) (by rw [h1]; simp)
  · exact h
  · exact absurd (h2 _ (List.mem_take_iff_getElem.2 ⟨k, by omega, rfl⟩)) (by rw [h3]; simp)
set_option maxRecDepth 100000 in
set_option maxHeartbeats 8000000 in
theorem put_del (b : Nat) (last : Int) (l : List Nt) (x : Nt) (now : Int) (w : World) (h : BX w b last l) (hn : insN now = true ∧ adrN x = true) (hl : 0 ≤ last ∧ last < 1152921504606846976) (hc : cntW l < 128) (h8 : l.length = 128) (k : Nat) (hk : k < l.length) (he1 : endN l[k] = true) (he2 : ∀ y ∈ l.take k, endN y = false) :
    Calls Try.prog 24 #[.pointer (some ⟨b, 0, none⟩), .agg #[.int .u64 x.id, .int .u64 x.tk, .int .i64 x.lv, .int .i64 x.pa, .int .i64 x.st, .int .i64 x.tr, .int .i64 x.rt, .int .i64 x.wt, .int .i64 x.nx], .int .i64 now] w fun e w' => e = .returned (.tuple #[.int .u64 (last + 1), .int .i64 0]) ∧ BX w' b (last + 1) (l.eraseIdx k ++ [newN last x now]) ∧ OnlyB b w w' := by
  obtain ⟨B1, s0, -⟩ := box1 w #[.int .u64 x.id, .int .u64 x.tk, .int .i64 x.lv, .int .i64 x.pa, .int .i64 x.st, .int .i64 x.tr, .int .i64 x.rt, .int .i64 x.wt, .int .i64 x.nx] 36
  have HX := Lib.hid (h.below B1)
  have HB := Lib.hid B1
  have HS := Lib.hid s0
  have HBL : Hid (b < w.heap.size) := Lib.hid h.lt
  obtain ⟨q0, q1, q2, q3, q4, q5, q6, q7, q8⟩ := nt_at0 s0
  have HN := Lib.hid hn
  have HLL := Lib.hid hl
  have dl : decide (1152921504606846976 ≤ last) = false := decide_eq_false (by omega)
  have dc : decide ((128 : Int) ≤ (cntW l : Int)) = false := decide_eq_false (by omega)
  have dc2 : decide (128 ≤ cntW l) = false := decide_eq_false (by omega)
  have H8 := Lib.hid h8
  have HK := Lib.hid (And.intro he1 he2)
  have hk8 : k < 128 := by omega
  have wk : wrap64 ((k : Int) + 1) = (k : Int) + 1 := IntWalk.wrap64_in _ (by omega)
  have wl : IntKind.u64.wrap (last + 1) = last + 1 := IntWalk.u64_in _ ⟨by omega, by omega⟩
  clear hc he1 he2 h8
  clear h B1 s0 hn hl
  go_enter Try.func24, Try.ntmps24
  go_wp2_with fail
  obtain ⟨N, hN⟩ : ∃ N, w.heap.size = N := ⟨_, rfl⟩
  have HNB : Hid (b ≠ N ∧ w.heap.size = N) := Lib.hid ⟨by have := HBL.out; omega, hN⟩
  rw [hN] at HS
  try rw [hN]
  rw [hN] at q0 q1 q2 q3 q4 q5 q6 q7 q8
  clear hN
  generalize w.alloc (.cells #[.int .u64 x.id, .int .u64 x.tk, .int .i64 x.lv, .int .i64 x.pa, .int .i64 x.st, .int .i64 x.tr, .int .i64 x.rt, .int .i64 x.wt, .int .i64 x.nx] 36) = w1 at HX HB HS q0 q1 q2 q3 q4 q5 q6 q7 q8 ⊢
  refine (created_box b last l w1 HX.out).mono ?_
  rintro e w2 ⟨rfl, rfl⟩
  go_wp2_with fail
  refine (instant_any now w1).mono ?_
  rintro e w2 ⟨rfl, rfl⟩
  rw [HN.out.1]
  go_wp2_with fail
  refine (addressed_any x w1).mono ?_
  rintro e w2 ⟨rfl, hb⟩
  rw [HN.out.2]
  have HX2 := Lib.hid (HX.out.below hb)
  have HB2 := Lib.hid (HB.out.trans (hb.mono HB.out.size))
  have HS2 := Lib.hid (ex_below HS.out hb)
  have c0 := HX2.out.c0
  clear hb q0 q1 q2 q3 q4 q5 q6 q7 q8 HX HB HS
  go_wp2_with fail
  clear c0
  refine (waiting_box b last l w2 HX2.out).mono ?_
  rintro e w3 ⟨rfl, hb⟩
  have HX3 := Lib.hid (HX2.out.below hb)
  have HB3 := Lib.hid (HB2.out.trans (hb.mono HB2.out.size))
  have HS3 := Lib.hid (ex_below HS2.out hb)
  clear hb HX2 HB2 HS2
  have c0 := HX3.out.c0
  have c1 := HX3.out.c1
  rw [H8.out] at c1
  go_wp2_with fail
  clear c0 c1
  refine (all_box b last l w3 HX3.out).mono ?_
  rintro e w4 ⟨rfl, hb⟩
  have HX4 := Lib.hid (HX3.out.below hb)
  have HB4 := Lib.hid (HB3.out.trans (hb.mono HB3.out.size))
  have HS4 := Lib.hid (ex_below HS3.out hb)
  clear hb HX3 HB3 HS3
  go_wp2_with fail
  refine (index_any _ _ _ _ _ l w4 HX4.out.nr (ended_cond w4) (by have := HX4.out.len; omega)).mono ?_
  rintro e w5 ⟨r, rfl, hf, hb⟩
  have HX5 := Lib.hid (HX4.out.below hb)
  have HB5 := Lib.hid (HB4.out.trans (hb.mono HB4.out.size))
  have HS5 := Lib.hid (ex_below HS4.out hb)
  clear hb HX4 HB4 HS4
  obtain rfl : r = (k : Int) := by
    rcases hf with ⟨j, rfl, hj, q1, q2⟩ | ⟨rfl, q1⟩
    · have e := first_of hj hk q1 q2 HK.out.1 HK.out.2
      rw [e]
    · exact absurd (q1 _ (List.getElem_mem hk)) (by rw [HK.out.1]; simp)
  clear hf
  go_wp2_with fail
  refine (all_box b last l w5 HX5.out).mono ?_
  rintro e w6 ⟨rfl, hb⟩
  have HX6 := Lib.hid (HX5.out.below hb)
  have HB6 := Lib.hid (HB5.out.trans (hb.mono HB5.out.size))
  have HS6 := Lib.hid (ex_below HS5.out hb)
  clear hb HX5 HB5 HS5
  have h8' := H8.out
  go_wp2_with fail
  clear h8'
  refine (del_box b last l k w6 HX6.out H8.out hk8).mono ?_
  rintro e w7 ⟨rfl, hm7, ho7⟩
  have HM7 := Lib.hid hm7
  have HO7a := Lib.hid (Only.trans (show OnlyB b w w6 from Only.below HB6.out) ho7)
  have HS7 := Lib.hid ((ho7.block N (ex_lt HS6.out) (fun e => HNB.out.1 e.symm)).trans HS6.out)
  have f1 := hm7.fr 1 (by omega)
  have c1 := hm7.c1
  have c0a := hm7.c0
  have f0a := hm7.fr 0 (by omega)
  have c0 := (hm7.many 127).c0
  have f0 : (w7.setCell ⟨b, 1, none⟩ (.int .i64 ((127 : Nat) : Int))).frozen? ⟨b, 0, none⟩ = false := (hm7.many 127).fr 0 (by omega)
  have HL9 : Hid ((l.eraseIdx k).length = 127) := Lib.hid (by rw [List.length_eraseIdx, H8.out]; simp [hk8])
  clear hm7 ho7 HX6 HB6 HS6
  have hcast : ((127 : Nat) : Int) = 127 := rfl
  rw [hcast] at c0 f0
  go_wp2_with fail
  obtain ⟨w8, hw8⟩ : ∃ W, w7.setCell ⟨b, 1, none⟩ (.int .i64 127) = W := ⟨_, rfl⟩
  rw [hw8]
  have HX8 : Hid (BXm w8 b last 127 (l.eraseIdx k)) := Lib.hid (by rw [← hw8]; exact HM7.out.many 127)
  have HO3 : Hid (OnlyB b w w8) := Lib.hid (by rw [← hw8]; exact OnlyB.set HO7a.out 1 [.int .i64 127])
  have HS3 : Hid (w8.heap[N]? = some (.cells #[.int .u64 x.id, .int .u64 x.tk, .int .i64 x.lv, .int .i64 x.pa, .int .i64 x.st, .int .i64 x.tr, .int .i64 x.rt, .int .i64 x.wt, .int .i64 x.nx] 36 (0, 0))) := Lib.hid (by rw [← hw8]; exact (Below.heap_setCell _ _ _ _ (by have := HNB.out.1; show N ≠ b; omega)).trans HS7.out)
  clear hw8 HM7 HO7a HS7 c0 f0 f1 c1 c0a f0a
  obtain ⟨m, hm⟩ : ∃ m, 127 = m := ⟨_, rfl⟩
  obtain ⟨l9, hl9⟩ : ∃ l9, l.eraseIdx k = l9 := ⟨_, rfl⟩
  rw [hm, hl9] at HX8
  rw [hl9] at HL9
  have HXM : Hid (BXm w8 b last m l9) := HX8
  have HE9 := Lib.hid hl9
  have HM : Hid (m < 128) := Lib.hid (by omega)
  have HMM : Hid (m = l9.length) := Lib.hid (by rw [HL9.out, hm])
  have m0 : (0 : Int) ≤ (m : Int) := by omega
  have m1 : (m : Int) < 128 := by omega
  have wm : wrap64 ((m : Int) + 1) = (m : Int) + 1 := IntWalk.wrap64_in _ (by omega)
  clear hm HX8 hl9
  have hx4 := HXM.out.last (last + 1)
  have HX5 : Hid (BXm (w8.setCell ⟨b, 0, none⟩ (.int .u64 (last + 1))).drew b (last + 1) m l9) := Lib.hid (hx4.below rfl)
  have HS0 : Hid ((fun W : World => W.cell? ⟨b, 0, none⟩ = some (.int .u64 (last + 1)) ∧ W.cell? ⟨b, 1, none⟩ = some (.int .i64 (m : Int)) ∧ W.heap[N]? = some (.cells #[.int .u64 x.id, .int .u64 x.tk, .int .i64 x.lv, .int .i64 x.pa, .int .i64 x.st, .int .i64 x.tr, .int .i64 x.rt, .int .i64 x.wt, .int .i64 x.nx] 36 (0, 0))) (w8.setCell ⟨b, 0, none⟩ (.int .u64 (last + 1))).drew) := Lib.hid ⟨hx4.c0, hx4.c1, (Below.heap_setCell _ _ _ _ (by have := HNB.out.1; show N ≠ b; omega)).trans HS3.out⟩
  have HO5 : Hid (OnlyB b w (w8.setCell ⟨b, 0, none⟩ (.int .u64 (last + 1))).drew) := Lib.hid (Only.drew (OnlyB.set HO3.out 0 [.int .u64 (last + 1)]))
  clear hx4 HXM HS3 HO3
  refine wp_region_held_drew (S := (fun W : World => W.cell? ⟨b, 0, none⟩ = some (.int .u64 (last + 1)) ∧ W.cell? ⟨b, 1, none⟩ = some (.int .i64 (m : Int)) ∧ W.heap[N]? = some (.cells #[.int .u64 x.id, .int .u64 x.tk, .int .i64 x.lv, .int .i64 x.pa, .int .i64 x.st, .int .i64 x.tr, .int .i64 x.rt, .int .i64 x.wt, .int .i64 x.nx] 36 (0, 0)))) (by kernel_rfl) HS0.out (fun hHeld => ?_)
  clear hHeld
  generalize (w8.setCell ⟨b, 0, none⟩ (.int .u64 (last + 1))).drew = w5 at HS0 HX5 HO5 ⊢
  have HTH : Hid (∀ k : Nat, k < 128 → w5.there b (2 + k * 9) 9) := Lib.hid (fun k hk => there_part HX5.out.th (by omega))
  have HO6' : Hid (OnlyB b w (w5.setCells b (2 + m * 9) (newN last x now).L)) := Lib.hid (OnlyB.set HO5.out _ _)
  have HNB2 : Hid (N ≠ b) := Lib.hid (fun e => HNB.out.1 e.symm)
  refine wpAnyH_take (i := 0) (oi := { dst := some 57, op := Go.Op.move (Go.Operand.tmp 0), type := 29, pos := "outbox.go:66", after := #[], guard := none }) (v := ?_) rfl (by kernel_rfl) (by kernel_rfl) (by kernel_rfl) (fun _ _ _ h => h) (Or.inl ⟨by rfl, ?_⟩) HS0.out ?_
  case refine_2 => (intro w1 hS1; obtain ⟨c0, c1, k3⟩ := hS1; obtain ⟨q0, q1, q2, q3, q4, q5, q6, q7, q8⟩ := nt_at0 k3; clear k3; go_simp; try with_reducible rfl)
  try simp only [Act.put, List.setIfInBounds_toArray, List.set_cons_zero, List.set_cons_succ]
  refine wpAnyH_take (i := 1) (oi := { dst := some 58, op := Go.Op.move (Go.Operand.tmp 0), type := 29, pos := "outbox.go:66", after := #[], guard := none }) (v := ?_) rfl (by kernel_rfl) (by kernel_rfl) (by kernel_rfl) (fun _ _ _ h => h) (Or.inl ⟨by rfl, ?_⟩) HS0.out ?_
  case refine_2 => (intro w1 hS1; obtain ⟨c0, c1, k3⟩ := hS1; obtain ⟨q0, q1, q2, q3, q4, q5, q6, q7, q8⟩ := nt_at0 k3; clear k3; go_simp; try with_reducible rfl)
  try simp only [Act.put, List.setIfInBounds_toArray, List.set_cons_zero, List.set_cons_succ]
  refine wpAnyH_take (i := 2) (oi := { dst := some 59, op := Go.Op.nilCheck (Go.Operand.tmp 58), type := 0, pos := "outbox.go:66", after := #[{ on := 1, ground := Go.Ground.data }], guard := none }) (v := ?_) rfl (by kernel_rfl) (by kernel_rfl) (by kernel_rfl) (fun _ _ _ h => h) (Or.inl ⟨by rfl, ?_⟩) HS0.out ?_
  case refine_2 => (intro w1 hS1; obtain ⟨c0, c1, k3⟩ := hS1; obtain ⟨q0, q1, q2, q3, q4, q5, q6, q7, q8⟩ := nt_at0 k3; clear k3; go_simp; try with_reducible rfl)
  try simp only [Act.put, List.setIfInBounds_toArray, List.set_cons_zero, List.set_cons_succ]
  refine wpAnyH_take (i := 3) (oi := { dst := some 60, op := Go.Op.fieldAddr 79 (Go.Operand.tmp 59) 1, type := 0, pos := "outbox.go:66", after := #[{ on := 2, ground := Go.Ground.data }], guard := none }) (v := ?_) rfl (by kernel_rfl) (by kernel_rfl) (by kernel_rfl) (fun _ _ _ h => h) (Or.inl ⟨by rfl, ?_⟩) HS0.out ?_
  case refine_2 => (intro w1 hS1; obtain ⟨c0, c1, k3⟩ := hS1; obtain ⟨q0, q1, q2, q3, q4, q5, q6, q7, q8⟩ := nt_at0 k3; clear k3; go_simp; try with_reducible rfl)
  try simp only [Act.put, List.setIfInBounds_toArray, List.set_cons_zero, List.set_cons_succ]
  refine wpAnyH_take (i := 4) (oi := { dst := some 61, op := Go.Op.load 3 (Go.Operand.tmp 60), type := 3, pos := "outbox.go:66", after := #[{ on := 3, ground := Go.Ground.data }], guard := none }) (v := ?_) rfl (by kernel_rfl) (by kernel_rfl) (by kernel_rfl) (fun _ _ _ h => h) (Or.inl ⟨by rfl, ?_⟩) HS0.out ?_
  case refine_2 => (intro w1 hS1; obtain ⟨c0, c1, k3⟩ := hS1; obtain ⟨q0, q1, q2, q3, q4, q5, q6, q7, q8⟩ := nt_at0 k3; clear k3; go_simp; try with_reducible rfl)
  try simp only [Act.put, List.setIfInBounds_toArray, List.set_cons_zero, List.set_cons_succ]
  refine wpAnyH_take (i := 5) (oi := { dst := some 62, op := Go.Op.move (Go.Operand.tmp 0), type := 29, pos := "outbox.go:66", after := #[], guard := none }) (v := ?_) rfl (by kernel_rfl) (by kernel_rfl) (by kernel_rfl) (fun _ _ _ h => h) (Or.inl ⟨by rfl, ?_⟩) HS0.out ?_
  case refine_2 => (intro w1 hS1; obtain ⟨c0, c1, k3⟩ := hS1; obtain ⟨q0, q1, q2, q3, q4, q5, q6, q7, q8⟩ := nt_at0 k3; clear k3; go_simp; try with_reducible rfl)
  try simp only [Act.put, List.setIfInBounds_toArray, List.set_cons_zero, List.set_cons_succ]
  refine wpAnyH_take (i := 6) (oi := { dst := some 63, op := Go.Op.nilCheck (Go.Operand.tmp 62), type := 0, pos := "outbox.go:66", after := #[{ on := 5, ground := Go.Ground.data }], guard := none }) (v := ?_) rfl (by kernel_rfl) (by kernel_rfl) (by kernel_rfl) (fun _ _ _ h => h) (Or.inl ⟨by rfl, ?_⟩) HS0.out ?_
  case refine_2 => (intro w1 hS1; obtain ⟨c0, c1, k3⟩ := hS1; obtain ⟨q0, q1, q2, q3, q4, q5, q6, q7, q8⟩ := nt_at0 k3; clear k3; go_simp; try with_reducible rfl)
  try simp only [Act.put, List.setIfInBounds_toArray, List.set_cons_zero, List.set_cons_succ]
  refine wpAnyH_take (i := 7) (oi := { dst := some 64, op := Go.Op.fieldAddr 79 (Go.Operand.tmp 63) 0, type := 0, pos := "outbox.go:66", after := #[{ on := 6, ground := Go.Ground.data }], guard := none }) (v := ?_) rfl (by kernel_rfl) (by kernel_rfl) (by kernel_rfl) (fun _ _ _ h => h) (Or.inl ⟨by rfl, ?_⟩) HS0.out ?_
  case refine_2 => (intro w1 hS1; obtain ⟨c0, c1, k3⟩ := hS1; obtain ⟨q0, q1, q2, q3, q4, q5, q6, q7, q8⟩ := nt_at0 k3; clear k3; go_simp; try with_reducible rfl)
  try simp only [Act.put, List.setIfInBounds_toArray, List.set_cons_zero, List.set_cons_succ]
  refine wpAnyH_take (i := 8) (oi := { dst := some 65, op := Go.Op.load 22 (Go.Operand.tmp 64), type := 22, pos := "outbox.go:66", after := #[{ on := 7, ground := Go.Ground.data }], guard := none }) (v := ?_) rfl (by kernel_rfl) (by kernel_rfl) (by kernel_rfl) (fun _ _ _ h => h) (Or.inl ⟨by rfl, ?_⟩) HS0.out ?_
  case refine_2 => (intro w1 hS1; obtain ⟨c0, c1, k3⟩ := hS1; obtain ⟨q0, q1, q2, q3, q4, q5, q6, q7, q8⟩ := nt_at0 k3; clear k3; go_simp; try with_reducible rfl)
  try simp only [Act.put, List.setIfInBounds_toArray, List.set_cons_zero, List.set_cons_succ]
  refine wpAnyH_take (i := 9) (oi := { dst := some 66, op := Go.Op.fieldAddr 36 (Go.Operand.tmp 4) 1, type := 0, pos := "outbox.go:66", after := #[], guard := none }) (v := ?_) rfl (by kernel_rfl) (by kernel_rfl) (by kernel_rfl) (fun _ _ _ h => h) (Or.inl ⟨by rfl, ?_⟩) HS0.out ?_
  case refine_2 => (intro w1 hS1; obtain ⟨c0, c1, k3⟩ := hS1; obtain ⟨q0, q1, q2, q3, q4, q5, q6, q7, q8⟩ := nt_at0 k3; clear k3; go_simp; try with_reducible rfl)
  try simp only [Act.put, List.setIfInBounds_toArray, List.set_cons_zero, List.set_cons_succ]
  refine wpAnyH_take (i := 10) (oi := { dst := some 67, op := Go.Op.load 22 (Go.Operand.tmp 66), type := 22, pos := "outbox.go:66", after := #[{ on := 9, ground := Go.Ground.data }], guard := none }) (v := ?_) rfl (by kernel_rfl) (by kernel_rfl) (by kernel_rfl) (fun _ _ _ h => h) (Or.inl ⟨by rfl, ?_⟩) HS0.out ?_
  case refine_2 => (intro w1 hS1; obtain ⟨c0, c1, k3⟩ := hS1; obtain ⟨q0, q1, q2, q3, q4, q5, q6, q7, q8⟩ := nt_at0 k3; clear k3; go_simp; try with_reducible rfl)
  try simp only [Act.put, List.setIfInBounds_toArray, List.set_cons_zero, List.set_cons_succ]
  refine wpAnyH_take (i := 11) (oi := { dst := some 68, op := Go.Op.fieldAddr 36 (Go.Operand.tmp 4) 2, type := 0, pos := "outbox.go:66", after := #[], guard := none }) (v := ?_) rfl (by kernel_rfl) (by kernel_rfl) (by kernel_rfl) (fun _ _ _ h => h) (Or.inl ⟨by rfl, ?_⟩) HS0.out ?_
  case refine_2 => (intro w1 hS1; obtain ⟨c0, c1, k3⟩ := hS1; obtain ⟨q0, q1, q2, q3, q4, q5, q6, q7, q8⟩ := nt_at0 k3; clear k3; go_simp; try with_reducible rfl)
  try simp only [Act.put, List.setIfInBounds_toArray, List.set_cons_zero, List.set_cons_succ]
  refine wpAnyH_take (i := 12) (oi := { dst := some 69, op := Go.Op.load 3 (Go.Operand.tmp 68), type := 3, pos := "outbox.go:66", after := #[{ on := 11, ground := Go.Ground.data }], guard := none }) (v := ?_) rfl (by kernel_rfl) (by kernel_rfl) (by kernel_rfl) (fun _ _ _ h => h) (Or.inl ⟨by rfl, ?_⟩) HS0.out ?_
  case refine_2 => (intro w1 hS1; obtain ⟨c0, c1, k3⟩ := hS1; obtain ⟨q0, q1, q2, q3, q4, q5, q6, q7, q8⟩ := nt_at0 k3; clear k3; go_simp; try with_reducible rfl)
  try simp only [Act.put, List.setIfInBounds_toArray, List.set_cons_zero, List.set_cons_succ]
  refine wpAnyH_take (i := 13) (oi := { dst := some 70, op := Go.Op.fieldAddr 36 (Go.Operand.tmp 4) 3, type := 0, pos := "outbox.go:66", after := #[], guard := none }) (v := ?_) rfl (by kernel_rfl) (by kernel_rfl) (by kernel_rfl) (fun _ _ _ h => h) (Or.inl ⟨by rfl, ?_⟩) HS0.out ?_
  case refine_2 => (intro w1 hS1; obtain ⟨c0, c1, k3⟩ := hS1; obtain ⟨q0, q1, q2, q3, q4, q5, q6, q7, q8⟩ := nt_at0 k3; clear k3; go_simp; try with_reducible rfl)
  try simp only [Act.put, List.setIfInBounds_toArray, List.set_cons_zero, List.set_cons_succ]
  refine wpAnyH_take (i := 14) (oi := { dst := some 71, op := Go.Op.load 3 (Go.Operand.tmp 70), type := 3, pos := "outbox.go:66", after := #[{ on := 13, ground := Go.Ground.data }], guard := none }) (v := ?_) rfl (by kernel_rfl) (by kernel_rfl) (by kernel_rfl) (fun _ _ _ h => h) (Or.inl ⟨by rfl, ?_⟩) HS0.out ?_
  case refine_2 => (intro w1 hS1; obtain ⟨c0, c1, k3⟩ := hS1; obtain ⟨q0, q1, q2, q3, q4, q5, q6, q7, q8⟩ := nt_at0 k3; clear k3; go_simp; try with_reducible rfl)
  try simp only [Act.put, List.setIfInBounds_toArray, List.set_cons_zero, List.set_cons_succ]
  refine wpAnyH_take (i := 15) (oi := { dst := some 72, op := Go.Op.fieldAddr 36 (Go.Operand.tmp 4) 6, type := 0, pos := "outbox.go:66", after := #[], guard := none }) (v := ?_) rfl (by kernel_rfl) (by kernel_rfl) (by kernel_rfl) (fun _ _ _ h => h) (Or.inl ⟨by rfl, ?_⟩) HS0.out ?_
  case refine_2 => (intro w1 hS1; obtain ⟨c0, c1, k3⟩ := hS1; obtain ⟨q0, q1, q2, q3, q4, q5, q6, q7, q8⟩ := nt_at0 k3; clear k3; go_simp; try with_reducible rfl)
  try simp only [Act.put, List.setIfInBounds_toArray, List.set_cons_zero, List.set_cons_succ]
  refine wpAnyH_take (i := 16) (oi := { dst := some 73, op := Go.Op.load 3 (Go.Operand.tmp 72), type := 3, pos := "outbox.go:66", after := #[{ on := 15, ground := Go.Ground.data }], guard := none }) (v := ?_) rfl (by kernel_rfl) (by kernel_rfl) (by kernel_rfl) (fun _ _ _ h => h) (Or.inl ⟨by rfl, ?_⟩) HS0.out ?_
  case refine_2 => (intro w1 hS1; obtain ⟨c0, c1, k3⟩ := hS1; obtain ⟨q0, q1, q2, q3, q4, q5, q6, q7, q8⟩ := nt_at0 k3; clear k3; go_simp; try with_reducible rfl)
  try simp only [Act.put, List.setIfInBounds_toArray, List.set_cons_zero, List.set_cons_succ]
  refine wpAnyH_take (i := 17) (oi := { dst := some 74, op := Go.Op.fieldAddr 36 (Go.Operand.tmp 4) 7, type := 0, pos := "outbox.go:66", after := #[], guard := none }) (v := ?_) rfl (by kernel_rfl) (by kernel_rfl) (by kernel_rfl) (fun _ _ _ h => h) (Or.inl ⟨by rfl, ?_⟩) HS0.out ?_
  case refine_2 => (intro w1 hS1; obtain ⟨c0, c1, k3⟩ := hS1; obtain ⟨q0, q1, q2, q3, q4, q5, q6, q7, q8⟩ := nt_at0 k3; clear k3; go_simp; try with_reducible rfl)
  try simp only [Act.put, List.setIfInBounds_toArray, List.set_cons_zero, List.set_cons_succ]
  refine wpAnyH_take (i := 18) (oi := { dst := some 75, op := Go.Op.load 2 (Go.Operand.tmp 74), type := 2, pos := "outbox.go:66", after := #[{ on := 17, ground := Go.Ground.data }], guard := none }) (v := ?_) rfl (by kernel_rfl) (by kernel_rfl) (by kernel_rfl) (fun _ _ _ h => h) (Or.inl ⟨by rfl, ?_⟩) HS0.out ?_
  case refine_2 => (intro w1 hS1; obtain ⟨c0, c1, k3⟩ := hS1; obtain ⟨q0, q1, q2, q3, q4, q5, q6, q7, q8⟩ := nt_at0 k3; clear k3; go_simp; try with_reducible rfl)
  try simp only [Act.put, List.setIfInBounds_toArray, List.set_cons_zero, List.set_cons_succ]
  refine wpAnyH_take (i := 19) (oi := { dst := some 76, op := Go.Op.move (Go.Operand.tmp 2), type := 2, pos := "outbox.go:66", after := #[], guard := none }) (v := ?_) rfl (by kernel_rfl) (by kernel_rfl) (by kernel_rfl) (fun _ _ _ h => h) (Or.inl ⟨by rfl, ?_⟩) HS0.out ?_
  case refine_2 => (intro w1 hS1; obtain ⟨c0, c1, k3⟩ := hS1; obtain ⟨q0, q1, q2, q3, q4, q5, q6, q7, q8⟩ := nt_at0 k3; clear k3; go_simp; try with_reducible rfl)
  try simp only [Act.put, List.setIfInBounds_toArray, List.set_cons_zero, List.set_cons_succ]
  refine wpAnyH_take (i := 20) (oi := { dst := some 77, op := Go.Op.build 36 #[(0, Go.Operand.tmp 65), (1, Go.Operand.tmp 67), (2, Go.Operand.tmp 69), (3, Go.Operand.tmp 71), (4, Go.Operand.const (Go.Value.int Go.IntKind.i64 1)), (6, Go.Operand.tmp 73), (7, Go.Operand.tmp 75), (8, Go.Operand.tmp 76)], type := 36, pos := "outbox.go:66", after := #[{ on := 8, ground := Go.Ground.data }, { on := 10, ground := Go.Ground.data }, { on := 12, ground := Go.Ground.data }, { on := 14, ground := Go.Ground.data }, { on := 16, ground := Go.Ground.data }, { on := 18, ground := Go.Ground.data }, { on := 19, ground := Go.Ground.data }], guard := none }) (v := ?_) rfl (by kernel_rfl) (by kernel_rfl) (by kernel_rfl) (fun _ _ _ h => h) (Or.inl ⟨by rfl, ?_⟩) HS0.out ?_
  case refine_2 => (intro w1 hS1; obtain ⟨c0, c1, k3⟩ := hS1; obtain ⟨q0, q1, q2, q3, q4, q5, q6, q7, q8⟩ := nt_at0 k3; clear k3; go_simp; try with_reducible rfl)
  try simp only [Act.put, List.setIfInBounds_toArray, List.set_cons_zero, List.set_cons_succ]
  refine wpAnyH_take (i := 21) (oi := { dst := some 78, op := Go.Op.nilCheck (Go.Operand.tmp 57), type := 0, pos := "outbox.go:66", after := #[{ on := 0, ground := Go.Ground.data }], guard := none }) (v := ?_) rfl (by kernel_rfl) (by kernel_rfl) (by kernel_rfl) (fun _ _ _ h => h) (Or.inl ⟨by rfl, ?_⟩) HS0.out ?_
  case refine_2 => (intro w1 hS1; obtain ⟨c0, c1, k3⟩ := hS1; obtain ⟨q0, q1, q2, q3, q4, q5, q6, q7, q8⟩ := nt_at0 k3; clear k3; go_simp; try with_reducible rfl)
  try simp only [Act.put, List.setIfInBounds_toArray, List.set_cons_zero, List.set_cons_succ]
  refine wpAnyH_take (i := 22) (oi := { dst := some 79, op := Go.Op.fieldAddr 79 (Go.Operand.tmp 78) 2, type := 0, pos := "outbox.go:66", after := #[{ on := 21, ground := Go.Ground.data }], guard := none }) (v := ?_) rfl (by kernel_rfl) (by kernel_rfl) (by kernel_rfl) (fun _ _ _ h => h) (Or.inl ⟨by rfl, ?_⟩) HS0.out ?_
  case refine_2 => (intro w1 hS1; obtain ⟨c0, c1, k3⟩ := hS1; obtain ⟨q0, q1, q2, q3, q4, q5, q6, q7, q8⟩ := nt_at0 k3; clear k3; go_simp; try with_reducible rfl)
  try simp only [Act.put, List.setIfInBounds_toArray, List.set_cons_zero, List.set_cons_succ]
  refine wpAnyH_take (i := 23) (oi := { dst := some 80, op := Go.Op.indexAddr 77 (Go.Operand.tmp 79) (Go.Operand.tmp 61), type := 0, pos := "outbox.go:66", after := #[{ on := 22, ground := Go.Ground.data }, { on := 4, ground := Go.Ground.data }, { on := 0, ground := Go.Ground.phase }, { on := 1, ground := Go.Ground.phase }, { on := 2, ground := Go.Ground.phase }, { on := 3, ground := Go.Ground.phase }, { on := 4, ground := Go.Ground.phase }, { on := 5, ground := Go.Ground.phase }, { on := 6, ground := Go.Ground.phase }, { on := 7, ground := Go.Ground.phase }, { on := 8, ground := Go.Ground.phase }, { on := 9, ground := Go.Ground.phase }, { on := 10, ground := Go.Ground.phase }, { on := 11, ground := Go.Ground.phase }, { on := 12, ground := Go.Ground.phase }, { on := 13, ground := Go.Ground.phase }, { on := 14, ground := Go.Ground.phase }, { on := 15, ground := Go.Ground.phase }, { on := 16, ground := Go.Ground.phase }, { on := 17, ground := Go.Ground.phase }, { on := 18, ground := Go.Ground.phase }, { on := 19, ground := Go.Ground.phase }, { on := 20, ground := Go.Ground.phase }], guard := none }) (v := ?_) rfl (by kernel_rfl) (by kernel_rfl) (by kernel_rfl) (fun _ _ _ h => h) (Or.inl ⟨by rfl, ?_⟩) HS0.out ?_
  case refine_2 => (intro w1 hS1; obtain ⟨c0, c1, k3⟩ := hS1; obtain ⟨q0, q1, q2, q3, q4, q5, q6, q7, q8⟩ := nt_at0 k3; clear k3; go_simp; try with_reducible rfl)
  try simp only [Act.put, List.setIfInBounds_toArray, List.set_cons_zero, List.set_cons_succ]
  refine wpAnyH_ready (rs := [24]) (by kernel_rfl) (by simp) ?_
  refine AllReadyH.cons (o := { dst := none, op := Go.Op.store 36 (Go.Operand.tmp 80) (Go.Operand.tmp 77), type := 0, pos := "outbox.go:66", after := #[{ on := 23, ground := Go.Ground.data }, { on := 20, ground := Go.Ground.data }, { on := 0, ground := Go.Ground.phase }, { on := 1, ground := Go.Ground.phase }, { on := 2, ground := Go.Ground.phase }, { on := 3, ground := Go.Ground.phase }, { on := 4, ground := Go.Ground.phase }, { on := 5, ground := Go.Ground.phase }, { on := 6, ground := Go.Ground.phase }, { on := 7, ground := Go.Ground.phase }, { on := 8, ground := Go.Ground.phase }, { on := 9, ground := Go.Ground.phase }, { on := 10, ground := Go.Ground.phase }, { on := 11, ground := Go.Ground.phase }, { on := 12, ground := Go.Ground.phase }, { on := 13, ground := Go.Ground.phase }, { on := 14, ground := Go.Ground.phase }, { on := 15, ground := Go.Ground.phase }, { on := 16, ground := Go.Ground.phase }, { on := 17, ground := Go.Ground.phase }, { on := 18, ground := Go.Ground.phase }, { on := 19, ground := Go.Ground.phase }, { on := 20, ground := Go.Ground.phase }], guard := none }) rfl (fun K hK => ?_) AllReadyH.nil
  rw [if_pos (by rfl)]
  refine wp_store_mid 36 (.tmp 80) (.tmp 77) rfl b (2 + m * 9) (newN last x now).L.toArray rfl rfl (HTH.out _ HM.out) nt_info (all_oneCell_toArray (nt_one _)) ?_
  rw [List.toList_toArray]
  have HS0' : Hid ((fun W : World => W.cell? ⟨b, 0, none⟩ = some (.int .u64 (last + 1)) ∧ W.cell? ⟨b, 1, none⟩ = some (.int .i64 (m : Int)) ∧ W.heap[N]? = some (.cells #[.int .u64 x.id, .int .u64 x.tk, .int .i64 x.lv, .int .i64 x.pa, .int .i64 x.st, .int .i64 x.tr, .int .i64 x.rt, .int .i64 x.wt, .int .i64 x.nx] 36 (0, 0))) (w5.setCells b (2 + m * 9) (newN last x now).L)) := Lib.hid ⟨cell_apart HS0.out.1 (by omega), cell_apart HS0.out.2.1 (by omega), (setCells_block (HNB2.out) _ _ _).trans HS0.out.2.2⟩
  have HX6 := Lib.hid (HX5.out.push HMM.out HM.out (newN last x now))
  clear HS0 HX5
  have HS0 := HS0'
  clear HS0'
  generalize hW6 : w5.setCells b (2 + m * 9) (newN last x now).L = w6 at HS0 HX6 ⊢
  rw [hW6] at HO6'
  clear hW6
  refine hK.out _ _ HS0.out (fun hHeld => ?_)
  clear hK K hHeld
  try simp only [Act.put, List.setIfInBounds_toArray, List.set_cons_zero, List.set_cons_succ]
  refine wpAnyH_done (by kernel_rfl) ?_ _
  have c1 := HX6.out.c1
  have f1 := HX6.out.fr 1 (by omega)
  have c0 := (HX6.out.many (m + 1)).c0
  have HX7 := Lib.hid (HX6.out.many (m + 1))
  have HO7 : Hid (OnlyB b w (w6.setCell ⟨b, 1, none⟩ (.int .i64 ((m + 1 : Nat) : Int)))) := Lib.hid (OnlyB.set HO6'.out 1 [.int .i64 ((m + 1 : Nat) : Int)])
  have hmi : ((m + 1 : Nat) : Int) = (m : Int) + 1 := by omega
  rw [hmi] at HX7 HO7 c0
  go_wp2_with fail
  refine bodyPost_ret (results_tmp2 rfl _ _ _) rfl ?_
  rw [HE9.out]
  exact ⟨rfl, HX7.out.x (by rw [List.length_append, HMM.out]; rfl), HO7.out⟩
end Go.Proofs.Ytnfpheccmjdpoaa
