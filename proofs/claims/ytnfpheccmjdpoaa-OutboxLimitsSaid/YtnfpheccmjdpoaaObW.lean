/- The outbox: what may befall a notice; the law's walk. -/
import Derived.Test.YtnfpheccmjdpoaaObU
import Derived.Test.YtnfpheccmjdpoaaObV
import Derived.Deep.CutBlock
import Derived.Deep.DeepCutAuto
namespace Go.Proofs.Ytnfpheccmjdpoaa
open Go.RowKit
theorem op_at {w : World} {N : Nat} {y : Oq} {t : TypeId} {c : Nat × Nat} (h : w.heap[N]? = some (.cells #[.int .i64 y.kd, .int .u64 y.x.id, .int .u64 y.x.tk, .int .i64 y.x.lv, .int .i64 y.x.pa, .int .i64 y.x.st, .int .i64 y.x.tr, .int .i64 y.x.rt, .int .i64 y.x.wt, .int .i64 y.x.nx, .int .i64 y.a] t c)) : w.cell? ⟨N, 0, none⟩ = some (.int .i64 y.kd) ∧ w.cell? ⟨N, 1, none⟩ = some (.int .u64 y.x.id) ∧ w.cell? ⟨N, 2, none⟩ = some (.int .u64 y.x.tk) ∧ w.cell? ⟨N, 3, none⟩ = some (.int .i64 y.x.lv) ∧ w.cell? ⟨N, 4, none⟩ = some (.int .i64 y.x.pa) ∧ w.cell? ⟨N, 5, none⟩ = some (.int .i64 y.x.st) ∧ w.cell? ⟨N, 6, none⟩ = some (.int .i64 y.x.tr) ∧ w.cell? ⟨N, 7, none⟩ = some (.int .i64 y.x.rt) ∧ w.cell? ⟨N, 8, none⟩ = some (.int .i64 y.x.wt) ∧ w.cell? ⟨N, 9, none⟩ = some (.int .i64 y.x.nx) ∧ w.cell? ⟨N, 10, none⟩ = some (.int .i64 y.a) := by
  refine ⟨?_, ?_, ?_, ?_, ?_, ?_, ?_, ?_, ?_, ?_, ?_⟩ <;> simp [World.cell?, h]
theorem st_field1 (last : Int) (a : Option Addr) (n c : Nat) (w : World) : (Instr.field 25 (.agg #[.int .u64 last, .slice a n c]) 1).run Try.prog w = .ok (.slice a n c) w := by kernel_rfl
theorem ntl_at {w : World} {N : Nat} {v0 v1 v2 v3 v4 v5 v6 v7 v8 : Value} {t : TypeId} {c : Nat × Nat} (h : w.heap[N]? = some (.cells #[v0, v1, v2, v3, v4, v5, v6, v7, v8] t c)) : w.cell? ⟨N, 0, none⟩ = some v0 ∧ w.cell? ⟨N, 1, none⟩ = some v1 ∧ w.cell? ⟨N, 2, none⟩ = some v2 ∧ w.cell? ⟨N, 3, none⟩ = some v3 ∧ w.cell? ⟨N, 4, none⟩ = some v4 ∧ w.cell? ⟨N, 5, none⟩ = some v5 ∧ w.cell? ⟨N, 6, none⟩ = some v6 ∧ w.cell? ⟨N, 7, none⟩ = some v7 ∧ w.cell? ⟨N, 8, none⟩ = some v8 := by
  refine ⟨?_, ?_, ?_, ?_, ?_, ?_, ?_, ?_, ?_⟩ <;> simp [World.cell?, h]
set_option maxRecDepth 100000 in
set_option maxHeartbeats 8000000 in
theorem limits_walk (a : Option Addr) (len cap : Nat) (Q : Nat → Oq) (w : World) (h : Ops17 w a len Q) : Calls Try.prog 4 #[.slice a len cap] w fun e w' => e = .returned (.bool true) ∧ Below w.heap.size w w' := by
  have HA := Lib.hid h
  clear h
  by_cases h200 : 200 < len
  · have d1 : decide ((200 : Int) < (len : Int)) = true := decide_eq_true (by omega)
    go_enter Try.func4, Try.ntmps4
    go_wp2_with fail
    refine (lives_any w).mono ?_
    rintro e w2 ⟨rfl, hb⟩
    have HB := Lib.hid hb
    clear hb
    go_wp2_with fail
    go_ret
    exact ⟨rfl, HB.out⟩
  have d1 : decide ((200 : Int) < (len : Int)) = false := decide_eq_false (by omega)
  have hlen : len ≤ 200 := by omega
  clear h200
  have hmm := @run_makeMap Try.prog
  go_enter Try.func4, Try.ntmps4
  go_wp2_with fail
  refine (new_box w).mono ?_
  rintro e w1 ⟨b, rfl, hb0, hx, hb⟩
  have HX1 := Lib.hid hx
  have HBB : Hid (w.heap.size ≤ b ∧ b < w1.heap.size) := Lib.hid ⟨hb0, hx.lt⟩
  have HB1 := Lib.hid hb
  clear hx hb hb0
  go_wp2_with fail
  obtain ⟨mt, hmt⟩ : ∃ mt, w1.heap.size = mt := ⟨_, rfl⟩
  have A1 : Below w1.heap.size w1 (w1.alloc (.map #[] 0)) := (Below.refl _ w1).alloc (Nat.le_refl _) _
  have hs1 : (w1.alloc (.map #[] 0)).heap.size = w1.heap.size + 1 := by simp
  have A2 : Below (w1.alloc (.map #[] 0)).heap.size (w1.alloc (.map #[] 0)) ((w1.alloc (.map #[] 0)).alloc (.map #[] 0)) := (Below.refl _ _).alloc (Nat.le_refl _) _
  have HT0 : Hid (MI ((w1.alloc (.map #[] 0)).alloc (.map #[] 0)) mt 0 (fun _ => 0)) := Lib.hid (by rw [← hmt]; exact (MI.made w1).below A2)
  have HO0 : Hid (MI ((w1.alloc (.map #[] 0)).alloc (.map #[] 0)) (mt + 1) 0 (fun _ => 0)) := Lib.hid (by rw [← hmt, ← hs1]; exact MI.made _)
  have HX0 : Hid (BX ((w1.alloc (.map #[] 0)).alloc (.map #[] 0)) b 0 []) := Lib.hid ((HX1.out.below A1).below A2)
  have HB0 : Hid (Below w.heap.size w ((w1.alloc (.map #[] 0)).alloc (.map #[] 0))) := Lib.hid ((HB1.out.trans (A1.mono HB1.out.size)).trans (A2.mono (by rw [hs1]; have := HB1.out.size; omega)))
  have HBM : Hid (w.heap.size ≤ b ∧ b < mt) := Lib.hid (by rw [← hmt]; exact HBB.out)
  clear A1 A2 hs1 HX1 HB1 HBB
  try rw [hmt]
  generalize (w1.alloc (.map #[] 0)).alloc (.map #[] 0) = w2 at HT0 HO0 HX0 HB0 ⊢
  clear hmt hmm
  go_loopg [6, 29] len (fun kx s6 s29 wr => ∃ (j : Nat) (last : Int) (l : List Nt) (T O : Int → Int) (c : Nat), s6 = .int .u64 last ∧ s29 = .int .i64 (j : Int) ∧ j ≤ len ∧ len - j ≤ kx ∧ c ≤ 200 * j ∧ last ≤ (j : Int) ∧ Hid (BX wr b last l) ∧ Hid (Inv last l T O) ∧ Hid (MI wr mt c T) ∧ Hid (MI wr (mt + 1) c O) ∧ Hid (Below w.heap.size w wr))
  case atStart => exact ⟨0, 0, [], _, _, 0, rfl, rfl, by omega, by omega, by omega, by omega, HX0, Lib.hid (Inv.new _ _ (fun _ => ⟨rfl, rfl⟩)), HT0, HO0, HB0⟩
  case round =>
    obtain ⟨j, last, l, T, O, c, rfl, rfl, hj, hjx, hc, hla, HX, HI, HT, HO, HB⟩ := hrel
    clear HX0 HT0 HO0 HB0
    by_cases hlt : j < len
    · have hltz : (j : Int) < (len : Int) := by omega
      have hj0 : (0 : Int) ≤ (j : Int) := by omega
      have hd : decide ((j : Int) < (len : Int)) = true := decide_eq_true hltz
      have hwj : wrap64 ((j : Int) + 1) = (j : Int) + 1 := IntWalk.wrap64_in _ (by omega)
      obtain ⟨B, o, rfl, hq⟩ := (HA.out.below HB.out) j hlt
      obtain ⟨y, hy⟩ : ∃ y, Q j = y := ⟨_, rfl⟩
      rw [hy] at hq
      clear hy
      obtain ⟨q0, q1, q2, q3, q4, q5, q6, q7, q8, q9, q10⟩ := hq.2
      clear hq
      obtain ⟨B1, s0, -⟩ := box1 wr #[.int .i64 y.kd, .int .u64 y.x.id, .int .u64 y.x.tk, .int .i64 y.x.lv, .int .i64 y.x.pa, .int .i64 y.x.st, .int .i64 y.x.tr, .int .i64 y.x.rt, .int .i64 y.x.wt, .int .i64 y.x.nx, .int .i64 y.a] 38
      have HX2 := Lib.hid (HX.out.below B1)
      have HT2 := Lib.hid (HT.out.below B1)
      have HO2 := Lib.hid (HO.out.below B1)
      have HB2 := Lib.hid (HB.out.trans (B1.mono HB.out.size))
      have HS2 := Lib.hid s0
      clear B1 s0 HX HT HO HB
      go_wp2_with fail
      obtain ⟨N, hN⟩ : ∃ N, wr.heap.size = N := ⟨_, rfl⟩
      rw [hN] at HS2
      try rw [hN]
      clear hN
      generalize wr.alloc (.cells #[.int .i64 y.kd, .int .u64 y.x.id, .int .u64 y.x.tk, .int .i64 y.x.lv, .int .i64 y.x.pa, .int .i64 y.x.st, .int .i64 y.x.tr, .int .i64 y.x.rt, .int .i64 y.x.wt, .int .i64 y.x.nx, .int .i64 y.a] 38) = w3 at HX2 HT2 HO2 HB2 HS2 ⊢
      refine (state_box b last l w3 HX2.out).mono ?_
      rintro e w4 ⟨v4, rfl, hon, hb⟩
      obtain ⟨a4, c4, rfl, hnr⟩ := hon.nr
      have HX4 := Lib.hid (HX2.out.below hb)
      have HT4 := Lib.hid (HT2.out.below hb)
      have HO4 := Lib.hid (HO2.out.below hb)
      have HB4 := Lib.hid (HB2.out.trans (hb.mono HB2.out.size))
      have HS4 := Lib.hid (ex_below HS2.out hb)
      have HN4 := Lib.hid hnr
      clear hon hb hnr HX2 HT2 HO2 HB2 HS2 q0 q1 q2 q3 q4 q5 q6 q7 q8 q9 q10
      obtain ⟨B1, s1, -⟩ := box1 w4 #[.int .u64 last, .slice a4 l.length c4] 25
      have HX5 := Lib.hid (HX4.out.below B1)
      have HT5 := Lib.hid (HT4.out.below B1)
      have HO5 := Lib.hid (HO4.out.below B1)
      have HB5 := Lib.hid (HB4.out.trans (B1.mono HB4.out.size))
      have HS5 := Lib.hid (ex_below HS4.out B1)
      have HN5 := Lib.hid (HN4.out.below B1)
      have HW5 := Lib.hid s1
      obtain ⟨r0, r1, r2, r3, r4, r5, r6, r7, r8, r9, r10⟩ := op_at HS5.out
      clear B1 s1 HX4 HT4 HO4 HB4 HS4 HN4
      obtain ⟨N5, hN5⟩ : ∃ N5, w4.heap.size = N5 := ⟨_, rfl⟩
      rw [hN5] at HW5
      go_upto_block 2 with fail
      try rw [hN5]
      go_cut [6] (fun s6 wc => ∃ (last2 : Int) (l2 : List Nt) (T2 O2 : Int → Int) (c2 : Nat), s6 = .int .u64 last2 ∧ c2 ≤ 200 * j + 200 ∧ last2 ≤ (j : Int) + 1 ∧ Hid (BX wc b last2 l2) ∧ Hid (Inv last2 l2 T2 O2) ∧ Hid (MI wc mt c2 T2) ∧ Hid (MI wc (mt + 1) c2 O2) ∧ Hid (Below w.heap.size w wc))
      case first =>
        by_cases k1 : y.kd = 1
        · have e1 : decide (y.kd = 1) = true := decide_eq_true k1
          have b1 : (y.kd == 1) = true := by simp [k1]
          clear k1
          go_wp2_with fail
          clear r0 r1 r2 r3 r4 r5 r6 r7 r8 r9 r10
          generalize w4.alloc (.cells #[.int .u64 last, .slice a4 l.length c4] 25) = w5 at HX5 HT5 HO5 HB5 HS5 HN5 HW5 ⊢
          refine (try_all b last l T O y.x.id y.a w5 HX5.out HI.out).mono ?_
          rintro e w6 (⟨code, hcode, rfl, hb⟩ | ⟨k, hk, he, hxx, hnx, rfl, hx, ho⟩)
          · have dc : decide (code = 0) = false := decide_eq_false hcode
            have dc2 : (code == 0) = false := by simp [hcode]
            obtain ⟨B1, s1, -⟩ := box1 w6 #[.int .u64 0, .int .u64 0, .int .i64 0, .int .i64 0, .int .i64 0, .int .i64 0, .int .i64 0, .int .i64 0, .int .i64 0] 36
            have HX6 := Lib.hid ((HX5.out.below hb).below B1)
            have HT6 := Lib.hid ((HT5.out.below hb).below B1)
            have HO6 := Lib.hid ((HO5.out.below hb).below B1)
            have HB6 := Lib.hid ((HB5.out.trans (hb.mono HB5.out.size)).trans (B1.mono (HB5.out.trans (hb.mono HB5.out.size)).size))
            have HW6 := Lib.hid (ex_below (ex_below HW5.out hb) B1)
            have HN6 := Lib.hid ((HN5.out.below hb).below B1)
            have HL6 := Lib.hid HX5.out.len
            clear hb hcode B1 s1 HX5 HT5 HO5 HB5 HS5 HN5 HW5
            have hnz : nz.V = .agg #[.int .u64 0, .int .u64 0, .int .i64 0, .int .i64 0, .int .i64 0, .int .i64 0, .int .i64 0, .int .i64 0, .int .i64 0] := rfl
            rw [hnz]
            clear hnz
            go_wp2_with fail
            generalize w6.alloc (.cells #[.int .u64 0, .int .u64 0, .int .i64 0, .int .i64 0, .int .i64 0, .int .i64 0, .int .i64 0, .int .i64 0, .int .i64 0] 36) = w7 at HX6 HT6 HO6 HB6 HW6 HN6 ⊢
            have HS0 : Hid ((fun W : World => BX W b last l ∧ W.heap[N5]? = some (.cells #[.int .u64 last, .slice a4 l.length c4] 25 (0, 0)) ∧ NR W a4 l ∧ Below w7.heap.size w7 W) w7.drew) := Lib.hid ⟨HX6.out.kept rfl, HW6.out, HN6.out, (Below.refl _ _).drew⟩
            refine wp_region_held_drew (S := (fun W : World => BX W b last l ∧ W.heap[N5]? = some (.cells #[.int .u64 last, .slice a4 l.length c4] 25 (0, 0)) ∧ NR W a4 l ∧ Below w7.heap.size w7 W)) (by kernel_rfl) HS0.out (fun hHeld => ?_)
            clear hHeld
            generalize w7.drew = w30 at HS0 ⊢
            refine wpAnyH_take (i := 0) (oi := { dst := some 67, op := Go.Op.move (Go.Operand.tmp 3), type := 29, pos := "law.go:104", after := #[], guard := none }) (v := ?_) rfl (by kernel_rfl) (by kernel_rfl) (by kernel_rfl) (fun _ _ _ h => h) (Or.inl ⟨by rfl, ?_⟩) HS0.out ?_
            case refine_2 => (intro w1 hS1; clear hS1; go_simp; try with_reducible rfl)
            try simp only [Act.put, List.setIfInBounds_toArray, List.set_cons_zero, List.set_cons_succ]
            refine wpAnyH_take (i := 2) (oi := { dst := some 69, op := Go.Op.load 25 (Go.Operand.tmp 9), type := 25, pos := "law.go:104", after := #[], guard := none }) (v := .agg #[.int .u64 last, .slice a4 l.length c4]) rfl (by kernel_rfl) (by kernel_rfl) (by kernel_rfl) (fun _ _ _ h => h) (Or.inl ⟨by rfl, ?_⟩) HS0.out ?_
            case refine_1 => (intro w1 hS1; obtain ⟨-, hw9, -⟩ := hS1; have g0 : w1.cell? ⟨N5, 0, none⟩ = some (.int .u64 last) := (by simp only [World.cell?, hw9]; rfl); have g1 : w1.cell? ⟨N5, 1, none⟩ = some (.slice a4 l.length c4) := (by simp only [World.cell?, hw9]; rfl); clear hw9; go_simp; try with_reducible rfl)
            try simp only [Act.put, List.setIfInBounds_toArray, List.set_cons_zero, List.set_cons_succ]
            refine wpAnyH_ready (rs := [1]) (by kernel_rfl) (by simp) ?_
            refine AllReadyH.cons (o := { dst := some 68, op := Go.Op.call { callee := Go.Callee.value (Go.Operand.func 18), args := #[Go.Operand.tmp 67], argTypes := #[29] }, type := 25, pos := "law.go:104", after := #[{ on := 0, ground := Go.Ground.data }], guard := none }) rfl (fun K hK => ?_) AllReadyH.nil
            go_simp
            refine (state_box b last l w30 HS0.out.1).mono ?_
            rintro e w31 ⟨v31, rfl, hon, hb⟩
            obtain ⟨a31, c31, rfl, hnr⟩ := hon.nr
            have HN31 := Lib.hid hnr
            have HS0' : Hid ((fun W : World => BX W b last l ∧ W.heap[N5]? = some (.cells #[.int .u64 last, .slice a4 l.length c4] 25 (0, 0)) ∧ NR W a4 l ∧ Below w7.heap.size w7 W) w31) := Lib.hid ⟨HS0.out.1.below hb, ex_below HS0.out.2.1 hb, HS0.out.2.2.1.below hb, HS0.out.2.2.2.trans (hb.mono HS0.out.2.2.2.size)⟩
            clear HS0
            have HS0 := HS0'
            clear HS0'
            clear hb hon hnr
            refine hK.out _ _ HS0.out (fun hHeld => ?_)
            clear hK K hHeld
            try simp only [Act.put, List.setIfInBounds_toArray, List.set_cons_zero, List.set_cons_succ]
            refine wpAnyH_ready (rs := [3]) (by kernel_rfl) (by simp) ?_
            refine AllReadyH.cons (o := { dst := some 70, op := Go.Op.call { callee := Go.Callee.value (Go.Operand.func 21), args := #[Go.Operand.tmp 68, Go.Operand.tmp 69], argTypes := #[25, 25] }, type := 4, pos := "law.go:104", after := #[{ on := 1, ground := Go.Ground.data }, { on := 2, ground := Go.Ground.data }, { on := 1, ground := Go.Ground.chain }], guard := none }) rfl (fun K hK => ?_) AllReadyH.nil
            go_simp
            refine (same_any last last a31 a4 c31 c4 l l w31 HN31.out HS0.out.2.2.1 (by have := HL6.out; omega) (by have := HL6.out; omega)).mono ?_
            rintro e w32 ⟨rfl, hb⟩
            have hss : ((last == last) && decide (l = l)) = true := by simp
            rw [hss]
            clear hss
            have HS0' : Hid ((fun W : World => BX W b last l ∧ W.heap[N5]? = some (.cells #[.int .u64 last, .slice a4 l.length c4] 25 (0, 0)) ∧ NR W a4 l ∧ Below w7.heap.size w7 W) w32) := Lib.hid ⟨HS0.out.1.below hb, ex_below HS0.out.2.1 hb, HS0.out.2.2.1.below hb, HS0.out.2.2.2.trans (hb.mono HS0.out.2.2.2.size)⟩
            clear HS0
            have HS0 := HS0'
            clear HS0'
            clear hb
            refine hK.out _ _ HS0.out (fun hHeld => ?_)
            clear hK K hHeld
            try simp only [Act.put, List.setIfInBounds_toArray, List.set_cons_zero, List.set_cons_succ]
            refine wpAnyH_take (i := 4) (oi := { dst := some 71, op := Go.Op.unOp Go.UnOp.not 4 (Go.Operand.tmp 70), type := 4, pos := "law.go:104", after := #[{ on := 3, ground := Go.Ground.data }], guard := none }) (v := ?_) rfl (by kernel_rfl) (by kernel_rfl) (by kernel_rfl) (fun _ _ _ h => h) (Or.inl ⟨by rfl, ?_⟩) HS0.out ?_
            case refine_2 => (intro w1 hS1; clear hS1; go_simp; try with_reducible rfl)
            try simp only [Act.put, List.setIfInBounds_toArray, List.set_cons_zero, List.set_cons_succ]
            refine wpAnyH_done (by kernel_rfl) ?_ _
            have HX8 := Lib.hid HS0.out.1
            have HT8 := Lib.hid (HT6.out.below HS0.out.2.2.2)
            have HO8 := Lib.hid (HO6.out.below HS0.out.2.2.2)
            have HB8 := Lib.hid (HB6.out.trans (HS0.out.2.2.2.mono HB6.out.size))
            clear HX6 HT6 HO6 HB6 HW6 HN6 HS0 HN31
            go_wp2_with fail
            go_roundg (len - (j + 1))
            case measure => omega
            case rel => exact ⟨j + 1, last, l, T, O, c, rfl, by first | (rw [hwj]; rfl) | rfl, by omega, by omega, by omega, by omega, HX8, HI, HT8, HO8, HB8⟩
          · have hmem := List.getElem_mem hk
            have HI' := Lib.hid (HI.out.try hk y.a he hxx hnx)
            have hids := HI.out.ids _ hmem
            have htr := HI.out.trs _ hmem
            have hov := HI.out.over0 hk he
            have hbd := HI.out.bnd _ hmem
            have hex : l[k].tr < l[k].rt := by simpa [exhN] using hxx
            have HX6 := Lib.hid hx
            have HT6 := Lib.hid (HT5.out.block (ho.block mt HT5.out.lt (by have := HBM.out; show ¬ mt = b; omega)))
            have HO6 := Lib.hid (HO5.out.block (ho.block (mt + 1) HO5.out.lt (by have := HBM.out; show ¬ mt + 1 = b; omega)))
            have HB6 := Lib.hid (ho.in HB5.out HBM.out.1 HB5.out.size)
            obtain ⟨z, hz⟩ : ∃ z, tried3 l[k] y.a = z := ⟨_, rfl⟩
            have z1 : z.id = l[k].id := by rw [← hz]; rfl
            have z2 : z.tr = l[k].tr + 1 := by rw [← hz]; rfl
            have z3 : z.rt = l[k].rt := by rw [← hz]; rfl
            rw [hz] at HX6 HI'
            rw [hz]
            have hzv : z.V = .agg #[.int .u64 z.id, .int .u64 z.tk, .int .i64 z.lv, .int .i64 z.pa, .int .i64 z.st, .int .i64 z.tr, .int .i64 z.rt, .int .i64 z.wt, .int .i64 z.nx] := rfl
            rw [hzv]
            clear hzv
            rw [← z1] at HI' hids htr hov
            rw [htr] at HI'
            have zz : l[k].tr + 1 = z.tr := z2.symm
            rw [zz] at HI'
            have htr' : T z.id = z.tr - 1 := by rw [htr, z2]; omega
            have hzr : z.tr ≤ z.rt := by rw [z2, z3]; omega
            have hzb : 1 ≤ z.tr ∧ z.tr ≤ 8 := by rw [z2]; omega
            obtain ⟨B1, s1, -⟩ := box1 w6 #[.int .u64 z.id, .int .u64 z.tk, .int .i64 z.lv, .int .i64 z.pa, .int .i64 z.st, .int .i64 z.tr, .int .i64 z.rt, .int .i64 z.wt, .int .i64 z.nx] 36
            have HX7 := Lib.hid (HX6.out.below B1)
            have HT7 := Lib.hid (HT6.out.below B1)
            have HO7 := Lib.hid (HO6.out.below B1)
            have HB7 := Lib.hid (HB6.out.trans (B1.mono HB6.out.size))
            have HS7 := Lib.hid s1
            have HTL : Hid (mt < w6.heap.size) := Lib.hid HT6.out.lt
            clear hx ho HX5 HT5 HO5 HB5 HS5 HN5 HW5 HX6 HT6 HO6 HB6 hz z1 z2 z3 zz htr hbd hex hmem he hxx hnx B1 s1
            go_upto_region 22 with fail
            obtain ⟨N7, hN7⟩ : ∃ N7, w6.heap.size = N7 := ⟨_, rfl⟩
            rw [hN7] at HS7 HTL
            try rw [hN7]
            clear hN7
            generalize w6.alloc (.cells #[.int .u64 z.id, .int .u64 z.tk, .int .i64 z.lv, .int .i64 z.pa, .int .i64 z.st, .int .i64 z.tr, .int .i64 z.rt, .int .i64 z.wt, .int .i64 z.nx] 36) = w7 at HX7 HT7 HO7 HB7 HS7 ⊢
            obtain ⟨u0, u1, u2, u3, u4, u5, u6, u7, u8⟩ := nt_at0 HS7.out
            have lk1 := HT7.out.look z.id ⟨by omega, by omega⟩
            rw [htr'] at lk1
            have hwt : wrap64 z.tr = z.tr := IntWalk.wrap64_in _ (by omega)
            obtain ⟨w8, hrun, ht8, ho8⟩ := HT7.out.put (by omega) z.id z.tr ⟨by omega, by omega⟩
            have HT8 := Lib.hid ht8
            have HX8 := Lib.hid (HX7.out.kept (ho8.block b HX7.out.lt (by have := HBM.out; show ¬ b = mt; omega)))
            have HO8 := Lib.hid (HO7.out.block (ho8.block (mt + 1) HO7.out.lt (by show ¬ mt + 1 = mt; omega)))
            have HB8 := Lib.hid (ho8.in HB7.out (by have := HBM.out; omega) HB7.out.size)
            have hs8 : w8.heap[N7]? = some (.cells #[.int .u64 z.id, .int .u64 z.tk, .int .i64 z.lv, .int .i64 z.pa, .int .i64 z.st, .int .i64 z.tr, .int .i64 z.rt, .int .i64 z.wt, .int .i64 z.nx] 36 (0, 0)) := (ho8.block N7 (ex_lt HS7.out) (by have := HTL.out; show ¬ N7 = mt; omega)).trans HS7.out
            obtain ⟨t0, t1, t2, t3, t4, t5, t6, t7, t8⟩ := nt_at0 hs8
            have lk2 := HT8.out.look z.id ⟨by omega, by omega⟩
            rw [up_same] at lk2
            have lk3 := HO8.out.look z.id ⟨by omega, by omega⟩
            rw [hov] at lk3
            have g1 : decide (z.rt < z.tr) = false := decide_eq_false (by omega)
            clear hs8 ht8 ho8 HT7 HX7 HO7 HB7 HS7 hids htr' hov hzr hzb
            go_wp2_with fail
            go_meet
            case rel => exact ⟨last, _, _, O, c + 1, rfl, by omega, by omega, HX8, HI', HT8, Lib.hid (HO8.out.more (by omega)), HB8⟩
        by_cases k2 : y.kd = 2
        · have e1 : decide (y.kd = 1) = false := decide_eq_false k1
          have b1 : (y.kd == 1) = false := by simp [k1]
          have b2 : (y.kd == 2) = true := by simp [k2]
          have e2 : decide (y.kd = 2) = true := decide_eq_true k2
          clear k1 k2
          go_wp2_with fail
          clear r0 r1 r2 r3 r4 r5 r6 r7 r8 r9 r10
          generalize w4.alloc (.cells #[.int .u64 last, .slice a4 l.length c4] 25) = w5 at HX5 HT5 HO5 HB5 HS5 HN5 HW5 ⊢
          refine (ack_all b last l T O y.x.id w5 HX5.out HI.out).mono ?_
          rintro e w6 (⟨code, hcode, rfl, hb⟩ | ⟨k, hk, he, rfl, hx, ho⟩)
          · have dc : decide (code = 0) = false := decide_eq_false hcode
            have dc2 : (code == 0) = false := by simp [hcode]
            obtain ⟨B1, s1, -⟩ := box1 w6 #[.int .u64 0, .int .u64 0, .int .i64 0, .int .i64 0, .int .i64 0, .int .i64 0, .int .i64 0, .int .i64 0, .int .i64 0] 36
            have HX6 := Lib.hid ((HX5.out.below hb).below B1)
            have HT6 := Lib.hid ((HT5.out.below hb).below B1)
            have HO6 := Lib.hid ((HO5.out.below hb).below B1)
            have HB6 := Lib.hid ((HB5.out.trans (hb.mono HB5.out.size)).trans (B1.mono (HB5.out.trans (hb.mono HB5.out.size)).size))
            have HW6 := Lib.hid (ex_below (ex_below HW5.out hb) B1)
            have HN6 := Lib.hid ((HN5.out.below hb).below B1)
            have HL6 := Lib.hid HX5.out.len
            clear hb hcode B1 s1 HX5 HT5 HO5 HB5 HS5 HN5 HW5
            have hnz : nz.V = .agg #[.int .u64 0, .int .u64 0, .int .i64 0, .int .i64 0, .int .i64 0, .int .i64 0, .int .i64 0, .int .i64 0, .int .i64 0] := rfl
            rw [hnz]
            clear hnz
            go_wp2_with fail
            generalize w6.alloc (.cells #[.int .u64 0, .int .u64 0, .int .i64 0, .int .i64 0, .int .i64 0, .int .i64 0, .int .i64 0, .int .i64 0, .int .i64 0] 36) = w7 at HX6 HT6 HO6 HB6 HW6 HN6 ⊢
            have HS0 : Hid ((fun W : World => BX W b last l ∧ W.heap[N5]? = some (.cells #[.int .u64 last, .slice a4 l.length c4] 25 (0, 0)) ∧ NR W a4 l ∧ Below w7.heap.size w7 W) w7.drew) := Lib.hid ⟨HX6.out.kept rfl, HW6.out, HN6.out, (Below.refl _ _).drew⟩
            refine wp_region_held_drew (S := (fun W : World => BX W b last l ∧ W.heap[N5]? = some (.cells #[.int .u64 last, .slice a4 l.length c4] 25 (0, 0)) ∧ NR W a4 l ∧ Below w7.heap.size w7 W)) (by kernel_rfl) HS0.out (fun hHeld => ?_)
            clear hHeld
            generalize w7.drew = w30 at HS0 ⊢
            refine wpAnyH_take (i := 0) (oi := { dst := some 112, op := Go.Op.move (Go.Operand.tmp 3), type := 29, pos := "law.go:116", after := #[], guard := none }) (v := ?_) rfl (by kernel_rfl) (by kernel_rfl) (by kernel_rfl) (fun _ _ _ h => h) (Or.inl ⟨by rfl, ?_⟩) HS0.out ?_
            case refine_2 => (intro w1 hS1; clear hS1; go_simp; try with_reducible rfl)
            try simp only [Act.put, List.setIfInBounds_toArray, List.set_cons_zero, List.set_cons_succ]
            refine wpAnyH_take (i := 2) (oi := { dst := some 114, op := Go.Op.load 25 (Go.Operand.tmp 9), type := 25, pos := "law.go:116", after := #[], guard := none }) (v := .agg #[.int .u64 last, .slice a4 l.length c4]) rfl (by kernel_rfl) (by kernel_rfl) (by kernel_rfl) (fun _ _ _ h => h) (Or.inl ⟨by rfl, ?_⟩) HS0.out ?_
            case refine_1 => (intro w1 hS1; obtain ⟨-, hw9, -⟩ := hS1; have g0 : w1.cell? ⟨N5, 0, none⟩ = some (.int .u64 last) := (by simp only [World.cell?, hw9]; rfl); have g1 : w1.cell? ⟨N5, 1, none⟩ = some (.slice a4 l.length c4) := (by simp only [World.cell?, hw9]; rfl); clear hw9; go_simp; try with_reducible rfl)
            try simp only [Act.put, List.setIfInBounds_toArray, List.set_cons_zero, List.set_cons_succ]
            refine wpAnyH_ready (rs := [1]) (by kernel_rfl) (by simp) ?_
            refine AllReadyH.cons (o := { dst := some 113, op := Go.Op.call { callee := Go.Callee.value (Go.Operand.func 18), args := #[Go.Operand.tmp 112], argTypes := #[29] }, type := 25, pos := "law.go:116", after := #[{ on := 0, ground := Go.Ground.data }], guard := none }) rfl (fun K hK => ?_) AllReadyH.nil
            go_simp
            refine (state_box b last l w30 HS0.out.1).mono ?_
            rintro e w31 ⟨v31, rfl, hon, hb⟩
            obtain ⟨a31, c31, rfl, hnr⟩ := hon.nr
            have HN31 := Lib.hid hnr
            have HS0' : Hid ((fun W : World => BX W b last l ∧ W.heap[N5]? = some (.cells #[.int .u64 last, .slice a4 l.length c4] 25 (0, 0)) ∧ NR W a4 l ∧ Below w7.heap.size w7 W) w31) := Lib.hid ⟨HS0.out.1.below hb, ex_below HS0.out.2.1 hb, HS0.out.2.2.1.below hb, HS0.out.2.2.2.trans (hb.mono HS0.out.2.2.2.size)⟩
            clear HS0
            have HS0 := HS0'
            clear HS0'
            clear hb hon hnr
            refine hK.out _ _ HS0.out (fun hHeld => ?_)
            clear hK K hHeld
            try simp only [Act.put, List.setIfInBounds_toArray, List.set_cons_zero, List.set_cons_succ]
            refine wpAnyH_ready (rs := [3]) (by kernel_rfl) (by simp) ?_
            refine AllReadyH.cons (o := { dst := some 115, op := Go.Op.call { callee := Go.Callee.value (Go.Operand.func 21), args := #[Go.Operand.tmp 113, Go.Operand.tmp 114], argTypes := #[25, 25] }, type := 4, pos := "law.go:116", after := #[{ on := 1, ground := Go.Ground.data }, { on := 2, ground := Go.Ground.data }, { on := 1, ground := Go.Ground.chain }], guard := none }) rfl (fun K hK => ?_) AllReadyH.nil
            go_simp
            refine (same_any last last a31 a4 c31 c4 l l w31 HN31.out HS0.out.2.2.1 (by have := HL6.out; omega) (by have := HL6.out; omega)).mono ?_
            rintro e w32 ⟨rfl, hb⟩
            have hss : ((last == last) && decide (l = l)) = true := by simp
            rw [hss]
            clear hss
            have HS0' : Hid ((fun W : World => BX W b last l ∧ W.heap[N5]? = some (.cells #[.int .u64 last, .slice a4 l.length c4] 25 (0, 0)) ∧ NR W a4 l ∧ Below w7.heap.size w7 W) w32) := Lib.hid ⟨HS0.out.1.below hb, ex_below HS0.out.2.1 hb, HS0.out.2.2.1.below hb, HS0.out.2.2.2.trans (hb.mono HS0.out.2.2.2.size)⟩
            clear HS0
            have HS0 := HS0'
            clear HS0'
            clear hb
            refine hK.out _ _ HS0.out (fun hHeld => ?_)
            clear hK K hHeld
            try simp only [Act.put, List.setIfInBounds_toArray, List.set_cons_zero, List.set_cons_succ]
            refine wpAnyH_take (i := 4) (oi := { dst := some 116, op := Go.Op.unOp Go.UnOp.not 4 (Go.Operand.tmp 115), type := 4, pos := "law.go:116", after := #[{ on := 3, ground := Go.Ground.data }], guard := none }) (v := ?_) rfl (by kernel_rfl) (by kernel_rfl) (by kernel_rfl) (fun _ _ _ h => h) (Or.inl ⟨by rfl, ?_⟩) HS0.out ?_
            case refine_2 => (intro w1 hS1; clear hS1; go_simp; try with_reducible rfl)
            try simp only [Act.put, List.setIfInBounds_toArray, List.set_cons_zero, List.set_cons_succ]
            refine wpAnyH_done (by kernel_rfl) ?_ _
            have HX8 := Lib.hid HS0.out.1
            have HT8 := Lib.hid (HT6.out.below HS0.out.2.2.2)
            have HO8 := Lib.hid (HO6.out.below HS0.out.2.2.2)
            have HB8 := Lib.hid (HB6.out.trans (HS0.out.2.2.2.mono HB6.out.size))
            clear HX6 HT6 HO6 HB6 HW6 HN6 HS0 HN31
            go_wp2_with fail
            go_roundg (len - (j + 1))
            case measure => omega
            case rel => exact ⟨j + 1, last, l, T, O, c, rfl, by first | (rw [hwj]; rfl) | rfl, by omega, by omega, by omega, by omega, HX8, HI, HT8, HO8, HB8⟩
          · have hmem := List.getElem_mem hk
            have HI' := Lib.hid (HI.out.ack hk)
            have hids := HI.out.ids _ hmem
            have hov := HI.out.over0 hk he
            have HX6 := Lib.hid hx
            have HT6 := Lib.hid (HT5.out.block (ho.block mt HT5.out.lt (by have := HBM.out; show ¬ mt = b; omega)))
            have HO6 := Lib.hid (HO5.out.block (ho.block (mt + 1) HO5.out.lt (by have := HBM.out; show ¬ mt + 1 = b; omega)))
            have HB6 := Lib.hid (ho.in HB5.out HBM.out.1 HB5.out.size)
            obtain ⟨z, hz⟩ : ∃ z, ackN l[k] = z := ⟨_, rfl⟩
            have z1 : z.id = l[k].id := by rw [← hz]; rfl
            rw [hz] at HX6 HI'
            rw [hz]
            have hzv : z.V = .agg #[.int .u64 z.id, .int .u64 z.tk, .int .i64 z.lv, .int .i64 z.pa, .int .i64 z.st, .int .i64 z.tr, .int .i64 z.rt, .int .i64 z.wt, .int .i64 z.nx] := rfl
            rw [hzv]
            clear hzv
            rw [← z1] at HI' hids hov
            obtain ⟨B1, s1, -⟩ := box1 w6 #[.int .u64 z.id, .int .u64 z.tk, .int .i64 z.lv, .int .i64 z.pa, .int .i64 z.st, .int .i64 z.tr, .int .i64 z.rt, .int .i64 z.wt, .int .i64 z.nx] 36
            have HX7 := Lib.hid (HX6.out.below B1)
            have HT7 := Lib.hid (HT6.out.below B1)
            have HO7 := Lib.hid (HO6.out.below B1)
            have HB7 := Lib.hid (HB6.out.trans (B1.mono HB6.out.size))
            have HS7 := Lib.hid s1
            have HTL : Hid (mt + 1 < w6.heap.size) := Lib.hid HO6.out.lt
            clear hx ho HX5 HT5 HO5 HB5 HS5 HN5 HW5 HX6 HT6 HO6 HB6 hz z1 hmem he B1 s1
            go_upto_region 30 with fail
            obtain ⟨N7, hN7⟩ : ∃ N7, w6.heap.size = N7 := ⟨_, rfl⟩
            rw [hN7] at HS7 HTL
            try rw [hN7]
            clear hN7
            generalize w6.alloc (.cells #[.int .u64 z.id, .int .u64 z.tk, .int .i64 z.lv, .int .i64 z.pa, .int .i64 z.st, .int .i64 z.tr, .int .i64 z.rt, .int .i64 z.wt, .int .i64 z.nx] 36) = w7 at HX7 HT7 HO7 HB7 HS7 ⊢
            obtain ⟨u0, u1, u2, u3, u4, u5, u6, u7, u8⟩ := nt_at0 HS7.out
            have lk1 := HO7.out.look z.id ⟨by omega, by omega⟩
            rw [hov] at lk1
            obtain ⟨w8, hrun, ht8, ho8⟩ := HO7.out.put (by omega) z.id 2 ⟨by omega, by omega⟩
            have HO8 := Lib.hid ht8
            have HX8 := Lib.hid (HX7.out.kept (ho8.block b HX7.out.lt (by have := HBM.out; show ¬ b = mt + 1; omega)))
            have HT8 := Lib.hid (HT7.out.block (ho8.block mt HT7.out.lt (by show ¬ mt = mt + 1; omega)))
            have HB8 := Lib.hid (ho8.in HB7.out (by have := HBM.out; omega) HB7.out.size)
            clear ht8 ho8 HT7 HX7 HO7 HB7 HS7 hids hov
            go_wp2_with fail
            go_meet
            case rel => exact ⟨last, _, T, _, c + 1, rfl, by omega, by omega, HX8, HI', Lib.hid (HT8.out.more (by omega)), HO8, HB8⟩
        by_cases k3 : y.kd = 3
        · have e1 : decide (y.kd = 1) = false := decide_eq_false k1
          have b1 : (y.kd == 1) = false := by simp [k1]
          have e2 : decide (y.kd = 2) = false := decide_eq_false k2
          have b2 : (y.kd == 2) = false := by simp [k2]
          have b3 : (y.kd == 3) = true := by simp [k3]
          have e3 : decide (y.kd = 3) = true := decide_eq_true k3
          clear k1 k2 k3
          go_wp2_with fail
          clear r0 r1 r2 r3 r4 r5 r6 r7 r8 r9 r10
          generalize w4.alloc (.cells #[.int .u64 last, .slice a4 l.length c4] 25) = w5 at HX5 HT5 HO5 HB5 HS5 HN5 HW5 ⊢
          obtain ⟨ps, hps⟩ : ∃ ps, wh (fun x => reaN y.a x && exhN x) 0 l = ps := ⟨_, rfl⟩
          refine (tick_box b last l y.a w5 HX5.out ps hps).mono ?_
          rintro e w6 ⟨v, rfl, hou, hx, ho⟩
          have hq : ∀ x : Nt, (reaN y.a x && exhN x) = true → endN x = false := fun x hx => by
            unfold reaN at hx
            cases h : endN x with
            | false => rfl
            | true => rw [h] at hx; simp at hx
          have HPL : Hid (ps.length ≤ 128) := Lib.hid (by have := wh_len (fun x => reaN y.a x && exhN x) l 0; rw [hps] at this; have := HX5.out.len; omega)
          have HIJ : Hid (∀ i, i ≤ ps.length → Inv last (ticked l (ps.take i)) T (ups O ((ps.take i).map (idAt l)))) := Lib.hid (fun i hi => (tick_inv HI.out _ hq ps hps i hi).1)
          have HZJ : Hid (∀ i (hi : i < ps.length), ups O ((ps.take i).map (idAt l)) (idAt l ps[i]) = 0 ∧ 1 ≤ idAt l ps[i] ∧ idAt l ps[i] ≤ last) := Lib.hid (fun i hi => tick_zero HI.out _ hq ps hps i hi)
          have hlt6 := fun g => OU.lt hou (g := g)
          obtain ⟨a6, c6, rfl, hcs⟩ := hou.cells
          have HCS : Hid (∀ i (hi : i < ps.length), ∃ g, a6 = some ⟨g, 0, none⟩ ∧ w5.heap.size ≤ g ∧ g < w6.heap.size ∧ w6.cell? ⟨g, i, none⟩ = some (.int .u64 (idAt l ps[i]))) := Lib.hid (fun i hi => by
            obtain ⟨g, rfl, hg⟩ := hcs i (by rw [List.length_map]; exact hi)
            refine ⟨g, rfl, (hlt6 g rfl).1, (hlt6 g rfl).2, ?_⟩
            rw [hg, List.getElem_map])
          rw [List.length_map]
          clear hcs hlt6 hou hq hps
          have HX6 := Lib.hid hx
          have HT6 := Lib.hid (HT5.out.block (ho.block mt HT5.out.lt (by have := HBM.out; show ¬ mt = b; omega)))
          have HO6 := Lib.hid (HO5.out.block (ho.block (mt + 1) HO5.out.lt (by have := HBM.out; show ¬ mt + 1 = b; omega)))
          have HB6 := Lib.hid (ho.in HB5.out HBM.out.1 HB5.out.size)
          have HM5 : Hid (mt + 1 < w5.heap.size) := Lib.hid HO5.out.lt
          clear hx ho HX5 HT5 HO5 HB5 HS5 HN5 HW5
          go_wp2_with fail
          go_loopg [132] ps.length (fun kx s132 wr => ∃ i : Nat, s132 = .int .i64 (i : Int) ∧ i ≤ ps.length ∧ ps.length - i ≤ kx ∧ Hid (MI wr (mt + 1) (c + i) (ups O ((ps.take i).map (idAt l)))) ∧ Hid (OnlyB (mt + 1) w6 wr))
          case atStart => exact ⟨0, rfl, by omega, by omega, Lib.hid (by simpa [ups] using HO6.out), Lib.hid (Only.refl _ _)⟩
          case round =>
            obtain ⟨i, rfl, hi, hix, HOi, HBi⟩ := hrel
            by_cases hlt2 : i < ps.length
            · have hltz2 : (i : Int) < ((ps.length : Nat) : Int) := by omega
              have hi0 : (0 : Int) ≤ (i : Int) := by omega
              have hd2 : decide ((i : Int) < ((ps.length : Nat) : Int)) = true := decide_eq_true hltz2
              obtain ⟨g, rfl, hg1, hg2, hg3⟩ := HCS.out i hlt2
              have hcp := (HBi.out.cell (p := ⟨g, i, none⟩) hg2 (by have := HM5.out; show ¬ g = mt + 1; omega)).trans hg3
              obtain ⟨hz0, hz1, hz2⟩ := HZJ.out i hlt2
              have HUP : Hid (up (ups O ((ps.take i).map (idAt l))) (idAt l ps[i]) 3 = ups O ((ps.take (i + 1)).map (idAt l))) := Lib.hid (by rw [List.take_succ_eq_append_getElem hlt2, List.map_append]; exact (ups_snoc _ _ _).symm)
              obtain ⟨id, hid⟩ : ∃ id, idAt l ps[i] = id := ⟨_, rfl⟩
              rw [hid] at hcp hz0 hz1 hz2 HUP
              have lk := HOi.out.look id ⟨by omega, by omega⟩
              rw [hz0] at lk
              obtain ⟨w8, hrun, ht8, ho8⟩ := HOi.out.put (by have := HPL.out; omega) id 3 ⟨by omega, by omega⟩
              have HO8 : Hid (MI w8 (mt + 1) (c + (i + 1)) (ups O ((ps.take (i + 1)).map (idAt l)))) := Lib.hid (by rw [← HUP.out, ← Nat.add_assoc]; exact ht8)
              have HB8 : Hid (OnlyB (mt + 1) w6 w8) := Lib.hid (Only.trans HBi.out (ho8 : Only _ _ _))
              have hm9 : ps.length - (i + 1) < gk := by omega
              have hr9 : i + 1 ≤ ps.length ∧ ps.length - (i + 1) ≤ ps.length - (i + 1) := by omega
              have hwk : wrap64 ((i : Int) + 1) = (i : Int) + 1 := IntWalk.wrap64_in _ (by have := HPL.out; omega)
              clear ht8 ho8 HUP hid hz0 hg1 hg2 hg3 hz1 hz2
              go_wp2_with fail
              go_roundg (ps.length - (i + 1))
              case measure => exact hm9
              case rel => exact ⟨i + 1, by first | (rw [hwk]; rfl) | rfl, hr9.1, hr9.2, HO8, HB8⟩
            · obtain rfl : i = ps.length := by omega
              have hd2 : decide (((ps.length : Nat) : Int) < ((ps.length : Nat) : Int)) = false := decide_eq_false (by omega)
              have HI' := Lib.hid (HIJ.out ps.length (Nat.le_refl _))
              have HX8 := Lib.hid (HX6.out.kept (HBi.out.block b HX6.out.lt (by have := HBM.out; show ¬ b = mt + 1; omega)))
              have HT8 := Lib.hid (HT6.out.block (HBi.out.block mt HT6.out.lt (by show ¬ mt = mt + 1; omega)))
              have HB8 := Lib.hid (HBi.out.in HB6.out (by have := HBM.out; omega) HB6.out.size)
              have HI'' : Hid (Inv last (ticked l ps) T (ups O ((ps.take ps.length).map (idAt l)))) := Lib.hid (by have := HI'.out; rw [List.take_length] at this ⊢; exact this)
              have hcc : c + ps.length ≤ 200 * j + 200 := by have := HPL.out; omega
              clear hlt2 hi hix
              go_wp2_with fail
              go_meet
              case rel => exact ⟨last, ticked l ps, T, _, c + ps.length, rfl, hcc, by omega, HX8, HI'', Lib.hid (HT8.out.more (by omega)), HOi, HB8⟩
        have e1 : decide (y.kd = 1) = false := decide_eq_false k1
        have e2 : decide (y.kd = 2) = false := decide_eq_false k2
        have e3 : decide (y.kd = 3) = false := decide_eq_false k3
        have b1 : (y.kd == 1) = false := by simp [k1]
        have b2 : (y.kd == 2) = false := by simp [k2]
        have b3 : (y.kd == 3) = false := by simp [k3]
        clear k1 k2 k3
        have hwl : IntKind.u64.wrap (last + 1) = last + 1 := IntWalk.u64_in _ ⟨by have := HI.out.pos; omega, by omega⟩
        go_wp2_with fail
        clear r0 r1 r2 r3 r4 r5 r6 r7 r8 r9 r10
        generalize w4.alloc (.cells #[.int .u64 last, .slice a4 l.length c4] 25) = w5 at HX5 HT5 HO5 HB5 HS5 HN5 HW5 ⊢
        refine (put_all b last l T O y.x y.a w5 HX5.out HI.out (by omega)).mono ?_
        rintro e w6 (⟨code, hcode, rfl, hb⟩ | ⟨l', rfl, hI', hx, ho⟩)
        · have dc : decide (code = 0) = false := decide_eq_false hcode
          have dc2 : (code == 0) = false := by simp [hcode]
          have HX6 := Lib.hid (HX5.out.below hb)
          have HT6 := Lib.hid (HT5.out.below hb)
          have HO6 := Lib.hid (HO5.out.below hb)
          have HB6 := Lib.hid (HB5.out.trans (hb.mono HB5.out.size))
          clear hb hcode HX5 HT5 HO5 HB5 HS5 HN5 HW5
          go_wp2_with fail
          go_meet
          case rel => exact ⟨last, l, T, O, c, rfl, by omega, by omega, HX6, HI, HT6, HO6, HB6⟩
        · have HI' := Lib.hid hI'
          have HX6 := Lib.hid hx
          have HT6 := Lib.hid (HT5.out.block (ho.block mt HT5.out.lt (by have := HBM.out; show ¬ mt = b; omega)))
          have HO6 := Lib.hid (HO5.out.block (ho.block (mt + 1) HO5.out.lt (by have := HBM.out; show ¬ mt + 1 = b; omega)))
          have HB6 := Lib.hid (ho.in HB5.out HBM.out.1 HB5.out.size)
          clear hI' hx ho HX5 HT5 HO5 HB5 HS5 HN5 HW5
          go_wp2_with fail
          go_meet
          case rel => exact ⟨last + 1, l', T, O, c, rfl, by omega, by omega, HX6, HI', HT6, HO6, HB6⟩
      case rest =>
        obtain ⟨last2, l2, T2, O2, c2, rfl, hc2, hl2, HX2, HI2, HT2, HO2, HB2⟩ := hcut
        clear HX5 HT5 HO5 HB5 HS5 HN5 HW5 HI hN5 hc hla r0 r1 r2 r3 r4 r5 r6 r7 r8 r9 r10
        go_wp2_with fail
        refine (state_box b last2 l2 wc HX2.out).mono ?_
        rintro e w20 ⟨v20, rfl, hon, hb⟩
        obtain ⟨a20, c20, rfl, hnr⟩ := hon.nr
        have HX20 := Lib.hid (HX2.out.below hb)
        have HT20 := Lib.hid (HT2.out.below hb)
        have HO20 := Lib.hid (HO2.out.below hb)
        have HB20 := Lib.hid (HB2.out.trans (hb.mono HB2.out.size))
        have HN20 := Lib.hid hnr
        have HL20 := Lib.hid HX2.out.len
        clear hon hb hnr HX2 HT2 HO2 HB2
        have hsf := st_field1
        go_wp2_with fail
        clear hsf
        go_loopg [147] l2.length (fun kx s147 wr => ∃ k : Nat, s147 = .int .i64 (k : Int) ∧ k ≤ l2.length ∧ l2.length - k ≤ kx ∧ Hid (Below w20.heap.size w20 wr))
        case atStart => exact ⟨0, rfl, by omega, by omega, Lib.hid (Below.refl _ _)⟩
        case round =>
          obtain ⟨k, rfl, hk, hkx, HBr⟩ := hrel
          by_cases hlt2 : k < l2.length
          · have hltz2 : (k : Int) < ((l2.length : Nat) : Int) := by omega
            have hk0 : (0 : Int) ≤ (k : Int) := by omega
            have hd2 : decide ((k : Int) < ((l2.length : Nat) : Int)) = true := decide_eq_true hltz2
            obtain ⟨B2, o2, rfl, hx⟩ := (HN20.out.below HBr.out) k hlt2
            have hmem := List.getElem_mem hlt2
            obtain ⟨z, hz⟩ : ∃ z, l2[k] = z := ⟨_, rfl⟩
            rw [hz] at hx hmem
            clear hz
            obtain ⟨p0, p1, p2, p3, p4, p5, p6, p7, p8⟩ := hx
            have hi := HI2.out.ids z hmem
            have hp := HI2.out.ovs z hmem
            have ht := HI2.out.trs z hmem
            have hs3 := HI2.out.sts z hmem
            have hwk : wrap64 ((k : Int) + 1) = (k : Int) + 1 := IntWalk.wrap64_in _ (by have := HL20.out; omega)
            rcases hs3 with hst | hst | hst
            · rw [hst] at p4 hp
              obtain ⟨B3, s3, -⟩ := box1 wr #[.int .u64 z.id, .int .u64 z.tk, .int .i64 z.lv, .int .i64 z.pa, .int .i64 1, .int .i64 z.tr, .int .i64 z.rt, .int .i64 z.wt, .int .i64 z.nx] 36
              obtain ⟨u0, u1, u2, u3, u4, u5, u6, u7, u8⟩ := ntl_at s3
              have lo := ((HO20.out.below HBr.out).below B3).look z.id ⟨by omega, by omega⟩
              have lt := ((HT20.out.below HBr.out).below B3).look z.id ⟨by omega, by omega⟩
              rw [hp] at lo
              rw [ht] at lt
              have HB21 := Lib.hid (HBr.out.trans (B3.mono HBr.out.size))
              rw [if_pos rfl] at lo
              clear B3 s3 hi hp ht hmem HBr hst
              go_wp2_with fail
              have hm9 : l2.length - (k + 1) < gk := by clear hwk hwj; omega
              have hr9 : k + 1 ≤ l2.length ∧ l2.length - (k + 1) ≤ l2.length - (k + 1) := by clear hwk hwj; omega
              go_roundg (l2.length - (k + 1))
              case measure => exact hm9
              case rel => exact ⟨k + 1, by first | (rw [hwk]; rfl) | rfl, hr9.1, hr9.2, HB21⟩
            · rw [hst] at p4 hp
              obtain ⟨B3, s3, -⟩ := box1 wr #[.int .u64 z.id, .int .u64 z.tk, .int .i64 z.lv, .int .i64 z.pa, .int .i64 2, .int .i64 z.tr, .int .i64 z.rt, .int .i64 z.wt, .int .i64 z.nx] 36
              obtain ⟨u0, u1, u2, u3, u4, u5, u6, u7, u8⟩ := ntl_at s3
              have lo := ((HO20.out.below HBr.out).below B3).look z.id ⟨by omega, by omega⟩
              have lt := ((HT20.out.below HBr.out).below B3).look z.id ⟨by omega, by omega⟩
              rw [hp] at lo
              rw [ht] at lt
              have HB21 := Lib.hid (HBr.out.trans (B3.mono HBr.out.size))
              rw [if_neg (by decide)] at lo
              clear B3 s3 hi hp ht hmem HBr hst
              go_wp2_with fail
              have hm9 : l2.length - (k + 1) < gk := by clear hwk hwj; omega
              have hr9 : k + 1 ≤ l2.length ∧ l2.length - (k + 1) ≤ l2.length - (k + 1) := by clear hwk hwj; omega
              go_roundg (l2.length - (k + 1))
              case measure => exact hm9
              case rel => exact ⟨k + 1, by first | (rw [hwk]; rfl) | rfl, hr9.1, hr9.2, HB21⟩
            · rw [hst] at p4 hp
              obtain ⟨B3, s3, -⟩ := box1 wr #[.int .u64 z.id, .int .u64 z.tk, .int .i64 z.lv, .int .i64 z.pa, .int .i64 3, .int .i64 z.tr, .int .i64 z.rt, .int .i64 z.wt, .int .i64 z.nx] 36
              obtain ⟨u0, u1, u2, u3, u4, u5, u6, u7, u8⟩ := ntl_at s3
              have lo := ((HO20.out.below HBr.out).below B3).look z.id ⟨by omega, by omega⟩
              have lt := ((HT20.out.below HBr.out).below B3).look z.id ⟨by omega, by omega⟩
              rw [hp] at lo
              rw [ht] at lt
              have HB21 := Lib.hid (HBr.out.trans (B3.mono HBr.out.size))
              rw [if_neg (by decide)] at lo
              clear B3 s3 hi hp ht hmem HBr hst
              go_wp2_with fail
              have hm9 : l2.length - (k + 1) < gk := by clear hwk hwj; omega
              have hr9 : k + 1 ≤ l2.length ∧ l2.length - (k + 1) ≤ l2.length - (k + 1) := by clear hwk hwj; omega
              go_roundg (l2.length - (k + 1))
              case measure => exact hm9
              case rel => exact ⟨k + 1, by first | (rw [hwk]; rfl) | rfl, hr9.1, hr9.2, HB21⟩
          · obtain rfl : k = l2.length := by omega
            have hd2 : decide (((l2.length : Nat) : Int) < ((l2.length : Nat) : Int)) = false := decide_eq_false (by omega)
            clear hlt2 hk hkx
            have HX22 := Lib.hid (HX20.out.below HBr.out)
            have HT22 := Lib.hid (HT20.out.below HBr.out)
            have HO22 := Lib.hid (HO20.out.below HBr.out)
            have HB22 := Lib.hid (HB20.out.trans (HBr.out.mono HB20.out.size))
            clear HX20 HT20 HO20 HB20 HBr HN20
            go_wp2_with fail
            go_roundg (len - (j + 1))
            case measure => omega
            case rel => exact ⟨j + 1, last2, l2, T2, O2, c2, rfl, by first | (rw [hwj]; rfl) | rfl, by omega, by omega, by omega, by omega, HX22, HI2, HT22, HO22, HB22⟩
    · obtain rfl : j = len := by omega
      have hd : decide ((j : Int) < (j : Int)) = false := decide_eq_false (by omega)
      go_wp2_with fail
      refine (lives_any wr).mono ?_
      rintro e w9 ⟨rfl, hb⟩
      have HB9 := Lib.hid (HB.out.trans (hb.mono HB.out.size))
      clear hb
      go_wp2_with fail
      go_ret
      exact ⟨rfl, HB9.out⟩
end Go.Proofs.Ytnfpheccmjdpoaa
