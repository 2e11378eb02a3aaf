/- Order of nil dice; the walk of DiceSame. -/
import Derived.Test.YtfakgemifbgafaaDcG
import Derived.Deep.RegionHeld3
namespace Go.Proofs.Ytfakgemifbgafaa
open Go.RowKit

set_option maxRecDepth 100000 in
set_option maxHeartbeats 4000000 in
theorem order_nil (n : Nat) (w : World) (h1 : 1 ≤ n) (h2 : n ≤ 65536) :
    Calls Try.prog 39 #[.pointer none, .int .i64 (n : Int)] w fun e w' => ∃ v, e = .returned v ∧ Rdn w.heap.size v (asc n) w' ∧ Below w.heap.size w w' := by
  have d1 : decide ((n : Int) < 1) = false := by simp; omega
  have d2 : decide (65536 < (n : Int)) = false := by simp; omega
  have hmi := run_make_row' (P := Try.prog) 24 3 (.int .i64 0) 8 Try.underlying24 ints_info' rfl .i64 .i64 n (by omega) (by omega)
  have hmf : ∀ (fn : Fn) (first cap : Array Value) (w : World), (Instr.makeFunc fn first cap).run Try.prog w = .ok (.func fn first cap) w := fun _ _ _ _ => rfl
  have T0 := ord_new n w
  have B0 : Below w.heap.size w ((w.alloc (.cells (madeCells #[.int .i64 0] n) 3)).alloc (.cells #[.slice (some ⟨w.heap.size, 0, none⟩) n n] 24)) := ((Below.refl _ _).alloc (Nat.le_refl _) _).alloc (by simp) _
  have S0 : w.heap.size + 1 < ((w.alloc (.cells (madeCells #[.int .i64 0] n) 3)).alloc (.cells #[.slice (some ⟨w.heap.size, 0, none⟩) n n] 24)).heap.size := by simp
  go_enter Try.func39, Try.ntmps39
  go_wp2_with fail
  go_loopw [6, 19] (fun _ i wr => ∃ k : Nat, k ≤ n ∧ i = .int .i64 k ∧ Below w.heap.size w wr ∧ w.heap.size + 1 < wr.heap.size ∧ ∃ l, l.length = n ∧ Ord w.heap.size l wr ∧ ∀ j, j < k → l.getD j 0 = (j : Int)) (fun _ i _ => n - (intOf i).toNat)
  case atStart => exact ⟨0, Nat.zero_le _, rfl, B0, S0, _, by simp, T0, fun j hj => by omega⟩
  case round =>
    clear T0 B0 S0
    obtain ⟨k, hk, rfl, hB, hS, l, hl, T, hq⟩ := hrel
    by_cases hlt : k < n
    · have hv := T.v
      have hck := T.c k (by omega)
      have hz := T.free k
      have T2 := T.set k (k : Int) (by omega)
      have B2 : Below w.heap.size w (wr.setCell ⟨w.heap.size, k, none⟩ (.int .i64 (k : Int))) := hB.setCell (Nat.le_refl _) _
      rw [hl] at hv
      have HQ : Hid (∀ j, j < k + 1 → (l.set k (k : Int)).getD j 0 = (j : Int)) := Lib.hid fun j hj => by
        by_cases e : j = k
        · subst e; simp [hl, hlt]
        · have := hq j (by omega)
          simp only [List.getD_eq_getElem?_getD, List.getElem?_set] at this ⊢
          rw [if_neg (by omega)]; exact this
      have HL := Lib.hid hl
      have k0 : (0 : Int) ≤ (k : Int) := by omega
      have kn : (k : Int) < (n : Int) := by omega
      have d3 : decide ((k : Int) < (n : Int)) = true := by simp [hlt]
      clear hq hl T hB
      go_wp2_with fail
      go_roundw
      case rel => exact ⟨k + 1, by omega, by go_num, B2, by simpa using hS, _, by simpa using HL.out, T2, HQ.out⟩
      case measure => simp [intOf]; omega
    · obtain rfl : k = n := by omega
      obtain rfl := asc_of k l hl hq
      have hv := T.v
      have HF : Hid (Rdn w.heap.size (.slice (some ⟨w.heap.size, 0, none⟩) k k) (asc k) wr) := Lib.hid ⟨_, k, by rw [asc_length], fun _ => ⟨_, rfl, Nat.le_refl _, T.c⟩⟩
      have HB := Lib.hid hB
      rw [asc_length] at hv
      have k1 : (1 : Int) ≤ (k : Int) := by omega
      have k2 : (k : Int) ≤ 65536 := by omega
      clear hq hl hB T
      go_wp2_with (go_at_call 71; refine (created_nil _).mono ?_; rintro e w' ⟨rfl, rfl⟩)
      go_ret
      exact ⟨_, rfl, HF.out, HB.out⟩

theorem ob_slice {w : World} {base : Nat} {v : Value} {bs : List Nat} (h : OB w base v bs) : ∃ a c, v = .slice a bs.length c := by
  rcases h.2 with ⟨hv, hn⟩ | ⟨g, cap, cur, hv, r⟩
  · exact ⟨none, 0, by rw [hn]; exact hv⟩
  · exact ⟨_, cap, hv⟩
/-- A row of the call's own that is written over. -/
theorem ob_over {w : World} {base n c : Nat} {a : Option Addr} {bs : List Nat} (h : OB w base (.slice a n c) bs) (hn : bs.length = n) (h0 : 0 < n) : ∃ g, a = some ⟨g, 0, none⟩ ∧ base ≤ g ∧ g < w.heap.size ∧ (∀ i, i < n → ∃ u, w.cell? ⟨g, i, none⟩ = some u) ∧ ∀ i, w.frozen? ⟨g, i, none⟩ = false := by
  have h' := h
  rcases h'.2 with ⟨hv, e⟩ | ⟨g, cap, cur, hv, hg, hh, r⟩
  · omega
  · simp only [Value.slice.injEq] at hv
    obtain ⟨rfl, rfl, rfl⟩ := hv
    refine ⟨g, rfl, hg, (Array.getElem?_eq_some_iff.mp hh).1, fun i hi => ?_, fun i => World.ownsRow.frozenAt h i⟩
    have := World.ownsRow.cellAt h i (by omega)
    exact ⟨_, this.trans (cb_get bs i (by omega))⟩

set_option maxRecDepth 100000 in
set_option maxHeartbeats 4000000 in
theorem dsame_big (a : Option Addr) (len cap : Nat) (x n low high : Int) (w : World) (hm : len ≤ 9223372036854775807) (h : 3000 < len) :
    Calls Try.prog 10 #[.slice a len cap, .int .u8 x, .int .u64 n, .int .i64 low, .int .i64 high] w fun e w' => e = .returned (.bool true) ∧ Below w.heap.size w w' := by
  have d1 : decide (3000 < (len : Int)) = true := by simp; omega
  go_enter Try.func10, Try.ntmps10
  go_wp2_with (go_at_call 32; refine (lives6 _).mono ?_; rintro e w' ⟨rfl, hl⟩)
  go_ret
  exact ⟨rfl, hl⟩
theorem ordI9 (bs : List Nat) : (ordI 9 bs).1.length = 9 := by
  unfold ordI
  rw [if_neg (by omega), ord_length]
  rfl

set_option maxRecDepth 100000 in
set_option maxHeartbeats 4000000 in
theorem dsame_ok (a : Option Addr) (len cap n : Nat) (x low high : Int) (bs : List Nat) (w : World) (hb : RB w (.slice a len cap) bs) (hbl : bs.length = len) (hlen : len ≤ 3000) (hn : n < 18446744073709551616)
    (l0 : -9223372036854775808 ≤ low) (l1 : low ≤ 9223372036854775807) (h1 : high ≤ 9223372036854775807) :
    Calls Try.prog 10 #[.slice a len cap, .int .u8 x, .int .u64 (n : Int), .int .i64 low, .int .i64 high] w fun e w' => e = .returned (.bool true) ∧ Below w.heap.size w w' := by
  have d1 : decide (3000 < (len : Int)) = false := by simp; omega
  have HB := Lib.hid hb
  have HL := Lib.hid hbl
  have HN := Lib.hid hn
  have HL0 := Lib.hid l0
  have HL1 := Lib.hid l1
  have HH1 := Lib.hid h1
  clear hb hbl hn l0 l1 h1
  go_enter Try.func10, Try.ntmps10
  go_wp2_with (at_builtin; refine append_rb rfl _ _ rfl w.heap.size _ _ [] bs rfl rfl (ob_empty _ _ rfl) (HB.out.kept ((Below.refl _ _).alloc (Nat.le_refl _) (.cells #[] 5))) (by have := HL.out; simp; omega) (by simp) ?_; intro v1 w1 ho1 hg1; have hb1 := (ob_empty w _ rfl).below hg1 ((Below.refl w.heap.size w).alloc (Nat.le_refl _) _) (by simp); clear hg1)
  obtain ⟨ao, co, e⟩ := ob_slice ho1
  simp only [List.nil_append] at ho1 e
  rw [HL.out] at e
  subst e
  have R1 := ho1.rb HB.out.1 (by have := HL.out; omega)
  have ol : ∀ k, (Value.slice ao len co).ownBlock = some k → w.heap.size ≤ k ∧ k < w1.heap.size := fun k hk => World.ownsRow.lt ho1 k hk
  go_wp2_with fail
  refine (new_dice _ bs w1 R1).mono ?_
  rintro e w2 ⟨bc, vc, rfl, hc0, hcl, B2, cc0, cc1, rc, oc, fc⟩
  have R2 := (HB.out.kept hb1).kept B2
  clear R1
  go_wp2_with fail
  refine (new_dice _ bs w2 R2).mono ?_
  rintro e w3 ⟨bd, vd, rfl, hd0, hdl, B3, cd0, cd1, rd, od, fd⟩
  have xc0 : ∀ k, w1.heap.size ≤ k → k < bc → ¬ (k = bc ∨ k = bd ∨ (Value.slice ao len co).ownBlock = some k) := by
    intro k h1 h2 h
    rcases h with h | h | h
    · omega
    · omega
    · have := ol k h
      omega
  have xd0 : ∀ k, w2.heap.size ≤ k → k < bd → ¬ (k = bc ∨ k = bd ∨ (Value.slice ao len co).ownBlock = some k) := by
    intro k h1 h2 h
    have := B2.size
    rcases h with h | h | h
    · omega
    · omega
    · have := ol k h
      omega
  have Dc : Dic (fun k => k = bc ∨ k = bd ∨ (Value.slice ao len co).ownBlock = some k) bc bs w3 := (fresh_dic (fun k => k = bc ∨ k = bd ∨ (Value.slice ao len co).ownBlock = some k) (.inl rfl) xc0 hcl cc0 cc1 rc oc fc).kept B3
  have Dd : Dic (fun k => k = bc ∨ k = bd ∨ (Value.slice ao len co).ownBlock = some k) bd bs w3 := fresh_dic (fun k => k = bc ∨ k = bd ∨ (Value.slice ao len co).ownBlock = some k) (.inr (.inl rfl)) xd0 hdl cd0 cd1 rd od fd
  have hcd : bc < bd := by omega
  have hcw : w.heap.size ≤ bc := Nat.le_trans hb1.size hc0
  have hoc : ∀ k, (Value.slice ao len co).ownBlock = some k → k < bc := fun k hk => by have := ol k hk; omega
  have BT : Below w.heap.size w w3 := (hb1.trans (B2.mono hb1.size)).trans (B3.mono (Nat.le_trans hb1.size B2.size))
  have HO3 : 0 < len → ∃ g, ao = some ⟨g, 0, none⟩ ∧ (∀ i, i < len → ∃ u, w3.cell? ⟨g, i, none⟩ = some u) ∧ ∀ i, w3.frozen? ⟨g, i, none⟩ = false := fun h => by
    have hk3 : OB w3 w.heap.size (.slice ao len co) bs := (ho1.kept B2).kept B3
    obtain ⟨g, h1, _, _, h2, h3⟩ := ob_over hk3 HL.out h
    exact ⟨g, h1, h2, h3⟩
  clear R2 cc0 cc1 rc oc fc cd0 cd1 rd od fd ho1 hb1 B2 B3 hc0 hcl hd0 hdl xc0 xd0
  go_wp2_with fail
  go_loopw [14, 29] (fun _ i wr => ∃ k : Nat, k ≤ len ∧ i = .int .i64 k ∧ Only (fun k => (Value.slice ao len co).ownBlock = some k) w3 wr ∧ (0 < len → ∃ g, ao = some ⟨g, 0, none⟩ ∧ (∀ i, i < len → ∃ u, wr.cell? ⟨g, i, none⟩ = some u) ∧ ∀ i, wr.frozen? ⟨g, i, none⟩ = false)) (fun _ i _ => len - (intOf i).toNat)
  case atStart => exact ⟨0, Nat.zero_le _, rfl, Only.refl _ _, HO3⟩
  case round =>
    clear HO3
    obtain ⟨k, hk, rfl, hO, hG⟩ := hrel
    by_cases hlt : k < len
    · obtain ⟨g, rfl, hg, hz⟩ := hG (by omega)
      obtain ⟨u, hu⟩ := hg k hlt
      have hzk := hz k
      have O2 : Hid (Only (fun k => (Value.slice (some ⟨g, 0, none⟩) len co).ownBlock = some k) w3 (wr.setCell ⟨g, k, none⟩ (.int .u8 x))) := Lib.hid (hO.setCell _ _ rfl)
      have G2 : Hid (0 < len → ∃ g', (some ⟨g, 0, none⟩ : Option Addr) = some ⟨g', 0, none⟩ ∧ (∀ i, i < len → ∃ u, (wr.setCell ⟨g, k, none⟩ (.int .u8 x)).cell? ⟨g', i, none⟩ = some u) ∧ ∀ i, (wr.setCell ⟨g, k, none⟩ (.int .u8 x)).frozen? ⟨g', i, none⟩ = false) := Lib.hid fun _ => ⟨g, rfl, fun i hi => by
        by_cases e : i = k
        · subst e; exact ⟨_, World.cell?_setCell_same _ _ _ hu⟩
        · obtain ⟨v, hv⟩ := hg i hi
          exact ⟨v, (World.cell?_setCell_other _ ⟨g, k, none⟩ ⟨g, i, none⟩ _ (fun e' => by injection e' with e1 e2; omega)).trans hv⟩, fun i => by simpa using hz i⟩
      have k0 : (0 : Int) ≤ (k : Int) := by omega
      have kl : (k : Int) < (len : Int) := by omega
      have d4 : decide ((k : Int) < (len : Int)) = true := by simp [hlt]
      clear hg hz hG hO Dc Dd BT ol hoc
      go_wp2_with fail
      go_roundw
      case rel => exact ⟨k + 1, by omega, by go_num, O2.out, G2.out⟩
      case measure => simp [intOf]; omega
    · obtain rfl : k = len := by omega
      have d4 : decide (((k : Nat) : Int) < (k : Int)) = false := by simp
      have Dc := Dc.only (fun k hk => .inr (.inr hk)) (fun h => by have := hoc _ h; omega) hO
      have Dd := Dd.only (fun k hk => .inr (.inr hk)) (fun h => by have := hoc _ h; omega) hO
      have OT : Only (fun j => w.heap.size ≤ j) w wr := (Only.below BT).trans (hO.more fun j hj => (ol j hj).1)
      generalize hXX : (fun j => j = bc ∨ j = bd ∨ (Value.slice ao k co).ownBlock = some j) = X at Dc Dd
      have xc : X bc := by rw [← hXX]; exact .inl rfl
      have xd : X bd := by rw [← hXX]; exact .inr (.inl rfl)
      have sN : ∀ w' : World, Only (fun j => w.heap.size ≤ j) w w' → w.heap.size ≤ w'.heap.size := fun w' h => h.size
      clear hG hO BT hoc ol hXX
      have hB1 := below_any bc n bs wr Dc HN.out
      obtain ⟨r, hr⟩ : ∃ r, below n bs = r := ⟨_, rfl⟩
      rw [hr] at hB1
      go_wp2_with fail
      refine hB1.mono ?_
      rintro e w4 ⟨rfl, Dc4, O4⟩
      have Dd4 := Dd.only (fun j hj => by subst hj; exact xc) (by omega) O4
      have OT4 := OT.trans (O4.more fun j hj => by omega)
      have hB2 := below_any bd n bs w4 Dd4 HN.out
      rw [hr] at hB2
      clear hB1 Dc Dd OT O4
      go_wp2_with fail
      refine hB2.mono ?_
      rintro e w5 ⟨rfl, Dd5, O5⟩
      have Dc5 := Dc4.only (fun j hj => by subst hj; exact xd) (by omega) O5
      have OT5 := OT4.trans (O5.more fun j hj => by omega)
      have hB3 := between_any bc low high r.2 w5 Dc5 HL0.out HH1.out
      obtain ⟨s, hs⟩ : ∃ s, between low high r.2 = s := ⟨_, rfl⟩
      rw [hs] at hB3
      clear hB2 Dd4 Dc4 OT4 O5 hr
      go_wp2_with fail
      refine hB3.mono ?_
      rintro e w6 ⟨rfl, Dc6, O6⟩
      have Dd6 := Dd5.only (fun j hj => by subst hj; exact xc) (by omega) O6
      have OT6 := OT5.trans (O6.more fun j hj => by omega)
      have hB4 := between_any bd low high r.2 w6 Dd6 HL0.out HH1.out
      rw [hs] at hB4
      clear hB3 Dd5 Dc5 OT5 O6 hs
      go_wp2_with fail
      refine hB4.mono ?_
      rintro e w7 ⟨rfl, Dd7, O7⟩
      have Dc7 := Dc6.only (fun j hj => by subst hj; exact xd) (by omega) O7
      have OT7 := OT6.trans (O7.more fun j hj => by omega)
      have hB5 := order_all bc 9 s.2 w7 Dc7
      have hl9 := ordI9 s.2
      obtain ⟨l, hl⟩ : ∃ l, (ordI 9 s.2).1 = l := ⟨_, rfl⟩
      obtain ⟨es, hes⟩ : ∃ es, (ordI 9 s.2).2 = es := ⟨_, rfl⟩
      rw [hl, hes] at hB5
      rw [hl] at hl9
      clear hB4 Dd6 Dc6 OT6 O7
      go_wp2_with fail
      refine hB5.mono ?_
      rintro e w8 ⟨v1, rfl, P8, Dc8, O8⟩
      have Dd8 := Dd7.only (fun j hj => by subst hj; exact xc) (by omega) O8
      have OT8 := OT7.trans (O8.more fun j hj => by omega)
      have hbd7 := Dd7.lt
      have hB6 := order_all bd 9 s.2 w8 Dd8
      rw [hl, hes] at hB6
      clear hB5 Dd7 Dc7 OT7 O8 hl hes
      go_wp2_with fail
      refine hB6.mono ?_
      rintro e w9 ⟨v2, rfl, Q9, Dd9, O9⟩
      have Dc9 := Dc8.only (fun j hj => by subst hj; exact xd) (by omega) O9
      have OT9 := OT8.trans (O9.more fun j hj => by omega)
      have P9 := P8.only (Y := (· = bd)) (fun j h1 h2 h3 => by omega) O9
      clear hB6 Dd8 Dc8 OT8 O9 P8
      go_wp2_with fail
      refine (same_yes v1 v2 l w9 P9.rdi Q9.rdi (by omega)).mono ?_
      rintro e w10 ⟨rfl, q, rfl⟩
      have Dc10 : Dic X bc es (w9.drewN q) := Dc9.kept ⟨rfl, rfl, rfl, Nat.le_refl _, fun _ _ => rfl⟩
      have Dd10 : Dic X bd es (w9.drewN q) := Dd9.kept ⟨rfl, rfl, rfl, Nat.le_refl _, fun _ _ => rfl⟩
      have OT10 : Only (fun j => w.heap.size ≤ j) w (w9.drewN q) := ⟨OT9.os, OT9.tape, OT9.output, OT9.size, OT9.block⟩
      generalize w9.drewN q = wa at Dc10 Dd10 OT10 ⊢
      have hA1 := left_dic bc es wa Dc10
      have hA2 := left_dic bd es wa Dd10
      clear Dc9 Dd9 OT9 P9 Q9
      go_wp2_with fail
      refine hA1.mono ?_
      rintro e w' ⟨rfl, rfl⟩
      go_wp2_with fail
      refine hA2.mono ?_
      rintro e w' ⟨rfl, rfl⟩
      clear hA1 hA2 Dc10 Dd10
      go_wp2_with (first
        | (go_at_call 44; refine (below_nil n _ HN.out).mono ?_; rintro e w' ⟨rfl, rfl⟩)
        | (go_at_call 34; refine (between_nil low high _ HL0.out HL1.out HH1.out).mono ?_; rintro e w' ⟨rfl, rfl⟩)
        | (go_at_call 43; refine (left_nil _).mono ?_; rintro e w' ⟨rfl, rfl⟩)
        | (go_at_call 41; refine (split_nil _ _).mono ?_; rintro e w' ⟨rfl, rfl⟩)
        | (go_at_call 36; refine (chance_nil 5 (n : Int) _ (by omega)).mono ?_; rintro e w' ⟨rfl, rfl⟩))
      all_goals
        refine (order_nil 3 _ (by omega) (by omega)).mono ?_
        rintro e wb ⟨v3, rfl, P, Bb⟩
        have OTb := OT10.trans (Only.below Bb)
        clear OT10 Bb
        have P2 : Rdi v3 (asc 3) (wb.alloc (.cells #[.int .i64 0, .int .i64 1, .int .i64 2] 3)) := (P.only (Y := fun _ => False) (fun j _ _ h => h) (Only.below ((Below.refl _ _).alloc (Nat.le_refl _) _))).rdi
        have Q2 : Rdi (.slice (some ⟨wb.heap.size, 0, none⟩) 3 3) (asc 3) (wb.alloc (.cells #[.int .i64 0, .int .i64 1, .int .i64 2] 3)) := by
          refine ⟨_, 3, rfl, fun _ => ⟨_, rfl, fun i hi => ?_⟩⟩
          have hi' : i < 3 := hi
          rw [World.cell?_alloc_at _ _ _ _ rfl]
          iterate 3 (rcases i with _ | i; · rfl)
          omega
        have OTc : Only (fun j => w.heap.size ≤ j) w (wb.alloc (.cells #[.int .i64 0, .int .i64 1, .int .i64 2] 3)) := OTb.trans (Only.below ((Below.refl _ _).alloc (Nat.le_refl _) _))
        have hS := same_yes _ _ _ _ P2 Q2 (by decide)
        clear P P2 Q2 OTb
        go_wp2_with fail
        refine hS.mono ?_
        rintro e wd ⟨rfl, q2, rfl⟩
        have OTd : Only (fun j => w.heap.size ≤ j) w ((wb.alloc (.cells #[.int .i64 0, .int .i64 1, .int .i64 2] 3)).drewN q2) := ⟨OTc.os, OTc.tape, OTc.output, OTc.size, OTc.block⟩
        clear hS OTc
        generalize (wb.alloc (.cells #[.int .i64 0, .int .i64 1, .int .i64 2] 3)).drewN q2 = we at OTd ⊢
        go_wp2_with (first
          | (go_at_call 39; refine (order_none _ _ _ (by omega)).mono ?_; rintro e w' ⟨rfl, rfl⟩)
          | (go_at_call 32; refine (lives6 _).mono ?_; rintro e w' ⟨rfl, hl⟩))
        go_ret
        exact ⟨rfl, (OTd.trans (Only.below hl)).toBelow (Nat.le_refl _) fun j hj => hj⟩
end Go.Proofs.Ytfakgemifbgafaa
