import Derived.Test.YtfclmbneimbmnaaDoorWfB
import Derived.Deep.OwnRows
import Derived.Deep.QuietTactic
import Derived.BigQuiet
namespace Go.Proofs.YtfclmbneimbmnaaDoor
open Go.RowKit
/- WheelFires: the walk of what is not skipped. -/
open Go.RowKit
set_option maxRecDepth 100000 in
set_option maxHeartbeats 16000000 in
theorem wfires_ok (now : Nat) (a1 : Option Addr) (c1 : Nat) (dues : List Int) (a2 : Option Addr) (c2 : Nat) (steps : List Int) (w : World) (hT : Tab w) (hI1 : IS w a1 dues) (hI2 : IS w a2 steps) (hb1 : ∀ t ∈ dues, -9223372036854775808 ≤ t ∧ t ≤ 9223372036854775807) (hb2 : ∀ t ∈ steps, -9223372036854775808 ≤ t ∧ t ≤ 9223372036854775807) (n m : Nat) (hn : dues.length = n) (hm : steps.length = m) (hn1 : n ≤ 100) (hn2 : m ≤ 100) (hnow : now ≤ 1125899906842624) : Calls Tryd.prog 6 #[.int .i64 now, .slice a1 n c1, .slice a2 m c2] w fun e w' => e = .returned (.bool true) ∧ Below w.heap.size w w' := by
  have mixed := insTh.mixed
  have HSZ0 : Hid (∀ B wr, w.heap.size = B → Below B w wr → B ≤ wr.heap.size) := Lib.hid (fun B wr e h => e ▸ h.size)
  obtain ⟨B, hB⟩ : ∃ B, w.heap.size = B := ⟨_, rfl⟩
  have hB0 : 0 < B := by have := hT.pos; omega
  have HSZ : Hid (∀ wr, Below B w wr → B ≤ wr.heap.size) := Lib.hid (fun wr h => HSZ0.out B wr hB h)
  clear HSZ0
  have HB0 : Hid (B ≤ w.heap.size) := Lib.hid (by omega)
  have HFB : Hid (∀ {q0} k wr, FA B q0 now dues k w wr → Below B w wr) := Lib.hid (fun k wr h => by obtain ⟨_, _, _, _, _, hb⟩ := h; exact hb)
  have HFT : Hid (∀ {q0 Q0 : Nat} u wr, FT B q0 Q0 u dues w wr → Below B w wr) := Lib.hid (fun u wr h => by obtain ⟨_, _, _, _, _, _, _, _, _, hb⟩ := h; exact hb)
  have HT : Hid (∀ w', Below B w w' → Tab w') := Lib.hid (fun w' h => hT.below (by rw [hB]; exact h))
  have HI1 : Hid (∀ w', Below B w w' → IS w' a1 dues) := Lib.hid (fun w' h => hI1.below (by rw [hB]; exact h))
  have HI2 : Hid (∀ w', Below B w w' → IS w' a2 steps) := Lib.hid (fun w' h => hI2.below (by rw [hB]; exact h))
  have HD1 := Lib.hid hb1
  have HD2 := Lib.hid hb2
  have hnw := wnew (now : Int) w (by omega)
  have d1 : decide (100 < (n : Int)) = false := decide_eq_false (by omega)
  have d2 : decide (100 < (m : Int)) = false := decide_eq_false (by omega)
  have d3 : decide ((now : Int) < 0) = false := decide_eq_false (by omega)
  have d4 : decide (1125899906842624 < (now : Int)) = false := decide_eq_false (by omega)
  have HN1 := Lib.hid hn
  have HN2 := Lib.hid hm
  clear hT hI1 hI2 hb1 hb2 hn hm
  rw [hB] at hnw ⊢
  go_enter Tryd.func6, Tryd.ntmps6
  go_wp2_with fail
  refine hnw.mono ?_
  rintro e w1 ⟨q, R, rfl, hW1, hS1, hbl1, hbs1⟩
  have HA : Hid (FA B q now dues 0 w w1) := Lib.hid (by
    obtain ⟨h1, h2⟩ := WI.start hW1 hS1 hnow hbs1
    exact ⟨_, h1, rfl, fun t => by rw [h2]; constructor <;> intro h; cases h; obtain ⟨i, hi, _⟩ := h; omega, by rw [h2]; simp, hbl1⟩)
  clear hnw hW1 hS1 hbl1 hbs1 d1 d2 d3 d4
  go_wp2_with fail
  go_loopg [43] n (fun kx s43 wr => ∃ k : Nat, s43 = .int .i64 k ∧ k ≤ n ∧ n - k ≤ kx ∧ Hid (FA B q now dues k w wr))
  case atStart => exact ⟨0, rfl, by omega, by omega, HA⟩
  case round =>
    obtain ⟨k, rfl, hk, hkx, HS⟩ := hrel
    by_cases hlt : k < n
    · have hltz : (k : Int) < (n : Int) := by omega
      have hlk : k < dues.length := by rw [HN1.out]; exact hlt
      have hk0 : (0 : Int) ≤ (k : Int) := by omega
      have ek : IntKind.u64.wrap (k : Int) = (k : Int) := IntWalk.u64_in _ ⟨by omega, by omega⟩
      obtain ⟨Bk, o, rfl, c0⟩ := (HI1.out _ (HFB.out _ _ HS.out)) k hlk
      have hbd := HD1.out _ (List.getElem_mem hlk)
      have hgd : dues.getD k 0 = dues[k]'hlk := getD_at dues k hlk
      obtain ⟨d, hd⟩ : ∃ d, dues[k]'hlk = d := ⟨_, rfl⟩
      rw [hd] at c0 hbd hgd
      have harm := HS.out.arm HB0.out (by omega) d hgd hbd
      clear hgd hd HS HA hbd
      cases hib : InsB d with
      | true =>
        have hr : 0 ≤ d ∧ d ≤ 1125899906842624 := by unfold InsB at hib; exact of_decide_eq_true hib
        obtain ⟨r1, r2⟩ := hr
        rw [hib, if_pos rfl] at harm
        clear hib
        go_wp2_with (go_at_call 38; (with_reducible refine harm.mono ?_); rintro e w2 ⟨rfl, h1⟩; have H2 := Lib.hid h1; clear h1 harm)
        go_roundg (n - (k + 1))
        case measure => omega
        case rel => exact ⟨k + 1, by go_num, by omega, by omega, H2⟩
      | false =>
        have hr : ¬ (0 ≤ d ∧ d ≤ 1125899906842624) := by unfold InsB at hib; exact of_decide_eq_false hib
        rw [hib, if_neg (by decide)] at harm
        clear hib
        by_cases r1 : 0 ≤ d
        · have r2 : ¬ d ≤ 1125899906842624 := fun h => hr ⟨r1, h⟩
          clear hr
          go_wp2_with (go_at_call 38; (with_reducible refine harm.mono ?_); rintro e w2 ⟨rfl, h1⟩; have H2 := Lib.hid h1; clear h1 harm)
          go_roundg (n - (k + 1))
          case measure => omega
          case rel => exact ⟨k + 1, by go_num, by omega, by omega, H2⟩
        · clear hr
          go_wp2_with (go_at_call 38; (with_reducible refine harm.mono ?_); rintro e w2 ⟨rfl, h1⟩; have H2 := Lib.hid h1; clear h1 harm)
          go_roundg (n - (k + 1))
          case measure => omega
          case rel => exact ⟨k + 1, by go_num, by omega, by omega, H2⟩
    · obtain rfl : k = n := by omega
      have hltz : ¬ (k : Int) < (k : Int) := by omega
      have HF : Hid (FT B q wr.heap.size now dues w (wr.alloc (.cells (madeCells #[.bool false] k) 4))) := Lib.hid (by
        obtain ⟨D, hwi, hq, hL, hle, hb⟩ := HS.out
        have hbA : Below wr.heap.size wr (wr.alloc (.cells (madeCells #[.bool false] k) 4)) := (Below.refl _ _).alloc (Nat.le_refl _) _
        refine ⟨D, fun _ => false, hwi.below hbA, hq, by rw [HN1.out]; exact hL, fun i _ _ h => (by cases h), ?_, fun hg => by have := hwi.wl.lt hg; omega, HSZ.out _ hb, hb.trans (hbA.mono (HSZ.out _ hb))⟩
        rw [HN1.out]; exact seenB_new k wr)
      have hmb := run_make_row' (P := Tryd.prog) 71 4 (.bool false) 1 Tryd.underlying71 boolsW_info rfl .i64 .i64 k (by omega) (by omega)
      have hQ : B ≤ wr.heap.size := by obtain ⟨D, hwi, hq, hL, hle, hb⟩ := HS.out; exact HSZ.out _ hb
      clear HS HA
      obtain ⟨Q, hQe⟩ : ∃ Q, wr.heap.size = Q := ⟨_, rfl⟩
      rw [hQe] at HF hQ
      go_wp2_with fail
      try rw [hQe]
      clear hmb hltz hQe
      generalize wr.alloc (.cells (madeCells #[.bool false] k) 4) = wM at HF ⊢
      clear hk hkx hlt wr
      go_loopg [12, 70] m (fun kx s12 s70 w2 => ∃ (k2 at_ : Nat), s12 = .int .i64 at_ ∧ s70 = .int .i64 k2 ∧ k2 ≤ m ∧ m - k2 ≤ kx ∧ at_ ≤ 1125899906842624 ∧ Hid (FT B q Q at_ dues w w2))
      case atStart => exact ⟨0, now, rfl, rfl, by omega, by omega, hnow, HF⟩
      case round =>
        obtain ⟨k2, at_, rfl, rfl, hk2, hk2x, hat, HS⟩ := hrel
        by_cases hlt : k2 < m
        · have hltz : (k2 : Int) < (m : Int) := by omega
          have hlk : k2 < steps.length := by rw [HN2.out]; exact hlt
          have hk20 : (0 : Int) ≤ (k2 : Int) := by omega
          obtain ⟨Bk, o, rfl, c0⟩ := (HI2.out _ (HFT.out _ _ HS.out)) k2 hlk
          obtain ⟨s, hs⟩ : ∃ s, steps[k2]'hlk = s := ⟨_, rfl⟩
          have hbd := HD2.out _ (List.getElem_mem hlk)
          rw [hs] at c0 hbd
          obtain ⟨u, hu⟩ : ∃ u : Nat, (at_ : Int) + max (min s (1125899906842624 - (at_ : Int))) 0 = (u : Int) := ⟨((at_ : Int) + max (min s (1125899906842624 - (at_ : Int))) 0).toNat, by omega⟩
          have hau : at_ ≤ u := by omega
          have huH : u ≤ 1125899906842624 := by omega
          have hadv := HS.out.adv (HT.out _ (HFT.out _ _ HS.out)) hB0 HB0.out hau huH
          clear hs HS
          go_wp2_with fail
          refine hadv.mono ?_
          rintro e w5 ⟨p, l, c, rfl, hI⟩
          obtain ⟨base, hbase⟩ : ∃ base, wr.heap.size = base := ⟨_, rfl⟩
          rw [hbase] at hI
          have HI0 := Lib.hid hI
          clear hI hadv hbase c0 hbd hk20 hltz
          go_wp2_with fail
          go_loopg [91] l.length (fun kx s91 w3 => ∃ j : Nat, s91 = .int .i64 j ∧ j ≤ l.length ∧ l.length - j ≤ kx ∧ Hid (FI B q Q u dues base (.slice p l.length c) l j w w3))
          case atStart => exact ⟨0, rfl, by omega, by omega, HI0⟩
          case round =>
            clear HI0
            obtain ⟨j, rfl, hj, hjx, HJ⟩ := hrel
            by_cases hjl : j < l.length
            · have hjz : (j : Int) < (l.length : Int) := by omega
              have hj0 : (0 : Int) ≤ (j : Int) := by omega
              obtain ⟨g, o2, i, rfl, hi, hdu, c0, c1, c2, s0, sf, hQl, hnx⟩ := HJ.out.look hjl
              obtain ⟨B1, o1, rfl, cd⟩ := (HI1.out _ HJ.out.bl) i hi
              rw [getD_at dues i hi] at hdu c2
              obtain ⟨d, hd⟩ : ∃ d, dues[i]'hi = d := ⟨_, rfl⟩
              rw [hd] at hdu c2 cd
              have hik : i < k := by rw [← HN1.out]; exact hi
              have hiz : (i : Int) < (k : Int) := by omega
              have hi0 : (0 : Int) ≤ (i : Int) := by omega
              have ek : IntKind.u64.wrap (k : Int) = (k : Int) := IntWalk.u64_in _ ⟨by omega, by omega⟩
              have hbA : Below wr.heap.size wr (wr.alloc (.cells #[.int .u64 (i : Int), .int .u64 7, .int .i64 d] 27)) := (Below.refl _ _).alloc (Nat.le_refl _) _
              have s0' := (hbA.cell (p := ⟨Q, i, none⟩) hQl).trans s0
              have sf' := (hbA.frozen (p := ⟨Q, i, none⟩) hQl).trans sf
              have cd' := (hbA.cell (p := ⟨B1, o1 + i, none⟩) (by have := cell_lt cd; exact this)).trans cd
              have H2 := Lib.hid (fun nq => hnx _ (below_drewNW hbA nq))
              have hfew := HJ.out.few
              clear hd hnx hbA s0 sf cd
              go_wp2_with fail
              go_quiet (fail)
              go_wp2_with fail
              go_roundg (l.length - (j + 1))
              case measure => omega
              case rel => exact ⟨j + 1, by go_num, by omega, by omega, Lib.hid (H2.out _)⟩
            · obtain rfl : j = l.length := by omega
              have hjz : ¬ (l.length : Int) < (l.length : Int) := by omega
              have HC := Lib.hid HJ.out.done
              clear HJ hj hjx hjl
              go_wp2_with fail
              go_loopg [132] k (fun kx s132 w4 => ∃ i : Nat, s132 = .int .i64 i ∧ i ≤ k ∧ k - i ≤ kx ∧ w4 = wr)
              case atStart => exact ⟨0, rfl, by omega, by omega, rfl⟩
              case round =>
                obtain ⟨i, rfl, hik, hikx, rfl⟩ := hrel
                by_cases hil : i < k
                · have hiz : (i : Int) < (k : Int) := by omega
                  have hi0 : (0 : Int) ≤ (i : Int) := by omega
                  have hil2 : i < dues.length := by rw [HN1.out]; exact hil
                  obtain ⟨B1, o1, rfl, cd⟩ := (HI1.out _ (HFT.out _ _ HC.out.1)) i hil2
                  have hs := HC.out.2 i hil2
                  rw [getD_at dues i hil2] at hs
                  obtain ⟨d, hd⟩ : ∃ d, dues[i]'hil2 = d := ⟨_, rfl⟩
                  rw [hd] at hs cd
                  clear hd
                  by_cases r1 : 0 ≤ d
                  · by_cases r2 : d ≤ 1125899906842624
                    · have hs' := hs (by unfold InsB; exact decide_eq_true ⟨r1, r2⟩)
                      clear hs
                      by_cases r3 : d ≤ (u : Int)
                      · rw [decide_eq_true r3] at hs'
                        go_wp2_with fail
                        go_roundg (k - (i + 1))
                        case measure => omega
                        case rel => exact ⟨i + 1, by go_num, by omega, by omega, rfl⟩
                      · rw [decide_eq_false r3] at hs'
                        go_wp2_with fail
                        go_roundg (k - (i + 1))
                        case measure => omega
                        case rel => exact ⟨i + 1, by go_num, by omega, by omega, rfl⟩
                    · clear hs
                      go_wp2_with fail
                      go_roundg (k - (i + 1))
                      case measure => omega
                      case rel => exact ⟨i + 1, by go_num, by omega, by omega, rfl⟩
                  · clear hs
                    go_wp2_with fail
                    go_roundg (k - (i + 1))
                    case measure => omega
                    case rel => exact ⟨i + 1, by go_num, by omega, by omega, rfl⟩
                · obtain rfl : i = k := by omega
                  have hiz : ¬ (i : Int) < (i : Int) := by omega
                  have HF2 := Lib.hid HC.out.1
                  go_wp2_with fail
                  go_roundg (m - (k2 + 1))
                  case measure => omega
                  case rel => exact ⟨k2 + 1, u, rfl, by go_num, by omega, by omega, huH, HF2⟩
        · obtain rfl : k2 = m := by omega
          have hltz : ¬ (k2 : Int) < (k2 : Int) := by omega
          have HBE := Lib.hid (HFT.out _ _ HS.out)
          have hl := lives12 _ (HT.out _ HBE.out)
          clear HS
          go_wp2_with (go_at_call 30; with_reducible refine hl.mono ?_; rintro e w6 ⟨rfl, hb6⟩; have HB6 := Lib.hid (HBE.out.trans (hb6.mono (HSZ.out _ HBE.out))); clear hb6)
          go_ret
          exact ⟨rfl, HB6.out⟩
/- WheelFires for every input. -/
open Go.RowKit
theorem wfires_walk (now : Int) (a1 : Option Addr) (n1 c1 : Nat) (dues : List Int) (a2 : Option Addr) (n2 c2 : Nat) (steps : List Int) (w : World) (hT : Tab w) {p : Prop} (_ : p)
    (h1 : dues.length = n1 ∧ IS w a1 dues ∧ n1 ≤ maxLen ∧ ∀ t ∈ dues, -9223372036854775808 ≤ t ∧ t ≤ 9223372036854775807)
    (h2 : steps.length = n2 ∧ IS w a2 steps ∧ n2 ≤ maxLen ∧ ∀ t ∈ steps, -9223372036854775808 ≤ t ∧ t ≤ 9223372036854775807) :
    Calls Tryd.prog 6 #[.int .i64 now, .slice a1 n1 c1, .slice a2 n2 c2] w fun e w' => e = .returned (.bool true) ∧ Below w.heap.size w w' := by
  by_cases h : 100 < (n1 : Int) ∨ 100 < (n2 : Int) ∨ now < 0 ∨ 1125899906842624 < now
  · refine wfires_skip now a1 n1 c1 a2 n2 c2 w hT _ _ _ _ rfl rfl rfl rfl ?_
    simp only [Bool.or_eq_true, decide_eq_true_eq]
    exact h
  · obtain ⟨b, rfl⟩ : ∃ b : Nat, now = (b : Int) := ⟨now.toNat, by omega⟩
    exact wfires_ok b a1 c1 dues a2 c2 steps w hT h1.2.1 h2.2.1 h1.2.2.2 h2.2.2.2 n1 n2 h1.1 h2.1 (by omega) (by omega) (by omega)
end Go.Proofs.YtfclmbneimbmnaaDoor
