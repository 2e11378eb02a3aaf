/- The walk of SlotsPlay. -/
import Derived.Test.YtfclmbneimbmnaaDoorRpA
import Derived.Test.YtfclmbneimbmnaaDoorRgG
namespace Go.Proofs.YtfclmbneimbmnaaDoor
open Go.RowKit

set_option maxRecDepth 100000 in
set_option maxHeartbeats 4000000 in
theorem play_big (a : Option Addr) (c n : Nat) (w : World) (hT : Tab w) (hm : 200 < n) : Calls Tryd.prog 4 #[.slice a n c] w fun e w' => e = .returned (.bool true) ∧ Below w.heap.size w w' := by
  have hl := lives11 w hT
  have hd : decide (200 < (n : Int)) = true := decide_eq_true (by omega)
  have hd1 : decide ((n : Int) > 200) = true := decide_eq_true (by omega)
  go_enter Tryd.func4, Tryd.ntmps4
  go_wp2_with (go_at_call 15; with_reducible refine hl.mono ?_; rintro e w1 ⟨rfl, hB1⟩; have HB1 := Lib.hid hB1; clear hB1)
  go_ret
  exact ⟨rfl, HB1.out⟩

/-- The same, and all lie in slots from k on. -/
def StK (B r b k : Nat) (w : World) (v : Value) : Prop := ∃ V S M L, Bo B r b V S M w v L ∧ L.length ≤ 200 ∧ ∀ x ∈ L, (k : Int) ≤ x.2
theorem St.open {B r b n : Nat} {w : World} {v : Value} (h : St B r b n w v) (hn : n ≤ 200) : StK B r b 0 w v := by
  obtain ⟨V, S, M, L, h1, h2⟩ := h
  exact ⟨V, S, M, L, h1, by omega, fun x hx => (h1.rel.ok x hx).1.1⟩

set_option maxRecDepth 100000 in
set_option maxHeartbeats 8000000 in
theorem play_ok (a : Option Addr) (c : Nat) (l : List Ol) (w : World) (hT : Tab w) (hR : OpS w a l) (hok : ∀ t ∈ l, OpOk t) (hm : l.length ≤ 200) : Calls Tryd.prog 4 #[.slice a l.length c] w fun e w' => e = .returned (.bool true) ∧ Below w.heap.size w w' := by
  have mixed := insTh.mixed
  have HL := Lib.hid (fun w1 (h : Below w.heap.size w w1) => lives11 w1 (hT.below h))
  have HR := Lib.hid hR
  have HOK := Lib.hid hok
  have HT := Lib.hid hT
  have hd : decide (200 < (l.length : Int)) = false := decide_eq_false (by omega)
  have hd1 : decide ((l.length : Int) > 200) = false := decide_eq_false (by omega)
  have hnw := rnew w
  clear hR hok hT
  go_enter Tryd.func4, Tryd.ntmps4
  go_wp2_with fail
  refine hnw.mono ?_
  rintro e w1 ⟨r, b, V, M, rfl, hRn, hb1, hfp⟩
  have HS1 : Hid (St w.heap.size r b 0 w1 (.slice none 0 0)) := Lib.hid ⟨V, _, M, [], ⟨hRn, OR.nil _ _, fun g hg => (by cases hg), Rel.nil, hfp, hb1.size⟩, by simp⟩
  have HB1 := Lib.hid hb1
  clear hRn hb1 hfp hnw
  go_wp2_with fail
  go_loopg [4, 6, 7, 8, 19] l.length (fun kx s4 s6 s7 s8 s19 wr => ∃ (k : Nat) (p : Option Addr) (n c4 : Nat), s4 = .slice p n c4 ∧ (∃ v6 v7 v8 : Value, s6 = v6 ∧ s7 = v7 ∧ s8 = v8) ∧ s19 = .int .i64 k ∧ k ≤ l.length ∧ l.length - k ≤ kx ∧ Hid (St w.heap.size r b k wr (.slice p n c4)) ∧ Hid (Below w.heap.size w wr))
  case atStart => exact ⟨0, none, 0, 0, rfl, ⟨_, _, _, rfl, rfl, rfl⟩, rfl, by omega, by omega, HS1, HB1⟩
  case round =>
    obtain ⟨k, p, n, c4, rfl, ⟨v6, v7, v8, rfl, rfl, rfl⟩, rfl, hk, hkx, HS, HB⟩ := hrel
    by_cases hlt : k < l.length
    · have hltz : (k : Int) < (l.length : Int) := by omega
      have hk0 : (0 : Int) ≤ (k : Int) := by omega
      obtain ⟨B, o, rfl, c0, c1, c2, c3, c5⟩ := (HR.out.below HB.out) k hlt
      obtain ⟨ol, hol⟩ : ∃ ol, l[k] = ol := ⟨_, rfl⟩
      have hokk := HOK.out _ (List.getElem_mem hlt)
      rw [hol] at c0 c1 c2 c3 c5 hokk
      have HOL := Lib.hid hokk
      have bA : Below wr.heap.size wr (wr.alloc (.cells #[.int .i64 ol.1, .int .i64 ol.2.1, .int .u64 ol.2.2.1, .int .u64 ol.2.2.2.1, .int .i64 ol.2.2.2.2] 41)) := (Below.refl _ _).alloc (Nat.le_refl _) _
      have HBA := Lib.hid (HB.out.trans (bA.mono HB.out.size))
      have hStA : St w.heap.size r b k (wr.alloc (.cells #[.int .i64 ol.1, .int .i64 ol.2.1, .int .u64 ol.2.2.1, .int .u64 ol.2.2.2.1, .int .i64 ol.2.2.2.2] 41)) (.slice p n c4) := by
        obtain ⟨V, S, M, L, h1, h2⟩ := HS.out
        exact ⟨V, S, M, L, h1.below bA, h2⟩
      have hdo := do_any ol _ (HT.out.below HBA.out) hStA (by omega) HOL.out
      clear hol hokk bA hStA
      go_wp2_with fail
      refine hdo.mono ?_
      rintro e w2 ⟨v2, rfl, hS2, hb2⟩
      have HB2 := Lib.hid (HBA.out.trans hb2)
      have HS2 := Lib.hid hS2
      obtain ⟨V2, S2, M2, L2, hBo, hL2⟩ := hS2
      obtain ⟨p2, c2', rfl, _, hRS2, _⟩ := hBo.own.shape
      have hlen := rlen w2 hBo.rn
      rw [hBo.rel.len] at hlen
      have hus := rused w2 hBo.rn
      rw [hBo.rel.used] at hus
      have hru := rrused p2 c2' L2 w2 hRS2 (by omega) (fun x hx => (hBo.rel.ok x hx).1)
      clear hb2 hdo hBo hRS2 c0 c1 c2 c3 c5
      go_wp2_with (first
        | (go_at_call 24; (with_reducible refine hlen.mono ?_); rintro e w3 ⟨rfl, rfl⟩)
        | (go_at_call 25; (with_reducible refine hus.mono ?_); rintro e w3 ⟨rfl, rfl⟩)
        | (go_at_call 26; (with_reducible refine hru.mono ?_); rintro e w3 ⟨rfl, rfl⟩))
      go_roundg (l.length - (k + 1))
      case measure => omega
      case rel => exact ⟨k + 1, p2, _, c2', rfl, ⟨_, _, _, rfl, rfl, rfl⟩, by go_num, by omega, by omega, HS2, HB2⟩
    · have hltz : ¬ (k : Int) < (l.length : Int) := by omega
      have HK0 := Lib.hid (HS.out.open (by omega))
      clear HS HS1
      go_wp2_with fail
      go_loopg [4, 9, 10, 11, 48] 64 (fun kx s4 s9 s10 s11 s48 w2 => ∃ (k : Nat) (p : Option Addr) (n c4 : Nat), s4 = .slice p n c4 ∧ (∃ v6 v7 v8 : Value, s9 = v6 ∧ s10 = v7 ∧ s11 = v8) ∧ s48 = .int .i64 k ∧ k ≤ 64 ∧ 64 - k ≤ kx ∧ Hid (StK w.heap.size r b k w2 (.slice p n c4)) ∧ Hid (Below w.heap.size w w2))
      case atStart => exact ⟨0, _, _, _, rfl, ⟨_, _, _, rfl, rfl, rfl⟩, rfl, by omega, by omega, HK0, HB⟩
      case round =>
        obtain ⟨j, p', n', c', rfl, ⟨v6', v7', v8', rfl, rfl, rfl⟩, rfl, hj, hjx, HS', HB'⟩ := hrel
        obtain ⟨V, S, M, L, hBo, hL2, hge⟩ := HS'.out
        by_cases hlj : j < 64
        · have hltj : (j : Int) < 64 := by omega
          obtain ⟨_, _, ev, _, hRS, _⟩ := hBo.own.shape
          injection ev with ev1 ev2 ev3
          subst ev1 ev3
          rw [ev2]
          have hrt := rtake_any p' c' L j wr hRS (by omega)
          have hsrt := hBo.rel.sorted hlj
          obtain ⟨LR, hLR⟩ : ∃ l, srt ltR zR (inR (j : Int) L) = l := ⟨_, rfl⟩
          obtain ⟨LT, hLT⟩ : ∃ l, srt ltT zT (S j) = l := ⟨_, rfl⟩
          rw [hLR] at hrt hsrt
          rw [hLT] at hsrt
          have HLT := Lib.hid hLT
          have HSR := Lib.hid hsrt
          have HLL : Hid (LT.length ≤ 300 ∧ LR.length = LT.length) := Lib.hid ⟨by rw [← hLT, srtT_len]; have := tot_ge S 64 hlj; have := hBo.rel.len; omega, by rw [← hsrt]; simp⟩
          have HBo := Lib.hid (And.intro hBo (And.intro hL2 hge))
          clear hsrt hLR hLT hRS hBo hL2 hge ev2 HS'
          go_wp2_with fail
          refine hrt.mono ?_
          rintro e w3 ⟨v1, v2, rfl, hO1, hO2, hb3⟩
          obtain ⟨q1, n1, c1, rfl⟩ := hO1.form
          obtain ⟨q2, c2, rfl, _, _, _⟩ := hO2.shape
          rw [HLL.out.2] at hO2 ⊢
          have htk := take_any w3 (HBo.out.1.rn.below hb3) hlj
          rw [HLT.out] at htk
          have H3 := Lib.hid (And.intro hO1 (And.intro hb3 hO2))
          clear hO1 hO2 hb3 hrt
          go_wp2_with fail
          refine htk.mono ?_
          rintro e w5 ⟨v5, rfl, hO5, V5, M5, hR5, ho5, hf5⟩
          obtain ⟨a5, c5, rfl, hT5⟩ := hO5.reads
          have hlow : ∀ g, wr.heap.size ≤ g → ¬ Fp V r b g := fun g hg hq => by have := HBo.out.1.rn.lt hq; omega
          have hO25 := H3.out.2.2.only ho5 (fun g hg => hlow g (H3.out.2.2.own_lt hg).1)
          obtain ⟨_, _, ev, _, hR25, _⟩ := hO25.shape
          injection ev with ev1 ev2 ev3
          subst ev1 ev3
          clear ev2
          have hsm := same_yes a5 q2 c5 c2 LT LR w5 hT5 hR25 HSR.out (by unfold maxLen; have := HLL.out.1; omega)
          rw [HLL.out.2] at hsm
          have hO15 := H3.out.1.only ho5 (fun g hg => hlow g (H3.out.1.own_lt hg).1)
          have hB5 : Below w.heap.size w w5 := (HB'.out.trans (H3.out.2.1.mono HB'.out.size)).trans (ho5.toBelow (Nat.le_trans HB'.out.size H3.out.2.1.size) (fun q hq => HBo.out.1.base q hq))
          have hnew : Bo w.heap.size r b V5 (upd S j []) M5 w5 (.slice q1 n1 c1) (leftR j L) := ⟨hR5, hO15.mono (Nat.zero_le _), fun g hg hq => hlow g (H3.out.1.own_lt hg).1 (hf5 g hq), HBo.out.1.rel.take, fun q hq => HBo.out.1.base q (hf5 q hq), hB5.size⟩
          have HNEW := Lib.hid (And.intro hnew hB5)
          clear hO5 hR5 ho5 hf5 hT5 hO25 hR25 hO15 hB5 hnew htk
          go_wp2_with fail
          refine hsm.mono ?_
          rintro e w6 ⟨rfl, hb6⟩
          have HB6 := Lib.hid hb6
          clear hsm hb6
          go_wp2_with fail
          go_roundg (64 - (j + 1))
          case measure => omega
          case rel =>
            refine ⟨j + 1, q1, n1, c1, rfl, ⟨_, _, _, rfl, rfl, rfl⟩, by go_num, by omega, by omega, Lib.hid ⟨V5, _, M5, leftR j L, HNEW.out.1.below HB6.out, by have := leftR_len j L; have := HBo.out.2.1; omega, fun x hx => ?_⟩, Lib.hid (HNEW.out.2.trans (HB6.out.mono HNEW.out.2.size))⟩
            have h1 := List.mem_filter.1 hx
            have h2 := HBo.out.2.2 x h1.1
            have h3 : ¬ x.2 = (j : Int) := by simpa using h1.2
            omega
        · have hltj : ¬ (j : Int) < 64 := by omega
          obtain rfl : j = 64 := by omega
          have hL0 : L = [] := by
            cases L with
            | nil => rfl
            | cons x L =>
              have h1 := hge x (by simp)
              have h2 := (hBo.rel.ok x (by simp)).1
              omega
          subst hL0
          have hlen := rlen wr hBo.rn
          rw [hBo.rel.len] at hlen
          have hus := rused wr hBo.rn
          rw [hBo.rel.used] at hus
          have e0 : usedR [] = 0 := rfl
          rw [e0] at hus
          have hlv := HL.out wr HB'.out
          clear hBo hge hL2 HS'
          go_wp2_with (first
            | (go_at_call 24; (with_reducible refine hlen.mono ?_); rintro e w3 ⟨rfl, rfl⟩)
            | (go_at_call 25; (with_reducible refine hus.mono ?_); rintro e w3 ⟨rfl, rfl⟩)
            | (go_at_call 15; (with_reducible refine hlv.mono ?_); rintro e w3 ⟨rfl, hb3⟩; have HB3 := Lib.hid (HB'.out.trans (hb3.mono HB'.out.size)); clear hb3))
          go_ret
          exact ⟨rfl, HB3.out⟩

theorem play_walk (a : Option Addr) (n c : Nat) (l : List Ol) (w : World) (hT : Tab w) (h : l.length = n ∧ OpS w a l ∧ ∀ t ∈ l, OpOk t) : Calls Tryd.prog 4 #[.slice a n c] w fun e w' => e = .returned (.bool true) ∧ Below w.heap.size w w' := by
  obtain ⟨rfl, hR, ho⟩ := h
  by_cases hm : l.length ≤ 200
  · exact play_ok a c l w hT hR ho hm
  · exact play_big a c l.length w hT (by omega)
end Go.Proofs.YtfclmbneimbmnaaDoor
