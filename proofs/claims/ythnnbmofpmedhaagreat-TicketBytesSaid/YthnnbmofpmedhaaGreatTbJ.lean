/- Tickets: the law of bytes: a sound ticket; every input. -/
import Derived.Test.YthnnbmofpmedhaaGreatTbF
namespace Go.Proofs.YthnnbmofpmedhaaGreat
open Go.RowKit
set_option maxRecDepth 100000 in
set_option maxHeartbeats 16000000 in
theorem tb_yes (n1 n2 n3 n4 n5 n6 n7 n8 n9 : Nat) (h1 : n1 ≤ 18446744073709551615) (h2 : n2 ≤ 15) (h3 : n3 ≤ 4) (h4 : n4 ≤ 5) (h5 : n5 ≤ 1152921504606846976) (h6 : n6 ≤ 1125899906842624) (h7 : n7 ≤ 1125899906842624) (h8 : n8 ≤ 1125899906842624) (h9 : n9 ≤ 2147483648) (a : Option Addr) (n cap : Nat) (bs : List Nat) (w : World) (hrb : RB w (.slice a n cap) bs) (hln : bs.length = n) (hown : ∀ k, w.heap.size ≤ k → (Value.slice a n cap).ownBlock ≠ some k) (hn : n ≤ 3000) (ok : Bool) (hok : tkOk bs = ok) (hsb : soundB n2 n3 n4 n5 n6 n7 n8 n9 = true) :
    Calls Tryz.prog 4 #[tkV (n1 : Int) (n2 : Int) (n3 : Int) (n4 : Int) (n5 : Int) (n6 : Int) (n7 : Int) (n8 : Int) (n9 : Int), .slice a n cap] w fun e w' => e = .returned (.bool true) ∧ Below w.heap.size w w' := by
  have hfr : (n6 : Int) ≤ 9223372036854775807 := by omega
  obtain ⟨BS, hBS⟩ : ∃ BS, nums [n1, n2, n3, n4, n5, n6, n7, n8, n9] = BS := ⟨_, rfl⟩
  have hnk := nine_back n1 n2 n3 n4 n5 n6 n7 n8 n9 h1 h2 h3 h4 h5 h6 h7 h8 h9 hsb
  rw [hBS] at hnk
  have HLB0 : Hid ((∀ x ∈ BS, x < 256) ∧ BS.length ≤ 81) := Lib.hid (by
    rw [← hBS]
    have hall := nine_nums n1 n2 n3 n4 n5 n6 n7 n8 n9 (by omega) (by omega) (by omega) (by omega) (by omega) (by omega) (by omega) (by omega) (by omega)
    refine ⟨flat_lt (num 0) _ (fun y hy => num_lt' 0 y (by omega) (hall y hy)), ?_⟩
    have := flat_len (num 0) 9 [n1, n2, n3, n4, n5, n6, n7, n8, n9] (fun y hy => num_len9 0 y (hall y hy))
    unfold nums
    simpa using this)
  have HPUT : Hid (∀ g P, WR P g (g + 1) (.slice none 0 0) [] → Calls Tryz.prog 21 #[.pointer (some ⟨g, 0, none⟩), .agg #[.int .u64 (n1 : Int), .int .i64 (n2 : Int), .int .i64 (n3 : Int), .int .i64 (n4 : Int), .int .u64 (n5 : Int), .int .i64 (n6 : Int), .int .i64 (n7 : Int), .int .i64 (n8 : Int), .int .i64 (n9 : Int)]] P fun e w' => e = .returned (.tuple #[]) ∧ Wrote g (g + 1) (.slice none 0 0) P BS w') := Lib.hid (fun g P h => by
    have := tput_any g (g + 1) (.slice none 0 0) n1 n2 n3 n4 n5 n6 n7 n8 n9 (by omega) (by omega) (by omega) (by omega) (by omega) (by omega) (by omega) (by omega) (by omega) P h
    rw [hBS] at this
    exact this)
  have HPR : Hid (∀ P, Calls Tryz.prog 23 #[.agg #[.int .u64 (n1 : Int), .int .i64 (n2 : Int), .int .i64 (n3 : Int), .int .i64 (n4 : Int), .int .u64 (n5 : Int), .int .i64 (n6 : Int), .int .i64 (n7 : Int), .int .i64 (n8 : Int), .int .i64 (n9 : Int)]] P (Owned P BS)) := Lib.hid (fun P => by
    have := rput_any n1 n2 n3 n4 n5 n6 n7 n8 n9 (by omega) (by omega) (by omega) (by omega) (by omega) (by omega) (by omega) (by omega) (by omega) P
    rw [hBS] at this
    exact this)
  have HRDB : Hid (∀ rb V, RR V rb BS false → Calls Tryz.prog 22 #[.pointer (some ⟨rb, 0, none⟩)] V fun e w' => e = .returned (.tuple #[.agg #[.int .u64 (n1 : Int), .int .i64 (n2 : Int), .int .i64 (n3 : Int), .int .i64 (n4 : Int), .int .u64 (n5 : Int), .int .i64 (n6 : Int), .int .i64 (n7 : Int), .int .i64 (n8 : Int), .int .i64 (n9 : Int)], .bool true]) ∧ RR w' rb (nineR BS) false ∧ Rd rb V w') := Lib.hid (fun rb V h => by
    have := read_first rb BS false V h true hnk.1
    rw [if_pos rfl, if_pos rfl, hnk.2] at this
    exact this)
  clear hnk hBS h1 h2 h3 h4 h5 h6 h7 h8 h9
  have HLN : Hid (bs.length ≤ 3000) := Lib.hid (by omega)
  have HRB0 : Hid (∀ W', Below w.heap.size w W' → RB W' (.slice a n cap) bs) := Lib.hid (fun W' h => hrb.kept h)
  have HOWN := Lib.hid hown
  obtain ⟨y1, y2, y3, y4, y5, y6, y7, y8, y9, hy⟩ : ∃ y1 y2 y3 y4 y5 y6 y7 y8 y9 : Int, (if ok = true then (nine bs).t else tkV 0 0 0 0 0 0 0 0 0) = tkV y1 y2 y3 y4 y5 y6 y7 y8 y9 := by
    cases ok
    · exact ⟨0, 0, 0, 0, 0, 0, 0, 0, 0, rfl⟩
    · exact ⟨_, _, _, _, _, _, _, _, _, rfl⟩
  obtain ⟨R, hR⟩ : ∃ R, (if ok = true then nineR bs else []) = R := ⟨_, rfl⟩
  have HRD1 : Hid (∀ rb V, RR V rb bs false → Calls Tryz.prog 22 #[.pointer (some ⟨rb, 0, none⟩)] V fun e w' => e = .returned (.tuple #[.agg #[.int .u64 y1, .int .i64 y2, .int .i64 y3, .int .i64 y4, .int .u64 y5, .int .i64 y6, .int .i64 y7, .int .i64 y8, .int .i64 y9], .bool ok]) ∧ RR w' rb R (!ok) ∧ Rd rb V w') := Lib.hid (fun rb V h => by
    have := read_first rb bs false V h ok hok
    rw [hy, hR] at this
    exact this)
  have HRD2 : Hid (∀ rb V, RF V rb bs false → Calls Tryz.prog 24 #[.pointer (some ⟨rb, 0, none⟩)] V fun e w' => e = .returned (.tuple #[.agg #[.int .u64 y1, .int .i64 y2, .int .i64 y3, .int .i64 y4, .int .u64 y5, .int .i64 y6, .int .i64 y7, .int .i64 y8, .int .i64 y9], .bool ok]) ∧ RF w' rb R (!ok) ∧ Rd rb V w') := Lib.hid (fun rb V h => by
    have := rread_any rb bs false V h ok hok
    rw [hy, hR] at this
    exact this)
  have d1 : decide (3000 < (n : Int)) = false := decide_eq_false (by omega)
  have HSA := Lib.hid (fun w' => sound_any (n1 : Int) (n2 : Int) (n3 : Int) (n4 : Int) (n5 : Int) (n6 : Int) (n7 : Int) (n8 : Int) (n9 : Int) w' hfr)
  have HSR := Lib.hid (fun w' => rsound_any (n1 : Int) (n2 : Int) (n3 : Int) (n4 : Int) (n5 : Int) (n6 : Int) (n7 : Int) (n8 : Int) (n9 : Int) w')
  rw [hsb] at HSA HSR
  clear hrb hown hok hy hR hsb
  obtain ⟨B2, s0, sz⟩ := box1 w #[.int .u64 (n1 : Int), .int .i64 (n2 : Int), .int .i64 (n3 : Int), .int .i64 (n4 : Int), .int .u64 (n5 : Int), .int .i64 (n6 : Int), .int .i64 (n7 : Int), .int .i64 (n8 : Int), .int .i64 (n9 : Int)] 48
  have HT0 := Lib.hid s0
  have HB0 := Lib.hid B2
  obtain ⟨c0, c1, c2, c3, c4, c5, c6, c7, c8⟩ := nine_at s0
  have hst : ∀ w', w'.heap[w.heap.size]? = some (.cells #[.int .u64 (n1 : Int), .int .i64 (n2 : Int), .int .i64 (n3 : Int), .int .i64 (n4 : Int), .int .u64 (n5 : Int), .int .i64 (n6 : Int), .int .i64 (n7 : Int), .int .i64 (n8 : Int), .int .i64 (n9 : Int)] 48 (0, 0)) → Below w.heap.size w w' → (w'.cell? ⟨w.heap.size, 0, none⟩ = some (.int .u64 (n1 : Int)) ∧ w'.cell? ⟨w.heap.size, 1, none⟩ = some (.int .i64 (n2 : Int)) ∧ w'.cell? ⟨w.heap.size, 2, none⟩ = some (.int .i64 (n3 : Int)) ∧ w'.cell? ⟨w.heap.size, 3, none⟩ = some (.int .i64 (n4 : Int)) ∧ w'.cell? ⟨w.heap.size, 4, none⟩ = some (.int .u64 (n5 : Int)) ∧ w'.cell? ⟨w.heap.size, 5, none⟩ = some (.int .i64 (n6 : Int)) ∧ w'.cell? ⟨w.heap.size, 6, none⟩ = some (.int .i64 (n7 : Int)) ∧ w'.cell? ⟨w.heap.size, 7, none⟩ = some (.int .i64 (n8 : Int)) ∧ w'.cell? ⟨w.heap.size, 8, none⟩ = some (.int .i64 (n9 : Int)) ∧ w'.heap[w.heap.size]? = some (.cells #[.int .u64 (n1 : Int), .int .i64 (n2 : Int), .int .i64 (n3 : Int), .int .i64 (n4 : Int), .int .u64 (n5 : Int), .int .i64 (n6 : Int), .int .i64 (n7 : Int), .int .i64 (n8 : Int), .int .i64 (n9 : Int)] 48 (0, 0)) ∧ Below w.heap.size w w') := fun w' h hb => by
    obtain ⟨e0, e1, e2, e3, e4, e5, e6, e7, e8⟩ := nine_at h
    exact ⟨e0, e1, e2, e3, e4, e5, e6, e7, e8, h, hb⟩
  have HST := Lib.hid hst
  have HA : Hid (∀ w', (w'.cell? ⟨w.heap.size, 0, none⟩ = some (.int .u64 (n1 : Int)) ∧ w'.cell? ⟨w.heap.size, 1, none⟩ = some (.int .i64 (n2 : Int)) ∧ w'.cell? ⟨w.heap.size, 2, none⟩ = some (.int .i64 (n3 : Int)) ∧ w'.cell? ⟨w.heap.size, 3, none⟩ = some (.int .i64 (n4 : Int)) ∧ w'.cell? ⟨w.heap.size, 4, none⟩ = some (.int .u64 (n5 : Int)) ∧ w'.cell? ⟨w.heap.size, 5, none⟩ = some (.int .i64 (n6 : Int)) ∧ w'.cell? ⟨w.heap.size, 6, none⟩ = some (.int .i64 (n7 : Int)) ∧ w'.cell? ⟨w.heap.size, 7, none⟩ = some (.int .i64 (n8 : Int)) ∧ w'.cell? ⟨w.heap.size, 8, none⟩ = some (.int .i64 (n9 : Int)) ∧ w'.heap[w.heap.size]? = some (.cells #[.int .u64 (n1 : Int), .int .i64 (n2 : Int), .int .i64 (n3 : Int), .int .i64 (n4 : Int), .int .u64 (n5 : Int), .int .i64 (n6 : Int), .int .i64 (n7 : Int), .int .i64 (n8 : Int), .int .i64 (n9 : Int)] 48 (0, 0)) ∧ Below w.heap.size w w') → Calls Tryz.prog 19 #[.agg #[.int .u64 (n1 : Int), .int .i64 (n2 : Int), .int .i64 (n3 : Int), .int .i64 (n4 : Int), .int .u64 (n5 : Int), .int .i64 (n6 : Int), .int .i64 (n7 : Int), .int .i64 (n8 : Int), .int .i64 (n9 : Int)]] w' fun e w'' => e = .returned (.bool true) ∧ (w''.cell? ⟨w.heap.size, 0, none⟩ = some (.int .u64 (n1 : Int)) ∧ w''.cell? ⟨w.heap.size, 1, none⟩ = some (.int .i64 (n2 : Int)) ∧ w''.cell? ⟨w.heap.size, 2, none⟩ = some (.int .i64 (n3 : Int)) ∧ w''.cell? ⟨w.heap.size, 3, none⟩ = some (.int .i64 (n4 : Int)) ∧ w''.cell? ⟨w.heap.size, 4, none⟩ = some (.int .u64 (n5 : Int)) ∧ w''.cell? ⟨w.heap.size, 5, none⟩ = some (.int .i64 (n6 : Int)) ∧ w''.cell? ⟨w.heap.size, 6, none⟩ = some (.int .i64 (n7 : Int)) ∧ w''.cell? ⟨w.heap.size, 7, none⟩ = some (.int .i64 (n8 : Int)) ∧ w''.cell? ⟨w.heap.size, 8, none⟩ = some (.int .i64 (n9 : Int)) ∧ w''.heap[w.heap.size]? = some (.cells #[.int .u64 (n1 : Int), .int .i64 (n2 : Int), .int .i64 (n3 : Int), .int .i64 (n4 : Int), .int .u64 (n5 : Int), .int .i64 (n6 : Int), .int .i64 (n7 : Int), .int .i64 (n8 : Int), .int .i64 (n9 : Int)] 48 (0, 0)) ∧ Below w.heap.size w w'')) := Lib.hid (fun w' h => by
    obtain ⟨_, _, _, _, _, _, _, _, _, hh, hb⟩ := h
    refine (HSA.out w').mono ?_
    rintro e w'' ⟨rfl, hb2⟩
    exact ⟨rfl, HST.out w'' (ex_below hh hb2) (hb.trans (hb2.mono hb.size))⟩)
  have HR : Hid (∀ w', (w'.cell? ⟨w.heap.size, 0, none⟩ = some (.int .u64 (n1 : Int)) ∧ w'.cell? ⟨w.heap.size, 1, none⟩ = some (.int .i64 (n2 : Int)) ∧ w'.cell? ⟨w.heap.size, 2, none⟩ = some (.int .i64 (n3 : Int)) ∧ w'.cell? ⟨w.heap.size, 3, none⟩ = some (.int .i64 (n4 : Int)) ∧ w'.cell? ⟨w.heap.size, 4, none⟩ = some (.int .u64 (n5 : Int)) ∧ w'.cell? ⟨w.heap.size, 5, none⟩ = some (.int .i64 (n6 : Int)) ∧ w'.cell? ⟨w.heap.size, 6, none⟩ = some (.int .i64 (n7 : Int)) ∧ w'.cell? ⟨w.heap.size, 7, none⟩ = some (.int .i64 (n8 : Int)) ∧ w'.cell? ⟨w.heap.size, 8, none⟩ = some (.int .i64 (n9 : Int)) ∧ w'.heap[w.heap.size]? = some (.cells #[.int .u64 (n1 : Int), .int .i64 (n2 : Int), .int .i64 (n3 : Int), .int .i64 (n4 : Int), .int .u64 (n5 : Int), .int .i64 (n6 : Int), .int .i64 (n7 : Int), .int .i64 (n8 : Int), .int .i64 (n9 : Int)] 48 (0, 0)) ∧ Below w.heap.size w w') → Calls Tryz.prog 20 #[.agg #[.int .u64 (n1 : Int), .int .i64 (n2 : Int), .int .i64 (n3 : Int), .int .i64 (n4 : Int), .int .u64 (n5 : Int), .int .i64 (n6 : Int), .int .i64 (n7 : Int), .int .i64 (n8 : Int), .int .i64 (n9 : Int)]] w' fun e w'' => e = .returned (.bool true) ∧ (w''.cell? ⟨w.heap.size, 0, none⟩ = some (.int .u64 (n1 : Int)) ∧ w''.cell? ⟨w.heap.size, 1, none⟩ = some (.int .i64 (n2 : Int)) ∧ w''.cell? ⟨w.heap.size, 2, none⟩ = some (.int .i64 (n3 : Int)) ∧ w''.cell? ⟨w.heap.size, 3, none⟩ = some (.int .i64 (n4 : Int)) ∧ w''.cell? ⟨w.heap.size, 4, none⟩ = some (.int .u64 (n5 : Int)) ∧ w''.cell? ⟨w.heap.size, 5, none⟩ = some (.int .i64 (n6 : Int)) ∧ w''.cell? ⟨w.heap.size, 6, none⟩ = some (.int .i64 (n7 : Int)) ∧ w''.cell? ⟨w.heap.size, 7, none⟩ = some (.int .i64 (n8 : Int)) ∧ w''.cell? ⟨w.heap.size, 8, none⟩ = some (.int .i64 (n9 : Int)) ∧ w''.heap[w.heap.size]? = some (.cells #[.int .u64 (n1 : Int), .int .i64 (n2 : Int), .int .i64 (n3 : Int), .int .i64 (n4 : Int), .int .u64 (n5 : Int), .int .i64 (n6 : Int), .int .i64 (n7 : Int), .int .i64 (n8 : Int), .int .i64 (n9 : Int)] 48 (0, 0)) ∧ Below w.heap.size w w'')) := Lib.hid (fun w' h => by
    obtain ⟨_, _, _, _, _, _, _, _, _, hh, hb⟩ := h
    refine (HSR.out w').mono ?_
    rintro e w'' ⟨rfl, hb2⟩
    exact ⟨rfl, HST.out w'' (ex_below hh hb2) (hb.trans (hb2.mono hb.size))⟩)
  clear B2 s0 sz hst
  unfold tkV
  go_enter Tryz.func4, Tryz.ntmps4
  go_wp2_with fail
  generalize w.alloc (.cells #[.int .u64 (n1 : Int), .int .i64 (n2 : Int), .int .i64 (n3 : Int), .int .i64 (n4 : Int), .int .u64 (n5 : Int), .int .i64 (n6 : Int), .int .i64 (n7 : Int), .int .i64 (n8 : Int), .int .i64 (n9 : Int)] 48) = W0 at HT0 HB0 c0 c1 c2 c3 c4 c5 c6 c7 c8 ⊢
  have h0 : W0.drew.cell? ⟨w.heap.size, 0, none⟩ = some (.int .u64 (n1 : Int)) ∧ W0.drew.cell? ⟨w.heap.size, 1, none⟩ = some (.int .i64 (n2 : Int)) ∧ W0.drew.cell? ⟨w.heap.size, 2, none⟩ = some (.int .i64 (n3 : Int)) ∧ W0.drew.cell? ⟨w.heap.size, 3, none⟩ = some (.int .i64 (n4 : Int)) ∧ W0.drew.cell? ⟨w.heap.size, 4, none⟩ = some (.int .u64 (n5 : Int)) ∧ W0.drew.cell? ⟨w.heap.size, 5, none⟩ = some (.int .i64 (n6 : Int)) ∧ W0.drew.cell? ⟨w.heap.size, 6, none⟩ = some (.int .i64 (n7 : Int)) ∧ W0.drew.cell? ⟨w.heap.size, 7, none⟩ = some (.int .i64 (n8 : Int)) ∧ W0.drew.cell? ⟨w.heap.size, 8, none⟩ = some (.int .i64 (n9 : Int)) ∧ W0.drew.heap[w.heap.size]? = some (.cells #[.int .u64 (n1 : Int), .int .i64 (n2 : Int), .int .i64 (n3 : Int), .int .i64 (n4 : Int), .int .u64 (n5 : Int), .int .i64 (n6 : Int), .int .i64 (n7 : Int), .int .i64 (n8 : Int), .int .i64 (n9 : Int)] 48 (0, 0)) ∧ Below w.heap.size w W0.drew := HST.out _ HT0.out HB0.out.drew
  clear c0 c1 c2 c3 c4 c5 c6 c7 c8
  go_region_held3 (fun w' => w'.cell? ⟨w.heap.size, 0, none⟩ = some (.int .u64 (n1 : Int)) ∧ w'.cell? ⟨w.heap.size, 1, none⟩ = some (.int .i64 (n2 : Int)) ∧ w'.cell? ⟨w.heap.size, 2, none⟩ = some (.int .i64 (n3 : Int)) ∧ w'.cell? ⟨w.heap.size, 3, none⟩ = some (.int .i64 (n4 : Int)) ∧ w'.cell? ⟨w.heap.size, 4, none⟩ = some (.int .u64 (n5 : Int)) ∧ w'.cell? ⟨w.heap.size, 5, none⟩ = some (.int .i64 (n6 : Int)) ∧ w'.cell? ⟨w.heap.size, 6, none⟩ = some (.int .i64 (n7 : Int)) ∧ w'.cell? ⟨w.heap.size, 7, none⟩ = some (.int .i64 (n8 : Int)) ∧ w'.cell? ⟨w.heap.size, 8, none⟩ = some (.int .i64 (n9 : Int)) ∧ w'.heap[w.heap.size]? = some (.cells #[.int .u64 (n1 : Int), .int .i64 (n2 : Int), .int .i64 (n3 : Int), .int .i64 (n4 : Int), .int .u64 (n5 : Int), .int .i64 (n6 : Int), .int .i64 (n7 : Int), .int .i64 (n8 : Int), .int .i64 (n9 : Int)] 48 (0, 0)) ∧ Below w.heap.size w w')
    (first | exact h0 | assumption)
    (first
      | (go_at_call 19; refine (HA.out _ (by assumption)).mono ?_; rintro e w8 ⟨rfl, hS8⟩)
      | (go_at_call 20; refine (HR.out _ (by assumption)).mono ?_; rintro e w8 ⟨rfl, hS8⟩))
  all_goals
    obtain ⟨c0, c1, c2, c3, c4, c5, c6, c7, c8, hh8, hb8⟩ := hS8
    have HT8 := Lib.hid hh8
    have HB8 := Lib.hid hb8
    clear hh8 hb8 h0
    go_wp2_with fail
    refine (HR.out _ (HST.out _ HT8.out HB8.out)).mono ?_
    rintro e X0 ⟨rfl, hS9⟩
    obtain ⟨-, -, -, -, -, -, -, -, -, hh9, hb9⟩ := hS9
    have HT9 := Lib.hid hh9
    have HB := Lib.hid hb9
    clear hh9 hb9 c0 c1 c2 c3 c4 c5 c6 c7 c8
    have HLB : Hid ((∀ x ∈ BS, x < 256) ∧ BS.length ≤ 81) := HLB0
    obtain ⟨bx, bn, bz⟩ := box1 X0 #[.slice none 0 0] 31
    obtain ⟨c0, c1, c2, c3, c4, c5, c6, c7, c8⟩ := nine_at (ex_below HT9.out bx)
    have HBP0 := Lib.hid (HB.out.trans (bx.mono HB.out.size))
    have HTP0 := Lib.hid (ex_below HT9.out bx)
    obtain ⟨g, hge⟩ : ∃ g, X0.heap.size = g := ⟨_, rfl⟩
    rw [hge] at bn bz
    have HWP0 : Hid (WR (X0.alloc (.cells #[.slice none 0 0] 31)) g (g + 1) (.slice none 0 0) []) := Lib.hid ⟨bn, by omega, by rw [bz]; omega, World.ownsRow_nil _ _ _ _, by simp⟩
    have HGB : Hid (w.heap.size < g ∧ g < (X0.alloc (.cells #[.slice none 0 0] 31)).heap.size) := Lib.hid ⟨by have := ex_lt HT9.out; omega, by rw [bz]; omega⟩
    clear bx bn bz HB HT9
    go_wp2_with fail
    try rw [hge]
    generalize X0.alloc (.cells #[.slice none 0 0] 31) = P0 at HBP0 HTP0 HWP0 HGB c0 c1 c2 c3 c4 c5 c6 c7 c8 ⊢
    clear c0 c1 c2 c3 c4 c5 c6 c7 c8 hge
    refine (HPUT.out g P0 HWP0.out).mono ?_
    rintro e P1 ⟨rfl, v1, hw1, ht1, hm1⟩
    have HB1 := Lib.hid (ht1.outside HBP0.out HBP0.out.size (by have := HGB.out; omega) (fun k hk => by simp [Value.ownBlock] at hk))
    have HT1 := Lib.hid (Rd.keep ht1 HTP0.out (by have := HGB.out; omega))
    have HW1 := Lib.hid hw1
    have HG1 : Hid (g < P1.heap.size) := Lib.hid (Nat.lt_of_lt_of_le HGB.out.2 ht1.size)
    clear hw1 ht1 hm1 HBP0 HTP0 HWP0
    go_wp2_with fail
    refine (bytes_wr g (g + 1) v1 BS P1 HW1.out (by have := HLB.out.2; omega)).mono ?_
    rintro e P2 ⟨y, rfl, hoy, hby⟩
    have HY2 := Lib.hid (hoy.rb HLB.out.1 (by have := HLB.out.2; omega))
    have HB2 := Lib.hid (HB1.out.trans (hby.mono HB1.out.size))
    have HT2 := Lib.hid (ex_below HT1.out hby)
    have HW2 := Lib.hid (HW1.out.kept hby)
    have HG2 : Hid (g < P2.heap.size) := Lib.hid (Nat.lt_of_lt_of_le HG1.out hby.size)
    clear hoy hby HB1 HT1 HW1 HG1
    go_wp2_with fail
    refine (open_any y BS P2 HY2.out (by have := HLB.out.2; omega)).mono ?_
    rintro e P3 ⟨r2, rfl, hle3, hrr3, hb3⟩
    have HR3 := Lib.hid hrr3
    have HB3 := Lib.hid (HB2.out.trans (hb3.mono HB2.out.size))
    have HT3 := Lib.hid (ex_below HT2.out hb3)
    have HW3 := Lib.hid (HW2.out.kept hb3)
    have HNE3 : Hid (g < r2 ∧ w.heap.size < r2 ∧ (∀ k, v1.ownBlock = some k → k ≠ r2)) := Lib.hid ⟨by have := HG2.out; omega, by have := HG2.out; have := HGB.out; omega, fun k hk => by have := HW2.out.own_lt k hk; omega⟩
    clear hle3 hrr3 hb3 HB2 HT2 HW2 HY2 HG2
    go_wp2_with fail
    refine (HRDB.out r2 P3 HR3.out).mono ?_
    rintro e P4 ⟨rfl, hr4, ht4⟩
    have HB4 := Lib.hid (ht4.outside HB3.out HB3.out.size (by have := HNE3.out.2.1; omega))
    have HT4 := Lib.hid (ht4.keep HT3.out (by have := HNE3.out.2.1; omega))
    have HW4 := Lib.hid (HW3.out.other ht4 (by have := HNE3.out.1; omega) (fun h => HNE3.out.2.2 _ h rfl) (by simp [Value.ownBlock]) (fun k _ => by simp [Value.ownBlock]))
    have HG4 : Hid (w.heap.size < P4.heap.size) := Lib.hid (ex_lt HT4.out)
    clear hr4 ht4 HB3 HT3 HW3 HR3
    obtain ⟨bx, bn, bz⟩ := box1 P4 #[.int .u64 (n1 : Int), .int .i64 (n2 : Int), .int .i64 (n3 : Int), .int .i64 (n4 : Int), .int .u64 (n5 : Int), .int .i64 (n6 : Int), .int .i64 (n7 : Int), .int .i64 (n8 : Int), .int .i64 (n9 : Int)] 48
    have HB5 := Lib.hid (HB4.out.trans (bx.mono HB4.out.size))
    have HT5 := Lib.hid (ex_below HT4.out bx)
    have HW5 := Lib.hid (HW4.out.kept bx)
    have HX5 := Lib.hid bn
    go_upto_region 9 with (fail)
    clear bx bn bz HB4 HT4 HW4
    obtain ⟨T6, hTe⟩ : ∃ T6, P4.heap.size = T6 := ⟨_, rfl⟩
    rw [hTe] at HX5
    try rw [hTe]
    generalize P4.alloc (.cells #[.int .u64 (n1 : Int), .int .i64 (n2 : Int), .int .i64 (n3 : Int), .int .i64 (n4 : Int), .int .u64 (n5 : Int), .int .i64 (n6 : Int), .int .i64 (n7 : Int), .int .i64 (n8 : Int), .int .i64 (n9 : Int)] 48) = P5 at HB5 HT5 HW5 HX5 ⊢
    clear hTe HG4
    have HY5 : Hid (∀ W', Below P5.heap.size P5 W' → Calls Tryz.prog 13 #[.pointer (some ⟨g, 0, none⟩)] W' (Owned W' BS)) := Lib.hid (fun W' h => bytes_wr g (g + 1) v1 BS W' (HW5.out.kept h) (by have := HLB.out.2; omega))
    have HSK : Hid (∀ W', Below P5.heap.size P5 W' → (W'.cell? ⟨w.heap.size, 0, none⟩ = some (.int .u64 (n1 : Int)) ∧ W'.cell? ⟨w.heap.size, 1, none⟩ = some (.int .i64 (n2 : Int)) ∧ W'.cell? ⟨w.heap.size, 2, none⟩ = some (.int .i64 (n3 : Int)) ∧ W'.cell? ⟨w.heap.size, 3, none⟩ = some (.int .i64 (n4 : Int)) ∧ W'.cell? ⟨w.heap.size, 4, none⟩ = some (.int .u64 (n5 : Int)) ∧ W'.cell? ⟨w.heap.size, 5, none⟩ = some (.int .i64 (n6 : Int)) ∧ W'.cell? ⟨w.heap.size, 6, none⟩ = some (.int .i64 (n7 : Int)) ∧ W'.cell? ⟨w.heap.size, 7, none⟩ = some (.int .i64 (n8 : Int)) ∧ W'.cell? ⟨w.heap.size, 8, none⟩ = some (.int .i64 (n9 : Int)) ∧ W'.cell? ⟨T6, 0, none⟩ = some (.int .u64 (n1 : Int)) ∧ W'.cell? ⟨T6, 1, none⟩ = some (.int .i64 (n2 : Int)) ∧ W'.cell? ⟨T6, 2, none⟩ = some (.int .i64 (n3 : Int)) ∧ W'.cell? ⟨T6, 3, none⟩ = some (.int .i64 (n4 : Int)) ∧ W'.cell? ⟨T6, 4, none⟩ = some (.int .u64 (n5 : Int)) ∧ W'.cell? ⟨T6, 5, none⟩ = some (.int .i64 (n6 : Int)) ∧ W'.cell? ⟨T6, 6, none⟩ = some (.int .i64 (n7 : Int)) ∧ W'.cell? ⟨T6, 7, none⟩ = some (.int .i64 (n8 : Int)) ∧ W'.cell? ⟨T6, 8, none⟩ = some (.int .i64 (n9 : Int)))) := Lib.hid (fun W' h => by
      obtain ⟨c0, c1, c2, c3, c4, c5, c6, c7, c8⟩ := nine_at (ex_below HT5.out h)
      obtain ⟨x0, x1, x2, x3, x4, x5, x6, x7, x8⟩ := nine_at (ex_below HX5.out h)
      exact ⟨c0, c1, c2, c3, c4, c5, c6, c7, c8, x0, x1, x2, x3, x4, x5, x6, x7, x8⟩)
    go_cut [47] from 33 to 92 (fun s47 wc => s47 = .bool false ∧ Hid (Below w.heap.size w wc))
    case first =>
      have HBN0 : Hid (Below P5.heap.size P5 P5.drew) := Lib.hid (Below.refl _ _).drew
      have hgd := fun (op : BinOp) (x y : Operand) (xs ys : Array Value) (w : World) => guard_tbt op x y xs ys w
      have hnq := fun (w : World) => neq_tbt (n1 : Int) (n2 : Int) (n3 : Int) (n4 : Int) (n5 : Int) (n6 : Int) (n7 : Int) (n8 : Int) (n9 : Int) w
      have h0 := HSK.out _ HBN0.out
      go_wp2_with fail
      refine wp_region_held_drew (S := fun w' => w'.cell? ⟨w.heap.size, 0, none⟩ = some (.int .u64 (n1 : Int)) ∧ w'.cell? ⟨w.heap.size, 1, none⟩ = some (.int .i64 (n2 : Int)) ∧ w'.cell? ⟨w.heap.size, 2, none⟩ = some (.int .i64 (n3 : Int)) ∧ w'.cell? ⟨w.heap.size, 3, none⟩ = some (.int .i64 (n4 : Int)) ∧ w'.cell? ⟨w.heap.size, 4, none⟩ = some (.int .u64 (n5 : Int)) ∧ w'.cell? ⟨w.heap.size, 5, none⟩ = some (.int .i64 (n6 : Int)) ∧ w'.cell? ⟨w.heap.size, 6, none⟩ = some (.int .i64 (n7 : Int)) ∧ w'.cell? ⟨w.heap.size, 7, none⟩ = some (.int .i64 (n8 : Int)) ∧ w'.cell? ⟨w.heap.size, 8, none⟩ = some (.int .i64 (n9 : Int)) ∧ w'.cell? ⟨T6, 0, none⟩ = some (.int .u64 (n1 : Int)) ∧ w'.cell? ⟨T6, 1, none⟩ = some (.int .i64 (n2 : Int)) ∧ w'.cell? ⟨T6, 2, none⟩ = some (.int .i64 (n3 : Int)) ∧ w'.cell? ⟨T6, 3, none⟩ = some (.int .i64 (n4 : Int)) ∧ w'.cell? ⟨T6, 4, none⟩ = some (.int .u64 (n5 : Int)) ∧ w'.cell? ⟨T6, 5, none⟩ = some (.int .i64 (n6 : Int)) ∧ w'.cell? ⟨T6, 6, none⟩ = some (.int .i64 (n7 : Int)) ∧ w'.cell? ⟨T6, 7, none⟩ = some (.int .i64 (n8 : Int)) ∧ w'.cell? ⟨T6, 8, none⟩ = some (.int .i64 (n9 : Int))) (by kernel_rfl) h0 (fun hHeld => ?_)
      refine wpAnyH_take (i := 2) (v := ?_) rfl (by kernel_rfl) (by kernel_rfl) (by kernel_rfl) (fun _ _ _ h => h) (Or.inl ⟨by rfl, ?_⟩) (by assumption) ?_
      case refine_2 => (intro w1 hS1; (try dsimp only at hS1); go_simp; try with_reducible rfl)
      try simp only [List.getElem_toArray, List.getElem_cons_zero, List.getElem_cons_succ, Act.put, List.setIfInBounds_toArray, List.set_cons_zero, List.set_cons_succ]
      refine wpAnyH_ready (rs := [0]) (by kernel_rfl) (by simp) ?_
      refine AllReadyH.cons rfl (fun K hK => ?_) AllReadyH.nil
      go_simp
      refine (HY5.out _ HBN0.out).mono ?_
      rintro e W1 ⟨y, rfl, ho, hb⟩
      have HBN1 := Lib.hid (HBN0.out.trans (hb.mono HBN0.out.size))
      have HVy1 := Lib.hid (ho.rb HLB.out.1 (by have := HLB.out.2; omega))
      clear ho hb
      refine hK.out _ _ (HSK.out _ HBN1.out) (fun hHeld => ?_)
      clear hK K
      try simp only [List.getElem_toArray, List.getElem_cons_zero, List.getElem_cons_succ, Act.put, List.setIfInBounds_toArray, List.set_cons_zero, List.set_cons_succ]
      refine wpAnyH_ready (rs := [1, 3]) (by kernel_rfl) (by simp) ?_
      refine AllReadyH.cons rfl (fun K hK => ?_) (AllReadyH.cons rfl (fun K hK => ?_) AllReadyH.nil)
      · have hcv := rb_string (P := Tryz.prog) HVy1.out 25 9 5 Tryz.underlying25 Tryz.underlying5 Tryz.underlying9
        go_simp
        clear hcv
        refine hK.out _ _ (HSK.out _ HBN1.out) (fun hHeld => ?_)
        clear hK K
        try simp only [List.getElem_toArray, List.getElem_cons_zero, List.getElem_cons_succ, Act.put, List.setIfInBounds_toArray, List.set_cons_zero, List.set_cons_succ]
        refine wpAnyH_ready (rs := [3]) (by kernel_rfl) (by simp) ?_
        refine AllReadyH.cons rfl (fun K hK => ?_) AllReadyH.nil
        go_simp
        refine (HPR.out _).mono ?_
        rintro e W3 ⟨z, rfl, ho, hb⟩
        have HBN3 := Lib.hid (HBN1.out.trans (hb.mono HBN1.out.size))
        have HVz3 := Lib.hid (ho.rb HLB.out.1 (by have := HLB.out.2; omega))
        have HVy3 := Lib.hid (HVy1.out.kept hb)
        clear ho hb
        refine hK.out _ _ (HSK.out _ HBN3.out) (fun hHeld => ?_)
        clear hK K
        try simp only [List.getElem_toArray, List.getElem_cons_zero, List.getElem_cons_succ, Act.put, List.setIfInBounds_toArray, List.set_cons_zero, List.set_cons_succ]
        refine wpAnyH_ready (rs := [4]) (by kernel_rfl) (by simp) ?_
        refine AllReadyH.cons rfl (fun K hK => ?_) AllReadyH.nil
        have hcv := rb_string (P := Tryz.prog) HVz3.out 25 9 5 Tryz.underlying25 Tryz.underlying5 Tryz.underlying9
        go_simp
        clear hcv
        refine hK.out _ _ (HSK.out _ HBN3.out) (fun hHeld => ?_)
        clear hK K
        try simp only [List.getElem_toArray, List.getElem_cons_zero, List.getElem_cons_succ, Act.put, List.setIfInBounds_toArray, List.set_cons_zero, List.set_cons_succ]
        refine wpAnyH_take (i := 5) (v := ?_) rfl (by kernel_rfl) (by kernel_rfl) (by kernel_rfl) (fun _ _ _ h => h) (Or.inl ⟨by rfl, ?_⟩) (by assumption) ?_
        case refine_2 => (intro w1 hS1; (try dsimp only at hS1); go_simp; try with_reducible rfl)
        try simp only [List.getElem_toArray, List.getElem_cons_zero, List.getElem_cons_succ, Act.put, List.setIfInBounds_toArray, List.set_cons_zero, List.set_cons_succ]
        refine wpAnyH_take (i := 6) (v := ?_) rfl (by kernel_rfl) (by kernel_rfl) (by kernel_rfl) (fun _ _ _ h => h) (Or.inl ⟨by rfl, ?_⟩) (by assumption) ?_
        case refine_2 => (intro w1 hS1; (try dsimp only at hS1); go_simp; try with_reducible rfl)
        try simp only [List.getElem_toArray, List.getElem_cons_zero, List.getElem_cons_succ, Act.put, List.setIfInBounds_toArray, List.set_cons_zero, List.set_cons_succ]
        refine wpAnyH_take (i := 7) (v := ?_) rfl (by kernel_rfl) (by kernel_rfl) (by kernel_rfl) (fun _ _ _ h => h) (Or.inl ⟨by rfl, ?_⟩) (by assumption) ?_
        case refine_2 => (intro w1 hS1; (try dsimp only at hS1); go_simp; try with_reducible rfl)
        try simp only [List.getElem_toArray, List.getElem_cons_zero, List.getElem_cons_succ, Act.put, List.setIfInBounds_toArray, List.set_cons_zero, List.set_cons_succ]
        refine wpAnyH_take (i := 8) (v := ?_) rfl (by kernel_rfl) (by kernel_rfl) (by kernel_rfl) (fun _ _ _ h => h) (Or.inl ⟨by rfl, ?_⟩) (by assumption) ?_
        case refine_2 => (intro w1 hS1; (try dsimp only at hS1); go_simp; try with_reducible rfl)
        try simp only [List.getElem_toArray, List.getElem_cons_zero, List.getElem_cons_succ, Act.put, List.setIfInBounds_toArray, List.set_cons_zero, List.set_cons_succ]
        refine wpAnyH_take (i := 9) (v := ?_) rfl (by kernel_rfl) (by kernel_rfl) (by kernel_rfl) (fun _ _ _ h => h) (Or.inl ⟨by rfl, ?_⟩) (by assumption) ?_
        case refine_2 => (intro w1 hS1; (try dsimp only at hS1); go_simp; try with_reducible rfl)
        try simp only [List.getElem_toArray, List.getElem_cons_zero, List.getElem_cons_succ, Act.put, List.setIfInBounds_toArray, List.set_cons_zero, List.set_cons_succ]
        refine wpAnyH_take (i := 10) (v := ?_) rfl (by kernel_rfl) (by kernel_rfl) (by kernel_rfl) (fun _ _ _ h => h) (Or.inl ⟨by rfl, ?_⟩) (by assumption) ?_
        case refine_2 => (intro w1 hS1; (try dsimp only at hS1); go_simp; try with_reducible rfl)
        try simp only [List.getElem_toArray, List.getElem_cons_zero, List.getElem_cons_succ, Act.put, List.setIfInBounds_toArray, List.set_cons_zero, List.set_cons_succ]
        refine wpAnyH_take (i := 11) (v := ?_) rfl (by kernel_rfl) (by kernel_rfl) (by kernel_rfl) (fun _ _ _ h => h) (Or.inl ⟨by rfl, ?_⟩) (by assumption) ?_
        case refine_2 => (intro w1 hS1; (try dsimp only at hS1); go_simp; try with_reducible rfl)
        try simp only [List.getElem_toArray, List.getElem_cons_zero, List.getElem_cons_succ, Act.put, List.setIfInBounds_toArray, List.set_cons_zero, List.set_cons_succ]
        refine wpAnyH_take (i := 12) (v := ?_) rfl (by kernel_rfl) (by kernel_rfl) (by kernel_rfl) (fun _ _ _ h => h) (Or.inl ⟨by rfl, ?_⟩) (by assumption) ?_
        case refine_2 => (intro w1 hS1; (try dsimp only at hS1); go_simp; try with_reducible rfl)
        try simp only [List.getElem_toArray, List.getElem_cons_zero, List.getElem_cons_succ, Act.put, List.setIfInBounds_toArray, List.set_cons_zero, List.set_cons_succ]
        refine wpAnyH_take (i := 13) (v := ?_) rfl (by kernel_rfl) (by kernel_rfl) (by kernel_rfl) (fun _ _ _ h => h) (Or.inl ⟨by rfl, ?_⟩) (by assumption) ?_
        case refine_2 => (intro w1 hS1; (try dsimp only at hS1); go_simp; try with_reducible rfl)
        try simp only [List.getElem_toArray, List.getElem_cons_zero, List.getElem_cons_succ, Act.put, List.setIfInBounds_toArray, List.set_cons_zero, List.set_cons_succ]
        refine wpAnyH_take (i := 14) (v := ?_) rfl (by kernel_rfl) (by kernel_rfl) (by kernel_rfl) (fun _ _ _ h => h) (Or.inl ⟨by rfl, ?_⟩) (by assumption) ?_
        case refine_2 => (intro w1 hS1; (try dsimp only at hS1); go_simp; try with_reducible rfl)
        try simp only [List.getElem_toArray, List.getElem_cons_zero, List.getElem_cons_succ, Act.put, List.setIfInBounds_toArray, List.set_cons_zero, List.set_cons_succ]
        refine wpAnyH_done (by kernel_rfl) ?_ _
        go_wp2_with fail
        go_meet
        exact ⟨rfl, Lib.hid (HB5.out.trans (HBN3.out.mono HB5.out.size))⟩
      · go_simp
        refine (HPR.out _).mono ?_
        rintro e W5 ⟨z, rfl, ho, hb⟩
        have HBN5 := Lib.hid (HBN1.out.trans (hb.mono HBN1.out.size))
        have HVz5 := Lib.hid (ho.rb HLB.out.1 (by have := HLB.out.2; omega))
        have HVy5 := Lib.hid (HVy1.out.kept hb)
        clear ho hb
        refine hK.out _ _ (HSK.out _ HBN5.out) (fun hHeld => ?_)
        clear hK K
        try simp only [List.getElem_toArray, List.getElem_cons_zero, List.getElem_cons_succ, Act.put, List.setIfInBounds_toArray, List.set_cons_zero, List.set_cons_succ]
        refine wpAnyH_ready (rs := [1, 4]) (by kernel_rfl) (by simp) ?_
        refine AllReadyH.cons rfl (fun K hK => ?_) (AllReadyH.cons rfl (fun K hK => ?_) AllReadyH.nil)
        · have hcv := rb_string (P := Tryz.prog) HVy5.out 25 9 5 Tryz.underlying25 Tryz.underlying5 Tryz.underlying9
          go_simp
          clear hcv
          refine hK.out _ _ (HSK.out _ HBN5.out) (fun hHeld => ?_)
          clear hK K
          try simp only [List.getElem_toArray, List.getElem_cons_zero, List.getElem_cons_succ, Act.put, List.setIfInBounds_toArray, List.set_cons_zero, List.set_cons_succ]
          refine wpAnyH_ready (rs := [4]) (by kernel_rfl) (by simp) ?_
          refine AllReadyH.cons rfl (fun K hK => ?_) AllReadyH.nil
          have hcv := rb_string (P := Tryz.prog) HVz5.out 25 9 5 Tryz.underlying25 Tryz.underlying5 Tryz.underlying9
          go_simp
          clear hcv
          refine hK.out _ _ (HSK.out _ HBN5.out) (fun hHeld => ?_)
          clear hK K
          try simp only [List.getElem_toArray, List.getElem_cons_zero, List.getElem_cons_succ, Act.put, List.setIfInBounds_toArray, List.set_cons_zero, List.set_cons_succ]
          refine wpAnyH_take (i := 5) (v := ?_) rfl (by kernel_rfl) (by kernel_rfl) (by kernel_rfl) (fun _ _ _ h => h) (Or.inl ⟨by rfl, ?_⟩) (by assumption) ?_
          case refine_2 => (intro w1 hS1; (try dsimp only at hS1); go_simp; try with_reducible rfl)
          try simp only [List.getElem_toArray, List.getElem_cons_zero, List.getElem_cons_succ, Act.put, List.setIfInBounds_toArray, List.set_cons_zero, List.set_cons_succ]
          refine wpAnyH_take (i := 6) (v := ?_) rfl (by kernel_rfl) (by kernel_rfl) (by kernel_rfl) (fun _ _ _ h => h) (Or.inl ⟨by rfl, ?_⟩) (by assumption) ?_
          case refine_2 => (intro w1 hS1; (try dsimp only at hS1); go_simp; try with_reducible rfl)
          try simp only [List.getElem_toArray, List.getElem_cons_zero, List.getElem_cons_succ, Act.put, List.setIfInBounds_toArray, List.set_cons_zero, List.set_cons_succ]
          refine wpAnyH_take (i := 7) (v := ?_) rfl (by kernel_rfl) (by kernel_rfl) (by kernel_rfl) (fun _ _ _ h => h) (Or.inl ⟨by rfl, ?_⟩) (by assumption) ?_
          case refine_2 => (intro w1 hS1; (try dsimp only at hS1); go_simp; try with_reducible rfl)
          try simp only [List.getElem_toArray, List.getElem_cons_zero, List.getElem_cons_succ, Act.put, List.setIfInBounds_toArray, List.set_cons_zero, List.set_cons_succ]
          refine wpAnyH_take (i := 8) (v := ?_) rfl (by kernel_rfl) (by kernel_rfl) (by kernel_rfl) (fun _ _ _ h => h) (Or.inl ⟨by rfl, ?_⟩) (by assumption) ?_
          case refine_2 => (intro w1 hS1; (try dsimp only at hS1); go_simp; try with_reducible rfl)
          try simp only [List.getElem_toArray, List.getElem_cons_zero, List.getElem_cons_succ, Act.put, List.setIfInBounds_toArray, List.set_cons_zero, List.set_cons_succ]
          refine wpAnyH_take (i := 9) (v := ?_) rfl (by kernel_rfl) (by kernel_rfl) (by kernel_rfl) (fun _ _ _ h => h) (Or.inl ⟨by rfl, ?_⟩) (by assumption) ?_
          case refine_2 => (intro w1 hS1; (try dsimp only at hS1); go_simp; try with_reducible rfl)
          try simp only [List.getElem_toArray, List.getElem_cons_zero, List.getElem_cons_succ, Act.put, List.setIfInBounds_toArray, List.set_cons_zero, List.set_cons_succ]
          refine wpAnyH_take (i := 10) (v := ?_) rfl (by kernel_rfl) (by kernel_rfl) (by kernel_rfl) (fun _ _ _ h => h) (Or.inl ⟨by rfl, ?_⟩) (by assumption) ?_
          case refine_2 => (intro w1 hS1; (try dsimp only at hS1); go_simp; try with_reducible rfl)
          try simp only [List.getElem_toArray, List.getElem_cons_zero, List.getElem_cons_succ, Act.put, List.setIfInBounds_toArray, List.set_cons_zero, List.set_cons_succ]
          refine wpAnyH_take (i := 11) (v := ?_) rfl (by kernel_rfl) (by kernel_rfl) (by kernel_rfl) (fun _ _ _ h => h) (Or.inl ⟨by rfl, ?_⟩) (by assumption) ?_
          case refine_2 => (intro w1 hS1; (try dsimp only at hS1); go_simp; try with_reducible rfl)
          try simp only [List.getElem_toArray, List.getElem_cons_zero, List.getElem_cons_succ, Act.put, List.setIfInBounds_toArray, List.set_cons_zero, List.set_cons_succ]
          refine wpAnyH_take (i := 12) (v := ?_) rfl (by kernel_rfl) (by kernel_rfl) (by kernel_rfl) (fun _ _ _ h => h) (Or.inl ⟨by rfl, ?_⟩) (by assumption) ?_
          case refine_2 => (intro w1 hS1; (try dsimp only at hS1); go_simp; try with_reducible rfl)
          try simp only [List.getElem_toArray, List.getElem_cons_zero, List.getElem_cons_succ, Act.put, List.setIfInBounds_toArray, List.set_cons_zero, List.set_cons_succ]
          refine wpAnyH_take (i := 13) (v := ?_) rfl (by kernel_rfl) (by kernel_rfl) (by kernel_rfl) (fun _ _ _ h => h) (Or.inl ⟨by rfl, ?_⟩) (by assumption) ?_
          case refine_2 => (intro w1 hS1; (try dsimp only at hS1); go_simp; try with_reducible rfl)
          try simp only [List.getElem_toArray, List.getElem_cons_zero, List.getElem_cons_succ, Act.put, List.setIfInBounds_toArray, List.set_cons_zero, List.set_cons_succ]
          refine wpAnyH_take (i := 14) (v := ?_) rfl (by kernel_rfl) (by kernel_rfl) (by kernel_rfl) (fun _ _ _ h => h) (Or.inl ⟨by rfl, ?_⟩) (by assumption) ?_
          case refine_2 => (intro w1 hS1; (try dsimp only at hS1); go_simp; try with_reducible rfl)
          try simp only [List.getElem_toArray, List.getElem_cons_zero, List.getElem_cons_succ, Act.put, List.setIfInBounds_toArray, List.set_cons_zero, List.set_cons_succ]
          refine wpAnyH_done (by kernel_rfl) ?_ _
          go_wp2_with fail
          go_meet
          exact ⟨rfl, Lib.hid (HB5.out.trans (HBN5.out.mono HB5.out.size))⟩
        · have hcv := rb_string (P := Tryz.prog) HVz5.out 25 9 5 Tryz.underlying25 Tryz.underlying5 Tryz.underlying9
          go_simp
          clear hcv
          refine hK.out _ _ (HSK.out _ HBN5.out) (fun hHeld => ?_)
          clear hK K
          try simp only [List.getElem_toArray, List.getElem_cons_zero, List.getElem_cons_succ, Act.put, List.setIfInBounds_toArray, List.set_cons_zero, List.set_cons_succ]
          refine wpAnyH_ready (rs := [1]) (by kernel_rfl) (by simp) ?_
          refine AllReadyH.cons rfl (fun K hK => ?_) AllReadyH.nil
          have hcv := rb_string (P := Tryz.prog) HVy5.out 25 9 5 Tryz.underlying25 Tryz.underlying5 Tryz.underlying9
          go_simp
          clear hcv
          refine hK.out _ _ (HSK.out _ HBN5.out) (fun hHeld => ?_)
          clear hK K
          try simp only [List.getElem_toArray, List.getElem_cons_zero, List.getElem_cons_succ, Act.put, List.setIfInBounds_toArray, List.set_cons_zero, List.set_cons_succ]
          refine wpAnyH_take (i := 5) (v := ?_) rfl (by kernel_rfl) (by kernel_rfl) (by kernel_rfl) (fun _ _ _ h => h) (Or.inl ⟨by rfl, ?_⟩) (by assumption) ?_
          case refine_2 => (intro w1 hS1; (try dsimp only at hS1); go_simp; try with_reducible rfl)
          try simp only [List.getElem_toArray, List.getElem_cons_zero, List.getElem_cons_succ, Act.put, List.setIfInBounds_toArray, List.set_cons_zero, List.set_cons_succ]
          refine wpAnyH_take (i := 6) (v := ?_) rfl (by kernel_rfl) (by kernel_rfl) (by kernel_rfl) (fun _ _ _ h => h) (Or.inl ⟨by rfl, ?_⟩) (by assumption) ?_
          case refine_2 => (intro w1 hS1; (try dsimp only at hS1); go_simp; try with_reducible rfl)
          try simp only [List.getElem_toArray, List.getElem_cons_zero, List.getElem_cons_succ, Act.put, List.setIfInBounds_toArray, List.set_cons_zero, List.set_cons_succ]
          refine wpAnyH_take (i := 7) (v := ?_) rfl (by kernel_rfl) (by kernel_rfl) (by kernel_rfl) (fun _ _ _ h => h) (Or.inl ⟨by rfl, ?_⟩) (by assumption) ?_
          case refine_2 => (intro w1 hS1; (try dsimp only at hS1); go_simp; try with_reducible rfl)
          try simp only [List.getElem_toArray, List.getElem_cons_zero, List.getElem_cons_succ, Act.put, List.setIfInBounds_toArray, List.set_cons_zero, List.set_cons_succ]
          refine wpAnyH_take (i := 8) (v := ?_) rfl (by kernel_rfl) (by kernel_rfl) (by kernel_rfl) (fun _ _ _ h => h) (Or.inl ⟨by rfl, ?_⟩) (by assumption) ?_
          case refine_2 => (intro w1 hS1; (try dsimp only at hS1); go_simp; try with_reducible rfl)
          try simp only [List.getElem_toArray, List.getElem_cons_zero, List.getElem_cons_succ, Act.put, List.setIfInBounds_toArray, List.set_cons_zero, List.set_cons_succ]
          refine wpAnyH_take (i := 9) (v := ?_) rfl (by kernel_rfl) (by kernel_rfl) (by kernel_rfl) (fun _ _ _ h => h) (Or.inl ⟨by rfl, ?_⟩) (by assumption) ?_
          case refine_2 => (intro w1 hS1; (try dsimp only at hS1); go_simp; try with_reducible rfl)
          try simp only [List.getElem_toArray, List.getElem_cons_zero, List.getElem_cons_succ, Act.put, List.setIfInBounds_toArray, List.set_cons_zero, List.set_cons_succ]
          refine wpAnyH_take (i := 10) (v := ?_) rfl (by kernel_rfl) (by kernel_rfl) (by kernel_rfl) (fun _ _ _ h => h) (Or.inl ⟨by rfl, ?_⟩) (by assumption) ?_
          case refine_2 => (intro w1 hS1; (try dsimp only at hS1); go_simp; try with_reducible rfl)
          try simp only [List.getElem_toArray, List.getElem_cons_zero, List.getElem_cons_succ, Act.put, List.setIfInBounds_toArray, List.set_cons_zero, List.set_cons_succ]
          refine wpAnyH_take (i := 11) (v := ?_) rfl (by kernel_rfl) (by kernel_rfl) (by kernel_rfl) (fun _ _ _ h => h) (Or.inl ⟨by rfl, ?_⟩) (by assumption) ?_
          case refine_2 => (intro w1 hS1; (try dsimp only at hS1); go_simp; try with_reducible rfl)
          try simp only [List.getElem_toArray, List.getElem_cons_zero, List.getElem_cons_succ, Act.put, List.setIfInBounds_toArray, List.set_cons_zero, List.set_cons_succ]
          refine wpAnyH_take (i := 12) (v := ?_) rfl (by kernel_rfl) (by kernel_rfl) (by kernel_rfl) (fun _ _ _ h => h) (Or.inl ⟨by rfl, ?_⟩) (by assumption) ?_
          case refine_2 => (intro w1 hS1; (try dsimp only at hS1); go_simp; try with_reducible rfl)
          try simp only [List.getElem_toArray, List.getElem_cons_zero, List.getElem_cons_succ, Act.put, List.setIfInBounds_toArray, List.set_cons_zero, List.set_cons_succ]
          refine wpAnyH_take (i := 13) (v := ?_) rfl (by kernel_rfl) (by kernel_rfl) (by kernel_rfl) (fun _ _ _ h => h) (Or.inl ⟨by rfl, ?_⟩) (by assumption) ?_
          case refine_2 => (intro w1 hS1; (try dsimp only at hS1); go_simp; try with_reducible rfl)
          try simp only [List.getElem_toArray, List.getElem_cons_zero, List.getElem_cons_succ, Act.put, List.setIfInBounds_toArray, List.set_cons_zero, List.set_cons_succ]
          refine wpAnyH_take (i := 14) (v := ?_) rfl (by kernel_rfl) (by kernel_rfl) (by kernel_rfl) (fun _ _ _ h => h) (Or.inl ⟨by rfl, ?_⟩) (by assumption) ?_
          case refine_2 => (intro w1 hS1; (try dsimp only at hS1); go_simp; try with_reducible rfl)
          try simp only [List.getElem_toArray, List.getElem_cons_zero, List.getElem_cons_succ, Act.put, List.setIfInBounds_toArray, List.set_cons_zero, List.set_cons_succ]
          refine wpAnyH_done (by kernel_rfl) ?_ _
          go_wp2_with fail
          go_meet
          exact ⟨rfl, Lib.hid (HB5.out.trans (HBN5.out.mono HB5.out.size))⟩
    case rest =>
      obtain ⟨rfl, HB⟩ := hcut
      clear HY5 HSK HW5 HX5 HT5 HB5
      go_wp2_with fail
      refine (open_any (.slice a n cap) bs _ (HRB0.out _ HB.out) (by have := HLN.out; omega)).mono ?_
      rintro e W1 ⟨rb, rfl, hle, hrr, hb1⟩
      have HB1 := Lib.hid (HB.out.trans (hb1.mono HB.out.size))
      have HRR1 := Lib.hid hrr
      have HRL : Hid (rb < W1.heap.size ∧ w.heap.size ≤ rb) := Lib.hid ⟨hrr.lt, Nat.le_trans HB.out.size hle⟩
      clear hle hrr hb1
      go_wp2_with fail
      obtain ⟨bx, bn, bz⟩ := box1 W1 #[.slice a n cap, .bool false] 42
      have HB2 := Lib.hid (HB1.out.trans (bx.mono HB1.out.size))
      have HRR2 := Lib.hid (HRR1.out.kept bx)
      obtain ⟨c, hce⟩ : ∃ c, W1.heap.size = c := ⟨_, rfl⟩
      have HNE : Hid (rb ≠ c ∧ c < (W1.alloc (.cells #[.slice a n cap, .bool false] 42)).heap.size ∧ w.heap.size ≤ c ∧ w.heap.size ≤ rb) := Lib.hid ⟨by have := HRL.out.1; omega, by rw [bz]; omega, by rw [← hce]; exact HB1.out.size, HRL.out.2⟩
      have HRF2 : Hid (RF (W1.alloc (.cells #[.slice a n cap, .bool false] 42)) c bs false) := Lib.hid ⟨.slice a n cap, by rw [← hce]; exact bn, HRB0.out _ HB2.out, HOWN.out c HNE.out.2.2.1, fun h => by cases h⟩
      clear bx bn bz HRR1 HB1 HRL
      try rw [hce]
      generalize W1.alloc (.cells #[.slice a n cap, .bool false] 42) = V1 at HB2 HRR2 HRF2 HNE ⊢
      clear hce
      refine (HRD1.out rb V1 HRR2.out).mono ?_
      rintro e W2 ⟨rfl, hr2, ht2⟩
      have HB3 := Lib.hid (ht2.outside HB2.out HB2.out.size HNE.out.2.2.2)
      have HRR3 := Lib.hid hr2
      have HRF3 := Lib.hid (HRF2.out.besides HRR2.out ht2 (fun h => HNE.out.1 h.symm))
      have HCL : Hid (c < W2.heap.size) := Lib.hid (Nat.lt_of_lt_of_le HNE.out.2.1 ht2.size)
      clear hr2 ht2 HRR2 HRF2 HB2
      go_wp2_with fail
      obtain ⟨bx, bn, bz⟩ := box1 W2 #[.int .u64 y1, .int .i64 y2, .int .i64 y3, .int .i64 y4, .int .u64 y5, .int .i64 y6, .int .i64 y7, .int .i64 y8, .int .i64 y9] 48
      have HB4 := Lib.hid (HB3.out.trans (bx.mono HB3.out.size))
      have HRR4 := Lib.hid (HRR3.out.kept bx)
      have HRF4 := Lib.hid (HRF3.out.kept bx)
      obtain ⟨T10, hTe⟩ : ∃ c, W2.heap.size = c := ⟨_, rfl⟩
      rw [hTe] at bn
      have HT10 := Lib.hid bn
      have HTC : Hid (T10 ≠ c) := Lib.hid (by have := HCL.out; omega)
      clear bx bn bz HRR3 HRF3 HB3
      try rw [hTe]
      generalize W2.alloc (.cells #[.int .u64 y1, .int .i64 y2, .int .i64 y3, .int .i64 y4, .int .u64 y5, .int .i64 y6, .int .i64 y7, .int .i64 y8, .int .i64 y9] 48) = V2 at HB4 HRR4 HRF4 HT10 ⊢
      clear hTe HCL
      refine (HRD2.out c V2 HRF4.out).mono ?_
      rintro e W3 ⟨rfl, hr3, ht3⟩
      have HB5 := Lib.hid (ht3.outside HB4.out HB4.out.size HNE.out.2.2.1)
      have HRF5 := Lib.hid hr3
      have HRR5 := Lib.hid (HRR4.out.besides HRF4.out ht3 HNE.out.1)
      have HT11 := Lib.hid (ht3.keep HT10.out HTC.out)
      clear hr3 ht3 HRR4 HRF4 HB4 HT10
      go_wp2_with fail
      obtain ⟨bx, bn, bz⟩ := box1 W3 #[.int .u64 y1, .int .i64 y2, .int .i64 y3, .int .i64 y4, .int .u64 y5, .int .i64 y6, .int .i64 y7, .int .i64 y8, .int .i64 y9] 48
      have HB6 := Lib.hid (HB5.out.trans (bx.mono HB5.out.size))
      obtain ⟨T12, hTe⟩ : ∃ c, W3.heap.size = c := ⟨_, rfl⟩
      rw [hTe] at bn
      obtain ⟨v, h1, h2, -, -⟩ := HRF5.out.kept bx
      obtain ⟨va, vc, rfl⟩ := h2.shapeN' (rfl : R.length = R.length)
      obtain ⟨a0, a1, a2, a3, a4, a5, a6, a7, a8⟩ := nine_at (ex_below HT11.out bx)
      obtain ⟨b0, b1, b2, b3, b4, b5, b6, b7, b8⟩ := nine_at bn
      have hrr := HRR5.out.kept bx
      have c0 : (W3.alloc (.cells #[.int .u64 y1, .int .i64 y2, .int .i64 y3, .int .i64 y4, .int .u64 y5, .int .i64 y6, .int .i64 y7, .int .i64 y8, .int .i64 y9] 48)).cell? ⟨c, 0, none⟩ = some (.slice va R.length vc) := by simp [World.cell?, h1]
      have c1 : (W3.alloc (.cells #[.int .u64 y1, .int .i64 y2, .int .i64 y3, .int .i64 y4, .int .u64 y5, .int .i64 y6, .int .i64 y7, .int .i64 y8, .int .i64 y9] 48)).cell? ⟨c, 1, none⟩ = some (.bool (!ok)) := by simp [World.cell?, h1]
      try rw [hTe]
      clear h1 h2 bx bn bz HRR5 HRF5 HB5 HT11
      generalize W3.alloc (.cells #[.int .u64 y1, .int .i64 y2, .int .i64 y3, .int .i64 y4, .int .u64 y5, .int .i64 y6, .int .i64 y7, .int .i64 y8, .int .i64 y9] 48) = V3 at HB6 hrr c0 c1 a0 b0 a1 b1 a2 b2 a3 b3 a4 b4 a5 b5 a6 b6 a7 b7 a8 b8 ⊢
      have h0 : V3.drew.cell? ⟨T10, 0, none⟩ = some (.int .u64 y1) ∧ V3.drew.cell? ⟨T10, 1, none⟩ = some (.int .i64 y2) ∧ V3.drew.cell? ⟨T10, 2, none⟩ = some (.int .i64 y3) ∧ V3.drew.cell? ⟨T10, 3, none⟩ = some (.int .i64 y4) ∧ V3.drew.cell? ⟨T10, 4, none⟩ = some (.int .u64 y5) ∧ V3.drew.cell? ⟨T10, 5, none⟩ = some (.int .i64 y6) ∧ V3.drew.cell? ⟨T10, 6, none⟩ = some (.int .i64 y7) ∧ V3.drew.cell? ⟨T10, 7, none⟩ = some (.int .i64 y8) ∧ V3.drew.cell? ⟨T10, 8, none⟩ = some (.int .i64 y9) ∧ V3.drew.cell? ⟨T12, 0, none⟩ = some (.int .u64 y1) ∧ V3.drew.cell? ⟨T12, 1, none⟩ = some (.int .i64 y2) ∧ V3.drew.cell? ⟨T12, 2, none⟩ = some (.int .i64 y3) ∧ V3.drew.cell? ⟨T12, 3, none⟩ = some (.int .i64 y4) ∧ V3.drew.cell? ⟨T12, 4, none⟩ = some (.int .u64 y5) ∧ V3.drew.cell? ⟨T12, 5, none⟩ = some (.int .i64 y6) ∧ V3.drew.cell? ⟨T12, 6, none⟩ = some (.int .i64 y7) ∧ V3.drew.cell? ⟨T12, 7, none⟩ = some (.int .i64 y8) ∧ V3.drew.cell? ⟨T12, 8, none⟩ = some (.int .i64 y9) ∧ V3.drew.cell? ⟨c, 0, none⟩ = some (.slice va R.length vc) ∧ V3.drew.cell? ⟨c, 1, none⟩ = some (.bool (!ok)) ∧ RR V3.drew rb R (!ok) ∧ Below w.heap.size w V3.drew := ⟨a0, a1, a2, a3, a4, a5, a6, a7, a8, b0, b1, b2, b3, b4, b5, b6, b7, b8, c0, c1, hrr.kept (Below.refl _ _).drew, HB6.out.drew⟩
      have HS0 := Lib.hid h0
      clear hTe hrr c0 c1 a0 b0 a1 b1 a2 b2 a3 b3 a4 b4 a5 b5 a6 b6 a7 b7 a8 b8
      have HL : Hid (∀ w', (w'.cell? ⟨T10, 0, none⟩ = some (.int .u64 y1) ∧ w'.cell? ⟨T10, 1, none⟩ = some (.int .i64 y2) ∧ w'.cell? ⟨T10, 2, none⟩ = some (.int .i64 y3) ∧ w'.cell? ⟨T10, 3, none⟩ = some (.int .i64 y4) ∧ w'.cell? ⟨T10, 4, none⟩ = some (.int .u64 y5) ∧ w'.cell? ⟨T10, 5, none⟩ = some (.int .i64 y6) ∧ w'.cell? ⟨T10, 6, none⟩ = some (.int .i64 y7) ∧ w'.cell? ⟨T10, 7, none⟩ = some (.int .i64 y8) ∧ w'.cell? ⟨T10, 8, none⟩ = some (.int .i64 y9) ∧ w'.cell? ⟨T12, 0, none⟩ = some (.int .u64 y1) ∧ w'.cell? ⟨T12, 1, none⟩ = some (.int .i64 y2) ∧ w'.cell? ⟨T12, 2, none⟩ = some (.int .i64 y3) ∧ w'.cell? ⟨T12, 3, none⟩ = some (.int .i64 y4) ∧ w'.cell? ⟨T12, 4, none⟩ = some (.int .u64 y5) ∧ w'.cell? ⟨T12, 5, none⟩ = some (.int .i64 y6) ∧ w'.cell? ⟨T12, 6, none⟩ = some (.int .i64 y7) ∧ w'.cell? ⟨T12, 7, none⟩ = some (.int .i64 y8) ∧ w'.cell? ⟨T12, 8, none⟩ = some (.int .i64 y9) ∧ w'.cell? ⟨c, 0, none⟩ = some (.slice va R.length vc) ∧ w'.cell? ⟨c, 1, none⟩ = some (.bool (!ok)) ∧ RR w' rb R (!ok) ∧ Below w.heap.size w w') → Calls Tryz.prog 16 #[.pointer (some ⟨rb, 0, none⟩)] w' fun e w'' => e = .returned (.int .i64 (R.length : Int)) ∧ w' = w'') := Lib.hid (fun w' h => left_rd rb R (!ok) w' (by obtain ⟨_, _, _, _, _, _, _, _, _, _, _, _, _, _, _, _, _, _, _, _, hr, _⟩ := h; exact hr))
      have HBD : Hid (∀ w', (w'.cell? ⟨T10, 0, none⟩ = some (.int .u64 y1) ∧ w'.cell? ⟨T10, 1, none⟩ = some (.int .i64 y2) ∧ w'.cell? ⟨T10, 2, none⟩ = some (.int .i64 y3) ∧ w'.cell? ⟨T10, 3, none⟩ = some (.int .i64 y4) ∧ w'.cell? ⟨T10, 4, none⟩ = some (.int .u64 y5) ∧ w'.cell? ⟨T10, 5, none⟩ = some (.int .i64 y6) ∧ w'.cell? ⟨T10, 6, none⟩ = some (.int .i64 y7) ∧ w'.cell? ⟨T10, 7, none⟩ = some (.int .i64 y8) ∧ w'.cell? ⟨T10, 8, none⟩ = some (.int .i64 y9) ∧ w'.cell? ⟨T12, 0, none⟩ = some (.int .u64 y1) ∧ w'.cell? ⟨T12, 1, none⟩ = some (.int .i64 y2) ∧ w'.cell? ⟨T12, 2, none⟩ = some (.int .i64 y3) ∧ w'.cell? ⟨T12, 3, none⟩ = some (.int .i64 y4) ∧ w'.cell? ⟨T12, 4, none⟩ = some (.int .u64 y5) ∧ w'.cell? ⟨T12, 5, none⟩ = some (.int .i64 y6) ∧ w'.cell? ⟨T12, 6, none⟩ = some (.int .i64 y7) ∧ w'.cell? ⟨T12, 7, none⟩ = some (.int .i64 y8) ∧ w'.cell? ⟨T12, 8, none⟩ = some (.int .i64 y9) ∧ w'.cell? ⟨c, 0, none⟩ = some (.slice va R.length vc) ∧ w'.cell? ⟨c, 1, none⟩ = some (.bool (!ok)) ∧ RR w' rb R (!ok) ∧ Below w.heap.size w w') → Calls Tryz.prog 17 #[.pointer (some ⟨rb, 0, none⟩)] w' fun e w'' => e = .returned (.bool (!ok)) ∧ w' = w'') := Lib.hid (fun w' h => bad_rd rb R (!ok) w' (by obtain ⟨_, _, _, _, _, _, _, _, _, _, _, _, _, _, _, _, _, _, _, _, hr, _⟩ := h; exact hr))
      have HLV : Hid (∀ w', (w'.cell? ⟨T10, 0, none⟩ = some (.int .u64 y1) ∧ w'.cell? ⟨T10, 1, none⟩ = some (.int .i64 y2) ∧ w'.cell? ⟨T10, 2, none⟩ = some (.int .i64 y3) ∧ w'.cell? ⟨T10, 3, none⟩ = some (.int .i64 y4) ∧ w'.cell? ⟨T10, 4, none⟩ = some (.int .u64 y5) ∧ w'.cell? ⟨T10, 5, none⟩ = some (.int .i64 y6) ∧ w'.cell? ⟨T10, 6, none⟩ = some (.int .i64 y7) ∧ w'.cell? ⟨T10, 7, none⟩ = some (.int .i64 y8) ∧ w'.cell? ⟨T10, 8, none⟩ = some (.int .i64 y9) ∧ w'.cell? ⟨T12, 0, none⟩ = some (.int .u64 y1) ∧ w'.cell? ⟨T12, 1, none⟩ = some (.int .i64 y2) ∧ w'.cell? ⟨T12, 2, none⟩ = some (.int .i64 y3) ∧ w'.cell? ⟨T12, 3, none⟩ = some (.int .i64 y4) ∧ w'.cell? ⟨T12, 4, none⟩ = some (.int .u64 y5) ∧ w'.cell? ⟨T12, 5, none⟩ = some (.int .i64 y6) ∧ w'.cell? ⟨T12, 6, none⟩ = some (.int .i64 y7) ∧ w'.cell? ⟨T12, 7, none⟩ = some (.int .i64 y8) ∧ w'.cell? ⟨T12, 8, none⟩ = some (.int .i64 y9) ∧ w'.cell? ⟨c, 0, none⟩ = some (.slice va R.length vc) ∧ w'.cell? ⟨c, 1, none⟩ = some (.bool (!ok)) ∧ RR w' rb R (!ok) ∧ Below w.heap.size w w') → Calls Tryz.prog 18 #[] w' fun e w'' => e = .returned (.bool true) ∧ (w''.cell? ⟨T10, 0, none⟩ = some (.int .u64 y1) ∧ w''.cell? ⟨T10, 1, none⟩ = some (.int .i64 y2) ∧ w''.cell? ⟨T10, 2, none⟩ = some (.int .i64 y3) ∧ w''.cell? ⟨T10, 3, none⟩ = some (.int .i64 y4) ∧ w''.cell? ⟨T10, 4, none⟩ = some (.int .u64 y5) ∧ w''.cell? ⟨T10, 5, none⟩ = some (.int .i64 y6) ∧ w''.cell? ⟨T10, 6, none⟩ = some (.int .i64 y7) ∧ w''.cell? ⟨T10, 7, none⟩ = some (.int .i64 y8) ∧ w''.cell? ⟨T10, 8, none⟩ = some (.int .i64 y9) ∧ w''.cell? ⟨T12, 0, none⟩ = some (.int .u64 y1) ∧ w''.cell? ⟨T12, 1, none⟩ = some (.int .i64 y2) ∧ w''.cell? ⟨T12, 2, none⟩ = some (.int .i64 y3) ∧ w''.cell? ⟨T12, 3, none⟩ = some (.int .i64 y4) ∧ w''.cell? ⟨T12, 4, none⟩ = some (.int .u64 y5) ∧ w''.cell? ⟨T12, 5, none⟩ = some (.int .i64 y6) ∧ w''.cell? ⟨T12, 6, none⟩ = some (.int .i64 y7) ∧ w''.cell? ⟨T12, 7, none⟩ = some (.int .i64 y8) ∧ w''.cell? ⟨T12, 8, none⟩ = some (.int .i64 y9) ∧ w''.cell? ⟨c, 0, none⟩ = some (.slice va R.length vc) ∧ w''.cell? ⟨c, 1, none⟩ = some (.bool (!ok)) ∧ RR w'' rb R (!ok) ∧ Below w.heap.size w w'')) := Lib.hid (fun w' h => (lives16 w').mono (by rintro e w'' ⟨rfl, hb⟩; exact ⟨rfl, send_below h hb⟩))
      have hgd := fun (op : BinOp) (x y : Operand) (xs ys : Array Value) (w : World) => guard_tbt op x y xs ys w
      have heq := fun (w : World) => eql_tbt y1 y2 y3 y4 y5 y6 y7 y8 y9 w
      go_region_held3 (fun w' => w'.cell? ⟨T10, 0, none⟩ = some (.int .u64 y1) ∧ w'.cell? ⟨T10, 1, none⟩ = some (.int .i64 y2) ∧ w'.cell? ⟨T10, 2, none⟩ = some (.int .i64 y3) ∧ w'.cell? ⟨T10, 3, none⟩ = some (.int .i64 y4) ∧ w'.cell? ⟨T10, 4, none⟩ = some (.int .u64 y5) ∧ w'.cell? ⟨T10, 5, none⟩ = some (.int .i64 y6) ∧ w'.cell? ⟨T10, 6, none⟩ = some (.int .i64 y7) ∧ w'.cell? ⟨T10, 7, none⟩ = some (.int .i64 y8) ∧ w'.cell? ⟨T10, 8, none⟩ = some (.int .i64 y9) ∧ w'.cell? ⟨T12, 0, none⟩ = some (.int .u64 y1) ∧ w'.cell? ⟨T12, 1, none⟩ = some (.int .i64 y2) ∧ w'.cell? ⟨T12, 2, none⟩ = some (.int .i64 y3) ∧ w'.cell? ⟨T12, 3, none⟩ = some (.int .i64 y4) ∧ w'.cell? ⟨T12, 4, none⟩ = some (.int .u64 y5) ∧ w'.cell? ⟨T12, 5, none⟩ = some (.int .i64 y6) ∧ w'.cell? ⟨T12, 6, none⟩ = some (.int .i64 y7) ∧ w'.cell? ⟨T12, 7, none⟩ = some (.int .i64 y8) ∧ w'.cell? ⟨T12, 8, none⟩ = some (.int .i64 y9) ∧ w'.cell? ⟨c, 0, none⟩ = some (.slice va R.length vc) ∧ w'.cell? ⟨c, 1, none⟩ = some (.bool (!ok)) ∧ RR w' rb R (!ok) ∧ Below w.heap.size w w')
        (first | exact HS0.out | assumption)
        (first
          | (go_at_call 16; refine (HL.out _ (by assumption)).mono ?_; rintro e w8 ⟨rfl, rfl⟩)
          | (go_at_call 17; refine (HBD.out _ (by assumption)).mono ?_; rintro e w8 ⟨rfl, rfl⟩)
          | (go_at_call 18; refine (HLV.out _ (by assumption)).mono ?_; rintro e w8 ⟨rfl, hS8⟩))
      all_goals
        obtain ⟨-, -, -, -, -, -, -, -, -, -, -, -, -, -, -, -, -, -, -, -, -, hbe⟩ := hS8
        have HBE := Lib.hid hbe
        clear hbe h0
        go_wp2_with fail
        go_ret
        exact ⟨rfl, HBE.out⟩
end Go.Proofs.YthnnbmofpmedhaaGreat
