/- VowNobody. -/
import Derived.Test.YthefnakbpalecaaVyH
import Derived.Test.YthefnakbpalecaaDnA
import Derived.Deep.DeepCutAuto
namespace Go.Proofs.Ythefnakbpalecaa
open Go.RowKit Go.Maps
theorem nod_nil' (w : World) : NoD w (.pointer none) := .inl rfl
theorem nod_plain' {w : World} {T : Nat} {t : TypeId} {x0 x2 x3 x4 x5 : Value} (h : w.heap[T]? = some (.cells #[x0, .map none, x2, x3, x4, x5] t (0, 0))) : NoD w (.pointer (some ⟨T, 0, none⟩)) := .inr ⟨T, rfl, by simp [World.cell?, h]⟩
theorem discard_nod (x : Value) (w : World) (h : NoD w x) : Calls Try.prog 78 #[x] w fun e w' => e = .returned (.int .i64 1) ∧ Below w.heap.size w w' := by
  have HC := Lib.hid (dremove_no x nNew w h)
  have hx : ∃ a, x = .pointer a := by rcases h with rfl | ⟨b, rfl, -⟩ <;> exact ⟨_, rfl⟩
  obtain ⟨a, rfl⟩ := hx
  clear h
  go_enter Try.func78, Try.ntmps78
  go_wp2_with fail
  refine HC.out.mono ?_
  rintro e w1 ⟨rfl, hb⟩
  go_wp2_with fail
  go_ret
  exact ⟨rfl, hb⟩
theorem vopen_nod (x : Value) (w : World) (h : NoD w x) : Calls Try.prog 33 #[x] w fun e w' => e = .returned (.tuple #[.pointer none, .int .i64 1]) ∧ Below w.heap.size w w' := by
  have HC := Lib.hid (discard_nod x w h)
  have hx : ∃ a, x = .pointer a := by rcases h with rfl | ⟨b, rfl, -⟩ <;> exact ⟨_, rfl⟩
  obtain ⟨a, rfl⟩ := hx
  clear h
  go_enter Try.func33, Try.ntmps33
  go_wp2_with fail
  refine HC.out.mono ?_
  rintro e w1 ⟨rfl, hb⟩
  go_wp2_with fail
  go_ret2
  exact ⟨rfl, hb⟩
theorem vkeep_nob (x : Value) (t1 v1 : Int) (w : World) (h : NoB w x) : Calls Try.prog 36 #[x, .agg #[.int .u64 t1, .int .i64 v1]] w fun e w' => e = .returned (.int .i64 1) ∧ Below w.heap.size w w' := by
  obtain ⟨B1, -, -⟩ := box1 w #[.int .u64 t1, .int .i64 v1] 48
  have HB := Lib.hid B1
  have HN := Lib.hid (h.below B1)
  have hx : ∃ a, x = .pointer a := by rcases h with rfl | ⟨b, rfl, -⟩ <;> exact ⟨_, rfl⟩
  obtain ⟨a, rfl⟩ := hx
  clear B1 h
  go_enter Try.func36, Try.ntmps36
  go_wp2_with fail
  refine (vopened_no _ _ HN.out).mono ?_
  rintro e w1 ⟨rfl, rfl⟩
  go_wp2_with fail
  go_ret
  exact ⟨rfl, HB.out⟩
def e9 : Dd := ⟨100, [], 0, false, false, 0⟩
theorem ex_open9 : openV (crashD e9 []) = (crashD e9 [], 50, 0, 0) := rfl
set_option maxRecDepth 100000 in
set_option maxHeartbeats 8000000 in
theorem vnobody_law (t0 v0 : Int) (w : World) (_h0 : (0 ≤ t0 ∧ t0 < 18446744073709551616) ∧ -9223372036854775808 ≤ v0 ∧ v0 ≤ 9223372036854775807) :
    Calls Try.prog 9 #[.agg #[.int .u64 t0, .int .i64 v0]] w fun e w' => e = .returned (.bool true) ∧ Below w.heap.size w w' := by
  obtain ⟨B1, s0, -⟩ := box1 w #[.int .u64 t0, .int .i64 v0] 48
  have HB := Lib.hid B1
  have HS0 := Lib.hid s0
  clear B1 s0 _h0
  go_enter Try.func9, Try.ntmps9
  go_upto_region 2 with fail
  obtain ⟨N, hN⟩ : ∃ N, w.heap.size = N := ⟨_, rfl⟩
  rw [hN] at HS0
  try rw [hN]
  generalize w.alloc (.cells #[.int .u64 t0, .int .i64 v0] 48) = w1 at HB HS0 ⊢
  try rw [hN]
  clear hN
  obtain ⟨hb2, ha2, hs2, hz2⟩ := box2 w1 #[.pointer none, .int .u64 0, .int .i64 0] #[.pointer none, .pointer (some ⟨w1.heap.size, 0, none⟩)] 73 58
  go_upto_region 3 with fail
  generalize hW : ((w1.alloc (.cells #[.pointer none, .int .u64 0, .int .i64 0] 73)).alloc (.cells #[.pointer none, .pointer (some ⟨w1.heap.size, 0, none⟩)] 58)) = W0 at hb2 ha2 hs2 hz2 ⊢
  have HB0 := Lib.hid (HB.out.trans (hb2.mono HB.out.size))
  have HS1 := Lib.hid (ex_below HS0.out hb2)
  obtain ⟨T, hT⟩ : ∃ T, w1.heap.size = T := ⟨_, rfl⟩
  have HV : Hid (∀ k : Nat, k < 2 → ∃ v : Option Addr, W0.cell? ⟨T + 1, k, none⟩ = some (.pointer v) ∧ NoB W0 (.pointer v)) := Lib.hid (fun k hk => by
    rw [← hT]
    match k, hk with
    | 0, _ => exact ⟨none, (two_at hs2).1, .inl rfl⟩
    | 1, _ => exact ⟨some ⟨w1.heap.size, 0, none⟩, (two_at hs2).2.1, .inr ⟨_, rfl, (three_rd ha2).1⟩⟩)
  rw [hT]
  clear hb2 ha2 hs2 hz2 hW HB HS0 hT
  go_loopg [18] 2 (fun kx s18 wr => ∃ k : Nat, s18 = .int .i64 k ∧ k ≤ 2 ∧ 2 - k ≤ kx ∧ Hid (Below W0.heap.size W0 wr))
  case atStart => exact ⟨0, rfl, by omega, by omega, Below.refl _ _⟩
  case round =>
    obtain ⟨k, rfl, hk, hkx, H0⟩ := hrel
    by_cases hk2 : k < 2
    · have hk2z : (k : Int) < 2 := by omega
      have hk0 : (0 : Int) ≤ (k : Int) := by omega
      obtain ⟨v, hv, hno⟩ := HV.out k hk2
      have cv := (H0.out.cell (p := ⟨T + 1, k, none⟩) (cell_spot hv).2).trans hv
      have HNO := Lib.hid (hno.below H0.out)
      obtain ⟨c0, c1⟩ := two_rd (ex_below HS1.out H0.out)
      clear hv hno
      go_wp2_with fail
      refine (vkeep_nob (.pointer v) t0 v0 wr HNO.out).mono ?_
      rintro e w10 ⟨rfl, hb⟩
      have H1 := Lib.hid (H0.out.trans (hb.mono H0.out.size))
      have HN1 := Lib.hid (HNO.out.below hb)
      clear hb c0 c1 cv
      go_wp2_with fail
      refine (vstate_no (.pointer v) w10 HN1.out).mono ?_
      rintro e w11 ⟨rfl, hb⟩
      have H2 := Lib.hid (H1.out.trans (hb.mono H1.out.size))
      clear hb
      go_wp2_with fail
      go_roundg (2 - (k + 1))
      case measure => omega
      case rel => exact ⟨k + 1, by go_num, by omega, by omega, H2⟩
    · have hk2z : ¬ (k : Int) < 2 := by omega
      obtain rfl : k = 2 := by omega
      have HW := Lib.hid (HB0.out.trans (H0.out.mono HB0.out.size))
      clear H0
      go_wp2_with fail
      refine (vopen_nod (.pointer none) wr (nod_nil' wr)).mono ?_
      rintro e w2 ⟨rfl, hb⟩
      have HW2 := Lib.hid (HW.out.trans (hb.mono HW.out.size))
      clear hb HW
      obtain ⟨bd, sd, -⟩ := box1 w2 #[.int .i64 0, .map none, .pointer none, .bool false, .bool false, .int .u64 0] 78
      have HND := Lib.hid (nod_plain' sd)
      have HW3 := Lib.hid (HW2.out.trans (bd.mono HW2.out.size))
      clear bd sd
      go_wp2_with fail
      refine (vopen_nod _ _ HND.out).mono ?_
      rintro e w4 ⟨rfl, hb⟩
      have HW4 := Lib.hid (HW3.out.trans (hb.mono HW3.out.size))
      clear hb HW3 HND
      go_wp2_with fail
      refine (new_dk 100 w4 (by decide)).mono ?_
      rintro e w5 ⟨B, rfl, hB, ⟨m, mt, M, V, h⟩, hb⟩
      have HC := Lib.hid (dcrash_did (D := e9) h none 0 [] (fun i hi => by cases hi) (Nat.le_refl _) (fun t ht => by cases ht))
      have HS : Hid (∀ k, (fun k => w4.heap.size ≤ k ∧ k < w5.heap.size) k → w.heap.size ≤ k) := Lib.hid (fun k hk => Nat.le_trans HW4.out.size hk.1)
      obtain ⟨S, hS⟩ : ∃ S : Nat → Prop, (fun k => w4.heap.size ≤ k ∧ k < w5.heap.size) = S := ⟨_, rfl⟩
      rw [hS] at HC HS
      have HW5 := Lib.hid (HW4.out.trans (hb.mono HW4.out.size))
      clear h hb hB hS
      go_wp2_with fail
      refine HC.out.mono ?_
      rintro e w6 ⟨S6, rfl, ⟨m6, mt6, M6, V6, hd6⟩, hf6⟩
      obtain ⟨hb6, hs6⟩ := fr_below HW5.out HW5.out.size HS.out hf6
      have HW6 := Lib.hid hb6
      have HS6 := Lib.hid hs6
      have HO := Lib.hid (vopen_any hd6 (show (0 : Nat) < 900000000 by omega))
      dsimp only at HO
      rw [ex_open9] at HO
      clear hd6 hf6 hb6 hs6 HW5 HS HC
      go_wp2_with fail
      refine HO.out.mono ?_
      rintro e w7 ⟨S7, -, hf7, ⟨-, rfl⟩ | ⟨he, -⟩⟩
      case inr => cases he
      obtain ⟨hb7, -⟩ := fr_below HW6.out HW6.out.size HS6.out hf7
      have HW7 := Lib.hid hb7
      clear hf7 hb7 HW6 HS6 HO
      go_wp2_with fail
      refine (lives26 w7).mono ?_
      rintro e w8 ⟨rfl, hb⟩
      have HW8 := Lib.hid (HW7.out.trans (hb.mono HW7.out.size))
      clear hb
      go_wp2_with fail
      go_ret
      exact ⟨rfl, HW8.out⟩
end Go.Proofs.Ythefnakbpalecaa
