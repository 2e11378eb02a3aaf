/- The walk of CrcSeals: where nothing is opened. -/
import Derived.Test.YtkeloeppploiaaaCrcL
namespace Go.Proofs.Ytkeloeppploiaaa
open Go.RowKit
set_option maxHeartbeats 4000000 in
theorem seals_no (va vb : Value) (ba bb l : List Nat) (w : World) (hA : RB w va ba) (hB : RB w vb bb) (h1 : ba.length ≤ 3000) (h2 : bb.length ≤ 3000)
    (hO : ∀ W, RB W vb bb → Calls Try.prog 39 #[vb] W fun e w' => e = .returned (.tuple #[.slice none 0 0, .bool false]) ∧ Below W.heap.size W w')
    (hR : ∀ W, RB W vb bb → Calls Try.prog 40 #[vb] W (RefOpened W l false)) :
    Calls Try.prog 9 #[va, vb] w fun e w' => e = .returned (.bool true) ∧ Below w.heap.size w w' := by
  have HA := Lib.hid hA
  have HB := Lib.hid hB
  have HO := Lib.hid hO
  have HR := Lib.hid hR
  obtain ⟨n1, hn1⟩ : ∃ n, ba.length = n := ⟨_, rfl⟩
  obtain ⟨n2, hn2⟩ : ∃ n, bb.length = n := ⟨_, rfl⟩
  obtain ⟨a1, c1, rfl⟩ := hA.shapeN hn1
  obtain ⟨a2, c2, rfl⟩ := hB.shapeN hn2
  rw [hn1] at h1
  rw [hn2] at h2
  have HN1 := Lib.hid hn1
  clear hA hB hO hR hn1 hn2
  have hd : decide (3000 < (n1 : Int)) = false := by simp; omega
  have hd2 : decide (3000 < (n2 : Int)) = false := by simp; omega
  go_enter Try.func9, Try.ntmps9
  go_wp2_with fail
  refine (seal_any _ _ _ HA.out (by have := HN1.out; omega)).mono ?_
  rintro e w1 ⟨s, rfl, hs1, hb1⟩
  have hrs1 := hs1.rb (top_lt HA.out.1) (by have := HN1.out; rw [top_len]; omega)
  have hrb1 := HB.out.kept hb1
  have hra1 := HA.out.kept hb1
  go_wp2_with fail
  refine (HO.out _ hrb1).mono ?_
  rintro e w2 ⟨rfl, hb2⟩
  go_wp2_with fail
  refine (HR.out _ (hrb1.kept hb2)).mono ?_
  rintro e w3 ⟨y, rfl, hy3, hb3⟩
  go_wp2_with fail
  refine (open_sealed _ _ _ ((hrs1.kept hb2).kept hb3) (by have := HN1.out; omega)).mono ?_
  rintro e w4 ⟨z, rfl, hz4, hb4⟩
  have hs4 := ((hrs1.kept hb2).kept hb3).kept hb4
  have hz4' := hz4.rb HA.out.1 (by have := HN1.out; omega)
  have ha4 := ((hra1.kept hb2).kept hb3).kept hb4
  have hW := (hb1.trans (hb2.mono hb1.size)).trans (hb3.mono (Nat.le_trans hb1.size hb2.size))
  have hW4 : Below w.heap.size w w4.drew := (hW.trans (hb4.mono hW.size)).drew
  clear hrs1 hrb1 hra1 hs1 hb1 hb2 hb3 hb4 hy3 hz4 hW
  have H41 := Lib.hid (refseal_any _ _ w4.drew ha4.drew (by have := HN1.out; omega))
  have es := rb_string (P := Try.prog) hs4.drew 27 9 5 Try.underlying27 Try.underlying5 Try.underlying9
  have HS4 := Lib.hid hs4.drew
  have HZ4 := Lib.hid hz4'.drew
  have HA4 := Lib.hid ha4.drew
  clear hs4 hz4' ha4
  go_wp2_with fail
  go_region_with (first
    | (go_at_call 41; refine (H41.out).mono ?_; rintro e w5 ⟨q, rfl, hq5, hb5⟩; have eq5 := rb_string (P := Try.prog) (hq5.rb (top_lt HA.out.1) (by have := HN1.out; rw [top_len]; omega)) 27 9 5 Try.underlying27 Try.underlying5 Try.underlying9; have es5 := rb_string (P := Try.prog) (HS4.out.kept hb5) 27 9 5 Try.underlying27 Try.underlying5 Try.underlying9; have ez5 := rb_string (P := Try.prog) (HZ4.out.kept hb5) 27 9 5 Try.underlying27 Try.underlying5 Try.underlying9; have ea5 := rb_string (P := Try.prog) (HA4.out.kept hb5) 27 9 5 Try.underlying27 Try.underlying5 Try.underlying9; have hW5 := Lib.hid (hW4.trans (hb5.mono hW4.size)))
    | (go_at_call 32; refine (lives2 _).mono ?_; rintro e w6 ⟨rfl, hb6⟩))
  all_goals go_wp2
  all_goals go_ret
  all_goals exact ⟨rfl, hW5.out.trans (hb6.mono hW5.out.size)⟩
end Go.Proofs.Ytkeloeppploiaaa
