/- The outbox: what may be put; where a notice lies. -/
import Derived.Test.YtnfpheccmjdpoaaObC
namespace Go.Proofs.Ytnfpheccmjdpoaa
open Go.RowKit
def rg (n a b : Int) : Bool := decide (a ≤ n) && decide (n ≤ b)
set_option maxRecDepth 100000 in
set_option maxHeartbeats 8000000 in
theorem within_64 (n a b : Int) (w : World) : Calls Try.prog 70 #[.int .i64 n, .int .i64 a, .int .i64 b] w fun e w' => e = .returned (.bool (rg n a b)) ∧ w = w' := by
  have HX : Hid (rg n a b = (decide (a ≤ n) && decide (n ≤ b))) := Lib.hid rfl
  obtain ⟨z, hz⟩ : ∃ z, decide (a ≤ n) = z := ⟨_, rfl⟩
  rw [hz] at HX
  go_enter Try.func70, Try.ntmps70
  cases z
  · go_wp2
    go_ret
    exact ⟨by rw [HX.out]; rfl, rfl⟩
  · go_wp2
    go_ret
    exact ⟨by rw [HX.out]; rfl, rfl⟩
set_option maxRecDepth 100000 in
set_option maxHeartbeats 8000000 in
theorem within_i (n a b : Int) (w : World) : Calls Try.prog 71 #[.int .i64 n, .int .i64 a, .int .i64 b] w fun e w' => e = .returned (.bool (rg n a b)) ∧ w = w' := by
  have HX : Hid (rg n a b = (decide (a ≤ n) && decide (n ≤ b))) := Lib.hid rfl
  obtain ⟨z, hz⟩ : ∃ z, decide (a ≤ n) = z := ⟨_, rfl⟩
  rw [hz] at HX
  go_enter Try.func71, Try.ntmps71
  cases z
  · go_wp2
    go_ret
    exact ⟨by rw [HX.out]; rfl, rfl⟩
  · go_wp2
    go_ret
    exact ⟨by rw [HX.out]; rfl, rfl⟩
def insN (t : Int) : Bool := rg t 0 1125899906842624
set_option maxRecDepth 100000 in
set_option maxHeartbeats 8000000 in
theorem instant_any (t : Int) (w : World) : Calls Try.prog 54 #[.int .i64 t] w fun e w' => e = .returned (.bool (insN t)) ∧ w = w' := by
  go_enter Try.func54, Try.ntmps54
  go_wp2_with fail
  refine (within_64 t 0 1125899906842624 w).mono ?_
  rintro e w1 ⟨rfl, rfl⟩
  go_wp2
  go_ret
  exact ⟨rfl, rfl⟩
def adrN (x : Nt) : Bool := rg x.lv 0 5 && (rg x.pa 0 7 && (rg x.rt 1 8 && rg x.wt 1 1048576))
set_option maxRecDepth 100000 in
set_option maxHeartbeats 8000000 in
theorem addressed_any (x : Nt) (w : World) : Calls Try.prog 55 #[.agg #[.int .u64 x.id, .int .u64 x.tk, .int .i64 x.lv, .int .i64 x.pa, .int .i64 x.st, .int .i64 x.tr, .int .i64 x.rt, .int .i64 x.wt, .int .i64 x.nx]] w fun e w' => e = .returned (.bool (adrN x)) ∧ Below w.heap.size w w' := by
  obtain ⟨B1, s0, -⟩ := box1 w #[.int .u64 x.id, .int .u64 x.tk, .int .i64 x.lv, .int .i64 x.pa, .int .i64 x.st, .int .i64 x.tr, .int .i64 x.rt, .int .i64 x.wt, .int .i64 x.nx] 36
  have HB := Lib.hid B1
  obtain ⟨q0, q1, q2, q3, q4, q5, q6, q7, q8⟩ := nt_at0 s0
  have HX : Hid (adrN x = (rg x.lv 0 5 && (rg x.pa 0 7 && (rg x.rt 1 8 && rg x.wt 1 1048576)))) := Lib.hid rfl
  clear B1 s0
  go_enter Try.func55, Try.ntmps55
  go_wp2_with fail
  generalize w.alloc (.cells #[.int .u64 x.id, .int .u64 x.tk, .int .i64 x.lv, .int .i64 x.pa, .int .i64 x.st, .int .i64 x.tr, .int .i64 x.rt, .int .i64 x.wt, .int .i64 x.nx] 36) = w1 at q0 q1 q2 q3 q4 q5 q6 q7 q8 HB ⊢
  refine (within_i x.lv 0 5 w1).mono ?_
  rintro e w2 ⟨rfl, rfl⟩
  generalize rg x.lv 0 5 = z0 at HX ⊢
  cases z0
  · go_wp2
    go_ret
    exact ⟨by rw [HX.out]; rfl, HB.out⟩
  go_wp2_with fail
  refine (within_i x.pa 0 7 w1).mono ?_
  rintro e w2 ⟨rfl, rfl⟩
  generalize rg x.pa 0 7 = z0 at HX ⊢
  cases z0
  · go_wp2
    go_ret
    exact ⟨by rw [HX.out]; rfl, HB.out⟩
  go_wp2_with fail
  refine (within_i x.rt 1 8 w1).mono ?_
  rintro e w2 ⟨rfl, rfl⟩
  generalize rg x.rt 1 8 = z0 at HX ⊢
  cases z0
  · go_wp2
    go_ret
    exact ⟨by rw [HX.out]; rfl, HB.out⟩
  go_wp2_with fail
  refine (within_64 x.wt 1 1048576 w1).mono ?_
  rintro e w2 ⟨rfl, rfl⟩
  go_wp2
  go_ret
  exact ⟨by rw [HX.out]; simp, HB.out⟩
set_option maxRecDepth 100000 in
set_option maxHeartbeats 8000000 in
theorem find_box (b : Nat) (last : Int) (l : List Nt) (id : Int) (w : World) (h : BX w b last l) : Calls Try.prog 44 #[.pointer (some ⟨b, 0, none⟩), .int .u64 id] w fun e w' => ((∃ k : Nat, ∃ hk : k < l.length, l[k].id = id ∧ (∀ x ∈ l.take k, x.id ≠ id) ∧ e = .returned (.tuple #[.pointer (some ⟨b, 2 + k * 9, none⟩), .int .i64 0])) ∨ ((∀ x ∈ l, x.id ≠ id) ∧ e = .returned (.tuple #[.pointer none, .int .i64 31]))) ∧ Below w.heap.size w w' := by
  obtain ⟨B1, s0, -⟩ := box1 w #[.int .u64 id] 22
  have HX := Lib.hid (h.below B1)
  have HB := Lib.hid B1
  have HS := Lib.hid s0
  have hmf : ∀ (fn : Fn) (first cap : Array Value) (w : World), (Instr.makeFunc fn first cap).run Try.prog w = .ok (.func fn first cap) w := fun _ _ _ _ => rfl
  clear h B1 s0
  go_enter Try.func44, Try.ntmps44
  go_wp2_with fail
  obtain ⟨N, hN⟩ : ∃ N, w.heap.size = N := ⟨_, rfl⟩
  rw [hN] at HS
  try rw [hN]
  generalize w.alloc (.cells #[.int .u64 id] 22) = w1 at HX HB HS ⊢
  refine (created_box b last l w1 HX.out).mono ?_
  rintro e w2 ⟨rfl, rfl⟩
  go_wp2_with fail
  refine (all_box b last l w1 HX.out).mono ?_
  rintro e w3 ⟨rfl, hb⟩
  have HX3 := Lib.hid (HX.out.below hb)
  have HB3 := Lib.hid (HB.out.trans (hb.mono HB.out.size))
  have hc3 : w3.cell? ⟨N, 0, none⟩ = some (.int .u64 id) := by simp only [World.cell?, ex_below HS.out hb]; rfl
  have HC := Lib.hid (find_cond N id w3 hc3)
  clear hb hc3
  go_wp2_with fail
  refine (index_any _ _ _ _ _ l w3 HX3.out.nr HC.out (by have := HX3.out.len; omega)).mono ?_
  rintro e w4 ⟨r, rfl, hf, hb⟩
  have HB4 := Lib.hid (HB3.out.trans (hb.mono HB3.out.size))
  clear hb
  rcases hf with ⟨k, rfl, hk, h1, h2⟩ | ⟨rfl, h1⟩
  · have hd : decide ((k : Int) < 0) = false := decide_eq_false (by omega)
    have hk0 : (0 : Int) ≤ (k : Int) := by omega
    have hkz : (k : Int) < (l.length : Int) := by omega
    have H1 := Lib.hid (And.intro h1 h2)
    clear h1 h2
    go_wp2_with fail
    refine bodyPost_ret (results_tmp2 rfl _ _ _) rfl ?_
    exact ⟨.inl ⟨k, hk, by simpa using H1.out.1, fun x hx => by simpa using H1.out.2 x hx, rfl⟩, HB4.out⟩
  · have H1 := Lib.hid h1
    clear h1
    go_wp2_with fail
    refine bodyPost_ret (results_tmp2 rfl _ _ _) rfl ?_
    exact ⟨.inr ⟨fun x hx => by simpa using H1.out x hx, rfl⟩, HB4.out⟩
end Go.Proofs.Ytnfpheccmjdpoaa
