/- The disk: what of a file is kept, what is loose. -/
import Derived.Test.YthkjjpkipeeimaaDkP
import Derived.Deep.Slices
namespace Go.Proofs.Ythkjjpkipeeimaa
open Go.RowKit Go.Maps
theorem RB.tail {w : World} {a : Option Addr} {c : Nat} {bs : List Nat} (h : RB w (.slice a bs.length c) bs) {k : Nat} (hk : k ≤ bs.length) : RB w (.slice (if c = k then a else a.map (·.add (k * 1))) (bs.length - k) (c - k)) (bs.drop k) := by
  have hl : (bs.drop k).length = bs.length - k := List.length_drop
  refine ⟨fun c hc => h.1 c (List.mem_of_mem_drop hc), by rw [hl]; have := h.2.1; omega, ?_⟩
  rcases h.2.2 with ⟨h2, h3⟩ | ⟨x, cap, e, h1, h2, h3⟩
  · injection h2 with e1 e2 e3
    subst e1 e3
    have hk0 : k = 0 := by omega
    subst hk0
    refine .inl ⟨?_, by rw [h3]; rfl⟩
    rw [if_pos rfl, h3]
    rfl
  · injection e with e1 e2 e3
    subst e1 e3
    by_cases hck : c = k
    · have hkl : k = bs.length := by omega
      refine .inr ⟨x, c - k, by rw [if_pos hck, hl], by rw [hl]; omega, by omega, fun i hi => ?_⟩
      rw [hl] at hi
      omega
    · refine .inr ⟨x.add k, c - k, by rw [if_neg hck, hl, Nat.mul_one]; rfl, by rw [hl]; omega, by omega, fun i hi => ?_⟩
      rw [hl] at hi
      have := h3 (k + i) (by omega)
      rw [show (x.add k).add i = x.add (k + i) from Go.Deep.add_add x k i, this]
      simp [List.getD_eq_getElem?_getD, List.getElem?_drop]
theorem RB.head {w : World} {a : Option Addr} {c : Nat} {bs : List Nat} (h : RB w (.slice a bs.length c) bs) {k : Nat} (hk : k ≤ bs.length) (c' : Nat) (hc' : k ≤ c') (hcc : c' ≤ c) : RB w (.slice a k c') (bs.take k) ∨ (k = 0 ∧ a = none) := by
  have hl : (bs.take k).length = k := by rw [List.length_take]; omega
  rcases h.2.2 with ⟨h2, h3⟩ | ⟨x, cap, e, h1, h2, h3⟩
  · injection h2 with e1 e2 e3
    exact .inr ⟨by omega, e1⟩
  · injection e with e1 e2 e3
    subst e1 e3
    refine .inl ⟨fun c hc => h.1 c (List.mem_of_mem_take hc), by rw [hl]; have := h.2.1; omega, .inr ⟨x, c', by rw [hl], by rw [hl]; exact hc', by omega, fun i hi => ?_⟩⟩
    rw [hl] at hi
    rw [h3 i (by omega)]
    congr 3
    simp only [List.getD_eq_getElem?_getD, List.getElem?_take]
    rw [if_pos hi]
theorem RB.nilc {w : World} {a : Option Addr} {c : Nat} {bs : List Nat} (h : RB w (.slice a bs.length c) bs) (ha : a = none) : bs = [] ∧ c = 0 := by
  rcases h.2.2 with ⟨h2, h3⟩ | ⟨x, cap, e, h1, h2, h3⟩
  · injection h2 with e1 e2 e3
    exact ⟨h3, e3⟩
  · injection e with e1 e2 e3
    rw [ha] at e1
    cases e1
set_option maxRecDepth 100000 in
theorem dloose (a : Option Addr) (c : Nat) (bs : List Nat) (k : Nat) (w : World) (h : RB w (.slice a bs.length c) bs) (hk : k ≤ bs.length) : Calls Try.prog 76 #[.agg #[.slice a bs.length c, .int .i64 (k : Int)]] w fun e w' => ∃ a2 c2, e = .returned (.slice a2 (bs.length - k) c2) ∧ RB w' (.slice a2 (bs.length - k) c2) (bs.drop k) ∧ Below w.heap.size w w' := by
  obtain ⟨B1, s1⟩ := boxF (w := w) (.slice a bs.length c) (.int .i64 (k : Int))
  obtain ⟨x0, x1, -⟩ := two_at s1
  have HB := Lib.hid B1
  have hk0 : (0 : Int) ≤ (k : Int) := by omega
  have hk1 : (k : Int) ≤ (bs.length : Int) := by omega
  by_cases hck : c = k
  · have hr := h.tail hk
    rw [if_pos hck, hck, Nat.sub_self] at hr
    rw [← hck] at hr
    have HR := Lib.hid (hr.kept B1)
    have d1 : decide (c = k) = true := decide_eq_true hck
    subst hck
    clear h B1 s1 hr
    go_enter Try.func76, Try.ntmps76
    go_wp2_with fail
    go_ret
    exact ⟨_, _, rfl, HR.out, HB.out⟩
  · have hr := h.tail hk
    rw [if_neg hck] at hr
    simp only [Nat.mul_one] at hr
    have HR := Lib.hid (hr.kept B1)
    have d1 : decide (c = k) = false := decide_eq_false hck
    
    clear h B1 s1 hr
    go_enter Try.func76, Try.ntmps76
    go_wp2_with fail
    go_ret
    exact ⟨_, _, rfl, HR.out, HB.out⟩
set_option maxRecDepth 100000 in
theorem dsafe (a : Option Addr) (c : Nat) (bs : List Nat) (k : Nat) (w : World) (h : RB w (.slice a bs.length c) bs) (hk : k ≤ bs.length) : Calls Try.prog 75 #[.agg #[.slice a bs.length c, .int .i64 (k : Int)]] w fun e w' => e = .returned (.slice a k k) ∧ RB w' (.slice a k k) (bs.take k) ∧ Below w.heap.size w w' := by
  obtain ⟨B1, s1⟩ := boxF (w := w) (.slice a bs.length c) (.int .i64 (k : Int))
  obtain ⟨x0, x1, -⟩ := two_at s1
  have hlc : bs.length ≤ c := by
    obtain ⟨a3, cap, e3, hcl, -⟩ := h.shape
    injection e3 with _ _ e3
    omega
  have hrb : RB w (.slice a k k) (bs.take k) := by
    rcases h.head hk k (Nat.le_refl _) (by omega) with h2 | ⟨rfl, h2⟩
    · exact h2
    · rw [h2]
      simpa using RB.nil w
  have HR := Lib.hid (hrb.kept B1)
  have HB := Lib.hid B1
  have hk0 : (0 : Int) ≤ (k : Int) := by omega
  have hk1 : (k : Int) ≤ (k : Int) := by omega
  have hk2 : (k : Int) ≤ (c : Int) := by omega
  have hsl := fun w => run_slice_hm (P := Try.prog) w 51 a bs.length c Try.underlying51 .i64 .i64 (k : Int) (k : Int) hk0 hk1 hk2
  clear h B1 s1 hrb
  go_enter Try.func75, Try.ntmps75
  go_wp2_with fail
  go_ret
  refine ⟨?_, HR.out, HB.out⟩
  first | rfl | simp
end Go.Proofs.Ythkjjpkipeeimaa
