/- Lost: the sum over what is closed. -/
import Derived.Test.YtfeegohjgecjgaaAmF
import Derived.StillTailTactics
import Derived.Recover
namespace Go.Proofs.Ytfeegohjgecjgaa
open Go.RowKit

theorem catch_idle9 (p : Addr) (w : World) :
    CallsD Try.prog 53 #[.pointer (some p)] .returning w fun e u' w' => e = .returned (.tuple #[]) ∧ u' = .returning ∧ w' = w := by
  refine callsD_of_wpS Try.func53 rfl fun c₀ cs hu => ?_
  apply wpS_seq
  apply wpS_region
  simp [wpOpsS, go_sem, recoverD, hu, Try.ntmps53, Exit.thenS]
  refine wpS_cond (t := false) (by simp [Act.eval, Array.replicate]) ?_
  simp only [Bool.false_eq_true, if_false]
  refine wpS_of_wp (wp_skip ?_)
  cases c₀
  simp_all [bodyPostS, results, Try.results53]

/-- What is lost behind the first i spans, and so far. -/
def lostG (val : Int → Int → Int) (F T : Nat → Int) (x y : Int) : Nat → Nat → Int → Int
  | 0, _, acc => acc
  | m + 1, i, acc => lostG val F T x y m (i + 1) (if max x (F i) < min y (T i) then wrap64 (acc + val (max x (F i)) (min y (T i))) else acc)
def lostV (val : Int → Int → Int) (F T : Nat → Int) (n : Nat) (x y : Int) : Int := lostG val F T x y (n - idx T x n) (idx T x n) 0

set_option maxRecDepth 100000 in
set_option maxHeartbeats 4000000 in
theorem lost_nil (p : Option Addr) (w : World) (x y : Int) :
    Calls Try.prog 24 #[.pointer p, .int .i64 x, .int .i64 y, .nilFunc] w fun e w' => e = .returned (.int .i64 0) ∧ Below w.heap.size w w' := by
  have hnl : ∀ w, (binOp .eql 42 .nilFunc .nilFunc).run Try.prog w = .ok (.bool true) w := fun _ => by kernel_rfl
  go_enter_defers Try.func24, Try.ntmps24
  go_wp2_with fail
  simp [bodyPostD, Leaves, settle, results, Try.results24, go_sem]
  exact (Below.refl _ _).alloc (Nat.le_refl _) _
set_option maxRecDepth 100000 in
set_option maxHeartbeats 4000000 in
theorem lost_any {p a : Option Addr} {n c : Nat} {F T : Nat → Int} {w : World} (x y : Int) (hal : Alm p a n c F T w) (val : Int → Int → Int) (G : Nat) (caps : Array Value)
    (eg : ∀ args w, (callFunc G args).run Try.prog w = .ok (.enter G args) w) (hfn : ∀ u v W, Below w.heap.size w W → Calls Try.prog G (#[.int .i64 u, .int .i64 v] ++ caps) W fun e W' => e = .returned (.int .i64 (val u v)) ∧ W' = W) :
    Calls Try.prog 24 #[.pointer p, .int .i64 x, .int .i64 y, .func (.func G) #[] caps] w fun e w' => e = .returned (.int .i64 (lostV val F T n x y)) ∧ Below w.heap.size w w' := by
  have hmf : ∀ (fn : Fn) (first cap : Array Value) (w : World), (Instr.makeFunc fn first cap).run Try.prog w = .ok (.func fn first cap) w := fun _ _ _ _ => rfl
  have hnl : ∀ w, (binOp .eql 42 (.func (.func G) #[] caps) .nilFunc).run Try.prog w = .ok (.bool false) w := fun _ => rfl
  have hq := guard_span
  have B1 : Below w.heap.size w (w.alloc (.cells #[.int .i64 0] 2)) := (Below.refl _ _).alloc (Nat.le_refl _) _
  have haf := after_any x (hal.kept B1)
  have vR := Var.new w (.int .i64 0) 2 rfl
  have hidx := idx_le T x n
  have hlen := hal.len
  have hlv : lostV val F T n x y = lostG val F T x y (n - idx T x n) (idx T x n) 0 := rfl
  obtain ⟨tot, htot⟩ : ∃ t, lostV val F T n x y = t := ⟨_, rfl⟩
  rw [htot] at hlv ⊢
  obtain ⟨i, hi⟩ : ∃ i, idx T x n = i := ⟨_, rfl⟩
  rw [hi] at haf hidx hlv
  obtain ⟨m, hm⟩ : ∃ m, n - i = m := ⟨_, rfl⟩
  have haf2 : Calls Try.prog 50 #[.pointer p, .int .i64 x] (w.alloc (.cells #[.int .i64 0] 2)) (fun e w' => ∃ a' c', e = .returned (.slice a' m c') ∧ Sps w' a' m (sh F i) (sh T i) ∧ (∀ z, 0 < m → a' = some z → z.block < w.heap.size) ∧ Below (w.alloc (.cells #[.int .i64 0] 2)).heap.size (w.alloc (.cells #[.int .i64 0] 2)) w') := haf.mono (by
    rintro e w' ⟨a', c', rfl, _, hS, hbl, hb⟩
    rw [hm] at hS hbl ⊢
    refine ⟨a', c', rfl, hS, fun z hz hz2 => ?_, hb⟩
    obtain ⟨z2, hz3, hz4⟩ := hbl z hz hz2
    obtain ⟨rb, ro, e, hlt, _⟩ := hal.sps.2 (by omega)
    rw [hz3] at e
    injection e with e
    rw [← hz4, e]
    exact hlt)
  rw [hm] at hlv
  have HLV := Lib.hid hlv
  have HFN := Lib.hid hfn
  have HB1 := Lib.hid B1
  have HVR := Lib.hid vR
  clear haf hal hlv hfn B1 vR htot hi
  go_enter_defers Try.func24, Try.ntmps24
  go_wp2_with fail
  refine haf2.mono ?_
  rintro e w1 ⟨a', c', rfl, hS, hbk, hb1⟩
  have HBK := Lib.hid hbk
  have HV1 := Lib.hid (HVR.out.kept hb1)
  have HB2 := Lib.hid (HB1.out.trans (hb1.mono HB1.out.size))
  have HS1 := Lib.hid hS
  clear haf2 hS hb1 hbk
  go_wp2_with fail
  go_loopw [19] (fun t wr => ∃ (q : Nat) (acc : Int), t = .int .i64 (q : Int) ∧ q ≤ m ∧ Var wr w.heap.size (.int .i64 acc) ∧ tot = lostG val F T x y (m - q) (i + q) acc ∧ Sps wr a' m (sh F i) (sh T i) ∧ Below w.heap.size w wr) (fun t _ => m - (intOf t).toNat)
  case atStart => exact ⟨0, 0, rfl, Nat.zero_le _, HV1.out, HLV.out, HS1.out, HB2.out⟩
  case round =>
    obtain ⟨q, acc, rfl, hqm, hv, hd, hS, hB⟩ := hrel
    have HB := Lib.hid hB
    have HSK := Lib.hid hS
    have HV := Lib.hid hv
    by_cases hlt : q < m
    · obtain ⟨r, hr⟩ : ∃ r, m - q = r + 1 := ⟨m - q - 1, by omega⟩
      have hd0 := hd
      rw [hr] at hd
      obtain ⟨rb, ro, rfl, hrb, hc⟩ := hS.2 (by omega)
      obtain ⟨c0, c1, b0, b1, b2, b3⟩ := hc q hlt
      have hf0 : sh F i q = F (i + q) := rfl
      have hu0 : sh T i q = T (i + q) := rfl
      simp only [lostG] at hd
      obtain ⟨f, hf⟩ : ∃ f, F (i + q) = f := ⟨_, rfl⟩
      obtain ⟨u, hu⟩ : ∃ f, T (i + q) = f := ⟨_, rfl⟩
      rw [hf0, hf] at c0 b0 b1
      rw [hu0, hu] at c1 b2 b3
      rw [hf, hu] at hd
      have hm1 : m - (q + 1) = r := by omega
      have q0 : (0 : Int) ≤ (q : Int) := by omega
      have ql : (q : Int) < (m : Int) := by omega
      have qd : decide ((q : Int) < (m : Int)) = true := decide_eq_true ql
      have hbA : Below wr.heap.size wr (wr.alloc (.cells #[.int .i64 f, .int .i64 u] 30)) := (Below.refl _ _).alloc (Nat.le_refl _) _
      have HBA := Lib.hid hbA
      have hsz := hB.size
      clear hf0 hu0 hf hu hc hS hd0 hr hbA hv hB
      by_cases hg : max x f < min y u
      · rw [if_pos hg] at hd
        have HD := Lib.hid hd
        have hnq := neq_gap (max x f) (min y u) hg
        have HBT := Lib.hid (fun w => between_yes (max x f) (min y u) w hg)
        clear hd
        go_wp2_with (go_at_call 54; refine (HBT.out _).mono ?_; rintro e w2 ⟨rfl, hb2⟩; have HB2 := Lib.hid (HBA.out.trans (hb2.mono HBA.out.size)); clear hb2)
        have hB4 : Below wr.heap.size wr (w2.alloc (.cells #[.int .i64 (max x f), .int .i64 (min y u)] 30)) := HB2.out.alloc HB2.out.size _
        have a0 : (w2.alloc (.cells #[.int .i64 (max x f), .int .i64 (min y u)] 30)).cell? ⟨w2.heap.size, 0, none⟩ = some (.int .i64 (max x f)) := by simp
        have a1 : (w2.alloc (.cells #[.int .i64 (max x f), .int .i64 (min y u)] 30)).cell? ⟨w2.heap.size, 1, none⟩ = some (.int .i64 (min y u)) := by simp
        generalize (w2.alloc (.cells #[.int .i64 (max x f), .int .i64 (min y u)] 30)) = W4 at *
        have hv4 := HV.out.kept hB4
        have r0 := hv4.1
        have HV4 := Lib.hid hv4
        have HB4 := Lib.hid hB4
        have hcall := HFN.out (max x f) (min y u) W4.drew (HB.out.trans (hB4.mono HB.out.size)).drew
        clear hv4 hB4
        go_still_tail 8, (by kernel_rfl)
        still_call hcall
        repeat still_step
        refine wpStill_nil ?_
        change wpList _ _ _ _ _ W4.drew
        have r0' : W4.drew.cell? ⟨w.heap.size, 0, none⟩ = some (.int .i64 acc) := r0
        have r1' : W4.drew.frozen? ⟨w.heap.size, 0, none⟩ = false := HV4.out.2
        clear a0 a1 r0 hcall
        go_wp2_with fail
        have hK : Kept (fun b => b = w.heap.size) W4 (W4.setCell ⟨w.heap.size, 0, none⟩ (.int .i64 (wrap64 (acc + val (max x f) (min y u))))) := Kept.setCell _ _ _ rfl
        have hSS := (HSK.out.kept HB4.out).keptX hK (fun z hz hz2 he => by have := HBK.out z hz hz2; have : z.block = w.heap.size := he; omega)
        have hBB := (HB.out.trans (HB4.out.mono hsz)).setCell (p := ⟨w.heap.size, 0, none⟩) (Nat.le_refl _) (.int .i64 (wrap64 (acc + val (max x f) (min y u))))
        refine ⟨⟨q + 1, _, by go_num, by omega, (HV4.out.set _ rfl rfl).kept ((Below.refl _ _).drew), by rw [hm1, ← Nat.add_assoc]; exact HD.out, hSS.kept ((Below.refl _ _).drew), hBB.drew⟩, by simp [intOf]; omega⟩
      · rw [if_neg hg] at hd
        have HD := Lib.hid hd
        have hnq := neq_zero
        have HBT := Lib.hid (fun w => between_no (max x f) (min y u) w hg)
        clear hd
        go_wp2_with (go_at_call 54; refine (HBT.out _).mono ?_; rintro e w2 ⟨rfl, hb2⟩; have HB2 := Lib.hid (HBA.out.trans (hb2.mono HBA.out.size)); clear hb2)
        have hB4 : Below wr.heap.size wr (w2.alloc (.cells #[.int .i64 0, .int .i64 0] 30)) := HB2.out.alloc HB2.out.size _
        have HB4 := Lib.hid hB4
        clear hB4
        go_roundw
        case rel => exact ⟨q + 1, acc, by go_num, by omega, HV.out.kept HB4.out, by rw [hm1, ← Nat.add_assoc]; exact HD.out, HSK.out.kept HB4.out, HB.out.trans (HB4.out.mono hsz)⟩
        case measure => simp [intOf]; omega
    · obtain rfl : q = m := by omega
      rw [Nat.sub_self] at hd
      have hd1 : tot = acc := hd
      have qd : decide ((q : Int) < (q : Int)) = false := decide_eq_false (by omega)
      have r0 := hv.1
      have r1 := hv.2
      have hsz := hB.size
      clear hd hS hB hv
      go_wp2_with fail
      refine leaves_cons (f := 53) (args := #[.pointer (some ⟨w.heap.size, 0, none⟩)]) (by simp) (by simp [go_sem]) ?_
      refine (catch_idle9 ⟨w.heap.size, 0, none⟩ _).mono ?_
      rintro e u' w'' ⟨rfl, rfl, rfl⟩
      have q0 := (HV.out.set (.int .i64 acc) rfl rfl).1
      simp [Leaves, settle, results, Try.results24, go_sem, q0]
      exact ⟨hd1.symm, HB.out.setCell (p := ⟨w.heap.size, 0, none⟩) (Nat.le_refl _) _⟩
end Go.Proofs.Ytfeegohjgecjgaa
