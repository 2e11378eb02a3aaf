/- The disk: Append. -/
import Derived.Test.YthkjjpkipeeimaaMmE
namespace Go.Proofs.Ythkjjpkipeeimaa
open Go.RowKit Go.Maps
theorem OB.shp {w : World} {base : Nat} {v : Value} {bs : List Nat} (h : OB w base v bs) : ∃ a c, v = .slice a bs.length c := by
  rcases h.2 with ⟨h2, h3⟩ | ⟨g, cap, cur, e1, hg, hc, hn, hm, hsz, htk⟩
  · exact ⟨none, 0, by rw [h2, h3]⟩
  · exact ⟨some ⟨g, 0, none⟩, cap, e1⟩
theorem two_mapF (x y : Value) (w : World) : (Instr.field 124 (.agg #[x, y]) 0).run Try.prog w = .ok x w := by kernel_rfl
section
variable {S : Nat → Prop} {w : World} {B m mt : Nat} {D : Dd} {M : Lit → Option Value} {V : Nm → Value}
set_option maxRecDepth 100000 in
theorem dappend_down (h : DKx S w B m mt D M V) (hd : D.down = true) (n : Nm) (v : Value) : Calls Try.prog 27 #[.pointer (some ⟨B, 0, none⟩), encStr n, v] w fun e w' => e = .returned (.int .i64 50) ∧ w = w' := by
  have hp : pw D.down = 50 := by rw [hd]; rfl
  have H := Lib.hid h
  clear h hd
  go_enter Try.func27, Try.ntmps27
  go_wp2_with fail
  refine (dpower_any H.out).mono ?_
  rintro e w1 ⟨rfl, rfl⟩
  rw [hp]
  clear hp
  go_wp2_with fail
  go_ret
  exact ⟨rfl, rfl⟩
set_option maxRecDepth 100000 in
theorem dappend_no (v0 : Value) (n : Nm) (v : Value) (w : World) (h : NoD w v0) : Calls Try.prog 27 #[v0, encStr n, v] w fun e w' => e = .returned (.int .i64 1) ∧ w = w' := by
  have H := Lib.hid h
  clear h
  go_enter Try.func27, Try.ntmps27
  go_wp2_with fail
  refine (dpower_no v0 w H.out).mono ?_
  rintro e w1 ⟨rfl, rfl⟩
  go_wp2_with fail
  go_ret
  exact ⟨rfl, rfl⟩
set_option maxRecDepth 100000 in
theorem dappend_arg (h : DKx S w B m mt D M V) (hd : D.down = false) {n : Nm} (hv : validN n = false) (v : Value) : Calls Try.prog 27 #[.pointer (some ⟨B, 0, none⟩), encStr n, v] w fun e w' => e = .returned (.int .i64 2) ∧ w = w' := by
  have hp : pw D.down = 0 := by rw [hd]; rfl
  have H := Lib.hid h
  clear h hd
  go_enter Try.func27, Try.ntmps27
  go_wp2_with fail
  refine (dpower_any H.out).mono ?_
  rintro e w1 ⟨rfl, rfl⟩
  rw [hp]
  clear hp
  go_wp2_with fail
  refine (valid_any n _).mono ?_
  rintro e w2 ⟨rfl, rfl⟩
  rw [hv]
  clear hv
  go_wp2_with fail
  go_ret
  exact ⟨rfl, rfl⟩
set_option maxRecDepth 100000 in
set_option maxHeartbeats 4000000 in
theorem dappend_many (h : DKx S w B m mt D M V) (hd : D.down = false) {n : Nm} (hv : validN n = true) (hn : getF D.fs n = none) (ab : Option Addr) (cb : Nat) (bs : List Nat) (hm : 128 ≤ D.fs.length) : Calls Try.prog 27 #[.pointer (some ⟨B, 0, none⟩), encStr n, .slice ab bs.length cb] w fun e w' => e = .returned (.int .i64 30) ∧ Below w.heap.size w w' := by
  have g1 : decide (128 ≤ (D.fs.length : Int)) = true := decide_eq_true (by omega)
  have g2 : decide ((D.fs.length : Int) ≥ 128) = true := decide_eq_true (by omega)
  have g3 : decide (128 ≤ D.fs.length) = true := decide_eq_true (by omega)
  clear hm
  have hp : pw D.down = 0 := by rw [hd]; rfl
  have H := Lib.hid h
  have HL : Hid (n.length ≤ 100000) := Lib.hid (by unfold validN at hv; have := of_decide_eq_true hv; omega)
  have HG : Hid (M (.string n) = none) := Lib.hid (by rw [h.df.spot n, hn]; rfl)
  have HF := Lib.hid hn
  clear hn h hd
  go_enter Try.func27, Try.ntmps27
  go_wp2_with fail
  refine (dpower_any H.out).mono ?_
  rintro e w1 ⟨rfl, rfl⟩
  rw [hp]
  clear hp
  go_wp2_with fail
  refine (valid_any n _).mono ?_
  rintro e w2 ⟨rfl, rfl⟩
  rw [hv]
  clear hv
  obtain ⟨-, q1, -⟩ := H.out.at
  have hz := fl_zero w
  have hlk := H.out.df.vm.look_ok keyedS fm_und hz (keyS HL.out)
  rw [HG.out] at hlk
  simp only [Option.getD_none, Option.isSome_none] at hlk
  clear hz
  obtain ⟨B2, s2⟩ := boxF (w := w) (.slice none 0 0) (.int .i64 0)
  have H2 := Lib.hid (H.out.below B2)
  have HB2 := Lib.hid B2
  have HS2 := Lib.hid s2
  have q1' := H2.out.at.2.1
  have hlen := H2.out.df.vm.len fm_und 3
  clear B2 s2
  go_wp2_with fail
  go_ret
  exact ⟨rfl, HB2.out⟩
set_option maxRecDepth 100000 in
set_option maxHeartbeats 4000000 in
theorem dappend_full1 (h : DKx S w B m mt D M V) (hd : D.down = false) {n : Nm} (hv : validN n = true) {f : Fl} (hn : getF D.fs n = some f) (ab : Option Addr) (cb : Nat) (bs : List Nat) (hf : freeD D < (bs.length : Int)) : Calls Try.prog 27 #[.pointer (some ⟨B, 0, none⟩), encStr n, .slice ab bs.length cb] w fun e w' => e = .returned (.int .i64 30) ∧ Below w.heap.size w w' := by
  have k1 : decide (freeD D < (bs.length : Int)) = true := decide_eq_true hf
  clear hf
  have hp : pw D.down = 0 := by rw [hd]; rfl
  have H := Lib.hid h
  have HL : Hid (n.length ≤ 100000) := Lib.hid (by unfold validN at hv; have := of_decide_eq_true hv; omega)
  obtain ⟨a, c, e1, e2⟩ := h.file hn
  have HE := Lib.hid e1
  have HG := Lib.hid e2
  have HF := Lib.hid hn
  clear e1 e2 hn h hd
  go_enter Try.func27, Try.ntmps27
  go_wp2_with fail
  refine (dpower_any H.out).mono ?_
  rintro e w1 ⟨rfl, rfl⟩
  rw [hp]
  clear hp
  go_wp2_with fail
  refine (valid_any n _).mono ?_
  rintro e w2 ⟨rfl, rfl⟩
  rw [hv]
  clear hv
  obtain ⟨-, q1, -⟩ := H.out.at
  have hz := fl_zero w
  have hlk := H.out.df.vm.look_ok keyedS fm_und hz (keyS HL.out)
  rw [HG.out] at hlk
  simp only [Option.getD_some, Option.isSome_some] at hlk
  clear hz
  obtain ⟨B2, s2⟩ := boxF (w := w) (.slice a f.all.length c) (.int .i64 (f.kept : Int))
  have H2 := Lib.hid (H.out.below B2)
  have HB2 := Lib.hid B2
  have HS2 := Lib.hid s2
  have q1' := H2.out.at.2.1
  have hlen := H2.out.df.vm.len fm_und 3
  clear B2 s2
  go_wp2_with fail
  refine (dfree H2.out).mono ?_
  rintro e w3 ⟨rfl, hb3⟩
  have HB3 := Lib.hid (HB2.out.trans (hb3.mono HB2.out.size))
  clear hb3
  go_wp2_with fail
  go_ret
  exact ⟨rfl, HB3.out⟩
set_option maxRecDepth 100000 in
set_option maxHeartbeats 4000000 in
theorem dappend_full0 (h : DKx S w B m mt D M V) (hd : D.down = false) {n : Nm} (hv : validN n = true) (hn : getF D.fs n = none) (ab : Option Addr) (cb : Nat) (bs : List Nat) (hm : D.fs.length < 128) (hf : freeD D < (bs.length : Int)) : Calls Try.prog 27 #[.pointer (some ⟨B, 0, none⟩), encStr n, .slice ab bs.length cb] w fun e w' => e = .returned (.int .i64 30) ∧ Below w.heap.size w w' := by
  have g1 : decide (128 ≤ (D.fs.length : Int)) = false := decide_eq_false (by omega)
  have g2 : decide ((D.fs.length : Int) ≥ 128) = false := decide_eq_false (by omega)
  have g3 : decide (128 ≤ D.fs.length) = false := decide_eq_false (by omega)
  have HM := Lib.hid hm
  clear hm
  have k1 : decide (freeD D < (bs.length : Int)) = true := decide_eq_true hf
  clear hf
  have hp : pw D.down = 0 := by rw [hd]; rfl
  have H := Lib.hid h
  have HL : Hid (n.length ≤ 100000) := Lib.hid (by unfold validN at hv; have := of_decide_eq_true hv; omega)
  have HG : Hid (M (.string n) = none) := Lib.hid (by rw [h.df.spot n, hn]; rfl)
  have HF := Lib.hid hn
  clear hn h hd
  go_enter Try.func27, Try.ntmps27
  go_wp2_with fail
  refine (dpower_any H.out).mono ?_
  rintro e w1 ⟨rfl, rfl⟩
  rw [hp]
  clear hp
  go_wp2_with fail
  refine (valid_any n _).mono ?_
  rintro e w2 ⟨rfl, rfl⟩
  rw [hv]
  clear hv
  obtain ⟨-, q1, -⟩ := H.out.at
  have hz := fl_zero w
  have hlk := H.out.df.vm.look_ok keyedS fm_und hz (keyS HL.out)
  rw [HG.out] at hlk
  simp only [Option.getD_none, Option.isSome_none] at hlk
  clear hz
  obtain ⟨B2, s2⟩ := boxF (w := w) (.slice none 0 0) (.int .i64 0)
  have H2 := Lib.hid (H.out.below B2)
  have HB2 := Lib.hid B2
  have HS2 := Lib.hid s2
  have q1' := H2.out.at.2.1
  have hlen := H2.out.df.vm.len fm_und 3
  clear B2 s2
  go_wp2_with fail
  refine (dfree H2.out).mono ?_
  rintro e w3 ⟨rfl, hb3⟩
  have HB3 := Lib.hid (HB2.out.trans (hb3.mono HB2.out.size))
  clear hb3
  go_wp2_with fail
  go_ret
  exact ⟨rfl, HB3.out⟩
set_option maxRecDepth 100000 in
set_option maxHeartbeats 4000000 in
theorem dappend_ok1 (h : DKx S w B m mt D M V) (hd : D.down = false) {n : Nm} (hv : validN n = true) {f : Fl} (hn : getF D.fs n = some f) (ab : Option Addr) (cb : Nat) (bs : List Nat) (hf : (bs.length : Int) ≤ freeD D) (hrb : RB w (.slice ab bs.length cb) bs) (hst : D.st < 1000000000) : Calls Try.prog 27 #[.pointer (some ⟨B, 0, none⟩), encStr n, .slice ab bs.length cb] w fun e w' => ∃ S', e = .returned (.int .i64 (pw (stepD (D.files (putF D.fs n ⟨f.all ++ bs, f.kept⟩))).down)) ∧ DK S' w' B (stepD (D.files (putF D.fs n ⟨f.all ++ bs, f.kept⟩))) ∧ Fr S w S' w' := by
  have k1 : decide (freeD D < (bs.length : Int)) = false := decide_eq_false (by omega)
  have HFR := Lib.hid hf
  have HRB := Lib.hid hrb
  have HST := Lib.hid hst
  clear hf hrb hst
  have hp : pw D.down = 0 := by rw [hd]; rfl
  have H := Lib.hid h
  have HL : Hid (n.length ≤ 100000) := Lib.hid (by unfold validN at hv; have := of_decide_eq_true hv; omega)
  obtain ⟨a, c, e1, e2⟩ := h.file hn
  have HE := Lib.hid e1
  have HG := Lib.hid e2
  have HF := Lib.hid hn
  clear e1 e2 hn h hd
  go_enter Try.func27, Try.ntmps27
  go_wp2_with fail
  refine (dpower_any H.out).mono ?_
  rintro e w1 ⟨rfl, rfl⟩
  rw [hp]
  clear hp
  go_wp2_with fail
  refine (valid_any n _).mono ?_
  rintro e w2 ⟨rfl, rfl⟩
  rw [hv]
  clear hv
  obtain ⟨-, q1, -⟩ := H.out.at
  have hz := fl_zero w
  have hlk := H.out.df.vm.look_ok keyedS fm_und hz (keyS HL.out)
  rw [HG.out] at hlk
  simp only [Option.getD_some, Option.isSome_some] at hlk
  clear hz
  obtain ⟨B2, s2⟩ := boxF (w := w) (.slice a f.all.length c) (.int .i64 (f.kept : Int))
  have H2 := Lib.hid (H.out.below B2)
  have HB2 := Lib.hid B2
  have HS2 := Lib.hid s2
  have q1' := H2.out.at.2.1
  have hlen := H2.out.df.vm.len fm_und 3
  clear B2 s2
  go_wp2_with fail
  obtain ⟨N, hN⟩ : ∃ N, w.heap.size = N := ⟨_, rfl⟩
  have HN := Lib.hid hN
  rw [hN] at HS2
  try rw [hN]
  clear hN q1 hlk
  generalize w.alloc (.cells #[.slice a f.all.length c, .int .i64 (f.kept : Int)] 124) = w2 at H2 HB2 HS2 q1' hlen ⊢
  refine (dfree H2.out).mono ?_
  rintro e w3 ⟨rfl, hb3⟩
  have H3 := Lib.hid (H2.out.below hb3)
  have HB3 := Lib.hid (HB2.out.trans (hb3.mono HB2.out.size))
  have HS3 := Lib.hid (ex_below HS2.out hb3)
  have HRB3 := Lib.hid (HRB.out.kept (HB2.out.trans (hb3.mono HB2.out.size)))
  have HNS : Hid (¬ S N ∧ N ≠ B ∧ N ≠ m ∧ N ≠ mt) := Lib.hid (by
    have e := HN.out
    have h1 := H.out.bd
    exact ⟨fun hk => by have := h1 N hk; omega, fun hk => by have := h1 B H.out.own.1; omega, fun hk => by have := h1 m H.out.own.2.1; omega, fun hk => by have := h1 mt H.out.own.2.2; omega⟩)
  clear hb3 H2 HB2 HS2 q1' hlen
  obtain ⟨x0, x1, fr⟩ := two_at HS3.out
  have f0 := fr 0
  clear fr
  have HLN : Hid (f.all.length ≤ 1048576 ∧ bs.length ≤ 1048576) := Lib.hid (by
    have h1 := HFR.out
    have h2 := H.out.rm
    unfold freeD at h1
    refine ⟨?_, by split at h1 <;> omega⟩
    have h3 := sum_le (getF_mem HF.out); have h4 := H.out.df.sum; simp only at h3; omega)
  have HO0 : Hid (OB w3 0 (.slice a f.all.length c) f.all) := Lib.hid (by
    have := H3.out.df.own n f HF.out; rw [HE.out] at this; exact this)
  have HVS : Hid (some N ≠ (.slice a f.all.length c : Value).ownBlock) := Lib.hid (by
    intro e; rw [← HE.out] at e; exact HNS.out.1 (H.out.df.inS n N (by rw [HF.out]; exact Option.some_ne_none _) e.symm))
  go_wp2_with (at_builtin; refine append_moved rfl (.tmp 47) (.tmp 48) rfl 0 _ _ f.all bs rfl rfl HO0.out HRB3.out (by have := HLN.out; omega) (Nat.zero_le _) ?_; go_loud (intro v1 w4 ho1 hg1 hm1; obtain ⟨a1, c1, rfl⟩ := ho1.shp; obtain ⟨ln, hln⟩ : ∃ ln, (f.all ++ bs).length = ln := ⟨_, rfl⟩; rw [hln] at ho1 hm1; rw [hln]; have HLE := Lib.hid hln; clear hln; have HO1 := Lib.hid ho1; have hg2 : w3.grownBy w4 (.slice a f.all.length c : Value).ownBlock := hg1; have hm2 : Moved (.slice a f.all.length c) w3 (.slice a1 ln c1) := hm1; have HG1 := Lib.hid hg2; have HMV := Lib.hid hm2; clear hg2 hm2; have HS4 := Lib.hid ((hg1.block N (ex_lt HS3.out) HVS.out).trans HS3.out); have x0' := (two_at HS4.out).1; have f0' := (two_at HS4.out).2.2 0; clear ho1 hg1 hm1))
  clear x0 x1 f0
  have HS5 : Hid ((w4.setCell ⟨N, 0, none⟩ (.slice a1 ln c1)).heap[N]? = some (.cells #[.slice a1 ln c1, .int .i64 (f.kept : Int)] 124 (0, 0))) := Lib.hid (two_set HS4.out _).1
  have HO5 : Hid (OB (w4.setCell ⟨N, 0, none⟩ (.slice a1 ln c1)) 0 (.slice a1 ln c1) (f.all ++ bs)) := Lib.hid (HO1.out.blk (fun g hg => Below.heap_setCell _ _ _ _ (by
    have hN := HN.out
    have h1 := HB3.out.size
    rcases HMV.out with e | e
    · rw [hg] at e; intro e2; have e3 : g = N := e2; rw [e3] at e; exact HVS.out e
    · have h2 := e g hg; have h3 := ex_lt HS3.out; intro e2; have e3 : g = N := e2; omega)))
  have HK5 : Hid (∀ k, k < w3.heap.size → k ≠ N → some k ≠ ((.slice a f.all.length c) : Value).ownBlock → (w4.setCell ⟨N, 0, none⟩ (.slice a1 ln c1)).heap[k]? = w3.heap[k]?) := Lib.hid (fun k hk hn ho => (Below.heap_setCell _ _ _ _ (by exact hn)).trans (HG1.out.block k hk ho))
  have HZ5 : Hid (w3.heap.size ≤ (w4.setCell ⟨N, 0, none⟩ (.slice a1 ln c1)).heap.size ∧ ∀ g, (Value.slice a1 ln c1).ownBlock = some g → g < (w4.setCell ⟨N, 0, none⟩ (.slice a1 ln c1)).heap.size) := Lib.hid ⟨by have := HG1.out.size; simpa using this, fun g hg => by have := (HO1.out.lt hg).2; simpa using this⟩
  have HW5 : Hid ((w4.setCell ⟨N, 0, none⟩ (.slice a1 ln c1)).os = w3.os ∧ (w4.setCell ⟨N, 0, none⟩ (.slice a1 ln c1)).tape = w3.tape ∧ (w4.setCell ⟨N, 0, none⟩ (.slice a1 ln c1)).output = w3.output) := Lib.hid ⟨HG1.out.os, HG1.out.tape, HG1.out.output⟩
  clear HO1 HG1 HS4
  generalize w4.setCell ⟨N, 0, none⟩ (.slice a1 ln c1) = w5 at HS5 HO5 HK5 HZ5 HW5 ⊢
  have hVO : ∀ g, ((.slice a f.all.length c) : Value).ownBlock = some g → S g ∧ g ≠ B ∧ g ≠ m ∧ g ≠ mt := by
    intro g hg; rw [← HE.out] at hg; exact ⟨H.out.df.inS n g (by rw [HF.out]; exact Option.some_ne_none _) hg, H.out.fne n g (by rw [HF.out]; exact Option.some_ne_none _) hg⟩
  have HVO := Lib.hid hVO
  clear hVO
  have hB5 : w5.heap[B]? = w3.heap[B]? := HK5.out B H3.out.lt.1 (Ne.symm HNS.out.2.1) (by intro e; exact (HVO.out B e.symm).2.1 rfl)
  have hm5 : w5.heap[m]? = w3.heap[m]? := HK5.out m H3.out.lt.2.1 (Ne.symm HNS.out.2.2.1) (by intro e; exact (HVO.out m e.symm).2.2.1 rfl)
  have hmt5 : w5.heap[mt]? = w3.heap[mt]? := HK5.out mt H3.out.lt.2.2 (Ne.symm HNS.out.2.2.2) (by intro e; exact (HVO.out mt e.symm).2.2.2 rfl)
  have HH5 := Lib.hid (And.intro hB5 (And.intro hm5 hmt5))
  have HS0 : Hid ((fun W : World => W.heap[B]? = some (.cells (DC D m mt).toArray 107 (0, 0)) ∧ W.heap[N]? = some (.cells #[.slice a1 ln c1, .int .i64 (f.kept : Int)] 124 (0, 0))) w5.drew) := Lib.hid ⟨hB5.trans H3.out.cells, HS5.out⟩
  have HVM : Hid (VM 9 w5.drew m D.fs.length M) := Lib.hid (H3.out.df.vm.block (w' := w5.drew) hm5)
  have HW6 : Hid (∀ g : Nat, w5.drew.heap[g]? = w5.heap[g]?) := Lib.hid (fun _ => rfl)
  have HZ6' : Hid (w5.drew.heap.size = w5.heap.size ∧ w5.drew.os = w5.os ∧ w5.drew.tape = w5.tape ∧ w5.drew.output = w5.output) := Lib.hid ⟨rfl, rfl, rfl, rfl⟩
  clear hB5 hm5 hmt5
  refine wp_region_held_drew (S := (fun W : World => W.heap[B]? = some (.cells (DC D m mt).toArray 107 (0, 0)) ∧ W.heap[N]? = some (.cells #[.slice a1 ln c1, .int .i64 (f.kept : Int)] 124 (0, 0)))) (by kernel_rfl) HS0.out (fun hHeld => ?_)
  clear hHeld
  generalize w5.drew = w6 at HS0 HVM HW6 HZ6' ⊢
  refine wpAnyH_take (i := 0) (oi := { dst := some 51, op := Go.Op.move (Go.Operand.tmp 0), type := 24, pos := "disk.go:69", after := #[], guard := none }) (v := ?_) rfl (by kernel_rfl) (by kernel_rfl) (by kernel_rfl) (fun _ _ _ h => h) (Or.inl ⟨by rfl, ?_⟩) HS0.out ?_
  case refine_2 => (intro w1 hS1; clear hS1; go_simp; try with_reducible rfl)
  try simp only [Act.put, List.setIfInBounds_toArray, List.set_cons_zero, List.set_cons_succ]
  refine wpAnyH_take (i := 1) (oi := { dst := some 52, op := Go.Op.nilCheck (Go.Operand.tmp 51), type := 0, pos := "disk.go:69", after := #[{ on := 0, ground := Go.Ground.data }], guard := none }) (v := ?_) rfl (by kernel_rfl) (by kernel_rfl) (by kernel_rfl) (fun _ _ _ h => h) (Or.inl ⟨by rfl, ?_⟩) HS0.out ?_
  case refine_2 => (intro w1 hS1; clear hS1; go_simp; try with_reducible rfl)
  try simp only [Act.put, List.setIfInBounds_toArray, List.set_cons_zero, List.set_cons_succ]
  refine wpAnyH_take (i := 2) (oi := { dst := some 53, op := Go.Op.fieldAddr 107 (Go.Operand.tmp 52) 1, type := 0, pos := "disk.go:69", after := #[{ on := 1, ground := Go.Ground.data }], guard := none }) (v := ?_) rfl (by kernel_rfl) (by kernel_rfl) (by kernel_rfl) (fun _ _ _ h => h) (Or.inl ⟨by rfl, ?_⟩) HS0.out ?_
  case refine_2 => (intro w1 hS1; clear hS1; go_simp; try with_reducible rfl)
  try simp only [Act.put, List.setIfInBounds_toArray, List.set_cons_zero, List.set_cons_succ]
  refine wpAnyH_take (i := 3) (oi := { dst := some 54, op := Go.Op.load 103 (Go.Operand.tmp 53), type := 103, pos := "disk.go:69", after := #[{ on := 2, ground := Go.Ground.data }], guard := none }) (v := ?_) rfl (by kernel_rfl) (by kernel_rfl) (by kernel_rfl) (fun _ _ _ h => h) (Or.inl ⟨by rfl, ?_⟩) HS0.out ?_
  case refine_2 => (intro w1 hS1; obtain ⟨hb1, -⟩ := hS1; have c1 : w1.cell? ⟨B, 1, none⟩ = some (.map (some m)) := (by simp only [World.cell?, hb1]; rfl); clear hb1; go_simp; try with_reducible rfl)
  try simp only [Act.put, List.setIfInBounds_toArray, List.set_cons_zero, List.set_cons_succ]
  refine wpAnyH_take (i := 4) (oi := { dst := some 55, op := Go.Op.move (Go.Operand.tmp 1), type := 9, pos := "disk.go:69", after := #[], guard := none }) (v := ?_) rfl (by kernel_rfl) (by kernel_rfl) (by kernel_rfl) (fun _ _ _ h => h) (Or.inl ⟨by rfl, ?_⟩) HS0.out ?_
  case refine_2 => (intro w1 hS1; clear hS1; go_simp; try with_reducible rfl)
  try simp only [Act.put, List.setIfInBounds_toArray, List.set_cons_zero, List.set_cons_succ]
  refine wpAnyH_take (i := 5) (oi := { dst := some 56, op := Go.Op.load 124 (Go.Operand.tmp 8), type := 124, pos := "disk.go:69", after := #[], guard := none }) (v := .agg #[.slice a1 ln c1, .int .i64 (f.kept : Int)]) rfl (by kernel_rfl) (by kernel_rfl) (by kernel_rfl) (fun _ _ _ h => h) (Or.inl ⟨by rfl, ?_⟩) HS0.out ?_
  case refine_1 => (intro w1 hS1; obtain ⟨-, hb2⟩ := hS1; obtain ⟨z0, z1, -⟩ := two_at hb2; clear hb2; go_simp; try with_reducible rfl)
  try simp only [Act.put, List.setIfInBounds_toArray, List.set_cons_zero, List.set_cons_succ]
  obtain ⟨M', hM1, hM2⟩ := upV M (.string n) (some (.agg #[.slice a1 ln c1, .int .i64 (f.kept : Int)]))
  obtain ⟨w7, hrun, hv7, hg7, hz7⟩ := HVM.out.put keyedS fm_und (by have := H.out.df.few; unfold maxLen; omega) (keyS HL.out) (.agg #[.slice a1 ln c1, .int .i64 (f.kept : Int)]) hM1 hM2
  have HS7 : Hid ((fun W : World => W.heap[B]? = some (.cells (DC D m mt).toArray 107 (0, 0)) ∧ W.heap[N]? = some (.cells #[.slice a1 ln c1, .int .i64 (f.kept : Int)] 124 (0, 0))) w7) := Lib.hid ⟨(hg7.block B (by rw [HZ6'.out.1]; have := HZ5.out.1; have := H3.out.lt.1; omega) (by intro e; injection e with e; exact H.out.ne.1 e)).trans HS0.out.1, (hg7.block N (ex_lt HS0.out.2) (by intro e; injection e with e; exact HNS.out.2.2.1 e)).trans HS0.out.2⟩
  refine wpAnyH_ready (rs := [6]) (by kernel_rfl) (by simp) ?_
  refine AllReadyH.cons (o := { dst := none, op := Go.Op.mapUpdate 103 (Go.Operand.tmp 54) (Go.Operand.tmp 55) (Go.Operand.tmp 56), type := 0, pos := "disk.go:69", after := #[{ on := 3, ground := Go.Ground.data }, { on := 4, ground := Go.Ground.data }, { on := 5, ground := Go.Ground.data }, { on := 0, ground := Go.Ground.phase }, { on := 1, ground := Go.Ground.phase }, { on := 2, ground := Go.Ground.phase }, { on := 3, ground := Go.Ground.phase }, { on := 4, ground := Go.Ground.phase }, { on := 5, ground := Go.Ground.phase }], guard := none }) rfl (fun K hK => ?_) AllReadyH.nil
  go_simp
  have HV7 := Lib.hid hv7
  have HG7 := Lib.hid hg7
  have HM7 := Lib.hid (And.intro hM1 hM2)
  have HZ7 := Lib.hid hz7
  clear hv7 hg7 hM1 hM2 hz7 HS0
  have HS0 := HS7
  clear HS7
  refine hK.out _ _ HS0.out (fun hHeld => ?_)
  clear hrun hK K hHeld
  try simp only [Act.put, List.setIfInBounds_toArray, List.set_cons_zero, List.set_cons_succ]
  refine wpAnyH_done (by kernel_rfl) ?_ _
  have hgk : ∀ k, k < w3.heap.size → k ≠ m → k ≠ N → some k ≠ ((.slice a f.all.length c) : Value).ownBlock → w7.heap[k]? = w3.heap[k]? := fun k hk hkm hkn hko => ((HG7.out.block k (by rw [HZ6'.out.1]; have := HZ5.out.1; omega) (by intro e; injection e with e; exact hkm e)).trans (HW6.out k)).trans (HK5.out k hk hkn hko)
  have h3 := H3.out
  have hS' : ∀ g, (Value.slice a1 ln c1).ownBlock = some g → ((.slice a f.all.length c) : Value).ownBlock = some g ∨ w3.heap.size ≤ g := fun g hg => by
    rcases HMV.out with e | e
    · exact .inl (by rw [← e]; exact hg)
    · exact .inr (e g hg)
  have hlt : ∀ {k : Nm} {g : Nat}, getF D.fs k ≠ none → (V k).ownBlock = some g → g < w3.heap.size := fun hk hv => h3.df.lt hk hv
  have hNk : ∀ k, S k → k ≠ N := fun k hk e => HNS.out.1 (by rw [← e]; exact hk)
  have hLL : (f.all ++ bs).length ≤ 2097152 := by rw [List.length_append]; have := HLN.out; omega
  have hob7 : OB w7 0 (.slice a1 ln c1) (f.all ++ bs) := HO5.out.blk (fun g hg => (HG7.out.block g (by rw [HZ6'.out.1]; exact HZ5.out.2 g hg) (by
    intro e; injection e with e
    rcases hS' g hg with e1 | e1
    · exact (HVO.out g e1).2.2.1 e
    · have := h3.lt.2.1; omega)).trans (HW6.out g))
  have hbl : ∀ c ∈ bs, c < 256 := HRB.out.1
  have hsz7 : w7.heap.size = w5.heap.size := HZ7.out.trans HZ6'.out.1
  have hfr := HFR.out
  have hrm := H.out.rm
  unfold freeD at hfr
  have hsum0 := H.out.df.sum
  have h8 : DKx (fun k => S k ∨ (Value.slice a1 ln c1).ownBlock = some k) w7 B m mt (D.files (putF D.fs n ⟨f.all ++ bs, f.kept⟩)) M' (fun k => if k = n then .slice a1 ln c1 else V k) := by
    refine h3.putf (v := .slice a1 ln c1) (f := ⟨f.all ++ bs, f.kept⟩) (hgk B h3.lt.1 h3.ne.1 (Ne.symm HNS.out.2.1) (by intro e; exact (HVO.out B e.symm).2.1 rfl)) (hgk mt h3.lt.2.2 (Ne.symm h3.ne.2.2) (Ne.symm HNS.out.2.2.2) (by intro e; exact (HVO.out mt e.symm).2.2.2 rfl)) (fun k g hkn hk hv => hgk g (hlt hk hv) (h3.fne k g hk hv).2.1 (hNk g (h3.df.inS k g hk hv)) ?_) HV7.out HM7.out.1 HM7.out.2 (by first | exact hob7 | simpa using hob7) ?_ ?_ ?_ (fun _ h => .inl h) (fun g hg => .inr hg) ?_ ?_ ?_
    · intro e; rw [← HE.out] at e; exact h3.df.sep n k g (Ne.symm hkn) (by rw [HF.out]; exact Option.some_ne_none _) hk e.symm hv
    · refine ⟨fun c hc => ?_, ?_, HL.out⟩
      · rcases List.mem_append.1 hc with hc | hc
        · exact (H.out.df.ok n f HF.out).1 c hc
        · exact hbl c hc
      · have := (H.out.df.ok n f HF.out).2.1; show f.kept ≤ (f.all ++ bs).length; rw [List.length_append]; omega
    · intro k g hkn hk hv e
      rcases hS' g e with e1 | e1
      · rw [← HE.out] at e1; exact h3.df.sep n k g (Ne.symm hkn) (by rw [HF.out]; exact Option.some_ne_none _) hk e1 hv
      · have := hlt hk hv; omega
    · intro g hg
      rcases hS' g hg with e1 | e1
      · exact (HVO.out g e1).2
      · have h1 := h3.lt; exact ⟨by omega, by omega, by omega⟩
    · have h1 := sum_put_some (L := D.fs) ⟨f.all ++ bs, f.kept⟩ H.out.df.srt HF.out
      simp only [List.length_append] at h1
      split at hfr <;> omega
    · have h1 := len_put_some (L := D.fs) ⟨f.all ++ bs, f.kept⟩ H.out.df.srt HF.out; have := H.out.df.few; omega
    · intro k hk
      rw [hsz7]
      rcases hk with hk | hk
      · have h1 := h3.bd k hk; have h2 := HZ5.out.1; omega
      · exact HZ5.out.2 k hk
  have hfr8 : Fr S w (fun k => S k ∨ (Value.slice a1 ln c1).ownBlock = some k) w7 := by
    have h1 := HB3.out
    refine ⟨⟨HG7.out.os.trans (HZ6'.out.2.1.trans (HW5.out.1.trans h1.os)), HG7.out.tape.trans (HZ6'.out.2.2.1.trans (HW5.out.2.1.trans h1.tape)), HG7.out.output.trans (HZ6'.out.2.2.2.trans (HW5.out.2.2.trans h1.output)), by rw [hsz7]; have := HZ5.out.1; have := h1.size; omega, fun k hk hs => ?_⟩, fun k hk => .inl hk, fun k hk => ?_⟩
    · have hkw : k < w3.heap.size := Nat.lt_of_lt_of_le hk h1.size
      refine (hgk k hkw (fun e => hs (by rw [e]; exact h3.own.2.1)) (fun e => by have := HN.out; omega) (fun e => hs (HVO.out k e.symm).1)).trans (h1.block k hk)
    · rcases hk with hk | hk
      · exact .inl hk
      · rcases hS' k hk with e1 | e1
        · exact .inl (HVO.out k e1).1
        · exact .inr (Nat.le_trans h1.size e1)
  have H8 := Lib.hid h8
  have HFR8 := Lib.hid hfr8
  clear h8 hfr8 hgk h3 hS' hlt hNk hLL hob7 hbl hsz7 hfr hrm hsum0
  go_wp2_with fail
  refine (dstep H8.out (by show D.st < 1000000000; exact HST.out)).mono ?_
  rintro e w9 ⟨rfl, h9, ho9⟩
  have H9 := Lib.hid h9
  have HF9 := Lib.hid (HFR8.out.trans (Fr.same ho9))
  clear h9 ho9
  go_wp2_with fail
  go_ret
  exact ⟨_, rfl, ⟨m, mt, M', _, H9.out⟩, HF9.out⟩
set_option maxRecDepth 100000 in
set_option maxHeartbeats 4000000 in
theorem dappend_ok0 (h : DKx S w B m mt D M V) (hd : D.down = false) {n : Nm} (hv : validN n = true) (hn : getF D.fs n = none) (ab : Option Addr) (cb : Nat) (bs : List Nat) (hm : D.fs.length < 128) (hf : (bs.length : Int) ≤ freeD D) (hrb : RB w (.slice ab bs.length cb) bs) (hst : D.st < 1000000000) : Calls Try.prog 27 #[.pointer (some ⟨B, 0, none⟩), encStr n, .slice ab bs.length cb] w fun e w' => ∃ S', e = .returned (.int .i64 (pw (stepD (D.files (putF D.fs n ⟨bs, 0⟩))).down)) ∧ DK S' w' B (stepD (D.files (putF D.fs n ⟨bs, 0⟩))) ∧ Fr S w S' w' := by
  have g1 : decide (128 ≤ (D.fs.length : Int)) = false := decide_eq_false (by omega)
  have g2 : decide ((D.fs.length : Int) ≥ 128) = false := decide_eq_false (by omega)
  have g3 : decide (128 ≤ D.fs.length) = false := decide_eq_false (by omega)
  have HM := Lib.hid hm
  clear hm
  have k1 : decide (freeD D < (bs.length : Int)) = false := decide_eq_false (by omega)
  have HFR := Lib.hid hf
  have HRB := Lib.hid hrb
  have HST := Lib.hid hst
  clear hf hrb hst
  have hp : pw D.down = 0 := by rw [hd]; rfl
  have H := Lib.hid h
  have HL : Hid (n.length ≤ 100000) := Lib.hid (by unfold validN at hv; have := of_decide_eq_true hv; omega)
  have HG : Hid (M (.string n) = none) := Lib.hid (by rw [h.df.spot n, hn]; rfl)
  have HF := Lib.hid hn
  clear hn h hd
  go_enter Try.func27, Try.ntmps27
  go_wp2_with fail
  refine (dpower_any H.out).mono ?_
  rintro e w1 ⟨rfl, rfl⟩
  rw [hp]
  clear hp
  go_wp2_with fail
  refine (valid_any n _).mono ?_
  rintro e w2 ⟨rfl, rfl⟩
  rw [hv]
  clear hv
  obtain ⟨-, q1, -⟩ := H.out.at
  have hz := fl_zero w
  have hlk := H.out.df.vm.look_ok keyedS fm_und hz (keyS HL.out)
  rw [HG.out] at hlk
  simp only [Option.getD_none, Option.isSome_none] at hlk
  clear hz
  obtain ⟨B2, s2⟩ := boxF (w := w) (.slice none 0 0) (.int .i64 0)
  have H2 := Lib.hid (H.out.below B2)
  have HB2 := Lib.hid B2
  have HS2 := Lib.hid s2
  have q1' := H2.out.at.2.1
  have hlen := H2.out.df.vm.len fm_und 3
  clear B2 s2
  go_wp2_with fail
  obtain ⟨N, hN⟩ : ∃ N, w.heap.size = N := ⟨_, rfl⟩
  have HN := Lib.hid hN
  rw [hN] at HS2
  try rw [hN]
  clear hN q1 hlk
  generalize w.alloc (.cells #[.slice none 0 0, .int .i64 0] 124) = w2 at H2 HB2 HS2 q1' hlen ⊢
  refine (dfree H2.out).mono ?_
  rintro e w3 ⟨rfl, hb3⟩
  have H3 := Lib.hid (H2.out.below hb3)
  have HB3 := Lib.hid (HB2.out.trans (hb3.mono HB2.out.size))
  have HS3 := Lib.hid (ex_below HS2.out hb3)
  have HRB3 := Lib.hid (HRB.out.kept (HB2.out.trans (hb3.mono HB2.out.size)))
  have HNS : Hid (¬ S N ∧ N ≠ B ∧ N ≠ m ∧ N ≠ mt) := Lib.hid (by
    have e := HN.out
    have h1 := H.out.bd
    exact ⟨fun hk => by have := h1 N hk; omega, fun hk => by have := h1 B H.out.own.1; omega, fun hk => by have := h1 m H.out.own.2.1; omega, fun hk => by have := h1 mt H.out.own.2.2; omega⟩)
  clear hb3 H2 HB2 HS2 q1' hlen
  obtain ⟨x0, x1, fr⟩ := two_at HS3.out
  have f0 := fr 0
  clear fr
  have HLN : Hid (([] : List Nat).length ≤ 1048576 ∧ bs.length ≤ 1048576) := Lib.hid (by
    have h1 := HFR.out
    have h2 := H.out.rm
    unfold freeD at h1
    refine ⟨?_, by split at h1 <;> omega⟩
    simp)
  have HO0 : Hid (OB w3 0 (.slice none 0 0) ([] : List Nat)) := Lib.hid (by
    exact World.ownsRow_nil _ _ _ _)
  have HVS : Hid (some N ≠ (.slice none 0 0 : Value).ownBlock) := Lib.hid (by
    intro e; cases e)
  go_wp2_with (at_builtin; refine append_moved rfl (.tmp 47) (.tmp 48) rfl 0 _ _ [] bs rfl rfl HO0.out HRB3.out (by have := HLN.out; omega) (Nat.zero_le _) ?_; go_loud (intro v1 w4 ho1 hg1 hm1; obtain ⟨a1, c1, rfl⟩ := ho1.shp; obtain ⟨ln, hln⟩ : ∃ ln, (([] : List Nat) ++ bs).length = ln := ⟨_, rfl⟩; rw [hln] at ho1 hm1; rw [hln]; have HLE := Lib.hid hln; clear hln; have HO1 := Lib.hid ho1; have hg2 : w3.grownBy w4 (.slice none 0 0 : Value).ownBlock := hg1; have hm2 : Moved (.slice none 0 0) w3 (.slice a1 ln c1) := hm1; have HG1 := Lib.hid hg2; have HMV := Lib.hid hm2; clear hg2 hm2; have HS4 := Lib.hid ((hg1.block N (ex_lt HS3.out) HVS.out).trans HS3.out); have x0' := (two_at HS4.out).1; have f0' := (two_at HS4.out).2.2 0; clear ho1 hg1 hm1))
  clear x0 x1 f0
  have HS5 : Hid ((w4.setCell ⟨N, 0, none⟩ (.slice a1 ln c1)).heap[N]? = some (.cells #[.slice a1 ln c1, .int .i64 0] 124 (0, 0))) := Lib.hid (two_set HS4.out _).1
  have HO5 : Hid (OB (w4.setCell ⟨N, 0, none⟩ (.slice a1 ln c1)) 0 (.slice a1 ln c1) (([] : List Nat) ++ bs)) := Lib.hid (HO1.out.blk (fun g hg => Below.heap_setCell _ _ _ _ (by
    have hN := HN.out
    have h1 := HB3.out.size
    rcases HMV.out with e | e
    · rw [hg] at e; intro e2; have e3 : g = N := e2; rw [e3] at e; exact HVS.out e
    · have h2 := e g hg; have h3 := ex_lt HS3.out; intro e2; have e3 : g = N := e2; omega)))
  have HK5 : Hid (∀ k, k < w3.heap.size → k ≠ N → some k ≠ ((.slice none 0 0) : Value).ownBlock → (w4.setCell ⟨N, 0, none⟩ (.slice a1 ln c1)).heap[k]? = w3.heap[k]?) := Lib.hid (fun k hk hn ho => (Below.heap_setCell _ _ _ _ (by exact hn)).trans (HG1.out.block k hk ho))
  have HZ5 : Hid (w3.heap.size ≤ (w4.setCell ⟨N, 0, none⟩ (.slice a1 ln c1)).heap.size ∧ ∀ g, (Value.slice a1 ln c1).ownBlock = some g → g < (w4.setCell ⟨N, 0, none⟩ (.slice a1 ln c1)).heap.size) := Lib.hid ⟨by have := HG1.out.size; simpa using this, fun g hg => by have := (HO1.out.lt hg).2; simpa using this⟩
  have HW5 : Hid ((w4.setCell ⟨N, 0, none⟩ (.slice a1 ln c1)).os = w3.os ∧ (w4.setCell ⟨N, 0, none⟩ (.slice a1 ln c1)).tape = w3.tape ∧ (w4.setCell ⟨N, 0, none⟩ (.slice a1 ln c1)).output = w3.output) := Lib.hid ⟨HG1.out.os, HG1.out.tape, HG1.out.output⟩
  clear HO1 HG1 HS4
  generalize w4.setCell ⟨N, 0, none⟩ (.slice a1 ln c1) = w5 at HS5 HO5 HK5 HZ5 HW5 ⊢
  have hVO : ∀ g, ((.slice none 0 0) : Value).ownBlock = some g → S g ∧ g ≠ B ∧ g ≠ m ∧ g ≠ mt := by
    intro g hg; cases hg
  have HVO := Lib.hid hVO
  clear hVO
  have hB5 : w5.heap[B]? = w3.heap[B]? := HK5.out B H3.out.lt.1 (Ne.symm HNS.out.2.1) (by intro e; exact (HVO.out B e.symm).2.1 rfl)
  have hm5 : w5.heap[m]? = w3.heap[m]? := HK5.out m H3.out.lt.2.1 (Ne.symm HNS.out.2.2.1) (by intro e; exact (HVO.out m e.symm).2.2.1 rfl)
  have hmt5 : w5.heap[mt]? = w3.heap[mt]? := HK5.out mt H3.out.lt.2.2 (Ne.symm HNS.out.2.2.2) (by intro e; exact (HVO.out mt e.symm).2.2.2 rfl)
  have HH5 := Lib.hid (And.intro hB5 (And.intro hm5 hmt5))
  have HS0 : Hid ((fun W : World => W.heap[B]? = some (.cells (DC D m mt).toArray 107 (0, 0)) ∧ W.heap[N]? = some (.cells #[.slice a1 ln c1, .int .i64 0] 124 (0, 0))) w5.drew) := Lib.hid ⟨hB5.trans H3.out.cells, HS5.out⟩
  have HVM : Hid (VM 9 w5.drew m D.fs.length M) := Lib.hid (H3.out.df.vm.block (w' := w5.drew) hm5)
  have HW6 : Hid (∀ g : Nat, w5.drew.heap[g]? = w5.heap[g]?) := Lib.hid (fun _ => rfl)
  have HZ6' : Hid (w5.drew.heap.size = w5.heap.size ∧ w5.drew.os = w5.os ∧ w5.drew.tape = w5.tape ∧ w5.drew.output = w5.output) := Lib.hid ⟨rfl, rfl, rfl, rfl⟩
  clear hB5 hm5 hmt5
  refine wp_region_held_drew (S := (fun W : World => W.heap[B]? = some (.cells (DC D m mt).toArray 107 (0, 0)) ∧ W.heap[N]? = some (.cells #[.slice a1 ln c1, .int .i64 0] 124 (0, 0)))) (by kernel_rfl) HS0.out (fun hHeld => ?_)
  clear hHeld
  generalize w5.drew = w6 at HS0 HVM HW6 HZ6' ⊢
  refine wpAnyH_take (i := 0) (oi := { dst := some 51, op := Go.Op.move (Go.Operand.tmp 0), type := 24, pos := "disk.go:69", after := #[], guard := none }) (v := ?_) rfl (by kernel_rfl) (by kernel_rfl) (by kernel_rfl) (fun _ _ _ h => h) (Or.inl ⟨by rfl, ?_⟩) HS0.out ?_
  case refine_2 => (intro w1 hS1; clear hS1; go_simp; try with_reducible rfl)
  try simp only [Act.put, List.setIfInBounds_toArray, List.set_cons_zero, List.set_cons_succ]
  refine wpAnyH_take (i := 1) (oi := { dst := some 52, op := Go.Op.nilCheck (Go.Operand.tmp 51), type := 0, pos := "disk.go:69", after := #[{ on := 0, ground := Go.Ground.data }], guard := none }) (v := ?_) rfl (by kernel_rfl) (by kernel_rfl) (by kernel_rfl) (fun _ _ _ h => h) (Or.inl ⟨by rfl, ?_⟩) HS0.out ?_
  case refine_2 => (intro w1 hS1; clear hS1; go_simp; try with_reducible rfl)
  try simp only [Act.put, List.setIfInBounds_toArray, List.set_cons_zero, List.set_cons_succ]
  refine wpAnyH_take (i := 2) (oi := { dst := some 53, op := Go.Op.fieldAddr 107 (Go.Operand.tmp 52) 1, type := 0, pos := "disk.go:69", after := #[{ on := 1, ground := Go.Ground.data }], guard := none }) (v := ?_) rfl (by kernel_rfl) (by kernel_rfl) (by kernel_rfl) (fun _ _ _ h => h) (Or.inl ⟨by rfl, ?_⟩) HS0.out ?_
  case refine_2 => (intro w1 hS1; clear hS1; go_simp; try with_reducible rfl)
  try simp only [Act.put, List.setIfInBounds_toArray, List.set_cons_zero, List.set_cons_succ]
  refine wpAnyH_take (i := 3) (oi := { dst := some 54, op := Go.Op.load 103 (Go.Operand.tmp 53), type := 103, pos := "disk.go:69", after := #[{ on := 2, ground := Go.Ground.data }], guard := none }) (v := ?_) rfl (by kernel_rfl) (by kernel_rfl) (by kernel_rfl) (fun _ _ _ h => h) (Or.inl ⟨by rfl, ?_⟩) HS0.out ?_
  case refine_2 => (intro w1 hS1; obtain ⟨hb1, -⟩ := hS1; have c1 : w1.cell? ⟨B, 1, none⟩ = some (.map (some m)) := (by simp only [World.cell?, hb1]; rfl); clear hb1; go_simp; try with_reducible rfl)
  try simp only [Act.put, List.setIfInBounds_toArray, List.set_cons_zero, List.set_cons_succ]
  refine wpAnyH_take (i := 4) (oi := { dst := some 55, op := Go.Op.move (Go.Operand.tmp 1), type := 9, pos := "disk.go:69", after := #[], guard := none }) (v := ?_) rfl (by kernel_rfl) (by kernel_rfl) (by kernel_rfl) (fun _ _ _ h => h) (Or.inl ⟨by rfl, ?_⟩) HS0.out ?_
  case refine_2 => (intro w1 hS1; clear hS1; go_simp; try with_reducible rfl)
  try simp only [Act.put, List.setIfInBounds_toArray, List.set_cons_zero, List.set_cons_succ]
  refine wpAnyH_take (i := 5) (oi := { dst := some 56, op := Go.Op.load 124 (Go.Operand.tmp 8), type := 124, pos := "disk.go:69", after := #[], guard := none }) (v := .agg #[.slice a1 ln c1, .int .i64 0]) rfl (by kernel_rfl) (by kernel_rfl) (by kernel_rfl) (fun _ _ _ h => h) (Or.inl ⟨by rfl, ?_⟩) HS0.out ?_
  case refine_1 => (intro w1 hS1; obtain ⟨-, hb2⟩ := hS1; obtain ⟨z0, z1, -⟩ := two_at hb2; clear hb2; go_simp; try with_reducible rfl)
  try simp only [Act.put, List.setIfInBounds_toArray, List.set_cons_zero, List.set_cons_succ]
  obtain ⟨M', hM1, hM2⟩ := upV M (.string n) (some (.agg #[.slice a1 ln c1, .int .i64 0]))
  obtain ⟨w7, hrun, hv7, hg7, hz7⟩ := HVM.out.put keyedS fm_und (by have := H.out.df.few; unfold maxLen; omega) (keyS HL.out) (.agg #[.slice a1 ln c1, .int .i64 0]) hM1 hM2
  have HS7 : Hid ((fun W : World => W.heap[B]? = some (.cells (DC D m mt).toArray 107 (0, 0)) ∧ W.heap[N]? = some (.cells #[.slice a1 ln c1, .int .i64 0] 124 (0, 0))) w7) := Lib.hid ⟨(hg7.block B (by rw [HZ6'.out.1]; have := HZ5.out.1; have := H3.out.lt.1; omega) (by intro e; injection e with e; exact H.out.ne.1 e)).trans HS0.out.1, (hg7.block N (ex_lt HS0.out.2) (by intro e; injection e with e; exact HNS.out.2.2.1 e)).trans HS0.out.2⟩
  refine wpAnyH_ready (rs := [6]) (by kernel_rfl) (by simp) ?_
  refine AllReadyH.cons (o := { dst := none, op := Go.Op.mapUpdate 103 (Go.Operand.tmp 54) (Go.Operand.tmp 55) (Go.Operand.tmp 56), type := 0, pos := "disk.go:69", after := #[{ on := 3, ground := Go.Ground.data }, { on := 4, ground := Go.Ground.data }, { on := 5, ground := Go.Ground.data }, { on := 0, ground := Go.Ground.phase }, { on := 1, ground := Go.Ground.phase }, { on := 2, ground := Go.Ground.phase }, { on := 3, ground := Go.Ground.phase }, { on := 4, ground := Go.Ground.phase }, { on := 5, ground := Go.Ground.phase }], guard := none }) rfl (fun K hK => ?_) AllReadyH.nil
  go_simp
  have HV7 := Lib.hid hv7
  have HG7 := Lib.hid hg7
  have HM7 := Lib.hid (And.intro hM1 hM2)
  have HZ7 := Lib.hid hz7
  clear hv7 hg7 hM1 hM2 hz7 HS0
  have HS0 := HS7
  clear HS7
  refine hK.out _ _ HS0.out (fun hHeld => ?_)
  clear hrun hK K hHeld
  try simp only [Act.put, List.setIfInBounds_toArray, List.set_cons_zero, List.set_cons_succ]
  refine wpAnyH_done (by kernel_rfl) ?_ _
  have hgk : ∀ k, k < w3.heap.size → k ≠ m → k ≠ N → some k ≠ ((.slice none 0 0) : Value).ownBlock → w7.heap[k]? = w3.heap[k]? := fun k hk hkm hkn hko => ((HG7.out.block k (by rw [HZ6'.out.1]; have := HZ5.out.1; omega) (by intro e; injection e with e; exact hkm e)).trans (HW6.out k)).trans (HK5.out k hk hkn hko)
  have h3 := H3.out
  have hS' : ∀ g, (Value.slice a1 ln c1).ownBlock = some g → ((.slice none 0 0) : Value).ownBlock = some g ∨ w3.heap.size ≤ g := fun g hg => by
    rcases HMV.out with e | e
    · exact .inl (by rw [← e]; exact hg)
    · exact .inr (e g hg)
  have hlt : ∀ {k : Nm} {g : Nat}, getF D.fs k ≠ none → (V k).ownBlock = some g → g < w3.heap.size := fun hk hv => h3.df.lt hk hv
  have hNk : ∀ k, S k → k ≠ N := fun k hk e => HNS.out.1 (by rw [← e]; exact hk)
  have hLL : (([] : List Nat) ++ bs).length ≤ 2097152 := by rw [List.length_append]; have := HLN.out; omega
  have hob7 : OB w7 0 (.slice a1 ln c1) (([] : List Nat) ++ bs) := HO5.out.blk (fun g hg => (HG7.out.block g (by rw [HZ6'.out.1]; exact HZ5.out.2 g hg) (by
    intro e; injection e with e
    rcases hS' g hg with e1 | e1
    · exact (HVO.out g e1).2.2.1 e
    · have := h3.lt.2.1; omega)).trans (HW6.out g))
  have hbl : ∀ c ∈ bs, c < 256 := HRB.out.1
  have hsz7 : w7.heap.size = w5.heap.size := HZ7.out.trans HZ6'.out.1
  have hfr := HFR.out
  have hrm := H.out.rm
  unfold freeD at hfr
  have hsum0 := H.out.df.sum
  have h8 : DKx (fun k => S k ∨ (Value.slice a1 ln c1).ownBlock = some k) w7 B m mt (D.files (putF D.fs n ⟨bs, 0⟩)) M' (fun k => if k = n then .slice a1 ln c1 else V k) := by
    refine h3.putf (v := .slice a1 ln c1) (f := ⟨bs, 0⟩) (hgk B h3.lt.1 h3.ne.1 (Ne.symm HNS.out.2.1) (by intro e; exact (HVO.out B e.symm).2.1 rfl)) (hgk mt h3.lt.2.2 (Ne.symm h3.ne.2.2) (Ne.symm HNS.out.2.2.2) (by intro e; exact (HVO.out mt e.symm).2.2.2 rfl)) (fun k g hkn hk hv => hgk g (hlt hk hv) (h3.fne k g hk hv).2.1 (hNk g (h3.df.inS k g hk hv)) ?_) HV7.out HM7.out.1 HM7.out.2 (by first | exact hob7 | simpa using hob7) ?_ ?_ ?_ (fun _ h => .inl h) (fun g hg => .inr hg) ?_ ?_ ?_
    · intro e; cases e
    · refine ⟨fun c hc => ?_, ?_, HL.out⟩
      · exact hbl c hc
      · exact Nat.zero_le _
    · intro k g hkn hk hv e
      rcases hS' g e with e1 | e1
      · cases e1
      · have := hlt hk hv; omega
    · intro g hg
      rcases hS' g hg with e1 | e1
      · exact (HVO.out g e1).2
      · have h1 := h3.lt; exact ⟨by omega, by omega, by omega⟩
    · have h1 := sum_put_none (L := D.fs) ⟨bs, 0⟩ HF.out
      simp only at h1
      split at hfr <;> omega
    · have h1 := len_put_none (L := D.fs) ⟨bs, 0⟩ HF.out; have := HM.out; omega
    · intro k hk
      rw [hsz7]
      rcases hk with hk | hk
      · have h1 := h3.bd k hk; have h2 := HZ5.out.1; omega
      · exact HZ5.out.2 k hk
  have hfr8 : Fr S w (fun k => S k ∨ (Value.slice a1 ln c1).ownBlock = some k) w7 := by
    have h1 := HB3.out
    refine ⟨⟨HG7.out.os.trans (HZ6'.out.2.1.trans (HW5.out.1.trans h1.os)), HG7.out.tape.trans (HZ6'.out.2.2.1.trans (HW5.out.2.1.trans h1.tape)), HG7.out.output.trans (HZ6'.out.2.2.2.trans (HW5.out.2.2.trans h1.output)), by rw [hsz7]; have := HZ5.out.1; have := h1.size; omega, fun k hk hs => ?_⟩, fun k hk => .inl hk, fun k hk => ?_⟩
    · have hkw : k < w3.heap.size := Nat.lt_of_lt_of_le hk h1.size
      refine (hgk k hkw (fun e => hs (by rw [e]; exact h3.own.2.1)) (fun e => by have := HN.out; omega) (fun e => hs (HVO.out k e.symm).1)).trans (h1.block k hk)
    · rcases hk with hk | hk
      · exact .inl hk
      · rcases hS' k hk with e1 | e1
        · exact .inl (HVO.out k e1).1
        · exact .inr (Nat.le_trans h1.size e1)
  have H8 := Lib.hid h8
  have HFR8 := Lib.hid hfr8
  clear h8 hfr8 hgk h3 hS' hlt hNk hLL hob7 hbl hsz7 hfr hrm hsum0
  go_wp2_with fail
  refine (dstep H8.out (by show D.st < 1000000000; exact HST.out)).mono ?_
  rintro e w9 ⟨rfl, h9, ho9⟩
  have H9 := Lib.hid h9
  have HF9 := Lib.hid (HFR8.out.trans (Fr.same ho9))
  clear h9 ho9
  go_wp2_with fail
  go_ret
  exact ⟨_, rfl, ⟨m, mt, M', _, H9.out⟩, HF9.out⟩
end
end Go.Proofs.Ythkjjpkipeeimaa
