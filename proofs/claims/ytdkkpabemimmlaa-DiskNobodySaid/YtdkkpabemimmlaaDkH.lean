/- The disk: Read, Sync, Remove. -/
import Derived.Test.YtdkkpabemimmlaaDkG
import Derived.Deep.RegionHeld
namespace Go.Proofs.Ytdkkpabemimmlaa
open Go.RowKit Go.Maps
theorem only_new {S : Nat → Prop} {w w' : World} (h : Only S w w') {N : Nat} (hN : w.heap.size ≤ N) (i : Nat) (v : Value) : Only S w (w'.setCell ⟨N, i, none⟩ v) :=
  ⟨h.os, h.tape, h.output, by have := h.size; simpa using this, fun k hk hx => (Below.heap_setCell _ _ _ _ (by show k ≠ N; omega)).trans (h.block k hk hx)⟩
theorem only_grown {S : Nat → Prop} {w w' w2 : World} (h : Only S w w') {m : Nat} (hg : w'.grownBy w2 (some m)) (hm : S m) : Only S w w2 :=
  ⟨hg.os.trans h.os, hg.tape.trans h.tape, hg.output.trans h.output, Nat.le_trans h.size hg.size, fun k hk hx => (hg.block k (Nat.lt_of_lt_of_le hk h.size) (fun e => hx (by injection e with e; rw [e]; exact hm))).trans (h.block k hk hx)⟩
theorem only_then {S : Nat → Prop} {w w1 w2 : World} (hb : Below w.heap.size w w1) (h : Only S w1 w2) : Only S w w2 := Only.trans (Only.below hb) h
/-- What a call of a disk told, and what it made of it. -/
def Did (S : Nat → Prop) (w : World) (B : Nat) (e : Ending) (w' : World) (r : Dd × Int) : Prop := ∃ S', e = .returned (.int .i64 r.2) ∧ DK S' w' B r.1 ∧ Fr S w S' w'
def syncD (D : Dd) (n : Nm) : Dd × Int := if D.down then (D, 50) else match getF D.fs n with
  | none => (D, 31)
  | some f => if (stepD D).down then (stepD D, 50) else ((stepD D).files (putF D.fs n ⟨f.all, f.all.length⟩), 0)
def removeD (D : Dd) (n : Nm) : Dd × Int := if D.down then (D, 50) else match getF D.fs n with
  | none => (D, 31)
  | some _ => if (stepD D).down then (stepD D, 50) else ((stepD D).files (delF D.fs n), 0)
def cutD (D : Dd) (n : Nm) (k : Int) : Dd × Int := if D.down then (D, 50) else match getF D.fs n with
  | none => (D, 31)
  | some f => if k < 0 ∨ (f.all.length : Int) < k then (D, 2) else if (stepD D).down then (stepD D, 50) else ((stepD D).files (putF D.fs n ⟨f.all.take k.toNat, min f.kept k.toNat⟩), 0)
def moveD (D : Dd) (a b : Nm) : Dd × Int := if D.down then (D, 50) else match getF D.fs a with
  | none => (D, 31)
  | some f => if validN b = false then (D, 2) else if (stepD D).down then (stepD D, 50) else ((stepD D).files (putF (delF D.fs a) b f), 0)
theorem boxF {w : World} (x y : Value) : Below w.heap.size w (w.alloc (.cells #[x, y] 114)) ∧ (w.alloc (.cells #[x, y] 114)).heap[w.heap.size]? = some (.cells #[x, y] 114 (0, 0)) := ⟨(box1 w _ _).1, (box1 w _ _).2.1⟩
section
variable {S : Nat → Prop} {w : World} {B m mt : Nat} {D : Dd} {M : Lit → Option Value} {V : Nm → Value}
set_option maxRecDepth 100000 in
theorem dsync_down (h : DKx S w B m mt D M V) (hd : D.down = true) (n : Nm) : Calls Try.prog 27 #[.pointer (some ⟨B, 0, none⟩), encStr n] w fun e w' => e = .returned (.int .i64 50) ∧ Below w.heap.size w w' := by
  have HF := Lib.hid (dfind_down h hd n)
  clear h hd
  go_enter Try.func27, Try.ntmps27
  go_wp2_with fail
  refine HF.out.mono ?_
  rintro e w1 ⟨rfl, hb⟩
  have hz : zF = .agg #[.slice none 0 0, .int .i64 0] := rfl
  rw [hz]
  clear hz
  have HB := Lib.hid (hb.trans ((boxF (w := w1) (.slice none 0 0) (.int .i64 0)).1.mono hb.size))
  clear hb HF
  go_wp2_with fail
  go_ret
  exact ⟨rfl, HB.out⟩
set_option maxRecDepth 100000 in
theorem dsync_none (h : DKx S w B m mt D M V) (hd : D.down = false) {n : Nm} (hl : n.length ≤ 100000) (hn : getF D.fs n = none) : Calls Try.prog 27 #[.pointer (some ⟨B, 0, none⟩), encStr n] w fun e w' => e = .returned (.int .i64 31) ∧ Below w.heap.size w w' := by
  have HF := Lib.hid (dfind_none h hd hl hn)
  clear h hd hl hn
  go_enter Try.func27, Try.ntmps27
  go_wp2_with fail
  refine HF.out.mono ?_
  rintro e w1 ⟨rfl, hb⟩
  have hz : zF = .agg #[.slice none 0 0, .int .i64 0] := rfl
  rw [hz]
  clear hz
  have HB := Lib.hid (hb.trans ((boxF (w := w1) (.slice none 0 0) (.int .i64 0)).1.mono hb.size))
  clear hb HF
  go_wp2_with fail
  go_ret
  exact ⟨rfl, HB.out⟩
set_option maxRecDepth 100000 in
theorem dremove_down (h : DKx S w B m mt D M V) (hd : D.down = true) (n : Nm) : Calls Try.prog 29 #[.pointer (some ⟨B, 0, none⟩), encStr n] w fun e w' => e = .returned (.int .i64 50) ∧ Below w.heap.size w w' := by
  have HF := Lib.hid (dfind_down h hd n)
  clear h hd
  go_enter Try.func29, Try.ntmps29
  go_wp2_with fail
  refine HF.out.mono ?_
  rintro e w1 ⟨rfl, hb⟩
  have hz : zF = .agg #[.slice none 0 0, .int .i64 0] := rfl
  rw [hz]
  clear hz
  have HB := Lib.hid (hb.trans ((boxF (w := w1) (.slice none 0 0) (.int .i64 0)).1.mono hb.size))
  clear hb HF
  go_wp2_with fail
  go_ret
  exact ⟨rfl, HB.out⟩
set_option maxRecDepth 100000 in
theorem dremove_none (h : DKx S w B m mt D M V) (hd : D.down = false) {n : Nm} (hl : n.length ≤ 100000) (hn : getF D.fs n = none) : Calls Try.prog 29 #[.pointer (some ⟨B, 0, none⟩), encStr n] w fun e w' => e = .returned (.int .i64 31) ∧ Below w.heap.size w w' := by
  have HF := Lib.hid (dfind_none h hd hl hn)
  clear h hd hl hn
  go_enter Try.func29, Try.ntmps29
  go_wp2_with fail
  refine HF.out.mono ?_
  rintro e w1 ⟨rfl, hb⟩
  have hz : zF = .agg #[.slice none 0 0, .int .i64 0] := rfl
  rw [hz]
  clear hz
  have HB := Lib.hid (hb.trans ((boxF (w := w1) (.slice none 0 0) (.int .i64 0)).1.mono hb.size))
  clear hb HF
  go_wp2_with fail
  go_ret
  exact ⟨rfl, HB.out⟩
set_option maxRecDepth 100000 in
theorem dcut_down (h : DKx S w B m mt D M V) (hd : D.down = true) (n : Nm) (k : Int) : Calls Try.prog 28 #[.pointer (some ⟨B, 0, none⟩), encStr n, .int .i64 k] w fun e w' => e = .returned (.int .i64 50) ∧ Below w.heap.size w w' := by
  have HF := Lib.hid (dfind_down h hd n)
  clear h hd
  go_enter Try.func28, Try.ntmps28
  go_wp2_with fail
  refine HF.out.mono ?_
  rintro e w1 ⟨rfl, hb⟩
  have hz : zF = .agg #[.slice none 0 0, .int .i64 0] := rfl
  rw [hz]
  clear hz
  have HB := Lib.hid (hb.trans ((boxF (w := w1) (.slice none 0 0) (.int .i64 0)).1.mono hb.size))
  clear hb HF
  go_wp2_with fail
  go_ret
  exact ⟨rfl, HB.out⟩
set_option maxRecDepth 100000 in
theorem dcut_none (h : DKx S w B m mt D M V) (hd : D.down = false) {n : Nm} (hl : n.length ≤ 100000) (hn : getF D.fs n = none) (k : Int) : Calls Try.prog 28 #[.pointer (some ⟨B, 0, none⟩), encStr n, .int .i64 k] w fun e w' => e = .returned (.int .i64 31) ∧ Below w.heap.size w w' := by
  have HF := Lib.hid (dfind_none h hd hl hn)
  clear h hd hl hn
  go_enter Try.func28, Try.ntmps28
  go_wp2_with fail
  refine HF.out.mono ?_
  rintro e w1 ⟨rfl, hb⟩
  have hz : zF = .agg #[.slice none 0 0, .int .i64 0] := rfl
  rw [hz]
  clear hz
  have HB := Lib.hid (hb.trans ((boxF (w := w1) (.slice none 0 0) (.int .i64 0)).1.mono hb.size))
  clear hb HF
  go_wp2_with fail
  go_ret
  exact ⟨rfl, HB.out⟩
set_option maxRecDepth 100000 in
theorem dmove_down (h : DKx S w B m mt D M V) (hd : D.down = true) (n : Nm) (n2 : Nm) : Calls Try.prog 30 #[.pointer (some ⟨B, 0, none⟩), encStr n, encStr n2] w fun e w' => e = .returned (.int .i64 50) ∧ Below w.heap.size w w' := by
  have HF := Lib.hid (dfind_down h hd n)
  clear h hd
  go_enter Try.func30, Try.ntmps30
  go_wp2_with fail
  refine HF.out.mono ?_
  rintro e w1 ⟨rfl, hb⟩
  have hz : zF = .agg #[.slice none 0 0, .int .i64 0] := rfl
  rw [hz]
  clear hz
  have HB := Lib.hid (hb.trans ((boxF (w := w1) (.slice none 0 0) (.int .i64 0)).1.mono hb.size))
  clear hb HF
  go_wp2_with fail
  go_ret
  exact ⟨rfl, HB.out⟩
set_option maxRecDepth 100000 in
theorem dmove_none (h : DKx S w B m mt D M V) (hd : D.down = false) {n : Nm} (hl : n.length ≤ 100000) (hn : getF D.fs n = none) (n2 : Nm) : Calls Try.prog 30 #[.pointer (some ⟨B, 0, none⟩), encStr n, encStr n2] w fun e w' => e = .returned (.int .i64 31) ∧ Below w.heap.size w w' := by
  have HF := Lib.hid (dfind_none h hd hl hn)
  clear h hd hl hn
  go_enter Try.func30, Try.ntmps30
  go_wp2_with fail
  refine HF.out.mono ?_
  rintro e w1 ⟨rfl, hb⟩
  have hz : zF = .agg #[.slice none 0 0, .int .i64 0] := rfl
  rw [hz]
  clear hz
  have HB := Lib.hid (hb.trans ((boxF (w := w1) (.slice none 0 0) (.int .i64 0)).1.mono hb.size))
  clear hb HF
  go_wp2_with fail
  go_ret
  exact ⟨rfl, HB.out⟩
set_option maxRecDepth 100000 in
theorem dread_down (h : DKx S w B m mt D M V) (hd : D.down = true) (n : Nm) : Calls Try.prog 33 #[.pointer (some ⟨B, 0, none⟩), encStr n] w fun e w' => e = .returned (.tuple #[.slice none 0 0, .int .i64 50]) ∧ Below w.heap.size w w' := by
  have HF := Lib.hid (dfind_down h hd n)
  clear h hd
  go_enter Try.func33, Try.ntmps33
  go_wp2_with fail
  refine HF.out.mono ?_
  rintro e w1 ⟨rfl, hb⟩
  have hz : zF = .agg #[.slice none 0 0, .int .i64 0] := rfl
  rw [hz]
  clear hz
  have HB := Lib.hid (hb.trans ((boxF (w := w1) (.slice none 0 0) (.int .i64 0)).1.mono hb.size))
  clear hb HF
  go_wp2_with fail
  go_ret2
  exact ⟨rfl, HB.out⟩
set_option maxRecDepth 100000 in
theorem dread_none (h : DKx S w B m mt D M V) (hd : D.down = false) {n : Nm} (hl : n.length ≤ 100000) (hn : getF D.fs n = none) : Calls Try.prog 33 #[.pointer (some ⟨B, 0, none⟩), encStr n] w fun e w' => e = .returned (.tuple #[.slice none 0 0, .int .i64 31]) ∧ Below w.heap.size w w' := by
  have HF := Lib.hid (dfind_none h hd hl hn)
  clear h hd hl hn
  go_enter Try.func33, Try.ntmps33
  go_wp2_with fail
  refine HF.out.mono ?_
  rintro e w1 ⟨rfl, hb⟩
  have hz : zF = .agg #[.slice none 0 0, .int .i64 0] := rfl
  rw [hz]
  clear hz
  have HB := Lib.hid (hb.trans ((boxF (w := w1) (.slice none 0 0) (.int .i64 0)).1.mono hb.size))
  clear hb HF
  go_wp2_with fail
  go_ret2
  exact ⟨rfl, HB.out⟩
set_option maxRecDepth 100000 in
theorem dsync_sd (h : DKx S w B m mt D M V) (hd : D.down = false) {n : Nm} (hl : n.length ≤ 100000) {f : Fl} (hf : getF D.fs n = some f) (hst : D.st < 1000000000) (hs : (stepD D).down = true) : Calls Try.prog 27 #[.pointer (some ⟨B, 0, none⟩), encStr n] w fun e w' => e = .returned (.int .i64 50) ∧ DKx S w' B m mt (stepD D) M V ∧ Only S w w' := by
  obtain ⟨a, c, e1, e2⟩ := h.file hf
  have HE := Lib.hid e1
  have HV : Hid (fV (V n) f.kept = .agg #[.slice a f.all.length c, .int .i64 (f.kept : Int)]) := Lib.hid (by rw [e1]; rfl)
  have H := Lib.hid h
  have HD := Lib.hid hd
  have HL := Lib.hid hl
  have HF := Lib.hid hf
  have HST := Lib.hid hst
  clear h hd hl hf hst e1 e2
  go_enter Try.func27, Try.ntmps27
  go_wp2_with fail
  refine (dfind_some H.out HD.out HL.out HF.out).mono ?_
  rintro e w1 ⟨rfl, hb⟩
  rw [HV.out]
  have H1 := Lib.hid (H.out.below hb)
  obtain ⟨B2, s2⟩ := boxF (w := w1) (.slice a f.all.length c) (.int .i64 (f.kept : Int))
  have H2 := Lib.hid (H1.out.below B2)
  have HB2 := Lib.hid (hb.trans (B2.mono hb.size))
  have HS2 := Lib.hid s2
  have HN2 : Hid (∀ k, S k → k < w1.heap.size) := Lib.hid H1.out.bd
  have HN3 : Hid (w.heap.size ≤ w1.heap.size) := Lib.hid hb.size
  clear hb B2 s2 H1
  go_wp2_with fail
  obtain ⟨N, hN⟩ : ∃ N, w1.heap.size = N := ⟨_, rfl⟩
  rw [hN] at HS2 HN2 HN3
  try rw [hN]
  clear hN
  generalize w1.alloc (.cells #[.slice a f.all.length c, .int .i64 (f.kept : Int)] 114) = w2 at H2 HB2 HS2 ⊢
  refine (dstep H2.out HST.out).mono ?_
  rintro e w3 ⟨rfl, h3, ho3⟩
  have H3 := Lib.hid h3
  have HO3 := Lib.hid (only_then HB2.out ho3)
  have HS3 : Hid (w3.heap[N]? = some (.cells #[.slice a f.all.length c, .int .i64 (f.kept : Int)] 114 (0, 0))) := Lib.hid ((ho3.block N (ex_lt HS2.out) (fun e => by have := HN2.out N e; omega)).trans HS2.out)
  have HNB : Hid (N ≠ B ∧ N ≠ m ∧ N ≠ mt ∧ ¬ S N) := Lib.hid (by
    have h1 := HN2.out B h3.own.1
    have h2 := HN2.out m h3.own.2.1
    have h3' := HN2.out mt h3.own.2.2
    exact ⟨by omega, by omega, by omega, fun e => by have := HN2.out N e; omega⟩)
  clear h3 ho3 HS2 H2 
  have hp : pw (stepD D).down = 50 := by rw [hs]; rfl
  rw [hp]
  clear hp hs
  go_wp2_with fail
  go_ret
  exact ⟨rfl, H3.out, HO3.out⟩
set_option maxRecDepth 100000 in
theorem dremove_sd (h : DKx S w B m mt D M V) (hd : D.down = false) {n : Nm} (hl : n.length ≤ 100000) {f : Fl} (hf : getF D.fs n = some f) (hst : D.st < 1000000000) (hs : (stepD D).down = true) : Calls Try.prog 29 #[.pointer (some ⟨B, 0, none⟩), encStr n] w fun e w' => e = .returned (.int .i64 50) ∧ DKx S w' B m mt (stepD D) M V ∧ Only S w w' := by
  obtain ⟨a, c, e1, e2⟩ := h.file hf
  have HE := Lib.hid e1
  have HV : Hid (fV (V n) f.kept = .agg #[.slice a f.all.length c, .int .i64 (f.kept : Int)]) := Lib.hid (by rw [e1]; rfl)
  have H := Lib.hid h
  have HD := Lib.hid hd
  have HL := Lib.hid hl
  have HF := Lib.hid hf
  have HST := Lib.hid hst
  clear h hd hl hf hst e1 e2
  go_enter Try.func29, Try.ntmps29
  go_wp2_with fail
  refine (dfind_some H.out HD.out HL.out HF.out).mono ?_
  rintro e w1 ⟨rfl, hb⟩
  rw [HV.out]
  have H1 := Lib.hid (H.out.below hb)
  obtain ⟨B2, s2⟩ := boxF (w := w1) (.slice a f.all.length c) (.int .i64 (f.kept : Int))
  have H2 := Lib.hid (H1.out.below B2)
  have HB2 := Lib.hid (hb.trans (B2.mono hb.size))
  have HS2 := Lib.hid s2
  have HN2 : Hid (∀ k, S k → k < w1.heap.size) := Lib.hid H1.out.bd
  have HN3 : Hid (w.heap.size ≤ w1.heap.size) := Lib.hid hb.size
  clear hb B2 s2 H1
  go_wp2_with fail
  obtain ⟨N, hN⟩ : ∃ N, w1.heap.size = N := ⟨_, rfl⟩
  rw [hN] at HS2 HN2 HN3
  try rw [hN]
  clear hN
  generalize w1.alloc (.cells #[.slice a f.all.length c, .int .i64 (f.kept : Int)] 114) = w2 at H2 HB2 HS2 ⊢
  refine (dstep H2.out HST.out).mono ?_
  rintro e w3 ⟨rfl, h3, ho3⟩
  have H3 := Lib.hid h3
  have HO3 := Lib.hid (only_then HB2.out ho3)
  have HS3 : Hid (w3.heap[N]? = some (.cells #[.slice a f.all.length c, .int .i64 (f.kept : Int)] 114 (0, 0))) := Lib.hid ((ho3.block N (ex_lt HS2.out) (fun e => by have := HN2.out N e; omega)).trans HS2.out)
  have HNB : Hid (N ≠ B ∧ N ≠ m ∧ N ≠ mt ∧ ¬ S N) := Lib.hid (by
    have h1 := HN2.out B h3.own.1
    have h2 := HN2.out m h3.own.2.1
    have h3' := HN2.out mt h3.own.2.2
    exact ⟨by omega, by omega, by omega, fun e => by have := HN2.out N e; omega⟩)
  clear h3 ho3 HS2 H2 
  have hp : pw (stepD D).down = 50 := by rw [hs]; rfl
  rw [hp]
  clear hp hs
  go_wp2_with fail
  go_ret
  exact ⟨rfl, H3.out, HO3.out⟩
end
end Go.Proofs.Ytdkkpabemimmlaa
