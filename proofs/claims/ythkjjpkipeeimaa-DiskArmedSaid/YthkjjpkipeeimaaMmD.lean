import Derived.Test.YthkjjpkipeeimaaDkG
import Derived.Deep.RegionHeld
namespace Go.Proofs.Ythkjjpkipeeimaa
open Go.RowKit
/- The disk: Read, Sync, Remove. -/
open Go.RowKit Go.Maps
theorem only_new {S : Nat → Prop} {w w' : World} (h : Only S w w') {N : Nat} (hN : w.heap.size ≤ N) (i : Nat) (v : Value) : Only S w (w'.setCell ⟨N, i, none⟩ v) :=
  ⟨h.os, h.tape, h.output, by have := h.size; simpa using this, fun k hk hx => (Below.heap_setCell _ _ _ _ (by show k ≠ N; omega)).trans (h.block k hk hx)⟩
theorem only_grown {S : Nat → Prop} {w w' w2 : World} (h : Only S w w') {m : Nat} (hg : w'.grownBy w2 (some m)) (hm : S m) : Only S w w2 :=
  ⟨hg.os.trans h.os, hg.tape.trans h.tape, hg.output.trans h.output, Nat.le_trans h.size hg.size, fun k hk hx => (hg.block k (Nat.lt_of_lt_of_le hk h.size) (fun e => hx (by injection e with e; rw [e]; exact hm))).trans (h.block k hk hx)⟩
theorem only_then {S : Nat → Prop} {w w1 w2 : World} (hb : Below w.heap.size w w1) (h : Only S w1 w2) : Only S w w2 := Only.trans (Only.below hb) h
/-- What a call of a disk told, and what it made of it. -/
def Did (S : Nat → Prop) (w : World) (B : Nat) (e : Ending) (w' : World) (r : Dd × Int) : Prop := ∃ S', e = .returned (.int .i64 r.2) ∧ DK S' w' B r.1 ∧ Fr S w S' w'
def syncD (D : Dd) (n : Nm) : Dd × Int := if D.down then (D, 50) else match getF D.fs n with
  | none => (D, 31)
  | some f => if (stepD D).down then (stepD D, 50) else ((stepD D).files (putF D.fs n ⟨f.all, f.all.length⟩), 0)
def removeD (D : Dd) (n : Nm) : Dd × Int := if D.down then (D, 50) else match getF D.fs n with
  | none => (D, 31)
  | some _ => if (stepD D).down then (stepD D, 50) else ((stepD D).files (delF D.fs n), 0)
def cutD (D : Dd) (n : Nm) (k : Int) : Dd × Int := if D.down then (D, 50) else match getF D.fs n with
  | none => (D, 31)
  | some f => if k < 0 ∨ (f.all.length : Int) < k then (D, 2) else if (stepD D).down then (stepD D, 50) else ((stepD D).files (putF D.fs n ⟨f.all.take k.toNat, min f.kept k.toNat⟩), 0)
def moveD (D : Dd) (a b : Nm) : Dd × Int := if D.down then (D, 50) else match getF D.fs a with
  | none => (D, 31)
  | some f => if validN b = false then (D, 2) else if (stepD D).down then (stepD D, 50) else ((stepD D).files (putF (delF D.fs a) b f), 0)
theorem boxF {w : World} (x y : Value) : Below w.heap.size w (w.alloc (.cells #[x, y] 124)) ∧ (w.alloc (.cells #[x, y] 124)).heap[w.heap.size]? = some (.cells #[x, y] 124 (0, 0)) := ⟨(box1 w _ _).1, (box1 w _ _).2.1⟩
section
variable {S : Nat → Prop} {w : World} {B m mt : Nat} {D : Dd} {M : Lit → Option Value} {V : Nm → Value}
set_option maxRecDepth 100000 in
theorem dsync_down (h : DKx S w B m mt D M V) (hd : D.down = true) (n : Nm) : Calls Try.prog 28 #[.pointer (some ⟨B, 0, none⟩), encStr n] w fun e w' => e = .returned (.int .i64 50) ∧ Below w.heap.size w w' := by
  have HF := Lib.hid (dfind_down h hd n)
  clear h hd
  go_enter Try.func28, Try.ntmps28
  go_wp2_with fail
  refine HF.out.mono ?_
  rintro e w1 ⟨rfl, hb⟩
  have hz : zF = .agg #[.slice none 0 0, .int .i64 0] := rfl
  rw [hz]
  clear hz
  have HB := Lib.hid (hb.trans ((boxF (w := w1) (.slice none 0 0) (.int .i64 0)).1.mono hb.size))
  clear hb HF
  go_wp2_with fail
  go_ret
  exact ⟨rfl, HB.out⟩
set_option maxRecDepth 100000 in
theorem dsync_none (h : DKx S w B m mt D M V) (hd : D.down = false) {n : Nm} (hl : n.length ≤ 100000) (hn : getF D.fs n = none) : Calls Try.prog 28 #[.pointer (some ⟨B, 0, none⟩), encStr n] w fun e w' => e = .returned (.int .i64 31) ∧ Below w.heap.size w w' := by
  have HF := Lib.hid (dfind_none h hd hl hn)
  clear h hd hl hn
  go_enter Try.func28, Try.ntmps28
  go_wp2_with fail
  refine HF.out.mono ?_
  rintro e w1 ⟨rfl, hb⟩
  have hz : zF = .agg #[.slice none 0 0, .int .i64 0] := rfl
  rw [hz]
  clear hz
  have HB := Lib.hid (hb.trans ((boxF (w := w1) (.slice none 0 0) (.int .i64 0)).1.mono hb.size))
  clear hb HF
  go_wp2_with fail
  go_ret
  exact ⟨rfl, HB.out⟩
set_option maxRecDepth 100000 in
theorem dremove_down (h : DKx S w B m mt D M V) (hd : D.down = true) (n : Nm) : Calls Try.prog 30 #[.pointer (some ⟨B, 0, none⟩), encStr n] w fun e w' => e = .returned (.int .i64 50) ∧ Below w.heap.size w w' := by
  have HF := Lib.hid (dfind_down h hd n)
  clear h hd
  go_enter Try.func30, Try.ntmps30
  go_wp2_with fail
  refine HF.out.mono ?_
  rintro e w1 ⟨rfl, hb⟩
  have hz : zF = .agg #[.slice none 0 0, .int .i64 0] := rfl
  rw [hz]
  clear hz
  have HB := Lib.hid (hb.trans ((boxF (w := w1) (.slice none 0 0) (.int .i64 0)).1.mono hb.size))
  clear hb HF
  go_wp2_with fail
  go_ret
  exact ⟨rfl, HB.out⟩
set_option maxRecDepth 100000 in
theorem dremove_none (h : DKx S w B m mt D M V) (hd : D.down = false) {n : Nm} (hl : n.length ≤ 100000) (hn : getF D.fs n = none) : Calls Try.prog 30 #[.pointer (some ⟨B, 0, none⟩), encStr n] w fun e w' => e = .returned (.int .i64 31) ∧ Below w.heap.size w w' := by
  have HF := Lib.hid (dfind_none h hd hl hn)
  clear h hd hl hn
  go_enter Try.func30, Try.ntmps30
  go_wp2_with fail
  refine HF.out.mono ?_
  rintro e w1 ⟨rfl, hb⟩
  have hz : zF = .agg #[.slice none 0 0, .int .i64 0] := rfl
  rw [hz]
  clear hz
  have HB := Lib.hid (hb.trans ((boxF (w := w1) (.slice none 0 0) (.int .i64 0)).1.mono hb.size))
  clear hb HF
  go_wp2_with fail
  go_ret
  exact ⟨rfl, HB.out⟩
set_option maxRecDepth 100000 in
theorem dcut_down (h : DKx S w B m mt D M V) (hd : D.down = true) (n : Nm) (k : Int) : Calls Try.prog 29 #[.pointer (some ⟨B, 0, none⟩), encStr n, .int .i64 k] w fun e w' => e = .returned (.int .i64 50) ∧ Below w.heap.size w w' := by
  have HF := Lib.hid (dfind_down h hd n)
  clear h hd
  go_enter Try.func29, Try.ntmps29
  go_wp2_with fail
  refine HF.out.mono ?_
  rintro e w1 ⟨rfl, hb⟩
  have hz : zF = .agg #[.slice none 0 0, .int .i64 0] := rfl
  rw [hz]
  clear hz
  have HB := Lib.hid (hb.trans ((boxF (w := w1) (.slice none 0 0) (.int .i64 0)).1.mono hb.size))
  clear hb HF
  go_wp2_with fail
  go_ret
  exact ⟨rfl, HB.out⟩
set_option maxRecDepth 100000 in
theorem dcut_none (h : DKx S w B m mt D M V) (hd : D.down = false) {n : Nm} (hl : n.length ≤ 100000) (hn : getF D.fs n = none) (k : Int) : Calls Try.prog 29 #[.pointer (some ⟨B, 0, none⟩), encStr n, .int .i64 k] w fun e w' => e = .returned (.int .i64 31) ∧ Below w.heap.size w w' := by
  have HF := Lib.hid (dfind_none h hd hl hn)
  clear h hd hl hn
  go_enter Try.func29, Try.ntmps29
  go_wp2_with fail
  refine HF.out.mono ?_
  rintro e w1 ⟨rfl, hb⟩
  have hz : zF = .agg #[.slice none 0 0, .int .i64 0] := rfl
  rw [hz]
  clear hz
  have HB := Lib.hid (hb.trans ((boxF (w := w1) (.slice none 0 0) (.int .i64 0)).1.mono hb.size))
  clear hb HF
  go_wp2_with fail
  go_ret
  exact ⟨rfl, HB.out⟩
set_option maxRecDepth 100000 in
theorem dmove_down (h : DKx S w B m mt D M V) (hd : D.down = true) (n : Nm) (n2 : Nm) : Calls Try.prog 31 #[.pointer (some ⟨B, 0, none⟩), encStr n, encStr n2] w fun e w' => e = .returned (.int .i64 50) ∧ Below w.heap.size w w' := by
  have HF := Lib.hid (dfind_down h hd n)
  clear h hd
  go_enter Try.func31, Try.ntmps31
  go_wp2_with fail
  refine HF.out.mono ?_
  rintro e w1 ⟨rfl, hb⟩
  have hz : zF = .agg #[.slice none 0 0, .int .i64 0] := rfl
  rw [hz]
  clear hz
  have HB := Lib.hid (hb.trans ((boxF (w := w1) (.slice none 0 0) (.int .i64 0)).1.mono hb.size))
  clear hb HF
  go_wp2_with fail
  go_ret
  exact ⟨rfl, HB.out⟩
set_option maxRecDepth 100000 in
theorem dmove_none (h : DKx S w B m mt D M V) (hd : D.down = false) {n : Nm} (hl : n.length ≤ 100000) (hn : getF D.fs n = none) (n2 : Nm) : Calls Try.prog 31 #[.pointer (some ⟨B, 0, none⟩), encStr n, encStr n2] w fun e w' => e = .returned (.int .i64 31) ∧ Below w.heap.size w w' := by
  have HF := Lib.hid (dfind_none h hd hl hn)
  clear h hd hl hn
  go_enter Try.func31, Try.ntmps31
  go_wp2_with fail
  refine HF.out.mono ?_
  rintro e w1 ⟨rfl, hb⟩
  have hz : zF = .agg #[.slice none 0 0, .int .i64 0] := rfl
  rw [hz]
  clear hz
  have HB := Lib.hid (hb.trans ((boxF (w := w1) (.slice none 0 0) (.int .i64 0)).1.mono hb.size))
  clear hb HF
  go_wp2_with fail
  go_ret
  exact ⟨rfl, HB.out⟩
set_option maxRecDepth 100000 in
theorem dread_down (h : DKx S w B m mt D M V) (hd : D.down = true) (n : Nm) : Calls Try.prog 59 #[.pointer (some ⟨B, 0, none⟩), encStr n] w fun e w' => e = .returned (.tuple #[.slice none 0 0, .int .i64 50]) ∧ Below w.heap.size w w' := by
  have HF := Lib.hid (dfind_down h hd n)
  clear h hd
  go_enter Try.func59, Try.ntmps59
  go_wp2_with fail
  refine HF.out.mono ?_
  rintro e w1 ⟨rfl, hb⟩
  have hz : zF = .agg #[.slice none 0 0, .int .i64 0] := rfl
  rw [hz]
  clear hz
  have HB := Lib.hid (hb.trans ((boxF (w := w1) (.slice none 0 0) (.int .i64 0)).1.mono hb.size))
  clear hb HF
  go_wp2_with fail
  go_ret2
  exact ⟨rfl, HB.out⟩
set_option maxRecDepth 100000 in
theorem dread_none (h : DKx S w B m mt D M V) (hd : D.down = false) {n : Nm} (hl : n.length ≤ 100000) (hn : getF D.fs n = none) : Calls Try.prog 59 #[.pointer (some ⟨B, 0, none⟩), encStr n] w fun e w' => e = .returned (.tuple #[.slice none 0 0, .int .i64 31]) ∧ Below w.heap.size w w' := by
  have HF := Lib.hid (dfind_none h hd hl hn)
  clear h hd hl hn
  go_enter Try.func59, Try.ntmps59
  go_wp2_with fail
  refine HF.out.mono ?_
  rintro e w1 ⟨rfl, hb⟩
  have hz : zF = .agg #[.slice none 0 0, .int .i64 0] := rfl
  rw [hz]
  clear hz
  have HB := Lib.hid (hb.trans ((boxF (w := w1) (.slice none 0 0) (.int .i64 0)).1.mono hb.size))
  clear hb HF
  go_wp2_with fail
  go_ret2
  exact ⟨rfl, HB.out⟩
set_option maxRecDepth 100000 in
theorem dsync_sd (h : DKx S w B m mt D M V) (hd : D.down = false) {n : Nm} (hl : n.length ≤ 100000) {f : Fl} (hf : getF D.fs n = some f) (hst : D.st < 1000000000) (hs : (stepD D).down = true) : Calls Try.prog 28 #[.pointer (some ⟨B, 0, none⟩), encStr n] w fun e w' => e = .returned (.int .i64 50) ∧ DKx S w' B m mt (stepD D) M V ∧ Only S w w' := by
  obtain ⟨a, c, e1, e2⟩ := h.file hf
  have HE := Lib.hid e1
  have HV : Hid (fV (V n) f.kept = .agg #[.slice a f.all.length c, .int .i64 (f.kept : Int)]) := Lib.hid (by rw [e1]; rfl)
  have H := Lib.hid h
  have HD := Lib.hid hd
  have HL := Lib.hid hl
  have HF := Lib.hid hf
  have HST := Lib.hid hst
  clear h hd hl hf hst e1 e2
  go_enter Try.func28, Try.ntmps28
  go_wp2_with fail
  refine (dfind_some H.out HD.out HL.out HF.out).mono ?_
  rintro e w1 ⟨rfl, hb⟩
  rw [HV.out]
  have H1 := Lib.hid (H.out.below hb)
  obtain ⟨B2, s2⟩ := boxF (w := w1) (.slice a f.all.length c) (.int .i64 (f.kept : Int))
  have H2 := Lib.hid (H1.out.below B2)
  have HB2 := Lib.hid (hb.trans (B2.mono hb.size))
  have HS2 := Lib.hid s2
  have HN2 : Hid (∀ k, S k → k < w1.heap.size) := Lib.hid H1.out.bd
  have HN3 : Hid (w.heap.size ≤ w1.heap.size) := Lib.hid hb.size
  clear hb B2 s2 H1
  go_wp2_with fail
  obtain ⟨N, hN⟩ : ∃ N, w1.heap.size = N := ⟨_, rfl⟩
  rw [hN] at HS2 HN2 HN3
  try rw [hN]
  clear hN
  generalize w1.alloc (.cells #[.slice a f.all.length c, .int .i64 (f.kept : Int)] 124) = w2 at H2 HB2 HS2 ⊢
  refine (dstep H2.out HST.out).mono ?_
  rintro e w3 ⟨rfl, h3, ho3⟩
  have H3 := Lib.hid h3
  have HO3 := Lib.hid (only_then HB2.out ho3)
  have HS3 : Hid (w3.heap[N]? = some (.cells #[.slice a f.all.length c, .int .i64 (f.kept : Int)] 124 (0, 0))) := Lib.hid ((ho3.block N (ex_lt HS2.out) (fun e => by have := HN2.out N e; omega)).trans HS2.out)
  have HNB : Hid (N ≠ B ∧ N ≠ m ∧ N ≠ mt ∧ ¬ S N) := Lib.hid (by
    have h1 := HN2.out B h3.own.1
    have h2 := HN2.out m h3.own.2.1
    have h3' := HN2.out mt h3.own.2.2
    exact ⟨by omega, by omega, by omega, fun e => by have := HN2.out N e; omega⟩)
  clear h3 ho3 HS2 H2 
  have hp : pw (stepD D).down = 50 := by rw [hs]; rfl
  rw [hp]
  clear hp hs
  go_wp2_with fail
  go_ret
  exact ⟨rfl, H3.out, HO3.out⟩
set_option maxRecDepth 100000 in
theorem dremove_sd (h : DKx S w B m mt D M V) (hd : D.down = false) {n : Nm} (hl : n.length ≤ 100000) {f : Fl} (hf : getF D.fs n = some f) (hst : D.st < 1000000000) (hs : (stepD D).down = true) : Calls Try.prog 30 #[.pointer (some ⟨B, 0, none⟩), encStr n] w fun e w' => e = .returned (.int .i64 50) ∧ DKx S w' B m mt (stepD D) M V ∧ Only S w w' := by
  obtain ⟨a, c, e1, e2⟩ := h.file hf
  have HE := Lib.hid e1
  have HV : Hid (fV (V n) f.kept = .agg #[.slice a f.all.length c, .int .i64 (f.kept : Int)]) := Lib.hid (by rw [e1]; rfl)
  have H := Lib.hid h
  have HD := Lib.hid hd
  have HL := Lib.hid hl
  have HF := Lib.hid hf
  have HST := Lib.hid hst
  clear h hd hl hf hst e1 e2
  go_enter Try.func30, Try.ntmps30
  go_wp2_with fail
  refine (dfind_some H.out HD.out HL.out HF.out).mono ?_
  rintro e w1 ⟨rfl, hb⟩
  rw [HV.out]
  have H1 := Lib.hid (H.out.below hb)
  obtain ⟨B2, s2⟩ := boxF (w := w1) (.slice a f.all.length c) (.int .i64 (f.kept : Int))
  have H2 := Lib.hid (H1.out.below B2)
  have HB2 := Lib.hid (hb.trans (B2.mono hb.size))
  have HS2 := Lib.hid s2
  have HN2 : Hid (∀ k, S k → k < w1.heap.size) := Lib.hid H1.out.bd
  have HN3 : Hid (w.heap.size ≤ w1.heap.size) := Lib.hid hb.size
  clear hb B2 s2 H1
  go_wp2_with fail
  obtain ⟨N, hN⟩ : ∃ N, w1.heap.size = N := ⟨_, rfl⟩
  rw [hN] at HS2 HN2 HN3
  try rw [hN]
  clear hN
  generalize w1.alloc (.cells #[.slice a f.all.length c, .int .i64 (f.kept : Int)] 124) = w2 at H2 HB2 HS2 ⊢
  refine (dstep H2.out HST.out).mono ?_
  rintro e w3 ⟨rfl, h3, ho3⟩
  have H3 := Lib.hid h3
  have HO3 := Lib.hid (only_then HB2.out ho3)
  have HS3 : Hid (w3.heap[N]? = some (.cells #[.slice a f.all.length c, .int .i64 (f.kept : Int)] 124 (0, 0))) := Lib.hid ((ho3.block N (ex_lt HS2.out) (fun e => by have := HN2.out N e; omega)).trans HS2.out)
  have HNB : Hid (N ≠ B ∧ N ≠ m ∧ N ≠ mt ∧ ¬ S N) := Lib.hid (by
    have h1 := HN2.out B h3.own.1
    have h2 := HN2.out m h3.own.2.1
    have h3' := HN2.out mt h3.own.2.2
    exact ⟨by omega, by omega, by omega, fun e => by have := HN2.out N e; omega⟩)
  clear h3 ho3 HS2 H2 
  have hp : pw (stepD D).down = 50 := by rw [hs]; rfl
  rw [hp]
  clear hp hs
  go_wp2_with fail
  go_ret
  exact ⟨rfl, H3.out, HO3.out⟩
end
/- The disk: Sync and Remove done. -/
open Go.RowKit Go.Maps
section
variable {S : Nat → Prop} {w : World} {B m mt : Nat} {D : Dd} {M : Lit → Option Value} {V : Nm → Value}
set_option maxRecDepth 100000 in
set_option maxHeartbeats 4000000 in
theorem dsync_ok (h : DKx S w B m mt D M V) (hd : D.down = false) {n : Nm} (hl : n.length ≤ 100000) {f : Fl} (hf : getF D.fs n = some f) (hst : D.st < 1000000000) (hs : (stepD D).down = false) : Calls Try.prog 28 #[.pointer (some ⟨B, 0, none⟩), encStr n] w fun e w' => e = .returned (.int .i64 0) ∧ DK S w' B ((stepD D).files (putF D.fs n ⟨f.all, f.all.length⟩)) ∧ Only S w w' := by
  obtain ⟨a, c, e1, e2⟩ := h.file hf
  have HE := Lib.hid e1
  have HV : Hid (fV (V n) f.kept = .agg #[.slice a f.all.length c, .int .i64 (f.kept : Int)]) := Lib.hid (by rw [e1]; rfl)
  have H := Lib.hid h
  have HD := Lib.hid hd
  have HL := Lib.hid hl
  have HF := Lib.hid hf
  have HST := Lib.hid hst
  clear h hd hl hf hst e1 e2
  go_enter Try.func28, Try.ntmps28
  go_wp2_with fail
  refine (dfind_some H.out HD.out HL.out HF.out).mono ?_
  rintro e w1 ⟨rfl, hb⟩
  rw [HV.out]
  have H1 := Lib.hid (H.out.below hb)
  obtain ⟨B2, s2⟩ := boxF (w := w1) (.slice a f.all.length c) (.int .i64 (f.kept : Int))
  have H2 := Lib.hid (H1.out.below B2)
  have HB2 := Lib.hid (hb.trans (B2.mono hb.size))
  have HS2 := Lib.hid s2
  have HN2 : Hid (∀ k, S k → k < w1.heap.size) := Lib.hid H1.out.bd
  have HN3 : Hid (w.heap.size ≤ w1.heap.size) := Lib.hid hb.size
  clear hb B2 s2 H1
  go_wp2_with fail
  obtain ⟨N, hN⟩ : ∃ N, w1.heap.size = N := ⟨_, rfl⟩
  rw [hN] at HS2 HN2 HN3
  try rw [hN]
  clear hN
  generalize w1.alloc (.cells #[.slice a f.all.length c, .int .i64 (f.kept : Int)] 124) = w2 at H2 HB2 HS2 ⊢
  refine (dstep H2.out HST.out).mono ?_
  rintro e w3 ⟨rfl, h3, ho3⟩
  have H3 := Lib.hid h3
  have HO3 := Lib.hid (only_then HB2.out ho3)
  have HS3 : Hid (w3.heap[N]? = some (.cells #[.slice a f.all.length c, .int .i64 (f.kept : Int)] 124 (0, 0))) := Lib.hid ((ho3.block N (ex_lt HS2.out) (fun e => by have := HN2.out N e; omega)).trans HS2.out)
  have HNB : Hid (N ≠ B ∧ N ≠ m ∧ N ≠ mt ∧ ¬ S N) := Lib.hid (by
    have h1 := HN2.out B h3.own.1
    have h2 := HN2.out m h3.own.2.1
    have h3' := HN2.out mt h3.own.2.2
    exact ⟨by omega, by omega, by omega, fun e => by have := HN2.out N e; omega⟩)
  clear h3 ho3 HS2 H2 
  have hp : pw (stepD D).down = 0 := by rw [hs]; rfl
  rw [hp]
  clear hp hs
  obtain ⟨x0, x1, fr⟩ := two_at HS3.out
  have f1 := fr 1
  clear fr
  have HS4 := Lib.hid (two_set HS3.out (.int .i64 (f.all.length : Int))).2
  have H4 := Lib.hid (H3.out.move (w' := w3.setCell ⟨N, 1, none⟩ (.int .i64 (f.all.length : Int))) (by simp) (fun k _ hk => Below.heap_setCell _ _ _ _ (by intro e; have e2 : k = N := e; exact HNB.out.2.2.2 (by rw [← e2]; exact hk))))
  have HO4 := Lib.hid (only_new HO3.out HN3.out 1 (.int .i64 (f.all.length : Int)))
  clear H3 HO3 HS3
  go_wp2_with fail
  clear x0 x1 f1
  generalize w3.setCell ⟨N, 1, none⟩ (.int .i64 (f.all.length : Int)) = w4 at HS4 H4 HO4 ⊢
  have HS0 : Hid ((fun W : World => W.heap[B]? = some (.cells (DC (stepD D) m mt).toArray 107 (0, 0)) ∧ W.heap[N]? = some (.cells #[.slice a f.all.length c, .int .i64 (f.all.length : Int)] 124 (0, 0))) w4.drew) := Lib.hid ⟨H4.out.cells, HS4.out⟩
  refine wp_region_held_drew (S := (fun W : World => W.heap[B]? = some (.cells (DC (stepD D) m mt).toArray 107 (0, 0)) ∧ W.heap[N]? = some (.cells #[.slice a f.all.length c, .int .i64 (f.all.length : Int)] 124 (0, 0)))) (by kernel_rfl) HS0.out (fun hHeld => ?_)
  clear hHeld
  have H5 : Hid (DKx S w4.drew B m mt (stepD D) M V) := Lib.hid (H4.out.move (Nat.le_refl _) (fun _ _ _ => rfl))
  have HO5 : Hid (Only S w w4.drew) := Lib.hid HO4.out.drew
  clear H4 HO4
  generalize w4.drew = w5 at H5 HO5 HS0 ⊢
  refine wpAnyH_take (i := 0) (oi := { dst := some 25, op := Go.Op.move (Go.Operand.tmp 0), type := 24, pos := "disk.go:84", after := #[], guard := none }) (v := ?_) rfl (by kernel_rfl) (by kernel_rfl) (by kernel_rfl) (fun _ _ _ h => h) (Or.inl ⟨by rfl, ?_⟩) HS0.out ?_
  case refine_2 => (intro w1 hS1; clear hS1; go_simp; try with_reducible rfl)
  try simp only [Act.put, List.setIfInBounds_toArray, List.set_cons_zero, List.set_cons_succ]
  refine wpAnyH_take (i := 1) (oi := { dst := some 26, op := Go.Op.nilCheck (Go.Operand.tmp 25), type := 0, pos := "disk.go:84", after := #[{ on := 0, ground := Go.Ground.data }], guard := none }) (v := ?_) rfl (by kernel_rfl) (by kernel_rfl) (by kernel_rfl) (fun _ _ _ h => h) (Or.inl ⟨by rfl, ?_⟩) HS0.out ?_
  case refine_2 => (intro w1 hS1; clear hS1; go_simp; try with_reducible rfl)
  try simp only [Act.put, List.setIfInBounds_toArray, List.set_cons_zero, List.set_cons_succ]
  refine wpAnyH_take (i := 2) (oi := { dst := some 27, op := Go.Op.fieldAddr 107 (Go.Operand.tmp 26) 1, type := 0, pos := "disk.go:84", after := #[{ on := 1, ground := Go.Ground.data }], guard := none }) (v := ?_) rfl (by kernel_rfl) (by kernel_rfl) (by kernel_rfl) (fun _ _ _ h => h) (Or.inl ⟨by rfl, ?_⟩) HS0.out ?_
  case refine_2 => (intro w1 hS1; clear hS1; go_simp; try with_reducible rfl)
  try simp only [Act.put, List.setIfInBounds_toArray, List.set_cons_zero, List.set_cons_succ]
  refine wpAnyH_take (i := 3) (oi := { dst := some 28, op := Go.Op.load 103 (Go.Operand.tmp 27), type := 103, pos := "disk.go:84", after := #[{ on := 2, ground := Go.Ground.data }], guard := none }) (v := ?_) rfl (by kernel_rfl) (by kernel_rfl) (by kernel_rfl) (fun _ _ _ h => h) (Or.inl ⟨by rfl, ?_⟩) HS0.out ?_
  case refine_2 => (intro w1 hS1; obtain ⟨hb1, -⟩ := hS1; have c1 : w1.cell? ⟨B, 1, none⟩ = some (.map (some m)) := (by simp only [World.cell?, hb1]; rfl); clear hb1; go_simp; try with_reducible rfl)
  try simp only [Act.put, List.setIfInBounds_toArray, List.set_cons_zero, List.set_cons_succ]
  refine wpAnyH_take (i := 4) (oi := { dst := some 29, op := Go.Op.move (Go.Operand.tmp 1), type := 9, pos := "disk.go:84", after := #[], guard := none }) (v := ?_) rfl (by kernel_rfl) (by kernel_rfl) (by kernel_rfl) (fun _ _ _ h => h) (Or.inl ⟨by rfl, ?_⟩) HS0.out ?_
  case refine_2 => (intro w1 hS1; clear hS1; go_simp; try with_reducible rfl)
  try simp only [Act.put, List.setIfInBounds_toArray, List.set_cons_zero, List.set_cons_succ]
  refine wpAnyH_take (i := 5) (oi := { dst := some 30, op := Go.Op.load 124 (Go.Operand.tmp 5), type := 124, pos := "disk.go:84", after := #[], guard := none }) (v := .agg #[.slice a f.all.length c, .int .i64 (f.all.length : Int)]) rfl (by kernel_rfl) (by kernel_rfl) (by kernel_rfl) (fun _ _ _ h => h) (Or.inl ⟨by rfl, ?_⟩) HS0.out ?_
  case refine_1 => (intro w1 hS1; obtain ⟨-, hb2⟩ := hS1; obtain ⟨z0, z1, -⟩ := two_at hb2; clear hb2; go_simp; try with_reducible rfl)
  try simp only [Act.put, List.setIfInBounds_toArray, List.set_cons_zero, List.set_cons_succ]
  obtain ⟨M', hM1, hM2⟩ := upV M (.string n) (some (.agg #[.slice a f.all.length c, .int .i64 (f.all.length : Int)]))
  obtain ⟨w6, hrun, hv6, hg6, hz6⟩ := H5.out.df.vm.put keyedS fm_und (by have := H5.out.df.few; unfold maxLen; omega) (keyS HL.out) (.agg #[.slice a f.all.length c, .int .i64 (f.all.length : Int)]) hM1 hM2
  have HS6 : Hid ((fun W : World => W.heap[B]? = some (.cells (DC (stepD D) m mt).toArray 107 (0, 0)) ∧ W.heap[N]? = some (.cells #[.slice a f.all.length c, .int .i64 (f.all.length : Int)] 124 (0, 0))) w6) := Lib.hid ⟨(hg6.block B H5.out.lt.1 (by intro e; injection e with e; exact H5.out.ne.1 e)).trans HS0.out.1, (hg6.block N (ex_lt HS0.out.2) (by intro e; injection e with e; exact HNB.out.2.1 e)).trans HS0.out.2⟩
  refine wpAnyH_ready (rs := [6]) (by kernel_rfl) (by simp) ?_
  refine AllReadyH.cons (o := { dst := none, op := Go.Op.mapUpdate 103 (Go.Operand.tmp 28) (Go.Operand.tmp 29) (Go.Operand.tmp 30), type := 0, pos := "disk.go:84", after := #[{ on := 3, ground := Go.Ground.data }, { on := 4, ground := Go.Ground.data }, { on := 5, ground := Go.Ground.data }, { on := 0, ground := Go.Ground.phase }, { on := 1, ground := Go.Ground.phase }, { on := 2, ground := Go.Ground.phase }, { on := 3, ground := Go.Ground.phase }, { on := 4, ground := Go.Ground.phase }, { on := 5, ground := Go.Ground.phase }], guard := none }) rfl (fun K hK => ?_) AllReadyH.nil
  go_simp
  have HV6 := Lib.hid hv6
  have HG6 := Lib.hid hg6
  have HM6 := Lib.hid (And.intro hM1 hM2)
  have HZ6 := Lib.hid hz6
  clear hv6 hg6 hM1 hM2 hz6 HS0
  have HS0 := HS6
  clear HS6
  refine hK.out _ _ HS0.out (fun hHeld => ?_)
  clear hrun hK K hHeld
  try simp only [Act.put, List.setIfInBounds_toArray, List.set_cons_zero, List.set_cons_succ]
  refine wpAnyH_done (by kernel_rfl) ?_ _
  go_wp2_with fail
  go_ret
  have hgk : ∀ k, k < w5.heap.size → k ≠ m → w6.heap[k]? = w5.heap[k]? := fun k hk e => HG6.out.block k hk (fun e2 => e (by injection e2))
  have h5 := H5.out
  have hok := h5.df.ok n f HF.out
  have hown := h5.df.own n f HF.out
  rw [HE.out] at hown
  have hne : getF D.fs n ≠ none := by rw [HF.out]; exact Option.some_ne_none _
  have hsp := sum_put_some (L := D.fs) ⟨f.all, f.all.length⟩ h5.df.srt HF.out
  refine ⟨rfl, ⟨m, mt, M', _, h5.putf (v := .slice a f.all.length c) (f := ⟨f.all, f.all.length⟩) (hgk B h5.lt.1 h5.ne.1) (hgk mt h5.lt.2.2 (Ne.symm h5.ne.2.2)) (fun k g _ hk hv => hgk g (h5.df.lt hk hv) (h5.fne k g hk hv).2.1) HV6.out HM6.out.1 HM6.out.2 (hown.blk (fun g hv => hgk g (hown.lt hv).2 (h5.fne n g hne (by rw [HE.out]; exact hv)).2.1)) ⟨hok.1, Nat.le_refl _, hok.2.2⟩ ?_ ?_ (fun _ h => h) ?_ ?_ ?_ ?_⟩, only_grown HO5.out HG6.out h5.own.2.1⟩
  · intro k g hk hkn hv e
    exact h5.df.sep n k g (Ne.symm hk) hne hkn (by rw [HE.out]; exact e) hv
  · intro g hv
    exact h5.fne n g hne (by rw [HE.out]; exact hv)
  · intro g hv
    exact h5.df.inS n g hne (by rw [HE.out]; exact hv)
  · have := h5.df.sum
    simp only [stepD] at this ⊢
    simp only at hsp
    omega
  · have hlp := len_put_some (L := D.fs) ⟨f.all, f.all.length⟩ h5.df.srt HF.out
    have := h5.df.few
    simp only [stepD] at this ⊢
    omega
  · intro k hk
    rw [HZ6.out]
    exact h5.bd k hk
set_option maxRecDepth 100000 in
set_option maxHeartbeats 4000000 in
theorem dremove_ok (h : DKx S w B m mt D M V) (hd : D.down = false) {n : Nm} (hl : n.length ≤ 100000) {f : Fl} (hf : getF D.fs n = some f) (hst : D.st < 1000000000) (hs : (stepD D).down = false) : Calls Try.prog 30 #[.pointer (some ⟨B, 0, none⟩), encStr n] w fun e w' => e = .returned (.int .i64 0) ∧ DK S w' B ((stepD D).files (delF D.fs n)) ∧ Only S w w' := by
  obtain ⟨a, c, e1, e2⟩ := h.file hf
  have HE := Lib.hid e1
  have HV : Hid (fV (V n) f.kept = .agg #[.slice a f.all.length c, .int .i64 (f.kept : Int)]) := Lib.hid (by rw [e1]; rfl)
  have H := Lib.hid h
  have HD := Lib.hid hd
  have HL := Lib.hid hl
  have HF := Lib.hid hf
  have HST := Lib.hid hst
  clear h hd hl hf hst e1 e2
  go_enter Try.func30, Try.ntmps30
  go_wp2_with fail
  refine (dfind_some H.out HD.out HL.out HF.out).mono ?_
  rintro e w1 ⟨rfl, hb⟩
  rw [HV.out]
  have H1 := Lib.hid (H.out.below hb)
  obtain ⟨B2, s2⟩ := boxF (w := w1) (.slice a f.all.length c) (.int .i64 (f.kept : Int))
  have H2 := Lib.hid (H1.out.below B2)
  have HB2 := Lib.hid (hb.trans (B2.mono hb.size))
  have HS2 := Lib.hid s2
  have HN2 : Hid (∀ k, S k → k < w1.heap.size) := Lib.hid H1.out.bd
  have HN3 : Hid (w.heap.size ≤ w1.heap.size) := Lib.hid hb.size
  clear hb B2 s2 H1
  go_wp2_with fail
  obtain ⟨N, hN⟩ : ∃ N, w1.heap.size = N := ⟨_, rfl⟩
  rw [hN] at HS2 HN2 HN3
  try rw [hN]
  clear hN
  generalize w1.alloc (.cells #[.slice a f.all.length c, .int .i64 (f.kept : Int)] 124) = w2 at H2 HB2 HS2 ⊢
  refine (dstep H2.out HST.out).mono ?_
  rintro e w3 ⟨rfl, h3, ho3⟩
  have H3 := Lib.hid h3
  have HO3 := Lib.hid (only_then HB2.out ho3)
  have HS3 : Hid (w3.heap[N]? = some (.cells #[.slice a f.all.length c, .int .i64 (f.kept : Int)] 124 (0, 0))) := Lib.hid ((ho3.block N (ex_lt HS2.out) (fun e => by have := HN2.out N e; omega)).trans HS2.out)
  have HNB : Hid (N ≠ B ∧ N ≠ m ∧ N ≠ mt ∧ ¬ S N) := Lib.hid (by
    have h1 := HN2.out B h3.own.1
    have h2 := HN2.out m h3.own.2.1
    have h3' := HN2.out mt h3.own.2.2
    exact ⟨by omega, by omega, by omega, fun e => by have := HN2.out N e; omega⟩)
  clear h3 ho3 HS2 H2 
  have hp : pw (stepD D).down = 0 := by rw [hs]; rfl
  rw [hp]
  clear hp hs
  obtain ⟨-, c1, -⟩ := H3.out.at
  obtain ⟨M', hM1, hM2⟩ := upV M (.string n) none
  obtain ⟨w6, hrun, hv6, hg6⟩ := H3.out.df.vm.del keyedS fm_und (keyS HL.out) 0 hM1 hM2
  have HV6 := Lib.hid hv6
  have HG6 := Lib.hid hg6
  have HM6 := Lib.hid (And.intro hM1 hM2)
  clear hv6 hg6 hM1 hM2
  go_wp2_with fail
  go_ret
  exact ⟨rfl, ⟨m, mt, M', V, H3.out.delf HG6.out HV6.out HM6.out.1 HM6.out.2⟩, only_grown HO3.out HG6.out H3.out.own.2.1⟩
end
end Go.Proofs.Ythkjjpkipeeimaa
