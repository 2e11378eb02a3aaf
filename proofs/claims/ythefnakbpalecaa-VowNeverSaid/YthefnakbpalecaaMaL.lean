import Derived.Test.YthefnakbpalecaaMaD
import Derived.Test.YthefnakbpalecaaLaws
import Derived.Test.YthefnakbpalecaaNbX
import Derived.ArgAppend
import Derived.OneCell
import Derived.Laws.Cover3
import Derived.Test.YthefnakbpalecaaMaK
import Derived.Deep.RegionHeld
namespace Go.Proofs.Ythefnakbpalecaa
open Go.RowKit
/- Bytes: an append, with where its result lies; a copy. -/
open Go.RowKit
theorem eql_bnil (a : Option Addr) (l c : Nat) (w : World) : (binOp .eql 28 (.slice a l c) (.slice none 0 0)).run Try.prog w = .ok (.bool a.isNone) w := by
  have h := run_equal_slice_nil (P := Try.prog) w 28 5 a l c Try.underlying28
  simp [binOp, h]
set_option maxRecDepth 100000 in
theorem bclone (v : Value) (bs : List Nat) (w : World) (h : RB w v bs) (hl : bs.length ≤ 100000000) : Calls Try.prog 58 #[v] w fun e w' => ∃ v', e = .returned v' ∧ OB w' w.heap.size v' bs ∧ Below w.heap.size w w' := by
  have H := Lib.hid h
  have HL := Lib.hid hl
  have hnil := eql_bnil
  rcases h.2.2 with ⟨rfl, rfl⟩ | ⟨x, cap, rfl, hc, hm, hcell⟩
  · clear h hl
    go_enter Try.func58, Try.ntmps58
    go_wp2_with fail
    go_ret
    exact ⟨_, rfl, World.ownsRow_nil _ _ _ _, Below.refl _ _⟩
  · clear h hl hc hm hcell
    go_enter Try.func58, Try.ntmps58
    go_wp2_with (at_builtin; refine append_moved rfl (.tmp 5) (.tmp 6) rfl w.heap.size _ _ [] bs rfl rfl (show OB (w.alloc (.cells #[] 5)) w.heap.size (.slice (some ⟨w.heap.size, 0, none⟩) 0 0) [] from World.ownsRow_made w #[] 0 (Nat.le_refl _) (by decide) rfl) (H.out.kept ((Below.refl _ _).alloc (Nat.le_refl _) _)) (by have := HL.out; simp; omega) (by simp) ?_; intro v1 w1 ho1 hg1 hm1; have HO1 := Lib.hid ho1; have HG1 := Lib.hid hg1; clear ho1 hg1 hm1)
    go_ret
    exact ⟨_, rfl, by simpa using HO1.out, (((Below.refl _ _).alloc (Nat.le_refl _) _ : Below w.heap.size w (w.alloc (.cells #[] 5)))).grown HG1.out (by simp) (fun k hk => by have e : w.heap.size = k := Option.some.inj hk; omega)⟩
/- The disk: its files turned, in the world. -/
open Go.RowKit Go.Maps
section
variable {S : Nat → Prop} {w : World} {B m mt : Nat} {D : Dd} {M : Lit → Option Value} {V : Nm → Value}
theorem DKx.some_iff (h : DKx S w B m mt D M V) (n : Nm) : (M (.string n)).isSome = (getF D.fs n).isSome := by
  rw [h.df.spot n]
  cases getF D.fs n <;> rfl
def Dd.files (D : Dd) (L : Ft) : Dd := ⟨D.room, L, D.st, D.down, D.armed, D.after⟩
theorem DKx.putf (h : DKx S w B m mt D M V) {w2 : World} {n : Nm} {v : Value} {f : Fl} {M' : Lit → Option Value} (hB : w2.heap[B]? = w.heap[B]?) (hmt : w2.heap[mt]? = w.heap[mt]?) (hkeep : ∀ k g, k ≠ n → getF D.fs k ≠ none → (V k).ownBlock = some g → w2.heap[g]? = w.heap[g]?)
    (hvm : VM 9 w2 m (if (M (.string n)).isSome then D.fs.length else D.fs.length + 1) M') (h1 : M' (.string n) = some (fV v f.kept)) (h2 : ∀ x, x ≠ .string n → M' x = M x)
    (hob : OB w2 0 v f.all) (hok : (∀ c ∈ f.all, c < 256) ∧ f.kept ≤ f.all.length ∧ n.length ≤ 100000) (hsep : ∀ k g, k ≠ n → getF D.fs k ≠ none → (V k).ownBlock = some g → v.ownBlock ≠ some g)
    (hvb : ∀ g, v.ownBlock = some g → g ≠ B ∧ g ≠ m ∧ g ≠ mt) {S' : Nat → Prop} (hs : ∀ k, S k → S' k) (hS : ∀ g, v.ownBlock = some g → S' g) (hsum : sumF (putF D.fs n f) ≤ 1048576) (hfew : (putF D.fs n f).length ≤ 128) (hbd : ∀ k, S' k → k < w2.heap.size) :
    DKx S' w2 B m mt (D.files (putF D.fs n f)) M' (fun k => if k = n then v else V k) := by
  have hc : (if (M (.string n)).isSome then D.fs.length else D.fs.length + 1) = (putF D.fs n f).length := by
    rw [h.some_iff n]
    cases e : getF D.fs n with
    | none => rw [len_put_none f e]; rfl
    | some g => rw [len_put_some f h.df.srt e]; rfl
  refine ⟨hB.trans h.cells, h.met.of_block hmt, h.df.put hc hvm h1 h2 hkeep hob hok hsep hs hS hsum hfew, ⟨hs _ h.own.1, hs _ h.own.2.1, hs _ h.own.2.2⟩, h.ne, fun k g hk hb => ?_, h.rm, h.af, hbd⟩
  by_cases e : k = n
  · subst e
    rw [if_pos rfl] at hb
    exact hvb g hb
  · rw [if_neg e] at hb
    have hk' : getF D.fs k ≠ none := by rw [← getF_put_other D.fs n f e]; exact hk
    exact h.fne k g hk' hb
theorem DKx.delf (h : DKx S w B m mt D M V) {w2 : World} {n : Nm} {M' : Lit → Option Value} (hg : w.grownBy w2 (some m)) (hvm : VM 9 w2 m (if (M (.string n)).isSome then D.fs.length - 1 else D.fs.length) M') (h1 : M' (.string n) = none) (h2 : ∀ x, x ≠ .string n → M' x = M x) :
    DKx S w2 B m mt (D.files (delF D.fs n)) M' V := by
  have hc : (if (M (.string n)).isSome then D.fs.length - 1 else D.fs.length) = (delF D.fs n).length := by
    rw [h.some_iff n]
    cases e : getF D.fs n with
    | none => rw [delF_none e]; rfl
    | some g => have := len_del_some h.df.srt e; show D.fs.length - 1 = _; omega
  have hne : ∀ k, getF (delF D.fs n) k ≠ none → getF D.fs k ≠ none := fun k hk e => by
    by_cases ek : k = n
    · subst ek
      exact hk (getF_del_same _ _)
    · exact hk (by rw [getF_del_other _ _ ek]; exact e)
  have hb : ∀ k, k < w.heap.size → k ≠ m → w2.heap[k]? = w.heap[k]? := fun k hk e => hg.block k hk (fun e2 => e (by injection e2))
  exact ⟨(hb B h.lt.1 h.ne.1).trans h.cells, h.met.of_block (hb mt h.lt.2.2 (Ne.symm h.ne.2.2)), h.df.del hc hvm h1 h2 (fun k g _ hk hv => hb g (h.df.lt hk hv) (h.fne k g hk hv).2.1), h.own, h.ne, fun k g hk hv => h.fne k g (hne k hk) hv, h.rm, h.af, fun k hs => Nat.lt_of_lt_of_le (h.bd k hs) hg.size⟩
/-- What a call leaves of the rest. -/
def Fr (S : Nat → Prop) (w : World) (S' : Nat → Prop) (w' : World) : Prop := Only S w w' ∧ (∀ k, S k → S' k) ∧ ∀ k, S' k → S k ∨ w.heap.size ≤ k
theorem Fr.same {S : Nat → Prop} {w w' : World} (h : Only S w w') : Fr S w S w' := ⟨h, fun _ h => h, fun _ h => .inl h⟩
theorem Fr.below {S : Nat → Prop} {w w' : World} (h : Below w.heap.size w w') : Fr S w S w' := Fr.same (Only.below h)
theorem Fr.trans {S S1 S2 : Nat → Prop} {a b c : World} (h : Fr S a S1 b) (k : Fr S1 b S2 c) : Fr S a S2 c := by
  obtain ⟨h1, h2, h3⟩ := h
  obtain ⟨k1, k2, k3⟩ := k
  refine ⟨⟨k1.os.trans h1.os, k1.tape.trans h1.tape, k1.output.trans h1.output, Nat.le_trans h1.size k1.size, fun i hi hs => ?_⟩, fun x hx => k2 x (h2 x hx), fun x hx => ?_⟩
  · refine (k1.block i (Nat.lt_of_lt_of_le hi h1.size) (fun hx => ?_)).trans (h1.block i hi hs)
    rcases h3 i hx with h | h
    · exact hs h
    · omega
  · rcases k3 x hx with h | h
    · exact h3 x h
    · exact .inr (Nat.le_trans h1.size h)
/-- What lies apart from a disk stays so. -/
theorem Fr.out {S S' : Nat → Prop} {w w' : World} (h : Fr S w S' w') {k : Nat} (hk : k < w.heap.size) (hs : ¬ S k) : w'.heap[k]? = w.heap[k]? ∧ ¬ S' k ∧ k < w'.heap.size :=
  ⟨h.1.block k hk hs, fun e => (h.2.2 k e).elim hs (fun h => by omega), Nat.lt_of_lt_of_le hk h.1.size⟩
end
/- The disk: Read, Sync, Remove. -/
open Go.RowKit Go.Maps
theorem only_new {S : Nat → Prop} {w w' : World} (h : Only S w w') {N : Nat} (hN : w.heap.size ≤ N) (i : Nat) (v : Value) : Only S w (w'.setCell ⟨N, i, none⟩ v) :=
  ⟨h.os, h.tape, h.output, by have := h.size; simpa using this, fun k hk hx => (Below.heap_setCell _ _ _ _ (by show k ≠ N; omega)).trans (h.block k hk hx)⟩
theorem only_grown {S : Nat → Prop} {w w' w2 : World} (h : Only S w w') {m : Nat} (hg : w'.grownBy w2 (some m)) (hm : S m) : Only S w w2 :=
  ⟨hg.os.trans h.os, hg.tape.trans h.tape, hg.output.trans h.output, Nat.le_trans h.size hg.size, fun k hk hx => (hg.block k (Nat.lt_of_lt_of_le hk h.size) (fun e => hx (by injection e with e; rw [e]; exact hm))).trans (h.block k hk hx)⟩
theorem only_then {S : Nat → Prop} {w w1 w2 : World} (hb : Below w.heap.size w w1) (h : Only S w1 w2) : Only S w w2 := Only.trans (Only.below hb) h
/-- What a call of a disk told, and what it made of it. -/
def Did (S : Nat → Prop) (w : World) (B : Nat) (e : Ending) (w' : World) (r : Dd × Int) : Prop := ∃ S', e = .returned (.int .i64 r.2) ∧ DK S' w' B r.1 ∧ Fr S w S' w'
def syncD (D : Dd) (n : Nm) : Dd × Int := if D.down then (D, 50) else match getF D.fs n with
  | none => (D, 31)
  | some f => if (stepD D).down then (stepD D, 50) else ((stepD D).files (putF D.fs n ⟨f.all, f.all.length⟩), 0)
def removeD (D : Dd) (n : Nm) : Dd × Int := if D.down then (D, 50) else match getF D.fs n with
  | none => (D, 31)
  | some _ => if (stepD D).down then (stepD D, 50) else ((stepD D).files (delF D.fs n), 0)
def cutD (D : Dd) (n : Nm) (k : Int) : Dd × Int := if D.down then (D, 50) else match getF D.fs n with
  | none => (D, 31)
  | some f => if k < 0 ∨ (f.all.length : Int) < k then (D, 2) else if (stepD D).down then (stepD D, 50) else ((stepD D).files (putF D.fs n ⟨f.all.take k.toNat, min f.kept k.toNat⟩), 0)
def moveD (D : Dd) (a b : Nm) : Dd × Int := if D.down then (D, 50) else match getF D.fs a with
  | none => (D, 31)
  | some f => if validN b = false then (D, 2) else if (stepD D).down then (stepD D, 50) else ((stepD D).files (putF (delF D.fs a) b f), 0)
theorem boxF {w : World} (x y : Value) : Below w.heap.size w (w.alloc (.cells #[x, y] 143)) ∧ (w.alloc (.cells #[x, y] 143)).heap[w.heap.size]? = some (.cells #[x, y] 143 (0, 0)) := ⟨(box1 w _ _).1, (box1 w _ _).2.1⟩
section
variable {S : Nat → Prop} {w : World} {B m mt : Nat} {D : Dd} {M : Lit → Option Value} {V : Nm → Value}
set_option maxRecDepth 100000 in
theorem dsync_down (h : DKx S w B m mt D M V) (hd : D.down = true) (n : Nm) : Calls Try.prog 83 #[.pointer (some ⟨B, 0, none⟩), encStr n] w fun e w' => e = .returned (.int .i64 50) ∧ Below w.heap.size w w' := by
  have HF := Lib.hid (dfind_down h hd n)
  clear h hd
  go_enter Try.func83, Try.ntmps83
  go_wp2_with fail
  refine HF.out.mono ?_
  rintro e w1 ⟨rfl, hb⟩
  have hz : zF = .agg #[.slice none 0 0, .int .i64 0] := rfl
  rw [hz]
  clear hz
  have HB := Lib.hid (hb.trans ((boxF (w := w1) (.slice none 0 0) (.int .i64 0)).1.mono hb.size))
  clear hb HF
  go_wp2_with fail
  go_ret
  exact ⟨rfl, HB.out⟩
set_option maxRecDepth 100000 in
theorem dsync_none (h : DKx S w B m mt D M V) (hd : D.down = false) {n : Nm} (hl : n.length ≤ 100000) (hn : getF D.fs n = none) : Calls Try.prog 83 #[.pointer (some ⟨B, 0, none⟩), encStr n] w fun e w' => e = .returned (.int .i64 31) ∧ Below w.heap.size w w' := by
  have HF := Lib.hid (dfind_none h hd hl hn)
  clear h hd hl hn
  go_enter Try.func83, Try.ntmps83
  go_wp2_with fail
  refine HF.out.mono ?_
  rintro e w1 ⟨rfl, hb⟩
  have hz : zF = .agg #[.slice none 0 0, .int .i64 0] := rfl
  rw [hz]
  clear hz
  have HB := Lib.hid (hb.trans ((boxF (w := w1) (.slice none 0 0) (.int .i64 0)).1.mono hb.size))
  clear hb HF
  go_wp2_with fail
  go_ret
  exact ⟨rfl, HB.out⟩
set_option maxRecDepth 100000 in
theorem dremove_down (h : DKx S w B m mt D M V) (hd : D.down = true) (n : Nm) : Calls Try.prog 117 #[.pointer (some ⟨B, 0, none⟩), encStr n] w fun e w' => e = .returned (.int .i64 50) ∧ Below w.heap.size w w' := by
  have HF := Lib.hid (dfind_down h hd n)
  clear h hd
  go_enter Try.func117, Try.ntmps117
  go_wp2_with fail
  refine HF.out.mono ?_
  rintro e w1 ⟨rfl, hb⟩
  have hz : zF = .agg #[.slice none 0 0, .int .i64 0] := rfl
  rw [hz]
  clear hz
  have HB := Lib.hid (hb.trans ((boxF (w := w1) (.slice none 0 0) (.int .i64 0)).1.mono hb.size))
  clear hb HF
  go_wp2_with fail
  go_ret
  exact ⟨rfl, HB.out⟩
set_option maxRecDepth 100000 in
theorem dremove_none (h : DKx S w B m mt D M V) (hd : D.down = false) {n : Nm} (hl : n.length ≤ 100000) (hn : getF D.fs n = none) : Calls Try.prog 117 #[.pointer (some ⟨B, 0, none⟩), encStr n] w fun e w' => e = .returned (.int .i64 31) ∧ Below w.heap.size w w' := by
  have HF := Lib.hid (dfind_none h hd hl hn)
  clear h hd hl hn
  go_enter Try.func117, Try.ntmps117
  go_wp2_with fail
  refine HF.out.mono ?_
  rintro e w1 ⟨rfl, hb⟩
  have hz : zF = .agg #[.slice none 0 0, .int .i64 0] := rfl
  rw [hz]
  clear hz
  have HB := Lib.hid (hb.trans ((boxF (w := w1) (.slice none 0 0) (.int .i64 0)).1.mono hb.size))
  clear hb HF
  go_wp2_with fail
  go_ret
  exact ⟨rfl, HB.out⟩
set_option maxRecDepth 100000 in
theorem dcut_down (h : DKx S w B m mt D M V) (hd : D.down = true) (n : Nm) (k : Int) : Calls Try.prog 82 #[.pointer (some ⟨B, 0, none⟩), encStr n, .int .i64 k] w fun e w' => e = .returned (.int .i64 50) ∧ Below w.heap.size w w' := by
  have HF := Lib.hid (dfind_down h hd n)
  clear h hd
  go_enter Try.func82, Try.ntmps82
  go_wp2_with fail
  refine HF.out.mono ?_
  rintro e w1 ⟨rfl, hb⟩
  have hz : zF = .agg #[.slice none 0 0, .int .i64 0] := rfl
  rw [hz]
  clear hz
  have HB := Lib.hid (hb.trans ((boxF (w := w1) (.slice none 0 0) (.int .i64 0)).1.mono hb.size))
  clear hb HF
  go_wp2_with fail
  go_ret
  exact ⟨rfl, HB.out⟩
set_option maxRecDepth 100000 in
theorem dcut_none (h : DKx S w B m mt D M V) (hd : D.down = false) {n : Nm} (hl : n.length ≤ 100000) (hn : getF D.fs n = none) (k : Int) : Calls Try.prog 82 #[.pointer (some ⟨B, 0, none⟩), encStr n, .int .i64 k] w fun e w' => e = .returned (.int .i64 31) ∧ Below w.heap.size w w' := by
  have HF := Lib.hid (dfind_none h hd hl hn)
  clear h hd hl hn
  go_enter Try.func82, Try.ntmps82
  go_wp2_with fail
  refine HF.out.mono ?_
  rintro e w1 ⟨rfl, hb⟩
  have hz : zF = .agg #[.slice none 0 0, .int .i64 0] := rfl
  rw [hz]
  clear hz
  have HB := Lib.hid (hb.trans ((boxF (w := w1) (.slice none 0 0) (.int .i64 0)).1.mono hb.size))
  clear hb HF
  go_wp2_with fail
  go_ret
  exact ⟨rfl, HB.out⟩
set_option maxRecDepth 100000 in
theorem dmove_down (h : DKx S w B m mt D M V) (hd : D.down = true) (n : Nm) (n2 : Nm) : Calls Try.prog 122 #[.pointer (some ⟨B, 0, none⟩), encStr n, encStr n2] w fun e w' => e = .returned (.int .i64 50) ∧ Below w.heap.size w w' := by
  have HF := Lib.hid (dfind_down h hd n)
  clear h hd
  go_enter Try.func122, Try.ntmps122
  go_wp2_with fail
  refine HF.out.mono ?_
  rintro e w1 ⟨rfl, hb⟩
  have hz : zF = .agg #[.slice none 0 0, .int .i64 0] := rfl
  rw [hz]
  clear hz
  have HB := Lib.hid (hb.trans ((boxF (w := w1) (.slice none 0 0) (.int .i64 0)).1.mono hb.size))
  clear hb HF
  go_wp2_with fail
  go_ret
  exact ⟨rfl, HB.out⟩
set_option maxRecDepth 100000 in
theorem dmove_none (h : DKx S w B m mt D M V) (hd : D.down = false) {n : Nm} (hl : n.length ≤ 100000) (hn : getF D.fs n = none) (n2 : Nm) : Calls Try.prog 122 #[.pointer (some ⟨B, 0, none⟩), encStr n, encStr n2] w fun e w' => e = .returned (.int .i64 31) ∧ Below w.heap.size w w' := by
  have HF := Lib.hid (dfind_none h hd hl hn)
  clear h hd hl hn
  go_enter Try.func122, Try.ntmps122
  go_wp2_with fail
  refine HF.out.mono ?_
  rintro e w1 ⟨rfl, hb⟩
  have hz : zF = .agg #[.slice none 0 0, .int .i64 0] := rfl
  rw [hz]
  clear hz
  have HB := Lib.hid (hb.trans ((boxF (w := w1) (.slice none 0 0) (.int .i64 0)).1.mono hb.size))
  clear hb HF
  go_wp2_with fail
  go_ret
  exact ⟨rfl, HB.out⟩
set_option maxRecDepth 100000 in
theorem dread_down (h : DKx S w B m mt D M V) (hd : D.down = true) (n : Nm) : Calls Try.prog 79 #[.pointer (some ⟨B, 0, none⟩), encStr n] w fun e w' => e = .returned (.tuple #[.slice none 0 0, .int .i64 50]) ∧ Below w.heap.size w w' := by
  have HF := Lib.hid (dfind_down h hd n)
  clear h hd
  go_enter Try.func79, Try.ntmps79
  go_wp2_with fail
  refine HF.out.mono ?_
  rintro e w1 ⟨rfl, hb⟩
  have hz : zF = .agg #[.slice none 0 0, .int .i64 0] := rfl
  rw [hz]
  clear hz
  have HB := Lib.hid (hb.trans ((boxF (w := w1) (.slice none 0 0) (.int .i64 0)).1.mono hb.size))
  clear hb HF
  go_wp2_with fail
  go_ret2
  exact ⟨rfl, HB.out⟩
set_option maxRecDepth 100000 in
theorem dread_none (h : DKx S w B m mt D M V) (hd : D.down = false) {n : Nm} (hl : n.length ≤ 100000) (hn : getF D.fs n = none) : Calls Try.prog 79 #[.pointer (some ⟨B, 0, none⟩), encStr n] w fun e w' => e = .returned (.tuple #[.slice none 0 0, .int .i64 31]) ∧ Below w.heap.size w w' := by
  have HF := Lib.hid (dfind_none h hd hl hn)
  clear h hd hl hn
  go_enter Try.func79, Try.ntmps79
  go_wp2_with fail
  refine HF.out.mono ?_
  rintro e w1 ⟨rfl, hb⟩
  have hz : zF = .agg #[.slice none 0 0, .int .i64 0] := rfl
  rw [hz]
  clear hz
  have HB := Lib.hid (hb.trans ((boxF (w := w1) (.slice none 0 0) (.int .i64 0)).1.mono hb.size))
  clear hb HF
  go_wp2_with fail
  go_ret2
  exact ⟨rfl, HB.out⟩
set_option maxRecDepth 100000 in
theorem dsync_sd (h : DKx S w B m mt D M V) (hd : D.down = false) {n : Nm} (hl : n.length ≤ 100000) {f : Fl} (hf : getF D.fs n = some f) (hst : D.st < 1000000000) (hs : (stepD D).down = true) : Calls Try.prog 83 #[.pointer (some ⟨B, 0, none⟩), encStr n] w fun e w' => e = .returned (.int .i64 50) ∧ DKx S w' B m mt (stepD D) M V ∧ Only S w w' := by
  obtain ⟨a, c, e1, e2⟩ := h.file hf
  have HE := Lib.hid e1
  have HV : Hid (fV (V n) f.kept = .agg #[.slice a f.all.length c, .int .i64 (f.kept : Int)]) := Lib.hid (by rw [e1]; rfl)
  have H := Lib.hid h
  have HD := Lib.hid hd
  have HL := Lib.hid hl
  have HF := Lib.hid hf
  have HST := Lib.hid hst
  clear h hd hl hf hst e1 e2
  go_enter Try.func83, Try.ntmps83
  go_wp2_with fail
  refine (dfind_some H.out HD.out HL.out HF.out).mono ?_
  rintro e w1 ⟨rfl, hb⟩
  rw [HV.out]
  have H1 := Lib.hid (H.out.below hb)
  obtain ⟨B2, s2⟩ := boxF (w := w1) (.slice a f.all.length c) (.int .i64 (f.kept : Int))
  have H2 := Lib.hid (H1.out.below B2)
  have HB2 := Lib.hid (hb.trans (B2.mono hb.size))
  have HS2 := Lib.hid s2
  have HN2 : Hid (∀ k, S k → k < w1.heap.size) := Lib.hid H1.out.bd
  have HN3 : Hid (w.heap.size ≤ w1.heap.size) := Lib.hid hb.size
  clear hb B2 s2 H1
  go_wp2_with fail
  obtain ⟨N, hN⟩ : ∃ N, w1.heap.size = N := ⟨_, rfl⟩
  rw [hN] at HS2 HN2 HN3
  try rw [hN]
  clear hN
  generalize w1.alloc (.cells #[.slice a f.all.length c, .int .i64 (f.kept : Int)] 143) = w2 at H2 HB2 HS2 ⊢
  refine (dstep H2.out HST.out).mono ?_
  rintro e w3 ⟨rfl, h3, ho3⟩
  have H3 := Lib.hid h3
  have HO3 := Lib.hid (only_then HB2.out ho3)
  have HS3 : Hid (w3.heap[N]? = some (.cells #[.slice a f.all.length c, .int .i64 (f.kept : Int)] 143 (0, 0))) := Lib.hid ((ho3.block N (ex_lt HS2.out) (fun e => by have := HN2.out N e; omega)).trans HS2.out)
  have HNB : Hid (N ≠ B ∧ N ≠ m ∧ N ≠ mt ∧ ¬ S N) := Lib.hid (by
    have h1 := HN2.out B h3.own.1
    have h2 := HN2.out m h3.own.2.1
    have h3' := HN2.out mt h3.own.2.2
    exact ⟨by omega, by omega, by omega, fun e => by have := HN2.out N e; omega⟩)
  clear h3 ho3 HS2 H2 
  have hp : pw (stepD D).down = 50 := by rw [hs]; rfl
  rw [hp]
  clear hp hs
  go_wp2_with fail
  go_ret
  exact ⟨rfl, H3.out, HO3.out⟩
set_option maxRecDepth 100000 in
theorem dremove_sd (h : DKx S w B m mt D M V) (hd : D.down = false) {n : Nm} (hl : n.length ≤ 100000) {f : Fl} (hf : getF D.fs n = some f) (hst : D.st < 1000000000) (hs : (stepD D).down = true) : Calls Try.prog 117 #[.pointer (some ⟨B, 0, none⟩), encStr n] w fun e w' => e = .returned (.int .i64 50) ∧ DKx S w' B m mt (stepD D) M V ∧ Only S w w' := by
  obtain ⟨a, c, e1, e2⟩ := h.file hf
  have HE := Lib.hid e1
  have HV : Hid (fV (V n) f.kept = .agg #[.slice a f.all.length c, .int .i64 (f.kept : Int)]) := Lib.hid (by rw [e1]; rfl)
  have H := Lib.hid h
  have HD := Lib.hid hd
  have HL := Lib.hid hl
  have HF := Lib.hid hf
  have HST := Lib.hid hst
  clear h hd hl hf hst e1 e2
  go_enter Try.func117, Try.ntmps117
  go_wp2_with fail
  refine (dfind_some H.out HD.out HL.out HF.out).mono ?_
  rintro e w1 ⟨rfl, hb⟩
  rw [HV.out]
  have H1 := Lib.hid (H.out.below hb)
  obtain ⟨B2, s2⟩ := boxF (w := w1) (.slice a f.all.length c) (.int .i64 (f.kept : Int))
  have H2 := Lib.hid (H1.out.below B2)
  have HB2 := Lib.hid (hb.trans (B2.mono hb.size))
  have HS2 := Lib.hid s2
  have HN2 : Hid (∀ k, S k → k < w1.heap.size) := Lib.hid H1.out.bd
  have HN3 : Hid (w.heap.size ≤ w1.heap.size) := Lib.hid hb.size
  clear hb B2 s2 H1
  go_wp2_with fail
  obtain ⟨N, hN⟩ : ∃ N, w1.heap.size = N := ⟨_, rfl⟩
  rw [hN] at HS2 HN2 HN3
  try rw [hN]
  clear hN
  generalize w1.alloc (.cells #[.slice a f.all.length c, .int .i64 (f.kept : Int)] 143) = w2 at H2 HB2 HS2 ⊢
  refine (dstep H2.out HST.out).mono ?_
  rintro e w3 ⟨rfl, h3, ho3⟩
  have H3 := Lib.hid h3
  have HO3 := Lib.hid (only_then HB2.out ho3)
  have HS3 : Hid (w3.heap[N]? = some (.cells #[.slice a f.all.length c, .int .i64 (f.kept : Int)] 143 (0, 0))) := Lib.hid ((ho3.block N (ex_lt HS2.out) (fun e => by have := HN2.out N e; omega)).trans HS2.out)
  have HNB : Hid (N ≠ B ∧ N ≠ m ∧ N ≠ mt ∧ ¬ S N) := Lib.hid (by
    have h1 := HN2.out B h3.own.1
    have h2 := HN2.out m h3.own.2.1
    have h3' := HN2.out mt h3.own.2.2
    exact ⟨by omega, by omega, by omega, fun e => by have := HN2.out N e; omega⟩)
  clear h3 ho3 HS2 H2 
  have hp : pw (stepD D).down = 50 := by rw [hs]; rfl
  rw [hp]
  clear hp hs
  go_wp2_with fail
  go_ret
  exact ⟨rfl, H3.out, HO3.out⟩
end
end Go.Proofs.Ythefnakbpalecaa
