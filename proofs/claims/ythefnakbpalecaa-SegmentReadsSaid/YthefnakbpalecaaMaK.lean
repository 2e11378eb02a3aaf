import Derived.Test.YthefnakbpalecaaDkB
import Derived.Laws.ResultCell
import Derived.Laws.Cover3
import Derived.Deep.MidRow
import Derived.Maps.RangeWalk
import Derived.Deep.LoopGhost
namespace Go.Proofs.Ythefnakbpalecaa
open Go.RowKit
/- The disk's small calls: whether it was made, has power, what a step does, where a file is. -/
open Go.RowKit Go.Maps
theorem neq_fmap (m : Option Nat) (w : World) : (binOp .neq 75 (.map m) (.map none)).run Try.prog w = .ok (.bool (!m.isNone)) w := run_neq_map_nil w _ _ _ m Try.underlying75
theorem fm_und : Try.prog.underlying 75 = some (.map 9 143) := Try.underlying75
theorem fl_zero (w : World) : (zeroValue 143).run Try.prog w = .ok (.agg #[.slice none 0 0, .int .i64 0]) w := by go_simp
/-- What a disk is that no call made. -/
def NoD (w : World) (v : Value) : Prop := v = .pointer none ∨ ∃ b, v = .pointer (some ⟨b, 0, none⟩) ∧ w.cell? ⟨b, 1, none⟩ = some (.map none)
theorem NoD.below {w w' : World} {v : Value} (h : NoD w v) (hb : Below w.heap.size w w') : NoD w' v := by
  rcases h with rfl | ⟨b, rfl, h⟩
  · exact .inl rfl
  · exact .inr ⟨b, rfl, (hb.cell (p := ⟨b, 1, none⟩) (cell_spot h).2).trans h⟩
theorem dcreated_no (v : Value) (w : World) (h : NoD w v) : Calls Try.prog 89 #[v] w fun e w' => e = .returned (.bool false) ∧ w = w' := by
  have hnm := neq_fmap
  rcases h with rfl | ⟨b, rfl, h⟩
  · go_enter Try.func89, Try.ntmps89
    go_wp2_with fail
    go_ret
    exact ⟨rfl, rfl⟩
  · go_enter Try.func89, Try.ntmps89
    go_wp2_with fail
    go_ret
    exact ⟨rfl, rfl⟩
theorem dpower_no (v : Value) (w : World) (h : NoD w v) : Calls Try.prog 84 #[v] w fun e w' => e = .returned (.int .i64 1) ∧ w = w' := by
  go_enter Try.func84, Try.ntmps84
  go_wp2_with fail
  refine (dcreated_no v w h).mono ?_
  rintro e w1 ⟨rfl, rfl⟩
  go_wp2_with fail
  go_ret
  exact ⟨rfl, rfl⟩
section
variable {S : Nat → Prop} {w : World} {B m mt : Nat} {D : Dd} {M : Lit → Option Value} {V : Nm → Value}
theorem dcreated_yes (h : DKx S w B m mt D M V) : Calls Try.prog 89 #[.pointer (some ⟨B, 0, none⟩)] w fun e w' => e = .returned (.bool true) ∧ w = w' := by
  have hnm := neq_fmap
  obtain ⟨-, c1, -⟩ := h.at
  clear h
  go_enter Try.func89, Try.ntmps89
  go_wp2_with fail
  go_ret
  exact ⟨rfl, rfl⟩
def pw (d : Bool) : Int := if d then 50 else 0
theorem dpower_any (h : DKx S w B m mt D M V) : Calls Try.prog 84 #[.pointer (some ⟨B, 0, none⟩)] w fun e w' => e = .returned (.int .i64 (pw D.down)) ∧ w = w' := by
  have H := Lib.hid h
  obtain ⟨-, -, -, c3, -⟩ := h.at
  clear h
  cases hd : D.down with
  | true =>
    rw [hd] at c3
    clear hd
    go_enter Try.func84, Try.ntmps84
    go_wp2_with fail
    refine (dcreated_yes H.out).mono ?_
    rintro e w1 ⟨rfl, rfl⟩
    go_wp2_with fail
    go_ret
    exact ⟨rfl, rfl⟩
  | false =>
    rw [hd] at c3
    clear hd
    go_enter Try.func84, Try.ntmps84
    go_wp2_with fail
    refine (dcreated_yes H.out).mono ?_
    rintro e w1 ⟨rfl, rfl⟩
    go_wp2_with fail
    go_ret
    exact ⟨rfl, rfl⟩
end
theorem possible_any (r : Int) (w : World) : Calls Try.prog 76 #[.int .i64 r] w fun e w' => e = .returned (.bool (decide (0 ≤ r) && decide (r ≤ 1048576))) ∧ w = w' := by
  by_cases h0 : 0 ≤ r
  · have d0 : decide (0 ≤ r) = true := decide_eq_true h0
    have d0' : decide (r ≥ 0) = true := decide_eq_true h0
    by_cases h1 : r ≤ 1048576
    · have d1 : decide (r ≤ 1048576) = true := decide_eq_true h1
      rw [d0, d1]
      clear h0 h1
      go_enter Try.func76, Try.ntmps76
      go_wp2_with fail
      go_ret
      exact ⟨rfl, rfl⟩
    · have d1 : decide (r ≤ 1048576) = false := decide_eq_false h1
      rw [d0, d1]
      clear h0 h1
      go_enter Try.func76, Try.ntmps76
      go_wp2_with fail
      go_ret
      exact ⟨rfl, rfl⟩
  · have d0 : decide (0 ≤ r) = false := decide_eq_false h0
    have d0' : decide (r ≥ 0) = false := decide_eq_false h0
    rw [d0]
    clear h0
    go_enter Try.func76, Try.ntmps76
    go_wp2_with fail
    go_ret
    exact ⟨rfl, rfl⟩
def validN (n : Nm) : Bool := decide (1 ≤ n.length ∧ n.length ≤ 16)
theorem valid_any (n : Nm) (w : World) : Calls Try.prog 143 #[encStr n] w fun e w' => e = .returned (.bool (validN n)) ∧ w = w' := by
  have hs : ((⟨n.toArray⟩ : ByteArray).size : Int) = (n.length : Int) := by show ((n.toArray.size : Nat) : Int) = _; simp
  by_cases h0 : 1 ≤ n.length
  · have d0 : decide (1 ≤ n.length) = true := decide_eq_true h0
    have d0' : decide ((n.length : Int) ≥ 1) = true := decide_eq_true (by omega)
    have d0'' : decide (1 ≤ (n.length : Int)) = true := decide_eq_true (by omega)
    by_cases h1 : n.length ≤ 16
    · have d1 : decide (n.length ≤ 16) = true := decide_eq_true h1
      have d1' : decide ((n.length : Int) ≤ 16) = true := decide_eq_true (by omega)
      have hv : validN n = true := decide_eq_true ⟨h0, h1⟩
      rw [hv]
      clear h0 h1 hv
      go_enter Try.func143, Try.ntmps143
      go_wp2_with fail
      go_ret
      exact ⟨rfl, rfl⟩
    · have d1 : decide (n.length ≤ 16) = false := decide_eq_false h1
      have d1' : decide ((n.length : Int) ≤ 16) = false := decide_eq_false (by omega)
      have hv : validN n = false := decide_eq_false (fun h => h1 h.2)
      rw [hv]
      clear h0 h1 hv
      go_enter Try.func143, Try.ntmps143
      go_wp2_with fail
      go_ret
      exact ⟨rfl, rfl⟩
  · have d0 : decide (1 ≤ n.length) = false := decide_eq_false h0
    have d0' : decide ((n.length : Int) ≥ 1) = false := decide_eq_false (by omega)
    have d0'' : decide (1 ≤ (n.length : Int)) = false := decide_eq_false (by omega)
    have hv : validN n = false := decide_eq_false (fun h => h0 h.1)
    rw [hv]
    clear h0 hv
    go_enter Try.func143, Try.ntmps143
    go_wp2_with fail
    go_ret
    exact ⟨rfl, rfl⟩
/- The disk: New; a step; a file found; what is free. -/
open Go.RowKit Go.Maps
theorem new_none23 (r : Int) (w : World) (h : r < 0 ∨ 1048576 < r) : Calls Try.prog 32 #[.int .i64 r] w fun e w' => e = .returned (.pointer none) ∧ w = w' := by
  have hp : (decide (0 ≤ r) && decide (r ≤ 1048576)) = false := by
    rcases h with h | h
    · rw [decide_eq_false (by omega : ¬ 0 ≤ r)]; rfl
    · rw [decide_eq_false (by omega : ¬ r ≤ 1048576)]; simp
  go_enter Try.func32, Try.ntmps32
  go_wp2_with fail
  refine (possible_any r w).mono ?_
  rintro e w1 ⟨rfl, rfl⟩
  rw [hp]
  clear hp h
  go_wp2_with fail
  go_ret
  exact ⟨rfl, rfl⟩
def d0 (r : Int) : Dd := ⟨r, [], 0, false, false, 0⟩
theorem new_dk (r : Int) (w : World) (h : 0 ≤ r ∧ r ≤ 1048576) : Calls Try.prog 32 #[.int .i64 r] w fun e w' => ∃ B, e = .returned (.pointer (some ⟨B, 0, none⟩)) ∧ w.heap.size ≤ B ∧ DK (fun k => w.heap.size ≤ k ∧ k < w'.heap.size) w' B (d0 r) ∧ Below w.heap.size w w' := by
  have hp : (decide (0 ≤ r) && decide (r ≤ 1048576)) = true := by rw [decide_eq_true h.1, decide_eq_true h.2]; rfl
  have HR := Lib.hid h
  have hmm := @run_makeMap Try.prog
  clear h
  go_enter Try.func32, Try.ntmps32
  go_wp2_with fail
  refine (possible_any r w).mono ?_
  rintro e w1 ⟨rfl, rfl⟩
  rw [hp]
  clear hp
  go_wp2_with fail
  clear hmm
  have A1 : Below w.heap.size w (w.alloc (.map #[] 0)) := (Below.refl _ w).alloc (Nat.le_refl _) _
  have HV : Hid (VM 9 (w.alloc (.map #[] 0)) w.heap.size 0 (fun _ => none)) := Lib.hid (VM.made _ w)
  have HS1 : Hid ((w.alloc (.map #[] 0)).heap.size = w.heap.size + 1) := Lib.hid (by simp)
  have HB1 := Lib.hid A1
  clear A1
  obtain ⟨mm, hmm⟩ : ∃ mm, w.heap.size = mm := ⟨_, rfl⟩
  rw [hmm] at HV HS1
  have HMM := Lib.hid hmm
  rw [hmm]
  clear hmm
  generalize w.alloc (.map #[] 0) = w1 at HV HS1 HB1 ⊢
  refine (new_met 1 w1 (by decide) (by decide)).mono ?_
  rintro e w2 ⟨rfl, hb, hm, hs⟩
  have HM2 := Lib.hid hm
  have HV2 := Lib.hid (HV.out.kept hb)
  have HB2 := Lib.hid (HB1.out.trans (hb.mono HB1.out.size))
  have HS2 := Lib.hid hs
  clear hb hm hs
  go_wp2_with fail
  go_ret
  obtain ⟨B3, s3, h3⟩ := box1 w2 (DC (d0 r) mm w1.heap.size).toArray 78
  have e1 := HS1.out
  have e2 := HS2.out
  have e3 := HMM.out
  have h3' : (w2.alloc (.cells (DC (d0 r) mm w1.heap.size).toArray 78)).heap.size = mm + 3 := by rw [h3, e2, e1]
  refine ⟨w2.heap.size, rfl, by rw [e3]; show mm ≤ _; omega, ⟨mm, w1.heap.size, fun _ => none, fun _ => .slice none 0 0, ?_⟩, HB2.out.trans (B3.mono HB2.out.size)⟩
  refine ⟨s3, HM2.out.kept B3, ⟨HV2.out.kept B3, fun n => rfl, fun n f e => (by cases e), fun n f e => (by cases e), fun n k g _ e => absurd rfl e, fun n g e => absurd rfl e, List.Pairwise.nil, (by show sumF [] ≤ _; decide), (by show ([] : Ft).length ≤ _; decide)⟩, ⟨⟨?_, ?_⟩, ⟨?_, ?_⟩, ⟨?_, ?_⟩⟩, ⟨?_, ?_, ?_⟩, fun n g e => absurd rfl e, HR.out, ⟨(by show (0 : Int) ≤ 0; decide), (by show (0 : Int) < 18446744073709551616; decide)⟩, fun k hk => hk.2⟩
  all_goals first | (rw [e3]; show mm ≤ _; omega) | (show _ < (w2.alloc (.cells (DC (d0 r) mm w1.heap.size).toArray 78)).heap.size; omega) | omega
section
variable {S : Nat → Prop} {w : World} {B m mt : Nat} {D : Dd} {M : Lit → Option Value} {V : Nm → Value}
/-- What a step makes of a disk. -/
def stepD (D : Dd) : Dd := ⟨D.room, D.fs, D.st + 1, D.armed && decide (D.after < ((D.st + 1 : Nat) : Int)), D.armed, D.after⟩
theorem DKx.met1 (h : DKx S w B m mt D M V) {w' : World} (ho : Only (· = mt) w w') (hm : Met mt [((D.st + 1 : Nat) : Int)] w') : DKx S w' B m mt ⟨D.room, D.fs, D.st + 1, D.down, D.armed, D.after⟩ M V :=
  ⟨(ho.block B h.lt.1 h.ne.2.1).trans h.cells, hm, h.df.move (ho.block m h.lt.2.1 h.ne.2.2) (fun n g hn hg => ho.block g (h.df.lt hn hg) (h.fne n g hn hg).2.2), h.own, h.ne, h.fne, h.rm, h.af, fun k hs => Nat.lt_of_lt_of_le (h.bd k hs) ho.size⟩
theorem only_step (h : DKx S w B m mt D M V) {w' : World} (ho : Only (· = mt) w w') (v : Value) (i : Nat) : Only S w (w'.setCell ⟨B, i, none⟩ v) := (ho.more (fun k e => by rw [e]; exact h.own.2.2)).setCell _ _ h.own.1
set_option maxRecDepth 100000 in
theorem dstep (h : DKx S w B m mt D M V) (hst : D.st < 1000000000) : Calls Try.prog 119 #[.pointer (some ⟨B, 0, none⟩)] w fun e w' => e = .returned (.int .i64 (pw (stepD D).down)) ∧ DKx S w' B m mt (stepD D) M V ∧ Only S w w' := by
  have H := Lib.hid h
  have HST := Lib.hid hst
  obtain ⟨-, -, c2, -⟩ := h.at
  clear h hst
  go_enter Try.func119, Try.ntmps119
  go_wp2_with fail
  refine (add_ok mt [(D.st : Int)] 0 1 (D.st : Int) w H.out.met (by simp) rfl (by decide) (by unfold TOP; have := HST.out; omega)).mono ?_
  rintro e w1 ⟨rfl, ho, hm, hs⟩
  have H1 := Lib.hid (H.out.met1 ho (by simpa using hm))
  have HO := Lib.hid ho
  obtain ⟨-, -, -, c3, c4, c5⟩ := H1.out.at
  have f3 := H1.out.fr 3
  simp only at c3 c4 c5
  clear hm hs ho c2
  have hn1 : ((D.st + 1 : Nat) : Int) = (D.st : Int) + 1 := by omega
  cases ha : D.armed with
  | false =>
    have HD : Hid ((stepD D).down = false) := Lib.hid (by simp [stepD, ha])
    have H9 := Lib.hid (H1.out.field (stepD D) 3 (.bool false) (by simp [DC, stepD, ha]) rfl rfl H.out.rm H.out.af)
    rw [ha] at c4
    clear ha hn1
    go_wp2_with fail
    refine (dpower_any H9.out).mono ?_
    rintro e w2 ⟨rfl, rfl⟩
    go_wp2_with fail
    go_ret
    exact ⟨rfl, H9.out, only_step H.out HO.out _ _⟩
  | true =>
    by_cases hl : D.after < (D.st : Int) + 1
    · have HD : Hid ((stepD D).down = true) := Lib.hid (by simp [stepD, ha]; omega)
      have H9 := Lib.hid (H1.out.field (stepD D) 3 (.bool true) (by have := HD.out; simp [DC, stepD, ha] at this ⊢; omega) rfl rfl H.out.rm H.out.af)
      have dl : decide (D.after < (D.st : Int) + 1) = true := decide_eq_true hl
      rw [ha] at c4
      clear ha hn1 hl
      go_wp2_with fail
      refine (dpower_any H9.out).mono ?_
      rintro e w2 ⟨rfl, rfl⟩
      go_wp2_with fail
      go_ret
      exact ⟨rfl, H9.out, only_step H.out HO.out _ _⟩
    · have HD : Hid ((stepD D).down = false) := Lib.hid (by simp [stepD, ha]; omega)
      have H9 := Lib.hid (H1.out.field (stepD D) 3 (.bool false) (by have := HD.out; simp [DC, stepD, ha] at this ⊢; omega) rfl rfl H.out.rm H.out.af)
      have dl : decide (D.after < (D.st : Int) + 1) = false := decide_eq_false hl
      rw [ha] at c4
      clear ha hn1 hl
      go_wp2_with fail
      refine (dpower_any H9.out).mono ?_
      rintro e w2 ⟨rfl, rfl⟩
      go_wp2_with fail
      go_ret
      exact ⟨rfl, H9.out, only_step H.out HO.out _ _⟩
end
/- The disk: a file found. -/
open Go.RowKit Go.Maps
theorem fl_info : (Try.prog.info? 143).map (·.size) = some 2 := by kernel_rfl
theorem fl_und : Try.prog.underlying 143 = some (.struct (Try.prog.fieldsOf 143)) := by kernel_rfl
theorem fl_res {fn : Func} {p u : Nat} (h : fn.results = #[.cell p 143, .tmp u]) (tmps : Array Value) (w : World) (N : Nat) (x y : Value) (hp : tmps.getD p undef = .pointer (some ⟨N, 0, none⟩)) (h0 : w.cell? ⟨N, 0, none⟩ = some x) (h1 : w.cell? ⟨N, 1, none⟩ = some y) : (results fn tmps).run Try.prog w = .ok (.tuple #[.agg #[x, y], tmps.getD u undef]) w := by
  rw [results_cell_tmp h, hp]
  have hR : w.rangeAt N 0 [x, y] := fun j u hj => by
    rcases j with _ | _ | j
    · injection hj with hj
      subst hj
      exact h0
    · injection hj with hj
      subst hj
      exact h1
    · cases hj
  have hl := run_loadVar_mid w N 0 _ [x, y] _ hR fl_und rfl fl_info
  simp only [asAddr, Sem.run_pure, Result.andThen_ok, hl]
def zF : Value := .agg #[.slice none 0 0, .int .i64 0]
theorem two_at {w : World} {N : Nat} {x y : Value} {t : TypeId} (h : w.heap[N]? = some (.cells #[x, y] t (0, 0))) : w.cell? ⟨N, 0, none⟩ = some x ∧ w.cell? ⟨N, 1, none⟩ = some y ∧ ∀ o, w.frozen? ⟨N, o, none⟩ = false := by
  refine ⟨by simp [World.cell?, h], by simp [World.cell?, h], fun o => by simp [World.frozen?, h]⟩
theorem two_set {w : World} {N : Nat} {x y : Value} {t : TypeId} (h : w.heap[N]? = some (.cells #[x, y] t (0, 0))) (v : Value) : (w.setCell ⟨N, 0, none⟩ v).heap[N]? = some (.cells #[v, y] t (0, 0)) ∧ (w.setCell ⟨N, 1, none⟩ v).heap[N]? = some (.cells #[x, v] t (0, 0)) := by
  refine ⟨?_, ?_⟩
  · rw [heap_setCell_same w N 0 _ _ v h]; simp
  · rw [heap_setCell_same w N 1 _ _ v h]; simp
theorem below_two {B : Nat} {w w' : World} (h : Below B w w') {N : Nat} (hN : B ≤ N) (i : Nat) (v : Value) : Below B w (w'.setCell ⟨N, i, none⟩ v) := h.setCell (by exact hN) _
section
variable {S : Nat → Prop} {w : World} {B m mt : Nat} {D : Dd} {M : Lit → Option Value} {V : Nm → Value}
theorem DKx.file (h : DKx S w B m mt D M V) {n : Nm} {f : Fl} (hf : getF D.fs n = some f) : ∃ a c, V n = .slice a f.all.length c ∧ M (.string n) = some (.agg #[.slice a f.all.length c, .int .i64 (f.kept : Int)]) := by
  obtain ⟨a, c, e, -⟩ := ((h.df.own n f hf).rb (h.df.ok n f hf).1 (by have := sum_le (getF_mem hf); have := h.df.sum; simp only at *; omega)).shape
  refine ⟨a, c, e, ?_⟩
  rw [h.df.spot n, hf, e]
  rfl
set_option maxRecDepth 100000 in
theorem dfind_down (h : DKx S w B m mt D M V) (hd : D.down = true) (n : Nm) : Calls Try.prog 118 #[.pointer (some ⟨B, 0, none⟩), encStr n] w fun e w' => e = .returned (.tuple #[zF, .int .i64 50]) ∧ Below w.heap.size w w' := by
  obtain ⟨B1, s1, -⟩ := box1 w #[.slice none 0 0, .int .i64 0] 143
  have H := Lib.hid (h.below B1)
  have HD := Lib.hid hd
  have HB := Lib.hid B1
  have HS := Lib.hid s1
  clear h hd B1 s1
  go_enter Try.func118, Try.ntmps118
  go_wp2_with fail
  obtain ⟨N, hN⟩ : ∃ N, w.heap.size = N := ⟨_, rfl⟩
  rw [hN] at HS
  have HN := Lib.hid hN
  rw [hN]
  clear hN
  generalize w.alloc (.cells #[.slice none 0 0, .int .i64 0] 143) = w1 at H HB HS ⊢
  refine (dpower_any H.out).mono ?_
  rintro e w2 ⟨rfl, rfl⟩
  have hp : pw D.down = 50 := by rw [HD.out]; rfl
  rw [hp]
  clear hp
  have f0 := (two_at HS.out).2.2 0
  have f1 := (two_at HS.out).2.2 1
  have x0 := (two_at HS.out).1
  have x1 := (two_at HS.out).2.1
  go_wp2_with fail
  obtain ⟨t1, -⟩ := two_set HS.out (.slice none 0 0)
  obtain ⟨-, t2⟩ := two_set t1 (.int .i64 0)
  refine bodyPost_ret (fl_res rfl _ _ N _ _ rfl (two_at t2).1 (two_at t2).2.1) rfl ?_
  exact ⟨rfl, below_two (below_two HB.out (by have := HN.out; omega) _ _) (by have := HN.out; omega) _ _⟩
set_option maxRecDepth 100000 in
theorem dfind_none (h : DKx S w B m mt D M V) (hd : D.down = false) {n : Nm} (hl : n.length ≤ 100000) (hn : getF D.fs n = none) : Calls Try.prog 118 #[.pointer (some ⟨B, 0, none⟩), encStr n] w fun e w' => e = .returned (.tuple #[zF, .int .i64 31]) ∧ Below w.heap.size w w' := by
  obtain ⟨B1, s1, -⟩ := box1 w #[.slice none 0 0, .int .i64 0] 143
  have H := Lib.hid (h.below B1)
  have HD := Lib.hid hd
  have HB := Lib.hid B1
  have HS := Lib.hid s1
  have HG : Hid (M (.string n) = none) := Lib.hid (by rw [h.df.spot n, hn]; rfl)
  have HL := Lib.hid hl
  clear hl hn
  clear h hd B1 s1
  go_enter Try.func118, Try.ntmps118
  go_wp2_with fail
  obtain ⟨N, hN⟩ : ∃ N, w.heap.size = N := ⟨_, rfl⟩
  rw [hN] at HS
  have HN := Lib.hid hN
  rw [hN]
  clear hN
  generalize w.alloc (.cells #[.slice none 0 0, .int .i64 0] 143) = w1 at H HB HS ⊢
  refine (dpower_any H.out).mono ?_
  rintro e w2 ⟨rfl, rfl⟩
  have hp : pw D.down = 0 := by rw [HD.out]; rfl
  rw [hp]
  clear hp
  obtain ⟨-, q1, -⟩ := H.out.at
  have hz := fl_zero w1
  have hlk := H.out.df.vm.look_ok keyedS fm_und hz (keyS HL.out)
  rw [HG.out] at hlk
  clear hz
  simp only [Option.getD_none, Option.isSome_none] at hlk
  obtain ⟨B2, s2, -⟩ := box1 w1 #[.slice none 0 0, .int .i64 0] 143
  obtain ⟨y0, y1, g2⟩ := two_at s2
  have g0 := g2 0
  have g1 := g2 1
  have HB2 := Lib.hid (HB.out.trans (B2.mono HB.out.size))
  have HS2 := Lib.hid (ex_below HS.out B2)
  have f0 := (two_at HS2.out).2.2 0
  have f1 := (two_at HS2.out).2.2 1
  have x0 := (two_at HS2.out).1
  have x1 := (two_at HS2.out).2.1
  clear B2 s2 g2
  go_wp2_with fail
  obtain ⟨t1, -⟩ := two_set HS2.out (.slice none 0 0)
  obtain ⟨-, t2⟩ := two_set t1 (.int .i64 0)
  refine bodyPost_ret (fl_res rfl _ _ N _ _ rfl (two_at t2).1 (two_at t2).2.1) rfl ?_
  exact ⟨rfl, below_two (below_two HB2.out (by have := HN.out; omega) _ _) (by have := HN.out; omega) _ _⟩
set_option maxRecDepth 100000 in
theorem dfind_some (h : DKx S w B m mt D M V) (hd : D.down = false) {n : Nm} (hl : n.length ≤ 100000) {f : Fl} (hn : getF D.fs n = some f) : Calls Try.prog 118 #[.pointer (some ⟨B, 0, none⟩), encStr n] w fun e w' => e = .returned (.tuple #[fV (V n) f.kept, .int .i64 0]) ∧ Below w.heap.size w w' := by
  obtain ⟨B1, s1, -⟩ := box1 w #[.slice none 0 0, .int .i64 0] 143
  have H := Lib.hid (h.below B1)
  have HD := Lib.hid hd
  have HB := Lib.hid B1
  have HS := Lib.hid s1
  obtain ⟨a, c, e1, e2⟩ := h.file hn
  have HG := Lib.hid e2
  have HE := Lib.hid e1
  have HL := Lib.hid hl
  clear hl hn e1 e2
  clear h hd B1 s1
  go_enter Try.func118, Try.ntmps118
  go_wp2_with fail
  obtain ⟨N, hN⟩ : ∃ N, w.heap.size = N := ⟨_, rfl⟩
  rw [hN] at HS
  have HN := Lib.hid hN
  rw [hN]
  clear hN
  generalize w.alloc (.cells #[.slice none 0 0, .int .i64 0] 143) = w1 at H HB HS ⊢
  refine (dpower_any H.out).mono ?_
  rintro e w2 ⟨rfl, rfl⟩
  have hp : pw D.down = 0 := by rw [HD.out]; rfl
  rw [hp]
  clear hp
  obtain ⟨-, q1, -⟩ := H.out.at
  have hz := fl_zero w1
  have hlk := H.out.df.vm.look_ok keyedS fm_und hz (keyS HL.out)
  rw [HG.out] at hlk
  clear hz
  simp only [Option.getD_some, Option.isSome_some] at hlk
  obtain ⟨B2, s2, -⟩ := box1 w1 #[.slice a f.all.length c, .int .i64 (f.kept : Int)] 143
  obtain ⟨y0, y1, g2⟩ := two_at s2
  have g0 := g2 0
  have g1 := g2 1
  have HB2 := Lib.hid (HB.out.trans (B2.mono HB.out.size))
  have HS2 := Lib.hid (ex_below HS.out B2)
  have f0 := (two_at HS2.out).2.2 0
  have f1 := (two_at HS2.out).2.2 1
  have x0 := (two_at HS2.out).1
  have x1 := (two_at HS2.out).2.1
  clear B2 s2 g2
  go_wp2_with fail
  obtain ⟨t1, -⟩ := two_set HS2.out (.slice a f.all.length c)
  obtain ⟨-, t2⟩ := two_set t1 (.int .i64 (f.kept : Int))
  refine bodyPost_ret (fl_res rfl _ _ N _ _ rfl (two_at t2).1 (two_at t2).2.1) rfl ?_
  rw [HE.out]
  exact ⟨rfl, below_two (below_two HB2.out (by have := HN.out; omega) _ _) (by have := HN.out; omega) _ _⟩
end
set_option maxRecDepth 100000 in
theorem dfind_no (v : Value) (n : Nm) (w : World) (h : NoD w v) : Calls Try.prog 118 #[v, encStr n] w fun e w' => e = .returned (.tuple #[zF, .int .i64 1]) ∧ Below w.heap.size w w' := by
  obtain ⟨B1, s1, -⟩ := box1 w #[.slice none 0 0, .int .i64 0] 143
  have H := Lib.hid (h.below B1)
  have HB := Lib.hid B1
  have HS := Lib.hid s1
  clear h B1 s1
  go_enter Try.func118, Try.ntmps118
  go_wp2_with fail
  obtain ⟨N, hN⟩ : ∃ N, w.heap.size = N := ⟨_, rfl⟩
  rw [hN] at HS
  have HN := Lib.hid hN
  rw [hN]
  clear hN
  generalize w.alloc (.cells #[.slice none 0 0, .int .i64 0] 143) = w1 at H HB HS ⊢
  refine (dpower_no v w1 H.out).mono ?_
  rintro e w2 ⟨rfl, rfl⟩
  have f0 := (two_at HS.out).2.2 0
  have f1 := (two_at HS.out).2.2 1
  have x0 := (two_at HS.out).1
  have x1 := (two_at HS.out).2.1
  go_wp2_with fail
  obtain ⟨t1, -⟩ := two_set HS.out (.slice none 0 0)
  obtain ⟨-, t2⟩ := two_set t1 (.int .i64 0)
  refine bodyPost_ret (fl_res rfl _ _ N _ _ rfl (two_at t2).1 (two_at t2).2.1) rfl ?_
  exact ⟨rfl, below_two (below_two HB.out (by have := HN.out; omega) _ _) (by have := HN.out; omega) _ _⟩
/- The disk: how much is free. -/
open Go.RowKit Go.Maps
def freeD (D : Dd) : Int := if D.room < (sumF D.fs : Int) then 0 else D.room - (sumF D.fs : Int)
theorem strike_same (left : Lit → Bool) (n : Nm) : (left (.string n) && !(Lit.string n).sameKey (.string n)) = false := by simp [Lit.sameKey]
theorem strike_other (left : Lit → Bool) (x : Nm) (n : Nm) (h : n ≠ x) : (left (.string n) && !(Lit.string n).sameKey (.string x)) = left (.string n) := by simp [Lit.sameKey, h]
theorem strike_le {left : Lit → Bool} {x : Nm} {kl : Lit} (h : (left kl && !kl.sameKey (.string x)) = true) : left kl = true := by
  simp only [Bool.and_eq_true] at h
  exact h.1
section
variable {S : Nat → Prop} {w : World} {B m mt : Nat} {D : Dd} {M : Lit → Option Value} {V : Nm → Value}
/-- What the map of a disk is, for a range over it. -/
theorem DKx.ranged (h : DKx S w B m mt D M V) : ∃ Dm, w.ownsMap Try.prog 9 vR m D.fs.length Dm ∧ Maps.size Dm = D.fs.length ∧ (∀ l v, M l = some v → Maps.has Dm l = true ∧ ∀ z, Dm.atKey l z = .held v) ∧ ∀ l, M l = none → Maps.has Dm l = false := by
  obtain ⟨Dm, h1, h2, h3⟩ := h.df.vm
  exact ⟨Dm, h1, h2, fun l v e => by have := h3 l; rw [e] at this; exact this, fun l e => by have := h3 l; rw [e] at this; exact this⟩
theorem DKx.key_of (h : DKx S w B m mt D M V) {n : Nm} (hn : M (.string n) ≠ none) : ∃ f, getF D.fs n = some f := by
  rw [h.df.spot n] at hn
  cases e : getF D.fs n with
  | none => rw [e] at hn; exact absurd rfl hn
  | some f => exact ⟨f, rfl⟩
set_option maxRecDepth 100000 in
set_option maxHeartbeats 8000000 in
theorem dfree (h : DKx S w B m mt D M V) : Calls Try.prog 155 #[.pointer (some ⟨B, 0, none⟩)] w fun e w' => e = .returned (.int .i64 (freeD D)) ∧ Below w.heap.size w w' := by
  have H := Lib.hid h
  obtain ⟨Dm, hown, hsz, hM, hMN⟩ := h.ranged
  have HOWN := Lib.hid hown
  have HM := Lib.hid hM
  have HMN := Lib.hid hMN
  obtain ⟨c0, c1, -⟩ := h.at
  have HML := Lib.hid h.lt.2.1
  clear hown hM hMN h hsz
  go_enter Try.func155, Try.ntmps155
  go_wp2_with fail
  refine (dcreated_yes H.out).mono ?_
  rintro e w1 ⟨rfl, rfl⟩
  go_wp2_with (at_range; refine wpList_range_own _ rfl _ 75 rfl 9 143 keyedS fm_und _ m _ _ rfl HOWN.out ?_; intro w2 hrg0 hg0 hs0)
  go_frame
  obtain ⟨r, hr⟩ : ∃ r, w.heap.size = r := ⟨_, rfl⟩
  have HR := Lib.hid hr
  rw [hr] at hrg0
  try rw [hr]
  clear hr
  have HRG := Lib.hid hrg0
  have HBW : Hid (Below w.heap.size w w2) := Lib.hid ⟨hg0.os, hg0.tape, hg0.output, hg0.size, fun k hk => hg0.block k hk (by simp)⟩
  have HLF0 : Hid (∀ kl, Maps.has Dm kl = true → M kl ≠ none) := Lib.hid (fun kl hl e => by rw [HMN.out kl e] at hl; cases hl)
  have HSU : Hid (leftF (fun n => Maps.has Dm (.string n)) D.fs = sumF D.fs) := Lib.hid (leftF_all (fun p hp => by
    obtain ⟨a, c, -, e2⟩ := H.out.file (getF_of_mem H.out.df.srt (show (p.1, p.2) ∈ D.fs from hp))
    exact (HM.out _ _ e2).1))
  have HSL := Lib.hid H.out.df.sum
  have HRM := Lib.hid H.out.rm
  clear hrg0 hg0 hs0 c0 c1
  go_loopg [3] (Maps.size Dm) (fun kx s3 wr => ∃ (left : Lit → Bool) (cnt : Nat), cnt ≤ kx ∧ s3 = .int .i64 (D.room - (sumF D.fs : Int) + (leftF (fun n => left (.string n)) D.fs : Int)) ∧ Hid (wr.ranges Try.prog 9 vR m r D.fs.length Dm left cnt) ∧ Hid (∀ kl, left kl = true → M kl ≠ none) ∧ Hid (Below w.heap.size w wr))
  case atStart => exact ⟨_, _, Nat.le_refl _, by rw [HSU.out]; congr 1; omega, HRG, HLF0, HBW⟩
  case round =>
    clear HRG HBW HLF0 HSU
    obtain ⟨left, cnt, hcnt, rfl, HRG, HLF, HB⟩ := hrel
    go_wp2_with (at_next; refine wpList_next_ranges _ rfl _ rfl 9 keyedS vR encStr (fun v : Value => v) (fun key kl hkey => by obtain ⟨x, h1, -⟩ := Maps.keyOf_str Try.underlying9 hkey; exact ⟨x, h1⟩) (fun v y _ => ⟨v, rfl⟩) m r D.fs.length _ _ _ rfl HRG.out ?_ ?_)
    · intro hc0 hl0
      have HL0 : Hid (leftF (fun n => left (.string n)) D.fs = 0) := Lib.hid (leftF_none (fun p hp => hl0 _))
      rw [HL0.out]
      have e0 : D.room - (sumF D.fs : Int) + ((0 : Nat) : Int) = D.room - (sumF D.fs : Int) := by omega
      rw [e0]
      clear hl0 e0 hc0
      by_cases hlt : D.room < (sumF D.fs : Int)
      · have hm : D.room - (sumF D.fs : Int) < 0 := by omega
        have hd1 : decide (D.room - (sumF D.fs : Int) < 0) = true := decide_eq_true hm
        go_wp2_with fail
        go_ret
        refine ⟨?_, HB.out⟩
        unfold freeD
        rw [if_pos (by omega)]
        first | rfl | (congr 2; omega)
      · have hm : ¬ D.room - (sumF D.fs : Int) < 0 := by omega
        have hd1 : decide (D.room - (sumF D.fs : Int) < 0) = false := decide_eq_false hm
        go_wp2_with fail
        go_ret
        refine ⟨?_, HB.out⟩
        unfold freeD
        rw [if_neg (by omega)]
        first | rfl | (congr 2; omega)
    · intro x v kl y ps w3 cnt1 hkey hlx hv hat hrg1 hlt hg1 hs1 hen
      obtain ⟨x', ex, rfl, -⟩ := Maps.keyOf_str Try.underlying9 hkey
      obtain rfl := encStr_inj ex
      obtain ⟨f, hf⟩ := H.out.key_of (HLF.out _ hlx)
      obtain ⟨a, c, -, e2⟩ := H.out.file hf
      have hvy : v = .agg #[.slice a f.all.length c, .int .i64 (f.kept : Int)] := by
        have h1 := (HM.out _ _ e2).2 (.held v)
        have h2 := hat (.held v)
        rw [h1] at h2
        rw [← h2] at hv
        exact vR_inv hv
      subst hvy
      have HST : Hid (leftF (fun n => left (.string n)) D.fs = f.all.length + leftF (fun n => left (.string n) && !(Lit.string n).sameKey (.string x)) D.fs) := Lib.hid (leftF_step H.out.df.srt hf hlx (strike_same left x) (fun k hk => strike_other left x k hk))
      have HRG1 := Lib.hid hrg1
      have HLF1 : Hid (∀ kl, (left kl && !kl.sameKey (.string x)) = true → M kl ≠ none) := Lib.hid (fun kl hk => HLF.out kl (strike_le hk))
      have HB3 : Hid (Below w.heap.size w w3) := Lib.hid (HB.out.trans ⟨hg1.os, hg1.tape, hg1.output, hg1.size, fun k hk => hg1.block k (Nat.lt_of_lt_of_le hk HB.out.size) (fun e => by injection e with e; have := HR.out; omega)⟩)
      have hle := leftF_le (q := fun n => left (.string n)) D.fs
      have hcl : cnt1 ≤ cnt := by omega
      have hsb : D.room - (sumF D.fs : Int) + (leftF (fun n => left (.string n)) D.fs : Int) - (f.all.length : Int) = D.room - (sumF D.fs : Int) + (leftF (fun n => left (.string n) && !(Lit.string n).sameKey (.string x)) D.fs : Int) := by rw [HST.out]; omega
      have hw : wrap64 (D.room - (sumF D.fs : Int) + (leftF (fun n => left (.string n)) D.fs : Int) - (f.all.length : Int)) = D.room - (sumF D.fs : Int) + (leftF (fun n => left (.string n) && !(Lit.string n).sameKey (.string x)) D.fs : Int) := by
        rw [hsb]
        have := leftF_le (q := fun n => left (.string n) && !(Lit.string n).sameKey (.string x)) D.fs
        exact IntWalk.wrap64_in _ (by have := HSL.out; have := HRM.out; omega)
      have HW := Lib.hid hw
      have hm9 : cnt1 < gk := by omega
      clear hw hsb hle hkey hlx hv hat hrg1 hg1 hs1 e2 hf ex
      obtain ⟨B4, s4, -⟩ := box1 w3 #[.slice a f.all.length c, .int .i64 (f.kept : Int)] 143
      have x0 := (two_at s4).1
      have HB4 := Lib.hid (HB3.out.trans (B4.mono HB3.out.size))
      have HRG4 := Lib.hid (HRG1.out.alloc (.cells #[.slice a f.all.length c, .int .i64 (f.kept : Int)] 143))
      have hw := HW.out
      clear B4 s4
      go_wp2_with fail
      go_roundg cnt1
      case measure => exact hm9
      case rel => exact ⟨_, cnt1, Nat.le_refl _, by first | rfl | rw [HW.out], HRG4, HLF1, HB4⟩
end
end Go.Proofs.Ythefnakbpalecaa
