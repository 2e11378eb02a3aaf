/- The disk: a file found. -/
import Derived.Test.YtdkkpabemimmlaaDkD
namespace Go.Proofs.Ytdkkpabemimmlaa
open Go.RowKit Go.Maps
theorem fl_info : (Try.prog.info? 114).map (·.size) = some 2 := by kernel_rfl
theorem fl_und : Try.prog.underlying 114 = some (.struct (Try.prog.fieldsOf 114)) := by kernel_rfl
theorem fl_res {fn : Func} {p u : Nat} (h : fn.results = #[.cell p 114, .tmp u]) (tmps : Array Value) (w : World) (N : Nat) (x y : Value) (hp : tmps.getD p undef = .pointer (some ⟨N, 0, none⟩)) (h0 : w.cell? ⟨N, 0, none⟩ = some x) (h1 : w.cell? ⟨N, 1, none⟩ = some y) : (results fn tmps).run Try.prog w = .ok (.tuple #[.agg #[x, y], tmps.getD u undef]) w := by
  rw [results_cell_tmp h, hp]
  have hR : w.rangeAt N 0 [x, y] := fun j u hj => by
    rcases j with _ | _ | j
    · injection hj with hj
      subst hj
      exact h0
    · injection hj with hj
      subst hj
      exact h1
    · cases hj
  have hl := run_loadVar_mid w N 0 _ [x, y] _ hR fl_und rfl fl_info
  simp only [asAddr, Sem.run_pure, Result.andThen_ok, hl]
def zF : Value := .agg #[.slice none 0 0, .int .i64 0]
theorem two_at {w : World} {N : Nat} {x y : Value} {t : TypeId} (h : w.heap[N]? = some (.cells #[x, y] t (0, 0))) : w.cell? ⟨N, 0, none⟩ = some x ∧ w.cell? ⟨N, 1, none⟩ = some y ∧ ∀ o, w.frozen? ⟨N, o, none⟩ = false := by
  refine ⟨by simp [World.cell?, h], by simp [World.cell?, h], fun o => by simp [World.frozen?, h]⟩
theorem two_set {w : World} {N : Nat} {x y : Value} {t : TypeId} (h : w.heap[N]? = some (.cells #[x, y] t (0, 0))) (v : Value) : (w.setCell ⟨N, 0, none⟩ v).heap[N]? = some (.cells #[v, y] t (0, 0)) ∧ (w.setCell ⟨N, 1, none⟩ v).heap[N]? = some (.cells #[x, v] t (0, 0)) := by
  refine ⟨?_, ?_⟩
  · rw [heap_setCell_same w N 0 _ _ v h]; simp
  · rw [heap_setCell_same w N 1 _ _ v h]; simp
theorem below_two {B : Nat} {w w' : World} (h : Below B w w') {N : Nat} (hN : B ≤ N) (i : Nat) (v : Value) : Below B w (w'.setCell ⟨N, i, none⟩ v) := h.setCell (by exact hN) _
section
variable {S : Nat → Prop} {w : World} {B m mt : Nat} {D : Dd} {M : Lit → Option Value} {V : Nm → Value}
theorem DKx.file (h : DKx S w B m mt D M V) {n : Nm} {f : Fl} (hf : getF D.fs n = some f) : ∃ a c, V n = .slice a f.all.length c ∧ M (.string n) = some (.agg #[.slice a f.all.length c, .int .i64 (f.kept : Int)]) := by
  obtain ⟨a, c, e, -⟩ := ((h.df.own n f hf).rb (h.df.ok n f hf).1 (by have := sum_le (getF_mem hf); have := h.df.sum; simp only at *; omega)).shape
  refine ⟨a, c, e, ?_⟩
  rw [h.df.spot n, hf, e]
  rfl
set_option maxRecDepth 100000 in
theorem dfind_down (h : DKx S w B m mt D M V) (hd : D.down = true) (n : Nm) : Calls Try.prog 77 #[.pointer (some ⟨B, 0, none⟩), encStr n] w fun e w' => e = .returned (.tuple #[zF, .int .i64 50]) ∧ Below w.heap.size w w' := by
  obtain ⟨B1, s1, -⟩ := box1 w #[.slice none 0 0, .int .i64 0] 114
  have H := Lib.hid (h.below B1)
  have HD := Lib.hid hd
  have HB := Lib.hid B1
  have HS := Lib.hid s1
  clear h hd B1 s1
  go_enter Try.func77, Try.ntmps77
  go_wp2_with fail
  obtain ⟨N, hN⟩ : ∃ N, w.heap.size = N := ⟨_, rfl⟩
  rw [hN] at HS
  have HN := Lib.hid hN
  rw [hN]
  clear hN
  generalize w.alloc (.cells #[.slice none 0 0, .int .i64 0] 114) = w1 at H HB HS ⊢
  refine (dpower_any H.out).mono ?_
  rintro e w2 ⟨rfl, rfl⟩
  have hp : pw D.down = 50 := by rw [HD.out]; rfl
  rw [hp]
  clear hp
  have f0 := (two_at HS.out).2.2 0
  have f1 := (two_at HS.out).2.2 1
  have x0 := (two_at HS.out).1
  have x1 := (two_at HS.out).2.1
  go_wp2_with fail
  obtain ⟨t1, -⟩ := two_set HS.out (.slice none 0 0)
  obtain ⟨-, t2⟩ := two_set t1 (.int .i64 0)
  refine bodyPost_ret (fl_res rfl _ _ N _ _ rfl (two_at t2).1 (two_at t2).2.1) rfl ?_
  exact ⟨rfl, below_two (below_two HB.out (by have := HN.out; omega) _ _) (by have := HN.out; omega) _ _⟩
set_option maxRecDepth 100000 in
theorem dfind_none (h : DKx S w B m mt D M V) (hd : D.down = false) {n : Nm} (hl : n.length ≤ 100000) (hn : getF D.fs n = none) : Calls Try.prog 77 #[.pointer (some ⟨B, 0, none⟩), encStr n] w fun e w' => e = .returned (.tuple #[zF, .int .i64 31]) ∧ Below w.heap.size w w' := by
  obtain ⟨B1, s1, -⟩ := box1 w #[.slice none 0 0, .int .i64 0] 114
  have H := Lib.hid (h.below B1)
  have HD := Lib.hid hd
  have HB := Lib.hid B1
  have HS := Lib.hid s1
  have HG : Hid (M (.string n) = none) := Lib.hid (by rw [h.df.spot n, hn]; rfl)
  have HL := Lib.hid hl
  clear hl hn
  clear h hd B1 s1
  go_enter Try.func77, Try.ntmps77
  go_wp2_with fail
  obtain ⟨N, hN⟩ : ∃ N, w.heap.size = N := ⟨_, rfl⟩
  rw [hN] at HS
  have HN := Lib.hid hN
  rw [hN]
  clear hN
  generalize w.alloc (.cells #[.slice none 0 0, .int .i64 0] 114) = w1 at H HB HS ⊢
  refine (dpower_any H.out).mono ?_
  rintro e w2 ⟨rfl, rfl⟩
  have hp : pw D.down = 0 := by rw [HD.out]; rfl
  rw [hp]
  clear hp
  obtain ⟨-, q1, -⟩ := H.out.at
  have hz := fl_zero w1
  have hlk := H.out.df.vm.look_ok keyedS fm_und hz (keyS HL.out)
  rw [HG.out] at hlk
  clear hz
  simp only [Option.getD_none, Option.isSome_none] at hlk
  obtain ⟨B2, s2, -⟩ := box1 w1 #[.slice none 0 0, .int .i64 0] 114
  obtain ⟨y0, y1, g2⟩ := two_at s2
  have g0 := g2 0
  have g1 := g2 1
  have HB2 := Lib.hid (HB.out.trans (B2.mono HB.out.size))
  have HS2 := Lib.hid (ex_below HS.out B2)
  have f0 := (two_at HS2.out).2.2 0
  have f1 := (two_at HS2.out).2.2 1
  have x0 := (two_at HS2.out).1
  have x1 := (two_at HS2.out).2.1
  clear B2 s2 g2
  go_wp2_with fail
  obtain ⟨t1, -⟩ := two_set HS2.out (.slice none 0 0)
  obtain ⟨-, t2⟩ := two_set t1 (.int .i64 0)
  refine bodyPost_ret (fl_res rfl _ _ N _ _ rfl (two_at t2).1 (two_at t2).2.1) rfl ?_
  exact ⟨rfl, below_two (below_two HB2.out (by have := HN.out; omega) _ _) (by have := HN.out; omega) _ _⟩
set_option maxRecDepth 100000 in
theorem dfind_some (h : DKx S w B m mt D M V) (hd : D.down = false) {n : Nm} (hl : n.length ≤ 100000) {f : Fl} (hn : getF D.fs n = some f) : Calls Try.prog 77 #[.pointer (some ⟨B, 0, none⟩), encStr n] w fun e w' => e = .returned (.tuple #[fV (V n) f.kept, .int .i64 0]) ∧ Below w.heap.size w w' := by
  obtain ⟨B1, s1, -⟩ := box1 w #[.slice none 0 0, .int .i64 0] 114
  have H := Lib.hid (h.below B1)
  have HD := Lib.hid hd
  have HB := Lib.hid B1
  have HS := Lib.hid s1
  obtain ⟨a, c, e1, e2⟩ := h.file hn
  have HG := Lib.hid e2
  have HE := Lib.hid e1
  have HL := Lib.hid hl
  clear hl hn e1 e2
  clear h hd B1 s1
  go_enter Try.func77, Try.ntmps77
  go_wp2_with fail
  obtain ⟨N, hN⟩ : ∃ N, w.heap.size = N := ⟨_, rfl⟩
  rw [hN] at HS
  have HN := Lib.hid hN
  rw [hN]
  clear hN
  generalize w.alloc (.cells #[.slice none 0 0, .int .i64 0] 114) = w1 at H HB HS ⊢
  refine (dpower_any H.out).mono ?_
  rintro e w2 ⟨rfl, rfl⟩
  have hp : pw D.down = 0 := by rw [HD.out]; rfl
  rw [hp]
  clear hp
  obtain ⟨-, q1, -⟩ := H.out.at
  have hz := fl_zero w1
  have hlk := H.out.df.vm.look_ok keyedS fm_und hz (keyS HL.out)
  rw [HG.out] at hlk
  clear hz
  simp only [Option.getD_some, Option.isSome_some] at hlk
  obtain ⟨B2, s2, -⟩ := box1 w1 #[.slice a f.all.length c, .int .i64 (f.kept : Int)] 114
  obtain ⟨y0, y1, g2⟩ := two_at s2
  have g0 := g2 0
  have g1 := g2 1
  have HB2 := Lib.hid (HB.out.trans (B2.mono HB.out.size))
  have HS2 := Lib.hid (ex_below HS.out B2)
  have f0 := (two_at HS2.out).2.2 0
  have f1 := (two_at HS2.out).2.2 1
  have x0 := (two_at HS2.out).1
  have x1 := (two_at HS2.out).2.1
  clear B2 s2 g2
  go_wp2_with fail
  obtain ⟨t1, -⟩ := two_set HS2.out (.slice a f.all.length c)
  obtain ⟨-, t2⟩ := two_set t1 (.int .i64 (f.kept : Int))
  refine bodyPost_ret (fl_res rfl _ _ N _ _ rfl (two_at t2).1 (two_at t2).2.1) rfl ?_
  rw [HE.out]
  exact ⟨rfl, below_two (below_two HB2.out (by have := HN.out; omega) _ _) (by have := HN.out; omega) _ _⟩
end
set_option maxRecDepth 100000 in
theorem dfind_no (v : Value) (n : Nm) (w : World) (h : NoD w v) : Calls Try.prog 77 #[v, encStr n] w fun e w' => e = .returned (.tuple #[zF, .int .i64 1]) ∧ Below w.heap.size w w' := by
  obtain ⟨B1, s1, -⟩ := box1 w #[.slice none 0 0, .int .i64 0] 114
  have H := Lib.hid (h.below B1)
  have HB := Lib.hid B1
  have HS := Lib.hid s1
  clear h B1 s1
  go_enter Try.func77, Try.ntmps77
  go_wp2_with fail
  obtain ⟨N, hN⟩ : ∃ N, w.heap.size = N := ⟨_, rfl⟩
  rw [hN] at HS
  have HN := Lib.hid hN
  rw [hN]
  clear hN
  generalize w.alloc (.cells #[.slice none 0 0, .int .i64 0] 114) = w1 at H HB HS ⊢
  refine (dpower_no v w1 H.out).mono ?_
  rintro e w2 ⟨rfl, rfl⟩
  have f0 := (two_at HS.out).2.2 0
  have f1 := (two_at HS.out).2.2 1
  have x0 := (two_at HS.out).1
  have x1 := (two_at HS.out).2.1
  go_wp2_with fail
  obtain ⟨t1, -⟩ := two_set HS.out (.slice none 0 0)
  obtain ⟨-, t2⟩ := two_set t1 (.int .i64 0)
  refine bodyPost_ret (fl_res rfl _ _ N _ _ rfl (two_at t2).1 (two_at t2).2.1) rfl ?_
  exact ⟨rfl, below_two (below_two HB.out (by have := HN.out; omega) _ _) (by have := HN.out; omega) _ _⟩
end Go.Proofs.Ytdkkpabemimmlaa
