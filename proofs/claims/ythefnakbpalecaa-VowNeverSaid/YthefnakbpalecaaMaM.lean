import Derived.Test.YthefnakbpalecaaMaL
namespace Go.Proofs.Ythefnakbpalecaa
open Go.RowKit
/- The disk: Sync and Remove done. -/
open Go.RowKit Go.Maps
section
variable {S : Nat → Prop} {w : World} {B m mt : Nat} {D : Dd} {M : Lit → Option Value} {V : Nm → Value}
set_option maxRecDepth 100000 in
set_option maxHeartbeats 4000000 in
theorem dsync_ok (h : DKx S w B m mt D M V) (hd : D.down = false) {n : Nm} (hl : n.length ≤ 100000) {f : Fl} (hf : getF D.fs n = some f) (hst : D.st < 1000000000) (hs : (stepD D).down = false) : Calls Try.prog 83 #[.pointer (some ⟨B, 0, none⟩), encStr n] w fun e w' => e = .returned (.int .i64 0) ∧ DK S w' B ((stepD D).files (putF D.fs n ⟨f.all, f.all.length⟩)) ∧ Only S w w' := by
  obtain ⟨a, c, e1, e2⟩ := h.file hf
  have HE := Lib.hid e1
  have HV : Hid (fV (V n) f.kept = .agg #[.slice a f.all.length c, .int .i64 (f.kept : Int)]) := Lib.hid (by rw [e1]; rfl)
  have H := Lib.hid h
  have HD := Lib.hid hd
  have HL := Lib.hid hl
  have HF := Lib.hid hf
  have HST := Lib.hid hst
  clear h hd hl hf hst e1 e2
  go_enter Try.func83, Try.ntmps83
  go_wp2_with fail
  refine (dfind_some H.out HD.out HL.out HF.out).mono ?_
  rintro e w1 ⟨rfl, hb⟩
  rw [HV.out]
  have H1 := Lib.hid (H.out.below hb)
  obtain ⟨B2, s2⟩ := boxF (w := w1) (.slice a f.all.length c) (.int .i64 (f.kept : Int))
  have H2 := Lib.hid (H1.out.below B2)
  have HB2 := Lib.hid (hb.trans (B2.mono hb.size))
  have HS2 := Lib.hid s2
  have HN2 : Hid (∀ k, S k → k < w1.heap.size) := Lib.hid H1.out.bd
  have HN3 : Hid (w.heap.size ≤ w1.heap.size) := Lib.hid hb.size
  clear hb B2 s2 H1
  go_wp2_with fail
  obtain ⟨N, hN⟩ : ∃ N, w1.heap.size = N := ⟨_, rfl⟩
  rw [hN] at HS2 HN2 HN3
  try rw [hN]
  clear hN
  generalize w1.alloc (.cells #[.slice a f.all.length c, .int .i64 (f.kept : Int)] 143) = w2 at H2 HB2 HS2 ⊢
  refine (dstep H2.out HST.out).mono ?_
  rintro e w3 ⟨rfl, h3, ho3⟩
  have H3 := Lib.hid h3
  have HO3 := Lib.hid (only_then HB2.out ho3)
  have HS3 : Hid (w3.heap[N]? = some (.cells #[.slice a f.all.length c, .int .i64 (f.kept : Int)] 143 (0, 0))) := Lib.hid ((ho3.block N (ex_lt HS2.out) (fun e => by have := HN2.out N e; omega)).trans HS2.out)
  have HNB : Hid (N ≠ B ∧ N ≠ m ∧ N ≠ mt ∧ ¬ S N) := Lib.hid (by
    have h1 := HN2.out B h3.own.1
    have h2 := HN2.out m h3.own.2.1
    have h3' := HN2.out mt h3.own.2.2
    exact ⟨by omega, by omega, by omega, fun e => by have := HN2.out N e; omega⟩)
  clear h3 ho3 HS2 H2 
  have hp : pw (stepD D).down = 0 := by rw [hs]; rfl
  rw [hp]
  clear hp hs
  obtain ⟨x0, x1, fr⟩ := two_at HS3.out
  have f1 := fr 1
  clear fr
  have HS4 := Lib.hid (two_set HS3.out (.int .i64 (f.all.length : Int))).2
  have H4 := Lib.hid (H3.out.move (w' := w3.setCell ⟨N, 1, none⟩ (.int .i64 (f.all.length : Int))) (by simp) (fun k _ hk => Below.heap_setCell _ _ _ _ (by intro e; have e2 : k = N := e; exact HNB.out.2.2.2 (by rw [← e2]; exact hk))))
  have HO4 := Lib.hid (only_new HO3.out HN3.out 1 (.int .i64 (f.all.length : Int)))
  clear H3 HO3 HS3
  go_wp2_with fail
  clear x0 x1 f1
  generalize w3.setCell ⟨N, 1, none⟩ (.int .i64 (f.all.length : Int)) = w4 at HS4 H4 HO4 ⊢
  have HS0 : Hid ((fun W : World => W.heap[B]? = some (.cells (DC (stepD D) m mt).toArray 78 (0, 0)) ∧ W.heap[N]? = some (.cells #[.slice a f.all.length c, .int .i64 (f.all.length : Int)] 143 (0, 0))) w4.drew) := Lib.hid ⟨H4.out.cells, HS4.out⟩
  refine wp_region_held_drew (S := (fun W : World => W.heap[B]? = some (.cells (DC (stepD D) m mt).toArray 78 (0, 0)) ∧ W.heap[N]? = some (.cells #[.slice a f.all.length c, .int .i64 (f.all.length : Int)] 143 (0, 0)))) (by kernel_rfl) HS0.out (fun hHeld => ?_)
  clear hHeld
  have H5 : Hid (DKx S w4.drew B m mt (stepD D) M V) := Lib.hid (H4.out.move (Nat.le_refl _) (fun _ _ _ => rfl))
  have HO5 : Hid (Only S w w4.drew) := Lib.hid HO4.out.drew
  clear H4 HO4
  generalize w4.drew = w5 at H5 HO5 HS0 ⊢
  refine wpAnyH_take (i := 0) (oi := { dst := some 25, op := Go.Op.move (Go.Operand.tmp 0), type := 56, pos := "disk.go:84", after := #[], guard := none }) (v := ?_) rfl (by kernel_rfl) (by kernel_rfl) (by kernel_rfl) (fun _ _ _ h => h) (Or.inl ⟨by rfl, ?_⟩) HS0.out ?_
  case refine_2 => (intro w1 hS1; clear hS1; go_simp; try with_reducible rfl)
  try simp only [Act.put, List.setIfInBounds_toArray, List.set_cons_zero, List.set_cons_succ]
  refine wpAnyH_take (i := 1) (oi := { dst := some 26, op := Go.Op.nilCheck (Go.Operand.tmp 25), type := 0, pos := "disk.go:84", after := #[{ on := 0, ground := Go.Ground.data }], guard := none }) (v := ?_) rfl (by kernel_rfl) (by kernel_rfl) (by kernel_rfl) (fun _ _ _ h => h) (Or.inl ⟨by rfl, ?_⟩) HS0.out ?_
  case refine_2 => (intro w1 hS1; clear hS1; go_simp; try with_reducible rfl)
  try simp only [Act.put, List.setIfInBounds_toArray, List.set_cons_zero, List.set_cons_succ]
  refine wpAnyH_take (i := 2) (oi := { dst := some 27, op := Go.Op.fieldAddr 78 (Go.Operand.tmp 26) 1, type := 0, pos := "disk.go:84", after := #[{ on := 1, ground := Go.Ground.data }], guard := none }) (v := ?_) rfl (by kernel_rfl) (by kernel_rfl) (by kernel_rfl) (fun _ _ _ h => h) (Or.inl ⟨by rfl, ?_⟩) HS0.out ?_
  case refine_2 => (intro w1 hS1; clear hS1; go_simp; try with_reducible rfl)
  try simp only [Act.put, List.setIfInBounds_toArray, List.set_cons_zero, List.set_cons_succ]
  refine wpAnyH_take (i := 3) (oi := { dst := some 28, op := Go.Op.load 75 (Go.Operand.tmp 27), type := 75, pos := "disk.go:84", after := #[{ on := 2, ground := Go.Ground.data }], guard := none }) (v := ?_) rfl (by kernel_rfl) (by kernel_rfl) (by kernel_rfl) (fun _ _ _ h => h) (Or.inl ⟨by rfl, ?_⟩) HS0.out ?_
  case refine_2 => (intro w1 hS1; obtain ⟨hb1, -⟩ := hS1; have c1 : w1.cell? ⟨B, 1, none⟩ = some (.map (some m)) := (by simp only [World.cell?, hb1]; rfl); clear hb1; go_simp; try with_reducible rfl)
  try simp only [Act.put, List.setIfInBounds_toArray, List.set_cons_zero, List.set_cons_succ]
  refine wpAnyH_take (i := 4) (oi := { dst := some 29, op := Go.Op.move (Go.Operand.tmp 1), type := 9, pos := "disk.go:84", after := #[], guard := none }) (v := ?_) rfl (by kernel_rfl) (by kernel_rfl) (by kernel_rfl) (fun _ _ _ h => h) (Or.inl ⟨by rfl, ?_⟩) HS0.out ?_
  case refine_2 => (intro w1 hS1; clear hS1; go_simp; try with_reducible rfl)
  try simp only [Act.put, List.setIfInBounds_toArray, List.set_cons_zero, List.set_cons_succ]
  refine wpAnyH_take (i := 5) (oi := { dst := some 30, op := Go.Op.load 143 (Go.Operand.tmp 5), type := 143, pos := "disk.go:84", after := #[], guard := none }) (v := .agg #[.slice a f.all.length c, .int .i64 (f.all.length : Int)]) rfl (by kernel_rfl) (by kernel_rfl) (by kernel_rfl) (fun _ _ _ h => h) (Or.inl ⟨by rfl, ?_⟩) HS0.out ?_
  case refine_1 => (intro w1 hS1; obtain ⟨-, hb2⟩ := hS1; obtain ⟨z0, z1, -⟩ := two_at hb2; clear hb2; go_simp; try with_reducible rfl)
  try simp only [Act.put, List.setIfInBounds_toArray, List.set_cons_zero, List.set_cons_succ]
  obtain ⟨M', hM1, hM2⟩ := upV M (.string n) (some (.agg #[.slice a f.all.length c, .int .i64 (f.all.length : Int)]))
  obtain ⟨w6, hrun, hv6, hg6, hz6⟩ := H5.out.df.vm.put keyedS fm_und (by have := H5.out.df.few; unfold maxLen; omega) (keyS HL.out) (.agg #[.slice a f.all.length c, .int .i64 (f.all.length : Int)]) hM1 hM2
  have HS6 : Hid ((fun W : World => W.heap[B]? = some (.cells (DC (stepD D) m mt).toArray 78 (0, 0)) ∧ W.heap[N]? = some (.cells #[.slice a f.all.length c, .int .i64 (f.all.length : Int)] 143 (0, 0))) w6) := Lib.hid ⟨(hg6.block B H5.out.lt.1 (by intro e; injection e with e; exact H5.out.ne.1 e)).trans HS0.out.1, (hg6.block N (ex_lt HS0.out.2) (by intro e; injection e with e; exact HNB.out.2.1 e)).trans HS0.out.2⟩
  refine wpAnyH_ready (rs := [6]) (by kernel_rfl) (by simp) ?_
  refine AllReadyH.cons (o := { dst := none, op := Go.Op.mapUpdate 75 (Go.Operand.tmp 28) (Go.Operand.tmp 29) (Go.Operand.tmp 30), type := 0, pos := "disk.go:84", after := #[{ on := 3, ground := Go.Ground.data }, { on := 4, ground := Go.Ground.data }, { on := 5, ground := Go.Ground.data }, { on := 0, ground := Go.Ground.phase }, { on := 1, ground := Go.Ground.phase }, { on := 2, ground := Go.Ground.phase }, { on := 3, ground := Go.Ground.phase }, { on := 4, ground := Go.Ground.phase }, { on := 5, ground := Go.Ground.phase }], guard := none }) rfl (fun K hK => ?_) AllReadyH.nil
  go_simp
  have HV6 := Lib.hid hv6
  have HG6 := Lib.hid hg6
  have HM6 := Lib.hid (And.intro hM1 hM2)
  have HZ6 := Lib.hid hz6
  clear hv6 hg6 hM1 hM2 hz6 HS0
  have HS0 := HS6
  clear HS6
  refine hK.out _ _ HS0.out (fun hHeld => ?_)
  clear hrun hK K hHeld
  try simp only [Act.put, List.setIfInBounds_toArray, List.set_cons_zero, List.set_cons_succ]
  refine wpAnyH_done (by kernel_rfl) ?_ _
  go_wp2_with fail
  go_ret
  have hgk : ∀ k, k < w5.heap.size → k ≠ m → w6.heap[k]? = w5.heap[k]? := fun k hk e => HG6.out.block k hk (fun e2 => e (by injection e2))
  have h5 := H5.out
  have hok := h5.df.ok n f HF.out
  have hown := h5.df.own n f HF.out
  rw [HE.out] at hown
  have hne : getF D.fs n ≠ none := by rw [HF.out]; exact Option.some_ne_none _
  have hsp := sum_put_some (L := D.fs) ⟨f.all, f.all.length⟩ h5.df.srt HF.out
  refine ⟨rfl, ⟨m, mt, M', _, h5.putf (v := .slice a f.all.length c) (f := ⟨f.all, f.all.length⟩) (hgk B h5.lt.1 h5.ne.1) (hgk mt h5.lt.2.2 (Ne.symm h5.ne.2.2)) (fun k g _ hk hv => hgk g (h5.df.lt hk hv) (h5.fne k g hk hv).2.1) HV6.out HM6.out.1 HM6.out.2 (hown.blk (fun g hv => hgk g (hown.lt hv).2 (h5.fne n g hne (by rw [HE.out]; exact hv)).2.1)) ⟨hok.1, Nat.le_refl _, hok.2.2⟩ ?_ ?_ (fun _ h => h) ?_ ?_ ?_ ?_⟩, only_grown HO5.out HG6.out h5.own.2.1⟩
  · intro k g hk hkn hv e
    exact h5.df.sep n k g (Ne.symm hk) hne hkn (by rw [HE.out]; exact e) hv
  · intro g hv
    exact h5.fne n g hne (by rw [HE.out]; exact hv)
  · intro g hv
    exact h5.df.inS n g hne (by rw [HE.out]; exact hv)
  · have := h5.df.sum
    simp only [stepD] at this ⊢
    simp only at hsp
    omega
  · have hlp := len_put_some (L := D.fs) ⟨f.all, f.all.length⟩ h5.df.srt HF.out
    have := h5.df.few
    simp only [stepD] at this ⊢
    omega
  · intro k hk
    rw [HZ6.out]
    exact h5.bd k hk
set_option maxRecDepth 100000 in
set_option maxHeartbeats 4000000 in
theorem dremove_ok (h : DKx S w B m mt D M V) (hd : D.down = false) {n : Nm} (hl : n.length ≤ 100000) {f : Fl} (hf : getF D.fs n = some f) (hst : D.st < 1000000000) (hs : (stepD D).down = false) : Calls Try.prog 117 #[.pointer (some ⟨B, 0, none⟩), encStr n] w fun e w' => e = .returned (.int .i64 0) ∧ DK S w' B ((stepD D).files (delF D.fs n)) ∧ Only S w w' := by
  obtain ⟨a, c, e1, e2⟩ := h.file hf
  have HE := Lib.hid e1
  have HV : Hid (fV (V n) f.kept = .agg #[.slice a f.all.length c, .int .i64 (f.kept : Int)]) := Lib.hid (by rw [e1]; rfl)
  have H := Lib.hid h
  have HD := Lib.hid hd
  have HL := Lib.hid hl
  have HF := Lib.hid hf
  have HST := Lib.hid hst
  clear h hd hl hf hst e1 e2
  go_enter Try.func117, Try.ntmps117
  go_wp2_with fail
  refine (dfind_some H.out HD.out HL.out HF.out).mono ?_
  rintro e w1 ⟨rfl, hb⟩
  rw [HV.out]
  have H1 := Lib.hid (H.out.below hb)
  obtain ⟨B2, s2⟩ := boxF (w := w1) (.slice a f.all.length c) (.int .i64 (f.kept : Int))
  have H2 := Lib.hid (H1.out.below B2)
  have HB2 := Lib.hid (hb.trans (B2.mono hb.size))
  have HS2 := Lib.hid s2
  have HN2 : Hid (∀ k, S k → k < w1.heap.size) := Lib.hid H1.out.bd
  have HN3 : Hid (w.heap.size ≤ w1.heap.size) := Lib.hid hb.size
  clear hb B2 s2 H1
  go_wp2_with fail
  obtain ⟨N, hN⟩ : ∃ N, w1.heap.size = N := ⟨_, rfl⟩
  rw [hN] at HS2 HN2 HN3
  try rw [hN]
  clear hN
  generalize w1.alloc (.cells #[.slice a f.all.length c, .int .i64 (f.kept : Int)] 143) = w2 at H2 HB2 HS2 ⊢
  refine (dstep H2.out HST.out).mono ?_
  rintro e w3 ⟨rfl, h3, ho3⟩
  have H3 := Lib.hid h3
  have HO3 := Lib.hid (only_then HB2.out ho3)
  have HS3 : Hid (w3.heap[N]? = some (.cells #[.slice a f.all.length c, .int .i64 (f.kept : Int)] 143 (0, 0))) := Lib.hid ((ho3.block N (ex_lt HS2.out) (fun e => by have := HN2.out N e; omega)).trans HS2.out)
  have HNB : Hid (N ≠ B ∧ N ≠ m ∧ N ≠ mt ∧ ¬ S N) := Lib.hid (by
    have h1 := HN2.out B h3.own.1
    have h2 := HN2.out m h3.own.2.1
    have h3' := HN2.out mt h3.own.2.2
    exact ⟨by omega, by omega, by omega, fun e => by have := HN2.out N e; omega⟩)
  clear h3 ho3 HS2 H2 
  have hp : pw (stepD D).down = 0 := by rw [hs]; rfl
  rw [hp]
  clear hp hs
  obtain ⟨-, c1, -⟩ := H3.out.at
  obtain ⟨M', hM1, hM2⟩ := upV M (.string n) none
  obtain ⟨w6, hrun, hv6, hg6⟩ := H3.out.df.vm.del keyedS fm_und (keyS HL.out) 0 hM1 hM2
  have HV6 := Lib.hid hv6
  have HG6 := Lib.hid hg6
  have HM6 := Lib.hid (And.intro hM1 hM2)
  clear hv6 hg6 hM1 hM2
  go_wp2_with fail
  go_ret
  exact ⟨rfl, ⟨m, mt, M', V, H3.out.delf HG6.out HV6.out HM6.out.1 HM6.out.2⟩, only_grown HO3.out HG6.out H3.out.own.2.1⟩
end
/- The disk: Cut. -/
open Go.RowKit Go.Maps
theorem OB.cut {w : World} {base : Nat} {a : Option Addr} {c : Nat} {bs : List Nat} (h : OB w base (.slice a bs.length c) bs) {k : Nat} (hk : k ≤ bs.length) : OB w base (.slice a k c) (bs.take k) := by
  have hl : (bs.take k).length = k := by rw [List.length_take]; omega
  refine ⟨by rw [cb_length, Nat.mul_one], ?_⟩
  rcases h.2 with ⟨h2, h3⟩ | ⟨g, cap, cur, e1, hg, hc, hn, hm, hsz, htk⟩
  · injection h2 with e1 e2 e3
    subst e1 e3
    have : k = 0 := by omega
    subst this
    exact .inl ⟨rfl, hl⟩
  · injection e1 with e1 e2 e3
    subst e1 e3
    refine .inr ⟨g, c, cur, by rw [hl], hg, hc, by rw [hl]; omega, hm, hsz, ?_⟩
    rw [hl]
    have e : cur.toList.take (k * 1) = (cur.toList.take (bs.length * 1)).take (k * 1) := by rw [List.take_take]; congr 1; omega
    rw [e, htk, Nat.mul_one]
    simp [cb, List.map_take]
theorem own_sl (a : Option Addr) (n c n' c' : Nat) : (Value.slice a n c).ownBlock = (Value.slice a n' c').ownBlock := by cases a <;> rfl
section
variable {S : Nat → Prop} {w : World} {B m mt : Nat} {D : Dd} {M : Lit → Option Value} {V : Nm → Value}
set_option maxRecDepth 100000 in
set_option maxHeartbeats 4000000 in
theorem dcut_neg (h : DKx S w B m mt D M V) (hd : D.down = false) {n : Nm} (hl : n.length ≤ 100000) {f : Fl} (hf : getF D.fs n = some f) (hst : D.st < 1000000000) (k : Int) (hk : k < 0) : Calls Try.prog 82 #[.pointer (some ⟨B, 0, none⟩), encStr n, .int .i64 k] w fun e w' => e = .returned (.int .i64 2) ∧ Below w.heap.size w w' := by
  have dk : decide (k < 0) = true := decide_eq_true hk
  clear hk
  obtain ⟨a, c, e1, e2⟩ := h.file hf
  have HE := Lib.hid e1
  have HV : Hid (fV (V n) f.kept = .agg #[.slice a f.all.length c, .int .i64 (f.kept : Int)]) := Lib.hid (by rw [e1]; rfl)
  have H := Lib.hid h
  have HD := Lib.hid hd
  have HL := Lib.hid hl
  have HF := Lib.hid hf
  have HST := Lib.hid hst
  clear h hd hl hf hst e1 e2
  go_enter Try.func82, Try.ntmps82
  go_wp2_with fail
  refine (dfind_some H.out HD.out HL.out HF.out).mono ?_
  rintro e w1 ⟨rfl, hb⟩
  rw [HV.out]
  have H1 := Lib.hid (H.out.below hb)
  obtain ⟨B2, s2⟩ := boxF (w := w1) (.slice a f.all.length c) (.int .i64 (f.kept : Int))
  have H2 := Lib.hid (H1.out.below B2)
  have HB2 := Lib.hid (hb.trans (B2.mono hb.size))
  have HS2 := Lib.hid s2
  have HN2 : Hid (∀ k, S k → k < w1.heap.size) := Lib.hid H1.out.bd
  have HN3 : Hid (w.heap.size ≤ w1.heap.size) := Lib.hid hb.size
  obtain ⟨x0, x1, -⟩ := two_at s2
  clear hb B2 s2 H1
  go_wp2_with fail
  go_ret
  exact ⟨rfl, HB2.out⟩
set_option maxRecDepth 100000 in
set_option maxHeartbeats 4000000 in
theorem dcut_big (h : DKx S w B m mt D M V) (hd : D.down = false) {n : Nm} (hl : n.length ≤ 100000) {f : Fl} (hf : getF D.fs n = some f) (hst : D.st < 1000000000) (k : Int) (hk : 0 ≤ k ∧ (f.all.length : Int) < k) : Calls Try.prog 82 #[.pointer (some ⟨B, 0, none⟩), encStr n, .int .i64 k] w fun e w' => e = .returned (.int .i64 2) ∧ Below w.heap.size w w' := by
  have dk : decide (k < 0) = false := decide_eq_false (by omega)
  have dk2 : decide ((f.all.length : Int) < k) = true := decide_eq_true hk.2
  clear hk
  obtain ⟨a, c, e1, e2⟩ := h.file hf
  have HE := Lib.hid e1
  have HV : Hid (fV (V n) f.kept = .agg #[.slice a f.all.length c, .int .i64 (f.kept : Int)]) := Lib.hid (by rw [e1]; rfl)
  have H := Lib.hid h
  have HD := Lib.hid hd
  have HL := Lib.hid hl
  have HF := Lib.hid hf
  have HST := Lib.hid hst
  clear h hd hl hf hst e1 e2
  go_enter Try.func82, Try.ntmps82
  go_wp2_with fail
  refine (dfind_some H.out HD.out HL.out HF.out).mono ?_
  rintro e w1 ⟨rfl, hb⟩
  rw [HV.out]
  have H1 := Lib.hid (H.out.below hb)
  obtain ⟨B2, s2⟩ := boxF (w := w1) (.slice a f.all.length c) (.int .i64 (f.kept : Int))
  have H2 := Lib.hid (H1.out.below B2)
  have HB2 := Lib.hid (hb.trans (B2.mono hb.size))
  have HS2 := Lib.hid s2
  have HN2 : Hid (∀ k, S k → k < w1.heap.size) := Lib.hid H1.out.bd
  have HN3 : Hid (w.heap.size ≤ w1.heap.size) := Lib.hid hb.size
  obtain ⟨x0, x1, -⟩ := two_at s2
  clear hb B2 s2 H1
  go_wp2_with fail
  go_ret
  exact ⟨rfl, HB2.out⟩
set_option maxRecDepth 100000 in
set_option maxHeartbeats 4000000 in
theorem dcut_sd (h : DKx S w B m mt D M V) (hd : D.down = false) {n : Nm} (hl : n.length ≤ 100000) {f : Fl} (hf : getF D.fs n = some f) (hst : D.st < 1000000000) (k : Nat) (hk : k ≤ f.all.length) (hs : (stepD D).down = true) : Calls Try.prog 82 #[.pointer (some ⟨B, 0, none⟩), encStr n, .int .i64 (k : Int)] w fun e w' => e = .returned (.int .i64 50) ∧ DKx S w' B m mt (stepD D) M V ∧ Only S w w' := by
  have dk : decide ((k : Int) < 0) = false := decide_eq_false (by omega)
  have dk1 : decide ((f.all.length : Int) < (k : Int)) = false := decide_eq_false (by omega)
  have dk2 : decide (f.all.length < k) = false := decide_eq_false (by omega)
  have HK := Lib.hid hk
  clear hk
  obtain ⟨a, c, e1, e2⟩ := h.file hf
  have HE := Lib.hid e1
  have HV : Hid (fV (V n) f.kept = .agg #[.slice a f.all.length c, .int .i64 (f.kept : Int)]) := Lib.hid (by rw [e1]; rfl)
  have H := Lib.hid h
  have HD := Lib.hid hd
  have HL := Lib.hid hl
  have HF := Lib.hid hf
  have HST := Lib.hid hst
  clear h hd hl hf hst e1 e2
  go_enter Try.func82, Try.ntmps82
  go_wp2_with fail
  refine (dfind_some H.out HD.out HL.out HF.out).mono ?_
  rintro e w1 ⟨rfl, hb⟩
  rw [HV.out]
  have H1 := Lib.hid (H.out.below hb)
  obtain ⟨B2, s2⟩ := boxF (w := w1) (.slice a f.all.length c) (.int .i64 (f.kept : Int))
  have H2 := Lib.hid (H1.out.below B2)
  have HB2 := Lib.hid (hb.trans (B2.mono hb.size))
  have HS2 := Lib.hid s2
  have HN2 : Hid (∀ k, S k → k < w1.heap.size) := Lib.hid H1.out.bd
  have HN3 : Hid (w.heap.size ≤ w1.heap.size) := Lib.hid hb.size
  obtain ⟨x0, x1, -⟩ := two_at s2
  clear hb B2 s2 H1
  go_wp2_with fail
  obtain ⟨N, hN⟩ : ∃ N, w1.heap.size = N := ⟨_, rfl⟩
  rw [hN] at HS2 HN2 HN3 x0 x1
  try rw [hN]
  clear hN
  generalize w1.alloc (.cells #[.slice a f.all.length c, .int .i64 (f.kept : Int)] 143) = w2 at H2 HB2 HS2 ⊢ x0 x1
  refine (dstep H2.out HST.out).mono ?_
  rintro e w3 ⟨rfl, h3, ho3⟩
  have H3 := Lib.hid h3
  have HO3 := Lib.hid (only_then HB2.out ho3)
  have HS3 : Hid (w3.heap[N]? = some (.cells #[.slice a f.all.length c, .int .i64 (f.kept : Int)] 143 (0, 0))) := Lib.hid ((ho3.block N (ex_lt HS2.out) (fun e => by have := HN2.out N e; omega)).trans HS2.out)
  have HNB : Hid (N ≠ B ∧ N ≠ m ∧ N ≠ mt ∧ ¬ S N) := Lib.hid (by
    have h1 := HN2.out B h3.own.1
    have h2 := HN2.out m h3.own.2.1
    have h3' := HN2.out mt h3.own.2.2
    exact ⟨by omega, by omega, by omega, fun e => by have := HN2.out N e; omega⟩)
  clear h3 ho3 HS2 H2 x0 x1
  have hp : pw (stepD D).down = 50 := by rw [hs]; rfl
  rw [hp]
  clear hp hs
  go_wp2_with fail
  go_ret
  exact ⟨rfl, H3.out, HO3.out⟩
set_option maxRecDepth 100000 in
set_option maxHeartbeats 4000000 in
theorem dcut_ok (h : DKx S w B m mt D M V) (hd : D.down = false) {n : Nm} (hl : n.length ≤ 100000) {f : Fl} (hf : getF D.fs n = some f) (hst : D.st < 1000000000) (k : Nat) (hk : k ≤ f.all.length) (hs : (stepD D).down = false) : Calls Try.prog 82 #[.pointer (some ⟨B, 0, none⟩), encStr n, .int .i64 (k : Int)] w fun e w' => e = .returned (.int .i64 0) ∧ DK S w' B ((stepD D).files (putF D.fs n ⟨f.all.take k, min f.kept k⟩)) ∧ Only S w w' := by
  have dk : decide ((k : Int) < 0) = false := decide_eq_false (by omega)
  have dk1 : decide ((f.all.length : Int) < (k : Int)) = false := decide_eq_false (by omega)
  have dk2 : decide (f.all.length < k) = false := decide_eq_false (by omega)
  have HK := Lib.hid hk
  clear hk
  obtain ⟨a, c, e1, e2⟩ := h.file hf
  have HE := Lib.hid e1
  have HCC : Hid (f.all.length ≤ c) := Lib.hid (by
    obtain ⟨a2, c2, e3, h3, -⟩ := ((h.df.own n f hf).rb (h.df.ok n f hf).1 (by have := sum_le (getF_mem hf); have := h.df.sum; simp only at *; omega)).shape
    rw [e1] at e3
    injection e3 with _ _ e3
    omega)
  have HV : Hid (fV (V n) f.kept = .agg #[.slice a f.all.length c, .int .i64 (f.kept : Int)]) := Lib.hid (by rw [e1]; rfl)
  have H := Lib.hid h
  have HD := Lib.hid hd
  have HL := Lib.hid hl
  have HF := Lib.hid hf
  have HST := Lib.hid hst
  clear h hd hl hf hst e1 e2
  go_enter Try.func82, Try.ntmps82
  go_wp2_with fail
  refine (dfind_some H.out HD.out HL.out HF.out).mono ?_
  rintro e w1 ⟨rfl, hb⟩
  rw [HV.out]
  have H1 := Lib.hid (H.out.below hb)
  obtain ⟨B2, s2⟩ := boxF (w := w1) (.slice a f.all.length c) (.int .i64 (f.kept : Int))
  have H2 := Lib.hid (H1.out.below B2)
  have HB2 := Lib.hid (hb.trans (B2.mono hb.size))
  have HS2 := Lib.hid s2
  have HN2 : Hid (∀ k, S k → k < w1.heap.size) := Lib.hid H1.out.bd
  have HN3 : Hid (w.heap.size ≤ w1.heap.size) := Lib.hid hb.size
  obtain ⟨x0, x1, -⟩ := two_at s2
  clear hb B2 s2 H1
  go_wp2_with fail
  obtain ⟨N, hN⟩ : ∃ N, w1.heap.size = N := ⟨_, rfl⟩
  rw [hN] at HS2 HN2 HN3 x0 x1
  try rw [hN]
  clear hN
  generalize w1.alloc (.cells #[.slice a f.all.length c, .int .i64 (f.kept : Int)] 143) = w2 at H2 HB2 HS2 ⊢ x0 x1
  refine (dstep H2.out HST.out).mono ?_
  rintro e w3 ⟨rfl, h3, ho3⟩
  have H3 := Lib.hid h3
  have HO3 := Lib.hid (only_then HB2.out ho3)
  have HS3 : Hid (w3.heap[N]? = some (.cells #[.slice a f.all.length c, .int .i64 (f.kept : Int)] 143 (0, 0))) := Lib.hid ((ho3.block N (ex_lt HS2.out) (fun e => by have := HN2.out N e; omega)).trans HS2.out)
  have HNB : Hid (N ≠ B ∧ N ≠ m ∧ N ≠ mt ∧ ¬ S N) := Lib.hid (by
    have h1 := HN2.out B h3.own.1
    have h2 := HN2.out m h3.own.2.1
    have h3' := HN2.out mt h3.own.2.2
    exact ⟨by omega, by omega, by omega, fun e => by have := HN2.out N e; omega⟩)
  clear h3 ho3 HS2 H2 x0 x1
  have hp : pw (stepD D).down = 0 := by rw [hs]; rfl
  rw [hp]
  clear hp hs
  go_wp2_with fail
  have HS0 : Hid ((fun W : World => W.heap[B]? = some (.cells (DC (stepD D) m mt).toArray 78 (0, 0)) ∧ W.heap[N]? = some (.cells #[.slice a f.all.length c, .int .i64 (f.kept : Int)] 143 (0, 0))) w3.drew) := Lib.hid ⟨H3.out.cells, HS3.out⟩
  refine wp_region_held_drew (S := (fun W : World => W.heap[B]? = some (.cells (DC (stepD D) m mt).toArray 78 (0, 0)) ∧ W.heap[N]? = some (.cells #[.slice a f.all.length c, .int .i64 (f.kept : Int)] 143 (0, 0)))) (by kernel_rfl) HS0.out (fun hHeld => ?_)
  clear hHeld
  have H5 : Hid (DKx S w3.drew B m mt (stepD D) M V) := Lib.hid (H3.out.move (Nat.le_refl _) (fun _ _ _ => rfl))
  have HO5 : Hid (Only S w w3.drew) := Lib.hid HO3.out.drew
  clear H3 HO3
  generalize w3.drew = w5 at H5 HO5 HS0 ⊢
  have hk0 : (0 : Int) ≤ (k : Int) := by omega
  have hkc : (k : Int) ≤ (c : Int) := by have := HK.out; have := HCC.out; omega
  refine wpAnyH_take (i := 0) (oi := { dst := some 34, op := Go.Op.move (Go.Operand.tmp 0), type := 56, pos := "disk.go:101", after := #[], guard := none }) (v := ?_) rfl (by kernel_rfl) (by kernel_rfl) (by kernel_rfl) (fun _ _ _ h => h) (Or.inl ⟨by rfl, ?_⟩) HS0.out ?_
  case refine_2 => (intro w1 hS1; clear hS1; go_simp; try with_reducible rfl)
  try simp only [Act.put, List.setIfInBounds_toArray, List.set_cons_zero, List.set_cons_succ]
  refine wpAnyH_take (i := 1) (oi := { dst := some 35, op := Go.Op.nilCheck (Go.Operand.tmp 34), type := 0, pos := "disk.go:101", after := #[{ on := 0, ground := Go.Ground.data }], guard := none }) (v := ?_) rfl (by kernel_rfl) (by kernel_rfl) (by kernel_rfl) (fun _ _ _ h => h) (Or.inl ⟨by rfl, ?_⟩) HS0.out ?_
  case refine_2 => (intro w1 hS1; clear hS1; go_simp; try with_reducible rfl)
  try simp only [Act.put, List.setIfInBounds_toArray, List.set_cons_zero, List.set_cons_succ]
  refine wpAnyH_take (i := 2) (oi := { dst := some 36, op := Go.Op.fieldAddr 78 (Go.Operand.tmp 35) 1, type := 0, pos := "disk.go:101", after := #[{ on := 1, ground := Go.Ground.data }], guard := none }) (v := ?_) rfl (by kernel_rfl) (by kernel_rfl) (by kernel_rfl) (fun _ _ _ h => h) (Or.inl ⟨by rfl, ?_⟩) HS0.out ?_
  case refine_2 => (intro w1 hS1; clear hS1; go_simp; try with_reducible rfl)
  try simp only [Act.put, List.setIfInBounds_toArray, List.set_cons_zero, List.set_cons_succ]
  refine wpAnyH_take (i := 3) (oi := { dst := some 37, op := Go.Op.load 75 (Go.Operand.tmp 36), type := 75, pos := "disk.go:101", after := #[{ on := 2, ground := Go.Ground.data }], guard := none }) (v := ?_) rfl (by kernel_rfl) (by kernel_rfl) (by kernel_rfl) (fun _ _ _ h => h) (Or.inl ⟨by rfl, ?_⟩) HS0.out ?_
  case refine_2 => (intro w1 hS1; obtain ⟨hb1, -⟩ := hS1; have c1 : w1.cell? ⟨B, 1, none⟩ = some (.map (some m)) := (by simp only [World.cell?, hb1]; rfl); clear hb1; go_simp; try with_reducible rfl)
  try simp only [Act.put, List.setIfInBounds_toArray, List.set_cons_zero, List.set_cons_succ]
  refine wpAnyH_take (i := 4) (oi := { dst := some 38, op := Go.Op.move (Go.Operand.tmp 1), type := 9, pos := "disk.go:101", after := #[], guard := none }) (v := ?_) rfl (by kernel_rfl) (by kernel_rfl) (by kernel_rfl) (fun _ _ _ h => h) (Or.inl ⟨by rfl, ?_⟩) HS0.out ?_
  case refine_2 => (intro w1 hS1; clear hS1; go_simp; try with_reducible rfl)
  try simp only [Act.put, List.setIfInBounds_toArray, List.set_cons_zero, List.set_cons_succ]
  refine wpAnyH_take (i := 5) (oi := { dst := some 39, op := Go.Op.fieldAddr 143 (Go.Operand.tmp 7) 0, type := 0, pos := "disk.go:101", after := #[], guard := none }) (v := ?_) rfl (by kernel_rfl) (by kernel_rfl) (by kernel_rfl) (fun _ _ _ h => h) (Or.inl ⟨by rfl, ?_⟩) HS0.out ?_
  case refine_2 => (intro w1 hS1; clear hS1; go_simp; try with_reducible rfl)
  try simp only [Act.put, List.setIfInBounds_toArray, List.set_cons_zero, List.set_cons_succ]
  refine wpAnyH_take (i := 6) (oi := { dst := some 40, op := Go.Op.load 28 (Go.Operand.tmp 39), type := 28, pos := "disk.go:101", after := #[{ on := 5, ground := Go.Ground.data }], guard := none }) (v := ?_) rfl (by kernel_rfl) (by kernel_rfl) (by kernel_rfl) (fun _ _ _ h => h) (Or.inl ⟨by rfl, ?_⟩) HS0.out ?_
  case refine_2 => (intro w1 hS1; obtain ⟨-, hb2⟩ := hS1; obtain ⟨z0, z1, -⟩ := two_at hb2; clear hb2; go_simp; try with_reducible rfl)
  try simp only [Act.put, List.setIfInBounds_toArray, List.set_cons_zero, List.set_cons_succ]
  refine wpAnyH_take (i := 7) (oi := { dst := some 41, op := Go.Op.move (Go.Operand.tmp 2), type := 3, pos := "disk.go:101", after := #[], guard := none }) (v := ?_) rfl (by kernel_rfl) (by kernel_rfl) (by kernel_rfl) (fun _ _ _ h => h) (Or.inl ⟨by rfl, ?_⟩) HS0.out ?_
  case refine_2 => (intro w1 hS1; clear hS1; go_simp; try with_reducible rfl)
  try simp only [Act.put, List.setIfInBounds_toArray, List.set_cons_zero, List.set_cons_succ]
  refine wpAnyH_take (i := 8) (oi := { dst := some 42, op := Go.Op.slice 28 (Go.Operand.tmp 40) none (some (Go.Operand.tmp 41)) none, type := 28, pos := "disk.go:101", after := #[{ on := 6, ground := Go.Ground.data }, { on := 7, ground := Go.Ground.data }], guard := none }) (v := .slice a k c) rfl (by kernel_rfl) (by kernel_rfl) (by kernel_rfl) (fun _ _ _ h => h) (Or.inl ⟨by rfl, ?_⟩) HS0.out ?_
  case refine_1 => (intro w1 hS1; clear hS1; have hsl := run_slice_h (P := Try.prog) w1 28 a f.all.length c Try.underlying28 .i64 (k : Int) hk0 hkc; go_simp; try with_reducible rfl)
  try simp only [Act.put, List.setIfInBounds_toArray, List.set_cons_zero, List.set_cons_succ]
  refine wpAnyH_take (i := 9) (oi := { dst := some 43, op := Go.Op.fieldAddr 143 (Go.Operand.tmp 7) 1, type := 0, pos := "disk.go:101", after := #[], guard := none }) (v := ?_) rfl (by kernel_rfl) (by kernel_rfl) (by kernel_rfl) (fun _ _ _ h => h) (Or.inl ⟨by rfl, ?_⟩) HS0.out ?_
  case refine_2 => (intro w1 hS1; clear hS1; go_simp; try with_reducible rfl)
  try simp only [Act.put, List.setIfInBounds_toArray, List.set_cons_zero, List.set_cons_succ]
  refine wpAnyH_take (i := 10) (oi := { dst := some 44, op := Go.Op.load 3 (Go.Operand.tmp 43), type := 3, pos := "disk.go:101", after := #[{ on := 9, ground := Go.Ground.data }], guard := none }) (v := ?_) rfl (by kernel_rfl) (by kernel_rfl) (by kernel_rfl) (fun _ _ _ h => h) (Or.inl ⟨by rfl, ?_⟩) HS0.out ?_
  case refine_2 => (intro w1 hS1; obtain ⟨-, hb2⟩ := hS1; obtain ⟨z0, z1, -⟩ := two_at hb2; clear hb2; go_simp; try with_reducible rfl)
  try simp only [Act.put, List.setIfInBounds_toArray, List.set_cons_zero, List.set_cons_succ]
  refine wpAnyH_take (i := 11) (oi := { dst := some 45, op := Go.Op.move (Go.Operand.tmp 2), type := 3, pos := "disk.go:101", after := #[], guard := none }) (v := ?_) rfl (by kernel_rfl) (by kernel_rfl) (by kernel_rfl) (fun _ _ _ h => h) (Or.inl ⟨by rfl, ?_⟩) HS0.out ?_
  case refine_2 => (intro w1 hS1; clear hS1; go_simp; try with_reducible rfl)
  try simp only [Act.put, List.setIfInBounds_toArray, List.set_cons_zero, List.set_cons_succ]
  refine wpAnyH_take (i := 12) (oi := { dst := some 46, op := Go.Op.call { callee := Go.Callee.builtin Go.Builtin.min, args := #[Go.Operand.tmp 44, Go.Operand.tmp 45], argTypes := #[3, 3] }, type := 3, pos := "disk.go:101", after := #[{ on := 10, ground := Go.Ground.data }, { on := 11, ground := Go.Ground.data }], guard := none }) (v := .int .i64 ((min f.kept k : Nat) : Int)) rfl (by kernel_rfl) (by kernel_rfl) (by kernel_rfl) (fun _ _ _ h => h) (Or.inl ⟨by rfl, ?_⟩) HS0.out ?_
  case refine_1 => (intro w1 hS1; clear hS1; go_simp; split <;> omega)
  try simp only [Act.put, List.setIfInBounds_toArray, List.set_cons_zero, List.set_cons_succ]
  refine wpAnyH_take (i := 13) (oi := { dst := some 47, op := Go.Op.build 143 #[(0, Go.Operand.tmp 42), (1, Go.Operand.tmp 46)], type := 143, pos := "disk.go:101", after := #[{ on := 8, ground := Go.Ground.data }, { on := 12, ground := Go.Ground.data }], guard := none }) (v := .agg #[.slice a k c, .int .i64 ((min f.kept k : Nat) : Int)]) rfl (by kernel_rfl) (by kernel_rfl) (by kernel_rfl) (fun _ _ _ h => h) (Or.inl ⟨by rfl, ?_⟩) HS0.out ?_
  case refine_1 => (intro w1 hS1; clear hS1; go_simp; try with_reducible rfl)
  try simp only [Act.put, List.setIfInBounds_toArray, List.set_cons_zero, List.set_cons_succ]
  obtain ⟨M', hM1, hM2⟩ := upV M (.string n) (some (.agg #[.slice a k c, .int .i64 ((min f.kept k : Nat) : Int)]))
  obtain ⟨w6, hrun, hv6, hg6, hz6⟩ := H5.out.df.vm.put keyedS fm_und (by have := H5.out.df.few; unfold maxLen; omega) (keyS HL.out) (.agg #[.slice a k c, .int .i64 ((min f.kept k : Nat) : Int)]) hM1 hM2
  have HS6 : Hid ((fun W : World => W.heap[B]? = some (.cells (DC (stepD D) m mt).toArray 78 (0, 0)) ∧ W.heap[N]? = some (.cells #[.slice a f.all.length c, .int .i64 (f.kept : Int)] 143 (0, 0))) w6) := Lib.hid ⟨(hg6.block B H5.out.lt.1 (by intro e; injection e with e; exact H5.out.ne.1 e)).trans HS0.out.1, (hg6.block N (ex_lt HS0.out.2) (by intro e; injection e with e; exact HNB.out.2.1 e)).trans HS0.out.2⟩
  refine wpAnyH_ready (rs := [14]) (by kernel_rfl) (by simp) ?_
  refine AllReadyH.cons (o := { dst := none, op := Go.Op.mapUpdate 75 (Go.Operand.tmp 37) (Go.Operand.tmp 38) (Go.Operand.tmp 47), type := 0, pos := "disk.go:101", after := #[{ on := 3, ground := Go.Ground.data }, { on := 4, ground := Go.Ground.data }, { on := 13, ground := Go.Ground.data }, { on := 0, ground := Go.Ground.phase }, { on := 1, ground := Go.Ground.phase }, { on := 2, ground := Go.Ground.phase }, { on := 3, ground := Go.Ground.phase }, { on := 4, ground := Go.Ground.phase }, { on := 5, ground := Go.Ground.phase }, { on := 6, ground := Go.Ground.phase }, { on := 7, ground := Go.Ground.phase }, { on := 8, ground := Go.Ground.phase }, { on := 9, ground := Go.Ground.phase }, { on := 10, ground := Go.Ground.phase }, { on := 11, ground := Go.Ground.phase }, { on := 12, ground := Go.Ground.phase }, { on := 13, ground := Go.Ground.phase }], guard := none }) rfl (fun K hK => ?_) AllReadyH.nil
  go_simp
  have HV6 := Lib.hid hv6
  have HG6 := Lib.hid hg6
  have HM6 := Lib.hid (And.intro hM1 hM2)
  have HZ6 := Lib.hid hz6
  clear hv6 hg6 hM1 hM2 hz6 HS0
  have HS0 := HS6
  clear HS6
  refine hK.out _ _ HS0.out (fun hHeld => ?_)
  clear hrun hK K hHeld
  try simp only [Act.put, List.setIfInBounds_toArray, List.set_cons_zero, List.set_cons_succ]
  refine wpAnyH_done (by kernel_rfl) ?_ _
  go_wp2_with fail
  go_ret
  have hgk : ∀ k, k < w5.heap.size → k ≠ m → w6.heap[k]? = w5.heap[k]? := fun k hk e => HG6.out.block k hk (fun e2 => e (by injection e2))
  have h5 := H5.out
  have hok := h5.df.ok n f HF.out
  have hown := h5.df.own n f HF.out
  rw [HE.out] at hown
  have hown2 := hown.cut HK.out
  have hne : getF D.fs n ≠ none := by rw [HF.out]; exact Option.some_ne_none _
  have hlen : (f.all.take k).length = k := by rw [List.length_take]; have := HK.out; omega
  have hsp := sum_put_some (L := D.fs) ⟨f.all.take k, min f.kept k⟩ h5.df.srt HF.out
  have hlp := len_put_some (L := D.fs) ⟨f.all.take k, min f.kept k⟩ h5.df.srt HF.out
  refine ⟨rfl, ⟨m, mt, M', _, h5.putf (v := .slice a k c) (f := ⟨f.all.take k, min f.kept k⟩) (hgk B h5.lt.1 h5.ne.1) (hgk mt h5.lt.2.2 (Ne.symm h5.ne.2.2)) (fun k g _ hk hv => hgk g (h5.df.lt hk hv) (h5.fne k g hk hv).2.1) HV6.out HM6.out.1 HM6.out.2 (hown2.blk (fun g hv => hgk g (hown2.lt hv).2 (h5.fne n g hne (by rw [HE.out]; exact (own_sl _ _ _ _ _).trans hv)).2.1)) ⟨fun c hc => hok.1 c (List.mem_of_mem_take hc), by show min f.kept k ≤ (f.all.take k).length; rw [hlen]; exact Nat.min_le_right _ _, hok.2.2⟩ ?_ ?_ (fun _ h => h) ?_ ?_ ?_ ?_⟩, only_grown HO5.out HG6.out h5.own.2.1⟩
  · intro j g hk hkn hv e
    exact h5.df.sep n j g (Ne.symm hk) hne hkn (by rw [HE.out]; exact (own_sl _ _ _ _ _).trans e) hv
  · intro g hv
    exact h5.fne n g hne (by rw [HE.out]; exact (own_sl _ _ _ _ _).trans hv)
  · intro g hv
    exact h5.df.inS n g hne (by rw [HE.out]; exact (own_sl _ _ _ _ _).trans hv)
  · have := h5.df.sum
    have hkk := HK.out
    simp only [stepD] at this ⊢
    simp only [hlen] at hsp
    omega
  · have := h5.df.few
    simp only [stepD] at this ⊢
    omega
  · intro k hk
    rw [HZ6.out]
    exact h5.bd k hk
end
end Go.Proofs.Ythefnakbpalecaa
