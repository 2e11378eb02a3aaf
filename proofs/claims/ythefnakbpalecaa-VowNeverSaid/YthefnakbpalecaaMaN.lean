import Derived.Test.YthefnakbpalecaaMaM
namespace Go.Proofs.Ythefnakbpalecaa
open Go.RowKit
/- The disk: Move and Read. -/
open Go.RowKit Go.Maps
section
variable {S : Nat → Prop} {w : World} {B m mt : Nat} {D : Dd} {M : Lit → Option Value} {V : Nm → Value}
set_option maxRecDepth 100000 in
set_option maxHeartbeats 4000000 in
theorem dmove_arg (h : DKx S w B m mt D M V) (hd : D.down = false) {n : Nm} (hl : n.length ≤ 100000) {f : Fl} (hf : getF D.fs n = some f) (hst : D.st < 1000000000) (n2 : Nm) (hv2 : validN n2 = false) : Calls Try.prog 122 #[.pointer (some ⟨B, 0, none⟩), encStr n, encStr n2] w fun e w' => e = .returned (.int .i64 2) ∧ Below w.heap.size w w' := by
  obtain ⟨a, c, e1, e2⟩ := h.file hf
  have HE := Lib.hid e1
  have HV : Hid (fV (V n) f.kept = .agg #[.slice a f.all.length c, .int .i64 (f.kept : Int)]) := Lib.hid (by rw [e1]; rfl)
  have H := Lib.hid h
  have HD := Lib.hid hd
  have HL := Lib.hid hl
  have HF := Lib.hid hf
  have HST := Lib.hid hst
  clear h hd hl hf hst e1 e2
  go_enter Try.func122, Try.ntmps122
  go_wp2_with fail
  refine (dfind_some H.out HD.out HL.out HF.out).mono ?_
  rintro e w1 ⟨rfl, hb⟩
  rw [HV.out]
  have H1 := Lib.hid (H.out.below hb)
  obtain ⟨B2, s2⟩ := boxF (w := w1) (.slice a f.all.length c) (.int .i64 (f.kept : Int))
  have H2 := Lib.hid (H1.out.below B2)
  have HB2 := Lib.hid (hb.trans (B2.mono hb.size))
  have HS2 := Lib.hid s2
  have HN2 : Hid (∀ k, S k → k < w1.heap.size) := Lib.hid H1.out.bd
  have HN3 : Hid (w.heap.size ≤ w1.heap.size) := Lib.hid hb.size
  clear hb B2 s2 H1
  go_wp2_with fail
  refine (valid_any n2 _).mono ?_
  rintro e w9 ⟨rfl, rfl⟩
  rw [hv2]
  clear hv2
  go_wp2_with fail
  go_ret
  exact ⟨rfl, HB2.out⟩
set_option maxRecDepth 100000 in
set_option maxHeartbeats 4000000 in
theorem dmove_sd (h : DKx S w B m mt D M V) (hd : D.down = false) {n : Nm} (hl : n.length ≤ 100000) {f : Fl} (hf : getF D.fs n = some f) (hst : D.st < 1000000000) (n2 : Nm) (hv2 : validN n2 = true) (hs : (stepD D).down = true) : Calls Try.prog 122 #[.pointer (some ⟨B, 0, none⟩), encStr n, encStr n2] w fun e w' => e = .returned (.int .i64 50) ∧ DKx S w' B m mt (stepD D) M V ∧ Only S w w' := by
  obtain ⟨a, c, e1, e2⟩ := h.file hf
  have HE := Lib.hid e1
  have HV : Hid (fV (V n) f.kept = .agg #[.slice a f.all.length c, .int .i64 (f.kept : Int)]) := Lib.hid (by rw [e1]; rfl)
  have H := Lib.hid h
  have HD := Lib.hid hd
  have HL := Lib.hid hl
  have HF := Lib.hid hf
  have HST := Lib.hid hst
  clear h hd hl hf hst e1 e2
  go_enter Try.func122, Try.ntmps122
  go_wp2_with fail
  refine (dfind_some H.out HD.out HL.out HF.out).mono ?_
  rintro e w1 ⟨rfl, hb⟩
  rw [HV.out]
  have H1 := Lib.hid (H.out.below hb)
  obtain ⟨B2, s2⟩ := boxF (w := w1) (.slice a f.all.length c) (.int .i64 (f.kept : Int))
  have H2 := Lib.hid (H1.out.below B2)
  have HB2 := Lib.hid (hb.trans (B2.mono hb.size))
  have HS2 := Lib.hid s2
  have HN2 : Hid (∀ k, S k → k < w1.heap.size) := Lib.hid H1.out.bd
  have HN3 : Hid (w.heap.size ≤ w1.heap.size) := Lib.hid hb.size
  clear hb B2 s2 H1
  go_wp2_with fail
  refine (valid_any n2 _).mono ?_
  rintro e w9 ⟨rfl, rfl⟩
  rw [hv2]
  clear hv2
  go_wp2_with fail
  obtain ⟨N, hN⟩ : ∃ N, w1.heap.size = N := ⟨_, rfl⟩
  rw [hN] at HS2 HN2 HN3
  try rw [hN]
  clear hN
  generalize w1.alloc (.cells #[.slice a f.all.length c, .int .i64 (f.kept : Int)] 143) = w2 at H2 HB2 HS2 ⊢
  refine (dstep H2.out HST.out).mono ?_
  rintro e w3 ⟨rfl, h3, ho3⟩
  have H3 := Lib.hid h3
  have HO3 := Lib.hid (only_then HB2.out ho3)
  have HS3 : Hid (w3.heap[N]? = some (.cells #[.slice a f.all.length c, .int .i64 (f.kept : Int)] 143 (0, 0))) := Lib.hid ((ho3.block N (ex_lt HS2.out) (fun e => by have := HN2.out N e; omega)).trans HS2.out)
  have HNB : Hid (N ≠ B ∧ N ≠ m ∧ N ≠ mt ∧ ¬ S N) := Lib.hid (by
    have h1 := HN2.out B h3.own.1
    have h2 := HN2.out m h3.own.2.1
    have h3' := HN2.out mt h3.own.2.2
    exact ⟨by omega, by omega, by omega, fun e => by have := HN2.out N e; omega⟩)
  clear h3 ho3 HS2 H2 
  have hp : pw (stepD D).down = 50 := by rw [hs]; rfl
  rw [hp]
  clear hp hs
  go_wp2_with fail
  go_ret
  exact ⟨rfl, H3.out, HO3.out⟩
set_option maxRecDepth 100000 in
set_option maxHeartbeats 4000000 in
theorem dmove_ok (h : DKx S w B m mt D M V) (hd : D.down = false) {n : Nm} (hl : n.length ≤ 100000) {f : Fl} (hf : getF D.fs n = some f) (hst : D.st < 1000000000) (n2 : Nm) (hv2 : validN n2 = true) (hs : (stepD D).down = false) : Calls Try.prog 122 #[.pointer (some ⟨B, 0, none⟩), encStr n, encStr n2] w fun e w' => e = .returned (.int .i64 0) ∧ DK S w' B ((stepD D).files (putF (delF D.fs n) n2 f)) ∧ Only S w w' := by
  have HL2 : Hid (n2.length ≤ 100000) := Lib.hid (by unfold validN at hv2; have := of_decide_eq_true hv2; omega)
  obtain ⟨a, c, e1, e2⟩ := h.file hf
  have HE := Lib.hid e1
  have HV : Hid (fV (V n) f.kept = .agg #[.slice a f.all.length c, .int .i64 (f.kept : Int)]) := Lib.hid (by rw [e1]; rfl)
  have H := Lib.hid h
  have HD := Lib.hid hd
  have HL := Lib.hid hl
  have HF := Lib.hid hf
  have HST := Lib.hid hst
  clear h hd hl hf hst e1 e2
  go_enter Try.func122, Try.ntmps122
  go_wp2_with fail
  refine (dfind_some H.out HD.out HL.out HF.out).mono ?_
  rintro e w1 ⟨rfl, hb⟩
  rw [HV.out]
  have H1 := Lib.hid (H.out.below hb)
  obtain ⟨B2, s2⟩ := boxF (w := w1) (.slice a f.all.length c) (.int .i64 (f.kept : Int))
  have H2 := Lib.hid (H1.out.below B2)
  have HB2 := Lib.hid (hb.trans (B2.mono hb.size))
  have HS2 := Lib.hid s2
  have HN2 : Hid (∀ k, S k → k < w1.heap.size) := Lib.hid H1.out.bd
  have HN3 : Hid (w.heap.size ≤ w1.heap.size) := Lib.hid hb.size
  clear hb B2 s2 H1
  go_wp2_with fail
  refine (valid_any n2 _).mono ?_
  rintro e w9 ⟨rfl, rfl⟩
  rw [hv2]
  clear hv2
  go_wp2_with fail
  obtain ⟨N, hN⟩ : ∃ N, w1.heap.size = N := ⟨_, rfl⟩
  rw [hN] at HS2 HN2 HN3
  try rw [hN]
  clear hN
  generalize w1.alloc (.cells #[.slice a f.all.length c, .int .i64 (f.kept : Int)] 143) = w2 at H2 HB2 HS2 ⊢
  refine (dstep H2.out HST.out).mono ?_
  rintro e w3 ⟨rfl, h3, ho3⟩
  have H3 := Lib.hid h3
  have HO3 := Lib.hid (only_then HB2.out ho3)
  have HS3 : Hid (w3.heap[N]? = some (.cells #[.slice a f.all.length c, .int .i64 (f.kept : Int)] 143 (0, 0))) := Lib.hid ((ho3.block N (ex_lt HS2.out) (fun e => by have := HN2.out N e; omega)).trans HS2.out)
  have HNB : Hid (N ≠ B ∧ N ≠ m ∧ N ≠ mt ∧ ¬ S N) := Lib.hid (by
    have h1 := HN2.out B h3.own.1
    have h2 := HN2.out m h3.own.2.1
    have h3' := HN2.out mt h3.own.2.2
    exact ⟨by omega, by omega, by omega, fun e => by have := HN2.out N e; omega⟩)
  clear h3 ho3 HS2 H2 
  have hp : pw (stepD D).down = 0 := by rw [hs]; rfl
  rw [hp]
  clear hp hs
  obtain ⟨-, c1, -⟩ := H3.out.at
  obtain ⟨M1, hM1, hM2⟩ := upV M (.string n) none
  obtain ⟨w4, hrun, hv6, hg6⟩ := H3.out.df.vm.del keyedS fm_und (keyS HL.out) 0 hM1 hM2
  have H4 := Lib.hid (H3.out.delf hg6 hv6 hM1 hM2)
  have HS4 : Hid (w4.heap[N]? = some (.cells #[.slice a f.all.length c, .int .i64 (f.kept : Int)] 143 (0, 0))) := Lib.hid ((hg6.block N (ex_lt HS3.out) (by intro e; injection e with e; exact HNB.out.2.1 e)).trans HS3.out)
  have HO4 := Lib.hid (only_grown HO3.out hg6 H3.out.own.2.1)
  have HOW : Hid (OB w4 0 (.slice a f.all.length c) f.all) := Lib.hid (by
    have ho := H3.out.df.own n f HF.out
    have hne : getF D.fs n ≠ none := by rw [HF.out]; exact Option.some_ne_none _
    rw [HE.out] at ho
    exact ho.blk (fun g hv => hg6.block g (ho.lt hv).2 (by intro e; injection e with e; exact (H3.out.fne n g hne (by rw [HE.out]; exact hv)).2.1 e)))
  have HOK := Lib.hid (H3.out.df.ok n f HF.out)
  have HSRT := Lib.hid H3.out.df.srt
  have HSUM := Lib.hid H3.out.df.sum
  have HFEW := Lib.hid H3.out.df.few
  have HSEP : Hid (∀ k g, k ≠ n → getF D.fs k ≠ none → (V k).ownBlock = some g → (Value.slice a f.all.length c).ownBlock ≠ some g) := Lib.hid (fun k g hk hkn hv e => H3.out.df.sep n k g (Ne.symm hk) (by show getF D.fs n ≠ none; rw [HF.out]; exact Option.some_ne_none _) hkn (by rw [HE.out]; exact e) hv)
  have HVB : Hid (∀ g, (Value.slice a f.all.length c).ownBlock = some g → (g ≠ B ∧ g ≠ m ∧ g ≠ mt) ∧ S g) := Lib.hid (fun g hv => by
    have hne : getF D.fs n ≠ none := by rw [HF.out]; exact Option.some_ne_none _
    exact ⟨H3.out.fne n g hne (by rw [HE.out]; exact hv), H3.out.df.inS n g hne (by rw [HE.out]; exact hv)⟩)
  clear hv6 hg6 hM1 hM2 H3 HO3 HS3
  go_wp2_with fail
  clear hrun c1
  have HS0 : Hid ((fun W : World => W.heap[B]? = some (.cells (DC (stepD D) m mt).toArray 78 (0, 0)) ∧ W.heap[N]? = some (.cells #[.slice a f.all.length c, .int .i64 (f.kept : Int)] 143 (0, 0))) w4.drew) := Lib.hid ⟨H4.out.cells, HS4.out⟩
  refine wp_region_held_drew (S := (fun W : World => W.heap[B]? = some (.cells (DC (stepD D) m mt).toArray 78 (0, 0)) ∧ W.heap[N]? = some (.cells #[.slice a f.all.length c, .int .i64 (f.kept : Int)] 143 (0, 0)))) (by kernel_rfl) HS0.out (fun hHeld => ?_)
  clear hHeld
  have H5 : Hid (DKx S w4.drew B m mt ((stepD D).files (delF D.fs n)) M1 V) := Lib.hid (H4.out.move (Nat.le_refl _) (fun _ _ _ => rfl))
  have HO5 : Hid (Only S w w4.drew) := Lib.hid HO4.out.drew
  clear H4 HO4
  have HW45 : Hid (∀ g : Nat, w4.heap[g]? = w4.drew.heap[g]?) := Lib.hid (fun _ => rfl)
  generalize w4.drew = w5 at H5 HO5 HS0 HW45 ⊢
  refine wpAnyH_take (i := 0) (oi := { dst := some 33, op := Go.Op.move (Go.Operand.tmp 0), type := 56, pos := "disk.go:134", after := #[], guard := none }) (v := ?_) rfl (by kernel_rfl) (by kernel_rfl) (by kernel_rfl) (fun _ _ _ h => h) (Or.inl ⟨by rfl, ?_⟩) HS0.out ?_
  case refine_2 => (intro w1 hS1; clear hS1; go_simp; try with_reducible rfl)
  try simp only [Act.put, List.setIfInBounds_toArray, List.set_cons_zero, List.set_cons_succ]
  refine wpAnyH_take (i := 1) (oi := { dst := some 34, op := Go.Op.nilCheck (Go.Operand.tmp 33), type := 0, pos := "disk.go:134", after := #[{ on := 0, ground := Go.Ground.data }], guard := none }) (v := ?_) rfl (by kernel_rfl) (by kernel_rfl) (by kernel_rfl) (fun _ _ _ h => h) (Or.inl ⟨by rfl, ?_⟩) HS0.out ?_
  case refine_2 => (intro w1 hS1; clear hS1; go_simp; try with_reducible rfl)
  try simp only [Act.put, List.setIfInBounds_toArray, List.set_cons_zero, List.set_cons_succ]
  refine wpAnyH_take (i := 2) (oi := { dst := some 35, op := Go.Op.fieldAddr 78 (Go.Operand.tmp 34) 1, type := 0, pos := "disk.go:134", after := #[{ on := 1, ground := Go.Ground.data }], guard := none }) (v := ?_) rfl (by kernel_rfl) (by kernel_rfl) (by kernel_rfl) (fun _ _ _ h => h) (Or.inl ⟨by rfl, ?_⟩) HS0.out ?_
  case refine_2 => (intro w1 hS1; clear hS1; go_simp; try with_reducible rfl)
  try simp only [Act.put, List.setIfInBounds_toArray, List.set_cons_zero, List.set_cons_succ]
  refine wpAnyH_take (i := 3) (oi := { dst := some 36, op := Go.Op.load 75 (Go.Operand.tmp 35), type := 75, pos := "disk.go:134", after := #[{ on := 2, ground := Go.Ground.data }], guard := none }) (v := ?_) rfl (by kernel_rfl) (by kernel_rfl) (by kernel_rfl) (fun _ _ _ h => h) (Or.inl ⟨by rfl, ?_⟩) HS0.out ?_
  case refine_2 => (intro w1 hS1; obtain ⟨hb1, -⟩ := hS1; have c1 : w1.cell? ⟨B, 1, none⟩ = some (.map (some m)) := (by simp only [World.cell?, hb1]; rfl); clear hb1; go_simp; try with_reducible rfl)
  try simp only [Act.put, List.setIfInBounds_toArray, List.set_cons_zero, List.set_cons_succ]
  refine wpAnyH_take (i := 4) (oi := { dst := some 37, op := Go.Op.move (Go.Operand.tmp 2), type := 9, pos := "disk.go:134", after := #[], guard := none }) (v := ?_) rfl (by kernel_rfl) (by kernel_rfl) (by kernel_rfl) (fun _ _ _ h => h) (Or.inl ⟨by rfl, ?_⟩) HS0.out ?_
  case refine_2 => (intro w1 hS1; clear hS1; go_simp; try with_reducible rfl)
  try simp only [Act.put, List.setIfInBounds_toArray, List.set_cons_zero, List.set_cons_succ]
  refine wpAnyH_take (i := 5) (oi := { dst := some 38, op := Go.Op.load 143 (Go.Operand.tmp 7), type := 143, pos := "disk.go:134", after := #[], guard := none }) (v := .agg #[.slice a f.all.length c, .int .i64 (f.kept : Int)]) rfl (by kernel_rfl) (by kernel_rfl) (by kernel_rfl) (fun _ _ _ h => h) (Or.inl ⟨by rfl, ?_⟩) HS0.out ?_
  case refine_1 => (intro w1 hS1; obtain ⟨-, hb2⟩ := hS1; obtain ⟨z0, z1, -⟩ := two_at hb2; clear hb2; go_simp; try with_reducible rfl)
  try simp only [Act.put, List.setIfInBounds_toArray, List.set_cons_zero, List.set_cons_succ]
  obtain ⟨M', hM1, hM2⟩ := upV M1 (.string n2) (some (.agg #[.slice a f.all.length c, .int .i64 (f.kept : Int)]))
  obtain ⟨w6, hrun, hv6, hg6, hz6⟩ := H5.out.df.vm.put keyedS fm_und (by have := H5.out.df.few; unfold maxLen; omega) (keyS HL2.out) (.agg #[.slice a f.all.length c, .int .i64 (f.kept : Int)]) hM1 hM2
  have HS6 : Hid ((fun W : World => W.heap[B]? = some (.cells (DC (stepD D) m mt).toArray 78 (0, 0)) ∧ W.heap[N]? = some (.cells #[.slice a f.all.length c, .int .i64 (f.kept : Int)] 143 (0, 0))) w6) := Lib.hid ⟨(hg6.block B H5.out.lt.1 (by intro e; injection e with e; exact H5.out.ne.1 e)).trans HS0.out.1, (hg6.block N (ex_lt HS0.out.2) (by intro e; injection e with e; exact HNB.out.2.1 e)).trans HS0.out.2⟩
  refine wpAnyH_ready (rs := [6]) (by kernel_rfl) (by simp) ?_
  refine AllReadyH.cons (o := { dst := none, op := Go.Op.mapUpdate 75 (Go.Operand.tmp 36) (Go.Operand.tmp 37) (Go.Operand.tmp 38), type := 0, pos := "disk.go:134", after := #[{ on := 3, ground := Go.Ground.data }, { on := 4, ground := Go.Ground.data }, { on := 5, ground := Go.Ground.data }, { on := 0, ground := Go.Ground.phase }, { on := 1, ground := Go.Ground.phase }, { on := 2, ground := Go.Ground.phase }, { on := 3, ground := Go.Ground.phase }, { on := 4, ground := Go.Ground.phase }, { on := 5, ground := Go.Ground.phase }], guard := none }) rfl (fun K hK => ?_) AllReadyH.nil
  go_simp
  have HV6 := Lib.hid hv6
  have HG6 := Lib.hid hg6
  have HM6 := Lib.hid (And.intro hM1 hM2)
  have HZ6 := Lib.hid hz6
  clear hv6 hg6 hM1 hM2 hz6 HS0
  have HS0 := HS6
  clear HS6
  refine hK.out _ _ HS0.out (fun hHeld => ?_)
  clear hrun hK K hHeld
  try simp only [Act.put, List.setIfInBounds_toArray, List.set_cons_zero, List.set_cons_succ]
  refine wpAnyH_done (by kernel_rfl) ?_ _
  go_wp2_with fail
  go_ret
  have hgk : ∀ k, k < w5.heap.size → k ≠ m → w6.heap[k]? = w5.heap[k]? := fun k hk e => HG6.out.block k hk (fun e2 => e (by injection e2))
  have h5 := H5.out
  have hw54 : ∀ g : Nat, w4.heap[g]? = w5.heap[g]? := HW45.out
  have hown : OB w5 0 (.slice a f.all.length c) f.all := HOW.out.blk (fun g _ => (hw54 g).symm)
  have hdn : ∀ k, getF (delF D.fs n) k ≠ none → k ≠ n ∧ getF D.fs k ≠ none := fun k hk => by
    by_cases e : k = n
    · subst e
      exact absurd (getF_del_same _ _) hk
    · exact ⟨e, by rw [← getF_del_other D.fs n e]; exact hk⟩
  have hsd := sum_del (L := D.fs) HSRT.out HF.out
  have hld := len_del_some (L := D.fs) HSRT.out HF.out
  have hsum : sumF (putF (delF D.fs n) n2 f) ≤ 1048576 ∧ (putF (delF D.fs n) n2 f).length ≤ 128 := by
    have hs := HSUM.out
    have hw := HFEW.out
    simp only [stepD] at hs hw
    cases e : getF (delF D.fs n) n2 with
    | none =>
      have h1 := sum_put_none f e
      have h2 := len_put_none f e
      omega
    | some g2 =>
      have h1 := sum_put_some (L := delF D.fs n) f (SrtF.del n HSRT.out) e
      have h2 := len_put_some (L := delF D.fs n) f (SrtF.del n HSRT.out) e
      omega
  refine ⟨rfl, ⟨m, mt, M', _, h5.putf (v := .slice a f.all.length c) (f := f) (hgk B h5.lt.1 h5.ne.1) (hgk mt h5.lt.2.2 (Ne.symm h5.ne.2.2)) (fun k g _ hk hv => hgk g (h5.df.lt hk hv) (h5.fne k g hk hv).2.1) HV6.out HM6.out.1 HM6.out.2 (hown.blk (fun g hv => hgk g (hown.lt hv).2 (HVB.out g hv).1.2.1)) ⟨HOK.out.1, HOK.out.2.1, HL2.out⟩ (fun k g _ hkn hv => HSEP.out k g (hdn k hkn).1 (hdn k hkn).2 hv) (fun g hv => (HVB.out g hv).1) (fun _ h => h) (fun g hv => (HVB.out g hv).2) hsum.1 hsum.2 (fun k hk => by rw [HZ6.out]; exact h5.bd k hk)⟩, only_grown HO5.out HG6.out h5.own.2.1⟩
set_option maxRecDepth 100000 in
theorem dread_ok (h : DKx S w B m mt D M V) (hd : D.down = false) {n : Nm} (hl : n.length ≤ 100000) {f : Fl} (hf : getF D.fs n = some f) : Calls Try.prog 79 #[.pointer (some ⟨B, 0, none⟩), encStr n] w fun e w' => ∃ v', e = .returned (.tuple #[v', .int .i64 0]) ∧ OB w' w.heap.size v' f.all ∧ Below w.heap.size w w' := by
  obtain ⟨a, c, e1, e2⟩ := h.file hf
  have HE := Lib.hid e1
  have HV : Hid (fV (V n) f.kept = .agg #[.slice a f.all.length c, .int .i64 (f.kept : Int)]) := Lib.hid (by rw [e1]; rfl)
  have H := Lib.hid h
  have HD := Lib.hid hd
  have HL := Lib.hid hl
  have HF := Lib.hid hf
  clear h hd hl hf e1 e2
  go_enter Try.func79, Try.ntmps79
  go_wp2_with fail
  refine (dfind_some H.out HD.out HL.out HF.out).mono ?_
  rintro e w1 ⟨rfl, hb⟩
  rw [HV.out]
  have H1 := Lib.hid (H.out.below hb)
  obtain ⟨B2, s2⟩ := boxF (w := w1) (.slice a f.all.length c) (.int .i64 (f.kept : Int))
  have H2 := Lib.hid (H1.out.below B2)
  have HB2 := Lib.hid (hb.trans (B2.mono hb.size))
  have HS2 := Lib.hid s2
  have HN2 : Hid (∀ k, S k → k < w1.heap.size) := Lib.hid H1.out.bd
  have HN3 : Hid (w.heap.size ≤ w1.heap.size) := Lib.hid hb.size
  obtain ⟨x0, x1, -⟩ := two_at s2
  clear hb B2 s2 H1
  go_wp2_with fail
  have hfl : f.all.length ≤ 1048576 := by have := sum_le (getF_mem HF.out); have := H.out.df.sum; simp only at *; omega
  have hrb := (H2.out.df.own n f HF.out).rb (H2.out.df.ok n f HF.out).1 (by omega)
  rw [HE.out] at hrb
  refine (bclone _ f.all _ hrb (by omega)).mono ?_
  rintro e w9 ⟨v', rfl, ho, hb9⟩
  have HO := Lib.hid ho
  have HB9 := Lib.hid (HB2.out.trans (hb9.mono HB2.out.size))
  clear ho hb9 hrb hfl
  go_wp2_with fail
  go_ret2
  exact ⟨v', rfl, HO.out.mono HB2.out.size, HB9.out⟩
end
/- The disk: Append. -/
open Go.RowKit Go.Maps
theorem OB.shp {w : World} {base : Nat} {v : Value} {bs : List Nat} (h : OB w base v bs) : ∃ a c, v = .slice a bs.length c := by
  rcases h.2 with ⟨h2, h3⟩ | ⟨g, cap, cur, e1, hg, hc, hn, hm, hsz, htk⟩
  · exact ⟨none, 0, by rw [h2, h3]⟩
  · exact ⟨some ⟨g, 0, none⟩, cap, e1⟩
theorem two_mapF (x y : Value) (w : World) : (Instr.field 143 (.agg #[x, y]) 0).run Try.prog w = .ok x w := by kernel_rfl
section
variable {S : Nat → Prop} {w : World} {B m mt : Nat} {D : Dd} {M : Lit → Option Value} {V : Nm → Value}
set_option maxRecDepth 100000 in
theorem dappend_down (h : DKx S w B m mt D M V) (hd : D.down = true) (n : Nm) (v : Value) : Calls Try.prog 142 #[.pointer (some ⟨B, 0, none⟩), encStr n, v] w fun e w' => e = .returned (.int .i64 50) ∧ w = w' := by
  have hp : pw D.down = 50 := by rw [hd]; rfl
  have H := Lib.hid h
  clear h hd
  go_enter Try.func142, Try.ntmps142
  go_wp2_with fail
  refine (dpower_any H.out).mono ?_
  rintro e w1 ⟨rfl, rfl⟩
  rw [hp]
  clear hp
  go_wp2_with fail
  go_ret
  exact ⟨rfl, rfl⟩
set_option maxRecDepth 100000 in
theorem dappend_no (v0 : Value) (n : Nm) (v : Value) (w : World) (h : NoD w v0) : Calls Try.prog 142 #[v0, encStr n, v] w fun e w' => e = .returned (.int .i64 1) ∧ w = w' := by
  have H := Lib.hid h
  clear h
  go_enter Try.func142, Try.ntmps142
  go_wp2_with fail
  refine (dpower_no v0 w H.out).mono ?_
  rintro e w1 ⟨rfl, rfl⟩
  go_wp2_with fail
  go_ret
  exact ⟨rfl, rfl⟩
set_option maxRecDepth 100000 in
theorem dappend_arg (h : DKx S w B m mt D M V) (hd : D.down = false) {n : Nm} (hv : validN n = false) (v : Value) : Calls Try.prog 142 #[.pointer (some ⟨B, 0, none⟩), encStr n, v] w fun e w' => e = .returned (.int .i64 2) ∧ w = w' := by
  have hp : pw D.down = 0 := by rw [hd]; rfl
  have H := Lib.hid h
  clear h hd
  go_enter Try.func142, Try.ntmps142
  go_wp2_with fail
  refine (dpower_any H.out).mono ?_
  rintro e w1 ⟨rfl, rfl⟩
  rw [hp]
  clear hp
  go_wp2_with fail
  refine (valid_any n _).mono ?_
  rintro e w2 ⟨rfl, rfl⟩
  rw [hv]
  clear hv
  go_wp2_with fail
  go_ret
  exact ⟨rfl, rfl⟩
set_option maxRecDepth 100000 in
set_option maxHeartbeats 4000000 in
theorem dappend_many (h : DKx S w B m mt D M V) (hd : D.down = false) {n : Nm} (hv : validN n = true) (hn : getF D.fs n = none) (ab : Option Addr) (cb : Nat) (bs : List Nat) (hm : 128 ≤ D.fs.length) : Calls Try.prog 142 #[.pointer (some ⟨B, 0, none⟩), encStr n, .slice ab bs.length cb] w fun e w' => e = .returned (.int .i64 30) ∧ Below w.heap.size w w' := by
  have g1 : decide (128 ≤ (D.fs.length : Int)) = true := decide_eq_true (by omega)
  have g2 : decide ((D.fs.length : Int) ≥ 128) = true := decide_eq_true (by omega)
  have g3 : decide (128 ≤ D.fs.length) = true := decide_eq_true (by omega)
  clear hm
  have hp : pw D.down = 0 := by rw [hd]; rfl
  have H := Lib.hid h
  have HL : Hid (n.length ≤ 100000) := Lib.hid (by unfold validN at hv; have := of_decide_eq_true hv; omega)
  have HG : Hid (M (.string n) = none) := Lib.hid (by rw [h.df.spot n, hn]; rfl)
  have HF := Lib.hid hn
  clear hn h hd
  go_enter Try.func142, Try.ntmps142
  go_wp2_with fail
  refine (dpower_any H.out).mono ?_
  rintro e w1 ⟨rfl, rfl⟩
  rw [hp]
  clear hp
  go_wp2_with fail
  refine (valid_any n _).mono ?_
  rintro e w2 ⟨rfl, rfl⟩
  rw [hv]
  clear hv
  obtain ⟨-, q1, -⟩ := H.out.at
  have hz := fl_zero w
  have hlk := H.out.df.vm.look_ok keyedS fm_und hz (keyS HL.out)
  rw [HG.out] at hlk
  simp only [Option.getD_none, Option.isSome_none] at hlk
  clear hz
  obtain ⟨B2, s2⟩ := boxF (w := w) (.slice none 0 0) (.int .i64 0)
  have H2 := Lib.hid (H.out.below B2)
  have HB2 := Lib.hid B2
  have HS2 := Lib.hid s2
  have q1' := H2.out.at.2.1
  have hlen := H2.out.df.vm.len fm_und 3
  clear B2 s2
  go_wp2_with fail
  go_ret
  exact ⟨rfl, HB2.out⟩
set_option maxRecDepth 100000 in
set_option maxHeartbeats 4000000 in
theorem dappend_full1 (h : DKx S w B m mt D M V) (hd : D.down = false) {n : Nm} (hv : validN n = true) {f : Fl} (hn : getF D.fs n = some f) (ab : Option Addr) (cb : Nat) (bs : List Nat) (hf : freeD D < (bs.length : Int)) : Calls Try.prog 142 #[.pointer (some ⟨B, 0, none⟩), encStr n, .slice ab bs.length cb] w fun e w' => e = .returned (.int .i64 30) ∧ Below w.heap.size w w' := by
  have k1 : decide (freeD D < (bs.length : Int)) = true := decide_eq_true hf
  clear hf
  have hp : pw D.down = 0 := by rw [hd]; rfl
  have H := Lib.hid h
  have HL : Hid (n.length ≤ 100000) := Lib.hid (by unfold validN at hv; have := of_decide_eq_true hv; omega)
  obtain ⟨a, c, e1, e2⟩ := h.file hn
  have HE := Lib.hid e1
  have HG := Lib.hid e2
  have HF := Lib.hid hn
  clear e1 e2 hn h hd
  go_enter Try.func142, Try.ntmps142
  go_wp2_with fail
  refine (dpower_any H.out).mono ?_
  rintro e w1 ⟨rfl, rfl⟩
  rw [hp]
  clear hp
  go_wp2_with fail
  refine (valid_any n _).mono ?_
  rintro e w2 ⟨rfl, rfl⟩
  rw [hv]
  clear hv
  obtain ⟨-, q1, -⟩ := H.out.at
  have hz := fl_zero w
  have hlk := H.out.df.vm.look_ok keyedS fm_und hz (keyS HL.out)
  rw [HG.out] at hlk
  simp only [Option.getD_some, Option.isSome_some] at hlk
  clear hz
  obtain ⟨B2, s2⟩ := boxF (w := w) (.slice a f.all.length c) (.int .i64 (f.kept : Int))
  have H2 := Lib.hid (H.out.below B2)
  have HB2 := Lib.hid B2
  have HS2 := Lib.hid s2
  have q1' := H2.out.at.2.1
  have hlen := H2.out.df.vm.len fm_und 3
  clear B2 s2
  go_wp2_with fail
  refine (dfree H2.out).mono ?_
  rintro e w3 ⟨rfl, hb3⟩
  have HB3 := Lib.hid (HB2.out.trans (hb3.mono HB2.out.size))
  clear hb3
  go_wp2_with fail
  go_ret
  exact ⟨rfl, HB3.out⟩
set_option maxRecDepth 100000 in
set_option maxHeartbeats 4000000 in
theorem dappend_full0 (h : DKx S w B m mt D M V) (hd : D.down = false) {n : Nm} (hv : validN n = true) (hn : getF D.fs n = none) (ab : Option Addr) (cb : Nat) (bs : List Nat) (hm : D.fs.length < 128) (hf : freeD D < (bs.length : Int)) : Calls Try.prog 142 #[.pointer (some ⟨B, 0, none⟩), encStr n, .slice ab bs.length cb] w fun e w' => e = .returned (.int .i64 30) ∧ Below w.heap.size w w' := by
  have g1 : decide (128 ≤ (D.fs.length : Int)) = false := decide_eq_false (by omega)
  have g2 : decide ((D.fs.length : Int) ≥ 128) = false := decide_eq_false (by omega)
  have g3 : decide (128 ≤ D.fs.length) = false := decide_eq_false (by omega)
  have HM := Lib.hid hm
  clear hm
  have k1 : decide (freeD D < (bs.length : Int)) = true := decide_eq_true hf
  clear hf
  have hp : pw D.down = 0 := by rw [hd]; rfl
  have H := Lib.hid h
  have HL : Hid (n.length ≤ 100000) := Lib.hid (by unfold validN at hv; have := of_decide_eq_true hv; omega)
  have HG : Hid (M (.string n) = none) := Lib.hid (by rw [h.df.spot n, hn]; rfl)
  have HF := Lib.hid hn
  clear hn h hd
  go_enter Try.func142, Try.ntmps142
  go_wp2_with fail
  refine (dpower_any H.out).mono ?_
  rintro e w1 ⟨rfl, rfl⟩
  rw [hp]
  clear hp
  go_wp2_with fail
  refine (valid_any n _).mono ?_
  rintro e w2 ⟨rfl, rfl⟩
  rw [hv]
  clear hv
  obtain ⟨-, q1, -⟩ := H.out.at
  have hz := fl_zero w
  have hlk := H.out.df.vm.look_ok keyedS fm_und hz (keyS HL.out)
  rw [HG.out] at hlk
  simp only [Option.getD_none, Option.isSome_none] at hlk
  clear hz
  obtain ⟨B2, s2⟩ := boxF (w := w) (.slice none 0 0) (.int .i64 0)
  have H2 := Lib.hid (H.out.below B2)
  have HB2 := Lib.hid B2
  have HS2 := Lib.hid s2
  have q1' := H2.out.at.2.1
  have hlen := H2.out.df.vm.len fm_und 3
  clear B2 s2
  go_wp2_with fail
  refine (dfree H2.out).mono ?_
  rintro e w3 ⟨rfl, hb3⟩
  have HB3 := Lib.hid (HB2.out.trans (hb3.mono HB2.out.size))
  clear hb3
  go_wp2_with fail
  go_ret
  exact ⟨rfl, HB3.out⟩
set_option maxRecDepth 100000 in
set_option maxHeartbeats 4000000 in
theorem dappend_ok1 (h : DKx S w B m mt D M V) (hd : D.down = false) {n : Nm} (hv : validN n = true) {f : Fl} (hn : getF D.fs n = some f) (ab : Option Addr) (cb : Nat) (bs : List Nat) (hf : (bs.length : Int) ≤ freeD D) (hrb : RB w (.slice ab bs.length cb) bs) (hst : D.st < 1000000000) : Calls Try.prog 142 #[.pointer (some ⟨B, 0, none⟩), encStr n, .slice ab bs.length cb] w fun e w' => ∃ S', e = .returned (.int .i64 (pw (stepD (D.files (putF D.fs n ⟨f.all ++ bs, f.kept⟩))).down)) ∧ DK S' w' B (stepD (D.files (putF D.fs n ⟨f.all ++ bs, f.kept⟩))) ∧ Fr S w S' w' := by
  have k1 : decide (freeD D < (bs.length : Int)) = false := decide_eq_false (by omega)
  have HFR := Lib.hid hf
  have HRB := Lib.hid hrb
  have HST := Lib.hid hst
  clear hf hrb hst
  have hp : pw D.down = 0 := by rw [hd]; rfl
  have H := Lib.hid h
  have HL : Hid (n.length ≤ 100000) := Lib.hid (by unfold validN at hv; have := of_decide_eq_true hv; omega)
  obtain ⟨a, c, e1, e2⟩ := h.file hn
  have HE := Lib.hid e1
  have HG := Lib.hid e2
  have HF := Lib.hid hn
  clear e1 e2 hn h hd
  go_enter Try.func142, Try.ntmps142
  go_wp2_with fail
  refine (dpower_any H.out).mono ?_
  rintro e w1 ⟨rfl, rfl⟩
  rw [hp]
  clear hp
  go_wp2_with fail
  refine (valid_any n _).mono ?_
  rintro e w2 ⟨rfl, rfl⟩
  rw [hv]
  clear hv
  obtain ⟨-, q1, -⟩ := H.out.at
  have hz := fl_zero w
  have hlk := H.out.df.vm.look_ok keyedS fm_und hz (keyS HL.out)
  rw [HG.out] at hlk
  simp only [Option.getD_some, Option.isSome_some] at hlk
  clear hz
  obtain ⟨B2, s2⟩ := boxF (w := w) (.slice a f.all.length c) (.int .i64 (f.kept : Int))
  have H2 := Lib.hid (H.out.below B2)
  have HB2 := Lib.hid B2
  have HS2 := Lib.hid s2
  have q1' := H2.out.at.2.1
  have hlen := H2.out.df.vm.len fm_und 3
  clear B2 s2
  go_wp2_with fail
  obtain ⟨N, hN⟩ : ∃ N, w.heap.size = N := ⟨_, rfl⟩
  have HN := Lib.hid hN
  rw [hN] at HS2
  try rw [hN]
  clear hN q1 hlk
  generalize w.alloc (.cells #[.slice a f.all.length c, .int .i64 (f.kept : Int)] 143) = w2 at H2 HB2 HS2 q1' hlen ⊢
  refine (dfree H2.out).mono ?_
  rintro e w3 ⟨rfl, hb3⟩
  have H3 := Lib.hid (H2.out.below hb3)
  have HB3 := Lib.hid (HB2.out.trans (hb3.mono HB2.out.size))
  have HS3 := Lib.hid (ex_below HS2.out hb3)
  have HRB3 := Lib.hid (HRB.out.kept (HB2.out.trans (hb3.mono HB2.out.size)))
  have HNS : Hid (¬ S N ∧ N ≠ B ∧ N ≠ m ∧ N ≠ mt) := Lib.hid (by
    have e := HN.out
    have h1 := H.out.bd
    exact ⟨fun hk => by have := h1 N hk; omega, fun hk => by have := h1 B H.out.own.1; omega, fun hk => by have := h1 m H.out.own.2.1; omega, fun hk => by have := h1 mt H.out.own.2.2; omega⟩)
  clear hb3 H2 HB2 HS2 q1' hlen
  obtain ⟨x0, x1, fr⟩ := two_at HS3.out
  have f0 := fr 0
  clear fr
  have HLN : Hid (f.all.length ≤ 1048576 ∧ bs.length ≤ 1048576) := Lib.hid (by
    have h1 := HFR.out
    have h2 := H.out.rm
    unfold freeD at h1
    refine ⟨?_, by split at h1 <;> omega⟩
    have h3 := sum_le (getF_mem HF.out); have h4 := H.out.df.sum; simp only at h3; omega)
  have HO0 : Hid (OB w3 0 (.slice a f.all.length c) f.all) := Lib.hid (by
    have := H3.out.df.own n f HF.out; rw [HE.out] at this; exact this)
  have HVS : Hid (some N ≠ (.slice a f.all.length c : Value).ownBlock) := Lib.hid (by
    intro e; rw [← HE.out] at e; exact HNS.out.1 (H.out.df.inS n N (by rw [HF.out]; exact Option.some_ne_none _) e.symm))
  go_wp2_with (at_builtin; refine append_moved rfl (.tmp 47) (.tmp 48) rfl 0 _ _ f.all bs rfl rfl HO0.out HRB3.out (by have := HLN.out; omega) (Nat.zero_le _) ?_; go_loud (intro v1 w4 ho1 hg1 hm1; obtain ⟨a1, c1, rfl⟩ := ho1.shp; obtain ⟨ln, hln⟩ : ∃ ln, (f.all ++ bs).length = ln := ⟨_, rfl⟩; rw [hln] at ho1 hm1; rw [hln]; have HLE := Lib.hid hln; clear hln; have HO1 := Lib.hid ho1; have hg2 : w3.grownBy w4 (.slice a f.all.length c : Value).ownBlock := hg1; have hm2 : Moved (.slice a f.all.length c) w3 (.slice a1 ln c1) := hm1; have HG1 := Lib.hid hg2; have HMV := Lib.hid hm2; clear hg2 hm2; have HS4 := Lib.hid ((hg1.block N (ex_lt HS3.out) HVS.out).trans HS3.out); have x0' := (two_at HS4.out).1; have f0' := (two_at HS4.out).2.2 0; clear ho1 hg1 hm1))
  clear x0 x1 f0
  have HS5 : Hid ((w4.setCell ⟨N, 0, none⟩ (.slice a1 ln c1)).heap[N]? = some (.cells #[.slice a1 ln c1, .int .i64 (f.kept : Int)] 143 (0, 0))) := Lib.hid (two_set HS4.out _).1
  have HO5 : Hid (OB (w4.setCell ⟨N, 0, none⟩ (.slice a1 ln c1)) 0 (.slice a1 ln c1) (f.all ++ bs)) := Lib.hid (HO1.out.blk (fun g hg => Below.heap_setCell _ _ _ _ (by
    have hN := HN.out
    have h1 := HB3.out.size
    rcases HMV.out with e | e
    · rw [hg] at e; intro e2; have e3 : g = N := e2; rw [e3] at e; exact HVS.out e
    · have h2 := e g hg; have h3 := ex_lt HS3.out; intro e2; have e3 : g = N := e2; omega)))
  have HK5 : Hid (∀ k, k < w3.heap.size → k ≠ N → some k ≠ ((.slice a f.all.length c) : Value).ownBlock → (w4.setCell ⟨N, 0, none⟩ (.slice a1 ln c1)).heap[k]? = w3.heap[k]?) := Lib.hid (fun k hk hn ho => (Below.heap_setCell _ _ _ _ (by exact hn)).trans (HG1.out.block k hk ho))
  have HZ5 : Hid (w3.heap.size ≤ (w4.setCell ⟨N, 0, none⟩ (.slice a1 ln c1)).heap.size ∧ ∀ g, (Value.slice a1 ln c1).ownBlock = some g → g < (w4.setCell ⟨N, 0, none⟩ (.slice a1 ln c1)).heap.size) := Lib.hid ⟨by have := HG1.out.size; simpa using this, fun g hg => by have := (HO1.out.lt hg).2; simpa using this⟩
  have HW5 : Hid ((w4.setCell ⟨N, 0, none⟩ (.slice a1 ln c1)).os = w3.os ∧ (w4.setCell ⟨N, 0, none⟩ (.slice a1 ln c1)).tape = w3.tape ∧ (w4.setCell ⟨N, 0, none⟩ (.slice a1 ln c1)).output = w3.output) := Lib.hid ⟨HG1.out.os, HG1.out.tape, HG1.out.output⟩
  clear HO1 HG1 HS4
  generalize w4.setCell ⟨N, 0, none⟩ (.slice a1 ln c1) = w5 at HS5 HO5 HK5 HZ5 HW5 ⊢
  have hVO : ∀ g, ((.slice a f.all.length c) : Value).ownBlock = some g → S g ∧ g ≠ B ∧ g ≠ m ∧ g ≠ mt := by
    intro g hg; rw [← HE.out] at hg; exact ⟨H.out.df.inS n g (by rw [HF.out]; exact Option.some_ne_none _) hg, H.out.fne n g (by rw [HF.out]; exact Option.some_ne_none _) hg⟩
  have HVO := Lib.hid hVO
  clear hVO
  have hB5 : w5.heap[B]? = w3.heap[B]? := HK5.out B H3.out.lt.1 (Ne.symm HNS.out.2.1) (by intro e; exact (HVO.out B e.symm).2.1 rfl)
  have hm5 : w5.heap[m]? = w3.heap[m]? := HK5.out m H3.out.lt.2.1 (Ne.symm HNS.out.2.2.1) (by intro e; exact (HVO.out m e.symm).2.2.1 rfl)
  have hmt5 : w5.heap[mt]? = w3.heap[mt]? := HK5.out mt H3.out.lt.2.2 (Ne.symm HNS.out.2.2.2) (by intro e; exact (HVO.out mt e.symm).2.2.2 rfl)
  have HH5 := Lib.hid (And.intro hB5 (And.intro hm5 hmt5))
  have HS0 : Hid ((fun W : World => W.heap[B]? = some (.cells (DC D m mt).toArray 78 (0, 0)) ∧ W.heap[N]? = some (.cells #[.slice a1 ln c1, .int .i64 (f.kept : Int)] 143 (0, 0))) w5.drew) := Lib.hid ⟨hB5.trans H3.out.cells, HS5.out⟩
  have HVM : Hid (VM 9 w5.drew m D.fs.length M) := Lib.hid (H3.out.df.vm.block (w' := w5.drew) hm5)
  have HW6 : Hid (∀ g : Nat, w5.drew.heap[g]? = w5.heap[g]?) := Lib.hid (fun _ => rfl)
  have HZ6' : Hid (w5.drew.heap.size = w5.heap.size ∧ w5.drew.os = w5.os ∧ w5.drew.tape = w5.tape ∧ w5.drew.output = w5.output) := Lib.hid ⟨rfl, rfl, rfl, rfl⟩
  clear hB5 hm5 hmt5
  refine wp_region_held_drew (S := (fun W : World => W.heap[B]? = some (.cells (DC D m mt).toArray 78 (0, 0)) ∧ W.heap[N]? = some (.cells #[.slice a1 ln c1, .int .i64 (f.kept : Int)] 143 (0, 0)))) (by kernel_rfl) HS0.out (fun hHeld => ?_)
  clear hHeld
  generalize w5.drew = w6 at HS0 HVM HW6 HZ6' ⊢
  refine wpAnyH_take (i := 0) (oi := { dst := some 51, op := Go.Op.move (Go.Operand.tmp 0), type := 56, pos := "disk.go:69", after := #[], guard := none }) (v := ?_) rfl (by kernel_rfl) (by kernel_rfl) (by kernel_rfl) (fun _ _ _ h => h) (Or.inl ⟨by rfl, ?_⟩) HS0.out ?_
  case refine_2 => (intro w1 hS1; clear hS1; go_simp; try with_reducible rfl)
  try simp only [Act.put, List.setIfInBounds_toArray, List.set_cons_zero, List.set_cons_succ]
  refine wpAnyH_take (i := 1) (oi := { dst := some 52, op := Go.Op.nilCheck (Go.Operand.tmp 51), type := 0, pos := "disk.go:69", after := #[{ on := 0, ground := Go.Ground.data }], guard := none }) (v := ?_) rfl (by kernel_rfl) (by kernel_rfl) (by kernel_rfl) (fun _ _ _ h => h) (Or.inl ⟨by rfl, ?_⟩) HS0.out ?_
  case refine_2 => (intro w1 hS1; clear hS1; go_simp; try with_reducible rfl)
  try simp only [Act.put, List.setIfInBounds_toArray, List.set_cons_zero, List.set_cons_succ]
  refine wpAnyH_take (i := 2) (oi := { dst := some 53, op := Go.Op.fieldAddr 78 (Go.Operand.tmp 52) 1, type := 0, pos := "disk.go:69", after := #[{ on := 1, ground := Go.Ground.data }], guard := none }) (v := ?_) rfl (by kernel_rfl) (by kernel_rfl) (by kernel_rfl) (fun _ _ _ h => h) (Or.inl ⟨by rfl, ?_⟩) HS0.out ?_
  case refine_2 => (intro w1 hS1; clear hS1; go_simp; try with_reducible rfl)
  try simp only [Act.put, List.setIfInBounds_toArray, List.set_cons_zero, List.set_cons_succ]
  refine wpAnyH_take (i := 3) (oi := { dst := some 54, op := Go.Op.load 75 (Go.Operand.tmp 53), type := 75, pos := "disk.go:69", after := #[{ on := 2, ground := Go.Ground.data }], guard := none }) (v := ?_) rfl (by kernel_rfl) (by kernel_rfl) (by kernel_rfl) (fun _ _ _ h => h) (Or.inl ⟨by rfl, ?_⟩) HS0.out ?_
  case refine_2 => (intro w1 hS1; obtain ⟨hb1, -⟩ := hS1; have c1 : w1.cell? ⟨B, 1, none⟩ = some (.map (some m)) := (by simp only [World.cell?, hb1]; rfl); clear hb1; go_simp; try with_reducible rfl)
  try simp only [Act.put, List.setIfInBounds_toArray, List.set_cons_zero, List.set_cons_succ]
  refine wpAnyH_take (i := 4) (oi := { dst := some 55, op := Go.Op.move (Go.Operand.tmp 1), type := 9, pos := "disk.go:69", after := #[], guard := none }) (v := ?_) rfl (by kernel_rfl) (by kernel_rfl) (by kernel_rfl) (fun _ _ _ h => h) (Or.inl ⟨by rfl, ?_⟩) HS0.out ?_
  case refine_2 => (intro w1 hS1; clear hS1; go_simp; try with_reducible rfl)
  try simp only [Act.put, List.setIfInBounds_toArray, List.set_cons_zero, List.set_cons_succ]
  refine wpAnyH_take (i := 5) (oi := { dst := some 56, op := Go.Op.load 143 (Go.Operand.tmp 8), type := 143, pos := "disk.go:69", after := #[], guard := none }) (v := .agg #[.slice a1 ln c1, .int .i64 (f.kept : Int)]) rfl (by kernel_rfl) (by kernel_rfl) (by kernel_rfl) (fun _ _ _ h => h) (Or.inl ⟨by rfl, ?_⟩) HS0.out ?_
  case refine_1 => (intro w1 hS1; obtain ⟨-, hb2⟩ := hS1; obtain ⟨z0, z1, -⟩ := two_at hb2; clear hb2; go_simp; try with_reducible rfl)
  try simp only [Act.put, List.setIfInBounds_toArray, List.set_cons_zero, List.set_cons_succ]
  obtain ⟨M', hM1, hM2⟩ := upV M (.string n) (some (.agg #[.slice a1 ln c1, .int .i64 (f.kept : Int)]))
  obtain ⟨w7, hrun, hv7, hg7, hz7⟩ := HVM.out.put keyedS fm_und (by have := H.out.df.few; unfold maxLen; omega) (keyS HL.out) (.agg #[.slice a1 ln c1, .int .i64 (f.kept : Int)]) hM1 hM2
  have HS7 : Hid ((fun W : World => W.heap[B]? = some (.cells (DC D m mt).toArray 78 (0, 0)) ∧ W.heap[N]? = some (.cells #[.slice a1 ln c1, .int .i64 (f.kept : Int)] 143 (0, 0))) w7) := Lib.hid ⟨(hg7.block B (by rw [HZ6'.out.1]; have := HZ5.out.1; have := H3.out.lt.1; omega) (by intro e; injection e with e; exact H.out.ne.1 e)).trans HS0.out.1, (hg7.block N (ex_lt HS0.out.2) (by intro e; injection e with e; exact HNS.out.2.2.1 e)).trans HS0.out.2⟩
  refine wpAnyH_ready (rs := [6]) (by kernel_rfl) (by simp) ?_
  refine AllReadyH.cons (o := { dst := none, op := Go.Op.mapUpdate 75 (Go.Operand.tmp 54) (Go.Operand.tmp 55) (Go.Operand.tmp 56), type := 0, pos := "disk.go:69", after := #[{ on := 3, ground := Go.Ground.data }, { on := 4, ground := Go.Ground.data }, { on := 5, ground := Go.Ground.data }, { on := 0, ground := Go.Ground.phase }, { on := 1, ground := Go.Ground.phase }, { on := 2, ground := Go.Ground.phase }, { on := 3, ground := Go.Ground.phase }, { on := 4, ground := Go.Ground.phase }, { on := 5, ground := Go.Ground.phase }], guard := none }) rfl (fun K hK => ?_) AllReadyH.nil
  go_simp
  have HV7 := Lib.hid hv7
  have HG7 := Lib.hid hg7
  have HM7 := Lib.hid (And.intro hM1 hM2)
  have HZ7 := Lib.hid hz7
  clear hv7 hg7 hM1 hM2 hz7 HS0
  have HS0 := HS7
  clear HS7
  refine hK.out _ _ HS0.out (fun hHeld => ?_)
  clear hrun hK K hHeld
  try simp only [Act.put, List.setIfInBounds_toArray, List.set_cons_zero, List.set_cons_succ]
  refine wpAnyH_done (by kernel_rfl) ?_ _
  have hgk : ∀ k, k < w3.heap.size → k ≠ m → k ≠ N → some k ≠ ((.slice a f.all.length c) : Value).ownBlock → w7.heap[k]? = w3.heap[k]? := fun k hk hkm hkn hko => ((HG7.out.block k (by rw [HZ6'.out.1]; have := HZ5.out.1; omega) (by intro e; injection e with e; exact hkm e)).trans (HW6.out k)).trans (HK5.out k hk hkn hko)
  have h3 := H3.out
  have hS' : ∀ g, (Value.slice a1 ln c1).ownBlock = some g → ((.slice a f.all.length c) : Value).ownBlock = some g ∨ w3.heap.size ≤ g := fun g hg => by
    rcases HMV.out with e | e
    · exact .inl (by rw [← e]; exact hg)
    · exact .inr (e g hg)
  have hlt : ∀ {k : Nm} {g : Nat}, getF D.fs k ≠ none → (V k).ownBlock = some g → g < w3.heap.size := fun hk hv => h3.df.lt hk hv
  have hNk : ∀ k, S k → k ≠ N := fun k hk e => HNS.out.1 (by rw [← e]; exact hk)
  have hLL : (f.all ++ bs).length ≤ 2097152 := by rw [List.length_append]; have := HLN.out; omega
  have hob7 : OB w7 0 (.slice a1 ln c1) (f.all ++ bs) := HO5.out.blk (fun g hg => (HG7.out.block g (by rw [HZ6'.out.1]; exact HZ5.out.2 g hg) (by
    intro e; injection e with e
    rcases hS' g hg with e1 | e1
    · exact (HVO.out g e1).2.2.1 e
    · have := h3.lt.2.1; omega)).trans (HW6.out g))
  have hbl : ∀ c ∈ bs, c < 256 := HRB.out.1
  have hsz7 : w7.heap.size = w5.heap.size := HZ7.out.trans HZ6'.out.1
  have hfr := HFR.out
  have hrm := H.out.rm
  unfold freeD at hfr
  have hsum0 := H.out.df.sum
  have h8 : DKx (fun k => S k ∨ (Value.slice a1 ln c1).ownBlock = some k) w7 B m mt (D.files (putF D.fs n ⟨f.all ++ bs, f.kept⟩)) M' (fun k => if k = n then .slice a1 ln c1 else V k) := by
    refine h3.putf (v := .slice a1 ln c1) (f := ⟨f.all ++ bs, f.kept⟩) (hgk B h3.lt.1 h3.ne.1 (Ne.symm HNS.out.2.1) (by intro e; exact (HVO.out B e.symm).2.1 rfl)) (hgk mt h3.lt.2.2 (Ne.symm h3.ne.2.2) (Ne.symm HNS.out.2.2.2) (by intro e; exact (HVO.out mt e.symm).2.2.2 rfl)) (fun k g hkn hk hv => hgk g (hlt hk hv) (h3.fne k g hk hv).2.1 (hNk g (h3.df.inS k g hk hv)) ?_) HV7.out HM7.out.1 HM7.out.2 (by first | exact hob7 | simpa using hob7) ?_ ?_ ?_ (fun _ h => .inl h) (fun g hg => .inr hg) ?_ ?_ ?_
    · intro e; rw [← HE.out] at e; exact h3.df.sep n k g (Ne.symm hkn) (by rw [HF.out]; exact Option.some_ne_none _) hk e.symm hv
    · refine ⟨fun c hc => ?_, ?_, HL.out⟩
      · rcases List.mem_append.1 hc with hc | hc
        · exact (H.out.df.ok n f HF.out).1 c hc
        · exact hbl c hc
      · have := (H.out.df.ok n f HF.out).2.1; show f.kept ≤ (f.all ++ bs).length; rw [List.length_append]; omega
    · intro k g hkn hk hv e
      rcases hS' g e with e1 | e1
      · rw [← HE.out] at e1; exact h3.df.sep n k g (Ne.symm hkn) (by rw [HF.out]; exact Option.some_ne_none _) hk e1 hv
      · have := hlt hk hv; omega
    · intro g hg
      rcases hS' g hg with e1 | e1
      · exact (HVO.out g e1).2
      · have h1 := h3.lt; exact ⟨by omega, by omega, by omega⟩
    · have h1 := sum_put_some (L := D.fs) ⟨f.all ++ bs, f.kept⟩ H.out.df.srt HF.out
      simp only [List.length_append] at h1
      split at hfr <;> omega
    · have h1 := len_put_some (L := D.fs) ⟨f.all ++ bs, f.kept⟩ H.out.df.srt HF.out; have := H.out.df.few; omega
    · intro k hk
      rw [hsz7]
      rcases hk with hk | hk
      · have h1 := h3.bd k hk; have h2 := HZ5.out.1; omega
      · exact HZ5.out.2 k hk
  have hfr8 : Fr S w (fun k => S k ∨ (Value.slice a1 ln c1).ownBlock = some k) w7 := by
    have h1 := HB3.out
    refine ⟨⟨HG7.out.os.trans (HZ6'.out.2.1.trans (HW5.out.1.trans h1.os)), HG7.out.tape.trans (HZ6'.out.2.2.1.trans (HW5.out.2.1.trans h1.tape)), HG7.out.output.trans (HZ6'.out.2.2.2.trans (HW5.out.2.2.trans h1.output)), by rw [hsz7]; have := HZ5.out.1; have := h1.size; omega, fun k hk hs => ?_⟩, fun k hk => .inl hk, fun k hk => ?_⟩
    · have hkw : k < w3.heap.size := Nat.lt_of_lt_of_le hk h1.size
      refine (hgk k hkw (fun e => hs (by rw [e]; exact h3.own.2.1)) (fun e => by have := HN.out; omega) (fun e => hs (HVO.out k e.symm).1)).trans (h1.block k hk)
    · rcases hk with hk | hk
      · exact .inl hk
      · rcases hS' k hk with e1 | e1
        · exact .inl (HVO.out k e1).1
        · exact .inr (Nat.le_trans h1.size e1)
  have H8 := Lib.hid h8
  have HFR8 := Lib.hid hfr8
  clear h8 hfr8 hgk h3 hS' hlt hNk hLL hob7 hbl hsz7 hfr hrm hsum0
  go_wp2_with fail
  refine (dstep H8.out (by show D.st < 1000000000; exact HST.out)).mono ?_
  rintro e w9 ⟨rfl, h9, ho9⟩
  have H9 := Lib.hid h9
  have HF9 := Lib.hid (HFR8.out.trans (Fr.same ho9))
  clear h9 ho9
  go_wp2_with fail
  go_ret
  exact ⟨_, rfl, ⟨m, mt, M', _, H9.out⟩, HF9.out⟩
set_option maxRecDepth 100000 in
set_option maxHeartbeats 4000000 in
theorem dappend_ok0 (h : DKx S w B m mt D M V) (hd : D.down = false) {n : Nm} (hv : validN n = true) (hn : getF D.fs n = none) (ab : Option Addr) (cb : Nat) (bs : List Nat) (hm : D.fs.length < 128) (hf : (bs.length : Int) ≤ freeD D) (hrb : RB w (.slice ab bs.length cb) bs) (hst : D.st < 1000000000) : Calls Try.prog 142 #[.pointer (some ⟨B, 0, none⟩), encStr n, .slice ab bs.length cb] w fun e w' => ∃ S', e = .returned (.int .i64 (pw (stepD (D.files (putF D.fs n ⟨bs, 0⟩))).down)) ∧ DK S' w' B (stepD (D.files (putF D.fs n ⟨bs, 0⟩))) ∧ Fr S w S' w' := by
  have g1 : decide (128 ≤ (D.fs.length : Int)) = false := decide_eq_false (by omega)
  have g2 : decide ((D.fs.length : Int) ≥ 128) = false := decide_eq_false (by omega)
  have g3 : decide (128 ≤ D.fs.length) = false := decide_eq_false (by omega)
  have HM := Lib.hid hm
  clear hm
  have k1 : decide (freeD D < (bs.length : Int)) = false := decide_eq_false (by omega)
  have HFR := Lib.hid hf
  have HRB := Lib.hid hrb
  have HST := Lib.hid hst
  clear hf hrb hst
  have hp : pw D.down = 0 := by rw [hd]; rfl
  have H := Lib.hid h
  have HL : Hid (n.length ≤ 100000) := Lib.hid (by unfold validN at hv; have := of_decide_eq_true hv; omega)
  have HG : Hid (M (.string n) = none) := Lib.hid (by rw [h.df.spot n, hn]; rfl)
  have HF := Lib.hid hn
  clear hn h hd
  go_enter Try.func142, Try.ntmps142
  go_wp2_with fail
  refine (dpower_any H.out).mono ?_
  rintro e w1 ⟨rfl, rfl⟩
  rw [hp]
  clear hp
  go_wp2_with fail
  refine (valid_any n _).mono ?_
  rintro e w2 ⟨rfl, rfl⟩
  rw [hv]
  clear hv
  obtain ⟨-, q1, -⟩ := H.out.at
  have hz := fl_zero w
  have hlk := H.out.df.vm.look_ok keyedS fm_und hz (keyS HL.out)
  rw [HG.out] at hlk
  simp only [Option.getD_none, Option.isSome_none] at hlk
  clear hz
  obtain ⟨B2, s2⟩ := boxF (w := w) (.slice none 0 0) (.int .i64 0)
  have H2 := Lib.hid (H.out.below B2)
  have HB2 := Lib.hid B2
  have HS2 := Lib.hid s2
  have q1' := H2.out.at.2.1
  have hlen := H2.out.df.vm.len fm_und 3
  clear B2 s2
  go_wp2_with fail
  obtain ⟨N, hN⟩ : ∃ N, w.heap.size = N := ⟨_, rfl⟩
  have HN := Lib.hid hN
  rw [hN] at HS2
  try rw [hN]
  clear hN q1 hlk
  generalize w.alloc (.cells #[.slice none 0 0, .int .i64 0] 143) = w2 at H2 HB2 HS2 q1' hlen ⊢
  refine (dfree H2.out).mono ?_
  rintro e w3 ⟨rfl, hb3⟩
  have H3 := Lib.hid (H2.out.below hb3)
  have HB3 := Lib.hid (HB2.out.trans (hb3.mono HB2.out.size))
  have HS3 := Lib.hid (ex_below HS2.out hb3)
  have HRB3 := Lib.hid (HRB.out.kept (HB2.out.trans (hb3.mono HB2.out.size)))
  have HNS : Hid (¬ S N ∧ N ≠ B ∧ N ≠ m ∧ N ≠ mt) := Lib.hid (by
    have e := HN.out
    have h1 := H.out.bd
    exact ⟨fun hk => by have := h1 N hk; omega, fun hk => by have := h1 B H.out.own.1; omega, fun hk => by have := h1 m H.out.own.2.1; omega, fun hk => by have := h1 mt H.out.own.2.2; omega⟩)
  clear hb3 H2 HB2 HS2 q1' hlen
  obtain ⟨x0, x1, fr⟩ := two_at HS3.out
  have f0 := fr 0
  clear fr
  have HLN : Hid (([] : List Nat).length ≤ 1048576 ∧ bs.length ≤ 1048576) := Lib.hid (by
    have h1 := HFR.out
    have h2 := H.out.rm
    unfold freeD at h1
    refine ⟨?_, by split at h1 <;> omega⟩
    simp)
  have HO0 : Hid (OB w3 0 (.slice none 0 0) ([] : List Nat)) := Lib.hid (by
    exact World.ownsRow_nil _ _ _ _)
  have HVS : Hid (some N ≠ (.slice none 0 0 : Value).ownBlock) := Lib.hid (by
    intro e; cases e)
  go_wp2_with (at_builtin; refine append_moved rfl (.tmp 47) (.tmp 48) rfl 0 _ _ [] bs rfl rfl HO0.out HRB3.out (by have := HLN.out; omega) (Nat.zero_le _) ?_; go_loud (intro v1 w4 ho1 hg1 hm1; obtain ⟨a1, c1, rfl⟩ := ho1.shp; obtain ⟨ln, hln⟩ : ∃ ln, (([] : List Nat) ++ bs).length = ln := ⟨_, rfl⟩; rw [hln] at ho1 hm1; rw [hln]; have HLE := Lib.hid hln; clear hln; have HO1 := Lib.hid ho1; have hg2 : w3.grownBy w4 (.slice none 0 0 : Value).ownBlock := hg1; have hm2 : Moved (.slice none 0 0) w3 (.slice a1 ln c1) := hm1; have HG1 := Lib.hid hg2; have HMV := Lib.hid hm2; clear hg2 hm2; have HS4 := Lib.hid ((hg1.block N (ex_lt HS3.out) HVS.out).trans HS3.out); have x0' := (two_at HS4.out).1; have f0' := (two_at HS4.out).2.2 0; clear ho1 hg1 hm1))
  clear x0 x1 f0
  have HS5 : Hid ((w4.setCell ⟨N, 0, none⟩ (.slice a1 ln c1)).heap[N]? = some (.cells #[.slice a1 ln c1, .int .i64 0] 143 (0, 0))) := Lib.hid (two_set HS4.out _).1
  have HO5 : Hid (OB (w4.setCell ⟨N, 0, none⟩ (.slice a1 ln c1)) 0 (.slice a1 ln c1) (([] : List Nat) ++ bs)) := Lib.hid (HO1.out.blk (fun g hg => Below.heap_setCell _ _ _ _ (by
    have hN := HN.out
    have h1 := HB3.out.size
    rcases HMV.out with e | e
    · rw [hg] at e; intro e2; have e3 : g = N := e2; rw [e3] at e; exact HVS.out e
    · have h2 := e g hg; have h3 := ex_lt HS3.out; intro e2; have e3 : g = N := e2; omega)))
  have HK5 : Hid (∀ k, k < w3.heap.size → k ≠ N → some k ≠ ((.slice none 0 0) : Value).ownBlock → (w4.setCell ⟨N, 0, none⟩ (.slice a1 ln c1)).heap[k]? = w3.heap[k]?) := Lib.hid (fun k hk hn ho => (Below.heap_setCell _ _ _ _ (by exact hn)).trans (HG1.out.block k hk ho))
  have HZ5 : Hid (w3.heap.size ≤ (w4.setCell ⟨N, 0, none⟩ (.slice a1 ln c1)).heap.size ∧ ∀ g, (Value.slice a1 ln c1).ownBlock = some g → g < (w4.setCell ⟨N, 0, none⟩ (.slice a1 ln c1)).heap.size) := Lib.hid ⟨by have := HG1.out.size; simpa using this, fun g hg => by have := (HO1.out.lt hg).2; simpa using this⟩
  have HW5 : Hid ((w4.setCell ⟨N, 0, none⟩ (.slice a1 ln c1)).os = w3.os ∧ (w4.setCell ⟨N, 0, none⟩ (.slice a1 ln c1)).tape = w3.tape ∧ (w4.setCell ⟨N, 0, none⟩ (.slice a1 ln c1)).output = w3.output) := Lib.hid ⟨HG1.out.os, HG1.out.tape, HG1.out.output⟩
  clear HO1 HG1 HS4
  generalize w4.setCell ⟨N, 0, none⟩ (.slice a1 ln c1) = w5 at HS5 HO5 HK5 HZ5 HW5 ⊢
  have hVO : ∀ g, ((.slice none 0 0) : Value).ownBlock = some g → S g ∧ g ≠ B ∧ g ≠ m ∧ g ≠ mt := by
    intro g hg; cases hg
  have HVO := Lib.hid hVO
  clear hVO
  have hB5 : w5.heap[B]? = w3.heap[B]? := HK5.out B H3.out.lt.1 (Ne.symm HNS.out.2.1) (by intro e; exact (HVO.out B e.symm).2.1 rfl)
  have hm5 : w5.heap[m]? = w3.heap[m]? := HK5.out m H3.out.lt.2.1 (Ne.symm HNS.out.2.2.1) (by intro e; exact (HVO.out m e.symm).2.2.1 rfl)
  have hmt5 : w5.heap[mt]? = w3.heap[mt]? := HK5.out mt H3.out.lt.2.2 (Ne.symm HNS.out.2.2.2) (by intro e; exact (HVO.out mt e.symm).2.2.2 rfl)
  have HH5 := Lib.hid (And.intro hB5 (And.intro hm5 hmt5))
  have HS0 : Hid ((fun W : World => W.heap[B]? = some (.cells (DC D m mt).toArray 78 (0, 0)) ∧ W.heap[N]? = some (.cells #[.slice a1 ln c1, .int .i64 0] 143 (0, 0))) w5.drew) := Lib.hid ⟨hB5.trans H3.out.cells, HS5.out⟩
  have HVM : Hid (VM 9 w5.drew m D.fs.length M) := Lib.hid (H3.out.df.vm.block (w' := w5.drew) hm5)
  have HW6 : Hid (∀ g : Nat, w5.drew.heap[g]? = w5.heap[g]?) := Lib.hid (fun _ => rfl)
  have HZ6' : Hid (w5.drew.heap.size = w5.heap.size ∧ w5.drew.os = w5.os ∧ w5.drew.tape = w5.tape ∧ w5.drew.output = w5.output) := Lib.hid ⟨rfl, rfl, rfl, rfl⟩
  clear hB5 hm5 hmt5
  refine wp_region_held_drew (S := (fun W : World => W.heap[B]? = some (.cells (DC D m mt).toArray 78 (0, 0)) ∧ W.heap[N]? = some (.cells #[.slice a1 ln c1, .int .i64 0] 143 (0, 0)))) (by kernel_rfl) HS0.out (fun hHeld => ?_)
  clear hHeld
  generalize w5.drew = w6 at HS0 HVM HW6 HZ6' ⊢
  refine wpAnyH_take (i := 0) (oi := { dst := some 51, op := Go.Op.move (Go.Operand.tmp 0), type := 56, pos := "disk.go:69", after := #[], guard := none }) (v := ?_) rfl (by kernel_rfl) (by kernel_rfl) (by kernel_rfl) (fun _ _ _ h => h) (Or.inl ⟨by rfl, ?_⟩) HS0.out ?_
  case refine_2 => (intro w1 hS1; clear hS1; go_simp; try with_reducible rfl)
  try simp only [Act.put, List.setIfInBounds_toArray, List.set_cons_zero, List.set_cons_succ]
  refine wpAnyH_take (i := 1) (oi := { dst := some 52, op := Go.Op.nilCheck (Go.Operand.tmp 51), type := 0, pos := "disk.go:69", after := #[{ on := 0, ground := Go.Ground.data }], guard := none }) (v := ?_) rfl (by kernel_rfl) (by kernel_rfl) (by kernel_rfl) (fun _ _ _ h => h) (Or.inl ⟨by rfl, ?_⟩) HS0.out ?_
  case refine_2 => (intro w1 hS1; clear hS1; go_simp; try with_reducible rfl)
  try simp only [Act.put, List.setIfInBounds_toArray, List.set_cons_zero, List.set_cons_succ]
  refine wpAnyH_take (i := 2) (oi := { dst := some 53, op := Go.Op.fieldAddr 78 (Go.Operand.tmp 52) 1, type := 0, pos := "disk.go:69", after := #[{ on := 1, ground := Go.Ground.data }], guard := none }) (v := ?_) rfl (by kernel_rfl) (by kernel_rfl) (by kernel_rfl) (fun _ _ _ h => h) (Or.inl ⟨by rfl, ?_⟩) HS0.out ?_
  case refine_2 => (intro w1 hS1; clear hS1; go_simp; try with_reducible rfl)
  try simp only [Act.put, List.setIfInBounds_toArray, List.set_cons_zero, List.set_cons_succ]
  refine wpAnyH_take (i := 3) (oi := { dst := some 54, op := Go.Op.load 75 (Go.Operand.tmp 53), type := 75, pos := "disk.go:69", after := #[{ on := 2, ground := Go.Ground.data }], guard := none }) (v := ?_) rfl (by kernel_rfl) (by kernel_rfl) (by kernel_rfl) (fun _ _ _ h => h) (Or.inl ⟨by rfl, ?_⟩) HS0.out ?_
  case refine_2 => (intro w1 hS1; obtain ⟨hb1, -⟩ := hS1; have c1 : w1.cell? ⟨B, 1, none⟩ = some (.map (some m)) := (by simp only [World.cell?, hb1]; rfl); clear hb1; go_simp; try with_reducible rfl)
  try simp only [Act.put, List.setIfInBounds_toArray, List.set_cons_zero, List.set_cons_succ]
  refine wpAnyH_take (i := 4) (oi := { dst := some 55, op := Go.Op.move (Go.Operand.tmp 1), type := 9, pos := "disk.go:69", after := #[], guard := none }) (v := ?_) rfl (by kernel_rfl) (by kernel_rfl) (by kernel_rfl) (fun _ _ _ h => h) (Or.inl ⟨by rfl, ?_⟩) HS0.out ?_
  case refine_2 => (intro w1 hS1; clear hS1; go_simp; try with_reducible rfl)
  try simp only [Act.put, List.setIfInBounds_toArray, List.set_cons_zero, List.set_cons_succ]
  refine wpAnyH_take (i := 5) (oi := { dst := some 56, op := Go.Op.load 143 (Go.Operand.tmp 8), type := 143, pos := "disk.go:69", after := #[], guard := none }) (v := .agg #[.slice a1 ln c1, .int .i64 0]) rfl (by kernel_rfl) (by kernel_rfl) (by kernel_rfl) (fun _ _ _ h => h) (Or.inl ⟨by rfl, ?_⟩) HS0.out ?_
  case refine_1 => (intro w1 hS1; obtain ⟨-, hb2⟩ := hS1; obtain ⟨z0, z1, -⟩ := two_at hb2; clear hb2; go_simp; try with_reducible rfl)
  try simp only [Act.put, List.setIfInBounds_toArray, List.set_cons_zero, List.set_cons_succ]
  obtain ⟨M', hM1, hM2⟩ := upV M (.string n) (some (.agg #[.slice a1 ln c1, .int .i64 0]))
  obtain ⟨w7, hrun, hv7, hg7, hz7⟩ := HVM.out.put keyedS fm_und (by have := H.out.df.few; unfold maxLen; omega) (keyS HL.out) (.agg #[.slice a1 ln c1, .int .i64 0]) hM1 hM2
  have HS7 : Hid ((fun W : World => W.heap[B]? = some (.cells (DC D m mt).toArray 78 (0, 0)) ∧ W.heap[N]? = some (.cells #[.slice a1 ln c1, .int .i64 0] 143 (0, 0))) w7) := Lib.hid ⟨(hg7.block B (by rw [HZ6'.out.1]; have := HZ5.out.1; have := H3.out.lt.1; omega) (by intro e; injection e with e; exact H.out.ne.1 e)).trans HS0.out.1, (hg7.block N (ex_lt HS0.out.2) (by intro e; injection e with e; exact HNS.out.2.2.1 e)).trans HS0.out.2⟩
  refine wpAnyH_ready (rs := [6]) (by kernel_rfl) (by simp) ?_
  refine AllReadyH.cons (o := { dst := none, op := Go.Op.mapUpdate 75 (Go.Operand.tmp 54) (Go.Operand.tmp 55) (Go.Operand.tmp 56), type := 0, pos := "disk.go:69", after := #[{ on := 3, ground := Go.Ground.data }, { on := 4, ground := Go.Ground.data }, { on := 5, ground := Go.Ground.data }, { on := 0, ground := Go.Ground.phase }, { on := 1, ground := Go.Ground.phase }, { on := 2, ground := Go.Ground.phase }, { on := 3, ground := Go.Ground.phase }, { on := 4, ground := Go.Ground.phase }, { on := 5, ground := Go.Ground.phase }], guard := none }) rfl (fun K hK => ?_) AllReadyH.nil
  go_simp
  have HV7 := Lib.hid hv7
  have HG7 := Lib.hid hg7
  have HM7 := Lib.hid (And.intro hM1 hM2)
  have HZ7 := Lib.hid hz7
  clear hv7 hg7 hM1 hM2 hz7 HS0
  have HS0 := HS7
  clear HS7
  refine hK.out _ _ HS0.out (fun hHeld => ?_)
  clear hrun hK K hHeld
  try simp only [Act.put, List.setIfInBounds_toArray, List.set_cons_zero, List.set_cons_succ]
  refine wpAnyH_done (by kernel_rfl) ?_ _
  have hgk : ∀ k, k < w3.heap.size → k ≠ m → k ≠ N → some k ≠ ((.slice none 0 0) : Value).ownBlock → w7.heap[k]? = w3.heap[k]? := fun k hk hkm hkn hko => ((HG7.out.block k (by rw [HZ6'.out.1]; have := HZ5.out.1; omega) (by intro e; injection e with e; exact hkm e)).trans (HW6.out k)).trans (HK5.out k hk hkn hko)
  have h3 := H3.out
  have hS' : ∀ g, (Value.slice a1 ln c1).ownBlock = some g → ((.slice none 0 0) : Value).ownBlock = some g ∨ w3.heap.size ≤ g := fun g hg => by
    rcases HMV.out with e | e
    · exact .inl (by rw [← e]; exact hg)
    · exact .inr (e g hg)
  have hlt : ∀ {k : Nm} {g : Nat}, getF D.fs k ≠ none → (V k).ownBlock = some g → g < w3.heap.size := fun hk hv => h3.df.lt hk hv
  have hNk : ∀ k, S k → k ≠ N := fun k hk e => HNS.out.1 (by rw [← e]; exact hk)
  have hLL : (([] : List Nat) ++ bs).length ≤ 2097152 := by rw [List.length_append]; have := HLN.out; omega
  have hob7 : OB w7 0 (.slice a1 ln c1) (([] : List Nat) ++ bs) := HO5.out.blk (fun g hg => (HG7.out.block g (by rw [HZ6'.out.1]; exact HZ5.out.2 g hg) (by
    intro e; injection e with e
    rcases hS' g hg with e1 | e1
    · exact (HVO.out g e1).2.2.1 e
    · have := h3.lt.2.1; omega)).trans (HW6.out g))
  have hbl : ∀ c ∈ bs, c < 256 := HRB.out.1
  have hsz7 : w7.heap.size = w5.heap.size := HZ7.out.trans HZ6'.out.1
  have hfr := HFR.out
  have hrm := H.out.rm
  unfold freeD at hfr
  have hsum0 := H.out.df.sum
  have h8 : DKx (fun k => S k ∨ (Value.slice a1 ln c1).ownBlock = some k) w7 B m mt (D.files (putF D.fs n ⟨bs, 0⟩)) M' (fun k => if k = n then .slice a1 ln c1 else V k) := by
    refine h3.putf (v := .slice a1 ln c1) (f := ⟨bs, 0⟩) (hgk B h3.lt.1 h3.ne.1 (Ne.symm HNS.out.2.1) (by intro e; exact (HVO.out B e.symm).2.1 rfl)) (hgk mt h3.lt.2.2 (Ne.symm h3.ne.2.2) (Ne.symm HNS.out.2.2.2) (by intro e; exact (HVO.out mt e.symm).2.2.2 rfl)) (fun k g hkn hk hv => hgk g (hlt hk hv) (h3.fne k g hk hv).2.1 (hNk g (h3.df.inS k g hk hv)) ?_) HV7.out HM7.out.1 HM7.out.2 (by first | exact hob7 | simpa using hob7) ?_ ?_ ?_ (fun _ h => .inl h) (fun g hg => .inr hg) ?_ ?_ ?_
    · intro e; cases e
    · refine ⟨fun c hc => ?_, ?_, HL.out⟩
      · exact hbl c hc
      · exact Nat.zero_le _
    · intro k g hkn hk hv e
      rcases hS' g e with e1 | e1
      · cases e1
      · have := hlt hk hv; omega
    · intro g hg
      rcases hS' g hg with e1 | e1
      · exact (HVO.out g e1).2
      · have h1 := h3.lt; exact ⟨by omega, by omega, by omega⟩
    · have h1 := sum_put_none (L := D.fs) ⟨bs, 0⟩ HF.out
      simp only at h1
      split at hfr <;> omega
    · have h1 := len_put_none (L := D.fs) ⟨bs, 0⟩ HF.out; have := HM.out; omega
    · intro k hk
      rw [hsz7]
      rcases hk with hk | hk
      · have h1 := h3.bd k hk; have h2 := HZ5.out.1; omega
      · exact HZ5.out.2 k hk
  have hfr8 : Fr S w (fun k => S k ∨ (Value.slice a1 ln c1).ownBlock = some k) w7 := by
    have h1 := HB3.out
    refine ⟨⟨HG7.out.os.trans (HZ6'.out.2.1.trans (HW5.out.1.trans h1.os)), HG7.out.tape.trans (HZ6'.out.2.2.1.trans (HW5.out.2.1.trans h1.tape)), HG7.out.output.trans (HZ6'.out.2.2.2.trans (HW5.out.2.2.trans h1.output)), by rw [hsz7]; have := HZ5.out.1; have := h1.size; omega, fun k hk hs => ?_⟩, fun k hk => .inl hk, fun k hk => ?_⟩
    · have hkw : k < w3.heap.size := Nat.lt_of_lt_of_le hk h1.size
      refine (hgk k hkw (fun e => hs (by rw [e]; exact h3.own.2.1)) (fun e => by have := HN.out; omega) (fun e => hs (HVO.out k e.symm).1)).trans (h1.block k hk)
    · rcases hk with hk | hk
      · exact .inl hk
      · rcases hS' k hk with e1 | e1
        · exact .inl (HVO.out k e1).1
        · exact .inr (Nat.le_trans h1.size e1)
  have H8 := Lib.hid h8
  have HFR8 := Lib.hid hfr8
  clear h8 hfr8 hgk h3 hS' hlt hNk hLL hob7 hbl hsz7 hfr hrm hsum0
  go_wp2_with fail
  refine (dstep H8.out (by show D.st < 1000000000; exact HST.out)).mono ?_
  rintro e w9 ⟨rfl, h9, ho9⟩
  have H9 := Lib.hid h9
  have HF9 := Lib.hid (HFR8.out.trans (Fr.same ho9))
  clear h9 ho9
  go_wp2_with fail
  go_ret
  exact ⟨_, rfl, ⟨m, mt, M', _, H9.out⟩, HF9.out⟩
end
/- The disk: Down, Steps, Arm, Boot, Resize. -/
open Go.RowKit Go.Maps
section
variable {S : Nat → Prop} {w : World} {B m mt : Nat} {D : Dd} {M : Lit → Option Value} {V : Nm → Value}
theorem ddown_any (h : DKx S w B m mt D M V) : Calls Try.prog 41 #[.pointer (some ⟨B, 0, none⟩)] w fun e w' => e = .returned (.bool D.down) ∧ w = w' := by
  have H := Lib.hid h
  obtain ⟨-, -, -, c3, -⟩ := h.at
  clear h
  go_enter Try.func41, Try.ntmps41
  go_wp2_with fail
  refine (dcreated_yes H.out).mono ?_
  rintro e w1 ⟨rfl, rfl⟩
  go_wp2_with fail
  go_ret
  exact ⟨rfl, rfl⟩
theorem dsteps_any (h : DKx S w B m mt D M V) : Calls Try.prog 85 #[.pointer (some ⟨B, 0, none⟩)] w fun e w' => e = .returned (.int .u64 (D.st : Int)) ∧ w = w' := by
  have H := Lib.hid h
  obtain ⟨-, -, c2, -⟩ := h.at
  clear h
  go_enter Try.func85, Try.ntmps85
  go_wp2_with fail
  refine (dcreated_yes H.out).mono ?_
  rintro e w1 ⟨rfl, rfl⟩
  go_wp2_with fail
  refine (get_in mt [(D.st : Int)] 0 (D.st : Int) w H.out.met (by simp) rfl).mono ?_
  rintro e w1 ⟨rfl, rfl⟩
  go_wp2_with fail
  go_ret
  exact ⟨rfl, rfl⟩
def bootD (D : Dd) : Dd := ⟨D.room, D.fs, D.st, false, false, D.after⟩
theorem dboot (h : DKx S w B m mt D M V) : Calls Try.prog 38 #[.pointer (some ⟨B, 0, none⟩)] w fun e w' => e = .returned (.int .i64 0) ∧ DKx S w' B m mt (bootD D) M V ∧ Only S w w' := by
  have H := Lib.hid h
  obtain ⟨-, -, -, c3, c4, -⟩ := h.at
  have f3 := h.fr 3
  have f4 := h.fr 4
  have H1 := Lib.hid (h.field ⟨D.room, D.fs, D.st, false, D.armed, D.after⟩ 3 (.bool false) rfl rfl rfl h.rm h.af)
  have H2 := Lib.hid (H1.out.field (bootD D) 4 (.bool false) rfl rfl rfl h.rm h.af)
  have HO := Lib.hid (((Only.refl S w).setCell ⟨B, 3, none⟩ (.bool false) h.own.1).setCell ⟨B, 4, none⟩ (.bool false) h.own.1)
  clear h
  go_enter Try.func38, Try.ntmps38
  go_wp2_with fail
  refine (dcreated_yes H.out).mono ?_
  rintro e w1 ⟨rfl, rfl⟩
  go_wp2_with fail
  go_ret
  exact ⟨rfl, H2.out, HO.out⟩
theorem dresize_down (h : DKx S w B m mt D M V) (hd : D.down = true) (r : Int) : Calls Try.prog 40 #[.pointer (some ⟨B, 0, none⟩), .int .i64 r] w fun e w' => e = .returned (.int .i64 50) ∧ w = w' := by
  have hp : pw D.down = 50 := by rw [hd]; rfl
  have H := Lib.hid h
  clear h hd
  go_enter Try.func40, Try.ntmps40
  go_wp2_with fail
  refine (dpower_any H.out).mono ?_
  rintro e w1 ⟨rfl, rfl⟩
  rw [hp]
  clear hp
  go_wp2_with fail
  go_ret
  exact ⟨rfl, rfl⟩
theorem dresize_arg (h : DKx S w B m mt D M V) (hd : D.down = false) (r : Int) (hr : r < 0 ∨ 1048576 < r) : Calls Try.prog 40 #[.pointer (some ⟨B, 0, none⟩), .int .i64 r] w fun e w' => e = .returned (.int .i64 2) ∧ w = w' := by
  have hp : pw D.down = 0 := by rw [hd]; rfl
  have hb : (decide (0 ≤ r) && decide (r ≤ 1048576)) = false := by
    rcases hr with h | h
    · rw [decide_eq_false (by omega : ¬ 0 ≤ r)]; rfl
    · rw [decide_eq_false (by omega : ¬ r ≤ 1048576)]; simp
  have H := Lib.hid h
  clear h hd hr
  go_enter Try.func40, Try.ntmps40
  go_wp2_with fail
  refine (dpower_any H.out).mono ?_
  rintro e w1 ⟨rfl, rfl⟩
  rw [hp]
  clear hp
  go_wp2_with fail
  refine (possible_any r _).mono ?_
  rintro e w2 ⟨rfl, rfl⟩
  rw [hb]
  clear hb
  go_wp2_with fail
  go_ret
  exact ⟨rfl, rfl⟩
theorem dresize_ok (h : DKx S w B m mt D M V) (hd : D.down = false) (r : Int) (hr : 0 ≤ r ∧ r ≤ 1048576) : Calls Try.prog 40 #[.pointer (some ⟨B, 0, none⟩), .int .i64 r] w fun e w' => e = .returned (.int .i64 0) ∧ DKx S w' B m mt ⟨r, D.fs, D.st, D.down, D.armed, D.after⟩ M V ∧ Only S w w' := by
  have hp : pw D.down = 0 := by rw [hd]; rfl
  have hb : (decide (0 ≤ r) && decide (r ≤ 1048576)) = true := by rw [decide_eq_true hr.1, decide_eq_true hr.2]; rfl
  have H := Lib.hid h
  obtain ⟨k0, -⟩ := h.at
  have f0 := h.fr 0
  have H1 := Lib.hid (h.field ⟨r, D.fs, D.st, D.down, D.armed, D.after⟩ 0 (.int .i64 r) rfl rfl rfl hr h.af)
  have HO := Lib.hid ((Only.refl S w).setCell ⟨B, 0, none⟩ (.int .i64 r) h.own.1)
  clear h hd hr
  go_enter Try.func40, Try.ntmps40
  go_wp2_with fail
  refine (dpower_any H.out).mono ?_
  rintro e w1 ⟨rfl, rfl⟩
  rw [hp]
  clear hp
  go_wp2_with fail
  refine (possible_any r _).mono ?_
  rintro e w2 ⟨rfl, rfl⟩
  rw [hb]
  clear hb
  go_wp2_with fail
  go_ret
  exact ⟨rfl, H1.out, HO.out⟩
theorem darm_down (h : DKx S w B m mt D M V) (hd : D.down = true) (r : Int) : Calls Try.prog 34 #[.pointer (some ⟨B, 0, none⟩), .int .i64 r] w fun e w' => e = .returned (.int .i64 50) ∧ w = w' := by
  have hp : pw D.down = 50 := by rw [hd]; rfl
  have H := Lib.hid h
  clear h hd
  go_enter Try.func34, Try.ntmps34
  go_wp2_with fail
  refine (dpower_any H.out).mono ?_
  rintro e w1 ⟨rfl, rfl⟩
  rw [hp]
  clear hp
  go_wp2_with fail
  go_ret
  exact ⟨rfl, rfl⟩
theorem darm_arg (h : DKx S w B m mt D M V) (hd : D.down = false) (r : Int) (hr : r < 0) : Calls Try.prog 34 #[.pointer (some ⟨B, 0, none⟩), .int .i64 r] w fun e w' => e = .returned (.int .i64 2) ∧ w = w' := by
  have hp : pw D.down = 0 := by rw [hd]; rfl
  have hb : decide (r < 0) = true := decide_eq_true hr
  have H := Lib.hid h
  clear h hd hr
  go_enter Try.func34, Try.ntmps34
  go_wp2_with fail
  refine (dpower_any H.out).mono ?_
  rintro e w1 ⟨rfl, rfl⟩
  rw [hp]
  clear hp
  go_wp2_with fail
  go_ret
  exact ⟨rfl, rfl⟩
theorem darm_ok (h : DKx S w B m mt D M V) (hd : D.down = false) (r : Int) (hr : 0 ≤ r ∧ r < 9223372036854775808) (hst : D.st < 1000000000) : Calls Try.prog 34 #[.pointer (some ⟨B, 0, none⟩), .int .i64 r] w fun e w' => e = .returned (.int .i64 0) ∧ DKx S w' B m mt ⟨D.room, D.fs, D.st, D.down, true, (D.st : Int) + r⟩ M V ∧ Only S w w' := by
  have hp : pw D.down = 0 := by rw [hd]; rfl
  have hb : decide (r < 0) = false := decide_eq_false (by omega)
  have H := Lib.hid h
  obtain ⟨-, -, -, -, k4, k5⟩ := h.at
  have f4 := h.fr 4
  have f5 := h.fr 5
  have H1 := Lib.hid (h.field ⟨D.room, D.fs, D.st, D.down, true, D.after⟩ 4 (.bool true) rfl rfl rfl h.rm h.af)
  have H2 := Lib.hid (H1.out.field ⟨D.room, D.fs, D.st, D.down, true, (D.st : Int) + r⟩ 5 (.int .u64 ((D.st : Int) + r)) rfl rfl rfl h.rm ⟨by show 0 ≤ (D.st : Int) + r; omega, by show (D.st : Int) + r < _; omega⟩)
  have HO := Lib.hid (((Only.refl S w).setCell ⟨B, 4, none⟩ (.bool true) h.own.1).setCell ⟨B, 5, none⟩ (.int .u64 ((D.st : Int) + r)) h.own.1)
  have hw1 : IntKind.u64.wrap r = r := IntWalk.u64_in _ ⟨by omega, by omega⟩
  have hw2 : IntKind.u64.wrap ((D.st : Int) + r) = (D.st : Int) + r := IntWalk.u64_in _ ⟨by omega, by omega⟩
  clear h hd hr hst
  go_enter Try.func34, Try.ntmps34
  go_wp2_with fail
  refine (dpower_any H.out).mono ?_
  rintro e w1 ⟨rfl, rfl⟩
  rw [hp]
  clear hp
  go_wp2_with fail
  refine (dsteps_any H.out).mono ?_
  rintro e w2 ⟨rfl, rfl⟩
  go_wp2_with fail
  go_ret
  exact ⟨rfl, H2.out, HO.out⟩
end
end Go.Proofs.Ythefnakbpalecaa
