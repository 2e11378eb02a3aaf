/- The vow: what is read of a file's bytes. -/
import Derived.Test.YthefnakbpalecaaVyA
import Derived.Test.YthefnakbpalecaaMaJ
import Derived.Test.YthefnakbpalecaaVyN
import Derived.Deep.DeepCutAuto
namespace Go.Proofs.Ythefnakbpalecaa
open Go.RowKit Go.Shelf
attribute [local go_sem] Oper.semAt_some
/-- A frame that is a state's line. -/
def rdT (body : List Nat) : Nat := nN 1152921504606846976 body
def rdU (body : List Nat) : Nat := nN 7 (nR 1152921504606846976 body)
def rdOk (kd : Nat) (body : List Nat) : Bool := decide (kd = 3) && (!(nB 7 (nR 1152921504606846976 body)) && decide (nR 7 (nR 1152921504606846976 body) = []))
def vRows : List (Nat × List Nat) → Nat → Int → Nat → Nat × Int × Nat
  | [], t, v, g => (t, v, g)
  | r :: rows, t, v, g => if rdOk r.1 r.2 then vRows rows (rdT r.2) ((rdU r.2 : Int) - 1) (g + (r.2.length + 8)) else (t, v, g)
def vRead (bs : List Nat) : Nat × Int × Nat := vRows (rowsOf bs) 0 (-1) 0
theorem vRows_nil (t : Nat) (v : Int) (g : Nat) : vRows [] t v g = (t, v, g) := rfl
theorem vRows_cons (r : Nat × List Nat) (rows : List (Nat × List Nat)) (t : Nat) (v : Int) (g : Nat) : vRows (r :: rows) t v g = if rdOk r.1 r.2 then vRows rows (rdT r.2) ((rdU r.2 : Int) - 1) (g + (r.2.length + 8)) else (t, v, g) := rfl
theorem drop_cons_get {α : Type} {l : List α} {k : Nat} {r : α} (h : l[k]? = some r) : l.drop k = r :: l.drop (k + 1) := by
  obtain ⟨h1, h2⟩ := List.getElem?_eq_some_iff.1 h
  rw [List.drop_eq_getElem_cons h1, h2]
theorem rows_body_le {bs : List Nat} {k : Nat} {r : Nat × List Nat} (h : (rowsOf bs)[k]? = some r) : sizeR ((rowsOf bs).take k) + (r.2.length + 8) ≤ bs.length := by
  rw [← sizeR_take _ k r h]; exact sizeR_take_le bs (k + 1)
theorem keepsOthers_only {X : Nat → Prop} {w w' : World} (h : Only X w w') (hx : ∀ k o, X k → w.heap[k]? = some o → o.isCells = true) : KeepsOthers w w' :=
  ⟨h.size, fun k o hk ho => by
    by_cases hc : X k
    · rw [hx k o hc hk] at ho; cases ho
    · exact (h.block k (Array.getElem?_eq_some_iff.1 hk).1 hc).trans hk⟩
theorem vr_res {fn : Func} {p q : Nat} (h : fn.results = #[.cell p 48, .cell q 3]) (tmps : Array Value) (w : World) (N M : Nat) (x0 x1 y : Value) (hp : tmps.getD p undef = .pointer (some ⟨N, 0, none⟩)) (hq : tmps.getD q undef = .pointer (some ⟨M, 0, none⟩)) (h0 : w.cell? ⟨N, 0, none⟩ = some x0) (h1 : w.cell? ⟨N, 1, none⟩ = some x1) (h2 : w.cell? ⟨M, 0, none⟩ = some y) : (results fn tmps).run Try.prog w = .ok (.tuple #[.agg #[x0, x1], y]) w := by
  have hR : w.rangeAt N 0 [x0, x1] := fun j u hj => by
    rcases j with _ | _ | j
    · injection hj with hj; subst hj; exact h0
    · injection hj with hj; subst hj; exact h1
    · cases hj
  have hl := run_loadVar_mid w N 0 _ [x0, x1] _ hR Try.underlying48 rfl vs_info
  have hp' : tmps[p]?.getD undef = .pointer (some ⟨N, 0, none⟩) := by simpa using hp
  have hq' : tmps[q]?.getD undef = .pointer (some ⟨M, 0, none⟩) := by simpa using hq
  clear hl hR
  simp [results, h, hp', hq', asAddr, go_sem, h0, h1, h2, Result.andThen]
theorem num_rd2 (b most : Nat) (m : Int) (em : m = (most : Int)) (ds : List Nat) (bad : Bool) (w : World) (hr : RR w b ds bad) :
    Calls Try.prog 100 #[.pointer (some ⟨b, 0, none⟩), .int .u64 m] w fun e w' => e = .returned (.int .u64 ((nN most ds : Nat) : Int)) ∧ RR w' b (nR most ds) (nB most ds) ∧ Rd b w w' := by
  subst em
  exact num_rd1 b most ds bad w hr
set_option maxRecDepth 100000 in
set_option maxHeartbeats 4000000 in
theorem vread_any (v : Value) (bs : List Nat) (w : World) (hb : RB w v bs) (hl : bs.length ≤ 2000000) :
    Calls Try.prog 81 #[v] w fun e w' => e = .returned (.tuple #[.agg #[.int .u64 ((vRead bs).1 : Int), .int .i64 (vRead bs).2.1], .int .i64 ((vRead bs).2.2 : Int)]) ∧ Below w.heap.size w w' := by
  obtain ⟨a0, cap0, rfl, _, _⟩ := hb.shape
  obtain ⟨n, hn⟩ : ∃ n, bs.length = n := ⟨_, rfl⟩
  have HN := Lib.hid hn
  have HB := Lib.hid hb
  rw [hn] at HB hl ⊢
  obtain ⟨B2, s0, s1, -⟩ := box2 w #[.int .u64 0, .int .i64 0] #[.int .i64 0] 48 3
  have HB2 := Lib.hid B2
  have HS0 := Lib.hid s0
  have HS1 := Lib.hid s1
  clear hb hn B2 s0 s1
  refine (callsIn_wide (n := 3)).1 ?_
  refine callsIn_of_wp_marks Try.func81 rfl trivial ?_
  simp only [Try.ntmps81, List.size_toArray, List.length_cons, List.length_nil, Nat.reduceAdd, Nat.reduceSub, Array.replicate_succ, Array.replicate_zero, List.push_toArray, List.append_toArray, List.nil_append, List.cons_append]
  gi_wp2_with fail
  obtain ⟨N, hN⟩ : ∃ N, w.heap.size = N := ⟨_, rfl⟩
  have HWN := Lib.hid hN
  rw [hN] at HS0 HS1
  try rw [hN]
  generalize (w.alloc (.cells #[.int .u64 0, .int .i64 0] 48)).alloc (.cells #[.int .i64 0] 3) = W1 at HB2 HS0 HS1 ⊢
  try rw [hN]
  clear hN
  refine ⟨trivial, ?_⟩
  refine (callsIn_wide.2 (vnone_any _)).mono ?_
  rintro e W2 ⟨rfl, hb2⟩
  have HB3 := Lib.hid (HB2.out.trans (hb2.mono HB2.out.size))
  have HT0 := Lib.hid (ex_below HS0.out hb2)
  have HT1 := Lib.hid (ex_below HS1.out hb2)
  clear hb2
  obtain ⟨c0, c1, cf⟩ := two_at HT0.out
  gi_wp2_with fail
  have q0 := (two_set HT0.out (.int .u64 0)).1
  have q1 := (two_set q0 (.int .i64 (-1))).2
  have HT3 := Lib.hid q1
  have HT4 : Hid (((W2.setCell ⟨N, 0, none⟩ (.int .u64 0)).setCell ⟨N, 1, none⟩ (.int .i64 (-1))).heap[N + 1]? = some (.cells #[.int .i64 0] 3 (0, 0))) := Lib.hid (by
    rw [Below.heap_setCell _ _ _ _ (show N + 1 ≠ N by omega), Below.heap_setCell _ _ _ _ (show N + 1 ≠ N by omega)]; exact HT1.out)
  have HB4 : Hid (Below w.heap.size w ((W2.setCell ⟨N, 0, none⟩ (.int .u64 0)).setCell ⟨N, 1, none⟩ (.int .i64 (-1)))) := Lib.hid (below_two (below_two HB3.out (by have := HWN.out; omega) _ _) (by have := HWN.out; omega) _ _)
  generalize (W2.setCell ⟨N, 0, none⟩ (.int .u64 0)).setCell ⟨N, 1, none⟩ (.int .i64 (-1)) = W3 at HT3 HT4 HB4 ⊢
  clear q0 q1 c0 c1 cf HT0 HT1 HB3 HB2 HS0 HS1
  have HR3 := Lib.hid (HB.out.kept HB4.out)
  refine ⟨trivial, ?_⟩
  refine (callsIn_wide.2 (each_any _ bs W3 HR3.out)).mono ?_
  rintro e W4 ⟨c, v', rfl, hcb, hr4, hv4, hb4⟩
  have hN3 : N + 1 < W3.heap.size := ex_lt HT4.out
  have HT5 := Lib.hid (ex_below HT3.out hb4)
  have HT6 := Lib.hid (ex_below HT4.out hb4)
  have HB5 := Lib.hid (HB4.out.trans (hb4.mono HB4.out.size))
  have HH := Lib.hid (frames_handing v' bs c (fun b => b = N ∨ b = N + 1) W4 (fun b hb => by have := hv4 b hb; omega) hcb hr4)
  have hz4 : N + 1 < W4.heap.size := ex_lt HT6.out
  have HZ4 := Lib.hid hz4
  clear hcb hr4 hv4 hb4 hN3 hz4
  gi_wp2
  refine range_frames rfl frames_enters (rowsOf bs) (fun b => b = N ∨ b = N + 1) HH.out
    (fun k W => ∃ (t : Nat) (v : Int) (g : Nat), W.heap[N]? = some (.cells #[.int .u64 (t : Int), .int .i64 v] 48 (0, 0)) ∧ W.heap[N + 1]? = some (.cells #[.int .i64 (g : Int)] 3 (0, 0)) ∧ vRows ((rowsOf bs).drop k) t v g = vRead bs ∧ g = sizeR ((rowsOf bs).take k) ∧ Below w.heap.size w W)
    (fun c W => c = .exit 0 ∧ ∃ (t : Nat) (v : Int) (g : Nat), W.heap[N]? = some (.cells #[.int .u64 (t : Int), .int .i64 v] 48 (0, 0)) ∧ W.heap[N + 1]? = some (.cells #[.int .i64 (g : Int)] 3 (0, 0)) ∧ (t, v, g) = vRead bs ∧ Below w.heap.size w W)
    ?hI ?hIx ⟨0, -1, 0, HT5.out, HT6.out, by rw [List.drop_zero]; rfl, rfl, HB5.out⟩ rfl ?a1 ?assign ?body ?done ?stop
  case hI =>
    rintro k V V' ⟨t, v, g, h1, h2, h3, h4, h5⟩ ht
    exact ⟨t, v, g, ht.block _ _ h1 (.inl rfl), ht.block _ _ h2 (.inl rfl), h3, h4, h5.trans (ht.belowLe (by have := HWN.out; have := HZ4.out; omega) h5.size)⟩
  case hIx =>
    rintro c V V' ⟨hc, t, v, g, h1, h2, h3, h5⟩ ht
    exact ⟨hc, t, v, g, ht.block _ _ h1 (.inl rfl), ht.block _ _ h2 (.inl rfl), h3, h5.trans (ht.belowLe (by have := HWN.out; have := HZ4.out; omega) h5.size)⟩
  case assign =>
    intro l kd u W K hK
    gi_wp2
    exact hK
  case body =>
    rintro l k kd bs' u W hrow ⟨t, v, g, h0, h1, hv, hg, hB⟩ hu hsz
    have hbl := rows_body_le hrow
    dsimp only at hbl
    obtain ⟨ua, uc, rfl, _, _⟩ := hu.shape
    have HOP := Lib.hid (open_any _ bs' W hu (by have := HN.out; omega))
    obtain ⟨m, hm⟩ : ∃ m, bs'.length = m := ⟨_, rfl⟩
    rw [hm] at HOP hbl ⊢
    have HM := Lib.hid hm
    have HBL := Lib.hid hbl
    have HG := Lib.hid hg
    have HV := Lib.hid hv
    have HRW := Lib.hid hrow
    have H0 := Lib.hid h0
    have H1 := Lib.hid h1
    have HBW := Lib.hid hB
    have HSZ := Lib.hid hsz
    clear hm hbl hg hv hrow h0 h1 hB hsz hu
    gi_wp2_with fail
    refine ⟨trivial, ?_⟩
    refine (CallsIn.inRound l (callsIn_wide.2 HOP.out)).mono ?_
    rintro e w5 ⟨rb, rfl, hrb, hr5, hb5⟩
    have HB5' := Lib.hid hb5
    have HRB := Lib.hid hrb
    have HN1 := Lib.hid (num_rd2 rb 1152921504606846976 1152921504606846976 (by omega) bs' false w5 hr5)
    clear hrb hr5 hb5 HOP
    gi_wp2_with fail
    refine ⟨trivial, ?_⟩
    refine (CallsIn.inRound l (callsIn_wide.2 HN1.out)).mono ?_
    rintro e w6 ⟨rfl, hr6, ht6⟩
    have HB6 := Lib.hid (Rd.outside ht6 HB5'.out HB5'.out.size HRB.out)
    have HN2 := Lib.hid (num_rd2 rb 7 7 (by omega) _ _ w6 hr6)
    obtain ⟨T, hT⟩ : ∃ T, nN 1152921504606846976 bs' = T := ⟨_, rfl⟩
    have HT := Lib.hid hT
    rw [hT]
    clear hr6 ht6 hT HN1
    gi_wp2_with fail
    refine ⟨trivial, ?_⟩
    refine (CallsIn.inRound l (callsIn_wide.2 HN2.out)).mono ?_
    rintro e w7 ⟨rfl, hr7, ht7⟩
    have HB7 := Lib.hid (Rd.outside ht7 HB6.out HB6.out.size HRB.out)
    have hU7 := nN_le 7 (nR 1152921504606846976 bs')
    obtain ⟨U, hU⟩ : ∃ U, nN 7 (nR 1152921504606846976 bs') = U := ⟨_, rfl⟩
    have HU := Lib.hid hU
    rw [hU] at hU7 ⊢
    obtain ⟨rest, hrest⟩ : ∃ r, nR 7 (nR 1152921504606846976 bs') = r := ⟨_, rfl⟩
    obtain ⟨bad, hbad⟩ : ∃ r, nB 7 (nR 1152921504606846976 bs') = r := ⟨_, rfl⟩
    rw [hrest, hbad] at hr7
    have HRE := Lib.hid hrest
    have HBA := Lib.hid hbad
    obtain ⟨b7, s7, z7⟩ := box1 w7 #[.int .u64 (T : Int), .int .i64 ((U : Int) - 1)] 48
    have HB8 := Lib.hid (HB7.out.trans (b7.mono HB7.out.size))
    have HS8 := Lib.hid s7
    have HR8 := Lib.hid (hr7.kept b7)
    have k1 : IntKind.i64.wrap ((U : Nat) : Int) = ((U : Nat) : Int) := IntWalk.i64_in _ (by omega)
    have k2 : wrap64 ((U : Int) - 1) = (U : Int) - 1 := IntWalk.wrap64_in _ (by omega)
    have HZ7 : Hid (W.heap.size ≤ w7.heap.size) := Lib.hid HB7.out.size
    have hlt0 := ex_lt H0.out
    have hlt1 := ex_lt H1.out
    have HX : Hid (∀ b, b < W.heap.size → b ≠ w7.heap.size) := Lib.hid (fun b hb => by have := HZ7.out; omega)
    have hdr := drop_cons_get HRW.out
    have HDR := Lib.hid hdr
    have hvr := HV.out
    rw [hdr, vRows_cons] at hvr
    have HVR := Lib.hid hvr
    have HKX : Hid (∀ k o, (k = N ∨ k = N + 1) → W.heap[k]? = some o → o.isCells = true) := Lib.hid (by
      rintro k o (rfl | rfl) ho
      · rw [H0.out] at ho; injection ho with ho; subst ho; rfl
      · rw [H1.out] at ho; injection ho with ho; subst ho; rfl)
    clear b7 s7 z7 hr7 ht7 hU hrest hbad HN2 hdr hvr
    by_cases hk : kd = 3
    · subst hk
      gi_wp2_with fail
      generalize w7.alloc (.cells #[.int .u64 (T : Int), .int .i64 ((U : Int) - 1)] 48) = W8 at HB8 HS8 HR8 ⊢
      generalize w7.heap.size = x7 at HS8 HX ⊢
      have HE := Lib.hid (end_rd rb rest bad W8 HR8.out)
      refine ⟨trivial, ?_⟩
      by_cases hok : bad = false ∧ rest = []
      · have he : endOf rest bad = 0 := by
          unfold endOf
          rw [if_neg]
          rintro (h | h)
          · rw [hok.1] at h; cases h
          · exact h hok.2
        rw [he] at HE
        have HOK : Hid (rdOk 3 bs' = true) := Lib.hid (by unfold rdOk; rw [HBA.out, HRE.out, hok.1, hok.2]; rfl)
        refine (CallsIn.inRound l (callsIn_wide.2 HE.out)).mono ?_
        rintro e w9 ⟨rfl, rfl⟩
        have t0 := ex_below H0.out HB8.out
        have t1 := ex_below H1.out HB8.out
        have HT0 := Lib.hid t0
        have HT1 := Lib.hid t1
        obtain ⟨a0', a1', af'⟩ := two_at t0
        obtain ⟨y0, y1, -⟩ := two_at HS8.out
        have r0 := (two_set (two_set t0 (.int .u64 (T : Int))).1 (.int .i64 ((U : Int) - 1))).2
        have r1 : ((W8.setCell ⟨N, 0, none⟩ (.int .u64 (T : Int))).setCell ⟨N, 1, none⟩ (.int .i64 ((U : Int) - 1))).heap[N + 1]? = some (.cells #[.int .i64 (g : Int)] 3 (0, 0)) := by
          rw [Below.heap_setCell _ _ _ _ (show N + 1 ≠ N by omega), Below.heap_setCell _ _ _ _ (show N + 1 ≠ N by omega)]; exact t1
        have HR0 := Lib.hid r0
        have HR1 := Lib.hid r1
        have HO9 : Hid (Only (fun b => b = N ∨ b = N + 1) W ((W8.setCell ⟨N, 0, none⟩ (.int .u64 (T : Int))).setCell ⟨N, 1, none⟩ (.int .i64 ((U : Int) - 1)))) := Lib.hid (((Only.below HB8.out).setCell ⟨N, 0, none⟩ _ (.inl rfl)).setCell ⟨N, 1, none⟩ _ (.inl rfl))
        have g8 : wrap64 ((m : Int) + 8) = (m : Int) + 8 := IntWalk.wrap64_in _ (by have := HBL.out; have := HN.out; omega)
        have g9 : wrap64 ((g : Int) + ((m : Int) + 8)) = ((g + (m + 8) : Nat) : Int) := by rw [IntWalk.wrap64_in _ (by have := HBL.out; have := HN.out; have := HG.out; omega)]; omega
        have HG9 := Lib.hid g9
        clear g9
        have z1 : ((W8.setCell ⟨N, 0, none⟩ (.int .u64 (T : Int))).setCell ⟨N, 1, none⟩ (.int .i64 ((U : Int) - 1))).cell? ⟨N + 1, 0, none⟩ = some (.int .i64 (g : Int)) := by simp only [World.cell?, r1]; rfl
        have z2 : ((W8.setCell ⟨N, 0, none⟩ (.int .u64 (T : Int))).setCell ⟨N, 1, none⟩ (.int .i64 ((U : Int) - 1))).frozen? ⟨N + 1, 0, none⟩ = false := by simp only [World.frozen?, r1]; rfl
        clear t0 t1 r0 r1
        gi_wp2_with fail
        have hvr := HVR.out
        rw [HOK.out, if_pos rfl, HM.out] at hvr
        refine ⟨keepsOthers_only (HO9.out.setCell ⟨N + 1, 0, none⟩ _ (.inr rfl)) HKX.out, Kept.only (HO9.out.setCell ⟨N + 1, 0, none⟩ _ (.inr rfl)), T, (U : Int) - 1, g + (m + 8), ?_, ?_, ?_, ?_, ?_⟩
        · rw [Below.heap_setCell _ _ _ _ (show N ≠ N + 1 by omega)]; exact HR0.out
        · refine (heap_set HR1.out 0 _).trans ?_
          rw [HG9.out]; rfl
        · rw [← hvr]; unfold rdT rdU; rw [HT.out, HU.out]
        · rw [sizeR_take _ _ _ HRW.out, ← HG.out]; dsimp only; rw [HM.out]
        · exact below_two (below_two (below_two (HBW.out.trans (HB8.out.mono HBW.out.size)) (by have := HWN.out; omega) _ _) (by have := HWN.out; omega) _ _) (by have := HWN.out; omega) _ _
      · have he : endOf rest bad = 20 := by
          unfold endOf; rw [if_pos]
          by_cases hb : bad = true
          · exact .inl hb
          · refine .inr (fun h => hok ⟨by simpa using hb, h⟩)
        rw [he] at HE
        have HOK : Hid (rdOk 3 bs' = false) := Lib.hid (by
          unfold rdOk; rw [HBA.out, HRE.out]
          cases bad
          · have : rest ≠ [] := fun h => hok ⟨rfl, h⟩
            simp [this]
          · simp)
        refine (CallsIn.inRound l (callsIn_wide.2 HE.out)).mono ?_
        rintro e w9 ⟨rfl, rfl⟩
        gi_wp2_with fail
        have hvr := HVR.out
        rw [HOK.out] at hvr
        exact ⟨keepsOthers_only (Only.below HB8.out) HKX.out, rfl, t, v, g, ex_below H0.out HB8.out, ex_below H1.out HB8.out, hvr, HBW.out.trans (HB8.out.mono HBW.out.size)⟩
    · have g2 : ((kd : Int) != 3) = true := by simp; omega
      have HOK : Hid (rdOk kd bs' = false) := Lib.hid (by unfold rdOk; simp [hk])
      gi_wp2_with fail
      refine ⟨trivial, ?_⟩
      clear g2
      gi_wp2_with fail
      have hvr := HVR.out
      rw [HOK.out] at hvr
      exact ⟨keepsOthers_only (Only.below HB8.out) HKX.out, rfl, t, v, g, ex_below H0.out HB8.out, ex_below H1.out HB8.out, hvr, HBW.out.trans (HB8.out.mono HBW.out.size)⟩
  case done =>
    rintro W ⟨t, v, g, h0, h1, hv, hg, hB⟩ hD
    rw [show (rowsOf bs).drop (rowsOf bs).length = [] from List.drop_length, vRows_nil] at hv
    clear hg
    have HH0 := Lib.hid h0
    have HH1 := Lib.hid h1
    have HHV := Lib.hid hv
    have HHB := Lib.hid hB
    have HHD := Lib.hid hD
    obtain ⟨x0, x1, xf⟩ := two_at h0
    have y0 : W.cell? ⟨N + 1, 0, none⟩ = some (.int .i64 (g : Int)) := by simp only [World.cell?, h1]; rfl
    have yf : W.frozen? ⟨N + 1, 0, none⟩ = false := by simp only [World.frozen?, h1]; rfl
    have e0 : ((((W.setCell ⟨N, 0, none⟩ (.int .u64 (t : Int))).setCell ⟨N, 1, none⟩ (.int .i64 v)).setCell ⟨N + 1, 0, none⟩ (.int .i64 (g : Int))).drew).heap[N]? = some (.cells #[.int .u64 (t : Int), .int .i64 v] 48 (0, 0)) := by
      show (((W.setCell ⟨N, 0, none⟩ (.int .u64 (t : Int))).setCell ⟨N, 1, none⟩ (.int .i64 v)).setCell ⟨N + 1, 0, none⟩ (.int .i64 (g : Int))).heap[N]? = _
      rw [Below.heap_setCell _ _ _ _ (show N ≠ N + 1 by omega)]; exact (two_set (two_set h0 _).1 _).2
    have e1 : ((((W.setCell ⟨N, 0, none⟩ (.int .u64 (t : Int))).setCell ⟨N, 1, none⟩ (.int .i64 v)).setCell ⟨N + 1, 0, none⟩ (.int .i64 (g : Int))).drew).heap[N + 1]? = some (.cells #[.int .i64 (g : Int)] 3 (0, 0)) := by
      have q : ((W.setCell ⟨N, 0, none⟩ (.int .u64 (t : Int))).setCell ⟨N, 1, none⟩ (.int .i64 v)).heap[N + 1]? = some (.cells #[.int .i64 (g : Int)] 3 (0, 0)) := by
        rw [Below.heap_setCell _ _ _ _ (show N + 1 ≠ N by omega), Below.heap_setCell _ _ _ _ (show N + 1 ≠ N by omega)]; exact h1
      exact heap_set q 0 _
    have eD : ((((W.setCell ⟨N, 0, none⟩ (.int .u64 (t : Int))).setCell ⟨N, 1, none⟩ (.int .i64 v)).setCell ⟨N + 1, 0, none⟩ (.int .i64 (g : Int))).drew).heap[W4.heap.size]? = some (.deferred (some [])) := by
      have hz := HZ4.out
      show (((W.setCell ⟨N, 0, none⟩ (.int .u64 (t : Int))).setCell ⟨N, 1, none⟩ (.int .i64 v)).setCell ⟨N + 1, 0, none⟩ (.int .i64 (g : Int))).heap[W4.heap.size]? = _
      rw [Below.heap_setCell _ _ _ _ (show W4.heap.size ≠ N + 1 by omega), Below.heap_setCell _ _ _ _ (show W4.heap.size ≠ N by omega), Below.heap_setCell _ _ _ _ (show W4.heap.size ≠ N by omega)]; exact hD
    have eB : Below w.heap.size w ((((W.setCell ⟨N, 0, none⟩ (.int .u64 (t : Int))).setCell ⟨N, 1, none⟩ (.int .i64 v)).setCell ⟨N + 1, 0, none⟩ (.int .i64 (g : Int))).drew) :=
      (below_two (below_two (below_two hB (by have := HWN.out; omega) _ _) (by have := HWN.out; omega) _ _) (by have := HWN.out; omega) _ _).drew
    have HE := Lib.hid (And.intro e0 (And.intro e1 (And.intro eD eB)))
    have hfm : Try.prog.follows Departure.mixedOrders = true := by kernel_rfl
    have hfi : Try.prog.follows Departure.inlinedCapture = true := by kernel_rfl
    clear h0 h1 hv hB hD e0 e1 eD eB
    gi_wp2
    gi_region_elder_o
    all_goals (
      obtain ⟨e0, e1, eD, eB⟩ := HE.out
      generalize (((W.setCell ⟨N, 0, none⟩ (.int .u64 (t : Int))).setCell ⟨N, 1, none⟩ (.int .i64 v)).setCell ⟨N + 1, 0, none⟩ (.int .i64 (g : Int))).drew = W9 at e0 e1 eD eB ⊢
      clear HE
      gi_wp2
      have k0 : (W9.putObj W4.heap.size (.deferred none)).heap[N]? = _ := (World.putObj_heap_other (by have := HZ4.out; omega)).trans e0
      have k1 : (W9.putObj W4.heap.size (.deferred none)).heap[N + 1]? = _ := (World.putObj_heap_other (by have := HZ4.out; omega)).trans e1
      refine ⟨by simp, .inl ⟨_, _, rfl, run_takeDeferred eD, ?_⟩⟩
      obtain ⟨c0, c1, -⟩ := two_at k0
      refine ⟨.tuple #[.agg #[.int .u64 (t : Int), .int .i64 v], .int .i64 (g : Int)], vr_res rfl _ _ N (N + 1) _ _ _ rfl rfl c0 c1 (by simp only [World.cell?, k1]; rfl), by rw [← HHV.out], eB.trans (below_putObj _ _ _ (by have := HZ4.out; have := HWN.out; omega))⟩)
  case stop =>
    rintro c W ⟨rfl, t, v, g, h0, h1, hv, hB⟩ hD
    have HH0 := Lib.hid h0
    have HH1 := Lib.hid h1
    have HHV := Lib.hid hv
    have HHB := Lib.hid hB
    have HHD := Lib.hid hD
    obtain ⟨x0, x1, xf⟩ := two_at h0
    have y0 : W.cell? ⟨N + 1, 0, none⟩ = some (.int .i64 (g : Int)) := by simp only [World.cell?, h1]; rfl
    have yf : W.frozen? ⟨N + 1, 0, none⟩ = false := by simp only [World.frozen?, h1]; rfl
    have e0 : ((((W.setCell ⟨N, 0, none⟩ (.int .u64 (t : Int))).setCell ⟨N, 1, none⟩ (.int .i64 v)).setCell ⟨N + 1, 0, none⟩ (.int .i64 (g : Int))).drew).heap[N]? = some (.cells #[.int .u64 (t : Int), .int .i64 v] 48 (0, 0)) := by
      show (((W.setCell ⟨N, 0, none⟩ (.int .u64 (t : Int))).setCell ⟨N, 1, none⟩ (.int .i64 v)).setCell ⟨N + 1, 0, none⟩ (.int .i64 (g : Int))).heap[N]? = _
      rw [Below.heap_setCell _ _ _ _ (show N ≠ N + 1 by omega)]; exact (two_set (two_set h0 _).1 _).2
    have e1 : ((((W.setCell ⟨N, 0, none⟩ (.int .u64 (t : Int))).setCell ⟨N, 1, none⟩ (.int .i64 v)).setCell ⟨N + 1, 0, none⟩ (.int .i64 (g : Int))).drew).heap[N + 1]? = some (.cells #[.int .i64 (g : Int)] 3 (0, 0)) := by
      have q : ((W.setCell ⟨N, 0, none⟩ (.int .u64 (t : Int))).setCell ⟨N, 1, none⟩ (.int .i64 v)).heap[N + 1]? = some (.cells #[.int .i64 (g : Int)] 3 (0, 0)) := by
        rw [Below.heap_setCell _ _ _ _ (show N + 1 ≠ N by omega), Below.heap_setCell _ _ _ _ (show N + 1 ≠ N by omega)]; exact h1
      exact heap_set q 0 _
    have eD : ((((W.setCell ⟨N, 0, none⟩ (.int .u64 (t : Int))).setCell ⟨N, 1, none⟩ (.int .i64 v)).setCell ⟨N + 1, 0, none⟩ (.int .i64 (g : Int))).drew).heap[W4.heap.size]? = some (.deferred (some [])) := by
      have hz := HZ4.out
      show (((W.setCell ⟨N, 0, none⟩ (.int .u64 (t : Int))).setCell ⟨N, 1, none⟩ (.int .i64 v)).setCell ⟨N + 1, 0, none⟩ (.int .i64 (g : Int))).heap[W4.heap.size]? = _
      rw [Below.heap_setCell _ _ _ _ (show W4.heap.size ≠ N + 1 by omega), Below.heap_setCell _ _ _ _ (show W4.heap.size ≠ N by omega), Below.heap_setCell _ _ _ _ (show W4.heap.size ≠ N by omega)]; exact hD
    have eB : Below w.heap.size w ((((W.setCell ⟨N, 0, none⟩ (.int .u64 (t : Int))).setCell ⟨N, 1, none⟩ (.int .i64 v)).setCell ⟨N + 1, 0, none⟩ (.int .i64 (g : Int))).drew) :=
      (below_two (below_two (below_two hB (by have := HWN.out; omega) _ _) (by have := HWN.out; omega) _ _) (by have := HWN.out; omega) _ _).drew
    have HE := Lib.hid (And.intro e0 (And.intro e1 (And.intro eD eB)))
    have hfm : Try.prog.follows Departure.mixedOrders = true := by kernel_rfl
    have hfi : Try.prog.follows Departure.inlinedCapture = true := by kernel_rfl
    clear h0 h1 hv hB hD e0 e1 eD eB
    gi_wp2
    gi_region_elder_o
    all_goals (
      obtain ⟨e0, e1, eD, eB⟩ := HE.out
      generalize (((W.setCell ⟨N, 0, none⟩ (.int .u64 (t : Int))).setCell ⟨N, 1, none⟩ (.int .i64 v)).setCell ⟨N + 1, 0, none⟩ (.int .i64 (g : Int))).drew = W9 at e0 e1 eD eB ⊢
      clear HE
      gi_wp2
      have k0 : (W9.putObj W4.heap.size (.deferred none)).heap[N]? = _ := (World.putObj_heap_other (by have := HZ4.out; omega)).trans e0
      have k1 : (W9.putObj W4.heap.size (.deferred none)).heap[N + 1]? = _ := (World.putObj_heap_other (by have := HZ4.out; omega)).trans e1
      refine ⟨by simp, .inl ⟨_, _, rfl, run_takeDeferred eD, ?_⟩⟩
      obtain ⟨c0, c1, -⟩ := two_at k0
      refine ⟨.tuple #[.agg #[.int .u64 (t : Int), .int .i64 v], .int .i64 (g : Int)], vr_res rfl _ _ N (N + 1) _ _ _ rfl rfl c0 c1 (by simp only [World.cell?, k1]; rfl), by rw [← HHV.out], eB.trans (below_putObj _ _ _ (by have := HZ4.out; have := HWN.out; omega))⟩)
end Go.Proofs.Ythefnakbpalecaa
