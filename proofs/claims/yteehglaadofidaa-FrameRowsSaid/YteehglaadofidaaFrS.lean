/- The walk of FrameRows. -/
import Derived.Test.YteehglaadofidaaFrR
import Derived.Test.YteehglaadofidaaRngB
namespace Go.Proofs.Yteehglaadofidaa
open Go.RowKit Go.Shelf
attribute [local go_sem] Oper.semAt_some

theorem seq_eql_nil (c : Nat) (w : World) : (binOp .eql 40 (.func (.func 53) #[] #[.pointer (some ⟨c, 0, none⟩)]) .nilFunc).run Try.prog w = .ok (.bool false) w := by
  kernel_rfl
set_option maxRecDepth 100000 in
set_option maxHeartbeats 4000000 in
theorem frows_any (v : Value) (bs : List Nat) (w : World) (hb : RB w v bs) (hm : bs.length ≤ 3000) (hv : ∀ b, v.ownBlock = some b → b < w.heap.size) :
    Calls Try.prog 5 #[v] w fun e w' => e = .returned (.bool true) ∧ Below w.heap.size w w' := by
  obtain ⟨a0, cap0, rfl, _, _⟩ := hb.shape
  obtain ⟨n, hn⟩ : ∃ n, bs.length = n := ⟨_, rfl⟩
  rw [hn] at hb hm hv ⊢
  have HN := Lib.hid hn
  have HB := Lib.hid hb
  have HV := Lib.hid hv
  have HRL := Lib.hid (rows_len_le bs)
  have hd : decide (3000 < (n : Int)) = false := by simp; omega
  have hB : Below w.heap.size w (w.alloc (.cells #[.bool false] 4)) := (Below.refl _ _).alloc (Nat.le_refl _) _
  have hc : (w.alloc (.cells #[.bool false] 4)).cell? ⟨w.heap.size, 0, none⟩ = some (.bool false) := by simp
  have hf : (w.alloc (.cells #[.bool false] 4)).frozen? ⟨w.heap.size, 0, none⟩ = false := by simp
  have hs : w.heap.size < (w.alloc (.cells #[.bool false] 4)).heap.size := by simp
  clear hn hb hv
  refine (callsIn_wide (n := 3)).1 ?_
  refine callsIn_of_wp_marks Try.func5 rfl trivial ?_
  simp only [Try.ntmps5, List.size_toArray, List.length_cons, List.length_nil, Nat.reduceAdd, Nat.reduceSub, Array.replicate_succ, Array.replicate_zero, List.push_toArray, List.append_toArray, List.nil_append, List.cons_append]
  gi_wp2_with (first
    | (refine ⟨trivial, ?_⟩; gi_at_call 12; refine (callsIn_wide.2 (lives3 _)).mono ?_; rintro e w1 ⟨rfl, hl⟩; have hc1 := (hl.cell (p := ⟨w.heap.size, 0, none⟩) hs).trans hc; have hf1 := (hl.frozen (p := ⟨w.heap.size, 0, none⟩) hs).trans hf; have hs1 : w.heap.size < w1.heap.size := Nat.lt_of_lt_of_le hs hl.size; have HB1 := Lib.hid (hB.trans (hl.mono hB.size)); have HR1 := Lib.hid (HB.out.kept HB1.out); clear hl)
    | (refine ⟨trivial, ?_⟩; gi_at_call 18; refine (callsIn_wide.2 (refall_any _ bs _ HR1.out (by have := HN.out; omega))).mono ?_; rintro e w2 ⟨rv, rfl, hown, hl⟩; obtain ⟨ra, rc, hrs⟩ := ownsRow_slice hown; subst hrs; have hc2 := (hl.cell (p := ⟨w.heap.size, 0, none⟩) hs1).trans hc1; have hf2 := (hl.frozen (p := ⟨w.heap.size, 0, none⟩) hs1).trans hf1; have hs2 : w.heap.size < w2.heap.size := Nat.lt_of_lt_of_le hs1 hl.size; have HB2 := Lib.hid (HB1.out.trans (hl.mono HB1.out.size)); have HOWN := Lib.hid hown; clear hl hown))
  obtain ⟨N, hN⟩ : ∃ N, (rowsOf bs).length = N := ⟨_, rfl⟩
  have HNN := Lib.hid hN
  rw [hN] at HOWN ⊢
  have hN3 : N ≤ 3000 := by have := HRL.out; have := HN.out; omega
  have hrow : ∀ i r, (rowsOf bs)[i]? = some r → ∃ g, ra = some ⟨g, 0, none⟩ ∧ N ≤ rc ∧ g < w2.heap.size ∧ w2.cell? ⟨g, i * 2, none⟩ = some (.int .u8 (r.1 : Int)) ∧ w2.cell? ⟨g, i * 2 + 1, none⟩ = some (.string (str r.2)) := by
    intro i r hir
    have hlt : i < N := by rw [← hN]; exact (List.getElem?_eq_some_iff.1 hir).1
    have h' := HOWN.out
    rcases h'.2 with ⟨_, h0⟩ | ⟨g, cap, cur, hv, hg, hh, hcc, _⟩
    · omega
    · simp only [Value.slice.injEq] at hv
      obtain ⟨rfl, _, rfl⟩ := hv
      have hra := rowCells_at _ i r hir
      exact ⟨g, rfl, hcc, (Array.getElem?_eq_some_iff.mp hh).1, by rw [World.ownsRow.cellAt h' (i * 2) (by omega)]; exact hra.1, by rw [World.ownsRow.cellAt h' (i * 2 + 1) (by omega)]; exact hra.2⟩
  have HROW := Lib.hid hrow
  have hA : Below w2.heap.size w2 ((w2.alloc (.cells #[.slice ra N rc] 36)).alloc (.cells #[.int .i64 0] 3)) := ((Below.refl _ _).alloc (Nat.le_refl _) _).alloc (by simp) _
  have hz3 : ((w2.alloc (.cells #[.slice ra N rc] 36)).alloc (.cells #[.int .i64 0] 3)).heap.size = w2.heap.size + 2 := by simp
  have hcl3 : ((w2.alloc (.cells #[.slice ra N rc] 36)).alloc (.cells #[.int .i64 0] 3)).cell? ⟨w2.heap.size, 0, none⟩ = some (.slice ra N rc) := by rw [World.cell?_alloc_lt _ _ _ (by simp)]; simp
  have hcn3 : ((w2.alloc (.cells #[.slice ra N rc] 36)).alloc (.cells #[.int .i64 0] 3)).cell? ⟨w2.heap.size + 1, 0, none⟩ = some (.int .i64 0) := by
    have e : w2.heap.size + 1 = (w2.alloc (.cells #[.slice ra N rc] 36)).heap.size := by simp
    rw [e]; simp
  have hfn3 : ((w2.alloc (.cells #[.slice ra N rc] 36)).alloc (.cells #[.int .i64 0] 3)).frozen? ⟨w2.heap.size + 1, 0, none⟩ = false := by
    have e : w2.heap.size + 1 = (w2.alloc (.cells #[.slice ra N rc] 36)).heap.size := by simp
    rw [e]; simp
  have hc3 := (hA.cell (p := ⟨w.heap.size, 0, none⟩) hs2).trans hc2
  have hf3 := (hA.frozen (p := ⟨w.heap.size, 0, none⟩) hs2).trans hf2
  have HA := Lib.hid hA
  have HB3 := Lib.hid (HB2.out.trans (hA.mono HB2.out.size))
  obtain ⟨W3, hW3⟩ : ∃ W3, (w2.alloc (.cells #[.slice ra N rc] 36)).alloc (.cells #[.int .i64 0] 3) = W3 := ⟨_, rfl⟩
  rw [hW3] at hz3 hcl3 hcn3 hfn3 hc3 hf3 HB3 HA ⊢
  have HR3 := Lib.hid (HB.out.kept HB3.out)
  clear hW3 hA hrow hN hc2 hf2 hc1 hf1 hc hf hB
  refine ⟨trivial, ?_⟩
  refine (callsIn_wide.2 (each_any _ bs W3 HR3.out)).mono ?_
  rintro e w4 ⟨c, v', rfl, hcb, hr4, hv4, hb4⟩
  have hc4 := (hb4.cell (p := ⟨w.heap.size, 0, none⟩) (by show w.heap.size < W3.heap.size; omega)).trans hc3
  have hf4 := (hb4.frozen (p := ⟨w.heap.size, 0, none⟩) (by show w.heap.size < W3.heap.size; omega)).trans hf3
  have hcl4 := (hb4.cell (p := ⟨w2.heap.size, 0, none⟩) (by show w2.heap.size < W3.heap.size; omega)).trans hcl3
  have hcn4 := (hb4.cell (p := ⟨w2.heap.size + 1, 0, none⟩) (by show w2.heap.size + 1 < W3.heap.size; omega)).trans hcn3
  have hfn4 := (hb4.frozen (p := ⟨w2.heap.size + 1, 0, none⟩) (by show w2.heap.size + 1 < W3.heap.size; omega)).trans hfn3
  have HROW4 : Hid (∀ i r, (rowsOf bs)[i]? = some r → ∃ g, ra = some ⟨g, 0, none⟩ ∧ N ≤ rc ∧ g < w2.heap.size ∧ w4.cell? ⟨g, i * 2, none⟩ = some (.int .u8 (r.1 : Int)) ∧ w4.cell? ⟨g, i * 2 + 1, none⟩ = some (.string (str r.2))) := Lib.hid (by
    intro i r hir
    obtain ⟨g, h1, h2, h3, h4, h5⟩ := HROW.out i r hir
    exact ⟨g, h1, h2, h3, (hb4.cell (p := ⟨g, i * 2, none⟩) (by show g < W3.heap.size; omega)).trans ((HA.out.cell (p := ⟨g, i * 2, none⟩) h3).trans h4), (hb4.cell (p := ⟨g, i * 2 + 1, none⟩) (by show g < W3.heap.size; omega)).trans ((HA.out.cell (p := ⟨g, i * 2 + 1, none⟩) h3).trans h5)⟩)
  have hz4 : w2.heap.size + 2 ≤ w4.heap.size := by have := hb4.size; omega
  have HB4 := Lib.hid (HB3.out.trans (hb4.mono HB3.out.size))
  have HH := Lib.hid (frames_handing v' bs c (fun b => b = w2.heap.size + 1) w4 (fun b hb => by have := hv4 b hb; omega) hcb hr4)
  clear hcb hr4 hv4 hb4 hc3 hf3 hcl3 hcn3 hfn3 hz3
  have hsq := seq_eql_nil c
  gi_wp2
  clear hsq
  refine range_rows rfl frames_enters (rowsOf bs) (fun b => b = w2.heap.size + 1) HH.out
    (fun k W => W.cell? ⟨w2.heap.size + 1, 0, none⟩ = some (.int .i64 (k : Int)) ∧ W.frozen? ⟨w2.heap.size + 1, 0, none⟩ = false ∧ W.cell? ⟨w2.heap.size, 0, none⟩ = some (.slice ra N rc) ∧
      W.cell? ⟨w.heap.size, 0, none⟩ = some (.bool false) ∧ W.frozen? ⟨w.heap.size, 0, none⟩ = false ∧
      (∀ i r, (rowsOf bs)[i]? = some r → ∃ g, ra = some ⟨g, 0, none⟩ ∧ N ≤ rc ∧ g < w2.heap.size ∧ W.cell? ⟨g, i * 2, none⟩ = some (.int .u8 (r.1 : Int)) ∧ W.cell? ⟨g, i * 2 + 1, none⟩ = some (.string (str r.2))) ∧ Below w.heap.size w W)
    (fun k V V' h hb => by
      obtain ⟨h1, h2, h3, h4, h5, h6, h7⟩ := h
      refine ⟨(hb.cell (p := ⟨w2.heap.size + 1, 0, none⟩) (by show w2.heap.size + 1 < w4.heap.size; omega)).trans h1, (hb.frozen (p := ⟨w2.heap.size + 1, 0, none⟩) (by show w2.heap.size + 1 < w4.heap.size; omega)).trans h2, (hb.cell (p := ⟨w2.heap.size, 0, none⟩) (by show w2.heap.size < w4.heap.size; omega)).trans h3,
        (hb.cell (p := ⟨w.heap.size, 0, none⟩) (by show w.heap.size < w4.heap.size; omega)).trans h4, (hb.frozen (p := ⟨w.heap.size, 0, none⟩) (by show w.heap.size < w4.heap.size; omega)).trans h5, ?_, h7.trans (hb.mono (by omega))⟩
      intro i r hir
      obtain ⟨g, g1, g2, g3, g4, g5⟩ := h6 i r hir
      exact ⟨g, g1, g2, g3, (hb.cell (p := ⟨g, i * 2, none⟩) (by show g < w4.heap.size; omega)).trans g4, (hb.cell (p := ⟨g, i * 2 + 1, none⟩) (by show g < w4.heap.size; omega)).trans g5⟩)
    ⟨hcn4, hfn4, hcl4, hc4, hf4, HROW4.out, HB4.out⟩ rfl
    (fun kd u => { tmps := #[.slice a0 n cap0, undef, .pointer (some ⟨w.heap.size, 0, none⟩), .pointer (some ⟨w2.heap.size, 0, none⟩), .int .i64 ((endAt bs : Nat) : Int), .int .i64 ((whyEnd bs : Nat) : Int), .pointer (some ⟨w2.heap.size + 1, 0, none⟩), .func (.func 53) #[] #[.pointer (some ⟨c, 0, none⟩)], .int .u8 (kd : Int), u, undef, undef, .slice a0 n cap0, .int .i64 (n : Int), .bool false, .bool false, .bool true, .bool false, .bool false, undef, .tuple #[.slice ra N rc, .int .i64 ((endAt bs : Nat) : Int), .int .i64 ((whyEnd bs : Nat) : Int)], .slice a0 n cap0, .tuple #[.slice ra N rc, .int .i64 ((endAt bs : Nat) : Int), .int .i64 ((whyEnd bs : Nat) : Int)], .slice ra N rc, .int .i64 ((endAt bs : Nat) : Int), .int .i64 ((whyEnd bs : Nat) : Int), .slice a0 n cap0, .func (.func 53) #[] #[.pointer (some ⟨c, 0, none⟩)], .func (.func 53) #[] #[.pointer (some ⟨c, 0, none⟩)], .bool false, .func (.func 53) #[] #[.pointer (some ⟨c, 0, none⟩)], .int .u8 (kd : Int), u, undef, undef, undef, undef, undef, undef, undef, undef, undef, undef, undef, undef, undef, undef, undef, undef, undef, undef, undef, undef, undef, undef, undef, undef, undef, undef, undef, undef, undef, undef, undef, undef, undef, undef, undef, undef, undef, undef, undef, undef, undef, undef, undef, undef], defers := [] }) ?assign ?body ?done
  case assign =>
    intro l kd u W K hK
    gi_wp2
    exact hK
  case body =>
    rintro l k kd bs' u W hrow ⟨h1, h2, h3, h4, h5, h6, h7⟩ hu
    obtain ⟨g, rfl, hNr, g3, g4, g5⟩ := h6 k _ hrow
    dsimp only at g4 g5
    have hkN : k < N := by rw [← HNN.out]; exact (List.getElem?_eq_some_iff.1 hrow).1
    obtain ⟨ua, uc, hus, _, _⟩ := hu.shape
    subst hus
    have es := fun q => rb_string (P := Try.prog) (hu.kept (below_drewN (Below.refl _ _) q)) 22 9 5 Try.underlying22 Try.underlying5 Try.underlying9
    have H6 := Lib.hid h6
    have H7 := Lib.hid h7
    clear h6 h7 hcn4 hfn4 hcl4 hc4 hf4 hrow hu hs hs1 hs2
    have hkn : (k : Int) < (N : Int) := by omega
    have hkN2 : decide (N ≤ k) = false := by simp; omega
    have hkN' : decide ((N : Int) ≤ (k : Int)) = false := by simp; omega
    gi_wp2
    refine region_quiet_round (by kernel_rfl) (by kernel_rfl) (by kernel_rfl) ?_
    repeat (gi_big_quiet_step (fail))
    refine wpQuietIn_nil ?_
    rintro _ ⟨nq, rfl⟩
    have f1 : (W.drewN nq).cell? ⟨w2.heap.size + 1, 0, none⟩ = some (.int .i64 (k : Int)) := h1
    have f2 : (W.drewN nq).frozen? ⟨w2.heap.size + 1, 0, none⟩ = false := h2
    have hKO : KeepsOthers W (W.drewN nq) := ⟨Nat.le_refl _, fun _ _ h _ => h⟩
    have hKX : Kept (fun b => b = w2.heap.size + 1) W (W.drewN nq) := ⟨Nat.le_refl _, fun _ _ _ => rfl⟩
    have hBD : Below w.heap.size w (W.drewN nq) := below_drewN H7.out _
    have hS : ∀ (v : Value) (p : Addr), p.block ≠ w2.heap.size + 1 → ((W.drewN nq).setCell ⟨w2.heap.size + 1, 0, none⟩ v).cell? p = W.cell? p := fun v p hp => World.cell?_of_block (Below.heap_setCell _ _ _ _ hp)
    have hF : ∀ (v : Value) (p : Addr), ((W.drewN nq).setCell ⟨w2.heap.size + 1, 0, none⟩ v).frozen? p = W.frozen? p := fun v p => by rw [World.frozen?_setCell]; rfl
    have HS := Lib.hid hS
    have HF := Lib.hid hF
    have HKO := Lib.hid hKO
    have HKX := Lib.hid hKX
    have HBD := Lib.hid hBD
    have H2 := Lib.hid h2
    have H3 := Lib.hid h3
    have H4 := Lib.hid h4
    have H5 := Lib.hid h5
    have HZ := HB2.out.size
    clear hS hF hKO hKX hBD es hkn hkN' hkN2 g4 g5 h1 h2 h3 h4 h5
    gi_wp2
    refine ⟨HKO.out.trans (KeepsOthers.setCell _ _ _), HKX.out.trans (Kept.setCell _ _ _ rfl), ?_, ?_, ?_, ?_, ?_, ?_, HBD.out.setCell (p := ⟨w2.heap.size + 1, 0, none⟩) (by show w.heap.size ≤ w2.heap.size + 1; omega) _⟩
    · rw [World.cell?_setCell_same' _ _ _ (by rw [f1]; rfl)]
      congr 2
    · rw [HF.out]; exact H2.out
    · rw [HS.out _ _ (by show w2.heap.size ≠ w2.heap.size + 1; omega)]; exact H3.out
    · rw [HS.out _ _ (by show w.heap.size ≠ w2.heap.size + 1; omega)]; exact H4.out
    · rw [HF.out]; exact H5.out
    · intro i r hir
      obtain ⟨g', q1, q2, q3, q4, q5⟩ := H6.out i r hir
      exact ⟨g', q1, q2, q3, by rw [HS.out _ _ (by show g' ≠ w2.heap.size + 1; omega)]; exact q4, by rw [HS.out _ _ (by show g' ≠ w2.heap.size + 1; omega)]; exact q5⟩
  case done =>
    rintro W ⟨h1, h2, h3, h4, h5, _, h7⟩ hD
    rw [HNN.out] at h1
    have HW := Lib.hid (HB.out.kept h7)
    have HE := Lib.hid (end_any _ bs W HW.out (by have := HN.out; omega) (fun b hb => Nat.lt_of_lt_of_le (HV.out b hb) h7.size))
    have HD := Lib.hid hD
    have H7 := Lib.hid h7
    have hlt1 := (cell_spot h1).2
    have hlt2 := (cell_spot h3).2
    have hlt3 := (cell_spot h4).2
    clear hcn4 hfn4 hcl4 hc4 hf4 hD h7 hs hs1 hs2
    gi_wp2_with (refine ⟨trivial, ?_⟩; gi_at_call 20; refine (callsIn_wide.2 HE.out).mono ?_; rintro e w5 ⟨rfl, hl⟩; have k1 := (hl.cell (p := ⟨w2.heap.size + 1, 0, none⟩) hlt1).trans h1; have k3 := (hl.cell (p := ⟨w2.heap.size, 0, none⟩) hlt2).trans h3; have k4 := (hl.cell (p := ⟨w.heap.size, 0, none⟩) hlt3).trans h4; have k5 := (hl.frozen (p := ⟨w.heap.size, 0, none⟩) hlt3).trans h5; have HD5 := Lib.hid ((hl.block _ (Array.getElem?_eq_some_iff.1 HD.out).1).trans HD.out); have HB5 := Lib.hid (H7.out.trans (hl.mono H7.out.size)); clear hl)
    have hz : w.heap.size < w4.heap.size := by have := HB2.out.size; omega
    have hD6 : (w5.setCell ⟨w.heap.size, 0, none⟩ (.bool true)).heap[w4.heap.size]? = some (.deferred (some [])) := (Below.heap_setCell _ _ _ _ (by show w4.heap.size ≠ w.heap.size; omega)).trans HD5.out
    have hc6 : (w5.setCell ⟨w.heap.size, 0, none⟩ (.bool true)).cell? ⟨w.heap.size, 0, none⟩ = some (.bool true) := World.cell?_setCell_same' _ _ _ (by rw [k4]; rfl)
    have hc7 : ((w5.setCell ⟨w.heap.size, 0, none⟩ (.bool true)).putObj w4.heap.size (.deferred none)).cell? ⟨w.heap.size, 0, none⟩ = some (.bool true) := cell_kept hc6 (grownBy_putObj' _ _ _) (fun r e => by cases e; exact ⟨_, hD6, rfl⟩)
    refine ⟨by simp, .inl ⟨_, _, rfl, run_takeDeferred hD6, ?_⟩⟩
    refine ⟨.bool true, ?_, rfl, (HB5.out.setCell (p := ⟨w.heap.size, 0, none⟩) (Nat.le_refl _) _).trans (below_putObj _ _ _ (by omega))⟩
    simp [results, Try.results5, go_sem, hc7]
end Go.Proofs.Yteehglaadofidaa
