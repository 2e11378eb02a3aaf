/- Walks of frame: End. -/
import Derived.Test.YteehglaadofidaaFrM
namespace Go.Proofs.Yteehglaadofidaa
open Go.RowKit Go.Shelf
attribute [local go_sem] Oper.semAt_some

/-- What End hands back. -/
def Ended (w : World) (bs : List Nat) (e : Ending) (w' : World) : Prop := e = .returned (.tuple #[.int .i64 ((endAt bs : Nat) : Int), .int .i64 ((whyEnd bs : Nat) : Int)]) ∧ Below w.heap.size w w'
set_option maxHeartbeats 1000000 in
theorem end_any (v : Value) (bs : List Nat) (w : World) (hb : RB w v bs) (hm : bs.length ≤ 10000000) (hv : ∀ b, v.ownBlock = some b → b < w.heap.size) :
    Calls Try.prog 20 #[v] w (Ended w bs) := by
  obtain ⟨a0, cap0, rfl, _, _⟩ := hb.shape
  obtain ⟨n, hn⟩ : ∃ n, bs.length = n := ⟨_, rfl⟩
  rw [hn] at hb hv hm ⊢
  have HN := Lib.hid hn
  have HB := Lib.hid hb
  have HV := Lib.hid hv
  clear hn hb hv
  have hB1 : Below w.heap.size w (w.alloc (.cells #[.int .i64 0] 3)) := (Below.refl _ _).alloc (Nat.le_refl _) _
  have HF := Lib.hid (frames_any _ bs _ (HB.out.kept hB1))
  refine (callsIn_wide (n := 3)).1 ?_
  refine callsIn_of_wp_marks Try.func20 rfl trivial ?_
  simp only [Try.ntmps20, List.size_toArray, List.length_cons, List.length_nil, Nat.reduceAdd, Nat.reduceSub, Array.replicate_succ, Array.replicate_zero, List.push_toArray, List.append_toArray, List.nil_append, List.cons_append]
  gi_wp2_with (refine ⟨trivial, ?_⟩; gi_at_call 39; refine (callsIn_wide.2 HF.out).mono ?_; rintro e w1 ⟨rfl, rfl⟩)
  have hz : ((w.alloc (.cells #[.int .i64 0] 3)).alloc (.cells #[.slice a0 n cap0] 22)).heap.size = w.heap.size + 2 := by simp
  have hB2 : Below w.heap.size w ((w.alloc (.cells #[.int .i64 0] 3)).alloc (.cells #[.slice a0 n cap0] 22)) := hB1.alloc hB1.size _
  have hc0 : ((w.alloc (.cells #[.int .i64 0] 3)).alloc (.cells #[.slice a0 n cap0] 22)).cell? ⟨w.heap.size, 0, none⟩ = some (.int .i64 0) := by rw [World.cell?_alloc_lt _ _ _ (by simp)]; simp
  have hf0 : ((w.alloc (.cells #[.int .i64 0] 3)).alloc (.cells #[.slice a0 n cap0] 22)).frozen? ⟨w.heap.size, 0, none⟩ = false := by simp
  have hbx : ((w.alloc (.cells #[.int .i64 0] 3)).alloc (.cells #[.slice a0 n cap0] 22)).cell? ⟨w.heap.size + 1, 0, none⟩ = some (.slice a0 n cap0) := by
    have e : w.heap.size + 1 = (w.alloc (.cells #[.int .i64 0] 3)).heap.size := by simp
    rw [e]; simp
  obtain ⟨W2, hW2⟩ : ∃ W2, (w.alloc (.cells #[.int .i64 0] 3)).alloc (.cells #[.slice a0 n cap0] 22) = W2 := ⟨_, rfl⟩
  rw [hW2] at hz hB2 hc0 hf0 hbx ⊢
  clear hW2 HF
  refine range_rows rfl frames_enters (rowsOf bs) (fun b => b = w.heap.size)
    (frames_handing _ bs (w.heap.size + 1) _ W2 (fun b hb => by have := HV.out b hb; omega) hbx (HB.out.kept hB2))
    (fun k W => W.cell? ⟨w.heap.size, 0, none⟩ = some (.int .i64 ((sizeR ((rowsOf bs).take k) : Nat) : Int)) ∧ W.frozen? ⟨w.heap.size, 0, none⟩ = false ∧ Below w.heap.size w W)
    (fun k V V' h hb => ⟨(hb.cell (p := ⟨w.heap.size, 0, none⟩) (by simp; omega)).trans h.1, (hb.frozen (p := ⟨w.heap.size, 0, none⟩) (by simp; omega)).trans h.2.1, h.2.2.trans (hb.mono (by omega))⟩)
    ⟨hc0, hf0, hB2⟩ rfl
    (fun kd u => { tmps := #[.slice a0 n cap0, undef, .int .i64 0, .int .i64 0, .pointer (some ⟨w.heap.size, 0, none⟩), undef, u, undef, undef, undef, undef, .slice a0 n cap0,
      .func (.func 53) #[] #[.pointer (some ⟨w.heap.size + 1, 0, none⟩)], .int .u8 (kd : Int), u, undef, undef, undef, undef, undef, undef, undef, undef, undef, undef, undef, undef, undef, undef, undef, undef, undef, undef, undef, undef, undef], defers := [] }) ?assign ?body ?done
  case assign =>
    intro l kd u W K hK
    gi_wp2
    exact hK
  case body =>
    rintro l k kd bs' u W hrow ⟨hc, hf, hB⟩ hu
    obtain ⟨ua, uc, hus, _, _⟩ := hu.shape
    subst hus
    have hst := sizeR_take _ k _ hrow
    have hle := sizeR_take_le bs (k + 1)
    rw [HN.out] at hle
    dsimp only at hst
    have HST := Lib.hid hst
    obtain ⟨q, hq⟩ : ∃ q, sizeR ((rowsOf bs).take k) = q := ⟨_, rfl⟩
    rw [hq] at hc HST hst
    have hbd : q + (bs'.length + 8) ≤ 10000000 := by omega
    clear hst hq hle hrow hu hc0 hf0 hbx hB2
    gi_wp2
    refine ⟨KeepsOthers.setCell _ _ _, Kept.setCell _ _ _ rfl, ?_, ?_, hB.setCell (p := ⟨w.heap.size, 0, none⟩) (Nat.le_refl _) _⟩
    · rw [HST.out]
      rw [World.cell?_setCell_same' _ _ _ (by rw [hc]; rfl)]
      congr 2
    · rw [World.frozen?_setCell]; exact hf
  case done =>
    rintro W ⟨hc, hf, hB⟩ hD
    rw [List.take_length] at hc
    have hle := end_le bs
    rw [HN.out] at hle
    have hc' : W.cell? ⟨w.heap.size, 0, none⟩ = some (.int .i64 ((endAt bs : Nat) : Int)) := hc
    have HEE := Lib.hid (end_e bs)
    have HQ := Lib.hid hD
    clear hc hc0 hf0 hbx hB2 hD
    have HW := Lib.hid (HB.out.kept hB)
    have HDK : ∀ (W' : World), W'.heap[W2.heap.size]? = some (.deferred (some [])) → Below w.heap.size w W' → Below w.heap.size w (W'.putObj W2.heap.size (.deferred none)) := fun W' _ h => h.trans (below_putObj W' _ _ (by omega))
    have HDD := Lib.hid HDK
    have HHB := Lib.hid hB
    clear HDK hB
    rw [hz] at HQ HDD ⊢
    clear hz
    by_cases heq : endAt bs = n
    · have hw : whyEnd bs = 0 := by unfold whyEnd; rw [HN.out, if_pos heq]
      have HWY := Lib.hid hw
      rw [heq] at hc' 
      have HEQ := Lib.hid heq
      clear hw heq hle
      gi_wp2
      refine ⟨by simp, .inl ⟨_, _, rfl, run_takeDeferred HQ.out, ?_⟩⟩
      refine ⟨.tuple #[.int .i64 (n : Int), .int .i64 0], by simp [results, Try.results20, go_sem], ?_, HDD.out _ HQ.out HHB.out⟩
      rw [HEQ.out, HWY.out]; rfl
    · have hw : whyEnd bs = (takeOf (bs.drop (endAt bs))).e := by unfold whyEnd; rw [HN.out, if_neg heq]
      have HWY := Lib.hid hw
      have hne : (((endAt bs : Nat) : Int) == (n : Int)) = false := by simp; omega
      have hlt : endAt bs < n := by omega
      obtain ⟨b, off, cap', hv', hcap, hcm, _, _⟩ := HW.out.at (by rw [HN.out]; omega)
      simp only [Value.slice.injEq] at hv'
      obtain ⟨rfl, hnn, rfl⟩ := hv'
      clear hnn
      rw [HN.out] at hcap
      have hbh := HW.out.behind (endAt bs) (by rw [HN.out]; exact hle)
      have HT := Lib.hid (take_any _ _ W hbh)
      obtain ⟨q, hq⟩ : ∃ q, endAt bs = q := ⟨_, rfl⟩
      have HQQ := Lib.hid hq
      rw [hq] at hc' hne hlt HT HWY hle
      unfold maxLen at hcm
      clear hw heq hbh hq
      gi_wp2_with (refine ⟨trivial, ?_⟩; gi_at_call 15; refine (callsIn_wide.2 HT.out).mono ?_; rintro e w1 ⟨u, rfl, hu, hB⟩; obtain ⟨ua, uc, hus, _, _⟩ := hu.shape; subst hus; have hc1 := (hB.cell (p := ⟨w.heap.size, 0, none⟩) (cell_spot hc').2).trans hc'; have hq1 := (hB.block _ (Array.getElem?_eq_some_iff.1 HQ.out).1).trans HQ.out; have HQ1 := Lib.hid hq1; have HHB1 := Lib.hid (HHB.out.trans (hB.mono HHB.out.size)); clear hq1 hB hu)
      refine ⟨by simp, .inl ⟨_, _, rfl, run_takeDeferred HQ1.out, ?_⟩⟩
      refine ⟨.tuple #[.int .i64 (q : Int), .int .i64 (((takeOf (bs.drop q)).e : Nat) : Int)], by simp [results, Try.results20, go_sem], ?_, HDD.out _ HQ1.out HHB1.out⟩
      rw [HQQ.out, HWY.out]
end Go.Proofs.Yteehglaadofidaa
