/- SegmentReads. -/
import Derived.Test.YthefnakbpalecaaSgL
import Derived.Test.YthefnakbpalecaaSgG
import Derived.Deep.DeepCutAuto
namespace Go.Proofs.Ythefnakbpalecaa
open Go.RowKit
def BSc (cap : Nat) (w : World) (a : Option Addr) (len : Nat) (bs : List Nat) : Prop := bs.length = len ∧ (len ≤ 140737488351232 → RB w (.slice a len cap) bs)
set_option maxRecDepth 100000 in
theorem bytes_in {H : Type} {enc : TypeId × Value → H} {w : World} {base : Nat} {sp : Nat → Bool} {held : Bool} {fuel : Nat} {a : Option Addr} {n cap : Nat} {x : DataW H × List MemPlace}
    (h : DataW.trod enc Try.prog w base sp held fuel 28 (Value.slice a n cap).cells.toList = some x) :
    ∃ bs, BSc cap w a n bs := by
  rcases Deep.open_slice Try.underlying28 h with ⟨hcs, _⟩ | ⟨x, l, c, m, nn, D, Pl, hcs, _, hl, hm, hmm, _, hi⟩
  · simp [Value.cells] at hcs
    obtain ⟨rfl, rfl, rfl⟩ := hcs
    exact ⟨[], rfl, fun _ => RB.nil w⟩
  · simp [Value.cells] at hcs
    obtain ⟨rfl, rfl, rfl⟩ := hcs
    have hlm : n ≤ m := by rw [hmm]; split <;> omega
    have cellsB : Try.prog.cellsOf 5 = 1 := by kernel_rfl
    have key : ∀ i, i < n → ∃ t : Nat, w.cell? (x.add i) = some (.int .u8 (t : Int)) ∧ t < 256 := by
      intro i hil
      obtain ⟨cs', hc, ht⟩ := hi i (by omega)
      obtain ⟨f, e0, _, w0⟩ := DataW.trod_int Try.underlying5 ht
      subst e0
      rw [cellsB] at hc
      obtain ⟨_, hcl, hat⟩ := World.cells?_some hc
      have hb := wf_u8 w0
      refine ⟨f.toNat, ?_, by omega⟩
      have h1 := hat 0 (by omega)
      rw [Deep.add_add] at h1
      have e : ((f.toNat : Nat) : Int) = f := by omega
      rw [e]
      simpa using h1
    obtain ⟨f, hf⟩ := Deep.choose_lt key
    refine ⟨(List.range n).map f, by simp, fun hn => ⟨fun c hc => ?_, by simpa using hn, .inr ⟨x, cap, by simp, by simpa using hl, hm, fun i hi' => ?_⟩⟩⟩
    · obtain ⟨i, hi', rfl⟩ := List.mem_map.1 hc
      exact (hf i (by simpa using hi')).2
    · have hin : i < n := by simpa using hi'
      rw [(hf i hin).1]
      simp [hin]
set_option maxRecDepth 100000 in
set_option maxHeartbeats 8000000 in
theorem reads_law (a : Option Addr) (n c : Nat) (bs : List Nat) (w : World) (hbb : BSc c w a n bs) : Calls Try.prog 4 #[.slice a n c] w fun e w' => e = .returned (.bool true) ∧ Below w.heap.size w w' := by
  by_cases hl : n ≤ 30000
  · have hb := hbb.2 (by omega)
    have hn := hbb.1
    have HB := Lib.hid hb
    have HN := Lib.hid hn
    have g1 : decide ((n : Int) > 30000) = false := decide_eq_false (by omega)
    have g2 : decide (30000 < (n : Int)) = false := decide_eq_false (by omega)
    have g3 : decide (30000 < n) = false := decide_eq_false (by omega)
    have HR := Lib.hid (sread_any _ bs w hb (by omega))
    clear hb hn hbb
    go_enter Try.func4, Try.ntmps4
    go_wp2_with fail
    refine HR.out.mono ?_
    rintro e w1 ⟨hb1, v1, L1, rfl, he1, hm1⟩
    have HR1 := Lib.hid (rsread_any _ bs w1 (HB.out.kept hb1) (by have := HN.out; omega))
    have HE1 := Lib.hid he1
    have HB1 := Lib.hid hb1
    have HM1 := Lib.hid hm1
    obtain ⟨f, hf⟩ : ∃ f, (sRead bs).1 = f := ⟨_, rfl⟩
    obtain ⟨G, hG⟩ : ∃ f, (sRead bs).2.2 = f := ⟨_, rfl⟩
    obtain ⟨M, hM⟩ : ∃ f, (sRead bs).2.1 = f := ⟨_, rfl⟩
    rw [hf, hG]
    obtain ⟨va, vc, rfl⟩ := he1.shape
    obtain ⟨l1, hl1⟩ : ∃ q, L1.length = q := ⟨_, rfl⟩
    have HL1 := Lib.hid hl1
    rw [hl1] at HE1 ⊢
    have HF := Lib.hid (And.intro hf (And.intro hG hM))
    clear hb1 he1 hm1 hf hG hM HR hl1
    go_wp2_with fail
    refine HR1.out.mono ?_
    rintro e w2 ⟨hb2, v2, L2, rfl, he2, hm2⟩
    rw [HF.out.1, HF.out.2.1]
    have HE12 := Lib.hid (HE1.out.below hb2)
    have HB2 := Lib.hid (HB1.out.trans (hb2.mono HB1.out.size))
    have hlen : L1.length ≤ 3000000 := by
      have h1 := congrArg List.length HM1.out
      rw [List.length_map] at h1
      have h2 : ∀ (rows : List (Nat × List Nat)) (f : Nat) (l : List Ent) (g : Nat), (sRows rows f l g).2.1.length ≤ l.length + rows.length := by
        intro rows
        induction rows with
        | nil => intro f l g; exact Nat.le_refl _
        | cons r rows ih =>
          intro f l g
          rw [sRows_cons, List.length_cons]
          split
          · split
            · have := ih (nN 1152921504606846976 r.2) l (g + (r.2.length + 8)); omega
            · dsimp only; omega
          · split
            · have := ih f (l ++ [entOf r.2]) (g + (r.2.length + 8)); rw [List.length_append, List.length_singleton] at this; omega
            · dsimp only; omega
      have h3 := h2 (rowsOf bs) 0 [] 0
      have h4 : (rowsOf bs).length ≤ bs.length := by
        by_cases h0 : (rowsOf bs).length = 0
        · omega
        · have hlast : (rowsOf bs)[(rowsOf bs).length - 1]? = some ((rowsOf bs)[(rowsOf bs).length - 1]'(by omega)) := List.getElem?_eq_getElem _
          have h5 : ∀ rows : List (Nat × List Nat), rows.length ≤ sizeR rows := by
            intro rows
            induction rows with
            | nil => exact Nat.le_refl _
            | cons r rows ih => rw [sizeR_cons, List.length_cons]; omega
          have := h5 (rowsOf bs)
          have : sizeR (rowsOf bs) ≤ bs.length := end_le bs
          omega
      have h6 := HN.out
      unfold sRead at h1
      rw [List.length_nil] at h3
      omega
    have HS := Lib.hid (rsame_eq _ v2 L1 L2 _ _ w2 HE12.out he2 (HM1.out.trans hm2.symm) hlen)
    have HLV := Lib.hid (fun w => lives24 w)
    clear hb2 he2 hm2 hlen
    go_wp2_with fail
    refine HS.out.mono ?_
    rintro e w3 ⟨rfl, hb3⟩
    have HB3 := Lib.hid (HB2.out.trans (hb3.mono HB2.out.size))
    clear hb3
    go_wp2_with fail
    refine (HLV.out _).mono ?_
    rintro e w4 ⟨rfl, hb4⟩
    have HB4 := Lib.hid (HB3.out.trans (hb4.mono HB3.out.size))
    clear hb4
    go_wp2_with fail
    go_ret
    exact ⟨rfl, HB4.out⟩
  · have g1 : decide ((n : Int) > 30000) = true := decide_eq_true (by omega)
    have g2 : decide (30000 < (n : Int)) = true := decide_eq_true (by omega)
    have g3 : decide (30000 < n) = true := decide_eq_true (by omega)
    have HLV := Lib.hid (fun w => lives24 w)
    clear hbb
    go_enter Try.func4, Try.ntmps4
    go_wp2_with fail
    refine (HLV.out _).mono ?_
    rintro e w1 ⟨rfl, hb1⟩
    have HB1 := Lib.hid hb1
    clear hb1
    go_wp2_with fail
    go_ret
    exact ⟨rfl, HB1.out⟩
end Go.Proofs.Ythefnakbpalecaa
