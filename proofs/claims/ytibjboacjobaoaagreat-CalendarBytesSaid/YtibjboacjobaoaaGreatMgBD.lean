import Derived.Test.YtibjboacjobaoaaGreatMgBC
import Derived.Test.YtibjboacjobaoaaGreatMgAK
import Derived.Test.YtibjboacjobaoaaGreatNbP
import Derived.Deep.RegionHeld3
import Derived.Deep.LoopGhost
namespace Go.Proofs.YtibjboacjobaoaaGreat
open Go.RowKit
/- Two calendars compared, both ways. -/
open Go.RowKit
theorem tri_at {w : World} {N : Nat} {x y z : Value} {t : TypeId} (h : w.heap[N]? = some (.cells #[x, y, z] t (0, 0))) : w.cell? ⟨N, 0, none⟩ = some x ∧ w.cell? ⟨N, 1, none⟩ = some y ∧ w.cell? ⟨N, 2, none⟩ = some z := by
  simp [World.cell?, h]
def calEq (off off' : Int) (F T F' T' : Nat → Int) (n n' : Nat) (G U G' U' : Nat → Int) (m m' : Nat) : Bool := decide (off = off') && (sameL F T F' T' n n' && sameL G U G' U' m m')
theorem sameB_self (F T : Nat → Int) : ∀ n, sameB F T F T n = true
  | 0 => rfl
  | n + 1 => by simp [sameB, sameB_self F T n]
theorem sameL_refl (F T : Nat → Int) (n : Nat) : sameL F T F T n n = true := by simp [sameL, sameB_self]
theorem sameL_of {F T F' T' : Nat → Int} {n : Nat} (h : ∀ k, k < n → F k = F' k ∧ T k = T' k) : sameL F T F' T' n n = true := by
  unfold sameL
  rw [sameB_iff.2 h]
  simp
theorem calEq_refl (off : Int) (F T : Nat → Int) (n : Nat) (G U : Nat → Int) (m : Nat) : calEq off off F T F T n n G U G U m m = true := by
  unfold calEq
  rw [sameL_refl, sameL_refl]
  simp
set_option maxRecDepth 100000 in
set_option maxHeartbeats 4000000 in
theorem csame_any (off off' : Int) (a : Option Addr) (n ca : Nat) (b : Option Addr) (m cb : Nat) (F T G U : Nat → Int) (a' : Option Addr) (n' ca' : Nat) (b' : Option Addr) (m' cb' : Nat) (F' T' G' U' : Nat → Int) (w : World) (hS : Sps w a n F T) (hR : Sps w b m G U) (hS' : Sps w a' n' F' T') (hR' : Sps w b' m' G' U') :
    Calls Tryz.prog 11 #[calV off a n ca b m cb, calV off' a' n' ca' b' m' cb'] w fun e w' => e = .returned (.bool (calEq off off' F T F' T' n n' G U G' U' m m')) ∧ Below w.heap.size w w' := by
  have HA := Lib.hid (fun W (hb : Below w.heap.size w W) => And.intro (same_any a a' n ca n' ca' F T F' T' W (hS.kept hb) (hS'.kept hb)) (same_any b b' m cb m' cb' G U G' U' W (hR.kept hb) (hR'.kept hb)))
  have HX : Hid (calEq off off' F T F' T' n n' G U G' U' m m' = (decide (off = off') && (sameL F T F' T' n n' && sameL G U G' U' m m'))) := Lib.hid rfl
  obtain ⟨ok, hok⟩ : ∃ x, calEq off off' F T F' T' n n' G U G' U' m m' = x := ⟨_, rfl⟩
  obtain ⟨e1, he1⟩ : ∃ x, sameL F T F' T' n n' = x := ⟨_, rfl⟩
  obtain ⟨e2, he2⟩ : ∃ x, sameL G U G' U' m m' = x := ⟨_, rfl⟩
  rw [hok, he1, he2] at HX
  rw [he1, he2] at HA
  rw [hok]
  obtain ⟨B2, s0, s1, sz⟩ := box2 w #[.int .i64 off, .slice a n ca, .slice b m cb] #[.int .i64 off', .slice a' n' ca', .slice b' m' cb'] 24 24
  obtain ⟨q0, q1, q2⟩ := tri_at s0
  obtain ⟨r0, r1, r2⟩ := tri_at s1
  have HB := Lib.hid B2
  clear hS hR hS' hR' hok he1 he2 s0 s1 sz B2
  unfold calV
  by_cases hof : off = off'
  · subst hof
    have hs1 := (HA.out _ HB.out).1
    go_enter Tryz.func11, Tryz.ntmps11
    go_wp2_with fail
    generalize ((w.alloc (.cells #[.int .i64 off, .slice a n ca, .slice b m cb] 24)).alloc (.cells #[.int .i64 off, .slice a' n' ca', .slice b' m' cb'] 24)) = W at hs1 q0 q1 q2 r0 r1 r2 HB ⊢
    refine hs1.mono ?_
    rintro e w3 ⟨rfl, q, rfl⟩
    have HB1 := Lib.hid (below_drewN' HB.out q)
    have q2' : (W.drewN q).cell? ⟨w.heap.size, 2, none⟩ = some (.slice b m cb) := q2
    have r2' : (W.drewN q).cell? ⟨w.heap.size + 1, 2, none⟩ = some (.slice b' m' cb') := r2
    have hs2 := (HA.out _ HB1.out).2
    clear q0 q1 q2 r0 r1 r2 hs1
    generalize W.drewN q = W3 at *
    cases e1
    · go_wp2_with fail
      go_ret
      exact ⟨by rw [HX.out]; simp, HB1.out⟩
    · go_wp2_with fail
      refine hs2.mono ?_
      rintro e w4 ⟨rfl, q, rfl⟩
      have HB2 := Lib.hid (below_drewN' HB1.out q)
      clear hs2
      go_wp2_with fail
      go_ret
      exact ⟨by rw [HX.out]; simp, HB2.out⟩
  · have hof2 : decide (off = off') = false := decide_eq_false hof
    go_enter Tryz.func11, Tryz.ntmps11
    go_wp2_with fail
    go_ret
    exact ⟨by rw [HX.out]; simp [hof], HB.out⟩
set_option maxRecDepth 100000 in
set_option maxHeartbeats 4000000 in
theorem rsame10_any (off off' : Int) (a : Option Addr) (n ca : Nat) (b : Option Addr) (m cb : Nat) (F T G U : Nat → Int) (a' : Option Addr) (n' ca' : Nat) (b' : Option Addr) (m' cb' : Nat) (F' T' G' U' : Nat → Int) (w : World) (hS : Sps w a n F T) (hR : Sps w b m G U) (hS' : Sps w a' n' F' T') (hR' : Sps w b' m' G' U') :
    Calls Tryz.prog 12 #[calV off a n ca b m cb, calV off' a' n' ca' b' m' cb'] w fun e w' => e = .returned (.bool (calEq off off' F T F' T' n n' G U G' U' m m')) ∧ Below w.heap.size w w' := by
  have HA := Lib.hid (fun W (hb : Below w.heap.size w W) => And.intro (rsame_any a a' n ca n' ca' F T F' T' W (hS.kept hb) (hS'.kept hb)) (rsame_any b b' m cb m' cb' G U G' U' W (hR.kept hb) (hR'.kept hb)))
  have HX : Hid (calEq off off' F T F' T' n n' G U G' U' m m' = (decide (off = off') && (sameL F T F' T' n n' && sameL G U G' U' m m'))) := Lib.hid rfl
  obtain ⟨ok, hok⟩ : ∃ x, calEq off off' F T F' T' n n' G U G' U' m m' = x := ⟨_, rfl⟩
  obtain ⟨e1, he1⟩ : ∃ x, sameL F T F' T' n n' = x := ⟨_, rfl⟩
  obtain ⟨e2, he2⟩ : ∃ x, sameL G U G' U' m m' = x := ⟨_, rfl⟩
  rw [hok, he1, he2] at HX
  rw [he1, he2] at HA
  rw [hok]
  obtain ⟨B2, s0, s1, sz⟩ := box2 w #[.int .i64 off, .slice a n ca, .slice b m cb] #[.int .i64 off', .slice a' n' ca', .slice b' m' cb'] 24 24
  obtain ⟨q0, q1, q2⟩ := tri_at s0
  obtain ⟨r0, r1, r2⟩ := tri_at s1
  have HB := Lib.hid B2
  clear hS hR hS' hR' hok he1 he2 s0 s1 sz B2
  unfold calV
  by_cases hof : off = off'
  · subst hof
    have hs1 := (HA.out _ HB.out).1
    go_enter Tryz.func12, Tryz.ntmps12
    go_wp2_with fail
    generalize ((w.alloc (.cells #[.int .i64 off, .slice a n ca, .slice b m cb] 24)).alloc (.cells #[.int .i64 off, .slice a' n' ca', .slice b' m' cb'] 24)) = W at hs1 q0 q1 q2 r0 r1 r2 HB ⊢
    refine hs1.mono ?_
    rintro e w3 ⟨rfl, q, rfl⟩
    have HB1 := Lib.hid (below_drewN' HB.out q)
    have q2' : (W.drewN q).cell? ⟨w.heap.size, 2, none⟩ = some (.slice b m cb) := q2
    have r2' : (W.drewN q).cell? ⟨w.heap.size + 1, 2, none⟩ = some (.slice b' m' cb') := r2
    have hs2 := (HA.out _ HB1.out).2
    clear q0 q1 q2 r0 r1 r2 hs1
    generalize W.drewN q = W3 at *
    cases e1
    · go_wp2_with fail
      go_ret
      exact ⟨by rw [HX.out]; simp, HB1.out⟩
    · go_wp2_with fail
      refine hs2.mono ?_
      rintro e w4 ⟨rfl, q, rfl⟩
      have HB2 := Lib.hid (below_drewN' HB1.out q)
      clear hs2
      go_wp2_with fail
      go_ret
      exact ⟨by rw [HX.out]; simp, HB2.out⟩
  · have hof2 : decide (off = off') = false := decide_eq_false hof
    go_enter Tryz.func12, Tryz.ntmps12
    go_wp2_with fail
    go_ret
    exact ⟨by rw [HX.out]; simp [hof], HB.out⟩
/- Calendars that are written. -/
open Go.RowKit
/-- The bytes of a calendar. -/
def calW (off : Int) (F T : Nat → Int) (n : Nat) (G U : Nat → Int) (m : Nat) : List Nat := intB off ++ (rowW F T n ++ rowW G U m)
set_option maxRecDepth 100000 in
set_option maxHeartbeats 8000000 in
theorem cal_put (b base : Nat) (v : Value) (bs : List Nat) (off : Int) (a : Option Addr) (n ca : Nat) (a' : Option Addr) (m cb : Nat) (F T G U : Nat → Int) (w : World) (hw : WR w b base v bs) (hS : Sps w a n F T) (hR : Sps w a' m G U) (h1 : FarR b a n) (h2 : FarR b a' m) (hn : n ≤ 32) (hm : m ≤ 32) (hnn : NonNeg F T n) (hmm : NonNeg G U m) (ho : 0 ≤ off ∧ off ≤ 604800) (hbl : bs.length ≤ 100000) :
    Calls Tryz.prog 14 #[.pointer (some ⟨b, 0, none⟩), calV off a n ca a' m cb] w fun e w' => e = .returned (.tuple #[]) ∧ Wrote b base v w (bs ++ calW off F T n G U m) w' := by
  obtain ⟨B1, s0, sz⟩ := box1 w #[.int .i64 off, .slice a n ca, .slice a' m cb] 24
  obtain ⟨q0, q1, q2⟩ := tri_at s0
  have hwb := hw.kept B1
  have HNE : Hid (w.heap.size ≠ b ∧ v.ownBlock ≠ some w.heap.size) := Lib.hid ⟨by have := hw.2.1; have := hw.2.2.1; omega, fun e => by have := (World.ownsRow.lt hw.2.2.2.1 _ e).2; omega⟩
  have hi := int_one b base v off bs _ hwb (by omega) (by omega) (by omega)
  have HSK := Lib.hid (And.intro (hS.kept B1) (hR.kept B1))
  have HB1 := Lib.hid B1
  have HF := Lib.hid (And.intro h1 h2)
  have HN := Lib.hid (And.intro hn (And.intro hm (And.intro hnn hmm)))
  have HBL : Hid (bs.length ≤ 100000 ∧ (intB off).length ≤ 9) := Lib.hid ⟨hbl, intB_len9 off (by omega) (by omega)⟩
  have HBB := Lib.hid (And.intro hw.2.1 hw.base_le)
  have HU := Lib.hid (And.intro hS.up hR.up)
  have HLT : Hid (w.heap.size < (w.alloc (.cells #[.int .i64 off, .slice a n ca, .slice a' m cb] 24)).heap.size) := Lib.hid (by rw [sz]; omega)
  have HWB := Lib.hid hwb
  clear hw hS hR h1 h2 hn hm hnn hmm ho hbl hwb s0 B1
  rw [sz] at hi
  unfold calV
  go_enter Tryz.func14, Tryz.ntmps14
  go_wp2_with fail
  refine hi.mono ?_
  rintro e w1 ⟨rfl, v1, hw1, ht1, hm1⟩
  have r1 := (ht1.cell (p := ⟨w.heap.size, 1, none⟩) HLT.out HNE.out.1 (fun e => HNE.out.2 e.symm)).trans q1
  have r2 := (ht1.cell (p := ⟨w.heap.size, 2, none⟩) HLT.out HNE.out.1 (fun e => HNE.out.2 e.symm)).trans q2
  have hS1 := HSK.out.1.turn ht1 HF.out.1 HBB.out.1 HBB.out.2
  have HR1 := Lib.hid (HSK.out.2.turn ht1 HF.out.2 HBB.out.1 HBB.out.2)
  have hp1 := put_spans b base v1 (bs ++ intB off) a n ca F T w1 hw1 hS1 HF.out.1 (by have := HN.out.1; omega) HN.out.2.2.1 (by have := HBL.out; rw [List.length_append]; omega)
  have HNE1 : Hid (v1.ownBlock ≠ some w.heap.size) := Lib.hid (fun e => by
    rcases hm1 with h | h
    · exact HNE.out.2 (h ▸ e)
    · have := h _ e; have := HLT.out; omega)
  have HBB1 := Lib.hid hw1.base_le
  have HLT1 : Hid (w.heap.size < w1.heap.size) := Lib.hid (Nat.lt_of_lt_of_le HLT.out ht1.size)
  have HX1 : Hid (∀ cs w', Wrote b base v1 w1 cs w' → Wrote b base v w cs w') := Lib.hid (fun cs w' h => (Wrote.join hw1 ht1 hm1 h).after HB1.out)
  clear hi hw1 ht1 hm1 q0 q1 q2 hS1
  go_wp2_with fail
  refine hp1.mono ?_
  rintro e w2 ⟨rfl, v2, hw2, ht2, hm2⟩
  have r3 := (ht2.cell (p := ⟨w.heap.size, 2, none⟩) HLT1.out HNE.out.1 (fun e => HNE1.out e.symm)).trans r2
  have hR2 := HR1.out.turn ht2 HF.out.2 HBB.out.1 HBB1.out
  have hp2 := put_spans b base v2 ((bs ++ intB off) ++ rowW F T n) a' m cb G U w2 hw2 hR2 HF.out.2 (by have := HN.out.2.1; omega) HN.out.2.2.2 (by
    have := HBL.out
    have := rowW_len F T n n (by have := HN.out.1; omega) (Nat.le_refl _) HU.out.1
    have := HN.out.1
    unfold rowW
    rw [List.length_append, List.length_append]; omega)
  have HX2 : Hid (∀ cs w', Wrote b base v2 w2 cs w' → Wrote b base v w cs w') := Lib.hid (fun cs w' h => HX1.out _ _ (Wrote.join hw2 ht2 hm2 h))
  clear hp1 hw2 ht2 hm2 r1 r2 hR2
  go_wp2_with fail
  refine hp2.mono ?_
  rintro e w3 ⟨rfl, hwr⟩
  have HW := HX2.out _ _ hwr
  go_wp2_with fail
  go_end0
  refine ⟨rfl, ?_⟩
  unfold calW
  rw [← List.append_assoc, ← List.append_assoc]
  exact HW
end Go.Proofs.YtibjboacjobaoaaGreat
