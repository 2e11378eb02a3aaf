/- The reference's Take where there is a frame: the body lies below what is made next. -/
import Derived.Test.YthefnakbpalecaaFrJ
import Derived.Test.YthefnakbpalecaaMaE
import Derived.Outline
namespace Go.Proofs.Ythefnakbpalecaa
open Go.RowKit
def TakenF (w : World) (t : Tk) (e : Ending) (w' : World) : Prop :=
  ∃ v', e = .returned (.tuple #[.int .u8 (t.kind : Int), v', .int .i64 (t.n : Int), .int .i64 (t.e : Int)]) ∧ RB w' v' t.body ∧ Far w'.heap.size v' ∧ Below w.heap.size w w'
set_option maxHeartbeats 4000000 in
theorem reftake7f (b off cap n s x1 x2 x3 x4 : Nat) (body : List Nat) (w : World) (hs0 : x2 * 65536 + x3 * 256 + x4 = s) (hs1 : s ≤ 65536) (hn : s + 8 ≤ n) (hm : n ≤ 140737488351232) (hnc : n ≤ cap) (hcm : cap ≤ maxLen)
    (l1 : x1 < 256) (l2 : x2 < 256) (l3 : x3 < 256) (l4 : x4 < 256) (h1 : x1 ≠ 0)
    (c0 : w.cell? ⟨b, off, none⟩ = some (.int .u8 102)) (c1 : w.cell? ⟨b, off + 1, none⟩ = some (.int .u8 (x1 : Int))) (c2 : w.cell? ⟨b, off + 2, none⟩ = some (.int .u8 (x2 : Int)))
    (c3 : w.cell? ⟨b, off + 3, none⟩ = some (.int .u8 (x3 : Int))) (c4 : w.cell? ⟨b, off + 4, none⟩ = some (.int .u8 (x4 : Int)))
    (hbody : RB w (.slice (some ⟨b, off + 5, none⟩) s (cap - 5)) body) (hbl : body.length = s) (hpf : RB w (.slice (some ⟨b, off, none⟩) (s + 8) cap) (frm x1 body)) :
    Calls Try.prog 72 #[.slice (some ⟨b, off, none⟩) n cap] w (TakenF w ⟨x1, body, s + 8, 0⟩) := by
  have h5 : 5 ≤ n := by omega
  have e0 : ((n : Int) == 0) = false := by simp; omega
  have e1 : ((x1 : Int) == 0) = false := by simp; omega
  have hq : (x2 : Int) * 65536 + (x3 : Int) * 256 + (x4 : Int) = (s : Int) := by omega
  have HQ := Lib.hid hq
  have g1 : IntKind.i64.wrap ((x2 : Int) * 65536) = (x2 : Int) * 65536 := IntWalk.i64_in _ (by omega)
  have g2 : IntKind.i64.wrap ((x3 : Int) * 256) = (x3 : Int) * 256 := IntWalk.i64_in _ (by omega)
  have g3 : IntKind.i64.wrap ((x2 : Int) * 65536 + (x3 : Int) * 256) = (x2 : Int) * 65536 + (x3 : Int) * 256 := IntWalk.i64_in _ (by omega)
  have g4 : IntKind.i64.wrap ((x2 : Int) * 65536 + (x3 : Int) * 256 + (x4 : Int)) = (x2 : Int) * 65536 + (x3 : Int) * 256 + (x4 : Int) := IntWalk.i64_in _ (by omega)
  have HBO := Lib.hid hbody
  have HPF := Lib.hid hpf
  have HBL := Lib.hid hbl
  have hbs := (cell_spot c1).2
  unfold maxLen at hcm
  clear hs0 hq hbody hpf hbl
  go_enter Try.func72, Try.ntmps72
  go_wp2
  go_quiet (fail)
  clear g1 g2 g3 g4
  rw [HQ.out]
  have hB1 : Below w.heap.size w (w.drewN nq).drew := (below_drewN (Below.refl _ _) _).drew
  have d1 : (w.drewN nq).drew.cell? ⟨b, off + 1, none⟩ = some (.int .u8 (x1 : Int)) := c1
  have HBO1 := Lib.hid (HBO.out.kept hB1)
  have HPF1 := Lib.hid (HPF.out.kept hB1)
  have hbs1 : b < (w.drewN nq).drew.heap.size := hbs
  have HB1 := Lib.hid hB1
  clear c0 c1 c2 c3 c4 hB1 hbs
  generalize w.drewN nq = w1 at *
  go_wp2
  have HC := Lib.hid (refbytes_any x1 _ body w1.drew HBO1.out l1 (by have := HBL.out; omega))
  have HFL := Lib.hid (frm_lt x1 body l1 (by have := HBL.out; omega) HBO.out.1)
  have es := rb_string (P := Try.prog) HPF1.out 28 9 5 Try.underlying28 Try.underlying5 Try.underlying9
  have g5 : IntKind.i64.wrap ((s : Int) + 8) = (s : Int) + 8 := IntWalk.i64_in _ (by omega)
  have g6 : ((s : Int) + 8).toNat = s + 8 := by omega
  have g7 : (0 : Int) ≤ (s : Int) + 8 := by omega
  have g8 : (s : Int) + 8 ≤ (cap : Int) := by omega
  have g9 : (1 : Int) < (n : Int) := by omega
  go_region_with (go_at_call 65; refine HC.out.mono ?_; rintro e w2 ⟨v2, rfl, ho2, hb2⟩; have es2 := rb_string (P := Try.prog) (HPF1.out.kept hb2) 28 9 5 Try.underlying28 Try.underlying5 Try.underlying9; have et2 := rb_string (P := Try.prog) (ho2.rb HFL.out (by rw [frm_len]; have := HBL.out; omega)) 28 9 5 Try.underlying28 Try.underlying5 Try.underlying9; have d2 := (hb2.cell (p := ⟨b, off + 1, none⟩) hbs1).trans d1; have HB2 := Lib.hid (HB1.out.trans (hb2.mono HB1.out.size)); have HBO2 := Lib.hid (HBO1.out.kept hb2); have hbs2 : b < w2.heap.size := Nat.lt_of_lt_of_le hbs1 hb2.size; clear hb2 ho2)
  all_goals
    clear es es2 et2 g6 g7 g8
    have HB3 := Lib.hid HB2.out.drew
    have HBO3 := Lib.hid (HBO2.out.kept (Below.refl _ _).drew)
    have d3 : w2.drew.cell? ⟨b, off + 1, none⟩ = some (.int .u8 (x1 : Int)) := d2
    have hbs3 : b < w2.drew.heap.size := hbs2
    have d4 : (w2.drew.alloc (.cells #[] 5)).cell? ⟨b, off + 1, none⟩ = some (.int .u8 (x1 : Int)) := (World.cell?_alloc_lt _ _ _ hbs3).trans d3
    go_wp2
    go_region_law (refine step_append_rb rfl (.tmp 67) (.tmp 68) rfl w2.drew.heap.size _ _ [] body rfl rfl (ob_empty _ _ rfl) (HBO3.out.kept ((Below.refl _ _).alloc (Nat.le_refl _) (.cells #[] 5))) (by have := HBL.out; simp; omega) (by simp) ?_; intro v3 w3 ho3 hg3; have hb3 := (ob_empty w2.drew _ rfl).below hg3 ((Below.refl w2.drew.heap.size w2.drew).alloc (Nat.le_refl _) _) (by simp); have d5 := (hb3.cell (p := ⟨b, off + 1, none⟩) hbs3).trans d3; have hr3 := ho3.rb HBO3.out.1 (by have := HBL.out; simp; omega); have HF := Lib.hid (HB3.out.trans (hb3.mono HB3.out.size)); have HFR := Lib.hid (show Far w3.heap.size v3 from fun k hk => (World.ownsRow.lt ho3 k hk).2); clear hg3 hb3 ho3)
    all_goals go_wp2
    all_goals exact bodyPost_ret (v := .tuple #[.int .u8 (x1 : Int), v3, .int .i64 ((s : Int) + 8), .int .i64 0]) (by simp [results, Try.results72, go_sem]) rfl ⟨v3, rfl, by simpa using hr3, HFR.out, HF.out⟩
theorem reftake_far (v : Value) (bs : List Nat) (w : World) (hb : RB w v bs) (he : (takeOf bs).e = 0) : Calls Try.prog 72 #[v] w (TakenF w (takeOf bs)) := by
  have hm := hb.2.1
  have hlt := hb.at_lt
  unfold takeOf at he ⊢
  by_cases c1 : badHead bs
  · rw [if_pos c1] at he; cases he
  rw [if_neg c1] at he ⊢
  by_cases c2 : bs.length < szAt bs + 8
  · rw [if_pos c2] at he; cases he
  rw [if_neg c2] at he ⊢
  by_cases hf : sumFits (bs.take (szOf bs + 8)) (szOf bs + 5)
  · rw [if_pos hf]
    have hsz : szAt bs = szOf bs := by unfold szAt; rw [if_pos (by omega)]
    have h65 : ¬ 65536 < szOf bs := fun h => c1 (.inr (.inr (by rw [hsz]; exact h)))
    have h1 : bs.getD 1 0 ≠ 0 := fun h => c1 (.inr (.inl ⟨by omega, h⟩))
    have hx : bs.getD 0 0 = 102 := Classical.byContradiction fun h => c1 (.inl ⟨by omega, h⟩)
    obtain ⟨b, off, cap, rfl, hnc, hcm, _, hc⟩ := hb.at (by omega)
    have c0 := hc 0 (by omega)
    rw [Nat.add_zero, hx] at c0
    have c1' := hc 1 (by omega)
    have hpf := hb.upto (szOf bs + 8) (by omega)
    have hbo := (hb.upto (szOf bs + 5) (by omega)).behind 5 (by rw [List.length_take]; omega)
    have hd : (bs.take (szOf bs + 5)).drop 5 = (bs.drop 5).take (szOf bs) := by rw [List.drop_take]; rfl
    rw [hd, show szOf bs + 5 - 5 = szOf bs by omega] at hbo
    have hbl : ((bs.drop 5).take (szOf bs)).length = szOf bs := by rw [List.length_take, List.length_drop]; omega
    have hsf := same_frm bs hb.1 hx (by omega)
    rw [← hsf.1 hf] at hpf
    exact reftake7f b off cap bs.length (szOf bs) (bs.getD 1 0) (bs.getD 2 0) (bs.getD 3 0) (bs.getD 4 0) _ w rfl (by omega) (by omega) hm hnc hcm (hlt 1 (by omega)) (hlt 2 (by omega)) (hlt 3 (by omega)) (hlt 4 (by omega)) h1 c0 c1' (hc 2 (by omega)) (hc 3 (by omega)) (hc 4 (by omega)) hbo hbl hpf
  · rw [if_neg hf] at he; cases he
end Go.Proofs.Ythefnakbpalecaa
