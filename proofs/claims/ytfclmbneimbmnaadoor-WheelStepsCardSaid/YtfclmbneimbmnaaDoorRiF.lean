/- A ring's Look outside; its Take. -/
import Derived.Test.YtfclmbneimbmnaaDoorRiE
namespace Go.Proofs.YtfclmbneimbmnaaDoor
open Go.RowKit

set_option maxRecDepth 100000 in
theorem look_out {r b : Nat} {V : Nat → Value} {S : Nat → List Th} {M : Int → Option (Nat × Nat)} (k : Int) (w : World) (h : Rn w r b V S M) (hk : ¬ (0 ≤ k ∧ k < 64)) :
    Calls Tryd.prog 73 #[.pointer (some ⟨r, 0, none⟩), .int .i64 k] w fun e w' => e = .returned (.slice none 0 0) ∧ w' = w := by
  have hc := created_yes r b w h.rg.map
  have hh := has_any k w
  rw [decide_eq_false hk] at hh
  clear h hk
  go_enter Tryd.func73, Tryd.ntmps73
  go_wp2_with (first
    | (go_at_call 77; with_reducible refine hc.mono ?_; rintro e w3 ⟨rfl, rfl⟩)
    | (go_at_call 109; with_reducible refine hh.mono ?_; rintro e w3 ⟨rfl, rfl⟩))
  go_ret
  exact ⟨rfl, rfl⟩

set_option maxRecDepth 100000 in
theorem take_out {r b : Nat} {V : Nat → Value} {S : Nat → List Th} {M : Int → Option (Nat × Nat)} (k : Int) (w : World) (h : Rn w r b V S M) (hk : ¬ (0 ≤ k ∧ k < 64)) :
    Calls Tryd.prog 28 #[.pointer (some ⟨r, 0, none⟩), .int .i64 k] w fun e w' => e = .returned (.slice none 0 0) ∧ w' = w := by
  have hc := look_out k w h hk
  clear h
  go_enter Tryd.func28, Tryd.ntmps28
  go_wp2_with (go_at_call 73; with_reducible refine hc.mono ?_; rintro e w1 ⟨rfl, rfl⟩)
  refine wp_loop_rounds 1 ?_
  rw [rounds_succ]
  go_wp2
  go_ret
  exact ⟨rfl, rfl⟩

theorem OT.only {X : Nat → Prop} {w w' : World} {base : Nat} {v : Value} {l : List Th} (h : OT w base v l) (ho : Only X w w') (hx : ∀ g, v.ownBlock = some g → ¬ X g) : OT w' base v l :=
  h.keep fun g hg => ho.block g (h.lt hg) (hx g hg)

set_option maxRecDepth 100000 in
set_option maxHeartbeats 4000000 in
theorem take_any {r b s : Nat} {V : Nat → Value} {S : Nat → List Th} {M : Int → Option (Nat × Nat)} (w : World) (h : Rn w r b V S M) (hs : s < 64) :
    Calls Tryd.prog 28 #[.pointer (some ⟨r, 0, none⟩), .int .i64 s] w fun e w' => ∃ v, e = .returned v ∧ OT w' w.heap.size v (srt ltT zT (S s)) ∧
      ∃ V' M', Rn w' r b V' (upd S s []) M' ∧ Only (Fp V r b) w w' ∧ ∀ k, Fp V' r b k → Fp V r b k := by
  have hlk := look_any w h hs
  have H0 := Lib.hid h
  have hn6 : (srt ltT zT (S s)).length < 1000000 := by rw [srtT_len]; exact Nat.lt_of_le_of_lt (tot_ge S 64 hs) h.few
  have hperm := srt_perm ltT zT (S s)
  clear h
  obtain ⟨L, hL⟩ : ∃ L, srt ltT zT (S s) = L := ⟨_, rfl⟩
  rw [hL] at hlk hn6 hperm ⊢
  have HP := Lib.hid hperm
  clear hperm hL
  go_enter Tryd.func28, Tryd.ntmps28
  go_wp2_with (go_at_call 73; with_reducible refine hlk.mono ?_; rintro e w1 ⟨v, rfl, hO1, hb1⟩; obtain ⟨a, c, rfl⟩ := hO1.shape; have HO1 := Lib.hid (And.intro hO1 hb1); clear hO1 hb1 hlk)
  have HX : Hid (∀ g, (Value.slice a L.length c).ownBlock = some g → ¬ Fp V r b g) := Lib.hid (fun g hg hf => by
    have h1 := (World.ownsRow.lt HO1.out.1 g hg).1
    have h2 := H0.out.lt hf
    omega)
  go_loopg [7, 13] L.length (fun kx s7 s13 wr => ∃ (k : Nat), (∃ v7 : Value, s7 = v7) ∧ s13 = .int .i64 k ∧ k ≤ L.length ∧ L.length - k ≤ kx ∧
    Hid (∃ V' S' M', Rn wr r b V' S' M' ∧ (∀ j, j ≠ s → S' j = S j) ∧ (S' s).Perm (L.drop k) ∧ Only (Fp V r b) w wr ∧ (∀ q, Fp V' r b q → Fp V r b q) ∧ OT wr w.heap.size (.slice a L.length c) L))
  case atStart => exact ⟨0, ⟨_, rfl⟩, rfl, by omega, by omega, V, S, M, H0.out.below HO1.out.2, fun _ _ => rfl, by simpa using HP.out.symm, Only.below HO1.out.2, fun _ h => h, HO1.out.1⟩
  case round =>
    obtain ⟨k, ⟨v7, rfl⟩, rfl, hk, hkx, HI⟩ := hrel
    obtain ⟨V', S', M', hRn, hoth, hpm, hOn, hFp, hOT⟩ := HI.out
    by_cases hlt : k < L.length
    · have hltz : (k : Int) < (L.length : Int) := by omega
      have hk0 : (0 : Int) ≤ (k : Int) := by omega
      obtain ⟨_, _, ev, hTS⟩ := hOT.reads
      injection ev with ev1 _ ev3
      subst ev1 ev3
      obtain ⟨B, o, rfl, c0, c1, c2⟩ := hTS k hlt
      obtain ⟨i, hit⟩ : ∃ i, (S' s)[i]? = some L[k] := by
        have hmem : L[k] ∈ S' s := hpm.mem_iff.2 (by rw [List.mem_iff_getElem]; exact ⟨0, by simp; omega, by simp⟩)
        obtain ⟨i, hi, e⟩ := List.mem_iff_getElem.1 hmem
        exact ⟨i, by rw [List.getElem?_eq_getElem hi, e]⟩
      have hdrop : L.drop k = L[k] :: L.drop (k + 1) := List.drop_eq_getElem_cons hlt
      rw [hdrop] at hpm
      obtain ⟨t, ht⟩ : ∃ t, L[k] = t := ⟨_, rfl⟩
      rw [ht] at c0 c1 c2 hit hpm
      have hi := (List.getElem?_eq_some_iff.1 hit).1
      have hpm2 : (swr (S' s) i zT).Perm (L.drop (k + 1)) := by
        have h1 := swr_perm (S' s) i zT hi
        rw [(List.getElem?_eq_some_iff.1 hit).2] at h1
        exact (List.perm_cons t).1 (h1.trans hpm)
      have bA : Below wr.heap.size wr (wr.alloc (.cells #[.int .u64 t.1, .int .u64 t.2.1, .int .i64 t.2.2] 27)) := (Below.refl _ _).alloc (Nat.le_refl _) _
      have hd := drop_some _ (hRn.below bA) hs hit
      have e0 : (wr.alloc (.cells #[.int .u64 t.1, .int .u64 t.2.1, .int .i64 t.2.2] 27)).cell? ⟨wr.heap.size, 0, none⟩ = some (.int .u64 t.1) := World.cell?_alloc_at _ _ _ _ rfl
      have HH := Lib.hid (And.intro hoth (And.intro hpm2 (And.intro hOn (And.intro hFp (And.intro hOT bA)))))
      clear hoth hpm hpm2 hOn hFp hOT bA hRn HI hdrop ht hTS hit hi
      go_wp2_with (go_at_call 71; with_reducible refine hd.mono ?_; rintro e w2 ⟨rfl, V2, M2, hRn2, hO2, hF2⟩; have HR2 := Lib.hid (And.intro hRn2 (And.intro hO2 hF2)); clear hRn2 hO2 hF2 hd)
      go_roundg (L.length - (k + 1))
      case measure => omega
      case rel =>
        obtain ⟨hoth, hpm2, hOn, hFp, hOT, bA⟩ := HH.out
        have hO2 : Only (Fp V r b) wr w2 := (Only.below bA).trans (HR2.out.2.1.more hFp)
        refine ⟨k + 1, ⟨_, rfl⟩, by go_num, by omega, by omega, V2, _, M2, HR2.out.1, fun j hj => ?_, ?_, hOn.trans hO2, fun q hq => hFp q (HR2.out.2.2 q hq), hOT.only hO2 HX.out⟩
        · unfold upd; rw [if_neg hj]; exact hoth j hj
        · have e : upd S' s (swr (S' s) i zT) s = swr (S' s) i zT := by unfold upd; rw [if_pos rfl]
          rw [e]; exact hpm2
    · have hltz : ¬ (k : Int) < (L.length : Int) := by omega
      go_wp2
      go_ret
      refine ⟨_, rfl, hOT, V', ⟨M', ?_⟩, hOn, hFp⟩
      have e : S' = upd S s [] := by
        funext j
        unfold upd
        by_cases hj : j = s
        · subst hj
          rw [if_pos rfl]
          rw [List.drop_of_length_le (by omega)] at hpm
          exact hpm.eq_nil
        · rw [if_neg hj]; exact hoth j hj
      rw [← e]; exact hRn
end Go.Proofs.YtfclmbneimbmnaaDoor
