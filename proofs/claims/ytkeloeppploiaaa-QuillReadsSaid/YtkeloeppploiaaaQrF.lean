/- The other reader: Raw. -/
import Derived.Test.YtkeloeppploiaaaQrE
namespace Go.Proofs.Ytkeloeppploiaaa
open Go.RowKit

/-- Raw failed. -/
def RawF (b : Nat) (w : World) (e : Ending) (w' : World) : Prop := e = .returned (.slice none 0 0) ∧ RF w' b [] true ∧ Rd b w w'
set_option maxHeartbeats 1000000 in
theorem rawf_neg (b : Nat) (n : Int) (ds : List Nat) (bad : Bool) (w : World) (hr : RF w b ds bad) (hn : n < 0) : Calls Try.prog 53 #[.pointer (some ⟨b, 0, none⟩), .int .i64 n] w (RawF b w) := by
  have HF := Lib.hid (fail_rf b ds bad w hr)
  have hd : decide (n < 0) = true := by simp; omega
  clear hr hn
  go_enter Try.func53, Try.ntmps53
  go_wp2_with (go_at_call 55; refine (HF.out).mono ?_; rintro e w2 ⟨rfl, hr2, ht2⟩)
  go_ret
  exact ⟨rfl, hr2, ht2⟩
set_option maxHeartbeats 1000000 in
theorem rawf_over (b n : Nat) (ds : List Nat) (bad : Bool) (w : World) (hr : RF w b ds bad) (hn : ds.length < n) : Calls Try.prog 53 #[.pointer (some ⟨b, 0, none⟩), .int .i64 (n : Int)] w (RawF b w) := by
  have HF := Lib.hid (fail_rf b ds bad w hr)
  obtain ⟨v, h1, h2, h3, h4⟩ := hr
  obtain ⟨L, hL⟩ : ∃ L, ds.length = L := ⟨_, rfl⟩
  obtain ⟨a, cap, rfl⟩ := h2.shapeN' hL
  obtain ⟨c0, c1, f0, f1⟩ := two_cells h1
  rw [hL] at hn
  have hd : decide ((n : Int) < 0) = false := by simp
  have he : decide ((L : Int) < (n : Int)) = true := by simp; omega
  clear h1 h2 h3 h4 hL
  go_enter Try.func53, Try.ntmps53
  go_wp2_with (go_at_call 55; refine (HF.out).mono ?_; rintro e w2 ⟨rfl, hr2, ht2⟩)
  go_ret
  exact ⟨rfl, hr2, ht2⟩
/-- Raw answered. -/
def RawA (b : Nat) (w : World) (xs rest : List Nat) (bad : Bool) (e : Ending) (w' : World) : Prop := ∃ v, e = .returned v ∧ RB w' v xs ∧ RF w' b rest bad ∧ Rd b w w'
theorem raws {w w1 : World} {b n L cap k c : Nat} {x y : Addr} {v1 : Value} {ds : List Nat} {bad : Bool} (hh : w1.heap[b]? = some (.cells #[.slice (some x) L cap, .bool bad] 47 (0, 0))) (hbl : b < w.heap.size) (hb1 : Below w.heap.size w w1)
    (ho : OB w1 w.heap.size v1 ([] ++ ds.take n)) (h : RB w (.slice (some x) L cap) ds) (h3 : (Value.slice (some x) L cap).ownBlock ≠ some b) (h4 : bad = true → ds = []) (hn : n ≤ ds.length) (hy : y = x.add n ∨ (n = ds.length ∧ y = x)) (hk : k = ds.length - n) (hkc : k ≤ c) (hcm : c ≤ maxLen) :
    RawA b w (ds.take n) (ds.drop n) bad (.returned v1) (w1.setCell ⟨b, 0, none⟩ (.slice (some y) k c)) := by
  have ht : Rd b w1 (w1.setCell ⟨b, 0, none⟩ (.slice (some y) k c)) := Rd.set (Turn.refl _ _ _) 0 _
  have hn1 : v1.ownBlock ≠ some b := fun e => by have := (World.ownsRow.lt ho b e).1; omega
  have hb2 := own_addr (n := k) (c := c) h3 (y := y) (hy.elim (fun h => .inr ⟨n, h⟩) (fun h => .inl h.2))
  have hd := rb_drop (h.kept hb1) n hn (hy.elim .inl (fun h => .inr h.1)) hk hkc hcm
  rw [List.nil_append] at ho
  have hr := ho.rb (fun c hc => h.1 c (List.mem_of_mem_take hc)) (by have := h.2.1; rw [List.length_take]; omega)
  exact ⟨v1, rfl, hr.turned ht hn1, ⟨_, heap_set hh 0 _, hd.turned ht hb2, hb2, fun hb => by rw [h4 hb]; simp⟩, Rd.trans (Turn.below hb1) ht⟩
set_option maxHeartbeats 2000000 in
theorem rawf_yes (b n : Nat) (ds : List Nat) (bad : Bool) (w : World) (hr : RF w b ds bad) (hn : n ≤ ds.length) (hl : ds.length ≤ 140737488351232) :
    Calls Try.prog 53 #[.pointer (some ⟨b, 0, none⟩), .int .i64 (n : Int)] w (RawA b w (ds.take n) (ds.drop n) bad) := by
  obtain ⟨v, h1, h2, h3, h4⟩ := hr
  obtain ⟨c0, c1, f0, f1⟩ := two_cells h1
  have hbl := lt_of_block h1
  have hd : decide ((n : Int) < 0) = false := by simp
  have hA : Below w.heap.size w (w.alloc (.cells #[] 5)) := (Below.refl _ _).alloc (Nat.le_refl _) _
  have HOE := Lib.hid (ob_empty w _ rfl)
  have H1 := Lib.hid h1
  have H4 := Lib.hid h4
  have HA := Lib.hid hA
  rcases h2.2.2 with ⟨hv, hd0⟩ | ⟨x, cap, hv, hcl, hcm, hcell⟩
  · subst hv
    subst hd0
    obtain rfl : n = 0 := by simpa using hn
    have HB := Lib.hid hbl
    obtain ⟨ca, _, fa, _⟩ := two_cells ((hA.block b hbl).trans h1)
    clear h1 h2 h3 h4 hA hbl hn
    go_enter Try.func53, Try.ntmps53
    go_wp2_with (at_builtin; refine append_rb rfl (.tmp 19) (.tmp 25) rfl w.heap.size _ _ [] [] rfl rfl HOE.out (RB.nil _) (by simp) (by simp) ?_; intro v1 w1 ho1 hg1; have hb1 : Below w.heap.size w w1 := HOE.out.below hg1 HA.out (by simp); have he1 := (hb1.block b HB.out).trans H1.out; obtain ⟨d0, d1, g0, g1⟩ := two_cells he1; clear hg1)
    go_ret
    have hn1 : v1.ownBlock ≠ some b := fun e => by have := (World.ownsRow.lt ho1 b e).1; have := HB.out; omega
    have ht : Rd b w1 (w1.setCell ⟨b, 0, none⟩ (.slice none 0 0)) := Rd.set (Turn.refl _ _ _) 0 _
    exact ⟨v1, rfl, (ho1.rb (by simp) (by simp)).turned ht hn1, ⟨_, heap_set he1 0 _, RB.nil _, by simp [Value.ownBlock], fun _ => rfl⟩, Rd.trans (Turn.below hb1) ht⟩
  · obtain ⟨L, hL⟩ : ∃ L, ds.length = L := ⟨_, rfl⟩
    rw [hL] at hv hcl hn
    subst hv
    have HT := Lib.hid ((rb_take h2 n (by omega)).kept hA)
    have H2 := Lib.hid h2
    have H3 := Lib.hid h3
    have HL := Lib.hid hL
    have HB := Lib.hid hbl
    have he : decide ((L : Int) < (n : Int)) = false := by simp; omega
    have hlt : (ds.take n).length ≤ 140737488351232 := by rw [List.length_take]; omega
    obtain ⟨ca, _, fa, _⟩ := two_cells ((hA.block b hbl).trans h1)
    clear h1 h2 h3 h4 hcell hL hA hbl
    by_cases hcn : cap = n
    · obtain rfl : L = n := by omega
      subst hcn
      go_enter Try.func53, Try.ntmps53
      go_wp2_with (at_builtin; refine append_rb rfl (.tmp 19) (.tmp 25) rfl w.heap.size _ _ [] (ds.take cap) rfl rfl HOE.out HT.out (by simp only [List.length_nil]; omega) (by simp) ?_; intro v1 w1 ho1 hg1; have hb1 : Below w.heap.size w w1 := HOE.out.below hg1 HA.out (by simp); have he1 := (hb1.block b HB.out).trans H1.out; obtain ⟨d0, d1, g0, g1⟩ := two_cells he1; clear hg1)
      go_ret
      exact raws he1 HB.out hb1 ho1 H2.out H3.out H4.out (by rw [HL.out]; exact Nat.le_refl _) (.inr ⟨HL.out.symm, rfl⟩) (by rw [HL.out]; simp) (by simp) (by simp)
    · go_enter Try.func53, Try.ntmps53
      go_wp2_with (at_builtin; refine append_rb rfl (.tmp 19) (.tmp 25) rfl w.heap.size _ _ [] (ds.take n) rfl rfl HOE.out HT.out (by simp only [List.length_nil]; omega) (by simp) ?_; intro v1 w1 ho1 hg1; have hb1 : Below w.heap.size w w1 := HOE.out.below hg1 HA.out (by simp); have he1 := (hb1.block b HB.out).trans H1.out; obtain ⟨d0, d1, g0, g1⟩ := two_cells he1; clear hg1)
      go_ret
      exact raws he1 HB.out hb1 ho1 H2.out H3.out H4.out (by rw [HL.out]; exact hn) (.inl rfl) (by rw [HL.out]) (by omega) (by omega)
end Go.Proofs.Ytkeloeppploiaaa
