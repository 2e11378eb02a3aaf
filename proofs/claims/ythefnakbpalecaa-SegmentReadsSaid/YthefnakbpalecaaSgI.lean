/- The other reader: Raw and Text; and every read in one form. -/
import Derived.Test.YthefnakbpalecaaMaG
import Derived.Test.YthefnakbpalecaaSgB
import Derived.Test.YthefnakbpalecaaLaws
import Derived.Test.YthefnakbpalecaaNbA
import Derived.Test.YthefnakbpalecaaSgA
namespace Go.Proofs.Ythefnakbpalecaa
open Go.RowKit


/-- Raw failed. -/
def RawF (b : Nat) (w : World) (e : Ending) (w' : World) : Prop := e = .returned (.slice none 0 0) ∧ RF w' b [] true ∧ Rd b w w'
set_option maxHeartbeats 1000000 in
theorem rawf_neg (b : Nat) (n : Int) (ds : List Nat) (bad : Bool) (w : World) (hr : RF w b ds bad) (hn : n < 0) : Calls Try.prog 116 #[.pointer (some ⟨b, 0, none⟩), .int .i64 n] w (RawF b w) := by
  have HF := Lib.hid (fail_rf b ds bad w hr)
  have hd : decide (n < 0) = true := by simp; omega
  clear hr hn
  go_enter Try.func116, Try.ntmps116
  go_wp2_with (go_at_call 115; refine (HF.out).mono ?_; rintro e w2 ⟨rfl, hr2, ht2⟩)
  go_ret
  exact ⟨rfl, hr2, ht2⟩
set_option maxHeartbeats 1000000 in
theorem rawf_over (b n : Nat) (ds : List Nat) (bad : Bool) (w : World) (hr : RF w b ds bad) (hn : ds.length < n) : Calls Try.prog 116 #[.pointer (some ⟨b, 0, none⟩), .int .i64 (n : Int)] w (RawF b w) := by
  have HF := Lib.hid (fail_rf b ds bad w hr)
  obtain ⟨v, h1, h2, h3, h4⟩ := hr
  obtain ⟨L, hL⟩ : ∃ L, ds.length = L := ⟨_, rfl⟩
  obtain ⟨a, cap, rfl⟩ := h2.shapeN' hL
  obtain ⟨c0, c1, f0, f1⟩ := two_cells h1
  rw [hL] at hn
  have hd : decide ((n : Int) < 0) = false := by simp
  have he : decide ((L : Int) < (n : Int)) = true := by simp; omega
  clear h1 h2 h3 h4 hL
  go_enter Try.func116, Try.ntmps116
  go_wp2_with (go_at_call 115; refine (HF.out).mono ?_; rintro e w2 ⟨rfl, hr2, ht2⟩)
  go_ret
  exact ⟨rfl, hr2, ht2⟩
/-- Raw answered. -/
def RawA (b : Nat) (w : World) (xs rest : List Nat) (bad : Bool) (e : Ending) (w' : World) : Prop := ∃ v, e = .returned v ∧ RB w' v xs ∧ RF w' b rest bad ∧ Rd b w w'
theorem raws {w w1 : World} {b n L cap k c : Nat} {x y : Addr} {v1 : Value} {ds : List Nat} {bad : Bool} (hh : w1.heap[b]? = some (.cells #[.slice (some x) L cap, .bool bad] 122 (0, 0))) (hbl : b < w.heap.size) (hb1 : Below w.heap.size w w1)
    (ho : OB w1 w.heap.size v1 ([] ++ ds.take n)) (h : RB w (.slice (some x) L cap) ds) (h3 : Far b (Value.slice (some x) L cap)) (h4 : bad = true → ds = []) (hn : n ≤ ds.length) (hy : y = x.add n ∨ (n = ds.length ∧ y = x)) (hk : k = ds.length - n) (hkc : k ≤ c) (hcm : c ≤ maxLen) :
    RawA b w (ds.take n) (ds.drop n) bad (.returned v1) (w1.setCell ⟨b, 0, none⟩ (.slice (some y) k c)) := by
  have ht : Rd b w1 (w1.setCell ⟨b, 0, none⟩ (.slice (some y) k c)) := Rd.set (Turn.refl _ _ _) 0 _
  have hn1 : v1.ownBlock ≠ some b := fun e => by have := (World.ownsRow.lt ho b e).1; omega
  have hb2 := own_addr (n := k) (c := c) h3 (y := y) (hy.elim (fun h => .inr ⟨n, h⟩) (fun h => .inl h.2))
  have hd := rb_drop (h.kept hb1) n hn (hy.elim .inl (fun h => .inr h.1)) hk hkc hcm
  rw [List.nil_append] at ho
  have hr := ho.rb (fun c hc => h.1 c (List.mem_of_mem_take hc)) (by have := h.2.1; rw [List.length_take]; omega)
  exact ⟨v1, rfl, hr.turned ht hn1, ⟨_, heap_set hh 0 _, hd.turned ht hb2.ne, hb2, fun hb => by rw [h4 hb]; simp⟩, Rd.trans (Turn.below hb1) ht⟩
set_option maxHeartbeats 2000000 in
theorem rawf_yes (b n : Nat) (ds : List Nat) (bad : Bool) (w : World) (hr : RF w b ds bad) (hn : n ≤ ds.length) (hl : ds.length ≤ 140737488351232) :
    Calls Try.prog 116 #[.pointer (some ⟨b, 0, none⟩), .int .i64 (n : Int)] w (RawA b w (ds.take n) (ds.drop n) bad) := by
  obtain ⟨v, h1, h2, h3, h4⟩ := hr
  obtain ⟨c0, c1, f0, f1⟩ := two_cells h1
  have hbl := lt_of_block h1
  have hd : decide ((n : Int) < 0) = false := by simp
  have hA : Below w.heap.size w (w.alloc (.cells #[] 5)) := (Below.refl _ _).alloc (Nat.le_refl _) _
  have HOE := Lib.hid (ob_empty w _ rfl)
  have H1 := Lib.hid h1
  have H4 := Lib.hid h4
  have HA := Lib.hid hA
  rcases h2.2.2 with ⟨hv, hd0⟩ | ⟨x, cap, hv, hcl, hcm, hcell⟩
  · subst hv
    subst hd0
    obtain rfl : n = 0 := by simpa using hn
    have HB := Lib.hid hbl
    obtain ⟨ca, _, fa, _⟩ := two_cells ((hA.block b hbl).trans h1)
    clear h1 h2 h3 h4 hA hbl hn
    go_enter Try.func116, Try.ntmps116
    go_wp2_with (at_builtin; refine append_rb rfl (.tmp 19) (.tmp 25) rfl w.heap.size _ _ [] [] rfl rfl HOE.out (RB.nil _) (by simp) (by simp) ?_; intro v1 w1 ho1 hg1; have hb1 : Below w.heap.size w w1 := HOE.out.below hg1 HA.out (by simp); have he1 := (hb1.block b HB.out).trans H1.out; obtain ⟨d0, d1, g0, g1⟩ := two_cells he1; clear hg1)
    go_ret
    have hn1 : v1.ownBlock ≠ some b := fun e => by have := (World.ownsRow.lt ho1 b e).1; have := HB.out; omega
    have ht : Rd b w1 (w1.setCell ⟨b, 0, none⟩ (.slice none 0 0)) := Rd.set (Turn.refl _ _ _) 0 _
    exact ⟨v1, rfl, (ho1.rb (by simp) (by simp)).turned ht hn1, ⟨_, heap_set he1 0 _, RB.nil _, Far.nil _, fun _ => rfl⟩, Rd.trans (Turn.below hb1) ht⟩
  · obtain ⟨L, hL⟩ : ∃ L, ds.length = L := ⟨_, rfl⟩
    rw [hL] at hv hcl hn
    subst hv
    have HT := Lib.hid ((rb_take h2 n (by omega)).kept hA)
    have H2 := Lib.hid h2
    have H3 := Lib.hid h3
    have HL := Lib.hid hL
    have HB := Lib.hid hbl
    have he : decide ((L : Int) < (n : Int)) = false := by simp; omega
    have hlt : (ds.take n).length ≤ 140737488351232 := by rw [List.length_take]; omega
    obtain ⟨ca, _, fa, _⟩ := two_cells ((hA.block b hbl).trans h1)
    clear h1 h2 h3 h4 hcell hL hA hbl
    by_cases hcn : cap = n
    · obtain rfl : L = n := by omega
      subst hcn
      go_enter Try.func116, Try.ntmps116
      go_wp2_with (at_builtin; refine append_rb rfl (.tmp 19) (.tmp 25) rfl w.heap.size _ _ [] (ds.take cap) rfl rfl HOE.out HT.out (by simp only [List.length_nil]; omega) (by simp) ?_; intro v1 w1 ho1 hg1; have hb1 : Below w.heap.size w w1 := HOE.out.below hg1 HA.out (by simp); have he1 := (hb1.block b HB.out).trans H1.out; obtain ⟨d0, d1, g0, g1⟩ := two_cells he1; clear hg1)
      go_ret
      exact raws he1 HB.out hb1 ho1 H2.out H3.out H4.out (by rw [HL.out]; exact Nat.le_refl _) (.inr ⟨HL.out.symm, rfl⟩) (by rw [HL.out]; simp) (by simp) (by simp)
    · go_enter Try.func116, Try.ntmps116
      go_wp2_with (at_builtin; refine append_rb rfl (.tmp 19) (.tmp 25) rfl w.heap.size _ _ [] (ds.take n) rfl rfl HOE.out HT.out (by simp only [List.length_nil]; omega) (by simp) ?_; intro v1 w1 ho1 hg1; have hb1 : Below w.heap.size w w1 := HOE.out.below hg1 HA.out (by simp); have he1 := (hb1.block b HB.out).trans H1.out; obtain ⟨d0, d1, g0, g1⟩ := two_cells he1; clear hg1)
      go_ret
      exact raws he1 HB.out hb1 ho1 H2.out H3.out H4.out (by rw [HL.out]; exact hn) (.inl rfl) (by rw [HL.out]) (by omega) (by omega)


set_option maxHeartbeats 1000000 in
theorem textf_neg (b : Nat) (n : Int) (ds : List Nat) (bad : Bool) (w : World) (hr : RF w b ds bad) (hn : n < 0) :
    Calls Try.prog 75 #[.pointer (some ⟨b, 0, none⟩), .int .i64 n] w (GotF b w (.string ByteArray.empty) ((rText n ds).map textv)) := by
  have HQ := Lib.hid (show (rText n ds).map textv = none by unfold rText; rw [if_pos hn]; rfl)
  obtain ⟨R, hR⟩ : ∃ R, (rText n ds).map textv = R := ⟨_, rfl⟩
  rw [hR] at HQ ⊢
  have HF := Lib.hid (fail_rf b ds bad w hr)
  have hd : decide (n < 0) = true := by simp; omega
  clear hr hn hR
  go_enter Try.func75, Try.ntmps75
  go_wp2_with (go_at_call 115; refine (HF.out).mono ?_; rintro e w2 ⟨rfl, hr2, ht2⟩)
  go_ret
  exact GotF.no HQ.out hr2 ht2
set_option maxHeartbeats 2000000 in
theorem textf_pos (b m : Nat) (ds : List Nat) (bad : Bool) (w : World) (hr : RF w b ds bad) (h63 : m ≤ 9223372036854775807) (hl : ds.length ≤ 140737488351232) :
    Calls Try.prog 75 #[.pointer (some ⟨b, 0, none⟩), .int .i64 (m : Int)] w (GotF b w (.string ByteArray.empty) ((rText (m : Int) ds).map textv)) := by
  have HN := Lib.hid (num_rf b m ds bad w hr)
  have hd : decide ((m : Int) < 0) = false := by simp
  have hw : IntKind.u64.wrap (m : Int) = (m : Int) := IntWalk.u64_in _ ⟨by omega, by omega⟩
  cases hrn : rNum m ds with
  | none =>
    have HQ := Lib.hid (show (rText (m : Int) ds).map textv = none by unfold rText; rw [if_neg (by omega), Int.toNat_natCast, hrn]; rfl)
    obtain ⟨R, hR⟩ : ∃ R, (rText (m : Int) ds).map textv = R := ⟨_, rfl⟩
    rw [hR] at HQ ⊢
    rw [hrn] at HN
    clear hr hR hrn hl
    go_enter Try.func75, Try.ntmps75
    go_wp2_with fail
    refine HN.out.mono ?_
    rintro e w1 ⟨hno, _⟩
    obtain ⟨rfl, hr1, ht1⟩ := hno rfl
    clear hno
    have HY := Lib.hid (rawf_yes b 0 [] true w1 hr1 (by simp) (by simp))
    obtain ⟨v, g1, g2, g3, g4⟩ := hr1
    obtain ⟨a, cap, rfl⟩ := g2.shapeN' (n := 0) rfl
    obtain ⟨c0, c1, f0, f1⟩ := two_cells g1
    clear g1 g2 g3 g4
    go_wp2_with (go_at_call 116; refine HY.out.mono ?_; rintro e w2 ⟨y, rfl, hy, hr2, ht2⟩; have hs := rb_string (P := Try.prog) hy 28 9 5 Try.underlying28 Try.underlying5 Try.underlying9; obtain ⟨ya, yc, rfl⟩ := hy.shapeN' (n := 0) rfl)
    go_ret
    exact GotF.no HQ.out hr2 (ht1.trans ht2)
  | some p =>
    obtain ⟨n, rest⟩ := p
    have HQ : (rText (m : Int) ds).map textv = if n ≤ rest.length then some (.string (str (rest.take n)), rest.drop n) else none := by
      unfold rText; rw [if_neg (by omega), Int.toNat_natCast, hrn]
      dsimp only
      split <;> rfl
    rw [HQ]
    rw [hrn] at HN
    have hnm : n ≤ m := by
      unfold rNum at hrn
      split at hrn
      · split at hrn
        · simp only [Option.some.injEq, Prod.mk.injEq] at hrn
          omega
        · cases hrn
      · cases hrn
    have hwn : IntKind.i64.wrap (n : Int) = (n : Int) := IntWalk.i64_in _ ⟨by omega, by omega⟩
    clear hr hrn HQ hl
    obtain ⟨L, hL⟩ : ∃ L, rest.length = L := ⟨_, rfl⟩
    rw [hL]
    by_cases hle : n ≤ L
    · rw [if_pos hle]
      go_enter Try.func75, Try.ntmps75
      go_wp2_with fail
      refine HN.out.mono ?_
      rintro e w1 ⟨_, hyes⟩
      obtain ⟨rfl, hr1, ht1⟩ := hyes _ _ rfl
      clear hyes
      have hLb : rest.length ≤ 140737488351232 := by obtain ⟨v, _, g2, _⟩ := hr1; exact g2.2.1
      have HY := Lib.hid (rawf_yes b n rest false w1 hr1 (by omega) hLb)
      have htl : (rest.take n).length = n := by rw [List.length_take]; omega
      obtain ⟨v, g1, g2, g3, g4⟩ := hr1
      obtain ⟨a, cap, rfl⟩ := g2.shapeN' hL
      obtain ⟨c0, c1, f0, f1⟩ := two_cells g1
      have hwl : IntKind.u64.wrap (L : Int) = (L : Int) := IntWalk.u64_in _ ⟨by omega, by omega⟩
      have hdl : decide ((L : Int) < (n : Int)) = false := by simp; omega
      clear g1 g2 g3 g4
      dsimp only
      go_wp2_with (go_at_call 116; refine HY.out.mono ?_; rintro e w2 ⟨y, rfl, hy, hr2, ht2⟩; have hs := rb_string (P := Try.prog) hy 28 9 5 Try.underlying28 Try.underlying5 Try.underlying9; obtain ⟨ya, yc, rfl⟩ := hy.shapeN' htl)
      go_ret
      exact GotF.yes rfl hr2 (ht1.trans ht2)
    · rw [if_neg hle]
      go_enter Try.func75, Try.ntmps75
      go_wp2_with fail
      refine HN.out.mono ?_
      rintro e w1 ⟨_, hyes⟩
      obtain ⟨rfl, hr1, ht1⟩ := hyes _ _ rfl
      clear hyes
      have hLb : rest.length ≤ 140737488351232 := by obtain ⟨v, _, g2, _⟩ := hr1; exact g2.2.1
      have HX := Lib.hid (fail_rf b rest false w1 hr1)
      obtain ⟨v, g1, g2, g3, g4⟩ := hr1
      obtain ⟨a, cap, rfl⟩ := g2.shapeN' hL
      obtain ⟨c0, c1, f0, f1⟩ := two_cells g1
      have hwl : IntKind.u64.wrap (L : Int) = (L : Int) := IntWalk.u64_in _ ⟨by omega, by omega⟩
      have hdl : decide ((L : Int) < (n : Int)) = true := by simp; omega
      clear g1 g2 g3 g4
      dsimp only
      go_wp2_with (go_at_call 115; refine HX.out.mono ?_; rintro e w2 ⟨rfl, hr2, ht2⟩)
      go_ret
      exact GotF.no rfl hr2 (ht1.trans ht2)
theorem text_rf (b : Nat) (n : Int) (ds : List Nat) (bad : Bool) (w : World) (hr : RF w b ds bad) (h63 : n ≤ 9223372036854775807) (hl : ds.length ≤ 140737488351232) :
    Calls Try.prog 75 #[.pointer (some ⟨b, 0, none⟩), .int .i64 n] w (GotF b w (.string ByteArray.empty) ((rText n ds).map textv)) := by
  by_cases hn : n < 0
  · exact textf_neg b n ds bad w hr hn
  · obtain ⟨m, rfl⟩ : ∃ m : Nat, n = (m : Int) := ⟨n.toNat, by omega⟩
    exact textf_pos b m ds bad w hr (by omega) hl

theorem num_rf3 (b most : Nat) (m : Int) (em : m = (most : Int)) (ds : List Nat) (bad : Bool) (w : World) (hr : RF w b ds bad) :
    Calls Try.prog 73 #[.pointer (some ⟨b, 0, none⟩), .int .u64 m] w fun e w' => e = .returned (.int .u64 ((nN most ds : Nat) : Int)) ∧ RF w' b (nR most ds) (nB most ds) ∧ Rd b w w' := by
  subst em
  exact num_rf1 b most ds bad w hr
theorem text_rf1 (b : Nat) (n : Int) (ds : List Nat) (bad : Bool) (w : World) (hr : RF w b ds bad) (h63 : n ≤ 9223372036854775807) (hl : ds.length ≤ 140737488351232) :
    Calls Try.prog 75 #[.pointer (some ⟨b, 0, none⟩), .int .i64 n] w fun e w' => e = .returned (.string (str (tN n ds))) ∧ RF w' b (tR n ds) (tB n ds) ∧ Rd b w w' := by
  refine (text_rf b n ds bad w hr h63 hl).mono fun e w' h => ?_
  unfold tN tR tB
  cases hq : rText n ds with
  | none =>
    obtain ⟨h1, h2, h3⟩ := h.1 (by rw [hq]; rfl)
    exact ⟨h1, h2, h3⟩
  | some p => exact h.2 _ _ (by rw [hq]; rfl)
end Go.Proofs.Ythefnakbpalecaa
