/- Replies: what was written is read as it was.   Session: a table's clone.   Session: what a table that no call made tells.   Session: what was written as a table reads back.   Session: clones, tables that come back from their bytes, and none (the walk of the law).   Session: how a call comes in by itself; the law of clones for every input. -/
import Derived.Test.YtnhaakdjijjinaaMRd
import Derived.Test.YtnhaakdjijjinaaMRb
import Derived.Test.YtnhaakdjijjinaaMSg
import Derived.Test.YtnhaakdjijjinaaMSe
import Derived.Maps.RangeWalk
import Derived.Test.YtnhaakdjijjinaaMSf
import Derived.WideShapes
namespace Go.Proofs.Ytnhaakdjijjinaa
section
open Go.RowKit
theorem q_back (m : Nat) (hm : m < 18446744073709551616) : ∀ (l : List Nat) (rest : List Nat), (∀ x ∈ l, x ≤ m) → qL m l.length (nums l ++ rest) = l ∧ qR m l.length (nums l ++ rest) = rest
  | [], rest, _ => ⟨rfl, rfl⟩
  | x :: l, rest, h => by
    have hx : x ≤ m := h x (by simp)
    obtain ⟨e1, e2, -⟩ := nN_back m x (nums l ++ rest) (by omega) hx
    obtain ⟨i1, i2⟩ := q_back m hm l rest (fun y hy => h y (List.mem_cons_of_mem _ hy))
    rw [nums_cons, List.append_assoc, List.length_cons, qL, qR, e1, e2, i1, i2]
    exact ⟨rfl, rfl⟩
/-- The numbers of a ticket that a sound reply has. -/
def TkS (n1 n2 n3 n4 n5 n6 n7 n8 n9 : Nat) : Prop := (n1 = 0 ∧ n2 = 0 ∧ n3 = 0 ∧ n4 = 0 ∧ n5 = 0 ∧ n6 = 0 ∧ n7 = 0 ∧ n8 = 0 ∧ n9 = 0) ∨ (soundB n2 n3 n4 n5 n6 n7 n8 n9 = true ∧ n1 ≤ 18446744073709551615 ∧ n2 ≤ 15 ∧ n3 ≤ 4 ∧ n4 ≤ 5 ∧ n5 ≤ 1152921504606846976 ∧ n6 ≤ 1125899906842624 ∧ n7 ≤ 1125899906842624 ∧ n8 ≤ 1125899906842624 ∧ n9 ≤ 2147483648)
/-- A ticket's nine numbers read back, whatever is behind. -/
theorem nine_back2 (n1 n2 n3 n4 n5 n6 n7 n8 n9 : Nat) (h1 : n1 ≤ 18446744073709551615) (h2 : n2 ≤ 15) (h3 : n3 ≤ 4) (h4 : n4 ≤ 5) (h5 : n5 ≤ 1152921504606846976) (h6 : n6 ≤ 1125899906842624) (h7 : n7 ≤ 1125899906842624) (h8 : n8 ≤ 1125899906842624) (h9 : n9 ≤ 2147483648) (more : List Nat) :
    nine (nums [n1, n2, n3, n4, n5, n6, n7, n8, n9] ++ more) = ⟨n1, n2, n3, n4, n5, n6, n7, n8, n9⟩ ∧ nineB (nums [n1, n2, n3, n4, n5, n6, n7, n8, n9] ++ more) = false ∧ nineR (nums [n1, n2, n3, n4, n5, n6, n7, n8, n9] ++ more) = more := by
  unfold nine nineB nineR
  rw [nums_nine]
  simp only [List.append_assoc, List.nil_append]
  obtain ⟨a1, r1, -⟩ := nN_back 18446744073709551615 n1 (num 0 n2 ++ (num 0 n3 ++ (num 0 n4 ++ (num 0 n5 ++ (num 0 n6 ++ (num 0 n7 ++ (num 0 n8 ++ (num 0 n9 ++ more)))))))) (by omega) h1
  obtain ⟨a2, r2, -⟩ := nN_back 15 n2 (num 0 n3 ++ (num 0 n4 ++ (num 0 n5 ++ (num 0 n6 ++ (num 0 n7 ++ (num 0 n8 ++ (num 0 n9 ++ more))))))) (by omega) h2
  obtain ⟨a3, r3, -⟩ := nN_back 4 n3 (num 0 n4 ++ (num 0 n5 ++ (num 0 n6 ++ (num 0 n7 ++ (num 0 n8 ++ (num 0 n9 ++ more)))))) (by omega) h3
  obtain ⟨a4, r4, -⟩ := nN_back 5 n4 (num 0 n5 ++ (num 0 n6 ++ (num 0 n7 ++ (num 0 n8 ++ (num 0 n9 ++ more))))) (by omega) h4
  obtain ⟨a5, r5, -⟩ := nN_back 1152921504606846976 n5 (num 0 n6 ++ (num 0 n7 ++ (num 0 n8 ++ (num 0 n9 ++ more)))) (by omega) h5
  obtain ⟨a6, r6, -⟩ := nN_back 1125899906842624 n6 (num 0 n7 ++ (num 0 n8 ++ (num 0 n9 ++ more))) (by omega) h6
  obtain ⟨a7, r7, -⟩ := nN_back 1125899906842624 n7 (num 0 n8 ++ (num 0 n9 ++ more)) (by omega) h7
  obtain ⟨a8, r8, -⟩ := nN_back 1125899906842624 n8 (num 0 n9 ++ more) (by omega) h8
  obtain ⟨a9, r9, b9⟩ := nN_back 2147483648 n9 more (by omega) h9
  simp only [r1, r2, r3, r4, r5, r6, r7, r8, r9, a1, a2, a3, a4, a5, a6, a7, a8, a9, b9, and_self]
/-- What is read of a sound reply's bytes. -/
theorem y_back (c : Nat) (tm : Int) (n1 n2 n3 n4 n5 n6 n7 n8 n9 : Nat) (xs : List Nat) (nt de : Nat) (more : List Nat) (hc : c ≤ 99) (ht0 : -9223372036854775808 ≤ tm) (ht1 : tm ≤ 9223372036854775807) (hk : TkS n1 n2 n3 n4 n5 n6 n7 n8 n9) (hxl : xs.length ≤ 64) (hx : ∀ x ∈ xs, x < 18446744073709551616) (hnt : nt < 18446744073709551616) (hde : de ≤ 128) (ds : List Nat)
    (hds : ds = repW c tm (noT n1 n2 n3 n4 n5 n6 n7 n8 n9) [n1, n2, n3, n4, n5, n6, n7, n8, n9] xs nt de ++ more) :
    nN 99 ds = c ∧ iN (nR 99 ds) = tm ∧ yNine ds = ⟨n1, n2, n3, n4, n5, n6, n7, n8, n9⟩ ∧ yXs ds = xs ∧ nN 18446744073709551615 (y6 ds) = nt ∧ nN 128 (y7 ds) = de ∧ yRest ds = more ∧ yBad ds = false := by
  have hd : ds = num 0 c ++ (intB tm ++ (flagB (!noT n1 n2 n3 n4 n5 n6 n7 n8 n9) ++ (tkW (noT n1 n2 n3 n4 n5 n6 n7 n8 n9) [n1, n2, n3, n4, n5, n6, n7, n8, n9] ++ (num 0 xs.length ++ (nums xs ++ (num 0 nt ++ (num 0 de ++ more))))))) := by
    rw [hds]
    unfold repW
    simp only [List.append_assoc]
  obtain ⟨a0, r0, -⟩ := nN_back 99 c (intB tm ++ (flagB (!noT n1 n2 n3 n4 n5 n6 n7 n8 n9) ++ (tkW (noT n1 n2 n3 n4 n5 n6 n7 n8 n9) [n1, n2, n3, n4, n5, n6, n7, n8, n9] ++ (num 0 xs.length ++ (nums xs ++ (num 0 nt ++ (num 0 de ++ more))))))) (by omega) hc
  obtain ⟨a1, r1, -⟩ := iN_back tm (flagB (!noT n1 n2 n3 n4 n5 n6 n7 n8 n9) ++ (tkW (noT n1 n2 n3 n4 n5 n6 n7 n8 n9) [n1, n2, n3, n4, n5, n6, n7, n8, n9] ++ (num 0 xs.length ++ (nums xs ++ (num 0 nt ++ (num 0 de ++ more)))))) ht0 ht1
  rw [← hd] at a0 r0
  rw [← r0] at a1 r1
  have e2 : y2 ds = _ := r1
  obtain ⟨a4, r4, -⟩ := nN_back 64 xs.length (nums xs ++ (num 0 nt ++ (num 0 de ++ more))) (by omega) hxl
  obtain ⟨a5, r5⟩ := q_back 18446744073709551615 (by omega) xs (num 0 nt ++ (num 0 de ++ more)) (fun x h => Nat.le_of_lt_succ (hx x h))
  obtain ⟨a6, r6, -⟩ := nN_back 18446744073709551615 nt (num 0 de ++ more) hnt (Nat.le_of_lt_succ hnt)
  obtain ⟨a7, r7, b7⟩ := nN_back 128 de more (by omega) hde
  have key : yNine ds = ⟨n1, n2, n3, n4, n5, n6, n7, n8, n9⟩ ∧ y4 ds = num 0 xs.length ++ (nums xs ++ (num 0 nt ++ (num 0 de ++ more))) := by
    rcases hk with ⟨rfl, rfl, rfl, rfl, rfl, rfl, rfl, rfl, rfl⟩ | ⟨hs, h1, h2, h3, h4, h5, h6, h7, h8, h9⟩
    · have hz : noT ((0 : Nat) : Int) ((0 : Nat) : Int) ((0 : Nat) : Int) ((0 : Nat) : Int) ((0 : Nat) : Int) ((0 : Nat) : Int) ((0 : Nat) : Int) ((0 : Nat) : Int) ((0 : Nat) : Int) = true := by decide
      rw [hz] at e2
      obtain ⟨f1, f2, -⟩ := nN_back 1 0 (num 0 xs.length ++ (nums xs ++ (num 0 nt ++ (num 0 de ++ more)))) (by omega) (by omega)
      have e2' : y2 ds = num 0 0 ++ (num 0 xs.length ++ (nums xs ++ (num 0 nt ++ (num 0 de ++ more)))) := e2
      have hf : fN (y2 ds) = false := by unfold fN; rw [e2', f1]; rfl
      have h3 : y3 ds = num 0 xs.length ++ (nums xs ++ (num 0 nt ++ (num 0 de ++ more))) := by unfold y3; rw [e2', f2]
      refine ⟨by unfold yNine; rw [hf]; rfl, by unfold y4; rw [hf, h3]; rfl⟩
    · have hz := zero_unsound (n1 := n1) hs
      rw [hz] at e2
      obtain ⟨f1, f2, -⟩ := nN_back 1 1 (nums [n1, n2, n3, n4, n5, n6, n7, n8, n9] ++ (num 0 xs.length ++ (nums xs ++ (num 0 nt ++ (num 0 de ++ more))))) (by omega) (by omega)
      have e2' : y2 ds = num 0 1 ++ (nums [n1, n2, n3, n4, n5, n6, n7, n8, n9] ++ (num 0 xs.length ++ (nums xs ++ (num 0 nt ++ (num 0 de ++ more))))) := e2
      have hf : fN (y2 ds) = true := by unfold fN; rw [e2', f1]; rfl
      have h3' : y3 ds = nums [n1, n2, n3, n4, n5, n6, n7, n8, n9] ++ (num 0 xs.length ++ (nums xs ++ (num 0 nt ++ (num 0 de ++ more)))) := by unfold y3; rw [e2', f2]
      obtain ⟨k1, k2, k3⟩ := nine_back2 n1 n2 n3 n4 n5 n6 n7 n8 n9 h1 h2 h3 h4 h5 h6 h7 h8 h9 (num 0 xs.length ++ (nums xs ++ (num 0 nt ++ (num 0 de ++ more))))
      have hok : tkOk (y3 ds) = true := by
        unfold tkOk
        rw [h3', k1, k2]
        unfold Nine.ok
        simpa using hs
      refine ⟨?_, ?_⟩
      · unfold yNine tkN
        rw [hf, hok, h3', k1]
        rfl
      · unfold y4 tkRest
        rw [hf, hok, h3', k3]
        rfl
  obtain ⟨hn, h4⟩ := key
  have h5 : y5 ds = nums xs ++ (num 0 nt ++ (num 0 de ++ more)) := by unfold y5; rw [h4, r4]
  have hx' : yXs ds = xs := by unfold yXs; rw [h4, a4, h5, a5]
  have h6 : y6 ds = num 0 nt ++ (num 0 de ++ more) := by unfold y6; rw [h4, a4, h5, r5]
  have h7 : y7 ds = num 0 de ++ more := by unfold y7; rw [h6, r6]
  exact ⟨a0, a1, hn, hx', by rw [h6, a6], by rw [h7, a7], by unfold yRest; rw [h7, r7], by unfold yBad; rw [h7, b7]⟩
end
section
open Go.RowKit Go.Maps
/-- A new entry, with the reference's row apart. -/
theorem Rt.add2 {Av : Nat} {W W' : World} {T mb c : Nat} {M M' : Lit → Option Value} {X : Nat → Opn} (h : Rt Av W T mb c M X) (g : W.grownBy W' (some mb)) {i : Nat} (hi : 1 ≤ i ∧ i ≤ 8) (h0 : (X i).rq = 0) (x : Opn) (hx : 0 < x.rq ∧ x.rq < 18446744073709551616) (hs : Snd x) (ac : Option Addr) (cc : Nat) (hT : Tab W' T mb (upC M (.int .u64 (i : Int)) c) M') (m1 : M' (.int .u64 (i : Int)) = some (x.req ac cc)) (m2 : ∀ l, l ≠ .int .u64 (i : Int) → M' l = M l) {B0 : Nat} (ho : OU W' B0 (.slice ac x.n cc) x.xs) (hU : ∀ s ∈ x.xs, s < 18446744073709551616) (hav : Av < B0) (hu : Us W x.a x.n x.xs) (hxa : ∀ g o, x.a = some ⟨g, o, none⟩ → 0 < x.n → g ≠ Av) :
    Rt Av W' T mb (c + 1) M' (upX X i x) := by
  have hn := h.free hi h0
  have hc : upC M (.int .u64 (i : Int)) c = c + 1 := by unfold upC; rw [hn]; rfl
  rw [hc] at hT
  refine ⟨hT, ?_, fun j h1 h2 => ?_, fun cl hcl => ?_⟩
  · have h1 := cnt_up X i x hi
    rw [h0, if_neg (by omega), if_pos hx.1] at h1
    have := h.2.1
    omega
  · by_cases ej : j = i
    · subst ej
      rw [upX_same]
      have hus := (ho.us hU).2
      refine .inr ⟨ac, cc, m1, hx.1, hx.2, hs, hus, fun g' o e => ⟨ou_fr ho g' o e, ?_⟩, hu.grown g h.1.2.isMap, hxa⟩
      have := ou_ge ho g' o e
      omega
    · rw [upX_other _ _ _ _ ej]
      exact (((h.2.2.1 j h1 h2).grown g h.1.2.isMap).mono g.size).same (m2 _ (fun e => ej (by injection e with _ e; omega)))
  · rw [m2 _ (fun e => hcl (by injection e with _ e; omega))]
    exact h.2.2.2 cl hcl
theorem cnt_congr {X Y : Nat → Opn} : ∀ k, (∀ j, 1 ≤ j → j ≤ k → (X j = Y j ∨ ((X j).rq = 0 ∧ (Y j).rq = 0))) → cntTo X k = cntTo Y k
  | 0, _ => rfl
  | k + 1, h => by
    unfold cntTo
    rw [cnt_congr k (fun j h1 h2 => h j h1 (by omega))]
    rcases h (k + 1) (by omega) (Nat.le_refl _) with e | ⟨e1, e2⟩
    · rw [e]
    · rw [e1, e2]
theorem Rt.swap {Av : Nat} {W : World} {T mb c : Nat} {M : Lit → Option Value} {X Y : Nat → Opn} (h : Rt Av W T mb c M X) (hxy : ∀ j, 1 ≤ j → j ≤ 8 → (X j = Y j ∨ ((X j).rq = 0 ∧ (Y j).rq = 0))) : Rt Av W T mb c M Y := by
  refine ⟨h.1, h.2.1.trans (cnt_congr 8 hxy), fun i h1 h2 => ?_, h.2.2.2⟩
  rcases hxy i h1 h2 with e | ⟨e1, e2⟩
  · rw [← e]; exact h.2.2.1 i h1 h2
  · rcases h.2.2.1 i h1 h2 with k | ⟨ac, cc, k1, k2, -⟩
    · exact .inl ⟨k.1, e2⟩
    · omega
theorem Rt.iter {Av : Nat} {W W' : World} {T mb c r : Nat} {M : Lit → Option Value} {X : Nat → Opn} (h : Rt Av W T mb c M X) (g : W.grownBy W' (some r)) {b n : Nat} {D : DataW Value} {left : Lit → Bool} {cnt : Nat} (hr : W.ranges Try.prog 23 vR b r n D left cnt) (hT : T ≠ r) (hmb : mb ≠ r) : Rt Av W' T mb c M X := by
  have hit : ∃ m s sn c0, W.heap[r]? = some (.mapIter m s sn c0) := by
    obtain ⟨_, _, _, _, _, _, _, _, _, h5, _⟩ := hr
    exact ⟨_, _, _, _, h5⟩
  have hU : ∀ {a : Option Addr} {k : Nat} {xs : List Nat}, Us W a k xs → Us W' a k xs := by
    intro a k xs hu
    obtain ⟨h1, h2, h3, h4⟩ := hu
    obtain ⟨_, _, _, _, hit⟩ := hit
    refine ⟨h1, h2, h3, fun i hi => ?_⟩
    obtain ⟨b, off, ha, hlt, hc⟩ := h4 i hi
    have hne : b ≠ r := by
      intro e
      subst e
      simp [World.cell?, hit] at hc
    refine ⟨b, off, ha, Nat.lt_of_lt_of_le hlt g.size, ?_⟩
    rw [World.cell?_of_block (g.block b hlt (by intro e; injection e with e; exact hne e))]
    exact hc
  refine ⟨⟨(g.block T (ex_lt h.1.1) (by intro e; injection e with e; exact hT e)).trans h.1.1, h.1.2.block (g.block mb h.1.2.lt (by intro e; injection e with e; exact hmb e))⟩, h.2.1, fun i h1 h2 => ?_, h.2.2.2⟩
  rcases h.2.2.1 i h1 h2 with k | ⟨ac, cc, k1, k2, k3, k4, k5, k6, k7, k8⟩
  · exact .inl k
  · exact .inr ⟨ac, cc, k1, k2, k3, k4, hU k5, fun g' o e => ⟨Nat.lt_of_lt_of_le (k6 g' o e).1 g.size, (k6 g' o e).2⟩, hU k7, k8⟩
set_option maxRecDepth 100000 in
set_option maxHeartbeats 8000000 in
theorem clone20_nil (w : World) : Calls Try.prog 39 #[.pointer none] w fun e w' => e = .returned (.pointer none) ∧ w = w' := by
  go_enter Try.func39, Try.ntmps39
  go_wp2_with fail
  go_ret
  exact ⟨rfl, rfl⟩
set_option maxRecDepth 100000 in
set_option maxHeartbeats 8000000 in
theorem clone20 {Av : Nat} {w : World} {T mb c : Nat} {M : Lit → Option Value} {X : Nat → Opn} (h : Rt Av w T mb c M X) (hav : Av < w.heap.size) :
    Calls Try.prog 39 #[.pointer (some ⟨T, 0, none⟩)] w fun e w' => ∃ T2 mb2 M2, e = .returned (.pointer (some ⟨T2, 0, none⟩)) ∧ w.heap.size ≤ T2 ∧ w.heap.size ≤ mb2 ∧ Rt Av w' T2 mb2 c M2 X ∧ Below w.heap.size w w' := by
  obtain ⟨nn, D, hown, hsz, hM⟩ : ∃ nn D, w.ownsMap Try.prog 23 vR mb nn D ∧ Maps.size D = c ∧ ∀ l, match M l with | some v => Maps.has D l = true ∧ ∀ z, D.atKey l z = .held v | none => Maps.has D l = false := by
    obtain ⟨D, h1, h2, h3⟩ := h.1.2
    exact ⟨c, D, h1, h2, h3⟩
  have HM : Hid (∀ l v, M l = some v → Maps.has D l = true ∧ ∀ z, D.atKey l z = .held v) := Lib.hid (fun l v e => by have := hM l; rw [e] at this; exact this)
  have HMN : Hid (∀ l, M l = none → Maps.has D l = false) := Lib.hid (fun l e => by have := hM l; rw [e] at this; exact this)
  have HOW : Hid (∀ W, Below w.heap.size w W → W.ownsMap Try.prog 23 vR mb nn D) := Lib.hid (fun W hb => by
    obtain ⟨es, clock, h1, h2⟩ := hown
    exact ⟨es, clock, (hb.block mb h.1.2.lt).trans h1, h2⟩)
  have HRTO : Hid (∀ W, Below w.heap.size w W → Rt Av W T mb c M X) := Lib.hid (fun W hb => h.kept hb)
  have HCR := Lib.hid (created_yes T mb c M w h.1)
  have HAV := Lib.hid hav
  have HMBL : Hid (mb < w.heap.size) := Lib.hid h.1.2.lt
  clear hM hown hsz h hav
  go_enter Try.func39, Try.ntmps39
  go_wp2_with fail
  refine HCR.out.mono ?_
  rintro e w0 ⟨rfl, rfl⟩
  clear HCR
  go_wp2_with fail
  refine (empty_any w).mono ?_
  rintro e W1 ⟨T2, mb2, rfl, hT2, hmb2, ht, hb⟩
  have HTT : Hid (w.heap.size ≤ T2 ∧ w.heap.size ≤ mb2 ∧ T2 ≠ mb2 ∧ T2 < W1.heap.size ∧ mb2 < W1.heap.size) := Lib.hid ⟨hT2, hmb2, ht.ne, ex_lt ht.1, ht.2.lt⟩
  have HB1 := Lib.hid hb
  have HRT2 : Hid (Rt Av W1 T2 mb2 0 (fun _ => none) (fun _ => zOp)) := Lib.hid ⟨ht, rfl, fun i _ _ => .inl ⟨rfl, rfl⟩, fun _ _ => rfl⟩
  have c0 := one_at (HRTO.out W1 hb).1.1
  have HOWN1 := Lib.hid (HOW.out W1 hb)
  clear hT2 hmb2 ht hb
  go_wp2_with (at_range; refine wpList_range_own _ rfl _ 80 rfl 23 113 keyedU rq_und _ mb nn _ rfl HOWN1.out ?_; intro w2 hrg0 hg0 hs0)
  go_frame
  obtain ⟨r, hr⟩ : ∃ r, W1.heap.size = r := ⟨_, rfl⟩
  rw [hr] at hrg0 hs0 ⊢
  have HMM : Hid (r ≠ mb2 ∧ mb ≠ mb2 ∧ w.heap.size ≤ mb2 ∧ w.heap.size ≤ r ∧ T2 < r) := Lib.hid (by have h1 := HTT.out; have h2 := HMBL.out; rw [hr] at h1; exact ⟨by omega, by omega, by omega, by omega, by omega⟩)
  have HRG := Lib.hid hrg0
  have hbw : Below W1.heap.size W1 w2 := ⟨hg0.os, hg0.tape, hg0.output, hg0.size, fun k hk => hg0.block k hk (by simp)⟩
  have HRTS := Lib.hid (HRT2.out.kept hbw)
  have HBS := Lib.hid (HB1.out.trans (hbw.mono HB1.out.size))
  have HLF0 : Hid (∀ kl, Maps.has D kl = true → M kl ≠ none) := Lib.hid (fun kl hl e => by rw [HMN.out kl e] at hl; cases hl)
  have HAG0 : Hid (∀ j : Nat, 1 ≤ j → j ≤ 8 → (Maps.has D (.int .u64 (j : Int)) = true → ((fun _ => zOp : Nat → Opn) j).rq = 0) ∧ (Maps.has D (.int .u64 (j : Int)) = false → ((fun _ => zOp : Nat → Opn) j = X j ∨ (((fun _ => zOp : Nat → Opn) j).rq = 0 ∧ (X j).rq = 0)))) := Lib.hid (fun j h1 h2 => ⟨fun _ => rfl, fun hf => .inr ⟨rfl, by
    rcases (HRTO.out w (Below.refl _ _)).2.2.1 j h1 h2 with k | ⟨ac, cc, k1, -⟩
    · exact k.2
    · have := (HM.out _ _ k1).1
      rw [hf] at this
      cases this⟩⟩)
  clear hrg0 hg0 hs0 hbw hr HRT2 HB1 c0 HOWN1
  go_loopw [4] (fun _ wr => ∃ (left : Lit → Bool) (cnt : Nat) (M2 : Lit → Option Value) (X2 : Nat → Opn) (c2 : Nat), Hid (wr.ranges Try.prog 23 vR mb r nn D left cnt) ∧ Hid (∀ kl, left kl = true → M kl ≠ none) ∧ Hid (Rt Av wr T2 mb2 c2 M2 X2) ∧ Hid (∀ j : Nat, 1 ≤ j → j ≤ 8 → (left (.int .u64 (j : Int)) = true → (X2 j).rq = 0) ∧ (left (.int .u64 (j : Int)) = false → (X2 j = X j ∨ ((X2 j).rq = 0 ∧ (X j).rq = 0)))) ∧ Hid (Below w.heap.size w wr)) (fun _ wr => wr.rangeLeft mb r)
  case atStart => exact ⟨_, _, _, _, 0, HRG, HLF0, HRTS, HAG0, HBS⟩
  case round =>
    clear HRG HLF0 HRTS HAG0 HBS
    obtain ⟨left, cnt, M2, X2, c2, HRG, HLF, HRT, HAG, HB⟩ := hrel
    go_wp2_with (at_next; refine wpList_next_ranges _ rfl _ rfl 23 keyedU vR (Value.int .u64) (fun v : Value => v) (fun key kl hkey => by obtain ⟨x, h1, -⟩ := Maps.keyOf_int_inv Try.underlying23 hkey; exact ⟨x, h1⟩) (fun v y _ => ⟨v, rfl⟩) mb r nn _ _ _ rfl HRG.out ?_ ?_)
    · intro hc0 hl0
      go_wp2_with fail
      go_ret
      have hrt := HRT.out.swap (Y := X) (fun j h1 h2 => (HAG.out j h1 h2).2 (hl0 _))
      have hc : c2 = c := hrt.2.1.trans (HRTO.out w (Below.refl _ _)).2.1.symm
      rw [hc] at hrt
      exact ⟨T2, mb2, M2, rfl, HTT.out.1, HTT.out.2.1, hrt, HB.out⟩
    · intro x v kl y ps w3 cnt1 hkey hlx hv hat hrg1 hlt hg1 hs1 hen
      obtain ⟨x', ex, rfl, -⟩ := Maps.keyOf_int_inv Try.underlying23 hkey
      cases ex
      have hMx := HLF.out _ hlx
      have hrtw := HRTO.out w (Below.refl _ _)
      have hx18 : 1 ≤ x ∧ x ≤ 8 := by
        by_cases hx : 1 ≤ x ∧ x ≤ 8
        · exact hx
        · exact absurd (hrtw.2.2.2 x hx) hMx
      obtain ⟨i, rfl⟩ : ∃ i : Nat, x = (i : Int) := ⟨x.toNat, by omega⟩
      have hi : 1 ≤ i ∧ i ≤ 8 := by omega
      rcases hrtw.2.2.1 i hi.1 hi.2 with k | ⟨ac, cc, k1, k2, k3, k4, k5, k6, k7, k8⟩
      · exact absurd k.1 hMx
      have hvy : v = (X i).req ac cc := by
        have h1 := (HM.out _ _ k1).2 (.held v)
        have h2 := hat (.held v)
        rw [h1] at h2
        have h3 : vR v = some (y, ps) := hv
        unfold vR at h3
        injection h3 with h3
        injection h3 with h3 _
        rw [← h3] at h2
        injection h2 with h2
        exact h2.symm
      have HUSW : Hid (∀ W, Below w.heap.size w W → Us W ac (X i).n (X i).xs) := Lib.hid (fun W hb => k5.kept hb)
      have HUX : Hid (∀ W, Below w.heap.size w W → Us W (X i).a (X i).n (X i).xs) := Lib.hid (fun W hb => k7.kept hb)
      have HXA := Lib.hid k8
      have HSN := Lib.hid k4
      have HQ := Lib.hid (And.intro k2 k3)
      have HN : Hid ((X i).n ≤ 64) := Lib.hid (by obtain ⟨_, _, _, _, _, _, _, _, _, _, _, _, -, -, -, -, -, -, -, -, hn, -⟩ := nat_form k4; exact hn)
      have HLN : Hid ((X i).xs.length = (X i).n) := Lib.hid k5.1
      have HUB : Hid (∀ s ∈ (X i).xs, s < 18446744073709551616) := Lib.hid k5.2.2.1
      have HX20 : Hid ((X2 i).rq = 0) := Lib.hid ((HAG.out i hi.1 hi.2).1 hlx)
      have HI := Lib.hid hi
      have hbw : Below w.heap.size w w3 := HB.out.grown hg1 HB.out.size (fun k hk => by injection hk with hk; have := HMM.out; omega)
      have hgx : Below (wr.heap.size) wr wr := Below.refl _ _
      have HRT3 : Hid (Rt Av w3 T2 mb2 c2 M2 X2) := Lib.hid (HRT.out.iter hg1 HRG.out (by have := HMM.out; omega) (by have := HMM.out; omega))
      have HRG3 := Lib.hid hrg1
      have HB3 := Lib.hid hbw
      have HLT := Lib.hid hlt
      have HC9 : Hid (c2 ≤ 8) := Lib.hid (by rw [HRT.out.2.1]; exact cntTo_le X2 8)
      subst hvy
      have hen' := hen
      clear k1 k2 k3 k4 k5 k6 k7 k8 hMx hrtw hx18 hi hv hat hrg1 hlt hg1 hbw hgx hlx hkey hs1 hen
      obtain ⟨y0, hy0⟩ : ∃ y0, X i = y0 := ⟨_, rfl⟩
      rw [hy0] at HUSW HUX HXA HSN HQ HN HLN HUB hen' ⊢
      have HXE : Hid (X i = y0) := Lib.hid hy0
      clear hy0
      obtain ⟨kd, cl0, rq, cd, tm, id, cn, st, lv, ge, fr, lf, du, tl, a, n, ca, nt, de, xs⟩ := y0
      dsimp only at HUSW HUX HXA HQ HN HLN HUB
      replace hen' : (Instr.entry (.pointer (some ⟨r, 0, none⟩))).run Try.prog w3 = .ok (.tuple #[.int .u64 (i : Int), .agg #[.int .u64 rq, .int .i64 cd, .int .i64 tm, .int .u64 id, .int .i64 cn, .int .i64 st, .int .i64 lv, .int .u64 ge, .int .i64 fr, .int .i64 lf, .int .i64 du, .int .i64 tl, .slice ac n cc, .int .u64 nt, .int .i64 de]]) w3 := hen'
      unfold Opn.req
      dsimp only
      obtain ⟨Bx, sx, -⟩ := box1 w3 #[.int .u64 rq, .int .i64 cd, .int .i64 tm, .int .u64 id, .int .i64 cn, .int .i64 st, .int .i64 lv, .int .u64 ge, .int .i64 fr, .int .i64 lf, .int .i64 du, .int .i64 tl, .slice ac n cc, .int .u64 nt, .int .i64 de] 113
      have HRT4 := Lib.hid (HRT3.out.kept Bx)
      have HT4 := Lib.hid HRT4.out.1
      have HB4 := Lib.hid (HB3.out.trans (Bx.mono HB3.out.size))
      have HRG4 : Hid ((w3.alloc (.cells #[.int .u64 rq, .int .i64 cd, .int .i64 tm, .int .u64 id, .int .i64 cn, .int .i64 st, .int .i64 lv, .int .u64 ge, .int .i64 fr, .int .i64 lf, .int .i64 du, .int .i64 tl, .slice ac n cc, .int .u64 nt, .int .i64 de] 113)).ranges Try.prog 23 vR mb r nn D (fun z => left z && !z.sameKey (.int .u64 (i : Int))) cnt1) := Lib.hid (HRG3.out.alloc _)
      have HUS4 := Lib.hid (HUSW.out _ HB4.out)
      obtain ⟨g, hg⟩ : ∃ g, w3.heap.size = g := ⟨_, rfl⟩
      have HGG : Hid (mb2 < g) := Lib.hid (by rw [← hg]; exact HRT3.out.1.2.lt)
      have HNE : Hid (T2 ≠ mb2) := Lib.hid HRT3.out.1.ne
      rw [hg] at sx
      have HG4 := Lib.hid sx
      clear Bx sx HRT3 HRG3 HB3 HUSW
      go_wp2_with fail
      try rw [hg]
      clear hg hen'
      generalize w3.alloc (.cells #[.int .u64 rq, .int .i64 cd, .int .i64 tm, .int .u64 id, .int .i64 cn, .int .i64 st, .int .i64 lv, .int .u64 ge, .int .i64 fr, .int .i64 lf, .int .i64 du, .int .i64 tl, .slice ac n cc, .int .u64 nt, .int .i64 de] 113) = W4 at HRT4 HT4 HB4 HRG4 HUS4 HG4 ⊢
      have HS0 : Hid ((fun W : World => W.heap[g]? = some (.cells #[.int .u64 rq, .int .i64 cd, .int .i64 tm, .int .u64 id, .int .i64 cn, .int .i64 st, .int .i64 lv, .int .u64 ge, .int .i64 fr, .int .i64 lf, .int .i64 du, .int .i64 tl, .slice ac n cc, .int .u64 nt, .int .i64 de] 113 (0, 0)) ∧ W.heap[T2]? = some (.cells #[.map (some mb2)] 82 (0, 0))) W4.drew) := Lib.hid ⟨HG4.out, HT4.out.1⟩
      have hd0 := (Below.refl W4.heap.size W4).drew
      have HRT5 := Lib.hid (HRT4.out.kept hd0)
      have HT5 := Lib.hid (HT4.out.kept hd0)
      have HB5 := Lib.hid (HB4.out.trans (hd0.mono HB4.out.size))
      have HRG5 : Hid (W4.drew.ranges Try.prog 23 vR mb r nn D (fun z => left z && !z.sameKey (.int .u64 (i : Int))) cnt1) := Lib.hid (HRG4.out.kept (below_of_grown (r := none) hd0) (by simp) (by simp))
      have HUS5 := Lib.hid (HUS4.out.kept hd0)
      clear hd0 HG4 HT4 HRT4 HB4 HRG4 HUS4
      refine wp_region_held_drew (S := (fun W : World => W.heap[g]? = some (.cells #[.int .u64 rq, .int .i64 cd, .int .i64 tm, .int .u64 id, .int .i64 cn, .int .i64 st, .int .i64 lv, .int .u64 ge, .int .i64 fr, .int .i64 lf, .int .i64 du, .int .i64 tl, .slice ac n cc, .int .u64 nt, .int .i64 de] 113 (0, 0)) ∧ W.heap[T2]? = some (.cells #[.map (some mb2)] 82 (0, 0)))) (by kernel_rfl) HS0.out (fun hHeld => ?_)
      clear hHeld
      generalize W4.drew = V5 at HS0 HRT5 HT5 HB5 HRG5 HUS5 ⊢
      refine wpAnyH_take (i := 0) (oi := { dst := some 26, op := Go.Op.move (Go.Operand.tmp 3), type := 57, pos := "session.go:84", after := #[], guard := none }) (v := ?_) rfl (by kernel_rfl) (by kernel_rfl) (by kernel_rfl) (fun _ _ _ h => h) (Or.inl ⟨by rfl, ?_⟩) HS0.out ?_
      case refine_2 => (intro w1 hS1; obtain ⟨k1, k2⟩ := hS1; obtain ⟨q0, q1, q2, q3, q4, q5, q6, q7, q8, q9, q10, q11, q12, q13, q14⟩ := rq_at k1; have c0 := one_at k2; clear k1 k2; go_simp; try with_reducible rfl)
      try simp only [Act.put, List.setIfInBounds_toArray, List.set_cons_zero, List.set_cons_succ]
      refine wpAnyH_take (i := 1) (oi := { dst := some 27, op := Go.Op.nilCheck (Go.Operand.tmp 26), type := 0, pos := "session.go:84", after := #[{ on := 0, ground := Go.Ground.data }], guard := none }) (v := ?_) rfl (by kernel_rfl) (by kernel_rfl) (by kernel_rfl) (fun _ _ _ h => h) (Or.inl ⟨by rfl, ?_⟩) HS0.out ?_
      case refine_2 => (intro w1 hS1; obtain ⟨k1, k2⟩ := hS1; obtain ⟨q0, q1, q2, q3, q4, q5, q6, q7, q8, q9, q10, q11, q12, q13, q14⟩ := rq_at k1; have c0 := one_at k2; clear k1 k2; go_simp; try with_reducible rfl)
      try simp only [Act.put, List.setIfInBounds_toArray, List.set_cons_zero, List.set_cons_succ]
      refine wpAnyH_take (i := 2) (oi := { dst := some 28, op := Go.Op.fieldAddr 82 (Go.Operand.tmp 27) 0, type := 0, pos := "session.go:84", after := #[{ on := 1, ground := Go.Ground.data }], guard := none }) (v := ?_) rfl (by kernel_rfl) (by kernel_rfl) (by kernel_rfl) (fun _ _ _ h => h) (Or.inl ⟨by rfl, ?_⟩) HS0.out ?_
      case refine_2 => (intro w1 hS1; obtain ⟨k1, k2⟩ := hS1; obtain ⟨q0, q1, q2, q3, q4, q5, q6, q7, q8, q9, q10, q11, q12, q13, q14⟩ := rq_at k1; have c0 := one_at k2; clear k1 k2; go_simp; try with_reducible rfl)
      try simp only [Act.put, List.setIfInBounds_toArray, List.set_cons_zero, List.set_cons_succ]
      refine wpAnyH_take (i := 3) (oi := { dst := some 29, op := Go.Op.load 80 (Go.Operand.tmp 28), type := 80, pos := "session.go:84", after := #[{ on := 2, ground := Go.Ground.data }], guard := none }) (v := ?_) rfl (by kernel_rfl) (by kernel_rfl) (by kernel_rfl) (fun _ _ _ h => h) (Or.inl ⟨by rfl, ?_⟩) HS0.out ?_
      case refine_2 => (intro w1 hS1; obtain ⟨k1, k2⟩ := hS1; obtain ⟨q0, q1, q2, q3, q4, q5, q6, q7, q8, q9, q10, q11, q12, q13, q14⟩ := rq_at k1; have c0 := one_at k2; clear k1 k2; go_simp; try with_reducible rfl)
      try simp only [Act.put, List.setIfInBounds_toArray, List.set_cons_zero, List.set_cons_succ]
      refine wpAnyH_take (i := 4) (oi := { dst := some 30, op := Go.Op.move (Go.Operand.tmp 4), type := 23, pos := "session.go:84", after := #[], guard := none }) (v := ?_) rfl (by kernel_rfl) (by kernel_rfl) (by kernel_rfl) (fun _ _ _ h => h) (Or.inl ⟨by rfl, ?_⟩) HS0.out ?_
      case refine_2 => (intro w1 hS1; obtain ⟨k1, k2⟩ := hS1; obtain ⟨q0, q1, q2, q3, q4, q5, q6, q7, q8, q9, q10, q11, q12, q13, q14⟩ := rq_at k1; have c0 := one_at k2; clear k1 k2; go_simp; try with_reducible rfl)
      try simp only [Act.put, List.setIfInBounds_toArray, List.set_cons_zero, List.set_cons_succ]
      refine wpAnyH_take (i := 5) (oi := { dst := some 31, op := Go.Op.fieldAddr 113 (Go.Operand.tmp 5) 0, type := 0, pos := "session.go:84", after := #[], guard := none }) (v := ?_) rfl (by kernel_rfl) (by kernel_rfl) (by kernel_rfl) (fun _ _ _ h => h) (Or.inl ⟨by rfl, ?_⟩) HS0.out ?_
      case refine_2 => (intro w1 hS1; obtain ⟨k1, k2⟩ := hS1; obtain ⟨q0, q1, q2, q3, q4, q5, q6, q7, q8, q9, q10, q11, q12, q13, q14⟩ := rq_at k1; have c0 := one_at k2; clear k1 k2; go_simp; try with_reducible rfl)
      try simp only [Act.put, List.setIfInBounds_toArray, List.set_cons_zero, List.set_cons_succ]
      refine wpAnyH_take (i := 6) (oi := { dst := some 32, op := Go.Op.load 23 (Go.Operand.tmp 31), type := 23, pos := "session.go:84", after := #[{ on := 5, ground := Go.Ground.data }], guard := none }) (v := ?_) rfl (by kernel_rfl) (by kernel_rfl) (by kernel_rfl) (fun _ _ _ h => h) (Or.inl ⟨by rfl, ?_⟩) HS0.out ?_
      case refine_2 => (intro w1 hS1; obtain ⟨k1, k2⟩ := hS1; obtain ⟨q0, q1, q2, q3, q4, q5, q6, q7, q8, q9, q10, q11, q12, q13, q14⟩ := rq_at k1; have c0 := one_at k2; clear k1 k2; go_simp; try with_reducible rfl)
      try simp only [Act.put, List.setIfInBounds_toArray, List.set_cons_zero, List.set_cons_succ]
      refine wpAnyH_take (i := 7) (oi := { dst := some 33, op := Go.Op.fieldAddr 113 (Go.Operand.tmp 5) 1, type := 0, pos := "session.go:84", after := #[], guard := none }) (v := ?_) rfl (by kernel_rfl) (by kernel_rfl) (by kernel_rfl) (fun _ _ _ h => h) (Or.inl ⟨by rfl, ?_⟩) HS0.out ?_
      case refine_2 => (intro w1 hS1; obtain ⟨k1, k2⟩ := hS1; obtain ⟨q0, q1, q2, q3, q4, q5, q6, q7, q8, q9, q10, q11, q12, q13, q14⟩ := rq_at k1; have c0 := one_at k2; clear k1 k2; go_simp; try with_reducible rfl)
      try simp only [Act.put, List.setIfInBounds_toArray, List.set_cons_zero, List.set_cons_succ]
      refine wpAnyH_take (i := 8) (oi := { dst := some 34, op := Go.Op.load 28 (Go.Operand.tmp 33), type := 28, pos := "session.go:84", after := #[{ on := 7, ground := Go.Ground.data }], guard := none }) (v := ?_) rfl (by kernel_rfl) (by kernel_rfl) (by kernel_rfl) (fun _ _ _ h => h) (Or.inl ⟨by rfl, ?_⟩) HS0.out ?_
      case refine_2 => (intro w1 hS1; obtain ⟨k1, k2⟩ := hS1; obtain ⟨q0, q1, q2, q3, q4, q5, q6, q7, q8, q9, q10, q11, q12, q13, q14⟩ := rq_at k1; have c0 := one_at k2; clear k1 k2; go_simp; try with_reducible rfl)
      try simp only [Act.put, List.setIfInBounds_toArray, List.set_cons_zero, List.set_cons_succ]
      refine wpAnyH_ready (rs := [9]) (by kernel_rfl) (by simp) ?_
      refine AllReadyH.cons (o := { dst := some 35, op := Go.Op.call { callee := Go.Callee.value (Go.Operand.func 12), args := #[Go.Operand.tmp 34], argTypes := #[28] }, type := 28, pos := "session.go:84", after := #[{ on := 8, ground := Go.Ground.data }], guard := none }) rfl (fun K hK => ?_) AllReadyH.nil
      go_simp
      refine (copy_any cd tm id cn st lv ge fr lf du tl ac n cc nt de xs V5 HUS5.out (by have := HN.out; omega)).mono ?_
      rintro e V6 ⟨ac2, cc2, rfl, ho, hb⟩
      rw [HLN.out] at ho ⊢
      have HO6 := Lib.hid ho
      have HRT6 := Lib.hid (HRT5.out.kept hb)
      have HT6 := Lib.hid (HT5.out.kept hb)
      have HB6 := Lib.hid (HB5.out.trans (hb.mono HB5.out.size))
      have HRG6 : Hid (V6.ranges Try.prog 23 vR mb r nn D (fun z => left z && !z.sameKey (.int .u64 (i : Int))) cnt1) := Lib.hid (HRG5.out.kept (below_of_grown (r := none) hb) (by simp) (by simp))
      have HS0' : Hid ((fun W : World => W.heap[g]? = some (.cells #[.int .u64 rq, .int .i64 cd, .int .i64 tm, .int .u64 id, .int .i64 cn, .int .i64 st, .int .i64 lv, .int .u64 ge, .int .i64 fr, .int .i64 lf, .int .i64 du, .int .i64 tl, .slice ac n cc, .int .u64 nt, .int .i64 de] 113 (0, 0)) ∧ W.heap[T2]? = some (.cells #[.map (some mb2)] 82 (0, 0))) V6) := Lib.hid ⟨ex_below HS0.out.1 hb, ex_below HS0.out.2 hb⟩
      have HLE : Hid (w.heap.size ≤ V5.heap.size) := Lib.hid HB5.out.size
      have HMB5 : Hid (mb2 < V5.heap.size) := Lib.hid HT5.out.2.lt
      clear ho hb HRT5 HT5 HB5 HRG5 HUS5
      clear HS0
      have HS0 := HS0'
      clear HS0'
      unfold repV
      refine hK.out _ _ HS0.out (fun hHeld => ?_)
      clear hK K hHeld
      try simp only [Act.put, List.setIfInBounds_toArray, List.set_cons_zero, List.set_cons_succ]
      refine wpAnyH_take (i := 10) (oi := { dst := some 36, op := Go.Op.build 113 #[(0, Go.Operand.tmp 32), (1, Go.Operand.tmp 35)], type := 113, pos := "session.go:84", after := #[{ on := 6, ground := Go.Ground.data }, { on := 9, ground := Go.Ground.data }], guard := none }) (v := ?_) rfl (by kernel_rfl) (by kernel_rfl) (by kernel_rfl) (fun _ _ _ h => h) (Or.inl ⟨by rfl, ?_⟩) HS0.out ?_
      case refine_2 => (intro w1 hS1; obtain ⟨k1, k2⟩ := hS1; obtain ⟨q0, q1, q2, q3, q4, q5, q6, q7, q8, q9, q10, q11, q12, q13, q14⟩ := rq_at k1; have c0 := one_at k2; clear k1 k2; go_simp; try with_reducible rfl)
      try simp only [Act.put, List.setIfInBounds_toArray, List.set_cons_zero, List.set_cons_succ]
      obtain ⟨M3, hM1, hM2⟩ := upV M2 (.int .u64 (i : Int)) (some (.agg #[.int .u64 rq, .int .i64 cd, .int .i64 tm, .int .u64 id, .int .i64 cn, .int .i64 st, .int .i64 lv, .int .u64 ge, .int .i64 fr, .int .i64 lf, .int .i64 du, .int .i64 tl, .slice ac2 n cc2, .int .u64 nt, .int .i64 de]))
      obtain ⟨V7, hrun, hV7, hg7, hz7⟩ := HT6.out.2.put keyedU rq_und (by have := HC9.out; unfold maxLen; omega) (keyU (show 0 ≤ (i : Int) ∧ (i : Int) < 18446744073709551616 by have := HI.out; omega)) _ hM1 hM2
      refine wpAnyH_ready (rs := [11]) (by kernel_rfl) (by simp) ?_
      refine AllReadyH.cons (o := { dst := none, op := Go.Op.mapUpdate 80 (Go.Operand.tmp 29) (Go.Operand.tmp 30) (Go.Operand.tmp 36), type := 0, pos := "session.go:84", after := #[{ on := 3, ground := Go.Ground.data }, { on := 4, ground := Go.Ground.data }, { on := 10, ground := Go.Ground.data }, { on := 9, ground := Go.Ground.chain }, { on := 0, ground := Go.Ground.phase }, { on := 1, ground := Go.Ground.phase }, { on := 2, ground := Go.Ground.phase }, { on := 3, ground := Go.Ground.phase }, { on := 4, ground := Go.Ground.phase }, { on := 5, ground := Go.Ground.phase }, { on := 6, ground := Go.Ground.phase }, { on := 7, ground := Go.Ground.phase }, { on := 8, ground := Go.Ground.phase }, { on := 9, ground := Go.Ground.phase }, { on := 10, ground := Go.Ground.phase }], guard := none }) rfl (fun K hK => ?_) AllReadyH.nil
      go_simp
      have HS0' : Hid ((fun W : World => W.heap[g]? = some (.cells #[.int .u64 rq, .int .i64 cd, .int .i64 tm, .int .u64 id, .int .i64 cn, .int .i64 st, .int .i64 lv, .int .u64 ge, .int .i64 fr, .int .i64 lf, .int .i64 du, .int .i64 tl, .slice ac n cc, .int .u64 nt, .int .i64 de] 113 (0, 0)) ∧ W.heap[T2]? = some (.cells #[.map (some mb2)] 82 (0, 0))) V7) := Lib.hid ⟨(hg7.block _ (ex_lt HS0.out.1) (by have h1 := HGG.out; intro e; injection e with e; omega)).trans HS0.out.1, (hg7.block _ (ex_lt HS0.out.2) (fun e => HNE.out (by injection e))).trans HS0.out.2⟩
      have hT7 : Tab V7 T2 mb2 (upC M2 (.int .u64 (i : Int)) c2) M3 := ⟨HS0'.out.2, hV7⟩
      have ho7 : OU V7 V5.heap.size (.slice ac2 n cc2) xs := ou_grown HO6.out hg7 (by have h1 := HMB5.out; exact h1)
      have HRT7 := Lib.hid (HRT6.out.add2 hg7 HI.out HX20.out (Opn.mk kd cl0 rq cd tm id cn st lv ge fr lf du tl a n ca nt de xs) (show 0 < rq ∧ rq < 18446744073709551616 from HQ.out) HSN.out ac2 cc2 hT7 hM1 hM2 ho7 HUB.out (by have := HLE.out; have := HAV.out; omega) (HUX.out V6 HB6.out) HXA.out)
      have HRG7 : Hid (V7.ranges Try.prog 23 vR mb r nn D (fun z => left z && !z.sameKey (.int .u64 (i : Int))) cnt1) := Lib.hid (HRG6.out.kept hg7 (by have := HMM.out; intro e; injection e with e; omega) (by have := HMM.out; intro e; injection e with e; omega))
      have HB7 := Lib.hid (HB6.out.grown hg7 HB6.out.size (fun k hk => by injection hk with hk; have := HMM.out; omega))
      clear hV7 hT7 ho7 hM1 hM2 hg7 HRT6 HT6 HB6 HRG6 HO6
      clear HS0
      have HS0 := HS0'
      clear HS0'
      refine hK.out _ _ HS0.out (fun hHeld => ?_)
      clear hrun hz7 hK K hHeld
      try simp only [Act.put, List.setIfInBounds_toArray, List.set_cons_zero, List.set_cons_succ]
      refine wpAnyH_done (by kernel_rfl) ?_ _
      go_wp2_with fail
      go_roundw
      case rel =>
        refine ⟨fun z => left z && !z.sameKey (.int .u64 (i : Int)), cnt1, M3, upX X2 i (Opn.mk kd cl0 rq cd tm id cn st lv ge fr lf du tl a n ca nt de xs), c2 + 1, HRG7, Lib.hid (fun kl hl => HLF.out kl (by simp only [Bool.and_eq_true] at hl; exact hl.1)), HRT7, Lib.hid (fun j h1 h2 => ?_), HB7⟩
        by_cases ej : j = i
        · subst ej
          rw [upX_same]
          exact ⟨fun h => (by simp [Lit.sameKey] at h), fun _ => .inl HXE.out.symm⟩
        · rw [upX_other _ _ _ _ ej]
          have hne : (Lit.int IntKind.u64 (j : Int)).sameKey (.int .u64 (i : Int)) = false := by
            have : ¬ ((j : Int) = (i : Int)) := by omega
            simp only [Lit.sameKey, true_and]
            exact decide_eq_false this
          refine ⟨fun h => (HAG.out j h1 h2).1 ?_, fun h => (HAG.out j h1 h2).2 ?_⟩
          · simp only [Bool.and_eq_true] at h
            exact h.1
          · have h' : (left (.int .u64 (j : Int)) && !(Lit.int IntKind.u64 (j : Int)).sameKey (.int .u64 (i : Int))) = false := h
            rw [hne] at h'
            simpa using h'
      case measure => rw [HRG7.out.left_eq, HRG.out.left_eq]; exact HLT.out
end
section
open Go.RowKit Go.Maps
/-- A pointer to no table, or to one that no call made. -/
def NoTb (w : World) (p : Option Addr) : Prop := p = none ∨ ∃ T, p = some ⟨T, 0, none⟩ ∧ w.heap[T]? = some (.cells #[.map none] 82 (0, 0))
theorem NoTb.kept {w w' : World} {p : Option Addr} (h : NoTb w p) (hb : Below w.heap.size w w') : NoTb w' p := by
  rcases h with rfl | ⟨T, rfl, h⟩
  · exact .inl rfl
  · exact .inr ⟨T, rfl, ex_below h hb⟩
set_option maxRecDepth 100000 in
set_option maxHeartbeats 8000000 in
theorem created_none (p : Option Addr) (w : World) (h : NoTb w p) : Calls Try.prog 75 #[.pointer p] w fun e w' => e = .returned (.bool false) ∧ w = w' := by
  rcases h with rfl | ⟨T, rfl, h⟩
  · go_enter Try.func75, Try.ntmps75
    go_wp2_with fail
    go_ret
    exact ⟨rfl, rfl⟩
  · have c0 := one_at h
    have hn := neq_qmap none w
    go_enter Try.func75, Try.ntmps75
    go_wp2_with fail
    go_ret
    exact ⟨rfl, rfl⟩
set_option maxRecDepth 100000 in
set_option maxHeartbeats 8000000 in
theorem last_none (p : Option Addr) (cl : Int) (w : World) (h : NoTb w p) : Calls Try.prog 72 #[.pointer p, .int .u64 cl] w fun e w' => e = .returned (.agg #[.int .u64 0, .int .i64 0, .int .i64 0, .int .u64 0, .int .i64 0, .int .i64 0, .int .i64 0, .int .u64 0, .int .i64 0, .int .i64 0, .int .i64 0, .int .i64 0, .slice none 0 0, .int .u64 0, .int .i64 0]) ∧ Below w.heap.size w w' := by
  obtain ⟨B1, s0, -⟩ := box1 w #[.int .u64 0, .int .i64 0, .int .i64 0, .int .u64 0, .int .i64 0, .int .i64 0, .int .i64 0, .int .u64 0, .int .i64 0, .int .i64 0, .int .i64 0, .int .i64 0, .slice none 0 0, .int .u64 0, .int .i64 0] 113
  have HC := Lib.hid (created_none p _ (h.kept B1))
  obtain ⟨q0, q1, q2, q3, q4, q5, q6, q7, q8, q9, q10, q11, q12, q13, q14⟩ := rq_at s0
  have qf := rq_fr s0
  have HB := Lib.hid B1
  have HS := Lib.hid s0
  clear h B1 s0
  go_enter Try.func72, Try.ntmps72
  go_wp2_with fail
  generalize w.alloc (.cells #[.int .u64 0, .int .i64 0, .int .i64 0, .int .u64 0, .int .i64 0, .int .i64 0, .int .i64 0, .int .u64 0, .int .i64 0, .int .i64 0, .int .i64 0, .int .i64 0, .slice none 0 0, .int .u64 0, .int .i64 0] 113) = W0 at HC q0 q1 q2 q3 q4 q5 q6 q7 q8 q9 q10 q11 q12 q13 q14 qf HB HS ⊢
  refine HC.out.mono ?_
  rintro e w1 ⟨rfl, rfl⟩
  clear HC
  go_wp2_with fail
  clear q0 q1 q2 q3 q4 q5 q6 q7 q8 q9 q10 q11 q12 q13 q14 qf
  have hp := put15_at HS.out (.int .u64 0) (.int .i64 0) (.int .i64 0) (.int .u64 0) (.int .i64 0) (.int .i64 0) (.int .i64 0) (.int .u64 0) (.int .i64 0) (.int .i64 0) (.int .i64 0) (.int .i64 0) (.slice none 0 0) (.int .u64 0) (.int .i64 0)
  have hq := HB.out.trans (put15_below (B := w.heap.size) W0 (N := w.heap.size) (Nat.le_refl _) (.int .u64 0) (.int .i64 0) (.int .i64 0) (.int .u64 0) (.int .i64 0) (.int .i64 0) (.int .i64 0) (.int .u64 0) (.int .i64 0) (.int .i64 0) (.int .i64 0) (.int .i64 0) (.slice none 0 0) (.int .u64 0) (.int .i64 0))
  unfold put15 at hp hq
  obtain ⟨p0, p1, p2, p3, p4, p5, p6, p7, p8, p9, p10, p11, p12, p13, p14⟩ := rq_at hp
  exact bodyPost_ret (v := .agg #[.int .u64 0, .int .i64 0, .int .i64 0, .int .u64 0, .int .i64 0, .int .i64 0, .int .i64 0, .int .u64 0, .int .i64 0, .int .i64 0, .int .i64 0, .int .i64 0, .slice none 0 0, .int .u64 0, .int .i64 0]) (by simp [results, Try.results72, go_sem, p0, p1, p2, p3, p4, p5, p6, p7, p8, p9, p10, p11, p12, p13, p14]) rfl ⟨rfl, hq⟩
set_option maxRecDepth 100000 in
set_option maxHeartbeats 8000000 in
theorem lastq_none (p : Option Addr) (cl : Int) (w : World) (h : NoTb w p) : Calls Try.prog 31 #[.pointer p, .int .u64 cl] w fun e w' => e = .returned (.int .u64 0) ∧ Below w.heap.size w w' := by
  have hf := rq_field0 0 0 0 0 0 0 0 0 0 0 0 0 none 0 0 0 0
  go_enter Try.func31, Try.ntmps31
  go_wp2_with fail
  refine (last_none p cl w h).mono ?_
  rintro e w1 ⟨rfl, hb⟩
  have HB := Lib.hid hb
  clear hb
  go_wp2_with fail
  go_ret
  exact ⟨rfl, HB.out⟩
set_option maxRecDepth 100000 in
set_option maxHeartbeats 8000000 in
theorem drop_none (p : Option Addr) (cl : Int) (w : World) (h : NoTb w p) : Calls Try.prog 40 #[.pointer p, .int .u64 cl] w fun e w' => e = .returned (.bool false) ∧ Below w.heap.size w w' := by
  go_enter Try.func40, Try.ntmps40
  go_wp2_with fail
  refine (lastq_none p cl w h).mono ?_
  rintro e w1 ⟨rfl, hb⟩
  have HB := Lib.hid hb
  clear hb
  go_wp2_with fail
  go_ret
  exact ⟨rfl, HB.out⟩
set_option maxRecDepth 100000 in
set_option maxHeartbeats 8000000 in
theorem done_none (p : Option Addr) (cl rq : Int) (cd tm id cn st lv ge fr lf du tl : Int) (a : Option Addr) (n ca : Nat) (nt de : Int) (w : World) (h : NoTb w p) : Calls Try.prog 36 #[.pointer p, .int .u64 cl, .int .u64 rq, repV cd tm id cn st lv ge fr lf du tl a n ca nt de] w fun e w' => e = .returned (.int .i64 1) ∧ Below w.heap.size w w' := by
  obtain ⟨B1, s0, sz⟩ := box1 w #[.int .i64 cd, .int .i64 tm, .int .u64 id, .int .i64 cn, .int .i64 st, .int .i64 lv, .int .u64 ge, .int .i64 fr, .int .i64 lf, .int .i64 du, .int .i64 tl, .slice a n ca, .int .u64 nt, .int .i64 de] 28
  have HB := Lib.hid B1
  have HCR := Lib.hid (created_none p _ (h.kept B1))
  clear h B1 s0 sz
  unfold repV
  go_enter Try.func36, Try.ntmps36
  go_wp2_with fail
  generalize w.alloc (.cells #[.int .i64 cd, .int .i64 tm, .int .u64 id, .int .i64 cn, .int .i64 st, .int .i64 lv, .int .u64 ge, .int .i64 fr, .int .i64 lf, .int .i64 du, .int .i64 tl, .slice a n ca, .int .u64 nt, .int .i64 de] 28) = W0 at HB HCR ⊢
  refine HCR.out.mono ?_
  rintro e w1 ⟨rfl, rfl⟩
  clear HCR
  go_wp2_with fail
  go_ret
  exact ⟨rfl, HB.out⟩
set_option maxRecDepth 100000 in
set_option maxHeartbeats 8000000 in
theorem look_none (p : Option Addr) (cl rq : Int) (w : World) (h : NoTb w p) : Calls Try.prog 35 #[.pointer p, .int .u64 cl, .int .u64 rq] w fun e w' => e = .returned (.tuple #[.int .i64 3, .agg #[.int .i64 0, .int .i64 0, .int .u64 0, .int .i64 0, .int .i64 0, .int .i64 0, .int .u64 0, .int .i64 0, .int .i64 0, .int .i64 0, .int .i64 0, .slice none 0 0, .int .u64 0, .int .i64 0]]) ∧ Below w.heap.size w w' := by
  obtain ⟨B1, s0, sz⟩ := box1 w #[.int .i64 0, .int .i64 0, .int .u64 0, .int .i64 0, .int .i64 0, .int .i64 0, .int .u64 0, .int .i64 0, .int .i64 0, .int .i64 0, .int .i64 0, .slice none 0 0, .int .u64 0, .int .i64 0] 28
  have HL := Lib.hid (last_none p cl _ (h.kept B1))
  have HT := Lib.hid (h.kept B1)
  have HB := Lib.hid B1
  have HS := Lib.hid s0
  clear h B1 s0 sz
  go_enter Try.func35, Try.ntmps35
  go_wp2_with fail
  generalize w.alloc (.cells #[.int .i64 0, .int .i64 0, .int .u64 0, .int .i64 0, .int .i64 0, .int .i64 0, .int .u64 0, .int .i64 0, .int .i64 0, .int .i64 0, .int .i64 0, .slice none 0 0, .int .u64 0, .int .i64 0] 28) = W0 at HL HT HB HS ⊢
  refine HL.out.mono ?_
  rintro e w1 ⟨rfl, hb⟩
  obtain ⟨B2, s2, z2⟩ := box1 w1 #[.int .u64 0, .int .i64 0, .int .i64 0, .int .u64 0, .int .i64 0, .int .i64 0, .int .i64 0, .int .u64 0, .int .i64 0, .int .i64 0, .int .i64 0, .int .i64 0, .slice none 0 0, .int .u64 0, .int .i64 0] 113
  have HT1 := Lib.hid (HT.out.kept (hb.trans (B2.mono hb.size)))
  have HB1 := Lib.hid (HB.out.trans ((hb.trans (B2.mono hb.size)).mono HB.out.size))
  have HS1 := Lib.hid (ex_below HS.out (hb.trans (B2.mono hb.size)))
  have HCR := Lib.hid (created_none p _ HT1.out)
  obtain ⟨t0, t1, t2, t3, t4, t5, t6, t7, t8, t9, t10, t11, t12, t13, t14⟩ := rq_at s2
  have tf := rq_fr s2
  clear hb B2 s2 z2 HT HB HS HL
  go_wp2_with fail
  clear t0 t1 t2 t3 t4 t5 t6 t7 t8 t9 t10 t11 t12 t13 t14 tf
  generalize w1.alloc (.cells #[.int .u64 0, .int .i64 0, .int .i64 0, .int .u64 0, .int .i64 0, .int .i64 0, .int .i64 0, .int .u64 0, .int .i64 0, .int .i64 0, .int .i64 0, .int .i64 0, .slice none 0 0, .int .u64 0, .int .i64 0] 113) = W2 at HT1 HB1 HS1 HCR ⊢
  refine HCR.out.mono ?_
  rintro e w3 ⟨rfl, rfl⟩
  obtain ⟨r0, r1, r2, r3, r4, r5, r6, r7, r8, r9, r10, r11, r12, r13⟩ := rep_at HS1.out
  have rf := rep_fr HS1.out
  clear HCR
  go_wp2_with fail
  clear r0 r1 r2 r3 r4 r5 r6 r7 r8 r9 r10 r11 r12 r13 rf
  have hp := put14_at HS1.out (.int .i64 0) (.int .i64 0) (.int .u64 0) (.int .i64 0) (.int .i64 0) (.int .i64 0) (.int .u64 0) (.int .i64 0) (.int .i64 0) (.int .i64 0) (.int .i64 0) (.slice none 0 0) (.int .u64 0) (.int .i64 0)
  have hq := HB1.out.trans (put14_below (B := w.heap.size) W2 (N := w.heap.size) (Nat.le_refl _) (.int .i64 0) (.int .i64 0) (.int .u64 0) (.int .i64 0) (.int .i64 0) (.int .i64 0) (.int .u64 0) (.int .i64 0) (.int .i64 0) (.int .i64 0) (.int .i64 0) (.slice none 0 0) (.int .u64 0) (.int .i64 0))
  unfold put14 at hp hq
  obtain ⟨p0, p1, p2, p3, p4, p5, p6, p7, p8, p9, p10, p11, p12, p13⟩ := rep_at hp
  exact bodyPost_ret (v := .tuple #[.int .i64 3, .agg #[.int .i64 0, .int .i64 0, .int .u64 0, .int .i64 0, .int .i64 0, .int .i64 0, .int .u64 0, .int .i64 0, .int .i64 0, .int .i64 0, .int .i64 0, .slice none 0 0, .int .u64 0, .int .i64 0]]) (by simp [results, Try.results35, go_sem, p0, p1, p2, p3, p4, p5, p6, p7, p8, p9, p10, p11, p12, p13]) rfl ⟨rfl, hq⟩
set_option maxRecDepth 100000 in
set_option maxHeartbeats 8000000 in
theorem put_none (p q : Option Addr) (w : World) (h : NoTb w p) : Calls Try.prog 74 #[.pointer p, .pointer q] w fun e w' => e = .returned (.tuple #[]) ∧ w = w' := by
  go_enter Try.func74, Try.ntmps74
  go_wp2_with fail
  refine (created_none p w h).mono ?_
  rintro e w1 ⟨rfl, rfl⟩
  go_wp2_with fail
  exact bodyPost_ret (results_none rfl _ _ _) rfl ⟨rfl, rfl⟩
set_option maxRecDepth 100000 in
set_option maxHeartbeats 8000000 in
theorem bytes_none (p : Option Addr) (W : World) (h : NoTb W p) : Calls Try.prog 33 #[.pointer p] W fun e w' => e = .returned (.string (str [])) ∧ Below W.heap.size W w' := by
  obtain ⟨B1, s1, z1⟩ := box1 W #[.slice none 0 0] 39
  have hw : WR (W.alloc (.cells #[.slice none 0 0] 39)) W.heap.size (W.heap.size + 1) (.slice none 0 0) [] := ⟨s1, Nat.lt_succ_self _, by omega, World.ownsRow_nil _ _ _ _, by simp⟩
  have HW := Lib.hid hw
  have HB := Lib.hid B1
  have HN := Lib.hid (h.kept B1)
  clear hw s1 z1 B1 h
  go_enter Try.func33, Try.ntmps33
  go_wp2_with fail
  generalize hW : W.alloc (.cells #[.slice none 0 0] 39) = W1 at HW HB HN ⊢
  clear hW
  refine (put_none p _ W1 HN.out).mono ?_
  rintro e w2 ⟨rfl, rfl⟩
  have hby := bytes_wr W.heap.size (W.heap.size + 1) (.slice none 0 0) [] W1 HW.out (by simp)
  go_wp2_with fail
  refine hby.mono ?_
  rintro e w3 ⟨v3, rfl, ho, hb⟩
  have HB3 := Lib.hid (HB.out.trans (hb.mono HB.out.size))
  have hcv := rb_string (P := Try.prog) (ho.rb (by simp) (by simp)) 35 9 5 Try.underlying35 Try.underlying5 Try.underlying9
  clear ho hb hby
  go_wp2_with fail
  go_ret
  exact ⟨rfl, HB3.out⟩
end
section
open Go.RowKit Go.Maps
/-- A sound reply's bytes read back. -/
theorem rep_back {x : Opn} (h : Snd x) (hl : x.xs.length = x.n) (hx : ∀ y ∈ x.xs, y < 18446744073709551616) (more ds : List Nat) (hds : ds = repB x ++ more) : yOk ds = true ∧ yRest ds = more := by
  obtain ⟨hs, hid, hge, hnt⟩ := h
  have h0 := hs
  unfold repS at h0
  simp only [Bool.and_eq_true, Bool.or_eq_true, decide_eq_true_eq] at h0
  obtain ⟨hc, ht, hk, hn, hd⟩ := h0
  unfold rngB at hc ht hd
  simp only [Bool.and_eq_true, decide_eq_true_eq] at hc ht hd
  obtain ⟨kd, cl0, rq, cd, tm, id, cn, st, lv, ge, fr, lf, du, tl, a, n, ca, nt, de, xs⟩ := x
  dsimp only at hs hid hge hnt hc ht hk hn hd hl hx
  unfold repB at hds
  dsimp only at hds
  obtain ⟨c, rfl⟩ : ∃ c : Nat, cd = (c : Int) := ⟨cd.toNat, by omega⟩
  obtain ⟨d, rfl⟩ : ∃ d : Nat, de = (d : Int) := ⟨de.toNat, by omega⟩
  obtain ⟨t, rfl⟩ : ∃ t : Nat, nt = (t : Int) := ⟨nt.toNat, by omega⟩
  have key : ∃ n1 n2 n3 n4 n5 n6 n7 n8 n9 : Nat, id = n1 ∧ cn = n2 ∧ st = n3 ∧ lv = n4 ∧ ge = n5 ∧ fr = n6 ∧ lf = n7 ∧ du = n8 ∧ tl = n9 ∧ TkS n1 n2 n3 n4 n5 n6 n7 n8 n9 := by
    rcases hk with hk | hk
    · unfold noT at hk
      obtain ⟨rfl, rfl, rfl, rfl, rfl, rfl, rfl, rfl, rfl⟩ := (tEq_iff _ _ _ _ _ _ _ _ _ _ _ _ _ _ _ _ _ _).1 hk
      exact ⟨0, 0, 0, 0, 0, 0, 0, 0, 0, rfl, rfl, rfl, rfl, rfl, rfl, rfl, rfl, rfl, Or.inl ⟨rfl, rfl, rfl, rfl, rfl, rfl, rfl, rfl, rfl⟩⟩
    · obtain ⟨n1, n2, n3, n4, n5, n6, n7, n8, n9, rfl, rfl, rfl, rfl, rfl, rfl, rfl, rfl, rfl, b1, b2, b3, b4, b5, b6, b7, b8, b9⟩ := sound_nat hk hid hge
      exact ⟨n1, n2, n3, n4, n5, n6, n7, n8, n9, rfl, rfl, rfl, rfl, rfl, rfl, rfl, rfl, rfl, Or.inr ⟨hk, b1, b2, b3, b4, b5, b6, b7, b8, b9⟩⟩
  obtain ⟨n1, n2, n3, n4, n5, n6, n7, n8, n9, rfl, rfl, rfl, rfl, rfl, rfl, rfl, rfl, rfl, hT⟩ := key
  simp only [Int.toNat_natCast] at hds
  obtain ⟨a0, a1, a2, a3, a4, a5, a6, a7⟩ := y_back c tm n1 n2 n3 n4 n5 n6 n7 n8 n9 xs t d more (by omega) (by omega) (by omega) hT (by omega) hx (by omega) (by omega) ds hds
  refine ⟨?_, a6⟩
  unfold yOk yS
  rw [a0, a1, a2, a3, a5, a7, hl]
  dsimp only
  rw [hs]
  rfl
/-- An entry's bytes read back. -/
theorem ent_back {i : Nat} (hi : 1 ≤ i ∧ i ≤ 8) {x : Opn} (hq : 0 < x.rq ∧ x.rq < 18446744073709551616) (h : Snd x) (hl : x.xs.length = x.n) (hx : ∀ y ∈ x.xs, y < 18446744073709551616) (more : List Nat) {bf : Nat} (hb : bf < i) :
    eOk bf (entB i x ++ more) = true ∧ nN 8 (entB i x ++ more) = i ∧ eNx (entB i x ++ more) = more := by
  have he : entB i x ++ more = num 0 i ++ (num 0 x.rq.toNat ++ (repB x ++ more)) := by
    unfold entB
    rw [if_pos hq.1]
    simp only [List.append_assoc]
  rw [he]
  obtain ⟨a1, r1, -⟩ := nN_back 8 i (num 0 x.rq.toNat ++ (repB x ++ more)) (by omega) (by omega)
  obtain ⟨a2, r2, -⟩ := nN_back 18446744073709551615 x.rq.toNat (repB x ++ more) (by omega) (by omega)
  have h2 : e2 (num 0 i ++ (num 0 x.rq.toNat ++ (repB x ++ more))) = repB x ++ more := by unfold e2; rw [r1, r2]
  have hr : eRq (num 0 i ++ (num 0 x.rq.toNat ++ (repB x ++ more))) = x.rq.toNat := by unfold eRq; rw [r1, a2]
  obtain ⟨k1, k2⟩ := rep_back h hl hx more _ h2
  exact ⟨eOk_iff k1 (by rw [a1]; exact hb) (by rw [hr]; omega), a1, k2⟩
def sufB (X : Nat → Opn) : Nat → Nat → List Nat
  | 0, _ => []
  | r + 1, b => entB (b + 1) (X (b + 1)) ++ sufB X r (b + 1)
def cntS (X : Nat → Opn) : Nat → Nat → Nat
  | 0, _ => 0
  | r + 1, b => (if 0 < (X (b + 1)).rq then 1 else 0) + cntS X r (b + 1)
theorem suf_tab (X : Nat → Opn) : ∀ (r b : Nat), tabB X (b + r) = tabB X b ++ sufB X r b ∧ cntTo X (b + r) = cntTo X b + cntS X r b
  | 0, b => ⟨by simp [sufB], by simp [cntS]⟩
  | r + 1, b => by
    obtain ⟨h1, h2⟩ := suf_tab X r (b + 1)
    have e : b + (r + 1) = (b + 1) + r := by omega
    rw [e, h1, h2]
    have e1 : tabB X (b + 1) = tabB X b ++ entB (b + 1) (X (b + 1)) := rfl
    have e2 : cntTo X (b + 1) = cntTo X b + (if 0 < (X (b + 1)).rq then 1 else 0) := rfl
    have e3 : sufB X (r + 1) b = entB (b + 1) (X (b + 1)) ++ sufB X r (b + 1) := rfl
    have e4 : cntS X (r + 1) b = (if 0 < (X (b + 1)).rq then 1 else 0) + cntS X r (b + 1) := rfl
    rw [e1, e2, e3, e4, List.append_assoc]
    exact ⟨rfl, by omega⟩
theorem suf_back {W : World} {X : Nat → Opn} (h : RE W X) (more : List Nat) : ∀ (r b bf : Nat), b + r ≤ 8 → bf ≤ b → tOk (cntS X r b) bf (sufB X r b ++ more) = true ∧ tNx (cntS X r b) (sufB X r b ++ more) = more
  | 0, b, bf, _, _ => ⟨rfl, rfl⟩
  | r + 1, b, bf, h1, h2 => by
    have e3 : sufB X (r + 1) b = entB (b + 1) (X (b + 1)) ++ sufB X r (b + 1) := rfl
    have e4 : cntS X (r + 1) b = (if 0 < (X (b + 1)).rq then 1 else 0) + cntS X r (b + 1) := rfl
    rcases h (b + 1) (by omega) (by omega) with h0 | ⟨k1, k2, k3, k4⟩
    · obtain ⟨i1, i2⟩ := suf_back h more r (b + 1) bf (by omega) (by omega)
      have e5 : entB (b + 1) (X (b + 1)) = [] := by unfold entB; rw [if_neg (by omega)]
      rw [e3, e4, e5, if_neg (by omega), List.nil_append, Nat.zero_add]
      exact ⟨i1, i2⟩
    · obtain ⟨i1, i2⟩ := suf_back h more r (b + 1) (b + 1) (by omega) (Nat.le_refl _)
      obtain ⟨j1, j2, j3⟩ := ent_back (i := b + 1) ⟨by omega, by omega⟩ ⟨k1, k2⟩ k3 k4.1 k4.2.2.1 (sufB X r (b + 1) ++ more) (bf := bf) (by omega)
      rw [e3, e4, if_pos k1, List.append_assoc, Nat.add_comm 1]
      refine ⟨?_, ?_⟩
      · show (eOk bf (entB (b + 1) (X (b + 1)) ++ (sufB X r (b + 1) ++ more)) && tOk (cntS X r (b + 1)) (nN 8 (entB (b + 1) (X (b + 1)) ++ (sufB X r (b + 1) ++ more))) (eNx (entB (b + 1) (X (b + 1)) ++ (sufB X r (b + 1) ++ more)))) = true
        rw [j1, j2, j3, i1]
        rfl
      · show tNx (cntS X r (b + 1)) (eNx (entB (b + 1) (X (b + 1)) ++ (sufB X r (b + 1) ++ more))) = more
        rw [j3]
        exact i2
/-- A table's bytes read back. -/
theorem table_back {W : World} {X : Nat → Opn} (h : RE W X) : sOk (num 0 (cntTo X 8) ++ tabB X 8) = true ∧ sNx (num 0 (cntTo X 8) ++ tabB X 8) = [] := by
  have hc := cntTo_le X 8
  obtain ⟨a1, r1, b1⟩ := nN_back 8 (cntTo X 8) (tabB X 8) (by omega) hc
  obtain ⟨s1, s2⟩ := suf_tab X 8 0
  have t1 : tabB X 8 = sufB X 8 0 := s1
  have t2 : cntTo X 8 = cntS X 8 0 := by
    have h := s2
    have e : cntTo X 0 = 0 := rfl
    rw [e, Nat.zero_add, Nat.zero_add] at h
    exact h
  obtain ⟨k1, k2⟩ := suf_back h [] 8 0 0 (by omega) (Nat.le_refl _)
  rw [List.append_nil] at k1 k2
  unfold sOk sNx
  rw [b1, a1, r1, t1, t2]
  exact ⟨k1, k2⟩
end
section
open Go.RowKit Go.Maps
theorem sB_str (bs : List Nat) (h : ∀ c ∈ bs, c < 256) : sB (str bs) = bs := by
  unfold sB str
  simp only [List.map_map]
  conv => rhs; rw [← List.map_id bs]
  apply List.map_congr_left
  intro c hc
  have := h c hc
  simp [UInt8.toNat_ofNat_of_lt, Nat.mod_eq_of_lt this]
theorem opl_at {w : World} {N : Nat} {x : Opn} {t : TypeId} (h : w.heap[N]? = some (.cells (opL x).toArray t (0, 0))) : w.rangeAt N 0 (opL x) := by
  intro j v hv
  rw [Nat.zero_add]
  simp only [World.cell?, h]
  simpa using hv
theorem opc_at {w : World} {N : Nat} {x : Opn} {t : TypeId} (h : w.heap[N]? = some (.cells (opL x).toArray t (0, 0))) : OpCells w N (0 + 0 * 17) x := by
  have := op_at (x0 := .int .i64 x.kd) (x1 := .int .u64 x.cl) (x2 := .int .u64 x.rq) (x3 := .int .i64 x.cd) (x4 := .int .i64 x.tm) (x5 := .int .u64 x.id) (x6 := .int .i64 x.cn) (x7 := .int .i64 x.st) (x8 := .int .i64 x.lv) (x9 := .int .u64 x.ge) (x10 := .int .i64 x.fr) (x11 := .int .i64 x.lf) (x12 := .int .i64 x.du) (x13 := .int .i64 x.tl) (x14 := .slice x.a x.n x.ca) (x15 := .int .u64 x.nt) (x16 := .int .i64 x.de) h
  exact this
theorem Rt.beside {Av : Nat} {W W' : World} {T mb c : Nat} {M : Lit → Option Value} {X : Nat → Opn} (h : Rt Av W T mb c M X) {mb2 : Nat} (g : W.grownBy W' (some mb2)) (hm : ∃ es cl, W.heap[mb2]? = some (.map es cl)) (hT : T ≠ mb2) (hmb : mb ≠ mb2) : Rt Av W' T mb c M X := by
  refine ⟨⟨(g.block T (ex_lt h.1.1) (by intro e; injection e with e; exact hT e)).trans h.1.1, h.1.2.block (g.block mb h.1.2.lt (by intro e; injection e with e; exact hmb e))⟩, h.2.1, fun i h1 h2 => ?_, h.2.2.2⟩
  exact ((h.2.2.1 i h1 h2).grown g hm).mono g.size
/-- What stands before the bytes are compared. -/
def SA (Av : Nat) (w1 : World) (T mb c : Nat) (M : Lit → Option Value) (X : Nat → Opn) (T2 mb2 c2 : Nat) (M2 : Lit → Option Value) (X2 : Nat → Opn) (G10 T3 mb3 c3 : Nat) (M3 : Lit → Option Value) (X3 : Nat → Opn) (W : World) : Prop :=
  Rt Av W T mb c M X ∧ RT W Av X ∧ Rt Av W T2 mb2 c2 M2 X2 ∧ RT W G10 X2 ∧ Rt Av W T3 mb3 c3 M3 X3 ∧ Below w1.heap.size w1 W
theorem SA.kept {Av : Nat} {w1 : World} {T mb c : Nat} {M : Lit → Option Value} {X : Nat → Opn} {T2 mb2 c2 : Nat} {M2 : Lit → Option Value} {X2 : Nat → Opn} {G10 T3 mb3 c3 : Nat} {M3 : Lit → Option Value} {X3 : Nat → Opn} {W W' : World} (h : SA Av w1 T mb c M X T2 mb2 c2 M2 X2 G10 T3 mb3 c3 M3 X3 W) (hb : Below W.heap.size W W') : SA Av w1 T mb c M X T2 mb2 c2 M2 X2 G10 T3 mb3 c3 M3 X3 W' :=
  ⟨h.1.kept hb, h.2.1.kept hb, h.2.2.1.kept hb, h.2.2.2.1.kept hb, h.2.2.2.2.1.kept hb, h.2.2.2.2.2.trans (hb.mono h.2.2.2.2.2.size)⟩
/-- The bytes of a table. -/
theorem Rt.ybytes {Av : Nat} {W : World} {T mb c : Nat} {M : Lit → Option Value} {X : Nat → Opn} (h : Rt Av W T mb c M X) : c ≤ 8 ∧ (num 0 c ++ tabB X 8).length ≤ 10000 ∧ (∀ y ∈ num 0 c ++ tabB X 8, y < 256) := by
  have hc := cntTo_le X 8
  have h1 := h.2.1
  have hk8 := h.re.ok 8 (Nat.le_refl _)
  refine ⟨by omega, by have := num_len9 0 c (by omega); have := hk8.1; rw [List.length_append]; omega, fun y hy => ?_⟩
  rcases List.mem_append.1 hy with h | h
  · exact num_lt' 0 _ (by omega) (by omega) y h
  · exact hk8.2 y h
theorem Rt.tb {Av : Nat} {W : World} {T mb c : Nat} {M : Lit → Option Value} {X : Nat → Opn} (h : Rt Av W T mb c M X) : Calls Try.prog 33 #[.pointer (some ⟨T, 0, none⟩)] W fun e w' => e = .returned (.string (str (num 0 c ++ tabB X 8))) ∧ Below W.heap.size W w' :=
  bytes20 T mb c M X W h.1 h.ybytes.1 h.2.2.1
theorem Rt.pb {Av : Nat} {W : World} {T mb c : Nat} {M : Lit → Option Value} {X : Nat → Opn} (h : Rt Av W T mb c M X) : Calls Try.prog 34 #[.agg (tabC X).toArray] W fun e w' => ∃ v, e = .returned v ∧ RB w' v (num 0 c ++ tabB X 8) ∧ Below W.heap.size W w' := by
  refine (rput20 X W h.re).mono ?_
  rintro e w' ⟨v, he, ho, hb⟩
  rw [← h.2.1] at ho
  exact ⟨v, he, ho.rb h.ybytes.2.2 (by have := h.ybytes.2.1; omega), hb⟩
theorem three_at' {w : World} {N : Nat} {x0 x1 x2 : Value} {t : TypeId} (h : w.heap[N]? = some (.cells #[x0, x1, x2] t (0, 0))) : w.cell? ⟨N, 0, none⟩ = some x0 ∧ w.cell? ⟨N, 1, none⟩ = some x1 ∧ w.cell? ⟨N, 2, none⟩ = some x2 := by
  simp [World.cell?, h]
set_option maxRecDepth 100000 in
set_option maxHeartbeats 8000000 in
theorem apart_any (a0 : Option Addr) (len cap : Nat) (O : Nat → Opn) (kd cl rq : Int) (cd tm id cn st lv ge fr lf du tl : Int) (a : Option Addr) (n ca : Nat) (nt de : Int) (xs : List Nat) (w : World) (h : OpsB w a0 len O) (hin : OpIn w (Opn.mk kd cl rq cd tm id cn st lv ge fr lf du tl a n ca nt de xs)) (hb3 : B3 (Opn.mk kd cl rq cd tm id cn st lv ge fr lf du tl a n ca nt de xs)) :
    Calls Try.prog 9 #[.slice a0 len cap, .agg #[.int .i64 kd, .int .u64 cl, .int .u64 rq, .int .i64 cd, .int .i64 tm, .int .u64 id, .int .i64 cn, .int .i64 st, .int .i64 lv, .int .u64 ge, .int .i64 fr, .int .i64 lf, .int .i64 du, .int .i64 tl, .slice a n ca, .int .u64 nt, .int .i64 de]] w fun e w' => e = .returned (.bool true) ∧ Below w.heap.size w w' := by
  have HONE : Hid (∀ V, (tabC V).toArray.all (·.oneCell') = true) := Lib.hid (fun V => all_oneCell_toArray (tabC_one V))
  have HYI : Hid (∀ V, (Try.prog.info? 62).map (·.size) = some (tabC V).length) := Lib.hid (fun V => by rw [rt_info, tabC_len])
  have HTA : Hid (∀ V, (tabC V).toArray.size = 135) := Lib.hid (fun V => by rw [List.size_toArray, tabC_len])
  have HYA : Hid (∀ V, (Try.prog.info? 62).map (·.size) = some (tabC V).toArray.size) := Lib.hid (fun V => by rw [rt_info, List.size_toArray, tabC_len])
  have HL17 : Hid ((Try.prog.info? 64).map (·.size) = some (opL (Opn.mk kd cl rq cd tm id cn st lv ge fr lf du tl a n ca nt de xs)).length) := Lib.hid op_info
  obtain ⟨Bo, so, zo⟩ := box1 w #[.int .i64 kd, .int .u64 cl, .int .u64 rq, .int .i64 cd, .int .i64 tm, .int .u64 id, .int .i64 cn, .int .i64 st, .int .i64 lv, .int .u64 ge, .int .i64 fr, .int .i64 lf, .int .i64 du, .int .i64 tl, .slice a n ca, .int .u64 nt, .int .i64 de] 64
  obtain ⟨N0, hN0⟩ : ∃ y, w.heap.size = y := ⟨_, rfl⟩
  have HO := Lib.hid (h.1.kept Bo)
  have HO3 := Lib.hid h.2
  have HIN := Lib.hid (hin.kept Bo)
  have HB3 := Lib.hid hb3
  rw [hN0] at so zo
  have HSO := Lib.hid so
  have HSZ : Hid (N0 < (w.alloc (.cells #[.int .i64 kd, .int .u64 cl, .int .u64 rq, .int .i64 cd, .int .i64 tm, .int .u64 id, .int .i64 cn, .int .i64 st, .int .i64 lv, .int .u64 ge, .int .i64 fr, .int .i64 lf, .int .i64 du, .int .i64 tl, .slice a n ca, .int .u64 nt, .int .i64 de] 64)).heap.size) := Lib.hid (by omega)
  have HB0 := Lib.hid Bo
  clear h hin hb3 Bo so zo
  go_enter Try.func9, Try.ntmps9
  go_wp2_with fail
  try rw [hN0]
  have HN0 := Lib.hid hN0
  clear hN0
  generalize w.alloc (.cells #[.int .i64 kd, .int .u64 cl, .int .u64 rq, .int .i64 cd, .int .i64 tm, .int .u64 id, .int .i64 cn, .int .i64 st, .int .i64 lv, .int .u64 ge, .int .i64 fr, .int .i64 lf, .int .i64 du, .int .i64 tl, .slice a n ca, .int .u64 nt, .int .i64 de] 64) = w1 at HO HIN HSO HSZ HB0 ⊢
  have HRNG : Hid (∀ W, Below w1.heap.size w1 W → W.rangeAt N0 0 (opL (Opn.mk kd cl rq cd tm id cn st lv ge fr lf du tl a n ca nt de xs))) := Lib.hid (fun W hb => opl_at (ex_below HSO.out hb))
  refine (light20 a0 len cap O w1 HO.out).mono ?_
  rintro e w2 ⟨z, rfl, hz, hb⟩
  have HB2 := Lib.hid hb
  clear hb
  cases z
  case false =>
    clear hz
    go_wp2_with fail
    refine (lives20 _).mono ?_
    rintro e w3 ⟨rfl, hb⟩
    have HBF := Lib.hid (HB0.out.trans ((HB2.out.trans (hb.mono HB2.out.size)).mono HB0.out.size))
    clear hb
    go_wp2_with fail
    go_ret
    exact ⟨rfl, HBF.out⟩
  case true =>
  have HZ := Lib.hid (hz rfl)
  clear hz
  obtain ⟨q0, q1, q2, q3, q4, q5, q6, q7, q8, q9, q10, q11, q12, q13, q14, q15, q16⟩ := op_at (ex_below HSO.out HB2.out)
  go_wp2_with fail
  clear q0 q1 q2 q3 q4 q5 q6 q7 q8 q9 q10 q11 q12 q13 q14 q15 q16
  obtain ⟨bx, sx, zx⟩ := box1 w2 #[.int .i64 kd, .int .u64 cl, .int .u64 rq, .int .i64 cd, .int .i64 tm, .int .u64 id, .int .i64 cn, .int .i64 st, .int .i64 lv, .int .u64 ge, .int .i64 fr, .int .i64 lf, .int .i64 du, .int .i64 tl, .slice a n ca, .int .u64 nt, .int .i64 de] 64
  have hb2x : Below w1.heap.size w1 (w2.alloc (.cells #[.int .i64 kd, .int .u64 cl, .int .u64 rq, .int .i64 cd, .int .i64 tm, .int .u64 id, .int .i64 cn, .int .i64 st, .int .i64 lv, .int .u64 ge, .int .i64 fr, .int .i64 lf, .int .i64 du, .int .i64 tl, .slice a n ca, .int .u64 nt, .int .i64 de] 64)) := HB2.out.trans (bx.mono HB2.out.size)
  have hops : Ops (w2.alloc (.cells #[.int .i64 kd, .int .u64 cl, .int .u64 rq, .int .i64 cd, .int .i64 tm, .int .u64 id, .int .i64 cn, .int .i64 st, .int .i64 lv, .int .u64 ge, .int .i64 fr, .int .i64 lf, .int .i64 du, .int .i64 tl, .slice a n ca, .int .u64 nt, .int .i64 de] 64)) (some ⟨w2.heap.size, 0, none⟩) 1 (fun _ => (Opn.mk kd cl rq cd tm id cn st lv ge fr lf du tl a n ca nt de xs)) := ⟨by unfold maxLen; omega, fun _ => ⟨w2.heap.size, 0, rfl, ex_lt sx, fun k hk => by
    obtain rfl : k = 0 := by omega
    exact opc_at sx⟩, fun k hk => HIN.out.kept hb2x⟩
  have HOPS := Lib.hid hops
  have HB2X := Lib.hid hb2x
  clear bx sx zx hb2x hops HB2
  generalize w2.alloc (.cells #[.int .i64 kd, .int .u64 cl, .int .u64 rq, .int .i64 cd, .int .i64 tm, .int .u64 id, .int .i64 cn, .int .i64 st, .int .i64 lv, .int .u64 ge, .int .i64 fr, .int .i64 lf, .int .i64 du, .int .i64 tl, .slice a n ca, .int .u64 nt, .int .i64 de] 64) = w2x at HOPS HB2X ⊢
  refine (light20 _ 1 1 (fun _ => (Opn.mk kd cl rq cd tm id cn st lv ge fr lf du tl a n ca nt de xs)) w2x HOPS.out).mono ?_
  rintro e w3 ⟨z, rfl, hz, hb⟩
  have HBX := Lib.hid (HB2X.out.trans (hb.mono HB2X.out.size))
  clear hb HOPS HB2X
  cases z
  case false =>
    clear hz
    go_wp2_with fail
    refine (lives20 _).mono ?_
    rintro e w9 ⟨rfl, hb⟩
    have HBF := Lib.hid (HB0.out.trans ((HBX.out.trans (hb.mono HBX.out.size)).mono HB0.out.size))
    clear hb
    go_wp2_with fail
    go_ret
    exact ⟨rfl, HBF.out⟩
  case true =>
  have HN2 : Hid (n ≤ 200) := Lib.hid ((hz rfl).1 0 (by omega))
  clear hz
  go_wp2_with fail
  refine (empty_any w3).mono ?_
  rintro e w4 ⟨T, mb, rfl, hT, hmb, ht, hb⟩
  have A1 : Below w4.heap.size w4 (w4.alloc (.cells Try.zeroCells62 62)) := (Below.refl _ _).alloc (Nat.le_refl _) _
  have hB2 := HBX.out.trans (hb.mono HBX.out.size)
  have HB4 := Lib.hid (hB2.trans (A1.mono hB2.size))
  have hz0 := RT.made w4 (fun _ => zOp) 62
  rw [← z135] at hz0
  obtain ⟨Av, hAv⟩ : ∃ y, w4.heap.size = y := ⟨_, rfl⟩
  have HRT := Lib.hid (show Rt Av (w4.alloc (.cells Try.zeroCells62 62)) T mb 0 (fun _ => none) (fun _ => zOp) from ⟨ht.kept A1, rfl, fun i _ _ => .inl ⟨rfl, rfl⟩, fun _ _ => rfl⟩)
  have HMM : Hid (w1.heap.size ≤ mb ∧ mb < Av ∧ T < Av ∧ w1.heap.size ≤ Av ∧ w1.heap.size ≤ T) := Lib.hid ⟨Nat.le_trans HBX.out.size hmb, by rw [← hAv]; exact ht.2.lt, by rw [← hAv]; exact ex_lt ht.1, by rw [← hAv]; exact hB2.size, Nat.le_trans HBX.out.size hT⟩
  rw [hAv] at hz0
  have HR := Lib.hid hz0
  clear hT hmb ht hb A1 hB2 hz0 HBX
  go_wp2_with fail
  try rw [hAv]
  clear hAv
  generalize w4.alloc (.cells Try.zeroCells62 62) = W5 at HB4 HRT HR ⊢
  go_loopw [32] (fun i wr => ∃ (k : Nat) (M : Lit → Option Value) (X : Nat → Opn) (c : Nat), k ≤ len ∧ i = .int .i64 k ∧ Hid (Rt Av wr T mb c M X) ∧ Hid (RT wr Av X) ∧ Hid (Below w1.heap.size w1 wr)) (fun i _ => len - (intOf i).toNat)
  case atStart => exact ⟨0, _, _, 0, Nat.zero_le _, rfl, HRT, HR, HB4⟩
  case round =>
    clear HRT HR HB4 W5
    obtain ⟨k, M, X, c, hk, rfl, HRT, HR, HB⟩ := hrel
    by_cases hlt : k < len
    · have h1 := HO.out.kept HB.out
      obtain ⟨ab, ao, rfl, hab, hcs⟩ := h1.2.1 (by omega)
      have hc := hcs k hlt
      unfold OpCells at hc
      have hin := h1.2.2 k hlt
      have hin0 := HO.out.2.2 k hlt
      have hb3 := HO3.out k hlt
      have hn2 := HZ.out.1 k hlt
      have hlen := HZ.out.2
      obtain ⟨x, hx⟩ : ∃ x, O k = x := ⟨_, rfl⟩
      rw [hx] at hc hin hn2 hb3 hin0
      obtain ⟨kd1, cl1, rq1, cd1, tm1, id1, cn1, st1, lv1, ge1, fr1, lf1, du1, tl1, a1, n1, ca1, nt1, de1, xs1⟩ := x
      clear hx
      dsimp only at hn2
      have HRG := Lib.hid (op_rng hc)
      have HXA : Hid (∀ g o, a1 = some ⟨g, o, none⟩ → 0 < n1 → g ≠ Av) := Lib.hid (fun g o ha h0 => by
        obtain ⟨b, off, ha', hb', -⟩ := hin0.1.2.2.2 0 h0
        have ha2 : a1 = some ⟨b, off, none⟩ := ha'
        rw [ha2] at ha
        injection ha with ha
        injection ha with ha _ _
        have := HMM.out
        omega)
      have k0 : (0 : Int) ≤ (k : Int) := by omega
      have kl : (k : Int) < (len : Int) := by omega
      have d4 : decide ((k : Int) < (len : Int)) = true := by simp [hlt]
      have hw64 : wrap64 ((k : Int) + 1) = (k : Int) + 1 := IntWalk.wrap64_in _ (by omega)
      obtain ⟨Y1, Y2, -⟩ := box1 wr #[.int .i64 0, .int .u64 0, .int .u64 0, .int .i64 0, .int .i64 0, .int .u64 0, .int .i64 0, .int .i64 0, .int .i64 0, .int .u64 0, .int .i64 0, .int .i64 0, .int .i64 0, .int .i64 0, .slice none 0 0, .int .u64 0, .int .i64 0] 64
      have hgg := HR.out.lt
      obtain ⟨G6, hG6⟩ : ∃ y, wr.heap.size = y := ⟨_, rfl⟩
      rw [hG6] at Y2
      have HTH := Lib.hid (there_box Y2)
      have hbw : Below wr.heap.size wr ((wr.alloc (.cells #[.int .i64 0, .int .u64 0, .int .u64 0, .int .i64 0, .int .i64 0, .int .u64 0, .int .i64 0, .int .i64 0, .int .i64 0, .int .u64 0, .int .i64 0, .int .i64 0, .int .i64 0, .int .i64 0, .slice none 0 0, .int .u64 0, .int .i64 0] 64)).setCells G6 0 (opL (Opn.mk kd1 cl1 rq1 cd1 tm1 id1 cn1 st1 lv1 ge1 fr1 lf1 du1 tl1 a1 n1 ca1 nt1 de1 xs1))) := below_setCells Y1 (by rw [hG6]; exact Nat.le_refl _) _ _
      have HRT7 := Lib.hid (HRT.out.kept hbw)
      have HR7 := Lib.hid (HR.out.kept hbw)
      have HB7 := Lib.hid (HB.out.trans (hbw.mono HB.out.size))
      have HS7 : Hid (((wr.alloc (.cells #[.int .i64 0, .int .u64 0, .int .u64 0, .int .i64 0, .int .i64 0, .int .u64 0, .int .i64 0, .int .i64 0, .int .i64 0, .int .u64 0, .int .i64 0, .int .i64 0, .int .i64 0, .int .i64 0, .slice none 0 0, .int .u64 0, .int .i64 0] 64)).setCells G6 0 (opL (Opn.mk kd1 cl1 rq1 cd1 tm1 id1 cn1 st1 lv1 ge1 fr1 lf1 du1 tl1 a1 n1 ca1 nt1 de1 xs1))).rangeAt G6 0 (opL (Opn.mk kd1 cl1 rq1 cd1 tm1 id1 cn1 st1 lv1 ge1 fr1 lf1 du1 tl1 a1 n1 ca1 nt1 de1 xs1))) := Lib.hid (World.rangeAt_setCells_same _ G6 0 _ HTH.out)
      have HDO := Lib.hid (do_any HRT7.out kd1 cl1 rq1 cd1 tm1 id1 cn1 st1 lv1 ge1 fr1 lf1 du1 tl1 a1 n1 ca1 nt1 de1 xs1 (hin.kept hbw) hb3 hn2 (Nat.lt_of_lt_of_le hgg hbw.size) HXA.out)
      have HL71 : Hid ((Try.prog.info? 64).map (·.size) = some (opL (Opn.mk kd1 cl1 rq1 cd1 tm1 id1 cn1 st1 lv1 ge1 fr1 lf1 du1 tl1 a1 n1 ca1 nt1 de1 xs1)).length) := Lib.hid op_info
      have HONE7 := Lib.hid (all_oneCell_toArray (opL_one (Opn.mk kd1 cl1 rq1 cd1 tm1 id1 cn1 st1 lv1 ge1 fr1 lf1 du1 tl1 a1 n1 ca1 nt1 de1 xs1)))
      unfold rtV at HDO
      clear Y1 Y2 h1 hcs hab hin hin0 hb3 hn2 HRT HR HB hlen hgg hbw hc
      go_wp2_with (first
        | (refine wpList_load_mid rfl 64 (.tmp 34) rfl ab (ao + k * 17) rfl (opL (Opn.mk kd1 cl1 rq1 cd1 tm1 id1 cn1 st1 lv1 ge1 fr1 lf1 du1 tl1 a1 n1 ca1 nt1 de1 xs1)) _ ?hh op_und rfl HL71.out ?_; exact HRG.out)
        | (refine wpList_store_mid rfl 64 (.tmp 8) (.tmp 35) rfl G6 0 (opL (Opn.mk kd1 cl1 rq1 cd1 tm1 id1 cn1 st1 lv1 ge1 fr1 lf1 du1 tl1 a1 n1 ca1 nt1 de1 xs1)).toArray rfl rfl ?ht op_info HONE7.out ?_; exact HTH.out; rw [List.toList_toArray]; generalize (wr.alloc (.cells #[.int .i64 0, .int .u64 0, .int .u64 0, .int .i64 0, .int .i64 0, .int .u64 0, .int .i64 0, .int .i64 0, .int .i64 0, .int .u64 0, .int .i64 0, .int .i64 0, .int .i64 0, .int .i64 0, .slice none 0 0, .int .u64 0, .int .i64 0] 64)).setCells G6 0 (opL (Opn.mk kd1 cl1 rq1 cd1 tm1 id1 cn1 st1 lv1 ge1 fr1 lf1 du1 tl1 a1 n1 ca1 nt1 de1 xs1)) = W7 at HRT7 HR7 HB7 HS7 HDO ⊢)
        | (refine wpList_load_mid (w := W7) rfl 62 (.tmp 6) rfl Av 0 rfl (tabC X) _ HR7.out.1 rt_und rfl (HYI.out X) ?_)
        | (refine wpList_load_mid (w := W7) rfl 64 (.tmp 8) rfl G6 0 rfl (opL (Opn.mk kd1 cl1 rq1 cd1 tm1 id1 cn1 st1 lv1 ge1 fr1 lf1 du1 tl1 a1 n1 ca1 nt1 de1 xs1)) _ HS7.out op_und rfl HL71.out ?_))
      clear hG6
      refine HDO.out.mono ?_
      rintro e w8 ⟨X', rfl, ⟨c', M', hrt⟩, hg⟩
      have hB8 := grown_below HB7.out hg HMM.out.1 HB7.out.size
      have HT8 : Hid (w8.there Av 0 135) := Lib.hid (there_eq HR7.out.2 (hg.block _ HR7.out.lt (by intro e; injection e with e; have := HMM.out; omega)))
      have HR11 : Hid (RT (w8.setCells Av 0 (tabC X')) Av X') := Lib.hid (RT.over2 HT8.out X')
      have HRT11 := Lib.hid (hrt.far (w' := w8.setCells Av 0 (tabC X')) (Nat.le_of_eq (size_setCells (tabC X') 0 _).symm) (by have := HMM.out; omega) (by have := HMM.out; omega) (fun k hk => heap_setCells hk (tabC X') 0 _))
      have HB11 := Lib.hid (below_setCells hB8 HMM.out.2.2.2.1 (tabC X') 0 (N := Av))
      clear hrt hg hB8 HDO HRT7 HR7 HB7 HS7
      go_wp2_with (refine wpList_store_mid (w := w8) rfl 62 (.tmp 6) (.tmp 41) rfl Av 0 (tabC X').toArray rfl rfl (by rw [HTA.out X']; exact HT8.out) (HYA.out X') (HONE.out X') ?_; rw [List.toList_toArray]; generalize w8.setCells Av 0 (tabC X') = W11 at HR11 HRT11 HB11 ⊢)
      go_roundw
      case rel => exact ⟨k + 1, M', X', c', hlt, by rw [hw64]; rfl, HRT11, HR11, HB11⟩
      case measure => exact meas_lt len k _ (by rw [hw64]) hlt
    · obtain rfl : k = len := by omega
      have hin1 := HIN.out.kept HB.out
      go_wp2_with fail
      refine (clone20 HRT.out HR.out.lt).mono ?_
      rintro e v1 ⟨T2, mb2, M2, rfl, hT2, hmb2, hrt2, hb⟩
      have HRT1 := Lib.hid (HRT.out.kept hb)
      have HR1 := Lib.hid (HR.out.kept hb)
      have HB1 := Lib.hid (HB.out.trans (hb.mono HB.out.size))
      have HM2 : Hid (T < T2 ∧ T < mb2 ∧ mb < T2 ∧ mb < mb2 ∧ Av < T2 ∧ Av < mb2 ∧ w1.heap.size ≤ mb2) := Lib.hid (by have h1 := HR.out.lt; have h2 := HMM.out; have h3 := HB.out.size; omega)
      have hrg2 := HRNG.out v1 HB1.out
      have HDO := Lib.hid (do_any hrt2 kd cl rq cd tm id cn st lv ge fr lf du tl a n ca nt de xs (hin1.kept hb) HB3.out HN2.out (Nat.lt_of_lt_of_le HR.out.lt hb.size) (fun g o ha h0 => by
        obtain ⟨b, off, ha', hb', -⟩ := HIN.out.1.2.2.2 0 h0
        have ha2 : a = some ⟨b, off, none⟩ := ha'
        rw [ha2] at ha
        injection ha with ha
        injection ha with ha _ _
        have := HMM.out
        omega))
      have HIM : Hid (∃ es cl, v1.heap[mb2]? = some (.map es cl)) := Lib.hid hrt2.1.2.isMap
      unfold rtV at HDO
      clear hT2 hmb2 hrt2 hb HRT HR HB hin1
      go_wp2_with (first
        | (refine wpList_load_mid (w := v1) rfl 62 (.tmp 6) rfl Av 0 rfl (tabC X) _ HR1.out.1 rt_und rfl (HYI.out X) ?_)
        | (refine wpList_load_mid (w := v1) rfl 64 (.tmp 3) rfl N0 0 rfl (opL (Opn.mk kd cl rq cd tm id cn st lv ge fr lf du tl a n ca nt de xs)) _ hrg2 op_und rfl HL17.out ?_))
      clear hrg2
      refine HDO.out.mono ?_
      rintro e v2 ⟨X2, rfl, ⟨c2, M2', hrt2⟩, hg⟩
      clear HDO
      have hrt1 := HRT1.out.beside hg HIM.out (by have := HM2.out; omega) (by have := HM2.out; omega)
      have hr1 : RT v2 Av X := HR1.out.eq (hg.block _ HR1.out.lt (by intro e; injection e with e; have := HM2.out; omega))
      have hb2 := grown_below HB1.out hg HM2.out.2.2.2.2.2.2 HB1.out.size
      have hz10 := RT.made v2 (fun _ => zOp) 62
      rw [← z135] at hz10
      have X1 : Below v2.heap.size v2 ((v2.alloc (.cells Try.zeroCells62 62)).setCells v2.heap.size 0 (tabC X2)) := below_setCells ((Below.refl v2.heap.size v2).alloc (Nat.le_refl _) (.cells Try.zeroCells62 62)) (Nat.le_refl v2.heap.size) (tabC X2) 0
      have hr10 : RT ((v2.alloc (.cells Try.zeroCells62 62)).setCells v2.heap.size 0 (tabC X2)) v2.heap.size X2 := hz10.over X2
      have HTZ : Hid ((v2.alloc (.cells Try.zeroCells62 62)).there v2.heap.size 0 (tabC X2).toArray.size) := Lib.hid (by rw [HTA.out X2]; exact hz10.2)
      obtain ⟨v3, hv3⟩ : ∃ V, (v2.alloc (.cells Try.zeroCells62 62)).setCells v2.heap.size 0 (tabC X2) = V := ⟨_, rfl⟩
      rw [hv3] at X1 hr10
      have HV3 := Lib.hid hv3
      have HRT3 := Lib.hid (hrt1.kept X1)
      have HR3 := Lib.hid (hr1.kept X1)
      have HRT23 := Lib.hid (hrt2.kept X1)
      have HB3' := Lib.hid (hb2.trans (X1.mono hb2.size))
      obtain ⟨G10, hG10⟩ : ∃ y, v2.heap.size = y := ⟨_, rfl⟩
      rw [hG10] at hr10
      have HR103 := Lib.hid hr10
      have HGE := Lib.hid hG10
      clear hrt1 hr1 hb2 hz10 X1 hr10 hv3 hrt2 hg HRT1 HR1 HB1 HIM hG10
      go_wp2_with (refine wpList_store_mid (w := v2.alloc (.cells Try.zeroCells62 62)) rfl 62 (.tmp 10) (.tmp 51) rfl v2.heap.size 0 (tabC X2).toArray rfl rfl HTZ.out (HYA.out X2) (HONE.out X2) ?_; rw [List.toList_toArray]; rw [HV3.out]; rw [HGE.out])
      clear HTZ HV3 HGE
      refine (HRT3.out.tb).mono ?_
      rintro e v4 ⟨rfl, hb⟩
      have hy := HRT3.out.ybytes
      obtain ⟨va, v5, hcv, hrb, hb5⟩ := str_bytes v4 (str (num 0 c ++ tabB X 8)) (by
        have : (str (num 0 c ++ tabB X 8)).size = ((num 0 c ++ tabB X 8)).length := by simp [str, ByteArray.size]
        rw [this]
        have := hy.2.1
        omega)
      rw [sB_str _ hy.2.2] at hrb
      have HRBY := Lib.hid hrb
      have HB35 : Hid (Below v3.heap.size v3 v5) := Lib.hid (hb.trans (hb5.mono hb.size))
      have HY := Lib.hid hy
      clear hrb hb hb5 hy
      go_wp2_with fail
      clear hcv
      refine (open_any va (num 0 c ++ tabB X 8) v5 HRBY.out (by have := HY.out.2.1; omega)).mono ?_
      rintro e v6 ⟨rb, rfl, hle, hrr, hb6⟩
      have HRR6 := Lib.hid hrr
      have HB6 := Lib.hid (And.intro hle hb6)
      clear hle hrr hb6 HRBY
      go_wp2_with fail
      refine (sread Av rb (num 0 c ++ tabB X 8) v6 HRR6.out HY.out.2.2 (by have h1 := HR3.out.lt; have h2 := HB35.out.size; have h3 := HB6.out.2.size; omega)).mono ?_
      rintro e v7 hread
      have htb : sOk (num 0 c ++ tabB X 8) = true ∧ sNx (num 0 c ++ tabB X 8) = [] := by
        rw [HRT3.out.2.1]
        exact table_back HRT3.out.re
      obtain ⟨T3, mb3, c3, M3, X3, rfl, -, -, hrt3, hds, -, hrd⟩ := hread.1 htb.1
      rw [htb.2, List.append_nil] at hds
      have HDS : Hid (num 0 c3 ++ tabB X3 8 = (num 0 c ++ tabB X 8)) := Lib.hid hds.symm
      have hb37 : Below v3.heap.size v3 v7 := HB35.out.trans ((hrd.outside HB6.out.2 HB6.out.2.size HB6.out.1).mono HB35.out.size)
      have HS0 : Hid ((SA Av w1 T mb c M X T2 mb2 c2 M2' X2 G10 T3 mb3 c3 M3 X3) v7) := Lib.hid ⟨HRT3.out.kept hb37, HR3.out.kept hb37, HRT23.out.kept hb37, HR103.out.kept hb37, hrt3, HB3'.out.trans (hb37.mono HB3'.out.size)⟩
      clear hread htb hds hrt3 hrd hb37 HRT3 HR3 HRT23 HR103 HB3' HB6 HRR6 HB35
      go_wp2_with fail
      have HS0' : Hid ((SA Av w1 T mb c M X T2 mb2 c2 M2' X2 G10 T3 mb3 c3 M3 X3) v7.drew) := Lib.hid (HS0.out.kept ((Below.refl v7.heap.size v7).drew))
      clear HS0
      have HS0 := HS0'
      clear HS0'
      refine wp_region_held_drew (S := (SA Av w1 T mb c M X T2 mb2 c2 M2' X2 G10 T3 mb3 c3 M3 X3)) (by kernel_rfl) HS0.out (fun hHeld => ?_)
      clear hHeld
      generalize v7.drew = V0 at HS0 ⊢
      refine wpAnyH_take (i := 0) (oi := { dst := some 61, op := Go.Op.move (Go.Operand.tmp 11), type := 4, pos := "law.go:135", after := #[], guard := none }) (v := ?_) rfl (by kernel_rfl) (by kernel_rfl) (by kernel_rfl) (fun _ _ _ h => h) (Or.inl ⟨by rfl, ?_⟩) HS0.out ?_
      case refine_2 => (intro w1 hS1; clear hS1; go_simp; try with_reducible rfl)
      try simp only [Act.put, List.setIfInBounds_toArray, List.set_cons_zero, List.set_cons_succ]
      refine wpAnyH_take (i := 1) (oi := { dst := some 62, op := Go.Op.unOp Go.UnOp.not 4 (Go.Operand.tmp 61), type := 4, pos := "law.go:135", after := #[{ on := 0, ground := Go.Ground.data }], guard := none }) (v := ?_) rfl (by kernel_rfl) (by kernel_rfl) (by kernel_rfl) (fun _ _ _ h => h) (Or.inl ⟨by rfl, ?_⟩) HS0.out ?_
      case refine_2 => (intro w1 hS1; clear hS1; go_simp; try with_reducible rfl)
      try simp only [Act.put, List.setIfInBounds_toArray, List.set_cons_zero, List.set_cons_succ]
      refine wpAnyH_take (i := 2) (oi := { dst := some 63, op := Go.Op.move (Go.Operand.tmp 62), type := 4, pos := "law.go:135", after := #[{ on := 1, ground := Go.Ground.data }], guard := none }) (v := ?_) rfl (by kernel_rfl) (by kernel_rfl) (by kernel_rfl) (fun _ _ _ h => h) (Or.inl ⟨by rfl, ?_⟩) HS0.out ?_
      case refine_2 => (intro w1 hS1; clear hS1; go_simp; try with_reducible rfl)
      try simp only [Act.put, List.setIfInBounds_toArray, List.set_cons_zero, List.set_cons_succ]
      refine wpAnyH_take (i := 3) (oi := { dst := some 64, op := Go.Op.move (Go.Operand.tmp 13), type := 4, pos := "law.go:135", after := #[{ on := 2, ground := Go.Ground.guard }], guard := some (2, false) }) (v := ?_) rfl (by kernel_rfl) (by kernel_rfl) (by kernel_rfl) (fun _ _ _ h => h) (Or.inl ⟨by rfl, ?_⟩) HS0.out ?_
      case refine_2 => (intro w1 hS1; clear hS1; go_simp; try with_reducible rfl)
      try simp only [Act.put, List.setIfInBounds_toArray, List.set_cons_zero, List.set_cons_succ]
      refine wpAnyH_take (i := 4) (oi := { dst := some 65, op := Go.Op.unOp Go.UnOp.not 4 (Go.Operand.tmp 64), type := 4, pos := "law.go:135", after := #[{ on := 3, ground := Go.Ground.data }, { on := 2, ground := Go.Ground.guard }], guard := some (2, false) }) (v := ?_) rfl (by kernel_rfl) (by kernel_rfl) (by kernel_rfl) (fun _ _ _ h => h) (Or.inl ⟨by rfl, ?_⟩) HS0.out ?_
      case refine_2 => (intro w1 hS1; clear hS1; go_simp; try with_reducible rfl)
      try simp only [Act.put, List.setIfInBounds_toArray, List.set_cons_zero, List.set_cons_succ]
      refine wpAnyH_take (i := 5) (oi := { dst := some 66, op := Go.Op.pick (Go.Operand.tmp 63) (Go.Operand.const (Go.Value.bool true)) (Go.Operand.tmp 65), type := 4, pos := "law.go:135", after := #[{ on := 2, ground := Go.Ground.data }, { on := 4, ground := Go.Ground.data }], guard := none }) (v := ?_) rfl (by kernel_rfl) (by kernel_rfl) (by kernel_rfl) (fun _ _ _ h => h) (Or.inl ⟨by rfl, ?_⟩) HS0.out ?_
      case refine_2 => (intro w1 hS1; clear hS1; go_simp; try with_reducible rfl)
      try simp only [Act.put, List.setIfInBounds_toArray, List.set_cons_zero, List.set_cons_succ]
      refine wpAnyH_take (i := 6) (oi := { dst := some 67, op := Go.Op.move (Go.Operand.tmp 66), type := 4, pos := "law.go:135", after := #[{ on := 5, ground := Go.Ground.data }, { on := 2, ground := Go.Ground.chain }], guard := none }) (v := ?_) rfl (by kernel_rfl) (by kernel_rfl) (by kernel_rfl) (fun _ _ _ h => h) (Or.inl ⟨by rfl, ?_⟩) HS0.out ?_
      case refine_2 => (intro w1 hS1; clear hS1; go_simp; try with_reducible rfl)
      try simp only [Act.put, List.setIfInBounds_toArray, List.set_cons_zero, List.set_cons_succ]
      refine wpAnyH_take (i := 7) (oi := { dst := some 68, op := Go.Op.move (Go.Operand.tmp 5), type := 57, pos := "law.go:135", after := #[{ on := 6, ground := Go.Ground.guard }], guard := some (6, false) }) (v := ?_) rfl (by kernel_rfl) (by kernel_rfl) (by kernel_rfl) (fun _ _ _ h => h) (Or.inl ⟨by rfl, ?_⟩) HS0.out ?_
      case refine_2 => (intro w1 hS1; clear hS1; go_simp; try with_reducible rfl)
      try simp only [Act.put, List.setIfInBounds_toArray, List.set_cons_zero, List.set_cons_succ]
      refine wpAnyH_take (i := 9) (oi := { dst := some 70, op := Go.Op.load 62 (Go.Operand.tmp 6), type := 62, pos := "law.go:135", after := #[{ on := 6, ground := Go.Ground.guard }], guard := some (6, false) }) (v := .agg (tabC X).toArray) rfl (by kernel_rfl) (by kernel_rfl) (by kernel_rfl) (fun _ _ _ h => h) (by exact yieldsIf_load_mid (by rfl) 62 (.tmp 6) rfl Av 0 rfl (tabC X) _ (fun w h => h.2.1.1) rt_und rfl (HYI.out X)) HS0.out ?_
      try simp only [Act.put, List.setIfInBounds_toArray, List.set_cons_zero, List.set_cons_succ]
      refine wpAnyH_ready (rs := [8]) (by kernel_rfl) (by simp) ?_
      refine AllReadyH.cons (o := { dst := some 69, op := Go.Op.call { callee := Go.Callee.value (Go.Operand.func 33), args := #[Go.Operand.tmp 68], argTypes := #[57] }, type := 9, pos := "law.go:135", after := #[{ on := 7, ground := Go.Ground.data }, { on := 6, ground := Go.Ground.chain }, { on := 6, ground := Go.Ground.guard }], guard := some (6, false) }) rfl (fun K hK => ?_) AllReadyH.nil
      go_simp
      refine (HS0.out.1.tb).mono ?_
      rintro e V1 ⟨rfl, hb⟩
      have HS0' : Hid ((SA Av w1 T mb c M X T2 mb2 c2 M2' X2 G10 T3 mb3 c3 M3 X3) V1) := Lib.hid (HS0.out.kept hb)
      clear hb
      clear HS0
      have HS0 := HS0'
      clear HS0'
      refine hK.out _ _ HS0.out (fun hHeld => ?_)
      clear hK K hHeld
      try simp only [Act.put, List.setIfInBounds_toArray, List.set_cons_zero, List.set_cons_succ]
      refine wpAnyH_ready (rs := [10]) (by kernel_rfl) (by simp) ?_
      refine AllReadyH.cons (o := { dst := some 71, op := Go.Op.call { callee := Go.Callee.value (Go.Operand.func 34), args := #[Go.Operand.tmp 70], argTypes := #[62] }, type := 35, pos := "law.go:135", after := #[{ on := 9, ground := Go.Ground.data }, { on := 8, ground := Go.Ground.chain }, { on := 6, ground := Go.Ground.guard }], guard := some (6, false) }) rfl (fun K hK => ?_) AllReadyH.nil
      go_simp
      refine (HS0.out.1.pb).mono ?_
      rintro e V2 ⟨x2, rfl, hrb, hb⟩
      have HS0' : Hid ((fun W => (SA Av w1 T mb c M X T2 mb2 c2 M2' X2 G10 T3 mb3 c3 M3 X3) W ∧ RB W x2 (num 0 c ++ tabB X 8)) V2) := Lib.hid ⟨HS0.out.kept hb, hrb⟩
      clear hb hrb
      refine hK.out _ _ HS0'.out.1 (fun hHeld => ?_)
      refine wpAnyH_moreZ (S' := fun W => (SA Av w1 T mb c M X T2 mb2 c2 M2' X2 G10 T3 mb3 c3 M3 X3) W ∧ RB W x2 (num 0 c ++ tabB X 8)) (fun _ h => h.1) _ _ _ _ ?_
      clear HS0
      have HS0 := HS0'
      clear HS0'
      clear hK K hHeld
      try simp only [Act.put, List.setIfInBounds_toArray, List.set_cons_zero, List.set_cons_succ]
      refine wpAnyH_take (i := 11) (oi := { dst := some 72, op := Go.Op.convert 35 9 (Go.Operand.tmp 71), type := 9, pos := "law.go:135", after := #[{ on := 10, ground := Go.Ground.data }, { on := 6, ground := Go.Ground.guard }], guard := some (6, false) }) (v := .string (str (num 0 c ++ tabB X 8))) rfl (by kernel_rfl) (by kernel_rfl) (by kernel_rfl) (fun _ _ _ h => h) (by exact yields_strZ (fun W h => h.2) _ _ _ (by rfl) _ rfl rfl) HS0.out ?_
      try simp only [Act.put, List.setIfInBounds_toArray, List.set_cons_zero, List.set_cons_succ]
      refine wpAnyH_take (i := 12) (oi := { dst := some 73, op := Go.Op.binOp Go.BinOp.neq 9 (Go.Operand.tmp 69) (Go.Operand.tmp 72) 9, type := 4, pos := "law.go:135", after := #[{ on := 8, ground := Go.Ground.data }, { on := 11, ground := Go.Ground.data }, { on := 6, ground := Go.Ground.guard }], guard := some (6, false) }) (v := ?_) rfl (by kernel_rfl) (by kernel_rfl) (by kernel_rfl) (fun _ _ _ h => h) (Or.inl ⟨by rfl, ?_⟩) HS0.out ?_
      case refine_2 => (intro w1 hS1; clear hS1; go_simp; try with_reducible rfl)
      try simp only [Act.put, List.setIfInBounds_toArray, List.set_cons_zero, List.set_cons_succ]
      refine wpAnyH_take (i := 13) (oi := { dst := some 74, op := Go.Op.pick (Go.Operand.tmp 67) (Go.Operand.const (Go.Value.bool true)) (Go.Operand.tmp 73), type := 4, pos := "law.go:135", after := #[{ on := 6, ground := Go.Ground.data }, { on := 12, ground := Go.Ground.data }], guard := none }) (v := ?_) rfl (by kernel_rfl) (by kernel_rfl) (by kernel_rfl) (fun _ _ _ h => h) (Or.inl ⟨by rfl, ?_⟩) HS0.out ?_
      case refine_2 => (intro w1 hS1; clear hS1; go_simp; try with_reducible rfl)
      try simp only [Act.put, List.setIfInBounds_toArray, List.set_cons_zero, List.set_cons_succ]
      refine wpAnyH_take (i := 14) (oi := { dst := some 75, op := Go.Op.move (Go.Operand.tmp 74), type := 4, pos := "law.go:135", after := #[{ on := 13, ground := Go.Ground.data }, { on := 10, ground := Go.Ground.chain }], guard := none }) (v := ?_) rfl (by kernel_rfl) (by kernel_rfl) (by kernel_rfl) (fun _ _ _ h => h) (Or.inl ⟨by rfl, ?_⟩) HS0.out ?_
      case refine_2 => (intro w1 hS1; clear hS1; go_simp; try with_reducible rfl)
      try simp only [Act.put, List.setIfInBounds_toArray, List.set_cons_zero, List.set_cons_succ]
      refine wpAnyH_take (i := 15) (oi := { dst := some 76, op := Go.Op.move (Go.Operand.tmp 9), type := 57, pos := "law.go:135", after := #[{ on := 14, ground := Go.Ground.guard }], guard := some (14, false) }) (v := ?_) rfl (by kernel_rfl) (by kernel_rfl) (by kernel_rfl) (fun _ _ _ h => h) (Or.inl ⟨by rfl, ?_⟩) HS0.out ?_
      case refine_2 => (intro w1 hS1; clear hS1; go_simp; try with_reducible rfl)
      try simp only [Act.put, List.setIfInBounds_toArray, List.set_cons_zero, List.set_cons_succ]
      refine wpAnyH_take (i := 17) (oi := { dst := some 78, op := Go.Op.load 62 (Go.Operand.tmp 10), type := 62, pos := "law.go:135", after := #[{ on := 14, ground := Go.Ground.guard }], guard := some (14, false) }) (v := .agg (tabC X2).toArray) rfl (by kernel_rfl) (by kernel_rfl) (by kernel_rfl) (fun _ _ _ h => h) (by exact yieldsIf_load_mid (by rfl) 62 (.tmp 10) rfl G10 0 rfl (tabC X2) _ (fun w h => h.1.2.2.2.1.1) rt_und rfl (HYI.out X2)) HS0.out ?_
      try simp only [Act.put, List.setIfInBounds_toArray, List.set_cons_zero, List.set_cons_succ]
      refine wpAnyH_ready (rs := [16]) (by kernel_rfl) (by simp) ?_
      refine AllReadyH.cons (o := { dst := some 77, op := Go.Op.call { callee := Go.Callee.value (Go.Operand.func 33), args := #[Go.Operand.tmp 76], argTypes := #[57] }, type := 9, pos := "law.go:135", after := #[{ on := 15, ground := Go.Ground.data }, { on := 14, ground := Go.Ground.chain }, { on := 14, ground := Go.Ground.guard }], guard := some (14, false) }) rfl (fun K hK => ?_) AllReadyH.nil
      go_simp
      refine (HS0.out.1.2.2.1.tb).mono ?_
      rintro e V3 ⟨rfl, hb⟩
      have HS0' : Hid ((fun W => (SA Av w1 T mb c M X T2 mb2 c2 M2' X2 G10 T3 mb3 c3 M3 X3) W ∧ RB W x2 (num 0 c ++ tabB X 8)) V3) := Lib.hid ⟨HS0.out.1.kept hb, HS0.out.2.kept hb⟩
      clear hb
      clear HS0
      have HS0 := HS0'
      clear HS0'
      refine hK.out _ _ HS0.out (fun hHeld => ?_)
      clear hK K hHeld
      try simp only [Act.put, List.setIfInBounds_toArray, List.set_cons_zero, List.set_cons_succ]
      refine wpAnyH_ready (rs := [18]) (by kernel_rfl) (by simp) ?_
      refine AllReadyH.cons (o := { dst := some 79, op := Go.Op.call { callee := Go.Callee.value (Go.Operand.func 34), args := #[Go.Operand.tmp 78], argTypes := #[62] }, type := 35, pos := "law.go:135", after := #[{ on := 17, ground := Go.Ground.data }, { on := 16, ground := Go.Ground.chain }, { on := 14, ground := Go.Ground.guard }], guard := some (14, false) }) rfl (fun K hK => ?_) AllReadyH.nil
      go_simp
      refine (HS0.out.1.2.2.1.pb).mono ?_
      rintro e V4 ⟨x4, rfl, hrb, hb⟩
      have HS0' : Hid ((fun W => ((SA Av w1 T mb c M X T2 mb2 c2 M2' X2 G10 T3 mb3 c3 M3 X3) W ∧ RB W x2 (num 0 c ++ tabB X 8)) ∧ RB W x4 (num 0 c2 ++ tabB X2 8)) V4) := Lib.hid ⟨⟨HS0.out.1.kept hb, HS0.out.2.kept hb⟩, hrb⟩
      clear hb hrb
      refine hK.out _ _ HS0'.out.1 (fun hHeld => ?_)
      refine wpAnyH_moreZ (S' := fun W => ((SA Av w1 T mb c M X T2 mb2 c2 M2' X2 G10 T3 mb3 c3 M3 X3) W ∧ RB W x2 (num 0 c ++ tabB X 8)) ∧ RB W x4 (num 0 c2 ++ tabB X2 8)) (fun _ h => h.1) _ _ _ _ ?_
      clear HS0
      have HS0 := HS0'
      clear HS0'
      clear hK K hHeld
      try simp only [Act.put, List.setIfInBounds_toArray, List.set_cons_zero, List.set_cons_succ]
      refine wpAnyH_take (i := 19) (oi := { dst := some 80, op := Go.Op.convert 35 9 (Go.Operand.tmp 79), type := 9, pos := "law.go:135", after := #[{ on := 18, ground := Go.Ground.data }, { on := 14, ground := Go.Ground.guard }], guard := some (14, false) }) (v := .string (str (num 0 c2 ++ tabB X2 8))) rfl (by kernel_rfl) (by kernel_rfl) (by kernel_rfl) (fun _ _ _ h => h) (by exact yields_strZ (fun W h => h.2) _ _ _ (by rfl) _ rfl rfl) HS0.out ?_
      try simp only [Act.put, List.setIfInBounds_toArray, List.set_cons_zero, List.set_cons_succ]
      refine wpAnyH_take (i := 20) (oi := { dst := some 81, op := Go.Op.binOp Go.BinOp.neq 9 (Go.Operand.tmp 77) (Go.Operand.tmp 80) 9, type := 4, pos := "law.go:135", after := #[{ on := 16, ground := Go.Ground.data }, { on := 19, ground := Go.Ground.data }, { on := 14, ground := Go.Ground.guard }], guard := some (14, false) }) (v := ?_) rfl (by kernel_rfl) (by kernel_rfl) (by kernel_rfl) (fun _ _ _ h => h) (Or.inl ⟨by rfl, ?_⟩) HS0.out ?_
      case refine_2 => (intro w1 hS1; clear hS1; go_simp; try with_reducible rfl)
      try simp only [Act.put, List.setIfInBounds_toArray, List.set_cons_zero, List.set_cons_succ]
      refine wpAnyH_take (i := 21) (oi := { dst := some 82, op := Go.Op.pick (Go.Operand.tmp 75) (Go.Operand.const (Go.Value.bool true)) (Go.Operand.tmp 81), type := 4, pos := "law.go:135", after := #[{ on := 14, ground := Go.Ground.data }, { on := 20, ground := Go.Ground.data }], guard := none }) (v := ?_) rfl (by kernel_rfl) (by kernel_rfl) (by kernel_rfl) (fun _ _ _ h => h) (Or.inl ⟨by rfl, ?_⟩) HS0.out ?_
      case refine_2 => (intro w1 hS1; clear hS1; go_simp; try with_reducible rfl)
      try simp only [Act.put, List.setIfInBounds_toArray, List.set_cons_zero, List.set_cons_succ]
      refine wpAnyH_take (i := 22) (oi := { dst := some 83, op := Go.Op.move (Go.Operand.tmp 82), type := 4, pos := "law.go:135", after := #[{ on := 21, ground := Go.Ground.data }, { on := 18, ground := Go.Ground.chain }], guard := none }) (v := ?_) rfl (by kernel_rfl) (by kernel_rfl) (by kernel_rfl) (fun _ _ _ h => h) (Or.inl ⟨by rfl, ?_⟩) HS0.out ?_
      case refine_2 => (intro w1 hS1; clear hS1; go_simp; try with_reducible rfl)
      try simp only [Act.put, List.setIfInBounds_toArray, List.set_cons_zero, List.set_cons_succ]
      refine wpAnyH_take (i := 23) (oi := { dst := some 84, op := Go.Op.move (Go.Operand.tmp 12), type := 57, pos := "law.go:135", after := #[{ on := 22, ground := Go.Ground.guard }], guard := some (22, false) }) (v := ?_) rfl (by kernel_rfl) (by kernel_rfl) (by kernel_rfl) (fun _ _ _ h => h) (Or.inl ⟨by rfl, ?_⟩) HS0.out ?_
      case refine_2 => (intro w1 hS1; clear hS1; go_simp; try with_reducible rfl)
      try simp only [Act.put, List.setIfInBounds_toArray, List.set_cons_zero, List.set_cons_succ]
      refine wpAnyH_take (i := 25) (oi := { dst := some 86, op := Go.Op.move (Go.Operand.tmp 5), type := 57, pos := "law.go:135", after := #[{ on := 22, ground := Go.Ground.guard }], guard := some (22, false) }) (v := ?_) rfl (by kernel_rfl) (by kernel_rfl) (by kernel_rfl) (fun _ _ _ h => h) (Or.inl ⟨by rfl, ?_⟩) HS0.out ?_
      case refine_2 => (intro w1 hS1; clear hS1; go_simp; try with_reducible rfl)
      try simp only [Act.put, List.setIfInBounds_toArray, List.set_cons_zero, List.set_cons_succ]
      refine wpAnyH_ready (rs := [24]) (by kernel_rfl) (by simp) ?_
      refine AllReadyH.cons (o := { dst := some 85, op := Go.Op.call { callee := Go.Callee.value (Go.Operand.func 33), args := #[Go.Operand.tmp 84], argTypes := #[57] }, type := 9, pos := "law.go:135", after := #[{ on := 23, ground := Go.Ground.data }, { on := 22, ground := Go.Ground.chain }, { on := 22, ground := Go.Ground.guard }], guard := some (22, false) }) rfl (fun K hK => ?_) AllReadyH.nil
      go_simp
      refine (HS0.out.1.1.2.2.2.2.1.tb).mono ?_
      rintro e V5 ⟨rfl, hb⟩
      rw [HDS.out]
      have HS0' : Hid ((fun W => ((SA Av w1 T mb c M X T2 mb2 c2 M2' X2 G10 T3 mb3 c3 M3 X3) W ∧ RB W x2 (num 0 c ++ tabB X 8)) ∧ RB W x4 (num 0 c2 ++ tabB X2 8)) V5) := Lib.hid ⟨⟨HS0.out.1.1.kept hb, HS0.out.1.2.kept hb⟩, HS0.out.2.kept hb⟩
      clear hb
      clear HS0
      have HS0 := HS0'
      clear HS0'
      refine hK.out _ _ HS0.out (fun hHeld => ?_)
      clear hK K hHeld
      try simp only [Act.put, List.setIfInBounds_toArray, List.set_cons_zero, List.set_cons_succ]
      refine wpAnyH_ready (rs := [26]) (by kernel_rfl) (by simp) ?_
      refine AllReadyH.cons (o := { dst := some 87, op := Go.Op.call { callee := Go.Callee.value (Go.Operand.func 33), args := #[Go.Operand.tmp 86], argTypes := #[57] }, type := 9, pos := "law.go:135", after := #[{ on := 25, ground := Go.Ground.data }, { on := 24, ground := Go.Ground.chain }, { on := 22, ground := Go.Ground.guard }], guard := some (22, false) }) rfl (fun K hK => ?_) AllReadyH.nil
      go_simp
      refine (HS0.out.1.1.1.tb).mono ?_
      rintro e V6 ⟨rfl, hb⟩
      have HS0' : Hid ((fun W => ((SA Av w1 T mb c M X T2 mb2 c2 M2' X2 G10 T3 mb3 c3 M3 X3) W ∧ RB W x2 (num 0 c ++ tabB X 8)) ∧ RB W x4 (num 0 c2 ++ tabB X2 8)) V6) := Lib.hid ⟨⟨HS0.out.1.1.kept hb, HS0.out.1.2.kept hb⟩, HS0.out.2.kept hb⟩
      clear hb
      clear HS0
      have HS0 := HS0'
      clear HS0'
      refine hK.out _ _ HS0.out (fun hHeld => ?_)
      clear hK K hHeld
      try simp only [Act.put, List.setIfInBounds_toArray, List.set_cons_zero, List.set_cons_succ]
      refine wpAnyH_take (i := 27) (oi := { dst := some 88, op := Go.Op.binOp Go.BinOp.neq 9 (Go.Operand.tmp 85) (Go.Operand.tmp 87) 9, type := 4, pos := "law.go:135", after := #[{ on := 24, ground := Go.Ground.data }, { on := 26, ground := Go.Ground.data }, { on := 22, ground := Go.Ground.guard }], guard := some (22, false) }) (v := ?_) rfl (by kernel_rfl) (by kernel_rfl) (by kernel_rfl) (fun _ _ _ h => h) (Or.inl ⟨by rfl, ?_⟩) HS0.out ?_
      case refine_2 => (intro w1 hS1; clear hS1; go_simp; try with_reducible rfl)
      try simp only [Act.put, List.setIfInBounds_toArray, List.set_cons_zero, List.set_cons_succ]
      refine wpAnyH_take (i := 28) (oi := { dst := some 89, op := Go.Op.pick (Go.Operand.tmp 83) (Go.Operand.const (Go.Value.bool true)) (Go.Operand.tmp 88), type := 4, pos := "law.go:135", after := #[{ on := 22, ground := Go.Ground.data }, { on := 27, ground := Go.Ground.data }], guard := none }) (v := ?_) rfl (by kernel_rfl) (by kernel_rfl) (by kernel_rfl) (fun _ _ _ h => h) (Or.inl ⟨by rfl, ?_⟩) HS0.out ?_
      case refine_2 => (intro w1 hS1; clear hS1; go_simp; try with_reducible rfl)
      try simp only [Act.put, List.setIfInBounds_toArray, List.set_cons_zero, List.set_cons_succ]
      refine wpAnyH_done (by kernel_rfl) ?_ _
      go_wp2_with fail
      obtain ⟨bz, sz, -⟩ := box1 V6 #[.map none] 82
      have hsb := HS0.out.1.1.2.2.2.2.2
      have HB7 := Lib.hid (hsb.trans (bz.mono hsb.size))
      obtain ⟨Bz, hBz⟩ : ∃ y, V6.heap.size = y := ⟨_, rfl⟩
      rw [hBz] at sz
      have HNO := Lib.hid sz
      try rw [hBz]
      clear bz sz hsb hBz HS0 HDS HY HM2 HRNG
      generalize V6.alloc (.cells #[.map none] 82) = V7 at HB7 HNO ⊢
      refine (clone20_nil V7).mono ?_
      rintro e V8 ⟨rfl, rfl⟩
      obtain ⟨bx, sx, -⟩ := box1 V7 #[.pointer none, .pointer (some ⟨Bz, 0, none⟩), .pointer none] 57
      have HB8 := Lib.hid (HB7.out.trans (bx.mono HB7.out.size))
      have HNO8 := Lib.hid (ex_below HNO.out bx)
      obtain ⟨SB, hSB⟩ : ∃ y, V7.heap.size = y := ⟨_, rfl⟩
      rw [hSB] at sx
      have HSX := Lib.hid sx
      clear bx sx HB7 HNO
      go_wp2_with fail
      try rw [hSB]
      clear hSB
      generalize V7.alloc (.cells #[.pointer none, .pointer (some ⟨Bz, 0, none⟩), .pointer none] 57) = V9 at HB8 HNO8 HSX ⊢
      go_loopw [97] (fun i wr => ∃ j : Nat, j ≤ 3 ∧ i = .int .i64 j ∧ Hid (wr.heap[SB]? = some (.cells #[.pointer none, .pointer (some ⟨Bz, 0, none⟩), .pointer none] 57 (0, 0))) ∧ Hid (wr.heap[Bz]? = some (.cells #[.map none] 82 (0, 0))) ∧ Hid (Below w1.heap.size w1 wr)) (fun i _ => 3 - (intOf i).toNat)
      case atStart => exact ⟨0, Nat.zero_le _, rfl, HSX, HNO8, HB8⟩
      case round =>
        clear HSX HNO8 HB8
        obtain ⟨j, hj, rfl, HSX, HNO, HBJ⟩ := hrel
        by_cases hlj : j < 3
        · obtain ⟨p, hp, hno⟩ : ∃ p, wr.cell? ⟨SB, j, none⟩ = some (.pointer p) ∧ NoTb wr p := by
            have hc := three_at' HSX.out
            have hh : j = 0 ∨ j = 1 ∨ j = 2 := by omega
            rcases hh with rfl | rfl | rfl
            · exact ⟨none, hc.1, .inl rfl⟩
            · exact ⟨_, hc.2.1, .inr ⟨Bz, rfl, HNO.out⟩⟩
            · exact ⟨none, hc.2.2, .inl rfl⟩
          have k0 : (0 : Int) ≤ (j : Int) := by omega
          have kl : (j : Int) < 3 := by omega
          have d4 : decide ((j : Int) < 3) = true := decide_eq_true kl
          have hw64 : wrap64 ((j : Int) + 1) = (j : Int) + 1 := IntWalk.wrap64_in _ (by omega)
          have HP := Lib.hid hno
          obtain ⟨q0, q1, q2, q3, q4, q5, q6, q7, q8, q9, q10, q11, q12, q13, q14, q15, q16⟩ := op_at (ex_below HSO.out HBJ.out)
          clear hno
          go_wp2_with fail
          clear q0 q1 q2 q3 q4 q5 q6 q7 q8 q9 q10 q11 q12 q13 q14 q15 q16 hp
          refine (look_none p cl rq wr HP.out).mono ?_
          rintro e W2 ⟨rfl, hb⟩
          obtain ⟨by2, sy2, -⟩ := box1 W2 #[.int .i64 0, .int .i64 0, .int .u64 0, .int .i64 0, .int .i64 0, .int .i64 0, .int .u64 0, .int .i64 0, .int .i64 0, .int .i64 0, .int .i64 0, .slice none 0 0, .int .u64 0, .int .i64 0] 28
          have hb2 := hb.trans (by2.mono hb.size)
          have HP2 := Lib.hid (HP.out.kept hb2)
          have HSX2 := Lib.hid (ex_below HSX.out hb2)
          have HNO2 := Lib.hid (ex_below HNO.out hb2)
          have HB2' := Lib.hid (HBJ.out.trans (hb2.mono HBJ.out.size))
          obtain ⟨q0, q1, q2, q3, q4, q5, q6, q7, q8, q9, q10, q11, q12, q13, q14, q15, q16⟩ := op_at (ex_below HSO.out HB2'.out)
          have HDN := Lib.hid (fun W (h : NoTb W p) => done_none p cl rq cd tm id cn st lv ge fr lf du tl a n ca nt de W h)
          unfold repV at HDN
          clear hb by2 sy2 hb2 HP HSX HNO HBJ
          go_wp2_with fail
          clear q0 q1 q2 q3 q4 q5 q6 q7 q8 q9 q10 q11 q12 q13 q14 q15 q16
          generalize W2.alloc (.cells #[.int .i64 0, .int .i64 0, .int .u64 0, .int .i64 0, .int .i64 0, .int .i64 0, .int .u64 0, .int .i64 0, .int .i64 0, .int .i64 0, .int .i64 0, .slice none 0 0, .int .u64 0, .int .i64 0] 28) = W3 at HP2 HSX2 HNO2 HB2' ⊢
          refine (HDN.out W3 HP2.out).mono ?_
          clear HDN
          rintro e W4 ⟨rfl, hb⟩
          have HP4 := Lib.hid (HP2.out.kept hb)
          have HSX4 := Lib.hid (ex_below HSX2.out hb)
          have HNO4 := Lib.hid (ex_below HNO2.out hb)
          have HB4 := Lib.hid (HB2'.out.trans (hb.mono HB2'.out.size))
          obtain ⟨q0, q1, q2, q3, q4, q5, q6, q7, q8, q9, q10, q11, q12, q13, q14, q15, q16⟩ := op_at (ex_below HSO.out HB4.out)
          clear hb HP2 HSX2 HNO2 HB2'
          go_wp2_with fail
          clear q0 q1 q2 q3 q4 q5 q6 q7 q8 q9 q10 q11 q12 q13 q14 q15 q16
          refine (lastq_none p cl W4 HP4.out).mono ?_
          rintro e W5 ⟨rfl, hb⟩
          have HP5 := Lib.hid (HP4.out.kept hb)
          have HSX5 := Lib.hid (ex_below HSX4.out hb)
          have HNO5 := Lib.hid (ex_below HNO4.out hb)
          have HB5 := Lib.hid (HB4.out.trans (hb.mono HB4.out.size))
          obtain ⟨q0, q1, q2, q3, q4, q5, q6, q7, q8, q9, q10, q11, q12, q13, q14, q15, q16⟩ := op_at (ex_below HSO.out HB5.out)
          clear hb HP4 HSX4 HNO4 HB4
          go_wp2_with fail
          clear q0 q1 q2 q3 q4 q5 q6 q7 q8 q9 q10 q11 q12 q13 q14 q15 q16
          refine (drop_none p cl W5 HP5.out).mono ?_
          rintro e W6 ⟨rfl, hb⟩
          have HP6 := Lib.hid (HP5.out.kept hb)
          have HSX6 := Lib.hid (ex_below HSX5.out hb)
          have HNO6 := Lib.hid (ex_below HNO5.out hb)
          have HB6 := Lib.hid (HB5.out.trans (hb.mono HB5.out.size))
          clear hb HP5 HSX5 HNO5 HB5
          go_wp2_with fail
          refine (bytes_none p W6 HP6.out).mono ?_
          rintro e W7 ⟨rfl, hb⟩
          have HSX7 := Lib.hid (ex_below HSX6.out hb)
          have HNO7 := Lib.hid (ex_below HNO6.out hb)
          have HB7 := Lib.hid (HB6.out.trans (hb.mono HB6.out.size))
          clear hb HP6 HSX6 HNO6 HB6
          rw [show str [] = (ByteArray.mk #[]) from rfl]
          go_wp2_with fail
          go_roundw
          case rel => exact ⟨j + 1, hlj, by first | rfl | (rw [hw64]; rfl), HSX7, HNO7, HB7⟩
          case measure => exact meas_lt 3 j _ (by first | rfl | rw [hw64]) hlj
        · obtain rfl : j = 3 := by omega
          have HBX := HBJ
          go_wp2_with fail
          refine (lives20 _).mono ?_
          rintro e w9 ⟨rfl, hb⟩
          have HBF := Lib.hid (HB0.out.trans ((HBX.out.trans (hb.mono HBX.out.size)).mono HB0.out.size))
          clear hb
          go_wp2_with fail
          go_ret
          exact ⟨rfl, HBF.out⟩
end
section
open Go.RowKit Go.Maps
set_option maxRecDepth 100000 in
theorem op_in4 {H : Type} {enc : TypeId × Value → H} {w : World} {base b0 : Nat} {sp : Nat → Bool} {held : Bool} {v : Value} {dd : DataW H} {p : List MemPlace}
    (hv : Value.okWide Try.prog w .any b0 64 v) (h : DataW.Trod enc Try.prog w base sp held 64 v dd p) :
    ∃ (kd cl rq : Int) (cd tm id cn st lv ge fr lf du tl : Int) (a : Option Addr) (n ca : Nat) (nt de : Int) (xs : List Nat), v = .agg #[.int .i64 kd, .int .u64 cl, .int .u64 rq, .int .i64 cd, .int .i64 tm, .int .u64 id, .int .i64 cn, .int .i64 st, .int .i64 lv, .int .u64 ge, .int .i64 fr, .int .i64 lf, .int .i64 du, .int .i64 tl, .slice a n ca, .int .u64 nt, .int .i64 de] ∧ (OpIn w (Opn.mk kd cl rq cd tm id cn st lv ge fr lf du tl a n ca nt de xs) ∧ B3 (Opn.mk kd cl rq cd tm id cn st lv ge fr lf du tl a n ca nt de xs)) := by
  obtain ⟨cs, rfl, -⟩ := Go.WideShapes.okWide_struct Try.underlying64 hv
  obtain ⟨fuel, hf⟩ := h
  obtain ⟨kd, cl, rq, cd, tm, id, cn, st, lv, ge, fr, lf, du, tl, a, n, ca, nt, de, xs, e, h1, h2⟩ := opn_cells4 (show DataW.trod enc Try.prog w base sp held fuel 64 cs.toList = some (dd, p) from hf)
  have e2 : cs = #[.int .i64 kd, .int .u64 cl, .int .u64 rq, .int .i64 cd, .int .i64 tm, .int .u64 id, .int .i64 cn, .int .i64 st, .int .i64 lv, .int .u64 ge, .int .i64 fr, .int .i64 lf, .int .i64 du, .int .i64 tl, .slice a n ca, .int .u64 nt, .int .i64 de] := by
    cases cs
    simp only at e
    rw [e]
  exact ⟨kd, cl, rq, cd, tm, id, cn, st, lv, ge, fr, lf, du, tl, a, n, ca, nt, de, xs, by rw [e2], h1, h2⟩
theorem apart_walk (a0 : Option Addr) (len cap : Nat) (O : Nat → Opn) (kd cl rq : Int) (cd tm id cn st lv ge fr lf du tl : Int) (a : Option Addr) (n ca : Nat) (nt de : Int) (xs : List Nat) (w : World) (h : OpsB w a0 len O) (hi : OpIn w (Opn.mk kd cl rq cd tm id cn st lv ge fr lf du tl a n ca nt de xs) ∧ B3 (Opn.mk kd cl rq cd tm id cn st lv ge fr lf du tl a n ca nt de xs)) :
    Calls Try.prog 9 #[.slice a0 len cap, .agg #[.int .i64 kd, .int .u64 cl, .int .u64 rq, .int .i64 cd, .int .i64 tm, .int .u64 id, .int .i64 cn, .int .i64 st, .int .i64 lv, .int .u64 ge, .int .i64 fr, .int .i64 lf, .int .i64 du, .int .i64 tl, .slice a n ca, .int .u64 nt, .int .i64 de]] w fun e w' => e = .returned (.bool true) ∧ Below w.heap.size w w' :=
  apart_any a0 len cap O kd cl rq cd tm id cn st lv ge fr lf du tl a n ca nt de xs w h hi.1 hi.2
end
end Go.Proofs.Ytnhaakdjijjinaa
