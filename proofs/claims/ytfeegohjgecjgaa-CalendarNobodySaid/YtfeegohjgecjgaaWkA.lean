/- The plan's sums: how many seconds of a week are open before each span. -/
import Derived.Test.YtfeegohjgecjgaaWzD
import Derived.Test.YtfeegohjgecjgaaOwB
import Derived.Test.YtfeegohjgecjgaaSpH
import Derived.Lib.MinMax
import Derived.StillTailTactics
import Derived.Deep.RegionLaw
import Derived.IntWalk
namespace Go.Proofs.Ytfeegohjgecjgaa
open Go.RowKit

theorem num_info : (Try.prog.info? 2).map (fun i => (i.zero, i.size, i.bytes)) = some (some (.int .i64 0), 1, 8) := by kernel_rfl
/-- A row of numbers of the call's own. -/
def NI (w : World) (base : Nat) (v : Value) (xs : List Int) : Prop := w.ownsRow base 2 1 v xs.length (xs.map (Value.int .i64))
theorem NI.kept {w w' : World} {base : Nat} {v : Value} {xs : List Int} (h : NI w base v xs) (hb : Below w.heap.size w w') : NI w' base v xs := by
  obtain ⟨h1, h2⟩ := h
  refine ⟨h1, ?_⟩
  rcases h2 with h2 | ⟨g, cap, cur, hv, hg, hh, r⟩
  · exact .inl h2
  · exact .inr ⟨g, cap, cur, hv, hg, by rw [hb.block g (Array.getElem?_eq_some_iff.mp hh).1]; exact hh, r⟩
theorem NI.shape {w : World} {base : Nat} {v : Value} {xs : List Int} (h : NI w base v xs) (hp : 0 < xs.length) : ∃ g c, v = .slice (some ⟨g, 0, none⟩) xs.length c ∧ base ≤ g ∧ g < w.heap.size ∧ ∀ k, k < xs.length → w.cell? ⟨g, k, none⟩ = some (.int .i64 (xs.getD k 0)) := by
  have h' := h
  rcases h'.2 with ⟨hv, h0⟩ | ⟨g, cap, cur, hv, hg, hh, hc, hm, _⟩
  · omega
  · subst hv
    refine ⟨g, cap, rfl, hg, (Array.getElem?_eq_some_iff.mp hh).1, fun k hk => ?_⟩
    have := World.ownsRow.cellAt h k (by omega)
    rw [this]
    simp [hk]
/-- The sums up to a span. -/
def sums (F T : Nat → Int) (k : Nat) : List Int := (List.range (k + 1)).map (tsum F T)
theorem sums_len (F T : Nat → Int) (k : Nat) : (sums F T k).length = k + 1 := by simp [sums]
theorem sums_at (F T : Nat → Int) (k j : Nat) (h : j ≤ k) : (sums F T k).getD j 0 = tsum F T j := by
  have : j < k + 1 := by omega
  simp [sums, this]
theorem sums_succ (F T : Nat → Int) (k : Nat) : sums F T (k + 1) = sums F T k ++ [tsum F T (k + 1)] := by simp [sums, List.range_succ]

/-- append(s, one number), as a step of a region that draws its order. -/
theorem step_append_num {ops : Array Oper} {o : Oper} {a : Act} {w : World} {K : Act → World → Prop} {Q : Exit → Act → World → Prop} {E : Prop} (hgd : o.guard = none) (s x : Operand)
    (ho : o.op = .call { callee := .builtin .append, args := #[s, x], argTypes := #[104, 104] })
    (base : Nat) (v : Value) (l : List Int) (z : Int) (ad : Addr) (c : Nat) (hs : a.eval s = v) (hx : a.eval x = .slice (some ad) 1 c) (hown : NI w base v l)
    (hc : w.cell? (ad.add 0) = some (.int .i64 z)) (hlen : l.length ≤ 100000) (hbase : base ≤ w.heap.size)
    (h : ∀ v' w', NI w' base v' (l ++ [z]) → Stays base w w' → K (a.put o.dst v') w') :
    if Region.wanted o (yielded ops a.tmps) = true then Oper.wp Try.prog o a w K Q else E := by
  have hw : Region.wanted o (yielded ops a.tmps) = true := by simp [Region.wanted, hgd]
  rw [if_pos hw]
  obtain ⟨i0, hi, hz0, hz1, hz2⟩ := info_parts num_info
  refine wp_append_own w s x 104 ho base 2 i0 (.int .i64 0) 1 8 Try.underlying104 hi hz0 hz1 hz2 rfl (by decide) v l.length (l.map (Value.int .i64)) hs hown ad 1 c [.int .i64 z] hx rfl
    (fun j u hj => by
      match j with
      | 0 => simp at hj; subst hj; exact hc
      | j + 1 => simp at hj)
    (by intro u hu; simp only [List.mem_cons, List.not_mem_nil, or_false] at hu; subst hu; rfl) (by unfold maxLen; omega) (by omega) hbase ?_
  intro v' w' h1 h2 _
  exact h v' w' (by unfold NI; rw [List.length_append, List.map_append]; exact h1) ⟨h2.size, fun W hW => hW.grown h2 hbase fun k hk => (World.ownsRow.lt hown k hk).1⟩

/-- What sums hands back. -/
def Sums (F T : Nat → Int) (n : Nat) (w : World) (e : Ending) (w' : World) : Prop :=
  ∃ g c, e = .returned (.slice (some ⟨g, 0, none⟩) (n + 1) c) ∧ w.heap.size ≤ g ∧ g < w'.heap.size ∧ (∀ k, k ≤ n → w'.cell? ⟨g, k, none⟩ = some (.int .i64 (tsum F T k))) ∧ Below w.heap.size w w'
theorem lit_zero (w : World) : NI (w.alloc (.cells #[.int .i64 0] 2)) w.heap.size (.slice (some ⟨w.heap.size, 0, none⟩) 1 1) [0] :=
  World.ownsRow_lit w #[.int .i64 0] 1 (Nat.le_refl _) (by decide) rfl

set_option maxRecDepth 100000 in
set_option maxHeartbeats 8000000 in
theorem sums_any (P : Nat) (a : Option Addr) (n c : Nat) (F T : Nat → Int) (w : World) (hrow : w.cell? ⟨P, 0, none⟩ = some (.slice a n c)) (hS : Sps w a n F T) (hn : n ≤ 32) (hg : good F T n = true) :
    Calls Try.prog 79 #[.pointer (some ⟨P, 0, none⟩)] w (Sums F T n w) := by
  obtain ⟨i0, hi, hz0, hz1, hz2⟩ := info_parts num_info
  have HI := Lib.hid hi; have HZ0 := Lib.hid hz0; have HZ1 := Lib.hid hz1; have HZ2 := Lib.hid hz2
  have HPlt := (cell_spot hrow).2
  dsimp only at HPlt
  have hrow' : (w.alloc (.cells #[.int .i64 0] 2)).cell? ⟨P, 0, none⟩ = some (.slice a n c) := by rw [World.cell?_alloc_past _ _ _ HPlt]; exact hrow
  have HC := Lib.hid hS
  have HG := Lib.hid hg
  have B0 : Below w.heap.size w (w.alloc (.cells #[.int .i64 0] 2)) := (Below.refl _ _).alloc (Nat.le_refl _) _
  have HB0 := Lib.hid B0
  clear hS hg hi hz0 hz1 hz2 B0 hrow
  go_enter Try.func79, Try.ntmps79
  go_wp2_with fail
  go_loopw [3, 12] (fun v i wr => ∃ k : Nat, k ≤ n ∧ i = .int .i64 k ∧ NI wr w.heap.size v (sums F T k) ∧ Below w.heap.size w wr) (fun _ i _ => n - (intOf i).toNat)
  case atStart => exact ⟨0, Nat.zero_le _, rfl, lit_zero w, HB0.out⟩
  case round =>
    clear hrow'
    obtain ⟨k, hk, rfl, hN, hB⟩ := hrel
    obtain ⟨g, vc, rfl, hgb, hgl, hcell⟩ := hN.shape (by rw [sums_len]; omega)
    by_cases hlt : k < n
    · obtain ⟨ab, ao, rfl, hab, c0, c1, b0, b1, b2, b3⟩ := HC.out.at hB k hlt
      have ck := hcell k (by rw [sums_len]; omega)
      rw [sums_at F T k k (Nat.le_refl _)] at ck
      rw [sums_len]
      obtain ⟨p0, p1⟩ := tsum_bounds HG.out k hk
      have p2 : tsum F T k ≤ 36028797018963968 := by omega
      obtain ⟨g0, g1, g2, _⟩ := good_at HG.out hlt
      have HSU := Lib.hid (sums_succ F T k)
      have HT := Lib.hid (show tsum F T (k + 1) = tsum F T k + (T k - F k) from rfl)
      have hN' : NI wr w.heap.size (.slice (some ⟨g, 0, none⟩) (k + 1) vc) (sums F T k) := by rw [sums_len] at hN; exact hN
      have HNI := Lib.hid hN'
      have HB := Lib.hid hB
      obtain ⟨f, e0⟩ : ∃ x, F k = x := ⟨_, rfl⟩
      obtain ⟨t, e1⟩ : ∃ x, T k = x := ⟨_, rfl⟩
      obtain ⟨s, e2⟩ : ∃ x, tsum F T k = x := ⟨_, rfl⟩
      rw [e0] at c0 g0 g1 HT
      rw [e1] at c1 g1 g2 HT
      rw [e2] at ck p0 p2 HT
      have hbase : w.heap.size ≤ wr.heap.size := hB.size
      clear hN hN' hB e0 e1 e2 p1 hcell b0 b1 b2 b3
      have i0' : (0 : Int) ≤ (k : Int) := by omega
      have kl : (k : Int) < (n : Int) := by omega
      have kl2 : (k : Int) < (k : Int) + 1 := by omega
      have d4 : decide ((k : Int) < (n : Int)) = true := by simp [hlt]
      have w1 : IntKind.i64.wrap (s + t) = s + t := IntWalk.i64_in _ (by omega)
      have w2 : IntKind.i64.wrap (s + t - f) = s + t - f := IntWalk.i64_in _ (by omega)
      have B1 : Below wr.heap.size wr (wr.alloc (.cells #[.int .i64 f, .int .i64 t] 30)) := (Below.refl _ _).alloc (Nat.le_refl _) _
      have e1 := (B1.cell (p := ⟨g, k, none⟩) hgl).trans ck
      have e2 : (wr.alloc (.cells #[.int .i64 f, .int .i64 t] 30)).cell? ⟨wr.heap.size, 0, none⟩ = some (.int .i64 f) := by simp
      have e3 : (wr.alloc (.cells #[.int .i64 f, .int .i64 t] 30)).cell? ⟨wr.heap.size, 1, none⟩ = some (.int .i64 t) := by simp
      have HB1 := Lib.hid B1
      clear B1
      go_wp2_with fail
      generalize (wr.alloc (.cells #[.int .i64 f, .int .i64 t] 30)) = W1 at *
      have HN1 := Lib.hid (fun z => (HNI.out.kept (((HB1.out.alloc HB1.out.size (.cells #[.int .i64 z] 2))).drew)))
      have hsl : (sums F T k).length ≤ 100000 := by rw [sums_len]; omega
      have HSL := Lib.hid hsl
      have hW : w.heap.size ≤ W1.heap.size := Nat.le_trans hbase HB1.out.size
      have HBW := Lib.hid (fun z => ((HB.out.trans (HB1.out.mono hbase)).alloc hW (.cells #[.int .i64 z] 2)).drew)
      have HCE : Hid (∀ z, (W1.alloc (.cells #[.int .i64 z] 2)).drew.cell? ((⟨W1.heap.size, 0, none⟩ : Addr).add 0) = some (.int .i64 z)) := Lib.hid (fun z => by rw [add_at]; simp)
      have HSZ : Hid (∀ z, w.heap.size ≤ (W1.alloc (.cells #[.int .i64 z] 2)).drew.heap.size) := Lib.hid (fun z => by simp; omega)
      clear hsl
      go_region_law (refine step_append_num rfl (.tmp 17) (.tmp 28) rfl w.heap.size (.slice (some ⟨g, 0, none⟩) (k + 1) vc) (sums F T k) (s + t - f) ⟨W1.heap.size, 0, none⟩ 1 rfl rfl (HN1.out _) (HCE.out _) HSL.out (HSZ.out _) ?_; intro v' w' hN' hst; have HN' := Lib.hid hN'; have HST := Lib.hid hst; clear hN' hst)
      all_goals
        go_wp2_with fail
        go_roundw
        case rel => exact ⟨k + 1, hlt, by go_num, by rw [HSU.out, HT.out]; have e : s + (t - f) = s + t - f := by omega
                                                     rw [e]; exact HN'.out, HST.out.2 _ (HBW.out _)⟩
        case measure => simp [intOf]; omega
    · obtain rfl : k = n := by omega
      have HB := Lib.hid hB
      have hfin : ∀ j, j ≤ k → wr.cell? ⟨g, j, none⟩ = some (.int .i64 (tsum F T j)) := fun j hj => by
        rw [hcell j (by rw [sums_len]; omega), sums_at F T k j hj]
      have HF := Lib.hid hfin
      rw [sums_len]
      clear hN hB hcell hfin
      go_wp2_with fail
      go_ret
      exact ⟨g, vc, rfl, hgb, hgl, HF.out, HB.out⟩
end Go.Proofs.Ytfeegohjgecjgaa
