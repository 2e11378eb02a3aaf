import Derived.Test.YtibjboacjobaoaaGreatMgAS
import Derived.Test.YtibjboacjobaoaaGreatMgAP
import Derived.Test.YtibjboacjobaoaaGreatMgAO
import Derived.Lib.MinMax
import Derived.StillTailTactics
import Derived.Deep.RegionLaw
import Derived.IntWalk
import Derived.Deep.RegionHeld3
namespace Go.Proofs.YtibjboacjobaoaaGreat
open Go.RowKit
/- The plan's sums: how many seconds of a week are open before each span. -/
open Go.RowKit

theorem num_info : (Tryz.prog.info? 2).map (fun i => (i.zero, i.size, i.bytes)) = some (some (.int .i64 0), 1, 8) := by kernel_rfl
/-- A row of numbers of the call's own. -/
def NI (w : World) (base : Nat) (v : Value) (xs : List Int) : Prop := w.ownsRow base 2 1 v xs.length (xs.map (Value.int .i64))
theorem NI.kept {w w' : World} {base : Nat} {v : Value} {xs : List Int} (h : NI w base v xs) (hb : Below w.heap.size w w') : NI w' base v xs := by
  obtain ⟨h1, h2⟩ := h
  refine ⟨h1, ?_⟩
  rcases h2 with h2 | ⟨g, cap, cur, hv, hg, hh, r⟩
  · exact .inl h2
  · exact .inr ⟨g, cap, cur, hv, hg, by rw [hb.block g (Array.getElem?_eq_some_iff.mp hh).1]; exact hh, r⟩
theorem NI.shape {w : World} {base : Nat} {v : Value} {xs : List Int} (h : NI w base v xs) (hp : 0 < xs.length) : ∃ g c, v = .slice (some ⟨g, 0, none⟩) xs.length c ∧ base ≤ g ∧ g < w.heap.size ∧ ∀ k, k < xs.length → w.cell? ⟨g, k, none⟩ = some (.int .i64 (xs.getD k 0)) := by
  have h' := h
  rcases h'.2 with ⟨hv, h0⟩ | ⟨g, cap, cur, hv, hg, hh, hc, hm, _⟩
  · omega
  · subst hv
    refine ⟨g, cap, rfl, hg, (Array.getElem?_eq_some_iff.mp hh).1, fun k hk => ?_⟩
    have := World.ownsRow.cellAt h k (by omega)
    rw [this]
    simp [hk]
/-- The sums up to a span. -/
def sums (F T : Nat → Int) (k : Nat) : List Int := (List.range (k + 1)).map (tsum F T)
theorem sums_len (F T : Nat → Int) (k : Nat) : (sums F T k).length = k + 1 := by simp [sums]
theorem sums_at (F T : Nat → Int) (k j : Nat) (h : j ≤ k) : (sums F T k).getD j 0 = tsum F T j := by
  have : j < k + 1 := by omega
  simp [sums, this]
theorem sums_succ (F T : Nat → Int) (k : Nat) : sums F T (k + 1) = sums F T k ++ [tsum F T (k + 1)] := by simp [sums, List.range_succ]

/-- append(s, one number), as a step of a region that draws its order. -/
theorem step_append_num {ops : Array Oper} {o : Oper} {a : Act} {w : World} {K : Act → World → Prop} {Q : Exit → Act → World → Prop} {E : Prop} (hgd : o.guard = none) (s x : Operand)
    (ho : o.op = .call { callee := .builtin .append, args := #[s, x], argTypes := #[159, 159] })
    (base : Nat) (v : Value) (l : List Int) (z : Int) (ad : Addr) (c : Nat) (hs : a.eval s = v) (hx : a.eval x = .slice (some ad) 1 c) (hown : NI w base v l)
    (hc : w.cell? (ad.add 0) = some (.int .i64 z)) (hlen : l.length ≤ 100000) (hbase : base ≤ w.heap.size)
    (h : ∀ v' w', NI w' base v' (l ++ [z]) → Stays base w w' → K (a.put o.dst v') w') :
    if Region.wanted o (yielded ops a.tmps) = true then Oper.wp Tryz.prog o a w K Q else E := by
  have hw : Region.wanted o (yielded ops a.tmps) = true := by simp [Region.wanted, hgd]
  rw [if_pos hw]
  obtain ⟨i0, hi, hz0, hz1, hz2⟩ := info_parts num_info
  refine wp_append_own w s x 159 ho base 2 i0 (.int .i64 0) 1 8 Tryz.underlying159 hi hz0 hz1 hz2 rfl (by decide) v l.length (l.map (Value.int .i64)) hs hown ad 1 c [.int .i64 z] hx rfl
    (fun j u hj => by
      match j with
      | 0 => simp at hj; subst hj; exact hc
      | j + 1 => simp at hj)
    (by intro u hu; simp only [List.mem_cons, List.not_mem_nil, or_false] at hu; subst hu; rfl) (by unfold maxLen; omega) (by omega) hbase ?_
  intro v' w' h1 h2 _
  exact h v' w' (by unfold NI; rw [List.length_append, List.map_append]; exact h1) ⟨h2.size, fun W hW => hW.grown h2 hbase fun k hk => (World.ownsRow.lt hown k hk).1⟩

/-- A block of numbers of type int64. -/
def NumB (w : World) (g : Nat) : Prop := ∃ cs r, w.heap[g]? = some (.cells cs 2 r)
theorem NumB.same {w w' : World} {g : Nat} (h : NumB w g) (e : w'.heap[g]? = w.heap[g]?) : NumB w' g := by
  obtain ⟨cs, r, hh⟩ := h
  exact ⟨cs, r, e.trans hh⟩
theorem NumB.setCell {w : World} {g : Nat} (h : NumB w g) (p : Addr) (v : Value) : NumB (w.setCell p v) g := by
  by_cases e : g = p.block
  · obtain ⟨cs, r, hh⟩ := h
    subst e
    have hlt : p.block < w.heap.size := (Array.getElem?_eq_some_iff.mp hh).1
    have h' : w.heap[p.block] = .cells cs 2 r := by simpa [Array.getElem?_eq_getElem hlt] using hh
    refine ⟨if p.spot.isSome then cs else cs.setIfInBounds p.off v, r, ?_⟩
    show (w.heap.modify p.block _)[p.block]? = _
    rw [Array.getElem?_eq_getElem (by simpa using hlt), Array.getElem_modify_self, h']
  · exact h.same (Below.heap_setCell _ _ _ _ e)
theorem NI.numb {w : World} {base g n c : Nat} {xs : List Int} (h : NI w base (.slice (some ⟨g, 0, none⟩) n c) xs) (hp : 0 < xs.length) : NumB w g := by
  rcases h.2 with ⟨hv, h0⟩ | ⟨g', cap, cur, hv, _, hh, _⟩
  · omega
  · injection hv with hv
    injection hv with hv
    injection hv with hv
    subst hv
    exact ⟨_, _, hh⟩
/-- What sums hands back. -/
def Sums (F T : Nat → Int) (n : Nat) (w : World) (e : Ending) (w' : World) : Prop :=
  ∃ g c, e = .returned (.slice (some ⟨g, 0, none⟩) (n + 1) c) ∧ w.heap.size ≤ g ∧ (g < w'.heap.size ∧ NumB w' g) ∧ (∀ k, k ≤ n → w'.cell? ⟨g, k, none⟩ = some (.int .i64 (tsum F T k))) ∧ Below w.heap.size w w'
theorem lit_zero (w : World) : NI (w.alloc (.cells #[.int .i64 0] 2)) w.heap.size (.slice (some ⟨w.heap.size, 0, none⟩) 1 1) [0] :=
  World.ownsRow_lit w #[.int .i64 0] 1 (Nat.le_refl _) (by decide) rfl

set_option maxRecDepth 100000 in
set_option maxHeartbeats 8000000 in
theorem sums_any (P : Nat) (a : Option Addr) (n c : Nat) (F T : Nat → Int) (w : World) (hrow : w.cell? ⟨P, 0, none⟩ = some (.slice a n c)) (hS : Sps w a n F T) (hn : n ≤ 32) (hg : good F T n = true) :
    Calls Tryz.prog 113 #[.pointer (some ⟨P, 0, none⟩)] w (Sums F T n w) := by
  obtain ⟨i0, hi, hz0, hz1, hz2⟩ := info_parts num_info
  have HI := Lib.hid hi; have HZ0 := Lib.hid hz0; have HZ1 := Lib.hid hz1; have HZ2 := Lib.hid hz2
  have HPlt := (cell_spot hrow).2
  dsimp only at HPlt
  have hrow' : (w.alloc (.cells #[.int .i64 0] 2)).cell? ⟨P, 0, none⟩ = some (.slice a n c) := by rw [World.cell?_alloc_past _ _ _ HPlt]; exact hrow
  have HC := Lib.hid hS
  have HG := Lib.hid hg
  have B0 : Below w.heap.size w (w.alloc (.cells #[.int .i64 0] 2)) := (Below.refl _ _).alloc (Nat.le_refl _) _
  have HB0 := Lib.hid B0
  clear hS hg hi hz0 hz1 hz2 B0 hrow
  go_enter Tryz.func113, Tryz.ntmps113
  go_wp2_with fail
  go_loopw [3, 12] (fun v i wr => ∃ k : Nat, k ≤ n ∧ i = .int .i64 k ∧ NI wr w.heap.size v (sums F T k) ∧ Below w.heap.size w wr) (fun _ i _ => n - (intOf i).toNat)
  case atStart => exact ⟨0, Nat.zero_le _, rfl, lit_zero w, HB0.out⟩
  case round =>
    clear hrow'
    obtain ⟨k, hk, rfl, hN, hB⟩ := hrel
    obtain ⟨g, vc, rfl, hgb, hgl, hcell⟩ := hN.shape (by rw [sums_len]; omega)
    by_cases hlt : k < n
    · obtain ⟨ab, ao, rfl, hab, c0, c1, b0, b1, b2, b3⟩ := HC.out.at hB k hlt
      have ck := hcell k (by rw [sums_len]; omega)
      rw [sums_at F T k k (Nat.le_refl _)] at ck
      rw [sums_len]
      obtain ⟨p0, p1⟩ := tsum_bounds HG.out k hk
      have p2 : tsum F T k ≤ 36028797018963968 := by omega
      obtain ⟨g0, g1, g2, _⟩ := good_at HG.out hlt
      have HSU := Lib.hid (sums_succ F T k)
      have HT := Lib.hid (show tsum F T (k + 1) = tsum F T k + (T k - F k) from rfl)
      have hN' : NI wr w.heap.size (.slice (some ⟨g, 0, none⟩) (k + 1) vc) (sums F T k) := by rw [sums_len] at hN; exact hN
      have HNI := Lib.hid hN'
      have HB := Lib.hid hB
      obtain ⟨f, e0⟩ : ∃ x, F k = x := ⟨_, rfl⟩
      obtain ⟨t, e1⟩ : ∃ x, T k = x := ⟨_, rfl⟩
      obtain ⟨s, e2⟩ : ∃ x, tsum F T k = x := ⟨_, rfl⟩
      rw [e0] at c0 g0 g1 HT
      rw [e1] at c1 g1 g2 HT
      rw [e2] at ck p0 p2 HT
      have hbase : w.heap.size ≤ wr.heap.size := hB.size
      clear hN hN' hB e0 e1 e2 p1 hcell b0 b1 b2 b3
      have i0' : (0 : Int) ≤ (k : Int) := by omega
      have kl : (k : Int) < (n : Int) := by omega
      have kl2 : (k : Int) < (k : Int) + 1 := by omega
      have d4 : decide ((k : Int) < (n : Int)) = true := by simp [hlt]
      have w1 : IntKind.i64.wrap (s + t) = s + t := IntWalk.i64_in _ (by omega)
      have w2 : IntKind.i64.wrap (s + t - f) = s + t - f := IntWalk.i64_in _ (by omega)
      have B1 : Below wr.heap.size wr (wr.alloc (.cells #[.int .i64 f, .int .i64 t] 101)) := (Below.refl _ _).alloc (Nat.le_refl _) _
      have e1 := (B1.cell (p := ⟨g, k, none⟩) hgl).trans ck
      have e2 : (wr.alloc (.cells #[.int .i64 f, .int .i64 t] 101)).cell? ⟨wr.heap.size, 0, none⟩ = some (.int .i64 f) := by simp
      have e3 : (wr.alloc (.cells #[.int .i64 f, .int .i64 t] 101)).cell? ⟨wr.heap.size, 1, none⟩ = some (.int .i64 t) := by simp
      have HB1 := Lib.hid B1
      clear B1
      go_wp2_with fail
      generalize (wr.alloc (.cells #[.int .i64 f, .int .i64 t] 101)) = W1 at *
      have HN1 := Lib.hid (fun z => (HNI.out.kept (((HB1.out.alloc HB1.out.size (.cells #[.int .i64 z] 2))).drew)))
      have hsl : (sums F T k).length ≤ 100000 := by rw [sums_len]; omega
      have HSL := Lib.hid hsl
      have hW : w.heap.size ≤ W1.heap.size := Nat.le_trans hbase HB1.out.size
      have HBW := Lib.hid (fun z => ((HB.out.trans (HB1.out.mono hbase)).alloc hW (.cells #[.int .i64 z] 2)).drew)
      have HCE : Hid (∀ z, (W1.alloc (.cells #[.int .i64 z] 2)).drew.cell? ((⟨W1.heap.size, 0, none⟩ : Addr).add 0) = some (.int .i64 z)) := Lib.hid (fun z => by rw [add_at]; simp)
      have HSZ : Hid (∀ z, w.heap.size ≤ (W1.alloc (.cells #[.int .i64 z] 2)).drew.heap.size) := Lib.hid (fun z => by simp; omega)
      clear hsl
      go_region_law (refine step_append_num rfl (.tmp 17) (.tmp 28) rfl w.heap.size (.slice (some ⟨g, 0, none⟩) (k + 1) vc) (sums F T k) (s + t - f) ⟨W1.heap.size, 0, none⟩ 1 rfl rfl (HN1.out _) (HCE.out _) HSL.out (HSZ.out _) ?_; intro v' w' hN' hst; have HN' := Lib.hid hN'; have HST := Lib.hid hst; clear hN' hst)
      all_goals
        go_wp2_with fail
        go_roundw
        case rel => exact ⟨k + 1, hlt, by go_num, by rw [HSU.out, HT.out]; have e : s + (t - f) = s + t - f := by omega
                                                     rw [e]; exact HN'.out, HST.out.2 _ (HBW.out _)⟩
        case measure => simp [intOf]; omega
    · obtain rfl : k = n := by omega
      have HB := Lib.hid hB
      have hfin : ∀ j, j ≤ k → wr.cell? ⟨g, j, none⟩ = some (.int .i64 (tsum F T j)) := fun j hj => by
        rw [hcell j (by rw [sums_len]; omega), sums_at F T k j hj]
      have HF := Lib.hid hfin
      have HNB := Lib.hid (hN.numb (by rw [sums_len]; omega))
      rw [sums_len]
      clear hN hB hcell hfin
      go_wp2_with fail
      go_ret
      exact ⟨g, vc, rfl, hgb, ⟨hgl, HNB.out⟩, HF.out, HB.out⟩
/- A plan in memory; its cell asked; created, Total. -/
open Go.RowKit

/-- A plan that New made: its block P, its cell's C. -/
structure Pl (base P C : Nat) (a : Option Addr) (n c : Nat) (F T : Nat → Int) (w : World) : Prop where
  hP : base ≤ P
  hC : base ≤ C
  ne : P ≠ C
  lt : C < w.heap.size
  row : w.cell? ⟨P, 0, none⟩ = some (.slice a n c)
  bef : w.cell? ⟨P, 1, none⟩ = some (.pointer (some ⟨C, 0, none⟩))
  sps : Sps w a n F T
  far : ∀ x, 0 < n → a = some x → x.block ≠ C
  cel : (∃ k, Cel C (.func (.func 113) #[.pointer (some ⟨P, 0, none⟩)] #[]) 0 (.slice none 0 0) 0 k w) ∨
    (∃ g vc k, Cel C .nilFunc 1 (.slice (some ⟨g, 0, none⟩) (n + 1) vc) 1 k w ∧ (g ≠ C ∧ NumB w g) ∧ g < w.heap.size ∧ ∀ j, j ≤ n → w.cell? ⟨g, j, none⟩ = some (.int .i64 (tsum F T j)))
theorem Pl.ltP {base P C : Nat} {a : Option Addr} {n c : Nat} {F T : Nat → Int} {w : World} (h : Pl base P C a n c F T w) : P < w.heap.size := (cell_spot h.row).2
theorem Sps.only {X : Nat → Prop} {w w' : World} {a : Option Addr} {n : Nat} {F T : Nat → Int} (h : Sps w a n F T) (o : Only X w w') (hx : ∀ x, 0 < n → a = some x → ¬ X x.block) : Sps w' a n F T := by
  refine ⟨h.1, fun hp => ?_⟩
  obtain ⟨ab, ao, e, hl, hc⟩ := h.2 hp
  have hn : ¬ X ab := hx _ hp e
  exact ⟨ab, ao, e, Nat.lt_of_lt_of_le hl o.size, fun k hk => ⟨(o.cell (p := ⟨ab, ao + k * 2, none⟩) hl hn).trans (hc k hk).1, (o.cell (p := ⟨ab, ao + k * 2 + 1, none⟩) hl hn).trans (hc k hk).2.1, (hc k hk).2.2⟩⟩
theorem Pl.kept {base P C : Nat} {a : Option Addr} {n c : Nat} {F T : Nat → Int} {w w' : World} (h : Pl base P C a n c F T w) (hb : Below w.heap.size w w') : Pl base P C a n c F T w' := by
  refine ⟨h.hP, h.hC, h.ne, Nat.lt_of_lt_of_le h.lt hb.size, (hb.cell (p := ⟨P, 0, none⟩) h.ltP).trans h.row, (hb.cell (p := ⟨P, 1, none⟩) h.ltP).trans h.bef, h.sps.kept hb, h.far, ?_⟩
  rcases h.cel with ⟨k, hc⟩ | ⟨g, vc, k, hc, hg, hl, hk⟩
  · exact .inl ⟨k, hc.of_block (hb.block C h.lt)⟩
  · exact .inr ⟨g, vc, k, hc.of_block (hb.block C h.lt), ⟨hg.1, hg.2.same (hb.block g hl)⟩, Nat.lt_of_lt_of_le hl hb.size, fun j hj => (hb.cell (p := ⟨g, j, none⟩) hl).trans (hk j hj)⟩
theorem Pl.drewN {base P C : Nat} {a : Option Addr} {n c : Nat} {F T : Nat → Int} {w : World} (h : Pl base P C a n c F T w) (q : Nat) : Pl base P C a n c F T (w.drewN q) :=
  h.kept ⟨rfl, rfl, rfl, Nat.le_refl _, fun _ _ => rfl⟩

/-- What a question to the plan's cell hands back: the sums. -/
def Asked (base P C : Nat) (a : Option Addr) (n c : Nat) (F T : Nat → Int) (w : World) (e : Ending) (w' : World) : Prop :=
  ∃ g vc, e = .returned (.slice (some ⟨g, 0, none⟩) (n + 1) vc) ∧ (∀ j, j ≤ n → w'.cell? ⟨g, j, none⟩ = some (.int .i64 (tsum F T j))) ∧ Pl base P C a n c F T w' ∧ Only (· = C) w w'
set_option maxRecDepth 100000 in
theorem get_plan {base P C : Nat} {a : Option Addr} {n c : Nat} {F T : Nat → Int} {w : World} (h : Pl base P C a n c F T w) (hn : n ≤ 32) (hg : good F T n = true) :
    Calls Tryz.prog 115 #[.pointer (some ⟨C, 0, none⟩)] w (Asked base P C a n c F T w) := by
  rcases h.cel with ⟨k, hc⟩ | ⟨g, vc, k, hc, hgc, hgl, hk⟩
  · have oB := atBuild_only C (wrap64 (k + 1)) w
    have szB := atBuild_size C (wrap64 (k + 1)) w
    have hrow : (atBuild C (wrap64 (k + 1)) w).cell? ⟨P, 0, none⟩ = some (.slice a n c) := (oB.cell (p := ⟨P, 0, none⟩) h.ltP h.ne).trans h.row
    have hsum := sums_any P a n c F T _ hrow (h.sps.only oB h.far) hn hg
    have hgf := get_fn 113 ⟨P, 0, none⟩ C (.slice none 0 0) (n + 1) 0 k (wrap64 (k + 1)) w
      (fun va vc w' => ∃ g, va = some ⟨g, 0, none⟩ ∧ w.heap.size ≤ g ∧ g < w'.heap.size ∧ NumB w' g ∧ (∀ j, j ≤ n → w'.cell? ⟨g, j, none⟩ = some (.int .i64 (tsum F T j))) ∧ Below w.heap.size (atBuild C (wrap64 (k + 1)) w) w') rfl
      (fun _ => rfl) hc
      (hsum.mono (by
        rintro e w' ⟨g, vc, rfl, h1, h2, h3, h4⟩
        rw [szB] at h1 h4
        exact ⟨_, _, rfl, h4.block C h.lt, g, rfl, h1, h2.1, h2.2, h3, h4⟩))
    refine hgf.mono ?_
    rintro e w' ⟨va, vc, rfl, hC', w2, ⟨g, rfl, h1, h2, hnb, h3, h4⟩, o2, sz2⟩
    have o3 : Only (· = C) w w' := oB.trans ((Only.below (szB ▸ h4)).trans o2)
    have hgC : g ≠ C := by have := h.lt; omega
    have hk' : ∀ j, j ≤ n → w'.cell? ⟨g, j, none⟩ = some (.int .i64 (tsum F T j)) := fun j hj => (o2.cell (p := ⟨g, j, none⟩) h2 hgC).trans (h3 j hj)
    refine ⟨g, vc, rfl, hk', ⟨h.hP, h.hC, h.ne, Nat.lt_of_lt_of_le h.lt o3.size, (o3.cell (p := ⟨P, 0, none⟩) h.ltP h.ne).trans h.row, (o3.cell (p := ⟨P, 1, none⟩) h.ltP h.ne).trans h.bef, h.sps.only o3 h.far, h.far, .inr ⟨g, vc, _, hC', ⟨hgC, hnb.same (o2.block g h2 hgC)⟩, by omega, hk'⟩⟩, o3⟩
  · refine (get_again C .nilFunc (some ⟨g, 0, none⟩) (n + 1) vc 1 k (wrap64 (k + 1)) w rfl hc).mono ?_
    rintro e w' ⟨rfl, hC', o3, sz⟩
    have hk' : ∀ j, j ≤ n → w'.cell? ⟨g, j, none⟩ = some (.int .i64 (tsum F T j)) := fun j hj => (o3.cell (p := ⟨g, j, none⟩) hgl hgc.1).trans (hk j hj)
    exact ⟨g, vc, rfl, hk', ⟨h.hP, h.hC, h.ne, Nat.lt_of_lt_of_le h.lt o3.size, (o3.cell (p := ⟨P, 0, none⟩) h.ltP h.ne).trans h.row, (o3.cell (p := ⟨P, 1, none⟩) h.ltP h.ne).trans h.bef, h.sps.only o3 h.far, h.far, .inr ⟨g, vc, _, hC', ⟨hgc.1, hgc.2.same (o3.block g hgl hgc.1)⟩, by omega, hk'⟩⟩, o3⟩

theorem created_yes (P C : Nat) (w : World) (h : w.cell? ⟨P, 1, none⟩ = some (.pointer (some ⟨C, 0, none⟩))) : Calls Tryz.prog 114 #[.pointer (some ⟨P, 0, none⟩)] w fun e w' => e = .returned (.bool true) ∧ w = w' := by
  go_enter Tryz.func114, Tryz.ntmps114
  go_wp2
  go_ret
  exact ⟨rfl, rfl⟩
theorem created_nil (w : World) : Calls Tryz.prog 114 #[.pointer none] w fun e w' => e = .returned (.bool false) ∧ w = w' := by
  go_enter Tryz.func114, Tryz.ntmps114
  go_wp2
  go_ret
  exact ⟨rfl, rfl⟩
theorem created_no (P : Nat) (w : World) (h : w.cell? ⟨P, 1, none⟩ = some (.pointer none)) : Calls Tryz.prog 114 #[.pointer (some ⟨P, 0, none⟩)] w fun e w' => e = .returned (.bool false) ∧ w = w' := by
  go_enter Tryz.func114, Tryz.ntmps114
  go_wp2
  go_ret
  exact ⟨rfl, rfl⟩

/-- What a method of the plan leaves behind. -/
def Told (base P C : Nat) (a : Option Addr) (n c : Nat) (F T : Nat → Int) (v : Value) (w : World) (e : Ending) (w' : World) : Prop :=
  e = .returned v ∧ Pl base P C a n c F T w' ∧ Only (· = C) w w'
set_option maxRecDepth 100000 in
set_option maxHeartbeats 4000000 in
theorem total_any {base P C : Nat} {a : Option Addr} {n c : Nat} {F T : Nat → Int} {w : World} (h : Pl base P C a n c F T w) (hn : n ≤ 32) (hg : good F T n = true) :
    Calls Tryz.prog 92 #[.pointer (some ⟨P, 0, none⟩)] w (Told base P C a n c F T (.int .i64 (tsum F T n)) w) := by
  have hcr := created_yes P C w h.bef
  have e1 := h.bef
  have e2 := h.row
  have HG := Lib.hid (get_plan (h.kept (Below.refl _ _).drew) hn hg)
  have n0 : (0 : Int) ≤ (n : Int) := by omega
  have n1 : (n : Int) < (n : Int) + 1 := by omega
  have n2 : n < n + 1 := by omega
  clear h
  go_enter Tryz.func92, Tryz.ntmps92
  go_wp2_with fail
  refine hcr.mono ?_
  rintro e w' ⟨rfl, rfl⟩
  clear hcr
  go_wp2_with fail
  -- REGION
  have h0 : w.drew.cell? ⟨P, 1, none⟩ = some (.pointer (some ⟨C, 0, none⟩)) ∧ w.drew.cell? ⟨P, 0, none⟩ = some (.slice a n c) := ⟨e1, e2⟩
  refine wp_region_held_drew (S := (fun w' => w'.cell? ⟨P, 1, none⟩ = some (.pointer (some ⟨C, 0, none⟩)) ∧ w'.cell? ⟨P, 0, none⟩ = some (.slice a n c))) (by kernel_rfl) h0 (fun hHeld => ?_)
  refine wpAnyH_take (i := 0) (v := ?_) rfl (by kernel_rfl) (by kernel_rfl) (by kernel_rfl) (fun _ _ _ h => h) (Or.inl ⟨by rfl, ?_⟩) (by assumption) ?_
  case refine_2 => (intro w1 hS1; (try dsimp only at hS1); go_simp; try with_reducible rfl)
  try simp only [List.getElem_toArray, List.getElem_cons_zero, List.getElem_cons_succ, Act.put, List.setIfInBounds_toArray, List.set_cons_zero, List.set_cons_succ]
  refine wpAnyH_take (i := 1) (v := ?_) rfl (by kernel_rfl) (by kernel_rfl) (by kernel_rfl) (fun _ _ _ h => h) (Or.inl ⟨by rfl, ?_⟩) (by assumption) ?_
  case refine_2 => (intro w1 hS1; (try dsimp only at hS1); go_simp; try with_reducible rfl)
  try simp only [List.getElem_toArray, List.getElem_cons_zero, List.getElem_cons_succ, Act.put, List.setIfInBounds_toArray, List.set_cons_zero, List.set_cons_succ]
  refine wpAnyH_take (i := 2) (v := ?_) rfl (by kernel_rfl) (by kernel_rfl) (by kernel_rfl) (fun _ _ _ h => h) (Or.inl ⟨by rfl, ?_⟩) (by assumption) ?_
  case refine_2 => (intro w1 hS1; (try dsimp only at hS1); go_simp; try with_reducible rfl)
  try simp only [List.getElem_toArray, List.getElem_cons_zero, List.getElem_cons_succ, Act.put, List.setIfInBounds_toArray, List.set_cons_zero, List.set_cons_succ]
  refine wpAnyH_take (i := 3) (v := ?_) rfl (by kernel_rfl) (by kernel_rfl) (by kernel_rfl) (fun _ _ _ h => h) (Or.inl ⟨by rfl, ?_⟩) (by assumption) ?_
  case refine_2 => (intro w1 hS1; (try dsimp only at hS1); go_simp; try with_reducible rfl)
  try simp only [List.getElem_toArray, List.getElem_cons_zero, List.getElem_cons_succ, Act.put, List.setIfInBounds_toArray, List.set_cons_zero, List.set_cons_succ]
  refine wpAnyH_take (i := 5) (v := ?_) rfl (by kernel_rfl) (by kernel_rfl) (by kernel_rfl) (fun _ _ _ h => h) (Or.inl ⟨by rfl, ?_⟩) (by assumption) ?_
  case refine_2 => (intro w1 hS1; (try dsimp only at hS1); go_simp; try with_reducible rfl)
  try simp only [List.getElem_toArray, List.getElem_cons_zero, List.getElem_cons_succ, Act.put, List.setIfInBounds_toArray, List.set_cons_zero, List.set_cons_succ]
  refine wpAnyH_take (i := 6) (v := ?_) rfl (by kernel_rfl) (by kernel_rfl) (by kernel_rfl) (fun _ _ _ h => h) (Or.inl ⟨by rfl, ?_⟩) (by assumption) ?_
  case refine_2 => (intro w1 hS1; (try dsimp only at hS1); go_simp; try with_reducible rfl)
  try simp only [List.getElem_toArray, List.getElem_cons_zero, List.getElem_cons_succ, Act.put, List.setIfInBounds_toArray, List.set_cons_zero, List.set_cons_succ]
  refine wpAnyH_take (i := 7) (v := ?_) rfl (by kernel_rfl) (by kernel_rfl) (by kernel_rfl) (fun _ _ _ h => h) (Or.inl ⟨by rfl, ?_⟩) (by assumption) ?_
  case refine_2 => (intro w1 hS1; (try dsimp only at hS1); go_simp; try with_reducible rfl)
  try simp only [List.getElem_toArray, List.getElem_cons_zero, List.getElem_cons_succ, Act.put, List.setIfInBounds_toArray, List.set_cons_zero, List.set_cons_succ]
  refine wpAnyH_take (i := 8) (v := ?_) rfl (by kernel_rfl) (by kernel_rfl) (by kernel_rfl) (fun _ _ _ h => h) (Or.inl ⟨by rfl, ?_⟩) (by assumption) ?_
  case refine_2 => (intro w1 hS1; (try dsimp only at hS1); go_simp; try with_reducible rfl)
  try simp only [List.getElem_toArray, List.getElem_cons_zero, List.getElem_cons_succ, Act.put, List.setIfInBounds_toArray, List.set_cons_zero, List.set_cons_succ]
  refine wpAnyH_take (i := 9) (v := ?_) rfl (by kernel_rfl) (by kernel_rfl) (by kernel_rfl) (fun _ _ _ h => h) (Or.inl ⟨by rfl, ?_⟩) (by assumption) ?_
  case refine_2 => (intro w1 hS1; (try dsimp only at hS1); go_simp; try with_reducible rfl)
  try simp only [List.getElem_toArray, List.getElem_cons_zero, List.getElem_cons_succ, Act.put, List.setIfInBounds_toArray, List.set_cons_zero, List.set_cons_succ]
  refine wpAnyH_ready (rs := [4]) (by kernel_rfl) (by simp) ?_
  refine AllReadyH.cons rfl (fun K hK => ?_) AllReadyH.nil
  go_simp
  refine HG.out.mono ?_; rintro e w8 ⟨g, vc, rfl, hk8, hP8, hO8⟩; have hS8 := And.intro hP8.bef hP8.row; have hkn := hk8 n (Nat.le_refl _); have HP8 := Lib.hid hP8; have HO8 := Lib.hid hO8; clear hk8 hP8 hO8
  refine hK.out _ _ (hS8) (fun hHeld => ?_)
  clear hK K
  try simp only [List.getElem_toArray, List.getElem_cons_zero, List.getElem_cons_succ, Act.put, List.setIfInBounds_toArray, List.set_cons_zero, List.set_cons_succ]
  refine wpAnyH_take (i := 10) (v := ?_) rfl (by kernel_rfl) (by kernel_rfl) (by kernel_rfl) (fun _ _ _ h => h) (Or.inl ⟨by rfl, ?_⟩) (by assumption) ?_
  case refine_2 => (intro w1 hS1; (try dsimp only at hS1); go_simp; try with_reducible rfl)
  try simp only [List.getElem_toArray, List.getElem_cons_zero, List.getElem_cons_succ, Act.put, List.setIfInBounds_toArray, List.set_cons_zero, List.set_cons_succ]
  refine wpAnyH_ready (rs := [11]) (by kernel_rfl) (by simp) ?_
  refine AllReadyH.cons rfl (fun K hK => ?_) AllReadyH.nil
  go_simp
  refine hK.out _ _ (by assumption) (fun hHeld => ?_)
  clear hK K
  try simp only [List.getElem_toArray, List.getElem_cons_zero, List.getElem_cons_succ, Act.put, List.setIfInBounds_toArray, List.set_cons_zero, List.set_cons_succ]
  refine wpAnyH_take (i := 12) (v := ?_) rfl (by kernel_rfl) (by kernel_rfl) (by kernel_rfl) (fun _ _ _ h => h) (Or.inl ⟨by rfl, ?_⟩) (by assumption) ?_
  case refine_2 => (intro w1 hS1; (try dsimp only at hS1); go_simp; try with_reducible rfl)
  try simp only [List.getElem_toArray, List.getElem_cons_zero, List.getElem_cons_succ, Act.put, List.setIfInBounds_toArray, List.set_cons_zero, List.set_cons_succ]
  refine wpAnyH_done (by kernel_rfl) ?_ _
  all_goals
    go_wp2_with fail
    go_ret
    exact ⟨rfl, HP8.out, (Only.refl _ _).drew.trans HO8.out⟩
theorem total_nil (w : World) : Calls Tryz.prog 92 #[.pointer none] w fun e w' => e = .returned (.int .i64 0) ∧ w = w' := by
  have hcr := created_nil w
  go_enter Tryz.func92, Tryz.ntmps92
  go_wp2_with fail
  refine hcr.mono ?_
  rintro e w' ⟨rfl, rfl⟩
  go_wp2_with fail
  go_ret
  exact ⟨rfl, rfl⟩
theorem total_no (P : Nat) (w : World) (h : w.cell? ⟨P, 1, none⟩ = some (.pointer none)) : Calls Tryz.prog 92 #[.pointer (some ⟨P, 0, none⟩)] w fun e w' => e = .returned (.int .i64 0) ∧ w = w' := by
  have hcr := created_no P w h
  go_enter Tryz.func92, Tryz.ntmps92
  go_wp2_with fail
  refine hcr.mono ?_
  rintro e w' ⟨rfl, rfl⟩
  go_wp2_with fail
  go_ret
  exact ⟨rfl, rfl⟩
/- The search for a span, and how many seconds of a week are open before its second t. -/
open Go.RowKit

set_option maxRecDepth 100000 in
/-- The function that the search asks. -/
theorem before_any (P tb pb k : Nat) (a : Option Addr) (n c : Nat) (F T : Nat → Int) (t : Int) (w : World) (ht : w.cell? ⟨tb, 0, none⟩ = some (.int .i64 t)) (hp : w.cell? ⟨pb, 0, none⟩ = some (.pointer (some ⟨P, 0, none⟩)))
    (hrow : w.cell? ⟨P, 0, none⟩ = some (.slice a n c)) (hS : Sps w a n F T) (hk : k < n) :
    Calls Tryz.prog 146 #[.int .i64 k, .pointer (some ⟨tb, 0, none⟩), .pointer (some ⟨pb, 0, none⟩)] w fun e w' => e = .returned (.bool (decide (t < T k))) ∧ ∃ q, w' = w.drewN q := by
  obtain ⟨ab, ao, rfl, hab, c0, c1, _⟩ := hS.at (Below.refl _ _) k hk
  have k0 : (0 : Int) ≤ (k : Int) := by omega
  have kl : (k : Int) < (n : Int) := by omega
  obtain ⟨u, hu⟩ : ∃ u, T k = u := ⟨_, rfl⟩
  rw [hu] at c1 ⊢
  obtain ⟨b, hb⟩ : ∃ b, decide (t < u) = b := ⟨_, rfl⟩
  rw [hb]
  clear hS hu c0
  go_enter Tryz.func146, Tryz.ntmps146
  go_wp2_with fail
  go_quiet (fail)
  go_wp2_with fail
  go_ret
  exact ⟨rfl, _, rfl⟩

/-- The first span that ends behind t. -/
def Found (T : Nat → Int) (n : Nat) (t : Int) (w : World) (e : Ending) (w' : World) : Prop :=
  ∃ i : Nat, e = .returned (.int .i64 i) ∧ i ≤ n ∧ (∀ j, j < i → T j ≤ t) ∧ (∀ j, i ≤ j → j < n → t < T j) ∧ ∃ q, w' = w.drewN q
set_option maxRecDepth 100000 in
set_option maxHeartbeats 4000000 in
theorem search_any (P tb pb : Nat) (a : Option Addr) (n c : Nat) (F T : Nat → Int) (t : Int) (w : World) (ht : w.cell? ⟨tb, 0, none⟩ = some (.int .i64 t)) (hp : w.cell? ⟨pb, 0, none⟩ = some (.pointer (some ⟨P, 0, none⟩)))
    (hrow : w.cell? ⟨P, 0, none⟩ = some (.slice a n c)) (hS : Sps w a n F T) (hn : n ≤ 32) (hg : good F T n = true) :
    Calls Tryz.prog 135 #[.int .i64 n, .func (.func 146) #[] #[.pointer (some ⟨tb, 0, none⟩), .pointer (some ⟨pb, 0, none⟩)]] w (Found T n t w) := by
  have HB := Lib.hid (fun k q (hk : k < n) => before_any P tb pb k a n c F T t (w.drewN q) ht hp hrow (hS.kept ⟨rfl, rfl, rfl, Nat.le_refl _, fun _ _ => rfl⟩) hk)
  have hmono : ∀ j k, j ≤ k → k < n → T j ≤ T k := fun j k hjk hk => by
    by_cases e : j = k
    · subst e; exact Int.le_refl _
    · have := good_order hg k j (by omega) hk
      have := (good_at hg hk).2.1
      omega
  have HM := Lib.hid hmono
  clear ht hp hrow hS hg hmono
  go_enter Tryz.func135, Tryz.ntmps135
  go_wp2_with fail
  go_loopw [5, 6] (fun i j wr => ∃ (x y : Nat), i = .int .i64 x ∧ j = .int .i64 y ∧ x ≤ y ∧ y ≤ n ∧ (∀ k, k < x → T k ≤ t) ∧ (∀ k, y ≤ k → k < n → t < T k) ∧ ∃ q, wr = w.drewN q) (fun i j _ => (intOf j).toNat - (intOf i).toNat)
  case atStart => exact ⟨0, n, rfl, rfl, Nat.zero_le _, Nat.le_refl _, fun k h => by omega, fun k h1 h2 => by omega, 0, rfl⟩
  case round =>
    obtain ⟨x, y, rfl, rfl, hxy, hyn, hlo, hhi, q, rfl⟩ := hrel
    have HLO := Lib.hid hlo
    have HHI := Lib.hid hhi
    clear hlo hhi
    by_cases hlt : x < y
    · have d1 : decide ((x : Int) < (y : Int)) = true := by simp [hlt]
      have x0 : (0 : Int) ≤ (x : Int) := by omega
      have y0 : (0 : Int) ≤ (y : Int) := by omega
      have y1 : (y : Int) ≤ 32 := by omega
      have x1 : (x : Int) ≤ 32 := by omega
      go_wp2_with fail
      obtain ⟨m, hm⟩ : ∃ m : Nat, ((x : Int) + (y : Int)) / 2 = (m : Int) := ⟨(x + y) / 2, by omega⟩
      rw [hm]
      have hxm : x ≤ m := by omega
      have hmy : m < y := by omega
      clear hm
      have hb := HB.out m q (by omega)
      obtain ⟨b, hd⟩ : ∃ b, decide (t < T m) = b := ⟨_, rfl⟩
      rw [hd] at hb
      have m0 : (0 : Int) ≤ (m : Int) := by omega
      have m1 : (m : Int) ≤ 32 := by omega
      cases b
      · have hf := of_decide_eq_false hd
        have HF := Lib.hid hf
        clear hd hf
        go_wp2_with fail
        refine hb.mono ?_
        rintro e w1 ⟨rfl, q1, rfl⟩
        clear hb
        go_wp2_with fail
        go_roundw
        case rel => exact ⟨m + 1, y, by go_num, rfl, by omega, hyn, (fun k hk => by
          have h1 := HM.out k m (by omega) (by omega)
          have h2 := HF.out
          omega), HHI.out, _, rfl⟩
        case measure => simp [intOf]; omega
      · have ht := of_decide_eq_true hd
        have HF := Lib.hid ht
        clear hd ht
        go_wp2_with fail
        refine hb.mono ?_
        rintro e w1 ⟨rfl, q1, rfl⟩
        clear hb
        go_wp2_with fail
        go_roundw
        case rel => exact ⟨x, m, rfl, rfl, hxm, by omega, HLO.out, (fun k h1 h2 => by
          have h3 := HM.out m k h1 h2
          have h4 := HF.out
          omega), _, rfl⟩
        case measure => simp [intOf]; omega
    · obtain rfl : x = y := by omega
      go_wp2_with fail
      go_ret
      exact ⟨x, rfl, hyn, HLO.out, HHI.out, q, rfl⟩

theorem wsum_found {F T : Nat → Int} {n i : Nat} {t : Int} (hg : good F T n = true) (hlo : ∀ j, j < i → T j ≤ t) (hhi : ∀ j, i ≤ j → j < n → t < T j) : ∀ k, k ≤ n → wsum F T 0 t k = if k ≤ i then tsum F T k else tsum F T i + max 0 (t - F i) := by
  intro k
  induction k with
  | zero => intro _; rw [if_pos (Nat.zero_le _)]; rfl
  | succ k ih =>
    intro hk
    have h := ih (by omega)
    obtain ⟨g0, g1, g2, _⟩ := good_at hg (show k < n by omega)
    simp only [wsum, h]
    by_cases e1 : k + 1 ≤ i
    · rw [if_pos (by omega), if_pos e1, clip_before _ _ _ g0 g1 (hlo k (by omega))]
      simp only [tsum]
    · by_cases e2 : k = i
      · subst e2
        rw [if_pos (Nat.le_refl _), if_neg e1]
        have ht := hhi k (Nat.le_refl _) (by omega)
        by_cases h1 : F k ≤ t
        · rw [clip_within _ _ _ g0 h1 ht]; omega
        · rw [clip_behind _ _ _ g0 g1 (by omega)]; omega
      · rw [if_neg (by omega), if_neg e1]
        have := hhi i (Nat.le_refl _) (by omega)
        have := good_order hg k i (by omega) (by omega)
        rw [clip_behind _ _ _ g0 g1 (by omega)]
        omega

set_option maxRecDepth 100000 in
set_option maxHeartbeats 4000000 in
theorem within_plan {base P C : Nat} {a : Option Addr} {n c : Nat} {F T : Nat → Int} {w : World} (t : Int) (h : Pl base P C a n c F T w) (hn : n ≤ 32) (hg : good F T n = true) (hb : base ≤ w.heap.size) (ht0 : 0 ≤ t) (ht1 : t ≤ 1125899906842624) :
    Calls Tryz.prog 138 #[.pointer (some ⟨P, 0, none⟩), .int .i64 t] w fun e w' => e = .returned (.int .i64 (wsum F T 0 t n)) ∧ Pl base P C a n c F T w' ∧ Stays base w w' := by
  have B1 : Below w.heap.size w ((w.alloc (.cells #[.pointer (some ⟨P, 0, none⟩)] 144)).alloc (.cells #[.int .i64 t] 2)) := ((Below.refl _ _).alloc (Nat.le_refl _) _).alloc (by simp) _
  have hP := h.kept B1
  have z0 : ((w.alloc (.cells #[.pointer (some ⟨P, 0, none⟩)] 144)).alloc (.cells #[.int .i64 t] 2)).cell? ⟨w.heap.size, 0, none⟩ = some (.pointer (some ⟨P, 0, none⟩)) := by rw [World.cell?_alloc_past _ _ _ (by simp)]; simp
  have z1 : ((w.alloc (.cells #[.pointer (some ⟨P, 0, none⟩)] 144)).alloc (.cells #[.int .i64 t] 2)).cell? ⟨w.heap.size + 1, 0, none⟩ = some (.int .i64 t) := by simp
  have hlt0 : w.heap.size < ((w.alloc (.cells #[.pointer (some ⟨P, 0, none⟩)] 144)).alloc (.cells #[.int .i64 t] 2)).heap.size := by simp; omega
  have hlt1 : w.heap.size + 1 < ((w.alloc (.cells #[.pointer (some ⟨P, 0, none⟩)] 144)).alloc (.cells #[.int .i64 t] 2)).heap.size := by simp
  have hltC := h.lt
  have HB1 := Lib.hid (Stays.below hb B1)
  have hse := search_any P (w.heap.size + 1) w.heap.size a n c F T t _ z1 z0 hP.row hP.sps hn hg
  have e1 := hP.bef
  have e2 := hP.row
  have HP := Lib.hid hP
  have HG := Lib.hid hg
  clear h hP B1 hg
  go_enter Tryz.func138, Tryz.ntmps138
  go_wp2_with fail
  generalize ((w.alloc (.cells #[.pointer (some ⟨P, 0, none⟩)] 144)).alloc (.cells #[.int .i64 t] 2)) = W at *
  refine hse.mono ?_
  rintro e w1 ⟨i, rfl, hin, hlo, hhi, q, rfl⟩
  clear hse
  have hP1 := HP.out.drewN q
  have f0 : (W.drewN q).cell? ⟨w.heap.size, 0, none⟩ = some (.pointer (some ⟨P, 0, none⟩)) := z0
  have f1 : (W.drewN q).cell? ⟨w.heap.size + 1, 0, none⟩ = some (.int .i64 t) := z1
  have f2 : (W.drewN q).cell? ⟨P, 1, none⟩ = some (.pointer (some ⟨C, 0, none⟩)) := e1
  have f3 : (W.drewN q).cell? ⟨P, 0, none⟩ = some (.slice a n c) := e2
  have hsz : (W.drewN q).heap.size = W.heap.size := rfl
  have hget := get_plan hP1 hn HG.out
  have HBQ := Lib.hid (HB1.out.trans (show Stays base W (W.drewN q) from ⟨Nat.le_refl _, fun W0 h => below_drewN' h q⟩))
  have HLO := Lib.hid hlo
  have HHI := Lib.hid hhi
  clear hP1 hlo hhi z0 z1 e1 e2
  generalize W.drewN q = W1 at *
  go_wp2_with fail
  refine hget.mono ?_
  rintro e w2 ⟨g, vc, rfl, hk, hP2, hO2⟩
  have ck := hk i hin
  have e1 := hP2.row
  have e2 : w2.cell? ⟨w.heap.size, 0, none⟩ = some (.pointer (some ⟨P, 0, none⟩)) := (hO2.cell (p := ⟨w.heap.size, 0, none⟩) (by show w.heap.size < _; omega) (by show ¬ w.heap.size = C; omega)).trans f0
  have e3 : w2.cell? ⟨w.heap.size + 1, 0, none⟩ = some (.int .i64 t) := (hO2.cell (p := ⟨w.heap.size + 1, 0, none⟩) (by show w.heap.size + 1 < _; omega) (by show ¬ w.heap.size + 1 = C; omega)).trans f1
  have HST := Lib.hid (HBQ.out.trans (show Stays base W1 w2 from ⟨hO2.size, fun W0 h => h.trans (hO2.toBelow (Nat.le_trans hb (HBQ.out).1) fun k hk => by subst hk; exact hP2.hC)⟩))
  have HS2 := Lib.hid hP2.sps
  have HP2 := Lib.hid hP2
  obtain ⟨p0, p1⟩ := tsum_bounds HG.out i hin
  have p2 : tsum F T i ≤ 36028797018963968 := by omega
  have HWF := Lib.hid (wsum_found HG.out HLO.out HHI.out n (Nat.le_refl _))
  obtain ⟨s, hs⟩ : ∃ s, tsum F T i = s := ⟨_, rfl⟩
  have HE := Lib.hid hs
  rw [hs] at ck p0 p2
  have i0 : (0 : Int) ≤ (i : Int) := by omega
  have i1 : (i : Int) < (n : Int) + 1 := by omega
  clear hget hk hP2 hO2 f0 f1 f2 f3 hs p1
  by_cases hlt : i < n
  · have d1 : decide ((i : Int) < (n : Int)) = true := by simp [hlt]
    have i2 : (i : Int) < (n : Int) := by omega
    obtain ⟨ab, ao, rfl, hab, c0, _, b0, b1, _, _⟩ := HS2.out.at (Below.refl _ _) i hlt
    obtain ⟨g0, g1, g2, _⟩ := good_at HG.out hlt
    have HR : Hid (wsum F T 0 t n = s + max 0 (t - F i)) := Lib.hid (by rw [HWF.out, if_neg (by omega), HE.out])
    obtain ⟨f, hf⟩ : ∃ f, F i = f := ⟨_, rfl⟩
    rw [hf] at c0 b0 b1 g0 g1 HR
    have w1' : IntKind.i64.wrap (t - f) = t - f := IntWalk.i64_in _ (by omega)
    have w2' : IntKind.i64.wrap (s + max 0 (t - f)) = s + max 0 (t - f) := IntWalk.i64_in _ (by omega)
    clear hf
    go_wp2_with fail
    go_quiet (fail)
    all_goals clear w1' w2'
    all_goals go_wp2_with fail
    all_goals
      go_ret
      exact ⟨ret_int (by have := HR.out; omega), HP2.out.drewN _, HST.out.trans ⟨Nat.le_refl _, fun W0 h => below_drewN' h _⟩⟩
  · have d1 : decide ((i : Int) < (n : Int)) = false := by simp; omega
    have HR : Hid (wsum F T 0 t n = s) := Lib.hid (by rw [HWF.out, if_pos (by omega), ← HE.out]; congr 1; omega)
    go_wp2_with fail
    go_ret
    exact ⟨ret_int HR.out.symm, HP2.out, HST.out⟩
end Go.Proofs.YtibjboacjobaoaaGreat
