import Derived.Test.YtibjboacjobaoaaMgAF
import Derived.Recover
import Derived.Test.YtibjboacjobaoaaMgAE
import Derived.Test.YtibjboacjobaoaaMgAD
import Derived.Lib.MinMax
import Derived.StillTailTactics
import Derived.Deep.RegionLaw
import Derived.IntWalk
import Derived.Deep.RegionHeld3
namespace Go.Proofs.Ytibjboacjobaoaa
open Go.RowKit
/- A cell of lazy over rows of int64: create, Get, Made, Asked, New. -/
open Go.RowKit

/-- A cell's seven words. -/
structure Cel (b : Nat) (f : Value) (d : Int) (v : Value) (m : Int) (n : Int) (w : World) : Prop where
  build : w.cell? ⟨b, 0, none⟩ = some f
  done : w.cell? ⟨b, 1, none⟩ = some (.int .u32 d)
  lock : w.cell? ⟨b, 2, none⟩ = some (.int .i32 0)
  value : w.cell? ⟨b, 4, none⟩ = some v
  made : w.cell? ⟨b, 5, none⟩ = some (.int .u32 m)
  asked : w.cell? ⟨b, 6, none⟩ = some (.int .i64 n)
  free : ∀ j, w.frozen? ⟨b, j, none⟩ = false

theorem nil_eql_nil (w : World) : (binOp .eql 202 .nilFunc .nilFunc).run Try.prog w = .ok (.bool true) w := by kernel_rfl
theorem fn_eql_nil (g : Fn) (a b : Array Value) (w : World) : (binOp .eql 202 (.func g a b) .nilFunc).run Try.prog w = .ok (.bool false) w := by kernel_rfl

/-- New: a new block. -/
theorem new_fn (g : Fn) (first cap : Array Value) (w : World) :
    Calls Try.prog 141 #[.func g first cap] w fun e w' => e = .returned (.pointer (some ⟨w.heap.size, 0, none⟩)) ∧
      w.alloc (.cells #[.func g first cap, .int .u32 0, .int .i32 0, .int .u32 0, .slice none 0 0, .int .u32 0, .int .i64 0] 221) = w' := by
  go_enter Try.func141, Try.ntmps141
  go_wp2
  go_ret
  exact ⟨rfl, rfl⟩
/-- What create leaves behind: the value lies in the cell. -/
def Made (b vn : Nat) (R : Option Addr → Nat → World → Prop) (e : Ending) (w' : World) : Prop := e = .returned (.tuple #[]) ∧ ∃ va vc w2, R va vc w2 ∧ w2.setCell ⟨b, 4, none⟩ (.slice va vn vc) = w'
/- Get of a cell of lazy over rows of int64. -/
open Go.RowKit

theorem Cel.of_block {b : Nat} {f v : Value} {d m n : Int} {w w' : World} (C : Cel b f d v m n w) (h : w'.heap[b]? = w.heap[b]?) : Cel b f d v m n w' :=
  ⟨(World.cell?_of_block (a := ⟨b, 0, none⟩) h).trans C.build, (World.cell?_of_block (a := ⟨b, 1, none⟩) h).trans C.done, (World.cell?_of_block (a := ⟨b, 2, none⟩) h).trans C.lock,
   (World.cell?_of_block (a := ⟨b, 4, none⟩) h).trans C.value, (World.cell?_of_block (a := ⟨b, 5, none⟩) h).trans C.made, (World.cell?_of_block (a := ⟨b, 6, none⟩) h).trans C.asked,
   fun j => (World.frozen?_of_block (a := ⟨b, j, none⟩) h).trans (C.free j)⟩

/-- The world in which the cell's function is called. -/
def atBuild (b : Nat) (n1 : Int) (w : World) : World :=
  ((((w.setCell ⟨b, 6, none⟩ (.int .i64 n1)).setCell ⟨b, 2, none⟩ (.int .i32 1)).setCell ⟨b, 5, none⟩ (.int .u32 1)).setCell ⟨b, 0, none⟩ .nilFunc).drew
theorem atBuild_only (b : Nat) (n1 : Int) (w : World) : Only (· = b) w (atBuild b n1 w) :=
  (((((Only.refl (fun k => k = b) w).setCell ⟨b, 6, none⟩ _ rfl).setCell ⟨b, 2, none⟩ _ rfl).setCell ⟨b, 5, none⟩ _ rfl).setCell ⟨b, 0, none⟩ _ rfl).drew
theorem atBuild_size (b : Nat) (n1 : Int) (w : World) : (atBuild b n1 w).heap.size = w.heap.size := by simp [atBuild]

/-- What the first Get leaves behind. -/
def GotRow (b vn : Nat) (n1 : Int) (R : Option Addr → Nat → World → Prop) (e : Ending) (w' : World) : Prop := ∃ va vc, e = .returned (.slice va vn vc) ∧ Cel b .nilFunc 1 (.slice va vn vc) 1 n1 w' ∧ ∃ w2, R va vc w2 ∧ Only (· = b) w2 w' ∧ w'.heap.size = w2.heap.size
/- The plan's sums: how many seconds of a week are open before each span. -/
open Go.RowKit

theorem num_info : (Try.prog.info? 2).map (fun i => (i.zero, i.size, i.bytes)) = some (some (.int .i64 0), 1, 8) := by kernel_rfl
/-- A row of numbers of the call's own. -/
def NI (w : World) (base : Nat) (v : Value) (xs : List Int) : Prop := w.ownsRow base 2 1 v xs.length (xs.map (Value.int .i64))
theorem NI.kept {w w' : World} {base : Nat} {v : Value} {xs : List Int} (h : NI w base v xs) (hb : Below w.heap.size w w') : NI w' base v xs := by
  obtain ⟨h1, h2⟩ := h
  refine ⟨h1, ?_⟩
  rcases h2 with h2 | ⟨g, cap, cur, hv, hg, hh, r⟩
  · exact .inl h2
  · exact .inr ⟨g, cap, cur, hv, hg, by rw [hb.block g (Array.getElem?_eq_some_iff.mp hh).1]; exact hh, r⟩
theorem NI.shape {w : World} {base : Nat} {v : Value} {xs : List Int} (h : NI w base v xs) (hp : 0 < xs.length) : ∃ g c, v = .slice (some ⟨g, 0, none⟩) xs.length c ∧ base ≤ g ∧ g < w.heap.size ∧ ∀ k, k < xs.length → w.cell? ⟨g, k, none⟩ = some (.int .i64 (xs.getD k 0)) := by
  have h' := h
  rcases h'.2 with ⟨hv, h0⟩ | ⟨g, cap, cur, hv, hg, hh, hc, hm, _⟩
  · omega
  · subst hv
    refine ⟨g, cap, rfl, hg, (Array.getElem?_eq_some_iff.mp hh).1, fun k hk => ?_⟩
    have := World.ownsRow.cellAt h k (by omega)
    rw [this]
    simp [hk]
/-- The sums up to a span. -/
def sums (F T : Nat → Int) (k : Nat) : List Int := (List.range (k + 1)).map (tsum F T)
theorem sums_len (F T : Nat → Int) (k : Nat) : (sums F T k).length = k + 1 := by simp [sums]
theorem sums_at (F T : Nat → Int) (k j : Nat) (h : j ≤ k) : (sums F T k).getD j 0 = tsum F T j := by
  have : j < k + 1 := by omega
  simp [sums, this]
theorem sums_succ (F T : Nat → Int) (k : Nat) : sums F T (k + 1) = sums F T k ++ [tsum F T (k + 1)] := by simp [sums, List.range_succ]

/-- append(s, one number), as a step of a region that draws its order. -/
theorem step_append_num {ops : Array Oper} {o : Oper} {a : Act} {w : World} {K : Act → World → Prop} {Q : Exit → Act → World → Prop} {E : Prop} (hgd : o.guard = none) (s x : Operand)
    (ho : o.op = .call { callee := .builtin .append, args := #[s, x], argTypes := #[171, 171] })
    (base : Nat) (v : Value) (l : List Int) (z : Int) (ad : Addr) (c : Nat) (hs : a.eval s = v) (hx : a.eval x = .slice (some ad) 1 c) (hown : NI w base v l)
    (hc : w.cell? (ad.add 0) = some (.int .i64 z)) (hlen : l.length ≤ 100000) (hbase : base ≤ w.heap.size)
    (h : ∀ v' w', NI w' base v' (l ++ [z]) → Stays base w w' → K (a.put o.dst v') w') :
    if Region.wanted o (yielded ops a.tmps) = true then Oper.wp Try.prog o a w K Q else E := by
  have hw : Region.wanted o (yielded ops a.tmps) = true := by simp [Region.wanted, hgd]
  rw [if_pos hw]
  obtain ⟨i0, hi, hz0, hz1, hz2⟩ := info_parts num_info
  refine wp_append_own w s x 171 ho base 2 i0 (.int .i64 0) 1 8 Try.underlying171 hi hz0 hz1 hz2 rfl (by decide) v l.length (l.map (Value.int .i64)) hs hown ad 1 c [.int .i64 z] hx rfl
    (fun j u hj => by
      match j with
      | 0 => simp at hj; subst hj; exact hc
      | j + 1 => simp at hj)
    (by intro u hu; simp only [List.mem_cons, List.not_mem_nil, or_false] at hu; subst hu; rfl) (by unfold maxLen; omega) (by omega) hbase ?_
  intro v' w' h1 h2 _
  exact h v' w' (by unfold NI; rw [List.length_append, List.map_append]; exact h1) ⟨h2.size, fun W hW => hW.grown h2 hbase fun k hk => (World.ownsRow.lt hown k hk).1⟩

/-- A block of numbers of type int64. -/
def NumB (w : World) (g : Nat) : Prop := ∃ cs r, w.heap[g]? = some (.cells cs 2 r)
theorem NumB.same {w w' : World} {g : Nat} (h : NumB w g) (e : w'.heap[g]? = w.heap[g]?) : NumB w' g := by
  obtain ⟨cs, r, hh⟩ := h
  exact ⟨cs, r, e.trans hh⟩
theorem NumB.setCell {w : World} {g : Nat} (h : NumB w g) (p : Addr) (v : Value) : NumB (w.setCell p v) g := by
  by_cases e : g = p.block
  · obtain ⟨cs, r, hh⟩ := h
    subst e
    have hlt : p.block < w.heap.size := (Array.getElem?_eq_some_iff.mp hh).1
    have h' : w.heap[p.block] = .cells cs 2 r := by simpa [Array.getElem?_eq_getElem hlt] using hh
    refine ⟨if p.spot.isSome then cs else cs.setIfInBounds p.off v, r, ?_⟩
    show (w.heap.modify p.block _)[p.block]? = _
    rw [Array.getElem?_eq_getElem (by simpa using hlt), Array.getElem_modify_self, h']
  · exact h.same (Below.heap_setCell _ _ _ _ e)
theorem NI.numb {w : World} {base g n c : Nat} {xs : List Int} (h : NI w base (.slice (some ⟨g, 0, none⟩) n c) xs) (hp : 0 < xs.length) : NumB w g := by
  rcases h.2 with ⟨hv, h0⟩ | ⟨g', cap, cur, hv, _, hh, _⟩
  · omega
  · injection hv with hv
    injection hv with hv
    injection hv with hv
    subst hv
    exact ⟨_, _, hh⟩
/-- What sums hands back. -/
def Sums (F T : Nat → Int) (n : Nat) (w : World) (e : Ending) (w' : World) : Prop :=
  ∃ g c, e = .returned (.slice (some ⟨g, 0, none⟩) (n + 1) c) ∧ w.heap.size ≤ g ∧ (g < w'.heap.size ∧ NumB w' g) ∧ (∀ k, k ≤ n → w'.cell? ⟨g, k, none⟩ = some (.int .i64 (tsum F T k))) ∧ Below w.heap.size w w'
theorem lit_zero (w : World) : NI (w.alloc (.cells #[.int .i64 0] 2)) w.heap.size (.slice (some ⟨w.heap.size, 0, none⟩) 1 1) [0] :=
  World.ownsRow_lit w #[.int .i64 0] 1 (Nat.le_refl _) (by decide) rfl

set_option maxRecDepth 100000 in
set_option maxHeartbeats 8000000 in
theorem sums_any (P : Nat) (a : Option Addr) (n c : Nat) (F T : Nat → Int) (w : World) (hrow : w.cell? ⟨P, 0, none⟩ = some (.slice a n c)) (hS : Sps w a n F T) (hn : n ≤ 32) (hg : good F T n = true) :
    Calls Try.prog 142 #[.pointer (some ⟨P, 0, none⟩)] w (Sums F T n w) := by
  obtain ⟨i0, hi, hz0, hz1, hz2⟩ := info_parts num_info
  have HI := Lib.hid hi; have HZ0 := Lib.hid hz0; have HZ1 := Lib.hid hz1; have HZ2 := Lib.hid hz2
  have HPlt := (cell_spot hrow).2
  dsimp only at HPlt
  have hrow' : (w.alloc (.cells #[.int .i64 0] 2)).cell? ⟨P, 0, none⟩ = some (.slice a n c) := by rw [World.cell?_alloc_past _ _ _ HPlt]; exact hrow
  have HC := Lib.hid hS
  have HG := Lib.hid hg
  have B0 : Below w.heap.size w (w.alloc (.cells #[.int .i64 0] 2)) := (Below.refl _ _).alloc (Nat.le_refl _) _
  have HB0 := Lib.hid B0
  clear hS hg hi hz0 hz1 hz2 B0 hrow
  go_enter Try.func142, Try.ntmps142
  go_wp2_with fail
  go_loopw [3, 12] (fun v i wr => ∃ k : Nat, k ≤ n ∧ i = .int .i64 k ∧ NI wr w.heap.size v (sums F T k) ∧ Below w.heap.size w wr) (fun _ i _ => n - (intOf i).toNat)
  case atStart => exact ⟨0, Nat.zero_le _, rfl, lit_zero w, HB0.out⟩
  case round =>
    clear hrow'
    obtain ⟨k, hk, rfl, hN, hB⟩ := hrel
    obtain ⟨g, vc, rfl, hgb, hgl, hcell⟩ := hN.shape (by rw [sums_len]; omega)
    by_cases hlt : k < n
    · obtain ⟨ab, ao, rfl, hab, c0, c1, b0, b1, b2, b3⟩ := HC.out.at hB k hlt
      have ck := hcell k (by rw [sums_len]; omega)
      rw [sums_at F T k k (Nat.le_refl _)] at ck
      rw [sums_len]
      obtain ⟨p0, p1⟩ := tsum_bounds HG.out k hk
      have p2 : tsum F T k ≤ 36028797018963968 := by omega
      obtain ⟨g0, g1, g2, _⟩ := good_at HG.out hlt
      have HSU := Lib.hid (sums_succ F T k)
      have HT := Lib.hid (show tsum F T (k + 1) = tsum F T k + (T k - F k) from rfl)
      have hN' : NI wr w.heap.size (.slice (some ⟨g, 0, none⟩) (k + 1) vc) (sums F T k) := by rw [sums_len] at hN; exact hN
      have HNI := Lib.hid hN'
      have HB := Lib.hid hB
      obtain ⟨f, e0⟩ : ∃ x, F k = x := ⟨_, rfl⟩
      obtain ⟨t, e1⟩ : ∃ x, T k = x := ⟨_, rfl⟩
      obtain ⟨s, e2⟩ : ∃ x, tsum F T k = x := ⟨_, rfl⟩
      rw [e0] at c0 g0 g1 HT
      rw [e1] at c1 g1 g2 HT
      rw [e2] at ck p0 p2 HT
      have hbase : w.heap.size ≤ wr.heap.size := hB.size
      clear hN hN' hB e0 e1 e2 p1 hcell b0 b1 b2 b3
      have i0' : (0 : Int) ≤ (k : Int) := by omega
      have kl : (k : Int) < (n : Int) := by omega
      have kl2 : (k : Int) < (k : Int) + 1 := by omega
      have d4 : decide ((k : Int) < (n : Int)) = true := by simp [hlt]
      have w1 : IntKind.i64.wrap (s + t) = s + t := IntWalk.i64_in _ (by omega)
      have w2 : IntKind.i64.wrap (s + t - f) = s + t - f := IntWalk.i64_in _ (by omega)
      have B1 : Below wr.heap.size wr (wr.alloc (.cells #[.int .i64 f, .int .i64 t] 193)) := (Below.refl _ _).alloc (Nat.le_refl _) _
      have e1 := (B1.cell (p := ⟨g, k, none⟩) hgl).trans ck
      have e2 : (wr.alloc (.cells #[.int .i64 f, .int .i64 t] 193)).cell? ⟨wr.heap.size, 0, none⟩ = some (.int .i64 f) := by simp
      have e3 : (wr.alloc (.cells #[.int .i64 f, .int .i64 t] 193)).cell? ⟨wr.heap.size, 1, none⟩ = some (.int .i64 t) := by simp
      have HB1 := Lib.hid B1
      clear B1
      go_wp2_with fail
      generalize (wr.alloc (.cells #[.int .i64 f, .int .i64 t] 193)) = W1 at *
      have HN1 := Lib.hid (fun z => (HNI.out.kept (((HB1.out.alloc HB1.out.size (.cells #[.int .i64 z] 2))).drew)))
      have hsl : (sums F T k).length ≤ 100000 := by rw [sums_len]; omega
      have HSL := Lib.hid hsl
      have hW : w.heap.size ≤ W1.heap.size := Nat.le_trans hbase HB1.out.size
      have HBW := Lib.hid (fun z => ((HB.out.trans (HB1.out.mono hbase)).alloc hW (.cells #[.int .i64 z] 2)).drew)
      have HCE : Hid (∀ z, (W1.alloc (.cells #[.int .i64 z] 2)).drew.cell? ((⟨W1.heap.size, 0, none⟩ : Addr).add 0) = some (.int .i64 z)) := Lib.hid (fun z => by rw [add_at]; simp)
      have HSZ : Hid (∀ z, w.heap.size ≤ (W1.alloc (.cells #[.int .i64 z] 2)).drew.heap.size) := Lib.hid (fun z => by simp; omega)
      clear hsl
      go_region_law (refine step_append_num rfl (.tmp 17) (.tmp 28) rfl w.heap.size (.slice (some ⟨g, 0, none⟩) (k + 1) vc) (sums F T k) (s + t - f) ⟨W1.heap.size, 0, none⟩ 1 rfl rfl (HN1.out _) (HCE.out _) HSL.out (HSZ.out _) ?_; intro v' w' hN' hst; have HN' := Lib.hid hN'; have HST := Lib.hid hst; clear hN' hst)
      all_goals
        go_wp2_with fail
        go_roundw
        case rel => exact ⟨k + 1, hlt, by go_num, by rw [HSU.out, HT.out]; have e : s + (t - f) = s + t - f := by omega
                                                     rw [e]; exact HN'.out, HST.out.2 _ (HBW.out _)⟩
        case measure => simp [intOf]; omega
    · obtain rfl : k = n := by omega
      have HB := Lib.hid hB
      have hfin : ∀ j, j ≤ k → wr.cell? ⟨g, j, none⟩ = some (.int .i64 (tsum F T j)) := fun j hj => by
        rw [hcell j (by rw [sums_len]; omega), sums_at F T k j hj]
      have HF := Lib.hid hfin
      have HNB := Lib.hid (hN.numb (by rw [sums_len]; omega))
      rw [sums_len]
      clear hN hB hcell hfin
      go_wp2_with fail
      go_ret
      exact ⟨g, vc, rfl, hgb, ⟨hgl, HNB.out⟩, HF.out, HB.out⟩
/- A plan in memory; its cell asked; created, Total. -/
open Go.RowKit

/-- A plan that New made: its block P, its cell's C. -/
structure Pl (base P C : Nat) (a : Option Addr) (n c : Nat) (F T : Nat → Int) (w : World) : Prop where
  hP : base ≤ P
  hC : base ≤ C
  ne : P ≠ C
  lt : C < w.heap.size
  row : w.cell? ⟨P, 0, none⟩ = some (.slice a n c)
  bef : w.cell? ⟨P, 1, none⟩ = some (.pointer (some ⟨C, 0, none⟩))
  sps : Sps w a n F T
  far : ∀ x, 0 < n → a = some x → x.block ≠ C
  cel : (∃ k, Cel C (.func (.func 142) #[.pointer (some ⟨P, 0, none⟩)] #[]) 0 (.slice none 0 0) 0 k w) ∨
    (∃ g vc k, Cel C .nilFunc 1 (.slice (some ⟨g, 0, none⟩) (n + 1) vc) 1 k w ∧ (g ≠ C ∧ NumB w g) ∧ g < w.heap.size ∧ ∀ j, j ≤ n → w.cell? ⟨g, j, none⟩ = some (.int .i64 (tsum F T j)))
theorem Pl.ltP {base P C : Nat} {a : Option Addr} {n c : Nat} {F T : Nat → Int} {w : World} (h : Pl base P C a n c F T w) : P < w.heap.size := (cell_spot h.row).2
theorem Sps.only {X : Nat → Prop} {w w' : World} {a : Option Addr} {n : Nat} {F T : Nat → Int} (h : Sps w a n F T) (o : Only X w w') (hx : ∀ x, 0 < n → a = some x → ¬ X x.block) : Sps w' a n F T := by
  refine ⟨h.1, fun hp => ?_⟩
  obtain ⟨ab, ao, e, hl, hc⟩ := h.2 hp
  have hn : ¬ X ab := hx _ hp e
  exact ⟨ab, ao, e, Nat.lt_of_lt_of_le hl o.size, fun k hk => ⟨(o.cell (p := ⟨ab, ao + k * 2, none⟩) hl hn).trans (hc k hk).1, (o.cell (p := ⟨ab, ao + k * 2 + 1, none⟩) hl hn).trans (hc k hk).2.1, (hc k hk).2.2⟩⟩
theorem Pl.kept {base P C : Nat} {a : Option Addr} {n c : Nat} {F T : Nat → Int} {w w' : World} (h : Pl base P C a n c F T w) (hb : Below w.heap.size w w') : Pl base P C a n c F T w' := by
  refine ⟨h.hP, h.hC, h.ne, Nat.lt_of_lt_of_le h.lt hb.size, (hb.cell (p := ⟨P, 0, none⟩) h.ltP).trans h.row, (hb.cell (p := ⟨P, 1, none⟩) h.ltP).trans h.bef, h.sps.kept hb, h.far, ?_⟩
  rcases h.cel with ⟨k, hc⟩ | ⟨g, vc, k, hc, hg, hl, hk⟩
  · exact .inl ⟨k, hc.of_block (hb.block C h.lt)⟩
  · exact .inr ⟨g, vc, k, hc.of_block (hb.block C h.lt), ⟨hg.1, hg.2.same (hb.block g hl)⟩, Nat.lt_of_lt_of_le hl hb.size, fun j hj => (hb.cell (p := ⟨g, j, none⟩) hl).trans (hk j hj)⟩
theorem Pl.drewN {base P C : Nat} {a : Option Addr} {n c : Nat} {F T : Nat → Int} {w : World} (h : Pl base P C a n c F T w) (q : Nat) : Pl base P C a n c F T (w.drewN q) :=
  h.kept ⟨rfl, rfl, rfl, Nat.le_refl _, fun _ _ => rfl⟩

/-- What a question to the plan's cell hands back: the sums. -/
def Asked (base P C : Nat) (a : Option Addr) (n c : Nat) (F T : Nat → Int) (w : World) (e : Ending) (w' : World) : Prop :=
  ∃ g vc, e = .returned (.slice (some ⟨g, 0, none⟩) (n + 1) vc) ∧ (∀ j, j ≤ n → w'.cell? ⟨g, j, none⟩ = some (.int .i64 (tsum F T j))) ∧ Pl base P C a n c F T w' ∧ Only (· = C) w w'
/-- What a method of the plan leaves behind. -/
def Told (base P C : Nat) (a : Option Addr) (n c : Nat) (F T : Nat → Int) (v : Value) (w : World) (e : Ending) (w' : World) : Prop :=
  e = .returned v ∧ Pl base P C a n c F T w' ∧ Only (· = C) w w'
end Go.Proofs.Ytibjboacjobaoaa
