/- The disk: the next tear. -/
import Derived.Test.YthkjjpkipeeimaaDkV
import Derived.Deep.DeepCutAuto
namespace Go.Proofs.Ythkjjpkipeeimaa
open Go.RowKit Go.Maps
def tr1 (t : Nat × Nat) : Value := .agg #[.int .u16 (t.1 : Int), .int .u32 (t.2 : Int)]
/-- A row of tears that can be read, in blocks that P does not hold. -/
def TRow (P : Nat → Prop) (w : World) (a : Option Addr) (ts : List (Nat × Nat)) : Prop := ∀ i (hi : i < ts.length), ∃ b o, a = some ⟨b, o, none⟩ ∧ b < w.heap.size ∧ ¬ P b ∧ w.cell? ⟨b, o + i * 2, none⟩ = some (.int .u16 (ts[i].1 : Int)) ∧ w.cell? ⟨b, o + i * 2 + 1, none⟩ = some (.int .u32 (ts[i].2 : Int))
theorem TRow.only {P : Nat → Prop} {w w' : World} {a : Option Addr} {ts : List (Nat × Nat)} (h : TRow P w a ts) (ho : Only P w w') : TRow P w' a ts := fun i hi => by
  obtain ⟨b, o, e, h1, h2, h3, h4⟩ := h i hi
  exact ⟨b, o, e, Nat.lt_of_lt_of_le h1 ho.size, h2, (World.cell?_of_block (a := ⟨b, _, none⟩) (ho.block b h1 h2)).trans h3, (World.cell?_of_block (a := ⟨b, _, none⟩) (ho.block b h1 h2)).trans h4⟩
theorem TRow.tail {P : Nat → Prop} {w : World} {a : Option Addr} {t : Nat × Nat} {ts : List (Nat × Nat)} (h : TRow P w a (t :: ts)) : TRow P w (a.map (·.add 2)) ts := fun i hi => by
  obtain ⟨b, o, e, h1, h2, h3, h4⟩ := h (i + 1) (by simp; omega)
  refine ⟨b, o + 2, by rw [e]; simp [add_at], h1, h2, ?_, ?_⟩
  · rw [show o + 2 + i * 2 = o + (i + 1) * 2 by omega]
    simpa using h3
  · rw [show o + 2 + i * 2 + 1 = o + (i + 1) * 2 + 1 by omega]
    simpa using h4
theorem tt_info : (Try.prog.info? 109).map (·.size) = some 2 := by kernel_rfl
theorem tt_und : Try.prog.underlying 109 = some (.struct (Try.prog.fieldsOf 109)) := by kernel_rfl
theorem tt_res {fn : Func} {p : Nat} (h : fn.results = #[.cell p 109]) (tmps : Array Value) (w : World) (N : Nat) (x y : Value) (hp : tmps.getD p undef = .pointer (some ⟨N, 0, none⟩)) (h0 : w.cell? ⟨N, 0, none⟩ = some x) (h1 : w.cell? ⟨N, 1, none⟩ = some y) : (results fn tmps).run Try.prog w = .ok (.agg #[x, y]) w := by
  have hR : w.rangeAt N 0 [x, y] := fun j u hj => by
    rcases j with _ | _ | j
    · injection hj with hj
      subst hj
      exact h0
    · injection hj with hj
      subst hj
      exact h1
    · cases hj
  have hl := run_loadVar_mid w N 0 _ [x, y] _ hR tt_und rfl tt_info
  have hp' : tmps[p]?.getD undef = .pointer (some ⟨N, 0, none⟩) := by simpa using hp
  simp [results, h, hp', asAddr, hl]
theorem one_at' {w : World} {T : Nat} {v : Value} {t : TypeId} (h : w.heap[T]? = some (.cells #[v] t (0, 0))) : w.cell? ⟨T, 0, none⟩ = some v ∧ ∀ o, w.frozen? ⟨T, o, none⟩ = false := ⟨by simp [World.cell?, h], fun o => by simp [World.frozen?, h]⟩
set_option maxRecDepth 100000 in
theorem next_none (T : Nat) (a : Option Addr) (c : Nat) (w : World) (h : w.heap[T]? = some (.cells #[.slice a 0 c] 32 (0, 0))) : Calls Try.prog 77 #[.pointer (some ⟨T, 0, none⟩)] w fun e w' => e = .returned (tr1 (0, 0)) ∧ Below w.heap.size w w' := by
  obtain ⟨B1, s1, -⟩ := box1 w #[.int .u16 0, .int .u32 0] 109
  have x0 := (one_at' (ex_below h B1)).1
  have HB := Lib.hid B1
  have HS := Lib.hid s1
  clear h B1 s1
  go_enter Try.func77, Try.ntmps77
  go_wp2_with fail
  refine bodyPost_ret (tt_res rfl _ _ w.heap.size _ _ rfl (two_at HS.out).1 (two_at HS.out).2.1) rfl ?_
  exact ⟨rfl, HB.out⟩
set_option maxRecDepth 100000 in
theorem next_some (P : Nat → Prop) (T : Nat) (a : Option Addr) (c : Nat) (t : Nat × Nat) (q : List (Nat × Nat)) (w : World) (h : w.heap[T]? = some (.cells #[.slice a (q.length + 1) c] 32 (0, 0))) (hr : TRow P w a (t :: q)) (hc : q.length + 1 ≤ c) : Calls Try.prog 77 #[.pointer (some ⟨T, 0, none⟩)] w fun e w' => e = .returned (tr1 t) ∧ ∃ a2, w'.heap[T]? = some (.cells #[.slice a2 q.length (c - 1)] 32 (0, 0)) ∧ (∀ W, TRow P W a (t :: q) → TRow P W a2 q) ∧ Only (· = T) w w' := by
  obtain ⟨b, o, rfl, hb, -, hc0, hc1⟩ := hr 0 (by simp)
  simp only [Nat.zero_mul, Nat.add_zero, List.getElem_cons_zero] at hc0 hc1
  obtain ⟨B1, s1, -⟩ := box1 w #[.int .u16 0, .int .u32 0] 109
  have HT1 := Lib.hid (ex_below h B1)
  have HB1 := Lib.hid B1
  have HS1 := Lib.hid s1
  have HTL : Hid (T < w.heap.size ∧ b < w.heap.size) := Lib.hid ⟨ex_lt h, hb⟩
  have HCC := Lib.hid hc
  have hk0 := (B1.cell (p := ⟨b, o, none⟩) hb).trans hc0
  have hk1 := (B1.cell (p := ⟨b, o + 1, none⟩) hb).trans hc1
  have HKK := Lib.hid (And.intro hk0 hk1)
  have HA : Hid (∀ W, TRow P W (some ⟨b, o, none⟩) (t :: q) → TRow P W (if c = 1 then some ⟨b, o, none⟩ else some ⟨b, o + 2, none⟩) q) := Lib.hid (fun W h => by
    by_cases h1 : c = 1
    · have hq : q = [] := List.length_eq_zero_iff.1 (by omega)
      subst hq
      exact fun i hi => absurd hi (by simp)
    · rw [if_neg h1]
      have := h.tail
      simpa [add_at] using this)
  have t0 := (one_at' HT1.out).1
  have l1 : (0 : Int) < (q.length : Int) + 1 := by omega
  have e0 : decide ((q.length : Int) + 1 = 0) = false := decide_eq_false (by omega)
  have e1 : ((q.length : Int) + 1 == 0) = false := by simp; omega
  clear h hr hb hc0 hc1 B1 s1 hk0 hk1 hc
  go_enter Try.func77, Try.ntmps77
  go_upto_region 3 with fail
  obtain ⟨N, hN⟩ : ∃ N, w.heap.size = N := ⟨_, rfl⟩
  have HNN := Lib.hid hN
  rw [hN] at HS1 HTL
  try rw [hN]
  clear hN
  generalize w.alloc (.cells #[.int .u16 0, .int .u32 0] 109) = w1 at HT1 HB1 HS1 HKK t0 ⊢
  obtain ⟨k0, k1⟩ := HKK.out
  clear HKK
  obtain ⟨B2, s2, -⟩ := box1 w1 #[.int .u16 (t.1 : Int), .int .u32 (t.2 : Int)] 109
  have HT2 := Lib.hid (ex_below HT1.out B2)
  have HS2 := Lib.hid s2
  have HZ2 := Lib.hid (ex_below HS1.out B2)
  have HB2 := Lib.hid (HB1.out.trans (B2.mono HB1.out.size))
  have HNL := Lib.hid (ex_lt HS1.out)
  have HTL1 := Lib.hid (ex_lt HT1.out)
  clear B2 s2
  go_upto_region 4 with fail
  obtain ⟨N2, hN2⟩ : ∃ N2, w1.heap.size = N2 := ⟨_, rfl⟩
  rw [hN2] at HS2 HNL HTL1
  try rw [hN2]
  clear hN2 k0 k1 t0
  generalize w1.alloc (.cells #[.int .u16 (t.1 : Int), .int .u32 (t.2 : Int)] 109) = w2 at HT2 HS2 HZ2 HB2 ⊢
  obtain ⟨t0, tf⟩ := one_at' HT2.out
  have tf0 := tf 0
  have h10 : (0 : Int) ≤ 1 := by decide
  have h11 : (1 : Int) ≤ ((q.length + 1 : Nat) : Int) := by omega
  have hsl := fun w => run_slice_l (P := Try.prog) w 32 (some ⟨b, o, none⟩) (q.length + 1) c Try.underlying32 .i64 1 h10 h11
  clear tf
  obtain ⟨a2, ha2⟩ : ∃ a2, (if c = 1 then some ⟨b, o, none⟩ else some (⟨b, o + 2, none⟩ : Addr)) = a2 := ⟨_, rfl⟩
  have HA2 : Hid (∀ W, TRow P W (some ⟨b, o, none⟩) (t :: q) → TRow P W a2 q) := Lib.hid (by rw [← ha2]; exact HA.out)
  have hTN : Hid (T ≠ N ∧ T ≠ N2 ∧ N ≠ N2) := Lib.hid (by have h1 := HTL.out; have h2 := HNL.out; have h3 := HTL1.out; omega)
  have HT3 : Hid ((w2.setCell ⟨T, 0, none⟩ (.slice a2 q.length (c - 1))).heap[T]? = some (.cells #[.slice a2 q.length (c - 1)] 32 (0, 0))) := Lib.hid (by rw [heap_setCell_same w2 T 0 _ _ _ HT2.out]; simp)
  have HS3 : Hid ((w2.setCell ⟨T, 0, none⟩ (.slice a2 q.length (c - 1))).heap[N2]? = some (.cells #[.int .u16 (t.1 : Int), .int .u32 (t.2 : Int)] 109 (0, 0))) := Lib.hid ((Below.heap_setCell _ _ _ _ (by exact Ne.symm hTN.out.2.1)).trans HS2.out)
  have HZ3 : Hid ((w2.setCell ⟨T, 0, none⟩ (.slice a2 q.length (c - 1))).heap[N]? = some (.cells #[.int .u16 0, .int .u32 0] 109 (0, 0))) := Lib.hid ((Below.heap_setCell _ _ _ _ (by exact Ne.symm hTN.out.1)).trans HZ2.out)
  have HO3 : Hid (Only (· = T) w (w2.setCell ⟨T, 0, none⟩ (.slice a2 q.length (c - 1)))) := Lib.hid ((Only.below HB2.out).setCell _ _ rfl)
  go_upto_region 5 with fail
  try rw [ha2]
  clear ha2 t0 tf0 hsl h10 h11 l1 e0 e1
  generalize w2.setCell ⟨T, 0, none⟩ (.slice a2 q.length (c - 1)) = w3 at HT3 HS3 HZ3 HO3 ⊢
  obtain ⟨y0, y1, -⟩ := two_at HS3.out
  obtain ⟨z0, z1, fr⟩ := two_at HZ3.out
  have f0 := fr 0
  have f1 := fr 1
  have HX4 := Lib.hid (two_set (two_set HZ3.out (.int .u16 (t.1 : Int))).1 (.int .u32 (t.2 : Int))).2
  have HT4 : Hid (((w3.setCell ⟨N, 0, none⟩ (.int .u16 (t.1 : Int))).setCell ⟨N, 1, none⟩ (.int .u32 (t.2 : Int))).heap[T]? = some (.cells #[.slice a2 q.length (c - 1)] 32 (0, 0))) := Lib.hid (((Below.heap_setCell _ _ _ _ (by exact hTN.out.1)).trans (Below.heap_setCell _ _ _ _ (by exact hTN.out.1))).trans HT3.out)
  have HO4 := Lib.hid (only_new (only_new HO3.out (N := N) (by have := HNN.out; omega) 0 (.int .u16 (t.1 : Int))) (N := N) (by have := HNN.out; omega) 1 (.int .u32 (t.2 : Int)))
  clear fr
  go_wp2_with fail
  refine bodyPost_ret (tt_res rfl _ _ N _ _ rfl (two_at HX4.out).1 (two_at HX4.out).2.1) rfl ?_
  exact ⟨rfl, a2, HT4.out, HA2.out, HO4.out⟩
end Go.Proofs.Ythkjjpkipeeimaa
