/- The law's calls of the vow: how they lie in memory, how they come in; Light. -/
import Derived.Test.YthefnakbpalecaaVyT
import Derived.Deep.DeepCutAuto
namespace Go.Proofs.Ythefnakbpalecaa
open Go.RowKit Go.Maps
structure Ov where
  (kd n : Int)
  (t : Nat)
  (v : Int)
  (ts : List (Nat × Nat))
  (a : Option Addr)
  (c : Nat)
instance : Inhabited Ov := ⟨⟨0, 0, 0, 0, [], none, 0⟩⟩
/-- What a call may lean on. -/
structure OvOk (x : Ov) : Prop where
  n1 : -9223372036854775808 ≤ x.n ∧ x.n < 9223372036854775808
  wf : ∀ t ∈ x.ts, t.1 < 65536 ∧ t.2 < 4294967296
  le : x.ts.length ≤ x.c
/-- A call's five cells, from a place on. -/
structure OvAt (w : World) (b o : Nat) (x : Ov) : Prop where
  c0 : w.cell? ⟨b, o, none⟩ = some (.int .i64 x.kd)
  c1 : w.cell? ⟨b, o + 1, none⟩ = some (.int .i64 x.n)
  c2 : w.cell? ⟨b, o + 2, none⟩ = some (.int .u64 (x.t : Int))
  c3 : w.cell? ⟨b, o + 3, none⟩ = some (.int .i64 x.v)
  c4 : w.cell? ⟨b, o + 4, none⟩ = some (.slice x.a x.ts.length x.c)
/-- A row of calls below B0. -/
def VRow (B0 : Nat) (w : World) (a : Option Addr) (n : Nat) (O : Nat → Ov) : Prop := ∀ i, i < n → OvOk (O i) ∧ TRow (fun k => B0 ≤ k) w (O i).a (O i).ts ∧ ∃ b o, a = some ⟨b, o, none⟩ ∧ b < B0 ∧ b < w.heap.size ∧ OvAt w b (o + i * 5) (O i)
theorem TRow.blb {B0 : Nat} {w w' : World} {a : Option Addr} {ts : List (Nat × Nat)} (h : TRow (fun k => B0 ≤ k) w a ts) (hb : Below B0 w w') : TRow (fun k => B0 ≤ k) w' a ts := fun i hi => by
  obtain ⟨b, o, e, h1, h2, h3, h4⟩ := h i hi
  have hlt : b < B0 := Nat.lt_of_not_le h2
  exact ⟨b, o, e, Nat.lt_of_lt_of_le h1 hb.size, h2, (hb.cell (p := ⟨b, _, none⟩) hlt).trans h3, (hb.cell (p := ⟨b, _, none⟩) hlt).trans h4⟩
theorem VRow.below {B0 : Nat} {w w' : World} {a : Option Addr} {n : Nat} {O : Nat → Ov} (h : VRow B0 w a n O) (hb : Below B0 w w') : VRow B0 w' a n O := fun i hi => by
  obtain ⟨h1, h2, b, o, e, h3, h4, h5⟩ := h i hi
  have k : ∀ j v, w.cell? ⟨b, j, none⟩ = some v → w'.cell? ⟨b, j, none⟩ = some v := fun j v hv => (hb.cell (p := ⟨b, j, none⟩) h3).trans hv
  exact ⟨h1, h2.blb hb, b, o, e, h3, Nat.lt_of_lt_of_le h4 hb.size, k _ _ h5.c0, k _ _ h5.c1, k _ _ h5.c2, k _ _ h5.c3, k _ _ h5.c4⟩
set_option maxRecDepth 100000 in
set_option maxHeartbeats 8000000 in
theorem light26 (B0 : Nat) (a : Option Addr) (n c : Nat) (O : Nat → Ov) (w : World) (h : VRow B0 w a n O) (hB : B0 ≤ w.heap.size) (hn : n ≤ maxLen) : Calls Try.prog 39 #[.slice a n c] w fun e w' => ∃ b, e = .returned (.bool b) ∧ (b = true → n ≤ 120) ∧ Below w.heap.size w w' := by
  have HR := Lib.hid h
  have HBZ := Lib.hid hB
  have HNN := Lib.hid hn
  clear h hB hn
  go_enter Try.func39, Try.ntmps39
  go_wp2_with fail
  go_loopg [7] n (fun kx s7 wr => ∃ (i : Nat), s7 = .int .i64 (i : Int) ∧ i ≤ n ∧ n - i ≤ kx ∧ Hid (Below w.heap.size w wr))
  case atStart => exact ⟨0, rfl, by omega, by omega, Lib.hid (Below.refl _ _)⟩
  case round =>
    obtain ⟨i, rfl, hi, hk, HB⟩ := hrel
    obtain ⟨w4, rfl⟩ : ∃ W, W = wr := ⟨_, rfl⟩
    by_cases hlt : i < n
    · have hltz : (i : Int) < (n : Int) := by omega
      have hi0 : (0 : Int) ≤ (i : Int) := by omega
      have HWI : Hid (wrap64 ((i : Int) + 1) = (i : Int) + 1) := Lib.hid (IntWalk.wrap64_in _ (by have h := HNN.out; unfold maxLen at h; omega))
      obtain ⟨-, -, b, o, rfl, -, -, k0, k1, k2, k3, k4⟩ := (HR.out.below (HB.out.mono HBZ.out)) i hlt
      obtain ⟨x, hx⟩ : ∃ x, O i = x := ⟨_, rfl⟩
      rw [hx] at k0 k1 k2 k3 k4
      obtain ⟨kd, hkd⟩ : ∃ kd, x.kd = kd := ⟨_, rfl⟩
      obtain ⟨xn, hxn⟩ : ∃ xn, x.n = xn := ⟨_, rfl⟩
      obtain ⟨xt, hxt⟩ : ∃ xt, x.t = xt := ⟨_, rfl⟩
      obtain ⟨xv, hxv⟩ : ∃ xv, x.v = xv := ⟨_, rfl⟩
      obtain ⟨lt, hlt5⟩ : ∃ lt, x.ts.length = lt := ⟨_, rfl⟩
      obtain ⟨xa, hxa⟩ : ∃ xa, x.a = xa := ⟨_, rfl⟩
      obtain ⟨xc, hxc⟩ : ∃ xc, x.c = xc := ⟨_, rfl⟩
      rw [hkd] at k0
      rw [hxn] at k1
      rw [hxt] at k2
      rw [hxv] at k3
      rw [hlt5, hxa, hxc] at k4
      clear hx hkd hxn hxt hxv hlt5 hxa hxc
      obtain ⟨hb5, hs5, -⟩ := box1 w4 #[.int .i64 kd, .int .i64 xn, .int .u64 (xt : Int), .int .i64 xv, .slice xa lt xc] 70
      have HB5 := Lib.hid (HB.out.trans (hb5.mono HB.out.size))
      obtain ⟨NF, hNF⟩ : ∃ NF, w4.heap.size = NF := ⟨_, rfl⟩
      rw [hNF] at hs5
      have HS5 := Lib.hid hs5
      clear hb5 hs5 HB
      go_upto_region 4 with fail
      try rw [hNF]
      clear hNF k0 k1 k2 k3 k4
      generalize w4.alloc (.cells #[.int .i64 kd, .int .i64 xn, .int .u64 (xt : Int), .int .i64 xv, .slice xa lt xc] 70) = w5 at HS5 HB5 ⊢
      have x4 : w5.cell? ⟨NF, 4, none⟩ = some (.slice xa lt xc) := by simp [World.cell?, HS5.out]
      by_cases hc3 : 40 < lt
      · have dc30 : decide (((lt : Nat) : Int) > 40) = true := decide_eq_true (by omega)
        have dc31 : decide (40 < ((lt : Nat) : Int)) = true := decide_eq_true (by omega)
        have dc32 : decide (40 < lt) = true := decide_eq_true (by omega)
        go_wp2_with fail
        go_ret
        exact ⟨false, rfl, (fun h => by cases h), HB5.out⟩
      · have dc30 : decide (((lt : Nat) : Int) > 40) = false := decide_eq_false (by omega)
        have dc31 : decide (40 < ((lt : Nat) : Int)) = false := decide_eq_false (by omega)
        have dc32 : decide (40 < lt) = false := decide_eq_false (by omega)
        clear hc3
        go_wp2_with fail
        go_roundg (n - (i + 1))
        case measure => omega
        case rel => exact ⟨i + 1, by rw [HWI.out]; rfl, by omega, by omega, HB5⟩
    · have hltz : ¬ (i : Int) < (n : Int) := by omega
      obtain rfl : i = n := by omega
      clear hi hk
      by_cases h200 : i ≤ 120
      · have d0 : decide ((i : Int) ≤ 120) = true := decide_eq_true (by omega)
        have d1 : decide (i ≤ 120) = true := decide_eq_true h200
        have H200 := Lib.hid h200
        clear h200
        go_wp2_with fail
        go_ret
        exact .inr ⟨rfl, H200.out, HB.out⟩
      · have d0 : decide ((i : Int) ≤ 120) = false := decide_eq_false (by omega)
        have d1 : decide (i ≤ 120) = false := decide_eq_false h200
        clear h200
        go_wp2_with fail
        go_ret
        exact .inl ⟨rfl, HB.out⟩
set_option maxRecDepth 100000 in
set_option maxHeartbeats 8000000 in
theorem ov_cells {H : Type} {enc : TypeId × Value → H} {w : World} {base : Nat} {sp : Nat → Bool} {held : Bool} {fuel : Nat} {cs : List Value} {x : DataW H × List MemPlace}
    (h : DataW.trod enc Try.prog w base sp held fuel 70 cs = some x) :
    ∃ y : Ov, cs = [.int .i64 y.kd, .int .i64 y.n, .int .u64 (y.t : Int), .int .i64 y.v, .slice y.a y.ts.length y.c] ∧ OvOk y ∧ TRow (fun k => w.heap.size ≤ k) w y.a y.ts := by
  obtain ⟨xs, n, _, _, hlen, hxl, hg⟩ := DataW.trod_struct Try.underlying70 h
  have c9 : Try.prog.cellsOf 70 = 5 := by kernel_rfl
  have t1 : Try.prog.cellsOf 3 = 1 := by kernel_rfl
  have t3 : Try.prog.cellsOf 55 = 1 := by kernel_rfl
  rw [c9] at hlen
  match cs, hlen with
  | [c0, c1, c2, c3, c4], _ =>
    have g0 := hg 0 _ rfl
    have g1 := hg 1 _ rfl
    have g2 := hg 2 _ rfl
    have g3 := hg 3 _ rfl
    simp [t1, cellsSt, t3] at g0 g1 g2 g3
    have hx9 : xs.length = 4 := hxl
    rw [List.getElem?_eq_getElem (by omega)] at g0 g1 g2 g3
    obtain ⟨kd, e0, _, _⟩ := DataW.trod_int Try.underlying3 g0
    obtain ⟨nn, e1, _, wn⟩ := DataW.trod_int Try.underlying3 g1
    obtain ⟨xt, xv, e2⟩ := st_cells g2
    simp only [List.cons.injEq, and_true] at e0 e1 e2
    obtain ⟨e2, e3⟩ := e2
    subst e0 e1 e2 e3
    obtain ⟨a, c, ts, e5, htr, hle, hwf⟩ := tears_in g3
    simp only [List.cons.injEq, and_true] at e5
    subst e5
    have bn := st_wfI wn
    exact ⟨⟨kd, nn, xt, xv, ts, a, c⟩, rfl, ⟨⟨bn.1, by show nn < _; omega⟩, hwf, hle⟩, htr⟩
/-- A row of calls, as it comes in. -/
def OpsV (w : World) (a : Option Addr) (n : Nat) (O : Nat → Ov) : Prop := n ≤ maxLen ∧ VRow w.heap.size w a n O
theorem ov_five : Try.prog.cellsOf 70 = 5 := by kernel_rfl
set_option maxRecDepth 100000 in
theorem ovs_in {H : Type} {enc : TypeId × Value → H} {w : World} {base : Nat} {sp : Nat → Bool} {held : Bool} {fuel : Nat} {a : Option Addr} {n cap : Nat} {x : DataW H × List MemPlace}
    (h : DataW.trod enc Try.prog w base sp held fuel 67 (Value.slice a n cap).cells.toList = some x) : ∃ O, OpsV w a n O := by
  rcases Deep.open_slice Try.underlying67 h with ⟨hcs, _⟩ | ⟨x, l, c, m, nn, D, Pl, hcs, _, hl, hm, hmm, _, hi⟩
  · simp [Value.cells] at hcs
    obtain ⟨rfl, rfl, rfl⟩ := hcs
    exact ⟨fun _ => default, by unfold maxLen; omega, fun i hi => absurd hi (Nat.not_lt_zero _)⟩
  · simp [Value.cells] at hcs
    obtain ⟨rfl, rfl, rfl⟩ := hcs
    have hlm : n ≤ m := by rw [hmm]; split <;> omega
    have hex : 0 < n → x = ⟨x.block, x.off, none⟩ ∧ x.block < w.heap.size := by
      intro h0
      obtain ⟨cs', hc, ht⟩ := hi 0 (by omega)
      obtain ⟨y, rfl, _⟩ := ov_cells ht
      rw [ov_five] at hc
      obtain ⟨_, hcl, hat⟩ := World.cells?_some hc
      have e00 := cell_spot ((hat 0 (by omega)).trans (List.getElem?_cons_zero))
      have e0 := e00.1
      have e1 := e00.2
      rw [Deep.add_add] at e0 e1
      refine ⟨?_, by simpa [Addr.add] using e1⟩
      cases x; simp [Addr.add] at e0; simp [e0]
    have key : ∀ i, i < n → ∃ y : Ov, OvOk y ∧ TRow (fun k => w.heap.size ≤ k) w y.a y.ts ∧ OvAt w x.block (x.off + i * 5) y := by
      intro i hil
      obtain ⟨cs', hc, ht⟩ := hi i (by omega)
      obtain ⟨y, rfl, h1, h2⟩ := ov_cells ht
      rw [ov_five] at hc
      obtain ⟨_, hcl, hat⟩ := World.cells?_some hc
      have ex := (hex (by omega)).1
      refine ⟨y, h1, h2, ?_⟩
      have hj : ∀ j (hj : j < 5), w.cell? ⟨x.block, x.off + i * 5 + j, none⟩ = ([.int .i64 y.kd, .int .i64 y.n, .int .u64 (y.t : Int), .int .i64 y.v, .slice y.a y.ts.length y.c] : List Value)[j]? := by
        intro j hj
        have h1 := hat j hj
        rw [Deep.add_add, ex, add_at, ← Nat.add_assoc] at h1
        exact h1
      exact ⟨hj 0 (by omega), hj 1 (by omega), hj 2 (by omega), hj 3 (by omega), hj 4 (by omega)⟩
    obtain ⟨f, hf⟩ := Deep.choose_lt key
    refine ⟨f, by unfold maxLen at *; omega, fun k hk => ?_⟩
    obtain ⟨e1, e2⟩ := hex (by omega)
    exact ⟨(hf k hk).1, (hf k hk).2.1, x.block, x.off, by rw [← e1], e2, e2, (hf k hk).2.2⟩
end Go.Proofs.Ythefnakbpalecaa
