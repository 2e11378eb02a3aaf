/- The law's calls: how they lie in memory, how they come in; Light. -/
import Derived.Test.YthkjjpkipeeimaaDoD
import Derived.Deep.Slices
import Derived.ProofKit
import Derived.ChangeOld
import Derived.WideShapes
import Derived.OpenShut
namespace Go.Proofs.Ythkjjpkipeeimaa
open Go.RowKit Go.Maps
structure Oq where
  (kd n : Int)
  (nm tt tx : List UInt8)
  (ts : List (Nat × Nat))
  (a : Option Addr)
  (c : Nat)
instance : Inhabited Oq := ⟨⟨0, 0, [], [], [], [], none, 0⟩⟩
def Oq.bs (x : Oq) : List Nat := x.tx.map UInt8.toNat
theorem enc_bs (tx : List UInt8) : encStr tx = .string (str (tx.map UInt8.toNat)) := by
  show Value.string ⟨tx.toArray⟩ = Value.string ⟨((tx.map UInt8.toNat).map UInt8.ofNat).toArray⟩
  rw [List.map_map]
  congr 3
  exact (List.map_id'' (fun c => by simp) tx).symm
theorem Oq.bs_lt (x : Oq) : ∀ c ∈ x.bs, c < 256 := fun c hc => by
  obtain ⟨b, -, rfl⟩ := List.mem_map.1 hc
  exact b.toNat_lt
theorem Oq.bs_len (x : Oq) : x.bs.length = x.tx.length := by unfold Oq.bs; rw [List.length_map]
/-- What a call may lean on. -/
structure OqOk (x : Oq) : Prop where
  n1 : -9223372036854775808 ≤ x.n ∧ x.n < 9223372036854775808
  wf : ∀ t ∈ x.ts, t.1 < 65536 ∧ t.2 < 4294967296
  le : x.ts.length ≤ x.c
/-- A call's six cells, from a place on; its tears lie below B0. -/
structure OqAt (B0 : Nat) (w : World) (b o : Nat) (x : Oq) : Prop where
  c0 : w.cell? ⟨b, o, none⟩ = some (.int .i64 x.kd)
  c1 : w.cell? ⟨b, o + 1, none⟩ = some (.int .i64 x.n)
  c2 : w.cell? ⟨b, o + 2, none⟩ = some (encStr x.nm)
  c3 : w.cell? ⟨b, o + 3, none⟩ = some (encStr x.tt)
  c4 : w.cell? ⟨b, o + 4, none⟩ = some (encStr x.tx)
  c5 : w.cell? ⟨b, o + 5, none⟩ = some (.slice x.a x.ts.length x.c)
theorem OqAt.below {B0 : Nat} {w w' : World} {b o : Nat} {x : Oq} (h : OqAt B0 w b o x) (hb : Below w.heap.size w w') : OqAt B0 w' b o x := by
  have k : ∀ i v, w.cell? ⟨b, i, none⟩ = some v → w'.cell? ⟨b, i, none⟩ = some v := fun i v hv => (hb.cell (p := ⟨b, i, none⟩) (cell_spot hv).2).trans hv
  exact ⟨k _ _ h.c0, k _ _ h.c1, k _ _ h.c2, k _ _ h.c3, k _ _ h.c4, k _ _ h.c5⟩
/-- A row of calls below B0. -/
def ORow (B0 : Nat) (w : World) (a : Option Addr) (n : Nat) (O : Nat → Oq) : Prop := ∀ i, i < n → OqOk (O i) ∧ TRow (fun k => B0 ≤ k) w (O i).a (O i).ts ∧ ∃ b o, a = some ⟨b, o, none⟩ ∧ b < B0 ∧ b < w.heap.size ∧ OqAt B0 w b (o + i * 6) (O i)
theorem TRow.blb {B0 : Nat} {w w' : World} {a : Option Addr} {ts : List (Nat × Nat)} (h : TRow (fun k => B0 ≤ k) w a ts) (hb : Below B0 w w') : TRow (fun k => B0 ≤ k) w' a ts := fun i hi => by
  obtain ⟨b, o, e, h1, h2, h3, h4⟩ := h i hi
  have hlt : b < B0 := Nat.lt_of_not_le h2
  exact ⟨b, o, e, Nat.lt_of_lt_of_le h1 hb.size, h2, (hb.cell (p := ⟨b, _, none⟩) hlt).trans h3, (hb.cell (p := ⟨b, _, none⟩) hlt).trans h4⟩
theorem ORow.below {B0 : Nat} {w w' : World} {a : Option Addr} {n : Nat} {O : Nat → Oq} (h : ORow B0 w a n O) (hb : Below B0 w w') : ORow B0 w' a n O := fun i hi => by
  obtain ⟨h1, h2, b, o, e, h3, h4, h5⟩ := h i hi
  have k : ∀ j v, w.cell? ⟨b, j, none⟩ = some v → w'.cell? ⟨b, j, none⟩ = some v := fun j v hv => (hb.cell (p := ⟨b, j, none⟩) h3).trans hv
  exact ⟨h1, h2.blb hb, b, o, e, h3, Nat.lt_of_lt_of_le h4 hb.size, k _ _ h5.c0, k _ _ h5.c1, k _ _ h5.c2, k _ _ h5.c3, k _ _ h5.c4, k _ _ h5.c5⟩
/-- What Light lets through. -/
def LightO (n : Nat) (O : Nat → Oq) : Prop := n ≤ 200 ∧ ∀ k, k < n → (O k).tx.length ≤ 2000 ∧ (O k).nm.length ≤ 100 ∧ (O k).tt.length ≤ 100 ∧ (O k).ts.length ≤ 40
theorem enc_sz (n : List UInt8) : ∃ s : ByteArray, encStr n = .string s ∧ s.size = n.length := ⟨⟨n.toArray⟩, rfl, by show n.toArray.size = _; simp⟩
set_option maxRecDepth 100000 in
set_option maxHeartbeats 8000000 in
theorem light_any (B0 : Nat) (a : Option Addr) (n c : Nat) (O : Nat → Oq) (w : World) (h : ORow B0 w a n O) (hB : B0 ≤ w.heap.size) (hn : n ≤ maxLen) : Calls Try.prog 12 #[.slice a n c] w fun e w' => ∃ b, e = .returned (.bool b) ∧ (b = true → LightO n O) ∧ Below w.heap.size w w' := by
  have HR := Lib.hid h
  have HBZ := Lib.hid hB
  have HNN := Lib.hid hn
  clear h hB hn
  go_enter Try.func12, Try.ntmps12
  go_wp2_with fail
  go_loopg [7] n (fun kx s7 wr => ∃ (i : Nat), s7 = .int .i64 (i : Int) ∧ i ≤ n ∧ n - i ≤ kx ∧ Hid (∀ k, k < i → (O k).tx.length ≤ 2000 ∧ (O k).nm.length ≤ 100 ∧ (O k).tt.length ≤ 100 ∧ (O k).ts.length ≤ 40) ∧ Hid (Below w.heap.size w wr))
  case atStart => exact ⟨0, rfl, by omega, by omega, Lib.hid (fun k h => absurd h (Nat.not_lt_zero _)), Lib.hid (Below.refl _ _)⟩
  case round =>
    obtain ⟨i, rfl, hi, hk, HL, HB⟩ := hrel
    obtain ⟨w4, rfl⟩ : ∃ W, W = wr := ⟨_, rfl⟩
    by_cases hlt : i < n
    · have hltz : (i : Int) < (n : Int) := by omega
      have hi0 : (0 : Int) ≤ (i : Int) := by omega
      have HWI : Hid (wrap64 ((i : Int) + 1) = (i : Int) + 1) := Lib.hid (IntWalk.wrap64_in _ (by have h := HNN.out; unfold maxLen at h; omega))
      obtain ⟨-, -, b, o, rfl, -, -, k0, k1, k2, k3, k4, k5⟩ := (HR.out.below (HB.out.mono HBZ.out)) i hlt
      obtain ⟨x, hx⟩ : ∃ x, O i = x := ⟨_, rfl⟩
      rw [hx] at k0 k1 k2 k3 k4 k5
      have HX := Lib.hid hx
      obtain ⟨s2, e2, z2⟩ := enc_sz x.nm
      obtain ⟨s3, e3, z3⟩ := enc_sz x.tt
      obtain ⟨s4, e4, z4⟩ := enc_sz x.tx
      rw [e2] at k2
      rw [e3] at k3
      rw [e4] at k4
      obtain ⟨kd, hkd⟩ : ∃ kd, x.kd = kd := ⟨_, rfl⟩
      obtain ⟨xn, hxn⟩ : ∃ xn, x.n = xn := ⟨_, rfl⟩
      obtain ⟨lt, hlt5⟩ : ∃ lt, x.ts.length = lt := ⟨_, rfl⟩
      obtain ⟨xa, hxa⟩ : ∃ xa, x.a = xa := ⟨_, rfl⟩
      obtain ⟨xc, hxc⟩ : ∃ xc, x.c = xc := ⟨_, rfl⟩
      rw [hkd] at k0
      rw [hxn] at k1
      rw [hlt5, hxa, hxc] at k5
      obtain ⟨l2, hl2⟩ : ∃ l2, x.nm.length = l2 := ⟨_, rfl⟩
      obtain ⟨l3, hl3⟩ : ∃ l3, x.tt.length = l3 := ⟨_, rfl⟩
      obtain ⟨l4, hl4⟩ : ∃ l4, x.tx.length = l4 := ⟨_, rfl⟩
      rw [hl2] at z2
      rw [hl3] at z3
      rw [hl4] at z4
      have HZ2 := Lib.hid hl2
      have HZ3 := Lib.hid hl3
      have HZ4 := Lib.hid hl4
      have HZ5 := Lib.hid hlt5
      clear hx e2 e3 e4 hkd hxn hlt5 hxa hxc hl2 hl3 hl4
      obtain ⟨hb5, hs5, -⟩ := box1 w4 #[.int .i64 kd, .int .i64 xn, .string s2, .string s3, .string s4, .slice xa lt xc] 34
      have HB5 := Lib.hid (HB.out.trans (hb5.mono HB.out.size))
      obtain ⟨NF, hNF⟩ : ∃ NF, w4.heap.size = NF := ⟨_, rfl⟩
      rw [hNF] at hs5
      have HS5 := Lib.hid hs5
      clear hb5 hs5 HB
      go_upto_region 4 with fail
      try rw [hNF]
      clear hNF k0 k1 k2 k3 k4 k5
      generalize w4.alloc (.cells #[.int .i64 kd, .int .i64 xn, .string s2, .string s3, .string s4, .slice xa lt xc] 34) = w5 at HS5 HB5 ⊢
      have x2 : w5.cell? ⟨NF, 2, none⟩ = some (.string s2) := by simp [World.cell?, HS5.out]
      have x3 : w5.cell? ⟨NF, 3, none⟩ = some (.string s3) := by simp [World.cell?, HS5.out]
      have x4 : w5.cell? ⟨NF, 4, none⟩ = some (.string s4) := by simp [World.cell?, HS5.out]
      have x5 : w5.cell? ⟨NF, 5, none⟩ = some (.slice xa lt xc) := by simp [World.cell?, HS5.out]
      by_cases hc0 : 2000 < l4
      · have dc00 : decide (((l4 : Nat) : Int) > 2000) = true := decide_eq_true (by omega)
        have dc01 : decide (2000 < ((l4 : Nat) : Int)) = true := decide_eq_true (by omega)
        have dc02 : decide (2000 < l4) = true := decide_eq_true (by omega)
        go_wp2_with fail
        go_ret
        exact ⟨false, rfl, (fun h => by cases h), HB5.out⟩
      · have dc00 : decide (((l4 : Nat) : Int) > 2000) = false := decide_eq_false (by omega)
        have dc01 : decide (2000 < ((l4 : Nat) : Int)) = false := decide_eq_false (by omega)
        have dc02 : decide (2000 < l4) = false := decide_eq_false (by omega)
        by_cases hc1 : 100 < l2
        · have dc10 : decide (((l2 : Nat) : Int) > 100) = true := decide_eq_true (by omega)
          have dc11 : decide (100 < ((l2 : Nat) : Int)) = true := decide_eq_true (by omega)
          have dc12 : decide (100 < l2) = true := decide_eq_true (by omega)
          go_wp2_with fail
          go_ret
          exact ⟨false, rfl, (fun h => by cases h), HB5.out⟩
        · have dc10 : decide (((l2 : Nat) : Int) > 100) = false := decide_eq_false (by omega)
          have dc11 : decide (100 < ((l2 : Nat) : Int)) = false := decide_eq_false (by omega)
          have dc12 : decide (100 < l2) = false := decide_eq_false (by omega)
          by_cases hc2 : 100 < l3
          · have dc20 : decide (((l3 : Nat) : Int) > 100) = true := decide_eq_true (by omega)
            have dc21 : decide (100 < ((l3 : Nat) : Int)) = true := decide_eq_true (by omega)
            have dc22 : decide (100 < l3) = true := decide_eq_true (by omega)
            go_wp2_with fail
            go_ret
            exact ⟨false, rfl, (fun h => by cases h), HB5.out⟩
          · have dc20 : decide (((l3 : Nat) : Int) > 100) = false := decide_eq_false (by omega)
            have dc21 : decide (100 < ((l3 : Nat) : Int)) = false := decide_eq_false (by omega)
            have dc22 : decide (100 < l3) = false := decide_eq_false (by omega)
            by_cases hc3 : 40 < lt
            · have dc30 : decide (((lt : Nat) : Int) > 40) = true := decide_eq_true (by omega)
              have dc31 : decide (40 < ((lt : Nat) : Int)) = true := decide_eq_true (by omega)
              have dc32 : decide (40 < lt) = true := decide_eq_true (by omega)
              go_wp2_with fail
              go_ret
              exact ⟨false, rfl, (fun h => by cases h), HB5.out⟩
            · have dc30 : decide (((lt : Nat) : Int) > 40) = false := decide_eq_false (by omega)
              have dc31 : decide (40 < ((lt : Nat) : Int)) = false := decide_eq_false (by omega)
              have dc32 : decide (40 < lt) = false := decide_eq_false (by omega)
              have HL2 : Hid (∀ k, k < i + 1 → (O k).tx.length ≤ 2000 ∧ (O k).nm.length ≤ 100 ∧ (O k).tt.length ≤ 100 ∧ (O k).ts.length ≤ 40) := Lib.hid (fun k hk => by
                by_cases e : k = i
                · subst e
                  rw [HX.out, HZ2.out, HZ3.out, HZ4.out, HZ5.out]
                  omega
                · exact HL.out k (by omega))
              clear hc0 hc1 hc2 hc3
              go_wp2_with fail
              go_roundg (n - (i + 1))
              case measure => omega
              case rel => exact ⟨i + 1, by rw [HWI.out]; rfl, by omega, by omega, HL2, HB5⟩
    · have hltz : ¬ (i : Int) < (n : Int) := by omega
      obtain rfl : i = n := by omega
      clear hi hk
      by_cases h200 : i ≤ 200
      · have d0 : decide ((i : Int) ≤ 200) = true := decide_eq_true (by omega)
        have d1 : decide (i ≤ 200) = true := decide_eq_true h200
        have H200 := Lib.hid h200
        clear h200
        go_wp2_with fail
        go_ret
        exact .inr ⟨rfl, ⟨H200.out, HL.out⟩, HB.out⟩
      · have d0 : decide ((i : Int) ≤ 200) = false := decide_eq_false (by omega)
        have d1 : decide (i ≤ 200) = false := decide_eq_false h200
        clear h200
        go_wp2_with fail
        go_ret
        exact .inl ⟨rfl, HB.out⟩
theorem bnd_u16 {n : Int} (h : (Lit.int .u16 n).wf = true) : 0 ≤ n ∧ n < 65536 := by
  simp [Lit.wf, IntKind.min, IntKind.max, IntKind.signed, IntKind.bits] at h
  omega
theorem bnd_u32 {n : Int} (h : (Lit.int .u32 n).wf = true) : 0 ≤ n ∧ n < 4294967296 := by
  simp [Lit.wf, IntKind.min, IntKind.max, IntKind.signed, IntKind.bits] at h
  omega
theorem cells_tear : Try.prog.cellsOf 109 = 2 ∧ Try.prog.cellsOf 77 = 1 ∧ Try.prog.cellsOf 78 = 1 := ⟨by kernel_rfl, by kernel_rfl, by kernel_rfl⟩
set_option maxRecDepth 100000 in
theorem tear_cells {H : Type} {enc : TypeId × Value → H} {w : World} {base : Nat} {sp : Nat → Bool} {held : Bool} {fuel : Nat} {cs : List Value} {x : DataW H × List MemPlace}
    (h : DataW.trod enc Try.prog w base sp held fuel 109 cs = some x) :
    ∃ f t : Nat, cs = [.int .u16 (f : Int), .int .u32 (t : Int)] ∧ f < 65536 ∧ t < 4294967296 := by
  obtain ⟨xs, n, _, _, hlen, hxl, hg⟩ := DataW.trod_struct Try.underlying109 h
  obtain ⟨z1, z2, z3⟩ := cells_tear
  rw [z1] at hlen
  match cs, hlen with
  | [c0, c1], _ =>
    have g0 := hg 0 _ rfl
    have g1 := hg 1 _ rfl
    simp [z2, z3] at g0 g1
    have hx2 : xs.length = 2 := hxl
    rw [List.getElem?_eq_getElem (by omega)] at g0 g1
    obtain ⟨f, e0, _, w0⟩ := DataW.trod_int Try.underlying77 g0
    obtain ⟨t, e1, _, w1⟩ := DataW.trod_int Try.underlying78 g1
    simp only [List.cons.injEq, and_true] at e0 e1
    subst e0 e1
    have b0 := bnd_u16 w0
    have b1 := bnd_u32 w1
    exact ⟨f.toNat, t.toNat, by rw [Int.toNat_of_nonneg b0.1, Int.toNat_of_nonneg b1.1], by omega, by omega⟩
set_option maxRecDepth 100000 in
theorem tears_in {H : Type} {enc : TypeId × Value → H} {w : World} {base : Nat} {sp : Nat → Bool} {held : Bool} {fuel : Nat} {cs : List Value} {x : DataW H × List MemPlace}
    (h : DataW.trod enc Try.prog w base sp held fuel 32 cs = some x) : ∃ (a : Option Addr) (c : Nat) (ts : List (Nat × Nat)), cs = [.slice a ts.length c] ∧ TRow (fun k => w.heap.size ≤ k) w a ts ∧ ts.length ≤ c ∧ ∀ t ∈ ts, t.1 < 65536 ∧ t.2 < 4294967296 := by
  rcases Deep.open_slice Try.underlying32 h with ⟨hcs, _⟩ | ⟨x, l, c, m, nn, D, Pl, hcs, _, hl, hm, hmm, _, hi⟩
  · exact ⟨none, 0, [], hcs, fun i hi => absurd hi (Nat.not_lt_zero _), Nat.le_refl _, fun t ht => by cases ht⟩
  · have hlm : l ≤ m := by rw [hmm]; split <;> omega
    obtain ⟨z1, -, -⟩ := cells_tear
    have hex : 0 < l → x = ⟨x.block, x.off, none⟩ ∧ x.block < w.heap.size := by
      intro h0
      obtain ⟨cs', hc, ht⟩ := hi 0 (by omega)
      obtain ⟨_, _, rfl, _⟩ := tear_cells ht
      rw [z1] at hc
      obtain ⟨_, hcl, hat⟩ := World.cells?_some hc
      have e00 := cell_spot ((hat 0 (by omega)).trans (List.getElem?_cons_zero))
      have e0 := e00.1
      have e1 := e00.2
      rw [Deep.add_add] at e0 e1
      refine ⟨?_, by simpa [Addr.add] using e1⟩
      cases x; simp [Addr.add] at e0; simp [e0]
    have key : ∀ i, i < l → ∃ y : Nat × Nat, w.cell? ⟨x.block, x.off + i * 2, none⟩ = some (.int .u16 (y.1 : Int)) ∧ w.cell? ⟨x.block, x.off + i * 2 + 1, none⟩ = some (.int .u32 (y.2 : Int)) ∧ y.1 < 65536 ∧ y.2 < 4294967296 := by
      intro i hil
      obtain ⟨cs', hc, ht⟩ := hi i (by omega)
      obtain ⟨f, t, rfl, wf, wt⟩ := tear_cells ht
      rw [z1] at hc
      obtain ⟨_, hcl, hat⟩ := World.cells?_some hc
      have ex := (hex (by omega)).1
      refine ⟨⟨f, t⟩, ?_, ?_, wf, wt⟩
      · have h1 := hat 0 (by omega)
        rw [Deep.add_add, ex, add_at, ← Nat.add_assoc] at h1
        exact h1
      · have h1 := hat 1 (by omega)
        rw [Deep.add_add, ex, add_at, ← Nat.add_assoc] at h1
        exact h1
    obtain ⟨f, hf⟩ := Deep.choose_lt key
    refine ⟨some x, c, (List.range l).map f, by rw [hcs, List.length_map, List.length_range], fun i hi2 => ?_, by rw [List.length_map, List.length_range]; omega, fun t ht => ?_⟩
    · rw [List.length_map, List.length_range] at hi2
      obtain ⟨e1, e2⟩ := hex (by omega)
      have h1 := hf i hi2
      simp only [List.getElem_map, List.getElem_range]
      exact ⟨x.block, x.off, by rw [← e1], e2, Nat.not_le_of_lt e2, h1.1, h1.2.1⟩
    · obtain ⟨i, hi2, rfl⟩ := List.mem_map.1 ht
      have h1 := hf i (List.mem_range.1 hi2)
      exact h1.2.2
theorem enc_str (s : ByteArray) : Value.string s = encStr s.data.toList := rfl
set_option maxRecDepth 100000 in
set_option maxHeartbeats 8000000 in
theorem oq_cells {H : Type} {enc : TypeId × Value → H} {w : World} {base : Nat} {sp : Nat → Bool} {held : Bool} {fuel : Nat} {cs : List Value} {x : DataW H × List MemPlace}
    (h : DataW.trod enc Try.prog w base sp held fuel 34 cs = some x) :
    ∃ y : Oq, cs = [.int .i64 y.kd, .int .i64 y.n, encStr y.nm, encStr y.tt, encStr y.tx, .slice y.a y.ts.length y.c] ∧ OqOk y ∧ TRow (fun k => w.heap.size ≤ k) w y.a y.ts := by
  obtain ⟨xs, n, _, _, hlen, hxl, hg⟩ := DataW.trod_struct Try.underlying34 h
  have c9 : Try.prog.cellsOf 34 = 6 := by kernel_rfl
  have t1 : Try.prog.cellsOf 3 = 1 := by kernel_rfl
  have t2 : Try.prog.cellsOf 9 = 1 := by kernel_rfl
  have t3 : Try.prog.cellsOf 32 = 1 := by kernel_rfl
  rw [c9] at hlen
  match cs, hlen with
  | [c0, c1, c2, c3, c4, c5], _ =>
    have g0 := hg 0 _ rfl
    have g1 := hg 1 _ rfl
    have g2 := hg 2 _ rfl
    have g3 := hg 3 _ rfl
    have g4 := hg 4 _ rfl
    have g5 := hg 5 _ rfl
    simp [t1, t2, t3] at g0 g1 g2 g3 g4 g5
    have hx9 : xs.length = 6 := hxl
    rw [List.getElem?_eq_getElem (by omega)] at g0 g1 g2 g3 g4 g5
    obtain ⟨kd, e0, _, _⟩ := DataW.trod_int Try.underlying3 g0
    obtain ⟨nn, e1, _, wn⟩ := DataW.trod_int Try.underlying3 g1
    obtain ⟨nm, e2, _, _⟩ := DataW.trod_string Try.underlying9 g2
    obtain ⟨tt, e3, _, _⟩ := DataW.trod_string Try.underlying9 g3
    obtain ⟨tx, e4, _, _⟩ := DataW.trod_string Try.underlying9 g4
    simp only [List.cons.injEq, and_true] at e0 e1 e2 e3 e4
    subst e0 e1 e2 e3 e4
    obtain ⟨a, c, ts, e5, htr, hle, hwf⟩ := tears_in g5
    simp only [List.cons.injEq, and_true] at e5
    subst e5
    have bn := bounds_i64 wn
    exact ⟨⟨kd, nn, nm.data.toList, tt.data.toList, tx.data.toList, ts, a, c⟩, rfl, ⟨⟨bn.1, by show nn < _; omega⟩, hwf, hle⟩, htr⟩
/-- A call by value, as it comes in. -/
def OqV (y : Oq) : Value := .agg #[.int .i64 y.kd, .int .i64 y.n, encStr y.nm, encStr y.tt, encStr y.tx, .slice y.a y.ts.length y.c]
def OqIn (w : World) (y : Oq) : Prop := OqOk y ∧ TRow (fun k => w.heap.size ≤ k) w y.a y.ts
set_option maxRecDepth 100000 in
theorem oq_in {H : Type} {enc : TypeId × Value → H} {w : World} {base b0 : Nat} {sp : Nat → Bool} {held : Bool} {v : Value} {dd : DataW H} {p : List MemPlace}
    (hv : Value.okWide Try.prog w .any b0 34 v) (h : DataW.Trod enc Try.prog w base sp held 34 v dd p) : ∃ y, v = OqV y ∧ OqIn w y := by
  obtain ⟨cs, rfl, -⟩ := Go.WideShapes.okWide_struct Try.underlying34 hv
  obtain ⟨fuel, hf⟩ := h
  obtain ⟨y, e, h1, h2⟩ := oq_cells (show DataW.trod enc Try.prog w base sp held fuel 34 cs.toList = some (dd, p) from hf)
  have e2 : cs = #[.int .i64 y.kd, .int .i64 y.n, encStr y.nm, encStr y.tt, encStr y.tx, .slice y.a y.ts.length y.c] := by
    cases cs
    simp only at e
    rw [e]
  exact ⟨y, by rw [e2]; rfl, h1, h2⟩
/-- A row of calls, as it comes in. -/
def OpsD (w : World) (a : Option Addr) (n : Nat) (O : Nat → Oq) : Prop := n ≤ maxLen ∧ ORow w.heap.size w a n O
theorem oq_six : Try.prog.cellsOf 34 = 6 := by kernel_rfl
set_option maxRecDepth 100000 in
theorem oqs_in {H : Type} {enc : TypeId × Value → H} {w : World} {base : Nat} {sp : Nat → Bool} {held : Bool} {fuel : Nat} {a : Option Addr} {n cap : Nat} {x : DataW H × List MemPlace}
    (h : DataW.trod enc Try.prog w base sp held fuel 22 (Value.slice a n cap).cells.toList = some x) : ∃ O, OpsD w a n O := by
  rcases Deep.open_slice Try.underlying22 h with ⟨hcs, _⟩ | ⟨x, l, c, m, nn, D, Pl, hcs, _, hl, hm, hmm, _, hi⟩
  · simp [Value.cells] at hcs
    obtain ⟨rfl, rfl, rfl⟩ := hcs
    exact ⟨fun _ => default, by unfold maxLen; omega, fun i hi => absurd hi (Nat.not_lt_zero _)⟩
  · simp [Value.cells] at hcs
    obtain ⟨rfl, rfl, rfl⟩ := hcs
    have hlm : n ≤ m := by rw [hmm]; split <;> omega
    have hex : 0 < n → x = ⟨x.block, x.off, none⟩ ∧ x.block < w.heap.size := by
      intro h0
      obtain ⟨cs', hc, ht⟩ := hi 0 (by omega)
      obtain ⟨y, rfl, _⟩ := oq_cells ht
      rw [oq_six] at hc
      obtain ⟨_, hcl, hat⟩ := World.cells?_some hc
      have e00 := cell_spot ((hat 0 (by omega)).trans (List.getElem?_cons_zero))
      have e0 := e00.1
      have e1 := e00.2
      rw [Deep.add_add] at e0 e1
      refine ⟨?_, by simpa [Addr.add] using e1⟩
      cases x; simp [Addr.add] at e0; simp [e0]
    have key : ∀ i, i < n → ∃ y : Oq, OqOk y ∧ TRow (fun k => w.heap.size ≤ k) w y.a y.ts ∧ OqAt w.heap.size w x.block (x.off + i * 6) y := by
      intro i hil
      obtain ⟨cs', hc, ht⟩ := hi i (by omega)
      obtain ⟨y, rfl, h1, h2⟩ := oq_cells ht
      rw [oq_six] at hc
      obtain ⟨_, hcl, hat⟩ := World.cells?_some hc
      have ex := (hex (by omega)).1
      refine ⟨y, h1, h2, ?_⟩
      have hj : ∀ j (hj : j < 6), w.cell? ⟨x.block, x.off + i * 6 + j, none⟩ = ([.int .i64 y.kd, .int .i64 y.n, encStr y.nm, encStr y.tt, encStr y.tx, .slice y.a y.ts.length y.c] : List Value)[j]? := by
        intro j hj
        have h1 := hat j hj
        rw [Deep.add_add, ex, add_at, ← Nat.add_assoc] at h1
        exact h1
      exact ⟨hj 0 (by omega), hj 1 (by omega), hj 2 (by omega), hj 3 (by omega), hj 4 (by omega), hj 5 (by omega)⟩
    obtain ⟨f, hf⟩ := Deep.choose_lt key
    refine ⟨f, by unfold maxLen at *; omega, fun k hk => ?_⟩
    obtain ⟨e1, e2⟩ := hex (by omega)
    exact ⟨(hf k hk).1, (hf k hk).2.1, x.block, x.off, by rw [← e1], e2, e2, (hf k hk).2.2⟩
end Go.Proofs.Ythkjjpkipeeimaa
