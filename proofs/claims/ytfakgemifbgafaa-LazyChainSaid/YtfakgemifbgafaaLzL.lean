/- A chain of cells, asked for the first time: each cell below is made once. -/
import Derived.Test.YtfakgemifbgafaaLzK
namespace Go.Proofs.Ytfakgemifbgafaa
open Go.RowKit

/-- What the cells of a chain have: the exclusive or of all up to there. -/
def upXor (z : Nat → Int) : Nat → Int
  | 0 => z 0
  | i + 1 => bits .xor .i64 (z (i + 1)) (upXor z i)

/-- Where a chain lies, and that its places are apart. -/
structure Apart (pc pl ps lb ab sb : Nat) (vi cb : Nat → Nat) : Prop where
  a1 : ¬ ab = lb
  a2 : ¬ ab = pl
  a3 : ∀ i, ¬ ab = vi i
  a4 : ¬ ab = ps
  a5 : ¬ ab = sb
  a6 : ¬ ab = pc
  b : ∀ i, ¬ cb i = lb ∧ ¬ cb i = pl ∧ ¬ cb i = ps ∧ ¬ cb i = sb ∧ ¬ cb i = pc ∧ ¬ cb i = ab ∧ ∀ j, ¬ cb i = vi j
  inj : ∀ i j, cb i = cb j → i = j

/-- What of a chain no call turns. -/
structure Chn (pc pl ps lb lo ab sb n c c' c'' : Nat) (z : Nat → Int) (vi cb : Nat → Nat) (w : World) : Prop where
  l : w.cell? ⟨pl, 0, none⟩ = some (.slice (some ⟨lb, lo, none⟩) n c)
  calls : w.cell? ⟨pc, 0, none⟩ = some (.slice (some ⟨ab, 0, none⟩) n c')
  cells : w.cell? ⟨ps, 0, none⟩ = some (.slice (some ⟨sb, 0, none⟩) n c'')
  lz : ∀ i, i < n → w.cell? ⟨lb, lo + i, none⟩ = some (.int .i64 (z i))
  slot : ∀ i, i < n → w.cell? ⟨sb, i, none⟩ = some (.pointer (some ⟨cb i, 0, none⟩))
  ix : ∀ i, i < n → w.cell? ⟨vi i, 0, none⟩ = some (.int .i64 i)
  free : ∀ i, w.frozen? ⟨ab, i, none⟩ = false

theorem Chn.kept {pc pl ps lb lo ab sb n c c' c'' : Nat} {z : Nat → Int} {vi cb : Nat → Nat} {w w' : World} (A : Apart pc pl ps lb ab sb vi cb) (C : Chn pc pl ps lb lo ab sb n c c' c'' z vi cb w)
    (h : ∀ b o x, ¬ b = ab → (∀ j, ¬ b = cb j) → w.cell? ⟨b, o, none⟩ = some x → w'.cell? ⟨b, o, none⟩ = some x) (hf : ∀ i, w'.frozen? ⟨ab, i, none⟩ = w.frozen? ⟨ab, i, none⟩) : Chn pc pl ps lb lo ab sb n c c' c'' z vi cb w' :=
  ⟨h _ _ _ (fun e => A.a2 e.symm) (fun j e => (A.b j).2.1 e.symm) C.l, h _ _ _ (fun e => A.a6 e.symm) (fun j e => (A.b j).2.2.2.2.1 e.symm) C.calls, h _ _ _ (fun e => A.a4 e.symm) (fun j e => (A.b j).2.2.1 e.symm) C.cells,
   fun i hi => h _ _ _ (fun e => A.a1 e.symm) (fun j e => (A.b j).1 e.symm) (C.lz i hi), fun i hi => h _ _ _ (fun e => A.a5 e.symm) (fun j e => (A.b j).2.2.2.1 e.symm) (C.slot i hi),
   fun i hi => h _ _ _ (fun e => A.a3 i e.symm) (fun j e => (A.b j).2.2.2.2.2.2 i e.symm) (C.ix i hi), fun i => (hf i).trans (C.free i)⟩

/-- The function of cell i. -/
def link (pc pl ps : Nat) (vi : Nat → Nat) (i : Nat) : Value := .func (.func 13) #[] #[.pointer (some ⟨pc, 0, none⟩), .pointer (some ⟨vi i, 0, none⟩), .pointer (some ⟨pl, 0, none⟩), .pointer (some ⟨ps, 0, none⟩)]

set_option maxRecDepth 100000 in
set_option maxHeartbeats 1600000 in
theorem chain_get {pc pl ps lb lo ab sb n c c' c'' : Nat} {z : Nat → Int} {vi cb : Nat → Nat} (A : Apart pc pl ps lb ab sb vi cb) (hn : n ≤ 100) : ∀ (i : Nat) (w : World), i < n → Chn pc pl ps lb lo ab sb n c c' c'' z vi cb w →
    (∀ j, j ≤ i → Cel (cb j) (link pc pl ps vi j) 0 0 0 0 w ∧ w.cell? ⟨ab, j, none⟩ = some (.int .i64 0)) →
    Calls Try.prog 14 #[.pointer (some ⟨cb i, 0, none⟩)] w fun e w' => e = .returned (.int .i64 (upXor z i)) ∧ Only (fun k => k = ab ∨ ∃ j, j ≤ i ∧ k = cb j) w w' ∧ (∀ j, w'.frozen? ⟨ab, j, none⟩ = false) ∧
      (∀ j, j ≤ i → Cel (cb j) .nilFunc 1 (upXor z j) 1 1 w' ∧ w'.cell? ⟨ab, j, none⟩ = some (.int .i64 1)) ∧ ∀ j, i < j → w'.cell? ⟨ab, j, none⟩ = w.cell? ⟨ab, j, none⟩
  | 0, w, hi, C, F => by
    obtain ⟨C0, F0⟩ := F 0 (Nat.le_refl _)
    have O := atBuild_only (cb 0) 1 w
    have old : ∀ b o x, ¬ b = cb 0 → w.cell? ⟨b, o, none⟩ = some x → (atBuild (cb 0) 1 w).cell? ⟨b, o, none⟩ = some x := fun b o x hne hx => (O.cell (lt_of_cell hx) hne).trans hx
    have hab : ¬ ab = cb 0 := fun e => (A.b 0).2.2.2.2.2.1 e.symm
    have hf : ∀ j, (atBuild (cb 0) 1 w).frozen? ⟨ab, j, none⟩ = false := fun j => (World.frozen?_of_block (a := ⟨ab, j, none⟩) (O.block ab (lt_of_cell (a := ⟨ab, 0, none⟩) F0) hab)).trans (C.free j)
    have C1 : Chn pc pl ps lb lo ab sb n c c' c'' z vi cb (atBuild (cb 0) 1 w) := C.kept A (fun b o x _ h2 hx => old b o x (h2 0) hx) (fun j => (hf j).trans (C.free j).symm)
    have r := chain_zero pc (vi 0) pl ps lb lo ab n c c' 0 1 (z 0) (atBuild (cb 0) 1 w) hi C1.l C1.calls (C1.ix 0 hi) (old _ _ _ hab F0) (C1.lz 0 hi) (hf 0) (by simp [wrap64]) A.a1 A.a2 (A.a3 0)
    have g := get_fn 13 _ (cb 0) 0 (z 0) 0 0 1 w (fun w2 => w2 = (atBuild (cb 0) 1 w).setCell ⟨ab, 0, none⟩ (.int .i64 1)) (by simp [wrap64]) (fun _ => by first | rfl | kernel_rfl | simp [go_sem]) C0
      (r.mono (by
        rintro e w' ⟨rfl, rfl⟩
        exact ⟨rfl, Below.heap_setCell _ _ _ _ (fun e => hab (by first | exact e | exact e.symm)), rfl⟩))
    refine g.mono ?_
    rintro e w' ⟨rfl, C2, w2, rfl, P, _⟩
    have lt : ab < ((atBuild (cb 0) 1 w).setCell ⟨ab, 0, none⟩ (.int .i64 1)).heap.size := by simpa [atBuild_size] using lt_of_cell (a := ⟨ab, 0, none⟩) F0
    refine ⟨rfl, ((O.more fun k hk => .inr ⟨0, Nat.le_refl _, hk⟩).setCell ⟨ab, 0, none⟩ _ (.inl rfl)).trans (P.more fun k hk => .inr ⟨0, Nat.le_refl _, hk⟩), fun j => ?_, fun j hj => ?_, fun j hj => ?_⟩
    · exact (World.frozen?_of_block (a := ⟨ab, j, none⟩) (P.block ab lt hab)).trans (by simpa using hf j)
    · obtain rfl : j = 0 := by omega
      exact ⟨C2, (World.cell?_of_block (a := ⟨ab, 0, none⟩) (P.block ab lt hab)).trans (World.cell?_setCell_same _ _ _ (old _ _ _ hab F0))⟩
    · refine (World.cell?_of_block (a := ⟨ab, j, none⟩) (P.block ab lt hab)).trans ?_
      refine (World.cell?_setCell_other _ ⟨ab, 0, none⟩ ⟨ab, j, none⟩ _ (fun e => by injection e with e1 e2; omega)).trans ?_
      exact World.cell?_of_block (a := ⟨ab, j, none⟩) (O.block ab (lt_of_cell (a := ⟨ab, 0, none⟩) F0) hab)
  | i + 1, w, hi, C, F => by
    obtain ⟨C0, F0⟩ := F (i + 1) (Nat.le_refl _)
    have O := atBuild_only (cb (i + 1)) 1 w
    have old : ∀ b o x, ¬ b = cb (i + 1) → w.cell? ⟨b, o, none⟩ = some x → (atBuild (cb (i + 1)) 1 w).cell? ⟨b, o, none⟩ = some x := fun b o x hne hx => (O.cell (lt_of_cell hx) hne).trans hx
    have hab : ¬ ab = cb (i + 1) := fun e => (A.b (i + 1)).2.2.2.2.2.1 e.symm
    have hl : ab < w.heap.size := lt_of_cell (a := ⟨ab, i + 1, none⟩) F0
    have hf : ∀ j, (atBuild (cb (i + 1)) 1 w).frozen? ⟨ab, j, none⟩ = false := fun j => (World.frozen?_of_block (a := ⟨ab, j, none⟩) (O.block ab hl hab)).trans (C.free j)
    have C1 : Chn pc pl ps lb lo ab sb n c c' c'' z vi cb (atBuild (cb (i + 1)) 1 w) := C.kept A (fun b o x _ h2 hx => old b o x (h2 (i + 1)) hx) (fun j => (hf j).trans (C.free j).symm)
    obtain ⟨w1, hw1⟩ : ∃ w1, ((atBuild (cb (i + 1)) 1 w).setCell ⟨ab, i + 1, none⟩ (.int .i64 1)).drew = w1 := ⟨_, rfl⟩
    have O1 : Only (fun k => k = ab ∨ k = cb (i + 1)) w w1 := by
      rw [← hw1]
      exact ((O.more fun k hk => .inr hk).setCell ⟨ab, i + 1, none⟩ _ (.inl rfl)).drew
    have hf1 : ∀ j, w1.frozen? ⟨ab, j, none⟩ = false := by
      intro j
      rw [← hw1]
      simpa using hf j
    have hb1 : w1.heap[cb (i + 1)]? = (atBuild (cb (i + 1)) 1 w).heap[cb (i + 1)]? := by
      rw [← hw1]
      exact Below.heap_setCell _ _ _ _ (fun e => hab (by first | exact e | exact e.symm))
    have c1 : w1.cell? ⟨ab, i + 1, none⟩ = some (.int .i64 1) := by
      rw [← hw1, World.cell?_drew]
      exact World.cell?_setCell_same _ _ _ (old _ _ _ hab F0)
    have s1 : ∀ j, ¬ j = i + 1 → w1.cell? ⟨ab, j, none⟩ = w.cell? ⟨ab, j, none⟩ := by
      intro j hj
      rw [← hw1, World.cell?_drew]
      refine (World.cell?_setCell_other _ ⟨ab, i + 1, none⟩ ⟨ab, j, none⟩ _ (fun e => by injection e with e1 e2; omega)).trans ?_
      exact World.cell?_of_block (a := ⟨ab, j, none⟩) (O.block ab hl hab)
    have C2 : Chn pc pl ps lb lo ab sb n c c' c'' z vi cb w1 := C.kept A (fun b o x h1 h2 hx => (O1.cell (lt_of_cell hx) (fun h => h.elim h1 (h2 _))).trans hx) (fun j => (hf1 j).trans (C.free j).symm)
    have G := chain_get A hn i w1 (by omega) C2 (fun j hj => by
      obtain ⟨Cj, Fj⟩ := F j (by omega)
      exact ⟨Cj.of_block (O1.block _ (lt_of_cell Cj.build) (fun h => h.elim (A.b j).2.2.2.2.2.1 (fun e => by have := A.inj _ _ e; omega))), (s1 j (by omega)).trans Fj⟩)
    have r := chain_succ pc (vi (i + 1)) pl ps lb lo ab sb (cb i) n c c' c'' i 0 1 (z (i + 1)) (upXor z i) (atBuild (cb (i + 1)) 1 w)
      (fun w2 => w2.heap[cb (i + 1)]? = (atBuild (cb (i + 1)) 1 w).heap[cb (i + 1)]? ∧ Only (fun k => k = ab ∨ ∃ j, j ≤ i + 1 ∧ k = cb j) w w2 ∧ (∀ j, w2.frozen? ⟨ab, j, none⟩ = false) ∧
        (∀ j, j ≤ i → Cel (cb j) .nilFunc 1 (upXor z j) 1 1 w2 ∧ w2.cell? ⟨ab, j, none⟩ = some (.int .i64 1)) ∧ w2.cell? ⟨ab, i + 1, none⟩ = some (.int .i64 1) ∧ ∀ j, i + 1 < j → w2.cell? ⟨ab, j, none⟩ = w.cell? ⟨ab, j, none⟩)
      hi hn C1.l C1.calls C1.cells (C1.slot i (by omega)) (C1.ix (i + 1) hi) (old _ _ _ hab F0) (C1.lz (i + 1) hi) (hf _) (by simp [wrap64]) A.a1 A.a2 (A.a3 _) A.a4 A.a5
      (by
        rw [hw1]
        refine G.mono ?_
        rintro e w' ⟨rfl, OG, fG, jG, sG⟩
        have C3 : Chn pc pl ps lb lo ab sb n c c' c'' z vi cb w' := C2.kept A (fun b o x h1 h2 hx => (OG.cell (lt_of_cell hx) (fun h => h.elim h1 (fun ⟨j, _, e⟩ => h2 j e))).trans hx) (fun j => (fG j).trans (hf1 j).symm)
        refine ⟨rfl, ⟨C3.l, C3.ix (i + 1) hi, C3.lz (i + 1) hi, C3.cells, C3.slot i (by omega)⟩, ?_, ?_, fG, jG, (sG _ (by omega)).trans c1, fun j hj => (sG j (by omega)).trans (s1 j (by omega))⟩
        · refine (OG.block _ (Nat.lt_of_lt_of_le (lt_of_cell C0.build) O1.size) (fun h => h.elim (A.b _).2.2.2.2.2.1 (fun ⟨j, hj, e⟩ => by have := A.inj _ _ e; omega))).trans hb1
        · exact (O1.more fun k hk => hk.imp id fun e => ⟨i + 1, Nat.le_refl _, e⟩).trans (OG.more fun k hk => hk.imp id fun ⟨j, hj, e⟩ => ⟨j, by omega, e⟩))
    have g := get_fn 13 _ (cb (i + 1)) 0 (upXor z (i + 1)) 0 0 1 w
      (fun w2 => w2.heap[cb (i + 1)]? = (atBuild (cb (i + 1)) 1 w).heap[cb (i + 1)]? ∧ Only (fun k => k = ab ∨ ∃ j, j ≤ i + 1 ∧ k = cb j) w w2 ∧ (∀ j, w2.frozen? ⟨ab, j, none⟩ = false) ∧
        (∀ j, j ≤ i → Cel (cb j) .nilFunc 1 (upXor z j) 1 1 w2 ∧ w2.cell? ⟨ab, j, none⟩ = some (.int .i64 1)) ∧ w2.cell? ⟨ab, i + 1, none⟩ = some (.int .i64 1) ∧ ∀ j, i + 1 < j → w2.cell? ⟨ab, j, none⟩ = w.cell? ⟨ab, j, none⟩)
      (by simp [wrap64]) (fun _ => by first | rfl | kernel_rfl | simp [go_sem]) C0
      (r.mono fun e w' h => ⟨h.1, h.2.1, h.2⟩)
    refine g.mono ?_
    rintro e w' ⟨rfl, C4, w2, ⟨_, O2, f2, j2, c2, s2⟩, P, _⟩
    have lt : ab < w2.heap.size := lt_of_cell (a := ⟨ab, i + 1, none⟩) c2
    have pc2 : ∀ j, w'.cell? ⟨ab, j, none⟩ = w2.cell? ⟨ab, j, none⟩ := fun j => World.cell?_of_block (a := ⟨ab, j, none⟩) (P.block ab lt hab)
    refine ⟨rfl, O2.trans (P.more fun k hk => .inr ⟨i + 1, Nat.le_refl _, hk⟩), fun j => (World.frozen?_of_block (a := ⟨ab, j, none⟩) (P.block ab lt hab)).trans (f2 j), fun j hj => ?_, fun j hj => (pc2 j).trans (s2 j hj)⟩
    by_cases h : j = i + 1
    · subst h
      exact ⟨C4, (pc2 _).trans c2⟩
    · obtain ⟨Cj, Fj⟩ := j2 j (by omega)
      exact ⟨Cj.of_block (P.block _ (lt_of_cell Cj.build) (fun e => h (A.inj _ _ e))), (pc2 j).trans Fj⟩
end Go.Proofs.Ytfakgemifbgafaa
