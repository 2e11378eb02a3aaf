/- A ring's Put. -/
import Derived.Test.YtfclmbneimbmnaaDoorRgC
import Derived.Deep.RegionLaw
namespace Go.Proofs.YtfclmbneimbmnaaDoor
open Go.RowKit Go.MapKept Go.ChangeMaps

/-- The rows of a ring's slots: V, with the things S; one's own, and apart. -/
structure Rw (w : World) (base r b : Nat) (V : Nat → Value) (S : Nat → List Th) : Prop where
  row : ∀ k, k < 64 → OT w base (V k) (S k)
  ring : ∀ k g, k < 64 → (V k).ownBlock = some g → g ≠ r ∧ g ≠ b
  apart : ∀ j k g, j < 64 → k < 64 → (V j).ownBlock = some g → (V k).ownBlock = some g → j = k

theorem Rw.below {w w' : World} {base r b : Nat} {V : Nat → Value} {S : Nat → List Th} (h : Rw w base r b V S) (hb : Below w.heap.size w w') : Rw w' base r b V S :=
  ⟨fun k hk => (h.row k hk).keep fun g hg => hb.block g ((h.row k hk).lt hg), h.ring, h.apart⟩

def upd {α : Type} (f : Nat → α) (s : Nat) (v : α) : Nat → α := fun k => if k = s then v else f k

theorem has_yes (s : Nat) (hs : s < 64) (w : World) : Calls Tryd.prog 109 #[.int .i64 s] w fun e w' => e = .returned (.bool true) ∧ w' = w := by
  have h := has_any s w
  rw [decide_eq_true (show 0 ≤ (s : Int) ∧ (s : Int) < 64 by omega)] at h
  exact h

theorem OT.shape {w : World} {base : Nat} {v : Value} {l : List Th} (h : OT w base v l) : ∃ a c, v = .slice a l.length c := by
  rcases h.2 with ⟨rfl, h0⟩ | ⟨g, cap, cur, rfl, _⟩
  · exact ⟨none, 0, by rw [h0]⟩
  · exact ⟨_, _, rfl⟩

theorem turned_below {w w' : World} {b : Nat} (h : w.mapTurned w' b) : ∀ X : Nat → Prop, X b → Only X w w' := by
  obtain ⟨es, clock, es', clock', hb, rfl⟩ := h
  intro X hX
  refine ⟨rfl, rfl, rfl, by simp [setBlock], fun k hk hx => ?_⟩
  exact heap_setBlock_other hb _ (fun e => hx (by first | (rw [e]; exact hX) | (rw [← e]; exact hX)))

theorem grown_only {w w' : World} {row : Option Nat} (h : w.grownBy w' row) (X : Nat → Prop) (hX : ∀ k, row = some k → X k) : Only X w w' :=
  ⟨h.os, h.tape, h.output, h.size, fun k hk hx => h.block k hk (fun e => hx (hX k e.symm))⟩

theorem Only.cell {X : Nat → Prop} {w w' : World} (h : Only X w w') {p : Addr} (hp : p.block < w.heap.size) (hx : ¬ X p.block) : w'.cell? p = w.cell? p := World.cell?_of_block (h.block _ hp hx)
theorem Only.frozen {X : Nat → Prop} {w w' : World} (h : Only X w w') {p : Addr} (hp : p.block < w.heap.size) (hx : ¬ X p.block) : w'.frozen? p = w.frozen? p := World.frozen?_of_block (h.block _ hp hx)
theorem Only.more {X Y : Nat → Prop} {a b : World} (h : Only X a b) (hxy : ∀ k, X k → Y k) : Only Y a b := ⟨h.os, h.tape, h.output, h.size, fun k hk hy => h.block k hk fun hx => hy (hxy k hx)⟩

theorem cell_beside (w : World) (r s k : Nat) (v : Value) (h : k ≠ s) : (w.setCell ⟨r, s, none⟩ v).cell? ⟨r, k, none⟩ = w.cell? ⟨r, k, none⟩ :=
  World.cell?_setCell_other w _ _ v (fun e => h (by injection e with e1 e2; first | exact e2.symm | exact e2))

theorem put_done {w W1 W2 W3 WA W4 : World} {r b c base s : Nat} {V : Nat → Value} {M : Int → Option (Nat × Nat)} {S : Nat → List Th} {t : Th} {v' : Value}
    (bW : Below w.heap.size w W1) (b12 : Below W1.heap.size W1 W2) (o23 : Only (fun k => k = b) W2 W3) (b3A : Below W3.heap.size W3 WA) (oA4 : Only (fun k => (V s).ownBlock = some k) WA W4)
    (g : Rg W3 r b c V M) (R : Rw W3 base r b V S) (hs : s < 64) (hO4 : OT W4 base v' (S s ++ [t])) (hob : v'.ownBlock = (V s).ownBlock ∨ v'.ownBlock = some WA.heap.size) (hrb : r ≠ b) (hsz : w.heap.size ≤ W3.heap.size) :
    ∃ V', Rg (W4.setCell ⟨r, s, none⟩ v') r b c V' M ∧ Rw (W4.setCell ⟨r, s, none⟩ v') base r b V' (upd S s (S s ++ [t])) ∧ Only (fun k => k = r ∨ k = b ∨ (V s).ownBlock = some k) w (W4.setCell ⟨r, s, none⟩ v') ∧ ∀ k q, k < 64 → (V' k).ownBlock = some q → (V k).ownBlock = some q ∨ w.heap.size ≤ q := by
  have gA := g.below b3A
  have RA := R.below b3A
  have hr3 : r < W3.heap.size := by have := cell_lt g.map; exact this
  have hb3 : b < W3.heap.size := g.pl.lt
  have hrA : r < WA.heap.size := Nat.lt_of_lt_of_le hr3 b3A.size
  have hbA : b < WA.heap.size := Nat.lt_of_lt_of_le hb3 b3A.size
  have nr : ¬ (V s).ownBlock = some r := fun h => (RA.ring s r hs h).1 rfl
  have nb : ¬ (V s).ownBlock = some b := fun h => (RA.ring s b hs h).2 rfl
  have h5 : ∀ k, k ≠ r → (W4.setCell ⟨r, s, none⟩ v').heap[k]? = W4.heap[k]? := fun k hk => Below.heap_setCell _ _ _ _ (fun e => hk (by first | exact e | exact e.symm))
  have own' : ∀ q, v'.ownBlock = some q → q ≠ r ∧ q ≠ b := fun q hq => by
    rcases hob with e | e
    · rw [e] at hq; exact RA.ring s q hs hq
    · rw [e] at hq; injection hq with hq; omega
  have c4 : ∀ o, W4.cell? ⟨r, o, none⟩ = WA.cell? ⟨r, o, none⟩ := fun o => oA4.cell (p := ⟨r, o, none⟩) hrA nr
  have f4 : ∀ o, W4.frozen? ⟨r, o, none⟩ = WA.frozen? ⟨r, o, none⟩ := fun o => oA4.frozen (p := ⟨r, o, none⟩) hrA nr
  have hold : (W4.cell? ⟨r, s, none⟩).isSome = true := by rw [c4, gA.slot s hs]; rfl
  refine ⟨upd V s v', ⟨fun k hk => ?_, fun k hk => ?_, ?_, ?_⟩, ⟨fun k hk => ?_, fun k q hk hq => ?_, fun j k q hj hk hjq hkq => ?_⟩, ?_, fun k q hk hq => ?_⟩
  · unfold upd
    by_cases e : k = s
    · subst e; rw [if_pos rfl]; exact World.cell?_setCell_same' _ _ _ hold
    · rw [if_neg e, cell_beside _ _ _ _ _ e, c4]; exact gA.slot k hk
  · rw [World.frozen?_setCell, f4]; exact gA.fro k hk
  · rw [cell_beside _ _ _ _ _ (show 64 ≠ s by omega), c4]; exact gA.map
  · exact gA.pl.block ((h5 b (Ne.symm hrb)).trans (oA4.block b hbA nb))
  · unfold upd
    by_cases e : k = s
    · subst e
      rw [if_pos rfl, if_pos rfl]
      exact hO4.keep fun q hq => h5 q (own' q hq).1
    · rw [if_neg e, if_neg e]
      exact (RA.row k hk).keep fun q hq => (h5 q (RA.ring k q hk hq).1).trans (oA4.block q ((RA.row k hk).lt hq) (fun hsq => e (RA.apart k s q hk hs hq hsq)))
  · unfold upd at hq
    by_cases e : k = s
    · rw [if_pos e] at hq; exact own' q hq
    · rw [if_neg e] at hq; exact RA.ring k q hk hq
  · unfold upd at hjq hkq
    have key : ∀ k, k < 64 → k ≠ s → (V k).ownBlock = some q → v'.ownBlock = some q → False := fun k hk hks h1 h2 => by
      rcases hob with e | e
      · rw [e] at h2; exact hks (RA.apart k s q hk hs h1 h2)
      · rw [e] at h2; injection h2 with h2; have := (RA.row k hk).lt h1; omega
    by_cases e : j = s
    · by_cases e2 : k = s
      · omega
      · rw [if_pos e] at hjq; rw [if_neg e2] at hkq; exact (key k hk e2 hkq hjq).elim
    · by_cases e2 : k = s
      · rw [if_neg e] at hjq; rw [if_pos e2] at hkq; exact (key j hj e hjq hkq).elim
      · rw [if_neg e] at hjq; rw [if_neg e2] at hkq; exact RA.apart j k q hj hk hjq hkq
  · have o1 : Only (fun k => k = r ∨ k = b ∨ (V s).ownBlock = some k) w W1 := Only.below bW
    have o2 : Only (fun k => k = r ∨ k = b ∨ (V s).ownBlock = some k) W1 W2 := Only.below b12
    have o3 : Only (fun k => k = r ∨ k = b ∨ (V s).ownBlock = some k) W2 W3 := o23.more (fun k hk => Or.inr (Or.inl hk))
    have o4 : Only (fun k => k = r ∨ k = b ∨ (V s).ownBlock = some k) W3 WA := Only.below b3A
    have o5 : Only (fun k => k = r ∨ k = b ∨ (V s).ownBlock = some k) WA W4 := oA4.more (fun k hk => Or.inr (Or.inr hk))
    exact ((((o1.trans o2).trans o3).trans o4).trans o5).setCell _ _ (Or.inl rfl)
  · unfold upd at hq
    by_cases e : k = s
    · subst e
      rw [if_pos rfl] at hq
      rcases hob with e | e
      · rw [e] at hq; exact .inl hq
      · rw [e] at hq; injection hq with hq; have := b3A.size; exact .inr (by omega)
    · rw [if_neg e] at hq; exact .inl hq

set_option maxRecDepth 100000 in
set_option maxHeartbeats 4000000 in
theorem put_anyF {r b c base s : Nat} {V : Nat → Value} {M : Int → Option (Nat × Nat)} {S : Nat → List Th} (x y z : Int) (w : World) (h : Rg w r b c V M) (hR : Rw w base r b V S) (hs : s < 64) (hx : 0 ≤ x ∧ x < 18446744073709551616) (hM : M x = none)
    (hc : c < 1000000000) (hl : (S s).length < 1000000000) (hbase : base ≤ w.heap.size) (hrb : r ≠ b) :
    Calls Tryd.prog 66 #[.pointer (some ⟨r, 0, none⟩), .int .i64 s, .agg #[.int .u64 x, .int .u64 y, .int .i64 z]] w fun e w' => e = .returned (.int .i64 0) ∧
      ∃ V', Rg w' r b (c + 1) V' (updM M x (some (s, (S s).length))) ∧ Rw w' base r b V' (upd S s (S s ++ [(x, y, z)])) ∧ Only (fun k => k = r ∨ k = b ∨ (V s).ownBlock = some k) w w' ∧ ∀ k q, k < 64 → (V' k).ownBlock = some q → (V k).ownBlock = some q ∨ w.heap.size ≤ q := by
  obtain ⟨W1, hW1⟩ : ∃ W1, w.alloc (.cells #[.int .u64 x, .int .u64 y, .int .i64 z] 27) = W1 := ⟨_, rfl⟩
  have hB1 : Below w.heap.size w W1 := by rw [← hW1]; exact (Below.refl _ _).alloc (Nat.le_refl _) _
  have h1 := h.below hB1
  have hR1 := hR.below hB1
  have hT : W1.cell? ⟨w.heap.size, 0, none⟩ = some (.int .u64 x) ∧ W1.cell? ⟨w.heap.size, 1, none⟩ = some (.int .u64 y) ∧ W1.cell? ⟨w.heap.size, 2, none⟩ = some (.int .i64 z) := by rw [← hW1]; simp
  have hTr : w.heap.size ≠ r ∧ w.heap.size ≠ b := ⟨by have := cell_lt h.map; simp at this; omega, by have := h.pl.lt; omega⟩
  have hsz : W1.heap.size = w.heap.size + 1 := by rw [← hW1]; simp
  have hOld : ∀ g, (V s).ownBlock = some g → g < w.heap.size := fun g hg => (hR.row s hs).lt hg
  have HO : Hid (Below w.heap.size w W1) := hB1
  clear hB1
  obtain ⟨T, hTe⟩ : ∃ T, w.heap.size = T := ⟨_, rfl⟩
  have hcr := created_yes r b W1 h1.map
  have hha := has_yes s hs W1
  have hs0 : (0 : Int) ≤ (s : Int) := by omega
  have hs64 : (s : Int) < 64 := by omega
  obtain ⟨va, vc, hV⟩ := (hR1.row s hs).shape
  have HSX : Hid (∀ w', Below W1.heap.size W1 w' → w'.cell? ⟨r, 64, none⟩ = some (.map (some b)) ∧ w'.cell? ⟨T, 0, none⟩ = some (.int .u64 x) ∧ (Instr.lookup 137 (.map (some b)) (.int .u64 x) true).run Tryd.prog w' = .ok (.tuple #[.agg #[.int .i64 0, .int .i64 0], .bool false]) w') := fun w' hb =>
    ⟨(hb.cell (p := ⟨r, 64, none⟩) (cell_lt h1.map)).trans h1.map, (hb.cell (p := ⟨T, 0, none⟩) (by show T < W1.heap.size; omega)).trans (by rw [← hTe]; exact hT.1), (h1.pl.block (hb.block _ h1.pl.lt)).look_none hx hM⟩
  have HT := Lib.hid hT
  have HC := Lib.hid (And.intro h1 hR1)
  have H0 := Lib.hid h
  have HR0 := Lib.hid hR
  have HO2 := Lib.hid hOld
  have HM := Lib.hid hM
  have HTr := Lib.hid hTr
  clear hT h1 hR1 h hR hOld hM hTr
  go_enter Tryd.func66, Tryd.ntmps66
  go_wp2_with (first
    | (go_at_call 77; refine hcr.mono ?_; rintro e w1 ⟨rfl, rfl⟩)
    | (go_at_call 109; refine hha.mono ?_; rintro e w1 ⟨rfl, rfl⟩))
  clear hcr hha hW1
  go_region_held3 (fun w' => w'.cell? ⟨r, 64, none⟩ = some (.map (some b)) ∧ w'.cell? ⟨T, 0, none⟩ = some (.int .u64 x) ∧ (Instr.lookup 137 (.map (some b)) (.int .u64 x) true).run Tryd.prog w' = .ok (.tuple #[.agg #[.int .i64 0, .int .i64 0], .bool false]) w')
    (first
      | exact HSX.out _ (Below.refl _ _).drew
      | exact HSX.out _ ((Below.refl _ _).drew.alloc (Nat.le_refl _) _)
      | exact HSX.out _ (((Below.refl _ _).drew.alloc (Nat.le_refl _) _).setCell (Nat.le_refl _) _)
      | exact HSX.out _ ((((Below.refl _ _).drew.alloc (Nat.le_refl _) _).setCell (Nat.le_refl _) _).setCell (Nat.le_refl _) _)
      | assumption) (fail)
  all_goals
    have hB2 : Below w1.heap.size w1 (w1.alloc (.cells #[.int .i64 0, .int .i64 0] 182)).drew := ((Below.refl _ _).alloc (Nat.le_refl _) _).drew
    have hsz2 : (w1.alloc (.cells #[.int .i64 0, .int .i64 0] 182)).drew.heap.size = T + 2 := by simp; omega
    generalize (w1.alloc (.cells #[.int .i64 0, .int .i64 0] 182)).drew = W2 at hB2 hsz2 ⊢
    have h2 := HC.out.1.below hB2
    have hR2 := HC.out.2.below hB2
    have tB : T < w1.heap.size := by omega
    have T0 : W2.cell? ⟨T, 0, none⟩ = some (.int .u64 x) := (hB2.cell (p := ⟨T, 0, none⟩) tB).trans (by rw [← hTe]; exact HT.out.1)
    have T1 : W2.cell? ⟨T, 1, none⟩ = some (.int .u64 y) := (hB2.cell (p := ⟨T, 1, none⟩) tB).trans (by rw [← hTe]; exact HT.out.2.1)
    have T2 : W2.cell? ⟨T, 2, none⟩ = some (.int .i64 z) := (hB2.cell (p := ⟨T, 2, none⟩) tB).trans (by rw [← hTe]; exact HT.out.2.2)
    have c64 := h2.map
    have cS := h2.slot s hs
    rw [hV] at cS
    obtain ⟨W3, hup, P3, ht3⟩ := (show Pl W2.drew b c M from h2.pl).put hx (by unfold maxLen; omega) s (S s).length
    rw [HM.out] at P3
    simp only [Option.isSome_none, Bool.false_eq_true, if_false] at P3
    unfold plV tMp at hup
    have o3 : Only (fun k => k = b) W2 W3 := ((Only.refl _ W2).drew).trans (turned_below ht3 _ rfl)
    have hrW : r < W2.heap.size := by have := cell_lt c64; exact this
    have hTb : T ≠ b := by have := HTr.out.2; omega
    have hTr : T ≠ r := by have := HTr.out.1; omega
    have d64 : W3.cell? ⟨r, 64, none⟩ = some (.map (some b)) := (o3.cell (p := ⟨r, 64, none⟩) hrW hrb).trans c64
    have dS : W3.cell? ⟨r, s, none⟩ = some (.slice va (S s).length vc) := (o3.cell (p := ⟨r, s, none⟩) hrW hrb).trans cS
    have dT0 : W3.cell? ⟨T, 0, none⟩ = some (.int .u64 x) := (o3.cell (p := ⟨T, 0, none⟩) (by show T < _; omega) hTb).trans T0
    have dT1 : W3.cell? ⟨T, 1, none⟩ = some (.int .u64 y) := (o3.cell (p := ⟨T, 1, none⟩) (by show T < _; omega) hTb).trans T1
    have dT2 : W3.cell? ⟨T, 2, none⟩ = some (.int .i64 z) := (o3.cell (p := ⟨T, 2, none⟩) (by show T < _; omega) hTb).trans T2
    have H3 : Hid (Rg W3 r b (c + 1) V (updM M x (some (s, (S s).length))) ∧ Rw W3 base r b V S ∧ Only (fun k => k = b) W2 W3 ∧ Below w1.heap.size w1 W2) := ⟨⟨fun k hk => (o3.cell (p := ⟨r, k, none⟩) hrW hrb).trans (h2.slot k hk), fun k hk => (o3.frozen (p := ⟨r, k, none⟩) hrW hrb).trans (h2.fro k hk), d64, P3⟩,
      ⟨fun k hk => (hR2.row k hk).keep fun g hg => o3.block g ((hR2.row k hk).lt hg) (hR2.ring k g hk hg).2, hR2.ring, hR2.apart⟩, o3, hB2⟩
    clear h2 hR2 P3 ht3 o3 hB2
    have l0 : (0 : Int) ≤ ((S s).length : Int) := by omega
    go_wp2_with fail
    go_region_held3 (fun w' => w'.cell? ⟨r, 64, none⟩ = some (.map (some b)) ∧ w'.cell? ⟨r, s, none⟩ = some (.slice va (S s).length vc) ∧ w'.cell? ⟨T, 0, none⟩ = some (.int .u64 x)) (first | exact ⟨c64, cS, T0⟩ | exact ⟨d64, dS, dT0⟩ | assumption) (fail)
  all_goals
    clear c64 cS T0 T1 T2 hup HSX HT
    go_wp2_with fail
    have hrW3 : r < W3.heap.size := by have := cell_lt d64; exact this
    have hTW3 : T < W3.heap.size := by have := cell_lt dT0; exact this
    obtain ⟨WA, hWA⟩ : ∃ WA, W3.drew.alloc (.cells #[.int .u64 x, .int .u64 y, .int .i64 z] 27) = WA := ⟨_, rfl⟩
    have bA : Below W3.heap.size W3 WA := by rw [← hWA]; exact (Below.refl _ _).drew.alloc (Nat.le_refl _) _
    have szA : WA.heap.size = W3.heap.size + 1 := by rw [← hWA]; simp
    have n0 : WA.cell? ⟨W3.heap.size, 0, none⟩ = some (.int .u64 x) ∧ WA.cell? ⟨W3.heap.size, 1, none⟩ = some (.int .u64 y) ∧ WA.cell? ⟨W3.heap.size, 2, none⟩ = some (.int .i64 z) := by
      rw [← hWA]
      exact ⟨World.cell?_alloc_at _ _ _ _ rfl, World.cell?_alloc_at _ _ _ _ rfl, World.cell?_alloc_at _ _ _ _ rfl⟩
    have hRA := H3.out.2.1.below bA
    have hGA := H3.out.1.below bA
    have szw : w.heap.size ≤ W3.heap.size := by have := HO.out.size; have := H3.out.2.2.2.size; have := H3.out.2.2.1.size; omega
    obtain ⟨v', W4, happ, hO4, hg4, ⟨a', c', rfl⟩, hob⟩ := append_th (hRA.row s hs) (x, y, z) W3.heap.size n0.1 n0.2.1 n0.2.2 hl (by omega) 22
    have own4 : ∀ g, (V s).ownBlock = some g → g ≠ r ∧ g ≠ b ∧ g ≠ T := fun g hg => ⟨(hRA.ring s g hs hg).1, (hRA.ring s g hs hg).2, by have := HO2.out g hg; omega⟩
    have o4 : Only (fun k => (V s).ownBlock = some k) WA W4 := grown_only hg4 _ (fun k hk => hk)
    have aS := (bA.cell (p := ⟨r, s, none⟩) hrW3).trans dS
    have aT0 := (bA.cell (p := ⟨T, 0, none⟩) hTW3).trans dT0
    have aT1 := (bA.cell (p := ⟨T, 1, none⟩) hTW3).trans dT1
    have aT2 := (bA.cell (p := ⟨T, 2, none⟩) hTW3).trans dT2
    have nr : ¬ (V s).ownBlock = some r := fun h => (own4 r h).1 rfl
    have nT : ¬ (V s).ownBlock = some T := fun h => (own4 T h).2.2 rfl
    have nb : ¬ (V s).ownBlock = some b := fun h => (own4 b h).2.1 rfl
    have eS := (o4.cell (p := ⟨r, s, none⟩) (by show r < _; omega) nr).trans aS
    have eT0 := (o4.cell (p := ⟨T, 0, none⟩) (by show T < _; omega) nT).trans aT0
    have eT1 := (o4.cell (p := ⟨T, 1, none⟩) (by show T < _; omega) nT).trans aT1
    have eT2 := (o4.cell (p := ⟨T, 2, none⟩) (by show T < _; omega) nT).trans aT2
    have eF : W4.frozen? ⟨r, s, none⟩ = false := (o4.frozen (p := ⟨r, s, none⟩) (by show r < _; omega) nr).trans (hGA.fro s (by omega))
    have HA : Hid (W3.drew.alloc (.cells #[.int .u64 x, .int .u64 y, .int .i64 z] 27) = WA) := hWA
    rw [hV] at happ
    have HAP := Lib.hid happ
    clear happ
    have HF := Lib.hid (And.intro bA (And.intro o4 (And.intro hO4 hob)))
    clear bA o4 hO4 hob hg4 eT0 eT1 eT2
    go_region_law (refine step_append rfl (.tmp 50) (.tmp 52) 22 rfl (.slice va (S s).length vc) (.slice (some ⟨W3.heap.size, 0, none⟩) 1 1) (.slice (some a') ((S s).length + 1) c') W4 (by simp [Act.eval, Act.put]) (by simp [Act.eval, Act.put]) HAP.out ?_)
    all_goals (go_wp2; go_ret; exact ⟨rfl, put_done HO.out H3.out.2.2.2 H3.out.2.2.1 HF.out.1 HF.out.2.1 H3.out.1 H3.out.2.1 hs HF.out.2.2.1 HF.out.2.2.2 hrb (by omega)⟩)

theorem put_any {r b c base s : Nat} {V : Nat → Value} {M : Int → Option (Nat × Nat)} {S : Nat → List Th} (x y z : Int) (w : World) (h : Rg w r b c V M) (hR : Rw w base r b V S) (hs : s < 64) (hx : 0 ≤ x ∧ x < 18446744073709551616) (hM : M x = none)
    (hc : c < 1000000000) (hl : (S s).length < 1000000000) (hbase : base ≤ w.heap.size) (hrb : r ≠ b) :
    Calls Tryd.prog 66 #[.pointer (some ⟨r, 0, none⟩), .int .i64 s, .agg #[.int .u64 x, .int .u64 y, .int .i64 z]] w fun e w' => e = .returned (.int .i64 0) ∧
      ∃ V', Rg w' r b (c + 1) V' (updM M x (some (s, (S s).length))) ∧ Rw w' base r b V' (upd S s (S s ++ [(x, y, z)])) ∧ Only (fun k => k = r ∨ k = b ∨ (V s).ownBlock = some k) w w' := by
  refine (put_anyF x y z w h hR hs hx hM hc hl hbase hrb).mono ?_
  rintro e w' ⟨h1, V', h2, h3, h4, _⟩
  exact ⟨h1, V', h2, h3, h4⟩
end Go.Proofs.YtfclmbneimbmnaaDoor
