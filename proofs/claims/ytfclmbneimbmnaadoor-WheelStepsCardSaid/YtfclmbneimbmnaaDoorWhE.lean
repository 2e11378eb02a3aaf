/- A wheel's Arm. -/
import Derived.Test.YtfclmbneimbmnaaDoorWhD
namespace Go.Proofs.YtfclmbneimbmnaaDoor
open Go.RowKit

/-- The wheel with one thing more, where it waits. -/
def Plc (D : WD) (a b : Nat) (t : Th) (D' : WD) : Prop :=
  (lvN a b = 4 ∧ ∃ v, D' = { D with bv := v, BL := D.BL ++ [t] }) ∨
  (lvN a b < 4 ∧ ∃ E : RD, E.r = (D.R (lvN a b)).r ∧ E.b = (D.R (lvN a b)).b ∧ E.S = upd (D.R (lvN a b)).S (slN (lvN a b) b) ((D.R (lvN a b)).S (slN (lvN a b) b) ++ [t]) ∧ D' = D.ring (lvN a b) E)

theorem wplace (D : WD) (a b : Nat) (t : Th) (w : World) (h : Wl w D) (hn : D.now = (a : Int)) (hd : t.2.2 = (b : Int)) (ha : a ≤ 1125899906842624) (hb : b ≤ 1125899906842624) (hx : IdOk t.1) (hM : ∀ k, k < 4 → (D.R k).M t.1 = none) (hfew : D.all < 999999) :
    Calls Tryd.prog 85 #[.pointer (some ⟨D.q, 0, none⟩), .agg #[.int .u64 t.1, .int .u64 t.2.1, .int .i64 b]] w fun e w' => e = .returned (.tuple #[]) ∧ ∃ D', Plc D a b t D' ∧ Wl w' D' ∧ Only D.fp w w' ∧ ∀ g, D'.fp g → D.fp g ∨ w.heap.size ≤ g := by
  unfold WD.all at hfew
  by_cases hl : lvN a b = 4
  · refine (wplace_far D a b t w h hn hd ha hb hl (by omega)).mono ?_
    rintro e w' ⟨he, v, h1, h2, h3⟩
    exact ⟨he, _, .inl ⟨hl, v, rfl⟩, h1, h2, h3⟩
  · have hlt : lvN a b < 4 := by have := lvN_max a b; omega
    have hf : D.n (lvN a b) < 999999 := by
      have : lvN a b = 0 ∨ lvN a b = 1 ∨ lvN a b = 2 ∨ lvN a b = 3 := by omega
      rcases this with e | e | e | e <;> rw [e] <;> omega
    refine (wplace_ring D a b t w h hn hd ha hb hlt rfl hx (hM _ hlt) hf).mono ?_
    rintro e w' ⟨he, E, e1, e2, e3, h1, h2, h3⟩
    exact ⟨he, _, .inr ⟨hlt, E, e1, e2, e3, rfl⟩, h1, h2, h3⟩

set_option maxRecDepth 100000 in
set_option maxHeartbeats 8000000 in
theorem warm_in (D : WD) (a b : Nat) (t : Th) (w : World) (h : Wl w D) (hn : D.now = (a : Int)) (hd : t.2.2 = (b : Int)) (ha : a ≤ 1125899906842624) (hb : b ≤ 1125899906842624) (hx : IdOk t.1) (hM : ∀ k, k < 4 → (D.R k).M t.1 = none) (hBL : ∀ u ∈ D.BL, u.1 ≠ t.1) (hfew : D.all < 256) :
    Calls Tryd.prog 38 #[.pointer (some ⟨D.q, 0, none⟩), .agg #[.int .u64 t.1, .int .u64 t.2.1, .int .i64 b]] w fun e w' => e = .returned (.int .i64 0) ∧ ∃ D', Plc D a b t D' ∧ Wl w' D' ∧ Only D.fp w w' ∧ ∀ g, D'.fp g → D.fp g ∨ w.heap.size ≤ g := by
  have mixed := insTh.mixed
  have hbA : Below w.heap.size w (w.alloc (.cells #[.int .u64 t.1, .int .u64 t.2.1, .int .i64 b] 27)) := (Below.refl _ _).alloc (Nat.le_refl _) _
  have hsA : (w.alloc (.cells #[.int .u64 t.1, .int .u64 t.2.1, .int .i64 b] 27)).heap.size = w.heap.size + 1 := by simp
  obtain ⟨T, hT⟩ : ∃ T, w.heap.size = T := ⟨_, rfl⟩
  have t0 : (w.alloc (.cells #[.int .u64 t.1, .int .u64 t.2.1, .int .i64 b] 27)).cell? ⟨T, 0, none⟩ = some (.int .u64 t.1) := World.cell?_alloc_at _ _ _ _ hT.symm
  have t1 : (w.alloc (.cells #[.int .u64 t.1, .int .u64 t.2.1, .int .i64 b] 27)).cell? ⟨T, 1, none⟩ = some (.int .u64 t.2.1) := World.cell?_alloc_at _ _ _ _ hT.symm
  have t2 : (w.alloc (.cells #[.int .u64 t.1, .int .u64 t.2.1, .int .i64 b] 27)).cell? ⟨T, 2, none⟩ = some (.int .i64 b) := World.cell?_alloc_at _ _ _ _ hT.symm
  have hA := h.below hbA
  have hc := wcreated D _ hA
  have hin := winstant (b : Int) (w.alloc (.cells #[.int .u64 t.1, .int .u64 t.2.1, .int .i64 b] 27)) (by omega)
  have hib : InsB (b : Int) = true := by unfold InsB; exact decide_eq_true (by omega)
  rw [hib] at hin
  have hg := wget_none D t.1 _ hA hx hM hBL
  have HP := Lib.hid (fun W (hW : Wl W D) => wplace D a b t W hW hn hd ha hb hx hM (by omega))
  have HL := Lib.hid (fun W (hW : Wl W D) => wlen D W hW)
  have H0 := Lib.hid h
  have HF := Lib.hid hfew
  have hTs : T < (w.alloc (.cells #[.int .u64 t.1, .int .u64 t.2.1, .int .i64 b] 27)).heap.size := by omega
  have hfz : ¬ (256 : Int) ≤ (D.all : Int) := by omega
  clear hn hd ha hb hx hM hBL h hib hfew
  go_enter Tryd.func38, Tryd.ntmps38
  go_wp2_with fail
  generalize w.alloc (.cells #[.int .u64 t.1, .int .u64 t.2.1, .int .i64 b] 27) = W1 at hbA hsA t0 t1 t2 hA hc hin hg hTs ⊢
  have HA := Lib.hid (And.intro hbA hA)
  clear hA
  go_wp2_with (first
    | (go_at_call 82; (with_reducible refine hc.mono ?_); rintro e w2 ⟨rfl, rfl⟩)
    | (go_at_call 78; (with_reducible refine hin.mono ?_); rintro e w2 ⟨rfl, rfl⟩))
  refine hg.mono ?_
  rintro e w3 ⟨rfl, hb3⟩
  have b4 : Below w2.heap.size w2 (w3.alloc (.cells #[.int .u64 0, .int .u64 0, .int .i64 0] 27)) := hb3.alloc hb3.size _
  clear hg hc hin hb3
  go_wp2_with fail
  generalize w3.alloc (.cells #[.int .u64 0, .int .u64 0, .int .i64 0] 27) = w4 at b4 ⊢
  have hw4 := HA.out.2.below b4
  have HB4 := Lib.hid b4
  refine (HL.out _ hw4).mono ?_
  rintro e w5 ⟨rfl, hb5⟩
  have b5 : Below w2.heap.size w2 w5 := b4.trans (hb5.mono b4.size)
  have x0 := (b5.cell (p := ⟨T, 0, none⟩) hTs).trans t0
  have x1 := (b5.cell (p := ⟨T, 1, none⟩) hTs).trans t1
  have x2 := (b5.cell (p := ⟨T, 2, none⟩) hTs).trans t2
  have hpl := HP.out _ (hw4.below hb5)
  have HB5 := Lib.hid (HA.out.1.trans (b5.mono HA.out.1.size))
  clear t0 t1 t2 b4 hw4 hb5 b5
  go_wp2_with (go_at_call 85; (with_reducible refine hpl.mono ?_); rintro e w6 ⟨rfl, D', h1, h2, h3, h4⟩; have HD' := Lib.hid (And.intro h1 (And.intro h2 (And.intro h3 h4))); clear h1 h2 h3 h4 hpl)
  go_ret
  exact ⟨rfl, D', HD'.out.1, HD'.out.2.1, (Only.below HB5.out).trans HD'.out.2.2.1, fun g hg => (HD'.out.2.2.2 g hg).imp_right fun h => Nat.le_trans HB5.out.size h⟩
end Go.Proofs.YtfclmbneimbmnaaDoor
