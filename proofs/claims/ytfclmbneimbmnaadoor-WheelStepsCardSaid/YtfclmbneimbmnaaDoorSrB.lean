/- The reference's things compared; the law's Same, where the rows are alike. -/
import Derived.Test.YtfclmbneimbmnaaDoorSrA
import Derived.Laws.StructEq
namespace Go.Proofs.YtfclmbneimbmnaaDoor
open Go.RowKit
theorem rt_struct : Tryd.prog.underlying 29 = some (.struct (Tryd.prog.fieldsOf 29)) := by kernel_rfl
theorem rt_held : Tryd.prog.stoodInHeld 29 = false := by kernel_rfl
theorem rt_guard : Tryd.prog.eqGuardType Tryd.prog.depth 29 = false := by kernel_rfl
theorem guard_rt (op : BinOp) (x y : Operand) (xs ys : Array Value) (w : World) : (eqGuard op 29 x y (.agg xs) (.agg ys)).run Tryd.prog w = .ok () w := run_eqGuard_agg w op _ x y xs ys rt_guard
theorem eq_rt_same (a b c d : Int) (w : World) : (Op.equalIn 10000 29 (.agg #[.int .u64 a, .int .u64 b, .int .i64 c, .int .i64 d]) (.agg #[.int .u64 a, .int .u64 b, .int .i64 c, .int .i64 d])).run Tryd.prog w = .ok true w := by
  rw [run_equalIn_agg w 9999 _ _ _ rt_struct rt_held]
  have h1 : Tryd.prog.underlying 2 = some (.int .i64) := Tryd.underlying2
  have h2 : Tryd.prog.underlying 25 = some (.int .u64) := Tryd.underlying25
  have h3 : Tryd.prog.underlying 3 = some (.int .i64) := Tryd.underlying3
  simp [Op.eqFields, go_sem, h1, h2, h3, Tryd.underlying29]
theorem neq_rt_same (a b c d : Int) (w : World) : (binOp .neq 29 (.agg #[.int .u64 a, .int .u64 b, .int .i64 c, .int .i64 d]) (.agg #[.int .u64 a, .int .u64 b, .int .i64 c, .int .i64 d])).run Tryd.prog w = .ok (.bool false) w := by
  rw [run_neq_struct, eq_rt_same]; rfl

/-- A row of things that can be read, from an address on. -/
def TS (w : World) (a : Option Addr) (l : List Th) : Prop := ∀ k (hk : k < l.length), ∃ B o, a = some ⟨B, o, none⟩ ∧ w.cell? ⟨B, o + k * 3, none⟩ = some (.int .u64 (l[k]).1) ∧ w.cell? ⟨B, o + k * 3 + 1, none⟩ = some (.int .u64 (l[k]).2.1) ∧ w.cell? ⟨B, o + k * 3 + 2, none⟩ = some (.int .i64 (l[k]).2.2)
/-- A row of the reference's. -/
def RS (w : World) (a : Option Addr) (l : List Rt) : Prop := ∀ k (hk : k < l.length), ∃ B o, a = some ⟨B, o, none⟩ ∧ w.cell? ⟨B, o + k * 4, none⟩ = some (.int .u64 (l[k]).1.1) ∧ w.cell? ⟨B, o + k * 4 + 1, none⟩ = some (.int .u64 (l[k]).1.2.1) ∧ w.cell? ⟨B, o + k * 4 + 2, none⟩ = some (.int .i64 (l[k]).1.2.2) ∧ w.cell? ⟨B, o + k * 4 + 3, none⟩ = some (.int .i64 (l[k]).2)
theorem TS.below {w w' : World} {a : Option Addr} {l : List Th} (h : TS w a l) (hb : Below w.heap.size w w') : TS w' a l := fun k hk => by
  obtain ⟨B, o, ha, c0, c1, c2⟩ := h k hk
  have hB : B < w.heap.size := by have := cell_lt c0; exact this
  exact ⟨B, o, ha, (hb.cell (p := ⟨B, _, none⟩) hB).trans c0, (hb.cell (p := ⟨B, _, none⟩) hB).trans c1, (hb.cell (p := ⟨B, _, none⟩) hB).trans c2⟩
theorem RS.below {w w' : World} {a : Option Addr} {l : List Rt} (h : RS w a l) (hb : Below w.heap.size w w') : RS w' a l := fun k hk => by
  obtain ⟨B, o, ha, c0, c1, c2, c3⟩ := h k hk
  have hB : B < w.heap.size := by have := cell_lt c0; exact this
  exact ⟨B, o, ha, (hb.cell (p := ⟨B, _, none⟩) hB).trans c0, (hb.cell (p := ⟨B, _, none⟩) hB).trans c1, (hb.cell (p := ⟨B, _, none⟩) hB).trans c2, (hb.cell (p := ⟨B, _, none⟩) hB).trans c3⟩

set_option maxRecDepth 100000 in
set_option maxHeartbeats 4000000 in
theorem same_yes (a a' : Option Addr) (c c' : Nat) (l : List Th) (l' : List Rt) (w : World) (hT : TS w a l) (hR : RS w a' l') (he : l'.map (·.1) = l) (hm : l.length ≤ maxLen) :
    Calls Tryd.prog 20 #[.slice a l.length c, .slice a' l'.length c'] w fun e w' => e = .returned (.bool true) ∧ Below w.heap.size w w' := by
  unfold maxLen at hm
  have hl : l'.length = l.length := by rw [← he]; simp
  rw [hl]
  have hE : ∀ k (hk : k < l.length) (hk' : k < l'.length), (l'[k]).1 = l[k] := fun k hk hk' => by subst he; simp
  have HT := Lib.hid hT
  have HR := Lib.hid hR
  have HE := Lib.hid hE
  clear hT hR hE he
  go_enter Tryd.func20, Tryd.ntmps20
  go_wp2
  go_loopg [5, 6, 14] l.length (fun kx s5 s6 s14 wr => ∃ k : Nat, s14 = .int .i64 k ∧ k ≤ l.length ∧ l.length - k ≤ kx ∧ Hid (Below w.heap.size w wr))
  case atStart => exact ⟨0, rfl, by omega, by omega, Below.refl _ _⟩
  case round =>
    obtain ⟨k, rfl, hk, hkx, HB⟩ := hrel
    by_cases hlt : k < l.length
    · have hltz : (k : Int) < (l.length : Int) := by omega
      have hk0 : (0 : Int) ≤ (k : Int) := by omega
      obtain ⟨B, o, rfl, c0, c1, c2⟩ := (HT.out.below HB.out) k hlt
      obtain ⟨B', o', rfl, d0, d1, d2, d3⟩ := (HR.out.below HB.out) k (by omega)
      rw [HE.out k hlt (by omega)] at d0 d1 d2
      obtain ⟨x, hx⟩ : ∃ x, (l[k]).1 = x := ⟨_, rfl⟩
      obtain ⟨y, hy⟩ : ∃ y, (l[k]).2.1 = y := ⟨_, rfl⟩
      obtain ⟨z, hz⟩ : ∃ z, (l[k]).2.2 = z := ⟨_, rfl⟩
      rw [hx] at c0 d0
      rw [hy] at c1 d1
      rw [hz] at c2 d2
      clear hx hy hz
      have hp := fun w => plain_any x y z w
      have hne := fun w => neq_rt_same x y z 0 w
      have hgd := fun (p q : Operand) w => guard_rt .neq p q #[.int .u64 x, .int .u64 y, .int .i64 z, .int .i64 0] #[.int .u64 x, .int .u64 y, .int .i64 z, .int .i64 0] w
      have hBw : B < wr.heap.size := by have := cell_lt c0; exact this
      go_wp2_with fail
      have bX : Below wr.heap.size wr (wr.alloc (.cells #[.int .u64 x, .int .u64 y, .int .i64 z, .int .i64 0] 29)) := (Below.refl _ _).alloc (Nat.le_refl _) _
      have x0 : (wr.alloc (.cells #[.int .u64 x, .int .u64 y, .int .i64 z, .int .i64 0] 29)).cell? ⟨wr.heap.size, 0, none⟩ = some (.int .u64 x) := World.cell?_alloc_at _ _ _ _ rfl
      have x1 : (wr.alloc (.cells #[.int .u64 x, .int .u64 y, .int .i64 z, .int .i64 0] 29)).cell? ⟨wr.heap.size, 1, none⟩ = some (.int .u64 y) := World.cell?_alloc_at _ _ _ _ rfl
      have x2 : (wr.alloc (.cells #[.int .u64 x, .int .u64 y, .int .i64 z, .int .i64 0] 29)).cell? ⟨wr.heap.size, 2, none⟩ = some (.int .i64 z) := World.cell?_alloc_at _ _ _ _ rfl
      have x3 : (wr.alloc (.cells #[.int .u64 x, .int .u64 y, .int .i64 z, .int .i64 0] 29)).cell? ⟨wr.heap.size, 3, none⟩ = some (.int .i64 0) := World.cell?_alloc_at _ _ _ _ rfl
      have e0 := (bX.cell (p := ⟨B, o + k * 3, none⟩) hBw).trans c0
      have e1 := (bX.cell (p := ⟨B, o + k * 3 + 1, none⟩) hBw).trans c1
      have e2 := (bX.cell (p := ⟨B, o + k * 3 + 2, none⟩) hBw).trans c2
      have hxs : wr.heap.size < (wr.alloc (.cells #[.int .u64 x, .int .u64 y, .int .i64 z, .int .i64 0] 29)).heap.size := by simp
      obtain ⟨X, hX⟩ : ∃ X, wr.heap.size = X := ⟨_, rfl⟩
      rw [hX] at x0 x1 x2 x3 hxs hBw
      rw [hX]
      have HBX : Hid (Below X wr (wr.alloc (.cells #[.int .u64 x, .int .u64 y, .int .i64 z, .int .i64 0] 29))) := by rw [← hX]; exact bX
      have hsz : w.heap.size ≤ X := by rw [← hX]; exact HB.out.size
      clear bX c0 c1 c2 d0 d1 d2 d3 hX
      generalize wr.alloc (.cells #[.int .u64 x, .int .u64 y, .int .i64 z, .int .i64 0] 29) = wa at x0 x1 x2 x3 e0 e1 e2 hxs HBX ⊢
      have HS : Hid (∀ w', Below wa.heap.size wa w' → w'.cell? ⟨B, o + k * 3, none⟩ = some (.int .u64 x) ∧ w'.cell? ⟨B, o + k * 3 + 1, none⟩ = some (.int .u64 y) ∧ w'.cell? ⟨B, o + k * 3 + 2, none⟩ = some (.int .i64 z) ∧ w'.cell? ⟨X, 0, none⟩ = some (.int .u64 x) ∧ w'.cell? ⟨X, 1, none⟩ = some (.int .u64 y) ∧ w'.cell? ⟨X, 2, none⟩ = some (.int .i64 z) ∧ w'.cell? ⟨X, 3, none⟩ = some (.int .i64 0) ∧ Below wa.heap.size wa w') := fun w' hb =>
        ⟨(hb.cell (p := ⟨B, _, none⟩) (by show B < _; omega)).trans e0, (hb.cell (p := ⟨B, _, none⟩) (by show B < _; omega)).trans e1, (hb.cell (p := ⟨B, _, none⟩) (by show B < _; omega)).trans e2, (hb.cell (p := ⟨X, _, none⟩) hxs).trans x0, (hb.cell (p := ⟨X, _, none⟩) hxs).trans x1, (hb.cell (p := ⟨X, _, none⟩) hxs).trans x2, (hb.cell (p := ⟨X, _, none⟩) hxs).trans x3, hb⟩
      clear x0 x1 x2 x3 e0 e1 e2
      have HP : Hid (∀ w1, Below wa.heap.size wa w1 → Calls Tryd.prog 16 #[.agg #[.int .u64 x, .int .u64 y, .int .i64 z]] w1 fun e w' => e = .returned (.agg #[.int .u64 x, .int .u64 y, .int .i64 z, .int .i64 0]) ∧ Below wa.heap.size wa w') := fun w1 h1 => (hp w1).mono fun e w' ⟨h2, h3⟩ => ⟨h2, h1.trans (h3.mono h1.size)⟩
      clear hp
      go_region_held3 (fun w' => w'.cell? ⟨B, o + k * 3, none⟩ = some (.int .u64 x) ∧ w'.cell? ⟨B, o + k * 3 + 1, none⟩ = some (.int .u64 y) ∧ w'.cell? ⟨B, o + k * 3 + 2, none⟩ = some (.int .i64 z) ∧ w'.cell? ⟨X, 0, none⟩ = some (.int .u64 x) ∧ w'.cell? ⟨X, 1, none⟩ = some (.int .u64 y) ∧ w'.cell? ⟨X, 2, none⟩ = some (.int .i64 z) ∧ w'.cell? ⟨X, 3, none⟩ = some (.int .i64 0) ∧ Below wa.heap.size wa w')
        (first | exact HS.out _ (Below.refl _ _).drew | assumption)
        (first | (go_at_call 16; refine (HP.out _ (Below.refl _ _).drew).mono ?_; rintro e w2 ⟨rfl, hb2⟩; have hs2 := HS.out _ hb2; have HB2 := Lib.hid hb2; clear hb2))
      all_goals
        go_wp2
        go_roundg (l.length - (k + 1))
        case measure => omega
        case rel => exact ⟨k + 1, by go_num, by omega, Nat.le_refl _, (HB.out.trans (HBX.out.mono hsz)).trans (HB2.out.mono (by have := HBX.out.size; have := HB.out.size; omega))⟩
    · have hltz : ¬ (k : Int) < (l.length : Int) := by omega
      go_wp2
      go_ret
      exact ⟨rfl, HB.out⟩
end Go.Proofs.YtfclmbneimbmnaaDoor
