/- The law's do: Drop. -/
import Derived.Test.YtfclmbneimbmnaaDoorRdF
namespace Go.Proofs.YtfclmbneimbmnaaDoor
open Go.RowKit

set_option maxRecDepth 100000 in
set_option maxHeartbeats 8000000 in
theorem do_drop_no {B r b : Nat} {V : Nat → Value} {S : Nat → List Th} {M : Int → Option (Nat × Nat)} {L : List Rt} (p : Option Addr) (c : Nat) (s x y z : Int) (w : World) (h : Bo B r b V S M w (.slice p L.length c) L) (hl : L.length ≤ 200) (hx : IdOk x) (hid : ∀ q ∈ L, idR q ≠ x) :
    Calls Tryd.prog 23 #[.pointer (some ⟨r, 0, none⟩), .slice p L.length c, .agg #[.int .i64 1, .int .i64 s, .int .u64 x, .int .u64 y, .int .i64 z]] w fun e w' => ∃ v', e = .returned (.tuple #[v', .bool true]) ∧ St B r b (L.length + 1) w' v' ∧ Below B w w' := by
  have mixed := insTh.mixed
  have hb1 : Below w.heap.size w (w.alloc (.cells #[.int .i64 1, .int .i64 s, .int .u64 x, .int .u64 y, .int .i64 z] 41)) := (Below.refl _ _).alloc (Nat.le_refl _) _
  obtain ⟨T, hT⟩ : ∃ T, w.heap.size = T := ⟨_, rfl⟩
  have t0 : (w.alloc (.cells #[.int .i64 1, .int .i64 s, .int .u64 x, .int .u64 y, .int .i64 z] 41)).cell? ⟨T, 0, none⟩ = some (.int .i64 1) := World.cell?_alloc_at _ _ _ _ hT.symm
  have t1 : (w.alloc (.cells #[.int .i64 1, .int .i64 s, .int .u64 x, .int .u64 y, .int .i64 z] 41)).cell? ⟨T, 1, none⟩ = some (.int .i64 s) := World.cell?_alloc_at _ _ _ _ hT.symm
  have t2 : (w.alloc (.cells #[.int .i64 1, .int .i64 s, .int .u64 x, .int .u64 y, .int .i64 z] 41)).cell? ⟨T, 2, none⟩ = some (.int .u64 x) := World.cell?_alloc_at _ _ _ _ hT.symm
  have t3 : (w.alloc (.cells #[.int .i64 1, .int .i64 s, .int .u64 x, .int .u64 y, .int .i64 z] 41)).cell? ⟨T, 3, none⟩ = some (.int .u64 y) := World.cell?_alloc_at _ _ _ _ hT.symm
  have t4 : (w.alloc (.cells #[.int .i64 1, .int .i64 s, .int .u64 x, .int .u64 y, .int .i64 z] 41)).cell? ⟨T, 4, none⟩ = some (.int .i64 z) := World.cell?_alloc_at _ _ _ _ hT.symm
  have hTs : T < (w.alloc (.cells #[.int .i64 1, .int .i64 s, .int .u64 x, .int .u64 y, .int .i64 z] 41)).heap.size := by simp; omega
  have hBo := h.below hb1
  have HBo := Lib.hid hBo
  have HB0 := Lib.hid hb1
  have HB1 := Lib.hid (hb1.mono (B' := B) h.size)
  obtain ⟨_, _, ev, hpn, hRS, _⟩ := hBo.own.shape
  injection ev with ev1 _ ev3
  subst ev1 ev3
  have HPN := Lib.hid hpn
  have hf := find_any p c L x _ hRS (by omega)
  have HL := Lib.hid hl
  have HX := Lib.hid hx
  have HID := Lib.hid hid
  clear hid
  clear hb1 hBo h hpn hl hx
  go_enter Tryd.func23, Tryd.ntmps23
  go_wp2_with fail
  generalize w.alloc (.cells #[.int .i64 1, .int .i64 s, .int .u64 x, .int .u64 y, .int .i64 z] 41) = W1 at t0 t1 t2 t3 t4 hTs HBo HB0 HB1 hf hRS ⊢
  have HRS := Lib.hid hRS
  clear hRS
  refine hf.mono ?_
  rintro e w1 ⟨rr, rfl, hF, rfl⟩
  have HF := Lib.hid hF
  clear hF hf
  have HS : Hid (∀ W, Below w1.heap.size w1 W → W.cell? ⟨T, 0, none⟩ = some (.int .i64 1) ∧ W.cell? ⟨T, 1, none⟩ = some (.int .i64 s) ∧ W.cell? ⟨T, 2, none⟩ = some (.int .u64 x) ∧ W.cell? ⟨T, 3, none⟩ = some (.int .u64 y) ∧ W.cell? ⟨T, 4, none⟩ = some (.int .i64 z) ∧ Below w1.heap.size w1 W) := Lib.hid (fun W hb =>
    ⟨(hb.cell (p := ⟨T, _, none⟩) hTs).trans t0, (hb.cell (p := ⟨T, _, none⟩) hTs).trans t1, (hb.cell (p := ⟨T, _, none⟩) hTs).trans t2, (hb.cell (p := ⟨T, _, none⟩) hTs).trans t3, (hb.cell (p := ⟨T, _, none⟩) hTs).trans t4, hb⟩)

  obtain rfl := HF.out.none HID.out
  have hg := drop_none x w1 HBo.out.rn HX.out (HBo.out.nowhere HID.out)
  have heq := fun w => eql_th_same 0 0 0 w
  have hgd := fun (p q : Operand) w => guard_th .eql p q #[.int .u64 0, .int .u64 0, .int .i64 0] #[.int .u64 0, .int .u64 0, .int .i64 0] w
  go_wp2_with fail
  refine hg.mono ?_
  rintro e w2 ⟨rfl, hb2⟩
  clear t0 t1 t2 t3 t4 hg
  have hXs : (w2.alloc (.cells #[.int .u64 0, .int .u64 0, .int .i64 0] 27)).heap.size = w2.heap.size + 1 := by simp
  obtain ⟨X, hX⟩ : ∃ X, w2.heap.size = X := ⟨_, rfl⟩
  have x0 : (w2.alloc (.cells #[.int .u64 0, .int .u64 0, .int .i64 0] 27)).cell? ⟨X, 0, none⟩ = some (.int .u64 0) := World.cell?_alloc_at _ _ _ _ hX.symm
  have x1 : (w2.alloc (.cells #[.int .u64 0, .int .u64 0, .int .i64 0] 27)).cell? ⟨X, 1, none⟩ = some (.int .u64 0) := World.cell?_alloc_at _ _ _ _ hX.symm
  have x2 : (w2.alloc (.cells #[.int .u64 0, .int .u64 0, .int .i64 0] 27)).cell? ⟨X, 2, none⟩ = some (.int .i64 0) := World.cell?_alloc_at _ _ _ _ hX.symm
  have hb3 : Below w2.heap.size w2 (w2.alloc (.cells #[.int .u64 0, .int .u64 0, .int .i64 0] 27)) := (Below.refl _ _).alloc (Nat.le_refl _) _
  have HB2 := Lib.hid (hb2.trans (hb3.mono hb2.size))
  clear hb2 hb3
  go_wp2_with fail
  generalize w2.alloc (.cells #[.int .u64 0, .int .u64 0, .int .i64 0] 27) = w3 at x0 x1 x2 HB2 hXs ⊢
  have h0 : w3.drew.cell? ⟨X, 0, none⟩ = some (.int .u64 0) ∧ w3.drew.cell? ⟨X, 1, none⟩ = some (.int .u64 0) ∧ w3.drew.cell? ⟨X, 2, none⟩ = some (.int .i64 0) := ⟨x0, x1, x2⟩
  refine wp_region_held_drew (S := (fun w' => w'.cell? ⟨X, 0, none⟩ = some (.int .u64 0) ∧ w'.cell? ⟨X, 1, none⟩ = some (.int .u64 0) ∧ w'.cell? ⟨X, 2, none⟩ = some (.int .i64 0))) (by kernel_rfl) h0 (fun hHeld => ?_)
  refine wpAnyH_take (i := 0) (v := ?_) rfl (by kernel_rfl) (by kernel_rfl) (by kernel_rfl) (fun _ _ _ h => h) (Or.inl ⟨by rfl, ?_⟩) (by assumption) ?_
  case refine_2 => (intro w1 hS1; (try dsimp only at hS1); go_simp; try with_reducible rfl)
  try simp only [List.getElem_toArray, List.getElem_cons_zero, List.getElem_cons_succ, Act.put, List.setIfInBounds_toArray, List.set_cons_zero, List.set_cons_succ]
  refine wpAnyH_take (i := 1) (v := ?_) rfl (by kernel_rfl) (by kernel_rfl) (by kernel_rfl) (fun _ _ _ h => h) (Or.inl ⟨by rfl, ?_⟩) (by assumption) ?_
  case refine_2 => (intro w1 hS1; (try dsimp only at hS1); go_simp; try with_reducible rfl)
  try simp only [List.getElem_toArray, List.getElem_cons_zero, List.getElem_cons_succ, Act.put, List.setIfInBounds_toArray, List.set_cons_zero, List.set_cons_succ]
  refine wpAnyH_take (i := 2) (v := ?_) rfl (by kernel_rfl) (by kernel_rfl) (by kernel_rfl) (fun _ _ _ h => h) (Or.inl ⟨by rfl, ?_⟩) (by assumption) ?_
  case refine_2 => (intro w1 hS1; (try dsimp only at hS1); go_simp; try with_reducible rfl)
  try simp only [List.getElem_toArray, List.getElem_cons_zero, List.getElem_cons_succ, Act.put, List.setIfInBounds_toArray, List.set_cons_zero, List.set_cons_succ]
  refine wpAnyH_take (i := 3) (v := ?_) rfl (by kernel_rfl) (by kernel_rfl) (by kernel_rfl) (fun _ _ _ h => h) (Or.inl ⟨by rfl, ?_⟩) (by assumption) ?_
  case refine_2 => (intro w1 hS1; (try dsimp only at hS1); go_simp; try with_reducible rfl)
  try simp only [List.getElem_toArray, List.getElem_cons_zero, List.getElem_cons_succ, Act.put, List.setIfInBounds_toArray, List.set_cons_zero, List.set_cons_succ]
  refine wpAnyH_take (i := 4) (v := ?_) rfl (by kernel_rfl) (by kernel_rfl) (by kernel_rfl) (fun _ _ _ h => h) (Or.inl ⟨by rfl, ?_⟩) (by assumption) ?_
  case refine_2 => (intro w1 hS1; (try dsimp only at hS1); go_simp; try with_reducible rfl)
  try simp only [List.getElem_toArray, List.getElem_cons_zero, List.getElem_cons_succ, Act.put, List.setIfInBounds_toArray, List.set_cons_zero, List.set_cons_succ]
  refine wpAnyH_take (i := 5) (v := ?_) rfl (by kernel_rfl) (by kernel_rfl) (by kernel_rfl) (fun _ _ _ h => h) (Or.inl ⟨by rfl, ?_⟩) (by assumption) ?_
  case refine_2 => (intro w1 hS1; (try dsimp only at hS1); go_simp; try with_reducible rfl)
  try simp only [List.getElem_toArray, List.getElem_cons_zero, List.getElem_cons_succ, Act.put, List.setIfInBounds_toArray, List.set_cons_zero, List.set_cons_succ]
  refine wpAnyH_take (i := 6) (v := ?_) rfl (by kernel_rfl) (by kernel_rfl) (by kernel_rfl) (fun _ _ _ h => h) (Or.inl ⟨by rfl, ?_⟩) (by assumption) ?_
  case refine_2 => (intro w1 hS1; (try dsimp only at hS1); go_simp; try with_reducible rfl)
  try simp only [List.getElem_toArray, List.getElem_cons_zero, List.getElem_cons_succ, Act.put, List.setIfInBounds_toArray, List.set_cons_zero, List.set_cons_succ]
  refine wpAnyH_take (i := 7) (v := ?_) rfl (by kernel_rfl) (by kernel_rfl) (by kernel_rfl) (fun _ _ _ h => h) (Or.inl ⟨by rfl, ?_⟩) (by assumption) ?_
  case refine_2 => (intro w1 hS1; (try dsimp only at hS1); go_simp; try with_reducible rfl)
  try simp only [List.getElem_toArray, List.getElem_cons_zero, List.getElem_cons_succ, Act.put, List.setIfInBounds_toArray, List.set_cons_zero, List.set_cons_succ]
  refine wpAnyH_take (i := 8) (v := ?_) rfl (by kernel_rfl) (by kernel_rfl) (by kernel_rfl) (fun _ _ _ h => h) (Or.inl ⟨by rfl, ?_⟩) (by assumption) ?_
  case refine_2 => (intro w1 hS1; (try dsimp only at hS1); go_simp; try with_reducible rfl)
  try simp only [List.getElem_toArray, List.getElem_cons_zero, List.getElem_cons_succ, Act.put, List.setIfInBounds_toArray, List.set_cons_zero, List.set_cons_succ]
  refine wpAnyH_take (i := 9) (v := ?_) rfl (by kernel_rfl) (by kernel_rfl) (by kernel_rfl) (fun _ _ _ h => h) (Or.inl ⟨by rfl, ?_⟩) (by assumption) ?_
  case refine_2 => (intro w1 hS1; (try dsimp only at hS1); go_simp; try with_reducible rfl)
  try simp only [List.getElem_toArray, List.getElem_cons_zero, List.getElem_cons_succ, Act.put, List.setIfInBounds_toArray, List.set_cons_zero, List.set_cons_succ]
  refine wpAnyH_done (by kernel_rfl) ?_ _
  go_wp2_with fail
  go_ret2
  exact ⟨_, rfl, (HBo.out.below HB2.out.drew).st (Nat.le_succ _), HB1.out.trans (HB2.out.drew.mono HBo.out.size)⟩

set_option maxRecDepth 100000 in
set_option maxHeartbeats 8000000 in
theorem do_drop_yes {B r b : Nat} {V : Nat → Value} {S : Nat → List Th} {M : Int → Option (Nat × Nat)} {L : List Rt} (p : Option Addr) (c : Nat) (s x y z : Int) (w : World) (h : Bo B r b V S M w (.slice p L.length c) L) (hl : L.length ≤ 200) (hx : IdOk x) {k : Nat} (hk : k < L.length) (hid : idR L[k] = x)  :
    Calls Tryd.prog 23 #[.pointer (some ⟨r, 0, none⟩), .slice p L.length c, .agg #[.int .i64 1, .int .i64 s, .int .u64 x, .int .u64 y, .int .i64 z]] w fun e w' => ∃ v', e = .returned (.tuple #[v', .bool true]) ∧ St B r b (L.length + 1) w' v' ∧ Below B w w' := by
  have mixed := insTh.mixed
  have hb1 : Below w.heap.size w (w.alloc (.cells #[.int .i64 1, .int .i64 s, .int .u64 x, .int .u64 y, .int .i64 z] 41)) := (Below.refl _ _).alloc (Nat.le_refl _) _
  obtain ⟨T, hT⟩ : ∃ T, w.heap.size = T := ⟨_, rfl⟩
  have t0 : (w.alloc (.cells #[.int .i64 1, .int .i64 s, .int .u64 x, .int .u64 y, .int .i64 z] 41)).cell? ⟨T, 0, none⟩ = some (.int .i64 1) := World.cell?_alloc_at _ _ _ _ hT.symm
  have t1 : (w.alloc (.cells #[.int .i64 1, .int .i64 s, .int .u64 x, .int .u64 y, .int .i64 z] 41)).cell? ⟨T, 1, none⟩ = some (.int .i64 s) := World.cell?_alloc_at _ _ _ _ hT.symm
  have t2 : (w.alloc (.cells #[.int .i64 1, .int .i64 s, .int .u64 x, .int .u64 y, .int .i64 z] 41)).cell? ⟨T, 2, none⟩ = some (.int .u64 x) := World.cell?_alloc_at _ _ _ _ hT.symm
  have t3 : (w.alloc (.cells #[.int .i64 1, .int .i64 s, .int .u64 x, .int .u64 y, .int .i64 z] 41)).cell? ⟨T, 3, none⟩ = some (.int .u64 y) := World.cell?_alloc_at _ _ _ _ hT.symm
  have t4 : (w.alloc (.cells #[.int .i64 1, .int .i64 s, .int .u64 x, .int .u64 y, .int .i64 z] 41)).cell? ⟨T, 4, none⟩ = some (.int .i64 z) := World.cell?_alloc_at _ _ _ _ hT.symm
  have hTs : T < (w.alloc (.cells #[.int .i64 1, .int .i64 s, .int .u64 x, .int .u64 y, .int .i64 z] 41)).heap.size := by simp; omega
  have hBo := h.below hb1
  have HBo := Lib.hid hBo
  have HB0 := Lib.hid hb1
  have HB1 := Lib.hid (hb1.mono (B' := B) h.size)
  obtain ⟨_, _, ev, hpn, hRS, _⟩ := hBo.own.shape
  injection ev with ev1 _ ev3
  subst ev1 ev3
  have HPN := Lib.hid hpn
  have hf := find_any p c L x _ hRS (by omega)
  have HL := Lib.hid hl
  have HX := Lib.hid hx
  have HID := Lib.hid hid
  have HK := Lib.hid hk
  have HOWN := Lib.hid (h.own.keep hb1)
  clear hid
  clear hb1 hBo h hpn hl hx
  go_enter Tryd.func23, Tryd.ntmps23
  go_wp2_with fail
  generalize w.alloc (.cells #[.int .i64 1, .int .i64 s, .int .u64 x, .int .u64 y, .int .i64 z] 41) = W1 at t0 t1 t2 t3 t4 hTs HBo HB0 HB1 hf hRS HOWN ⊢
  have HRS := Lib.hid hRS
  clear hRS
  refine hf.mono ?_
  rintro e w1 ⟨rr, rfl, hF, rfl⟩
  have HF := Lib.hid hF
  clear hF hf
  have HS : Hid (∀ W, Below w1.heap.size w1 W → W.cell? ⟨T, 0, none⟩ = some (.int .i64 1) ∧ W.cell? ⟨T, 1, none⟩ = some (.int .i64 s) ∧ W.cell? ⟨T, 2, none⟩ = some (.int .u64 x) ∧ W.cell? ⟨T, 3, none⟩ = some (.int .u64 y) ∧ W.cell? ⟨T, 4, none⟩ = some (.int .i64 z) ∧ Below w1.heap.size w1 W) := Lib.hid (fun W hb =>
    ⟨(hb.cell (p := ⟨T, _, none⟩) hTs).trans t0, (hb.cell (p := ⟨T, _, none⟩) hTs).trans t1, (hb.cell (p := ⟨T, _, none⟩) hTs).trans t2, (hb.cell (p := ⟨T, _, none⟩) hTs).trans t3, (hb.cell (p := ⟨T, _, none⟩) hTs).trans t4, hb⟩)

  obtain ⟨k', rfl, hk', hid'⟩ : ∃ k' : Nat, rr = (k' : Int) ∧ ∃ h : k' < L.length, idR L[k'] = x := by
    rcases HF.out with h | ⟨_, h⟩
    · exact h
    · exact absurd HID.out (h _ (List.getElem_mem HK.out))
  clear HF HID HK hk
  obtain ⟨k, hkk⟩ : ∃ k, k' = k := ⟨_, rfl⟩
  subst hkk
  obtain ⟨g, rfl, hgl, hcl⟩ := HOWN.out.some hk'
  obtain ⟨s', i', hs', hsl, hat⟩ := HBo.out.where_ hk'
  obtain ⟨y', z', hLk⟩ : ∃ y' z', L[k'] = ((x, y', z'), (s' : Int)) := by
    refine ⟨(L[k']).1.2.1, (L[k']).1.2.2, ?_⟩
    have h1 : (L[k']).1.1 = x := hid'
    rw [← h1, ← hsl]
  rw [hLk] at hat
  simp only at hat
  have HLK := Lib.hid hLk
  have HAT := Lib.hid hat
  have HS' := Lib.hid hs'
  have hd3 : w1.cell? ⟨g, k' * 4 + 3, none⟩ = some (.int .i64 s') := by
    obtain ⟨_, _, e, _, _, _, d3⟩ := HRS.out k' hk'
    injection e with e
    injection e with e1 e2
    subst e1 e2
    rw [hLk, Nat.zero_add] at d3
    exact d3
  clear hsl hid' hLk hat
  have hk0 : (0 : Int) ≤ (k' : Int) := by omega
  have hk0' : (0 : Int) ≤ ((k' + 1 : Nat) : Int) := by omega
  have hkl : (k' : Int) < (L.length : Int) := by omega
  have hkw : IntKind.i64.wrap ((k' : Int) + 1) = ((k' + 1 : Nat) : Int) := by rw [IntKind.wrap_i64]; have := HL.out; omega
  have hkc : ((k' + 1 : Nat) : Int) ≤ (c : Int) := by omega
  have hkk1 : (k' : Int) ≤ ((k' + 1 : Nat) : Int) := by omega
  have hkc2 : k' < c := by omega
  have hkc3 : ¬ k' = c := by omega
  have hkc4 : ¬ c = k' := by omega
  have hkq1 : (0 : Int) ≤ (k' : Int) + 1 := by omega
  have hkq2 : (k' : Int) + 1 ≤ (c : Int) := by omega

  have HCM : Hid (c ≤ maxLen) := Lib.hid (by
    rcases HOWN.out.2 with ⟨hv, _⟩ | ⟨_, _, _, hv, _, _, _, hm, _⟩
    · cases hv
    · injection hv with _ _ e3
      rw [e3]; exact hm)
  have hg := drop_some w1 HBo.out.rn hs' HAT.out
  simp only at hg
  go_wp2_with fail
  refine hg.mono ?_
  rintro e w2 ⟨rfl, V2, M2, hRn2, ho2, hf2⟩
  have HR2 := Lib.hid (And.intro hRn2 (And.intro ho2 hf2))
  have hOW2 := HOWN.out.only ho2 (HBo.out.apart)
  clear t0 t1 t2 t3 t4 hg hRn2 ho2 hf2 hd3
  have hXs : (w2.alloc (.cells #[.int .u64 x, .int .u64 y', .int .i64 z'] 27)).heap.size = w2.heap.size + 1 := by simp
  obtain ⟨X, hX⟩ : ∃ X, w2.heap.size = X := ⟨_, rfl⟩
  have x0 : (w2.alloc (.cells #[.int .u64 x, .int .u64 y', .int .i64 z'] 27)).cell? ⟨X, 0, none⟩ = some (.int .u64 x) := World.cell?_alloc_at _ _ _ _ hX.symm
  have x1 : (w2.alloc (.cells #[.int .u64 x, .int .u64 y', .int .i64 z'] 27)).cell? ⟨X, 1, none⟩ = some (.int .u64 y') := World.cell?_alloc_at _ _ _ _ hX.symm
  have x2 : (w2.alloc (.cells #[.int .u64 x, .int .u64 y', .int .i64 z'] 27)).cell? ⟨X, 2, none⟩ = some (.int .i64 z') := World.cell?_alloc_at _ _ _ _ hX.symm
  have hb3 : Below w2.heap.size w2 (w2.alloc (.cells #[.int .u64 x, .int .u64 y', .int .i64 z'] 27)) := (Below.refl _ _).alloc (Nat.le_refl _) _
  have HB3 := Lib.hid hb3
  obtain ⟨_, _, ev, _, hR2, _⟩ := (hOW2.keep hb3).shape
  injection ev with ev1 ev2 ev3
  subst ev3
  cases ev1
  clear ev2
  have HR3 := Lib.hid hR2
  clear hb3 hR2 hOW2
  go_wp2_with fail
  generalize w2.alloc (.cells #[.int .u64 x, .int .u64 y', .int .i64 z'] 27) = w3 at x0 x1 x2 HB3 hXs HR3 ⊢
  have hX3 : X < w3.heap.size := by omega
  have HSS : Hid (∀ W, Below w3.heap.size w3 W → W.cell? ⟨X, 0, none⟩ = some (.int .u64 x) ∧ W.cell? ⟨X, 1, none⟩ = some (.int .u64 y') ∧ W.cell? ⟨X, 2, none⟩ = some (.int .i64 z') ∧ Below w3.heap.size w3 W) := Lib.hid (fun W hb => ⟨(hb.cell (p := ⟨X, _, none⟩) hX3).trans x0, (hb.cell (p := ⟨X, _, none⟩) hX3).trans x1, (hb.cell (p := ⟨X, _, none⟩) hX3).trans x2, hb⟩)
  have bd : Below w3.heap.size w3 w3.drew := (Below.refl _ _).drew
  have h0 := HSS.out _ bd
  clear x0 x1 x2 hXs
  refine wp_region_held_drew (S := (fun w' => w'.cell? ⟨X, 0, none⟩ = some (.int .u64 x) ∧ w'.cell? ⟨X, 1, none⟩ = some (.int .u64 y') ∧ w'.cell? ⟨X, 2, none⟩ = some (.int .i64 z') ∧ Below w3.heap.size w3 w')) (by kernel_rfl) h0 (fun hHeld => ?_)
  refine wpAnyH_take (i := 0) (v := ?_) rfl (by kernel_rfl) (by kernel_rfl) (by kernel_rfl) (fun _ _ _ h => h) (Or.inl ⟨by rfl, ?_⟩) (by assumption) ?_
  case refine_2 => (intro w1 hS1; (try dsimp only at hS1); go_simp; try with_reducible rfl)
  try simp only [List.getElem_toArray, List.getElem_cons_zero, List.getElem_cons_succ, Act.put, List.setIfInBounds_toArray, List.set_cons_zero, List.set_cons_succ]
  refine wpAnyH_take (i := 1) (v := ?_) rfl (by kernel_rfl) (by kernel_rfl) (by kernel_rfl) (fun _ _ _ h => h) (Or.inl ⟨by rfl, ?_⟩) (by assumption) ?_
  case refine_2 => (intro w1 hS1; (try dsimp only at hS1); go_simp; try with_reducible rfl)
  try simp only [List.getElem_toArray, List.getElem_cons_zero, List.getElem_cons_succ, Act.put, List.setIfInBounds_toArray, List.set_cons_zero, List.set_cons_succ]
  refine wpAnyH_take (i := 3) (v := ?_) rfl (by kernel_rfl) (by kernel_rfl) (by kernel_rfl) (fun _ _ _ h => h) (Or.inl ⟨by rfl, ?_⟩) (by assumption) ?_
  case refine_2 => (intro w1 hS1; (try dsimp only at hS1); go_simp; try with_reducible rfl)
  try simp only [List.getElem_toArray, List.getElem_cons_zero, List.getElem_cons_succ, Act.put, List.setIfInBounds_toArray, List.set_cons_zero, List.set_cons_succ]
  clear hHeld h0
  refine wpAnyH_ready (rs := [2]) (by kernel_rfl) (by simp) ?_
  refine AllReadyH.cons rfl (fun K hK => ?_) AllReadyH.nil
  go_simp
  refine (without_any g c k' L _ (HR3.out.below bd) hk' hcl (by have := HL.out; omega) HCM.out).mono ?_
  rintro e w4 ⟨vo, rfl, hOo, hbo⟩
  have bw : Below w3.heap.size w3 w4 := bd.trans (hbo.mono bd.size)
  have HOO := Lib.hid (hOo.mono bd.size)
  clear hbo hOo
  refine hK.out _ _ (HSS.out _ bw) (fun hHeld => ?_)
  clear hK K hHeld
  try simp only [List.getElem_toArray, List.getElem_cons_zero, List.getElem_cons_succ, Act.put, List.setIfInBounds_toArray, List.set_cons_zero, List.set_cons_succ]
  refine wpAnyH_take (i := 4) (v := ?_) rfl (by kernel_rfl) (by kernel_rfl) (by kernel_rfl) (fun _ _ _ h => h) (Or.inl ⟨by rfl, ?_⟩) (HSS.out _ bw) ?_
  case refine_2 => (intro w1 hS1; (try dsimp only at hS1); go_simp; try with_reducible rfl)
  try simp only [List.getElem_toArray, List.getElem_cons_zero, List.getElem_cons_succ, Act.put, List.setIfInBounds_toArray, List.set_cons_zero, List.set_cons_succ]
  refine wpAnyH_take (i := 5) (v := ?_) rfl (by kernel_rfl) (by kernel_rfl) (by kernel_rfl) (fun _ _ _ h => h) (Or.inl ⟨by rfl, ?_⟩) (HSS.out _ bw) ?_
  case refine_2 => (intro w1 hS1; (try dsimp only at hS1); go_simp; try with_reducible rfl)
  try simp only [List.getElem_toArray, List.getElem_cons_zero, List.getElem_cons_succ, Act.put, List.setIfInBounds_toArray, List.set_cons_zero, List.set_cons_succ]
  refine wpAnyH_take (i := 7) (v := ?_) rfl (by kernel_rfl) (by kernel_rfl) (by kernel_rfl) (fun _ _ _ h => h) (Or.inl ⟨by rfl, ?_⟩) (HSS.out _ bw) ?_
  case refine_2 => (intro w1 hS1; (try dsimp only at hS1); go_simp; try with_reducible rfl)
  try simp only [List.getElem_toArray, List.getElem_cons_zero, List.getElem_cons_succ, Act.put, List.setIfInBounds_toArray, List.set_cons_zero, List.set_cons_succ]
  refine wpAnyH_take (i := 8) (v := ?_) rfl (by kernel_rfl) (by kernel_rfl) (by kernel_rfl) (fun _ _ _ h => h) (Or.inl ⟨by rfl, ?_⟩) (HSS.out _ bw) ?_
  case refine_2 => (intro w1 hS1; (try dsimp only at hS1); go_simp; try with_reducible rfl)
  try simp only [List.getElem_toArray, List.getElem_cons_zero, List.getElem_cons_succ, Act.put, List.setIfInBounds_toArray, List.set_cons_zero, List.set_cons_succ]
  refine wpAnyH_take (i := 9) (v := ?_) rfl (by kernel_rfl) (by kernel_rfl) (by kernel_rfl) (fun _ _ _ h => h) (Or.inl ⟨by rfl, ?_⟩) (HSS.out _ bw) ?_
  case refine_2 => (intro w1 hS1; (try dsimp only at hS1); go_simp; try with_reducible rfl)
  try simp only [List.getElem_toArray, List.getElem_cons_zero, List.getElem_cons_succ, Act.put, List.setIfInBounds_toArray, List.set_cons_zero, List.set_cons_succ]
  refine wpAnyH_take (i := 10) (v := ?_) rfl (by kernel_rfl) (by kernel_rfl) (by kernel_rfl) (fun _ _ _ h => h) (Or.inl ⟨by rfl, ?_⟩) (HSS.out _ bw) ?_
  case refine_2 => (intro w1 hS1; (try dsimp only at hS1); go_simp; try with_reducible rfl)
  try simp only [List.getElem_toArray, List.getElem_cons_zero, List.getElem_cons_succ, Act.put, List.setIfInBounds_toArray, List.set_cons_zero, List.set_cons_succ]
  refine wpAnyH_take (i := 11) (v := ?_) rfl (by kernel_rfl) (by kernel_rfl) (by kernel_rfl) (fun _ _ _ h => h) (Or.inl ⟨by rfl, ?_⟩) (HSS.out _ bw) ?_
  case refine_2 => (intro w1 hS1; (try dsimp only at hS1); go_simp; try with_reducible rfl)
  try simp only [List.getElem_toArray, List.getElem_cons_zero, List.getElem_cons_succ, Act.put, List.setIfInBounds_toArray, List.set_cons_zero, List.set_cons_succ]
  refine wpAnyH_ready (rs := [6]) (by kernel_rfl) (by simp) ?_
  refine AllReadyH.cons rfl (fun K hK => ?_) AllReadyH.nil
  go_simp
  have bn : Below w3.heap.size w3 (w4.alloc (.cells #[.int .u64 x, .int .u64 y', .int .i64 z'] 27)) := bw.alloc bw.size _
  refine hK.out _ _ (HSS.out _ bn) (fun hHeld => ?_)
  clear hK K hHeld
  try simp only [List.getElem_toArray, List.getElem_cons_zero, List.getElem_cons_succ, Act.put, List.setIfInBounds_toArray, List.set_cons_zero, List.set_cons_succ]
  have hTS : TS (w4.alloc (.cells #[.int .u64 x, .int .u64 y', .int .i64 z'] 27)) (some ⟨w4.heap.size, 0, none⟩) [(x, y', z')] := TS.one (World.cell?_alloc_at _ _ _ _ rfl) (World.cell?_alloc_at _ _ _ _ rfl) (World.cell?_alloc_at _ _ _ _ rfl)
  have HOF := Lib.hid (HOO.out.keep ((Below.refl w4.heap.size w4).alloc (Nat.le_refl _) (.cells #[.int .u64 x, .int .u64 y', .int .i64 z'] 27)))
  have hR1 := (HR3.out.below bn).at_one hk'
  rw [HLK.out] at hR1
  have hsm := same_yes (some ⟨w4.heap.size, 0, none⟩) (some ⟨g, k' * 4, none⟩) 1 (c - k') [(x, y', z')] [((x, y', z'), (s' : Int))] _ hTS hR1 rfl (by show 1 ≤ maxLen; unfold maxLen; omega)
  simp only [List.length_singleton] at hsm
  have HBN := Lib.hid bn
  generalize w4.alloc (.cells #[.int .u64 x, .int .u64 y', .int .i64 z'] 27) = w5 at hsm HBN HOF ⊢
  clear bn hTS hR1
  refine wpAnyH_ready (rs := [12]) (by kernel_rfl) (by simp) ?_
  refine AllReadyH.cons rfl (fun K hK => ?_) AllReadyH.nil
  go_simp
  with_reducible refine hsm.mono ?_
  rintro e w6 ⟨rfl, hb6⟩
  have HB6 := Lib.hid (HBN.out.trans (hb6.mono HBN.out.size))
  have HO6 := Lib.hid (HOF.out.keep hb6)
  clear hb6 hsm
  refine hK.out _ _ (HSS.out _ HB6.out) (fun hHeld => ?_)
  clear hK K hHeld
  try simp only [List.getElem_toArray, List.getElem_cons_zero, List.getElem_cons_succ, Act.put, List.setIfInBounds_toArray, List.set_cons_zero, List.set_cons_succ]
  refine wpAnyH_take (i := 13) (v := ?_) rfl (by kernel_rfl) (by kernel_rfl) (by kernel_rfl) (fun _ _ _ h => h) (Or.inl ⟨by rfl, ?_⟩) (HSS.out _ HB6.out) ?_
  case refine_2 => (intro w1 hS1; (try dsimp only at hS1); go_simp; try with_reducible rfl)
  try simp only [List.getElem_toArray, List.getElem_cons_zero, List.getElem_cons_succ, Act.put, List.setIfInBounds_toArray, List.set_cons_zero, List.set_cons_succ]
  refine wpAnyH_take (i := 14) (v := ?_) rfl (by kernel_rfl) (by kernel_rfl) (by kernel_rfl) (fun _ _ _ h => h) (Or.inl ⟨by rfl, ?_⟩) (HSS.out _ HB6.out) ?_
  case refine_2 => (intro w1 hS1; (try dsimp only at hS1); go_simp; try with_reducible rfl)
  try simp only [List.getElem_toArray, List.getElem_cons_zero, List.getElem_cons_succ, Act.put, List.setIfInBounds_toArray, List.set_cons_zero, List.set_cons_succ]
  refine wpAnyH_take (i := 15) (v := ?_) rfl (by kernel_rfl) (by kernel_rfl) (by kernel_rfl) (fun _ _ _ h => h) (Or.inl ⟨by rfl, ?_⟩) (HSS.out _ HB6.out) ?_
  case refine_2 => (intro w1 hS1; (try dsimp only at hS1); go_simp; try with_reducible rfl)
  try simp only [List.getElem_toArray, List.getElem_cons_zero, List.getElem_cons_succ, Act.put, List.setIfInBounds_toArray, List.set_cons_zero, List.set_cons_succ]
  refine wpAnyH_done (by kernel_rfl) ?_ _
  go_wp2_with fail
  go_ret2
  have hw3 : w1.heap.size ≤ w3.heap.size := Nat.le_trans HR2.out.2.1.size HB3.out.size
  have hBF := HB3.out.trans (HB6.out.mono HB3.out.size)
  have hlow : ∀ q, w3.heap.size ≤ q → ¬ Fp V r b q := fun q hq hf => by have := HBo.out.rn.lt hf; omega
  refine ⟨_, rfl, Bo.st (L := L.eraseIdx k') ⟨HR2.out.1.below hBF, HO6.out.mono (Nat.zero_le _), fun q hq hf => hlow q (HO6.out.own_lt hq).1 (HR2.out.2.2 q hf), ?_, fun q hq => HBo.out.base q (HR2.out.2.2 q hq), Nat.le_trans HBo.out.size (Nat.le_trans HR2.out.2.1.size hBF.size)⟩ (by rw [List.length_eraseIdx_of_lt hk']; omega), ?_⟩
  · have hi := (List.getElem?_eq_some_iff.1 HAT.out).1
    refine HBo.out.rel.drop hk' hs' (by rw [HLK.out]) _ ?_
    have h1 := swr_perm (S s') i' zT hi
    rw [(List.getElem?_eq_some_iff.1 HAT.out).2] at h1
    rw [HLK.out]
    exact h1
  · exact HB1.out.trans ((HR2.out.2.1.toBelow HBo.out.size (fun q hq => HBo.out.base q hq)).trans (hBF.mono (Nat.le_trans HBo.out.size HR2.out.2.1.size)))

end Go.Proofs.YtfclmbneimbmnaaDoor
