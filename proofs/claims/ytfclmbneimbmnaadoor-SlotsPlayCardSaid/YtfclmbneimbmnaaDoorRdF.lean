/- The law's do: Get, of what waits. -/
import Derived.Test.YtfclmbneimbmnaaDoorRdE
namespace Go.Proofs.YtfclmbneimbmnaaDoor
open Go.RowKit

theorem OR.some {w : World} {base n c k : Nat} {p : Option Addr} {l : List Rt} (h : OR w base (.slice p n c) l) (hk : k < l.length) : ∃ g, p = some ⟨g, 0, none⟩ ∧ g < w.heap.size ∧ l.length ≤ c := by
  rcases h.addr with ⟨_, e, _⟩ | ⟨g, e⟩
  · rw [e] at hk; simp at hk
  · subst e
    obtain ⟨_, _, ev, _, _, hc⟩ := h.shape
    injection ev with _ _ e3
    subst e3
    exact ⟨g, rfl, (h.own_lt rfl).2, hc⟩

set_option maxRecDepth 100000 in
set_option maxHeartbeats 8000000 in
theorem do_get_yes {B r b : Nat} {V : Nat → Value} {S : Nat → List Th} {M : Int → Option (Nat × Nat)} {L : List Rt} (p : Option Addr) (c : Nat) (s x y z : Int) (w : World) (h : Bo B r b V S M w (.slice p L.length c) L) (hl : L.length ≤ 200) (hx : IdOk x) {k : Nat} (hk : k < L.length) (hid : idR L[k] = x) :
    Calls Tryd.prog 23 #[.pointer (some ⟨r, 0, none⟩), .slice p L.length c, .agg #[.int .i64 4, .int .i64 s, .int .u64 x, .int .u64 y, .int .i64 z]] w fun e w' => ∃ v', e = .returned (.tuple #[v', .bool true]) ∧ St B r b (L.length + 1) w' v' ∧ Below B w w' := by
  have mixed := insTh.mixed
  have hb1 : Below w.heap.size w (w.alloc (.cells #[.int .i64 4, .int .i64 s, .int .u64 x, .int .u64 y, .int .i64 z] 41)) := (Below.refl _ _).alloc (Nat.le_refl _) _
  obtain ⟨T, hT⟩ : ∃ T, w.heap.size = T := ⟨_, rfl⟩
  have t0 : (w.alloc (.cells #[.int .i64 4, .int .i64 s, .int .u64 x, .int .u64 y, .int .i64 z] 41)).cell? ⟨T, 0, none⟩ = some (.int .i64 4) := World.cell?_alloc_at _ _ _ _ hT.symm
  have t1 : (w.alloc (.cells #[.int .i64 4, .int .i64 s, .int .u64 x, .int .u64 y, .int .i64 z] 41)).cell? ⟨T, 1, none⟩ = some (.int .i64 s) := World.cell?_alloc_at _ _ _ _ hT.symm
  have t2 : (w.alloc (.cells #[.int .i64 4, .int .i64 s, .int .u64 x, .int .u64 y, .int .i64 z] 41)).cell? ⟨T, 2, none⟩ = some (.int .u64 x) := World.cell?_alloc_at _ _ _ _ hT.symm
  have t3 : (w.alloc (.cells #[.int .i64 4, .int .i64 s, .int .u64 x, .int .u64 y, .int .i64 z] 41)).cell? ⟨T, 3, none⟩ = some (.int .u64 y) := World.cell?_alloc_at _ _ _ _ hT.symm
  have t4 : (w.alloc (.cells #[.int .i64 4, .int .i64 s, .int .u64 x, .int .u64 y, .int .i64 z] 41)).cell? ⟨T, 4, none⟩ = some (.int .i64 z) := World.cell?_alloc_at _ _ _ _ hT.symm
  have hTs : T < (w.alloc (.cells #[.int .i64 4, .int .i64 s, .int .u64 x, .int .u64 y, .int .i64 z] 41)).heap.size := by simp; omega
  have hBo := h.below hb1
  have HBo := Lib.hid hBo
  have HB0 := Lib.hid hb1
  have HB1 := Lib.hid (hb1.mono (B' := B) h.size)
  obtain ⟨_, _, ev, hpn, hRS, _⟩ := hBo.own.shape
  injection ev with ev1 _ ev3
  subst ev1 ev3
  have HPN := Lib.hid hpn
  have hf := find_any p c L x _ hRS (by omega)
  have HL := Lib.hid hl
  have HX := Lib.hid hx
  have HID := Lib.hid hid
  have HK := Lib.hid hk
  have HOWN := Lib.hid (h.own.keep hb1)
  clear hid
  clear hb1 hBo h hpn hl hx
  go_enter Tryd.func23, Tryd.ntmps23
  go_wp2_with fail
  generalize w.alloc (.cells #[.int .i64 4, .int .i64 s, .int .u64 x, .int .u64 y, .int .i64 z] 41) = W1 at t0 t1 t2 t3 t4 hTs HBo HB0 HB1 hf hRS HOWN ⊢
  have HRS := Lib.hid hRS
  clear hRS
  refine hf.mono ?_
  rintro e w1 ⟨rr, rfl, hF, rfl⟩
  have HF := Lib.hid hF
  clear hF hf
  have HS : Hid (∀ W, Below w1.heap.size w1 W → W.cell? ⟨T, 0, none⟩ = some (.int .i64 4) ∧ W.cell? ⟨T, 1, none⟩ = some (.int .i64 s) ∧ W.cell? ⟨T, 2, none⟩ = some (.int .u64 x) ∧ W.cell? ⟨T, 3, none⟩ = some (.int .u64 y) ∧ W.cell? ⟨T, 4, none⟩ = some (.int .i64 z) ∧ Below w1.heap.size w1 W) := Lib.hid (fun W hb =>
    ⟨(hb.cell (p := ⟨T, _, none⟩) hTs).trans t0, (hb.cell (p := ⟨T, _, none⟩) hTs).trans t1, (hb.cell (p := ⟨T, _, none⟩) hTs).trans t2, (hb.cell (p := ⟨T, _, none⟩) hTs).trans t3, (hb.cell (p := ⟨T, _, none⟩) hTs).trans t4, hb⟩)

  obtain ⟨k', rfl, hk', hid'⟩ : ∃ k' : Nat, rr = (k' : Int) ∧ ∃ h : k' < L.length, idR L[k'] = x := by
    rcases HF.out with h | ⟨_, h⟩
    · exact h
    · exact absurd HID.out (h _ (List.getElem_mem HK.out))
  clear HF HID HK hk
  obtain ⟨k, hkk⟩ : ∃ k, k' = k := ⟨_, rfl⟩
  subst hkk
  obtain ⟨g, rfl, hgl, hcl⟩ := HOWN.out.some hk'
  obtain ⟨s', i', hs', hsl, hat⟩ := HBo.out.where_ hk'
  obtain ⟨y', z', hLk⟩ : ∃ y' z', L[k'] = ((x, y', z'), (s' : Int)) := by
    refine ⟨(L[k']).1.2.1, (L[k']).1.2.2, ?_⟩
    have h1 : (L[k']).1.1 = x := hid'
    rw [← h1, ← hsl]
  rw [hLk] at hat
  simp only at hat
  have HLK := Lib.hid hLk
  have HAT := Lib.hid hat
  have HS' := Lib.hid hs'
  have hd3 : w1.cell? ⟨g, k' * 4 + 3, none⟩ = some (.int .i64 s') := by
    obtain ⟨_, _, e, _, _, _, d3⟩ := HRS.out k' hk'
    injection e with e
    injection e with e1 e2
    subst e1 e2
    rw [hLk, Nat.zero_add] at d3
    exact d3
  clear hsl hid' hLk hat
  have hk0 : (0 : Int) ≤ (k' : Int) := by omega
  have hk0' : (0 : Int) ≤ ((k' + 1 : Nat) : Int) := by omega
  have hkl : (k' : Int) < (L.length : Int) := by omega
  have hkw : IntKind.i64.wrap ((k' : Int) + 1) = ((k' + 1 : Nat) : Int) := by rw [IntKind.wrap_i64]; have := HL.out; omega
  have hkc : ((k' + 1 : Nat) : Int) ≤ (c : Int) := by omega
  have hkk1 : (k' : Int) ≤ ((k' + 1 : Nat) : Int) := by omega
  have hkc2 : k' < c := by omega
  have hkc3 : ¬ k' = c := by omega
  have hkc4 : ¬ c = k' := by omega
  have hkq1 : (0 : Int) ≤ (k' : Int) + 1 := by omega
  have hkq2 : (k' : Int) + 1 ≤ (c : Int) := by omega

  have hg := get_some w1 HBo.out.rn hs' HAT.out
  simp only at hg
  go_wp2_with fail
  refine hg.mono ?_
  rintro e w2 ⟨rfl, hb2⟩
  clear t0 t1 t2 t3 t4 hg
  have hXs : (w2.alloc (.cells #[.int .u64 x, .int .u64 y', .int .i64 z'] 27)).heap.size = w2.heap.size + 1 := by simp
  obtain ⟨X, hX⟩ : ∃ X, w2.heap.size = X := ⟨_, rfl⟩
  have x0 : (w2.alloc (.cells #[.int .u64 x, .int .u64 y', .int .i64 z'] 27)).cell? ⟨X, 0, none⟩ = some (.int .u64 x) := World.cell?_alloc_at _ _ _ _ hX.symm
  have x1 : (w2.alloc (.cells #[.int .u64 x, .int .u64 y', .int .i64 z'] 27)).cell? ⟨X, 1, none⟩ = some (.int .u64 y') := World.cell?_alloc_at _ _ _ _ hX.symm
  have x2 : (w2.alloc (.cells #[.int .u64 x, .int .u64 y', .int .i64 z'] 27)).cell? ⟨X, 2, none⟩ = some (.int .i64 z') := World.cell?_alloc_at _ _ _ _ hX.symm
  have hb3 : Below w2.heap.size w2 (w2.alloc (.cells #[.int .u64 x, .int .u64 y', .int .i64 z'] 27)) := (Below.refl _ _).alloc (Nat.le_refl _) _
  have HB2 := Lib.hid (hb2.trans (hb3.mono hb2.size))
  clear hb2 hb3
  go_wp2_with fail
  generalize w2.alloc (.cells #[.int .u64 x, .int .u64 y', .int .i64 z'] 27) = w3 at x0 x1 x2 HB2 hXs ⊢
  have hg3 := (HB2.out.cell (p := ⟨g, k' * 4 + 3, none⟩) hgl).trans hd3
  have hX3 : X < w3.heap.size := by omega
  have hg3l : g < w3.heap.size := by have := HB2.out.size; omega
  have HSS : Hid (∀ W, Below w3.heap.size w3 W → W.cell? ⟨X, 0, none⟩ = some (.int .u64 x) ∧ W.cell? ⟨X, 1, none⟩ = some (.int .u64 y') ∧ W.cell? ⟨X, 2, none⟩ = some (.int .i64 z') ∧ W.cell? ⟨g, k' * 4 + 3, none⟩ = some (.int .i64 s') ∧ Below w3.heap.size w3 W) := Lib.hid (fun W hb => ⟨(hb.cell (p := ⟨X, _, none⟩) hX3).trans x0, (hb.cell (p := ⟨X, _, none⟩) hX3).trans x1, (hb.cell (p := ⟨X, _, none⟩) hX3).trans x2, (hb.cell (p := ⟨g, _, none⟩) hg3l).trans hg3, hb⟩)
  have h0 := HSS.out _ (Below.refl w3.heap.size w3).drew
  clear x0 x1 x2 hd3 hg3 hXs
  refine wp_region_held_drew (S := (fun w' => w'.cell? ⟨X, 0, none⟩ = some (.int .u64 x) ∧ w'.cell? ⟨X, 1, none⟩ = some (.int .u64 y') ∧ w'.cell? ⟨X, 2, none⟩ = some (.int .i64 z') ∧ w'.cell? ⟨g, k' * 4 + 3, none⟩ = some (.int .i64 s') ∧ Below w3.heap.size w3 w')) (by kernel_rfl) h0 (fun hHeld => ?_)
  refine wpAnyH_take (i := 0) (v := ?_) rfl (by kernel_rfl) (by kernel_rfl) (by kernel_rfl) (fun _ _ _ h => h) (Or.inl ⟨by rfl, ?_⟩) (by assumption) ?_
  case refine_2 => (intro w1 hS1; (try dsimp only at hS1); go_simp; try with_reducible rfl)
  try simp only [List.getElem_toArray, List.getElem_cons_zero, List.getElem_cons_succ, Act.put, List.setIfInBounds_toArray, List.set_cons_zero, List.set_cons_succ]
  refine wpAnyH_take (i := 1) (v := ?_) rfl (by kernel_rfl) (by kernel_rfl) (by kernel_rfl) (fun _ _ _ h => h) (Or.inl ⟨by rfl, ?_⟩) (by assumption) ?_
  case refine_2 => (intro w1 hS1; (try dsimp only at hS1); go_simp; try with_reducible rfl)
  try simp only [List.getElem_toArray, List.getElem_cons_zero, List.getElem_cons_succ, Act.put, List.setIfInBounds_toArray, List.set_cons_zero, List.set_cons_succ]
  refine wpAnyH_take (i := 2) (v := ?_) rfl (by kernel_rfl) (by kernel_rfl) (by kernel_rfl) (fun _ _ _ h => h) (Or.inl ⟨by rfl, ?_⟩) (by assumption) ?_
  case refine_2 => (intro w1 hS1; (try dsimp only at hS1); go_simp; try with_reducible rfl)
  try simp only [List.getElem_toArray, List.getElem_cons_zero, List.getElem_cons_succ, Act.put, List.setIfInBounds_toArray, List.set_cons_zero, List.set_cons_succ]
  refine wpAnyH_take (i := 3) (v := ?_) rfl (by kernel_rfl) (by kernel_rfl) (by kernel_rfl) (fun _ _ _ h => h) (Or.inl ⟨by rfl, ?_⟩) (by assumption) ?_
  case refine_2 => (intro w1 hS1; (try dsimp only at hS1); go_simp; try with_reducible rfl)
  try simp only [List.getElem_toArray, List.getElem_cons_zero, List.getElem_cons_succ, Act.put, List.setIfInBounds_toArray, List.set_cons_zero, List.set_cons_succ]
  refine wpAnyH_take (i := 4) (v := ?_) rfl (by kernel_rfl) (by kernel_rfl) (by kernel_rfl) (fun _ _ _ h => h) (Or.inl ⟨by rfl, ?_⟩) (by assumption) ?_
  case refine_2 => (intro w1 hS1; (try dsimp only at hS1); go_simp; try with_reducible rfl)
  try simp only [List.getElem_toArray, List.getElem_cons_zero, List.getElem_cons_succ, Act.put, List.setIfInBounds_toArray, List.set_cons_zero, List.set_cons_succ]
  refine wpAnyH_take (i := 5) (v := ?_) rfl (by kernel_rfl) (by kernel_rfl) (by kernel_rfl) (fun _ _ _ h => h) (Or.inl ⟨by rfl, ?_⟩) (by assumption) ?_
  case refine_2 => (intro w1 hS1; (try dsimp only at hS1); go_simp; try with_reducible rfl)
  try simp only [List.getElem_toArray, List.getElem_cons_zero, List.getElem_cons_succ, Act.put, List.setIfInBounds_toArray, List.set_cons_zero, List.set_cons_succ]
  refine wpAnyH_take (i := 6) (v := ?_) rfl (by kernel_rfl) (by kernel_rfl) (by kernel_rfl) (fun _ _ _ h => h) (Or.inl ⟨by rfl, ?_⟩) (by assumption) ?_
  case refine_2 => (intro w1 hS1; (try dsimp only at hS1); go_simp; try with_reducible rfl)
  try simp only [List.getElem_toArray, List.getElem_cons_zero, List.getElem_cons_succ, Act.put, List.setIfInBounds_toArray, List.set_cons_zero, List.set_cons_succ]
  refine wpAnyH_take (i := 7) (v := ?_) rfl (by kernel_rfl) (by kernel_rfl) (by kernel_rfl) (fun _ _ _ h => h) (Or.inl ⟨by rfl, ?_⟩) (by assumption) ?_
  case refine_2 => (intro w1 hS1; (try dsimp only at hS1); go_simp; try with_reducible rfl)
  try simp only [List.getElem_toArray, List.getElem_cons_zero, List.getElem_cons_succ, Act.put, List.setIfInBounds_toArray, List.set_cons_zero, List.set_cons_succ]
  refine wpAnyH_take (i := 8) (v := ?_) rfl (by kernel_rfl) (by kernel_rfl) (by kernel_rfl) (fun _ _ _ h => h) (Or.inl ⟨by rfl, ?_⟩) (by assumption) ?_
  case refine_2 => (intro w1 hS1; (try dsimp only at hS1); go_simp; try with_reducible rfl)
  try simp only [List.getElem_toArray, List.getElem_cons_zero, List.getElem_cons_succ, Act.put, List.setIfInBounds_toArray, List.set_cons_zero, List.set_cons_succ]
  refine wpAnyH_take (i := 9) (v := ?_) rfl (by kernel_rfl) (by kernel_rfl) (by kernel_rfl) (fun _ _ _ h => h) (Or.inl ⟨by rfl, ?_⟩) (by assumption) ?_
  case refine_2 => (intro w1 hS1; (try dsimp only at hS1); go_simp; try with_reducible rfl)
  try simp only [List.getElem_toArray, List.getElem_cons_zero, List.getElem_cons_succ, Act.put, List.setIfInBounds_toArray, List.set_cons_zero, List.set_cons_succ]
  refine wpAnyH_take (i := 10) (v := ?_) rfl (by kernel_rfl) (by kernel_rfl) (by kernel_rfl) (fun _ _ _ h => h) (Or.inl ⟨by rfl, ?_⟩) (by assumption) ?_
  case refine_2 => (intro w1 hS1; (try dsimp only at hS1); go_simp; try with_reducible rfl)
  try simp only [List.getElem_toArray, List.getElem_cons_zero, List.getElem_cons_succ, Act.put, List.setIfInBounds_toArray, List.set_cons_zero, List.set_cons_succ]
  refine wpAnyH_take (i := 11) (v := ?_) rfl (by kernel_rfl) (by kernel_rfl) (by kernel_rfl) (fun _ _ _ h => h) (Or.inl ⟨by rfl, ?_⟩) (by assumption) ?_
  case refine_2 => (intro w1 hS1; (try dsimp only at hS1); go_simp; try with_reducible rfl)
  try simp only [List.getElem_toArray, List.getElem_cons_zero, List.getElem_cons_succ, Act.put, List.setIfInBounds_toArray, List.set_cons_zero, List.set_cons_succ]
  refine wpAnyH_take (i := 12) (v := ?_) rfl (by kernel_rfl) (by kernel_rfl) (by kernel_rfl) (fun _ _ _ h => h) (Or.inl ⟨by rfl, ?_⟩) (by assumption) ?_
  case refine_2 => (intro w1 hS1; (try dsimp only at hS1); go_simp; try with_reducible rfl)
  try simp only [List.getElem_toArray, List.getElem_cons_zero, List.getElem_cons_succ, Act.put, List.setIfInBounds_toArray, List.set_cons_zero, List.set_cons_succ]
  refine wpAnyH_take (i := 14) (v := ?_) rfl (by kernel_rfl) (by kernel_rfl) (by kernel_rfl) (fun _ _ _ h => h) (Or.inl ⟨by rfl, ?_⟩) (by assumption) ?_
  case refine_2 => (intro w1 hS1; (try dsimp only at hS1); go_simp; try with_reducible rfl)
  try simp only [List.getElem_toArray, List.getElem_cons_zero, List.getElem_cons_succ, Act.put, List.setIfInBounds_toArray, List.set_cons_zero, List.set_cons_succ]
  refine wpAnyH_take (i := 15) (v := ?_) rfl (by kernel_rfl) (by kernel_rfl) (by kernel_rfl) (fun _ _ _ h => h) (Or.inl ⟨by rfl, ?_⟩) (by assumption) ?_
  case refine_2 => (intro w1 hS1; (try dsimp only at hS1); go_simp; try with_reducible rfl)
  try simp only [List.getElem_toArray, List.getElem_cons_zero, List.getElem_cons_succ, Act.put, List.setIfInBounds_toArray, List.set_cons_zero, List.set_cons_succ]
  refine wpAnyH_take (i := 16) (v := ?_) rfl (by kernel_rfl) (by kernel_rfl) (by kernel_rfl) (fun _ _ _ h => h) (Or.inl ⟨by rfl, ?_⟩) (by assumption) ?_
  case refine_2 => (intro w1 hS1; (try dsimp only at hS1); go_simp; try with_reducible rfl)
  try simp only [List.getElem_toArray, List.getElem_cons_zero, List.getElem_cons_succ, Act.put, List.setIfInBounds_toArray, List.set_cons_zero, List.set_cons_succ]
  refine wpAnyH_take (i := 17) (v := ?_) rfl (by kernel_rfl) (by kernel_rfl) (by kernel_rfl) (fun _ _ _ h => h) (Or.inl ⟨by rfl, ?_⟩) (by assumption) ?_
  case refine_2 => (intro w1 hS1; (try dsimp only at hS1); go_simp; try with_reducible rfl)
  try simp only [List.getElem_toArray, List.getElem_cons_zero, List.getElem_cons_succ, Act.put, List.setIfInBounds_toArray, List.set_cons_zero, List.set_cons_succ]
  refine wpAnyH_take (i := 18) (v := ?_) rfl (by kernel_rfl) (by kernel_rfl) (by kernel_rfl) (fun _ _ _ h => h) (Or.inl ⟨by rfl, ?_⟩) (by assumption) ?_
  case refine_2 => (intro w1 hS1; (try dsimp only at hS1); go_simp; try with_reducible rfl)
  try simp only [List.getElem_toArray, List.getElem_cons_zero, List.getElem_cons_succ, Act.put, List.setIfInBounds_toArray, List.set_cons_zero, List.set_cons_succ]
  refine wpAnyH_ready (rs := [13]) (by kernel_rfl) (by simp) ?_
  refine AllReadyH.cons rfl (fun K hK => ?_) AllReadyH.nil
  go_simp
  have bn : Below w3.heap.size w3 (w3.alloc (.cells #[.int .u64 x, .int .u64 y', .int .i64 z'] 27)).drew := ((Below.refl _ _).alloc (Nat.le_refl _) _).drew
  refine hK.out _ _ (HSS.out _ bn) (fun hHeld => ?_)
  clear hK K
  try simp only [List.getElem_toArray, List.getElem_cons_zero, List.getElem_cons_succ, Act.put, List.setIfInBounds_toArray, List.set_cons_zero, List.set_cons_succ]
  have hTS : TS (w3.alloc (.cells #[.int .u64 x, .int .u64 y', .int .i64 z'] 27)).drew (some ⟨w3.heap.size, 0, none⟩) [(x, y', z')] := TS.one (World.cell?_alloc_at _ _ _ _ rfl) (World.cell?_alloc_at _ _ _ _ rfl) (World.cell?_alloc_at _ _ _ _ rfl)
  have hR1 := (HRS.out.below (HB2.out.trans (bn.mono HB2.out.size))).at_one hk'
  rw [HLK.out] at hR1
  have hsm := same_yes (some ⟨w3.heap.size, 0, none⟩) (some ⟨g, k' * 4, none⟩) 1 (c - k') [(x, y', z')] [((x, y', z'), (s' : Int))] _ hTS hR1 rfl (by show 1 ≤ maxLen; unfold maxLen; omega)
  simp only [List.length_singleton] at hsm
  have HBN := Lib.hid bn
  generalize (w3.alloc (.cells #[.int .u64 x, .int .u64 y', .int .i64 z'] 27)).drew = w4 at hsm HBN hHeld ⊢
  clear bn hTS hR1
  refine wpAnyH_ready (rs := [19]) (by kernel_rfl) (by simp) ?_
  refine AllReadyH.cons rfl (fun K hK => ?_) AllReadyH.nil
  go_simp
  with_reducible refine hsm.mono ?_
  rintro e w5 ⟨rfl, hb5⟩
  have HB5 := Lib.hid (HBN.out.trans (hb5.mono HBN.out.size))
  clear hb5
  refine hK.out _ _ (HSS.out _ HB5.out) (fun hHeld => ?_)
  clear hK K
  try simp only [List.getElem_toArray, List.getElem_cons_zero, List.getElem_cons_succ, Act.put, List.setIfInBounds_toArray, List.set_cons_zero, List.set_cons_succ]
  refine wpAnyH_take (i := 20) (v := ?_) rfl (by kernel_rfl) (by kernel_rfl) (by kernel_rfl) (fun _ _ _ h => h) (Or.inl ⟨by rfl, ?_⟩) (by assumption) ?_
  case refine_2 => (intro w1 hS1; (try dsimp only at hS1); go_simp; try with_reducible rfl)
  try simp only [List.getElem_toArray, List.getElem_cons_zero, List.getElem_cons_succ, Act.put, List.setIfInBounds_toArray, List.set_cons_zero, List.set_cons_succ]
  refine wpAnyH_take (i := 21) (v := ?_) rfl (by kernel_rfl) (by kernel_rfl) (by kernel_rfl) (fun _ _ _ h => h) (Or.inl ⟨by rfl, ?_⟩) (by assumption) ?_
  case refine_2 => (intro w1 hS1; (try dsimp only at hS1); go_simp; try with_reducible rfl)
  try simp only [List.getElem_toArray, List.getElem_cons_zero, List.getElem_cons_succ, Act.put, List.setIfInBounds_toArray, List.set_cons_zero, List.set_cons_succ]
  refine wpAnyH_take (i := 22) (v := ?_) rfl (by kernel_rfl) (by kernel_rfl) (by kernel_rfl) (fun _ _ _ h => h) (Or.inl ⟨by rfl, ?_⟩) (by assumption) ?_
  case refine_2 => (intro w1 hS1; (try dsimp only at hS1); go_simp; try with_reducible rfl)
  try simp only [List.getElem_toArray, List.getElem_cons_zero, List.getElem_cons_succ, Act.put, List.setIfInBounds_toArray, List.set_cons_zero, List.set_cons_succ]
  refine wpAnyH_done (by kernel_rfl) ?_ _
  go_wp2_with fail
  go_ret2
  have HBF := HB2.out.trans (HB5.out.mono HB2.out.size)
  exact ⟨_, rfl, (HBo.out.below HBF).st (Nat.le_succ _), HB1.out.trans (HBF.mono HBo.out.size)⟩

end Go.Proofs.YtfclmbneimbmnaaDoor
