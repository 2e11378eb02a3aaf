import Derived.Test.YtfclmbneimbmnaaDoorWhO
import Derived.ChangeKeysEq
namespace Go.Proofs.YtfclmbneimbmnaaDoor
open Go.RowKit
/- The chapter's example of the wheel: what lies where. -/

theorem Plc.n {D D' : WD} {a b : Nat} {t : Th} (h : Plc D a b t D') {k : Nat} (hk : k < 4) : D'.n k = if k = lvN a b then D.n k + 1 else D.n k := by
  have h1 := h.R k hk
  unfold WD.n
  by_cases e : k = lvN a b
  · rw [if_pos e, h1.1 e]
    have := tot_upd (D.R k).S (slN k b) ((D.R k).S (slN k b) ++ [t]) 64 (slN_lt _ _)
    rw [List.length_append, List.length_singleton] at this
    omega
  · rw [if_neg e, h1.2 e]
theorem perm_two {x y : Th} {A L : List Th} (h : (A ++ L).Perm [x, y]) (hA : ∀ t ∈ A, t ≠ y) (hL : ∀ t ∈ L, t ≠ x) (hxy : x ≠ y) : L = [y] ∧ A = [x] := by
  have hy : y ∈ L := by
    have h1 : y ∈ A ++ L := h.mem_iff.2 (by simp)
    rcases List.mem_append.1 h1 with h2 | h2
    · exact absurd rfl (hA y h2)
    · exact h2
  have hx : x ∈ A := by
    have h1 : x ∈ A ++ L := h.mem_iff.2 (by simp)
    rcases List.mem_append.1 h1 with h2 | h2
    · exact h2
    · exact absurd rfl (hL x h2)
  have hlen := h.length_eq
  rw [List.length_append] at hlen
  have l1 := List.length_pos_of_mem hx
  have l2 := List.length_pos_of_mem hy
  have e1 : A.length = 1 := by simp at hlen; omega
  have e2 : L.length = 1 := by simp at hlen; omega
  obtain ⟨p, rfl⟩ := List.length_eq_one_iff.1 e1
  obtain ⟨q, rfl⟩ := List.length_eq_one_iff.1 e2
  rw [List.mem_singleton] at hx hy
  subst hx hy
  exact ⟨rfl, rfl⟩
/-- After the example's two Arms. -/
theorem two_armed {D D1 D2 : WD} (h0 : D.things = []) (hn : ∀ k, k < 4 → D.n k = 0) (hS : ∀ k, k < 4 → (D.R k).S = fun _ => []) (hB : D.BL = []) (h1 : Plc D 0 100 (1, 0, 100) D1) (h2 : Plc D1 0 63 (2, 0, 63) D2) :
    D2.n 0 = 1 ∧ D2.n 1 = 1 ∧ D2.n 2 = 0 ∧ D2.n 3 = 0 ∧ D2.BL = [] ∧ D2.things.Perm [(1, 0, 100), (2, 0, 63)] ∧ ∀ k, k < 4 → PosR 0 D2 k := by
  have e1 : lvN 0 100 = 1 := by decide
  have e2 : lvN 0 63 = 0 := by decide
  have m := fun k (hk : k < 4) => h2.n hk
  have m1 := fun k (hk : k < 4) => h1.n hk
  rw [e2] at m
  rw [e1] at m1
  have b1 : D1.BL = [] := by
    rcases h1.BL with h | ⟨h, _⟩
    · rw [h, hB]
    · rw [e1] at h; omega
  have b2 : D2.BL = [] := by
    rcases h2.BL with h | ⟨h, _⟩
    · rw [h, b1]
    · rw [e2] at h; omega
  refine ⟨?_, ?_, ?_, ?_, b2, ?_, fun k hk => h2.pos rfl (by omega) hk (h1.pos rfl (by omega) hk (fun s hs t ht => ?_))⟩
  · have := m 0 (by omega); have := m1 0 (by omega); have := hn 0 (by omega); simp at *; omega
  · have := m 1 (by omega); have := m1 1 (by omega); have := hn 1 (by omega); simp at *; omega
  · have := m 2 (by omega); have := m1 2 (by omega); have := hn 2 (by omega); simp at *; omega
  · have := m 3 (by omega); have := m1 3 (by omega); have := hn 3 (by omega); simp at *; omega
  · have p1 := h1.things
    rw [h0] at p1
    exact h2.things.trans ((p1.append_right _))
  · rw [hS k hk] at ht; cases ht
/-- And after the Advance. -/
theorem advanced {D2 D3 : WD} {L : List Th} (hp : D2.things.Perm [(1, 0, 100), (2, 0, 63)]) (h : (D3.things ++ L).Perm D2.things) (hpos : ∀ k, k < 4 → PosR 70 D3 k) (hbl : ∀ t ∈ D3.BL, ∃ d : Nat, t.2.2 = (d : Int) ∧ d ≤ 1125899906842624 ∧ 70 < d ∧ lvN 70 d = 4) (hL : ∀ t ∈ L, t.2.2 ≤ (70 : Int)) :
    L = [(2, 0, 63)] ∧ D3.n 0 = 1 ∧ D3.n 1 = 0 ∧ D3.n 2 = 0 ∧ D3.n 3 = 0 ∧ D3.BL = [] := by
  have h2 := perm_two (x := (1, 0, 100)) (y := (2, 0, 63)) (h.trans hp) (fun t ht e => by
    subst e
    rcases mem_things.1 ht with ⟨k, hk, s, hs, hm⟩ | hm
    · obtain ⟨d, ed, _, hv, _⟩ := hpos k hk s hs _ hm
      have : d = 63 := by simp at ed; omega
      subst this
      rw [lvN_late 70 63 (by omega)] at hv; omega
    · obtain ⟨d, ed, _, hv, _⟩ := hbl _ hm
      simp at ed; omega) (fun t ht e => by subst e; have := hL _ ht; simp at this) (by decide)
  obtain ⟨eL, eT⟩ := h2
  have h1 : (1, 0, 100) ∈ D3.things := by rw [eT]; simp
  have hall := D3.all_things
  rw [eT] at hall
  have e0 : lvN 70 100 = 0 := by decide
  refine ⟨eL, ?_⟩
  unfold WD.all at hall
  simp at hall
  rcases mem_things.1 h1 with ⟨k, hk, s, hs, hm⟩ | hm
  · obtain ⟨d, ed, _, hv, _⟩ := hpos k hk s hs _ hm
    have : d = 100 := by simp at ed; omega
    subst this
    rw [e0] at hv
    subst hv
    have hg := tot_ge (D3.R 0).S 64 hs
    have hl := List.length_pos_of_mem hm
    have hn : D3.n 0 = tot (D3.R 0).S 64 := rfl
    refine ⟨by omega, by omega, by omega, by omega, List.length_eq_zero_iff.1 (by omega)⟩
  · obtain ⟨d, ed, _, hv, h4⟩ := hbl _ hm
    have : d = 100 := by simp at ed; omega
    subst this
    rw [e0] at h4; omega
/- The chapter's example of the wheel. -/

theorem int_info5 : (Tryd.prog.info? 3).map (fun i => (i.zero, i.size, i.bytes)) = some (some (.int .i64 0), 1, 8) := by kernel_rfl
theorem eq_five (a b c d e : Int) (w : World) : (Op.equalIn 10000 61 (.agg #[.int .i64 a, .int .i64 b, .int .i64 c, .int .i64 d, .int .i64 e]) (.agg #[.int .i64 a, .int .i64 b, .int .i64 c, .int .i64 d, .int .i64 e])).run Tryd.prog w = .ok true w := by
  obtain ⟨i, hi, _, _, _⟩ := info_parts int_info5
  have h3 : Tryd.prog.underlying 3 = some (.int .i64) := Tryd.underlying3
  have hc : Tryd.prog.cellsOf 3 = 1 := by kernel_rfl
  rw [run_equalIn_array w 9999 _ _ Tryd.underlying61 hi, hc]
  simp [Op.eqItems, List.range, List.range.loop, go_sem, h3]

theorem arm_any (D : WD) (B : Nat) (b : Nat) (t : Th) (w : World) (h : Wl w D) (hn : D.now = ((0 : Nat) : Int)) (hd : t.2.2 = (b : Int)) (hb : b ≤ 1125899906842624) (hx : IdOk t.1) (hfr : D.free t.1) (hBL : D.BL = []) (hfew : D.all < 256) (hB : ∀ g, D.fp g → B ≤ g) (hw : B ≤ w.heap.size) :
    Calls Tryd.prog 38 #[.pointer (some ⟨D.q, 0, none⟩), .agg #[.int .u64 t.1, .int .u64 t.2.1, .int .i64 b]] w fun e w' => e = .returned (.int .i64 0) ∧ ∃ D', Plc D 0 b t D' ∧ Wl w' D' ∧ Below B w w' ∧ ∀ g, D'.fp g → B ≤ g := by
  refine (warm_in D 0 b t w h hn hd (by omega) hb hx (h.notin hfr) (by rw [hBL]; simp) hfew).mono ?_
  rintro e w' ⟨he, D', h1, h2, h3, h4⟩
  refine ⟨he, D', h1, h2, h3.toBelow hw hB, fun g hg => ?_⟩
  rcases h4 g hg with h5 | h5
  · exact hB g h5
  · omega

set_option maxRecDepth 100000 in
set_option maxHeartbeats 8000000 in
theorem lives12 (w : World) (hT : Tab w) : Calls Tryd.prog 30 #[] w fun e w' => e = .returned (.bool true) ∧ Below w.heap.size w w' := by
  have mixed := insTh.mixed
  have q11 := eq_five 1 1 0 0 0
  have q10 := eq_five 1 0 0 0 0
  have hN := wnew 0 w (by omega)
  have HT := Lib.hid hT
  clear hT
  go_enter Tryd.func30, Tryd.ntmps30
  go_wp2_with fail
  refine hN.mono ?_
  rintro e w1 ⟨q, R, rfl, hwl, hS, hb1, hf1⟩
  clear hN
  obtain ⟨D0, hD0⟩ : ∃ D0 : WD, (⟨q, 0, R, .slice none 0 0, []⟩ : WD) = D0 := ⟨_, rfl⟩
  have q0 : D0.q = q := by subst hD0; rfl
  have n0 : D0.now = ((0 : Nat) : Int) := by subst hD0; rfl
  have s0 : ∀ k, k < 4 → (D0.R k).S = fun _ => [] := by subst hD0; exact hS
  have b0 : D0.BL = [] := by subst hD0; rfl
  rw [hD0] at hwl hf1
  have er : ringL (fun _ => ([] : List Th)) 64 = [] := by decide
  have th0 : D0.things = [] := by unfold WD.things; rw [s0 0 (by omega), s0 1 (by omega), s0 2 (by omega), s0 3 (by omega), b0, er]; rfl
  have all0 : D0.all = 0 := by rw [D0.all_things, th0]; rfl
  have m0 : ∀ k, k < 4 → D0.n k = 0 := fun k hk => by unfold WD.n; rw [s0 k hk]; decide
  have fr0 : ∀ x, D0.free x := fun x k hk s hs v hv => by rw [s0 k hk] at hv; cases hv
  have ha := arm_any D0 w.heap.size 100 (1, 0, 100) w1 hwl n0 rfl (by omega) ⟨by decide, by decide⟩ (fr0 _) b0 (by omega) hf1 hb1.size
  rw [q0] at ha
  have H1 := Lib.hid hb1
  clear hD0 hS hwl hf1 hb1
  go_wp2_with fail
  refine ha.mono ?_
  rintro e w2 ⟨rfl, D1, hP1, hW1, hb2, hf2⟩
  clear ha
  obtain ⟨pq1, pn1, pa1, pf1⟩ := hP1.parts
  have b1 : D1.BL = [] := by
    rcases hP1.BL with h | ⟨h, _⟩
    · rw [h, b0]
    · exact absurd h (by decide)
  have H2 := Lib.hid (H1.out.trans hb2)
  have ha := arm_any D1 w.heap.size 63 (2, 0, 63) w2 hW1 (pn1.trans n0) rfl (by omega) ⟨by decide, by decide⟩ (pf1 2 (by decide) (fr0 2)) b1 (by omega) hf2 H2.out.size
  rw [pq1, q0] at ha
  clear hW1 hb2 hf2
  go_wp2_with fail
  refine ha.mono ?_
  rintro e w3 ⟨rfl, D2, hP2, hW2, hb3, hf3⟩
  clear ha
  have q2 : D2.q = q := hP2.parts.1.trans (pq1.trans q0)
  have now2 : D2.now = ((0 : Nat) : Int) := hP2.parts.2.1.trans (pn1.trans n0)
  have all2 : D2.all = 2 := by have := hP2.parts.2.2.1; omega
  obtain ⟨a0, a1, a2, a3, bl2, hp2, hpos2⟩ := two_armed th0 m0 s0 b0 hP1 hP2
  have H3 := Lib.hid (H2.out.trans hb3)
  have hsp := wspread D2 w3 hW2
  rw [a0, a1, a2, a3, bl2, q2] at hsp
  have HW2 := Lib.hid hW2
  clear hW2 hb3 hP1 hP2 pq1 pn1 pa1 pf1 b1 a0 a1 a2 a3 q0 n0 s0 b0 er th0 all0 m0 fr0
  go_wp2_with fail
  refine hsp.mono ?_
  rintro e w4 ⟨rfl, hb4⟩
  clear hsp
  obtain ⟨T, hTs⟩ : ∃ T, w4.heap.size = T := ⟨_, rfl⟩
  have hW4 := HW2.out.below hb4
  have H4 := Lib.hid (H3.out.trans (hb4.mono H3.out.size))
  have k0 : (w4.alloc (.cells #[.int .i64 1, .int .i64 1, .int .i64 0, .int .i64 0, .int .i64 0] 61)).cell? ⟨T, 0, none⟩ = some (.int .i64 1) := by rw [World.cell?_alloc_at _ _ _ _ hTs.symm]; rfl
  have k1 : (w4.alloc (.cells #[.int .i64 1, .int .i64 1, .int .i64 0, .int .i64 0, .int .i64 0] 61)).cell? ⟨T, 1, none⟩ = some (.int .i64 1) := by rw [World.cell?_alloc_at _ _ _ _ hTs.symm]; rfl
  have k2 : (w4.alloc (.cells #[.int .i64 1, .int .i64 1, .int .i64 0, .int .i64 0, .int .i64 0] 61)).cell? ⟨T, 2, none⟩ = some (.int .i64 0) := by rw [World.cell?_alloc_at _ _ _ _ hTs.symm]; rfl
  have k3 : (w4.alloc (.cells #[.int .i64 1, .int .i64 1, .int .i64 0, .int .i64 0, .int .i64 0] 61)).cell? ⟨T, 3, none⟩ = some (.int .i64 0) := by rw [World.cell?_alloc_at _ _ _ _ hTs.symm]; rfl
  have k4 : (w4.alloc (.cells #[.int .i64 1, .int .i64 1, .int .i64 0, .int .i64 0, .int .i64 0] 61)).cell? ⟨T, 4, none⟩ = some (.int .i64 0) := by rw [World.cell?_alloc_at _ _ _ _ hTs.symm]; rfl
  have hTb : w4.heap.size ≤ T := Nat.le_of_eq hTs
  have hb5 : Below w4.heap.size w4 (w4.alloc (.cells #[.int .i64 1, .int .i64 1, .int .i64 0, .int .i64 0, .int .i64 0] 61)) := (Below.refl _ _).alloc (Nat.le_refl _) _
  have hs5 : T < (w4.alloc (.cells #[.int .i64 1, .int .i64 1, .int .i64 0, .int .i64 0, .int .i64 0] 61)).heap.size := by simp [hTs]
  clear hb4
  go_wp2_with fail
  generalize (w4.alloc (.cells #[.int .i64 1, .int .i64 1, .int .i64 0, .int .i64 0, .int .i64 0] 61)) = w5 at k0 k1 k2 k3 k4 hb5 hs5 ⊢
  have hW5 := hW4.below hb5
  have H5 := Lib.hid (H4.out.trans (hb5.mono H4.out.size))
  have hw0 : 0 < w.heap.size := by have := cell_lt (HT.out 0 (by omega)); exact this
  have had := wadvance D2 0 70 w5 hW5 (HT.out.below H5.out) (fun e => by have := hf3 0 e; omega) now2 (by omega) (by omega) hpos2 (by rw [bl2]; intro t ht; cases ht) (fun t ht => by
    have := hp2.mem_iff.1 ht
    simp only [List.mem_cons, List.not_mem_nil, or_false] at this
    rcases this with rfl | rfl <;> exact ⟨by decide, by decide⟩) ((hp2.map _).nodup_iff.2 (by decide)) (by omega)
  rw [q2] at had
  have HS := Lib.hid (fun g (hg : D2.fp g) => hW4.lt hg)
  clear hW5 hW4 hb5
  refine had.mono ?_
  rintro e w6 ⟨v, D3, L, rfl, hW6, hO6, hq6, hnow6, hpos6, hbl6, hL6, hp6, hall6, ho6, hf6, hvf6⟩
  clear had
  obtain ⟨eL, a0, a1, a2, a3, bl3⟩ := advanced hp2 hp6 hpos6 hbl6 hL6
  rw [eL, show srt ltT zT [((2, 0, 63) : Th)] = [(2, 0, 63)] from rfl] at hO6
  obtain ⟨g, c, hv, hgl, _, _, c0, _, _⟩ := hO6.block (i := 0) (t := (2, 0, 63)) rfl
  have nT : ¬ D2.fp T := fun e => by have := HS.out T e; omega
  have x0 := (ho6.cell (p := ⟨T, 0, none⟩) hs5 nT).trans k0
  have x1 := (ho6.cell (p := ⟨T, 1, none⟩) hs5 nT).trans k1
  have x2 := (ho6.cell (p := ⟨T, 2, none⟩) hs5 nT).trans k2
  have x3 := (ho6.cell (p := ⟨T, 3, none⟩) hs5 nT).trans k3
  have x4 := (ho6.cell (p := ⟨T, 4, none⟩) hs5 nT).trans k4
  have H6 := Lib.hid (H5.out.trans (ho6.toBelow H5.out.size hf3))
  have hsp := wspread D3 w6 hW6
  rw [a0, a1, a2, a3, bl3, hq6] at hsp
  subst hv
  clear k0 k1 k2 k3 k4 hs5 hW6 hO6 hpos6 hbl6 hL6 hp6 hall6 ho6 hf6 hvf6 eL a0 a1 a2 a3 bl3 hf3 hp2 hpos2
  go_wp2_with (go_at_call 34; (with_reducible refine hsp.mono ?_); rintro e w7 ⟨rfl, hb7⟩; have H7 := Lib.hid (H6.out.trans (hb7.mono H6.out.size)); clear hb7 hsp)
  go_ret
  exact ⟨rfl, H7.out⟩
end Go.Proofs.YtfclmbneimbmnaaDoor
