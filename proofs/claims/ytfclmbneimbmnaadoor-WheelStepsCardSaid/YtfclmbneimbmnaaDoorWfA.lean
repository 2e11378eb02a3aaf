import Derived.Test.YtfclmbneimbmnaaDoorSrB
import Derived.Deep.Slices
import Derived.ProofKit
import Derived.ChangeOld
import Derived.Test.YtfclmbneimbmnaaDoorWhT
import Derived.OpenShut
namespace Go.Proofs.YtfclmbneimbmnaaDoor
open Go.RowKit
/- How a row of things that came in reads. -/
open Go.RowKit
theorem cellsThing : Tryd.prog.cellsOf 27 = 3 := by kernel_rfl
theorem cellsI64 : Tryd.prog.cellsOf 2 = 1 := by kernel_rfl
theorem cellsU64 : Tryd.prog.cellsOf 25 = 1 := by kernel_rfl

theorem add_at3 (b off i : Nat) : (⟨b, off, none⟩ : Addr).add i = ⟨b, off + i, none⟩ := by
  unfold Addr.add; split
  · rename_i h; subst h; rfl
  · rfl
theorem cell_spot3 {w : World} {x : Addr} {u : Value} (h : w.cell? x = some u) : x = ⟨x.block, x.off, none⟩ := by
  have h1 := World.cell?_spot h
  cases x; simp_all

/-- What a thing's numbers may be. -/
def ThOk (t : Th) : Prop := (Lit.int .u64 t.1).wf = true ∧ (Lit.int .u64 t.2.1).wf = true ∧ (Lit.int .i64 t.2.2).wf = true

set_option maxRecDepth 100000 in
theorem thing_cells {H : Type} {enc : TypeId × Value → H} {w : World} {base : Nat} {sp : Nat → Bool} {held : Bool} {fuel : Nat} {cs : List Value} {x : DataW H × List MemPlace}
    (h : DataW.trod enc Tryd.prog w base sp held fuel 27 cs = some x) :
    ∃ t : Th, cs = [.int .u64 t.1, .int .u64 t.2.1, .int .i64 t.2.2] ∧ ThOk t := by
  obtain ⟨xs, n, _, _, hlen, hxl, hg⟩ := DataW.trod_struct Tryd.underlying27 h
  rw [cellsThing] at hlen
  match cs, hlen with
  | [c0, c1, c2], _ =>
    have g0 := hg 0 _ rfl
    have g1 := hg 1 _ rfl
    have g2 := hg 2 _ rfl
    simp [cellsI64, cellsU64] at g0 g1 g2
    have hx2 : xs.length = 3 := hxl
    rw [List.getElem?_eq_getElem (by omega)] at g0 g1 g2
    obtain ⟨f, e0, _, w0⟩ := DataW.trod_int Tryd.underlying25 g0
    obtain ⟨t, e1, _, w1⟩ := DataW.trod_int Tryd.underlying25 g1
    obtain ⟨u, e2, _, w2⟩ := DataW.trod_int Tryd.underlying2 g2
    simp only [List.cons.injEq, and_true] at e0 e1 e2
    subst e0 e1 e2
    exact ⟨(f, t, u), rfl, w0, w1, w2⟩
set_option maxRecDepth 100000 in
theorem things_in {H : Type} {enc : TypeId × Value → H} {w : World} {base : Nat} {sp : Nat → Bool} {held : Bool} {fuel : Nat} {a : Option Addr} {n cap : Nat} {x : DataW H × List MemPlace}
    (h : DataW.trod enc Tryd.prog w base sp held fuel 22 (Value.slice a n cap).cells.toList = some x) :
    ∃ l : List Th, l.length = n ∧ TS w a l ∧ (a = none → l = [] ∧ cap = 0) ∧ n ≤ maxLen ∧ ∀ t ∈ l, ThOk t := by
  rcases Deep.open_slice Tryd.underlying22 h with ⟨hcs, _⟩ | ⟨x, l, c, m, nn, D, Pl, hcs, _, hl, hm, hmm, _, hi⟩
  · simp [Value.cells] at hcs
    obtain ⟨rfl, rfl, rfl⟩ := hcs
    exact ⟨[], rfl, fun k hk => by simp at hk, fun _ => ⟨rfl, rfl⟩, by unfold maxLen; omega, by simp⟩
  · simp [Value.cells] at hcs
    obtain ⟨rfl, rfl, rfl⟩ := hcs
    have hlm : n ≤ m := by rw [hmm]; split <;> omega
    have hex : 0 < n → x = ⟨x.block, x.off, none⟩ := by
      intro h0
      obtain ⟨cs', hc, ht⟩ := hi 0 (by omega)
      obtain ⟨t, rfl, _⟩ := thing_cells ht
      rw [cellsThing] at hc
      obtain ⟨_, hcl, hat⟩ := World.cells?_some hc
      have e0 := cell_spot3 ((hat 0 (by omega)).trans (List.getElem?_cons_zero))
      rw [Deep.add_add] at e0
      cases x; simp [Addr.add] at e0; simp [e0]
    have key : ∀ i, i < n → ∃ t : Th, (x = ⟨x.block, x.off, none⟩ ∧ w.cell? ⟨x.block, x.off + i * 3, none⟩ = some (.int .u64 t.1) ∧ w.cell? ⟨x.block, x.off + i * 3 + 1, none⟩ = some (.int .u64 t.2.1) ∧ w.cell? ⟨x.block, x.off + i * 3 + 2, none⟩ = some (.int .i64 t.2.2)) ∧ ThOk t := by
      intro i hil
      obtain ⟨cs', hc, ht⟩ := hi i (by omega)
      obtain ⟨t, rfl, ok⟩ := thing_cells ht
      rw [cellsThing] at hc
      obtain ⟨_, hcl, hat⟩ := World.cells?_some hc
      have ex := hex (by omega)
      refine ⟨t, ⟨ex, ?_, ?_, ?_⟩, ok⟩
      · have h1 := hat 0 (by omega)
        rw [Deep.add_add, ex, add_at3, ← Nat.add_assoc] at h1
        exact h1
      · have h1 := hat 1 (by omega)
        rw [Deep.add_add, ex, add_at3, ← Nat.add_assoc] at h1
        exact h1
      · have h1 := hat 2 (by omega)
        rw [Deep.add_add, ex, add_at3, ← Nat.add_assoc] at h1
        exact h1
    obtain ⟨f, hf⟩ := Deep.choose_lt key
    refine ⟨(List.range n).map f, by simp, fun k hk => ?_, fun e => (by cases e), by unfold maxLen at *; omega, fun t ht => ?_⟩
    · have hk' : k < n := by simpa using hk
      obtain ⟨⟨ex, c0, c1, c2⟩, _⟩ := hf k hk'
      refine ⟨x.block, x.off, by rw [← ex], ?_⟩
      simp only [List.getElem_map, List.getElem_range]
      exact ⟨c0, c1, c2⟩
    · obtain ⟨k, hk, rfl⟩ := List.mem_map.1 ht
      exact (hf k (by simpa using hk)).2
/- A wheel that calls made: what holds between them; Arm in general. -/
open Go.RowKit

/-- A wheel between calls: its instant, what waits where, whose blocks are all from B on. -/
structure WI (B : Nat) (w : World) (D : WD) (a : Nat) : Prop where
  wl : Wl w D
  now : D.now = (a : Int)
  ha : a ≤ 1125899906842624
  pos : ∀ k, k < 4 → PosR a D k
  far : ∀ t ∈ D.BL, ∃ d : Nat, t.2.2 = (d : Int) ∧ d ≤ 1125899906842624 ∧ lvN a d = 4
  ids : ∀ t ∈ D.things, IdOk t.1
  nd : (D.things.map (·.1)).Nodup
  few : D.things.length ≤ 256
  base : ∀ g, D.fp g → B ≤ g

theorem WI.only {X : Nat → Prop} {B a : Nat} {w w' : World} {D : WD} (h : WI B w D a) (ho : Only X w w') (hx : ∀ g, D.fp g → ¬ X g) : WI B w' D a :=
  ⟨h.wl.only ho hx, h.now, h.ha, h.pos, h.far, h.ids, h.nd, h.few, h.base⟩
theorem WI.below {B a : Nat} {w w' : World} {D : WD} (h : WI B w D a) (hb : Below w.heap.size w w') : WI B w' D a :=
  ⟨h.wl.below hb, h.now, h.ha, h.pos, h.far, h.ids, h.nd, h.few, h.base⟩
theorem WI.free {B a : Nat} {w : World} {D : WD} (_ : WI B w D a) {x : Int} (hx : ∀ t ∈ D.things, t.1 ≠ x) : D.free x :=
  fun k hk s hs v hv => hx v (mem_things.2 (.inl ⟨k, hk, s, hs, hv⟩))
theorem WI.freeB {B a : Nat} {w : World} {D : WD} (_ : WI B w D a) {x : Int} (hx : ∀ t ∈ D.things, t.1 ≠ x) : ∀ t ∈ D.BL, t.1 ≠ x :=
  fun v hv => hx v (mem_things.2 (.inr hv))
/-- In a row without doubles an entry has one place. -/
theorem nd_at {l : List Int} (h : l.Nodup) {i j : Nat} (hi : i < l.length) (hj : j < l.length) (e : l[i] = l[j]) : i = j := by
  have hp := List.pairwise_iff_getElem.1 h
  rcases Nat.lt_trichotomy i j with h1 | h1 | h1
  · exact absurd e (hp i j hi hj h1)
  · exact h1
  · exact absurd e.symm (hp j i hj hi h1)
theorem nd_perm {l l' : List Th} (h : l.Perm l') (hn : (l'.map (fun t : Th => t.1)).Nodup) : (l.map (fun t : Th => t.1)).Nodup := ((h.map (fun t : Th => t.1)).nodup_iff).2 hn
theorem nd_snoc {l : List Th} {t : Th} (h : (l.map (fun t : Th => t.1)).Nodup) (hn : ∀ u ∈ l, u.1 ≠ t.1) : ((l ++ [t]).map (fun t : Th => t.1)).Nodup := by
  rw [List.map_append]
  refine List.nodup_append.2 ⟨h, by simp, ?_⟩
  intro x hx y hy e
  obtain ⟨u, hu, rfl⟩ := List.mem_map.1 hx
  simp only [List.map_cons, List.map_nil, List.mem_singleton] at hy
  exact hn u hu (e.trans hy)
theorem nd_left {l l' : List Th} (h : ((l ++ l').map (fun t : Th => t.1)).Nodup) : (l.map (fun t : Th => t.1)).Nodup ∧ (l'.map (fun t : Th => t.1)).Nodup := by
  rw [List.map_append] at h
  exact ⟨(List.nodup_append.1 h).1, (List.nodup_append.1 h).2.1⟩
/-- Two that wait with one ID are one. -/
theorem nd_eq {l : List Th} (h : (l.map (·.1)).Nodup) {t u : Th} (ht : t ∈ l) (hu : u ∈ l) (e : t.1 = u.1) : t = u := by
  obtain ⟨i, hi, rfl⟩ := List.mem_iff_getElem.1 ht
  obtain ⟨j, hj, rfl⟩ := List.mem_iff_getElem.1 hu
  have := nd_at h (i := i) (j := j) (by simpa using hi) (by simpa using hj) (by simpa using e)
  subst this
  rfl
/-- Where a thing that waits does: no earlier ring knows it, nor anything ahead of it. -/
theorem ringL_two {S : Nat → List Th} {n s s2 i j : Nat} (h : ((ringL S n).map (·.1)).Nodup) (hs : s < n) (hs2 : s2 < n) (hi : i < (S s).length) (hj : j < (S s2).length) (e : ((S s)[i]).1 = ((S s2)[j]).1) : s = s2 ∧ i = j := by
  induction n with
  | zero => omega
  | succ n ih =>
    have hr : ringL S (n + 1) = ringL S n ++ S n := rfl
    rw [hr, List.map_append] at h
    obtain ⟨h1, h2, h3⟩ := List.nodup_append.1 h
    by_cases c1 : s < n
    · by_cases c2 : s2 < n
      · exact ih h1 c1 c2
      · obtain rfl : s2 = n := by omega
        exact absurd e (h3 _ (List.mem_map.2 ⟨_, mem_ringL.2 ⟨s, c1, List.getElem_mem hi⟩, rfl⟩) _ (List.mem_map.2 ⟨_, List.getElem_mem hj, rfl⟩))
    · obtain rfl : s = n := by omega
      by_cases c2 : s2 < s
      · exact absurd e.symm (h3 _ (List.mem_map.2 ⟨_, mem_ringL.2 ⟨s2, c2, List.getElem_mem hj⟩, rfl⟩) _ (List.mem_map.2 ⟨_, List.getElem_mem hi, rfl⟩))
      · obtain rfl : s2 = s := by omega
        refine ⟨rfl, ?_⟩
        exact nd_at h2 (i := i) (j := j) (by simpa using hi) (by simpa using hj) (by simpa using e)
/-- What waits: in which ring, or beyond. -/
inductive Wh (D : WD) (t : Th) : Prop where
  | ring (k s i : Nat) (hk : k < 4) (hs : s < 64) (hi : ((D.R k).S s)[i]? = some t) (hM : ∀ j, j < k → (D.R j).M t.1 = none)
  | far (i : Nat) (hi : D.BL[i]? = some t) (hM : ∀ j, j < 4 → (D.R j).M t.1 = none) (hB : ∀ u ∈ D.BL.take i, u.1 ≠ t.1)
theorem WI.where {B a : Nat} {w : World} {D : WD} (h : WI B w D a) {t : Th} (ht : t ∈ D.things) : Wh D t := by
  have noM : ∀ j, j < 4 → (∀ s, s < 64 → ∀ u ∈ (D.R j).S s, u.1 ≠ t.1) → (D.R j).M t.1 = none := fun j hj hu => Rn.nowhere (h.wl.rg j hj) hu
  have other : ∀ {k s : Nat}, k < 4 → s < 64 → t ∈ (D.R k).S s → ∀ j, j < 4 → j ≠ k → (D.R j).M t.1 = none := by
    intro k s hk hs hts j hj hjk
    refine noM j hj fun s2 hs2 u hu e => ?_
    obtain ⟨d1, e1, -, l1, -⟩ := h.pos k hk s hs t hts
    obtain ⟨d2, e2, -, l2, -⟩ := h.pos j hj s2 hs2 u hu
    have hut : u = t := nd_eq h.nd (mem_things.2 (.inl ⟨j, hj, s2, hs2, hu⟩)) ht e
    rw [hut, e1] at e2
    have : d1 = d2 := by omega
    subst this
    omega
  rcases mem_things.1 ht with ⟨k, hk, s, hs, hts⟩ | htB
  · obtain ⟨i, hi⟩ := List.getElem?_of_mem hts
    exact .ring k s i hk hs hi fun j hj => other hk hs hts j (by omega) (by omega)
  · obtain ⟨i, hi⟩ := List.getElem?_of_mem htB
    refine .far i hi (fun j hj => noM j hj fun s2 hs2 u hu e => ?_) fun u hu e => ?_
    · obtain ⟨d1, e1, -, l1⟩ := h.far t htB
      obtain ⟨d2, e2, -, l2, -⟩ := h.pos j hj s2 hs2 u hu
      have hut : u = t := nd_eq h.nd (mem_things.2 (.inl ⟨j, hj, s2, hs2, hu⟩)) ht e
      rw [hut, e1] at e2
      have : d1 = d2 := by omega
      subst this
      omega
    · have hndB : (D.BL.map (·.1)).Nodup := by
        have := h.nd
        unfold WD.things at this
        simp only [List.map_append] at this
        exact (List.nodup_append.1 (List.nodup_append.1 (List.nodup_append.1 (List.nodup_append.1 this).2.1).2.1).2.1).2.1
      obtain ⟨j, hj, rfl⟩ := List.mem_take_iff_getElem.1 hu
      obtain ⟨hil, hie⟩ := List.getElem?_eq_some_iff.1 hi
      have hjl : j < D.BL.length := by omega
      have hij := nd_at hndB (i := j) (j := i) (by simpa using hjl) (by simpa using hil) (by simp only [List.getElem_map]; rw [e, hie])
      omega
/-- Get in general. -/
theorem wget {B a : Nat} {D : WD} {w : World} (h : WI B w D a) {t : Th} (ht : t ∈ D.things) : Calls Tryd.prog 41 #[.pointer (some ⟨D.q, 0, none⟩), .int .u64 t.1] w fun e w' => e = .returned (.tuple #[.agg #[.int .u64 t.1, .int .u64 t.2.1, .int .i64 t.2.2], .bool true]) ∧ Below w.heap.size w w' := by
  rcases h.where ht with ⟨k, s, i, hk, hs, hi, hM⟩ | ⟨i, hi, hM, hB⟩
  · exact wget_ring D t w h.wl hk hs hi hM
  · exact wget_far D t w h.wl hi (h.ids t ht) hM hB
theorem wget_not {B a : Nat} {D : WD} {w : World} (h : WI B w D a) {x : Int} (hx : IdOk x) (ht : ∀ t ∈ D.things, t.1 ≠ x) : Calls Tryd.prog 41 #[.pointer (some ⟨D.q, 0, none⟩), .int .u64 x] w fun e w' => e = .returned (.tuple #[.agg #[.int .u64 0, .int .u64 0, .int .i64 0], .bool false]) ∧ Below w.heap.size w w' :=
  wget_none D x w h.wl hx (h.wl.notin (h.free ht)) (h.freeB ht)
/-- What Arm tells. -/
def armE (L : List Th) (t : Th) : Int := if InsB t.2.2 = false then 2 else if ∃ u ∈ L, u.1 = t.1 then 32 else if 256 ≤ L.length then 30 else 0

set_option maxRecDepth 100000 in
set_option maxHeartbeats 8000000 in
theorem warm_arg (D : WD) (t : Th) (w : World) (h : Wl w D) (hb : -9223372036854775808 ≤ t.2.2 ∧ t.2.2 ≤ 9223372036854775807) (hib : InsB t.2.2 = false) :
    Calls Tryd.prog 38 #[.pointer (some ⟨D.q, 0, none⟩), .agg #[.int .u64 t.1, .int .u64 t.2.1, .int .i64 t.2.2]] w fun e w' => e = .returned (.int .i64 2) ∧ Below w.heap.size w w' := by
  have mixed := insTh.mixed
  have hbA : Below w.heap.size w (w.alloc (.cells #[.int .u64 t.1, .int .u64 t.2.1, .int .i64 t.2.2] 27)) := (Below.refl _ _).alloc (Nat.le_refl _) _
  obtain ⟨T, hT⟩ : ∃ T, w.heap.size = T := ⟨_, rfl⟩
  have t0 : (w.alloc (.cells #[.int .u64 t.1, .int .u64 t.2.1, .int .i64 t.2.2] 27)).cell? ⟨T, 0, none⟩ = some (.int .u64 t.1) := World.cell?_alloc_at _ _ _ _ hT.symm
  have t1 : (w.alloc (.cells #[.int .u64 t.1, .int .u64 t.2.1, .int .i64 t.2.2] 27)).cell? ⟨T, 1, none⟩ = some (.int .u64 t.2.1) := World.cell?_alloc_at _ _ _ _ hT.symm
  have t2 : (w.alloc (.cells #[.int .u64 t.1, .int .u64 t.2.1, .int .i64 t.2.2] 27)).cell? ⟨T, 2, none⟩ = some (.int .i64 t.2.2) := World.cell?_alloc_at _ _ _ _ hT.symm
  have hc := wcreated D _ (h.below hbA)
  have hin := winstant t.2.2 (w.alloc (.cells #[.int .u64 t.1, .int .u64 t.2.1, .int .i64 t.2.2] 27)) hb
  rw [hib] at hin
  clear hib hb
  go_enter Tryd.func38, Tryd.ntmps38
  go_wp2_with fail
  generalize w.alloc (.cells #[.int .u64 t.1, .int .u64 t.2.1, .int .i64 t.2.2] 27) = W1 at hbA t0 t1 t2 hc hin ⊢
  go_wp2_with (first
    | (go_at_call 82; (with_reducible refine hc.mono ?_); rintro e w2 ⟨rfl, rfl⟩)
    | (go_at_call 78; (with_reducible refine hin.mono ?_); rintro e w2 ⟨rfl, rfl⟩))
  go_ret
  exact ⟨rfl, hbA⟩

set_option maxRecDepth 100000 in
set_option maxHeartbeats 8000000 in
theorem warm_there (D : WD) (B a : Nat) (t u : Th) (w : World) (h : WI B w D a) (hib : InsB t.2.2 = true) (hu : u ∈ D.things) (e1 : u.1 = t.1) :
    Calls Tryd.prog 38 #[.pointer (some ⟨D.q, 0, none⟩), .agg #[.int .u64 t.1, .int .u64 t.2.1, .int .i64 t.2.2]] w fun e w' => e = .returned (.int .i64 32) ∧ Below w.heap.size w w' := by
  have mixed := insTh.mixed
  have hbA : Below w.heap.size w (w.alloc (.cells #[.int .u64 t.1, .int .u64 t.2.1, .int .i64 t.2.2] 27)) := (Below.refl _ _).alloc (Nat.le_refl _) _
  obtain ⟨T, hT⟩ : ∃ T, w.heap.size = T := ⟨_, rfl⟩
  have t0 : (w.alloc (.cells #[.int .u64 t.1, .int .u64 t.2.1, .int .i64 t.2.2] 27)).cell? ⟨T, 0, none⟩ = some (.int .u64 t.1) := World.cell?_alloc_at _ _ _ _ hT.symm
  have t1 : (w.alloc (.cells #[.int .u64 t.1, .int .u64 t.2.1, .int .i64 t.2.2] 27)).cell? ⟨T, 1, none⟩ = some (.int .u64 t.2.1) := World.cell?_alloc_at _ _ _ _ hT.symm
  have t2 : (w.alloc (.cells #[.int .u64 t.1, .int .u64 t.2.1, .int .i64 t.2.2] 27)).cell? ⟨T, 2, none⟩ = some (.int .i64 t.2.2) := World.cell?_alloc_at _ _ _ _ hT.symm
  have hA := h.below hbA
  have hc := wcreated D _ hA.wl
  have hin := winstant t.2.2 (w.alloc (.cells #[.int .u64 t.1, .int .u64 t.2.1, .int .i64 t.2.2] 27)) (by unfold InsB at hib; have := of_decide_eq_true hib; omega)
  rw [hib] at hin
  have hg := wget hA hu
  rw [e1] at hg
  clear hib hu e1 h hA
  go_enter Tryd.func38, Tryd.ntmps38
  go_wp2_with fail
  generalize w.alloc (.cells #[.int .u64 t.1, .int .u64 t.2.1, .int .i64 t.2.2] 27) = W1 at hbA t0 t1 t2 hc hin hg ⊢
  have HBA := Lib.hid hbA
  clear hbA
  go_wp2_with (first
    | (go_at_call 82; (with_reducible refine hc.mono ?_); rintro e w2 ⟨rfl, rfl⟩)
    | (go_at_call 78; (with_reducible refine hin.mono ?_); rintro e w2 ⟨rfl, rfl⟩))
  refine hg.mono ?_
  rintro e w3 ⟨rfl, hb3⟩
  have b4 := Lib.hid (HBA.out.trans ((hb3.alloc hb3.size (.cells #[.int .u64 u.1, .int .u64 u.2.1, .int .i64 u.2.2] 27)).mono HBA.out.size))
  have b5 := Lib.hid (HBA.out.trans ((hb3.alloc hb3.size (.cells #[.int .u64 t.1, .int .u64 u.2.1, .int .i64 u.2.2] 27)).mono HBA.out.size))
  clear hg hc hin hb3
  go_wp2_with fail
  go_ret
  first
    | exact ⟨rfl, b4.out⟩
    | exact ⟨rfl, b5.out⟩

set_option maxRecDepth 100000 in
set_option maxHeartbeats 8000000 in
theorem warm_full (D : WD) (B a : Nat) (t : Th) (w : World) (h : WI B w D a) (hx : IdOk t.1) (hib : InsB t.2.2 = true) (hn : ∀ u ∈ D.things, u.1 ≠ t.1) (hf : 256 ≤ D.things.length) :
    Calls Tryd.prog 38 #[.pointer (some ⟨D.q, 0, none⟩), .agg #[.int .u64 t.1, .int .u64 t.2.1, .int .i64 t.2.2]] w fun e w' => e = .returned (.int .i64 30) ∧ Below w.heap.size w w' := by
  have mixed := insTh.mixed
  have hbA : Below w.heap.size w (w.alloc (.cells #[.int .u64 t.1, .int .u64 t.2.1, .int .i64 t.2.2] 27)) := (Below.refl _ _).alloc (Nat.le_refl _) _
  obtain ⟨T, hT⟩ : ∃ T, w.heap.size = T := ⟨_, rfl⟩
  have t0 : (w.alloc (.cells #[.int .u64 t.1, .int .u64 t.2.1, .int .i64 t.2.2] 27)).cell? ⟨T, 0, none⟩ = some (.int .u64 t.1) := World.cell?_alloc_at _ _ _ _ hT.symm
  have t1 : (w.alloc (.cells #[.int .u64 t.1, .int .u64 t.2.1, .int .i64 t.2.2] 27)).cell? ⟨T, 1, none⟩ = some (.int .u64 t.2.1) := World.cell?_alloc_at _ _ _ _ hT.symm
  have t2 : (w.alloc (.cells #[.int .u64 t.1, .int .u64 t.2.1, .int .i64 t.2.2] 27)).cell? ⟨T, 2, none⟩ = some (.int .i64 t.2.2) := World.cell?_alloc_at _ _ _ _ hT.symm
  have hA := h.below hbA
  have hc := wcreated D _ hA.wl
  have hin := winstant t.2.2 (w.alloc (.cells #[.int .u64 t.1, .int .u64 t.2.1, .int .i64 t.2.2] 27)) (by unfold InsB at hib; have := of_decide_eq_true hib; omega)
  rw [hib] at hin
  have hg := wget_not hA hx hn
  have HL := Lib.hid (fun W (hW : Wl W D) => wlen D W hW)
  have hfz : (256 : Int) ≤ (D.all : Int) := by rw [D.all_things]; omega
  have HA := Lib.hid hA.wl
  clear hib hx hn h hA hf
  go_enter Tryd.func38, Tryd.ntmps38
  go_wp2_with fail
  generalize w.alloc (.cells #[.int .u64 t.1, .int .u64 t.2.1, .int .i64 t.2.2] 27) = W1 at hbA t0 t1 t2 hc hin hg HA ⊢
  have HBA := Lib.hid hbA
  clear hbA
  go_wp2_with (first
    | (go_at_call 82; (with_reducible refine hc.mono ?_); rintro e w2 ⟨rfl, rfl⟩)
    | (go_at_call 78; (with_reducible refine hin.mono ?_); rintro e w2 ⟨rfl, rfl⟩))
  refine hg.mono ?_
  rintro e w3 ⟨rfl, hb3⟩
  have b4 := (hb3.alloc hb3.size (.cells #[.int .u64 0, .int .u64 0, .int .i64 0] 27))
  clear hg hc hin hb3
  go_wp2_with fail
  generalize w3.alloc (.cells #[.int .u64 0, .int .u64 0, .int .i64 0] 27) = w4 at b4 ⊢
  have hw4 := HA.out.below b4
  have HB4 := Lib.hid b4
  refine (HL.out _ hw4).mono ?_
  rintro e w5 ⟨rfl, hb5⟩
  have HB5 := Lib.hid (HBA.out.trans ((HB4.out.trans (hb5.mono HB4.out.size)).mono HBA.out.size))
  clear hb5 b4
  go_wp2_with fail
  go_ret
  exact ⟨rfl, HB5.out⟩

theorem WI.plc {B a b : Nat} {w w' : World} {D D' : WD} {t : Th} (h : WI B w D a) (hB : B ≤ w.heap.size) (hp : Plc D a b t D') (hw : Wl w' D') (hf : ∀ g, D'.fp g → D.fp g ∨ w.heap.size ≤ g) (hd : t.2.2 = (b : Int)) (hb : b ≤ 1125899906842624) (hx : IdOk t.1) (hn : ∀ u ∈ D.things, u.1 ≠ t.1) (hl : D.things.length < 256) : WI B w' D' a := by
  have hpt := hp.things
  refine ⟨hw, hp.parts.2.1.trans h.now, h.ha, fun k hk => hp.pos hd hb hk (h.pos k hk), ?_, ?_, ?_, ?_, ?_⟩
  · rcases hp.BL with e | ⟨l4, e⟩
    · rw [e]; exact h.far
    · rw [e]
      intro u hu
      rcases List.mem_append.1 hu with hu | hu
      · exact h.far u hu
      · rw [List.mem_singleton.1 hu]; exact ⟨b, hd, hb, l4⟩
  · intro u hu
    rcases List.mem_append.1 (hpt.mem_iff.1 hu) with hu | hu
    · exact h.ids u hu
    · rw [List.mem_singleton.1 hu]; exact hx
  · exact nd_perm hpt (nd_snoc h.nd hn)
  · rw [hpt.length_eq, List.length_append]; simp; omega
  · intro g hg
    rcases hf g hg with h1 | h1
    · exact h.base g h1
    · omega
/-- Arm in general. -/
theorem warm {B a : Nat} {D : WD} {w : World} (h : WI B w D a) (hB : B ≤ w.heap.size) (t : Th) (hx : IdOk t.1) (ht : -9223372036854775808 ≤ t.2.2 ∧ t.2.2 ≤ 9223372036854775807) :
    Calls Tryd.prog 38 #[.pointer (some ⟨D.q, 0, none⟩), .agg #[.int .u64 t.1, .int .u64 t.2.1, .int .i64 t.2.2]] w fun e w' => e = .returned (.int .i64 (armE D.things t)) ∧ ∃ D', WI B w' D' a ∧ D'.q = D.q ∧ D'.things.Perm (if armE D.things t = 0 then D.things ++ [t] else D.things) ∧ Only D.fp w w' ∧ ∀ g, D'.fp g → D.fp g ∨ w.heap.size ≤ g := by
  cases hib : InsB t.2.2 with
  | false =>
    have e0 : armE D.things t = 2 := by unfold armE; rw [if_pos hib]
    refine (warm_arg D t w h.wl ht hib).mono ?_
    rintro e w' ⟨rfl, hb⟩
    rw [e0]
    exact ⟨rfl, D, h.below hb, rfl, by rw [if_neg (by decide)], Only.below hb, fun g hg => .inl hg⟩
  | true =>
    by_cases hth : ∃ u ∈ D.things, u.1 = t.1
    · have e0 : armE D.things t = 32 := by unfold armE; rw [if_neg (by rw [hib]; decide), if_pos hth]
      obtain ⟨u, hu, e1⟩ := hth
      refine (warm_there D B a t u w h hib hu e1).mono ?_
      rintro e w' ⟨rfl, hb⟩
      rw [e0]
      exact ⟨rfl, D, h.below hb, rfl, by rw [if_neg (by decide)], Only.below hb, fun g hg => .inl hg⟩
    · have hn : ∀ u ∈ D.things, u.1 ≠ t.1 := fun u hu e => hth ⟨u, hu, e⟩
      by_cases hf : 256 ≤ D.things.length
      · have e0 : armE D.things t = 30 := by unfold armE; rw [if_neg (by rw [hib]; decide), if_neg hth, if_pos hf]
        refine (warm_full D B a t w h hx hib hn hf).mono ?_
        rintro e w' ⟨rfl, hb⟩
        rw [e0]
        exact ⟨rfl, D, h.below hb, rfl, by rw [if_neg (by decide)], Only.below hb, fun g hg => .inl hg⟩
      · have e0 : armE D.things t = 0 := by unfold armE; rw [if_neg (by rw [hib]; decide), if_neg hth, if_neg hf]
        have hr : 0 ≤ t.2.2 ∧ t.2.2 ≤ 1125899906842624 := by unfold InsB at hib; exact of_decide_eq_true hib
        obtain ⟨b, hb⟩ : ∃ b : Nat, t.2.2 = (b : Int) := ⟨t.2.2.toNat, by omega⟩
        have hb2 : b ≤ 1125899906842624 := by omega
        have hlt : D.things.length < 256 := by omega
        have hw := warm_in D a b t w h.wl h.now hb h.ha hb2 hx (h.wl.notin (h.free hn)) (h.freeB hn) (by rw [D.all_things]; exact hlt)
        rw [hb]
        refine hw.mono ?_
        rintro e w' ⟨rfl, D', h1, h2, h3, h4⟩
        rw [e0, if_pos rfl]
        exact ⟨rfl, D', h.plc hB h1 h2 h4 hb hb2 hx hn hlt, h1.parts.1, h1.things, h3, h4⟩
/- Advance over what holds between calls; rows of integers that came in. -/
open Go.RowKit

theorem PosR.after {u k : Nat} {D : WD} (h : PosR u D k) (hk : k < 4) {s : Nat} (hs : s < 64) {t : Th} (ht : t ∈ (D.R k).S s) : (u : Int) < t.2.2 := by
  obtain ⟨d, e, _, l, _⟩ := h s hs t ht
  rw [e]
  have : ¬ d ≤ u := fun hd => by have := lvN_late u d hd; omega
  omega
theorem WI.dues {B a : Nat} {w : World} {D : WD} (h : WI B w D a) : ∀ t ∈ D.things, ∃ d : Nat, t.2.2 = (d : Int) ∧ d ≤ 1125899906842624 := by
  intro t ht
  rcases mem_things.1 ht with ⟨k, hk, s, hs, hts⟩ | htB
  · obtain ⟨d, e, h2, _⟩ := h.pos k hk s hs t hts
    exact ⟨d, e, h2⟩
  · obtain ⟨d, e, h2, _⟩ := h.far t htB
    exact ⟨d, e, h2⟩
/-- What an advance gives. -/
structure Advd (B : Nat) (w w' : World) (D D' : WD) (u : Nat) (v : Value) (L : List Th) : Prop where
  wi : WI B w' D' u
  row : OT w' w.heap.size v (srt ltT zT L)
  q : D'.q = D.q
  due : ∀ t ∈ L, t.2.2 ≤ (u : Int)
  late : ∀ t ∈ D'.things, (u : Int) < t.2.2
  perm : (D'.things ++ L).Perm D.things
  only : Only D.fp w w'
  fps : ∀ g, D'.fp g → D.fp g ∨ w.heap.size ≤ g
  own : ∀ g, v.ownBlock = some g → ¬ D'.fp g
theorem wadv {B a u : Nat} {D : WD} {w : World} (h : WI B w D a) (hT : Tab w) (hB0 : 0 < B) (hB : B ≤ w.heap.size) (hau : a ≤ u) (hu : u ≤ 1125899906842624) :
    Calls Tryd.prog 39 #[.pointer (some ⟨D.q, 0, none⟩), .int .i64 u] w fun e w' => ∃ v D' L, e = .returned (.tuple #[v, .int .i64 0]) ∧ Advd B w w' D D' u v L := by
  refine (wadvance D a u w h.wl hT (fun hz => by have := h.base 0 hz; omega) h.now hau hu h.pos (fun t ht => by obtain ⟨d, e, h2, _⟩ := h.far t ht; exact ⟨d, e, h2⟩) h.ids h.nd (by rw [D.all_things]; have := h.few; omega)).mono ?_
  rintro e w' ⟨v, D', L, he, h1, h2, h3, h4, h5, h6, h7, h8, -, h10, h11, h12⟩
  have hlate : ∀ t ∈ D'.things, (u : Int) < t.2.2 := by
    intro t ht
    rcases mem_things.1 ht with ⟨k, hk, s, hs, hts⟩ | htB
    · exact (h5 k hk).after hk hs hts
    · obtain ⟨d, e, _, hd, _⟩ := h6 t htB
      omega
  refine ⟨v, D', L, he, ⟨⟨h1, h4, hu, h5, ?_, ?_, ?_, ?_, ?_⟩, h2, h3, h7, hlate, h8, h10, h11, h12⟩⟩
  · intro t ht
    obtain ⟨d, e, hd, _, hl⟩ := h6 t ht
    exact ⟨d, e, hd, hl⟩
  · exact fun t ht => h.ids t (h8.mem_iff.1 (List.mem_append_left _ ht))
  · exact (nd_left (nd_perm h8 h.nd)).1
  · have h1 := h8.length_eq
    rw [List.length_append] at h1
    have h2 := h.few
    omega
  · intro g hg
    rcases h11 g hg with h | h'
    · exact WI.base ‹_› g h
    · omega
theorem Advd.nodup {B u a : Nat} {w w' : World} {D D' : WD} {v : Value} {L : List Th} (h : Advd B w w' D D' u v L) (h0 : WI B w D a) : (L.map (·.1)).Nodup := by
  exact (nd_left (nd_perm h.perm h0.nd)).2

/-- A row of integers that can be read. -/
def IS (w : World) (a : Option Addr) (l : List Int) : Prop := ∀ k (hk : k < l.length), ∃ B o, a = some ⟨B, o, none⟩ ∧ w.cell? ⟨B, o + k, none⟩ = some (.int .i64 (l[k]))
theorem IS.below {w w' : World} {a : Option Addr} {l : List Int} (h : IS w a l) (hb : Below w.heap.size w w') : IS w' a l := fun k hk => by
  obtain ⟨B, o, ha, c0⟩ := h k hk
  have hB : B < w.heap.size := by have := cell_lt c0; exact this
  exact ⟨B, o, ha, (hb.cell (p := ⟨B, _, none⟩) hB).trans c0⟩
set_option maxRecDepth 100000 in
theorem ints_in {H : Type} {enc : TypeId × Value → H} {w : World} {base : Nat} {sp : Nat → Bool} {held : Bool} {fuel : Nat} {a : Option Addr} {n cap : Nat} {x : DataW H × List MemPlace}
    (h : DataW.trod enc Tryd.prog w base sp held fuel 68 (Value.slice a n cap).cells.toList = some x) :
    ∃ l : List Int, l.length = n ∧ IS w a l ∧ n ≤ maxLen ∧ ∀ t ∈ l, -9223372036854775808 ≤ t ∧ t ≤ 9223372036854775807 := by
  rcases Deep.open_slice Tryd.underlying68 h with ⟨hcs, _⟩ | ⟨x, l, c, m, nn, D, Pl, hcs, _, hl, hm, hmm, _, hi⟩
  · simp [Value.cells] at hcs
    obtain ⟨rfl, rfl, rfl⟩ := hcs
    exact ⟨[], rfl, fun k hk => by simp at hk, by unfold maxLen; omega, by simp⟩
  · simp [Value.cells] at hcs
    obtain ⟨rfl, rfl, rfl⟩ := hcs
    have hlm : n ≤ m := by rw [hmm]; split <;> omega
    have one : ∀ {cs : List Value} {y : DataW H × List MemPlace} {f : Nat}, DataW.trod enc Tryd.prog w base sp held f 2 cs = some y → ∃ z : Int, cs = [.int .i64 z] ∧ (Lit.int .i64 z).wf = true := by
      intro cs y f hy
      obtain ⟨f, e0, _, w0⟩ := DataW.trod_int Tryd.underlying2 hy
      exact ⟨f, e0, w0⟩
    have hex : 0 < n → x = ⟨x.block, x.off, none⟩ := by
      intro h0
      obtain ⟨cs', hc, ht⟩ := hi 0 (by omega)
      obtain ⟨t, rfl, _⟩ := one ht
      rw [cellsI64] at hc
      obtain ⟨_, hcl, hat⟩ := World.cells?_some hc
      have e0 := cell_spot3 ((hat 0 (by omega)).trans (List.getElem?_cons_zero))
      rw [Deep.add_add] at e0
      cases x; simp [Addr.add] at e0; simp [e0]
    have key : ∀ i, i < n → ∃ t : Int, (x = ⟨x.block, x.off, none⟩ ∧ w.cell? ⟨x.block, x.off + i, none⟩ = some (.int .i64 t)) ∧ -9223372036854775808 ≤ t ∧ t ≤ 9223372036854775807 := by
      intro i hil
      obtain ⟨cs', hc, ht⟩ := hi i (by omega)
      obtain ⟨t, rfl, ok⟩ := one ht
      rw [cellsI64] at hc
      obtain ⟨_, hcl, hat⟩ := World.cells?_some hc
      have ex := hex (by omega)
      have bt := bounds_i64 ok
      refine ⟨t, ⟨ex, ?_⟩, by omega⟩
      have h1 := hat 0 (by omega)
      rw [Deep.add_add, ex, add_at3] at h1
      simpa using h1
    obtain ⟨f, hf⟩ := Deep.choose_lt key
    refine ⟨(List.range n).map f, by simp, fun k hk => ?_, by unfold maxLen at *; omega, fun t ht => ?_⟩
    · have hkn : k < n := by simpa using hk
      obtain ⟨⟨h1, h2⟩, _⟩ := hf k hkn
      refine ⟨x.block, x.off, by rw [← h1], ?_⟩
      simpa using h2
    · obtain ⟨i, hi', rfl⟩ := List.mem_map.1 ht
      exact (hf i (by simpa using hi')).2
end Go.Proofs.YtfclmbneimbmnaaDoor
