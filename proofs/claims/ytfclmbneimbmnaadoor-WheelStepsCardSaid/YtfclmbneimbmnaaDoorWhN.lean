import Derived.Test.YtfclmbneimbmnaaDoorWhJ
namespace Go.Proofs.YtfclmbneimbmnaaDoor
open Go.RowKit
/- Advance: one slot taken and moved. -/

theorem ringL_len (S : Nat → List Th) : ∀ n, (ringL S n).length = tot S n
  | 0 => rfl
  | n + 1 => by
    show (ringL S n ++ S n).length = _
    rw [List.length_append, ringL_len S n]
    simp only [tot]
theorem WD.all_things (D : WD) : D.all = D.things.length := by
  unfold WD.all WD.things WD.n
  simp only [List.length_append, ringL_len]
  omega
theorem Plc.r {D D' : WD} {a b : Nat} {t : Th} (h : Plc D a b t D') : ∀ j, (D'.R j).r = (D.R j).r := by
  intro j
  rcases h with ⟨hl, v, rfl⟩ | ⟨hl, E, er, _, _, rfl⟩
  · rfl
  · have hU : (D.ring (lvN a b) E).R j = if j = lvN a b then E else D.R j := rfl
    rw [hU]
    by_cases e : j = lvN a b
    · rw [if_pos e, e]; exact er
    · rw [if_neg e]
theorem Mvd.r {u : Nat} : ∀ {l : List Th} {D D' : WD} {L L' : List Th}, Mvd u l D L D' L' → ∀ j, (D'.R j).r = (D.R j).r
  | [], D, D', L, L', h => by obtain ⟨rfl, rfl⟩ := h; exact fun _ => rfl
  | t :: l, D, D', L, L', h => by
    unfold Mvd at h
    by_cases e : t.2.2 ≤ (u : Int)
    · rw [if_pos e] at h; exact Mvd.r h
    · rw [if_neg e] at h
      obtain ⟨D1, hP, h⟩ := h
      exact fun j => (Mvd.r h j).trans (hP.r j)

/-- Advance on its way: D when it began, D1 now. -/
structure Adv (T a u k : Nat) (w wr : World) (D D1 : WD) (dv : Value) (L : List Th) : Prop where
  mv : Mv wr T (T + 1) (T + 2) T u D1 dv L
  onl : Only D.fp w wr
  fpn : ∀ g, MX (T + 2) D1 dv g → D.fp g ∨ T ≤ g
  way : Way a u k D1 L D.things
  q : D1.q = D.q
  rr : ∀ j, (D1.R j).r = (D.R j).r

/-- What may be moved. -/
theorem Adv.ready {T a u k s : Nat} {w wr w2 : World} {D D1 : WD} {dv : Value} {L l : List Th} {E : RD} (h : Adv T a u k w wr D D1 dv L) (hk : k < 4) (hs : s < 64) (hid : ∀ t ∈ D.things, IdOk t.1) (hnd : (D.things.map (·.1)).Nodup) (hfew : D.all < 80000)
    (hl : l.Perm ((D1.R k).S s)) (hE : E.has w2) (er : E.r = (D1.R k).r) (eS : E.S = upd (D1.R k).S s []) (ho : Only (D1.R k).fp wr w2) (hf : ∀ g, E.fp g → (D1.R k).fp g) :
    Mv w2 T (T + 1) (T + 2) T u (D1.ring k E) dv L ∧ (∀ t ∈ l, IdOk t.1 ∧ 0 ≤ t.2.2 ∧ t.2.2 ≤ 1125899906842624) ∧ (l.map (·.1)).Nodup ∧ (∀ t ∈ l, (D1.ring k E).free t.1) ∧ (D1.ring k E).all + L.length + l.length < 90000 ∧ (∀ g, (D1.ring k E).fp g → D1.fp g) := by
  have hring := things_ring D1 hk hs E [] eS
  rw [List.append_nil] at hring
  have p1 : ((D1.ring k E).things ++ l ++ L).Perm D.things := (((List.Perm.append_left _ hl).trans hring).append_right L).trans h.way.all
  have hnd1 : (((D1.ring k E).things ++ l ++ L).map (·.1)).Nodup := (p1.map _).nodup_iff.2 hnd
  rw [List.map_append, List.map_append] at hnd1
  have hnd2 := (List.nodup_append.1 hnd1).1
  have hnd3 := List.nodup_append.1 hnd2
  have hfp : ∀ g, (D1.ring k E).fp g → D1.fp g := fun g hg => by
    rcases WD.ring_fp (w := wr) (E := E) hk (fun g hg => .inl (hf g hg)) hg with h1 | h1
    · exact h1
    · exact absurd (h.mv.wl.lt (g := g) (by
        rcases hg with e | e | ⟨j, hj, e⟩
        · exact .inl e
        · exact .inr (.inl e)
        · have hU : (D1.ring k E).R j = if j = k then E else D1.R j := rfl
          rw [hU] at e
          by_cases ej : j = k
          · rw [if_pos ej] at e; subst ej; exact .inr (.inr ⟨j, hj, hf g e⟩)
          · rw [if_neg ej] at e; exact .inr (.inr ⟨j, hj, e⟩))) (by omega)
  refine ⟨h.mv.place (h.mv.wl.ring hk hE er ho (fun g hg => .inl (hf g hg))) (ho.more fun g hg => .inr (.inr ⟨k, hk, hg⟩)) (fun g hg => .inl (hfp g hg)) rfl rfl, fun t ht => ?_, hnd3.2.1, fun t ht j hj s' hs' v hv e => ?_, ?_, hfp⟩
  · obtain ⟨d, ed, hd, _⟩ := h.way.hi k (Nat.le_refl _) hk s hs t (hl.mem_iff.1 ht)
    exact ⟨hid t (p1.mem_iff.1 (by simp [ht])), by omega, by omega⟩
  · have hv2 : v ∈ (D1.ring k E).things := mem_things.2 (.inl ⟨j, hj, s', hs', hv⟩)
    exact hnd3.2.2 v.1 (List.mem_map_of_mem hv2) t.1 (List.mem_map_of_mem ht) e
  · have e1 := p1.length_eq
    rw [List.length_append, List.length_append] at e1
    have e2 := D.all_things
    have e3 := (D1.ring k E).all_things
    omega
/-- And what it becomes. -/
theorem Adv.moved {T a u k s : Nat} {w wr w2 w3 : World} {D D1 D2 : WD} {dv dv2 : Value} {L L2 l : List Th} {E : RD} (h : Adv T a u k w wr D D1 dv L) (hwT : w.heap.size = T) (hk : k < 4) (hs : s < 64) (hau : a ≤ u) (hlast : s ≤ lstN k a u) (hne : (D1.R k).S s ≠ [])
    (hl : l.Perm ((D1.R k).S s)) (er : E.r = (D1.R k).r) (eS : E.S = upd (D1.R k).S s []) (ho : Only (D1.R k).fp wr w2) (hfp : ∀ g, (D1.ring k E).fp g → D1.fp g) (hm : Mvd u l (D1.ring k E) L D2 L2) (h2 : Mv w3 T (T + 1) (T + 2) T u D2 dv2 L2) (o2 : Only (MX (T + 2) (D1.ring k E) dv) w2 w3) (f2 : ∀ g, MX (T + 2) D2 dv2 g → MX (T + 2) (D1.ring k E) dv g ∨ w2.heap.size ≤ g) (hq : D2.q = (D1.ring k E).q) :
    Adv T a u k w w3 D D2 dv2 L2 ∧ D2.n k < D1.n k := by
  obtain ⟨hw, eK⟩ := h.way.take (D1 := D1.ring k E) hk hs hau eS rfl hl hlast hm
  have mxs : ∀ g, MX (T + 2) (D1.ring k E) dv g → MX (T + 2) D1 dv g := fun g hg => hg.imp_left (hfp g)
  have s1 := h.onl.size
  have s2 := ho.size
  refine ⟨⟨h2, (h.onl.step ho (fun g hg => ?_)).step o2 (fun g hg => ?_), fun g hg => ?_, hw, hq.trans h.q, fun j => ?_⟩, ?_⟩
  · have := h.fpn g (.inl (.inr (.inr ⟨k, hk, hg⟩))); rw [hwT]; exact this
  · have := h.fpn g (mxs g hg); rw [hwT]; exact this
  · rcases f2 g hg with h1 | h1
    · exact h.fpn g (mxs g h1)
    · exact .inr (by omega)
  · rw [hm.r j]
    have hU : (D1.ring k E).R j = if j = k then E else D1.R j := rfl
    rw [hU]
    by_cases e : j = k
    · rw [if_pos e, er, ← e]; exact h.rr j
    · rw [if_neg e]; exact h.rr j
  · unfold WD.n
    rw [eK]
    have := tot_upd (D1.R k).S s [] 64 hs
    have h0 := List.length_pos_iff.2 hne
    rw [List.length_nil] at this
    omega
/- Advance: what lies beyond the rings. -/

/-- A wheel with nothing beyond its rings. -/
def WD.bare (D : WD) : WD := { D with bv := .slice none 0 0, BL := [] }
theorem WD.bare_fp {D : WD} {g : Nat} (h : D.bare.fp g) : D.fp g := by
  rcases h with h1 | h1 | h1
  · exact .inl h1
  · cases h1
  · exact .inr (.inr h1)
theorem WD.bare_things (D : WD) : D.bare.things ++ D.BL = D.things := by
  unfold WD.things WD.bare
  simp only [List.append_nil, List.append_assoc]
theorem OT.blockOf {w : World} {base : Nat} {v : Value} {l : List Th} {g o n c : Nat} {q : Option Nat} (h : OT w base v l) (hv : v = .slice (some ⟨g, o, q⟩) n c) : v.ownBlock = some g := by
  rcases h.2 with ⟨h1, _⟩ | ⟨g', cap, cur, h1, _⟩
  · have h2 := Value.slice.inj (h1.symm.trans hv)
    exact absurd h2.1 (by simp)
  · have h2 := Value.slice.inj (h1.symm.trans hv)
    have h3 := Addr.mk.inj (Option.some.inj h2.1)
    rw [h1]
    show some g' = some g
    rw [h3.1]
theorem Adv.far {T a u : Nat} {w wr : World} {D D1 : WD} {dv : Value} {L : List Th} (h : Adv T a u 4 w wr D D1 dv L) (hid : ∀ t ∈ D.things, IdOk t.1) (hnd : (D.things.map (·.1)).Nodup) (hfew : D.all < 80000) :
    Mv (wr.setCell ⟨D1.q, 5, none⟩ (.slice none 0 0)) T (T + 1) (T + 2) T u D1.bare dv L ∧ (∃ b c, D1.bv = .slice b D1.BL.length c ∧ TS (wr.setCell ⟨D1.q, 5, none⟩ (.slice none 0 0)) b D1.BL ∧ ∀ g o q, b = some ⟨g, o, q⟩ → ¬ MX (T + 2) D1.bare dv g) ∧
      (∀ t ∈ D1.BL, IdOk t.1 ∧ 0 ≤ t.2.2 ∧ t.2.2 ≤ 1125899906842624) ∧ (D1.BL.map (·.1)).Nodup ∧ (∀ t ∈ D1.BL, D1.bare.free t.1) ∧ D1.bare.all + L.length + D1.BL.length < 90000 ∧ Only D1.fp wr (wr.setCell ⟨D1.q, 5, none⟩ (.slice none 0 0)) := by
  have hb := D1.bare_things
  have p1 : (D1.bare.things ++ D1.BL ++ L).Perm D.things := by rw [hb]; exact h.way.all
  have hnd1 : ((D1.bare.things ++ D1.BL ++ L).map (·.1)).Nodup := (p1.map _).nodup_iff.2 hnd
  rw [List.map_append, List.map_append] at hnd1
  have hnd3 := List.nodup_append.1 (List.nodup_append.1 hnd1).1
  have o5 : Only (fun g => g = D1.q) wr (wr.setCell ⟨D1.q, 5, none⟩ (.slice none 0 0)) := (Only.refl _ wr).setCell _ _ rfl
  refine ⟨h.mv.clear, ?_, fun t ht => ?_, hnd3.2.1, fun t ht j hj s' hs' v hv e => ?_, ?_, o5.more fun g hg => .inl hg⟩
  · have hown := h.mv.wl.own
    obtain ⟨b, c, hv, hTS⟩ := hown.reads
    have hbo : ∀ g o q, b = some ⟨g, o, q⟩ → D1.bv.ownBlock = some g := fun g o q e => hown.blockOf (by rw [← e]; exact hv)
    refine ⟨b, c, hv, fun k hk => ?_, fun g o q e hg => ?_⟩
    · obtain ⟨Bp, o, e, c0, c1, c2⟩ := hTS k hk
      have hB : Bp < wr.heap.size := by have := cell_lt c0; exact this
      have nq : ¬ Bp = D1.q := fun e2 => h.mv.wl.ap3 (by rw [← e2]; exact hbo _ _ _ e)
      exact ⟨Bp, o, e, (o5.cell (p := ⟨Bp, _, none⟩) hB nq).trans c0, (o5.cell (p := ⟨Bp, _, none⟩) hB nq).trans c1, (o5.cell (p := ⟨Bp, _, none⟩) hB nq).trans c2⟩
    · have hg2 := hbo g o q e
      have hap := h.mv.ap g (.inr (.inl hg2))
      rcases hg with (h1 | h1 | ⟨k, hk, h1⟩) | h1 | h1
      · exact h.mv.wl.ap3 (by rw [hg2]; exact congrArg some h1)
      · cases h1
      · exact (h.mv.wl.ap2 k g hk h1).2 hg2
      · exact hap.2.1 h1
      · exact hap.2.2.2 h1
  · obtain ⟨d, ed, hd⟩ := h.way.bl t ht
    exact ⟨hid t (p1.mem_iff.1 (by simp [ht])), by omega, by omega⟩
  · have hv2 : v ∈ D1.bare.things := mem_things.2 (.inl ⟨j, hj, s', hs', hv⟩)
    exact hnd3.2.2 v.1 (List.mem_map_of_mem hv2) t.1 (List.mem_map_of_mem ht) e
  · have e1 := p1.length_eq
    rw [List.length_append, List.length_append] at e1
    have e2 := D.all_things
    have e3 := D1.bare.all_things
    omega
theorem Adv.fin {T a u : Nat} {w wr w3 : World} {D D1 D2 : WD} {dv dv2 : Value} {L L2 : List Th} (h : Adv T a u 4 w wr D D1 dv L) (hwT : w.heap.size = T) (hm : Mvd u D1.BL D1.bare L D2 L2) (h2 : Mv w3 T (T + 1) (T + 2) T u D2 dv2 L2) (o1 : Only D1.fp wr (wr.setCell ⟨D1.q, 5, none⟩ (.slice none 0 0))) (o3 : Only (MX (T + 2) D1.bare dv) (wr.setCell ⟨D1.q, 5, none⟩ (.slice none 0 0)) w3) (f3 : ∀ g, MX (T + 2) D2 dv2 g → MX (T + 2) D1.bare dv g ∨ (wr.setCell ⟨D1.q, 5, none⟩ (.slice none 0 0)).heap.size ≤ g) (hq : D2.q = D1.bare.q) :
    D2.q = D.q ∧ (∀ k, k < 4 → PosR u D2 k) ∧ (∀ t ∈ D2.BL, ∃ d : Nat, t.2.2 = (d : Int) ∧ d ≤ 1125899906842624 ∧ u < d ∧ lvN u d = 4) ∧ (∀ t ∈ L2, t.2.2 ≤ (u : Int)) ∧ (D2.things ++ L2).Perm D.things ∧ D2.all + L2.length = D.all ∧ Only D.fp w w3 ∧ (∀ g, MX (T + 2) D2 dv2 g → D.fp g ∨ w.heap.size ≤ g) := by
  have s1 := h.onl.size
  have s2 := o1.size
  have hlo := hm.lo (k := 5) (fun t ht => by
    obtain ⟨d, ed, hd⟩ := h.way.bl t ht
    exact ⟨d, ed, hd, fun _ => by have := lvN_max u d; omega⟩) (fun j _ hj4 => h.way.lo j hj4 hj4)
  have hp : (D2.things ++ L2).Perm D.things := by
    have p1 := hm.things
    have p2 : (D1.bare.things ++ L ++ D1.BL).Perm (D1.bare.things ++ D1.BL ++ L) := by
      rw [List.append_assoc, List.append_assoc]; exact List.Perm.append_left _ List.perm_append_comm
    rw [D1.bare_things] at p2
    exact p1.trans (p2.trans h.way.all)
  have mxs : ∀ g, MX (T + 2) D1.bare dv g → D.fp g ∨ T ≤ g := fun g hg => h.fpn g (hg.imp_left WD.bare_fp)
  refine ⟨hq.trans h.q, fun j hj => hlo.1 j (by omega) hj, fun t ht => ?_, fun t ht => ?_, hp, ?_, (h.onl.step o1 (fun g hg => ?_)).step o3 (fun g hg => ?_), fun g hg => ?_⟩
  · rcases hlo.2.2.2 t ht with h1 | h1
    · cases h1
    · exact h1
  · rcases hlo.2.2.1 t ht with h1 | h1
    · exact h.way.due t h1
    · exact h1
  · have := hp.length_eq
    rw [List.length_append] at this
    rw [D2.all_things, D.all_things, this]
  · rw [hwT]; exact h.fpn g (.inl hg)
  · rw [hwT]; exact mxs g hg
  · rcases f3 g hg with h1 | h1
    · rw [hwT]; exact mxs g h1
    · exact .inr (by omega)
end Go.Proofs.YtfclmbneimbmnaaDoor
