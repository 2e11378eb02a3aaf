/- The outbox: what stays so, as long as a law goes on. -/
import Derived.Test.YtnfpheccmjdpoaaObK
namespace Go.Proofs.Ytnfpheccmjdpoaa
/-- A box' notices beside the law's own numbers: how often each was tried, how each ended. -/
structure Inv (last : Int) (l : List Nt) (T O : Int → Int) : Prop where
  pos : 0 ≤ last
  srt : l.Pairwise (fun x y => x.id < y.id)
  ids : ∀ y ∈ l, 1 ≤ y.id ∧ y.id ≤ last
  trs : ∀ y ∈ l, T y.id = y.tr
  ovs : ∀ y ∈ l, O y.id = (if y.st = 1 then 0 else y.st)
  sts : ∀ y ∈ l, y.st = 1 ∨ y.st = 2 ∨ y.st = 3
  bnd : ∀ y ∈ l, (0 ≤ y.tr ∧ y.tr ≤ y.rt ∧ y.rt ≤ 8) ∧ (1 ≤ y.wt ∧ y.wt ≤ 1048576) ∧ 0 ≤ y.nx
  top : ∀ k, last < k → T k = 0 ∧ O k = 0
def up (f : Int → Int) (k v : Int) : Int → Int := fun j => if j = k then v else f j
theorem up_same (f : Int → Int) (k v : Int) : up f k v k = v := by unfold up; rw [if_pos rfl]
theorem up_ne (f : Int → Int) (k v : Int) {j : Int} (h : j ≠ k) : up f k v j = f j := by unfold up; rw [if_neg h]
theorem Inv.new (T O : Int → Int) (h : ∀ k, T k = 0 ∧ O k = 0) : Inv 0 [] T O :=
  ⟨Int.le_refl _, List.Pairwise.nil, fun _ h => by simp at h, fun _ h => by simp at h, fun _ h => by simp at h, fun _ h => by simp at h, fun _ h => by simp at h, fun k _ => h k⟩
theorem Inv.sub {last : Int} {l l' : List Nt} {T O : Int → Int} (h : Inv last l T O) (hs : l'.Sublist l) : Inv last l' T O :=
  ⟨h.pos, h.srt.sublist hs, fun y hy => h.ids y (hs.subset hy), fun y hy => h.trs y (hs.subset hy), fun y hy => h.ovs y (hs.subset hy), fun y hy => h.sts y (hs.subset hy), fun y hy => h.bnd y (hs.subset hy), h.top⟩
theorem Inv.put {last : Int} {l : List Nt} {T O : Int → Int} (h : Inv last l T O) (x : Nt) (now : Int) (hn : insN now = true ∧ adrN x = true) : Inv (last + 1) (l ++ [newN last x now]) T O := by
  have hB : (1 ≤ x.rt ∧ x.rt ≤ 8) ∧ (1 ≤ x.wt ∧ x.wt ≤ 1048576) ∧ (0 ≤ now ∧ now ≤ 1125899906842624) := by
    have h1 := hn.1
    have h2 := hn.2
    simp only [insN, adrN, rg, Bool.and_eq_true, decide_eq_true_eq] at h1 h2
    exact ⟨h2.2.2.1, h2.2.2.2, h1⟩
  have hp := h.pos
  have ht := h.top (last + 1) (by omega)
  refine ⟨by omega, ?_, fun y hy => ?_, fun y hy => ?_, fun y hy => ?_, fun y hy => ?_, fun y hy => ?_, fun k hk => h.top k (by omega)⟩
  · refine List.pairwise_append.2 ⟨h.srt, List.pairwise_singleton _ _, fun a ha b hb => ?_⟩
    rw [List.mem_singleton.1 hb]
    have := (h.ids a ha).2
    show a.id < last + 1
    omega
  · rcases List.mem_append.1 hy with hy | hy
    · have := h.ids y hy
      omega
    · rw [List.mem_singleton.1 hy]
      show 1 ≤ last + 1 ∧ last + 1 ≤ last + 1
      omega
  · rcases List.mem_append.1 hy with hy | hy
    · exact h.trs y hy
    · rw [List.mem_singleton.1 hy]
      exact ht.1
  · rcases List.mem_append.1 hy with hy | hy
    · exact h.ovs y hy
    · rw [List.mem_singleton.1 hy]
      exact ht.2
  · rcases List.mem_append.1 hy with hy | hy
    · exact h.sts y hy
    · rw [List.mem_singleton.1 hy]
      exact .inl rfl
  · rcases List.mem_append.1 hy with hy | hy
    · exact h.bnd y hy
    · rw [List.mem_singleton.1 hy]
      show (0 ≤ (0 : Int) ∧ (0 : Int) ≤ x.rt ∧ x.rt ≤ 8) ∧ (1 ≤ x.wt ∧ x.wt ≤ 1048576) ∧ 0 ≤ now
      omega
/-- The IDs of a row are apart. -/
theorem Inv.apart {last : Int} {l : List Nt} {T O : Int → Int} (h : Inv last l T O) {i j : Nat} (hi : i < l.length) (hj : j < l.length) (hne : i ≠ j) : l[i].id ≠ l[j].id := by
  have hs := List.pairwise_iff_getElem.1 h.srt
  rcases Nat.lt_or_gt_of_ne hne with h1 | h1
  · have := hs i j hi hj h1
    omega
  · have := hs j i hj hi h1
    omega
theorem Inv.turn {last : Int} {l : List Nt} {T O : Int → Int} (h : Inv last l T O) {k : Nat} (hk : k < l.length) (y : Nt) (hid : y.id = l[k].id) (T' O' : Int → Int)
    (hT : ∀ j, j ≠ l[k].id → T' j = T j) (hO : ∀ j, j ≠ l[k].id → O' j = O j) (h1 : T' l[k].id = y.tr) (h2 : O' l[k].id = (if y.st = 1 then 0 else y.st)) (h3 : y.st = 1 ∨ y.st = 2 ∨ y.st = 3)
    (h4 : (0 ≤ y.tr ∧ y.tr ≤ y.rt ∧ y.rt ≤ 8) ∧ (1 ≤ y.wt ∧ y.wt ≤ 1048576) ∧ 0 ≤ y.nx) : Inv last (l.set k y) T' O' := by
  have hm : ∀ z ∈ l.set k y, z = y ∨ (z ∈ l ∧ z.id ≠ l[k].id) := by
    intro z hz
    obtain ⟨i, hi, rfl⟩ := List.mem_iff_getElem.1 hz
    rw [List.length_set] at hi
    by_cases e : i = k
    · subst e
      exact .inl (List.getElem_set_self _)
    · rw [List.getElem_set_ne (Ne.symm e)]
      exact .inr ⟨List.getElem_mem hi, h.apart hi hk e⟩
  have hkk := h.ids _ (List.getElem_mem hk)
  refine ⟨h.pos, ?_, fun z hz => ?_, fun z hz => ?_, fun z hz => ?_, fun z hz => ?_, fun z hz => ?_, fun j hj => ?_⟩
  · have hs := List.pairwise_iff_getElem.1 h.srt
    refine List.pairwise_iff_getElem.2 (fun i j hi hj hij => ?_)
    rw [List.length_set] at hi hj
    have e : ∀ (i : Nat) (hi : i < l.length), ((l.set k y)[i]'(by rw [List.length_set]; exact hi)).id = l[i].id := fun i hi => by
      by_cases e : i = k
      · subst e
        rw [List.getElem_set_self]
        exact hid
      · rw [List.getElem_set_ne (Ne.symm e)]
    rw [e i hi, e j hj]
    exact hs i j hi hj hij
  · rcases hm z hz with rfl | ⟨hz, -⟩
    · rw [hid]
      exact hkk
    · exact h.ids z hz
  · rcases hm z hz with rfl | ⟨hz, hne⟩
    · rw [hid]
      exact h1
    · rw [hT _ hne]
      exact h.trs z hz
  · rcases hm z hz with rfl | ⟨hz, hne⟩
    · rw [hid]
      exact h2
    · rw [hO _ hne]
      exact h.ovs z hz
  · rcases hm z hz with rfl | ⟨hz, -⟩
    · exact h3
    · exact h.sts z hz
  · rcases hm z hz with rfl | ⟨hz, -⟩
    · exact h4
    · exact h.bnd z hz
  · have hne : j ≠ l[k].id := by omega
    rw [hT j hne, hO j hne]
    exact h.top j hj
theorem Inv.try {last : Int} {l : List Nt} {T O : Int → Int} (h : Inv last l T O) {k : Nat} (hk : k < l.length) (now : Int) (he : endN l[k] = false) (hx : exhN l[k] = false) (hn : l[k].nx ≤ now) : Inv last (l.set k (tried3 l[k] now)) (up T l[k].id (T l[k].id + 1)) O := by
  have hb := h.bnd _ (List.getElem_mem hk)
  have hs := h.sts _ (List.getElem_mem hk)
  have ht := h.trs _ (List.getElem_mem hk)
  have ho := h.ovs _ (List.getElem_mem hk)
  have htr : l[k].tr < l[k].rt := by simpa [exhN] using hx
  refine h.turn hk (tried3 l[k] now) rfl (up T l[k].id (T l[k].id + 1)) O (fun j hj => up_ne _ _ _ hj) (fun j hj => rfl) ?_ ho hs ?_
  · rw [up_same, ht]
    rfl
  · have m1 := mn_cases (2 * l[k].wt) 1048576
    have m2 := mn_cases now (1125899906842624 - l[k].wt)
    show (0 ≤ l[k].tr + 1 ∧ l[k].tr + 1 ≤ l[k].rt ∧ l[k].rt ≤ 8) ∧ (1 ≤ mn (2 * l[k].wt) 1048576 ∧ mn (2 * l[k].wt) 1048576 ≤ 1048576) ∧ 0 ≤ mn now (1125899906842624 - l[k].wt) + l[k].wt
    omega
theorem Inv.ack {last : Int} {l : List Nt} {T O : Int → Int} (h : Inv last l T O) {k : Nat} (hk : k < l.length) : Inv last (l.set k (ackN l[k])) T (up O l[k].id 2) := by
  refine h.turn hk (ackN l[k]) rfl T (up O l[k].id 2) (fun j hj => rfl) (fun j hj => up_ne _ _ _ hj) (h.trs _ (List.getElem_mem hk)) ?_ (.inr (.inl rfl)) (h.bnd l[k] (List.getElem_mem hk))
  rw [up_same]
  rfl
theorem Inv.dead {last : Int} {l : List Nt} {T O : Int → Int} (h : Inv last l T O) {k : Nat} (hk : k < l.length) : Inv last (l.set k (deadN l[k])) T (up O l[k].id 3) := by
  refine h.turn hk (deadN l[k]) rfl T (up O l[k].id 3) (fun j hj => rfl) (fun j hj => up_ne _ _ _ hj) (h.trs _ (List.getElem_mem hk)) ?_ (.inr (.inr rfl)) (h.bnd l[k] (List.getElem_mem hk))
  rw [up_same]
  rfl
/-- Where no notice has ended, none is told as ended. -/
theorem Inv.over0 {last : Int} {l : List Nt} {T O : Int → Int} (h : Inv last l T O) {k : Nat} (hk : k < l.length) (he : endN l[k] = false) : O l[k].id = 0 := by
  rw [h.ovs _ (List.getElem_mem hk), if_pos (by simpa [endN] using he)]
end Go.Proofs.Ytnfpheccmjdpoaa
