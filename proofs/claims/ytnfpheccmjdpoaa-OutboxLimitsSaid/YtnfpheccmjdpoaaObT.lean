/- The outbox: what a tick does to what stays so. -/
import Derived.Test.YtnfpheccmjdpoaaObS
namespace Go.Proofs.Ytnfpheccmjdpoaa
theorem wh_sorted (q : Nt → Bool) : ∀ (l : List Nt) (s : Nat), (wh q s l).Pairwise (· < ·)
  | [], _ => List.Pairwise.nil
  | x :: r, s => by
    have ih := wh_sorted q r (s + 1)
    unfold wh
    split
    · refine List.pairwise_cons.2 ⟨fun p hp => ?_, ih⟩
      obtain ⟨i, rfl, h1, -⟩ := wh_lt q r (s + 1) p hp
      omega
    · exact ih
theorem wh_holds (q : Nt → Bool) : ∀ (l : List Nt) (s : Nat) (p : Int), p ∈ wh q s l → ∃ (i : Nat) (h : i < l.length), p = ((s + i : Nat) : Int) ∧ q l[i] = true
  | [], _, _, h => by simp [wh] at h
  | x :: r, s, p, h => by
    have ih := wh_holds q r (s + 1) p
    unfold wh at h
    split at h
    · rename_i hx
      rcases List.mem_cons.1 h with rfl | h
      · exact ⟨0, by simp, rfl, hx⟩
      · obtain ⟨i, hi, rfl, h2⟩ := ih h
        exact ⟨i + 1, by simp; omega, by omega, by simpa using h2⟩
    · obtain ⟨i, hi, rfl, h2⟩ := ih h
      exact ⟨i + 1, by simp; omega, by omega, by simpa using h2⟩
def ups (O : Int → Int) (ids : List Int) : Int → Int := ids.foldl (fun f k => up f k 3) O
theorem ups_snoc (O : Int → Int) (ids : List Int) (k : Int) : ups O (ids ++ [k]) = up (ups O ids) k 3 := by
  unfold ups
  rw [List.foldl_append]
  rfl
theorem idAt_of {l : List Nt} {ps : List Int} {i : Nat} (h : i < (ticked l ps).length) : (ticked l ps)[i].id = idAt l (i : Int) := by
  have h1 := ticked_id ps l i
  rw [List.getElem?_eq_getElem h] at h1
  unfold idAt
  rw [Int.toNat_natCast, ← h1]
  rfl
theorem tick_inv {last : Int} {l : List Nt} {T O : Int → Int} (h : Inv last l T O) (q : Nt → Bool) (hq : ∀ x, q x = true → endN x = false) (ps : List Int) (hps : wh q 0 l = ps) : ∀ j, j ≤ ps.length →
    Inv last (ticked l (ps.take j)) T (ups O ((ps.take j).map (idAt l))) ∧ ∀ i : Nat, (∀ p ∈ ps.take j, p ≠ (i : Int)) → (ticked l (ps.take j))[i]? = l[i]?
  | 0, _ => ⟨h, fun _ _ => rfl⟩
  | j + 1, hj => by
    obtain ⟨h1, h2⟩ := tick_inv h q hq ps hps j (by omega)
    have hlt : j < ps.length := by omega
    obtain ⟨i, hi, hp, -⟩ := wh_holds q l 0 ps[j] (by rw [hps]; exact List.getElem_mem hlt)
    rw [Nat.zero_add] at hp
    have hiL : i < (ticked l (ps.take j)).length := by rw [ticked_len]; exact hi
    have e1 : ticked l (ps.take (j + 1)) = (ticked l (ps.take j)).set i (deadN (ticked l (ps.take j))[i]) := by
      rw [ticked_take l ps j hlt, hp, Int.toNat_natCast]
      unfold tk1
      rw [dif_pos hiL]
    have e2 : (ps.take (j + 1)).map (idAt l) = (ps.take j).map (idAt l) ++ [(ticked l (ps.take j))[i].id] := by
      rw [List.take_succ_eq_append_getElem hlt, List.map_append, hp, idAt_of hiL]
      rfl
    refine ⟨?_, fun i' hi' => ?_⟩
    · rw [e1, e2, ups_snoc]
      exact h1.dead hiL
    · have hne : (i : Int) ≠ (i' : Int) := fun e => hi' ps[j] (by rw [List.take_succ_eq_append_getElem hlt]; exact List.mem_append_right _ (List.mem_singleton.2 rfl)) (by rw [hp, e])
      rw [e1, List.getElem?_set_ne (by omega)]
      exact h2 i' (fun p hp' => hi' p (by rw [List.take_succ_eq_append_getElem hlt]; exact List.mem_append_left _ hp'))
theorem tick_zero {last : Int} {l : List Nt} {T O : Int → Int} (h : Inv last l T O) (q : Nt → Bool) (hq : ∀ x, q x = true → endN x = false) (ps : List Int) (hps : wh q 0 l = ps) (j : Nat) (hlt : j < ps.length) :
    ups O ((ps.take j).map (idAt l)) (idAt l ps[j]) = 0 ∧ 1 ≤ idAt l ps[j] ∧ idAt l ps[j] ≤ last := by
  obtain ⟨h1, h2⟩ := tick_inv h q hq ps hps j (by omega)
  obtain ⟨i, hi, hp, hqi⟩ := wh_holds q l 0 ps[j] (by rw [hps]; exact List.getElem_mem hlt)
  rw [Nat.zero_add] at hp
  have hiL : i < (ticked l (ps.take j)).length := by rw [ticked_len]; exact hi
  have hs := wh_sorted q l 0
  rw [hps] at hs
  have h3 := h2 i (fun p hp' e => by
    obtain ⟨m, hm, rfl⟩ := List.mem_take_iff_getElem.1 hp'
    have := List.pairwise_iff_getElem.1 hs m j (by omega) hlt (by omega)
    omega)
  rw [List.getElem?_eq_getElem hiL, List.getElem?_eq_getElem hi] at h3
  have h4 : (ticked l (ps.take j))[i] = l[i] := by injection h3
  have h5 := h1.over0 hiL (by rw [h4]; exact hq _ hqi)
  rw [idAt_of hiL] at h5
  have h6 := h1.ids _ (List.getElem_mem hiL)
  rw [idAt_of hiL] at h6
  rw [hp]
  exact ⟨h5, h6⟩
end Go.Proofs.Ytnfpheccmjdpoaa
