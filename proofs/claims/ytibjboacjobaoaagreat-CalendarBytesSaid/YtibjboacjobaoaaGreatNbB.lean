/- What was written of a calendar is read as it was. -/
import Derived.Test.YtibjboacjobaoaaGreatNbC
namespace Go.Proofs.YtibjboacjobaoaaGreat
open Go.RowKit
theorem good_cong {F T F' T' : Nat → Int} : ∀ n, (∀ k, k < n → F k = F' k ∧ T k = T' k) → good F T n = good F' T' n
  | 0, _ => rfl
  | n + 1, h => by
    have ih := good_cong n (fun k hk => h k (by omega))
    have hn := h n (by omega)
    unfold good
    rw [ih, hn.1, hn.2]
    rcases Nat.eq_zero_or_pos n with h0 | h0
    · subst h0; rfl
    · rw [(h (n - 1) (by omega)).2]
theorem Cal.nn {D : Cal} (h : D.ok) : NonNeg D.F D.T D.n ∧ NonNeg D.G D.U D.m ∧ D.n ≤ 32 ∧ D.m ≤ 32 ∧ 0 ≤ D.off ∧ D.off ≤ 604800 := by
  refine ⟨fun k hk => ?_, fun k hk => ?_, h.wk.len, h.len, h.off0, by have := h.off1; omega⟩
  · have := good_at h.wk.good hk; omega
  · have := good_at h.good hk; omega
theorem pairs_in {F T : Nat → Int} {n : Nat} (h : good F T n = true) : ∀ s ∈ pairs F T n, 0 ≤ s.1 ∧ s.1 ≤ (1125899906842624 : Nat) ∧ 0 ≤ s.2 ∧ s.2 ≤ (1125899906842624 : Nat) := by
  intro s hs
  obtain ⟨k, hk, rfl⟩ := pairs_mem.1 hs
  have := good_at h hk
  simp only
  omega
theorem cal_back {D : Cal} (h : D.ok) : cOk (calW D.off D.F D.T D.n D.G D.U D.m) = true ∧ cOff (calW D.off D.F D.T D.n D.G D.U D.m) = D.off ∧ cW (calW D.off D.F D.T D.n D.G D.U D.m) = pairs D.F D.T D.n ∧ cC (calW D.off D.F D.T D.n D.G D.U D.m) = pairs D.G D.U D.m ∧ cR (calW D.off D.F D.T D.n D.G D.U D.m) = [] := by
  have hn := h.wk.len
  have hm := h.len
  have ho0 := h.off0
  have ho1 := h.off1
  obtain ⟨i1, i2, -⟩ := iN_back D.off (rowW D.F D.T D.n ++ rowW D.G D.U D.m) (by omega) (by omega)
  obtain ⟨a1, a2, -⟩ := nN_back 32 D.n (pW (pairs D.F D.T D.n) ++ rowW D.G D.U D.m) (by omega) hn
  obtain ⟨p1, p2, -⟩ := p_back 1125899906842624 1125899906842624 (by omega) (by omega) (pairs D.F D.T D.n) (rowW D.G D.U D.m) (pairs_in h.wk.good)
  obtain ⟨b1, b2, b3⟩ := nN_back 32 D.m (pW (pairs D.G D.U D.m) ++ []) (by omega) hm
  obtain ⟨q1, q2, q3⟩ := p_back 1125899906842624 1125899906842624 (by omega) (by omega) (pairs D.G D.U D.m) [] (pairs_in h.good)
  rw [pairs_len] at p1 p2 q1 q2 q3
  have e0 : calW D.off D.F D.T D.n D.G D.U D.m = intB D.off ++ (rowW D.F D.T D.n ++ rowW D.G D.U D.m) := rfl
  have er : rowW D.F D.T D.n ++ rowW D.G D.U D.m = num 0 D.n ++ (pW (pairs D.F D.T D.n) ++ rowW D.G D.U D.m) := by unfold rowW; rw [List.append_assoc]
  have es : rowW D.G D.U D.m = num 0 D.m ++ (pW (pairs D.G D.U D.m) ++ []) := by unfold rowW; rw [List.append_nil]
  have k0 : cOff (calW D.off D.F D.T D.n D.G D.U D.m) = D.off := by unfold cOff; rw [e0, i1]
  have k1 : cK1 (calW D.off D.F D.T D.n D.G D.U D.m) = D.n := by unfold cK1; rw [e0, i2, er, a1]
  have k2 : nR 32 (iR (calW D.off D.F D.T D.n D.G D.U D.m)) = pW (pairs D.F D.T D.n) ++ rowW D.G D.U D.m := by rw [e0, i2, er, a2]
  have k3 : cW (calW D.off D.F D.T D.n D.G D.U D.m) = pairs D.F D.T D.n := by unfold cW; rw [k1, k2, p1]
  have k4 : cD2 (calW D.off D.F D.T D.n D.G D.U D.m) = rowW D.G D.U D.m := by unfold cD2; rw [k1, k2, p2]
  have k5 : cK2 (calW D.off D.F D.T D.n D.G D.U D.m) = D.m := by unfold cK2; rw [k4, es, b1]
  have k6 : nR 32 (cD2 (calW D.off D.F D.T D.n D.G D.U D.m)) = pW (pairs D.G D.U D.m) ++ [] := by rw [k4, es, b2]
  have k7 : nB 32 (cD2 (calW D.off D.F D.T D.n D.G D.U D.m)) = false := by rw [k4, es, b3]
  have k8 : cC (calW D.off D.F D.T D.n D.G D.U D.m) = pairs D.G D.U D.m := by unfold cC; rw [k5, k6, q1]
  have k9 : cR (calW D.off D.F D.T D.n D.G D.U D.m) = [] := by unfold cR; rw [k5, k6, q2]
  have k10 : cB (calW D.off D.F D.T D.n D.G D.U D.m) = false := by unfold cB; rw [k5, k6, k7, q3]
  refine ⟨?_, k0, k3, k8, k9⟩
  unfold cOk cE
  rw [k10, k0, k3, k8, pairs_len, pairs_len]
  have hd : Cal.ok ⟨fr (pairs D.F D.T D.n), til (pairs D.F D.T D.n), D.n, fr (pairs D.G D.U D.m), til (pairs D.G D.U D.m), D.m, D.off⟩ := by
    refine ⟨⟨hn, ?_, fun k hk => ?_⟩, ?_, hm, ho0, ho1⟩
    · exact (good_cong D.n (fun k hk => pairs_at D.F D.T D.n k hk)).trans h.wk.good
    · show til (pairs D.F D.T D.n) k ≤ 604800
      rw [(pairs_at D.F D.T D.n k hk).2]; exact h.wk.week k hk
    · exact (good_cong D.m (fun k hk => pairs_at D.G D.U D.m k hk)).trans h.good
  rw [checkE_of hd]
  rfl
end Go.Proofs.YtibjboacjobaoaaGreat
