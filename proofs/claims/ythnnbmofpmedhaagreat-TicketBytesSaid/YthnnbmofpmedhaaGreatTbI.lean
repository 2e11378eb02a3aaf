/- Tickets: what was written is read as it was; two tickets compared. -/
import Derived.Test.YthnnbmofpmedhaaGreatTbH
import Derived.Test.YthnnbmofpmedhaaGreatTbB
import Derived.Test.YthnnbmofpmedhaaGreatTkH
namespace Go.Proofs.YthnnbmofpmedhaaGreat
open Go.RowKit
theorem nN_back (most n : Nat) (rest : List Nat) (h : n < 18446744073709551616) (hm : n ≤ most) : nN most (num 0 n ++ rest) = n ∧ nR most (num 0 n ++ rest) = rest ∧ nB most (num 0 n ++ rest) = false := by
  unfold nN nR nB
  rw [rNum_back n rest h most hm]
  exact ⟨rfl, rfl, rfl⟩
theorem nums_nine (n1 n2 n3 n4 n5 n6 n7 n8 n9 : Nat) : nums [n1, n2, n3, n4, n5, n6, n7, n8, n9] = num 0 n1 ++ (num 0 n2 ++ (num 0 n3 ++ (num 0 n4 ++ (num 0 n5 ++ (num 0 n6 ++ (num 0 n7 ++ (num 0 n8 ++ (num 0 n9 ++ [])))))))) := by
  unfold nums
  simp only [List.map_cons, List.map_nil, List.flatten_cons, List.flatten_nil]
theorem nine_back (n1 n2 n3 n4 n5 n6 n7 n8 n9 : Nat) (h1 : n1 ≤ 18446744073709551615) (h2 : n2 ≤ 15) (h3 : n3 ≤ 4) (h4 : n4 ≤ 5) (h5 : n5 ≤ 1152921504606846976) (h6 : n6 ≤ 1125899906842624) (h7 : n7 ≤ 1125899906842624) (h8 : n8 ≤ 1125899906842624) (h9 : n9 ≤ 2147483648) (hs : soundB n2 n3 n4 n5 n6 n7 n8 n9 = true) :
    tkOk (nums [n1, n2, n3, n4, n5, n6, n7, n8, n9]) = true ∧ (nine (nums [n1, n2, n3, n4, n5, n6, n7, n8, n9])).t = tkV n1 n2 n3 n4 n5 n6 n7 n8 n9 := by
  have hn : nine (nums [n1, n2, n3, n4, n5, n6, n7, n8, n9]) = ⟨n1, n2, n3, n4, n5, n6, n7, n8, n9⟩ ∧ nineB (nums [n1, n2, n3, n4, n5, n6, n7, n8, n9]) = false := by
    unfold nine nineB
    rw [nums_nine]
    obtain ⟨a1, r1, -⟩ := nN_back 18446744073709551615 n1 (num 0 n2 ++ (num 0 n3 ++ (num 0 n4 ++ (num 0 n5 ++ (num 0 n6 ++ (num 0 n7 ++ (num 0 n8 ++ (num 0 n9 ++ [])))))))) (by omega) h1
    obtain ⟨a2, r2, -⟩ := nN_back 15 n2 (num 0 n3 ++ (num 0 n4 ++ (num 0 n5 ++ (num 0 n6 ++ (num 0 n7 ++ (num 0 n8 ++ (num 0 n9 ++ []))))))) (by omega) h2
    obtain ⟨a3, r3, -⟩ := nN_back 4 n3 (num 0 n4 ++ (num 0 n5 ++ (num 0 n6 ++ (num 0 n7 ++ (num 0 n8 ++ (num 0 n9 ++ [])))))) (by omega) h3
    obtain ⟨a4, r4, -⟩ := nN_back 5 n4 (num 0 n5 ++ (num 0 n6 ++ (num 0 n7 ++ (num 0 n8 ++ (num 0 n9 ++ []))))) (by omega) h4
    obtain ⟨a5, r5, -⟩ := nN_back 1152921504606846976 n5 (num 0 n6 ++ (num 0 n7 ++ (num 0 n8 ++ (num 0 n9 ++ [])))) (by omega) h5
    obtain ⟨a6, r6, -⟩ := nN_back 1125899906842624 n6 (num 0 n7 ++ (num 0 n8 ++ (num 0 n9 ++ []))) (by omega) h6
    obtain ⟨a7, r7, -⟩ := nN_back 1125899906842624 n7 (num 0 n8 ++ (num 0 n9 ++ [])) (by omega) h7
    obtain ⟨a8, r8, -⟩ := nN_back 1125899906842624 n8 (num 0 n9 ++ []) (by omega) h8
    obtain ⟨a9, r9, b9⟩ := nN_back 2147483648 n9 [] (by omega) h9
    simp only [r1, r2, r3, r4, r5, r6, r7, r8, a1, a2, a3, a4, a5, a6, a7, a8, a9, b9, and_self]
  unfold tkOk
  rw [hn.1, hn.2]
  exact ⟨by show (!false && soundB n2 n3 n4 n5 n6 n7 n8 n9) = true; rw [hs]; rfl, rfl⟩
/-- A sound ticket's numbers. -/
theorem sound_nat {id cn st lv ge fr lf du tl : Int} (h : soundB cn st lv ge fr lf du tl = true) (h0 : 0 ≤ id ∧ id < 18446744073709551616) (hg : 0 ≤ ge ∧ ge < 18446744073709551616) :
    ∃ n1 n2 n3 n4 n5 n6 n7 n8 n9 : Nat, id = n1 ∧ cn = n2 ∧ st = n3 ∧ lv = n4 ∧ ge = n5 ∧ fr = n6 ∧ lf = n7 ∧ du = n8 ∧ tl = n9 ∧ n1 ≤ 18446744073709551615 ∧ n2 ≤ 15 ∧ n3 ≤ 4 ∧ n4 ≤ 5 ∧ n5 ≤ 1152921504606846976 ∧ n6 ≤ 1125899906842624 ∧ n7 ≤ 1125899906842624 ∧ n8 ≤ 1125899906842624 ∧ n9 ≤ 2147483648 := by
  have hb : 0 ≤ cn ∧ cn ≤ 15 ∧ 0 ≤ st ∧ st ≤ 4 ∧ 0 ≤ lv ∧ lv ≤ 5 ∧ ge ≤ 1152921504606846976 ∧ 0 ≤ fr ∧ fr ≤ 1125899906842624 ∧ 0 ≤ lf ∧ lf ≤ 1125899906842624 ∧ 0 ≤ du ∧ du ≤ 1125899906842624 ∧ 0 ≤ tl ∧ tl ≤ 2147483648 := by
    unfold soundB headT runT pauT endT rngB at h
    by_cases s1 : st = 1
    · simp only [s1, if_true, Bool.and_eq_true, decide_eq_true_eq, Bool.not_eq_true', decide_eq_false_iff_not, bne_iff_ne, ne_eq] at h
      omega
    · by_cases s2 : st = 2
      · simp only [s2, if_true, Bool.and_eq_true, decide_eq_true_eq, Bool.not_eq_true', decide_eq_false_iff_not, beq_iff_eq, show ¬ (2 : Int) = 1 by decide, if_false] at h
        omega
      · by_cases s3 : st = 3 ∨ st = 4
        · simp only [s1, s2, s3, if_true, if_false, Bool.and_eq_true, decide_eq_true_eq, Bool.not_eq_true', decide_eq_false_iff_not, beq_iff_eq] at h
          omega
        · simp only [s1, s2, s3, if_false, Bool.and_false, Bool.false_eq_true] at h
  refine ⟨id.toNat, cn.toNat, st.toNat, lv.toNat, ge.toNat, fr.toNat, lf.toNat, du.toNat, tl.toNat, ?_⟩
  omega
end Go.Proofs.YthnnbmofpmedhaaGreat
