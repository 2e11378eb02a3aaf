/- Segments: what is written is read as it was. No Go text here. -/
import Derived.Test.YthefnakbpalecaaSgD
import Derived.Test.YthefnakbpalecaaSgF
import Derived.Test.YthefnakbpalecaaSgZ
namespace Go.Proofs.Ythefnakbpalecaa
open Go.RowKit
theorem rText_back' (d rest : List Nat) (hd : d.length ≤ 4096) : rText 4096 (num 0 d.length ++ d ++ rest) = some (d, rest) := by
  unfold rText
  rw [if_neg (by omega), List.append_assoc, show (4096 : Int).toNat = 4096 from rfl, rNum_back d.length _ (by omega) 4096 hd]
  simp only [List.length_append, if_pos (Nat.le_add_right _ _)]
  rw [List.take_left' rfl, List.drop_left' rfl]
theorem hdOk_num (f : Nat) (h1 : 1 ≤ f) (h2 : f ≤ 1152921504606846976) : hdOk 1 (num 0 f) = true ∧ nN 1152921504606846976 (num 0 f) = f := by
  have h := rNum_back f [] (by omega) 1152921504606846976 h2
  rw [List.append_nil] at h
  have e1 : nN 1152921504606846976 (num 0 f) = f := by unfold nN; rw [h]
  have e2 : nB 1152921504606846976 (num 0 f) = false := by unfold nB; rw [h]
  have e3 : nR 1152921504606846976 (num 0 f) = [] := by unfold nR; rw [h]
  refine ⟨?_, e1⟩
  unfold hdOk
  rw [e1, e2, e3]
  simp; omega
theorem lnOk_body (idx t u : Nat) (d : List Nat) (h1 : idx < 18446744073709551616) (hs : sdE t (u : Int) d.length = true) : lnOk 2 (bodyS idx t u d) idx = true ∧ entOf (bodyS idx t u d) = ⟨t, (u : Int), d⟩ := by
  have hz := hs
  unfold sdE at hz
  simp only [Bool.and_eq_true, decide_eq_true_eq] at hz
  obtain ⟨q1, q2, q3, q4, q5⟩ := hz
  have r1 := rNum_back idx (num 0 t ++ (num 0 u ++ (num 0 d.length ++ d))) h1 18446744073709551615 (by omega)
  have r2 := rNum_back t (num 0 u ++ (num 0 d.length ++ d)) (by omega) 1152921504606846976 q2
  have r3 := rNum_back u (num 0 d.length ++ d) (by omega) 3 (by omega)
  have r4 := rText_back' d [] q5
  rw [List.append_nil] at r4
  have e0 : bodyS idx t u d = num 0 idx ++ (num 0 t ++ (num 0 u ++ (num 0 d.length ++ d))) := by unfold bodyS; simp only [List.append_assoc]
  have e1 : en1 (bodyS idx t u d) = num 0 t ++ (num 0 u ++ (num 0 d.length ++ d)) := by unfold en1 nR; rw [e0, r1]
  have e2 : en2 (bodyS idx t u d) = num 0 u ++ (num 0 d.length ++ d) := by unfold en2; rw [e1]; unfold nR; rw [r2]
  have e3 : en3 (bodyS idx t u d) = num 0 d.length ++ d := by unfold en3; rw [e2]; unfold nR; rw [r3]
  have f1 : nN 18446744073709551615 (bodyS idx t u d) = idx := by unfold nN; rw [e0, r1]
  have f2 : nN 1152921504606846976 (en1 (bodyS idx t u d)) = t := by rw [e1]; unfold nN; rw [r2]
  have f3 : nN 3 (en2 (bodyS idx t u d)) = u := by rw [e2]; unfold nN; rw [r3]
  have f4 : tN 4096 (en3 (bodyS idx t u d)) = d := by rw [e3]; unfold tN; rw [r4]
  have f5 : tB 4096 (en3 (bodyS idx t u d)) = false := by rw [e3]; unfold tB; rw [r4]
  have f6 : tR 4096 (en3 (bodyS idx t u d)) = [] := by rw [e3]; unfold tR; rw [r4]
  have hE : entOf (bodyS idx t u d) = ⟨t, (u : Int), d⟩ := by unfold entOf; rw [f2, f3, f4]
  refine ⟨?_, hE⟩
  unfold lnOk
  rw [hE, f1, f5, f6, hs]
  simp
/-- An entry that may be written. -/
def Ent.ok (e : Ent) : Bool := sdE e.t e.k e.d.length
def linesB : Nat → List Ent → List Nat
  | _, [] => []
  | i, e :: L => slineB i e.t e.k.toNat e.d ++ linesB (i + 1) L
def segB (f : Nat) (L : List Ent) : List Nat := headB f ++ linesB f L
theorem Ent.ok_k {e : Ent} (h : e.ok = true) : ((e.k.toNat : Nat) : Int) = e.k ∧ e.k.toNat ≤ 3 ∧ e.t ≤ 1152921504606846976 ∧ e.d.length ≤ 4096 := by
  unfold Ent.ok sdE at h
  simp only [Bool.and_eq_true, decide_eq_true_eq] at h
  omega
theorem sRows_line (f : Nat) (l : List Ent) (g : Nat) (e : Ent) (more : List Nat) (hg : g ≠ 0) (he : e.ok = true) (hlt : ∀ c ∈ e.d, c < 256) (hf : f + l.length < 18446744073709551616) :
    sRows (rowsOf (slineB (f + l.length) e.t e.k.toNat e.d ++ more)) f l g = sRows (rowsOf more) f (l ++ [e]) (g + (slineB (f + l.length) e.t e.k.toNat e.d).length) := by
  obtain ⟨k1, k2, k3, k4⟩ := Ent.ok_k he
  obtain ⟨h1, h2⟩ := lnOk_body (f + l.length) e.t e.k.toNat e.d hf (by rw [k1]; exact he)
  have hbl := bodyS_len (f + l.length) e.t e.k.toNat e.d hf (by omega) (by omega) k4
  unfold slineB
  rw [rows_frm 2 _ more (by omega) (by omega) (bodyS_lt _ _ _ _ hf (by omega) (by omega) k4 hlt), sRows_cons, if_neg hg, if_pos h1, h2, frm_len, k1]
theorem sRows_lines (L : List Ent) : ∀ (f : Nat) (l : List Ent) (g : Nat) (more : List Nat), g ≠ 0 → (∀ e ∈ L, e.ok = true ∧ ∀ c ∈ e.d, c < 256) → f + (l.length + L.length) ≤ 18446744073709551616 →
    sRows (rowsOf (linesB (f + l.length) L ++ more)) f l g = sRows (rowsOf more) f (l ++ L) (g + (linesB (f + l.length) L).length) := by
  induction L with
  | nil => intro f l g more _ _ _; simp [linesB]
  | cons e L ih =>
    intro f l g more hg hL hf
    rw [List.length_cons] at hf
    unfold linesB
    rw [List.append_assoc, sRows_line f l g e _ hg (hL e (List.mem_cons_self ..)).1 (hL e (List.mem_cons_self ..)).2 (by omega)]
    have := ih f (l ++ [e]) (g + (slineB (f + l.length) e.t e.k.toNat e.d).length) more (by omega) (fun x hx => hL x (List.mem_cons_of_mem _ hx)) (by rw [List.length_append, List.length_singleton]; omega)
    rw [List.length_append, List.length_singleton, ← Nat.add_assoc] at this
    rw [this, List.append_assoc, List.singleton_append, List.length_append, Nat.add_assoc]
theorem sRead_head (f : Nat) (h1 : 1 ≤ f) (h2 : f ≤ 1152921504606846976) (more : List Nat) : sRead (headB f ++ more) = sRows (rowsOf more) f [] (headB f).length := by
  obtain ⟨k1, k2⟩ := hdOk_num f h1 h2
  have hl := num_len9 0 f (by omega)
  unfold sRead headB
  rw [rows_frm 1 _ more (by omega) (by omega) (num_lt' 0 f (by omega) (by omega)), sRows_cons, if_pos rfl, if_pos k1, k2, frm_len, Nat.zero_add]
theorem headB_pos (f : Nat) : 8 ≤ (headB f).length := by unfold headB; rw [frm_len]; omega
theorem sRead_seg (f : Nat) (L : List Ent) (more : List Nat) (h1 : 1 ≤ f) (h2 : f ≤ 1152921504606846976) (hL : ∀ e ∈ L, e.ok = true ∧ ∀ c ∈ e.d, c < 256) (hn : L.length ≤ 1000000000) : sRead (segB f L ++ more) = sRows (rowsOf more) f L (segB f L).length := by
  have h8 := headB_pos f
  unfold segB
  rw [List.append_assoc, sRead_head f h1 h2]
  have h := sRows_lines L f [] (headB f).length more (by omega) hL (by simp only [List.length_nil]; omega)
  simp only [List.length_nil, Nat.add_zero, List.nil_append] at h
  rw [h, List.length_append]
end Go.Proofs.Ythefnakbpalecaa
