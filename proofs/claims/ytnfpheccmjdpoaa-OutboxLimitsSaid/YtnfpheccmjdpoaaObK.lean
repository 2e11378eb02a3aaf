/- The outbox: the law of the full box. -/
import Derived.Test.YtnfpheccmjdpoaaObJ
namespace Go.Proofs.Ytnfpheccmjdpoaa
open Go.RowKit
theorem wh_count (q : Nt → Bool) : ∀ (l : List Nt) (s : Nat), (wh q s l).length = l.countP q
  | [], _ => rfl
  | x :: r, s => by
    have ih := wh_count q r (s + 1)
    unfold wh
    rw [List.countP_cons]
    split
    · rename_i h
      rw [List.length_cons, ih]
    · rename_i h
      rw [ih, Nat.add_zero]
theorem cnt_all {l : List Nt} (h : ∀ y ∈ l, endN y = false) : cntW l = l.length := by
  unfold cntW
  rw [wh_count]
  exact List.countP_eq_length.2 (fun y hy => by rw [h y hy]; rfl)
theorem cnt_lt {l : List Nt} {y : Nt} (hy : y ∈ l) (h : endN y = true) : cntW l < l.length := by
  unfold cntW
  rw [wh_count]
  refine Nat.lt_of_le_of_ne List.countP_le_length (fun e => ?_)
  have := List.countP_eq_length.1 e y hy
  rw [h] at this
  exact absurd this (by decide)
/-- So many like notices, put one after another. -/
def rowL (x : Nt) (now : Int) : Nat → List Nt
  | 0 => []
  | j + 1 => rowL x now j ++ [newN (j : Int) x now]
theorem rowL_len (x : Nt) (now : Int) : ∀ j, (rowL x now j).length = j
  | 0 => rfl
  | j + 1 => by rw [rowL, List.length_append, rowL_len x now j]; rfl
theorem rowL_get (x : Nt) (now : Int) : ∀ j k (h : k < (rowL x now j).length), (rowL x now j)[k] = newN (k : Int) x now
  | 0, k, h => absurd h (by simp [rowL])
  | j + 1, k, h => by
    have hl := rowL_len x now j
    by_cases e : k < j
    · have h2 : (rowL x now (j + 1))[k] = (rowL x now j)[k]'(by omega) := List.getElem_append_left (by omega)
      rw [h2]
      exact rowL_get x now j k (by omega)
    · have hk : k = j := by rw [rowL_len] at h; omega
      subst hk
      simp only [rowL]
      rw [List.getElem_append_right (by omega)]
      simp [hl]
theorem rowL_mem {x : Nt} {now : Int} {j : Nat} {y : Nt} (h : y ∈ rowL x now j) : ∃ k : Nat, k < j ∧ y = newN (k : Int) x now := by
  obtain ⟨k, hk, rfl⟩ := List.mem_iff_getElem.1 h
  have hl := rowL_len x now j
  exact ⟨k, by omega, rowL_get x now j k hk⟩
theorem rowL_take {x : Nt} {now : Int} {j k : Nat} {y : Nt} (h : y ∈ (rowL x now j).take k) : ∃ i : Nat, i < k ∧ y = newN (i : Int) x now := by
  obtain ⟨i, hi, rfl⟩ := List.mem_take_iff_getElem.1 h
  exact ⟨i, by omega, rowL_get x now j i (by omega)⟩
theorem rowL_ends {x : Nt} {now : Int} {j : Nat} {y : Nt} (h : y ∈ rowL x now j) : endN y = false := by
  obtain ⟨k, -, rfl⟩ := rowL_mem h
  rfl
theorem take_set {l : List Nt} {k : Nat} {y : Nt} : (l.set k y).take k = l.take k := by
  rw [List.take_set]
  exact List.set_eq_of_length_le (by rw [List.length_take]; omega)
/-- What is left behind a deletion and a put. -/
def leftL (x : Nt) (now : Int) (k : Nat) : List Nt := (rowL x now 128).eraseIdx k ++ [newN 128 x now]
theorem left_of (x : Nt) (now : Int) (k : Nat) (y : Nt) : ((rowL x now 128).set k y).eraseIdx k = (rowL x now 128).eraseIdx k := by
  rw [List.eraseIdx_set_eq]
theorem left_ends {x : Nt} {now : Int} {k : Nat} {y : Nt} (h : y ∈ leftL x now k) : endN y = false := by
  rcases List.mem_append.1 h with h | h
  · exact rowL_ends (List.mem_of_mem_eraseIdx h)
  · rw [List.mem_singleton.1 h]
    rfl
theorem left_len (x : Nt) (now : Int) (k : Nat) (hk : k < 128) : (leftL x now k).length = 128 := by
  unfold leftL
  rw [List.length_append, List.length_eraseIdx, rowL_len]
  simp [hk]
theorem left_ids {x : Nt} {now : Int} {k : Nat} (hk : k < 128) {y : Nt} (h : y ∈ leftL x now k) : y.id ≠ (k : Int) + 1 := by
  rcases List.mem_append.1 h with h | h
  · obtain ⟨i, hi, rfl⟩ := List.mem_iff_getElem.1 h
    rw [List.getElem_eraseIdx]
    split
    · rename_i hik
      rw [rowL_get]
      show (i : Int) + 1 ≠ (k : Int) + 1
      omega
    · rename_i hik
      rw [rowL_get]
      show ((i + 1 : Nat) : Int) + 1 ≠ (k : Int) + 1
      omega
  · rw [List.mem_singleton.1 h]
    show (128 : Int) + 1 ≠ (k : Int) + 1
    omega
def nz : Nt := ⟨0, 0, 0, 0, 0, 0, 0, 0, 0⟩
set_option maxRecDepth 100000 in
set_option maxHeartbeats 8000000 in
theorem get_none (b : Nat) (last : Int) (l : List Nt) (id : Int) (w : World) (h : BX w b last l) (h2 : ∀ x ∈ l, x.id ≠ id) : Calls Try.prog 13 #[.pointer (some ⟨b, 0, none⟩), .int .u64 id] w fun e w' => e = .returned (.tuple #[nz.V, .bool false]) ∧ Below w.heap.size w w' := by
  obtain ⟨B1, s0, -⟩ := box1 w #[.int .u64 0, .int .u64 0, .int .i64 0, .int .i64 0, .int .i64 0, .int .i64 0, .int .i64 0, .int .i64 0, .int .i64 0] 36
  have HX := Lib.hid (h.below B1)
  have HB := Lib.hid B1
  have HS := Lib.hid s0
  have H2 := Lib.hid h2
  clear h B1 s0 h2
  go_enter Try.func13, Try.ntmps13
  go_wp2_with fail
  obtain ⟨N, hN⟩ : ∃ N, w.heap.size = N := ⟨_, rfl⟩
  rw [hN] at HS
  try rw [hN]
  have HN := Lib.hid hN
  clear hN
  generalize w.alloc (.cells #[.int .u64 0, .int .u64 0, .int .i64 0, .int .i64 0, .int .i64 0, .int .i64 0, .int .i64 0, .int .i64 0, .int .i64 0] 36) = w1 at HX HB HS ⊢
  refine (find_none b last l id w1 HX.out H2.out).mono ?_
  rintro e w2 ⟨rfl, hb⟩
  have HB2 := Lib.hid (HB.out.trans (hb.mono HB.out.size))
  have HS2 := Lib.hid (ex_below HS.out hb)
  have HT2 : Hid (w2.there N 0 9) := Lib.hid (there_new HS2.out)
  clear hb HX HB HS
  go_wp2_with (refine wpList_store_mid rfl 36 (.tmp 4) (.tmp 16) rfl N 0 nz.L.toArray rfl rfl HT2.out (nt_infoL nz) (nt_oneL nz) ?_; rw [List.toList_toArray]; generalize hW3 : w2.setCells N 0 nz.L = w3; have HW := Lib.hid hW3; clear hW3)
  refine bodyPost_ret (nt_res rfl _ _ N nz rfl (res_set HT2.out HW.out.symm)) rfl ?_
  have HWN := HN.out
  subst HWN
  refine ⟨rfl, ?_⟩
  rw [← HW.out]
  exact below_cells HB2.out (Nat.le_refl _) _ _
end Go.Proofs.Ytnfpheccmjdpoaa
