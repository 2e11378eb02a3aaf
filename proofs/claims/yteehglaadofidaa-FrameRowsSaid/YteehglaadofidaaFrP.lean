/- Walks of the reference for frame: All. -/
import Derived.Test.YteehglaadofidaaFrJ
import Derived.Test.YteehglaadofidaaFrL
import Derived.Outline
namespace Go.Proofs.Yteehglaadofidaa
open Go.RowKit

theorem info43 : (Try.prog.info? 43).map (fun i => (i.zero, i.size, i.bytes)) = some (some (.agg #[.int .u8 0, .string ⟨#[]⟩]), 2, 24) := by kernel_rfl
/-- The cells of rows. -/
def rowCells (rows : List (Nat × List Nat)) : List Value := rows.flatMap fun r => [.int .u8 (r.1 : Int), .string (str r.2)]
theorem rowCells_snoc (rows : List (Nat × List Nat)) (k : Nat) (r : Nat × List Nat) (h : rows[k]? = some r) : rowCells (rows.take (k + 1)) = rowCells (rows.take k) ++ [.int .u8 (r.1 : Int), .string (str r.2)] := by
  unfold rowCells
  rw [List.take_add_one, h]
  simp
theorem rowCells_len (rows : List (Nat × List Nat)) : (rowCells rows).length = rows.length * 2 := by
  unfold rowCells
  induction rows with
  | nil => rfl
  | cons r rows ih => rw [List.flatMap_cons, List.length_append, ih]; simp; omega
theorem rowCells_at : ∀ (rows : List (Nat × List Nat)) (k : Nat) (r : Nat × List Nat), rows[k]? = some r → (rowCells rows)[k * 2]? = some (.int .u8 (r.1 : Int)) ∧ (rowCells rows)[k * 2 + 1]? = some (.string (str r.2))
  | [], k, r, h => by simp at h
  | x :: rows, 0, r, h => by
    simp at h; subst h
    exact ⟨rfl, rfl⟩
  | x :: rows, k + 1, r, h => by
    have := rowCells_at rows k r (by simpa using h)
    have e : rowCells (x :: rows) = .int .u8 (x.1 : Int) :: .string (str x.2) :: rowCells rows := rfl
    rw [e, show (k + 1) * 2 = k * 2 + 1 + 1 by omega, show k * 2 + 1 + 1 + 1 = (k * 2 + 1) + 1 + 1 by omega]
    simp only [List.getElem?_cons_succ]
    exact this
theorem rows_len_le (bs : List Nat) : (rowsOf bs).length * 8 ≤ bs.length := by
  have h1 : ∀ rows : List (Nat × List Nat), rows.length * 8 ≤ sizeR rows := by
    intro rows
    induction rows with
    | nil => exact Nat.le_refl _
    | cons r rows ih => rw [sizeR_cons, List.length_cons]; omega
  exact Nat.le_trans (h1 _) (end_le bs)

/-- What All hands back. -/
def Alled (w : World) (bs : List Nat) (e : Ending) (w' : World) : Prop :=
  ∃ v', e = .returned (.tuple #[v', .int .i64 ((endAt bs : Nat) : Int), .int .i64 ((whyEnd bs : Nat) : Int)]) ∧
    w'.ownsRow w.heap.size 43 2 v' (rowsOf bs).length (rowCells (rowsOf bs)) ∧ Below w.heap.size w w'
theorem rowsl {bs : List Nat} {k q : Nat} (h : (rowsOf bs).drop k = rowsOf (bs.drop q)) (hq : sizeR ((rowsOf bs).take k) = q) (hk : k ≤ (rowsOf bs).length) (he : (takeOf (bs.drop q)).e ≠ 0) :
    k = (rowsOf bs).length ∧ endAt bs = q := by
  rw [rows_no he] at h
  have hk2 : k = (rowsOf bs).length := by have := List.drop_eq_nil_iff.1 h; omega
  refine ⟨hk2, ?_⟩
  rw [hk2, List.take_length] at hq
  exact hq
theorem ownsRow_below {w w' : World} {base : Nat} {e : TypeId} {size : Nat} {v : Value} {n : Nat} {xs : List Value} (h : w.ownsRow base e size v n xs) (hb : Below w.heap.size w w') : w'.ownsRow base e size v n xs := by
  obtain ⟨h1, h2⟩ := h
  refine ⟨h1, ?_⟩
  rcases h2 with h2 | ⟨g, cap, cur, hv, hg, hh, r⟩
  · exact .inl h2
  · exact .inr ⟨g, cap, cur, hv, hg, by rw [hb.block g (Array.getElem?_eq_some_iff.mp hh).1]; exact hh, r⟩
theorem new_two (w : World) (x y : Value) (t : TypeId) : ∀ j u, [x, y][j]? = some u → (w.alloc (.cells #[x, y] t)).cell? ((⟨w.heap.size, 0, none⟩ : Addr).add j) = some u := by
  intro j u h
  rw [add_at]
  match j with
  | 0 => simp at h; subst h; simp
  | 1 => simp at h; subst h; simp
  | j + 2 => simp at h
theorem ownsRow_slice {w : World} {base : Nat} {e : TypeId} {size : Nat} {v : Value} {n : Nat} {xs : List Value} (h : w.ownsRow base e size v n xs) : ∃ a c, v = .slice a n c := by
  rcases h.2 with ⟨hv, h0⟩ | ⟨g, cap, cur, hv, _⟩
  · exact ⟨_, _, by rw [hv, h0]⟩
  · exact ⟨_, _, hv⟩
set_option maxHeartbeats 1000000 in
theorem refall_any (v : Value) (bs : List Nat) (w : World) (hb : RB w v bs) (hm : bs.length ≤ 100000) : Calls Try.prog 18 #[v] w (Alled w bs) := by
  obtain ⟨i0, hi, hz0, hz1, hz2⟩ := info_parts info43
  obtain ⟨a, cap, rfl, hcap, hcm⟩ := hb.shape
  obtain ⟨n, hn⟩ : ∃ n, bs.length = n := ⟨_, rfl⟩
  have HR := Lib.hid (rows_len_le bs)
  rw [hn] at hb hm hcap HR ⊢
  have HN := Lib.hid hn
  have HB := Lib.hid hb
  have HI := Lib.hid hi
  have HZ0 := Lib.hid hz0
  have HZ1 := Lib.hid hz1
  have HZ2 := Lib.hid hz2
  unfold maxLen at hcm
  clear hn hb hi hz0 hz1 hz2
  go_enter Try.func18, Try.ntmps18
  go_wp2
  go_loopw [5, 6] (fun s t wr => ∃ (k q : Nat), t = .int .i64 (q : Int) ∧ wr.ownsRow w.heap.size 43 2 s k (rowCells ((rowsOf bs).take k)) ∧ Below w.heap.size w wr ∧ k ≤ (rowsOf bs).length ∧ sizeR ((rowsOf bs).take k) = q ∧ q ≤ n ∧ (rowsOf bs).drop k = rowsOf (bs.drop q)) (fun _ t _ => n - (intOf t).toNat)
  case atStart => exact ⟨0, 0, rfl, World.ownsRow_nil _ _ _ _, Below.refl _ _, by omega, rfl, by omega, rfl⟩
  case round =>
    obtain ⟨k, q, rfl, hown, hB, hk, hq, hqn, hd⟩ := hrel
    by_cases hlt : q < n
    · obtain ⟨b, off, cap', hv, hcap', hcm', _, _⟩ := (HB.out.kept hB).at (by rw [HN.out]; omega)
      simp only [Value.slice.injEq] at hv
      obtain ⟨rfl, hnn, rfl⟩ := hv
      clear hnn hcap' hcm'
      have hbh := (HB.out.kept hB).behind q (by rw [HN.out]; omega)
      have HT := Lib.hid (reftake_any _ _ wr hbh)
      by_cases he : (takeOf (bs.drop q)).e = 0
      · have hrow := rows_yes he
        have hd2 := hd
        rw [hrow] at hd2
        obtain ⟨hn8, hnl, hb6⟩ := take_ok_n he
        rw [List.length_drop, HN.out] at hnl
        have hget : (rowsOf bs)[k]? = some ((takeOf (bs.drop q)).kind, (takeOf (bs.drop q)).body) := by
          have : ((rowsOf bs).drop k)[0]? = some ((takeOf (bs.drop q)).kind, (takeOf (bs.drop q)).body) := by rw [hd2]; rfl
          rwa [List.getElem?_drop, Nat.add_zero] at this
        have hd1 : (rowsOf bs).drop (k + 1) = rowsOf (bs.drop (q + (takeOf (bs.drop q)).n)) := by
          rw [← List.drop_drop, hd2, List.drop_drop]; rfl
        have hk1 : k + 1 ≤ (rowsOf bs).length := (List.getElem?_eq_some_iff.1 hget).1
        have hcs := rowCells_snoc _ k _ hget
        have hsz := sizeR_take _ k _ hget
        rw [hq] at hsz
        have hk8 := HR.out
        generalize takeOf (bs.drop q) = t at *
        obtain ⟨kd, body, tn, e⟩ := t
        dsimp only at he hn8 hnl hb6 hget hd1 hcs hsz
        subst he
        have HCS := Lib.hid hcs
        have HSZ := Lib.hid hsz
        have HD := Lib.hid hd1
        have HOWN := Lib.hid hown
        have hkb : k + 1 ≤ 100000 := by omega
        have H63 : Hid (k + 1 ≤ maxLen) := Lib.hid (by unfold maxLen; omega)
        have HBY : Hid ((k + 1) * 24 ≤ 140737488355328) := Lib.hid (by omega)
        have HOC : Hid (∀ u ∈ [Value.int .u8 (kd : Int), .string (str body)], u.oneCell' = true) := Lib.hid (by intro u hu; simp only [List.mem_cons, List.not_mem_nil, or_false] at hu; rcases hu with rfl | rfl <;> rfl)
        have hqb : q + tn ≤ n := by omega
        have HN8 := Lib.hid hn8
        clear hget hd1 hcs hsz hrow hd hd2 hbh hown hq hn8 hk8
        go_wp2_with (first
          | (go_at_call 16; refine HT.out.mono ?_; rintro e w1 ⟨u, rfl, hu, hb1⟩; obtain ⟨ua, uc, hus, _, _⟩ := hu.shape; subst hus; have es := rb_string (P := Try.prog) hu 22 9 5 Try.underlying22 Try.underlying5 Try.underlying9; have HB1 := Lib.hid (hB.trans (hb1.mono hB.size)); have HO1 := Lib.hid (ownsRow_below HOWN.out hb1); have HBS : Hid (w.heap.size ≤ (w1.alloc (.cells #[.int .u8 (kd : Int), .string (str body)] 43)).heap.size) := Lib.hid (by rw [World.size_alloc]; exact Nat.le_succ_of_le HB1.out.size))
          | (at_builtin; go_must (refine wpList_append_own _ rfl (.tmp 29) (.tmp 34) 36 rfl w.heap.size 43 i0 (.agg #[.int .u8 0, .string ⟨#[]⟩]) 2 24 Try.underlying36 HI.out HZ0.out HZ1.out HZ2.out rfl (by decide) u5 k (rowCells ((rowsOf bs).take k)) rfl (HO1.out.alloc (.cells #[.int .u8 (kd : Int), .string (str body)] 43)) ⟨w1.heap.size, 0, none⟩ 1 1 [.int .u8 (kd : Int), .string (str body)] rfl rfl (new_two _ _ _ _) HOC.out H63.out HBY.out HBS.out ?_; intro v' w2 hown2 hgrow _; obtain ⟨va, vc, rfl⟩ := ownsRow_slice hown2; have HB2 := Lib.hid ((HB1.out.alloc HB1.out.size (.cells #[.int .u8 (kd : Int), .string (str body)] 43)).grown hgrow HBS.out (fun j hj => (World.ownsRow.lt (HO1.out.alloc (.cells #[.int .u8 (kd : Int), .string (str body)] 43)) j hj).1)); have HO2 := Lib.hid hown2; clear hown2 hgrow)))
        go_roundw
        case rel => exact ⟨k + 1, q + tn, by go_num, by rw [HCS.out]; exact HO2.out, HB2.out, hk1, by rw [HSZ.out, HN8.out], hqb, HD.out⟩
        case measure => have := HN8.out; simp [intOf]; omega
      · obtain ⟨hkl, hea⟩ := rowsl hd hq hk he
        have hwe : whyEnd bs = (takeOf (bs.drop q)).e := by unfold whyEnd; rw [hea, HN.out, if_neg (by omega)]
        have hro : rowCells ((rowsOf bs).take k) = rowCells (rowsOf bs) := by rw [hkl, List.take_length]
        rw [hro, hkl] at hown
        have HOWN := Lib.hid hown
        have HEA := Lib.hid hea
        have HWE := Lib.hid hwe
        obtain ⟨sa, sc, rfl⟩ := ownsRow_slice hown
        generalize takeOf (bs.drop q) = t at *
        obtain ⟨kd, body, tn, e⟩ := t
        dsimp only at he
        have hx : ((e : Int) != 0) = true := by simp; omega
        clear hd hq hk hkl hea hwe hro hown hbh he
        go_wp2_with (go_at_call 16; refine HT.out.mono ?_; rintro e w1 ⟨u, rfl, hu, hb1⟩; obtain ⟨ua, uc, hus, _, _⟩ := hu.shape; subst hus)
        go_ret3
        exact ⟨_, by rw [HEA.out, HWE.out]; rfl, ownsRow_below HOWN.out hb1, hB.trans (hb1.mono hB.size)⟩
    · have hqe : q = n := by omega
      have hdn : bs.drop q = [] := List.drop_of_length_le (by rw [HN.out]; omega)
      obtain ⟨hkl, hea⟩ := rowsl hd hq hk (by rw [hdn, take_nil]; omega)
      have hwe : whyEnd bs = 0 := by unfold whyEnd; rw [hea, HN.out, if_pos hqe]
      have hro : rowCells ((rowsOf bs).take k) = rowCells (rowsOf bs) := by rw [hkl, List.take_length]
      rw [hro, hkl] at hown
      have HOWN := Lib.hid hown
      have HEA := Lib.hid hea
      have HWE := Lib.hid hwe
      obtain ⟨sa, sc, rfl⟩ := ownsRow_slice hown
      clear hd hq hk hkl hea hwe hro hown hdn hqe
      go_wp2
      go_ret3
      exact ⟨_, by rw [HEA.out, HWE.out]; rfl, HOWN.out, hB⟩
end Go.Proofs.Yteehglaadofidaa
