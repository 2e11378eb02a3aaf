/- Walks of frame: length at any bytes; Take. -/
import Derived.Test.YteehglaadofidaaFrB
import Derived.Outline
namespace Go.Proofs.Yteehglaadofidaa
open Go.RowKit

theorem length_any (v : Value) (bs : List Nat) (w : World) (hb : RB w v bs) : Calls Try.prog 37 #[v] w (Len w (lenOf bs).1 (lenOf bs).2) := by
  have hm := hb.2.1
  have hlt := hb.at_lt
  by_cases h0 : bs.length = 0
  · obtain ⟨a, cap, rfl, _, _⟩ := hb.shape
    have hbad : ¬ badHead bs := by unfold badHead szAt; rw [if_neg (by omega)]; omega
    have hsz : szAt bs = 0 := by unfold szAt; rw [if_neg (by omega)]
    rw [h0]
    unfold lenOf
    rw [if_neg hbad, if_pos (by omega)]
    exact length0 a cap w
  · obtain ⟨b, off, cap, rfl, _, _, _, hc⟩ := hb.at (by omega)
    have c0 := hc 0 (by omega)
    rw [Nat.add_zero] at c0
    by_cases h2 : bs.length < 2
    · have h1 : bs.length = 1 := by omega
      have hsz : szAt bs = 0 := by unfold szAt; rw [if_neg (by omega)]
      have := length1 b off cap (bs.getD 0 0) w c0
      rw [h1]
      by_cases hx : bs.getD 0 0 = 102
      · have hbad : ¬ badHead bs := by unfold badHead; rw [hsz]; omega
        rw [if_pos hx] at this
        unfold lenOf
        rw [if_neg hbad, if_pos (by omega)]
        exact this
      · have hbad : badHead bs := .inl ⟨by omega, hx⟩
        rw [if_neg hx] at this
        unfold lenOf
        rw [if_pos hbad]
        exact this
    · have c1 := hc 1 (by omega)
      by_cases h5 : bs.length < 5
      · have hsz : szAt bs = 0 := by unfold szAt; rw [if_neg (by omega)]
        have := length2 b off cap bs.length (bs.getD 0 0) (bs.getD 1 0) w (by omega) h5 c0 c1
        unfold lenOf
        by_cases hx : bs.getD 0 0 ≠ 102 ∨ bs.getD 1 0 = 0
        · have hbad : badHead bs := by unfold badHead; omega
          rw [if_pos hx] at this
          rw [if_pos hbad]
          exact this
        · have hbad : ¬ badHead bs := by unfold badHead; rw [hsz]; omega
          rw [if_neg hx] at this
          rw [if_neg hbad, if_pos (by omega)]
          exact this
      · have hsz : szAt bs = szOf bs := by unfold szAt; rw [if_pos (by omega)]
        have := length5 b off cap bs.length (bs.getD 0 0) (bs.getD 1 0) (bs.getD 2 0) (bs.getD 3 0) (bs.getD 4 0) w (by omega) hm (hlt 2 (by omega)) (hlt 3 (by omega)) (hlt 4 (by omega)) c0 c1 (hc 2 (by omega)) (hc 3 (by omega)) (hc 4 (by omega))
        rw [show bs.getD 2 0 * 65536 + bs.getD 3 0 * 256 + bs.getD 4 0 = szOf bs from rfl] at this
        unfold lenOf
        by_cases hx : badHead bs
        · have h' : 65536 < szOf bs ∨ bs.getD 1 0 = 0 ∨ bs.getD 0 0 ≠ 102 := by unfold badHead at hx; omega
          rw [if_pos (by omega), if_pos h'] at this
          rw [if_pos hx]
          exact this
        · have h' : ¬ (65536 < szOf bs ∨ bs.getD 1 0 = 0 ∨ bs.getD 0 0 ≠ 102) := by unfold badHead at hx; omega
          rw [if_neg hx]
          rw [if_neg h'] at this
          by_cases ht : bs.length < szOf bs + 8
          · rw [if_pos ht, if_pos (by omega)] at this
            rw [if_pos (by omega)]
            exact this
          · rw [if_neg ht, if_neg (by omega)] at this
            rw [if_neg (by omega)]
            exact this

theorem RB.upto {w : World} {a : Option Addr} {n cap : Nat} {bs : List Nat} (h : RB w (.slice a n cap) bs) (m : Nat) (hm : m ≤ bs.length) : RB w (.slice a m cap) (bs.take m) := by
  rcases Nat.lt_or_ge m bs.length with h1 | h1
  · obtain ⟨b, off, cap', e, _⟩ := h.at (by omega)
    simp only [Value.slice.injEq] at e
    obtain ⟨rfl, rfl, rfl⟩ := e
    exact h.take m h1 _ _ _ rfl
  · have e : m = bs.length := by omega
    subst e
    rw [List.take_length]
    obtain ⟨a', cap', e, _⟩ := h.shape
    simp only [Value.slice.injEq] at e
    obtain ⟨rfl, rfl, rfl⟩ := e
    exact h
/-- Of bytes that can be read, what stands behind the first ones. -/
theorem RB.behind {w : World} {b off n cap : Nat} {bs : List Nat} (h : RB w (.slice (some ⟨b, off, none⟩) n cap) bs) (m : Nat) (hm : m ≤ bs.length) : RB w (.slice (some ⟨b, off + m, none⟩) (n - m) (cap - m)) (bs.drop m) := by
  obtain ⟨h1, h2, h3⟩ := h
  rcases h3 with ⟨h3, _⟩ | ⟨x, cap', h3, h4, h5, h6⟩
  · cases h3
  · simp only [Value.slice.injEq, Option.some.injEq] at h3
    obtain ⟨rfl, rfl, rfl⟩ := h3
    refine ⟨fun c hc => h1 c (List.mem_of_mem_drop hc), by rw [List.length_drop]; omega, .inr ⟨⟨b, off + m, none⟩, cap - m, by rw [List.length_drop], by rw [List.length_drop]; omega, by omega, fun i hi => ?_⟩⟩
    rw [List.length_drop] at hi
    have := h6 (m + i) (by omega)
    rw [add_at] at this ⊢
    rw [show off + m + i = off + (m + i) by omega, this]
    congr 3
    simp [List.getD_eq_getElem?_getD, List.getElem?_drop]

/-- What Take hands back. -/
def Taken (w : World) (t : Tk) (e : Ending) (w' : World) : Prop :=
  ∃ v', e = .returned (.tuple #[.int .u8 (t.kind : Int), v', .int .i64 (t.n : Int), .int .i64 (t.e : Int)]) ∧ RB w' v' t.body ∧ Below w.heap.size w w'

theorem take_no (v : Value) (bs : List Nat) (k : Nat) (w : World) (hb : RB w v bs) (h : lenOf bs = (0, k)) (hk : k ≠ 0) : Calls Try.prog 15 #[v] w (Taken w ⟨0, [], 0, k⟩) := by
  have hL := length_any v bs w hb
  rw [h] at hL
  have HL := Lib.hid hL
  have e : ((k : Int) != 0) = true := by simp; omega
  obtain ⟨a, cap, rfl, _, _⟩ := hb.shape
  obtain ⟨n, hn⟩ : ∃ n, bs.length = n := ⟨_, rfl⟩
  rw [hn] at HL ⊢
  clear hb hn h hL hk
  go_enter Try.func15, Try.ntmps15
  go_wp2_with (go_at_call 37; refine HL.out.mono ?_; rintro e w1 ⟨rfl, hB⟩)
  exact bodyPost_ret (v := .tuple #[.int .u8 0, .slice none 0 0, .int .i64 0, .int .i64 (k : Int)]) (by simp [results, Try.results15, go_sem]) rfl ⟨_, rfl, RB.nil _, hB⟩

set_option maxHeartbeats 1000000 in
theorem take_sum (v : Value) (bs : List Nat) (m : Nat) (w : World) (hb : RB w v bs) (h : lenOf bs = (m + 8, 0)) (hm : m ≤ 65536) (hl : m + 8 ≤ bs.length) (hs : ¬ sumFits (bs.take (m + 8)) (m + 5)) :
    Calls Try.prog 15 #[v] w (Taken w ⟨0, [], 0, 22⟩) := by
  have hL := length_any v bs w hb
  rw [h] at hL
  have HL := Lib.hid hL
  have hlim := hb.2.1
  obtain ⟨b, off, cap, rfl, hcap, hcm, _, _⟩ := hb.at (by omega)
  have HB := Lib.hid (hb.upto (m + 8) hl)
  obtain ⟨n, hn⟩ : ∃ n, bs.length = n := ⟨_, rfl⟩
  have ht : (bs.take (m + 8)).length = m + 5 + 3 := by rw [List.length_take]; omega
  rw [hn] at HL hl hcap hlim ⊢
  obtain ⟨ts, hts⟩ : ∃ ts, bs.take (m + 8) = ts := ⟨_, rfl⟩
  rw [hts] at HB ht hs
  have HT := Lib.hid ht
  have HS := Lib.hid hs
  unfold maxLen at hcm
  clear hb hn h hL ht hs hts
  go_enter Try.func15, Try.ntmps15
  go_wp2_with (go_at_call 37; refine HL.out.mono ?_; rintro e w1 ⟨rfl, hB⟩)
  have HB1 := Lib.hid (HB.out.kept hB)
  go_wp2_with (go_at_call 38; refine (open_bad _ _ (m + 5) _ HB1.out HT.out (by omega) HS.out).mono ?_; rintro e w2 ⟨rfl, hB2⟩)
  exact bodyPost_ret (v := .tuple #[.int .u8 0, .slice none 0 0, .int .i64 0, .int .i64 22]) (by simp [results, Try.results15, go_sem]) rfl ⟨_, rfl, RB.nil _, hB.trans (hB2.mono hB.size)⟩

set_option maxHeartbeats 1000000 in
theorem take_ok (v : Value) (bs : List Nat) (m : Nat) (w : World) (hb : RB w v bs) (h : lenOf bs = (m + 8, 0)) (hm : m ≤ 65536) (hl : m + 8 ≤ bs.length) (hs : sumFits (bs.take (m + 8)) (m + 5)) :
    Calls Try.prog 15 #[v] w (Taken w ⟨bs.getD 1 0, (bs.drop 5).take m, m + 8, 0⟩) := by
  have hL := length_any v bs w hb
  rw [h] at hL
  have HL := Lib.hid hL
  have hlim := hb.2.1
  obtain ⟨b, off, cap, rfl, hcap, hcm, _, _⟩ := hb.at (by omega)
  have HB := Lib.hid (hb.upto (m + 8) hl)
  obtain ⟨n, hn⟩ : ∃ n, bs.length = n := ⟨_, rfl⟩
  have ht : (bs.take (m + 8)).length = m + 5 + 3 := by rw [List.length_take]; omega
  have he : (bs.take (m + 8)).take (m + 5) = bs.take (m + 5) := by rw [List.take_take]; congr 1; omega
  have hg1 : (bs.take (m + 5)).getD 1 0 = bs.getD 1 0 := getD_take _ _ _ (by omega)
  have hd5 : (bs.take (m + 5)).drop 5 = (bs.drop 5).take m := by rw [List.drop_take]; rfl
  have hbl : (bs.take (m + 5)).length = m + 5 := by rw [List.length_take]; omega
  have hlt : ∀ c ∈ bs.take (m + 5), c < 256 := fun c hc => hb.1 c (List.mem_of_mem_take hc)
  rw [hn] at HL hl hcap hlim ⊢
  rw [← hg1, ← hd5]
  obtain ⟨ts, hts⟩ : ∃ ts, bs.take (m + 8) = ts := ⟨_, rfl⟩
  obtain ⟨ds, hds⟩ : ∃ ds, bs.take (m + 5) = ds := ⟨_, rfl⟩
  rw [hts] at HB ht hs he
  rw [hds] at he hbl hlt ⊢
  have HT := Lib.hid ht
  have HS := Lib.hid hs
  have HE := Lib.hid he
  have HBL := Lib.hid hbl
  have HLT := Lib.hid hlt
  unfold maxLen at hcm
  clear hb hn h hL ht hs hts hds he hg1 hd5 hbl hlt
  go_enter Try.func15, Try.ntmps15
  go_wp2_with (go_at_call 37; refine HL.out.mono ?_; rintro e w1 ⟨rfl, hB⟩)
  have HB1 := Lib.hid (HB.out.kept hB)
  have HO := Lib.hid (open_good _ _ (m + 5) _ HB1.out HT.out (by omega) HS.out)
  rw [HE.out] at HO
  go_wp2_with (go_at_call 38; refine HO.out.mono ?_; rintro e w2 ⟨v2, rfl, ho, hB2⟩; have hr2 := ho.rb HLT.out (by have := HBL.out; omega); obtain ⟨b2, off2, cap2, hv2, hc2, hcm2, _, hcell⟩ := hr2.at (by have := HBL.out; omega); rw [HBL.out] at hv2 hc2; subst hv2; have c1 := hcell 1 (by have := HBL.out; omega); have HR := Lib.hid hr2; unfold maxLen at hcm2; clear hcell hr2 ho)
  have hb2 := hB.trans (hB2.mono hB.size)
  by_cases hq : cap2 = 5
  · subst hq
    obtain rfl : m = 0 := by omega
    have hnil : ds.drop 5 = [] := List.drop_of_length_le (by have := HBL.out; omega)
    have HNIL := Lib.hid hnil
    clear hnil
    go_quiet (fail)
    go_wp2
    exact bodyPost_ret (v := .tuple #[.int .u8 ((ds.getD 1 0 : Nat) : Int), .slice (some ⟨b2, off2, none⟩) 0 0, .int .i64 8, .int .i64 0]) (by simp [results, Try.results15, go_sem]) rfl ⟨_, rfl, by rw [HNIL.out]; exact ⟨by simp, by simp, .inr ⟨_, 0, rfl, by simp, by simp, fun i hi => by simp at hi⟩⟩, below_drewN hb2 _⟩
  · go_quiet (fail)
    go_wp2
    exact bodyPost_ret (v := .tuple #[.int .u8 ((ds.getD 1 0 : Nat) : Int), .slice (some ⟨b2, off2 + 5, none⟩) (m + 5 - 5) (cap2 - 5), .int .i64 ((m : Int) + 8), .int .i64 0]) (by simp [results, Try.results15, go_sem]) rfl ⟨_, rfl, ((HR.out).behind 5 (by have := HBL.out; omega)).kept (below_drewN (Below.refl _ _) _), below_drewN hb2 _⟩

theorem take_any (v : Value) (bs : List Nat) (w : World) (hb : RB w v bs) : Calls Try.prog 15 #[v] w (Taken w (takeOf bs)) := by
  unfold takeOf
  by_cases h1 : badHead bs
  · rw [if_pos h1]
    exact take_no v bs 20 w hb (by unfold lenOf; rw [if_pos h1]) (by omega)
  · rw [if_neg h1]
    by_cases h2 : bs.length < szAt bs + 8
    · rw [if_pos h2]
      exact take_no v bs 23 w hb (by unfold lenOf; rw [if_neg h1, if_pos h2]) (by omega)
    · rw [if_neg h2]
      have h5 : 5 ≤ bs.length := by omega
      have hz : szAt bs = szOf bs := by unfold szAt; rw [if_pos h5]
      have hL : lenOf bs = (szOf bs + 8, 0) := by unfold lenOf; rw [if_neg h1, if_neg h2]
      have hm : szOf bs ≤ 65536 := by unfold badHead at h1; omega
      by_cases h3 : sumFits (bs.take (szOf bs + 8)) (szOf bs + 5)
      · rw [if_pos h3]
        exact take_ok v bs (szOf bs) w hb hL hm (by omega) h3
      · rw [if_neg h3]
        exact take_sum v bs (szOf bs) w hb hL hm (by omega) h3
end Go.Proofs.Yteehglaadofidaa
