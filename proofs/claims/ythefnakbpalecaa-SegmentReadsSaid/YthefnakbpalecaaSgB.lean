/- Segments: readHead, readLine. -/
import Derived.Test.YthefnakbpalecaaSgA
import Derived.Deep.DeepCutAuto
namespace Go.Proofs.Ythefnakbpalecaa
open Go.RowKit
theorem str_sz (bs : List Nat) : (str bs).size = bs.length := by show (bs.map UInt8.ofNat).toArray.size = _; simp
theorem sB_str (bs : List Nat) (h : ∀ c ∈ bs, c < 256) : sB (str bs) = bs := by
  show ((bs.map UInt8.ofNat).toArray.toList).map UInt8.toNat = bs
  simp only [List.map_map]
  have : ∀ l : List Nat, (∀ c ∈ l, c < 256) → l.map (UInt8.toNat ∘ UInt8.ofNat) = l := by
    intro l
    induction l with
    | nil => intro _; rfl
    | cons c l ih =>
      intro h
      rw [List.map_cons, ih (fun c hc => h c (List.mem_cons_of_mem _ hc))]
      congr 1
      have := h c List.mem_cons_self
      show (UInt8.ofNat c).toNat = c
      simp; omega
  exact this bs h
/-- []byte(s), with where it lies. -/
theorem bytes_fresh (w : World) (bs : List Nat) (h1 : ∀ c ∈ bs, c < 256) (h2 : bs.length ≤ 100000) : ∃ g cap w', (convert 9 28 (.string (str bs))).run Try.prog w = .ok (.slice (some ⟨g, 0, none⟩) bs.length cap) w' ∧ RB w' (.slice (some ⟨g, 0, none⟩) bs.length cap) bs ∧ w.heap.size ≤ g ∧ g < w'.heap.size ∧ Below w.heap.size w w' := by
  have hr := run_bytes_of_string (P := Try.prog) w 9 28 5 (str bs) Try.underlying9 Try.underlying28 Try.underlying5
  have e1 := sB_str bs h1
  have e2 := str_sz bs
  have e3 : (str bs).data.size = bs.length := e2
  have hge := grownCap_ge w (str bs).size 0 5
  have hle := grownCap_le_maxLen w (str bs).size 0 5 (by unfold maxLen; omega)
  rw [e2] at hr hge hle
  refine ⟨_, _, _, hr, ⟨h1, by omega, .inr ⟨_, _, rfl, hge, hle, ?_⟩⟩, Nat.le_refl _, ?_, ((Below.refl _ _).drew).alloc (by simp) _⟩
  · intro i hi
    rw [add_at]
    have := World.cell?_alloc_mark w.drew (bytesRow (str bs) (grownCap w bs.length 0 5)) 5 ((bytesRow (str bs) (grownCap w bs.length 0 5)).size, (bytesRow (str bs) (grownCap w bs.length 0 5)).size + 1) i
    rw [Nat.zero_add]
    refine this.trans ?_
    have hi2 : i < (str bs).data.size := by omega
    have hg := sB_get (str bs) i hi2
    rw [e1] at hg
    rw [hg, bytesRow, Array.getElem?_append_left (by simpa using hi2), Array.getElem?_map, Array.getElem?_eq_getElem hi2]
    rfl
  · simp [World.size_alloc]
set_option maxRecDepth 100000 in
theorem rhead_any (kd : Nat) (v : Value) (bs : List Nat) (w : World) (hb : RB w v bs) (hl : bs.length ≤ 2000000) (hkd : kd < 256) :
    Calls Try.prog 70 #[.int .u8 (kd : Int), v] w fun e w' => e = .returned (.tuple #[.int .u64 (if hdOk kd bs then (nN 1152921504606846976 bs : Int) else 0), .bool (hdOk kd bs)]) ∧ Below w.heap.size w w' := by
  have HOP := Lib.hid (open_any v bs w hb (by omega))
  obtain ⟨a, c, rfl, -, -⟩ := hb.shape
  obtain ⟨L, hL⟩ : ∃ L, bs.length = L := ⟨_, rfl⟩
  rw [hL] at HOP ⊢
  obtain ⟨T, hT⟩ : ∃ T, nN 1152921504606846976 bs = T := ⟨_, rfl⟩
  obtain ⟨R, hR⟩ : ∃ T, nR 1152921504606846976 bs = T := ⟨_, rfl⟩
  obtain ⟨X, hX⟩ : ∃ T, nB 1152921504606846976 bs = T := ⟨_, rfl⟩
  have HH : Hid (hdOk kd bs = (decide (kd = 1) && (decide (T ≠ 0) && (!X && decide (R = []))))) := Lib.hid (by unfold hdOk; rw [hT, hR, hX])
  have HT := Lib.hid hT
  have HR := Lib.hid hR
  have HX := Lib.hid hX
  obtain ⟨z, hz⟩ : ∃ z, hdOk kd bs = z := ⟨_, rfl⟩
  have HZ := Lib.hid hz
  rw [hT, hz]
  obtain ⟨rv, hrv⟩ : ∃ rv, Value.tuple #[.int .u64 (if z then (T : Int) else 0), .bool z] = rv := ⟨_, rfl⟩
  have HRV := Lib.hid hrv
  rw [hrv]
  clear hb hL hT hR hX hz hrv
  go_enter Try.func70, Try.ntmps70
  go_wp2_with fail
  refine HOP.out.mono ?_
  rintro e w1 ⟨b, rfl, hbz, hr1, hb1⟩
  have HN1 := Lib.hid (num_rd2 b 1152921504606846976 1152921504606846976 (by omega) bs false w1 hr1)
  rw [HT.out, HR.out, HX.out] at HN1
  have HB1 := Lib.hid hb1
  have HBZ := Lib.hid hbz
  clear hbz hr1 hb1 HOP
  go_wp2_with fail
  refine HN1.out.mono ?_
  rintro e w2 ⟨rfl, hr2, ht2⟩
  have HB2 := Lib.hid (Rd.outside ht2 HB1.out HB1.out.size HBZ.out)
  have HE := Lib.hid (end_rd b R X w2 hr2)
  clear hr2 ht2 HN1
  by_cases hk : kd = 1
  · subst hk
    by_cases h0 : T = 0
    · have HF : Hid (z = false) := Lib.hid (by rw [← HZ.out, HH.out, h0]; rfl)
      subst h0
      go_wp2_with fail
      go_ret2
      rw [← HRV.out, HF.out]
      exact ⟨rfl, HB2.out⟩
    · have g0 : ((T : Int) == 0) = false := by simp; omega
      have g1 : decide ((T : Int) = 0) = false := decide_eq_false (by omega)
      have g2 : decide (T = 0) = false := decide_eq_false h0
      have g3 : (T == 0) = false := by simp; omega
      go_wp2_with fail
      by_cases hok : X = false ∧ R = []
      · have he : endOf R X = 0 := by
          unfold endOf
          rw [if_neg]
          rintro (h | h)
          · rw [hok.1] at h; cases h
          · exact h hok.2
        rw [he] at HE
        have HF : Hid (z = true) := Lib.hid (by rw [← HZ.out, HH.out, hok.1, hok.2]; simp [h0])
        refine HE.out.mono ?_
        rintro e w3 ⟨rfl, rfl⟩
        go_wp2_with fail
        go_ret2
        rw [← HRV.out, HF.out]
        exact ⟨rfl, HB2.out⟩
      · have he : endOf R X = 20 := by
          unfold endOf; rw [if_pos]
          by_cases hb : X = true
          · exact .inl hb
          · refine .inr (fun h => hok ⟨by simpa using hb, h⟩)
        rw [he] at HE
        have HF : Hid (z = false) := Lib.hid (by
          rw [← HZ.out, HH.out]
          cases X
          · have : R ≠ [] := fun h => hok ⟨rfl, h⟩
            simp [this]
          · simp)
        refine HE.out.mono ?_
        rintro e w3 ⟨rfl, rfl⟩
        go_wp2_with fail
        go_ret2
        rw [← HRV.out, HF.out]
        exact ⟨rfl, HB2.out⟩
  · have HF : Hid (z = false) := Lib.hid (by rw [← HZ.out, HH.out]; simp [hk])
    have g0 : ((kd : Int) == 1) = false := by simp; omega
    have g1 : decide ((kd : Int) = 1) = false := decide_eq_false (by omega)
    have g2 : (kd == 1) = false := by simp; omega
    have g3 : decide (kd = 1) = false := decide_eq_false hk
    have g4 : ((kd : Int) != 1) = true := by simp; omega
    go_wp2_with fail
    go_ret2
    rw [← HRV.out, HF.out]
    exact ⟨rfl, HB2.out⟩
end Go.Proofs.Ythefnakbpalecaa
