import Derived.Test.YtibjboacjobaoaaGreatMgAY
import Derived.Test.YtibjboacjobaoaaGreatMgAZ
import Derived.Test.YtibjboacjobaoaaGreatNbR
import Derived.Deep.RegionHeld3
namespace Go.Proofs.YtibjboacjobaoaaGreat
open Go.RowKit
/- A clock made; the example of layer 10. -/
open Go.RowKit

/-- A calendar as it is handed on. -/
def calV (off : Int) (a : Option Addr) (n ca : Nat) (b : Option Addr) (m cb : Nat) : Value := .agg #[.int .i64 off, .slice a n ca, .slice b m cb]
/-- New's number. -/
def checkE (off : Int) (F T : Nat → Int) (n : Nat) (G U : Nat → Int) (m : Nat) : Int :=
  if off < 0 ∨ 604800 ≤ off then 2 else if wrongE F T n ≠ 0 then wrongE F T n else rowE G U m
theorem checkE_ok {off : Int} {F T : Nat → Int} {n : Nat} {G U : Nat → Int} {m : Nat} (h : checkE off F T n G U m = 0) : Cal.ok ⟨F, T, n, G, U, m, off⟩ := by
  unfold checkE at h
  split at h
  · cases h
  · split at h
    · contradiction
    · rename_i h1 h2
      have h3 : (wrongE F T n != 0) = false := by simpa using h2
      obtain ⟨h4, h5⟩ := rowE_zero h
      exact ⟨wk_of h3, h5, h4, by show 0 ≤ off; omega, by show off < 604800; omega⟩
theorem checkE_of {D : Cal} (h : D.ok) : checkE D.off D.F D.T D.n D.G D.U D.m = 0 := by
  have := h.off0
  have := h.off1
  unfold checkE
  rw [if_neg (by omega), if_neg (by rw [wk_wrong h.wk]; simp), rowE_ok h.len h.good]

/-- A clock made. -/
def Clocked (D : Cal) (w : World) (e : Ending) (w' : World) : Prop := ∃ L : Loc, e = .returned (.tuple #[.pointer (some ⟨L.K, 0, none⟩), .int .i64 0]) ∧ Ck L D w' ∧ w.heap.size ≤ L.C ∧ Below w.heap.size w w'
set_option maxRecDepth 100000 in
set_option maxHeartbeats 4000000 in
theorem clock_ok (D : Cal) (a : Option Addr) (ca : Nat) (b : Option Addr) (cb : Nat) (w : World) (hd : D.ok) (hS : Sps w a D.n D.F D.T) (hR : Sps w b D.m D.G D.U) :
    Calls Tryz.prog 46 #[calV D.off a D.n ca b D.m cb] w (Clocked D w) := by
  have B1 : Below w.heap.size w (w.alloc (.cells #[.int .i64 D.off, .slice a D.n ca, .slice b D.m cb] 24)) := (Below.refl _ _).alloc (Nat.le_refl _) _
  have hnw := new_ok a D.n ca D.F D.T _ (hS.kept B1) hd.wk
  have HB1 := Lib.hid B1
  have HD := Lib.hid hd
  have HR := Lib.hid hR
  have o0 := hd.off0
  have o1 := hd.off1
  have c0 : (w.alloc (.cells #[.int .i64 D.off, .slice a D.n ca, .slice b D.m cb] 24)).cell? ⟨w.heap.size, 0, none⟩ = some (.int .i64 D.off) := by simp
  have c1 : (w.alloc (.cells #[.int .i64 D.off, .slice a D.n ca, .slice b D.m cb] 24)).cell? ⟨w.heap.size, 2, none⟩ = some (.slice b D.m cb) := by simp
  have hlt : w.heap.size < (w.alloc (.cells #[.int .i64 D.off, .slice a D.n ca, .slice b D.m cb] 24)).heap.size := by simp
  have HC := Lib.hid (And.intro c0 (And.intro c1 hlt))
  obtain ⟨off, ho⟩ : ∃ o, D.off = o := ⟨_, rfl⟩
  have d1 : decide (off < 0) = false := decide_eq_false (by omega)
  have d2 : decide (604800 ≤ off) = false := decide_eq_false (by omega)
  have HO := Lib.hid ho
  unfold calV
  rw [ho] at hnw HB1 HC ⊢
  clear hd hS hR B1 c0 c1 hlt ho o0 o1
  go_enter Tryz.func46, Tryz.ntmps46
  go_wp2_with fail
  refine hnw.mono ?_
  rintro e w2 ⟨P, C, pa, pc, rfl, hP, hb2⟩
  have c2 := (hb2.cell (p := ⟨w.heap.size, 2, none⟩) HC.out.2.2).trans HC.out.2.1
  have c0 := (hb2.cell (p := ⟨w.heap.size, 0, none⟩) HC.out.2.2).trans HC.out.1
  have HC0 := Lib.hid c0
  have HB2 := Lib.hid (HB1.out.trans (hb2.mono HB1.out.size))
  have HP2 := Lib.hid hP
  have HZ := Lib.hid HB1.out.size
  have hal := made_ok b D.m cb D.G D.U w2 (HR.out.kept HB2.out) HD.out.len HD.out.good
  clear hnw hP hb2
  go_wp2_with fail
  refine hal.mono ?_
  rintro e w3 ⟨A, ba, bc, rfl, hA, hA3, hfar, hb3⟩
  have c3 := (hb3.cell (p := ⟨w.heap.size, 0, none⟩) (cell_spot HC0.out).2).trans HC0.out
  have HB3 := Lib.hid (HB2.out.trans (hb3.mono HB2.out.size))
  have HP3 := Lib.hid (HP2.out.kept hb3)
  have HA3 := Lib.hid hA3
  have HF := Lib.hid (And.intro hA hfar)
  have hC2 := HP2.out.lt
  have hz3 := hb3.size
  clear hal hA hA3 hfar hb3 c2 c0
  go_wp2_with fail
  go_ret2
  have B4 : Below w3.heap.size w3 (w3.alloc (.cells #[.pointer (some ⟨A, 0, none⟩), .pointer (some ⟨P, 0, none⟩), .int .i64 off] 151)) := (Below.refl _ _).alloc (Nat.le_refl _) _
  have hA4 := HA3.out.kept B4
  have hP4 := HP3.out.kept B4
  obtain ⟨hfA, hfR⟩ := HF.out
  have hal : (w3.alloc (.cells #[.pointer (some ⟨A, 0, none⟩), .pointer (some ⟨P, 0, none⟩), .int .i64 off] 151)).cell? ⟨A, 0, none⟩ = some (.slice ba D.m bc) := by
    rcases hA4.mem with ⟨h, _⟩ | ⟨A', h, h2⟩
    · cases h
    · injection h with h; injection h with h; subst h; exact h2
  refine ⟨⟨_, w3.heap.size, A, P, C, pa, pc, ba, bc⟩, rfl, ⟨by simp, by simp, by simp [HO.out], hal, hA4.sps, hA4.cap, hP4, ?_, ?_, ?_⟩, ?_, HB3.out.alloc HB3.out.size _⟩
  · show w3.heap.size ≠ C; omega
  · show A ≠ C; omega
  · intro x h1 h2
    have := (hfR x h1 h2).1
    show x.block ≠ C
    omega
  · have := hP4.hC; have := HZ.out; show w.heap.size ≤ C; omega

theorem checkE_val {off : Int} {F T : Nat → Int} {n : Nat} {G U : Nat → Int} {m : Nat} : checkE off F T n G U m = if off < 0 ∨ 604800 ≤ off then 2 else if wrongE F T n ≠ 0 then wrongE F T n else rowE G U m := rfl
set_option maxRecDepth 100000 in
set_option maxHeartbeats 4000000 in
theorem clock_bad (off : Int) (a : Option Addr) (n ca : Nat) (F T : Nat → Int) (b : Option Addr) (m cb : Nat) (G U : Nat → Int) (w : World) (hS : Sps w a n F T) (hR : Sps w b m G U) (hz : checkE off F T n G U m ≠ 0) :
    Calls Tryz.prog 46 #[calV off a n ca b m cb] w fun e w' => e = .returned (.tuple #[.pointer none, .int .i64 (checkE off F T n G U m)]) ∧ Below w.heap.size w w' := by
  have B1 : Below w.heap.size w (w.alloc (.cells #[.int .i64 off, .slice a n ca, .slice b m cb] 24)) := (Below.refl _ _).alloc (Nat.le_refl _) _
  have c0 : (w.alloc (.cells #[.int .i64 off, .slice a n ca, .slice b m cb] 24)).cell? ⟨w.heap.size, 0, none⟩ = some (.int .i64 off) := by simp
  have c1 : (w.alloc (.cells #[.int .i64 off, .slice a n ca, .slice b m cb] 24)).cell? ⟨w.heap.size, 2, none⟩ = some (.slice b m cb) := by simp
  have hlt : w.heap.size < (w.alloc (.cells #[.int .i64 off, .slice a n ca, .slice b m cb] 24)).heap.size := by simp
  have HB1 := Lib.hid B1
  unfold calV
  by_cases ho : off < 0 ∨ 604800 ≤ off
  · have he : checkE off F T n G U m = 2 := if_pos ho
    rw [he]
    obtain ⟨b1, d1⟩ : ∃ c, decide (off < 0) = c := ⟨_, rfl⟩
    obtain ⟨b2, d2⟩ : ∃ c, decide (604800 ≤ off) = c := ⟨_, rfl⟩
    have hor : b1 = true ∨ b2 = true := by
      rcases ho with h | h
      · exact .inl (d1 ▸ decide_eq_true h)
      · exact .inr (d2 ▸ decide_eq_true h)
    clear hS hR hz he ho B1 c0 c1 hlt
    cases b1 <;> cases b2
    · rcases hor with h | h <;> cases h
    all_goals
      clear hor
      go_enter Tryz.func46, Tryz.ntmps46
      go_wp2_with fail
      go_ret2
      exact ⟨rfl, HB1.out⟩
  · have d1 : decide (off < 0) = false := decide_eq_false (by omega)
    have d2 : decide (604800 ≤ off) = false := decide_eq_false (by omega)
    by_cases hw : (wrongE F T n != 0) = true
    · have hw' : wrongE F T n ≠ 0 := by simpa using hw
      have he : checkE off F T n G U m = wrongE F T n := by unfold checkE; rw [if_neg ho, if_pos hw']
      rw [he]
      have hnw := new_no a n ca F T _ (hS.kept B1) hw
      generalize wrongE F T n = z at hnw hw ⊢
      clear hS hR hz he ho B1 c0 c1 hlt
      go_enter Tryz.func46, Tryz.ntmps46
      go_wp2_with fail
      refine hnw.mono ?_
      rintro e w2 ⟨rfl, hb2⟩
      have HB2 := Lib.hid (HB1.out.trans (hb2.mono HB1.out.size))
      clear hnw hb2
      go_wp2_with fail
      go_ret2
      exact ⟨rfl, HB2.out⟩
    · have hw' : (wrongE F T n != 0) = false := by simpa using hw
      have hw0 : wrongE F T n = 0 := by simpa using hw'
      have he : checkE off F T n G U m = rowE G U m := by unfold checkE; rw [if_neg ho, if_neg (by rw [hw0]; simp)]
      rw [he] at hz ⊢
      have hz' : (rowE G U m != 0) = true := by simpa using hz
      have hnw := new_ok a n ca F T _ (hS.kept B1) (wk_of hw')
      have HR := Lib.hid (fun W (hb : Below w.heap.size w W) => made_bad b m cb G U W (hR.kept hb) hz')
      generalize rowE G U m = z at HR hz' ⊢
      have HC := Lib.hid (And.intro c1 hlt)
      clear hS hR hz he ho B1 c0 c1 hlt hw hw' hw0
      go_enter Tryz.func46, Tryz.ntmps46
      go_wp2_with fail
      refine hnw.mono ?_
      rintro e w2 ⟨P, C, pa, pc, rfl, hP, hb2⟩
      have c2 := (hb2.cell (p := ⟨w.heap.size, 2, none⟩) HC.out.2).trans HC.out.1
      have HB2 := Lib.hid (HB1.out.trans (hb2.mono HB1.out.size))
      have h3 := HR.out w2 HB2.out
      clear hnw hb2 hP
      go_wp2_with fail
      refine h3.mono ?_
      rintro e w3 ⟨rfl, hb3⟩
      have HB3 := Lib.hid (HB2.out.trans (hb3.mono HB2.out.size))
      clear h3 hb3 c2
      go_wp2_with fail
      go_ret2
      exact ⟨rfl, HB3.out⟩
/- Rows of spans and calendars that are written, both ways. -/
open Go.RowKit
/-- A row that has elements lies below block b. -/
def FarR (b : Nat) (a : Option Addr) (n : Nat) : Prop := 0 < n → ∀ x, a = some x → x.block < b
theorem Sps.far {w : World} {a : Option Addr} {n : Nat} {F T : Nat → Int} {b : Nat} (h : Sps w a n F T) (hb : w.heap.size ≤ b) : FarR b a n := fun hp x hx => by
  obtain ⟨ab, ao, e, hl, _⟩ := h.2 hp
  rw [hx] at e
  injection e with e
  subst e
  exact Nat.lt_of_lt_of_le hl hb
theorem Sps.turn {w w' : World} {b : Nat} {v : Value} {a : Option Addr} {n : Nat} {F T : Nat → Int} {base : Nat} (h : Sps w a n F T) (ht : Turn b v w w') (hf : FarR b a n) (hb : b < base) (hv : ∀ k, v.ownBlock = some k → base ≤ k) : Sps w' a n F T := by
  refine ⟨h.1, fun hp => ?_⟩
  obtain ⟨ab, ao, rfl, hl, hc⟩ := h.2 hp
  have h1 : ab < b := hf hp _ rfl
  have e : w'.heap[ab]? = w.heap[ab]? := ht.block ab hl (by omega) (fun e => by have := hv ab e.symm; omega)
  exact ⟨ab, ao, rfl, Nat.lt_of_lt_of_le hl ht.size, fun k hk => ⟨(World.cell?_of_block e).trans (hc k hk).1, (World.cell?_of_block e).trans (hc k hk).2.1, (hc k hk).2.2⟩⟩
theorem rv_two (w : World) (b : Nat) (t : TypeId) (x1 x2 : Value) (hb : b = w.heap.size) : RV (w.alloc (.cells #[x1, x2] t)) (.slice (some ⟨b, 0, none⟩) 2 2) [x1, x2] := by
  subst hb
  refine ⟨by simp, _, _, rfl, fun i hi => ⟨_, _, rfl, ?_⟩⟩
  rw [World.cell?_alloc_at _ _ _ _ rfl]
  simp only [List.length_cons, List.length_nil] at hi
  have : i = 0 ∨ i = 1 := by omega
  rcases this with rfl | rfl <;> rfl
theorem num_two (b base : Nat) (v : Value) (f t : Nat) (bs : List Nat) (w : World) (hw : WR w b base v bs) (hbl : bs.length ≤ 10000000) (hf : f < 18446744073709551616) (ht : t < 18446744073709551616) :
    Calls Tryz.prog 69 #[.pointer (some ⟨b, 0, none⟩), .slice (some ⟨w.heap.size, 0, none⟩) 2 2] (w.alloc (.cells #[.int .u64 (f : Int), .int .u64 (t : Int)] 123)) fun e w' => e = .returned (.tuple #[]) ∧ Wrote b base v w (bs ++ (num 0 f ++ num 0 t)) w' := by
  have b1 : Below w.heap.size w (w.alloc (.cells #[.int .u64 (f : Int), .int .u64 (t : Int)] 123)) := (Below.refl _ _).alloc (Nat.le_refl _) _
  have hrv : RV (w.alloc (.cells #[.int .u64 (f : Int), .int .u64 (t : Int)] 123)) (.slice (some ⟨w.heap.size, 0, none⟩) 2 2) (List.map (fun n : Nat => Value.int .u64 ((n : Nat) : Int)) [f, t]) := by
    simp only [List.map_cons, List.map_nil]
    exact rv_two w _ _ _ _ rfl
  refine (num_wr b base v bs [f, t] _ _ (hw.kept b1) hbl hrv (by intro n hn; simp only [List.mem_cons, List.not_mem_nil, or_false] at hn; omega)).mono ?_
  rintro e w' ⟨rfl, hwr⟩
  have e2 : nums [f, t] = num 0 f ++ num 0 t := by unfold nums; simp
  rw [e2] at hwr
  exact ⟨rfl, hwr.after b1⟩
theorem pairs_take (F T : Nat → Int) (n k : Nat) (h : k ≤ n) : (pairs F T n).take k = pairs F T k := by
  unfold pairs
  rw [← List.map_take, List.take_range, Nat.min_eq_left h]
theorem pW_len (l : List (Int × Int)) (h : ∀ s ∈ l, s.1 ≤ 9223372036854775807 ∧ s.2 ≤ 9223372036854775807) : (pW l).length ≤ 18 * l.length := by
  unfold pW
  refine flat_len _ 18 l (fun x hx => ?_)
  have := h x hx
  have h1 := num_len9 0 x.1.toNat (by omega)
  have h2 := num_len9 0 x.2.toNat (by omega)
  rw [List.length_append]; omega
theorem pW_lt (l : List (Int × Int)) (h : ∀ s ∈ l, s.1 ≤ 9223372036854775807 ∧ s.2 ≤ 9223372036854775807) : ∀ c ∈ pW l, c < 256 := by
  unfold pW
  refine flat_lt _ l (fun x hx c hc => ?_)
  have := h x hx
  rcases List.mem_append.1 hc with hc | hc
  · exact num_lt' 0 _ (by omega) (by omega) c hc
  · exact num_lt' 0 _ (by omega) (by omega) c hc
/-- The bytes of a row of pairs. -/
def rowW (F T : Nat → Int) (n : Nat) : List Nat := num 0 n ++ pW (pairs F T n)
theorem rowW_snoc (F T : Nat → Int) (n k f t : Nat) (hf : F k = (f : Int)) (ht : T k = (t : Int)) : num 0 n ++ pW (pairs F T (k + 1)) = (num 0 n ++ pW (pairs F T k)) ++ (num 0 f ++ num 0 t) := by
  rw [pairs_succ, pW_snoc, hf, ht, List.append_assoc]
  simp
def NonNeg (F T : Nat → Int) (n : Nat) : Prop := ∀ k, k < n → 0 ≤ F k ∧ 0 ≤ T k
theorem rowW_len (F T : Nat → Int) (n k : Nat) (hn : n ≤ 1000) (hk : k ≤ n) (h : ∀ j, j < n → F j ≤ 9223372036854775807 ∧ T j ≤ 9223372036854775807) : (num 0 n ++ pW (pairs F T k)).length ≤ 9 + 18 * k := by
  rw [List.length_append]
  have h1 := num_len9 0 n (by omega)
  have h2 := pW_len (pairs F T k) (fun s hs => by obtain ⟨j, hj, rfl⟩ := pairs_mem.1 hs; exact h j (by omega))
  rw [pairs_len] at h2
  omega
theorem rowW_lt (F T : Nat → Int) (n : Nat) (hn : n ≤ 1000) (h : ∀ j, j < n → F j ≤ 9223372036854775807 ∧ T j ≤ 9223372036854775807) : ∀ c ∈ rowW F T n, c < 256 := by
  intro c hc
  rcases List.mem_append.1 hc with hc | hc
  · exact num_lt' 0 n (by omega) (by omega) c hc
  · exact pW_lt _ (fun s hs => by obtain ⟨j, hj, rfl⟩ := pairs_mem.1 hs; exact h j hj) c hc
theorem Sps.up {w : World} {a : Option Addr} {n : Nat} {F T : Nat → Int} (h : Sps w a n F T) : ∀ j, j < n → F j ≤ 9223372036854775807 ∧ T j ≤ 9223372036854775807 := fun j hj => by
  obtain ⟨_, _, _, _, _, _, h1, h2, h3, h4⟩ := h.at (Below.refl _ _) j hj
  exact ⟨h2, h4⟩
end Go.Proofs.YtibjboacjobaoaaGreat
