/- Numbers that are read: what they are, what is left, whether that is bad; both readers. -/
import Derived.Test.YthefnakbpalecaaMaG
import Derived.Test.YthefnakbpalecaaNbX
namespace Go.Proofs.Ythefnakbpalecaa
open Go.RowKit
def nN (most : Nat) (ds : List Nat) : Nat := match rNum most ds with | some (n, _) => n | none => 0
def nR (most : Nat) (ds : List Nat) : List Nat := match rNum most ds with | some (_, r) => r | none => []
def nB (most : Nat) (ds : List Nat) : Bool := match rNum most ds with | some _ => false | none => true
theorem nN_le (most : Nat) (ds : List Nat) : nN most ds ≤ most := by
  unfold nN rNum
  split
  · rename_i n r h
    split at h
    · split at h
      · simp only [Option.some.injEq, Prod.mk.injEq] at h
        omega
      · cases h
    · cases h
  · omega
theorem num_rd1 (b most : Nat) (ds : List Nat) (bad : Bool) (w : World) (hr : RR w b ds bad) :
    Calls Try.prog 100 #[.pointer (some ⟨b, 0, none⟩), .int .u64 (most : Int)] w fun e w' => e = .returned (.int .u64 ((nN most ds : Nat) : Int)) ∧ RR w' b (nR most ds) (nB most ds) ∧ Rd b w w' := by
  refine (num_rd b most ds bad w hr).mono fun e w' h => ?_
  unfold nN nR nB
  cases hq : rNum most ds with
  | none => exact h.1 (by rw [hq]; rfl)
  | some p => exact h.2 _ _ (by rw [hq]; rfl)
theorem num_rf1 (b most : Nat) (ds : List Nat) (bad : Bool) (w : World) (hr : RF w b ds bad) :
    Calls Try.prog 73 #[.pointer (some ⟨b, 0, none⟩), .int .u64 (most : Int)] w fun e w' => e = .returned (.int .u64 ((nN most ds : Nat) : Int)) ∧ RF w' b (nR most ds) (nB most ds) ∧ Rd b w w' := by
  refine (num_rf b most ds bad w hr).mono fun e w' h => ?_
  unfold nN nR nB
  cases hq : rNum most ds with
  | none => exact h.1 (by rw [hq]; rfl)
  | some p => exact h.2 _ _ (by rw [hq]; rfl)
theorem RR.lt {w : World} {b : Nat} {ds : List Nat} {bad : Bool} (h : RR w b ds bad) : b < w.heap.size := by
  obtain ⟨v, h1, _⟩ := h
  exact lt_of_block h1
theorem RF.lt {w : World} {b : Nat} {ds : List Nat} {bad : Bool} (h : RF w b ds bad) : b < w.heap.size := by
  obtain ⟨v, h1, _⟩ := h
  exact lt_of_block h1
theorem Rd.below {b : Nat} {w w' : World} (h : Below w.heap.size w w') : Rd b w w' := Turn.below h
theorem Rd.keep {b : Nat} {w w' : World} (h : Rd b w w') {T : Nat} {ob : Obj} (k : w.heap[T]? = some ob) (hT : T ≠ b) : w'.heap[T]? = some ob := (h.block T (ex_lt k) hT (by simp [Value.ownBlock])).trans k

theorem one_at {w : World} {N : Nat} {a : Value} {t : TypeId} (h : w.heap[N]? = some (.cells #[a] t (0, 0))) : w.cell? ⟨N, 0, none⟩ = some a := by simp [World.cell?, h]
def iN (ds : List Nat) : Int := match rInt ds with | some (n, _) => n | none => 0
def iR (ds : List Nat) : List Nat := match rInt ds with | some (_, r) => r | none => []
def iB (ds : List Nat) : Bool := match rInt ds with | some _ => false | none => true
theorem iN_in (ds : List Nat) : -9223372036854775808 ≤ iN ds ∧ iN ds ≤ 9223372036854775807 := by
  unfold iN
  cases hp : rnum ds with
  | none => rw [rInt_none hp]; simp
  | some q =>
    obtain ⟨m, bl, r⟩ := q
    by_cases hle : m ≤ 9223372036854775807
    · rw [rInt_some hp hle]
      cases bl <;> simp <;> omega
    · rw [rInt_big hp hle]; simp
theorem nN_back (most n : Nat) (rest : List Nat) (h : n < 18446744073709551616) (hm : n ≤ most) : nN most (num 0 n ++ rest) = n ∧ nR most (num 0 n ++ rest) = rest ∧ nB most (num 0 n ++ rest) = false := by
  unfold nN nR nB
  rw [rNum_back n rest h most hm]
  exact ⟨rfl, rfl, rfl⟩
theorem iN_back (z : Int) (rest : List Nat) (h1 : -9223372036854775808 ≤ z) (h2 : z ≤ 9223372036854775807) : iN (intB z ++ rest) = z ∧ iR (intB z ++ rest) = rest ∧ iB (intB z ++ rest) = false := by
  unfold iN iR iB
  rw [rInt_back z rest h1 h2]
  exact ⟨rfl, rfl, rfl⟩
theorem nB_none (most : Nat) : nN most [] = 0 ∧ nR most [] = [] ∧ nB most [] = true := by
  unfold nN nR nB rNum rnum
  exact ⟨rfl, rfl, rfl⟩

/-- A reader and its bytes lie below every later block. -/
theorem RB.blk {w w' : World} {v : Value} {bs : List Nat} (h : RB w v bs) (hb : ∀ k, v.ownBlock = some k → k < w.heap.size → w'.heap[k]? = w.heap[k]?) : RB w' v bs := by
  obtain ⟨h1, h2, h3⟩ := h
  refine ⟨h1, h2, ?_⟩
  rcases h3 with h3 | ⟨x, cap, hv, ha, hm, hc⟩
  · exact .inl h3
  · refine .inr ⟨x, cap, hv, ha, hm, fun i hi => ?_⟩
    have hbk : (x.add i).block = x.block := by unfold Addr.add; split <;> rfl
    have hs := (cell_spot (hc i hi)).2
    rw [World.cell?_of_block (hb (x.add i).block (by rw [hbk, hv]; rfl) hs)]
    exact hc i hi
theorem RR.under {w w' : World} {b B : Nat} {ds : List Nat} {bad : Bool} (h : RR w b ds bad) (hb : Below B w w') (hB : b < B) : RR w' b ds bad := by
  obtain ⟨v, h1, h2, h3, h4⟩ := h
  exact ⟨v, (hb.block b hB).trans h1, h2.blk (fun k hk _ => hb.block k (Nat.lt_trans (h3 k hk) hB)), h3, h4⟩
theorem RF.under {w w' : World} {b B : Nat} {ds : List Nat} {bad : Bool} (h : RF w b ds bad) (hb : Below B w w') (hB : b < B) : RF w' b ds bad := by
  obtain ⟨v, h1, h2, h3, h4⟩ := h
  exact ⟨v, (hb.block b hB).trans h1, h2.blk (fun k hk _ => hb.block k (Nat.lt_trans (h3 k hk) hB)), h3, h4⟩
theorem Rd.under {b B : Nat} {w w1 w2 : World} (h : Rd b w w1) (hb : Below B w1 w2) (hB : w.heap.size ≤ B) : Rd b w w2 :=
  ⟨hb.os.trans h.os, hb.tape.trans h.tape, hb.output.trans h.output, Nat.le_trans h.size hb.size, fun k hk hne hv => (hb.block k (Nat.lt_of_lt_of_le hk hB)).trans (h.block k hk hne hv)⟩
theorem RF.bad_at {w : World} {b : Nat} {ds : List Nat} {bad : Bool} (h : RF w b ds bad) : w.cell? ⟨b, 1, none⟩ = some (.bool bad) := by
  obtain ⟨v, h1, _⟩ := h
  simp [World.cell?, h1]
/-- Pairs of numbers that are read. -/
def pL (m1 m2 : Nat) : Nat → List Nat → List (Int × Int)
  | 0, _ => []
  | k + 1, ds => (((nN m1 ds : Nat) : Int), ((nN m2 (nR m1 ds) : Nat) : Int)) :: pL m1 m2 k (nR m2 (nR m1 ds))
def pR (m1 m2 : Nat) : Nat → List Nat → List Nat
  | 0, ds => ds
  | k + 1, ds => pR m1 m2 k (nR m2 (nR m1 ds))
def pB (m1 m2 : Nat) : Nat → Bool → List Nat → Bool
  | 0, bad, _ => bad
  | k + 1, _, ds => pB m1 m2 k (nB m2 (nR m1 ds)) (nR m2 (nR m1 ds))
theorem pL_len (m1 m2 : Nat) : ∀ (k : Nat) (ds : List Nat), (pL m1 m2 k ds).length = k
  | 0, _ => rfl
  | k + 1, ds => by rw [pL, List.length_cons, pL_len]
theorem pL_in (m1 m2 : Nat) : ∀ (k : Nat) (ds : List Nat), ∀ s ∈ pL m1 m2 k ds, 0 ≤ s.1 ∧ s.1 ≤ m1 ∧ 0 ≤ s.2 ∧ s.2 ≤ m2
  | 0, _ => by simp [pL]
  | k + 1, ds => by
    intro s hs
    rw [pL, List.mem_cons] at hs
    rcases hs with rfl | hs
    · have h1 := nN_le m1 ds
      have h2 := nN_le m2 (nR m1 ds)
      simp only
      omega
    · exact pL_in m1 m2 k _ s hs
/-- The bytes of pairs. -/
def pW (l : List (Int × Int)) : List Nat := (l.map fun x => num 0 x.1.toNat ++ num 0 x.2.toNat).flatten
theorem pW_cons (x : Int × Int) (l : List (Int × Int)) : pW (x :: l) = num 0 x.1.toNat ++ (num 0 x.2.toNat ++ pW l) := by simp [pW]
theorem pW_snoc (l : List (Int × Int)) (x : Int × Int) : pW (l ++ [x]) = pW l ++ (num 0 x.1.toNat ++ num 0 x.2.toNat) := by simp [pW]
theorem p_back (m1 m2 : Nat) (h1 : m1 < 18446744073709551616) (h2 : m2 < 18446744073709551616) : ∀ (l : List (Int × Int)) (rest : List Nat), (∀ s ∈ l, 0 ≤ s.1 ∧ s.1 ≤ m1 ∧ 0 ≤ s.2 ∧ s.2 ≤ m2) → pL m1 m2 l.length (pW l ++ rest) = l ∧ pR m1 m2 l.length (pW l ++ rest) = rest ∧ pB m1 m2 l.length false (pW l ++ rest) = false
  | [], rest, _ => ⟨rfl, rfl, rfl⟩
  | x :: l, rest, h => by
    obtain ⟨a0, a1, b0, b1⟩ := h x (by simp)
    obtain ⟨e1, e2, -⟩ := nN_back m1 x.1.toNat (num 0 x.2.toNat ++ (pW l ++ rest)) (by omega) (by omega)
    obtain ⟨e4, e5, e6⟩ := nN_back m2 x.2.toNat (pW l ++ rest) (by omega) (by omega)
    obtain ⟨i1, i2, i3⟩ := p_back m1 m2 h1 h2 l rest (fun s hs => h s (List.mem_cons_of_mem _ hs))
    rw [pW_cons, List.append_assoc, List.append_assoc, List.length_cons, pL, pR, pB, e1, e2, e4, e5, e6, i1, i2, i3]
    refine ⟨?_, rfl, rfl⟩
    congr 1
    ext
    · show ((x.1.toNat : Nat) : Int) = x.1; omega
    · show ((x.2.toNat : Nat) : Int) = x.2; omega
theorem pB_len (m1 m2 : Nat) : ∀ (k : Nat) (ds : List Nat), pR m1 m2 (k + 1) ds = nR m2 (nR m1 (pR m1 m2 k ds))
  | 0, _ => rfl
  | k + 1, ds => by
    have := pB_len m1 m2 k (nR m2 (nR m1 ds))
    rw [pR, this, pR]
/-- What is read is its own encoding. -/
theorem nB_enc {most : Nat} {ds : List Nat} (h : nB most ds = false) (hlt : ∀ c ∈ ds, c < 256) : ds = num 0 (nN most ds) ++ nR most ds ∧ ∀ c ∈ nR most ds, c < 256 := by
  have key : ds = num 0 (nN most ds) ++ nR most ds := by
    unfold nB at h
    unfold nN nR
    cases hq : rNum most ds with
    | none => rw [hq] at h; cases h
    | some p =>
      obtain ⟨n, rest⟩ := p
      show ds = num 0 n ++ rest
      unfold rNum at hq
      cases hp : rnum ds with
      | none => rw [hp] at hq; simp at hq
      | some q =>
        obtain ⟨m, bl, r⟩ := q
        rw [hp] at hq
        cases bl with
        | true => simp at hq
        | false =>
          obtain ⟨hx, hy⟩ := rnum_enc hp hlt
          have hm : m = n ∧ r = rest := by
            by_cases hle : m ≤ most
            · simpa [hle] using hq
            · simp [hle] at hq
          obtain ⟨rfl, rfl⟩ := hm
          simpa using hx
  refine ⟨key, fun c hc => hlt c ?_⟩
  rw [key]
  exact List.mem_append_right _ hc
theorem iB_enc {ds : List Nat} (h : iB ds = false) (hlt : ∀ c ∈ ds, c < 256) : ds = intB (iN ds) ++ iR ds ∧ ∀ c ∈ iR ds, c < 256 := by
  have key : ds = intB (iN ds) ++ iR ds := by
    unfold iB at h
    unfold iN iR
    cases hp : rnum ds with
    | none => rw [rInt_none hp] at h; cases h
    | some q =>
      obtain ⟨m, bl, r⟩ := q
      by_cases hle : m ≤ 9223372036854775807
      · rw [rInt_some hp hle]
        obtain ⟨hx, _⟩ := rnum_enc hp hlt
        cases bl with
        | true =>
          have e : intB (-1 - (m : Int)) = num 128 m := by
            unfold intB
            rw [if_pos (by omega)]
            congr 1
            omega
          simpa [e] using hx
        | false =>
          have e : intB (m : Int) = num 0 m := by
            unfold intB
            rw [if_neg (by omega), Int.toNat_natCast]
          simpa [e] using hx
      · rw [rInt_big hp hle] at h; cases h
  refine ⟨key, fun c hc => hlt c ?_⟩
  rw [key]
  exact List.mem_append_right _ hc
theorem nB_nil (most : Nat) : nB most [] = true := (nB_none most).2.2
theorem nR_bad {most : Nat} {ds : List Nat} (h : nB most ds = true) : nR most ds = [] := by
  unfold nB at h
  unfold nR
  cases hq : rNum most ds with
  | none => rfl
  | some p => rw [hq] at h; cases h
theorem pB_bad (m1 m2 : Nat) : ∀ k, pB m1 m2 k true [] = true
  | 0 => rfl
  | k + 1 => by rw [pB, (nB_none m1).2.1, (nB_none m2).2.1, (nB_none m2).2.2]; exact pB_bad m1 m2 k
theorem pB_enc (m1 m2 : Nat) : ∀ (k : Nat) (bad : Bool) (ds : List Nat), pB m1 m2 k bad ds = false → (∀ c ∈ ds, c < 256) → (k = 0 → bad = false) ∧ ds = pW (pL m1 m2 k ds) ++ pR m1 m2 k ds ∧ ∀ c ∈ pR m1 m2 k ds, c < 256
  | 0, bad, ds, h, hlt => ⟨fun _ => h, rfl, hlt⟩
  | k + 1, bad, ds, h, hlt => by
    rw [pB] at h
    cases h1 : nB m1 ds with
    | true =>
      exfalso
      have e1 := nR_bad h1
      rw [e1, (nB_none m2).2.1, (nB_none m2).2.2, pB_bad] at h
      cases h
    | false =>
      obtain ⟨g1, g2⟩ := nB_enc h1 hlt
      cases h2 : nB m2 (nR m1 ds) with
      | true =>
        exfalso
        have e2 := nR_bad h2
        rw [h2, e2, pB_bad] at h
        cases h
      | false =>
        obtain ⟨k1, k2⟩ := nB_enc h2 g2
        obtain ⟨_, i2, i3⟩ := pB_enc m1 m2 k _ _ h k2
        refine ⟨fun hk => by omega, ?_, by rw [pR]; exact i3⟩
        rw [pL, pR, pW_cons, List.append_assoc, List.append_assoc, ← i2]
        simp only [Int.toNat_natCast]
        rw [← k1]
        exact g1
end Go.Proofs.Ythefnakbpalecaa
