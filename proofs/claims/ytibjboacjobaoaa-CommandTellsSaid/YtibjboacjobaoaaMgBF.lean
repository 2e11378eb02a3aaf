import Derived.Test.YtibjboacjobaoaaMgBE
import Derived.Test.YtibjboacjobaoaaMgAM
import Derived.Test.YtibjboacjobaoaaMgAD
import Derived.Deep.LoopGhost
import Derived.Deep.RegionHeld3
namespace Go.Proofs.Ytibjboacjobaoaa
open Go.RowKit
/- The other reader: Int. -/
open Go.RowKit

set_option maxHeartbeats 1000000 in
theorem int_rf_some (b n : Nat) (bl : Bool) (ds rest : List Nat) (bad : Bool) (w : World) (hr : RF w b ds bad) (hn : rnum ds = some (n, bl, rest)) :
    Calls Try.prog 79 #[.pointer (some ⟨b, 0, none⟩)] w (GotF b w (.int .i64 0) ((rInt ds).map i64v)) := by
  have hrI : (rInt ds).map i64v = if n ≤ 9223372036854775807 then some (.int .i64 (if bl then -1 - (n : Int) else (n : Int)), rest) else none := by
    unfold rInt
    rw [hn]
    by_cases h : n ≤ 9223372036854775807
    · simp only [if_pos h]; rfl
    · simp only [if_neg h]; rfl
  cases ds with
  | nil => simp [rnum] at hn
  | cons c t =>
    have hb : bad = false := by
      obtain ⟨v, _, _, _, h4⟩ := hr
      cases bad
      · rfl
      · simp at h4
    subst hb
    have hc : c < 256 := by obtain ⟨v, _, h2, _⟩ := hr; exact h2.1 c (by simp)
    have HF := Lib.hid (first_yes b c t w hr)
    rw [rnum_first] at hn
    have hof : ofN (c % 128) t = some (n, rest) ∧ bl = decide (128 ≤ c) := by
      cases h : ofN (c % 128) t with
      | none => rw [h] at hn; cases hn
      | some p =>
        obtain ⟨n', r'⟩ := p
        rw [h] at hn
        simp only [Option.some.injEq, Prod.mk.injEq] at hn
        obtain ⟨rfl, rfl, rfl⟩ := hn
        exact ⟨rfl, rfl⟩
    obtain ⟨hof, rfl⟩ := hof
    have hnum : ∀ w1, RF w1 b t false → Calls Try.prog 124 #[.pointer (some ⟨b, 0, none⟩), .int .i64 ((c % 128 : Nat) : Int)] w1 fun e w2 => e = .returned (.tuple #[.int .u64 ((n : Nat) : Int), .bool true]) ∧ RF w2 b rest false ∧ Rd b w1 w2 := fun w1 h1 => (rfnum_any b (c % 128) t w1 h1).mono fun e w2 hq => by
      rcases hq with ⟨h, _⟩ | ⟨n', rest', h, h2, h3, h4, _⟩
      · rw [hof] at h; cases h
      · rw [hof] at h
        simp only [Option.some.injEq, Prod.mk.injEq] at h
        obtain ⟨rfl, rfl⟩ := h
        exact ⟨h2, h3, h4⟩
    have HQ := Lib.hid hnum
    have hm : ((c % 128 : Nat) : Int) = (c : Int) % 128 := by omega
    have hw : IntKind.i64.wrap ((c : Int) % 128) = (c : Int) % 128 := IntWalk.i64_in _ ⟨by omega, by omega⟩
    rw [hm] at HQ
    rw [hrI]
    clear hr hn hof hnum hm hrI
    by_cases hle : n ≤ 9223372036854775807
    · rw [if_pos hle]
      have hd : decide ((n : Int) ≤ 9223372036854775807) = true := by simp; omega
      have hwn : IntKind.i64.wrap (n : Int) = (n : Int) := IntWalk.i64_in _ ⟨by omega, by omega⟩
      have hws : IntKind.i64.wrap (-1 - (n : Int)) = -1 - (n : Int) := IntWalk.i64_in _ ⟨by omega, by omega⟩
      by_cases h128 : 128 ≤ c
      · have hdc : decide ((128 : Int) ≤ (c : Int)) = true := by simp; omega
        rw [if_pos (by simp [h128])]
        go_enter Try.func79, Try.ntmps79
        go_wp2_with (first
          | (go_at_call 123; refine HF.out.mono ?_; rintro e w1 ⟨rfl, hr1, ht1⟩)
          | (go_at_call 124; refine (HQ.out w1 hr1).mono ?_; rintro e w2 ⟨rfl, hr2, ht2⟩))
        go_ret
        exact GotF.yes rfl hr2 (ht1.trans ht2)
      · have hdc : decide ((128 : Int) ≤ (c : Int)) = false := by simp; omega
        rw [if_neg (by simp [h128])]
        go_enter Try.func79, Try.ntmps79
        go_wp2_with (first
          | (go_at_call 123; refine HF.out.mono ?_; rintro e w1 ⟨rfl, hr1, ht1⟩)
          | (go_at_call 124; refine (HQ.out w1 hr1).mono ?_; rintro e w2 ⟨rfl, hr2, ht2⟩))
        go_ret
        exact GotF.yes rfl hr2 (ht1.trans ht2)
    · rw [if_neg hle]
      have hd : decide ((n : Int) ≤ 9223372036854775807) = false := by simp; omega
      go_enter Try.func79, Try.ntmps79
      go_wp2_with (first
        | (go_at_call 123; refine HF.out.mono ?_; rintro e w1 ⟨rfl, hr1, ht1⟩)
        | (go_at_call 124; refine (HQ.out w1 hr1).mono ?_; rintro e w2 ⟨rfl, hr2, ht2⟩)
        | (go_at_call 107; refine (fail_rf b _ _ _ hr2).mono ?_; rintro e w3 ⟨rfl, hr3, ht3⟩))
      go_ret
      exact GotF.no rfl hr3 ((ht1.trans ht2).trans ht3)
theorem int_rf (b : Nat) (ds : List Nat) (bad : Bool) (w : World) (hr : RF w b ds bad) :
    Calls Try.prog 79 #[.pointer (some ⟨b, 0, none⟩)] w (GotF b w (.int .i64 0) ((rInt ds).map i64v)) := by
  cases hn : rnum ds with
  | none =>
    refine (int_rf_no b ds bad w hr hn).mono ?_
    rintro e w' ⟨rfl, h1, h2⟩
    exact GotF.no (by rw [rInt_none hn]; rfl) h1 h2
  | some p =>
    obtain ⟨n, bl, rest⟩ := p
    exact int_rf_some b n bl ds rest bad w hr hn
/- Numbers that are read: what they are, what is left, whether that is bad; both readers. -/
open Go.RowKit
def nN (most : Nat) (ds : List Nat) : Nat := match rNum most ds with | some (n, _) => n | none => 0
def nR (most : Nat) (ds : List Nat) : List Nat := match rNum most ds with | some (_, r) => r | none => []
def nB (most : Nat) (ds : List Nat) : Bool := match rNum most ds with | some _ => false | none => true
theorem nN_le (most : Nat) (ds : List Nat) : nN most ds ≤ most := by
  unfold nN rNum
  split
  · rename_i n r h
    split at h
    · split at h
      · simp only [Option.some.injEq, Prod.mk.injEq] at h
        omega
      · cases h
    · cases h
  · omega
theorem num_rd1 (b most : Nat) (ds : List Nat) (bad : Bool) (w : World) (hr : RR w b ds bad) :
    Calls Try.prog 71 #[.pointer (some ⟨b, 0, none⟩), .int .u64 (most : Int)] w fun e w' => e = .returned (.int .u64 ((nN most ds : Nat) : Int)) ∧ RR w' b (nR most ds) (nB most ds) ∧ Rd b w w' := by
  refine (num_rd b most ds bad w hr).mono fun e w' h => ?_
  unfold nN nR nB
  cases hq : rNum most ds with
  | none => exact h.1 (by rw [hq]; rfl)
  | some p => exact h.2 _ _ (by rw [hq]; rfl)
theorem num_rf1 (b most : Nat) (ds : List Nat) (bad : Bool) (w : World) (hr : RF w b ds bad) :
    Calls Try.prog 76 #[.pointer (some ⟨b, 0, none⟩), .int .u64 (most : Int)] w fun e w' => e = .returned (.int .u64 ((nN most ds : Nat) : Int)) ∧ RF w' b (nR most ds) (nB most ds) ∧ Rd b w w' := by
  refine (num_rf b most ds bad w hr).mono fun e w' h => ?_
  unfold nN nR nB
  cases hq : rNum most ds with
  | none => exact h.1 (by rw [hq]; rfl)
  | some p => exact h.2 _ _ (by rw [hq]; rfl)
theorem RR.lt {w : World} {b : Nat} {ds : List Nat} {bad : Bool} (h : RR w b ds bad) : b < w.heap.size := by
  obtain ⟨v, h1, _⟩ := h
  exact lt_of_block h1
theorem RF.lt {w : World} {b : Nat} {ds : List Nat} {bad : Bool} (h : RF w b ds bad) : b < w.heap.size := by
  obtain ⟨v, h1, _⟩ := h
  exact lt_of_block h1
theorem Rd.below {b : Nat} {w w' : World} (h : Below w.heap.size w w') : Rd b w w' := Turn.below h
theorem Rd.keep {b : Nat} {w w' : World} (h : Rd b w w') {T : Nat} {ob : Obj} (k : w.heap[T]? = some ob) (hT : T ≠ b) : w'.heap[T]? = some ob := (h.block T (ex_lt k) hT (by simp [Value.ownBlock])).trans k

theorem one_at {w : World} {N : Nat} {a : Value} {t : TypeId} (h : w.heap[N]? = some (.cells #[a] t (0, 0))) : w.cell? ⟨N, 0, none⟩ = some a := by simp [World.cell?, h]
def iN (ds : List Nat) : Int := match rInt ds with | some (n, _) => n | none => 0
def iR (ds : List Nat) : List Nat := match rInt ds with | some (_, r) => r | none => []
def iB (ds : List Nat) : Bool := match rInt ds with | some _ => false | none => true
theorem iN_in (ds : List Nat) : -9223372036854775808 ≤ iN ds ∧ iN ds ≤ 9223372036854775807 := by
  unfold iN
  cases hp : rnum ds with
  | none => rw [rInt_none hp]; simp
  | some q =>
    obtain ⟨m, bl, r⟩ := q
    by_cases hle : m ≤ 9223372036854775807
    · rw [rInt_some hp hle]
      cases bl <;> simp <;> omega
    · rw [rInt_big hp hle]; simp
theorem int_rd1 (b : Nat) (ds : List Nat) (bad : Bool) (w : World) (hr : RR w b ds bad) :
    Calls Try.prog 72 #[.pointer (some ⟨b, 0, none⟩)] w fun e w' => e = .returned (.int .i64 (iN ds)) ∧ RR w' b (iR ds) (iB ds) ∧ Rd b w w' := by
  refine (int_rd b ds bad w hr).mono fun e w' h => ?_
  unfold iN iR iB
  cases hq : rInt ds with
  | none => exact h.1 (by rw [hq]; rfl)
  | some p => exact h.2 _ _ (by rw [hq]; rfl)
theorem int_rf1 (b : Nat) (ds : List Nat) (bad : Bool) (w : World) (hr : RF w b ds bad) :
    Calls Try.prog 79 #[.pointer (some ⟨b, 0, none⟩)] w fun e w' => e = .returned (.int .i64 (iN ds)) ∧ RF w' b (iR ds) (iB ds) ∧ Rd b w w' := by
  refine (int_rf b ds bad w hr).mono fun e w' h => ?_
  unfold iN iR iB
  cases hq : rInt ds with
  | none => exact h.1 (by rw [hq]; rfl)
  | some p => exact h.2 _ _ (by rw [hq]; rfl)
theorem nN_back (most n : Nat) (rest : List Nat) (h : n < 18446744073709551616) (hm : n ≤ most) : nN most (num 0 n ++ rest) = n ∧ nR most (num 0 n ++ rest) = rest ∧ nB most (num 0 n ++ rest) = false := by
  unfold nN nR nB
  rw [rNum_back n rest h most hm]
  exact ⟨rfl, rfl, rfl⟩
theorem iN_back (z : Int) (rest : List Nat) (h1 : -9223372036854775808 ≤ z) (h2 : z ≤ 9223372036854775807) : iN (intB z ++ rest) = z ∧ iR (intB z ++ rest) = rest ∧ iB (intB z ++ rest) = false := by
  unfold iN iR iB
  rw [rInt_back z rest h1 h2]
  exact ⟨rfl, rfl, rfl⟩
theorem nB_none (most : Nat) : nN most [] = 0 ∧ nR most [] = [] ∧ nB most [] = true := by
  unfold nN nR nB rNum rnum
  exact ⟨rfl, rfl, rfl⟩

/-- A reader and its bytes lie below every later block. -/
theorem RB.blk {w w' : World} {v : Value} {bs : List Nat} (h : RB w v bs) (hb : ∀ k, v.ownBlock = some k → k < w.heap.size → w'.heap[k]? = w.heap[k]?) : RB w' v bs := by
  obtain ⟨h1, h2, h3⟩ := h
  refine ⟨h1, h2, ?_⟩
  rcases h3 with h3 | ⟨x, cap, hv, ha, hm, hc⟩
  · exact .inl h3
  · refine .inr ⟨x, cap, hv, ha, hm, fun i hi => ?_⟩
    have hbk : (x.add i).block = x.block := by unfold Addr.add; split <;> rfl
    have hs := (cell_spot (hc i hi)).2
    rw [World.cell?_of_block (hb (x.add i).block (by rw [hbk, hv]; rfl) hs)]
    exact hc i hi
theorem RR.under {w w' : World} {b B : Nat} {ds : List Nat} {bad : Bool} (h : RR w b ds bad) (hb : Below B w w') (hB : b < B) : RR w' b ds bad := by
  obtain ⟨v, h1, h2, h3, h4⟩ := h
  exact ⟨v, (hb.block b hB).trans h1, h2.blk (fun k hk _ => hb.block k (Nat.lt_trans (h3 k hk) hB)), h3, h4⟩
theorem RF.under {w w' : World} {b B : Nat} {ds : List Nat} {bad : Bool} (h : RF w b ds bad) (hb : Below B w w') (hB : b < B) : RF w' b ds bad := by
  obtain ⟨v, h1, h2, h3, h4⟩ := h
  exact ⟨v, (hb.block b hB).trans h1, h2.blk (fun k hk _ => hb.block k (Nat.lt_trans (h3 k hk) hB)), h3, h4⟩
theorem Rd.under {b B : Nat} {w w1 w2 : World} (h : Rd b w w1) (hb : Below B w1 w2) (hB : w.heap.size ≤ B) : Rd b w w2 :=
  ⟨hb.os.trans h.os, hb.tape.trans h.tape, hb.output.trans h.output, Nat.le_trans h.size hb.size, fun k hk hne hv => (hb.block k (Nat.lt_of_lt_of_le hk hB)).trans (h.block k hk hne hv)⟩
theorem RF.bad_at {w : World} {b : Nat} {ds : List Nat} {bad : Bool} (h : RF w b ds bad) : w.cell? ⟨b, 1, none⟩ = some (.bool bad) := by
  obtain ⟨v, h1, _⟩ := h
  simp [World.cell?, h1]
/-- Pairs of numbers that are read. -/
def pL (m1 m2 : Nat) : Nat → List Nat → List (Int × Int)
  | 0, _ => []
  | k + 1, ds => (((nN m1 ds : Nat) : Int), ((nN m2 (nR m1 ds) : Nat) : Int)) :: pL m1 m2 k (nR m2 (nR m1 ds))
def pR (m1 m2 : Nat) : Nat → List Nat → List Nat
  | 0, ds => ds
  | k + 1, ds => pR m1 m2 k (nR m2 (nR m1 ds))
def pB (m1 m2 : Nat) : Nat → Bool → List Nat → Bool
  | 0, bad, _ => bad
  | k + 1, _, ds => pB m1 m2 k (nB m2 (nR m1 ds)) (nR m2 (nR m1 ds))
theorem pL_len (m1 m2 : Nat) : ∀ (k : Nat) (ds : List Nat), (pL m1 m2 k ds).length = k
  | 0, _ => rfl
  | k + 1, ds => by rw [pL, List.length_cons, pL_len]
theorem pL_in (m1 m2 : Nat) : ∀ (k : Nat) (ds : List Nat), ∀ s ∈ pL m1 m2 k ds, 0 ≤ s.1 ∧ s.1 ≤ m1 ∧ 0 ≤ s.2 ∧ s.2 ≤ m2
  | 0, _ => by simp [pL]
  | k + 1, ds => by
    intro s hs
    rw [pL, List.mem_cons] at hs
    rcases hs with rfl | hs
    · have h1 := nN_le m1 ds
      have h2 := nN_le m2 (nR m1 ds)
      simp only
      omega
    · exact pL_in m1 m2 k _ s hs
/-- The bytes of pairs. -/
def pW (l : List (Int × Int)) : List Nat := (l.map fun x => num 0 x.1.toNat ++ num 0 x.2.toNat).flatten
theorem pW_cons (x : Int × Int) (l : List (Int × Int)) : pW (x :: l) = num 0 x.1.toNat ++ (num 0 x.2.toNat ++ pW l) := by simp [pW]
theorem pW_snoc (l : List (Int × Int)) (x : Int × Int) : pW (l ++ [x]) = pW l ++ (num 0 x.1.toNat ++ num 0 x.2.toNat) := by simp [pW]
theorem p_back (m1 m2 : Nat) (h1 : m1 < 18446744073709551616) (h2 : m2 < 18446744073709551616) : ∀ (l : List (Int × Int)) (rest : List Nat), (∀ s ∈ l, 0 ≤ s.1 ∧ s.1 ≤ m1 ∧ 0 ≤ s.2 ∧ s.2 ≤ m2) → pL m1 m2 l.length (pW l ++ rest) = l ∧ pR m1 m2 l.length (pW l ++ rest) = rest ∧ pB m1 m2 l.length false (pW l ++ rest) = false
  | [], rest, _ => ⟨rfl, rfl, rfl⟩
  | x :: l, rest, h => by
    obtain ⟨a0, a1, b0, b1⟩ := h x (by simp)
    obtain ⟨e1, e2, -⟩ := nN_back m1 x.1.toNat (num 0 x.2.toNat ++ (pW l ++ rest)) (by omega) (by omega)
    obtain ⟨e4, e5, e6⟩ := nN_back m2 x.2.toNat (pW l ++ rest) (by omega) (by omega)
    obtain ⟨i1, i2, i3⟩ := p_back m1 m2 h1 h2 l rest (fun s hs => h s (List.mem_cons_of_mem _ hs))
    rw [pW_cons, List.append_assoc, List.append_assoc, List.length_cons, pL, pR, pB, e1, e2, e4, e5, e6, i1, i2, i3]
    refine ⟨?_, rfl, rfl⟩
    congr 1
    ext
    · show ((x.1.toNat : Nat) : Int) = x.1; omega
    · show ((x.2.toNat : Nat) : Int) = x.2; omega
theorem pB_len (m1 m2 : Nat) : ∀ (k : Nat) (ds : List Nat), pR m1 m2 (k + 1) ds = nR m2 (nR m1 (pR m1 m2 k ds))
  | 0, _ => rfl
  | k + 1, ds => by
    have := pB_len m1 m2 k (nR m2 (nR m1 ds))
    rw [pR, this, pR]
/-- What is read is its own encoding. -/
theorem nB_enc {most : Nat} {ds : List Nat} (h : nB most ds = false) (hlt : ∀ c ∈ ds, c < 256) : ds = num 0 (nN most ds) ++ nR most ds ∧ ∀ c ∈ nR most ds, c < 256 := by
  have key : ds = num 0 (nN most ds) ++ nR most ds := by
    unfold nB at h
    unfold nN nR
    cases hq : rNum most ds with
    | none => rw [hq] at h; cases h
    | some p =>
      obtain ⟨n, rest⟩ := p
      show ds = num 0 n ++ rest
      unfold rNum at hq
      cases hp : rnum ds with
      | none => rw [hp] at hq; simp at hq
      | some q =>
        obtain ⟨m, bl, r⟩ := q
        rw [hp] at hq
        cases bl with
        | true => simp at hq
        | false =>
          obtain ⟨hx, hy⟩ := rnum_enc hp hlt
          have hm : m = n ∧ r = rest := by
            by_cases hle : m ≤ most
            · simpa [hle] using hq
            · simp [hle] at hq
          obtain ⟨rfl, rfl⟩ := hm
          simpa using hx
  refine ⟨key, fun c hc => hlt c ?_⟩
  rw [key]
  exact List.mem_append_right _ hc
theorem iB_enc {ds : List Nat} (h : iB ds = false) (hlt : ∀ c ∈ ds, c < 256) : ds = intB (iN ds) ++ iR ds ∧ ∀ c ∈ iR ds, c < 256 := by
  have key : ds = intB (iN ds) ++ iR ds := by
    unfold iB at h
    unfold iN iR
    cases hp : rnum ds with
    | none => rw [rInt_none hp] at h; cases h
    | some q =>
      obtain ⟨m, bl, r⟩ := q
      by_cases hle : m ≤ 9223372036854775807
      · rw [rInt_some hp hle]
        obtain ⟨hx, _⟩ := rnum_enc hp hlt
        cases bl with
        | true =>
          have e : intB (-1 - (m : Int)) = num 128 m := by
            unfold intB
            rw [if_pos (by omega)]
            congr 1
            omega
          simpa [e] using hx
        | false =>
          have e : intB (m : Int) = num 0 m := by
            unfold intB
            rw [if_neg (by omega), Int.toNat_natCast]
          simpa [e] using hx
      · rw [rInt_big hp hle] at h; cases h
  refine ⟨key, fun c hc => hlt c ?_⟩
  rw [key]
  exact List.mem_append_right _ hc
theorem nB_nil (most : Nat) : nB most [] = true := (nB_none most).2.2
theorem nR_bad {most : Nat} {ds : List Nat} (h : nB most ds = true) : nR most ds = [] := by
  unfold nB at h
  unfold nR
  cases hq : rNum most ds with
  | none => rfl
  | some p => rw [hq] at h; cases h
theorem pB_bad (m1 m2 : Nat) : ∀ k, pB m1 m2 k true [] = true
  | 0 => rfl
  | k + 1 => by rw [pB, (nB_none m1).2.1, (nB_none m2).2.1, (nB_none m2).2.2]; exact pB_bad m1 m2 k
theorem pB_enc (m1 m2 : Nat) : ∀ (k : Nat) (bad : Bool) (ds : List Nat), pB m1 m2 k bad ds = false → (∀ c ∈ ds, c < 256) → (k = 0 → bad = false) ∧ ds = pW (pL m1 m2 k ds) ++ pR m1 m2 k ds ∧ ∀ c ∈ pR m1 m2 k ds, c < 256
  | 0, bad, ds, h, hlt => ⟨fun _ => h, rfl, hlt⟩
  | k + 1, bad, ds, h, hlt => by
    rw [pB] at h
    cases h1 : nB m1 ds with
    | true =>
      exfalso
      have e1 := nR_bad h1
      rw [e1, (nB_none m2).2.1, (nB_none m2).2.2, pB_bad] at h
      cases h
    | false =>
      obtain ⟨g1, g2⟩ := nB_enc h1 hlt
      cases h2 : nB m2 (nR m1 ds) with
      | true =>
        exfalso
        have e2 := nR_bad h2
        rw [h2, e2, pB_bad] at h
        cases h
      | false =>
        obtain ⟨k1, k2⟩ := nB_enc h2 g2
        obtain ⟨_, i2, i3⟩ := pB_enc m1 m2 k _ _ h k2
        refine ⟨fun hk => by omega, ?_, by rw [pR]; exact i3⟩
        rw [pL, pR, pW_cons, List.append_assoc, List.append_assoc, ← i2]
        simp only [Int.toNat_natCast]
        rw [← k1]
        exact g1
/- Rows of spans that are read, both ways. -/
open Go.RowKit
theorem OS.rd {w w' : World} {base b : Nat} {v : Value} {l : List (Int × Int)} (h : OS w base v l) (hr : Rd b w w') (hb : b < base) : OS w' base v l := by
  obtain ⟨h1, h2⟩ := h
  refine ⟨h1, ?_⟩
  rcases h2 with h2 | ⟨g, cap, cur, hv, hg, hh, r⟩
  · exact .inl h2
  · exact .inr ⟨g, cap, cur, hv, hg, by rw [hr.block g (ex_lt hh) (by omega) (by simp [Value.ownBlock])]; exact hh, r⟩
set_option maxRecDepth 100000 in
set_option maxHeartbeats 8000000 in
theorem spans_rd (b : Nat) (ds : List Nat) (bad : Bool) (w : World) (hr : RR w b ds bad) :
    Calls Try.prog 122 #[.pointer (some ⟨b, 0, none⟩)] w fun e w' => ∃ v, e = .returned v ∧ OS w' w.heap.size v (pL 1125899906842624 1125899906842624 (nN 32 ds) (nR 32 ds)) ∧ RR w' b (pR 1125899906842624 1125899906842624 (nN 32 ds) (nR 32 ds)) (pB 1125899906842624 1125899906842624 (nN 32 ds) (nB 32 ds) (nR 32 ds)) ∧ Rd b w w' := by
  have hbl := hr.lt
  have HBL := Lib.hid hbl
  have hn32 := nN_le 32 ds
  have H0 : Hid (Calls Try.prog 71 #[.pointer (some ⟨b, 0, none⟩), .int .u64 32] w fun e w' => e = .returned (.int .u64 ((nN 32 ds : Nat) : Int)) ∧ RR w' b (nR 32 ds) (nB 32 ds) ∧ Rd b w w') := Lib.hid (num_rd1 b 32 ds bad w hr)
  have HN : Hid (∀ W es bd, RR W b es bd → Calls Try.prog 71 #[.pointer (some ⟨b, 0, none⟩), .int .u64 1125899906842624] W fun e w' => e = .returned (.int .u64 ((nN 1125899906842624 es : Nat) : Int)) ∧ RR w' b (nR 1125899906842624 es) (nB 1125899906842624 es) ∧ Rd b W w') := Lib.hid (fun W es bd h => num_rd1 b 1125899906842624 es bd W h)
  obtain ⟨n, hn⟩ : ∃ n, nN 32 ds = n := ⟨_, rfl⟩
  obtain ⟨d0, hd0⟩ : ∃ d, nR 32 ds = d := ⟨_, rfl⟩
  obtain ⟨b0, hb0⟩ : ∃ d, nB 32 ds = d := ⟨_, rfl⟩
  rw [hn, hd0, hb0] at H0 ⊢
  rw [hn] at hn32
  obtain ⟨L, hL⟩ : ∃ x, pL 1125899906842624 1125899906842624 n d0 = x := ⟨_, rfl⟩
  obtain ⟨R, hR⟩ : ∃ x, pR 1125899906842624 1125899906842624 n d0 = x := ⟨_, rfl⟩
  obtain ⟨Z, hZ⟩ : ∃ x, pB 1125899906842624 1125899906842624 n b0 d0 = x := ⟨_, rfl⟩
  rw [hL, hR, hZ]
  have HLRZ := Lib.hid (And.intro hL (And.intro hR hZ))
  clear hn hd0 hb0 hr hbl hL hR hZ
  go_enter Try.func122, Try.ntmps122
  go_wp2_with fail
  refine H0.out.mono ?_
  rintro e w1 ⟨rfl, hr1, ht1⟩
  have HR1 := Lib.hid hr1
  have HT1 := Lib.hid ht1
  clear hr1 ht1 H0
  go_wp2_with fail
  go_loopg [3, 6] n (fun kx s3 s6 wr => ∃ (k : Nat) (D : List (Int × Int)) (es : List Nat) (bd : Bool), s6 = .int .u64 k ∧ k ≤ n ∧ n - k ≤ kx ∧ Hid (D.length = k ∧ D ++ pL 1125899906842624 1125899906842624 (n - k) es = L ∧ pR 1125899906842624 1125899906842624 (n - k) es = R ∧ pB 1125899906842624 1125899906842624 (n - k) bd es = Z) ∧ Hid (OS wr w.heap.size s3 D) ∧ Hid (RR wr b es bd) ∧ Hid (Rd b w wr))
  case atStart => exact ⟨0, [], d0, b0, rfl, by omega, by omega, Lib.hid ⟨rfl, HLRZ.out.1, HLRZ.out.2.1, HLRZ.out.2.2⟩, OS.nil _ _, HR1, HT1⟩
  case round =>
    obtain ⟨k, D, es, bd, rfl, hk, hkx, HD, HO, HR, HT⟩ := hrel
    by_cases hlt : k < n
    · have hltz : (k : Int) < (n : Int) := by omega
      have hnk : n - k = (n - (k + 1)) + 1 := by omega
      have HD2 : Hid (D.length = k ∧ (D ++ [(((nN 1125899906842624 es : Nat) : Int), ((nN 1125899906842624 (nR 1125899906842624 es) : Nat) : Int))]) ++ pL 1125899906842624 1125899906842624 (n - (k + 1)) (nR 1125899906842624 (nR 1125899906842624 es)) = L ∧ pR 1125899906842624 1125899906842624 (n - (k + 1)) (nR 1125899906842624 (nR 1125899906842624 es)) = R ∧ pB 1125899906842624 1125899906842624 (n - (k + 1)) (nB 1125899906842624 (nR 1125899906842624 es)) (nR 1125899906842624 (nR 1125899906842624 es)) = Z) := by
        have h := HD.out
        rw [hnk, pL, pR, pB] at h
        exact Lib.hid ⟨h.1, by rw [List.append_assoc]; exact h.2.1, h.2.2.1, h.2.2.2⟩
      have h1 := nN_le 1125899906842624 es
      have h2 := nN_le 1125899906842624 (nR 1125899906842624 es)
      have hn1 := HN.out wr es bd HR.out
      have hn2 := HN.out
      obtain ⟨n1, e1⟩ : ∃ x, nN 1125899906842624 es = x := ⟨_, rfl⟩
      obtain ⟨es1, e2⟩ : ∃ x, nR 1125899906842624 es = x := ⟨_, rfl⟩
      obtain ⟨bd1, e3⟩ : ∃ x, nB 1125899906842624 es = x := ⟨_, rfl⟩
      rw [e1, e2, e3] at hn1
      rw [e1, e2] at HD2
      rw [e1] at h1
      rw [e2] at h2
      clear e1 e2 e3
      have HN2 : Hid (∀ W, RR W b es1 bd1 → Calls Try.prog 71 #[.pointer (some ⟨b, 0, none⟩), .int .u64 1125899906842624] W fun e w' => e = .returned (.int .u64 ((nN 1125899906842624 es1 : Nat) : Int)) ∧ RR w' b (nR 1125899906842624 es1) (nB 1125899906842624 es1) ∧ Rd b W w') := Lib.hid (fun W h => hn2 W es1 bd1 h)
      obtain ⟨n2, e1⟩ : ∃ x, nN 1125899906842624 es1 = x := ⟨_, rfl⟩
      obtain ⟨es2, e2⟩ : ∃ x, nR 1125899906842624 es1 = x := ⟨_, rfl⟩
      obtain ⟨bd2, e3⟩ : ∃ x, nB 1125899906842624 es1 = x := ⟨_, rfl⟩
      rw [e1, e2, e3] at HN2
      rw [e1, e2, e3] at HD2
      rw [e1] at h2
      clear e1 e2 e3 hn2
      have w1z : IntKind.i64.wrap (n1 : Int) = (n1 : Int) := IntWalk.i64_in _ ⟨by omega, by omega⟩
      have w2z : IntKind.i64.wrap (n2 : Int) = (n2 : Int) := IntWalk.i64_in _ ⟨by omega, by omega⟩
      have HLD : Hid (D.length ≤ 100000) := Lib.hid (by have := HD.out.1; omega)
      clear h1 h2 hnk HD
      go_wp2_with fail
      refine hn1.mono ?_
      rintro e w2 ⟨rfl, hr2, ht2⟩
      have hn2 := HN2.out w2 hr2
      have HO2 := Lib.hid (HO.out.rd ht2 HBL.out)
      have HT2 := Lib.hid (HT.out.trans ht2)
      clear hn1 hr2 ht2 HR HO HT HN2
      go_wp2_with fail
      refine hn2.mono ?_
      rintro e w3 ⟨rfl, hr3, ht3⟩
      have HO3 := Lib.hid (HO2.out.rd ht3 HBL.out)
      have HT3 := Lib.hid (HT2.out.trans ht3)
      have HR3 := Lib.hid hr3
      clear hn2 hr3 ht3 HO2 HT2
      have B4 : Below w3.heap.size w3 (w3.alloc (.cells #[.int .i64 n1, .int .i64 n2] 193)) := (Below.refl _ _).alloc (Nat.le_refl _) _
      have HO4 := Lib.hid (HO3.out.kept B4)
      have HR4 := Lib.hid (HR3.out.kept B4)
      have HT4 := Lib.hid (HT3.out.trans (Rd.below B4))
      have HSP := Lib.hid (new_span w3 (.int .i64 n1) (.int .i64 n2) 193)
      have HSZ : Hid (w.heap.size ≤ (w3.alloc (.cells #[.int .i64 n1, .int .i64 n2] 193)).heap.size) := Lib.hid (Nat.le_trans HT3.out.size B4.size)
      clear B4 HO3 HR3 HT3
      go_wp2_with (at_builtin; go_must (refine append_span rfl (.tmp 8) (.tmp 16) rfl w.heap.size u3 D n1 n2 ⟨w3.heap.size, 0, none⟩ 1 rfl rfl HO4.out HSP.out HLD.out HSZ.out ?_); intro v5 w5 hO5 hst; have HO5 := Lib.hid hO5; have HR5 := Lib.hid (HR4.out.under (hst.2 _ (Below.refl _ _)) HBL.out); have HT5 := Lib.hid (HT4.out.under (hst.2 _ (Below.refl _ _)) (Nat.le_refl _)); clear hO5 hst)
      go_roundg (n - (k + 1))
      case measure => omega
      case rel => exact ⟨k + 1, D ++ [((n1 : Int), (n2 : Int))], es2, bd2, by go_num, by omega, by omega, Lib.hid ⟨by rw [List.length_append, HD2.out.1]; rfl, HD2.out.2.1, HD2.out.2.2.1, HD2.out.2.2.2⟩, HO5, HR5, HT5⟩
    · have hltz : ¬ (k : Int) < (n : Int) := by omega
      obtain rfl : k = n := by omega
      have h := HD.out
      rw [Nat.sub_self, pL, pR, pB, List.append_nil] at h
      obtain ⟨_, rfl, rfl, rfl⟩ := h
      clear HLRZ HD
      go_wp2_with fail
      go_ret
      exact ⟨_, rfl, HO.out, HR.out, HT.out⟩
set_option maxRecDepth 100000 in
set_option maxHeartbeats 8000000 in
theorem spans_rf (b : Nat) (ds : List Nat) (bad : Bool) (w : World) (hr : RF w b ds bad) :
    Calls Try.prog 125 #[.pointer (some ⟨b, 0, none⟩)] w fun e w' => ∃ v, e = .returned v ∧ OS w' w.heap.size v (pL 1125899906842624 1125899906842624 (nN 32 ds) (nR 32 ds)) ∧ RF w' b (pR 1125899906842624 1125899906842624 (nN 32 ds) (nR 32 ds)) (pB 1125899906842624 1125899906842624 (nN 32 ds) (nB 32 ds) (nR 32 ds)) ∧ Rd b w w' := by
  have hbl := hr.lt
  have HBL := Lib.hid hbl
  have hn32 := nN_le 32 ds
  have H0 : Hid (Calls Try.prog 76 #[.pointer (some ⟨b, 0, none⟩), .int .u64 32] w fun e w' => e = .returned (.int .u64 ((nN 32 ds : Nat) : Int)) ∧ RF w' b (nR 32 ds) (nB 32 ds) ∧ Rd b w w') := Lib.hid (num_rf1 b 32 ds bad w hr)
  have HN : Hid (∀ W es bd, RF W b es bd → Calls Try.prog 76 #[.pointer (some ⟨b, 0, none⟩), .int .u64 1125899906842624] W fun e w' => e = .returned (.int .u64 ((nN 1125899906842624 es : Nat) : Int)) ∧ RF w' b (nR 1125899906842624 es) (nB 1125899906842624 es) ∧ Rd b W w') := Lib.hid (fun W es bd h => num_rf1 b 1125899906842624 es bd W h)
  obtain ⟨n, hn⟩ : ∃ n, nN 32 ds = n := ⟨_, rfl⟩
  obtain ⟨d0, hd0⟩ : ∃ d, nR 32 ds = d := ⟨_, rfl⟩
  obtain ⟨b0, hb0⟩ : ∃ d, nB 32 ds = d := ⟨_, rfl⟩
  rw [hn, hd0, hb0] at H0 ⊢
  rw [hn] at hn32
  obtain ⟨L, hL⟩ : ∃ x, pL 1125899906842624 1125899906842624 n d0 = x := ⟨_, rfl⟩
  obtain ⟨R, hR⟩ : ∃ x, pR 1125899906842624 1125899906842624 n d0 = x := ⟨_, rfl⟩
  obtain ⟨Z, hZ⟩ : ∃ x, pB 1125899906842624 1125899906842624 n b0 d0 = x := ⟨_, rfl⟩
  rw [hL, hR, hZ]
  have HLRZ := Lib.hid (And.intro hL (And.intro hR hZ))
  clear hn hd0 hb0 hr hbl hL hR hZ
  go_enter Try.func125, Try.ntmps125
  go_wp2_with fail
  refine H0.out.mono ?_
  rintro e w1 ⟨rfl, hr1, ht1⟩
  have HR1 := Lib.hid hr1
  have HT1 := Lib.hid ht1
  clear hr1 ht1 H0
  go_wp2_with fail
  go_loopg [3, 5, 6, 7] n (fun kx s3 s5 s6 s7 wr => ∃ (k : Nat) (D : List (Int × Int)) (es : List Nat) (bd : Bool), s5 = .int .u64 k ∧ (∃ y, s6 = y) ∧ (∃ y, s7 = y) ∧ k ≤ n ∧ n - k ≤ kx ∧ Hid (D.length = k ∧ D ++ pL 1125899906842624 1125899906842624 (n - k) es = L ∧ pR 1125899906842624 1125899906842624 (n - k) es = R ∧ pB 1125899906842624 1125899906842624 (n - k) bd es = Z) ∧ Hid (OS wr w.heap.size s3 D) ∧ Hid (RF wr b es bd) ∧ Hid (Rd b w wr))
  case atStart => exact ⟨0, [], d0, b0, rfl, ⟨_, rfl⟩, ⟨_, rfl⟩, by omega, by omega, Lib.hid ⟨rfl, HLRZ.out.1, HLRZ.out.2.1, HLRZ.out.2.2⟩, OS.nil _ _, HR1, HT1⟩
  case round =>
    obtain ⟨k, D, es, bd, rfl, ⟨y6, rfl⟩, ⟨y7, rfl⟩, hk, hkx, HD, HO, HR, HT⟩ := hrel
    by_cases hlt : k < n
    · have hltz : (k : Int) < (n : Int) := by omega
      have hnk : n - k = (n - (k + 1)) + 1 := by omega
      have HD2 : Hid (D.length = k ∧ (D ++ [(((nN 1125899906842624 es : Nat) : Int), ((nN 1125899906842624 (nR 1125899906842624 es) : Nat) : Int))]) ++ pL 1125899906842624 1125899906842624 (n - (k + 1)) (nR 1125899906842624 (nR 1125899906842624 es)) = L ∧ pR 1125899906842624 1125899906842624 (n - (k + 1)) (nR 1125899906842624 (nR 1125899906842624 es)) = R ∧ pB 1125899906842624 1125899906842624 (n - (k + 1)) (nB 1125899906842624 (nR 1125899906842624 es)) (nR 1125899906842624 (nR 1125899906842624 es)) = Z) := by
        have h := HD.out
        rw [hnk, pL, pR, pB] at h
        exact Lib.hid ⟨h.1, by rw [List.append_assoc]; exact h.2.1, h.2.2.1, h.2.2.2⟩
      have h1 := nN_le 1125899906842624 es
      have h2 := nN_le 1125899906842624 (nR 1125899906842624 es)
      have hn1 := HN.out wr es bd HR.out
      have hn2 := HN.out
      obtain ⟨n1, e1⟩ : ∃ x, nN 1125899906842624 es = x := ⟨_, rfl⟩
      obtain ⟨es1, e2⟩ : ∃ x, nR 1125899906842624 es = x := ⟨_, rfl⟩
      obtain ⟨bd1, e3⟩ : ∃ x, nB 1125899906842624 es = x := ⟨_, rfl⟩
      rw [e1, e2, e3] at hn1
      rw [e1, e2] at HD2
      rw [e1] at h1
      rw [e2] at h2
      clear e1 e2 e3
      have HN2 : Hid (∀ W, RF W b es1 bd1 → Calls Try.prog 76 #[.pointer (some ⟨b, 0, none⟩), .int .u64 1125899906842624] W fun e w' => e = .returned (.int .u64 ((nN 1125899906842624 es1 : Nat) : Int)) ∧ RF w' b (nR 1125899906842624 es1) (nB 1125899906842624 es1) ∧ Rd b W w') := Lib.hid (fun W h => hn2 W es1 bd1 h)
      obtain ⟨n2, e1⟩ : ∃ x, nN 1125899906842624 es1 = x := ⟨_, rfl⟩
      obtain ⟨es2, e2⟩ : ∃ x, nR 1125899906842624 es1 = x := ⟨_, rfl⟩
      obtain ⟨bd2, e3⟩ : ∃ x, nB 1125899906842624 es1 = x := ⟨_, rfl⟩
      rw [e1, e2, e3] at HN2
      rw [e1, e2, e3] at HD2
      rw [e1] at h2
      clear e1 e2 e3 hn2
      have w1z : IntKind.i64.wrap (n1 : Int) = (n1 : Int) := IntWalk.i64_in _ ⟨by omega, by omega⟩
      have w2z : IntKind.i64.wrap (n2 : Int) = (n2 : Int) := IntWalk.i64_in _ ⟨by omega, by omega⟩
      have HLD : Hid (D.length ≤ 100000) := Lib.hid (by have := HD.out.1; omega)
      clear h1 h2 hnk HD
      go_wp2_with fail
      refine hn1.mono ?_
      rintro e w2 ⟨rfl, hr2, ht2⟩
      have hn2 := HN2.out w2 hr2
      have HO2 := Lib.hid (HO.out.rd ht2 HBL.out)
      have HT2 := Lib.hid (HT.out.trans ht2)
      clear hn1 hr2 ht2 HR HO HT HN2
      go_wp2_with fail
      refine hn2.mono ?_
      rintro e w3 ⟨rfl, hr3, ht3⟩
      have HO3 := Lib.hid (HO2.out.rd ht3 HBL.out)
      have HT3 := Lib.hid (HT2.out.trans ht3)
      have HR3 := Lib.hid hr3
      clear hn2 hr3 ht3 HO2 HT2
      have B4 : Below w3.heap.size w3 (w3.alloc (.cells #[.int .i64 n1, .int .i64 n2] 193)) := (Below.refl _ _).alloc (Nat.le_refl _) _
      have HO4 := Lib.hid (HO3.out.kept B4)
      have HR4 := Lib.hid (HR3.out.kept B4)
      have HT4 := Lib.hid (HT3.out.trans (Rd.below B4))
      have HSP := Lib.hid (new_span w3 (.int .i64 n1) (.int .i64 n2) 193)
      have HSZ : Hid (w.heap.size ≤ (w3.alloc (.cells #[.int .i64 n1, .int .i64 n2] 193)).heap.size) := Lib.hid (Nat.le_trans HT3.out.size B4.size)
      clear B4 HO3 HR3 HT3
      go_wp2_with (at_builtin; go_must (refine append_span rfl (.tmp 19) (.tmp 25) rfl w.heap.size u3 D n1 n2 ⟨w3.heap.size, 0, none⟩ 1 rfl rfl HO4.out HSP.out HLD.out HSZ.out ?_); intro v5 w5 hO5 hst; have HO5 := Lib.hid hO5; have HR5 := Lib.hid (HR4.out.under (hst.2 _ (Below.refl _ _)) HBL.out); have HT5 := Lib.hid (HT4.out.under (hst.2 _ (Below.refl _ _)) (Nat.le_refl _)); clear hO5 hst)
      go_roundg (n - (k + 1))
      case measure => omega
      case rel => exact ⟨k + 1, D ++ [((n1 : Int), (n2 : Int))], es2, bd2, by go_num, ⟨_, rfl⟩, ⟨_, rfl⟩, by omega, by omega, Lib.hid ⟨by rw [List.length_append, HD2.out.1]; rfl, HD2.out.2.1, HD2.out.2.2.1, HD2.out.2.2.2⟩, HO5, HR5, HT5⟩
    · have hltz : ¬ (k : Int) < (n : Int) := by omega
      obtain rfl : k = n := by omega
      have h := HD.out
      rw [Nat.sub_self, pL, pR, pB, List.append_nil] at h
      obtain ⟨_, rfl, rfl, rfl⟩ := h
      clear HLRZ HD
      go_wp2_with fail
      go_ret
      exact ⟨_, rfl, HO.out, HR.out, HT.out⟩
/- Rows of spans and calendars that are written, both ways. -/
open Go.RowKit
/-- A row that has elements lies below block b. -/
def FarR (b : Nat) (a : Option Addr) (n : Nat) : Prop := 0 < n → ∀ x, a = some x → x.block < b
theorem Sps.far {w : World} {a : Option Addr} {n : Nat} {F T : Nat → Int} {b : Nat} (h : Sps w a n F T) (hb : w.heap.size ≤ b) : FarR b a n := fun hp x hx => by
  obtain ⟨ab, ao, e, hl, _⟩ := h.2 hp
  rw [hx] at e
  injection e with e
  subst e
  exact Nat.lt_of_lt_of_le hl hb
theorem Sps.turn {w w' : World} {b : Nat} {v : Value} {a : Option Addr} {n : Nat} {F T : Nat → Int} {base : Nat} (h : Sps w a n F T) (ht : Turn b v w w') (hf : FarR b a n) (hb : b < base) (hv : ∀ k, v.ownBlock = some k → base ≤ k) : Sps w' a n F T := by
  refine ⟨h.1, fun hp => ?_⟩
  obtain ⟨ab, ao, rfl, hl, hc⟩ := h.2 hp
  have h1 : ab < b := hf hp _ rfl
  have e : w'.heap[ab]? = w.heap[ab]? := ht.block ab hl (by omega) (fun e => by have := hv ab e.symm; omega)
  exact ⟨ab, ao, rfl, Nat.lt_of_lt_of_le hl ht.size, fun k hk => ⟨(World.cell?_of_block e).trans (hc k hk).1, (World.cell?_of_block e).trans (hc k hk).2.1, (hc k hk).2.2⟩⟩
theorem rv_two (w : World) (b : Nat) (t : TypeId) (x1 x2 : Value) (hb : b = w.heap.size) : RV (w.alloc (.cells #[x1, x2] t)) (.slice (some ⟨b, 0, none⟩) 2 2) [x1, x2] := by
  subst hb
  refine ⟨by simp, _, _, rfl, fun i hi => ⟨_, _, rfl, ?_⟩⟩
  rw [World.cell?_alloc_at _ _ _ _ rfl]
  simp only [List.length_cons, List.length_nil] at hi
  have : i = 0 ∨ i = 1 := by omega
  rcases this with rfl | rfl <;> rfl
theorem num_two (b base : Nat) (v : Value) (f t : Nat) (bs : List Nat) (w : World) (hw : WR w b base v bs) (hbl : bs.length ≤ 10000000) (hf : f < 18446744073709551616) (ht : t < 18446744073709551616) :
    Calls Try.prog 62 #[.pointer (some ⟨b, 0, none⟩), .slice (some ⟨w.heap.size, 0, none⟩) 2 2] (w.alloc (.cells #[.int .u64 (f : Int), .int .u64 (t : Int)] 22)) fun e w' => e = .returned (.tuple #[]) ∧ Wrote b base v w (bs ++ (num 0 f ++ num 0 t)) w' := by
  have b1 : Below w.heap.size w (w.alloc (.cells #[.int .u64 (f : Int), .int .u64 (t : Int)] 22)) := (Below.refl _ _).alloc (Nat.le_refl _) _
  have hrv : RV (w.alloc (.cells #[.int .u64 (f : Int), .int .u64 (t : Int)] 22)) (.slice (some ⟨w.heap.size, 0, none⟩) 2 2) (List.map (fun n : Nat => Value.int .u64 ((n : Nat) : Int)) [f, t]) := by
    simp only [List.map_cons, List.map_nil]
    exact rv_two w _ _ _ _ rfl
  refine (num_wr b base v bs [f, t] _ _ (hw.kept b1) hbl hrv (by intro n hn; simp only [List.mem_cons, List.not_mem_nil, or_false] at hn; omega)).mono ?_
  rintro e w' ⟨rfl, hwr⟩
  have e2 : nums [f, t] = num 0 f ++ num 0 t := by unfold nums; simp
  rw [e2] at hwr
  exact ⟨rfl, hwr.after b1⟩
theorem pairs_take (F T : Nat → Int) (n k : Nat) (h : k ≤ n) : (pairs F T n).take k = pairs F T k := by
  unfold pairs
  rw [← List.map_take, List.take_range, Nat.min_eq_left h]
theorem pW_len (l : List (Int × Int)) (h : ∀ s ∈ l, s.1 ≤ 9223372036854775807 ∧ s.2 ≤ 9223372036854775807) : (pW l).length ≤ 18 * l.length := by
  unfold pW
  refine flat_len _ 18 l (fun x hx => ?_)
  have := h x hx
  have h1 := num_len9 0 x.1.toNat (by omega)
  have h2 := num_len9 0 x.2.toNat (by omega)
  rw [List.length_append]; omega
theorem pW_lt (l : List (Int × Int)) (h : ∀ s ∈ l, s.1 ≤ 9223372036854775807 ∧ s.2 ≤ 9223372036854775807) : ∀ c ∈ pW l, c < 256 := by
  unfold pW
  refine flat_lt _ l (fun x hx c hc => ?_)
  have := h x hx
  rcases List.mem_append.1 hc with hc | hc
  · exact num_lt' 0 _ (by omega) (by omega) c hc
  · exact num_lt' 0 _ (by omega) (by omega) c hc
/-- The bytes of a row of pairs. -/
def rowW (F T : Nat → Int) (n : Nat) : List Nat := num 0 n ++ pW (pairs F T n)
theorem rowW_snoc (F T : Nat → Int) (n k f t : Nat) (hf : F k = (f : Int)) (ht : T k = (t : Int)) : num 0 n ++ pW (pairs F T (k + 1)) = (num 0 n ++ pW (pairs F T k)) ++ (num 0 f ++ num 0 t) := by
  rw [pairs_succ, pW_snoc, hf, ht, List.append_assoc]
  simp
def NonNeg (F T : Nat → Int) (n : Nat) : Prop := ∀ k, k < n → 0 ≤ F k ∧ 0 ≤ T k
theorem rowW_len (F T : Nat → Int) (n k : Nat) (hn : n ≤ 1000) (hk : k ≤ n) (h : ∀ j, j < n → F j ≤ 9223372036854775807 ∧ T j ≤ 9223372036854775807) : (num 0 n ++ pW (pairs F T k)).length ≤ 9 + 18 * k := by
  rw [List.length_append]
  have h1 := num_len9 0 n (by omega)
  have h2 := pW_len (pairs F T k) (fun s hs => by obtain ⟨j, hj, rfl⟩ := pairs_mem.1 hs; exact h j (by omega))
  rw [pairs_len] at h2
  omega
theorem rowW_lt (F T : Nat → Int) (n : Nat) (hn : n ≤ 1000) (h : ∀ j, j < n → F j ≤ 9223372036854775807 ∧ T j ≤ 9223372036854775807) : ∀ c ∈ rowW F T n, c < 256 := by
  intro c hc
  rcases List.mem_append.1 hc with hc | hc
  · exact num_lt' 0 n (by omega) (by omega) c hc
  · exact pW_lt _ (fun s hs => by obtain ⟨j, hj, rfl⟩ := pairs_mem.1 hs; exact h j hj) c hc
theorem Sps.up {w : World} {a : Option Addr} {n : Nat} {F T : Nat → Int} (h : Sps w a n F T) : ∀ j, j < n → F j ≤ 9223372036854775807 ∧ T j ≤ 9223372036854775807 := fun j hj => by
  obtain ⟨_, _, _, _, _, _, h1, h2, h3, h4⟩ := h.at (Below.refl _ _) j hj
  exact ⟨h2, h4⟩
end Go.Proofs.Ytibjboacjobaoaa
