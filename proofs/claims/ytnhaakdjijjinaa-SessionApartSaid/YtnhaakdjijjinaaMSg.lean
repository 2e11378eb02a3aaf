import Derived.Test.YtnhaakdjijjinaaMRd
import Derived.Test.YtnhaakdjijjinaaMSd
import Derived.Deep.LoopGhost
import Derived.Test.YtnhaakdjijjinaaRyL
namespace Go.Proofs.Ytnhaakdjijjinaa
open Go.RowKit
/- Session: what is read as a table: its entries, its bytes. -/
open Go.RowKit Go.Maps
theorem nN_bad {most : Nat} {ds : List Nat} (h : nB most ds = true) : nN most ds = 0 := by
  unfold nB at h
  unfold nN
  cases hq : rNum most ds with
  | none => rfl
  | some p => rw [hq] at h; cases h
/-- Behind the client and the request of an entry. -/
def e2 (ds : List Nat) : List Nat := nR 18446744073709551615 (nR 8 ds)
def eRq (ds : List Nat) : Nat := nN 18446744073709551615 (nR 8 ds)
def eOk (bf : Nat) (ds : List Nat) : Bool := yOk (e2 ds) && (decide (bf < nN 8 ds) && decide (0 < eRq ds))
def eNx (ds : List Nat) : List Nat := yRest (e2 ds)
def tOk : Nat → Nat → List Nat → Bool
  | 0, _, _ => true
  | k + 1, bf, ds => eOk bf ds && tOk k (nN 8 ds) (eNx ds)
def tNx : Nat → List Nat → List Nat
  | 0, ds => ds
  | k + 1, ds => tNx k (eNx ds)
def sOk (ds : List Nat) : Bool := !nB 8 ds && tOk (nN 8 ds) 0 (nR 8 ds)
def sNx (ds : List Nat) : List Nat := tNx (nN 8 ds) (nR 8 ds)
/-- The entry that is read. -/
def eX (ds : List Nat) (a : Option Addr) (ca : Nat) : Opn := Opn.mk 0 ((nN 8 ds : Nat) : Int) ((eRq ds : Nat) : Int) ((nN 99 (e2 ds) : Nat) : Int) (iN (nR 99 (e2 ds))) (yNine (e2 ds)).n1 (yNine (e2 ds)).n2 (yNine (e2 ds)).n3 (yNine (e2 ds)).n4 (yNine (e2 ds)).n5 (yNine (e2 ds)).n6 (yNine (e2 ds)).n7 (yNine (e2 ds)).n8 (yNine (e2 ds)).n9 a (yXs (e2 ds)).length ca ((nN 18446744073709551615 (y6 (e2 ds)) : Nat) : Int) ((nN 128 (y7 (e2 ds)) : Nat) : Int) (yXs (e2 ds))
theorem yOk_nil : yOk [] = false := by decide
theorem e_good {ds : List Nat} (h : yOk (e2 ds) = true) : nB 8 ds = false ∧ nB 18446744073709551615 (nR 8 ds) = false ∧ yBad (e2 ds) = false ∧ yS (e2 ds) = true := by
  have h2 : nB 18446744073709551615 (nR 8 ds) = false := by
    cases hb : nB 18446744073709551615 (nR 8 ds) with
    | false => rfl
    | true => unfold e2 at h; rw [nR_bad hb, yOk_nil] at h; cases h
  have h' := h
  unfold yOk at h'
  simp only [Bool.and_eq_true, Bool.not_eq_true'] at h'
  exact ⟨nB_step h2, h2, h'.1, h'.2⟩
theorem e_snd {ds : List Nat} (h : yOk (e2 ds) = true) (a : Option Addr) (ca : Nat) : Snd (eX ds a ca) := by
  obtain ⟨-, -, -, h4⟩ := e_good h
  obtain ⟨b1, -, -, -, b5, -, -, -, -⟩ := yNine_le (e2 ds)
  have b6 := nN_le 18446744073709551615 (y6 (e2 ds))
  unfold Snd eX
  dsimp only
  refine ⟨h4, ⟨by omega, by omega⟩, ⟨by omega, by omega⟩, ⟨by omega, by omega⟩⟩
theorem e_bytes {ds : List Nat} (h : yOk (e2 ds) = true) (hq : 0 < eRq ds) (hlt : ∀ c ∈ ds, c < 256) (a : Option Addr) (ca : Nat) : ds = entB (nN 8 ds) (eX ds a ca) ++ eNx ds ∧ ∀ c ∈ eNx ds, c < 256 := by
  obtain ⟨h1, h2, h3, h4⟩ := e_good h
  obtain ⟨k1, l1⟩ := nB_enc h1 hlt
  obtain ⟨k2, l2⟩ := nB_enc h2 l1
  have k3 : e2 ds = yW (e2 ds) ++ yRest (e2 ds) := y_enc (e2 ds) l2 h3
  have hr : repB (eX ds a ca) = yW (e2 ds) := by
    unfold repB eX yW
    simp only [Int.toNat_natCast]
  have hE : entB (nN 8 ds) (eX ds a ca) = num 0 (nN 8 ds) ++ num 0 (eRq ds) ++ yW (e2 ds) := by
    unfold entB
    rw [hr]
    have e : (eX ds a ca).rq = ((eRq ds : Nat) : Int) := rfl
    rw [e, if_pos (by omega), Int.toNat_natCast]
  have key : ds = entB (nN 8 ds) (eX ds a ca) ++ eNx ds := by
    rw [hE]
    simp only [List.append_assoc]
    have k3' : yW (e2 ds) ++ eNx ds = e2 ds := k3.symm
    have k2' : num 0 (eRq ds) ++ e2 ds = nR 8 ds := k2.symm
    rw [k3', k2', ← k1]
  refine ⟨key, fun c hc => hlt c ?_⟩
  rw [key]
  exact List.mem_append_right _ hc
theorem tab_zero {X : Nat → Opn} {bf : Nat} (h : ∀ j, bf < j → (X j).rq = 0) : ∀ m, bf ≤ m → tabB X m = tabB X bf
  | 0, hm => by
    have : bf = 0 := by omega
    subst this
    rfl
  | m + 1, hm => by
    by_cases e : bf = m + 1
    · rw [e]
    · have ih := tab_zero h m (by omega)
      show tabB X m ++ entB (m + 1) (X (m + 1)) = tabB X bf
      rw [ih]
      unfold entB
      rw [h (m + 1) (by omega), if_neg (by omega), List.append_nil]
theorem tab_congr {X Y : Nat → Opn} : ∀ k, (∀ j, j ≤ k → X j = Y j) → tabB X k = tabB Y k
  | 0, _ => rfl
  | k + 1, h => by
    unfold tabB
    rw [tab_congr k (fun j hj => h j (by omega)), h (k + 1) (Nat.le_refl _)]
theorem tab_up {X : Nat → Opn} {bf i : Nat} (h : ∀ j, bf < j → (X j).rq = 0) (hi : bf < i) (x : Opn) : tabB (upX X i x) i = tabB X bf ++ entB i x := by
  obtain ⟨k, rfl⟩ : ∃ k, i = k + 1 := ⟨i - 1, by omega⟩
  have e : tabB (upX X (k + 1) x) k = tabB X k := tab_congr k (fun j hj => upX_other _ _ _ _ (by omega))
  have e2 : tabB (upX X (k + 1) x) (k + 1) = tabB (upX X (k + 1) x) k ++ entB (k + 1) (upX X (k + 1) x (k + 1)) := rfl
  rw [e2, e, upX_same, tab_zero h k (by omega)]
theorem up_zero {X : Nat → Opn} {bf i : Nat} (h : ∀ j, bf < j → (X j).rq = 0) (hi : bf < i) (x : Opn) : ∀ j, i < j → (upX X i x j).rq = 0 := fun j hj => by
  rw [upX_other _ _ _ _ (by omega)]
  exact h j (by omega)
theorem tOk_step {k bf : Nat} {ds : List Nat} (h : eOk bf ds = false) : tOk (k + 1) bf ds = false := by
  unfold tOk
  rw [h, Bool.false_and]
theorem eOk_iff {bf : Nat} {ds : List Nat} (h1 : yOk (e2 ds) = true) (h2 : bf < nN 8 ds) (h3 : 0 < eRq ds) : eOk bf ds = true := by
  unfold eOk
  rw [h1, decide_eq_true h2, decide_eq_true h3]
  rfl
/- Session: Read. -/
open Go.RowKit Go.Maps
theorem RR.grown {w w' : World} {b mb : Nat} {ds : List Nat} {bad : Bool} (h : RR w b ds bad) (g : w.grownBy w' (some mb)) (hb : b < mb) : RR w' b ds bad := by
  obtain ⟨v, h1, h2, h3, h4⟩ := h
  refine ⟨v, (g.block b (ex_lt h1) (fun e => by injection e with e; omega)).trans h1, h2.blk (fun k hk hk2 => g.block k hk2 (fun e => ?_)), h3, h4⟩
  injection e with e
  have := h3 k hk
  omega
theorem Rd.grown {b mb : Nat} {w w1 w2 : World} (h : Rd b w w1) (g : w1.grownBy w2 (some mb)) (hb : w.heap.size ≤ mb) : Rd b w w2 :=
  ⟨g.os.trans h.os, g.tape.trans h.tape, g.output.trans h.output, Nat.le_trans h.size g.size, fun k hk h1 h2 => (g.block k (Nat.lt_of_lt_of_le hk h.size) (fun e => by injection e with e; omega)).trans (h.block k hk h1 h2)⟩
theorem Us.rd {w w' : World} {a : Option Addr} {n : Nat} {xs : List Nat} {b : Nat} (h : Us w a n xs) (ht : Rd b w w') (hb : ∀ g o, a = some ⟨g, o, Option.none⟩ → 0 < n → g ≠ b) : Us w' a n xs := by
  obtain ⟨h1, h2, h3, h4⟩ := h
  refine ⟨h1, h2, h3, fun i hi => ?_⟩
  obtain ⟨g, o, ha, hlt, hc⟩ := h4 i hi
  exact ⟨g, o, ha, Nat.lt_of_lt_of_le hlt ht.size, by rw [ht.cell (p := ⟨g, o + i, Option.none⟩) hlt (hb g o ha (by omega)) (by simp [Value.ownBlock])]; exact hc⟩
theorem us_rd0 {w w' : World} {a : Option Addr} {n : Nat} {xs : List Nat} {b : Nat} (h : Us w a n xs) (ht : Rd b w w') (hb : ∀ g o, a = some ⟨g, o, Option.none⟩ → g ≠ b) : Us w' a n xs := h.rd ht (fun g o e _ => hb g o e)
theorem Rt.rd {Av : Nat} {W W' : World} {T mb c : Nat} {M : Lit → Option Value} {X : Nat → Opn} (h : Rt Av W T mb c M X) (ht : Rd Av W W') (hT : T ≠ Av) (hmb : mb ≠ Av) : Rt Av W' T mb c M X := by
  refine ⟨⟨(ht.block T (ex_lt h.1.1) hT (by simp [Value.ownBlock])).trans h.1.1, h.1.2.block (ht.block mb h.1.2.lt hmb (by simp [Value.ownBlock]))⟩, h.2.1, fun i h1 h2 => ?_, h.2.2.2⟩
  rcases h.2.2.1 i h1 h2 with k | ⟨ac, cc, k1, k2, k3, k4, k5, k6, k7, k8⟩
  · exact .inl k
  · exact .inr ⟨ac, cc, k1, k2, k3, k4, us_rd0 k5 ht (fun g o e => (k6 g o e).2), fun g o e => ⟨Nat.lt_of_lt_of_le (k6 g o e).1 ht.size, (k6 g o e).2⟩, k7.rd ht k8, k8⟩
/-- What a reader turns that is not one of the table's blocks. -/
theorem Rt.rd2 {Av b : Nat} {W W' : World} {T mb c : Nat} {M : Lit → Option Value} {X : Nat → Opn} (h : Rt Av W T mb c M X) (ht : Rd b W W') (hT : b < T) (hmb : b < mb) (hx : ∀ i : Nat, 1 ≤ i → i ≤ 8 → ∀ ac cc, M (.int .u64 (i : Int)) = some ((X i).req ac cc) → ∀ g o, ac = some ⟨g, o, Option.none⟩ → g ≠ b) (hy : ∀ i : Nat, 1 ≤ i → i ≤ 8 → ∀ g o, (X i).a = some ⟨g, o, Option.none⟩ → g ≠ b) : Rt Av W' T mb c M X := by
  refine ⟨⟨(ht.block T (ex_lt h.1.1) (by omega) (by simp [Value.ownBlock])).trans h.1.1, h.1.2.block (ht.block mb h.1.2.lt (by omega) (by simp [Value.ownBlock]))⟩, h.2.1, fun i h1 h2 => ?_, h.2.2.2⟩
  rcases h.2.2.1 i h1 h2 with k | ⟨ac, cc, k1, k2, k3, k4, k5, k6, k7, k8⟩
  · exact .inl k
  · exact .inr ⟨ac, cc, k1, k2, k3, k4, us_rd0 k5 ht (hx i h1 h2 ac cc k1), fun g o e => ⟨Nat.lt_of_lt_of_le (k6 g o e).1 ht.size, (k6 g o e).2⟩, us_rd0 k7 ht (hy i h1 h2), k8⟩
/-- The table's rows lie from B0 on. -/
def RowsIn (B0 : Nat) (M : Lit → Option Value) (X : Nat → Opn) : Prop := ∀ i : Nat, 1 ≤ i → i ≤ 8 → (∀ ac cc, M (.int .u64 (i : Int)) = some ((X i).req ac cc) → ∀ g o, ac = some ⟨g, o, none⟩ → B0 ≤ g) ∧ ∀ g o, (X i).a = some ⟨g, o, none⟩ → B0 ≤ g
/-- What Read gives. -/
def SReadR (Av rb : Nat) (ds : List Nat) (w : World) (e : Ending) (w' : World) : Prop :=
  (sOk ds = true → ∃ T mb c M X, e = .returned (.tuple #[.pointer (some ⟨T, 0, none⟩), .bool true]) ∧ w.heap.size ≤ T ∧ w.heap.size ≤ mb ∧ Rt Av w' T mb c M X ∧ ds = num 0 c ++ tabB X 8 ++ sNx ds ∧ RR w' rb (sNx ds) false ∧ Rd rb w w') ∧
  (sOk ds = false → e = .returned (.tuple #[.pointer none, .bool false]) ∧ RR w' rb [] true ∧ Rd rb w w')
theorem req_z (x : Opn) (ac : Option Addr) (cc : Nat) : x.req ac cc = .agg #[.int .u64 x.rq, .int .i64 x.cd, .int .i64 x.tm, .int .u64 x.id, .int .i64 x.cn, .int .i64 x.st, .int .i64 x.lv, .int .u64 x.ge, .int .i64 x.fr, .int .i64 x.lf, .int .i64 x.du, .int .i64 x.tl, .slice ac x.n cc, .int .u64 x.nt, .int .i64 x.de] := rfl
theorem Rt.free {Av : Nat} {W : World} {T mb c : Nat} {M : Lit → Option Value} {X : Nat → Opn} (h : Rt Av W T mb c M X) {i : Nat} (hi : 1 ≤ i ∧ i ≤ 8) (h0 : (X i).rq = 0) : M (.int .u64 (i : Int)) = none := by
  rcases h.2.2.1 i hi.1 hi.2 with k | ⟨ac, cc, k1, k2, -⟩
  · exact k.1
  · omega
/-- A new entry. -/
theorem Rt.add {Av : Nat} {W W' : World} {T mb c : Nat} {M M' : Lit → Option Value} {X : Nat → Opn} (h : Rt Av W T mb c M X) (g : W.grownBy W' (some mb)) {i : Nat} (hi : 1 ≤ i ∧ i ≤ 8) (h0 : (X i).rq = 0) (x : Opn) (hx : 0 < x.rq ∧ x.rq < 18446744073709551616) (hs : Snd x) (hT : Tab W' T mb (upC M (.int .u64 (i : Int)) c) M') (m1 : M' (.int .u64 (i : Int)) = some (x.req x.a x.ca)) (m2 : ∀ l, l ≠ .int .u64 (i : Int) → M' l = M l) (ho : OU W' W.heap.size (.slice x.a x.n x.ca) x.xs) (hU : ∀ s ∈ x.xs, s < 18446744073709551616) (hav : Av < W.heap.size) :
    Rt Av W' T mb (c + 1) M' (upX X i x) := by
  have hn := h.free hi h0
  have hc : upC M (.int .u64 (i : Int)) c = c + 1 := by unfold upC; rw [hn]; rfl
  rw [hc] at hT
  refine ⟨hT, ?_, fun j h1 h2 => ?_, fun cl hcl => ?_⟩
  · have h1 := cnt_up X i x hi
    rw [h0, if_neg (by omega), if_pos hx.1] at h1
    have := h.2.1
    omega
  · by_cases ej : j = i
    · subst ej
      rw [upX_same]
      have hus := (ho.us hU).2
      refine .inr ⟨x.a, x.ca, m1, hx.1, hx.2, hs, hus, fun g' o e => ⟨ou_fr ho g' o e, ?_⟩, hus, fun g' o e _ => ?_⟩
      · have := ou_ge ho g' o e; omega
      · have := ou_ge ho g' o e; omega
    · rw [upX_other _ _ _ _ ej]
      exact (((h.2.2.1 j h1 h2).grown g h.1.2.isMap).mono g.size).same (m2 _ (fun e => ej (by injection e with _ e; omega)))
  · rw [m2 _ (fun e => hcl (by injection e with _ e; omega))]
    exact h.2.2.2 cl hcl
set_option maxRecDepth 100000 in
set_option maxHeartbeats 8000000 in
theorem sread (Av rb : Nat) (ds : List Nat) (w : World) (hr : RR w rb ds false) (hlt : ∀ c ∈ ds, c < 256) (hav : Av < w.heap.size) :
    Calls Try.prog 37 #[.pointer (some ⟨rb, 0, none⟩)] w (SReadR Av rb ds w) := by
  have HRB : Hid (rb < w.heap.size ∧ Av < w.heap.size) := Lib.hid ⟨hr.lt, hav⟩
  have HRR0 := Lib.hid hr
  have HDE : Hid (nB 8 ds = false → ds = num 0 (nN 8 ds) ++ nR 8 ds ∧ ∀ c ∈ nR 8 ds, c < 256) := Lib.hid (fun h => nB_enc h hlt)
  have HBD : Hid (nB 8 ds = true → nN 8 ds = 0 ∧ nR 8 ds = []) := Lib.hid (fun h => ⟨nN_bad h, nR_bad h⟩)
  have HN0 : Hid (∀ W, RR W rb ds false → Calls Try.prog 54 #[.pointer (some ⟨rb, 0, none⟩), .int .u64 8] W fun e w' => e = .returned (.int .u64 ((nN 8 ds : Nat) : Int)) ∧ RR w' rb (nR 8 ds) (nB 8 ds) ∧ Rd rb W w') := Lib.hid (fun W h => num_rd1 rb 8 _ false W h)
  have HOK : Hid (sOk ds = (!nB 8 ds && tOk (nN 8 ds) 0 (nR 8 ds))) := Lib.hid rfl
  have HNX : Hid (sNx ds = tNx (nN 8 ds) (nR 8 ds)) := Lib.hid rfl
  have hn8 := nN_le 8 ds
  obtain ⟨n, hn⟩ : ∃ x, nN 8 ds = x := ⟨_, rfl⟩
  obtain ⟨b0, hb0⟩ : ∃ x, nB 8 ds = x := ⟨_, rfl⟩
  obtain ⟨ds1, hds1⟩ : ∃ x, nR 8 ds = x := ⟨_, rfl⟩
  rw [hn, hb0, hds1] at HN0 HOK HBD HDE
  rw [hn, hds1] at HNX
  rw [hn] at hn8
  clear hn hb0 hds1 hr hlt hav
  go_enter Try.func37, Try.ntmps37
  go_wp2_with fail
  refine (empty_any w).mono ?_
  rintro e w0 ⟨T, mb, rfl, hT, hmb, htab, hb⟩
  have HTM : Hid (w.heap.size ≤ T ∧ w.heap.size ≤ mb) := Lib.hid ⟨hT, hmb⟩
  have HRT : Hid (Rt Av w0 T mb 0 (fun _ => none) (fun _ => zOp)) := Lib.hid ⟨htab, rfl, fun i _ _ => .inl ⟨rfl, rfl⟩, fun _ _ => rfl⟩
  have HRR1 := Lib.hid (HRR0.out.kept hb)
  have HRD1 : Hid (Rd rb w w0) := Lib.hid (Rd.below hb)
  clear hT hmb htab hb
  go_wp2_with fail
  refine (HN0.out w0 HRR1.out).mono ?_
  rintro e w1 ⟨rfl, hr1, ht1⟩
  have HRT1 : Hid (Rt Av w1 T mb 0 (fun _ => none) (fun _ => zOp)) := Lib.hid ⟨⟨(ht1.block T (ex_lt HRT.out.1.1) (by have := HTM.out; have := HRB.out; omega) (by simp [Value.ownBlock])).trans HRT.out.1.1, HRT.out.1.2.block (ht1.block mb HRT.out.1.2.lt (by have := HTM.out; have := HRB.out; omega) (by simp [Value.ownBlock]))⟩, rfl, fun i _ _ => .inl ⟨rfl, rfl⟩, fun _ _ => rfl⟩
  have HRRL := Lib.hid hr1
  have HRDL := Lib.hid (HRD1.out.trans ht1)
  have HAT : Hid (b0 = false → tabB (fun _ => zOp) 0 ++ ds1 = ds1 ∧ ∀ c ∈ ds1, c < 256) := Lib.hid (fun h => ⟨rfl, (HDE.out h).2⟩)
  have HAE : Hid (b0 = true → ds1 = []) := Lib.hid (fun h => (HBD.out h).2)
  have HRI0 : Hid (RowsIn w.heap.size (fun _ => none) (fun _ => zOp)) := Lib.hid (fun i _ _ => ⟨fun ac cc h => (by cases h), fun g o h => (by cases h)⟩)
  clear hr1 ht1 HRT HRR1 HRD1
  go_wp2_with fail
  go_loopg [5, 13] n (fun kx s5 s13 wr => ∃ (k bf : Nat) (es : List Nat) (M : Lit → Option Value) (X : Nat → Opn), s5 = .int .u64 (bf : Int) ∧ s13 = .int .u64 (k : Int) ∧ k ≤ n ∧ n - k ≤ kx ∧ Hid (tOk (n - k) bf es = tOk n 0 ds1 ∧ tNx (n - k) es = tNx n ds1) ∧ Hid (b0 = false → tabB X bf ++ es = ds1 ∧ ∀ c ∈ es, c < 256) ∧ Hid (b0 = true → es = []) ∧ Hid (∀ j, bf < j → (X j).rq = 0) ∧ Hid (bf ≤ 8) ∧ Hid (Rt Av wr T mb k M X) ∧ Hid (RowsIn w.heap.size M X) ∧ Hid (RR wr rb es b0) ∧ Hid (Rd rb w wr))
  case atStart => exact ⟨0, 0, ds1, _, _, rfl, rfl, Nat.zero_le _, by omega, Lib.hid ⟨rfl, rfl⟩, HAT, HAE, Lib.hid (fun _ _ => rfl), Lib.hid (Nat.zero_le _), HRT1, HRI0, HRRL, HRDL⟩
  case round =>
    clear HRT1 HRRL HRDL HAT HAE HRI0
    obtain ⟨k, bf, es, M, X, rfl, rfl, hk, hkx, HSP, HBY, HEM, HZR, HB8, HRT, HRI, HRR, HRD⟩ := hrel
    by_cases hlt : k < n
    case neg =>
      obtain rfl : k = n := by omega
      have hd : decide ((k : Int) < (k : Int)) = false := decide_eq_false (by omega)
      have hd2 : decide (k < k) = false := decide_eq_false (by omega)
      go_wp2_with fail
      refine (bad_rd rb _ _ wr HRR.out).mono ?_
      rintro e w9 ⟨rfl, rfl⟩
      have hsp := HSP.out
      rw [Nat.sub_self] at hsp
      cases b0
      case true =>
        go_wp2_with fail
        refine bodyPost_ret (results_tmp2 rfl _ _ _) rfl ?_
        have he := HEM.out (by trivial)
        rw [he] at HRR
        exact ⟨fun h => (by rw [HOK.out] at h; simp at h), fun _ => ⟨rfl, HRR.out, HRD.out⟩⟩
      case false =>
        go_wp2_with fail
        refine bodyPost_ret (results_tmp2 rfl _ _ _) rfl ?_
        have hby := (HBY.out (by trivial)).1
        have e1 : sNx ds = es := by rw [HNX.out, ← hsp.2]; rfl
        refine ⟨fun _ => ⟨T, mb, k, M, X, rfl, HTM.out.1, HTM.out.2, HRT.out, ?_, by rw [e1]; exact HRR.out, HRD.out⟩, fun h => (by rw [HOK.out, ← hsp.1] at h; simp [tOk] at h)⟩
        rw [e1, tab_zero HZR.out 8 HB8.out, List.append_assoc, hby]
        exact (HDE.out (by trivial)).1
    case pos =>
      have hltz : (k : Int) < (n : Int) := by omega
      have hd : decide ((k : Int) < (n : Int)) = true := decide_eq_true hltz
      have hd2 : decide (k < n) = true := decide_eq_true hlt
      obtain rfl : b0 = false := by
        cases b0 with
        | false => rfl
        | true => have := (HBD.out rfl).1; omega
      have hnk : n - k = (n - (k + 1)) + 1 := by omega
      have HBY' := Lib.hid (HBY.out rfl)
      clear HBY HDE
      have HBY := HBY'
      clear HBY'
      have HSO : Hid (eOk bf es = false → tOk n 0 ds1 = false) := Lib.hid (fun h => by rw [← HSP.out.1, hnk]; exact tOk_step h)
      have HNA : Hid (∀ W bd, RR W rb es bd → Calls Try.prog 54 #[.pointer (some ⟨rb, 0, none⟩), .int .u64 8] W fun e w' => e = .returned (.int .u64 ((nN 8 es : Nat) : Int)) ∧ RR w' rb (nR 8 es) (nB 8 es) ∧ Rd rb W w') := Lib.hid (fun W bd h => num_rd1 rb 8 _ bd W h)
      have HNC : Hid (∀ W bd, RR W rb (nR 8 es) bd → Calls Try.prog 54 #[.pointer (some ⟨rb, 0, none⟩), .int .u64 18446744073709551615] W fun e w' => e = .returned (.int .u64 ((eRq es : Nat) : Int)) ∧ RR w' rb (e2 es) (nB 18446744073709551615 (nR 8 es)) ∧ Rd rb W w') := Lib.hid (fun W bd h => num_rd1 rb 18446744073709551615 _ bd W h)
      have hcl8 := nN_le 8 es
      have hrqm : eRq es ≤ 18446744073709551615 := nN_le _ _
      go_wp2_with fail
      refine (HNA.out wr _ HRR.out).mono ?_
      rintro e w2 ⟨rfl, hr2, ht2⟩
      have HRR2 := Lib.hid hr2
      have HT2 := Lib.hid ht2
      clear hr2 ht2 HNA
      go_wp2_with fail
      refine (HNC.out w2 _ HRR2.out).mono ?_
      rintro e w3 ⟨rfl, hr3, ht3⟩
      have HRR3 := Lib.hid hr3
      have HT3 := Lib.hid (HT2.out.trans ht3)
      have HRDC := HRB.out
      have HTMC := HTM.out
      have HRT3 : Hid (Rt Av w3 T mb k M X) := Lib.hid (HRT.out.rd2 HT3.out (by omega) (by omega) (fun i h1 h2 ac cc hm g o e => by have := (HRI.out i h1 h2).1 ac cc hm g o e; omega) (fun i h1 h2 g o e => by have := (HRI.out i h1 h2).2 g o e; omega))
      have HRD3 := Lib.hid (HRD.out.trans HT3.out)
      clear hr3 ht3 HNC HT2 HT3 HRR2 HRT HRD HRR HRDC HTMC
      go_wp2_with fail
      refine (read19 rb (e2 es) _ w3 HRR3.out).mono ?_
      rintro e w4 hread
      cases hyo : yOk (e2 es) with
      | false =>
        obtain ⟨rfl, hr4, ht4⟩ := hread.2 hyo
        have HRR4 := Lib.hid hr4
        have HRD4 := Lib.hid (HRD3.out.trans ht4)
        have HNO : Hid (tOk n 0 ds1 = false) := Lib.hid (HSO.out (by unfold eOk; rw [hyo]; rfl))
        have Bx := (box1 w4 #[.int .i64 0, .int .i64 0, .int .u64 0, .int .i64 0, .int .i64 0, .int .i64 0, .int .u64 0, .int .i64 0, .int .i64 0, .int .i64 0, .int .i64 0, .slice none 0 0, .int .u64 0, .int .i64 0] 28).1
        have HRR5 := Lib.hid (HRR4.out.kept Bx)
        have HRD5 := Lib.hid (HRD4.out.trans (Rd.below Bx))
        clear hread hr4 ht4 Bx HRR4 HRD4
        unfold zV
        go_wp2_with fail
        generalize w4.alloc (.cells #[.int .i64 0, .int .i64 0, .int .u64 0, .int .i64 0, .int .i64 0, .int .i64 0, .int .u64 0, .int .i64 0, .int .i64 0, .int .i64 0, .int .i64 0, .slice none 0 0, .int .u64 0, .int .i64 0] 28) = w5 at HRR5 HRD5 ⊢
        go_wp2_with fail
        refine (fail_rd rb _ _ w5 HRR5.out).mono ?_
        rintro e w8 ⟨rfl, hr8, ht8⟩
        have HRD8 := Lib.hid (HRD5.out.trans ht8)
        have HRR8 := Lib.hid hr8
        clear hr8 ht8
        go_wp2_with fail
        refine (bad_rd rb _ _ w8 HRR8.out).mono ?_
        rintro e w9 ⟨rfl, rfl⟩
        go_wp2_with fail
        refine bodyPost_ret (results_tmp2 rfl _ _ _) rfl ?_
        exact ⟨fun h => (by rw [HOK.out, HNO.out, Bool.and_false] at h; cases h), fun _ => ⟨rfl, HRR8.out, HRD8.out⟩⟩
      | true =>
        obtain ⟨a5, c5, rfl, ho4, hr4, ht4⟩ := hread.1 hyo
        have HSN : Hid (Snd (eX es a5 c5)) := Lib.hid (e_snd hyo a5 c5)
        have HEB : Hid (0 < eRq es → es = entB (nN 8 es) (eX es a5 c5) ++ eNx es ∧ ∀ c ∈ eNx es, c < 256) := Lib.hid (fun h => e_bytes hyo h HBY.out.2 a5 c5)
        have HEO : Hid (bf < nN 8 es → 0 < eRq es → eOk bf es = true) := Lib.hid (fun h1 h2 => eOk_iff hyo h1 h2)
        have HEN : Hid ((bf < nN 8 es → eRq es = 0 → eOk bf es = false) ∧ (¬ bf < nN 8 es → eOk bf es = false)) := Lib.hid ⟨fun h1 h2 => by unfold eOk; rw [h2]; simp, fun h => by unfold eOk; simp [h]⟩
        have HFR := Lib.hid (yNine_fr (e2 es))
        have HSD : Hid (yS (e2 es) = true) := Lib.hid (e_good hyo).2.2.2
        have HUS : Hid (∀ s ∈ yXs (e2 es), s < 18446744073709551616) := Lib.hid (yXs_lt (e2 es))
        have HXL := Lib.hid (yXs_len (e2 es))
        have HT4 := Lib.hid ht4
        have HTMC := HTM.out
        have HRDC := HRB.out
        have HRT4 : Hid (Rt Av w4 T mb k M X) := Lib.hid (HRT3.out.rd2 HT4.out (by omega) (by omega) (fun i h1 h2 ac cc hm g o e => by have := (HRI.out i h1 h2).1 ac cc hm g o e; omega) (fun i h1 h2 g o e => by have := (HRI.out i h1 h2).2 g o e; omega))
        have HRR4 := Lib.hid hr4
        have HRD4 := Lib.hid (HRD3.out.trans HT4.out)
        have HOU4 := Lib.hid ho4
        have HW3 : Hid (w.heap.size ≤ w3.heap.size ∧ w3.heap.size ≤ w4.heap.size) := Lib.hid ⟨HRD3.out.size, ht4.size⟩
        have HST : Hid ((eOk bf es = true → tOk (n - (k + 1)) (nN 8 es) (yRest (e2 es)) = tOk n 0 ds1) ∧ tNx (n - (k + 1)) (yRest (e2 es)) = tNx n ds1) := Lib.hid (by
          have h := HSP.out
          rw [hnk] at h
          refine ⟨fun he => ?_, h.2⟩
          have h1 : (eOk bf es && tOk (n - (k + 1)) (nN 8 es) (eNx es)) = tOk n 0 ds1 := h.1
          rw [he, Bool.true_and] at h1
          exact h1)
        clear hread hr4 ht4 ho4 HT4 HRT3 HRD3 HRR3 HTMC HRDC HSP
        have hX : ∃ (cd tm id cn st lv ge fr lf du tl nt de : Int) (L : Nat) (xs : List Nat), (∀ a ca, yV (e2 es) a ca = repV cd tm id cn st lv ge fr lf du tl a L ca nt de) ∧ (yXs (e2 es)).length = L ∧ yXs (e2 es) = xs ∧ fr ≤ 9223372036854775807 ∧ yS (e2 es) = repS cd tm id cn st lv ge fr lf du tl L de ∧ ∀ a ca, eX es a ca = Opn.mk 0 ((nN 8 es : Nat) : Int) ((eRq es : Nat) : Int) cd tm id cn st lv ge fr lf du tl a L ca nt de xs := ⟨_, _, _, _, _, _, _, _, _, _, _, _, _, _, _, fun _ _ => rfl, rfl, rfl, by have := HFR.out; omega, rfl, fun _ _ => rfl⟩
        obtain ⟨cd, tm, id, cn, st, lv, ge, fr, lf, du, tl, nt, de, L, xs, hv, hL, hxs, hfr, hys, hex⟩ := hX
        rw [hv a5 c5]
        rw [hL, hxs] at HOU4
        rw [hxs] at HUS HXL
        rw [hxs] at hL
        rw [hys] at HSD
        rw [hex a5 c5] at HSN HEB
        have HLL : Hid (xs.length = L ∧ fr ≤ 9223372036854775807) := Lib.hid ⟨hL, hfr⟩
        obtain ⟨cl, hcl⟩ : ∃ x, nN 8 es = x := ⟨_, rfl⟩
        obtain ⟨rq, hrq⟩ : ∃ x, eRq es = x := ⟨_, rfl⟩
        rw [hcl] at HSN HEB HEO HEN hcl8 HST ⊢
        rw [hrq] at HSN HEB HEO HEN hrqm ⊢
        clear hv hL hxs hfr hys hex hcl hrq HFR
        obtain ⟨Bx, sx, zx⟩ := box1 w4 #[.int .i64 cd, .int .i64 tm, .int .u64 id, .int .i64 cn, .int .i64 st, .int .i64 lv, .int .u64 ge, .int .i64 fr, .int .i64 lf, .int .i64 du, .int .i64 tl, .slice a5 L c5, .int .u64 nt, .int .i64 de] 28
        have HRR5 := Lib.hid (HRR4.out.kept Bx)
        have HRD5 := Lib.hid (HRD4.out.trans (Rd.below Bx))
        have HRT5 := Lib.hid (HRT4.out.kept Bx)
        have HOU5 := Lib.hid (HOU4.out.kept Bx)
        have HSZ : Hid (w3.heap.size ≤ (w4.alloc (.cells #[.int .i64 cd, .int .i64 tm, .int .u64 id, .int .i64 cn, .int .i64 st, .int .i64 lv, .int .u64 ge, .int .i64 fr, .int .i64 lf, .int .i64 du, .int .i64 tl, .slice a5 L c5, .int .u64 nt, .int .i64 de] 28)).heap.size ∧ w.heap.size ≤ w3.heap.size) := Lib.hid ⟨Nat.le_trans HW3.out.2 Bx.size, HW3.out.1⟩
        obtain ⟨g, hg⟩ : ∃ g, w4.heap.size = g := ⟨_, rfl⟩
        rw [hg] at sx
        have HBX := Lib.hid sx
        obtain ⟨q0, q1, q2, q3, q4, q5, q6, q7, q8, q9, q10, q11, q12, q13⟩ := rep_at sx
        clear Bx sx zx HRR4 HRD4 HRT4 HOU4 HW3
        unfold repV
        by_cases hbf : bf < cl
        case neg =>
          have d1 : decide ((cl : Int) ≤ (bf : Int)) = true := decide_eq_true (by omega)
          have d2 : decide (cl ≤ bf) = true := decide_eq_true (by omega)
          have HNO : Hid (tOk n 0 ds1 = false) := Lib.hid (HSO.out (HEN.out.2 hbf))
          go_wp2_with fail
          try rw [hg]
          clear q0 q1 q2 q3 q4 q5 q6 q7 q8 q9 q10 q11 q12 q13 hg
          generalize w4.alloc (.cells #[.int .i64 cd, .int .i64 tm, .int .u64 id, .int .i64 cn, .int .i64 st, .int .i64 lv, .int .u64 ge, .int .i64 fr, .int .i64 lf, .int .i64 du, .int .i64 tl, .slice a5 L c5, .int .u64 nt, .int .i64 de] 28) = w5 at HRR5 HRD5 HRT5 HOU5 HSZ HBX ⊢
          go_wp2_with fail
          refine (fail_rd rb _ _ w5 HRR5.out).mono ?_
          rintro e w8 ⟨rfl, hr8, ht8⟩
          have HRD8 := Lib.hid (HRD5.out.trans ht8)
          have HRR8 := Lib.hid hr8
          clear hr8 ht8
          go_wp2_with fail
          refine (bad_rd rb _ _ w8 HRR8.out).mono ?_
          rintro e w9 ⟨rfl, rfl⟩
          go_wp2_with fail
          refine bodyPost_ret (results_tmp2 rfl _ _ _) rfl ?_
          exact ⟨fun h => (by rw [HOK.out, HNO.out, Bool.and_false] at h; cases h), fun _ => ⟨rfl, HRR8.out, HRD8.out⟩⟩
        case pos =>
          have d1 : decide ((cl : Int) ≤ (bf : Int)) = false := decide_eq_false (by omega)
          have d2 : decide (cl ≤ bf) = false := decide_eq_false (by omega)
          have hi : 1 ≤ cl ∧ cl ≤ 8 := ⟨by omega, hcl8⟩
          have hM0 : M (.int .u64 (cl : Int)) = none := HRT5.out.free hi (HZR.out cl hbf)
          have hgd : (M (.int .u64 (cl : Int))).getD (.agg #[.int .u64 0, .int .i64 0, .int .i64 0, .int .u64 0, .int .i64 0, .int .i64 0, .int .i64 0, .int .u64 0, .int .i64 0, .int .i64 0, .int .i64 0, .int .i64 0, .slice none 0 0, .int .u64 0, .int .i64 0]) = .agg #[.int .u64 0, .int .i64 0, .int .i64 0, .int .u64 0, .int .i64 0, .int .i64 0, .int .i64 0, .int .u64 0, .int .i64 0, .int .i64 0, .int .i64 0, .int .i64 0, .slice none 0 0, .int .u64 0, .int .i64 0] := by rw [hM0]; rfl
          have hus := (HOU5.out.us HUS.out).2
          by_cases h0 : 0 < rq
          case neg =>
            obtain rfl : rq = 0 := by omega
            have HDN : Hid (Calls Try.prog 36 #[.pointer (some ⟨T, 0, none⟩), .int .u64 (cl : Int), .int .u64 ((0 : Nat) : Int), repV cd tm id cn st lv ge fr lf du tl a5 L c5 nt de] (w4.alloc (.cells #[.int .i64 cd, .int .i64 tm, .int .u64 id, .int .i64 cn, .int .i64 st, .int .i64 lv, .int .u64 ge, .int .i64 fr, .int .i64 lf, .int .i64 du, .int .i64 tl, .slice a5 L c5, .int .u64 nt, .int .i64 de] 28)) fun e w' => e = .returned (.int .i64 34) ∧ Below (w4.alloc (.cells #[.int .i64 cd, .int .i64 tm, .int .u64 id, .int .i64 cn, .int .i64 st, .int .i64 lv, .int .u64 ge, .int .i64 fr, .int .i64 lf, .int .i64 du, .int .i64 tl, .slice a5 L c5, .int .u64 nt, .int .i64 de] 28)).heap.size (w4.alloc (.cells #[.int .i64 cd, .int .i64 tm, .int .u64 id, .int .i64 cn, .int .i64 st, .int .i64 lv, .int .u64 ge, .int .i64 fr, .int .i64 lf, .int .i64 du, .int .i64 tl, .slice a5 L c5, .int .u64 nt, .int .i64 de] 28)) w') := Lib.hid (done_old T mb k M cl 0 cd tm id cn st lv ge fr lf du tl a5 L c5 nt de _ HRT5.out.1 0 0 0 0 0 0 0 0 0 0 0 0 none 0 0 0 0 hgd ⟨by omega, by omega⟩ HLL.out.2 HSD.out (by omega))
            unfold repV at HDN
            have HNO : Hid (tOk n 0 ds1 = false) := Lib.hid (HSO.out (HEN.out.1 hbf rfl))
            go_wp2_with fail
            try rw [hg]
            clear q0 q1 q2 q3 q4 q5 q6 q7 q8 q9 q10 q11 q12 q13 hg hus hgd hM0
            generalize w4.alloc (.cells #[.int .i64 cd, .int .i64 tm, .int .u64 id, .int .i64 cn, .int .i64 st, .int .i64 lv, .int .u64 ge, .int .i64 fr, .int .i64 lf, .int .i64 du, .int .i64 tl, .slice a5 L c5, .int .u64 nt, .int .i64 de] 28) = w5 at HRR5 HRD5 HRT5 HOU5 HSZ HBX HDN ⊢
            refine HDN.out.mono ?_
            rintro e w6 ⟨rfl, hb⟩
            have HRR6 := Lib.hid (HRR5.out.kept hb)
            have HRD6 := Lib.hid (HRD5.out.trans (Rd.below hb))
            clear hb HDN
            go_wp2_with fail
            refine (fail_rd rb _ _ w6 HRR6.out).mono ?_
            rintro e w8 ⟨rfl, hr8, ht8⟩
            have HRD8 := Lib.hid (HRD6.out.trans ht8)
            have HRR8 := Lib.hid hr8
            clear hr8 ht8
            go_wp2_with fail
            refine (bad_rd rb _ _ w8 HRR8.out).mono ?_
            rintro e w9 ⟨rfl, rfl⟩
            go_wp2_with fail
            refine bodyPost_ret (results_tmp2 rfl _ _ _) rfl ?_
            exact ⟨fun h => (by rw [HOK.out, HNO.out, Bool.and_false] at h; cases h), fun _ => ⟨rfl, HRR8.out, HRD8.out⟩⟩
          case pos =>
            have HDN : Hid (Calls Try.prog 36 #[.pointer (some ⟨T, 0, none⟩), .int .u64 (cl : Int), .int .u64 (rq : Int), repV cd tm id cn st lv ge fr lf du tl a5 L c5 nt de] (w4.alloc (.cells #[.int .i64 cd, .int .i64 tm, .int .u64 id, .int .i64 cn, .int .i64 st, .int .i64 lv, .int .u64 ge, .int .i64 fr, .int .i64 lf, .int .i64 du, .int .i64 tl, .slice a5 L c5, .int .u64 nt, .int .i64 de] 28)) fun e w' => e = .returned (.int .i64 0) ∧ ∃ ac cc M', Tab w' T mb (upC M (.int .u64 (cl : Int)) k) M' ∧ (M' (.int .u64 (cl : Int)) = some (.agg #[.int .u64 (rq : Int), .int .i64 cd, .int .i64 tm, .int .u64 id, .int .i64 cn, .int .i64 st, .int .i64 lv, .int .u64 ge, .int .i64 fr, .int .i64 lf, .int .i64 du, .int .i64 tl, .slice ac L cc, .int .u64 nt, .int .i64 de]) ∧ ∀ x, x ≠ .int .u64 (cl : Int) → M' x = M x) ∧ OU w' (w4.alloc (.cells #[.int .i64 cd, .int .i64 tm, .int .u64 id, .int .i64 cn, .int .i64 st, .int .i64 lv, .int .u64 ge, .int .i64 fr, .int .i64 lf, .int .i64 du, .int .i64 tl, .slice a5 L c5, .int .u64 nt, .int .i64 de] 28)).heap.size (.slice ac L cc) xs ∧ (w4.alloc (.cells #[.int .i64 cd, .int .i64 tm, .int .u64 id, .int .i64 cn, .int .i64 st, .int .i64 lv, .int .u64 ge, .int .i64 fr, .int .i64 lf, .int .i64 du, .int .i64 tl, .slice a5 L c5, .int .u64 nt, .int .i64 de] 28)).grownBy w' (some mb)) := Lib.hid (done_ok T mb k M cl rq cd tm id cn st lv ge fr lf du tl a5 L c5 nt de _ HRT5.out.1 0 0 0 0 0 0 0 0 0 0 0 0 none 0 0 0 0 hgd xs hus ⟨by omega, by omega⟩ (by have := HXL.out; have := HLL.out.1; omega) (by unfold maxLen; omega) HLL.out.2 HSD.out (by omega))
            unfold repV at HDN
            have HEOK := Lib.hid (HEO.out hbf h0)
            go_wp2_with fail
            try rw [hg]
            clear q0 q1 q2 q3 q4 q5 q6 q7 q8 q9 q10 q11 q12 q13 hg hus hgd hM0
            generalize w4.alloc (.cells #[.int .i64 cd, .int .i64 tm, .int .u64 id, .int .i64 cn, .int .i64 st, .int .i64 lv, .int .u64 ge, .int .i64 fr, .int .i64 lf, .int .i64 du, .int .i64 tl, .slice a5 L c5, .int .u64 nt, .int .i64 de] 28) = w5 at HRR5 HRD5 HRT5 HOU5 HSZ HBX HDN ⊢
            refine HDN.out.mono ?_
            rintro e w6 ⟨rfl, ac, cc, M', htab, ⟨m1, m2⟩, ho6, hg6⟩
            have hrq' : (rq : Int) < 18446744073709551616 := by omega
            have HRT6 : Hid (Rt Av w6 T mb (k + 1) M' (upX X cl (Opn.mk 0 (cl : Int) (rq : Int) cd tm id cn st lv ge fr lf du tl ac L cc nt de xs))) := Lib.hid (HRT5.out.add hg6 hi (HZR.out cl hbf) (Opn.mk 0 (cl : Int) (rq : Int) cd tm id cn st lv ge fr lf du tl ac L cc nt de xs) ⟨by show (0 : Int) < (rq : Int); omega, hrq'⟩ HSN.out htab m1 m2 ho6 HUS.out (by have := HSZ.out; have := HRB.out; omega))
            have HRI6 : Hid (RowsIn w.heap.size M' (upX X cl (Opn.mk 0 (cl : Int) (rq : Int) cd tm id cn st lv ge fr lf du tl ac L cc nt de xs))) := Lib.hid (fun i h1 h2 => by
              have hsz := HSZ.out
              by_cases ei : i = cl
              · subst ei
                rw [upX_same]
                refine ⟨fun ac' cc' hm g' o e => ?_, fun g' o e => ?_⟩
                · rw [m1] at hm
                  simp only [Opn.req, Option.some.injEq, Value.agg.injEq, Array.mk.injEq, List.cons.injEq, Value.slice.injEq] at hm
                  have e1 : ac = ac' := hm.2.2.2.2.2.2.2.2.2.2.2.2.1.1
                  subst e1
                  have := ou_ge ho6 g' o e
                  omega
                · have := ou_ge ho6 g' o e
                  omega
              · rw [upX_other _ _ _ _ ei]
                refine ⟨fun ac' cc' hm => (HRI.out i h1 h2).1 ac' cc' ((m2 _ (fun e => ei (by injection e with _ e; omega))).symm.trans hm), (HRI.out i h1 h2).2⟩)
            have HRR6 := Lib.hid (HRR5.out.grown hg6 (by have := HTM.out; have := HRB.out; omega))
            have HRD6 := Lib.hid (HRD5.out.grown hg6 HTM.out.2)
            have HZ6 := Lib.hid (up_zero HZR.out hbf (Opn.mk 0 (cl : Int) (rq : Int) cd tm id cn st lv ge fr lf du tl ac L cc nt de xs))
            have hen : entB cl (Opn.mk 0 (cl : Int) (rq : Int) cd tm id cn st lv ge fr lf du tl ac L cc nt de xs) = entB cl (Opn.mk 0 (cl : Int) (rq : Int) cd tm id cn st lv ge fr lf du tl a5 L c5 nt de xs) := rfl
            have HBY6 : Hid (tabB (upX X cl (Opn.mk 0 (cl : Int) (rq : Int) cd tm id cn st lv ge fr lf du tl ac L cc nt de xs)) cl ++ yRest (e2 es) = ds1 ∧ ∀ c ∈ yRest (e2 es), c < 256) := Lib.hid (by
              obtain ⟨k1, k2⟩ := HEB.out h0
              refine ⟨?_, k2⟩
              rw [tab_up HZR.out hbf, hen, List.append_assoc]
              have k1' : entB cl (Opn.mk 0 (cl : Int) (rq : Int) cd tm id cn st lv ge fr lf du tl a5 L c5 nt de xs) ++ yRest (e2 es) = es := k1.symm
              rw [k1']
              exact HBY.out.1)
            have HSP6 : Hid (tOk (n - (k + 1)) cl (yRest (e2 es)) = tOk n 0 ds1 ∧ tNx (n - (k + 1)) (yRest (e2 es)) = tNx n ds1) := Lib.hid ⟨HST.out.1 HEOK.out, HST.out.2⟩
            clear htab m1 m2 ho6 hg6 HDN
            have hkw : IntKind.u64.wrap ((k : Int) + 1) = (k : Int) + 1 := IntWalk.u64_in _ ⟨by omega, by omega⟩
            go_wp2_with fail
            go_roundg (n - (k + 1))
            case measure => omega
            case rel => exact ⟨k + 1, cl, yRest (e2 es), M', _, rfl, by first | rfl | (rw [hkw]; rfl), by omega, by omega, HSP6, Lib.hid (fun _ => HBY6.out), Lib.hid (fun h => by cases h), HZ6, Lib.hid hcl8, HRT6, HRI6, HRR6, HRD6⟩
/- Session: the reference's Read. -/
open Go.RowKit Go.Maps
/-- The reference's rows. -/
def RowsF (B0 : Nat) (X : Nat → Opn) : Prop := ∀ i : Nat, 1 ≤ i → i ≤ 8 → ∀ g o, (X i).a = some ⟨g, o, none⟩ → B0 ≤ g
def SReadF (c : Nat) (ds : List Nat) (w : World) (e : Ending) (w' : World) : Prop :=
  (sOk ds = true → ∃ X, e = .returned (.tuple #[rtV X, .bool true]) ∧ RE w' X ∧ RowsF w.heap.size X ∧ ds = num 0 (cntTo X 8) ++ tabB X 8 ++ sNx ds ∧ RF w' c (sNx ds) false ∧ Rd c w w') ∧
  (sOk ds = false → e = .returned (.tuple #[rtV (fun _ => zOp), .bool false]) ∧ RF w' c [] true ∧ Rd c w w')
theorem RE.rd {w w' : World} {X : Nat → Opn} {c B0 : Nat} (h : RE w X) (hr : RowsF B0 X) (ht : Rd c w w') (hc : c < B0) : RE w' X := fun i h1 h2 => (h i h1 h2).imp id (fun ⟨k1, k2, k3, k4⟩ => ⟨k1, k2, k3, us_rd0 k4 ht (fun g o e => by have := hr i h1 h2 g o e; omega)⟩)
theorem RE.far {w w' : World} {X : Nat → Opn} {K B0 : Nat} (h : RE w X) (hr : RowsF B0 X) (hs : w.heap.size ≤ w'.heap.size) (e : ∀ k, k ≠ K → w'.heap[k]? = w.heap[k]?) (hc : K < B0) : RE w' X := fun i h1 h2 => (h i h1 h2).imp id (fun ⟨k1, k2, k3, k4⟩ => ⟨k1, k2, k3, k4.far hs e (fun g o e' _ => by have := hr i h1 h2 g o e'; omega)⟩)
theorem RE.add {w : World} {X : Nat → Opn} (h : RE w X) {i : Nat} (x : Opn) (hx : 0 < x.rq ∧ x.rq < 18446744073709551616) (hs : Snd x) (hu : Us w x.a x.n x.xs) : RE w (upX X i x) := fun j h1 h2 => by
  by_cases e : j = i
  · subst e
    rw [upX_same]
    exact .inr ⟨hx.1, hx.2, hs, hu⟩
  · rw [upX_other _ _ _ _ e]
    exact h j h1 h2
theorem RowsF.add {B0 : Nat} {X : Nat → Opn} (h : RowsF B0 X) {i : Nat} (x : Opn) (hx : ∀ g o, x.a = some ⟨g, o, none⟩ → B0 ≤ g) : RowsF B0 (upX X i x) := fun j h1 h2 => by
  by_cases e : j = i
  · subst e
    rw [upX_same]
    exact hx
  · rw [upX_other _ _ _ _ e]
    exact h j h1 h2
/-- What the loop keeps while all is well. -/
structure FGood (w : World) (c n k bf : Nat) (ds1 : List Nat) (b0 : Bool) (es : List Nat) (X : Nat → Opn) (wr : World) : Prop where
  sp : tOk (n - k) bf es = tOk n 0 ds1 ∧ tNx (n - k) es = tNx n ds1
  by_ : b0 = false → tabB X bf ++ es = ds1 ∧ ∀ c ∈ es, c < 256
  em : b0 = true → es = []
  zr : ∀ j, bf < j → (X j).rq = 0
  b8 : bf ≤ 8
  cn : cntTo X 8 = k
  re : RE wr X
  rf : RF wr c es b0
/-- What the loop keeps in any case. -/
structure FAll (w : World) (c : Nat) (X : Nat → Opn) (wr : World) : Prop where
  rt : RT wr (w.heap.size + 1) X
  z : RT wr w.heap.size (fun _ => zOp)
  ro : RowsF (w.heap.size + 2) X
  rd : Rd c w wr
theorem FAll.turn {w wr w' : World} {c : Nat} {X : Nat → Opn} (h : FAll w c X wr) (ht : Rd c wr w') (hc : c < w.heap.size) : FAll w c X w' :=
  ⟨h.rt.eq (ht.block _ h.rt.lt (by omega) (by simp [Value.ownBlock])), h.z.eq (ht.block _ h.z.lt (by omega) (by simp [Value.ownBlock])), h.ro, h.rd.trans ht⟩
theorem FAll.kept {w wr w' : World} {c : Nat} {X : Nat → Opn} (h : FAll w c X wr) (hb : Below wr.heap.size wr w') : FAll w c X w' :=
  ⟨h.rt.kept hb, h.z.kept hb, h.ro, h.rd.trans (Rd.below hb)⟩
theorem setCells_block {N b : Nat} (hn : b ≠ N) : ∀ (vs : List Value) (o : Nat) (w : World), (w.setCells N o vs).heap[b]? = w.heap[b]?
  | [], _, _ => rfl
  | v :: r, o, w => by
    rw [World.setCells, setCells_block hn r (o + 1)]
    exact Below.heap_setCell _ _ _ _ hn
theorem setCells_size {N : Nat} : ∀ (vs : List Value) (o : Nat) (w : World), (w.setCells N o vs).heap.size = w.heap.size
  | [], _, _ => rfl
  | v :: r, o, w => by
    rw [World.setCells, setCells_size r (o + 1)]
    simp
theorem rt_far1 {w : World} {B N i : Nat} {X : Nat → Opn} {v : Value} (h : RT w B X) (hn : B ≠ N) : RT (w.setCell ⟨N, i, none⟩ v) B X := h.far hn [v] i
set_option maxRecDepth 100000 in
set_option maxHeartbeats 8000000 in
theorem rsread (c : Nat) (ds : List Nat) (w : World) (hr : RF w c ds false) (hlt : ∀ x ∈ ds, x < 256) :
    Calls Try.prog 38 #[.pointer (some ⟨c, 0, none⟩)] w (SReadF c ds w) := by
  have HLC : Hid (c < w.heap.size) := Lib.hid hr.lt
  have HDE : Hid (nB 8 ds = false → ds = num 0 (nN 8 ds) ++ nR 8 ds ∧ ∀ c ∈ nR 8 ds, c < 256) := Lib.hid (fun h => nB_enc h hlt)
  have HBD : Hid (nB 8 ds = true → nN 8 ds = 0 ∧ nR 8 ds = []) := Lib.hid (fun h => ⟨nN_bad h, nR_bad h⟩)
  have HN0 : Hid (∀ W, RF W c ds false → Calls Try.prog 64 #[.pointer (some ⟨c, 0, none⟩), .int .u64 8] W fun e w' => e = .returned (.int .u64 ((nN 8 ds : Nat) : Int)) ∧ RF w' c (nR 8 ds) (nB 8 ds) ∧ Rd c W w') := Lib.hid (fun W h => num_rf1 c 8 _ false W h)
  have HOK : Hid (sOk ds = (!nB 8 ds && tOk (nN 8 ds) 0 (nR 8 ds))) := Lib.hid rfl
  have HNX : Hid (sNx ds = tNx (nN 8 ds) (nR 8 ds)) := Lib.hid rfl
  have hn8 := nN_le 8 ds
  obtain ⟨n, hn⟩ : ∃ x, nN 8 ds = x := ⟨_, rfl⟩
  obtain ⟨b0, hb0⟩ : ∃ x, nB 8 ds = x := ⟨_, rfl⟩
  obtain ⟨ds1, hds1⟩ : ∃ x, nR 8 ds = x := ⟨_, rfl⟩
  rw [hn, hb0, hds1] at HN0 HOK HBD HDE
  rw [hn, hds1] at HNX
  rw [hn] at hn8
  obtain ⟨B1, s0, s1, sz⟩ := box2 w Try.zeroCells62 Try.zeroCells62 62 62
  have hz1 := RT.made w (fun _ => zOp) 62
  rw [← z135] at hz1
  have hz2 := hz1.kept ((Below.refl _ _).alloc (Nat.le_refl _) (.cells Try.zeroCells62 62))
  have hz3 := RT.made (w.alloc (.cells Try.zeroCells62 62)) (fun _ => zOp) 62
  rw [← z135] at hz3
  have e1 : (w.alloc (.cells Try.zeroCells62 62)).heap.size = w.heap.size + 1 := by simp
  rw [e1] at hz3
  have HFA0 : Hid (FAll w c (fun _ => zOp) ((w.alloc (.cells Try.zeroCells62 62)).alloc (.cells Try.zeroCells62 62))) := Lib.hid ⟨hz3, hz2, fun i _ _ g o e => (by cases e), Rd.below B1⟩
  have HRF0 := Lib.hid (hr.kept B1)
  have HOV : Hid (∀ W N V, RT W N (fun _ => zOp) → RT (W.setCells N 0 (tabC V)) N V) := Lib.hid (fun W N V h => h.over V)
  have HTH : Hid (∀ W N V, RT W N (fun _ => zOp) → W.there N 0 (tabC V).toArray.size) := Lib.hid (fun W N V h => by rw [List.size_toArray, tabC_len]; exact h.2)
  have HONE : Hid (∀ V, (tabC V).toArray.all (·.oneCell') = true) := Lib.hid (fun V => all_oneCell_toArray (tabC_one V))
  have HYI : Hid (∀ V, (Try.prog.info? 62).map (·.size) = some (tabC V).length) := Lib.hid (fun V => by rw [rt_info, tabC_len])
  have HI28 : Hid ((Try.prog.info? 28).map (·.size) = some 14) := Lib.hid (by kernel_rfl)
  clear hn hb0 hds1 hr hlt B1 s0 s1 sz hz1 hz2 hz3 e1
  go_enter Try.func38, Try.ntmps38
  go_wp2_with fail
  generalize (w.alloc (.cells Try.zeroCells62 62)).alloc (.cells Try.zeroCells62 62) = w0 at HFA0 HRF0 ⊢
  refine (HN0.out w0 HRF0.out).mono ?_
  rintro e w1 ⟨rfl, hr1, ht1⟩
  have HFA := Lib.hid (HFA0.out.turn ht1 HLC.out)
  have HFG : Hid (FGood w c n 0 0 ds1 b0 ds1 (fun _ => zOp) w1) := Lib.hid ⟨⟨rfl, rfl⟩, fun h => ⟨rfl, (HDE.out h).2⟩, fun h => (HBD.out h).2, fun _ _ => rfl, Nat.zero_le _, rfl, fun i _ _ => .inl rfl, hr1⟩
  clear hr1 ht1 HFA0 HRF0
  go_wp2_with fail
  go_loopg [5, 6, 7] n (fun kx s5 s6 s7 wr => ∃ (k bf : Nat) (ok : Bool) (X : Nat → Opn), s5 = .bool ok ∧ s6 = .int .u64 (bf : Int) ∧ s7 = .int .u64 ((n - k : Nat) : Int) ∧ k ≤ n ∧ n - k ≤ kx ∧ Hid (FAll w c X wr) ∧ Hid (ok = true → ∃ es, FGood w c n k bf ds1 b0 es X wr) ∧ Hid (ok = false → tOk n 0 ds1 = false ∧ ∃ es bd, RF wr c es bd))
  case atStart => exact ⟨0, 0, true, _, rfl, rfl, rfl, Nat.zero_le _, by omega, HFA, Lib.hid (fun _ => ⟨ds1, HFG.out⟩), Lib.hid (fun h => by cases h)⟩
  case round =>
    clear HFA HFG
    obtain ⟨k, bf, ok, X, rfl, rfl, rfl, hk, hkx, HFA, HFG, HFB⟩ := hrel
    cases ok
    case false =>
      obtain ⟨hno, es, bd, hrf⟩ := HFB.out rfl
      have HNO := Lib.hid hno
      have HRF := Lib.hid hrf
      have c1 := hrf.bad_at
      have c1f : wr.frozen? ⟨c, 1, none⟩ = false := by obtain ⟨v, h1, -⟩ := hrf; exact (two_cells h1).2.2.2
      clear hno hrf HFG HFB
      obtain ⟨m, hm⟩ : ∃ m, n - k = m := ⟨_, rfl⟩
      rw [hm]
      by_cases hmz : 0 < m
      case pos =>
        have hd : decide ((0 : Int) < (m : Int)) = true := decide_eq_true (by omega)
        have hd2 : decide (0 < m) = true := decide_eq_true hmz
        cases bd
        case false =>
          go_wp2_with fail
          clear c1
          have NOTOK : Hid (sOk ds = false) := Lib.hid (by rw [HOK.out, HNO.out, Bool.and_false])
          refine (fail_rf c _ _ wr HRF.out).mono ?_
          rintro e w8 ⟨rfl, hr8, ht8⟩
          have HRF8 := Lib.hid hr8
          have HFA8 := Lib.hid (HFA.out.turn ht8 HLC.out)
          clear hr8 ht8
          have HTZ : Hid (w8.there w.heap.size 0 Try.zeroCells62.size) := Lib.hid (by rw [z135]; exact HTH.out _ _ (fun _ => zOp) HFA8.out.z)
          have HIZ : Hid ((Try.prog.info? 62).map (·.size) = some Try.zeroCells62.size) := Lib.hid (by rw [z135, List.size_toArray]; exact HYI.out _)
          have HOZ : Hid (Try.zeroCells62.all (·.oneCell') = true) := Lib.hid (by rw [z135]; exact HONE.out _)
          go_wp2_with (refine wpList_store_mid (w := w8) rfl 62 (.tmp 2) (.tmp 60) rfl w.heap.size 0 Try.zeroCells62 rfl rfl HTZ.out HIZ.out HOZ.out ?_)
          rw [z135]
          have hF := HOV.out _ _ (fun _ => zOp) HFA8.out.z
          have hBF := below_setCells (B0 := w.heap.size) (Below.refl w.heap.size w8) (Nat.le_refl w.heap.size) (tabC (fun _ => zOp)) 0
          have hrf : RF (w8.setCells w.heap.size 0 (tabC (fun _ => zOp))) c [] true := HRF8.out.under hBF HLC.out
          have hrd : Rd c w (w8.setCells w.heap.size 0 (tabC (fun _ => zOp))) := HFA8.out.rd.under hBF (Nat.le_refl _)
          exact bodyPost_ret (rt_result Try.results38 _ _ w.heap.size (fun _ => zOp) rfl hF) rfl ⟨fun h => (by rw [NOTOK.out] at h; cases h), fun _ => ⟨rfl, hrf, hrd⟩⟩
        case true =>
          go_wp2_with fail
          clear c1
          have NOTOK : Hid (sOk ds = false) := Lib.hid (by rw [HOK.out, HNO.out, Bool.and_false])
          refine (fail_rf c _ _ wr HRF.out).mono ?_
          rintro e w8 ⟨rfl, hr8, ht8⟩
          have HRF8 := Lib.hid hr8
          have HFA8 := Lib.hid (HFA.out.turn ht8 HLC.out)
          clear hr8 ht8
          have HTZ : Hid (w8.there w.heap.size 0 Try.zeroCells62.size) := Lib.hid (by rw [z135]; exact HTH.out _ _ (fun _ => zOp) HFA8.out.z)
          have HIZ : Hid ((Try.prog.info? 62).map (·.size) = some Try.zeroCells62.size) := Lib.hid (by rw [z135, List.size_toArray]; exact HYI.out _)
          have HOZ : Hid (Try.zeroCells62.all (·.oneCell') = true) := Lib.hid (by rw [z135]; exact HONE.out _)
          go_wp2_with (refine wpList_store_mid (w := w8) rfl 62 (.tmp 2) (.tmp 60) rfl w.heap.size 0 Try.zeroCells62 rfl rfl HTZ.out HIZ.out HOZ.out ?_)
          rw [z135]
          have hF := HOV.out _ _ (fun _ => zOp) HFA8.out.z
          have hBF := below_setCells (B0 := w.heap.size) (Below.refl w.heap.size w8) (Nat.le_refl w.heap.size) (tabC (fun _ => zOp)) 0
          have hrf : RF (w8.setCells w.heap.size 0 (tabC (fun _ => zOp))) c [] true := HRF8.out.under hBF HLC.out
          have hrd : Rd c w (w8.setCells w.heap.size 0 (tabC (fun _ => zOp))) := HFA8.out.rd.under hBF (Nat.le_refl _)
          exact bodyPost_ret (rt_result Try.results38 _ _ w.heap.size (fun _ => zOp) rfl hF) rfl ⟨fun h => (by rw [NOTOK.out] at h; cases h), fun _ => ⟨rfl, hrf, hrd⟩⟩
      case neg =>
        have hd : decide ((0 : Int) < (m : Int)) = false := decide_eq_false (by omega)
        have hd2 : decide (0 < m) = false := decide_eq_false hmz
        cases bd
        case false =>
          go_wp2_with fail
          clear c1
          have NOTOK : Hid (sOk ds = false) := Lib.hid (by rw [HOK.out, HNO.out, Bool.and_false])
          refine (fail_rf c _ _ wr HRF.out).mono ?_
          rintro e w8 ⟨rfl, hr8, ht8⟩
          have HRF8 := Lib.hid hr8
          have HFA8 := Lib.hid (HFA.out.turn ht8 HLC.out)
          clear hr8 ht8
          have HTZ : Hid (w8.there w.heap.size 0 Try.zeroCells62.size) := Lib.hid (by rw [z135]; exact HTH.out _ _ (fun _ => zOp) HFA8.out.z)
          have HIZ : Hid ((Try.prog.info? 62).map (·.size) = some Try.zeroCells62.size) := Lib.hid (by rw [z135, List.size_toArray]; exact HYI.out _)
          have HOZ : Hid (Try.zeroCells62.all (·.oneCell') = true) := Lib.hid (by rw [z135]; exact HONE.out _)
          go_wp2_with (refine wpList_store_mid (w := w8) rfl 62 (.tmp 2) (.tmp 60) rfl w.heap.size 0 Try.zeroCells62 rfl rfl HTZ.out HIZ.out HOZ.out ?_)
          rw [z135]
          have hF := HOV.out _ _ (fun _ => zOp) HFA8.out.z
          have hBF := below_setCells (B0 := w.heap.size) (Below.refl w.heap.size w8) (Nat.le_refl w.heap.size) (tabC (fun _ => zOp)) 0
          have hrf : RF (w8.setCells w.heap.size 0 (tabC (fun _ => zOp))) c [] true := HRF8.out.under hBF HLC.out
          have hrd : Rd c w (w8.setCells w.heap.size 0 (tabC (fun _ => zOp))) := HFA8.out.rd.under hBF (Nat.le_refl _)
          exact bodyPost_ret (rt_result Try.results38 _ _ w.heap.size (fun _ => zOp) rfl hF) rfl ⟨fun h => (by rw [NOTOK.out] at h; cases h), fun _ => ⟨rfl, hrf, hrd⟩⟩
        case true =>
          go_wp2_with fail
          clear c1
          have NOTOK : Hid (sOk ds = false) := Lib.hid (by rw [HOK.out, HNO.out, Bool.and_false])
          refine (fail_rf c _ _ wr HRF.out).mono ?_
          rintro e w8 ⟨rfl, hr8, ht8⟩
          have HRF8 := Lib.hid hr8
          have HFA8 := Lib.hid (HFA.out.turn ht8 HLC.out)
          clear hr8 ht8
          have HTZ : Hid (w8.there w.heap.size 0 Try.zeroCells62.size) := Lib.hid (by rw [z135]; exact HTH.out _ _ (fun _ => zOp) HFA8.out.z)
          have HIZ : Hid ((Try.prog.info? 62).map (·.size) = some Try.zeroCells62.size) := Lib.hid (by rw [z135, List.size_toArray]; exact HYI.out _)
          have HOZ : Hid (Try.zeroCells62.all (·.oneCell') = true) := Lib.hid (by rw [z135]; exact HONE.out _)
          go_wp2_with (refine wpList_store_mid (w := w8) rfl 62 (.tmp 2) (.tmp 60) rfl w.heap.size 0 Try.zeroCells62 rfl rfl HTZ.out HIZ.out HOZ.out ?_)
          rw [z135]
          have hF := HOV.out _ _ (fun _ => zOp) HFA8.out.z
          have hBF := below_setCells (B0 := w.heap.size) (Below.refl w.heap.size w8) (Nat.le_refl w.heap.size) (tabC (fun _ => zOp)) 0
          have hrf : RF (w8.setCells w.heap.size 0 (tabC (fun _ => zOp))) c [] true := HRF8.out.under hBF HLC.out
          have hrd : Rd c w (w8.setCells w.heap.size 0 (tabC (fun _ => zOp))) := HFA8.out.rd.under hBF (Nat.le_refl _)
          exact bodyPost_ret (rt_result Try.results38 _ _ w.heap.size (fun _ => zOp) rfl hF) rfl ⟨fun h => (by rw [NOTOK.out] at h; cases h), fun _ => ⟨rfl, hrf, hrd⟩⟩
    case true =>
      obtain ⟨es, hfg⟩ := HFG.out rfl
      have HFG' := Lib.hid hfg
      clear HFG HFB hfg
      have HFG := HFG'
      clear HFG'
      by_cases hlt : k < n
      case neg =>
        obtain rfl : k = n := by omega
        have hnn : k - k = 0 := Nat.sub_self k
        rw [hnn]
        have c1 := HFG.out.rf.bad_at
        cases b0
        case true =>
          go_wp2_with fail
          clear c1
          have HRF := Lib.hid HFG.out.rf
          have NOTOK : Hid (sOk ds = false) := Lib.hid (by rw [HOK.out]; rfl)
          refine (fail_rf c _ _ wr HRF.out).mono ?_
          rintro e w8 ⟨rfl, hr8, ht8⟩
          have HRF8 := Lib.hid hr8
          have HFA8 := Lib.hid (HFA.out.turn ht8 HLC.out)
          clear hr8 ht8
          have HTZ : Hid (w8.there w.heap.size 0 Try.zeroCells62.size) := Lib.hid (by rw [z135]; exact HTH.out _ _ (fun _ => zOp) HFA8.out.z)
          have HIZ : Hid ((Try.prog.info? 62).map (·.size) = some Try.zeroCells62.size) := Lib.hid (by rw [z135, List.size_toArray]; exact HYI.out _)
          have HOZ : Hid (Try.zeroCells62.all (·.oneCell') = true) := Lib.hid (by rw [z135]; exact HONE.out _)
          go_wp2_with (refine wpList_store_mid (w := w8) rfl 62 (.tmp 2) (.tmp 60) rfl w.heap.size 0 Try.zeroCells62 rfl rfl HTZ.out HIZ.out HOZ.out ?_)
          rw [z135]
          have hF := HOV.out _ _ (fun _ => zOp) HFA8.out.z
          have hBF := below_setCells (B0 := w.heap.size) (Below.refl w.heap.size w8) (Nat.le_refl w.heap.size) (tabC (fun _ => zOp)) 0
          have hrf : RF (w8.setCells w.heap.size 0 (tabC (fun _ => zOp))) c [] true := HRF8.out.under hBF HLC.out
          have hrd : Rd c w (w8.setCells w.heap.size 0 (tabC (fun _ => zOp))) := HFA8.out.rd.under hBF (Nat.le_refl _)
          exact bodyPost_ret (rt_result Try.results38 _ _ w.heap.size (fun _ => zOp) rfl hF) rfl ⟨fun h => (by rw [NOTOK.out] at h; cases h), fun _ => ⟨rfl, hrf, hrd⟩⟩
        case false =>
          have hsp := HFG.out.sp
          rw [hnn] at hsp
          have hOK : sOk ds = true := by rw [HOK.out, ← hsp.1]; rfl
          have hNX : sNx ds = es := by rw [HNX.out, ← hsp.2]; rfl
          have HOK2 := Lib.hid (And.intro hOK hNX)
          have HRX := Lib.hid HFA.out.rt
          have HZ := Lib.hid HFA.out.z
          clear hsp hOK hNX
          go_wp2_with (first
            | (refine wpList_load_mid (w := wr) rfl 62 (.tmp 4) rfl (w.heap.size + 1) 0 rfl (tabC X) _ HRX.out.1 rt_und rfl (HYI.out X) ?_)
            | (refine wpList_store_mid (w := wr) rfl 62 (.tmp 2) (.tmp 61) rfl w.heap.size 0 (tabC X).toArray rfl rfl (HTH.out _ _ X HZ.out) (by rw [List.size_toArray]; exact HYI.out X) (HONE.out X) ?_))
          have hF := HOV.out _ _ X HZ.out
          have hBF := below_setCells (B0 := w.heap.size) (Below.refl w.heap.size wr) (Nat.le_refl w.heap.size) (tabC X) 0
          have hrf : RF (wr.setCells w.heap.size 0 (tabC X)) c (sNx ds) false := by rw [HOK2.out.2]; exact HFG.out.rf.under hBF HLC.out
          have hrd : Rd c w (wr.setCells w.heap.size 0 (tabC X)) := HFA.out.rd.under hBF (Nat.le_refl _)
          have hre : RE (wr.setCells w.heap.size 0 (tabC X)) X := HFG.out.re.far (K := w.heap.size) HFA.out.ro hBF.size (fun k hk => setCells_block hk _ _ _) (by omega)
          have hds : ds = num 0 (cntTo X 8) ++ tabB X 8 ++ sNx ds := by
            rw [HOK2.out.2, tab_zero HFG.out.zr 8 HFG.out.b8, List.append_assoc, (HFG.out.by_ (by trivial)).1, HFG.out.cn]
            exact (HDE.out (by trivial)).1
          exact bodyPost_ret (rt_result Try.results38 _ _ w.heap.size X rfl hF) rfl ⟨fun _ => ⟨X, rfl, hre, fun i h1 h2 g o e => by have := HFA.out.ro i h1 h2 g o e; omega, hds, hrf, hrd⟩, fun h => (by rw [HOK2.out.1] at h; cases h)⟩
      case pos =>
        have hltz : (k : Int) < (n : Int) := by omega
        obtain rfl : b0 = false := by
          cases b0 with
          | false => rfl
          | true => have := (HBD.out rfl).1; omega
        obtain ⟨m, hm⟩ : ∃ m, n - (k + 1) = m := ⟨_, rfl⟩
        have hnk : n - k = m + 1 := by omega
        rw [hnk]
        have hd : decide ((0 : Int) < ((m + 1 : Nat) : Int)) = true := decide_eq_true (by omega)
        have hd2 : decide (0 < m + 1) = true := decide_eq_true (by omega)
        have hd3 : decide ((0 : Int) < (m : Int) + 1) = true := decide_eq_true (by omega)
        have hsw : IntKind.u64.wrap (((m + 1 : Nat) : Int) - 1) = (m : Int) := (IntWalk.u64_in _ ⟨by omega, by omega⟩).trans (by omega)
        have hsw2 : IntKind.u64.wrap ((m : Int) + 1 - 1) = (m : Int) := (IntWalk.u64_in _ ⟨by omega, by omega⟩).trans (by omega)
        have HSO : Hid (eOk bf es = false → tOk n 0 ds1 = false) := Lib.hid (fun h => by rw [← HFG.out.sp.1, hnk]; exact tOk_step h)
        have HST : Hid ((eOk bf es = true → tOk m (nN 8 es) (yRest (e2 es)) = tOk n 0 ds1) ∧ tNx m (yRest (e2 es)) = tNx n ds1) := Lib.hid (by
          have h := HFG.out.sp
          rw [hnk] at h
          refine ⟨fun he => ?_, h.2⟩
          have h1 : (eOk bf es && tOk m (nN 8 es) (eNx es)) = tOk n 0 ds1 := h.1
          rw [he, Bool.true_and] at h1
          exact h1)
        have HNA : Hid (∀ W bd, RF W c es bd → Calls Try.prog 64 #[.pointer (some ⟨c, 0, none⟩), .int .u64 8] W fun e w' => e = .returned (.int .u64 ((nN 8 es : Nat) : Int)) ∧ RF w' c (nR 8 es) (nB 8 es) ∧ Rd c W w') := Lib.hid (fun W bd h => num_rf1 c 8 _ bd W h)
        have HNC : Hid (∀ W bd, RF W c (nR 8 es) bd → Calls Try.prog 64 #[.pointer (some ⟨c, 0, none⟩), .int .u64 18446744073709551615] W fun e w' => e = .returned (.int .u64 ((eRq es : Nat) : Int)) ∧ RF w' c (e2 es) (nB 18446744073709551615 (nR 8 es)) ∧ Rd c W w') := Lib.hid (fun W bd h => num_rf1 c 18446744073709551615 _ bd W h)
        have HRD19 : Hid (∀ W bd, RF W c (e2 es) bd → Calls Try.prog 25 #[.pointer (some ⟨c, 0, none⟩)] W (ReadF c (e2 es) W)) := Lib.hid (fun W bd h => rread19 c (e2 es) bd W h)
        have hcl8 := nN_le 8 es
        have hrqm : eRq es ≤ 18446744073709551615 := nN_le _ _
        clear hm
        go_wp2_with fail
        refine (HNA.out wr _ HFG.out.rf).mono ?_
        rintro e w2 ⟨rfl, hr2, ht2⟩
        have HRR2 := Lib.hid hr2
        have HT2 := Lib.hid ht2
        clear hr2 ht2 HNA
        go_wp2_with fail
        refine (HNC.out w2 _ HRR2.out).mono ?_
        rintro e w3 ⟨rfl, hr3, ht3⟩
        have HRR3 := Lib.hid hr3
        have HT3 := Lib.hid (HT2.out.trans ht3)
        clear hr3 ht3 HNC HT2 HRR2
        go_wp2_with fail
        refine (HRD19.out w3 _ HRR3.out).mono ?_
        rintro e w4 hread
        cases hyo : yOk (e2 es) with
        | false =>
          obtain ⟨rfl, hr4, ht4⟩ := hread.2 hyo
          have HT4 := Lib.hid (HT3.out.trans ht4)
          have HNO : Hid (tOk n 0 ds1 = false) := Lib.hid (HSO.out (by unfold eOk; rw [hyo]; rfl))
          have Bx := (box1 w4 #[.int .i64 0, .int .i64 0, .int .u64 0, .int .i64 0, .int .i64 0, .int .i64 0, .int .u64 0, .int .i64 0, .int .i64 0, .int .i64 0, .int .i64 0, .slice none 0 0, .int .u64 0, .int .i64 0] 28).1
          have HRR5 := Lib.hid (hr4.kept Bx)
          have HFA5 := Lib.hid ((HFA.out.turn HT4.out HLC.out).kept Bx)
          clear hread hr4 ht4 Bx HRR3 HT3
          unfold zV
          go_wp2_with fail
          go_roundg m
          case measure => omega
          case rel => exact ⟨k + 1, bf, false, X, rfl, rfl, by rw [show n - (k + 1) = m by omega]; first | done | rfl | (rw [hsw]) | (rw [hsw2]), by omega, by omega, HFA5, Lib.hid (fun h => by cases h), Lib.hid (fun _ => ⟨HNO.out, _, _, HRR5.out⟩)⟩
        | true =>
          obtain ⟨a5, c5, rfl, ho4, hr4, ht4⟩ := hread.1 hyo
          have HT4 := Lib.hid (HT3.out.trans ht4)
          have HSN : Hid (Snd (eX es a5 c5)) := Lib.hid (e_snd hyo a5 c5)
          have HEB : Hid (0 < eRq es → es = entB (nN 8 es) (eX es a5 c5) ++ eNx es ∧ ∀ c ∈ eNx es, c < 256) := Lib.hid (fun h => e_bytes hyo h (HFG.out.by_ (by trivial)).2 a5 c5)
          have HEO : Hid (bf < nN 8 es → 0 < eRq es → eOk bf es = true) := Lib.hid (fun h1 h2 => eOk_iff hyo h1 h2)
          have HEN : Hid ((bf < nN 8 es → eRq es = 0 → eOk bf es = false) ∧ (¬ bf < nN 8 es → eOk bf es = false)) := Lib.hid ⟨fun h1 h2 => by unfold eOk; rw [h2]; simp, fun h => by unfold eOk; simp [h]⟩
          have HUS : Hid (∀ s ∈ yXs (e2 es), s < 18446744073709551616) := Lib.hid (yXs_lt (e2 es))
          have HFA4 := Lib.hid (HFA.out.turn HT4.out HLC.out)
          have HRE4 : Hid (RE w4 X) := Lib.hid (HFG.out.re.rd HFA.out.ro HT4.out (by have := HLC.out; omega))
          have HRF4 := Lib.hid hr4
          have HOU4 := Lib.hid ho4
          have HZ3 : Hid (w.heap.size + 2 ≤ w3.heap.size) := Lib.hid (by have h1 := HFA.out.rt.lt; have h2 := HT3.out.size; omega)
          have HBY := Lib.hid (HFG.out.by_ (by trivial)).1
          have HZR := Lib.hid HFG.out.zr
          have HCN := Lib.hid HFG.out.cn
          clear hread hr4 ht4 ho4 HT4 HRR3 HT3 HFA HFG HRD19
          have hX : ∃ (cd tm id cn st lv ge fr lf du tl nt de : Int) (L : Nat) (xs : List Nat), (∀ a ca, yV (e2 es) a ca = repV cd tm id cn st lv ge fr lf du tl a L ca nt de) ∧ (yXs (e2 es)).length = L ∧ yXs (e2 es) = xs ∧ ∀ a ca, eX es a ca = Opn.mk 0 ((nN 8 es : Nat) : Int) ((eRq es : Nat) : Int) cd tm id cn st lv ge fr lf du tl a L ca nt de xs := ⟨_, _, _, _, _, _, _, _, _, _, _, _, _, _, _, fun _ _ => rfl, rfl, rfl, fun _ _ => rfl⟩
          obtain ⟨cd, tm, id, cn, st, lv, ge, fr, lf, du, tl, nt, de, L, xs, hv, hL, hxs, hex⟩ := hX
          rw [hv a5 c5]
          rw [hL, hxs] at HOU4
          rw [hxs] at HUS hL
          rw [hex a5 c5] at HSN HEB
          obtain ⟨cl, hcl⟩ : ∃ x, nN 8 es = x := ⟨_, rfl⟩
          obtain ⟨rq, hrq⟩ : ∃ x, eRq es = x := ⟨_, rfl⟩
          rw [hcl] at HSN HEB HEO HEN hcl8 HST ⊢
          rw [hrq] at HSN HEB HEO HEN hrqm ⊢
          clear hv hL hxs hex hcl hrq
          obtain ⟨Bx, sx, zx⟩ := box1 w4 #[.int .i64 cd, .int .i64 tm, .int .u64 id, .int .i64 cn, .int .i64 st, .int .i64 lv, .int .u64 ge, .int .i64 fr, .int .i64 lf, .int .i64 du, .int .i64 tl, .slice a5 L c5, .int .u64 nt, .int .i64 de] 28
          have HFA5 := Lib.hid (HFA4.out.kept Bx)
          have HRE5 := Lib.hid (HRE4.out.kept Bx)
          have HRF5 := Lib.hid (HRF4.out.kept Bx)
          have HOU5 := Lib.hid (HOU4.out.kept Bx)
          obtain ⟨g, hg⟩ : ∃ g, w4.heap.size = g := ⟨_, rfl⟩
          have HG : Hid (w.heap.size + 2 ≤ g) := Lib.hid (by have h1 := HFA4.out.rt.lt; have h2 := HFA4.out.rd; rw [← hg]; have h3 := HZ3.out; have h4 : w.heap.size + 1 < w4.heap.size := h1; omega)
          rw [hg] at sx
          have HBX := Lib.hid sx
          clear Bx sx zx HFA4 HRE4 HRF4 HOU4
          unfold repV
          by_cases hgood : bf < cl ∧ 0 < rq
          case neg =>
            have HNO : Hid (tOk n 0 ds1 = false) := Lib.hid (HSO.out (by
              by_cases h1 : bf < cl
              · exact HEN.out.1 h1 (by omega)
              · exact HEN.out.2 h1))
            by_cases hbf : bf < cl
            case pos =>
              have d1 : decide ((bf : Int) < (cl : Int)) = true := decide_eq_true (by omega)
              have d2 : decide (bf < cl) = true := decide_eq_true hbf
              obtain rfl : rq = 0 := by omega
              go_wp2_with fail
              go_roundg m
              case measure => omega
              case rel => exact ⟨k + 1, bf, false, X, rfl, rfl, by rw [show n - (k + 1) = m by omega]; first | done | rfl | (rw [hsw]) | (rw [hsw2]), by omega, by omega, HFA5, Lib.hid (fun h => by cases h), Lib.hid (fun _ => ⟨HNO.out, _, _, HRF5.out⟩)⟩
            case neg =>
              have d1 : decide ((bf : Int) < (cl : Int)) = false := decide_eq_false (by omega)
              have d2 : decide (bf < cl) = false := decide_eq_false hbf
              go_wp2_with fail
              go_roundg m
              case measure => omega
              case rel => exact ⟨k + 1, bf, false, X, rfl, rfl, by rw [show n - (k + 1) = m by omega]; first | done | rfl | (rw [hsw]) | (rw [hsw2]), by omega, by omega, HFA5, Lib.hid (fun h => by cases h), Lib.hid (fun _ => ⟨HNO.out, _, _, HRF5.out⟩)⟩
          case pos =>
            obtain ⟨hbf, h0⟩ := hgood
            have d1 : decide ((bf : Int) < (cl : Int)) = true := decide_eq_true (by omega)
            have d2 : decide (bf < cl) = true := decide_eq_true hbf
            have d3 : decide ((0 : Int) < (rq : Int)) = true := decide_eq_true (by omega)
            have d4 : decide (0 < rq) = true := decide_eq_true h0
            have i0 : (0 : Int) ≤ (cl : Int) := by omega
            have i9 : (cl : Int) < 9 := by omega
            have hus := (HOU5.out.us HUS.out).2
            have HUS5 := Lib.hid hus
            have HGE : Hid (∀ g' o, a5 = some ⟨g', o, none⟩ → w.heap.size + 2 ≤ g') := Lib.hid (fun g' o e => by have h1 := ou_ge HOU5.out g' o e; have := HZ3.out; omega)
            have HEOK := Lib.hid (HEO.out hbf h0)
            obtain ⟨W5, hW5⟩ : ∃ W, w4.alloc (.cells #[.int .i64 cd, .int .i64 tm, .int .u64 id, .int .i64 cn, .int .i64 st, .int .i64 lv, .int .u64 ge, .int .i64 fr, .int .i64 lf, .int .i64 du, .int .i64 tl, .slice a5 L c5, .int .u64 nt, .int .i64 de] 28) = W := ⟨_, rfl⟩
            rw [hW5] at HFA5 HRE5 HRF5 HOU5 HBX HUS5
            have f0 := HFA5.out.rt.fr cl (by omega)
            have c0 := HFA5.out.rt.req cl (by omega)
            have hR2 := HFA5.out.rt.setreq cl (by omega) (rq : Int)
            have hR3 := hR2.setrep cl (by omega) (Opn.mk 0 (cl : Int) (rq : Int) cd tm id cn st lv ge fr lf du tl a5 L c5 nt de xs) (by rw [upX_same])
            rw [upX_upX] at hR3
            have HR3 := Lib.hid hR3
            have HT2 : Hid ((W5.setCell ⟨w.heap.size + 1, cl, none⟩ (.int .u64 (rq : Int))).there (w.heap.size + 1) (9 + cl * 14) (Opn.mk 0 (cl : Int) (rq : Int) cd tm id cn st lv ge fr lf du tl a5 L c5 nt de xs).rc.toArray.size) := Lib.hid (fun j hj => by
              have hj' : j < 14 := by simpa [rc_len] using hj
              have := hR2.2 (9 + cl * 14 + j) (by omega)
              rwa [Nat.zero_add] at this)
            have HONE2 : Hid ((Opn.mk 0 (cl : Int) (rq : Int) cd tm id cn st lv ge fr lf du tl a5 L c5 nt de xs).rc.toArray.all (·.oneCell') = true) := Lib.hid (all_oneCell_toArray (rc_one (Opn.mk 0 (cl : Int) (rq : Int) cd tm id cn st lv ge fr lf du tl a5 L c5 nt de xs)))
            have HZ5 : Hid (RT ((W5.setCell ⟨w.heap.size + 1, cl, none⟩ (.int .u64 (rq : Int))).setCells (w.heap.size + 1) (9 + cl * 14) (Opn.mk 0 (cl : Int) (rq : Int) cd tm id cn st lv ge fr lf du tl a5 L c5 nt de xs).rc) w.heap.size (fun _ => zOp)) := Lib.hid ((rt_far1 HFA5.out.z (by omega)).far (by omega) _ _)
            have hE1 : ∀ j, j ≠ w.heap.size + 1 → ((W5.setCell ⟨w.heap.size + 1, cl, none⟩ (.int .u64 (rq : Int))).setCells (w.heap.size + 1) (9 + cl * 14) (Opn.mk 0 (cl : Int) (rq : Int) cd tm id cn st lv ge fr lf du tl a5 L c5 nt de xs).rc).heap[j]? = W5.heap[j]? := fun j hj => (setCells_block hj _ _ _).trans (Below.heap_setCell _ _ _ _ hj)
            have HE1 := Lib.hid hE1
            have HS1 : Hid (W5.heap.size ≤ ((W5.setCell ⟨w.heap.size + 1, cl, none⟩ (.int .u64 (rq : Int))).setCells (w.heap.size + 1) (9 + cl * 14) (Opn.mk 0 (cl : Int) (rq : Int) cd tm id cn st lv ge fr lf du tl a5 L c5 nt de xs).rc).heap.size) := Lib.hid (by rw [setCells_size]; simp)
            have HBW : Hid (Below w.heap.size W5 ((W5.setCell ⟨w.heap.size + 1, cl, none⟩ (.int .u64 (rq : Int))).setCells (w.heap.size + 1) (9 + cl * 14) (Opn.mk 0 (cl : Int) (rq : Int) cd tm id cn st lv ge fr lf du tl a5 L c5 nt de xs).rc)) := Lib.hid (below_setCells ((Below.refl w.heap.size W5).setCell (p := ⟨w.heap.size + 1, cl, none⟩) (Nat.le_succ _) _) (Nat.le_succ _) _ _)
            have hs2 : (W5.setCell ⟨w.heap.size + 1, cl, none⟩ (.int .u64 (rq : Int))).heap[g]? = some (.cells #[.int .i64 cd, .int .i64 tm, .int .u64 id, .int .i64 cn, .int .i64 st, .int .i64 lv, .int .u64 ge, .int .i64 fr, .int .i64 lf, .int .i64 du, .int .i64 tl, .slice a5 L c5, .int .u64 nt, .int .i64 de] 28 (0, 0)) := (Below.heap_setCell _ _ _ _ (by show g ≠ w.heap.size + 1; have := HG.out; omega)).trans HBX.out
            obtain ⟨p0, p1, p2, p3, p4, p5, p6, p7, p8, p9, p10, p11, p12, p13⟩ := rep_at hs2
            clear hR2 hR3 hE1 hs2 hus
            go_wp2_with (first
              | (refine wpList_store_mid rfl 28 (.tmp 48) (.tmp 46) rfl (w.heap.size + 1) (9 + cl * 14) (Opn.mk 0 (cl : Int) (rq : Int) cd tm id cn st lv ge fr lf du tl a5 L c5 nt de xs).rc.toArray rfl rfl HT2.out HI28.out HONE2.out ?_; rw [List.toList_toArray]; generalize (W5.setCell ⟨w.heap.size + 1, cl, none⟩ (.int .u64 (rq : Int))).setCells (w.heap.size + 1) (9 + cl * 14) (Opn.mk 0 (cl : Int) (rq : Int) cd tm id cn st lv ge fr lf du tl a5 L c5 nt de xs).rc = W6 at HR3 HZ5 HE1 HS1 HBW ⊢))
            have hen : HRE5.out = HRE5.out := rfl
            have hro : RowsF (w.heap.size + 2) (upX X cl (Opn.mk 0 (cl : Int) (rq : Int) cd tm id cn st lv ge fr lf du tl a5 L c5 nt de xs)) := HFA5.out.ro.add _ HGE.out
            have HFA6 : Hid (FAll w c (upX X cl (Opn.mk 0 (cl : Int) (rq : Int) cd tm id cn st lv ge fr lf du tl a5 L c5 nt de xs)) W6) := Lib.hid ⟨HR3.out, HZ5.out, hro, HFA5.out.rd.under HBW.out (Nat.le_refl _)⟩
            have hre : RE W5 (upX X cl (Opn.mk 0 (cl : Int) (rq : Int) cd tm id cn st lv ge fr lf du tl a5 L c5 nt de xs)) := HRE5.out.add (Opn.mk 0 (cl : Int) (rq : Int) cd tm id cn st lv ge fr lf du tl a5 L c5 nt de xs) ⟨by show (0 : Int) < (rq : Int); omega, by show (rq : Int) < 18446744073709551616; omega⟩ HSN.out HUS5.out
            have hcu := cnt_up X cl (Opn.mk 0 (cl : Int) (rq : Int) cd tm id cn st lv ge fr lf du tl a5 L c5 nt de xs) ⟨by omega, by omega⟩
            rw [HZR.out cl hbf, if_neg (by omega), if_pos (show (0 : Int) < (rq : Int) by omega)] at hcu
            have HFG6 : Hid (FGood w c n (k + 1) cl ds1 false (yRest (e2 es)) (upX X cl (Opn.mk 0 (cl : Int) (rq : Int) cd tm id cn st lv ge fr lf du tl a5 L c5 nt de xs)) W6) := Lib.hid ⟨by
                have e : n - (k + 1) = m := by omega
                rw [e]
                exact ⟨HST.out.1 HEOK.out, HST.out.2⟩, fun _ => by
                obtain ⟨k1, k2⟩ := HEB.out h0
                refine ⟨?_, k2⟩
                rw [tab_up HZR.out hbf, List.append_assoc]
                have k1' : entB cl (Opn.mk 0 (cl : Int) (rq : Int) cd tm id cn st lv ge fr lf du tl a5 L c5 nt de xs) ++ yRest (e2 es) = es := k1.symm
                rw [k1']
                exact HBY.out, fun h => (by cases h), up_zero HZR.out hbf _, hcl8, by have := HCN.out; omega, hre.far hro HS1.out HE1.out (by omega), HRF5.out.under HBW.out HLC.out⟩
            clear hen hro hre hcu
            go_wp2_with fail
            go_roundg m
            case measure => omega
            case rel => exact ⟨k + 1, cl, true, _, rfl, rfl, by rw [show n - (k + 1) = m by omega]; first | done | rfl | (rw [hsw]) | (rw [hsw2]), by omega, by omega, HFA6, Lib.hid (fun _ => ⟨_, HFG6.out⟩), Lib.hid (fun h => by cases h)⟩
/- Session: any bytes are read as the reference's table, or as none (the walk of the law). -/
open Go.RowKit Go.Maps
theorem wpAnyH_moreZ {P : Program} {md : Region.Mode} {ops : Array Oper} {Q : Exit → Act → World → Prop} {S S' : World → Prop} (h : ∀ w, S' w → S w) : ∀ (fuel : Nat) (listed : Array Bool) (a : Act) (w : World), wpAnyH P md ops Q S' fuel listed a w → wpAnyH P md ops Q S fuel listed a w
  | 0, _, _, _, k => k
  | fuel + 1, _, _, _, k => ⟨k.1, fun i hi => wpOp_mono (fun _ _ h' => ⟨h _ h'.1, wpAnyH_moreZ h fuel _ _ _ h'.2⟩) (k.2 i hi)⟩
theorem yields_strZ {S' : World → Prop} {v : Value} {bs : List Nat} (hS : ∀ W, S' W → RB W v bs) (ops : Array Oper) (op : Oper) (a : Act) (hw : Region.wanted op (yielded ops a.tmps) = true) (x : Operand) (ho : op.op = .convert 35 9 x) (hx : a.eval x = v) : YieldsIf Try.prog ops S' op (.string (str bs)) a := by
  refine .inl ⟨hw, fun w hw' => ?_⟩
  have h := rb_string (P := Try.prog) (hS w hw') 35 9 5 Try.underlying35 Try.underlying5 Try.underlying9
  unfold execOp
  simp only [ho, hx]
  go_simp
theorem RB.upto {w : World} {a : Option Addr} {n cap : Nat} {bs : List Nat} (h : RB w (.slice a n cap) bs) (m : Nat) (hm : m ≤ bs.length) : RB w (.slice a m cap) (bs.take m) := by
  rcases Nat.lt_or_ge m bs.length with h1 | h1
  · obtain ⟨b, off, cap', e, _⟩ := h.at (by omega)
    simp only [Value.slice.injEq] at e
    obtain ⟨rfl, rfl, rfl⟩ := e
    exact h.take m h1 _ _ _ rfl
  · have e : m = bs.length := by omega
    subst e
    rw [List.take_length]
    obtain ⟨a', cap', e, _⟩ := h.shape
    simp only [Value.slice.injEq] at e
    obtain ⟨rfl, rfl, rfl⟩ := e
    exact h
theorem RF.at0 {w : World} {c : Nat} {es : List Nat} {bad : Bool} (h : RF w c es bad) : ∃ va vc, w.cell? ⟨c, 0, none⟩ = some (.slice va es.length vc) ∧ w.cell? ⟨c, 1, none⟩ = some (.bool bad) := by
  obtain ⟨v, h1, h2, -, -⟩ := h
  obtain ⟨va, vc, rfl⟩ := h2.shapeN' (rfl : es.length = es.length)
  exact ⟨va, vc, (two_cells h1).1, (two_cells h1).2.1⟩
set_option maxRecDepth 100000 in
set_option maxHeartbeats 8000000 in
theorem sreads_big (a : Option Addr) (n cap : Nat) (w : World) (hn : 3000 < n) :
    Calls Try.prog 8 #[.slice a n cap] w fun e w' => e = .returned (.bool true) ∧ Below w.heap.size w w' := by
  have d1 : decide (3000 < (n : Int)) = true := decide_eq_true (by omega)
  go_enter Try.func8, Try.ntmps8
  go_wp2_with (go_at_call 28; refine (lives20 _).mono ?_; rintro e w1 ⟨rfl, hb⟩; have HB1 := Lib.hid hb; clear hb)
  go_ret
  exact ⟨rfl, HB1.out⟩
theorem Rt.rdx {Av : Nat} {W W' : World} {T mb c : Nat} {M : Lit → Option Value} {X : Nat → Opn} (h : Rt Av W T mb c M X) (ht : Rd Av W W') (hT : Av < T) (hmb : Av < mb) : Rt Av W' T mb c M X := h.rd ht (by omega) (by omega)
/-- The bytes of a table lie within the bytes that were read. -/
theorem sNx_len {ds : List Nat} {c : Nat} {X : Nat → Opn} (h : ds = num 0 c ++ tabB X 8 ++ sNx ds) : (sNx ds).length ≤ ds.length ∧ ds.take (ds.length - (sNx ds).length) = num 0 c ++ tabB X 8 := by
  have hl := congrArg List.length h
  rw [List.length_append] at hl
  refine ⟨by omega, ?_⟩
  generalize sNx ds = R at h hl
  generalize num 0 c ++ tabB X 8 = P at h hl
  subst h
  rw [show (P ++ R).length - R.length = P.length by rw [List.length_append]; omega]
  simp
set_option maxRecDepth 100000 in
set_option maxHeartbeats 8000000 in
theorem sreads_walk0 (a : Option Addr) (n cap : Nat) (bs : List Nat) (w : World) (hrb : RB w (.slice a n cap) bs) (hln : bs.length = n) (hown : ∀ k, w.heap.size ≤ k → (Value.slice a n cap).ownBlock ≠ some k) (hn : n ≤ 3000) :
    Calls Try.prog 8 #[.slice a n cap] w fun e w' => e = .returned (.bool true) ∧ Below w.heap.size w w' := by
  have HLN : Hid (bs.length ≤ 3000) := Lib.hid (by omega)
  have HBL := Lib.hid hln
  have HLT := Lib.hid hrb.1
  have HRB0 : Hid (∀ W', Below w.heap.size w W' → RB W' (.slice a n cap) bs) := Lib.hid (fun W' h => hrb.kept h)
  have HOWN := Lib.hid hown
  have HYI : Hid (∀ V, (Try.prog.info? 62).map (·.size) = some (tabC V).length) := Lib.hid (fun V => by rw [rt_info, tabC_len])
  have d1 : decide (3000 < (n : Int)) = false := decide_eq_false (by omega)
  clear hrb hown hn hln
  go_enter Try.func8, Try.ntmps8
  go_wp2_with fail
  refine (open_any (.slice a n cap) bs w (HRB0.out _ (Below.refl _ _)) (by have := HLN.out; omega)).mono ?_
  rintro e W1 ⟨rb, rfl, hle, hrr, hb1⟩
  have HB1 := Lib.hid hb1
  have HRR1 := Lib.hid hrr
  have HRLT : Hid (rb < W1.heap.size ∧ w.heap.size ≤ rb) := Lib.hid ⟨hrr.lt, hle⟩
  clear hle hrr hb1
  go_wp2_with fail
  obtain ⟨bx, bn, bz⟩ := box1 W1 #[.slice a n cap, .bool false] 52
  have HB2 := Lib.hid (HB1.out.trans (bx.mono HB1.out.size))
  have HRR2 := Lib.hid (HRR1.out.kept bx)
  obtain ⟨c, hce⟩ : ∃ c, W1.heap.size = c := ⟨_, rfl⟩
  have HNE : Hid (rb ≠ c ∧ c < (W1.alloc (.cells #[.slice a n cap, .bool false] 52)).heap.size ∧ w.heap.size ≤ c ∧ w.heap.size ≤ rb) := Lib.hid ⟨by have := HRLT.out.1; omega, by rw [bz]; omega, by rw [← hce]; exact HB1.out.size, HRLT.out.2⟩
  have HFA : Hid (Far c (.slice a n cap)) := Lib.hid (fun k hk => by
    have h1 := HOWN.out k
    have h2 := HNE.out.2.2.1
    rcases Nat.lt_or_ge k w.heap.size with h | h
    · omega
    · exact absurd hk (h1 h))
  have HRF2 : Hid (RF (W1.alloc (.cells #[.slice a n cap, .bool false] 52)) c bs false) := Lib.hid ⟨.slice a n cap, by rw [← hce]; exact bn, HRB0.out _ HB2.out, HFA.out, fun h => (by cases h)⟩
  clear bx bn bz HRR1 HB1 HRLT
  try rw [hce]
  generalize W1.alloc (.cells #[.slice a n cap, .bool false] 52) = V1 at HB2 HRR2 HRF2 HNE ⊢
  clear hce
  refine (sread c rb bs V1 HRR2.out HLT.out HNE.out.2.1).mono ?_
  rintro e W2 hread
  obtain ⟨ok, hok⟩ : ∃ x, sOk bs = x := ⟨_, rfl⟩
  obtain ⟨p, T, mb, cn, M, X, rfl, hp, hT, hds, hr2, ht2⟩ : ∃ (p : Value) (T mb cn : Nat) (M : Lit → Option Value) (X : Nat → Opn), e = .returned (.tuple #[p, .bool ok]) ∧ (ok = false → p = .pointer none) ∧ (ok = true → p = .pointer (some ⟨T, 0, none⟩) ∧ V1.heap.size ≤ T ∧ V1.heap.size ≤ mb ∧ Rt c W2 T mb cn M X) ∧ (ok = true → bs = num 0 cn ++ tabB X 8 ++ sNx bs) ∧ RR W2 rb (if ok = true then sNx bs else []) (!ok) ∧ Rd rb V1 W2 := by
    cases ok with
    | true =>
      obtain ⟨T, mb, cn, M, X, h1, h2, h3, h4, h5, h6, h7⟩ := hread.1 hok
      exact ⟨_, T, mb, cn, M, X, h1, fun h => (by cases h), fun _ => ⟨rfl, h2, h3, h4⟩, fun _ => h5, h6, h7⟩
    | false =>
      obtain ⟨h1, h2, h3⟩ := hread.2 hok
      exact ⟨_, 0, 0, 0, fun _ => none, fun _ => zOp, h1, fun _ => rfl, fun h => (by cases h), fun h => (by cases h), h2, h3⟩
  clear hread
  obtain ⟨R, hR⟩ : ∃ R, (if ok = true then sNx bs else []) = R := ⟨_, rfl⟩
  rw [hR] at hr2
  have HRQ := Lib.hid hR
  have HPQ := Lib.hid hp
  have HTQ := Lib.hid hT
  have HDS := Lib.hid hds
  have HOKE := Lib.hid hok
  have HB3 := Lib.hid (ht2.outside HB2.out HB2.out.size HNE.out.2.2.2)
  have HRR3 := Lib.hid hr2
  have HRF3 := Lib.hid (HRF2.out.besides HRR2.out ht2 (fun h => HNE.out.1 h.symm))
  have HSZ3 : Hid (V1.heap.size ≤ W2.heap.size) := Lib.hid ht2.size
  clear hp hT hds hr2 ht2 HRR2 HRF2 HB2 hR hok
  go_wp2_with fail
  refine (rsread c bs W2 HRF3.out HLT.out).mono ?_
  rintro e W3 hread
  obtain ⟨X', rfl, hX', hds', hr3, ht3⟩ : ∃ (X' : Nat → Opn), e = .returned (.tuple #[rtV X', .bool ok]) ∧ (ok = true → RE W3 X' ∧ RowsF W2.heap.size X') ∧ (ok = true → bs = num 0 (cntTo X' 8) ++ tabB X' 8 ++ sNx bs) ∧ RF W3 c R (!ok) ∧ Rd c W2 W3 := by
    have hR := HRQ.out
    cases ok with
    | true =>
      obtain ⟨X', h1, h2, h3, h4, h5, h6⟩ := hread.1 HOKE.out
      rw [if_pos rfl] at hR
      subst hR
      exact ⟨X', h1, fun _ => ⟨h2, h3⟩, fun _ => h4, h5, h6⟩
    | false =>
      obtain ⟨h1, h2, h3⟩ := hread.2 HOKE.out
      rw [if_neg (by decide)] at hR
      subst hR
      exact ⟨_, h1, fun h => (by cases h), fun h => (by cases h), h2, h3⟩
  have HXQ := Lib.hid hX'
  have HDS2 := Lib.hid hds'
  have HB5 := Lib.hid (ht3.outside HB3.out HB3.out.size HNE.out.2.2.1)
  have HRF5 := Lib.hid hr3
  have HRR5 := Lib.hid (HRR3.out.besides HRF3.out ht3 HNE.out.1)
  have HRT5 : Hid (ok = true → Rt c W3 T mb cn M X) := Lib.hid (fun h => by
    obtain ⟨k1, k2, k3, k4⟩ := HTQ.out h
    have := HNE.out.2.1
    exact k4.rdx ht3 (by omega) (by omega))
  clear hread hX' hds' hr3 ht3 HRR3 HRF3 HB3
  have HONE : Hid (∀ V, (tabC V).toArray.all (·.oneCell') = true) := Lib.hid (fun V => all_oneCell_toArray (tabC_one V))
  have hZ : RT (W3.alloc (.cells Try.zeroCells62 62)) W3.heap.size (fun _ => zOp) := by
    have h := RT.made W3 (fun _ => zOp) 62
    rwa [← z135] at h
  have Bx : Below W3.heap.size W3 ((W3.alloc (.cells Try.zeroCells62 62)).setCells W3.heap.size 0 (tabC X')) := below_setCells ((Below.refl W3.heap.size W3).alloc (Nat.le_refl _) (.cells Try.zeroCells62 62)) (Nat.le_refl W3.heap.size) (tabC X') 0
  have hRT : RT ((W3.alloc (.cells Try.zeroCells62 62)).setCells W3.heap.size 0 (tabC X')) W3.heap.size X' := hZ.over X'
  obtain ⟨V3, hV⟩ : ∃ V, ((W3.alloc (.cells Try.zeroCells62 62)).setCells W3.heap.size 0 (tabC X')) = V := ⟨_, rfl⟩
  rw [hV] at Bx hRT
  have HTZ : Hid ((W3.alloc (.cells Try.zeroCells62 62)).there W3.heap.size 0 (tabC X').toArray.size) := Lib.hid (by rw [show (tabC X').toArray.size = 135 from (by rw [List.size_toArray, tabC_len])]; exact hZ.2)
  obtain ⟨va, vc, c0, c1⟩ := (HRF5.out.kept Bx).at0
  have hkeep : ((fun W : World => RT W W3.heap.size X' ∧ (ok = true → Rt c W T mb cn M X ∧ RE W X') ∧ Below w.heap.size w W)) V3 := ⟨hRT, fun h => ⟨(HRT5.out h).kept Bx, (HXQ.out h).1.kept Bx⟩, HB5.out.trans (Bx.mono HB5.out.size)⟩
  have HS0 := Lib.hid (show (fun W => RR W rb R (!ok) ∧ W.cell? ⟨c, 0, none⟩ = some (.slice va R.length vc) ∧ W.cell? ⟨c, 1, none⟩ = some (.bool (!ok)) ∧ (fun W : World => RT W W3.heap.size X' ∧ (ok = true → Rt c W T mb cn M X ∧ RE W X') ∧ Below w.heap.size w W) W) V3 from ⟨HRR5.out.kept Bx, c0, c1, hkeep⟩)
  have HVE := Lib.hid hV
  obtain ⟨T12, hTe⟩ : ∃ c, W3.heap.size = c := ⟨_, rfl⟩
  rw [hTe] at HS0
  have HTE := Lib.hid hTe
  clear Bx hRT hZ HRR5 HRF5 HB5 HRT5 HXQ c0 c1 hkeep hV hTe
  unfold rtV
  go_wp2_with (refine wpList_store_mid (w := W3.alloc (.cells Try.zeroCells62 62)) rfl 62 (.tmp 7) (.tmp 26) rfl W3.heap.size 0 (tabC X').toArray rfl rfl HTZ.out (by rw [List.size_toArray]; exact HYI.out X') (HONE.out X') ?_; rw [List.toList_toArray]; rw [HVE.out]; rw [HTE.out])
  clear HTZ HTE HVE
  obtain ⟨rl, hrl⟩ : ∃ x, R.length = x := ⟨_, rfl⟩
  rw [hrl] at HS0
  have HRE := Lib.hid hrl
  clear hrl
  cases ok
  case false =>
    obtain rfl := HPQ.out rfl
    have HS0' : Hid ((fun W => RR W rb R (!false) ∧ W.cell? ⟨c, 0, none⟩ = some (.slice va rl vc) ∧ W.cell? ⟨c, 1, none⟩ = some (.bool (!false)) ∧ (fun W : World => RT W T12 X' ∧ Below w.heap.size w W) W) V3) := Lib.hid ⟨HS0.out.1, HS0.out.2.1, HS0.out.2.2.1, HS0.out.2.2.2.1, HS0.out.2.2.2.2.2⟩
    clear HS0
    have HS0 := HS0'
    clear HS0'
    have HKK : Hid (∀ W, (fun W : World => RT W T12 X' ∧ Below w.heap.size w W) W → ∀ W', Below W.heap.size W W' → (fun W : World => RT W T12 X' ∧ Below w.heap.size w W) W') := Lib.hid (fun W ⟨k1, k3⟩ W' hb => ⟨k1.kept hb, k3.trans (hb.mono k3.size)⟩)
    have HSD : Hid (∀ W, (fun W => RR W rb R (!false) ∧ W.cell? ⟨c, 0, none⟩ = some (.slice va rl vc) ∧ W.cell? ⟨c, 1, none⟩ = some (.bool (!false)) ∧ (fun W : World => RT W T12 X' ∧ Below w.heap.size w W) W) W → ∀ W', Below W.heap.size W W' → (fun W => RR W rb R (!false) ∧ W.cell? ⟨c, 0, none⟩ = some (.slice va rl vc) ∧ W.cell? ⟨c, 1, none⟩ = some (.bool (!false)) ∧ (fun W : World => RT W T12 X' ∧ Below w.heap.size w W) W) W') := Lib.hid (fun W ⟨k1, k2, k3, k4⟩ W' hb => ⟨k1.kept hb, (hb.cell (p := ⟨c, 0, none⟩) (cell_spot k2).2).trans k2, (hb.cell (p := ⟨c, 1, none⟩) (cell_spot k3).2).trans k3, HKK.out W k4 W' hb⟩)
    have HS0' := Lib.hid (HSD.out _ HS0.out V3.drew (Below.refl _ _).drew)
    clear HS0
    have HS0 := HS0'
    clear HS0'
    refine wp_region_held_drew (S := fun W => RR W rb R (!false) ∧ W.cell? ⟨c, 0, none⟩ = some (.slice va rl vc) ∧ W.cell? ⟨c, 1, none⟩ = some (.bool (!false)) ∧ (fun W : World => RT W T12 X' ∧ Below w.heap.size w W) W) (by kernel_rfl) HS0.out (fun hHeld => ?_)
    clear hHeld
    generalize V3.drew = V4 at HS0 ⊢
    refine wpAnyH_take (i := 0) (oi := { dst := some 28, op := Go.Op.move (Go.Operand.tmp 6), type := 4, pos := "law.go:113", after := #[], guard := none }) (v := ?_) rfl (by kernel_rfl) (by kernel_rfl) (by kernel_rfl) (fun _ _ _ h => h) (Or.inl ⟨by rfl, ?_⟩) HS0.out ?_
    case refine_2 => (intro w1 hS1; clear hS1; go_simp; try with_reducible rfl)
    try simp only [Act.put, List.setIfInBounds_toArray, List.set_cons_zero, List.set_cons_succ]
    refine wpAnyH_take (i := 1) (oi := { dst := some 29, op := Go.Op.move (Go.Operand.tmp 8), type := 4, pos := "law.go:113", after := #[], guard := none }) (v := ?_) rfl (by kernel_rfl) (by kernel_rfl) (by kernel_rfl) (fun _ _ _ h => h) (Or.inl ⟨by rfl, ?_⟩) HS0.out ?_
    case refine_2 => (intro w1 hS1; clear hS1; go_simp; try with_reducible rfl)
    try simp only [Act.put, List.setIfInBounds_toArray, List.set_cons_zero, List.set_cons_succ]
    refine wpAnyH_take (i := 2) (oi := { dst := some 30, op := Go.Op.binOp Go.BinOp.neq 4 (Go.Operand.tmp 28) (Go.Operand.tmp 29) 4, type := 4, pos := "law.go:113", after := #[{ on := 0, ground := Go.Ground.data }, { on := 1, ground := Go.Ground.data }], guard := none }) (v := ?_) rfl (by kernel_rfl) (by kernel_rfl) (by kernel_rfl) (fun _ _ _ h => h) (Or.inl ⟨by rfl, ?_⟩) HS0.out ?_
    case refine_2 => (intro w1 hS1; clear hS1; go_simp; try with_reducible rfl)
    try simp only [Act.put, List.setIfInBounds_toArray, List.set_cons_zero, List.set_cons_succ]
    refine wpAnyH_take (i := 3) (oi := { dst := some 31, op := Go.Op.move (Go.Operand.tmp 30), type := 4, pos := "law.go:113", after := #[{ on := 2, ground := Go.Ground.data }], guard := none }) (v := ?_) rfl (by kernel_rfl) (by kernel_rfl) (by kernel_rfl) (fun _ _ _ h => h) (Or.inl ⟨by rfl, ?_⟩) HS0.out ?_
    case refine_2 => (intro w1 hS1; clear hS1; go_simp; try with_reducible rfl)
    try simp only [Act.put, List.setIfInBounds_toArray, List.set_cons_zero, List.set_cons_succ]
    refine wpAnyH_take (i := 4) (oi := { dst := some 32, op := Go.Op.move (Go.Operand.tmp 3), type := 42, pos := "law.go:113", after := #[{ on := 3, ground := Go.Ground.guard }], guard := some (3, false) }) (v := ?_) rfl (by kernel_rfl) (by kernel_rfl) (by kernel_rfl) (fun _ _ _ h => h) (Or.inl ⟨by rfl, ?_⟩) HS0.out ?_
    case refine_2 => (intro w1 hS1; clear hS1; go_simp; try with_reducible rfl)
    try simp only [Act.put, List.setIfInBounds_toArray, List.set_cons_zero, List.set_cons_succ]
    refine wpAnyH_take (i := 6) (oi := { dst := some 34, op := Go.Op.move (Go.Operand.tmp 4), type := 50, pos := "law.go:113", after := #[{ on := 3, ground := Go.Ground.guard }], guard := some (3, false) }) (v := ?_) rfl (by kernel_rfl) (by kernel_rfl) (by kernel_rfl) (fun _ _ _ h => h) (Or.inl ⟨by rfl, ?_⟩) HS0.out ?_
    case refine_2 => (intro w1 hS1; clear hS1; go_simp; try with_reducible rfl)
    try simp only [Act.put, List.setIfInBounds_toArray, List.set_cons_zero, List.set_cons_succ]
    refine wpAnyH_take (i := 7) (oi := { dst := some 35, op := Go.Op.nilCheck (Go.Operand.tmp 34), type := 0, pos := "law.go:113", after := #[{ on := 6, ground := Go.Ground.data }, { on := 3, ground := Go.Ground.guard }], guard := some (3, false) }) (v := ?_) rfl (by kernel_rfl) (by kernel_rfl) (by kernel_rfl) (fun _ _ _ h => h) (Or.inl ⟨by rfl, ?_⟩) HS0.out ?_
    case refine_2 => (intro w1 hS1; clear hS1; go_simp; try with_reducible rfl)
    try simp only [Act.put, List.setIfInBounds_toArray, List.set_cons_zero, List.set_cons_succ]
    refine wpAnyH_take (i := 8) (oi := { dst := some 36, op := Go.Op.fieldAddr 52 (Go.Operand.tmp 35) 0, type := 0, pos := "law.go:113", after := #[{ on := 7, ground := Go.Ground.data }, { on := 3, ground := Go.Ground.guard }], guard := some (3, false) }) (v := ?_) rfl (by kernel_rfl) (by kernel_rfl) (by kernel_rfl) (fun _ _ _ h => h) (Or.inl ⟨by rfl, ?_⟩) HS0.out ?_
    case refine_2 => (intro w1 hS1; clear hS1; go_simp; try with_reducible rfl)
    try simp only [Act.put, List.setIfInBounds_toArray, List.set_cons_zero, List.set_cons_succ]
    refine wpAnyH_take (i := 9) (oi := { dst := some 37, op := Go.Op.load 35 (Go.Operand.tmp 36), type := 35, pos := "law.go:113", after := #[{ on := 8, ground := Go.Ground.data }, { on := 3, ground := Go.Ground.guard }], guard := some (3, false) }) (v := ?_) rfl (by kernel_rfl) (by kernel_rfl) (by kernel_rfl) (fun _ _ _ h => h) (Or.inl ⟨by rfl, ?_⟩) HS0.out ?_
    case refine_2 => (intro w1 hS1; obtain ⟨-, k4, k5, -⟩ := hS1; go_simp; try with_reducible rfl)
    try simp only [Act.put, List.setIfInBounds_toArray, List.set_cons_zero, List.set_cons_succ]
    refine wpAnyH_take (i := 10) (oi := { dst := some 38, op := Go.Op.call { callee := Go.Callee.builtin Go.Builtin.len, args := #[Go.Operand.tmp 37], argTypes := #[35] }, type := 3, pos := "law.go:113", after := #[{ on := 9, ground := Go.Ground.data }, { on := 3, ground := Go.Ground.guard }], guard := some (3, false) }) (v := ?_) rfl (by kernel_rfl) (by kernel_rfl) (by kernel_rfl) (fun _ _ _ h => h) (Or.inl ⟨by rfl, ?_⟩) HS0.out ?_
    case refine_2 => (intro w1 hS1; clear hS1; go_simp; try with_reducible rfl)
    try simp only [Act.put, List.setIfInBounds_toArray, List.set_cons_zero, List.set_cons_succ]
    refine wpAnyH_ready (rs := [5]) (by kernel_rfl) (by simp) ?_
    refine AllReadyH.cons (o := { dst := some 33, op := Go.Op.call { callee := Go.Callee.value (Go.Operand.func 24), args := #[Go.Operand.tmp 32], argTypes := #[42] }, type := 3, pos := "law.go:113", after := #[{ on := 4, ground := Go.Ground.data }, { on := 3, ground := Go.Ground.chain }, { on := 3, ground := Go.Ground.guard }], guard := some (3, false) }) rfl (fun K hK => ?_) AllReadyH.nil
    go_simp
    refine (left_rd rb _ _ _ HS0.out.1).mono ?_
    rintro e V6 ⟨rfl, rfl⟩
    rw [HRE.out]
    refine hK.out _ _ HS0.out (fun hHeld => ?_)
    clear hK K hHeld
    try simp only [Act.put, List.setIfInBounds_toArray, List.set_cons_zero, List.set_cons_succ]
    refine wpAnyH_take (i := 11) (oi := { dst := some 39, op := Go.Op.binOp Go.BinOp.neq 3 (Go.Operand.tmp 33) (Go.Operand.tmp 38) 3, type := 4, pos := "law.go:113", after := #[{ on := 5, ground := Go.Ground.data }, { on := 10, ground := Go.Ground.data }, { on := 3, ground := Go.Ground.guard }], guard := some (3, false) }) (v := ?_) rfl (by kernel_rfl) (by kernel_rfl) (by kernel_rfl) (fun _ _ _ h => h) (Or.inl ⟨by rfl, ?_⟩) HS0.out ?_
    case refine_2 => (intro w1 hS1; clear hS1; go_simp; try with_reducible rfl)
    try simp only [Act.put, List.setIfInBounds_toArray, List.set_cons_zero, List.set_cons_succ]
    refine wpAnyH_take (i := 12) (oi := { dst := some 40, op := Go.Op.pick (Go.Operand.tmp 31) (Go.Operand.const (Go.Value.bool true)) (Go.Operand.tmp 39), type := 4, pos := "law.go:113", after := #[{ on := 3, ground := Go.Ground.data }, { on := 11, ground := Go.Ground.data }], guard := none }) (v := ?_) rfl (by kernel_rfl) (by kernel_rfl) (by kernel_rfl) (fun _ _ _ h => h) (Or.inl ⟨by rfl, ?_⟩) HS0.out ?_
    case refine_2 => (intro w1 hS1; clear hS1; go_simp; try with_reducible rfl)
    try simp only [Act.put, List.setIfInBounds_toArray, List.set_cons_zero, List.set_cons_succ]
    refine wpAnyH_take (i := 13) (oi := { dst := some 41, op := Go.Op.move (Go.Operand.tmp 40), type := 4, pos := "law.go:113", after := #[{ on := 12, ground := Go.Ground.data }, { on := 5, ground := Go.Ground.chain }], guard := none }) (v := ?_) rfl (by kernel_rfl) (by kernel_rfl) (by kernel_rfl) (fun _ _ _ h => h) (Or.inl ⟨by rfl, ?_⟩) HS0.out ?_
    case refine_2 => (intro w1 hS1; clear hS1; go_simp; try with_reducible rfl)
    try simp only [Act.put, List.setIfInBounds_toArray, List.set_cons_zero, List.set_cons_succ]
    refine wpAnyH_take (i := 14) (oi := { dst := some 42, op := Go.Op.move (Go.Operand.tmp 3), type := 42, pos := "law.go:113", after := #[{ on := 13, ground := Go.Ground.guard }], guard := some (13, false) }) (v := ?_) rfl (by kernel_rfl) (by kernel_rfl) (by kernel_rfl) (fun _ _ _ h => h) (Or.inl ⟨by rfl, ?_⟩) HS0.out ?_
    case refine_2 => (intro w1 hS1; clear hS1; go_simp; try with_reducible rfl)
    try simp only [Act.put, List.setIfInBounds_toArray, List.set_cons_zero, List.set_cons_succ]
    refine wpAnyH_take (i := 16) (oi := { dst := some 44, op := Go.Op.move (Go.Operand.tmp 4), type := 50, pos := "law.go:113", after := #[{ on := 13, ground := Go.Ground.guard }], guard := some (13, false) }) (v := ?_) rfl (by kernel_rfl) (by kernel_rfl) (by kernel_rfl) (fun _ _ _ h => h) (Or.inl ⟨by rfl, ?_⟩) HS0.out ?_
    case refine_2 => (intro w1 hS1; clear hS1; go_simp; try with_reducible rfl)
    try simp only [Act.put, List.setIfInBounds_toArray, List.set_cons_zero, List.set_cons_succ]
    refine wpAnyH_take (i := 17) (oi := { dst := some 45, op := Go.Op.nilCheck (Go.Operand.tmp 44), type := 0, pos := "law.go:113", after := #[{ on := 16, ground := Go.Ground.data }, { on := 13, ground := Go.Ground.guard }], guard := some (13, false) }) (v := ?_) rfl (by kernel_rfl) (by kernel_rfl) (by kernel_rfl) (fun _ _ _ h => h) (Or.inl ⟨by rfl, ?_⟩) HS0.out ?_
    case refine_2 => (intro w1 hS1; clear hS1; go_simp; try with_reducible rfl)
    try simp only [Act.put, List.setIfInBounds_toArray, List.set_cons_zero, List.set_cons_succ]
    refine wpAnyH_take (i := 18) (oi := { dst := some 46, op := Go.Op.fieldAddr 52 (Go.Operand.tmp 45) 1, type := 0, pos := "law.go:113", after := #[{ on := 17, ground := Go.Ground.data }, { on := 13, ground := Go.Ground.guard }], guard := some (13, false) }) (v := ?_) rfl (by kernel_rfl) (by kernel_rfl) (by kernel_rfl) (fun _ _ _ h => h) (Or.inl ⟨by rfl, ?_⟩) HS0.out ?_
    case refine_2 => (intro w1 hS1; clear hS1; go_simp; try with_reducible rfl)
    try simp only [Act.put, List.setIfInBounds_toArray, List.set_cons_zero, List.set_cons_succ]
    refine wpAnyH_take (i := 19) (oi := { dst := some 47, op := Go.Op.load 4 (Go.Operand.tmp 46), type := 4, pos := "law.go:113", after := #[{ on := 18, ground := Go.Ground.data }, { on := 13, ground := Go.Ground.guard }], guard := some (13, false) }) (v := ?_) rfl (by kernel_rfl) (by kernel_rfl) (by kernel_rfl) (fun _ _ _ h => h) (Or.inl ⟨by rfl, ?_⟩) HS0.out ?_
    case refine_2 => (intro w1 hS1; obtain ⟨-, k4, k5, -⟩ := hS1; go_simp; try with_reducible rfl)
    try simp only [Act.put, List.setIfInBounds_toArray, List.set_cons_zero, List.set_cons_succ]
    refine wpAnyH_ready (rs := [15]) (by kernel_rfl) (by simp) ?_
    refine AllReadyH.cons (o := { dst := some 43, op := Go.Op.call { callee := Go.Callee.value (Go.Operand.func 26), args := #[Go.Operand.tmp 42], argTypes := #[42] }, type := 4, pos := "law.go:113", after := #[{ on := 14, ground := Go.Ground.data }, { on := 13, ground := Go.Ground.chain }, { on := 13, ground := Go.Ground.guard }], guard := some (13, false) }) rfl (fun K hK => ?_) AllReadyH.nil
    go_simp
    refine (bad_rd rb _ _ _ HS0.out.1).mono ?_
    rintro e V6 ⟨rfl, rfl⟩
    refine hK.out _ _ HS0.out (fun hHeld => ?_)
    clear hK K hHeld
    try simp only [Act.put, List.setIfInBounds_toArray, List.set_cons_zero, List.set_cons_succ]
    refine wpAnyH_take (i := 20) (oi := { dst := some 48, op := Go.Op.binOp Go.BinOp.neq 4 (Go.Operand.tmp 43) (Go.Operand.tmp 47) 4, type := 4, pos := "law.go:113", after := #[{ on := 15, ground := Go.Ground.data }, { on := 19, ground := Go.Ground.data }, { on := 13, ground := Go.Ground.guard }], guard := some (13, false) }) (v := ?_) rfl (by kernel_rfl) (by kernel_rfl) (by kernel_rfl) (fun _ _ _ h => h) (Or.inl ⟨by rfl, ?_⟩) HS0.out ?_
    case refine_2 => (intro w1 hS1; clear hS1; go_simp; try with_reducible rfl)
    try simp only [Act.put, List.setIfInBounds_toArray, List.set_cons_zero, List.set_cons_succ]
    refine wpAnyH_take (i := 21) (oi := { dst := some 49, op := Go.Op.pick (Go.Operand.tmp 41) (Go.Operand.const (Go.Value.bool true)) (Go.Operand.tmp 48), type := 4, pos := "law.go:113", after := #[{ on := 13, ground := Go.Ground.data }, { on := 20, ground := Go.Ground.data }], guard := none }) (v := ?_) rfl (by kernel_rfl) (by kernel_rfl) (by kernel_rfl) (fun _ _ _ h => h) (Or.inl ⟨by rfl, ?_⟩) HS0.out ?_
    case refine_2 => (intro w1 hS1; clear hS1; go_simp; try with_reducible rfl)
    try simp only [Act.put, List.setIfInBounds_toArray, List.set_cons_zero, List.set_cons_succ]
    refine wpAnyH_done (by kernel_rfl) ?_ _
    go_wp2_with fail
    go_wp2_with (go_at_call 28; refine (lives20 _).mono ?_; rintro e V8 ⟨rfl, hb⟩; have HB8 := Lib.hid (HS0.out.2.2.2.2.trans (hb.mono HS0.out.2.2.2.2.size)); clear hb)
    go_ret
    exact ⟨rfl, HB8.out⟩
  case true =>
    obtain ⟨rfl, -, -, -⟩ := HTQ.out rfl
    have HS0' : Hid ((fun W => RR W rb R (!true) ∧ W.cell? ⟨c, 0, none⟩ = some (.slice va rl vc) ∧ W.cell? ⟨c, 1, none⟩ = some (.bool (!true)) ∧ (fun W : World => RT W T12 X' ∧ (Rt c W T mb cn M X ∧ RE W X') ∧ Below w.heap.size w W) W) V3) := Lib.hid ⟨HS0.out.1, HS0.out.2.1, HS0.out.2.2.1, HS0.out.2.2.2.1, HS0.out.2.2.2.2.1 rfl, HS0.out.2.2.2.2.2⟩
    clear HS0
    have HS0 := HS0'
    clear HS0'
    have HKK : Hid (∀ W, (fun W : World => RT W T12 X' ∧ (Rt c W T mb cn M X ∧ RE W X') ∧ Below w.heap.size w W) W → ∀ W', Below W.heap.size W W' → (fun W : World => RT W T12 X' ∧ (Rt c W T mb cn M X ∧ RE W X') ∧ Below w.heap.size w W) W') := Lib.hid (fun W ⟨k1, k2, k3⟩ W' hb => ⟨k1.kept hb, ⟨k2.1.kept hb, k2.2.kept hb⟩, k3.trans (hb.mono k3.size)⟩)
    have HSD : Hid (∀ W, (fun W => RR W rb R (!true) ∧ W.cell? ⟨c, 0, none⟩ = some (.slice va rl vc) ∧ W.cell? ⟨c, 1, none⟩ = some (.bool (!true)) ∧ (fun W : World => RT W T12 X' ∧ (Rt c W T mb cn M X ∧ RE W X') ∧ Below w.heap.size w W) W) W → ∀ W', Below W.heap.size W W' → (fun W => RR W rb R (!true) ∧ W.cell? ⟨c, 0, none⟩ = some (.slice va rl vc) ∧ W.cell? ⟨c, 1, none⟩ = some (.bool (!true)) ∧ (fun W : World => RT W T12 X' ∧ (Rt c W T mb cn M X ∧ RE W X') ∧ Below w.heap.size w W) W) W') := Lib.hid (fun W ⟨k1, k2, k3, k4⟩ W' hb => ⟨k1.kept hb, (hb.cell (p := ⟨c, 0, none⟩) (cell_spot k2).2).trans k2, (hb.cell (p := ⟨c, 1, none⟩) (cell_spot k3).2).trans k3, HKK.out W k4 W' hb⟩)
    have HS0' := Lib.hid (HSD.out _ HS0.out V3.drew (Below.refl _ _).drew)
    clear HS0
    have HS0 := HS0'
    clear HS0'
    refine wp_region_held_drew (S := fun W => RR W rb R (!true) ∧ W.cell? ⟨c, 0, none⟩ = some (.slice va rl vc) ∧ W.cell? ⟨c, 1, none⟩ = some (.bool (!true)) ∧ (fun W : World => RT W T12 X' ∧ (Rt c W T mb cn M X ∧ RE W X') ∧ Below w.heap.size w W) W) (by kernel_rfl) HS0.out (fun hHeld => ?_)
    clear hHeld
    generalize V3.drew = V4 at HS0 ⊢
    refine wpAnyH_take (i := 0) (oi := { dst := some 28, op := Go.Op.move (Go.Operand.tmp 6), type := 4, pos := "law.go:113", after := #[], guard := none }) (v := ?_) rfl (by kernel_rfl) (by kernel_rfl) (by kernel_rfl) (fun _ _ _ h => h) (Or.inl ⟨by rfl, ?_⟩) HS0.out ?_
    case refine_2 => (intro w1 hS1; clear hS1; go_simp; try with_reducible rfl)
    try simp only [Act.put, List.setIfInBounds_toArray, List.set_cons_zero, List.set_cons_succ]
    refine wpAnyH_take (i := 1) (oi := { dst := some 29, op := Go.Op.move (Go.Operand.tmp 8), type := 4, pos := "law.go:113", after := #[], guard := none }) (v := ?_) rfl (by kernel_rfl) (by kernel_rfl) (by kernel_rfl) (fun _ _ _ h => h) (Or.inl ⟨by rfl, ?_⟩) HS0.out ?_
    case refine_2 => (intro w1 hS1; clear hS1; go_simp; try with_reducible rfl)
    try simp only [Act.put, List.setIfInBounds_toArray, List.set_cons_zero, List.set_cons_succ]
    refine wpAnyH_take (i := 2) (oi := { dst := some 30, op := Go.Op.binOp Go.BinOp.neq 4 (Go.Operand.tmp 28) (Go.Operand.tmp 29) 4, type := 4, pos := "law.go:113", after := #[{ on := 0, ground := Go.Ground.data }, { on := 1, ground := Go.Ground.data }], guard := none }) (v := ?_) rfl (by kernel_rfl) (by kernel_rfl) (by kernel_rfl) (fun _ _ _ h => h) (Or.inl ⟨by rfl, ?_⟩) HS0.out ?_
    case refine_2 => (intro w1 hS1; clear hS1; go_simp; try with_reducible rfl)
    try simp only [Act.put, List.setIfInBounds_toArray, List.set_cons_zero, List.set_cons_succ]
    refine wpAnyH_take (i := 3) (oi := { dst := some 31, op := Go.Op.move (Go.Operand.tmp 30), type := 4, pos := "law.go:113", after := #[{ on := 2, ground := Go.Ground.data }], guard := none }) (v := ?_) rfl (by kernel_rfl) (by kernel_rfl) (by kernel_rfl) (fun _ _ _ h => h) (Or.inl ⟨by rfl, ?_⟩) HS0.out ?_
    case refine_2 => (intro w1 hS1; clear hS1; go_simp; try with_reducible rfl)
    try simp only [Act.put, List.setIfInBounds_toArray, List.set_cons_zero, List.set_cons_succ]
    refine wpAnyH_take (i := 4) (oi := { dst := some 32, op := Go.Op.move (Go.Operand.tmp 3), type := 42, pos := "law.go:113", after := #[{ on := 3, ground := Go.Ground.guard }], guard := some (3, false) }) (v := ?_) rfl (by kernel_rfl) (by kernel_rfl) (by kernel_rfl) (fun _ _ _ h => h) (Or.inl ⟨by rfl, ?_⟩) HS0.out ?_
    case refine_2 => (intro w1 hS1; clear hS1; go_simp; try with_reducible rfl)
    try simp only [Act.put, List.setIfInBounds_toArray, List.set_cons_zero, List.set_cons_succ]
    refine wpAnyH_take (i := 6) (oi := { dst := some 34, op := Go.Op.move (Go.Operand.tmp 4), type := 50, pos := "law.go:113", after := #[{ on := 3, ground := Go.Ground.guard }], guard := some (3, false) }) (v := ?_) rfl (by kernel_rfl) (by kernel_rfl) (by kernel_rfl) (fun _ _ _ h => h) (Or.inl ⟨by rfl, ?_⟩) HS0.out ?_
    case refine_2 => (intro w1 hS1; clear hS1; go_simp; try with_reducible rfl)
    try simp only [Act.put, List.setIfInBounds_toArray, List.set_cons_zero, List.set_cons_succ]
    refine wpAnyH_take (i := 7) (oi := { dst := some 35, op := Go.Op.nilCheck (Go.Operand.tmp 34), type := 0, pos := "law.go:113", after := #[{ on := 6, ground := Go.Ground.data }, { on := 3, ground := Go.Ground.guard }], guard := some (3, false) }) (v := ?_) rfl (by kernel_rfl) (by kernel_rfl) (by kernel_rfl) (fun _ _ _ h => h) (Or.inl ⟨by rfl, ?_⟩) HS0.out ?_
    case refine_2 => (intro w1 hS1; clear hS1; go_simp; try with_reducible rfl)
    try simp only [Act.put, List.setIfInBounds_toArray, List.set_cons_zero, List.set_cons_succ]
    refine wpAnyH_take (i := 8) (oi := { dst := some 36, op := Go.Op.fieldAddr 52 (Go.Operand.tmp 35) 0, type := 0, pos := "law.go:113", after := #[{ on := 7, ground := Go.Ground.data }, { on := 3, ground := Go.Ground.guard }], guard := some (3, false) }) (v := ?_) rfl (by kernel_rfl) (by kernel_rfl) (by kernel_rfl) (fun _ _ _ h => h) (Or.inl ⟨by rfl, ?_⟩) HS0.out ?_
    case refine_2 => (intro w1 hS1; clear hS1; go_simp; try with_reducible rfl)
    try simp only [Act.put, List.setIfInBounds_toArray, List.set_cons_zero, List.set_cons_succ]
    refine wpAnyH_take (i := 9) (oi := { dst := some 37, op := Go.Op.load 35 (Go.Operand.tmp 36), type := 35, pos := "law.go:113", after := #[{ on := 8, ground := Go.Ground.data }, { on := 3, ground := Go.Ground.guard }], guard := some (3, false) }) (v := ?_) rfl (by kernel_rfl) (by kernel_rfl) (by kernel_rfl) (fun _ _ _ h => h) (Or.inl ⟨by rfl, ?_⟩) HS0.out ?_
    case refine_2 => (intro w1 hS1; obtain ⟨-, k4, k5, -⟩ := hS1; go_simp; try with_reducible rfl)
    try simp only [Act.put, List.setIfInBounds_toArray, List.set_cons_zero, List.set_cons_succ]
    refine wpAnyH_take (i := 10) (oi := { dst := some 38, op := Go.Op.call { callee := Go.Callee.builtin Go.Builtin.len, args := #[Go.Operand.tmp 37], argTypes := #[35] }, type := 3, pos := "law.go:113", after := #[{ on := 9, ground := Go.Ground.data }, { on := 3, ground := Go.Ground.guard }], guard := some (3, false) }) (v := ?_) rfl (by kernel_rfl) (by kernel_rfl) (by kernel_rfl) (fun _ _ _ h => h) (Or.inl ⟨by rfl, ?_⟩) HS0.out ?_
    case refine_2 => (intro w1 hS1; clear hS1; go_simp; try with_reducible rfl)
    try simp only [Act.put, List.setIfInBounds_toArray, List.set_cons_zero, List.set_cons_succ]
    refine wpAnyH_ready (rs := [5]) (by kernel_rfl) (by simp) ?_
    refine AllReadyH.cons (o := { dst := some 33, op := Go.Op.call { callee := Go.Callee.value (Go.Operand.func 24), args := #[Go.Operand.tmp 32], argTypes := #[42] }, type := 3, pos := "law.go:113", after := #[{ on := 4, ground := Go.Ground.data }, { on := 3, ground := Go.Ground.chain }, { on := 3, ground := Go.Ground.guard }], guard := some (3, false) }) rfl (fun K hK => ?_) AllReadyH.nil
    go_simp
    refine (left_rd rb _ _ _ HS0.out.1).mono ?_
    rintro e V6 ⟨rfl, rfl⟩
    rw [HRE.out]
    refine hK.out _ _ HS0.out (fun hHeld => ?_)
    clear hK K hHeld
    try simp only [Act.put, List.setIfInBounds_toArray, List.set_cons_zero, List.set_cons_succ]
    refine wpAnyH_take (i := 11) (oi := { dst := some 39, op := Go.Op.binOp Go.BinOp.neq 3 (Go.Operand.tmp 33) (Go.Operand.tmp 38) 3, type := 4, pos := "law.go:113", after := #[{ on := 5, ground := Go.Ground.data }, { on := 10, ground := Go.Ground.data }, { on := 3, ground := Go.Ground.guard }], guard := some (3, false) }) (v := ?_) rfl (by kernel_rfl) (by kernel_rfl) (by kernel_rfl) (fun _ _ _ h => h) (Or.inl ⟨by rfl, ?_⟩) HS0.out ?_
    case refine_2 => (intro w1 hS1; clear hS1; go_simp; try with_reducible rfl)
    try simp only [Act.put, List.setIfInBounds_toArray, List.set_cons_zero, List.set_cons_succ]
    refine wpAnyH_take (i := 12) (oi := { dst := some 40, op := Go.Op.pick (Go.Operand.tmp 31) (Go.Operand.const (Go.Value.bool true)) (Go.Operand.tmp 39), type := 4, pos := "law.go:113", after := #[{ on := 3, ground := Go.Ground.data }, { on := 11, ground := Go.Ground.data }], guard := none }) (v := ?_) rfl (by kernel_rfl) (by kernel_rfl) (by kernel_rfl) (fun _ _ _ h => h) (Or.inl ⟨by rfl, ?_⟩) HS0.out ?_
    case refine_2 => (intro w1 hS1; clear hS1; go_simp; try with_reducible rfl)
    try simp only [Act.put, List.setIfInBounds_toArray, List.set_cons_zero, List.set_cons_succ]
    refine wpAnyH_take (i := 13) (oi := { dst := some 41, op := Go.Op.move (Go.Operand.tmp 40), type := 4, pos := "law.go:113", after := #[{ on := 12, ground := Go.Ground.data }, { on := 5, ground := Go.Ground.chain }], guard := none }) (v := ?_) rfl (by kernel_rfl) (by kernel_rfl) (by kernel_rfl) (fun _ _ _ h => h) (Or.inl ⟨by rfl, ?_⟩) HS0.out ?_
    case refine_2 => (intro w1 hS1; clear hS1; go_simp; try with_reducible rfl)
    try simp only [Act.put, List.setIfInBounds_toArray, List.set_cons_zero, List.set_cons_succ]
    refine wpAnyH_take (i := 14) (oi := { dst := some 42, op := Go.Op.move (Go.Operand.tmp 3), type := 42, pos := "law.go:113", after := #[{ on := 13, ground := Go.Ground.guard }], guard := some (13, false) }) (v := ?_) rfl (by kernel_rfl) (by kernel_rfl) (by kernel_rfl) (fun _ _ _ h => h) (Or.inl ⟨by rfl, ?_⟩) HS0.out ?_
    case refine_2 => (intro w1 hS1; clear hS1; go_simp; try with_reducible rfl)
    try simp only [Act.put, List.setIfInBounds_toArray, List.set_cons_zero, List.set_cons_succ]
    refine wpAnyH_take (i := 16) (oi := { dst := some 44, op := Go.Op.move (Go.Operand.tmp 4), type := 50, pos := "law.go:113", after := #[{ on := 13, ground := Go.Ground.guard }], guard := some (13, false) }) (v := ?_) rfl (by kernel_rfl) (by kernel_rfl) (by kernel_rfl) (fun _ _ _ h => h) (Or.inl ⟨by rfl, ?_⟩) HS0.out ?_
    case refine_2 => (intro w1 hS1; clear hS1; go_simp; try with_reducible rfl)
    try simp only [Act.put, List.setIfInBounds_toArray, List.set_cons_zero, List.set_cons_succ]
    refine wpAnyH_take (i := 17) (oi := { dst := some 45, op := Go.Op.nilCheck (Go.Operand.tmp 44), type := 0, pos := "law.go:113", after := #[{ on := 16, ground := Go.Ground.data }, { on := 13, ground := Go.Ground.guard }], guard := some (13, false) }) (v := ?_) rfl (by kernel_rfl) (by kernel_rfl) (by kernel_rfl) (fun _ _ _ h => h) (Or.inl ⟨by rfl, ?_⟩) HS0.out ?_
    case refine_2 => (intro w1 hS1; clear hS1; go_simp; try with_reducible rfl)
    try simp only [Act.put, List.setIfInBounds_toArray, List.set_cons_zero, List.set_cons_succ]
    refine wpAnyH_take (i := 18) (oi := { dst := some 46, op := Go.Op.fieldAddr 52 (Go.Operand.tmp 45) 1, type := 0, pos := "law.go:113", after := #[{ on := 17, ground := Go.Ground.data }, { on := 13, ground := Go.Ground.guard }], guard := some (13, false) }) (v := ?_) rfl (by kernel_rfl) (by kernel_rfl) (by kernel_rfl) (fun _ _ _ h => h) (Or.inl ⟨by rfl, ?_⟩) HS0.out ?_
    case refine_2 => (intro w1 hS1; clear hS1; go_simp; try with_reducible rfl)
    try simp only [Act.put, List.setIfInBounds_toArray, List.set_cons_zero, List.set_cons_succ]
    refine wpAnyH_take (i := 19) (oi := { dst := some 47, op := Go.Op.load 4 (Go.Operand.tmp 46), type := 4, pos := "law.go:113", after := #[{ on := 18, ground := Go.Ground.data }, { on := 13, ground := Go.Ground.guard }], guard := some (13, false) }) (v := ?_) rfl (by kernel_rfl) (by kernel_rfl) (by kernel_rfl) (fun _ _ _ h => h) (Or.inl ⟨by rfl, ?_⟩) HS0.out ?_
    case refine_2 => (intro w1 hS1; obtain ⟨-, k4, k5, -⟩ := hS1; go_simp; try with_reducible rfl)
    try simp only [Act.put, List.setIfInBounds_toArray, List.set_cons_zero, List.set_cons_succ]
    refine wpAnyH_ready (rs := [15]) (by kernel_rfl) (by simp) ?_
    refine AllReadyH.cons (o := { dst := some 43, op := Go.Op.call { callee := Go.Callee.value (Go.Operand.func 26), args := #[Go.Operand.tmp 42], argTypes := #[42] }, type := 4, pos := "law.go:113", after := #[{ on := 14, ground := Go.Ground.data }, { on := 13, ground := Go.Ground.chain }, { on := 13, ground := Go.Ground.guard }], guard := some (13, false) }) rfl (fun K hK => ?_) AllReadyH.nil
    go_simp
    refine (bad_rd rb _ _ _ HS0.out.1).mono ?_
    rintro e V6 ⟨rfl, rfl⟩
    refine hK.out _ _ HS0.out (fun hHeld => ?_)
    clear hK K hHeld
    try simp only [Act.put, List.setIfInBounds_toArray, List.set_cons_zero, List.set_cons_succ]
    refine wpAnyH_take (i := 20) (oi := { dst := some 48, op := Go.Op.binOp Go.BinOp.neq 4 (Go.Operand.tmp 43) (Go.Operand.tmp 47) 4, type := 4, pos := "law.go:113", after := #[{ on := 15, ground := Go.Ground.data }, { on := 19, ground := Go.Ground.data }, { on := 13, ground := Go.Ground.guard }], guard := some (13, false) }) (v := ?_) rfl (by kernel_rfl) (by kernel_rfl) (by kernel_rfl) (fun _ _ _ h => h) (Or.inl ⟨by rfl, ?_⟩) HS0.out ?_
    case refine_2 => (intro w1 hS1; clear hS1; go_simp; try with_reducible rfl)
    try simp only [Act.put, List.setIfInBounds_toArray, List.set_cons_zero, List.set_cons_succ]
    refine wpAnyH_take (i := 21) (oi := { dst := some 49, op := Go.Op.pick (Go.Operand.tmp 41) (Go.Operand.const (Go.Value.bool true)) (Go.Operand.tmp 48), type := 4, pos := "law.go:113", after := #[{ on := 13, ground := Go.Ground.data }, { on := 20, ground := Go.Ground.data }], guard := none }) (v := ?_) rfl (by kernel_rfl) (by kernel_rfl) (by kernel_rfl) (fun _ _ _ h => h) (Or.inl ⟨by rfl, ?_⟩) HS0.out ?_
    case refine_2 => (intro w1 hS1; clear hS1; go_simp; try with_reducible rfl)
    try simp only [Act.put, List.setIfInBounds_toArray, List.set_cons_zero, List.set_cons_succ]
    refine wpAnyH_done (by kernel_rfl) ?_ _
    go_wp2_with fail
    have hnx := sNx_len (HDS.out (by trivial))
    have hY12 : (num 0 (cntTo X' 8) ++ tabB X' 8) = (num 0 cn ++ tabB X 8) := by
      have h1 := sNx_len (HDS.out (by trivial))
      have h2 := sNx_len (HDS2.out (by trivial))
      rw [← h2.2, h1.2]
    have hRn : R = sNx bs := by rw [← HRQ.out]; simp
    have HNX : Hid (rl ≤ bs.length ∧ bs.take (bs.length - rl) = (num 0 cn ++ tabB X 8)) := Lib.hid (by rw [← HRE.out, hRn]; exact hnx)
    have HY12 := Lib.hid hY12
    have HC8 : Hid (cn ≤ 8) := Lib.hid (by rw [HS0.out.2.2.2.2.1.1.2.1]; exact cntTo_le X 8)
    have HRBX : Hid (∀ W, Below w.heap.size w W → RB W (.slice a (n - rl) cap) (num 0 cn ++ tabB X 8)) := Lib.hid (fun W hb => by
      have h := (HRB0.out W hb).upto (bs.length - rl) (Nat.sub_le _ _)
      rw [HNX.out.2, HBL.out] at h
      exact h)
    have HYL : Hid ((num 0 cn ++ tabB X 8).length ≤ 100000 ∧ ∀ y ∈ (num 0 cn ++ tabB X 8), y < 256) := Lib.hid (by
      rw [← HNX.out.2]
      refine ⟨?_, fun y hy => HLT.out y (List.mem_of_mem_take hy)⟩
      rw [List.length_take]
      have := HLN.out
      omega)
    have HS0' : Hid ((fun W : World => RR W rb R false ∧ RT W T12 X' ∧ Rt c W T mb cn M X ∧ RE W X' ∧ Below w.heap.size w W) V4) := Lib.hid ⟨HS0.out.1, HS0.out.2.2.2.1, HS0.out.2.2.2.2.1.1, HS0.out.2.2.2.2.1.2, HS0.out.2.2.2.2.2⟩
    have HSX : Hid (∀ W, (fun W : World => RR W rb R false ∧ RT W T12 X' ∧ Rt c W T mb cn M X ∧ RE W X' ∧ Below w.heap.size w W) W → ∀ W', Below W.heap.size W W' → (fun W : World => RR W rb R false ∧ RT W T12 X' ∧ Rt c W T mb cn M X ∧ RE W X' ∧ Below w.heap.size w W) W') := Lib.hid (fun W ⟨k1, k2, k3, k4, k5⟩ W' hb => ⟨k1.kept hb, k2.kept hb, k3.kept hb, k4.kept hb, k5.trans (hb.mono k5.size)⟩)
    clear hnx hY12 hRn HSD HKK HPQ HTQ HDS HDS2
    clear HS0
    have HS0 := HS0'
    clear HS0'
    have hrl' : rl ≤ n := by have := HNX.out.1; have := HBL.out; omega
    have hsw : IntKind.i64.wrap ((n : Int) - (rl : Int)) = ((n - rl : Nat) : Int) := (IntWalk.i64_in _ ⟨by omega, by have := HLN.out; have := HBL.out; omega⟩).trans (by omega)
    have hsw2 : wrap64 ((n : Int) - (rl : Int)) = ((n - rl : Nat) : Int) := (IntWalk.wrap64_in _ ⟨by omega, by have := HLN.out; have := HBL.out; omega⟩).trans (by omega)
    have hcap : n ≤ cap := by
      obtain ⟨a', cap', h1, h2, -⟩ := (HRB0.out w (Below.refl _ _)).shape
      injection h1 with _ h3 h4
      have := HBL.out
      omega
    have hcr : n ≤ cap + rl := by omega
    have HS0' := Lib.hid (HSX.out _ HS0.out V4.drew (Below.refl _ _).drew)
    clear HS0
    have HS0 := HS0'
    clear HS0'
    refine wp_region_held_drew (S := fun W : World => RR W rb R false ∧ RT W T12 X' ∧ Rt c W T mb cn M X ∧ RE W X' ∧ Below w.heap.size w W) (by kernel_rfl) HS0.out (fun hHeld => ?_)
    clear hHeld
    generalize V4.drew = V5 at HS0 ⊢
    refine wpAnyH_take (i := 0) (oi := { dst := some 57, op := Go.Op.move (Go.Operand.tmp 5), type := 57, pos := "law.go:119", after := #[], guard := none }) (v := ?_) rfl (by kernel_rfl) (by kernel_rfl) (by kernel_rfl) (fun _ _ _ h => h) (Or.inl ⟨by rfl, ?_⟩) HS0.out ?_
    case refine_2 => (intro w1 hS1; clear hS1; go_simp; try with_reducible rfl)
    try simp only [Act.put, List.setIfInBounds_toArray, List.set_cons_zero, List.set_cons_succ]
    refine wpAnyH_take (i := 2) (oi := { dst := some 59, op := Go.Op.move (Go.Operand.tmp 0), type := 35, pos := "law.go:119", after := #[], guard := none }) (v := ?_) rfl (by kernel_rfl) (by kernel_rfl) (by kernel_rfl) (fun _ _ _ h => h) (Or.inl ⟨by rfl, ?_⟩) HS0.out ?_
    case refine_2 => (intro w1 hS1; clear hS1; go_simp; try with_reducible rfl)
    try simp only [Act.put, List.setIfInBounds_toArray, List.set_cons_zero, List.set_cons_succ]
    refine wpAnyH_take (i := 3) (oi := { dst := some 60, op := Go.Op.move (Go.Operand.tmp 0), type := 35, pos := "law.go:119", after := #[], guard := none }) (v := ?_) rfl (by kernel_rfl) (by kernel_rfl) (by kernel_rfl) (fun _ _ _ h => h) (Or.inl ⟨by rfl, ?_⟩) HS0.out ?_
    case refine_2 => (intro w1 hS1; clear hS1; go_simp; try with_reducible rfl)
    try simp only [Act.put, List.setIfInBounds_toArray, List.set_cons_zero, List.set_cons_succ]
    refine wpAnyH_take (i := 4) (oi := { dst := some 61, op := Go.Op.call { callee := Go.Callee.builtin Go.Builtin.len, args := #[Go.Operand.tmp 60], argTypes := #[35] }, type := 3, pos := "law.go:119", after := #[{ on := 3, ground := Go.Ground.data }], guard := none }) (v := ?_) rfl (by kernel_rfl) (by kernel_rfl) (by kernel_rfl) (fun _ _ _ h => h) (Or.inl ⟨by rfl, ?_⟩) HS0.out ?_
    case refine_2 => (intro w1 hS1; clear hS1; go_simp; try with_reducible rfl)
    try simp only [Act.put, List.setIfInBounds_toArray, List.set_cons_zero, List.set_cons_succ]
    refine wpAnyH_take (i := 5) (oi := { dst := some 62, op := Go.Op.move (Go.Operand.tmp 3), type := 42, pos := "law.go:119", after := #[], guard := none }) (v := ?_) rfl (by kernel_rfl) (by kernel_rfl) (by kernel_rfl) (fun _ _ _ h => h) (Or.inl ⟨by rfl, ?_⟩) HS0.out ?_
    case refine_2 => (intro w1 hS1; clear hS1; go_simp; try with_reducible rfl)
    try simp only [Act.put, List.setIfInBounds_toArray, List.set_cons_zero, List.set_cons_succ]
    refine wpAnyH_ready (rs := [1]) (by kernel_rfl) (by simp) ?_
    refine AllReadyH.cons (o := { dst := some 58, op := Go.Op.call { callee := Go.Callee.value (Go.Operand.func 33), args := #[Go.Operand.tmp 57], argTypes := #[57] }, type := 9, pos := "law.go:119", after := #[{ on := 0, ground := Go.Ground.data }], guard := none }) rfl (fun K hK => ?_) AllReadyH.nil
    go_simp
    refine (bytes20 T mb cn M X _ HS0.out.2.2.1.1 HC8.out HS0.out.2.2.1.2.2.1).mono ?_
    rintro e V6 ⟨rfl, hb⟩
    have HS0' := Lib.hid (HSX.out _ HS0.out V6 hb)
    clear hb
    clear HS0
    have HS0 := HS0'
    clear HS0'
    refine hK.out _ _ HS0.out (fun hHeld => ?_)
    clear hK K hHeld
    try simp only [Act.put, List.setIfInBounds_toArray, List.set_cons_zero, List.set_cons_succ]
    refine wpAnyH_ready (rs := [6]) (by kernel_rfl) (by simp) ?_
    refine AllReadyH.cons (o := { dst := some 63, op := Go.Op.call { callee := Go.Callee.value (Go.Operand.func 24), args := #[Go.Operand.tmp 62], argTypes := #[42] }, type := 3, pos := "law.go:119", after := #[{ on := 5, ground := Go.Ground.data }, { on := 1, ground := Go.Ground.chain }], guard := none }) rfl (fun K hK => ?_) AllReadyH.nil
    go_simp
    refine (left_rd rb _ _ _ HS0.out.1).mono ?_
    rintro e V7 ⟨rfl, rfl⟩
    rw [HRE.out]
    refine hK.out _ _ HS0.out (fun hHeld => ?_)
    clear hK K hHeld
    try simp only [Act.put, List.setIfInBounds_toArray, List.set_cons_zero, List.set_cons_succ]
    refine wpAnyH_take (i := 7) (oi := { dst := some 64, op := Go.Op.binOp Go.BinOp.sub 3 (Go.Operand.tmp 61) (Go.Operand.tmp 63) 3, type := 3, pos := "law.go:119", after := #[{ on := 4, ground := Go.Ground.data }, { on := 6, ground := Go.Ground.data }], guard := none }) (v := ?_) rfl (by kernel_rfl) (by kernel_rfl) (by kernel_rfl) (fun _ _ _ h => h) (Or.inl ⟨by rfl, ?_⟩) HS0.out ?_
    case refine_2 => (intro w1 hS1; clear hS1; go_simp; try with_reducible rfl)
    try simp only [Act.put, List.setIfInBounds_toArray, List.set_cons_zero, List.set_cons_succ]
    refine wpAnyH_take (i := 8) (oi := { dst := some 65, op := Go.Op.slice 35 (Go.Operand.tmp 59) none (some (Go.Operand.tmp 64)) none, type := 35, pos := "law.go:119", after := #[{ on := 2, ground := Go.Ground.data }, { on := 7, ground := Go.Ground.data }], guard := none }) (v := ?_) rfl (by kernel_rfl) (by kernel_rfl) (by kernel_rfl) (fun _ _ _ h => h) (Or.inl ⟨by rfl, ?_⟩) HS0.out ?_
    case refine_2 => (intro w1 hS1; clear hS1; go_simp; try with_reducible rfl)
    try simp only [Act.put, List.setIfInBounds_toArray, List.set_cons_zero, List.set_cons_succ]
    refine wpAnyH_take (i := 9) (oi := { dst := some 66, op := Go.Op.convert 35 9 (Go.Operand.tmp 65), type := 9, pos := "law.go:119", after := #[{ on := 8, ground := Go.Ground.data }], guard := none }) (v := .string (str (num 0 cn ++ tabB X 8))) rfl (by kernel_rfl) (by kernel_rfl) (by kernel_rfl) (fun _ _ _ h => h) (by exact yields_strZ (fun W h => HRBX.out W h.2.2.2.2) _ _ _ (by rfl) _ rfl rfl) HS0.out ?_
    try simp only [Act.put, List.setIfInBounds_toArray, List.set_cons_zero, List.set_cons_succ]
    refine wpAnyH_take (i := 10) (oi := { dst := some 67, op := Go.Op.binOp Go.BinOp.eql 9 (Go.Operand.tmp 58) (Go.Operand.tmp 66) 9, type := 4, pos := "law.go:119", after := #[{ on := 1, ground := Go.Ground.data }, { on := 9, ground := Go.Ground.data }], guard := none }) (v := ?_) rfl (by kernel_rfl) (by kernel_rfl) (by kernel_rfl) (fun _ _ _ h => h) (Or.inl ⟨by rfl, ?_⟩) HS0.out ?_
    case refine_2 => (intro w1 hS1; clear hS1; go_simp; try with_reducible rfl)
    try simp only [Act.put, List.setIfInBounds_toArray, List.set_cons_zero, List.set_cons_succ]
    refine wpAnyH_take (i := 11) (oi := { dst := some 68, op := Go.Op.move (Go.Operand.tmp 67), type := 4, pos := "law.go:119", after := #[{ on := 10, ground := Go.Ground.data }, { on := 6, ground := Go.Ground.chain }], guard := none }) (v := ?_) rfl (by kernel_rfl) (by kernel_rfl) (by kernel_rfl) (fun _ _ _ h => h) (Or.inl ⟨by rfl, ?_⟩) HS0.out ?_
    case refine_2 => (intro w1 hS1; clear hS1; go_simp; try with_reducible rfl)
    try simp only [Act.put, List.setIfInBounds_toArray, List.set_cons_zero, List.set_cons_succ]
    refine wpAnyH_take (i := 12) (oi := { dst := some 69, op := Go.Op.move (Go.Operand.tmp 5), type := 57, pos := "law.go:119", after := #[{ on := 11, ground := Go.Ground.guard }], guard := some (11, true) }) (v := ?_) rfl (by kernel_rfl) (by kernel_rfl) (by kernel_rfl) (fun _ _ _ h => h) (Or.inl ⟨by rfl, ?_⟩) HS0.out ?_
    case refine_2 => (intro w1 hS1; clear hS1; go_simp; try with_reducible rfl)
    try simp only [Act.put, List.setIfInBounds_toArray, List.set_cons_zero, List.set_cons_succ]
    refine wpAnyH_take (i := 14) (oi := { dst := some 71, op := Go.Op.load 62 (Go.Operand.tmp 7), type := 62, pos := "law.go:119", after := #[{ on := 11, ground := Go.Ground.guard }], guard := some (11, true) }) (v := .agg (tabC X').toArray) rfl (by kernel_rfl) (by kernel_rfl) (by kernel_rfl) (fun _ _ _ h => h) (by exact yieldsIf_load_mid (by rfl) 62 (.tmp 7) rfl T12 0 rfl (tabC X') _ (fun w h => h.2.1.1) rt_und rfl (HYI.out X')) HS0.out ?_
    try simp only [Act.put, List.setIfInBounds_toArray, List.set_cons_zero, List.set_cons_succ]
    refine wpAnyH_ready (rs := [13]) (by kernel_rfl) (by simp) ?_
    refine AllReadyH.cons (o := { dst := some 70, op := Go.Op.call { callee := Go.Callee.value (Go.Operand.func 33), args := #[Go.Operand.tmp 69], argTypes := #[57] }, type := 9, pos := "law.go:119", after := #[{ on := 12, ground := Go.Ground.data }, { on := 11, ground := Go.Ground.chain }, { on := 11, ground := Go.Ground.guard }], guard := some (11, true) }) rfl (fun K hK => ?_) AllReadyH.nil
    go_simp
    refine (bytes20 T mb cn M X _ HS0.out.2.2.1.1 HC8.out HS0.out.2.2.1.2.2.1).mono ?_
    rintro e V8 ⟨rfl, hb⟩
    have HS0' := Lib.hid (HSX.out _ HS0.out V8 hb)
    clear hb
    clear HS0
    have HS0 := HS0'
    clear HS0'
    refine hK.out _ _ HS0.out (fun hHeld => ?_)
    clear hK K hHeld
    try simp only [Act.put, List.setIfInBounds_toArray, List.set_cons_zero, List.set_cons_succ]
    refine wpAnyH_ready (rs := [15]) (by kernel_rfl) (by simp) ?_
    refine AllReadyH.cons (o := { dst := some 72, op := Go.Op.call { callee := Go.Callee.value (Go.Operand.func 34), args := #[Go.Operand.tmp 71], argTypes := #[62] }, type := 35, pos := "law.go:119", after := #[{ on := 14, ground := Go.Ground.data }, { on := 13, ground := Go.Ground.chain }, { on := 11, ground := Go.Ground.guard }], guard := some (11, true) }) rfl (fun K hK => ?_) AllReadyH.nil
    go_simp
    refine (rput20 X' _ HS0.out.2.2.2.1).mono ?_
    rintro e V9 ⟨v9, rfl, ho, hb⟩
    rw [HY12.out] at ho
    have HR9 : Hid (RB V9 v9 (num 0 cn ++ tabB X 8)) := Lib.hid (ho.rb HYL.out.2 (by have := HYL.out.1; omega))
    have HS0' := Lib.hid (HSX.out _ HS0.out V9 hb)
    clear hb ho
    clear HS0
    have HS0 := HS0'
    clear HS0'
    refine hK.out _ _ HS0.out (fun hHeld => ?_)
    refine wpAnyH_moreZ (S' := fun W => ((fun W : World => RR W rb R false ∧ RT W T12 X' ∧ Rt c W T mb cn M X ∧ RE W X' ∧ Below w.heap.size w W) W) ∧ RB W v9 (num 0 cn ++ tabB X 8)) (fun _ h => h.1) _ _ _ _ ?_
    have HS0' : Hid ((fun W => ((fun W : World => RR W rb R false ∧ RT W T12 X' ∧ Rt c W T mb cn M X ∧ RE W X' ∧ Below w.heap.size w W) W) ∧ RB W v9 (num 0 cn ++ tabB X 8)) V9) := Lib.hid ⟨HS0.out, HR9.out⟩
    clear HR9
    clear HS0
    have HS0 := HS0'
    clear HS0'
    clear hK K hHeld
    try simp only [Act.put, List.setIfInBounds_toArray, List.set_cons_zero, List.set_cons_succ]
    refine wpAnyH_take (i := 16) (oi := { dst := some 73, op := Go.Op.convert 35 9 (Go.Operand.tmp 72), type := 9, pos := "law.go:119", after := #[{ on := 15, ground := Go.Ground.data }, { on := 11, ground := Go.Ground.guard }], guard := some (11, true) }) (v := .string (str (num 0 cn ++ tabB X 8))) rfl (by kernel_rfl) (by kernel_rfl) (by kernel_rfl) (fun _ _ _ h => h) (by exact yields_strZ (fun W h => h.2) _ _ _ (by rfl) _ rfl rfl) HS0.out ?_
    try simp only [Act.put, List.setIfInBounds_toArray, List.set_cons_zero, List.set_cons_succ]
    refine wpAnyH_take (i := 17) (oi := { dst := some 74, op := Go.Op.binOp Go.BinOp.eql 9 (Go.Operand.tmp 70) (Go.Operand.tmp 73) 9, type := 4, pos := "law.go:119", after := #[{ on := 13, ground := Go.Ground.data }, { on := 16, ground := Go.Ground.data }, { on := 11, ground := Go.Ground.guard }], guard := some (11, true) }) (v := ?_) rfl (by kernel_rfl) (by kernel_rfl) (by kernel_rfl) (fun _ _ _ h => h) (Or.inl ⟨by rfl, ?_⟩) HS0.out ?_
    case refine_2 => (intro w1 hS1; clear hS1; go_simp; try with_reducible rfl)
    try simp only [Act.put, List.setIfInBounds_toArray, List.set_cons_zero, List.set_cons_succ]
    refine wpAnyH_take (i := 18) (oi := { dst := some 75, op := Go.Op.pick (Go.Operand.tmp 68) (Go.Operand.tmp 74) (Go.Operand.const (Go.Value.bool false)), type := 4, pos := "law.go:119", after := #[{ on := 11, ground := Go.Ground.data }, { on := 17, ground := Go.Ground.data }], guard := none }) (v := ?_) rfl (by kernel_rfl) (by kernel_rfl) (by kernel_rfl) (fun _ _ _ h => h) (Or.inl ⟨by rfl, ?_⟩) HS0.out ?_
    case refine_2 => (intro w1 hS1; clear hS1; go_simp; try with_reducible rfl)
    try simp only [Act.put, List.setIfInBounds_toArray, List.set_cons_zero, List.set_cons_succ]
    refine wpAnyH_take (i := 19) (oi := { dst := some 76, op := Go.Op.move (Go.Operand.tmp 75), type := 4, pos := "law.go:119", after := #[{ on := 18, ground := Go.Ground.data }, { on := 15, ground := Go.Ground.chain }], guard := none }) (v := ?_) rfl (by kernel_rfl) (by kernel_rfl) (by kernel_rfl) (fun _ _ _ h => h) (Or.inl ⟨by rfl, ?_⟩) HS0.out ?_
    case refine_2 => (intro w1 hS1; clear hS1; go_simp; try with_reducible rfl)
    try simp only [Act.put, List.setIfInBounds_toArray, List.set_cons_zero, List.set_cons_succ]
    refine wpAnyH_ready (rs := [20]) (by kernel_rfl) (by simp) ?_
    refine AllReadyH.cons (o := { dst := some 77, op := Go.Op.call { callee := Go.Callee.value (Go.Operand.func 28), args := #[], argTypes := #[] }, type := 4, pos := "law.go:119", after := #[{ on := 19, ground := Go.Ground.chain }, { on := 19, ground := Go.Ground.guard }], guard := some (19, true) }) rfl (fun K hK => ?_) AllReadyH.nil
    go_simp
    refine (lives20 _).mono ?_
    rintro e V10 ⟨rfl, hb⟩
    have HS0' : Hid ((fun W => ((fun W : World => RR W rb R false ∧ RT W T12 X' ∧ Rt c W T mb cn M X ∧ RE W X' ∧ Below w.heap.size w W) W) ∧ RB W v9 (num 0 cn ++ tabB X 8)) V10) := Lib.hid ⟨HSX.out _ HS0.out.1 V10 hb, HS0.out.2.kept hb⟩
    clear hb
    clear HS0
    have HS0 := HS0'
    clear HS0'
    refine hK.out _ _ HS0.out (fun hHeld => ?_)
    clear hK K hHeld
    try simp only [Act.put, List.setIfInBounds_toArray, List.set_cons_zero, List.set_cons_succ]
    refine wpAnyH_take (i := 21) (oi := { dst := some 78, op := Go.Op.pick (Go.Operand.tmp 76) (Go.Operand.tmp 77) (Go.Operand.const (Go.Value.bool false)), type := 4, pos := "law.go:119", after := #[{ on := 19, ground := Go.Ground.data }, { on := 20, ground := Go.Ground.data }], guard := none }) (v := ?_) rfl (by kernel_rfl) (by kernel_rfl) (by kernel_rfl) (fun _ _ _ h => h) (Or.inl ⟨by rfl, ?_⟩) HS0.out ?_
    case refine_2 => (intro w1 hS1; clear hS1; go_simp; try with_reducible rfl)
    try simp only [Act.put, List.setIfInBounds_toArray, List.set_cons_zero, List.set_cons_succ]
    refine wpAnyH_take (i := 22) (oi := { dst := some 2, op := Go.Op.assign (Go.Operand.tmp 78), type := 4, pos := "law.go:119", after := #[{ on := 21, ground := Go.Ground.data }, { on := 20, ground := Go.Ground.chain }, { on := 0, ground := Go.Ground.phase }, { on := 1, ground := Go.Ground.phase }, { on := 2, ground := Go.Ground.phase }, { on := 3, ground := Go.Ground.phase }, { on := 4, ground := Go.Ground.phase }, { on := 5, ground := Go.Ground.phase }, { on := 6, ground := Go.Ground.phase }, { on := 7, ground := Go.Ground.phase }, { on := 8, ground := Go.Ground.phase }, { on := 9, ground := Go.Ground.phase }, { on := 10, ground := Go.Ground.phase }, { on := 11, ground := Go.Ground.phase }, { on := 12, ground := Go.Ground.phase }, { on := 13, ground := Go.Ground.phase }, { on := 14, ground := Go.Ground.phase }, { on := 15, ground := Go.Ground.phase }, { on := 16, ground := Go.Ground.phase }, { on := 17, ground := Go.Ground.phase }, { on := 18, ground := Go.Ground.phase }, { on := 19, ground := Go.Ground.phase }, { on := 20, ground := Go.Ground.phase }, { on := 21, ground := Go.Ground.phase }], guard := none }) (v := ?_) rfl (by kernel_rfl) (by kernel_rfl) (by kernel_rfl) (fun _ _ _ h => h) (Or.inl ⟨by rfl, ?_⟩) HS0.out ?_
    case refine_2 => (intro w1 hS1; clear hS1; go_simp; try with_reducible rfl)
    try simp only [Act.put, List.setIfInBounds_toArray, List.set_cons_zero, List.set_cons_succ]
    refine wpAnyH_done (by kernel_rfl) ?_ _
    go_wp2_with fail
    go_ret
    exact ⟨rfl, HS0.out.1.2.2.2.2⟩
theorem sreads_walk (a : Option Addr) (n cap : Nat) (bs : List Nat) (w : World) (h1 : BSc cap w a n bs) (hown : ∀ k, w.heap.size ≤ k → (Value.slice a n cap).ownBlock ≠ some k) :
    Calls Try.prog 8 #[.slice a n cap] w fun e w' => e = .returned (.bool true) ∧ Below w.heap.size w w' := by
  by_cases hn : 3000 < n
  · exact sreads_big a n cap w hn
  · exact sreads_walk0 a n cap bs w (h1.2 (by omega)) h1.1 hown (by omega)
end Go.Proofs.Ytnhaakdjijjinaa
