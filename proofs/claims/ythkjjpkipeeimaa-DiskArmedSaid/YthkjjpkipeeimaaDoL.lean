/- DiskKeeps: the law's walk. -/
import Derived.Test.YthkjjpkipeeimaaDoI
import Derived.Test.YthkjjpkipeeimaaDoJ
import Derived.Lib.MinMax
namespace Go.Proofs.Ythkjjpkipeeimaa
open Go.RowKit Go.Maps
theorem neq_str (s : ByteArray) (w : World) : (binOp .neq 9 (.string s) (.string s)).run Try.prog w = .ok (.bool false) w := by
  have h : Try.prog.underlying 9 = some .string := Try.underlying9
  go_simp
theorem neq_diff {p q : List UInt8} (hpq : p ≠ q) (w : World) : (binOp .neq 9 (encStr p) (encStr q)).run Try.prog w = .ok (.bool true) w := by
  show (binOp .neq 9 (.string ⟨p.toArray⟩) (.string ⟨q.toArray⟩)).run Try.prog w = _
  have h : Try.prog.underlying 9 = some .string := Try.underlying9
  have hb : (p == q) = false := beq_false_of_ne hpq
  go_simp
/-- A row of tears that came in. -/
def TrD (cap : Nat) (w : World) (a : Option Addr) (n : Nat) (T : List (Nat × Nat)) : Prop := n = T.length ∧ n ≤ maxLen ∧ TRow (fun k => w.heap.size ≤ k) w a T ∧ T.length ≤ cap ∧ ∀ t ∈ T, t.1 < 65536 ∧ t.2 < 4294967296
theorem tears_row {H : Type} {enc : TypeId × Value → H} {w : World} {base : Nat} {sp : Nat → Bool} {held : Bool} {fuel : Nat} {a : Option Addr} {n cap : Nat} {x : DataW H × List MemPlace}
    (h : DataW.trod enc Try.prog w base sp held fuel 32 (Value.slice a n cap).cells.toList = some x) : ∃ T, TrD cap w a n T := by
  have hn : n ≤ maxLen := by
    rcases Deep.open_slice Try.underlying32 h with ⟨hcs, _⟩ | ⟨x, l, c, m, nn, D, Pl, hcs, _, hl, hm, hmm, _, hi⟩
    · simp [Value.cells] at hcs
      obtain ⟨rfl, rfl, rfl⟩ := hcs
      unfold maxLen; omega
    · simp [Value.cells] at hcs
      obtain ⟨rfl, rfl, rfl⟩ := hcs
      unfold maxLen at *
      omega
  obtain ⟨a', c', ts, e, h1, h2, h3⟩ := tears_in h
  simp [Value.cells] at e
  obtain ⟨rfl, rfl, rfl⟩ := e
  exact ⟨ts, rfl, hn, h1, h2, h3⟩
set_option maxRecDepth 100000 in
set_option maxHeartbeats 8000000 in
theorem keeps_law (a0 : Option Addr) (n c0 : Nat) (O : Nat → Oq) (at0 : Option Addr) (nt ct : Nat) (T : List (Nat × Nat)) (w : World) (h : OpsD w a0 n O) (ht : TrD ct w at0 nt T) : Calls Try.prog 4 #[.slice a0 n c0, .slice at0 nt ct] w fun e w' => e = .returned (.bool true) ∧ Below w.heap.size w w' := by
  obtain ⟨rfl, hnt, htr, hct, hwf⟩ := ht
  have HO := Lib.hid h.2
  have HNM := Lib.hid h.1
  have HTR := Lib.hid htr
  have HCT := Lib.hid hct
  have HWF := Lib.hid hwf
  obtain ⟨lt, hlt⟩ : ∃ lt, T.length = lt := ⟨_, rfl⟩
  have HLT_ := Lib.hid hlt
  rw [hlt]
  clear h hnt htr hct hwf hlt
  go_enter Try.func4, Try.ntmps4
  go_wp2_with fail
  refine (light_any w.heap.size a0 n c0 O w HO.out (Nat.le_refl _) HNM.out).mono ?_
  rintro e w1 ⟨b, rfl, hli, hb1⟩
  have HW := Lib.hid hb1
  have HLI := Lib.hid hli
  clear hb1 hli
  cases b with
  | false =>
    go_wp2_with fail
    refine (lives23 w1).mono ?_
    rintro e wb ⟨rfl, hb⟩
    have HBB := Lib.hid (HW.out.trans (hb.mono HW.out.size))
    clear hb
    go_wp2_with fail
    go_ret
    exact ⟨rfl, HBB.out⟩
  | true =>
    have HLT := Lib.hid (HLI.out rfl)
    clear HLI
    by_cases h40 : 40 < lt
    · have d0 : decide ((lt : Int) > 40) = true := decide_eq_true (by omega)
      have d1 : decide (40 < (lt : Int)) = true := decide_eq_true (by omega)
      have d2 : decide (40 < lt) = true := decide_eq_true h40
      go_wp2_with fail
      refine (lives23 w1).mono ?_
      rintro e wb ⟨rfl, hb⟩
      have HBB := Lib.hid (HW.out.trans (hb.mono HW.out.size))
      clear hb
      go_wp2_with fail
      go_ret
      exact ⟨rfl, HBB.out⟩
    have d0 : decide ((lt : Int) > 40) = false := decide_eq_false (by omega)
    have d1 : decide (40 < (lt : Int)) = false := decide_eq_false (by omega)
    have d2 : decide (40 < lt) = false := decide_eq_false h40
    have HT40 := Lib.hid h40
    clear h40
    go_wp2_with fail
    refine (new_dk 4000 w1 (by decide)).mono ?_
    rintro e w2 ⟨B, rfl, hB, hdk, hb⟩
    have HDK := Lib.hid hdk
    have HBN := Lib.hid hB
    have HB2 := Lib.hid (HW.out.trans (hb.mono HW.out.size))
    have HW12 : Hid (w.heap.size ≤ w1.heap.size) := Lib.hid HW.out.size
    clear hdk hB hb HW d0 d1 d2
    go_wp2_with fail
    refine (rnew_any (fun k => w1.heap.size ≤ k ∧ k < w2.heap.size) 4000 w2).mono ?_
    rintro e w3 ⟨rfl, hra, hb⟩
    obtain ⟨m, mt, M, V, hk⟩ := HDK.out
    have H3 := Lib.hid (hk.below hb)
    have HA3 := Lib.hid hra
    have HB3 := Lib.hid (HB2.out.trans (hb.mono HB2.out.size))
    have HZ23 : Hid (w2.heap.size ≤ w3.heap.size) := Lib.hid hb.size
    clear hk hra hb HDK HB2
    obtain ⟨D, hD⟩ : ∃ D, d0 4000 = D := ⟨_, rfl⟩
    have HD0 : Hid (D.st ≤ 0) := Lib.hid (by rw [← hD]; exact Nat.le_refl _)
    rw [hD] at H3 HA3
    unfold RVal
    try rw [hD]
    clear hD
    dsimp only
    obtain ⟨hbx, hsx, -⟩ := box1 w3 #[.int .i64 D.room, .slice none D.fs.length 0, .bool D.down, .int .i64 (-1), .int .u64 (D.st : Int)] 30
    obtain ⟨N, hN⟩ : ∃ N, w3.heap.size = N := ⟨_, rfl⟩
    rw [hN] at hsx
    have H4 := Lib.hid (H3.out.below hbx)
    have HA4 := Lib.hid (HA3.out.below hbx)
    have HN4 := Lib.hid hsx
    have HB4 := Lib.hid (HB3.out.trans (hbx.mono HB3.out.size))
    have HNB : Hid (w.heap.size ≤ N) := Lib.hid (by have := HB3.out.size; omega)
    have HSN : Hid (∀ k, (fun k => w1.heap.size ≤ k ∧ k < w2.heap.size) k → w.heap.size ≤ k ∧ k ≠ N) := Lib.hid (fun k hk => by have := hk.1; have := hk.2; have := HZ23.out; have := HW12.out; omega)
    clear hbx hsx H3 HA3 HB3 HZ23
    go_upto_region 4 with fail
    try rw [hN]
    clear hN
    generalize w3.alloc (.cells #[.int .i64 D.room, .slice none D.fs.length 0, .bool D.down, .int .i64 (-1), .int .u64 (D.st : Int)] 30) = w4 at H4 HA4 HN4 HB4 ⊢
    go_wp2_with fail
    go_loopg [30] n (fun kx s30 wr => ∃ (i : Nat) (S : Nat → Prop) (D : Dd) (a : Option Addr) (c : Nat) (ar : Int), s30 = .int .i64 (i : Int) ∧ i ≤ n ∧ n - i ≤ kx ∧ Hid (DK S wr B D) ∧ Hid (RA S wr D a ar) ∧ Hid (wr.heap[N]? = some (.cells #[.int .i64 D.room, .slice a D.fs.length c, .bool D.down, .int .i64 ar, .int .u64 (D.st : Int)] 30 (0, 0))) ∧ Hid (Below w.heap.size w wr) ∧ Hid (∀ k, S k → w.heap.size ≤ k ∧ k ≠ N) ∧ Hid (D.st ≤ i))
    case atStart => exact ⟨0, _, D, none, 0, -1, rfl, by omega, by omega, Lib.hid ⟨m, mt, M, V, H4.out⟩, HA4, HN4, HB4, HSN, HD0⟩
    case round =>
      clear H4 HA4 HN4 HB4 HSN HD0
      obtain ⟨i, S, D, a, c, ar, rfl, hi, hix, HDK, HA, HN, HB, HSN, HST⟩ := hrel
      obtain ⟨w4, rfl⟩ : ∃ W, W = wr := ⟨_, rfl⟩
      by_cases hlt : i < n
      · have hltz : (i : Int) < (n : Int) := by omega
        have hi0 : (0 : Int) ≤ (i : Int) := by omega
        have HWI : Hid (wrap64 ((i : Int) + 1) = (i : Int) + 1) := Lib.hid (IntWalk.wrap64_in _ (by have := HLT.out.1; omega))
        obtain ⟨hok, htr, b, o, rfl, hbb, hbw, k0, k1, k2, k3, k4, k5⟩ := (HO.out.below HB.out) i hlt
        obtain ⟨y, hy⟩ : ∃ y, O i = y := ⟨_, rfl⟩
        have HLY := Lib.hid (HLT.out.2 i hlt)
        rw [hy] at hok htr k0 k1 k2 k3 k4 k5 HLY
        have HOK := Lib.hid hok
        have HTRy := Lib.hid htr
        obtain ⟨m, mt, M, V, hk⟩ := HDK.out
        obtain ⟨hb5, hs5, hz5⟩ := box1 w4 #[.int .i64 y.kd, .int .i64 y.n, encStr y.nm, encStr y.tt, encStr y.tx, .slice y.a y.ts.length y.c] 34
        have H5 := Lib.hid (hk.below hb5)
        have HA5 := Lib.hid (HA.out.below hb5)
        have HN5 := Lib.hid (ex_below HN.out hb5)
        have HB5 := Lib.hid (HB.out.trans (hb5.mono HB.out.size))
        have HTR5 := Lib.hid (HTRy.out.blb (hb5.mono HB.out.size))
        obtain ⟨NO, hNO⟩ : ∃ NO, w4.heap.size = NO := ⟨_, rfl⟩
        rw [hNO] at hs5
        have HO5 := Lib.hid hs5
        clear hy hok htr hbb hbw hk hb5 hs5 hz5 HDK HA HN HB HTRy hlt
        go_upto_region 7 with fail
        try rw [hNO]
        clear hNO k0 k1 k2 k3 k4 k5
        generalize w4.alloc (.cells #[.int .i64 y.kd, .int .i64 y.n, encStr y.nm, encStr y.tt, encStr y.tx, .slice y.a y.ts.length y.c] 34) = w5 at H5 HA5 HN5 HB5 HTR5 HO5 ⊢
        obtain ⟨c0', c1, c2, c3, c4⟩ := five_rd HN5.out
        obtain ⟨q0, q1, q2, q3, q4, q5⟩ := six_rd HO5.out
        have HC := Lib.hid (do_any (B0 := w.heap.size) c H5.out HA5.out (by have := HST.out; have := HLT.out.1; omega) (fun k hk => (HSN.out k hk).1) HB5.out.size y HOK.out HTR5.out HLY.out)
        unfold OqV RVal at HC
        go_wp2_with fail
        refine HC.out.mono ?_
        rintro e w6 ⟨S1, ra1, rc1, rr1, rfl, hdk, hfr, hra⟩
        clear HC c0' c1 c2 c3 c4 q0 q1 q2 q3 q4 q5
        obtain ⟨D1, hD1⟩ : ∃ D1, opD D y = D1 := ⟨_, rfl⟩
        have HST1 : Hid (D1.st ≤ i + 1) := Lib.hid (by have h1 := op_st D y; rw [hD1] at h1; have := HST.out; omega)
        rw [hD1] at hdk hra
        unfold RVal
        try rw [hD1]
        clear hD1
        dsimp only
        have hNs : ¬ S N := fun hs => (HSN.out N hs).2 rfl
        have hNo := hfr.out (ex_lt HN5.out) hNs
        have HN7 := Lib.hid (hNo.1.trans HN5.out)
        have HSN1 : Hid (∀ k, S1 k → w.heap.size ≤ k ∧ k ≠ N) := Lib.hid (fun k hk => by
          rcases hfr.2.2 k hk with h1 | h1
          · exact HSN.out k h1
          · have := HB5.out.size
            have := ex_lt HN5.out
            exact ⟨by omega, by omega⟩)
        have HB7 := Lib.hid (HB5.out.trans (hfr.1.toBelow HB5.out.size (fun k hk => (HSN.out k hk).1)))
        have HDK7 := Lib.hid hdk
        have HA7 := Lib.hid hra
        clear hdk hfr hra hNs hNo H5 HA5 HN5 HB5 HTR5 HO5 HOK HLY
        obtain ⟨c0', c1, c2, c3, c4⟩ := five_rd HN7.out
        have fz : ∀ o, w6.frozen? ⟨N, o, none⟩ = false := fun o => by simp [World.frozen?, HN7.out]
        have HN7' := Lib.hid (set5 HN7.out (.int .i64 D1.room) (.slice ra1 D1.fs.length rc1) (.bool D1.down) (.int .i64 rr1) (.int .u64 (D1.st : Int)))
        have hoff : ∀ k, k ≠ N → (((((w6.setCell ⟨N, 0, none⟩ (.int .i64 D1.room)).setCell ⟨N, 1, none⟩ (.slice ra1 D1.fs.length rc1)).setCell ⟨N, 2, none⟩ (.bool D1.down)).setCell ⟨N, 3, none⟩ (.int .i64 rr1)).setCell ⟨N, 4, none⟩ (.int .u64 (D1.st : Int))).heap[k]? = w6.heap[k]? := fun k hk => set5_out hk _ _ _ _ _
        have HA7' := Lib.hid (HA7.out.box5 (W := (((((w6.setCell ⟨N, 0, none⟩ (.int .i64 D1.room)).setCell ⟨N, 1, none⟩ (.slice ra1 D1.fs.length rc1)).setCell ⟨N, 2, none⟩ (.bool D1.down)).setCell ⟨N, 3, none⟩ (.int .i64 rr1)).setCell ⟨N, 4, none⟩ (.int .u64 (D1.st : Int)))) HN7.out hoff (by simp))
        have HDK7' : Hid (DK S1 (((((w6.setCell ⟨N, 0, none⟩ (.int .i64 D1.room)).setCell ⟨N, 1, none⟩ (.slice ra1 D1.fs.length rc1)).setCell ⟨N, 2, none⟩ (.bool D1.down)).setCell ⟨N, 3, none⟩ (.int .i64 rr1)).setCell ⟨N, 4, none⟩ (.int .u64 (D1.st : Int))) B D1) := Lib.hid (by
          obtain ⟨m, mt, M, V, hk⟩ := HDK7.out
          exact ⟨m, mt, M, V, hk.move (by simp) (fun k _ hs => hoff k (HSN1.out k hs).2)⟩)
        have HB7' := Lib.hid (below_two (below_two (below_two (below_two (below_two (HB7.out) (show w.heap.size ≤ N from HNB.out) 0 (.int .i64 D1.room)) (show w.heap.size ≤ N from HNB.out) 1 (.slice ra1 D1.fs.length rc1)) (show w.heap.size ≤ N from HNB.out) 2 (.bool D1.down)) (show w.heap.size ≤ N from HNB.out) 3 (.int .i64 rr1)) (show w.heap.size ≤ N from HNB.out) 4 (.int .u64 (D1.st : Int)))
        clear hoff HN7 HA7 HDK7 HB7
        go_upto_region 8 with fail
        generalize (((((w6.setCell ⟨N, 0, none⟩ (.int .i64 D1.room)).setCell ⟨N, 1, none⟩ (.slice ra1 D1.fs.length rc1)).setCell ⟨N, 2, none⟩ (.bool D1.down)).setCell ⟨N, 3, none⟩ (.int .i64 rr1)).setCell ⟨N, 4, none⟩ (.int .u64 (D1.st : Int))) = w7 at HN7' HA7' HDK7' HB7' ⊢
        clear c0' c1 c2 c3 c4 fz
        go_wp2_with fail
        go_roundg (n - (i + 1))
        case measure => omega
        case rel => exact ⟨i + 1, S1, D1, ra1, rc1, rr1, by rw [HWI.out]; rfl, by omega, by omega, HDK7', HA7', HN7', HB7', HSN1, HST1⟩
      · have hltz : ¬ (i : Int) < (n : Int) := by omega
        clear hi hix hlt HA HN HO HST
        obtain ⟨m, mt, M, V, hk⟩ := HDK.out
        have H4 := Lib.hid hk
        have HBDS := Lib.hid hk.bd
        have HFEW : Hid (D.fs.length ≤ 1000) := Lib.hid (by have := H4.out.fit.few; omega)
        clear hk HDK
        obtain ⟨L, hL⟩ : ∃ L, D.fs = L := ⟨_, rfl⟩
        have HLE_ := Lib.hid hL
        have HSRT : Hid (SrtF L) := Lib.hid (by rw [← hL]; exact H4.out.fit.srt)
        have HOKL : Hid (∀ p ∈ L, (∀ c ∈ p.2.all, c < 256) ∧ p.2.kept ≤ p.2.all.length ∧ p.2.all.length ≤ 1048576) := Lib.hid (fun p hp => by
          rw [← hL] at hp
          have h1 := H4.out.fit.ok p.1 p.2 (getF_of_mem H4.out.fit.srt hp)
          exact ⟨h1.1, h1.2.1, by have := sum_le hp; have := H4.out.fit.sum; omega⟩)
        clear hL
        go_wp2_with fail
        refine (dfilesO H4.out).mono ?_
        rintro e w5 ⟨aw, cw, rfl, hgo, hb⟩
        have H5 := Lib.hid (H4.out.below hb)
        have HB5 := Lib.hid (HB.out.trans (hb.mono HB.out.size))
        have HG5 := Lib.hid hgo
        rw [HLE_.out] at HG5 ⊢
        clear hgo hb H4 HB
        have HCR := Lib.hid (dcrash_did H5.out at0 ct T (fun i hi => by
          obtain ⟨b, o, e, h1, h2, h3⟩ := (HTR.out.blb HB5.out) i hi
          exact ⟨b, o, e, h1, fun hs => h2 (HSN.out b hs).1, h3⟩) HCT.out HWF.out)
        rw [HLT_.out] at HCR
        go_wp2_with fail
        refine HCR.out.mono ?_
        rintro e w6 ⟨S2, rfl, hdk, hfr⟩
        clear HCR
        have HG6 := Lib.hid (HG5.out.only hfr.1 HBDS.out)
        have HB6 := Lib.hid (HB5.out.trans (hfr.1.toBelow HB5.out.size (fun k hk => (HSN.out k hk).1)))
        obtain ⟨m2, mt2, M2, V2, hk2⟩ := hdk
        have H6 := Lib.hid hk2
        clear hfr hk2 H5 HB5 HG5 HSN HBDS
        have HDN := Lib.hid (ddown_any H6.out)
        rw [show (crashD D T, (0 : Int)).1.down = true from rfl] at HDN
        go_wp2_with fail
        refine HDN.out.mono ?_
        rintro e w6' ⟨rfl, rfl⟩
        clear HDN
        go_wp2_with fail
        refine (dfilesO H6.out).mono ?_
        rintro e w7 ⟨an, cn, rfl, hgo, hb⟩
        obtain ⟨NW, hNW⟩ : ∃ NW, crashF L T = NW := ⟨_, rfl⟩
        have hfs : (crashD D T, (0 : Int)).1.fs = NW := by rw [← hNW, ← HLE_.out]; rfl
        have HFN := Lib.hid H6.out.fit
        rw [hfs] at hgo ⊢
        have HOKN : Hid (∀ p ∈ NW, (∀ c ∈ p.2.all, c < 256) ∧ p.2.all.length ≤ 1048576) := Lib.hid (fun p hp => by
          rw [← hfs] at hp
          have h1 := HFN.out.ok p.1 p.2 (getF_of_mem HFN.out.srt hp)
          have h3 : sumF (crashD D T).fs ≤ 1048576 := HFN.out.sum
          have h4 : p.2.all.length ≤ sumF (crashD D T).fs := sum_le hp
          exact ⟨h1.1, by omega⟩)
        have HRN := Lib.hid (hgo.row HOKN.out)
        have HRW := Lib.hid ((HG6.out.only (S := fun _ => False) (Only.below hb) (fun _ h => h.elim)).row (fun p hp => ⟨(HOKL.out p hp).1, (HOKL.out p hp).2.2⟩))
        have HB7 := Lib.hid (HB6.out.trans (hb.mono HB6.out.size))
        have HNWE := Lib.hid hNW
        have HLEN : Hid (L.length ≤ 1000) := Lib.hid (by rw [← HLE_.out]; exact HFEW.out)
        obtain ⟨ln, hln⟩ : ∃ ln, L.length = ln := ⟨_, rfl⟩
        obtain ⟨l2, hl2⟩ : ∃ l2, NW.length = l2 := ⟨_, rfl⟩
        have HLN := Lib.hid hln
        have HL2 := Lib.hid hl2
        rw [hln, hl2]
        clear hfs hgo hb hNW hln hl2 HG6 HB6 HFN H6
        go_wp2_with fail
        go_loopg [11, 57] ln (fun kx s11 s57 wr => ∃ (i at_ : Nat) (tq : List (Nat × Nat)), s57 = .int .i64 (i : Int) ∧ s11 = .int .i64 (at_ : Int) ∧ i ≤ ln ∧ ln - i ≤ kx ∧ at_ ≤ i ∧ at_ ≤ l2 ∧ Hid (NW.drop at_ = crashF (L.drop i) tq) ∧ Hid (Below w7.heap.size w7 wr))
        case atStart => exact ⟨0, 0, T, rfl, rfl, by omega, by omega, by omega, by omega, Lib.hid (by rw [List.drop_zero, List.drop_zero]; exact HNWE.out.symm), Lib.hid (Below.refl _ _)⟩
        case round =>
          obtain ⟨i, at_, tq, rfl, rfl, hi, hk, hai, hal2, HE, HBR⟩ := hrel
          obtain ⟨w8, rfl⟩ : ∃ W, W = wr := ⟨_, rfl⟩
          by_cases hlt : i < ln
          · have hltz : (i : Int) < (ln : Int) := by omega
            have hi0 : (0 : Int) ≤ (i : Int) := by omega
            have hiL : i < L.length := by rw [HLN.out]; exact hlt
            have HWI : Hid (wrap64 ((i : Int) + 1) = (i : Int) + 1) := Lib.hid (IntWalk.wrap64_in _ (by have := HLEN.out; have := HLN.out; omega))
            have HWA : Hid (wrap64 ((at_ : Int) + 1) = (at_ : Int) + 1) := Lib.hid (IntWalk.wrap64_in _ (by have := HLEN.out; have := HLN.out; omega))
            obtain ⟨b, o, v1, v2, rfl, -, k0, k1, k2, r1, r2⟩ := (HRW.out.below HBR.out) i hiL
            have hdr := List.drop_eq_getElem_cons hiL
            have hokf := HOKL.out L[i] (List.getElem_mem hiL)
            have hmem := List.getElem_mem hiL
            obtain ⟨p, hp⟩ : ∃ p, L[i] = p := ⟨_, rfl⟩
            obtain ⟨nm, f⟩ := p
            rw [hp] at k0 r1 r2 hdr hokf hmem
            dsimp only at k0 r1 r2 hokf
            have HOKF := Lib.hid hokf
            have hes := HE.out
            rw [hdr, crash_step] at hes
            have HGD := Lib.hid (gF_ok (f := f) tq hokf.2.1)
            obtain ⟨g, hg⟩ : ∃ g, gF f tq = g := ⟨_, rfl⟩
            rw [hg] at hes HGD
            have HES := Lib.hid hes
            have HGT : Hid (∀ q ∈ L.drop (i + 1), nm < q.1) := Lib.hid (fun q hq => by
              have h1 : SrtF (L.drop i) := List.Pairwise.sublist (List.drop_sublist i L) HSRT.out
              rw [hdr] at h1
              exact (List.pairwise_cons.1 h1).1 q hq)
            clear hp hiL hdr hokf hmem hes hg HE
            obtain ⟨a1, c1, hs1, -⟩ := r1.shape
            obtain ⟨a2, c2, hs2, -⟩ := r2.shape
            obtain ⟨n1, hn1⟩ : ∃ n1, (f.all.take f.kept).length = n1 := ⟨_, rfl⟩
            obtain ⟨n2, hn2⟩ : ∃ n2, (f.all.drop f.kept).length = n2 := ⟨_, rfl⟩
            rw [hn1] at hs1
            rw [hn2] at hs2
            subst hs1 hs2
            have HN1 : Hid (n1 = f.kept) := Lib.hid (by rw [← hn1, List.length_take]; have := HOKF.out.2.1; omega)
            clear hn1 hn2
            obtain ⟨hb5, hs5, -⟩ := box1 w8 #[encStr nm, .slice a1 n1 c1, .slice a2 n2 c2] 53
            have HFQ := Lib.hid hs5
            have HBQ := Lib.hid (HBR.out.trans (hb5.mono HBR.out.size))
            have HR1 := Lib.hid (r1.kept hb5)
            have HR2 := Lib.hid (r2.kept hb5)
            obtain ⟨NF, hNF⟩ : ∃ NF, w8.heap.size = NF := ⟨_, rfl⟩
            rw [hNF] at HFQ
            clear hb5 hs5 r1 r2 HBR
            go_upto_region 17 with fail
            try rw [hNF]
            clear hNF k0 k1 k2
            generalize w8.alloc (.cells #[encStr nm, .slice a1 n1 c1, .slice a2 n2 c2] 53) = w9 at HFQ HBQ HR1 HR2 ⊢
            have HDq : Hid (Below w9.heap.size w9 w9.drew) := Lib.hid (Below.refl _ _).drew
            have HR1d := Lib.hid (HR1.out.kept HDq.out)
            have HR2d := Lib.hid (HR2.out.kept HDq.out)
            clear HR1 HR2 HDq
            generalize hWQ : w9.drew = wq at HR1d HR2d
            by_cases hz : g.all = []
            · have HEZ : Hid (NW.drop at_ = crashF (L.drop (i + 1)) (rT f tq)) := Lib.hid (by
                rw [HES.out]
                unfold oneF
                rw [if_pos hz]
                rfl)
              have HK0 : Hid (n1 = 0) := Lib.hid (by rw [HN1.out]; have := HGD.out.ge; rw [hz] at this; simpa using this)
              clear hz HR1d HR2d hWQ wq
              by_cases hge : l2 ≤ at_
              · have HGE := Lib.hid hge
                clear hge
                have HB_d : Hid (Below w7.heap.size w7 w9.drew) := Lib.hid HBQ.out.drew
                have HF_d : Hid (w9.drew.heap[NF]? = some (.cells #[encStr nm, .slice a1 n1 c1, .slice a2 n2 c2] 53 (0, 0))) := Lib.hid HFQ.out
                have HS0 : Hid ((fun W : World => Below w9.drew.heap.size w9.drew W) w9.drew) := Lib.hid (Below.refl _ _)
                refine wp_region_held_drew (S := (fun W : World => Below w9.drew.heap.size w9.drew W)) (by kernel_rfl) HS0.out (fun hHeld => ?_)
                clear hHeld HBQ HFQ
                generalize w9.drew = wd at HB_d HF_d HS0 ⊢
                refine wpAnyH_take (i := 0) (oi := { dst := some 61, op := Go.Op.move (Go.Operand.tmp 11), type := 3, pos := "law.go:135", after := #[], guard := none }) (v := ?_) rfl (by kernel_rfl) (by kernel_rfl) (by kernel_rfl) (fun _ _ _ h => h) (Or.inl ⟨by rfl, ?_⟩) HS0.out ?_
                case refine_2 => (intro w1 hS1; clear hS1; go_simp; try with_reducible rfl)
                try simp only [Act.put, List.setIfInBounds_toArray, List.set_cons_zero, List.set_cons_succ]
                refine wpAnyH_take (i := 1) (oi := { dst := some 62, op := Go.Op.move (Go.Operand.tmp 10), type := 47, pos := "law.go:135", after := #[], guard := none }) (v := ?_) rfl (by kernel_rfl) (by kernel_rfl) (by kernel_rfl) (fun _ _ _ h => h) (Or.inl ⟨by rfl, ?_⟩) HS0.out ?_
                case refine_2 => (intro w1 hS1; clear hS1; go_simp; try with_reducible rfl)
                try simp only [Act.put, List.setIfInBounds_toArray, List.set_cons_zero, List.set_cons_succ]
                refine wpAnyH_take (i := 2) (oi := { dst := some 63, op := Go.Op.call { callee := Go.Callee.builtin Go.Builtin.len, args := #[Go.Operand.tmp 62], argTypes := #[47] }, type := 3, pos := "law.go:135", after := #[{ on := 1, ground := Go.Ground.data }], guard := none }) (v := .int .i64 (l2 : Int)) rfl (by kernel_rfl) (by kernel_rfl) (by kernel_rfl) (fun _ _ _ h => h) (Or.inl ⟨by rfl, ?_⟩) HS0.out ?_
                case refine_1 => (intro w1 hS1; clear hS1; go_simp; try with_reducible rfl)
                try simp only [Act.put, List.setIfInBounds_toArray, List.set_cons_zero, List.set_cons_succ]
                refine wpAnyH_take (i := 3) (oi := { dst := some 64, op := Go.Op.binOp Go.BinOp.geq 3 (Go.Operand.tmp 61) (Go.Operand.tmp 63) 3, type := 4, pos := "law.go:135", after := #[{ on := 0, ground := Go.Ground.data }, { on := 2, ground := Go.Ground.data }], guard := none }) (v := .bool true) rfl (by kernel_rfl) (by kernel_rfl) (by kernel_rfl) (fun _ _ _ h => h) (Or.inl ⟨by rfl, ?_⟩) HS0.out ?_
                case refine_1 => (intro w1 hS1; clear hS1; have d0 : decide ((at_ : Int) ≥ (l2 : Int)) = true := decide_eq_true (by have := HGE.out; omega); have d1 : decide ((l2 : Int) ≤ (at_ : Int)) = true := decide_eq_true (by have := HGE.out; omega); have d2 : decide (l2 ≤ at_) = true := decide_eq_true HGE.out; go_simp; try with_reducible rfl)
                try simp only [Act.put, List.setIfInBounds_toArray, List.set_cons_zero, List.set_cons_succ]
                refine wpAnyH_take (i := 4) (oi := { dst := some 65, op := Go.Op.move (Go.Operand.tmp 64), type := 4, pos := "law.go:135", after := #[{ on := 3, ground := Go.Ground.data }], guard := none }) (v := ?_) rfl (by kernel_rfl) (by kernel_rfl) (by kernel_rfl) (fun _ _ _ h => h) (Or.inl ⟨by rfl, ?_⟩) HS0.out ?_
                case refine_2 => (intro w1 hS1; clear hS1; go_simp; try with_reducible rfl)
                try simp only [Act.put, List.setIfInBounds_toArray, List.set_cons_zero, List.set_cons_succ]
                refine wpAnyH_take (i := 5) (oi := { dst := some 66, op := Go.Op.move (Go.Operand.tmp 10), type := 47, pos := "law.go:135", after := #[{ on := 4, ground := Go.Ground.guard }], guard := some (4, false) }) (v := undef) rfl (by kernel_rfl) (by kernel_rfl) (by kernel_rfl) (fun _ _ _ h => h) (Or.inr ⟨by rfl, rfl⟩) HS0.out ?_
                try simp only [Act.put, List.setIfInBounds_toArray, List.set_cons_zero, List.set_cons_succ]
                refine wpAnyH_take (i := 6) (oi := { dst := some 67, op := Go.Op.move (Go.Operand.tmp 11), type := 3, pos := "law.go:135", after := #[{ on := 4, ground := Go.Ground.guard }], guard := some (4, false) }) (v := undef) rfl (by kernel_rfl) (by kernel_rfl) (by kernel_rfl) (fun _ _ _ h => h) (Or.inr ⟨by rfl, rfl⟩) HS0.out ?_
                try simp only [Act.put, List.setIfInBounds_toArray, List.set_cons_zero, List.set_cons_succ]
                refine wpAnyH_take (i := 7) (oi := { dst := some 68, op := Go.Op.indexAddr 47 (Go.Operand.tmp 66) (Go.Operand.tmp 67), type := 0, pos := "law.go:135", after := #[{ on := 5, ground := Go.Ground.data }, { on := 6, ground := Go.Ground.data }, { on := 4, ground := Go.Ground.guard }], guard := some (4, false) }) (v := undef) rfl (by kernel_rfl) (by kernel_rfl) (by kernel_rfl) (fun _ _ _ h => h) (Or.inr ⟨by rfl, rfl⟩) HS0.out ?_
                try simp only [Act.put, List.setIfInBounds_toArray, List.set_cons_zero, List.set_cons_succ]
                refine wpAnyH_take (i := 8) (oi := { dst := some 69, op := Go.Op.fieldAddr 53 (Go.Operand.tmp 68) 0, type := 0, pos := "law.go:135", after := #[{ on := 7, ground := Go.Ground.data }, { on := 4, ground := Go.Ground.guard }], guard := some (4, false) }) (v := undef) rfl (by kernel_rfl) (by kernel_rfl) (by kernel_rfl) (fun _ _ _ h => h) (Or.inr ⟨by rfl, rfl⟩) HS0.out ?_
                try simp only [Act.put, List.setIfInBounds_toArray, List.set_cons_zero, List.set_cons_succ]
                refine wpAnyH_take (i := 9) (oi := { dst := some 70, op := Go.Op.load 9 (Go.Operand.tmp 69), type := 9, pos := "law.go:135", after := #[{ on := 8, ground := Go.Ground.data }, { on := 4, ground := Go.Ground.guard }], guard := some (4, false) }) (v := undef) rfl (by kernel_rfl) (by kernel_rfl) (by kernel_rfl) (fun _ _ _ h => h) (Or.inr ⟨by rfl, rfl⟩) HS0.out ?_
                try simp only [Act.put, List.setIfInBounds_toArray, List.set_cons_zero, List.set_cons_succ]
                refine wpAnyH_take (i := 10) (oi := { dst := some 71, op := Go.Op.fieldAddr 53 (Go.Operand.tmp 13) 0, type := 0, pos := "law.go:135", after := #[{ on := 4, ground := Go.Ground.guard }], guard := some (4, false) }) (v := undef) rfl (by kernel_rfl) (by kernel_rfl) (by kernel_rfl) (fun _ _ _ h => h) (Or.inr ⟨by rfl, rfl⟩) HS0.out ?_
                try simp only [Act.put, List.setIfInBounds_toArray, List.set_cons_zero, List.set_cons_succ]
                refine wpAnyH_take (i := 11) (oi := { dst := some 72, op := Go.Op.load 9 (Go.Operand.tmp 71), type := 9, pos := "law.go:135", after := #[{ on := 10, ground := Go.Ground.data }, { on := 4, ground := Go.Ground.guard }], guard := some (4, false) }) (v := undef) rfl (by kernel_rfl) (by kernel_rfl) (by kernel_rfl) (fun _ _ _ h => h) (Or.inr ⟨by rfl, rfl⟩) HS0.out ?_
                try simp only [Act.put, List.setIfInBounds_toArray, List.set_cons_zero, List.set_cons_succ]
                refine wpAnyH_take (i := 12) (oi := { dst := some 73, op := Go.Op.binOp Go.BinOp.neq 9 (Go.Operand.tmp 70) (Go.Operand.tmp 72) 9, type := 4, pos := "law.go:135", after := #[{ on := 9, ground := Go.Ground.data }, { on := 11, ground := Go.Ground.data }, { on := 4, ground := Go.Ground.guard }], guard := some (4, false) }) (v := undef) rfl (by kernel_rfl) (by kernel_rfl) (by kernel_rfl) (fun _ _ _ h => h) (Or.inr ⟨by rfl, rfl⟩) HS0.out ?_
                try simp only [Act.put, List.setIfInBounds_toArray, List.set_cons_zero, List.set_cons_succ]
                refine wpAnyH_take (i := 13) (oi := { dst := some 74, op := Go.Op.pick (Go.Operand.tmp 65) (Go.Operand.const (Go.Value.bool true)) (Go.Operand.tmp 73), type := 4, pos := "law.go:135", after := #[{ on := 4, ground := Go.Ground.data }, { on := 12, ground := Go.Ground.data }], guard := none }) (v := .bool true) rfl (by kernel_rfl) (by kernel_rfl) (by kernel_rfl) (fun _ _ _ h => h) (Or.inl ⟨by rfl, ?_⟩) HS0.out ?_
                case refine_1 => (intro w1 hS1; clear hS1; go_simp; try with_reducible rfl)
                try simp only [Act.put, List.setIfInBounds_toArray, List.set_cons_zero, List.set_cons_succ]
                refine wpAnyH_done (by kernel_rfl) ?_ _
                have dk0 : decide ((n1 : Int) > 0) = false := decide_eq_false (by have := HK0.out; omega)
                have dk1 : decide (0 < (n1 : Int)) = false := decide_eq_false (by have := HK0.out; omega)
                have dk2 : decide (0 < n1) = false := decide_eq_false (by have := HK0.out; omega)
                obtain ⟨x0, x1, x2⟩ := three_rd HF_d.out
                go_wp2_with fail
                go_roundg (ln - (i + 1))
                case measure => omega
                case rel => exact ⟨i + 1, at_, _, by rw [HWI.out]; rfl, rfl, by omega, by omega, by omega, hal2, HEZ, HB_d⟩
              · have HLT2 : Hid (at_ < l2) := Lib.hid (by omega)
                have hatl : at_ < NW.length := by rw [HL2.out]; omega
                obtain ⟨rb, ro, v3, v4, e1, -, y0, -, -, -, -⟩ := (HRN.out.below HBQ.out) at_ hatl
                subst e1
                have hd2 := List.drop_eq_getElem_cons hatl
                obtain ⟨pq, hpq⟩ : ∃ pq, NW[at_] = pq := ⟨_, rfl⟩
                obtain ⟨nq, gq⟩ := pq
                rw [hpq] at y0 hd2
                dsimp only at y0
                have HDF : Hid (nq ≠ nm) := Lib.hid (fun e => by
                  have h1 : (nq, gq) ∈ crashF (L.drop (i + 1)) (rT f tq) := by rw [← HEZ.out, hd2]; exact List.mem_cons_self
                  obtain ⟨f2, h2⟩ := crash_names h1
                  have h3 := HGT.out _ h2
                  simp only at h3
                  rw [e] at h3
                  exact nm_irrefl _ h3)
                have HY00 := Lib.hid y0
                clear hge hatl hd2 hpq y0
                have HDD : Hid (Below w9.heap.size w9 w9.drew) := Lib.hid (Below.refl _ _).drew
                have HY0 := Lib.hid ((HDD.out.cell (p := ⟨rb, ro + at_ * 3, none⟩) (cell_spot HY00.out).2).trans HY00.out)
                clear HY00 HDD
                have HB_d : Hid (Below w7.heap.size w7 w9.drew) := Lib.hid HBQ.out.drew
                have HF_d : Hid (w9.drew.heap[NF]? = some (.cells #[encStr nm, .slice a1 n1 c1, .slice a2 n2 c2] 53 (0, 0))) := Lib.hid HFQ.out
                have HS0 : Hid ((fun W : World => Below w9.drew.heap.size w9.drew W) w9.drew) := Lib.hid (Below.refl _ _)
                refine wp_region_held_drew (S := (fun W : World => Below w9.drew.heap.size w9.drew W)) (by kernel_rfl) HS0.out (fun hHeld => ?_)
                clear hHeld HBQ HFQ
                generalize w9.drew = wd at HB_d HF_d HS0 HY0 ⊢
                refine wpAnyH_take (i := 0) (oi := { dst := some 61, op := Go.Op.move (Go.Operand.tmp 11), type := 3, pos := "law.go:135", after := #[], guard := none }) (v := ?_) rfl (by kernel_rfl) (by kernel_rfl) (by kernel_rfl) (fun _ _ _ h => h) (Or.inl ⟨by rfl, ?_⟩) HS0.out ?_
                case refine_2 => (intro w1 hS1; clear hS1; go_simp; try with_reducible rfl)
                try simp only [Act.put, List.setIfInBounds_toArray, List.set_cons_zero, List.set_cons_succ]
                refine wpAnyH_take (i := 1) (oi := { dst := some 62, op := Go.Op.move (Go.Operand.tmp 10), type := 47, pos := "law.go:135", after := #[], guard := none }) (v := ?_) rfl (by kernel_rfl) (by kernel_rfl) (by kernel_rfl) (fun _ _ _ h => h) (Or.inl ⟨by rfl, ?_⟩) HS0.out ?_
                case refine_2 => (intro w1 hS1; clear hS1; go_simp; try with_reducible rfl)
                try simp only [Act.put, List.setIfInBounds_toArray, List.set_cons_zero, List.set_cons_succ]
                refine wpAnyH_take (i := 2) (oi := { dst := some 63, op := Go.Op.call { callee := Go.Callee.builtin Go.Builtin.len, args := #[Go.Operand.tmp 62], argTypes := #[47] }, type := 3, pos := "law.go:135", after := #[{ on := 1, ground := Go.Ground.data }], guard := none }) (v := .int .i64 (l2 : Int)) rfl (by kernel_rfl) (by kernel_rfl) (by kernel_rfl) (fun _ _ _ h => h) (Or.inl ⟨by rfl, ?_⟩) HS0.out ?_
                case refine_1 => (intro w1 hS1; clear hS1; go_simp; try with_reducible rfl)
                try simp only [Act.put, List.setIfInBounds_toArray, List.set_cons_zero, List.set_cons_succ]
                refine wpAnyH_take (i := 3) (oi := { dst := some 64, op := Go.Op.binOp Go.BinOp.geq 3 (Go.Operand.tmp 61) (Go.Operand.tmp 63) 3, type := 4, pos := "law.go:135", after := #[{ on := 0, ground := Go.Ground.data }, { on := 2, ground := Go.Ground.data }], guard := none }) (v := .bool false) rfl (by kernel_rfl) (by kernel_rfl) (by kernel_rfl) (fun _ _ _ h => h) (Or.inl ⟨by rfl, ?_⟩) HS0.out ?_
                case refine_1 => (intro w1 hS1; clear hS1; have d0 : decide ((at_ : Int) ≥ (l2 : Int)) = false := decide_eq_false (by have := HLT2.out; omega); have d1 : decide ((l2 : Int) ≤ (at_ : Int)) = false := decide_eq_false (by have := HLT2.out; omega); have d2 : decide (l2 ≤ at_) = false := decide_eq_false (by have := HLT2.out; omega); go_simp; try with_reducible rfl)
                try simp only [Act.put, List.setIfInBounds_toArray, List.set_cons_zero, List.set_cons_succ]
                refine wpAnyH_take (i := 4) (oi := { dst := some 65, op := Go.Op.move (Go.Operand.tmp 64), type := 4, pos := "law.go:135", after := #[{ on := 3, ground := Go.Ground.data }], guard := none }) (v := ?_) rfl (by kernel_rfl) (by kernel_rfl) (by kernel_rfl) (fun _ _ _ h => h) (Or.inl ⟨by rfl, ?_⟩) HS0.out ?_
                case refine_2 => (intro w1 hS1; clear hS1; go_simp; try with_reducible rfl)
                try simp only [Act.put, List.setIfInBounds_toArray, List.set_cons_zero, List.set_cons_succ]
                refine wpAnyH_take (i := 5) (oi := { dst := some 66, op := Go.Op.move (Go.Operand.tmp 10), type := 47, pos := "law.go:135", after := #[{ on := 4, ground := Go.Ground.guard }], guard := some (4, false) }) (v := ?_) rfl (by kernel_rfl) (by kernel_rfl) (by kernel_rfl) (fun _ _ _ h => h) (Or.inl ⟨by rfl, ?_⟩) HS0.out ?_
                case refine_2 => (intro w1 hS1; clear hS1; go_simp; try with_reducible rfl)
                try simp only [Act.put, List.setIfInBounds_toArray, List.set_cons_zero, List.set_cons_succ]
                refine wpAnyH_take (i := 6) (oi := { dst := some 67, op := Go.Op.move (Go.Operand.tmp 11), type := 3, pos := "law.go:135", after := #[{ on := 4, ground := Go.Ground.guard }], guard := some (4, false) }) (v := ?_) rfl (by kernel_rfl) (by kernel_rfl) (by kernel_rfl) (fun _ _ _ h => h) (Or.inl ⟨by rfl, ?_⟩) HS0.out ?_
                case refine_2 => (intro w1 hS1; clear hS1; go_simp; try with_reducible rfl)
                try simp only [Act.put, List.setIfInBounds_toArray, List.set_cons_zero, List.set_cons_succ]
                refine wpAnyH_take (i := 7) (oi := { dst := some 68, op := Go.Op.indexAddr 47 (Go.Operand.tmp 66) (Go.Operand.tmp 67), type := 0, pos := "law.go:135", after := #[{ on := 5, ground := Go.Ground.data }, { on := 6, ground := Go.Ground.data }, { on := 4, ground := Go.Ground.guard }], guard := some (4, false) }) (v := .pointer (some ⟨rb, ro + at_ * 3, none⟩)) rfl (by kernel_rfl) (by kernel_rfl) (by kernel_rfl) (fun _ _ _ h => h) (Or.inl ⟨by rfl, ?_⟩) HS0.out ?_
                case refine_1 => (intro w1 hS1; clear hS1; have hi1 : (at_ : Int) < (l2 : Int) := (by have := HLT2.out; omega); have hi2 : (0 : Int) ≤ (at_ : Int) := (by omega); have hi3 : at_ < l2 := HLT2.out; go_simp; try with_reducible rfl)
                try simp only [Act.put, List.setIfInBounds_toArray, List.set_cons_zero, List.set_cons_succ]
                refine wpAnyH_take (i := 8) (oi := { dst := some 69, op := Go.Op.fieldAddr 53 (Go.Operand.tmp 68) 0, type := 0, pos := "law.go:135", after := #[{ on := 7, ground := Go.Ground.data }, { on := 4, ground := Go.Ground.guard }], guard := some (4, false) }) (v := ?_) rfl (by kernel_rfl) (by kernel_rfl) (by kernel_rfl) (fun _ _ _ h => h) (Or.inl ⟨by rfl, ?_⟩) HS0.out ?_
                case refine_2 => (intro w1 hS1; clear hS1; go_simp; try with_reducible rfl)
                try simp only [Act.put, List.setIfInBounds_toArray, List.set_cons_zero, List.set_cons_succ]
                refine wpAnyH_take (i := 9) (oi := { dst := some 70, op := Go.Op.load 9 (Go.Operand.tmp 69), type := 9, pos := "law.go:135", after := #[{ on := 8, ground := Go.Ground.data }, { on := 4, ground := Go.Ground.guard }], guard := some (4, false) }) (v := encStr nq) rfl (by kernel_rfl) (by kernel_rfl) (by kernel_rfl) (fun _ _ _ h => h) (Or.inl ⟨by rfl, ?_⟩) HS0.out ?_
                case refine_1 => (intro w1 hS1; have y0 := (hS1.cell (p := ⟨rb, ro + at_ * 3, none⟩) (cell_spot HY0.out).2).trans HY0.out; clear hS1; go_simp; try with_reducible rfl)
                try simp only [Act.put, List.setIfInBounds_toArray, List.set_cons_zero, List.set_cons_succ]
                refine wpAnyH_take (i := 10) (oi := { dst := some 71, op := Go.Op.fieldAddr 53 (Go.Operand.tmp 13) 0, type := 0, pos := "law.go:135", after := #[{ on := 4, ground := Go.Ground.guard }], guard := some (4, false) }) (v := ?_) rfl (by kernel_rfl) (by kernel_rfl) (by kernel_rfl) (fun _ _ _ h => h) (Or.inl ⟨by rfl, ?_⟩) HS0.out ?_
                case refine_2 => (intro w1 hS1; clear hS1; go_simp; try with_reducible rfl)
                try simp only [Act.put, List.setIfInBounds_toArray, List.set_cons_zero, List.set_cons_succ]
                refine wpAnyH_take (i := 11) (oi := { dst := some 72, op := Go.Op.load 9 (Go.Operand.tmp 71), type := 9, pos := "law.go:135", after := #[{ on := 10, ground := Go.Ground.data }, { on := 4, ground := Go.Ground.guard }], guard := some (4, false) }) (v := encStr nm) rfl (by kernel_rfl) (by kernel_rfl) (by kernel_rfl) (fun _ _ _ h => h) (Or.inl ⟨by rfl, ?_⟩) HS0.out ?_
                case refine_1 => (intro w1 hS1; obtain ⟨x0, x1, x2⟩ := three_rd (ex_below HF_d.out hS1); clear hS1; go_simp; try with_reducible rfl)
                try simp only [Act.put, List.setIfInBounds_toArray, List.set_cons_zero, List.set_cons_succ]
                refine wpAnyH_take (i := 12) (oi := { dst := some 73, op := Go.Op.binOp Go.BinOp.neq 9 (Go.Operand.tmp 70) (Go.Operand.tmp 72) 9, type := 4, pos := "law.go:135", after := #[{ on := 9, ground := Go.Ground.data }, { on := 11, ground := Go.Ground.data }, { on := 4, ground := Go.Ground.guard }], guard := some (4, false) }) (v := .bool true) rfl (by kernel_rfl) (by kernel_rfl) (by kernel_rfl) (fun _ _ _ h => h) (Or.inl ⟨by rfl, ?_⟩) HS0.out ?_
                case refine_1 => (intro w1 hS1; clear hS1; have hne := fun w => neq_diff HDF.out w; clear hne; go_simp; exact HDF.out)
                try simp only [Act.put, List.setIfInBounds_toArray, List.set_cons_zero, List.set_cons_succ]
                refine wpAnyH_take (i := 13) (oi := { dst := some 74, op := Go.Op.pick (Go.Operand.tmp 65) (Go.Operand.const (Go.Value.bool true)) (Go.Operand.tmp 73), type := 4, pos := "law.go:135", after := #[{ on := 4, ground := Go.Ground.data }, { on := 12, ground := Go.Ground.data }], guard := none }) (v := .bool true) rfl (by kernel_rfl) (by kernel_rfl) (by kernel_rfl) (fun _ _ _ h => h) (Or.inl ⟨by rfl, ?_⟩) HS0.out ?_
                case refine_1 => (intro w1 hS1; clear hS1; go_simp; try with_reducible rfl)
                try simp only [Act.put, List.setIfInBounds_toArray, List.set_cons_zero, List.set_cons_succ]
                refine wpAnyH_done (by kernel_rfl) ?_ _
                have dk0 : decide ((n1 : Int) > 0) = false := decide_eq_false (by have := HK0.out; omega)
                have dk1 : decide (0 < (n1 : Int)) = false := decide_eq_false (by have := HK0.out; omega)
                have dk2 : decide (0 < n1) = false := decide_eq_false (by have := HK0.out; omega)
                obtain ⟨x0, x1, x2⟩ := three_rd HF_d.out
                go_wp2_with fail
                go_roundg (ln - (i + 1))
                case measure => omega
                case rel => exact ⟨i + 1, at_, _, by rw [HWI.out]; rfl, rfl, by omega, by omega, by omega, hal2, HEZ, HB_d⟩
            · have hes2 : NW.drop at_ = (nm, g) :: crashF (L.drop (i + 1)) (rT f tq) := by
                rw [HES.out]
                unfold oneF
                rw [if_neg hz]
                rfl
              have hatl : at_ < NW.length := by
                have := congrArg List.length hes2
                rw [List.length_drop, List.length_cons] at this
                omega
              have hd2 := List.drop_eq_getElem_cons hatl
              rw [hes2] at hd2
              injection hd2 with hd3 hd4
              have HEB : Hid (NW.drop (at_ + 1) = crashF (L.drop (i + 1)) (rT f tq)) := Lib.hid hd4.symm
              have HLT2 : Hid (at_ < l2) := Lib.hid (by rw [← HL2.out]; exact hatl)
              have HOKG := Lib.hid (HOKN.out NW[at_] (List.getElem_mem hatl))
              obtain ⟨rb, ro, v3, v4, e1, -, y0, y1, y2, r3, r4⟩ := (HRN.out.below HBQ.out) at_ hatl
              subst e1
              rw [← hd3] at y0 r3 r4 HOKG
              dsimp only at y0 r3 r4
              obtain ⟨a3, c3, hs3, -⟩ := r3.shape
              obtain ⟨a4, c4, hs4, -⟩ := r4.shape
              rw [HGD.out.kept, List.take_length] at r3 hs3
              rw [HGD.out.kept, List.drop_length] at r4 hs4
              subst hs3 hs4
              obtain ⟨lg, hlg⟩ : ∃ lg, g.all.length = lg := ⟨_, rfl⟩
              obtain ⟨lf, hlf⟩ : ∃ lf, f.all.length = lf := ⟨_, rfl⟩
              have HLG := Lib.hid hlg
              have HLF := Lib.hid hlf
              rw [hlg] at y1 r3
              have HY00 := Lib.hid y0
              have HY10 := Lib.hid y1
              have HY20 := Lib.hid y2
              have HR30 := Lib.hid r3
              obtain ⟨pre, hpre⟩ : ∃ pre, f.all.take f.kept = pre := ⟨_, rfl⟩
              have HPRE := Lib.hid hpre
              rw [hpre] at HR1d
              have HTK : Hid (g.all.take n1 = pre) := Lib.hid (by rw [HN1.out, HGD.out.tk, hpre])
              clear hz hes2 hatl hd3 hd4 y0 y1 y2 r3 r4 hlg hlf hpre
              subst hWQ
              have HDD : Hid (Below w9.heap.size w9 w9.drew) := Lib.hid (Below.refl _ _).drew
              have HY0 := Lib.hid ((HDD.out.cell (p := ⟨rb, ro + at_ * 3, none⟩) (cell_spot HY00.out).2).trans HY00.out)
              have HY1 := Lib.hid ((HDD.out.cell (p := ⟨rb, ro + at_ * 3 + 1, none⟩) (cell_spot HY10.out).2).trans HY10.out)
              have HY2 := Lib.hid ((HDD.out.cell (p := ⟨rb, ro + at_ * 3 + 2, none⟩) (cell_spot HY20.out).2).trans HY20.out)
              have HR3 := Lib.hid (HR30.out.kept HDD.out)
              clear HY00 HY10 HY20 HR30 HDD
              have HB_d : Hid (Below w7.heap.size w7 w9.drew) := Lib.hid HBQ.out.drew
              have HF_d : Hid (w9.drew.heap[NF]? = some (.cells #[encStr nm, .slice a1 n1 c1, .slice a2 n2 c2] 53 (0, 0))) := Lib.hid HFQ.out
              have HS0 : Hid ((fun W : World => Below w9.drew.heap.size w9.drew W) w9.drew) := Lib.hid (Below.refl _ _)
              refine wp_region_held_drew (S := (fun W : World => Below w9.drew.heap.size w9.drew W)) (by kernel_rfl) HS0.out (fun hHeld => ?_)
              clear hHeld HBQ HFQ
              generalize w9.drew = wd at HB_d HF_d HS0 HY0 HY1 HY2 HR3 HR1d HR2d ⊢
              refine wpAnyH_take (i := 0) (oi := { dst := some 61, op := Go.Op.move (Go.Operand.tmp 11), type := 3, pos := "law.go:135", after := #[], guard := none }) (v := ?_) rfl (by kernel_rfl) (by kernel_rfl) (by kernel_rfl) (fun _ _ _ h => h) (Or.inl ⟨by rfl, ?_⟩) HS0.out ?_
              case refine_2 => (intro w1 hS1; clear hS1; go_simp; try with_reducible rfl)
              try simp only [Act.put, List.setIfInBounds_toArray, List.set_cons_zero, List.set_cons_succ]
              refine wpAnyH_take (i := 1) (oi := { dst := some 62, op := Go.Op.move (Go.Operand.tmp 10), type := 47, pos := "law.go:135", after := #[], guard := none }) (v := ?_) rfl (by kernel_rfl) (by kernel_rfl) (by kernel_rfl) (fun _ _ _ h => h) (Or.inl ⟨by rfl, ?_⟩) HS0.out ?_
              case refine_2 => (intro w1 hS1; clear hS1; go_simp; try with_reducible rfl)
              try simp only [Act.put, List.setIfInBounds_toArray, List.set_cons_zero, List.set_cons_succ]
              refine wpAnyH_take (i := 2) (oi := { dst := some 63, op := Go.Op.call { callee := Go.Callee.builtin Go.Builtin.len, args := #[Go.Operand.tmp 62], argTypes := #[47] }, type := 3, pos := "law.go:135", after := #[{ on := 1, ground := Go.Ground.data }], guard := none }) (v := .int .i64 (l2 : Int)) rfl (by kernel_rfl) (by kernel_rfl) (by kernel_rfl) (fun _ _ _ h => h) (Or.inl ⟨by rfl, ?_⟩) HS0.out ?_
              case refine_1 => (intro w1 hS1; clear hS1; go_simp; try with_reducible rfl)
              try simp only [Act.put, List.setIfInBounds_toArray, List.set_cons_zero, List.set_cons_succ]
              refine wpAnyH_take (i := 3) (oi := { dst := some 64, op := Go.Op.binOp Go.BinOp.geq 3 (Go.Operand.tmp 61) (Go.Operand.tmp 63) 3, type := 4, pos := "law.go:135", after := #[{ on := 0, ground := Go.Ground.data }, { on := 2, ground := Go.Ground.data }], guard := none }) (v := .bool false) rfl (by kernel_rfl) (by kernel_rfl) (by kernel_rfl) (fun _ _ _ h => h) (Or.inl ⟨by rfl, ?_⟩) HS0.out ?_
              case refine_1 => (intro w1 hS1; clear hS1; have d0 : decide ((at_ : Int) ≥ (l2 : Int)) = false := decide_eq_false (by have := HLT2.out; omega); have d1 : decide ((l2 : Int) ≤ (at_ : Int)) = false := decide_eq_false (by have := HLT2.out; omega); have d2 : decide (l2 ≤ at_) = false := decide_eq_false (by have := HLT2.out; omega); go_simp; try with_reducible rfl)
              try simp only [Act.put, List.setIfInBounds_toArray, List.set_cons_zero, List.set_cons_succ]
              refine wpAnyH_take (i := 4) (oi := { dst := some 65, op := Go.Op.move (Go.Operand.tmp 64), type := 4, pos := "law.go:135", after := #[{ on := 3, ground := Go.Ground.data }], guard := none }) (v := ?_) rfl (by kernel_rfl) (by kernel_rfl) (by kernel_rfl) (fun _ _ _ h => h) (Or.inl ⟨by rfl, ?_⟩) HS0.out ?_
              case refine_2 => (intro w1 hS1; clear hS1; go_simp; try with_reducible rfl)
              try simp only [Act.put, List.setIfInBounds_toArray, List.set_cons_zero, List.set_cons_succ]
              refine wpAnyH_take (i := 5) (oi := { dst := some 66, op := Go.Op.move (Go.Operand.tmp 10), type := 47, pos := "law.go:135", after := #[{ on := 4, ground := Go.Ground.guard }], guard := some (4, false) }) (v := ?_) rfl (by kernel_rfl) (by kernel_rfl) (by kernel_rfl) (fun _ _ _ h => h) (Or.inl ⟨by rfl, ?_⟩) HS0.out ?_
              case refine_2 => (intro w1 hS1; clear hS1; go_simp; try with_reducible rfl)
              try simp only [Act.put, List.setIfInBounds_toArray, List.set_cons_zero, List.set_cons_succ]
              refine wpAnyH_take (i := 6) (oi := { dst := some 67, op := Go.Op.move (Go.Operand.tmp 11), type := 3, pos := "law.go:135", after := #[{ on := 4, ground := Go.Ground.guard }], guard := some (4, false) }) (v := ?_) rfl (by kernel_rfl) (by kernel_rfl) (by kernel_rfl) (fun _ _ _ h => h) (Or.inl ⟨by rfl, ?_⟩) HS0.out ?_
              case refine_2 => (intro w1 hS1; clear hS1; go_simp; try with_reducible rfl)
              try simp only [Act.put, List.setIfInBounds_toArray, List.set_cons_zero, List.set_cons_succ]
              refine wpAnyH_take (i := 7) (oi := { dst := some 68, op := Go.Op.indexAddr 47 (Go.Operand.tmp 66) (Go.Operand.tmp 67), type := 0, pos := "law.go:135", after := #[{ on := 5, ground := Go.Ground.data }, { on := 6, ground := Go.Ground.data }, { on := 4, ground := Go.Ground.guard }], guard := some (4, false) }) (v := .pointer (some ⟨rb, ro + at_ * 3, none⟩)) rfl (by kernel_rfl) (by kernel_rfl) (by kernel_rfl) (fun _ _ _ h => h) (Or.inl ⟨by rfl, ?_⟩) HS0.out ?_
              case refine_1 => (intro w1 hS1; clear hS1; have hi1 : (at_ : Int) < (l2 : Int) := (by have := HLT2.out; omega); have hi2 : (0 : Int) ≤ (at_ : Int) := (by omega); have hi3 : at_ < l2 := HLT2.out; go_simp; try with_reducible rfl)
              try simp only [Act.put, List.setIfInBounds_toArray, List.set_cons_zero, List.set_cons_succ]
              refine wpAnyH_take (i := 8) (oi := { dst := some 69, op := Go.Op.fieldAddr 53 (Go.Operand.tmp 68) 0, type := 0, pos := "law.go:135", after := #[{ on := 7, ground := Go.Ground.data }, { on := 4, ground := Go.Ground.guard }], guard := some (4, false) }) (v := ?_) rfl (by kernel_rfl) (by kernel_rfl) (by kernel_rfl) (fun _ _ _ h => h) (Or.inl ⟨by rfl, ?_⟩) HS0.out ?_
              case refine_2 => (intro w1 hS1; clear hS1; go_simp; try with_reducible rfl)
              try simp only [Act.put, List.setIfInBounds_toArray, List.set_cons_zero, List.set_cons_succ]
              refine wpAnyH_take (i := 9) (oi := { dst := some 70, op := Go.Op.load 9 (Go.Operand.tmp 69), type := 9, pos := "law.go:135", after := #[{ on := 8, ground := Go.Ground.data }, { on := 4, ground := Go.Ground.guard }], guard := some (4, false) }) (v := encStr nm) rfl (by kernel_rfl) (by kernel_rfl) (by kernel_rfl) (fun _ _ _ h => h) (Or.inl ⟨by rfl, ?_⟩) HS0.out ?_
              case refine_1 => (intro w1 hS1; have y0 := (hS1.cell (p := ⟨rb, ro + at_ * 3, none⟩) (cell_spot HY0.out).2).trans HY0.out; clear hS1; go_simp; try with_reducible rfl)
              try simp only [Act.put, List.setIfInBounds_toArray, List.set_cons_zero, List.set_cons_succ]
              refine wpAnyH_take (i := 10) (oi := { dst := some 71, op := Go.Op.fieldAddr 53 (Go.Operand.tmp 13) 0, type := 0, pos := "law.go:135", after := #[{ on := 4, ground := Go.Ground.guard }], guard := some (4, false) }) (v := ?_) rfl (by kernel_rfl) (by kernel_rfl) (by kernel_rfl) (fun _ _ _ h => h) (Or.inl ⟨by rfl, ?_⟩) HS0.out ?_
              case refine_2 => (intro w1 hS1; clear hS1; go_simp; try with_reducible rfl)
              try simp only [Act.put, List.setIfInBounds_toArray, List.set_cons_zero, List.set_cons_succ]
              refine wpAnyH_take (i := 11) (oi := { dst := some 72, op := Go.Op.load 9 (Go.Operand.tmp 71), type := 9, pos := "law.go:135", after := #[{ on := 10, ground := Go.Ground.data }, { on := 4, ground := Go.Ground.guard }], guard := some (4, false) }) (v := encStr nm) rfl (by kernel_rfl) (by kernel_rfl) (by kernel_rfl) (fun _ _ _ h => h) (Or.inl ⟨by rfl, ?_⟩) HS0.out ?_
              case refine_1 => (intro w1 hS1; obtain ⟨x0, x1, x2⟩ := three_rd (ex_below HF_d.out hS1); clear hS1; go_simp; try with_reducible rfl)
              try simp only [Act.put, List.setIfInBounds_toArray, List.set_cons_zero, List.set_cons_succ]
              refine wpAnyH_take (i := 12) (oi := { dst := some 73, op := Go.Op.binOp Go.BinOp.neq 9 (Go.Operand.tmp 70) (Go.Operand.tmp 72) 9, type := 4, pos := "law.go:135", after := #[{ on := 9, ground := Go.Ground.data }, { on := 11, ground := Go.Ground.data }, { on := 4, ground := Go.Ground.guard }], guard := some (4, false) }) (v := .bool false) rfl (by kernel_rfl) (by kernel_rfl) (by kernel_rfl) (fun _ _ _ h => h) (Or.inl ⟨by rfl, ?_⟩) HS0.out ?_
              case refine_1 => (intro w1 hS1; clear hS1; have hne := fun w => neq_same nm w; go_simp; try with_reducible rfl)
              try simp only [Act.put, List.setIfInBounds_toArray, List.set_cons_zero, List.set_cons_succ]
              refine wpAnyH_take (i := 13) (oi := { dst := some 74, op := Go.Op.pick (Go.Operand.tmp 65) (Go.Operand.const (Go.Value.bool true)) (Go.Operand.tmp 73), type := 4, pos := "law.go:135", after := #[{ on := 4, ground := Go.Ground.data }, { on := 12, ground := Go.Ground.data }], guard := none }) (v := .bool false) rfl (by kernel_rfl) (by kernel_rfl) (by kernel_rfl) (fun _ _ _ h => h) (Or.inl ⟨by rfl, ?_⟩) HS0.out ?_
              case refine_1 => (intro w1 hS1; clear hS1; go_simp; try with_reducible rfl)
              try simp only [Act.put, List.setIfInBounds_toArray, List.set_cons_zero, List.set_cons_succ]
              refine wpAnyH_done (by kernel_rfl) ?_ _
              go_upto_region 20 with fail
              have hi1 : (at_ : Int) < (l2 : Int) := by have := HLT2.out; omega
              have hi2 : (0 : Int) ≤ (at_ : Int) := by omega
              have hi3 : at_ < l2 := HLT2.out
              have y1 := HY1.out
              have hst3 := rb_string (P := Try.prog) HR3.out 51 9 5 Try.underlying51 Try.underlying5 Try.underlying9
              have hst1 := rb_string (P := Try.prog) HR1d.out 51 9 5 Try.underlying51 Try.underlying5 Try.underlying9
              have hst2 := rb_string (P := Try.prog) HR2d.out 51 9 5 Try.underlying51 Try.underlying5 Try.underlying9
              have hct := run_cat pre (f.all.drop f.kept) (by rw [← HPRE.out, List.length_take, List.length_drop]; have := HOKF.out.2.2; omega)
              rw [show pre ++ f.all.drop f.kept = f.all by rw [← HPRE.out, List.take_append_drop]] at hct
              obtain ⟨x0, x1, x2⟩ := three_rd HF_d.out
              go_upto_region 22 with fail
              clear hi1 hi2 hi3 y1 hst3 hst1 hst2 hct x0 x1 x2 HS0
              have HBQ : Hid (Below w7.heap.size w7 wd) := HB_d
              have HFQ := HF_d
              have HDq : Hid (Below wd.heap.size wd wd.drew) := Lib.hid (Below.refl _ _).drew
              have HY2' := Lib.hid ((HDq.out.cell (p := ⟨rb, ro + at_ * 3 + 2, none⟩) (cell_spot HY2.out).2).trans HY2.out)
              have HR1' := Lib.hid (HR1d.out.kept HDq.out)
              clear HY0 HY1 HY2 HR3 HR1d HR2d HDq HB_d HF_d
              have HY2 := HY2'
              have HR1d := HR1'
              clear HY2' HR1'
              have HB_d : Hid (Below w7.heap.size w7 wd.drew) := Lib.hid HBQ.out.drew
              have HF_d : Hid (wd.drew.heap[NF]? = some (.cells #[encStr nm, .slice a1 n1 c1, .slice a2 n2 c2] 53 (0, 0))) := Lib.hid HFQ.out
              have HS0 : Hid ((fun W : World => Below wd.drew.heap.size wd.drew W) wd.drew) := Lib.hid (Below.refl _ _)
              refine wp_region_held_drew (S := (fun W : World => Below wd.drew.heap.size wd.drew W)) (by kernel_rfl) HS0.out (fun hHeld => ?_)
              clear hHeld HBQ HFQ
              generalize wd.drew = we at HB_d HF_d HS0 HY2 HR1d ⊢
              refine wpAnyH_take (i := 0) (oi := { dst := some 92, op := Go.Op.move (Go.Operand.tmp 10), type := 47, pos := "law.go:143", after := #[], guard := none }) (v := ?_) rfl (by kernel_rfl) (by kernel_rfl) (by kernel_rfl) (fun _ _ _ h => h) (Or.inl ⟨by rfl, ?_⟩) HS0.out ?_
              case refine_2 => (intro w1 hS1; clear hS1; go_simp; try with_reducible rfl)
              try simp only [Act.put, List.setIfInBounds_toArray, List.set_cons_zero, List.set_cons_succ]
              refine wpAnyH_take (i := 1) (oi := { dst := some 93, op := Go.Op.move (Go.Operand.tmp 11), type := 3, pos := "law.go:143", after := #[], guard := none }) (v := ?_) rfl (by kernel_rfl) (by kernel_rfl) (by kernel_rfl) (fun _ _ _ h => h) (Or.inl ⟨by rfl, ?_⟩) HS0.out ?_
              case refine_2 => (intro w1 hS1; clear hS1; go_simp; try with_reducible rfl)
              try simp only [Act.put, List.setIfInBounds_toArray, List.set_cons_zero, List.set_cons_succ]
              refine wpAnyH_take (i := 2) (oi := { dst := some 94, op := Go.Op.indexAddr 47 (Go.Operand.tmp 92) (Go.Operand.tmp 93), type := 0, pos := "law.go:143", after := #[{ on := 0, ground := Go.Ground.data }, { on := 1, ground := Go.Ground.data }], guard := none }) (v := .pointer (some ⟨rb, ro + at_ * 3, none⟩)) rfl (by kernel_rfl) (by kernel_rfl) (by kernel_rfl) (fun _ _ _ h => h) (Or.inl ⟨by rfl, ?_⟩) HS0.out ?_
              case refine_1 => (intro w1 hS1; clear hS1; have hi1 : (at_ : Int) < (l2 : Int) := (by have := HLT2.out; omega); have hi2 : (0 : Int) ≤ (at_ : Int) := (by omega); have hi3 : at_ < l2 := HLT2.out; go_simp; try with_reducible rfl)
              try simp only [Act.put, List.setIfInBounds_toArray, List.set_cons_zero, List.set_cons_succ]
              refine wpAnyH_take (i := 3) (oi := { dst := some 95, op := Go.Op.fieldAddr 53 (Go.Operand.tmp 94) 2, type := 0, pos := "law.go:143", after := #[{ on := 2, ground := Go.Ground.data }], guard := none }) (v := ?_) rfl (by kernel_rfl) (by kernel_rfl) (by kernel_rfl) (fun _ _ _ h => h) (Or.inl ⟨by rfl, ?_⟩) HS0.out ?_
              case refine_2 => (intro w1 hS1; clear hS1; go_simp; try with_reducible rfl)
              try simp only [Act.put, List.setIfInBounds_toArray, List.set_cons_zero, List.set_cons_succ]
              refine wpAnyH_take (i := 4) (oi := { dst := some 96, op := Go.Op.load 51 (Go.Operand.tmp 95), type := 51, pos := "law.go:143", after := #[{ on := 3, ground := Go.Ground.data }], guard := none }) (v := .slice a4 ([] : List Nat).length c4) rfl (by kernel_rfl) (by kernel_rfl) (by kernel_rfl) (fun _ _ _ h => h) (Or.inl ⟨by rfl, ?_⟩) HS0.out ?_
              case refine_1 => (intro w1 hS1; have y2 := (hS1.cell (p := ⟨rb, ro + at_ * 3 + 2, none⟩) (cell_spot HY2.out).2).trans HY2.out; clear hS1; go_simp; try with_reducible rfl)
              try simp only [Act.put, List.setIfInBounds_toArray, List.set_cons_zero, List.set_cons_succ]
              refine wpAnyH_take (i := 5) (oi := { dst := some 97, op := Go.Op.call { callee := Go.Callee.builtin Go.Builtin.len, args := #[Go.Operand.tmp 96], argTypes := #[51] }, type := 3, pos := "law.go:143", after := #[{ on := 4, ground := Go.Ground.data }], guard := none }) (v := .int .i64 0) rfl (by kernel_rfl) (by kernel_rfl) (by kernel_rfl) (fun _ _ _ h => h) (Or.inl ⟨by rfl, ?_⟩) HS0.out ?_
              case refine_1 => (intro w1 hS1; clear hS1; go_simp; try with_reducible rfl)
              try simp only [Act.put, List.setIfInBounds_toArray, List.set_cons_zero, List.set_cons_succ]
              refine wpAnyH_take (i := 6) (oi := { dst := some 98, op := Go.Op.binOp Go.BinOp.gtr 3 (Go.Operand.tmp 97) (Go.Operand.const (Go.Value.int Go.IntKind.i64 0)) 3, type := 4, pos := "law.go:143", after := #[{ on := 5, ground := Go.Ground.data }], guard := none }) (v := .bool false) rfl (by kernel_rfl) (by kernel_rfl) (by kernel_rfl) (fun _ _ _ h => h) (Or.inl ⟨by rfl, ?_⟩) HS0.out ?_
              case refine_1 => (intro w1 hS1; clear hS1; go_simp; try with_reducible rfl)
              try simp only [Act.put, List.setIfInBounds_toArray, List.set_cons_zero, List.set_cons_succ]
              refine wpAnyH_take (i := 7) (oi := { dst := some 99, op := Go.Op.move (Go.Operand.tmp 98), type := 4, pos := "law.go:143", after := #[{ on := 6, ground := Go.Ground.data }], guard := none }) (v := ?_) rfl (by kernel_rfl) (by kernel_rfl) (by kernel_rfl) (fun _ _ _ h => h) (Or.inl ⟨by rfl, ?_⟩) HS0.out ?_
              case refine_2 => (intro w1 hS1; clear hS1; go_simp; try with_reducible rfl)
              try simp only [Act.put, List.setIfInBounds_toArray, List.set_cons_zero, List.set_cons_succ]
              refine wpAnyH_take (i := 8) (oi := { dst := some 100, op := Go.Op.move (Go.Operand.tmp 14), type := 9, pos := "law.go:143", after := #[{ on := 7, ground := Go.Ground.guard }], guard := some (7, false) }) (v := ?_) rfl (by kernel_rfl) (by kernel_rfl) (by kernel_rfl) (fun _ _ _ h => h) (Or.inl ⟨by rfl, ?_⟩) HS0.out ?_
              case refine_2 => (intro w1 hS1; clear hS1; go_simp; try with_reducible rfl)
              try simp only [Act.put, List.setIfInBounds_toArray, List.set_cons_zero, List.set_cons_succ]
              refine wpAnyH_take (i := 9) (oi := { dst := some 101, op := Go.Op.call { callee := Go.Callee.builtin Go.Builtin.len, args := #[Go.Operand.tmp 100], argTypes := #[9] }, type := 3, pos := "law.go:143", after := #[{ on := 8, ground := Go.Ground.data }, { on := 7, ground := Go.Ground.guard }], guard := some (7, false) }) (v := .int .i64 (lg : Int)) rfl (by kernel_rfl) (by kernel_rfl) (by kernel_rfl) (fun _ _ _ h => h) (Or.inl ⟨by rfl, ?_⟩) HS0.out ?_
              case refine_1 => (intro w1 hS1; clear hS1; have hqk : (str g.all).size = lg := (by rw [str_size]; exact HLG.out); have hqf : (str f.all).size = lf := (by rw [str_size]; exact HLF.out); go_simp; try with_reducible rfl)
              try simp only [Act.put, List.setIfInBounds_toArray, List.set_cons_zero, List.set_cons_succ]
              refine wpAnyH_take (i := 10) (oi := { dst := some 102, op := Go.Op.move (Go.Operand.tmp 15), type := 9, pos := "law.go:143", after := #[{ on := 7, ground := Go.Ground.guard }], guard := some (7, false) }) (v := ?_) rfl (by kernel_rfl) (by kernel_rfl) (by kernel_rfl) (fun _ _ _ h => h) (Or.inl ⟨by rfl, ?_⟩) HS0.out ?_
              case refine_2 => (intro w1 hS1; clear hS1; go_simp; try with_reducible rfl)
              try simp only [Act.put, List.setIfInBounds_toArray, List.set_cons_zero, List.set_cons_succ]
              refine wpAnyH_take (i := 11) (oi := { dst := some 103, op := Go.Op.call { callee := Go.Callee.builtin Go.Builtin.len, args := #[Go.Operand.tmp 102], argTypes := #[9] }, type := 3, pos := "law.go:143", after := #[{ on := 10, ground := Go.Ground.data }, { on := 7, ground := Go.Ground.guard }], guard := some (7, false) }) (v := .int .i64 (lf : Int)) rfl (by kernel_rfl) (by kernel_rfl) (by kernel_rfl) (fun _ _ _ h => h) (Or.inl ⟨by rfl, ?_⟩) HS0.out ?_
              case refine_1 => (intro w1 hS1; clear hS1; have hqk : (str g.all).size = lg := (by rw [str_size]; exact HLG.out); have hqf : (str f.all).size = lf := (by rw [str_size]; exact HLF.out); go_simp; try with_reducible rfl)
              try simp only [Act.put, List.setIfInBounds_toArray, List.set_cons_zero, List.set_cons_succ]
              refine wpAnyH_take (i := 12) (oi := { dst := some 104, op := Go.Op.binOp Go.BinOp.gtr 3 (Go.Operand.tmp 101) (Go.Operand.tmp 103) 3, type := 4, pos := "law.go:143", after := #[{ on := 9, ground := Go.Ground.data }, { on := 11, ground := Go.Ground.data }, { on := 7, ground := Go.Ground.guard }], guard := some (7, false) }) (v := .bool false) rfl (by kernel_rfl) (by kernel_rfl) (by kernel_rfl) (fun _ _ _ h => h) (Or.inl ⟨by rfl, ?_⟩) HS0.out ?_
              case refine_1 => (intro w1 hS1; clear hS1; have hle := HGD.out.le; rw [HLG.out, HLF.out] at hle; have d0 : decide ((lg : Int) > (lf : Int)) = false := decide_eq_false (by omega); have d1 : decide ((lf : Int) < (lg : Int)) = false := decide_eq_false (by omega); have d2 : decide (lf < lg) = false := decide_eq_false (by omega); go_simp; try with_reducible rfl)
              try simp only [Act.put, List.setIfInBounds_toArray, List.set_cons_zero, List.set_cons_succ]
              refine wpAnyH_take (i := 13) (oi := { dst := some 105, op := Go.Op.pick (Go.Operand.tmp 99) (Go.Operand.const (Go.Value.bool true)) (Go.Operand.tmp 104), type := 4, pos := "law.go:143", after := #[{ on := 7, ground := Go.Ground.data }, { on := 12, ground := Go.Ground.data }], guard := none }) (v := .bool false) rfl (by kernel_rfl) (by kernel_rfl) (by kernel_rfl) (fun _ _ _ h => h) (Or.inl ⟨by rfl, ?_⟩) HS0.out ?_
              case refine_1 => (intro w1 hS1; clear hS1; go_simp; try with_reducible rfl)
              try simp only [Act.put, List.setIfInBounds_toArray, List.set_cons_zero, List.set_cons_succ]
              refine wpAnyH_take (i := 14) (oi := { dst := some 106, op := Go.Op.move (Go.Operand.tmp 105), type := 4, pos := "law.go:143", after := #[{ on := 13, ground := Go.Ground.data }, { on := 7, ground := Go.Ground.chain }], guard := none }) (v := ?_) rfl (by kernel_rfl) (by kernel_rfl) (by kernel_rfl) (fun _ _ _ h => h) (Or.inl ⟨by rfl, ?_⟩) HS0.out ?_
              case refine_2 => (intro w1 hS1; clear hS1; go_simp; try with_reducible rfl)
              try simp only [Act.put, List.setIfInBounds_toArray, List.set_cons_zero, List.set_cons_succ]
              refine wpAnyH_take (i := 15) (oi := { dst := some 107, op := Go.Op.move (Go.Operand.tmp 14), type := 9, pos := "law.go:143", after := #[{ on := 14, ground := Go.Ground.guard }], guard := some (14, false) }) (v := ?_) rfl (by kernel_rfl) (by kernel_rfl) (by kernel_rfl) (fun _ _ _ h => h) (Or.inl ⟨by rfl, ?_⟩) HS0.out ?_
              case refine_2 => (intro w1 hS1; clear hS1; go_simp; try with_reducible rfl)
              try simp only [Act.put, List.setIfInBounds_toArray, List.set_cons_zero, List.set_cons_succ]
              refine wpAnyH_take (i := 16) (oi := { dst := some 108, op := Go.Op.call { callee := Go.Callee.builtin Go.Builtin.len, args := #[Go.Operand.tmp 107], argTypes := #[9] }, type := 3, pos := "law.go:143", after := #[{ on := 15, ground := Go.Ground.data }, { on := 14, ground := Go.Ground.guard }], guard := some (14, false) }) (v := .int .i64 (lg : Int)) rfl (by kernel_rfl) (by kernel_rfl) (by kernel_rfl) (fun _ _ _ h => h) (Or.inl ⟨by rfl, ?_⟩) HS0.out ?_
              case refine_1 => (intro w1 hS1; clear hS1; have hqk : (str g.all).size = lg := (by rw [str_size]; exact HLG.out); have hqf : (str f.all).size = lf := (by rw [str_size]; exact HLF.out); go_simp; try with_reducible rfl)
              try simp only [Act.put, List.setIfInBounds_toArray, List.set_cons_zero, List.set_cons_succ]
              refine wpAnyH_take (i := 17) (oi := { dst := some 109, op := Go.Op.fieldAddr 53 (Go.Operand.tmp 13) 1, type := 0, pos := "law.go:143", after := #[{ on := 14, ground := Go.Ground.guard }], guard := some (14, false) }) (v := ?_) rfl (by kernel_rfl) (by kernel_rfl) (by kernel_rfl) (fun _ _ _ h => h) (Or.inl ⟨by rfl, ?_⟩) HS0.out ?_
              case refine_2 => (intro w1 hS1; clear hS1; go_simp; try with_reducible rfl)
              try simp only [Act.put, List.setIfInBounds_toArray, List.set_cons_zero, List.set_cons_succ]
              refine wpAnyH_take (i := 18) (oi := { dst := some 110, op := Go.Op.load 51 (Go.Operand.tmp 109), type := 51, pos := "law.go:143", after := #[{ on := 17, ground := Go.Ground.data }, { on := 14, ground := Go.Ground.guard }], guard := some (14, false) }) (v := .slice a1 n1 c1) rfl (by kernel_rfl) (by kernel_rfl) (by kernel_rfl) (fun _ _ _ h => h) (Or.inl ⟨by rfl, ?_⟩) HS0.out ?_
              case refine_1 => (intro w1 hS1; obtain ⟨x0, x1, x2⟩ := three_rd (ex_below HF_d.out hS1); clear hS1; go_simp; try with_reducible rfl)
              try simp only [Act.put, List.setIfInBounds_toArray, List.set_cons_zero, List.set_cons_succ]
              refine wpAnyH_take (i := 19) (oi := { dst := some 111, op := Go.Op.call { callee := Go.Callee.builtin Go.Builtin.len, args := #[Go.Operand.tmp 110], argTypes := #[51] }, type := 3, pos := "law.go:143", after := #[{ on := 18, ground := Go.Ground.data }, { on := 14, ground := Go.Ground.guard }], guard := some (14, false) }) (v := .int .i64 (n1 : Int)) rfl (by kernel_rfl) (by kernel_rfl) (by kernel_rfl) (fun _ _ _ h => h) (Or.inl ⟨by rfl, ?_⟩) HS0.out ?_
              case refine_1 => (intro w1 hS1; clear hS1; go_simp; try with_reducible rfl)
              try simp only [Act.put, List.setIfInBounds_toArray, List.set_cons_zero, List.set_cons_succ]
              refine wpAnyH_take (i := 20) (oi := { dst := some 112, op := Go.Op.binOp Go.BinOp.lss 3 (Go.Operand.tmp 108) (Go.Operand.tmp 111) 3, type := 4, pos := "law.go:143", after := #[{ on := 16, ground := Go.Ground.data }, { on := 19, ground := Go.Ground.data }, { on := 14, ground := Go.Ground.guard }], guard := some (14, false) }) (v := .bool false) rfl (by kernel_rfl) (by kernel_rfl) (by kernel_rfl) (fun _ _ _ h => h) (Or.inl ⟨by rfl, ?_⟩) HS0.out ?_
              case refine_1 => (intro w1 hS1; clear hS1; have hle := HGD.out.ge; rw [HLG.out, ← HN1.out] at hle; have d1 : decide ((lg : Int) < (n1 : Int)) = false := decide_eq_false (by omega); have d2 : decide (lg < n1) = false := decide_eq_false (by omega); go_simp; try with_reducible rfl)
              try simp only [Act.put, List.setIfInBounds_toArray, List.set_cons_zero, List.set_cons_succ]
              refine wpAnyH_take (i := 21) (oi := { dst := some 113, op := Go.Op.pick (Go.Operand.tmp 106) (Go.Operand.const (Go.Value.bool true)) (Go.Operand.tmp 112), type := 4, pos := "law.go:143", after := #[{ on := 14, ground := Go.Ground.data }, { on := 20, ground := Go.Ground.data }], guard := none }) (v := .bool false) rfl (by kernel_rfl) (by kernel_rfl) (by kernel_rfl) (fun _ _ _ h => h) (Or.inl ⟨by rfl, ?_⟩) HS0.out ?_
              case refine_1 => (intro w1 hS1; clear hS1; go_simp; try with_reducible rfl)
              try simp only [Act.put, List.setIfInBounds_toArray, List.set_cons_zero, List.set_cons_succ]
              refine wpAnyH_take (i := 22) (oi := { dst := some 114, op := Go.Op.move (Go.Operand.tmp 113), type := 4, pos := "law.go:143", after := #[{ on := 21, ground := Go.Ground.data }, { on := 14, ground := Go.Ground.chain }], guard := none }) (v := ?_) rfl (by kernel_rfl) (by kernel_rfl) (by kernel_rfl) (fun _ _ _ h => h) (Or.inl ⟨by rfl, ?_⟩) HS0.out ?_
              case refine_2 => (intro w1 hS1; clear hS1; go_simp; try with_reducible rfl)
              try simp only [Act.put, List.setIfInBounds_toArray, List.set_cons_zero, List.set_cons_succ]
              refine wpAnyH_take (i := 23) (oi := { dst := some 115, op := Go.Op.move (Go.Operand.tmp 14), type := 9, pos := "law.go:143", after := #[{ on := 22, ground := Go.Ground.guard }], guard := some (22, false) }) (v := ?_) rfl (by kernel_rfl) (by kernel_rfl) (by kernel_rfl) (fun _ _ _ h => h) (Or.inl ⟨by rfl, ?_⟩) HS0.out ?_
              case refine_2 => (intro w1 hS1; clear hS1; go_simp; try with_reducible rfl)
              try simp only [Act.put, List.setIfInBounds_toArray, List.set_cons_zero, List.set_cons_succ]
              refine wpAnyH_take (i := 24) (oi := { dst := some 116, op := Go.Op.fieldAddr 53 (Go.Operand.tmp 13) 1, type := 0, pos := "law.go:143", after := #[{ on := 22, ground := Go.Ground.guard }], guard := some (22, false) }) (v := ?_) rfl (by kernel_rfl) (by kernel_rfl) (by kernel_rfl) (fun _ _ _ h => h) (Or.inl ⟨by rfl, ?_⟩) HS0.out ?_
              case refine_2 => (intro w1 hS1; clear hS1; go_simp; try with_reducible rfl)
              try simp only [Act.put, List.setIfInBounds_toArray, List.set_cons_zero, List.set_cons_succ]
              refine wpAnyH_take (i := 25) (oi := { dst := some 117, op := Go.Op.load 51 (Go.Operand.tmp 116), type := 51, pos := "law.go:143", after := #[{ on := 24, ground := Go.Ground.data }, { on := 22, ground := Go.Ground.guard }], guard := some (22, false) }) (v := .slice a1 n1 c1) rfl (by kernel_rfl) (by kernel_rfl) (by kernel_rfl) (fun _ _ _ h => h) (Or.inl ⟨by rfl, ?_⟩) HS0.out ?_
              case refine_1 => (intro w1 hS1; obtain ⟨x0, x1, x2⟩ := three_rd (ex_below HF_d.out hS1); clear hS1; go_simp; try with_reducible rfl)
              try simp only [Act.put, List.setIfInBounds_toArray, List.set_cons_zero, List.set_cons_succ]
              refine wpAnyH_take (i := 26) (oi := { dst := some 118, op := Go.Op.call { callee := Go.Callee.builtin Go.Builtin.len, args := #[Go.Operand.tmp 117], argTypes := #[51] }, type := 3, pos := "law.go:143", after := #[{ on := 25, ground := Go.Ground.data }, { on := 22, ground := Go.Ground.guard }], guard := some (22, false) }) (v := .int .i64 (n1 : Int)) rfl (by kernel_rfl) (by kernel_rfl) (by kernel_rfl) (fun _ _ _ h => h) (Or.inl ⟨by rfl, ?_⟩) HS0.out ?_
              case refine_1 => (intro w1 hS1; clear hS1; go_simp; try with_reducible rfl)
              try simp only [Act.put, List.setIfInBounds_toArray, List.set_cons_zero, List.set_cons_succ]
              refine wpAnyH_take (i := 27) (oi := { dst := some 119, op := Go.Op.slice 9 (Go.Operand.tmp 115) none (some (Go.Operand.tmp 118)) none, type := 9, pos := "law.go:143", after := #[{ on := 23, ground := Go.Ground.data }, { on := 26, ground := Go.Ground.data }, { on := 22, ground := Go.Ground.guard }], guard := some (22, false) }) (v := .string (str pre)) rfl (by kernel_rfl) (by kernel_rfl) (by kernel_rfl) (fun _ _ _ h => h) (Or.inl ⟨by rfl, ?_⟩) HS0.out ?_
              case refine_1 => (intro w1 hS1; clear hS1; have hh := run_head g.all n1 (by have h1 := HGD.out.ge; rw [← HN1.out] at h1; exact h1); rw [HTK.out] at hh; go_simp; try with_reducible rfl)
              try simp only [Act.put, List.setIfInBounds_toArray, List.set_cons_zero, List.set_cons_succ]
              refine wpAnyH_take (i := 28) (oi := { dst := some 120, op := Go.Op.fieldAddr 53 (Go.Operand.tmp 13) 1, type := 0, pos := "law.go:143", after := #[{ on := 22, ground := Go.Ground.guard }], guard := some (22, false) }) (v := ?_) rfl (by kernel_rfl) (by kernel_rfl) (by kernel_rfl) (fun _ _ _ h => h) (Or.inl ⟨by rfl, ?_⟩) HS0.out ?_
              case refine_2 => (intro w1 hS1; clear hS1; go_simp; try with_reducible rfl)
              try simp only [Act.put, List.setIfInBounds_toArray, List.set_cons_zero, List.set_cons_succ]
              refine wpAnyH_take (i := 29) (oi := { dst := some 121, op := Go.Op.load 51 (Go.Operand.tmp 120), type := 51, pos := "law.go:143", after := #[{ on := 28, ground := Go.Ground.data }, { on := 22, ground := Go.Ground.guard }], guard := some (22, false) }) (v := .slice a1 n1 c1) rfl (by kernel_rfl) (by kernel_rfl) (by kernel_rfl) (fun _ _ _ h => h) (Or.inl ⟨by rfl, ?_⟩) HS0.out ?_
              case refine_1 => (intro w1 hS1; obtain ⟨x0, x1, x2⟩ := three_rd (ex_below HF_d.out hS1); clear hS1; go_simp; try with_reducible rfl)
              try simp only [Act.put, List.setIfInBounds_toArray, List.set_cons_zero, List.set_cons_succ]
              refine wpAnyH_take (i := 30) (oi := { dst := some 122, op := Go.Op.convert 51 9 (Go.Operand.tmp 121), type := 9, pos := "law.go:143", after := #[{ on := 29, ground := Go.Ground.data }, { on := 22, ground := Go.Ground.guard }], guard := some (22, false) }) (v := .string (str pre)) rfl (by kernel_rfl) (by kernel_rfl) (by kernel_rfl) (fun _ _ _ h => h) (Or.inl ⟨by rfl, ?_⟩) HS0.out ?_
              case refine_1 => (intro w1 hS1; have hst := rb_string (P := Try.prog) (HR1d.out.kept hS1) 51 9 5 Try.underlying51 Try.underlying5 Try.underlying9; clear hS1; go_simp; try with_reducible rfl)
              try simp only [Act.put, List.setIfInBounds_toArray, List.set_cons_zero, List.set_cons_succ]
              refine wpAnyH_take (i := 31) (oi := { dst := some 123, op := Go.Op.binOp Go.BinOp.neq 9 (Go.Operand.tmp 119) (Go.Operand.tmp 122) 9, type := 4, pos := "law.go:143", after := #[{ on := 27, ground := Go.Ground.data }, { on := 30, ground := Go.Ground.data }, { on := 22, ground := Go.Ground.guard }], guard := some (22, false) }) (v := .bool false) rfl (by kernel_rfl) (by kernel_rfl) (by kernel_rfl) (fun _ _ _ h => h) (Or.inl ⟨by rfl, ?_⟩) HS0.out ?_
              case refine_1 => (intro w1 hS1; clear hS1; have hne := fun w => neq_str (str pre) w; go_simp; try with_reducible rfl)
              try simp only [Act.put, List.setIfInBounds_toArray, List.set_cons_zero, List.set_cons_succ]
              refine wpAnyH_take (i := 32) (oi := { dst := some 124, op := Go.Op.pick (Go.Operand.tmp 114) (Go.Operand.const (Go.Value.bool true)) (Go.Operand.tmp 123), type := 4, pos := "law.go:143", after := #[{ on := 22, ground := Go.Ground.data }, { on := 31, ground := Go.Ground.data }], guard := none }) (v := .bool false) rfl (by kernel_rfl) (by kernel_rfl) (by kernel_rfl) (fun _ _ _ h => h) (Or.inl ⟨by rfl, ?_⟩) HS0.out ?_
              case refine_1 => (intro w1 hS1; clear hS1; go_simp; try with_reducible rfl)
              try simp only [Act.put, List.setIfInBounds_toArray, List.set_cons_zero, List.set_cons_succ]
              refine wpAnyH_done (by kernel_rfl) ?_ _
              have hqk : (str g.all).size = lg := by rw [str_size]; exact HLG.out
              obtain ⟨sf, hsf⟩ : ∃ sf : Nat, max f.kept (g.all.length - 3) = sf := ⟨_, rfl⟩
              have hmx : max (n1 : Int) ((lg : Int) - 3) = (sf : Int) := by rw [← hsf, HLG.out, ← HN1.out]; omega
              have HSF : Hid (g.all.take sf = f.all.take sf ∧ sf ≤ lg ∧ sf ≤ lf) := Lib.hid ⟨by have := HGD.out.safe; rw [hsf] at this; exact this, by have h1 := HGD.out.ge; rw [← hsf]; rw [HLG.out] at h1 ⊢; omega, by have h1 := HGD.out.ge; have h2 := HGD.out.le; rw [← hsf]; rw [HLG.out] at h1 h2 ⊢; rw [HLF.out] at h2; omega⟩
              obtain ⟨x0, x1, x2⟩ := three_rd HF_d.out
              have hw3 : IntKind.i64.wrap ((lg : Int) - 3) = (lg : Int) - 3 := IntWalk.i64_in _ ⟨by omega, by have h1 := HOKG.out.2; simp only at h1; rw [HLG.out] at h1; omega⟩
              clear hsf
              go_upto_region 25 with fail
              clear hqk x0 x1 x2
              have hh1 := run_head g.all sf (by rw [HLG.out]; exact HSF.out.2.1)
              have hh2 := run_head f.all sf (by rw [HLF.out]; exact HSF.out.2.2)
              rw [HSF.out.1] at hh1
              have hne := fun w => neq_str (str (f.all.take sf)) w
              go_wp2_with fail
              go_region
              go_wp2_with fail
              go_roundg (ln - (i + 1))
              case measure => omega
              case rel => exact ⟨i + 1, at_ + 1, _, by rw [HWI.out]; rfl, by rw [HWA.out]; rfl, by omega, by omega, by omega, (by have := HLT2.out; omega), HEB, Lib.hid HB_d.out.drew⟩
          · have hltz : ¬ (i : Int) < (ln : Int) := by omega
            obtain rfl : i = ln := by omega
            have HAL : Hid (at_ = l2) := Lib.hid (by
              have h1 := congrArg List.length HE.out
              rw [List.drop_eq_nil_of_le (show L.length ≤ i by rw [HLN.out]; exact Nat.le_refl _)] at h1
              unfold crashF at h1
              rw [List.length_drop, List.length_nil, HL2.out] at h1
              omega)
            have hal := HAL.out
            subst hal
            clear HAL HE hlt hi hk hai
            go_wp2_with fail
            refine (lives23 w8).mono ?_
            rintro e wb ⟨rfl, hb⟩
            have HBB := Lib.hid (HB7.out.trans ((HBR.out.trans (hb.mono HBR.out.size)).mono HB7.out.size))
            clear hb
            go_wp2_with fail
            go_ret
            exact ⟨rfl, HBB.out⟩
end Go.Proofs.Ythkjjpkipeeimaa
