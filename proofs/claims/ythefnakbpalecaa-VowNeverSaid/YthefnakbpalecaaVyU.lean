/- VowKeeps. -/
import Derived.Test.YthefnakbpalecaaVyT
import Derived.Test.YthefnakbpalecaaVyS
import Derived.Deep.DeepCutAuto
namespace Go.Proofs.Ythefnakbpalecaa
open Go.RowKit Go.Maps
def eM : Dd := ⟨1048576, [], 0, false, false, 0⟩
theorem ex_openM : openV eM = (eM, 0, 0, -1) := rfl
theorem ex_armM (s : Nat) : armD eM (s : Int) = (⟨1048576, [], 0, false, true, ((0 : Nat) : Int) + (s : Int)⟩, 0) := by
  unfold armD eM
  rw [if_neg (by simp), if_neg (by omega)]
/-- The law's loop, between rounds. -/
structure LI (w : World) (B b N : Nat) (S : Nat → Prop) (D : Dd) (t : Nat) (v : Int) (wr : World) : Prop where
  dk : DK S wr B D
  up : D.down = false
  fs : Ffs D.fs t v
  bk : BK wr b B t v
  nb : ¬ S b ∧ ¬ S N ∧ ¬ S (N + 1) ∧ b < N ∧ w.heap.size ≤ b
  was : wr.heap[N]? = some (.cells #[.int .u64 (t : Int), .int .i64 v] 48 (0, 0))
  being : wr.heap[N + 1]? = some (.cells #[.int .u64 (t : Int), .int .i64 v] 48 (0, 0))
  bel : Below w.heap.size w wr
  lo : ∀ k, S k → w.heap.size ≤ k
theorem set2_at {w : World} {N : Nat} {x0 x1 : Value} {t : TypeId} (h : w.heap[N]? = some (.cells #[x0, x1] t (0, 0))) (y0 y1 : Value) : ((w.setCell ⟨N, 0, none⟩ y0).setCell ⟨N, 1, none⟩ y1).heap[N]? = some (.cells #[y0, y1] t (0, 0)) := (two_set (two_set h y0).1 y1).2
theorem set2_other {w : World} {N k : Nat} (h : k ≠ N) (y0 y1 : Value) : ((w.setCell ⟨N, 0, none⟩ y0).setCell ⟨N, 1, none⟩ y1).heap[k]? = w.heap[k]? := by
  rw [Below.heap_setCell _ _ _ _ (show k ≠ N from h), Below.heap_setCell _ _ _ _ (show k ≠ N from h)]
theorem only_set2 {X : Nat → Prop} {w w' : World} (h : Only X w w') (N : Nat) (hN : X N) (y0 y1 : Value) : Only X w ((w'.setCell ⟨N, 0, none⟩ y0).setCell ⟨N, 1, none⟩ y1) := (h.setCell ⟨N, 0, none⟩ y0 hN).setCell ⟨N, 1, none⟩ y1 hN
set_option maxRecDepth 100000 in
theorem vkeeps_big (a0 : Option Addr) (n0 c0 : Nat) (s : Int) (a2 : Option Addr) (n2 c2 : Nat) (w : World) (hn : ¬ (n0 ≤ 200 ∧ n2 ≤ 40)) :
    Calls Try.prog 7 #[.slice a0 n0 c0, .int .u8 s, .slice a2 n2 c2] w fun e w' => e = .returned (.bool true) ∧ Below w.heap.size w w' := by
  by_cases h1 : n0 ≤ 200
  · have g1 : decide ((200 : Int) < (n0 : Int)) = false := decide_eq_false (by omega)
    have g1' : decide (200 < n0) = false := decide_eq_false (by omega)
    have g2 : decide ((40 : Int) < (n2 : Int)) = true := decide_eq_true (by omega)
    have g2' : decide (40 < n2) = true := decide_eq_true (by omega)
    clear hn h1
    go_enter Try.func7, Try.ntmps7
    go_wp2_with fail
    refine (lives26 w).mono ?_
    rintro e w1 ⟨rfl, hb⟩
    go_wp2_with fail
    go_ret
    exact ⟨rfl, hb⟩
  · have g1 : decide ((200 : Int) < (n0 : Int)) = true := decide_eq_true (by omega)
    have g1' : decide (200 < n0) = true := decide_eq_true (by omega)
    clear hn h1
    go_enter Try.func7, Try.ntmps7
    go_wp2_with fail
    refine (lives26 w).mono ?_
    rintro e w1 ⟨rfl, hb⟩
    go_wp2_with fail
    go_ret
    exact ⟨rfl, hb⟩
set_option maxRecDepth 100000 in
set_option maxHeartbeats 8000000 in
theorem vkeeps_in (a0 : Option Addr) (n0 c0 : Nat) (T : Nat → Nat) (V : Nat → Int) (s : Nat) (a2 : Option Addr) (n2 c2 : Nat) (ts : List (Nat × Nat)) (w : World) (h0 : Sts w a0 n0 T V) (hs : s < 256) (h2 : Trs c2 w a2 n2 ts) (hn0 : n0 ≤ 200) (hn2 : n2 ≤ 40) :
    Calls Try.prog 7 #[.slice a0 n0 c0, .int .u8 (s : Int), .slice a2 n2 c2] w fun e w' => e = .returned (.bool true) ∧ Below w.heap.size w w' := by
  have g1 : decide ((200 : Int) < (n0 : Int)) = false := decide_eq_false (by omega)
  have g1' : decide (200 < n0) = false := decide_eq_false (by omega)
  have g2 : decide ((40 : Int) < (n2 : Int)) = false := decide_eq_false (by omega)
  have g2' : decide (40 < n2) = false := decide_eq_false (by omega)
  have HS := Lib.hid h0
  have HT := Lib.hid h2
  have HN0 := Lib.hid hn0
  have k1 : IntKind.i64.wrap ((s : Nat) : Int) = ((s : Nat) : Int) := IntWalk.i64_in _ (by omega)
  clear h0 h2
  go_enter Try.func7, Try.ntmps7
  go_wp2_with fail
  refine (new_dk 1048576 w (by decide)).mono ?_
  rintro e w1 ⟨B, rfl, hB, ⟨m, mt, M, VV, h⟩, hb⟩
  have HO := Lib.hid (vopen_any (D := eM) h (by decide))
  rw [ex_openM] at HO
  have HSS : Hid (∀ k, (fun k => w.heap.size ≤ k ∧ k < w1.heap.size) k → w.heap.size ≤ k) := Lib.hid (fun k hk => hk.1)
  obtain ⟨S, hS⟩ : ∃ S : Nat → Prop, (fun k => w.heap.size ≤ k ∧ k < w1.heap.size) = S := ⟨_, rfl⟩
  rw [hS] at HO HSS
  have HB := Lib.hid hb
  clear h hb hB hS
  go_wp2_with fail
  refine HO.out.mono ?_
  rintro e w2 ⟨S2, ⟨m2, mt2, M2, V2, hd2⟩, hf2, ⟨hne, -⟩ | ⟨-, b, rfl, hbk, hbz, hbs⟩⟩
  · exact absurd rfl hne
  obtain ⟨hb2, hs2⟩ := fr_below HB.out HB.out.size HSS.out hf2
  have HB2 := Lib.hid hb2
  have HS2 := Lib.hid hs2
  have HBK := Lib.hid hbk
  have HBS := Lib.hid hbs
  have HBZ := Lib.hid (Nat.le_trans HB.out.size hbz)
  have HAR := Lib.hid (darm_any hd2 (by decide) ((s : Nat) : Int) (by omega))
  dsimp only at HAR
  rw [ex_armM] at HAR
  clear hd2 hf2 hbk hbz hbs hb2 hs2 HB HSS HO
  go_wp2_with fail
  refine HAR.out.mono ?_
  rintro e w3 ⟨S3, rfl, hd3, hf3⟩
  obtain ⟨hb3, hs3⟩ := fr_below HB2.out HB2.out.size HS2.out hf3
  have HB3 := Lib.hid hb3
  have HS3 := Lib.hid hs3
  have HD3 := Lib.hid hd3
  have HBK3 := Lib.hid (bk_out HBK.out hf3 HBS.out)
  clear hd3 hf3 hb3 hs3 HB2 HS2 HBK HBS HAR g1 g1' g2 g2'
  go_wp2_with fail
  refine (vstate_yes HBK3.out.1).mono ?_
  rintro e w4 ⟨rfl, hb4⟩
  have HB4 := Lib.hid (HB3.out.trans (hb4.mono HB3.out.size))
  have HD4 := Lib.hid (HD3.out.below hb4)
  have HBK4 := Lib.hid (And.intro (show BK w4 b B 0 (-1) from ex_below HBK3.out.1 hb4) HBK3.out.2)
  clear hb4 HB3 HD3 HBK3 k1
  obtain ⟨B5, s5, s6, -⟩ := box2 w4 #[.int .u64 0, .int .i64 (-1)] #[.int .u64 0, .int .i64 (-1)] 48 48
  go_wp2_with fail
  obtain ⟨N, hN⟩ : ∃ N, w4.heap.size = N := ⟨_, rfl⟩
  have HLI : Hid (LI w B b N S3 ⟨1048576, [], 0, false, true, ((0 : Nat) : Int) + (s : Int)⟩ 0 (-1) ((w4.alloc (.cells #[.int .u64 0, .int .i64 (-1)] 48)).alloc (.cells #[.int .u64 0, .int .i64 (-1)] 48))) := Lib.hid (by
    obtain ⟨m4, mt4, M4, V4, hd4⟩ := HD4.out
    have hbn := ex_lt HBK4.out.1
    refine ⟨⟨m4, mt4, M4, V4, hd4.below B5⟩, rfl, .inl ⟨rfl, rfl, rfl⟩, ex_below HBK4.out.1 B5, ⟨HBK4.out.2, fun hs => ?_, fun hs => ?_, by omega, HBZ.out⟩, by rw [← hN]; exact s5, by rw [← hN]; exact s6, HB4.out.trans (B5.mono HB4.out.size), HS3.out⟩
    · have := hd4.bd _ hs; omega
    · have := hd4.bd _ hs; omega)
  rw [hN]
  generalize (w4.alloc (.cells #[.int .u64 0, .int .i64 (-1)] 48)).alloc (.cells #[.int .u64 0, .int .i64 (-1)] 48) = W0 at HLI ⊢
  clear B5 s5 s6 HB4 HD4 HBK4 HS3 HBZ hN
  go_loopg [49] (n0 + 1) (fun kx s49 wr => ∃ (k : Nat) (S : Nat → Prop) (D : Dd) (t : Nat) (v : Int), s49 = .int .i64 k ∧ k ≤ n0 ∧ n0 - k ≤ kx ∧ D.st ≤ 4 * k ∧ Hid (LI w B b N S D t v wr))
  case atStart => exact ⟨0, S3, _, 0, -1, rfl, by omega, by omega, Nat.le_refl _, HLI⟩
  case round =>
    obtain ⟨k, S, D, t, v, rfl, hk, hkx, hst, HL⟩ := hrel
    by_cases hlt : k < n0
    · have hltz : (k : Int) < (n0 : Int) := by omega
      have gl : decide ((k : Int) < (n0 : Int)) = true := decide_eq_true hltz
      obtain ⟨ab, ao, rfl, hab, hc0, hc1⟩ := HS.out.below HL.out.bel k hlt
      obtain ⟨m5, mt5, M5, V5, hd5⟩ := HL.out.dk
      obtain ⟨b6, s6, z6⟩ := box1 wr #[.int .u64 (T k : Int), .int .i64 (V k)] 48
      have HZ6 : Hid (b < wr.heap.size ∧ N + 1 < wr.heap.size ∧ ∀ q, S q → q < wr.heap.size) := Lib.hid ⟨ex_lt HL.out.bk, ex_lt HL.out.being, hd5.bd⟩
      have HKP := Lib.hid (vkeep_any (hd5.below b6) (by omega) (show BK _ b B t v from ex_below HL.out.bk b6) HL.out.nb.1 (T k) (V k))
      have HOK := Lib.hid (keep_ok HL.out.up HL.out.fs (T k) (V k))
      have hks := keep_st D t v (T k) (V k)
      obtain ⟨⟨D7, e7, t7, v7⟩, hr7⟩ : ∃ r, keepV D t v (T k) (V k) = r := ⟨_, rfl⟩
      rw [hr7] at HKP HOK hks
      dsimp only at hks
      have HB6 := Lib.hid b6
      have HS6 := Lib.hid s6
      obtain ⟨tk, htk⟩ : ∃ x, T k = x := ⟨_, rfl⟩
      obtain ⟨vk, hvk⟩ : ∃ x, V k = x := ⟨_, rfl⟩
      rw [htk] at hc0 HKP HOK HB6 HS6
      rw [hvk] at hc1 HKP HOK HB6 HS6
      clear hr7 htk hvk b6 s6 z6 hd5
      go_wp2_with fail
      obtain ⟨x6, hx6⟩ : ∃ x, wr.heap.size = x := ⟨_, rfl⟩
      rw [hx6] at HS6 HZ6 ⊢
      have HX6 := Lib.hid hx6
      refine HKP.out.mono ?_
      rintro e w7 ⟨S7, rfl, hd7, hbk7, hnb7, hss7, ho7⟩
      dsimp only at hd7 hbk7
      have hz6 : (wr.alloc (.cells #[.int .u64 (tk : Int), .int .i64 vk] 48)).heap.size = x6 + 1 := by rw [World.size_alloc, hx6]
      obtain ⟨nb1, nb2, nb3, nb4, nb5⟩ := HL.out.nb
      obtain ⟨zb, zn, zs⟩ := HZ6.out
      have same : ∀ q, q < x6 + 1 → ¬ S q → q ≠ b → w7.heap[q]? = (wr.alloc (.cells #[.int .u64 (tk : Int), .int .i64 vk] 48)).heap[q]? := fun q h1 h2 h3 => ho7.block q (by rw [hz6]; exact h1) (fun h => h.elim h2 h3)
      have q0 := (same N (by omega) nb2 (by omega)).trans (ex_below HL.out.was HB6.out)
      have q1 := (same (N + 1) (by omega) nb3 (by omega)).trans (ex_below HL.out.being HB6.out)
      have q6 := (same x6 (by omega) (fun h => by have := zs _ h; omega) (by omega)).trans HS6.out
      have nn : ∀ q, q < x6 → ¬ S q → ¬ S7 q := fun q h1 h2 h3 => (hss7 q h3).elim h2 (fun h => by rw [hz6] at h; omega)
      have HNB : Hid (¬ S7 b ∧ ¬ S7 N ∧ ¬ S7 (N + 1) ∧ b < N ∧ w.heap.size ≤ b) := Lib.hid ⟨nn b zb nb1, nn N (by omega) nb2, nn _ (by omega) nb3, nb4, nb5⟩
      have HLO : Hid (∀ q, S7 q → w.heap.size ≤ q) := Lib.hid (fun q h => (hss7 q h).elim (HL.out.lo q) (fun h2 => Nat.le_trans HL.out.bel.size (by rw [hz6] at h2; omega)))
      have hB6 : Below w.heap.size w (wr.alloc (.cells #[.int .u64 (tk : Int), .int .i64 vk] 48)) := HL.out.bel.trans (HB6.out.mono HL.out.bel.size)
      have HB7 : Hid (Below w.heap.size w w7) := Lib.hid (hB6.trans (ho7.toBelow hB6.size (fun q h => h.elim (HL.out.lo q) (fun h => h ▸ nb5))))
      have HN : Hid (w.heap.size ≤ N ∧ N + 1 < x6) := Lib.hid ⟨by omega, zn⟩
      have HD7 := Lib.hid hd7
      have HBK7 := Lib.hid hbk7
      have HQ0 := Lib.hid q0
      have HQ1 := Lib.hid q1
      have HQ6 := Lib.hid q6
      clear same nn hd7 hbk7 hnb7 hss7 ho7 hB6 hz6 nb1 nb2 nb3 nb4 nb5 zb zn zs HKP hc0 hc1 hx6
      have hok := HOK.out
      unfold KeptOk at hok
      dsimp only at hok
      rcases hok with ⟨hup, h50, hfs, ⟨rfl, rfl, rfl, hmy⟩ | ⟨he0, rfl, rfl⟩⟩ | ⟨hdn, rfl, rfl, rfl, hmy, hhf⟩
      · have HUP := Lib.hid hup
        have HFS := Lib.hid hfs
        clear hup hfs hmy h50
        obtain ⟨c0, c1, -⟩ := two_at q6
        obtain ⟨d0, d1, df⟩ := two_at q0
        obtain ⟨f0, f1, ff⟩ := two_at q1
        have hN2 := HN.out
        have p1 : x6 ≠ N := by omega
        have p2 : N ≠ x6 := by omega
        have p3 : x6 ≠ N + 1 := by omega
        have p4 : N + 1 ≠ x6 := by omega
        have m1 : ∀ (y0 y1 : Value) (o : Nat), (((w7.setCell ⟨N, 0, none⟩ y0).setCell ⟨N, 1, none⟩ y1).drew).cell? ⟨x6, o, none⟩ = w7.cell? ⟨x6, o, none⟩ := fun y0 y1 o => World.cell?_of_block (show ((w7.setCell ⟨N, 0, none⟩ y0).setCell ⟨N, 1, none⟩ y1).heap[x6]? = _ from set2_other p1 y0 y1)
        have m2 : ∀ (y0 y1 : Value) (o : Nat), (((w7.setCell ⟨N + 1, 0, none⟩ y0).setCell ⟨N + 1, 1, none⟩ y1).drew).cell? ⟨x6, o, none⟩ = w7.cell? ⟨x6, o, none⟩ := fun y0 y1 o => World.cell?_of_block (show ((w7.setCell ⟨N + 1, 0, none⟩ y0).setCell ⟨N + 1, 1, none⟩ y1).heap[x6]? = _ from set2_other p3 y0 y1)
        have l1 := (m1 (.int .u64 (t7 : Int)) (.int .i64 v7) 0).trans c0
        have l2 := (m1 (.int .u64 (t7 : Int)) (.int .i64 v7) 1).trans c1
        have l3 := (m2 (.int .u64 (t7 : Int)) (.int .i64 v7) 0).trans c0
        have l4 := (m2 (.int .u64 (t7 : Int)) (.int .i64 v7) 1).trans c1
        clear m1 m2 hN2
        go_wp2_with fail
        go_region
        have hon : Only (fun q => q = N ∨ q = N + 1) w7 (((((w7.setCell ⟨N, 0, none⟩ (.int .u64 (t7 : Int))).setCell ⟨N, 1, none⟩ (.int .i64 v7)).setCell ⟨N + 1, 0, none⟩ (.int .u64 (t7 : Int))).setCell ⟨N + 1, 1, none⟩ (.int .i64 v7)).drew) := (only_set2 (only_set2 (Only.refl (fun q => q = N ∨ q = N + 1) w7) N (.inl rfl) (.int .u64 (t7 : Int)) (.int .i64 v7)) (N + 1) (.inr rfl) (.int .u64 (t7 : Int)) (.int .i64 v7)).drew
        have hli : LI w B b N S7 D7 t7 v7 (((((w7.setCell ⟨N, 0, none⟩ (.int .u64 (t7 : Int))).setCell ⟨N, 1, none⟩ (.int .i64 v7)).setCell ⟨N + 1, 0, none⟩ (.int .u64 (t7 : Int))).setCell ⟨N + 1, 1, none⟩ (.int .i64 v7)).drew) := by
          obtain ⟨m7, mt7, M7, V7, hd7⟩ := HD7.out
          have hnb := HNB.out
          have hn2 := HN.out
          refine ⟨⟨m7, mt7, M7, V7, hd7.only hon (fun q hq h => h.elim (fun h => hnb.2.1 (h ▸ hq)) (fun h => hnb.2.2.1 (h ▸ hq)))⟩, HUP.out, HFS.out, ?_, hnb, ?_, ?_, HB7.out.trans (hon.toBelow HB7.out.size (fun q h => by omega)), HLO.out⟩
          · exact (hon.block b (ex_lt HBK7.out) (fun h => by omega)).trans HBK7.out
          · show (((w7.setCell ⟨N, 0, none⟩ _).setCell ⟨N, 1, none⟩ _).setCell ⟨N + 1, 0, none⟩ _ |>.setCell ⟨N + 1, 1, none⟩ _).heap[N]? = _
            rw [set2_other (show N ≠ N + 1 by omega)]; exact set2_at HQ0.out _ _
          · exact set2_at (N := N + 1) ((set2_other (show N + 1 ≠ N by omega) _ _).trans HQ1.out) _ _
        have HLI := Lib.hid hli
        clear hon hli l1 l2 l3 l4 p1 p2 p3 p4 c0 c1 d0 d1 df f0 f1 ff q0 q1 q6
        generalize ((((w7.setCell ⟨N, 0, none⟩ (.int .u64 (t7 : Int))).setCell ⟨N, 1, none⟩ (.int .i64 v7)).setCell ⟨N + 1, 0, none⟩ (.int .u64 (t7 : Int))).setCell ⟨N + 1, 1, none⟩ (.int .i64 v7)).drew = w9 at HLI ⊢
        go_wp2_with fail
        go_roundg (n0 - (k + 1))
        case measure => omega
        case rel => exact ⟨k + 1, S7, D7, t7, v7, by go_num, by omega, by omega, by omega, HLI⟩
      · have g0 : decide (e7 = 0) = false := decide_eq_false he0
        have g0' : (e7 == 0) = false := by simp; omega
        have g5 : decide (e7 = 50) = false := decide_eq_false h50
        have g5' : (e7 == 50) = false := by simp; omega
        have HUP := Lib.hid hup
        have HFS := Lib.hid hfs
        clear hup hfs h50 he0 q0 q1 q6
        go_wp2_with fail
        go_roundg (n0 - (k + 1))
        case measure => omega
        case rel => exact ⟨k + 1, S7, D7, t7, v7, by go_num, by omega, by omega, by omega, ⟨HD7.out, HUP.out, HFS.out, HBK7.out, HNB.out, HQ0.out, HQ1.out, HB7.out, HLO.out⟩⟩
      · have HRO : Hid (∃ D' t' v', openV (bootD (crashD D7 ts)) = (D', 0, t', v') ∧ ((t' = t7 ∧ v' = v7) ∨ (t' = tk ∧ v' = vk))) := Lib.hid (by
          obtain ⟨D', t', v', h1, -, -, -, -, h2⟩ := reopen_half hhf ts
          exact ⟨D', t', v', h1, h2⟩)
        have HSX : Hid (D7.st < 800000000) := Lib.hid (by omega)
        have hon : Only (fun q => q = N + 1) w7 ((w7.setCell ⟨N + 1, 0, none⟩ (.int .u64 (tk : Int))).setCell ⟨N + 1, 1, none⟩ (.int .i64 vk)) := only_set2 (Only.refl (fun q => q = N + 1) w7) (N + 1) rfl (.int .u64 (tk : Int)) (.int .i64 vk)
        have hlq : (DK S7 ((w7.setCell ⟨N + 1, 0, none⟩ (.int .u64 (tk : Int))).setCell ⟨N + 1, 1, none⟩ (.int .i64 vk)) B D7 ∧ ¬ S7 N ∧ ¬ S7 (N + 1) ∧ ((w7.setCell ⟨N + 1, 0, none⟩ (.int .u64 (tk : Int))).setCell ⟨N + 1, 1, none⟩ (.int .i64 vk)).heap[N]? = some (.cells #[.int .u64 (t7 : Int), .int .i64 v7] 48 (0, 0)) ∧ ((w7.setCell ⟨N + 1, 0, none⟩ (.int .u64 (tk : Int))).setCell ⟨N + 1, 1, none⟩ (.int .i64 vk)).heap[N + 1]? = some (.cells #[.int .u64 (tk : Int), .int .i64 vk] 48 (0, 0)) ∧ Below w.heap.size w ((w7.setCell ⟨N + 1, 0, none⟩ (.int .u64 (tk : Int))).setCell ⟨N + 1, 1, none⟩ (.int .i64 vk)) ∧ (∀ q, S7 q → w.heap.size ≤ q) ∧ w.heap.size ≤ N) := by
          obtain ⟨m7, mt7, M7, V7, hd7⟩ := HD7.out
          have hnb := HNB.out
          have hn2 := HN.out
          exact ⟨⟨m7, mt7, M7, V7, hd7.only hon (fun q hq h => hnb.2.2.1 (h ▸ hq))⟩, hnb.2.1, hnb.2.2.1, (set2_other (show N ≠ N + 1 by omega) _ _).trans HQ0.out, set2_at HQ1.out _ _, HB7.out.trans (hon.toBelow HB7.out.size (fun q h => by omega)), HLO.out, hn2.1⟩
        have HLQ := Lib.hid hlq
        obtain ⟨c0, c1, -⟩ := two_at q6
        obtain ⟨f0, f1, ff⟩ := two_at q1
        clear hon hlq hdn hmy hhf q0 q1 q6
        go_wp2_with fail
        generalize (w7.setCell ⟨N + 1, 0, none⟩ (.int .u64 (tk : Int))).setCell ⟨N + 1, 1, none⟩ (.int .i64 vk) = w8 at HLQ ⊢
        clear c0 c1 f0 f1 ff
        obtain ⟨⟨mX, mtX, MX, VX, hdX⟩, nx1, nx2, wx, bx, belx, lox, hnx⟩ := HLQ.out
        have htr : TRow S7 w8 a2 ts := fun i hi => by
          obtain ⟨b', o', h1, h2, h3, h4, h5⟩ := HT.out.2.1 i hi
          exact ⟨b', o', h1, Nat.lt_of_lt_of_le h2 belx.size, fun hs => Nat.lt_irrefl _ (Nat.lt_of_lt_of_le h2 (lox _ hs)), (belx.cell (p := ⟨b', o' + i * 2, none⟩) h2).trans h4, (belx.cell (p := ⟨b', o' + i * 2 + 1, none⟩) h2).trans h5⟩
        have hcr := dcrash_did hdX a2 c2 ts htr (by rw [HT.out.1]; exact HT.out.2.2.1) HT.out.2.2.2
        rw [HT.out.1] at hcr
        have HCR := Lib.hid hcr
        clear hcr htr hdX nx1 nx2 wx bx belx lox
        go_wp2_with fail
        refine HCR.out.mono ?_
        rintro e w10 ⟨S10, rfl, ⟨m10, mt10, M10, V10, hd10⟩, hf10⟩
        obtain ⟨-, nx1, nx2, wx, bx, belx, lox, -⟩ := HLQ.out
        obtain ⟨y1, y2, -⟩ := hf10.out (ex_lt wx) nx1
        obtain ⟨y3, y4, -⟩ := hf10.out (ex_lt bx) nx2
        obtain ⟨y5, y6⟩ := fr_below belx belx.size lox hf10
        have HQ10 := Lib.hid (And.intro (y1.trans wx) (And.intro (y3.trans bx) (And.intro y2 (And.intro y4 (And.intro y5 y6)))))
        have HBO := Lib.hid (dboot_any hd10)
        clear nx1 nx2 wx bx belx lox y1 y2 y3 y4 y5 y6 hd10 hf10 HCR
        go_wp2_with fail
        refine HBO.out.mono ?_
        rintro e w11 ⟨S11, rfl, ⟨m11, mt11, M11, V11, hd11⟩, hf11⟩
        obtain ⟨wx, bx, nx1, nx2, belx, lox⟩ := HQ10.out
        obtain ⟨y1, y2, -⟩ := hf11.out (ex_lt wx) nx1
        obtain ⟨y3, y4, -⟩ := hf11.out (ex_lt bx) nx2
        obtain ⟨y5, y6⟩ := fr_below belx belx.size lox hf11
        have HQ11 := Lib.hid (And.intro (y1.trans wx) (And.intro (y3.trans bx) (And.intro y2 (And.intro y4 (And.intro y5 y6)))))
        obtain ⟨D12, t12, v12, ho12, hor⟩ := HRO.out
        have HOP := Lib.hid (vopen_any hd11 (show (bootD (crashD D7 ts)).st < 900000000 from Nat.lt_of_lt_of_le HSX.out (by omega)))
        rw [ho12] at HOP
        have HOR := Lib.hid hor
        clear nx1 nx2 wx bx belx lox y1 y2 y3 y4 y5 y6 hd11 hf11 HBO HQ10 ho12 hor
        go_wp2_with fail
        refine HOP.out.mono ?_
        rintro e w12 ⟨S12, -, hf12, ⟨hne, -⟩ | ⟨-, b12, rfl, hbk12, -, -⟩⟩
        · exact absurd rfl hne
        obtain ⟨wx, bx, nx1, nx2, belx, lox⟩ := HQ11.out
        obtain ⟨y1, -, -⟩ := hf12.out (ex_lt wx) nx1
        obtain ⟨y3, -, -⟩ := hf12.out (ex_lt bx) nx2
        obtain ⟨y5, -⟩ := fr_below belx belx.size lox hf12
        have HQ12 := Lib.hid (And.intro (y1.trans wx) (y3.trans bx))
        have HB12 := Lib.hid y5
        have HK12 := Lib.hid hbk12
        dsimp only at HK12
        clear nx1 nx2 wx bx belx lox y1 y3 y5 hf12 HOP HQ11 hbk12
        obtain ⟨u0, u1⟩ := two_rd HQ12.out.1
        obtain ⟨z0, z1⟩ := two_rd HQ12.out.2
        obtain ⟨k0, k1, k2⟩ := three_rd HK12.out
        go_upto_region 21 with fail
        clear u0 u1 z0 z1 k0 k1 k2
        by_cases heq : t12 = t7 ∧ v12 = v7
        · obtain ⟨rfl, rfl⟩ := heq
          clear HOR
          have HK_u1 : Hid (BK w12.drew b12 B t12 v12) := Lib.hid (show BK w12.drew b12 B t12 v12 from ex_below HK12.out (Below.refl _ _).drew)
          have HB_u1 : Hid (Below w.heap.size w w12.drew) := Lib.hid HB12.out.drew
          have HS0 : Hid ((fun W : World => W.heap[N]? = some (.cells #[.int .u64 (t12 : Int), .int .i64 v12] 48 (0, 0)) ∧ W.heap[N + 1]? = some (.cells #[.int .u64 (tk : Int), .int .i64 vk] 48 (0, 0))) w12.drew) := Lib.hid ⟨HQ12.out.1, HQ12.out.2⟩
          refine wp_region_held_drew (S := (fun W : World => W.heap[N]? = some (.cells #[.int .u64 (t12 : Int), .int .i64 v12] 48 (0, 0)) ∧ W.heap[N + 1]? = some (.cells #[.int .u64 (tk : Int), .int .i64 vk] 48 (0, 0)))) (by kernel_rfl) HS0.out (fun hHeld => ?_)
          clear hHeld HK12 HB12 HQ12
          generalize w12.drew = u1 at HK_u1 HB_u1 HS0 ⊢
          refine wpAnyH_take (i := 0) (oi := { dst := some 74, op := Go.Op.move (Go.Operand.tmp 9), type := 32, pos := "law.go:148", after := #[], guard := none }) (v := ?_) rfl (by kernel_rfl) (by kernel_rfl) (by kernel_rfl) (fun _ _ _ h => h) (Or.inl ⟨by rfl, ?_⟩) HS0.out ?_
          case refine_2 => (intro w1 hS1; clear hS1; go_simp; try with_reducible rfl)
          try simp only [Act.put, List.setIfInBounds_toArray, List.set_cons_zero, List.set_cons_succ]
          refine wpAnyH_take (i := 1) (oi := { dst := some 75, op := Go.Op.binOp Go.BinOp.eql 32 (Go.Operand.tmp 74) (Go.Operand.const (Go.Value.int Go.IntKind.i64 0)) 32, type := 4, pos := "law.go:148", after := #[{ on := 0, ground := Go.Ground.data }], guard := none }) (v := ?_) rfl (by kernel_rfl) (by kernel_rfl) (by kernel_rfl) (fun _ _ _ h => h) (Or.inl ⟨by rfl, ?_⟩) HS0.out ?_
          case refine_2 => (intro w1 hS1; clear hS1; go_simp; try with_reducible rfl)
          try simp only [Act.put, List.setIfInBounds_toArray, List.set_cons_zero, List.set_cons_succ]
          refine wpAnyH_take (i := 2) (oi := { dst := some 76, op := Go.Op.move (Go.Operand.tmp 75), type := 4, pos := "law.go:148", after := #[{ on := 1, ground := Go.Ground.data }], guard := none }) (v := ?_) rfl (by kernel_rfl) (by kernel_rfl) (by kernel_rfl) (fun _ _ _ h => h) (Or.inl ⟨by rfl, ?_⟩) HS0.out ?_
          case refine_2 => (intro w1 hS1; clear hS1; go_simp; try with_reducible rfl)
          try simp only [Act.put, List.setIfInBounds_toArray, List.set_cons_zero, List.set_cons_succ]
          refine wpAnyH_take (i := 3) (oi := { dst := some 77, op := Go.Op.move (Go.Operand.tmp 15), type := 58, pos := "law.go:148", after := #[{ on := 2, ground := Go.Ground.guard }], guard := some (2, true) }) (v := ?_) rfl (by kernel_rfl) (by kernel_rfl) (by kernel_rfl) (fun _ _ _ h => h) (Or.inl ⟨by rfl, ?_⟩) HS0.out ?_
          case refine_2 => (intro w1 hS1; clear hS1; go_simp; try with_reducible rfl)
          try simp only [Act.put, List.setIfInBounds_toArray, List.set_cons_zero, List.set_cons_succ]
          refine wpAnyH_take (i := 5) (oi := { dst := some 79, op := Go.Op.load 48 (Go.Operand.tmp 10), type := 48, pos := "law.go:148", after := #[{ on := 2, ground := Go.Ground.guard }], guard := some (2, true) }) (v := .agg #[.int .u64 (t12 : Int), .int .i64 v12]) rfl (by kernel_rfl) (by kernel_rfl) (by kernel_rfl) (fun _ _ _ h => h) (Or.inl ⟨by rfl, ?_⟩) HS0.out ?_
          case refine_1 => (intro w1 hS1; obtain ⟨x0, x1⟩ := two_rd hS1.1; clear hS1; go_simp; try with_reducible rfl)
          try simp only [Act.put, List.setIfInBounds_toArray, List.set_cons_zero, List.set_cons_succ]
          refine wpAnyH_ready (rs := [4]) (by kernel_rfl) (by simp) ?_
          refine AllReadyH.cons (o := { dst := some 78, op := Go.Op.call { callee := Go.Callee.value (Go.Operand.func 35), args := #[Go.Operand.tmp 77], argTypes := #[58] }, type := 48, pos := "law.go:148", after := #[{ on := 3, ground := Go.Ground.data }, { on := 2, ground := Go.Ground.chain }, { on := 2, ground := Go.Ground.guard }], guard := some (2, true) }) rfl (fun K hK => ?_) AllReadyH.nil
          go_simp
          refine (vstate_yes HK_u1.out).mono ?_
          rintro e u2 ⟨rfl, hb⟩
          have HK_u2 := Lib.hid (show BK u2 b12 B t12 v12 from ex_below HK_u1.out hb)
          have HB_u2 := Lib.hid (HB_u1.out.trans (hb.mono HB_u1.out.size))
          have HS0' : Hid ((fun W : World => W.heap[N]? = some (.cells #[.int .u64 (t12 : Int), .int .i64 v12] 48 (0, 0)) ∧ W.heap[N + 1]? = some (.cells #[.int .u64 (tk : Int), .int .i64 vk] 48 (0, 0))) u2) := Lib.hid ⟨ex_below HS0.out.1 hb, ex_below HS0.out.2 hb⟩
          clear hb HS0 HK_u1 HB_u1
          have HS0 := HS0'
          clear HS0'
          refine hK.out _ _ HS0.out (fun hHeld => ?_)
          clear hK K hHeld
          try simp only [Act.put, List.setIfInBounds_toArray, List.set_cons_zero, List.set_cons_succ]
          refine wpAnyH_take (i := 6) (oi := { dst := some 80, op := Go.Op.binOp Go.BinOp.eql 48 (Go.Operand.tmp 78) (Go.Operand.tmp 79) 48, type := 4, pos := "law.go:148", after := #[{ on := 4, ground := Go.Ground.data }, { on := 5, ground := Go.Ground.data }, { on := 2, ground := Go.Ground.guard }], guard := some (2, true) }) (v := .bool true) rfl (by kernel_rfl) (by kernel_rfl) (by kernel_rfl) (fun _ _ _ h => h) (Or.inl ⟨by rfl, ?_⟩) HS0.out ?_
          case refine_1 => (intro w1 hS1; clear hS1; go_simp; try with_reducible rfl)
          try simp only [Act.put, List.setIfInBounds_toArray, List.set_cons_zero, List.set_cons_succ]
          refine wpAnyH_take (i := 7) (oi := { dst := some 81, op := Go.Op.move (Go.Operand.tmp 80), type := 4, pos := "law.go:148", after := #[{ on := 6, ground := Go.Ground.data }, { on := 4, ground := Go.Ground.chain }, { on := 2, ground := Go.Ground.guard }], guard := some (2, true) }) (v := ?_) rfl (by kernel_rfl) (by kernel_rfl) (by kernel_rfl) (fun _ _ _ h => h) (Or.inl ⟨by rfl, ?_⟩) HS0.out ?_
          case refine_2 => (intro w1 hS1; clear hS1; go_simp; try with_reducible rfl)
          try simp only [Act.put, List.setIfInBounds_toArray, List.set_cons_zero, List.set_cons_succ]
          refine wpAnyH_take (i := 8) (oi := { dst := some 82, op := Go.Op.move (Go.Operand.tmp 15), type := 58, pos := "law.go:148", after := #[{ on := 7, ground := Go.Ground.guard }], guard := some (7, false) }) (v := undef) rfl (by kernel_rfl) (by kernel_rfl) (by kernel_rfl) (fun _ _ _ h => h) (Or.inr ⟨by rfl, rfl⟩) HS0.out ?_
          try simp only [Act.put, List.setIfInBounds_toArray, List.set_cons_zero, List.set_cons_succ]
          refine wpAnyH_take (i := 9) (oi := { dst := some 83, op := Go.Op.call { callee := Go.Callee.value (Go.Operand.func 35), args := #[Go.Operand.tmp 82], argTypes := #[58] }, type := 48, pos := "law.go:148", after := #[{ on := 8, ground := Go.Ground.data }, { on := 7, ground := Go.Ground.chain }, { on := 7, ground := Go.Ground.guard }], guard := some (7, false) }) (v := undef) rfl (by kernel_rfl) (by kernel_rfl) (by kernel_rfl) (fun _ _ _ h => h) (Or.inr ⟨by rfl, rfl⟩) HS0.out ?_
          try simp only [Act.put, List.setIfInBounds_toArray, List.set_cons_zero, List.set_cons_succ]
          refine wpAnyH_take (i := 10) (oi := { dst := some 84, op := Go.Op.load 48 (Go.Operand.tmp 11), type := 48, pos := "law.go:148", after := #[{ on := 7, ground := Go.Ground.guard }], guard := some (7, false) }) (v := undef) rfl (by kernel_rfl) (by kernel_rfl) (by kernel_rfl) (fun _ _ _ h => h) (Or.inr ⟨by rfl, rfl⟩) HS0.out ?_
          try simp only [Act.put, List.setIfInBounds_toArray, List.set_cons_zero, List.set_cons_succ]
          refine wpAnyH_take (i := 11) (oi := { dst := some 85, op := Go.Op.binOp Go.BinOp.eql 48 (Go.Operand.tmp 83) (Go.Operand.tmp 84) 48, type := 4, pos := "law.go:148", after := #[{ on := 9, ground := Go.Ground.data }, { on := 10, ground := Go.Ground.data }, { on := 7, ground := Go.Ground.guard }], guard := some (7, false) }) (v := undef) rfl (by kernel_rfl) (by kernel_rfl) (by kernel_rfl) (fun _ _ _ h => h) (Or.inr ⟨by rfl, rfl⟩) HS0.out ?_
          try simp only [Act.put, List.setIfInBounds_toArray, List.set_cons_zero, List.set_cons_succ]
          refine wpAnyH_take (i := 12) (oi := { dst := some 86, op := Go.Op.pick (Go.Operand.tmp 81) (Go.Operand.const (Go.Value.bool true)) (Go.Operand.tmp 85), type := 4, pos := "law.go:148", after := #[{ on := 7, ground := Go.Ground.data }, { on := 11, ground := Go.Ground.data }, { on := 2, ground := Go.Ground.guard }], guard := some (2, true) }) (v := .bool true) rfl (by kernel_rfl) (by kernel_rfl) (by kernel_rfl) (fun _ _ _ h => h) (Or.inl ⟨by rfl, ?_⟩) HS0.out ?_
          case refine_1 => (intro w1 hS1; clear hS1; go_simp; try with_reducible rfl)
          try simp only [Act.put, List.setIfInBounds_toArray, List.set_cons_zero, List.set_cons_succ]
          refine wpAnyH_take (i := 13) (oi := { dst := some 87, op := Go.Op.pick (Go.Operand.tmp 76) (Go.Operand.tmp 86) (Go.Operand.const (Go.Value.bool false)), type := 4, pos := "law.go:148", after := #[{ on := 2, ground := Go.Ground.data }, { on := 12, ground := Go.Ground.data }], guard := none }) (v := .bool true) rfl (by kernel_rfl) (by kernel_rfl) (by kernel_rfl) (fun _ _ _ h => h) (Or.inl ⟨by rfl, ?_⟩) HS0.out ?_
          case refine_1 => (intro w1 hS1; clear hS1; go_simp; try with_reducible rfl)
          try simp only [Act.put, List.setIfInBounds_toArray, List.set_cons_zero, List.set_cons_succ]
          refine wpAnyH_take (i := 14) (oi := { dst := some 88, op := Go.Op.move (Go.Operand.tmp 87), type := 4, pos := "law.go:148", after := #[{ on := 13, ground := Go.Ground.data }, { on := 9, ground := Go.Ground.chain }], guard := none }) (v := ?_) rfl (by kernel_rfl) (by kernel_rfl) (by kernel_rfl) (fun _ _ _ h => h) (Or.inl ⟨by rfl, ?_⟩) HS0.out ?_
          case refine_2 => (intro w1 hS1; clear hS1; go_simp; try with_reducible rfl)
          try simp only [Act.put, List.setIfInBounds_toArray, List.set_cons_zero, List.set_cons_succ]
          refine wpAnyH_ready (rs := [15]) (by kernel_rfl) (by simp) ?_
          refine AllReadyH.cons (o := { dst := some 89, op := Go.Op.call { callee := Go.Callee.value (Go.Operand.func 31), args := #[], argTypes := #[] }, type := 4, pos := "law.go:148", after := #[{ on := 14, ground := Go.Ground.chain }, { on := 14, ground := Go.Ground.guard }], guard := some (14, true) }) rfl (fun K hK => ?_) AllReadyH.nil
          go_simp
          refine (lives26 u2).mono ?_
          rintro e u4 ⟨rfl, hb⟩
          have HK_u4 := Lib.hid (show BK u4 b12 B t12 v12 from ex_below HK_u2.out hb)
          have HB_u4 := Lib.hid (HB_u2.out.trans (hb.mono HB_u2.out.size))
          have HS0' : Hid ((fun W : World => W.heap[N]? = some (.cells #[.int .u64 (t12 : Int), .int .i64 v12] 48 (0, 0)) ∧ W.heap[N + 1]? = some (.cells #[.int .u64 (tk : Int), .int .i64 vk] 48 (0, 0))) u4) := Lib.hid ⟨ex_below HS0.out.1 hb, ex_below HS0.out.2 hb⟩
          clear hb HS0 HK_u2 HB_u2
          have HS0 := HS0'
          clear HS0'
          refine hK.out _ _ HS0.out (fun hHeld => ?_)
          clear hK K hHeld
          try simp only [Act.put, List.setIfInBounds_toArray, List.set_cons_zero, List.set_cons_succ]
          refine wpAnyH_take (i := 16) (oi := { dst := some 90, op := Go.Op.pick (Go.Operand.tmp 88) (Go.Operand.tmp 89) (Go.Operand.const (Go.Value.bool false)), type := 4, pos := "law.go:148", after := #[{ on := 14, ground := Go.Ground.data }, { on := 15, ground := Go.Ground.data }], guard := none }) (v := .bool true) rfl (by kernel_rfl) (by kernel_rfl) (by kernel_rfl) (fun _ _ _ h => h) (Or.inl ⟨by rfl, ?_⟩) HS0.out ?_
          case refine_1 => (intro w1 hS1; clear hS1; go_simp; try with_reducible rfl)
          try simp only [Act.put, List.setIfInBounds_toArray, List.set_cons_zero, List.set_cons_succ]
          refine wpAnyH_take (i := 17) (oi := { dst := some 6, op := Go.Op.assign (Go.Operand.tmp 90), type := 4, pos := "law.go:148", after := #[{ on := 16, ground := Go.Ground.data }, { on := 15, ground := Go.Ground.chain }, { on := 0, ground := Go.Ground.phase }, { on := 1, ground := Go.Ground.phase }, { on := 2, ground := Go.Ground.phase }, { on := 3, ground := Go.Ground.phase }, { on := 4, ground := Go.Ground.phase }, { on := 5, ground := Go.Ground.phase }, { on := 6, ground := Go.Ground.phase }, { on := 7, ground := Go.Ground.phase }, { on := 8, ground := Go.Ground.phase }, { on := 9, ground := Go.Ground.phase }, { on := 10, ground := Go.Ground.phase }, { on := 11, ground := Go.Ground.phase }, { on := 12, ground := Go.Ground.phase }, { on := 13, ground := Go.Ground.phase }, { on := 14, ground := Go.Ground.phase }, { on := 15, ground := Go.Ground.phase }, { on := 16, ground := Go.Ground.phase }], guard := none }) (v := ?_) rfl (by kernel_rfl) (by kernel_rfl) (by kernel_rfl) (fun _ _ _ h => h) (Or.inl ⟨by rfl, ?_⟩) HS0.out ?_
          case refine_2 => (intro w1 hS1; clear hS1; go_simp; try with_reducible rfl)
          try simp only [Act.put, List.setIfInBounds_toArray, List.set_cons_zero, List.set_cons_succ]
          refine wpAnyH_done (by kernel_rfl) ?_ _
          go_wp2_with fail
          go_ret
          exact ⟨rfl, HB_u4.out⟩
        · have hor := HOR.out
          rcases hor with h | ⟨rfl, rfl⟩
          · exact absurd h heq
          · by_cases htt : t12 = t7
            · subst htt
              have hne : ¬ v12 = v7 := fun h => heq ⟨rfl, h⟩
              clear heq HOR
              have HK_u1 : Hid (BK w12.drew b12 B t12 v12) := Lib.hid (show BK w12.drew b12 B t12 v12 from ex_below HK12.out (Below.refl _ _).drew)
              have HB_u1 : Hid (Below w.heap.size w w12.drew) := Lib.hid HB12.out.drew
              have HS0 : Hid ((fun W : World => W.heap[N]? = some (.cells #[.int .u64 (t12 : Int), .int .i64 v7] 48 (0, 0)) ∧ W.heap[N + 1]? = some (.cells #[.int .u64 (t12 : Int), .int .i64 v12] 48 (0, 0))) w12.drew) := Lib.hid ⟨HQ12.out.1, HQ12.out.2⟩
              refine wp_region_held_drew (S := (fun W : World => W.heap[N]? = some (.cells #[.int .u64 (t12 : Int), .int .i64 v7] 48 (0, 0)) ∧ W.heap[N + 1]? = some (.cells #[.int .u64 (t12 : Int), .int .i64 v12] 48 (0, 0)))) (by kernel_rfl) HS0.out (fun hHeld => ?_)
              clear hHeld HK12 HB12 HQ12
              generalize w12.drew = u1 at HK_u1 HB_u1 HS0 ⊢
              refine wpAnyH_take (i := 0) (oi := { dst := some 74, op := Go.Op.move (Go.Operand.tmp 9), type := 32, pos := "law.go:148", after := #[], guard := none }) (v := ?_) rfl (by kernel_rfl) (by kernel_rfl) (by kernel_rfl) (fun _ _ _ h => h) (Or.inl ⟨by rfl, ?_⟩) HS0.out ?_
              case refine_2 => (intro w1 hS1; clear hS1; go_simp; try with_reducible rfl)
              try simp only [Act.put, List.setIfInBounds_toArray, List.set_cons_zero, List.set_cons_succ]
              refine wpAnyH_take (i := 1) (oi := { dst := some 75, op := Go.Op.binOp Go.BinOp.eql 32 (Go.Operand.tmp 74) (Go.Operand.const (Go.Value.int Go.IntKind.i64 0)) 32, type := 4, pos := "law.go:148", after := #[{ on := 0, ground := Go.Ground.data }], guard := none }) (v := ?_) rfl (by kernel_rfl) (by kernel_rfl) (by kernel_rfl) (fun _ _ _ h => h) (Or.inl ⟨by rfl, ?_⟩) HS0.out ?_
              case refine_2 => (intro w1 hS1; clear hS1; go_simp; try with_reducible rfl)
              try simp only [Act.put, List.setIfInBounds_toArray, List.set_cons_zero, List.set_cons_succ]
              refine wpAnyH_take (i := 2) (oi := { dst := some 76, op := Go.Op.move (Go.Operand.tmp 75), type := 4, pos := "law.go:148", after := #[{ on := 1, ground := Go.Ground.data }], guard := none }) (v := ?_) rfl (by kernel_rfl) (by kernel_rfl) (by kernel_rfl) (fun _ _ _ h => h) (Or.inl ⟨by rfl, ?_⟩) HS0.out ?_
              case refine_2 => (intro w1 hS1; clear hS1; go_simp; try with_reducible rfl)
              try simp only [Act.put, List.setIfInBounds_toArray, List.set_cons_zero, List.set_cons_succ]
              refine wpAnyH_take (i := 3) (oi := { dst := some 77, op := Go.Op.move (Go.Operand.tmp 15), type := 58, pos := "law.go:148", after := #[{ on := 2, ground := Go.Ground.guard }], guard := some (2, true) }) (v := ?_) rfl (by kernel_rfl) (by kernel_rfl) (by kernel_rfl) (fun _ _ _ h => h) (Or.inl ⟨by rfl, ?_⟩) HS0.out ?_
              case refine_2 => (intro w1 hS1; clear hS1; go_simp; try with_reducible rfl)
              try simp only [Act.put, List.setIfInBounds_toArray, List.set_cons_zero, List.set_cons_succ]
              refine wpAnyH_take (i := 5) (oi := { dst := some 79, op := Go.Op.load 48 (Go.Operand.tmp 10), type := 48, pos := "law.go:148", after := #[{ on := 2, ground := Go.Ground.guard }], guard := some (2, true) }) (v := .agg #[.int .u64 (t12 : Int), .int .i64 v7]) rfl (by kernel_rfl) (by kernel_rfl) (by kernel_rfl) (fun _ _ _ h => h) (Or.inl ⟨by rfl, ?_⟩) HS0.out ?_
              case refine_1 => (intro w1 hS1; obtain ⟨x0, x1⟩ := two_rd hS1.1; clear hS1; go_simp; try with_reducible rfl)
              try simp only [Act.put, List.setIfInBounds_toArray, List.set_cons_zero, List.set_cons_succ]
              refine wpAnyH_ready (rs := [4]) (by kernel_rfl) (by simp) ?_
              refine AllReadyH.cons (o := { dst := some 78, op := Go.Op.call { callee := Go.Callee.value (Go.Operand.func 35), args := #[Go.Operand.tmp 77], argTypes := #[58] }, type := 48, pos := "law.go:148", after := #[{ on := 3, ground := Go.Ground.data }, { on := 2, ground := Go.Ground.chain }, { on := 2, ground := Go.Ground.guard }], guard := some (2, true) }) rfl (fun K hK => ?_) AllReadyH.nil
              go_simp
              refine (vstate_yes HK_u1.out).mono ?_
              rintro e u2 ⟨rfl, hb⟩
              have HK_u2 := Lib.hid (show BK u2 b12 B t12 v12 from ex_below HK_u1.out hb)
              have HB_u2 := Lib.hid (HB_u1.out.trans (hb.mono HB_u1.out.size))
              have HS0' : Hid ((fun W : World => W.heap[N]? = some (.cells #[.int .u64 (t12 : Int), .int .i64 v7] 48 (0, 0)) ∧ W.heap[N + 1]? = some (.cells #[.int .u64 (t12 : Int), .int .i64 v12] 48 (0, 0))) u2) := Lib.hid ⟨ex_below HS0.out.1 hb, ex_below HS0.out.2 hb⟩
              clear hb HS0 HK_u1 HB_u1
              have HS0 := HS0'
              clear HS0'
              refine hK.out _ _ HS0.out (fun hHeld => ?_)
              clear hK K hHeld
              try simp only [Act.put, List.setIfInBounds_toArray, List.set_cons_zero, List.set_cons_succ]
              refine wpAnyH_take (i := 6) (oi := { dst := some 80, op := Go.Op.binOp Go.BinOp.eql 48 (Go.Operand.tmp 78) (Go.Operand.tmp 79) 48, type := 4, pos := "law.go:148", after := #[{ on := 4, ground := Go.Ground.data }, { on := 5, ground := Go.Ground.data }, { on := 2, ground := Go.Ground.guard }], guard := some (2, true) }) (v := .bool false) rfl (by kernel_rfl) (by kernel_rfl) (by kernel_rfl) (fun _ _ _ h => h) (Or.inl ⟨by rfl, ?_⟩) HS0.out ?_
              case refine_1 => (intro w1 hS1; clear hS1; go_simp; try with_reducible rfl)
              try simp only [Act.put, List.setIfInBounds_toArray, List.set_cons_zero, List.set_cons_succ]
              refine wpAnyH_take (i := 7) (oi := { dst := some 81, op := Go.Op.move (Go.Operand.tmp 80), type := 4, pos := "law.go:148", after := #[{ on := 6, ground := Go.Ground.data }, { on := 4, ground := Go.Ground.chain }, { on := 2, ground := Go.Ground.guard }], guard := some (2, true) }) (v := ?_) rfl (by kernel_rfl) (by kernel_rfl) (by kernel_rfl) (fun _ _ _ h => h) (Or.inl ⟨by rfl, ?_⟩) HS0.out ?_
              case refine_2 => (intro w1 hS1; clear hS1; go_simp; try with_reducible rfl)
              try simp only [Act.put, List.setIfInBounds_toArray, List.set_cons_zero, List.set_cons_succ]
              refine wpAnyH_take (i := 8) (oi := { dst := some 82, op := Go.Op.move (Go.Operand.tmp 15), type := 58, pos := "law.go:148", after := #[{ on := 7, ground := Go.Ground.guard }], guard := some (7, false) }) (v := ?_) rfl (by kernel_rfl) (by kernel_rfl) (by kernel_rfl) (fun _ _ _ h => h) (Or.inl ⟨by rfl, ?_⟩) HS0.out ?_
              case refine_2 => (intro w1 hS1; clear hS1; go_simp; try with_reducible rfl)
              try simp only [Act.put, List.setIfInBounds_toArray, List.set_cons_zero, List.set_cons_succ]
              refine wpAnyH_take (i := 10) (oi := { dst := some 84, op := Go.Op.load 48 (Go.Operand.tmp 11), type := 48, pos := "law.go:148", after := #[{ on := 7, ground := Go.Ground.guard }], guard := some (7, false) }) (v := .agg #[.int .u64 (t12 : Int), .int .i64 v12]) rfl (by kernel_rfl) (by kernel_rfl) (by kernel_rfl) (fun _ _ _ h => h) (Or.inl ⟨by rfl, ?_⟩) HS0.out ?_
              case refine_1 => (intro w1 hS1; obtain ⟨x0, x1⟩ := two_rd hS1.2; clear hS1; go_simp; try with_reducible rfl)
              try simp only [Act.put, List.setIfInBounds_toArray, List.set_cons_zero, List.set_cons_succ]
              refine wpAnyH_ready (rs := [9]) (by kernel_rfl) (by simp) ?_
              refine AllReadyH.cons (o := { dst := some 83, op := Go.Op.call { callee := Go.Callee.value (Go.Operand.func 35), args := #[Go.Operand.tmp 82], argTypes := #[58] }, type := 48, pos := "law.go:148", after := #[{ on := 8, ground := Go.Ground.data }, { on := 7, ground := Go.Ground.chain }, { on := 7, ground := Go.Ground.guard }], guard := some (7, false) }) rfl (fun K hK => ?_) AllReadyH.nil
              go_simp
              refine (vstate_yes HK_u2.out).mono ?_
              rintro e u3 ⟨rfl, hb⟩
              have HK_u3 := Lib.hid (show BK u3 b12 B t12 v12 from ex_below HK_u2.out hb)
              have HB_u3 := Lib.hid (HB_u2.out.trans (hb.mono HB_u2.out.size))
              have HS0' : Hid ((fun W : World => W.heap[N]? = some (.cells #[.int .u64 (t12 : Int), .int .i64 v7] 48 (0, 0)) ∧ W.heap[N + 1]? = some (.cells #[.int .u64 (t12 : Int), .int .i64 v12] 48 (0, 0))) u3) := Lib.hid ⟨ex_below HS0.out.1 hb, ex_below HS0.out.2 hb⟩
              clear hb HS0 HK_u2 HB_u2
              have HS0 := HS0'
              clear HS0'
              refine hK.out _ _ HS0.out (fun hHeld => ?_)
              clear hK K hHeld
              try simp only [Act.put, List.setIfInBounds_toArray, List.set_cons_zero, List.set_cons_succ]
              refine wpAnyH_take (i := 11) (oi := { dst := some 85, op := Go.Op.binOp Go.BinOp.eql 48 (Go.Operand.tmp 83) (Go.Operand.tmp 84) 48, type := 4, pos := "law.go:148", after := #[{ on := 9, ground := Go.Ground.data }, { on := 10, ground := Go.Ground.data }, { on := 7, ground := Go.Ground.guard }], guard := some (7, false) }) (v := .bool true) rfl (by kernel_rfl) (by kernel_rfl) (by kernel_rfl) (fun _ _ _ h => h) (Or.inl ⟨by rfl, ?_⟩) HS0.out ?_
              case refine_1 => (intro w1 hS1; clear hS1; go_simp; try with_reducible rfl)
              try simp only [Act.put, List.setIfInBounds_toArray, List.set_cons_zero, List.set_cons_succ]
              refine wpAnyH_take (i := 12) (oi := { dst := some 86, op := Go.Op.pick (Go.Operand.tmp 81) (Go.Operand.const (Go.Value.bool true)) (Go.Operand.tmp 85), type := 4, pos := "law.go:148", after := #[{ on := 7, ground := Go.Ground.data }, { on := 11, ground := Go.Ground.data }, { on := 2, ground := Go.Ground.guard }], guard := some (2, true) }) (v := .bool true) rfl (by kernel_rfl) (by kernel_rfl) (by kernel_rfl) (fun _ _ _ h => h) (Or.inl ⟨by rfl, ?_⟩) HS0.out ?_
              case refine_1 => (intro w1 hS1; clear hS1; go_simp; try with_reducible rfl)
              try simp only [Act.put, List.setIfInBounds_toArray, List.set_cons_zero, List.set_cons_succ]
              refine wpAnyH_take (i := 13) (oi := { dst := some 87, op := Go.Op.pick (Go.Operand.tmp 76) (Go.Operand.tmp 86) (Go.Operand.const (Go.Value.bool false)), type := 4, pos := "law.go:148", after := #[{ on := 2, ground := Go.Ground.data }, { on := 12, ground := Go.Ground.data }], guard := none }) (v := .bool true) rfl (by kernel_rfl) (by kernel_rfl) (by kernel_rfl) (fun _ _ _ h => h) (Or.inl ⟨by rfl, ?_⟩) HS0.out ?_
              case refine_1 => (intro w1 hS1; clear hS1; go_simp; try with_reducible rfl)
              try simp only [Act.put, List.setIfInBounds_toArray, List.set_cons_zero, List.set_cons_succ]
              refine wpAnyH_take (i := 14) (oi := { dst := some 88, op := Go.Op.move (Go.Operand.tmp 87), type := 4, pos := "law.go:148", after := #[{ on := 13, ground := Go.Ground.data }, { on := 9, ground := Go.Ground.chain }], guard := none }) (v := ?_) rfl (by kernel_rfl) (by kernel_rfl) (by kernel_rfl) (fun _ _ _ h => h) (Or.inl ⟨by rfl, ?_⟩) HS0.out ?_
              case refine_2 => (intro w1 hS1; clear hS1; go_simp; try with_reducible rfl)
              try simp only [Act.put, List.setIfInBounds_toArray, List.set_cons_zero, List.set_cons_succ]
              refine wpAnyH_ready (rs := [15]) (by kernel_rfl) (by simp) ?_
              refine AllReadyH.cons (o := { dst := some 89, op := Go.Op.call { callee := Go.Callee.value (Go.Operand.func 31), args := #[], argTypes := #[] }, type := 4, pos := "law.go:148", after := #[{ on := 14, ground := Go.Ground.chain }, { on := 14, ground := Go.Ground.guard }], guard := some (14, true) }) rfl (fun K hK => ?_) AllReadyH.nil
              go_simp
              refine (lives26 u3).mono ?_
              rintro e u4 ⟨rfl, hb⟩
              have HK_u4 := Lib.hid (show BK u4 b12 B t12 v12 from ex_below HK_u3.out hb)
              have HB_u4 := Lib.hid (HB_u3.out.trans (hb.mono HB_u3.out.size))
              have HS0' : Hid ((fun W : World => W.heap[N]? = some (.cells #[.int .u64 (t12 : Int), .int .i64 v7] 48 (0, 0)) ∧ W.heap[N + 1]? = some (.cells #[.int .u64 (t12 : Int), .int .i64 v12] 48 (0, 0))) u4) := Lib.hid ⟨ex_below HS0.out.1 hb, ex_below HS0.out.2 hb⟩
              clear hb HS0 HK_u3 HB_u3
              have HS0 := HS0'
              clear HS0'
              refine hK.out _ _ HS0.out (fun hHeld => ?_)
              clear hK K hHeld
              try simp only [Act.put, List.setIfInBounds_toArray, List.set_cons_zero, List.set_cons_succ]
              refine wpAnyH_take (i := 16) (oi := { dst := some 90, op := Go.Op.pick (Go.Operand.tmp 88) (Go.Operand.tmp 89) (Go.Operand.const (Go.Value.bool false)), type := 4, pos := "law.go:148", after := #[{ on := 14, ground := Go.Ground.data }, { on := 15, ground := Go.Ground.data }], guard := none }) (v := .bool true) rfl (by kernel_rfl) (by kernel_rfl) (by kernel_rfl) (fun _ _ _ h => h) (Or.inl ⟨by rfl, ?_⟩) HS0.out ?_
              case refine_1 => (intro w1 hS1; clear hS1; go_simp; try with_reducible rfl)
              try simp only [Act.put, List.setIfInBounds_toArray, List.set_cons_zero, List.set_cons_succ]
              refine wpAnyH_take (i := 17) (oi := { dst := some 6, op := Go.Op.assign (Go.Operand.tmp 90), type := 4, pos := "law.go:148", after := #[{ on := 16, ground := Go.Ground.data }, { on := 15, ground := Go.Ground.chain }, { on := 0, ground := Go.Ground.phase }, { on := 1, ground := Go.Ground.phase }, { on := 2, ground := Go.Ground.phase }, { on := 3, ground := Go.Ground.phase }, { on := 4, ground := Go.Ground.phase }, { on := 5, ground := Go.Ground.phase }, { on := 6, ground := Go.Ground.phase }, { on := 7, ground := Go.Ground.phase }, { on := 8, ground := Go.Ground.phase }, { on := 9, ground := Go.Ground.phase }, { on := 10, ground := Go.Ground.phase }, { on := 11, ground := Go.Ground.phase }, { on := 12, ground := Go.Ground.phase }, { on := 13, ground := Go.Ground.phase }, { on := 14, ground := Go.Ground.phase }, { on := 15, ground := Go.Ground.phase }, { on := 16, ground := Go.Ground.phase }], guard := none }) (v := ?_) rfl (by kernel_rfl) (by kernel_rfl) (by kernel_rfl) (fun _ _ _ h => h) (Or.inl ⟨by rfl, ?_⟩) HS0.out ?_
              case refine_2 => (intro w1 hS1; clear hS1; go_simp; try with_reducible rfl)
              try simp only [Act.put, List.setIfInBounds_toArray, List.set_cons_zero, List.set_cons_succ]
              refine wpAnyH_done (by kernel_rfl) ?_ _
              go_wp2_with fail
              go_ret
              exact ⟨rfl, HB_u4.out⟩
            · have hne : ¬ ((t12 : Int) = (t7 : Int)) := by omega
              clear heq HOR htt
              have HK_u1 : Hid (BK w12.drew b12 B t12 v12) := Lib.hid (show BK w12.drew b12 B t12 v12 from ex_below HK12.out (Below.refl _ _).drew)
              have HB_u1 : Hid (Below w.heap.size w w12.drew) := Lib.hid HB12.out.drew
              have HS0 : Hid ((fun W : World => W.heap[N]? = some (.cells #[.int .u64 (t7 : Int), .int .i64 v7] 48 (0, 0)) ∧ W.heap[N + 1]? = some (.cells #[.int .u64 (t12 : Int), .int .i64 v12] 48 (0, 0))) w12.drew) := Lib.hid ⟨HQ12.out.1, HQ12.out.2⟩
              refine wp_region_held_drew (S := (fun W : World => W.heap[N]? = some (.cells #[.int .u64 (t7 : Int), .int .i64 v7] 48 (0, 0)) ∧ W.heap[N + 1]? = some (.cells #[.int .u64 (t12 : Int), .int .i64 v12] 48 (0, 0)))) (by kernel_rfl) HS0.out (fun hHeld => ?_)
              clear hHeld HK12 HB12 HQ12
              generalize w12.drew = u1 at HK_u1 HB_u1 HS0 ⊢
              refine wpAnyH_take (i := 0) (oi := { dst := some 74, op := Go.Op.move (Go.Operand.tmp 9), type := 32, pos := "law.go:148", after := #[], guard := none }) (v := ?_) rfl (by kernel_rfl) (by kernel_rfl) (by kernel_rfl) (fun _ _ _ h => h) (Or.inl ⟨by rfl, ?_⟩) HS0.out ?_
              case refine_2 => (intro w1 hS1; clear hS1; go_simp; try with_reducible rfl)
              try simp only [Act.put, List.setIfInBounds_toArray, List.set_cons_zero, List.set_cons_succ]
              refine wpAnyH_take (i := 1) (oi := { dst := some 75, op := Go.Op.binOp Go.BinOp.eql 32 (Go.Operand.tmp 74) (Go.Operand.const (Go.Value.int Go.IntKind.i64 0)) 32, type := 4, pos := "law.go:148", after := #[{ on := 0, ground := Go.Ground.data }], guard := none }) (v := ?_) rfl (by kernel_rfl) (by kernel_rfl) (by kernel_rfl) (fun _ _ _ h => h) (Or.inl ⟨by rfl, ?_⟩) HS0.out ?_
              case refine_2 => (intro w1 hS1; clear hS1; go_simp; try with_reducible rfl)
              try simp only [Act.put, List.setIfInBounds_toArray, List.set_cons_zero, List.set_cons_succ]
              refine wpAnyH_take (i := 2) (oi := { dst := some 76, op := Go.Op.move (Go.Operand.tmp 75), type := 4, pos := "law.go:148", after := #[{ on := 1, ground := Go.Ground.data }], guard := none }) (v := ?_) rfl (by kernel_rfl) (by kernel_rfl) (by kernel_rfl) (fun _ _ _ h => h) (Or.inl ⟨by rfl, ?_⟩) HS0.out ?_
              case refine_2 => (intro w1 hS1; clear hS1; go_simp; try with_reducible rfl)
              try simp only [Act.put, List.setIfInBounds_toArray, List.set_cons_zero, List.set_cons_succ]
              refine wpAnyH_take (i := 3) (oi := { dst := some 77, op := Go.Op.move (Go.Operand.tmp 15), type := 58, pos := "law.go:148", after := #[{ on := 2, ground := Go.Ground.guard }], guard := some (2, true) }) (v := ?_) rfl (by kernel_rfl) (by kernel_rfl) (by kernel_rfl) (fun _ _ _ h => h) (Or.inl ⟨by rfl, ?_⟩) HS0.out ?_
              case refine_2 => (intro w1 hS1; clear hS1; go_simp; try with_reducible rfl)
              try simp only [Act.put, List.setIfInBounds_toArray, List.set_cons_zero, List.set_cons_succ]
              refine wpAnyH_take (i := 5) (oi := { dst := some 79, op := Go.Op.load 48 (Go.Operand.tmp 10), type := 48, pos := "law.go:148", after := #[{ on := 2, ground := Go.Ground.guard }], guard := some (2, true) }) (v := .agg #[.int .u64 (t7 : Int), .int .i64 v7]) rfl (by kernel_rfl) (by kernel_rfl) (by kernel_rfl) (fun _ _ _ h => h) (Or.inl ⟨by rfl, ?_⟩) HS0.out ?_
              case refine_1 => (intro w1 hS1; obtain ⟨x0, x1⟩ := two_rd hS1.1; clear hS1; go_simp; try with_reducible rfl)
              try simp only [Act.put, List.setIfInBounds_toArray, List.set_cons_zero, List.set_cons_succ]
              refine wpAnyH_ready (rs := [4]) (by kernel_rfl) (by simp) ?_
              refine AllReadyH.cons (o := { dst := some 78, op := Go.Op.call { callee := Go.Callee.value (Go.Operand.func 35), args := #[Go.Operand.tmp 77], argTypes := #[58] }, type := 48, pos := "law.go:148", after := #[{ on := 3, ground := Go.Ground.data }, { on := 2, ground := Go.Ground.chain }, { on := 2, ground := Go.Ground.guard }], guard := some (2, true) }) rfl (fun K hK => ?_) AllReadyH.nil
              go_simp
              refine (vstate_yes HK_u1.out).mono ?_
              rintro e u2 ⟨rfl, hb⟩
              have HK_u2 := Lib.hid (show BK u2 b12 B t12 v12 from ex_below HK_u1.out hb)
              have HB_u2 := Lib.hid (HB_u1.out.trans (hb.mono HB_u1.out.size))
              have HS0' : Hid ((fun W : World => W.heap[N]? = some (.cells #[.int .u64 (t7 : Int), .int .i64 v7] 48 (0, 0)) ∧ W.heap[N + 1]? = some (.cells #[.int .u64 (t12 : Int), .int .i64 v12] 48 (0, 0))) u2) := Lib.hid ⟨ex_below HS0.out.1 hb, ex_below HS0.out.2 hb⟩
              clear hb HS0 HK_u1 HB_u1
              have HS0 := HS0'
              clear HS0'
              refine hK.out _ _ HS0.out (fun hHeld => ?_)
              clear hK K hHeld
              try simp only [Act.put, List.setIfInBounds_toArray, List.set_cons_zero, List.set_cons_succ]
              refine wpAnyH_take (i := 6) (oi := { dst := some 80, op := Go.Op.binOp Go.BinOp.eql 48 (Go.Operand.tmp 78) (Go.Operand.tmp 79) 48, type := 4, pos := "law.go:148", after := #[{ on := 4, ground := Go.Ground.data }, { on := 5, ground := Go.Ground.data }, { on := 2, ground := Go.Ground.guard }], guard := some (2, true) }) (v := .bool false) rfl (by kernel_rfl) (by kernel_rfl) (by kernel_rfl) (fun _ _ _ h => h) (Or.inl ⟨by rfl, ?_⟩) HS0.out ?_
              case refine_1 => (intro w1 hS1; clear hS1; go_simp; try with_reducible rfl)
              try simp only [Act.put, List.setIfInBounds_toArray, List.set_cons_zero, List.set_cons_succ]
              refine wpAnyH_take (i := 7) (oi := { dst := some 81, op := Go.Op.move (Go.Operand.tmp 80), type := 4, pos := "law.go:148", after := #[{ on := 6, ground := Go.Ground.data }, { on := 4, ground := Go.Ground.chain }, { on := 2, ground := Go.Ground.guard }], guard := some (2, true) }) (v := ?_) rfl (by kernel_rfl) (by kernel_rfl) (by kernel_rfl) (fun _ _ _ h => h) (Or.inl ⟨by rfl, ?_⟩) HS0.out ?_
              case refine_2 => (intro w1 hS1; clear hS1; go_simp; try with_reducible rfl)
              try simp only [Act.put, List.setIfInBounds_toArray, List.set_cons_zero, List.set_cons_succ]
              refine wpAnyH_take (i := 8) (oi := { dst := some 82, op := Go.Op.move (Go.Operand.tmp 15), type := 58, pos := "law.go:148", after := #[{ on := 7, ground := Go.Ground.guard }], guard := some (7, false) }) (v := ?_) rfl (by kernel_rfl) (by kernel_rfl) (by kernel_rfl) (fun _ _ _ h => h) (Or.inl ⟨by rfl, ?_⟩) HS0.out ?_
              case refine_2 => (intro w1 hS1; clear hS1; go_simp; try with_reducible rfl)
              try simp only [Act.put, List.setIfInBounds_toArray, List.set_cons_zero, List.set_cons_succ]
              refine wpAnyH_take (i := 10) (oi := { dst := some 84, op := Go.Op.load 48 (Go.Operand.tmp 11), type := 48, pos := "law.go:148", after := #[{ on := 7, ground := Go.Ground.guard }], guard := some (7, false) }) (v := .agg #[.int .u64 (t12 : Int), .int .i64 v12]) rfl (by kernel_rfl) (by kernel_rfl) (by kernel_rfl) (fun _ _ _ h => h) (Or.inl ⟨by rfl, ?_⟩) HS0.out ?_
              case refine_1 => (intro w1 hS1; obtain ⟨x0, x1⟩ := two_rd hS1.2; clear hS1; go_simp; try with_reducible rfl)
              try simp only [Act.put, List.setIfInBounds_toArray, List.set_cons_zero, List.set_cons_succ]
              refine wpAnyH_ready (rs := [9]) (by kernel_rfl) (by simp) ?_
              refine AllReadyH.cons (o := { dst := some 83, op := Go.Op.call { callee := Go.Callee.value (Go.Operand.func 35), args := #[Go.Operand.tmp 82], argTypes := #[58] }, type := 48, pos := "law.go:148", after := #[{ on := 8, ground := Go.Ground.data }, { on := 7, ground := Go.Ground.chain }, { on := 7, ground := Go.Ground.guard }], guard := some (7, false) }) rfl (fun K hK => ?_) AllReadyH.nil
              go_simp
              refine (vstate_yes HK_u2.out).mono ?_
              rintro e u3 ⟨rfl, hb⟩
              have HK_u3 := Lib.hid (show BK u3 b12 B t12 v12 from ex_below HK_u2.out hb)
              have HB_u3 := Lib.hid (HB_u2.out.trans (hb.mono HB_u2.out.size))
              have HS0' : Hid ((fun W : World => W.heap[N]? = some (.cells #[.int .u64 (t7 : Int), .int .i64 v7] 48 (0, 0)) ∧ W.heap[N + 1]? = some (.cells #[.int .u64 (t12 : Int), .int .i64 v12] 48 (0, 0))) u3) := Lib.hid ⟨ex_below HS0.out.1 hb, ex_below HS0.out.2 hb⟩
              clear hb HS0 HK_u2 HB_u2
              have HS0 := HS0'
              clear HS0'
              refine hK.out _ _ HS0.out (fun hHeld => ?_)
              clear hK K hHeld
              try simp only [Act.put, List.setIfInBounds_toArray, List.set_cons_zero, List.set_cons_succ]
              refine wpAnyH_take (i := 11) (oi := { dst := some 85, op := Go.Op.binOp Go.BinOp.eql 48 (Go.Operand.tmp 83) (Go.Operand.tmp 84) 48, type := 4, pos := "law.go:148", after := #[{ on := 9, ground := Go.Ground.data }, { on := 10, ground := Go.Ground.data }, { on := 7, ground := Go.Ground.guard }], guard := some (7, false) }) (v := .bool true) rfl (by kernel_rfl) (by kernel_rfl) (by kernel_rfl) (fun _ _ _ h => h) (Or.inl ⟨by rfl, ?_⟩) HS0.out ?_
              case refine_1 => (intro w1 hS1; clear hS1; go_simp; try with_reducible rfl)
              try simp only [Act.put, List.setIfInBounds_toArray, List.set_cons_zero, List.set_cons_succ]
              refine wpAnyH_take (i := 12) (oi := { dst := some 86, op := Go.Op.pick (Go.Operand.tmp 81) (Go.Operand.const (Go.Value.bool true)) (Go.Operand.tmp 85), type := 4, pos := "law.go:148", after := #[{ on := 7, ground := Go.Ground.data }, { on := 11, ground := Go.Ground.data }, { on := 2, ground := Go.Ground.guard }], guard := some (2, true) }) (v := .bool true) rfl (by kernel_rfl) (by kernel_rfl) (by kernel_rfl) (fun _ _ _ h => h) (Or.inl ⟨by rfl, ?_⟩) HS0.out ?_
              case refine_1 => (intro w1 hS1; clear hS1; go_simp; try with_reducible rfl)
              try simp only [Act.put, List.setIfInBounds_toArray, List.set_cons_zero, List.set_cons_succ]
              refine wpAnyH_take (i := 13) (oi := { dst := some 87, op := Go.Op.pick (Go.Operand.tmp 76) (Go.Operand.tmp 86) (Go.Operand.const (Go.Value.bool false)), type := 4, pos := "law.go:148", after := #[{ on := 2, ground := Go.Ground.data }, { on := 12, ground := Go.Ground.data }], guard := none }) (v := .bool true) rfl (by kernel_rfl) (by kernel_rfl) (by kernel_rfl) (fun _ _ _ h => h) (Or.inl ⟨by rfl, ?_⟩) HS0.out ?_
              case refine_1 => (intro w1 hS1; clear hS1; go_simp; try with_reducible rfl)
              try simp only [Act.put, List.setIfInBounds_toArray, List.set_cons_zero, List.set_cons_succ]
              refine wpAnyH_take (i := 14) (oi := { dst := some 88, op := Go.Op.move (Go.Operand.tmp 87), type := 4, pos := "law.go:148", after := #[{ on := 13, ground := Go.Ground.data }, { on := 9, ground := Go.Ground.chain }], guard := none }) (v := ?_) rfl (by kernel_rfl) (by kernel_rfl) (by kernel_rfl) (fun _ _ _ h => h) (Or.inl ⟨by rfl, ?_⟩) HS0.out ?_
              case refine_2 => (intro w1 hS1; clear hS1; go_simp; try with_reducible rfl)
              try simp only [Act.put, List.setIfInBounds_toArray, List.set_cons_zero, List.set_cons_succ]
              refine wpAnyH_ready (rs := [15]) (by kernel_rfl) (by simp) ?_
              refine AllReadyH.cons (o := { dst := some 89, op := Go.Op.call { callee := Go.Callee.value (Go.Operand.func 31), args := #[], argTypes := #[] }, type := 4, pos := "law.go:148", after := #[{ on := 14, ground := Go.Ground.chain }, { on := 14, ground := Go.Ground.guard }], guard := some (14, true) }) rfl (fun K hK => ?_) AllReadyH.nil
              go_simp
              refine (lives26 u3).mono ?_
              rintro e u4 ⟨rfl, hb⟩
              have HK_u4 := Lib.hid (show BK u4 b12 B t12 v12 from ex_below HK_u3.out hb)
              have HB_u4 := Lib.hid (HB_u3.out.trans (hb.mono HB_u3.out.size))
              have HS0' : Hid ((fun W : World => W.heap[N]? = some (.cells #[.int .u64 (t7 : Int), .int .i64 v7] 48 (0, 0)) ∧ W.heap[N + 1]? = some (.cells #[.int .u64 (t12 : Int), .int .i64 v12] 48 (0, 0))) u4) := Lib.hid ⟨ex_below HS0.out.1 hb, ex_below HS0.out.2 hb⟩
              clear hb HS0 HK_u3 HB_u3
              have HS0 := HS0'
              clear HS0'
              refine hK.out _ _ HS0.out (fun hHeld => ?_)
              clear hK K hHeld
              try simp only [Act.put, List.setIfInBounds_toArray, List.set_cons_zero, List.set_cons_succ]
              refine wpAnyH_take (i := 16) (oi := { dst := some 90, op := Go.Op.pick (Go.Operand.tmp 88) (Go.Operand.tmp 89) (Go.Operand.const (Go.Value.bool false)), type := 4, pos := "law.go:148", after := #[{ on := 14, ground := Go.Ground.data }, { on := 15, ground := Go.Ground.data }], guard := none }) (v := .bool true) rfl (by kernel_rfl) (by kernel_rfl) (by kernel_rfl) (fun _ _ _ h => h) (Or.inl ⟨by rfl, ?_⟩) HS0.out ?_
              case refine_1 => (intro w1 hS1; clear hS1; go_simp; try with_reducible rfl)
              try simp only [Act.put, List.setIfInBounds_toArray, List.set_cons_zero, List.set_cons_succ]
              refine wpAnyH_take (i := 17) (oi := { dst := some 6, op := Go.Op.assign (Go.Operand.tmp 90), type := 4, pos := "law.go:148", after := #[{ on := 16, ground := Go.Ground.data }, { on := 15, ground := Go.Ground.chain }, { on := 0, ground := Go.Ground.phase }, { on := 1, ground := Go.Ground.phase }, { on := 2, ground := Go.Ground.phase }, { on := 3, ground := Go.Ground.phase }, { on := 4, ground := Go.Ground.phase }, { on := 5, ground := Go.Ground.phase }, { on := 6, ground := Go.Ground.phase }, { on := 7, ground := Go.Ground.phase }, { on := 8, ground := Go.Ground.phase }, { on := 9, ground := Go.Ground.phase }, { on := 10, ground := Go.Ground.phase }, { on := 11, ground := Go.Ground.phase }, { on := 12, ground := Go.Ground.phase }, { on := 13, ground := Go.Ground.phase }, { on := 14, ground := Go.Ground.phase }, { on := 15, ground := Go.Ground.phase }, { on := 16, ground := Go.Ground.phase }], guard := none }) (v := ?_) rfl (by kernel_rfl) (by kernel_rfl) (by kernel_rfl) (fun _ _ _ h => h) (Or.inl ⟨by rfl, ?_⟩) HS0.out ?_
              case refine_2 => (intro w1 hS1; clear hS1; go_simp; try with_reducible rfl)
              try simp only [Act.put, List.setIfInBounds_toArray, List.set_cons_zero, List.set_cons_succ]
              refine wpAnyH_done (by kernel_rfl) ?_ _
              go_wp2_with fail
              go_ret
              exact ⟨rfl, HB_u4.out⟩
    · have hltz : ¬ (k : Int) < (n0 : Int) := by omega
      have gl : decide ((k : Int) < (n0 : Int)) = false := decide_eq_false hltz
      have HRO : Hid (∃ D' t' v', openV (bootD (crashD D ts)) = (D', 0, t', v') ∧ ((t' = t ∧ v' = v) ∨ (t' = t ∧ v' = v))) := Lib.hid (by
        obtain ⟨D', h1, -⟩ := reopen_fs HL.out.fs ts
        exact ⟨D', t, v, h1, .inl ⟨rfl, rfl⟩⟩)
      have HSX : Hid (D.st < 800000000) := Lib.hid (by omega)
      have HLQ : Hid (DK S wr B D ∧ ¬ S N ∧ ¬ S (N + 1) ∧ wr.heap[N]? = some (.cells #[.int .u64 (t : Int), .int .i64 v] 48 (0, 0)) ∧ wr.heap[N + 1]? = some (.cells #[.int .u64 (t : Int), .int .i64 v] 48 (0, 0)) ∧ Below w.heap.size w wr ∧ (∀ q, S q → w.heap.size ≤ q) ∧ w.heap.size ≤ N) := Lib.hid ⟨HL.out.dk, HL.out.nb.2.1, HL.out.nb.2.2.1, HL.out.was, HL.out.being, HL.out.bel, HL.out.lo, by have := HL.out.nb; omega⟩
      obtain ⟨⟨mX, mtX, MXX, VXX, hdX⟩, nx1, nx2, wx, bx, belx, lox, hnx⟩ := HLQ.out
      have htr : TRow S wr a2 ts := fun i hi => by
        obtain ⟨b', o', h1, h2, h3, h4, h5⟩ := HT.out.2.1 i hi
        exact ⟨b', o', h1, Nat.lt_of_lt_of_le h2 belx.size, fun hs => Nat.lt_irrefl _ (Nat.lt_of_lt_of_le h2 (lox _ hs)), (belx.cell (p := ⟨b', o' + i * 2, none⟩) h2).trans h4, (belx.cell (p := ⟨b', o' + i * 2 + 1, none⟩) h2).trans h5⟩
      have hcr := dcrash_did hdX a2 c2 ts htr (by rw [HT.out.1]; exact HT.out.2.2.1) HT.out.2.2.2
      rw [HT.out.1] at hcr
      have HCR := Lib.hid hcr
      clear hcr htr hdX nx1 nx2 wx bx belx lox
      go_wp2_with fail
      refine HCR.out.mono ?_
      rintro e w10 ⟨S10, rfl, ⟨m10, mt10, M10, V10, hd10⟩, hf10⟩
      obtain ⟨-, nx1, nx2, wx, bx, belx, lox, -⟩ := HLQ.out
      obtain ⟨y1, y2, -⟩ := hf10.out (ex_lt wx) nx1
      obtain ⟨y3, y4, -⟩ := hf10.out (ex_lt bx) nx2
      obtain ⟨y5, y6⟩ := fr_below belx belx.size lox hf10
      have HQ10 := Lib.hid (And.intro (y1.trans wx) (And.intro (y3.trans bx) (And.intro y2 (And.intro y4 (And.intro y5 y6)))))
      have HBO := Lib.hid (dboot_any hd10)
      clear nx1 nx2 wx bx belx lox y1 y2 y3 y4 y5 y6 hd10 hf10 HCR
      go_wp2_with fail
      refine HBO.out.mono ?_
      rintro e w11 ⟨S11, rfl, ⟨m11, mt11, M11, V11, hd11⟩, hf11⟩
      obtain ⟨wx, bx, nx1, nx2, belx, lox⟩ := HQ10.out
      obtain ⟨y1, y2, -⟩ := hf11.out (ex_lt wx) nx1
      obtain ⟨y3, y4, -⟩ := hf11.out (ex_lt bx) nx2
      obtain ⟨y5, y6⟩ := fr_below belx belx.size lox hf11
      have HQ11 := Lib.hid (And.intro (y1.trans wx) (And.intro (y3.trans bx) (And.intro y2 (And.intro y4 (And.intro y5 y6)))))
      obtain ⟨D12, t12, v12, ho12, hor⟩ := HRO.out
      have HOP := Lib.hid (vopen_any hd11 (show (bootD (crashD D ts)).st < 900000000 from Nat.lt_of_lt_of_le HSX.out (by omega)))
      rw [ho12] at HOP
      have HOR := Lib.hid hor
      clear nx1 nx2 wx bx belx lox y1 y2 y3 y4 y5 y6 hd11 hf11 HBO HQ10 ho12 hor
      go_wp2_with fail
      refine HOP.out.mono ?_
      rintro e w12 ⟨S12, -, hf12, ⟨hne, -⟩ | ⟨-, b12, rfl, hbk12, -, -⟩⟩
      · exact absurd rfl hne
      obtain ⟨wx, bx, nx1, nx2, belx, lox⟩ := HQ11.out
      obtain ⟨y1, -, -⟩ := hf12.out (ex_lt wx) nx1
      obtain ⟨y3, -, -⟩ := hf12.out (ex_lt bx) nx2
      obtain ⟨y5, -⟩ := fr_below belx belx.size lox hf12
      have HQ12 := Lib.hid (And.intro (y1.trans wx) (y3.trans bx))
      have HB12 := Lib.hid y5
      have HK12 := Lib.hid hbk12
      dsimp only at HK12
      clear nx1 nx2 wx bx belx lox y1 y3 y5 hf12 HOP HQ11 hbk12
      obtain ⟨u0, u1⟩ := two_rd HQ12.out.1
      obtain ⟨z0, z1⟩ := two_rd HQ12.out.2
      obtain ⟨k0, k1, k2⟩ := three_rd HK12.out
      go_upto_region 21 with fail
      clear u0 u1 z0 z1 k0 k1 k2
      by_cases heq : t12 = t ∧ v12 = v
      · obtain ⟨rfl, rfl⟩ := heq
        clear HOR
        have HK_u1 : Hid (BK w12.drew b12 B t12 v12) := Lib.hid (show BK w12.drew b12 B t12 v12 from ex_below HK12.out (Below.refl _ _).drew)
        have HB_u1 : Hid (Below w.heap.size w w12.drew) := Lib.hid HB12.out.drew
        have HS0 : Hid ((fun W : World => W.heap[N]? = some (.cells #[.int .u64 (t12 : Int), .int .i64 v12] 48 (0, 0)) ∧ W.heap[N + 1]? = some (.cells #[.int .u64 (t12 : Int), .int .i64 v12] 48 (0, 0))) w12.drew) := Lib.hid ⟨HQ12.out.1, HQ12.out.2⟩
        refine wp_region_held_drew (S := (fun W : World => W.heap[N]? = some (.cells #[.int .u64 (t12 : Int), .int .i64 v12] 48 (0, 0)) ∧ W.heap[N + 1]? = some (.cells #[.int .u64 (t12 : Int), .int .i64 v12] 48 (0, 0)))) (by kernel_rfl) HS0.out (fun hHeld => ?_)
        clear hHeld HK12 HB12 HQ12
        generalize w12.drew = u1 at HK_u1 HB_u1 HS0 ⊢
        refine wpAnyH_take (i := 0) (oi := { dst := some 74, op := Go.Op.move (Go.Operand.tmp 9), type := 32, pos := "law.go:148", after := #[], guard := none }) (v := ?_) rfl (by kernel_rfl) (by kernel_rfl) (by kernel_rfl) (fun _ _ _ h => h) (Or.inl ⟨by rfl, ?_⟩) HS0.out ?_
        case refine_2 => (intro w1 hS1; clear hS1; go_simp; try with_reducible rfl)
        try simp only [Act.put, List.setIfInBounds_toArray, List.set_cons_zero, List.set_cons_succ]
        refine wpAnyH_take (i := 1) (oi := { dst := some 75, op := Go.Op.binOp Go.BinOp.eql 32 (Go.Operand.tmp 74) (Go.Operand.const (Go.Value.int Go.IntKind.i64 0)) 32, type := 4, pos := "law.go:148", after := #[{ on := 0, ground := Go.Ground.data }], guard := none }) (v := ?_) rfl (by kernel_rfl) (by kernel_rfl) (by kernel_rfl) (fun _ _ _ h => h) (Or.inl ⟨by rfl, ?_⟩) HS0.out ?_
        case refine_2 => (intro w1 hS1; clear hS1; go_simp; try with_reducible rfl)
        try simp only [Act.put, List.setIfInBounds_toArray, List.set_cons_zero, List.set_cons_succ]
        refine wpAnyH_take (i := 2) (oi := { dst := some 76, op := Go.Op.move (Go.Operand.tmp 75), type := 4, pos := "law.go:148", after := #[{ on := 1, ground := Go.Ground.data }], guard := none }) (v := ?_) rfl (by kernel_rfl) (by kernel_rfl) (by kernel_rfl) (fun _ _ _ h => h) (Or.inl ⟨by rfl, ?_⟩) HS0.out ?_
        case refine_2 => (intro w1 hS1; clear hS1; go_simp; try with_reducible rfl)
        try simp only [Act.put, List.setIfInBounds_toArray, List.set_cons_zero, List.set_cons_succ]
        refine wpAnyH_take (i := 3) (oi := { dst := some 77, op := Go.Op.move (Go.Operand.tmp 15), type := 58, pos := "law.go:148", after := #[{ on := 2, ground := Go.Ground.guard }], guard := some (2, true) }) (v := ?_) rfl (by kernel_rfl) (by kernel_rfl) (by kernel_rfl) (fun _ _ _ h => h) (Or.inl ⟨by rfl, ?_⟩) HS0.out ?_
        case refine_2 => (intro w1 hS1; clear hS1; go_simp; try with_reducible rfl)
        try simp only [Act.put, List.setIfInBounds_toArray, List.set_cons_zero, List.set_cons_succ]
        refine wpAnyH_take (i := 5) (oi := { dst := some 79, op := Go.Op.load 48 (Go.Operand.tmp 10), type := 48, pos := "law.go:148", after := #[{ on := 2, ground := Go.Ground.guard }], guard := some (2, true) }) (v := .agg #[.int .u64 (t12 : Int), .int .i64 v12]) rfl (by kernel_rfl) (by kernel_rfl) (by kernel_rfl) (fun _ _ _ h => h) (Or.inl ⟨by rfl, ?_⟩) HS0.out ?_
        case refine_1 => (intro w1 hS1; obtain ⟨x0, x1⟩ := two_rd hS1.1; clear hS1; go_simp; try with_reducible rfl)
        try simp only [Act.put, List.setIfInBounds_toArray, List.set_cons_zero, List.set_cons_succ]
        refine wpAnyH_ready (rs := [4]) (by kernel_rfl) (by simp) ?_
        refine AllReadyH.cons (o := { dst := some 78, op := Go.Op.call { callee := Go.Callee.value (Go.Operand.func 35), args := #[Go.Operand.tmp 77], argTypes := #[58] }, type := 48, pos := "law.go:148", after := #[{ on := 3, ground := Go.Ground.data }, { on := 2, ground := Go.Ground.chain }, { on := 2, ground := Go.Ground.guard }], guard := some (2, true) }) rfl (fun K hK => ?_) AllReadyH.nil
        go_simp
        refine (vstate_yes HK_u1.out).mono ?_
        rintro e u2 ⟨rfl, hb⟩
        have HK_u2 := Lib.hid (show BK u2 b12 B t12 v12 from ex_below HK_u1.out hb)
        have HB_u2 := Lib.hid (HB_u1.out.trans (hb.mono HB_u1.out.size))
        have HS0' : Hid ((fun W : World => W.heap[N]? = some (.cells #[.int .u64 (t12 : Int), .int .i64 v12] 48 (0, 0)) ∧ W.heap[N + 1]? = some (.cells #[.int .u64 (t12 : Int), .int .i64 v12] 48 (0, 0))) u2) := Lib.hid ⟨ex_below HS0.out.1 hb, ex_below HS0.out.2 hb⟩
        clear hb HS0 HK_u1 HB_u1
        have HS0 := HS0'
        clear HS0'
        refine hK.out _ _ HS0.out (fun hHeld => ?_)
        clear hK K hHeld
        try simp only [Act.put, List.setIfInBounds_toArray, List.set_cons_zero, List.set_cons_succ]
        refine wpAnyH_take (i := 6) (oi := { dst := some 80, op := Go.Op.binOp Go.BinOp.eql 48 (Go.Operand.tmp 78) (Go.Operand.tmp 79) 48, type := 4, pos := "law.go:148", after := #[{ on := 4, ground := Go.Ground.data }, { on := 5, ground := Go.Ground.data }, { on := 2, ground := Go.Ground.guard }], guard := some (2, true) }) (v := .bool true) rfl (by kernel_rfl) (by kernel_rfl) (by kernel_rfl) (fun _ _ _ h => h) (Or.inl ⟨by rfl, ?_⟩) HS0.out ?_
        case refine_1 => (intro w1 hS1; clear hS1; go_simp; try with_reducible rfl)
        try simp only [Act.put, List.setIfInBounds_toArray, List.set_cons_zero, List.set_cons_succ]
        refine wpAnyH_take (i := 7) (oi := { dst := some 81, op := Go.Op.move (Go.Operand.tmp 80), type := 4, pos := "law.go:148", after := #[{ on := 6, ground := Go.Ground.data }, { on := 4, ground := Go.Ground.chain }, { on := 2, ground := Go.Ground.guard }], guard := some (2, true) }) (v := ?_) rfl (by kernel_rfl) (by kernel_rfl) (by kernel_rfl) (fun _ _ _ h => h) (Or.inl ⟨by rfl, ?_⟩) HS0.out ?_
        case refine_2 => (intro w1 hS1; clear hS1; go_simp; try with_reducible rfl)
        try simp only [Act.put, List.setIfInBounds_toArray, List.set_cons_zero, List.set_cons_succ]
        refine wpAnyH_take (i := 8) (oi := { dst := some 82, op := Go.Op.move (Go.Operand.tmp 15), type := 58, pos := "law.go:148", after := #[{ on := 7, ground := Go.Ground.guard }], guard := some (7, false) }) (v := undef) rfl (by kernel_rfl) (by kernel_rfl) (by kernel_rfl) (fun _ _ _ h => h) (Or.inr ⟨by rfl, rfl⟩) HS0.out ?_
        try simp only [Act.put, List.setIfInBounds_toArray, List.set_cons_zero, List.set_cons_succ]
        refine wpAnyH_take (i := 9) (oi := { dst := some 83, op := Go.Op.call { callee := Go.Callee.value (Go.Operand.func 35), args := #[Go.Operand.tmp 82], argTypes := #[58] }, type := 48, pos := "law.go:148", after := #[{ on := 8, ground := Go.Ground.data }, { on := 7, ground := Go.Ground.chain }, { on := 7, ground := Go.Ground.guard }], guard := some (7, false) }) (v := undef) rfl (by kernel_rfl) (by kernel_rfl) (by kernel_rfl) (fun _ _ _ h => h) (Or.inr ⟨by rfl, rfl⟩) HS0.out ?_
        try simp only [Act.put, List.setIfInBounds_toArray, List.set_cons_zero, List.set_cons_succ]
        refine wpAnyH_take (i := 10) (oi := { dst := some 84, op := Go.Op.load 48 (Go.Operand.tmp 11), type := 48, pos := "law.go:148", after := #[{ on := 7, ground := Go.Ground.guard }], guard := some (7, false) }) (v := undef) rfl (by kernel_rfl) (by kernel_rfl) (by kernel_rfl) (fun _ _ _ h => h) (Or.inr ⟨by rfl, rfl⟩) HS0.out ?_
        try simp only [Act.put, List.setIfInBounds_toArray, List.set_cons_zero, List.set_cons_succ]
        refine wpAnyH_take (i := 11) (oi := { dst := some 85, op := Go.Op.binOp Go.BinOp.eql 48 (Go.Operand.tmp 83) (Go.Operand.tmp 84) 48, type := 4, pos := "law.go:148", after := #[{ on := 9, ground := Go.Ground.data }, { on := 10, ground := Go.Ground.data }, { on := 7, ground := Go.Ground.guard }], guard := some (7, false) }) (v := undef) rfl (by kernel_rfl) (by kernel_rfl) (by kernel_rfl) (fun _ _ _ h => h) (Or.inr ⟨by rfl, rfl⟩) HS0.out ?_
        try simp only [Act.put, List.setIfInBounds_toArray, List.set_cons_zero, List.set_cons_succ]
        refine wpAnyH_take (i := 12) (oi := { dst := some 86, op := Go.Op.pick (Go.Operand.tmp 81) (Go.Operand.const (Go.Value.bool true)) (Go.Operand.tmp 85), type := 4, pos := "law.go:148", after := #[{ on := 7, ground := Go.Ground.data }, { on := 11, ground := Go.Ground.data }, { on := 2, ground := Go.Ground.guard }], guard := some (2, true) }) (v := .bool true) rfl (by kernel_rfl) (by kernel_rfl) (by kernel_rfl) (fun _ _ _ h => h) (Or.inl ⟨by rfl, ?_⟩) HS0.out ?_
        case refine_1 => (intro w1 hS1; clear hS1; go_simp; try with_reducible rfl)
        try simp only [Act.put, List.setIfInBounds_toArray, List.set_cons_zero, List.set_cons_succ]
        refine wpAnyH_take (i := 13) (oi := { dst := some 87, op := Go.Op.pick (Go.Operand.tmp 76) (Go.Operand.tmp 86) (Go.Operand.const (Go.Value.bool false)), type := 4, pos := "law.go:148", after := #[{ on := 2, ground := Go.Ground.data }, { on := 12, ground := Go.Ground.data }], guard := none }) (v := .bool true) rfl (by kernel_rfl) (by kernel_rfl) (by kernel_rfl) (fun _ _ _ h => h) (Or.inl ⟨by rfl, ?_⟩) HS0.out ?_
        case refine_1 => (intro w1 hS1; clear hS1; go_simp; try with_reducible rfl)
        try simp only [Act.put, List.setIfInBounds_toArray, List.set_cons_zero, List.set_cons_succ]
        refine wpAnyH_take (i := 14) (oi := { dst := some 88, op := Go.Op.move (Go.Operand.tmp 87), type := 4, pos := "law.go:148", after := #[{ on := 13, ground := Go.Ground.data }, { on := 9, ground := Go.Ground.chain }], guard := none }) (v := ?_) rfl (by kernel_rfl) (by kernel_rfl) (by kernel_rfl) (fun _ _ _ h => h) (Or.inl ⟨by rfl, ?_⟩) HS0.out ?_
        case refine_2 => (intro w1 hS1; clear hS1; go_simp; try with_reducible rfl)
        try simp only [Act.put, List.setIfInBounds_toArray, List.set_cons_zero, List.set_cons_succ]
        refine wpAnyH_ready (rs := [15]) (by kernel_rfl) (by simp) ?_
        refine AllReadyH.cons (o := { dst := some 89, op := Go.Op.call { callee := Go.Callee.value (Go.Operand.func 31), args := #[], argTypes := #[] }, type := 4, pos := "law.go:148", after := #[{ on := 14, ground := Go.Ground.chain }, { on := 14, ground := Go.Ground.guard }], guard := some (14, true) }) rfl (fun K hK => ?_) AllReadyH.nil
        go_simp
        refine (lives26 u2).mono ?_
        rintro e u4 ⟨rfl, hb⟩
        have HK_u4 := Lib.hid (show BK u4 b12 B t12 v12 from ex_below HK_u2.out hb)
        have HB_u4 := Lib.hid (HB_u2.out.trans (hb.mono HB_u2.out.size))
        have HS0' : Hid ((fun W : World => W.heap[N]? = some (.cells #[.int .u64 (t12 : Int), .int .i64 v12] 48 (0, 0)) ∧ W.heap[N + 1]? = some (.cells #[.int .u64 (t12 : Int), .int .i64 v12] 48 (0, 0))) u4) := Lib.hid ⟨ex_below HS0.out.1 hb, ex_below HS0.out.2 hb⟩
        clear hb HS0 HK_u2 HB_u2
        have HS0 := HS0'
        clear HS0'
        refine hK.out _ _ HS0.out (fun hHeld => ?_)
        clear hK K hHeld
        try simp only [Act.put, List.setIfInBounds_toArray, List.set_cons_zero, List.set_cons_succ]
        refine wpAnyH_take (i := 16) (oi := { dst := some 90, op := Go.Op.pick (Go.Operand.tmp 88) (Go.Operand.tmp 89) (Go.Operand.const (Go.Value.bool false)), type := 4, pos := "law.go:148", after := #[{ on := 14, ground := Go.Ground.data }, { on := 15, ground := Go.Ground.data }], guard := none }) (v := .bool true) rfl (by kernel_rfl) (by kernel_rfl) (by kernel_rfl) (fun _ _ _ h => h) (Or.inl ⟨by rfl, ?_⟩) HS0.out ?_
        case refine_1 => (intro w1 hS1; clear hS1; go_simp; try with_reducible rfl)
        try simp only [Act.put, List.setIfInBounds_toArray, List.set_cons_zero, List.set_cons_succ]
        refine wpAnyH_take (i := 17) (oi := { dst := some 6, op := Go.Op.assign (Go.Operand.tmp 90), type := 4, pos := "law.go:148", after := #[{ on := 16, ground := Go.Ground.data }, { on := 15, ground := Go.Ground.chain }, { on := 0, ground := Go.Ground.phase }, { on := 1, ground := Go.Ground.phase }, { on := 2, ground := Go.Ground.phase }, { on := 3, ground := Go.Ground.phase }, { on := 4, ground := Go.Ground.phase }, { on := 5, ground := Go.Ground.phase }, { on := 6, ground := Go.Ground.phase }, { on := 7, ground := Go.Ground.phase }, { on := 8, ground := Go.Ground.phase }, { on := 9, ground := Go.Ground.phase }, { on := 10, ground := Go.Ground.phase }, { on := 11, ground := Go.Ground.phase }, { on := 12, ground := Go.Ground.phase }, { on := 13, ground := Go.Ground.phase }, { on := 14, ground := Go.Ground.phase }, { on := 15, ground := Go.Ground.phase }, { on := 16, ground := Go.Ground.phase }], guard := none }) (v := ?_) rfl (by kernel_rfl) (by kernel_rfl) (by kernel_rfl) (fun _ _ _ h => h) (Or.inl ⟨by rfl, ?_⟩) HS0.out ?_
        case refine_2 => (intro w1 hS1; clear hS1; go_simp; try with_reducible rfl)
        try simp only [Act.put, List.setIfInBounds_toArray, List.set_cons_zero, List.set_cons_succ]
        refine wpAnyH_done (by kernel_rfl) ?_ _
        go_wp2_with fail
        go_ret
        exact ⟨rfl, HB_u4.out⟩
      · have hor := HOR.out
        rcases hor with h | ⟨rfl, rfl⟩
        · exact absurd h heq
        · exact absurd ⟨rfl, rfl⟩ heq
theorem vkeeps_law (a0 : Option Addr) (n0 c0 : Nat) (T : Nat → Nat) (V : Nat → Int) (s : Int) (a2 : Option Addr) (n2 c2 : Nat) (ts : List (Nat × Nat)) (w : World) (h0 : Sts w a0 n0 T V) (h1 : (Lit.int .u8 s).wf = true) (h2 : Trs c2 w a2 n2 ts) :
    Calls Try.prog 7 #[.slice a0 n0 c0, .int .u8 s, .slice a2 n2 c2] w fun e w' => e = .returned (.bool true) ∧ Below w.heap.size w w' := by
  by_cases h : n0 ≤ 200 ∧ n2 ≤ 40
  · have hs : 0 ≤ s ∧ s < 256 := wf_u8 h1
    obtain ⟨q, rfl⟩ : ∃ q : Nat, s = (q : Int) := ⟨s.toNat, by omega⟩
    exact vkeeps_in a0 n0 c0 T V q a2 n2 c2 ts w h0 (by omega) h2 h.1 h.2
  · exact vkeeps_big a0 n0 c0 s a2 n2 c2 w h
end Go.Proofs.Ythefnakbpalecaa
