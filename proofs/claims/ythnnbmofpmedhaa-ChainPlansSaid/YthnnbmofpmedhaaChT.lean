/- Plans: the reference's. -/
import Derived.Test.YthnnbmofpmedhaaChQ
import Derived.Test.YthnnbmofpmedhaaChG
namespace Go.Proofs.Ythnnbmofpmedhaa
open Go.RowKit
def RPlanOut (D : Cal) (n : Nat) (B U E : Nat → Int) (now : Int) (w : World) (e : Ending) (w' : World) : Prop := ∃ v er ls, e = .returned (.tuple #[v, .int .i64 er]) ∧ OQ 39 w' w.heap.size v ls ∧ PlanDone D n B U E now ls er ∧ Below w.heap.size w w'
set_option maxRecDepth 100000 in
set_option maxHeartbeats 8000000 in
theorem rplan_any {D : Cal} (hd : D.ok) (a0 : Option Addr) (ca0 : Nat) (b0 : Option Addr) (cb0 : Nat) (c : Int) (a : Option Addr) (n ca : Nat) (r b : Int) (B P : Nat → Int) (now : Int) (w : World) (hS0 : Sps w a0 D.n D.F D.T) (hR0 : Sps w b0 D.m D.G D.U) (hS : Sps w a n B P) (hg : goodC c n r b B P = true) (U E : Nat → Int)
    (hU : ∀ i v e, D.Dues (frm now U i) (B i) v e → v = U i ∧ e = E i) :
    Calls Try.prog 22 #[calV D.off a0 D.n ca0 b0 D.m cb0, conV c a n ca r b, .int .i64 now] w (RPlanOut D n B U E now w) := by
  obtain ⟨B2, s0, s1, sz⟩ := box2 w #[.int .i64 D.off, .slice a0 D.n ca0, .slice b0 D.m cb0] #[.int .i64 c, .slice a n ca, .int .i64 r, .int .i64 b] 24 27
  obtain ⟨c0, c1, c2, c3, -⟩ := four_at s1
  have j0 := cells_heap s0 0
  have j1 := cells_heap s0 1
  have j2 := cells_heap s0 2
  obtain ⟨_, _, n1, n6, hlv⟩ := goodC_n hg
  have HFI := Lib.hid (rfirst_any hd a0 ca0 b0 cb0 c a n ca r b B P now ((w.alloc (.cells #[.int .i64 D.off, .slice a0 D.n ca0, .slice b0 D.m cb0] 24)).alloc (.cells #[.int .i64 c, .slice a n ca, .int .i64 r, .int .i64 b] 27)) (hS0.kept B2) (hR0.kept B2) (hS.kept B2) hg)
  have HRN := Lib.hid (fun (W : World) (hb : Below w.heap.size w W) (lv x1 x2 x3 : Int) => rnext_any hd a0 ca0 b0 cb0 c a n ca r b B P lv x1 x2 x3 x3 W (hS0.kept hb) (hR0.kept hb) (hS.kept hb) hg)
  have HB := Lib.hid B2
  have HX := Lib.hid (And.intro s0 (And.intro s1 sz))
  have HU := Lib.hid hU
  unfold conV at *
  unfold calV at *
  clear B2 s0 s1 sz hS hg hd hlv hU hS0 hR0
  obtain ⟨off, eo⟩ : ∃ x, D.off = x := ⟨_, rfl⟩
  obtain ⟨n0, en⟩ : ∃ x, D.n = x := ⟨_, rfl⟩
  obtain ⟨m0, em⟩ : ∃ x, D.m = x := ⟨_, rfl⟩
  rw [eo, en, em] at HB HX HFI HRN c0 c1 c2 c3 j0 j1 j2 ⊢
  clear eo en em
  go_enter Try.func22, Try.ntmps22
  go_wp2_with fail
  generalize ((w.alloc (.cells #[.int .i64 off, .slice a0 n0 ca0, .slice b0 m0 cb0] 24)).alloc (.cells #[.int .i64 c, .slice a n ca, .int .i64 r, .int .i64 b] 27)) = W at HB HX HFI c0 c1 c2 c3 j0 j1 j2 ⊢
  refine HFI.out.mono ?_
  rintro e w3 ⟨l, f, cc, d, er, rfl, hR, hb3⟩
  obtain ⟨bx, bn, bz⟩ := box1 w3 #[.int .i64 l, .int .i64 f, .int .i64 cc, .int .i64 d] 39
  have HST := Lib.hid (St.first HU.out n1 hR)
  have HB4 := Lib.hid ((HB.out.trans (hb3.mono HB.out.size)).trans (bx.mono (Nat.le_trans HB.out.size hb3.size)))
  have HX4 := Lib.hid (And.intro (ex_below (ex_below HX.out.1 hb3) bx) (ex_below (ex_below HX.out.2.1 hb3) bx))
  have hw3 : w.heap.size + 1 < w3.heap.size := by have := HX.out.2.2; have := hb3.size; omega
  have HM := Lib.hid bn
  have HZ := Lib.hid bz
  unfold stepV
  clear hR hb3 c0 c1 c2 c3 j0 j1 j2 bx bn bz
  go_wp2_with fail
  generalize w3.alloc (.cells #[.int .i64 l, .int .i64 f, .int .i64 cc, .int .i64 d] 39) = W4 at HB4 HX4 HM HZ ⊢
  go_loopg [8, 10, 11] (n + 1) (fun kx s8 s10 s11 wr => ∃ (k : Nat) (l f cc d er : Int) (more ok : Bool), s10 = .int .i64 er ∧ s11 = .bool more ∧ n + 1 - k ≤ kx ∧ Hid (OQ 39 wr W4.heap.size s8 (rows now B U k)) ∧ Hid (wr.heap[w3.heap.size]? = some (.cells #[.int .i64 l, .int .i64 f, .int .i64 cc, .int .i64 d] 39 (0, 0))) ∧ Hid (St D n B U E now k l f cc d er ok) ∧ Hid ((er = 0 ∧ more = ok) ∨ more = true) ∧ Hid (er = 0 → more = ok) ∧ Hid (Below w.heap.size w wr) ∧ Hid (wr.heap[w.heap.size]? = some (.cells #[.int .i64 off, .slice a0 n0 ca0, .slice b0 m0 cb0] 24 (0, 0)) ∧ wr.heap[w.heap.size + 1]? = some (.cells #[.int .i64 c, .slice a n ca, .int .i64 r, .int .i64 b] 27 (0, 0))) ∧ Hid (W4.heap.size ≤ wr.heap.size))
  case atStart => exact ⟨0, l, f, cc, d, er, true, (er == 0), rfl, rfl, Nat.le_refl _, Lib.hid (OQ.nil _ _ _), HM, HST, Lib.hid (.inr rfl), Lib.hid (fun h => by rw [h]; rfl), HB4, HX4, Lib.hid (Nat.le_refl _)⟩
  case round =>
    clear HM HST HB4 HX4
    obtain ⟨k, l, f, cc, d, er, more, ok, rfl, rfl, hkx, HQ, HM, HST, HMO, HMK, HBW, HXX, HS⟩ := hrel
    have hlM : w3.heap.size < W4.heap.size := by have := HZ.out; omega
    obtain ⟨hsq, hst⟩ := HST.out
    rcases hst with ⟨h1, h2, h3⟩ | ⟨h1, hok, h2, h3, h4, h5, h6, h7⟩ | ⟨h1, hok, h2⟩
    · have e1 : (er != 0) = true := by simpa using h1
      obtain rfl : more = true := by
        rcases HMO.out with ⟨h, _⟩ | h
        · exact absurd h h1
        · exact h
      have HF := Lib.hid (show PlanDone D n B U E now [] er from .inr ⟨h1, rfl, k, h2, h3, hsq⟩)
      clear h1 h2 h3 hsq
      go_wp2_with fail
      go_ret2
      exact ⟨_, _, _, rfl, OQ.nil _ _ _, HF.out, HBW.out⟩
    · have hmo := HMK.out h1
      rw [hok] at hmo
      subst hmo
      have HE0 := Lib.hid h1
      have e1 : (er != 0) = false := by simp [h1]
      have HH := Lib.hid (And.intro h2 (And.intro h7 hsq))
      have HV := Lib.hid (And.intro h3 (And.intro h4 (And.intro h5 h6)))
      obtain ⟨va, vc, hsh, hml, _⟩ := HQ.out.shape
      subst hsh
      obtain ⟨m0, m1, m2, m3, -⟩ := four_at HM.out
      have hln : (rows now B U k).length ≤ 100000 := by rw [rows_len]; omega
      obtain ⟨ls, hls⟩ : ∃ l, rows now B U k = l := ⟨_, rfl⟩
      have HLS := Lib.hid hls
      rw [hls] at HQ hln hml ⊢
      obtain ⟨bx, bn, bz⟩ := box1 wr #[.int .i64 l, .int .i64 f, .int .i64 cc, .int .i64 d] 39
      have HBX := Lib.hid bx
      have HNF := Lib.hid (new_four wr (.int .i64 l) (.int .i64 f) (.int .i64 cc) (.int .i64 d) 39)
      have HQ1 := Lib.hid (HQ.out.kept bx)
      have hsz1 : W4.heap.size ≤ (wr.alloc (.cells #[.int .i64 l, .int .i64 f, .int .i64 cc, .int .i64 d] 39)).heap.size := Nat.le_trans HS.out bx.size
      clear h1 h2 h3 h4 h5 h6 h7 hsq bx bn bz hls hok HMO HMK
      have hMr : w3.heap.size < wr.heap.size := Nat.lt_of_lt_of_le hlM HS.out
      go_wp2_with (at_builtin; refine append_qr rfl (.tmp 23) (.tmp 25) rfl W4.heap.size (.slice va ls.length vc) ls l f cc d ⟨wr.heap.size, 0, none⟩ 1 rfl rfl HQ1.out HNF.out hln hsz1 ?_; intro v' w' hO' hG; obtain ⟨n0', n1', n2', n3', -⟩ := four_at ((hG.block hlM hsz1).trans ((HBX.out.block _ hMr).trans HM.out)); have hx1 := (hG.block (show w.heap.size < W4.heap.size by omega) hsz1).trans (ex_below HXX.out.1 HBX.out); have hx2 := (hG.block (show w.heap.size + 1 < W4.heap.size by omega) hsz1).trans (ex_below HXX.out.2 HBX.out); obtain ⟨c0, c1, c2, c3, -⟩ := four_at hx2; have j0 := cells_heap hx1 0; have j1 := cells_heap hx1 1; have j2 := cells_heap hx1 2; have HXA := Lib.hid (And.intro hx1 hx2); clear hx1 hx2; have HG := Lib.hid hG; have HO1 := Lib.hid hO'; clear hO' hG m0 m1 m2 m3)
      have hG := HG.out
      have hO' := HO1.out
      have HM2 := Lib.hid ((hG.block hlM hsz1).trans ((HBX.out.block _ hMr).trans HM.out))
      have HX2 := HXA
      have HB2 := Lib.hid (hG.below (HBW.out.trans (HBX.out.mono HBW.out.size)) (show w.heap.size ≤ W4.heap.size by omega) hsz1)
      have hz2 : W4.heap.size ≤ w'.heap.size := Nat.le_trans hsz1 hG.size
      have HQ2 := Lib.hid hO'
      have hfo := HRN.out w' HB2.out l f cc d
      have hM2 : w3.heap.size < w'.heap.size := Nat.lt_of_lt_of_le hlM hz2
      clear hO' hG hsz1
      unfold stepV at *
      refine hfo.mono ?_
      rintro e w5 ⟨l', f', c', d', ok2, er', rfl, hR', hb'⟩
      unfold stepV
      have HM5 := Lib.hid ((hb'.block _ hM2).trans HM2.out)
      rw [HV.out.1, HV.out.2.2.2] at hR'
      have HST' := Lib.hid (St.next HU.out HH.out.2.2 HH.out.1 HH.out.2.1 hR')
      obtain ⟨u1, u2, u3⟩ := put4_at HM5.out (.int .i64 l') (.int .i64 f') (.int .i64 c') (.int .i64 d')
      have hbb := below_put4' (HB2.out.trans (hb'.mono HB2.out.size)) (N := w3.heap.size) (show w.heap.size ≤ w3.heap.size by omega) (.int .i64 l') (.int .i64 f') (.int .i64 c') (.int .i64 d')
      have hxx : (put4 w5 w3.heap.size (.int .i64 l') (.int .i64 f') (.int .i64 c') (.int .i64 d')).heap[w.heap.size]? = some (.cells #[.int .i64 off, .slice a0 n0 ca0, .slice b0 m0 cb0] 24 (0, 0)) ∧ (put4 w5 w3.heap.size (.int .i64 l') (.int .i64 f') (.int .i64 c') (.int .i64 d')).heap[w.heap.size + 1]? = some (.cells #[.int .i64 c, .slice a n ca, .int .i64 r, .int .i64 b] 27 (0, 0)) := ⟨(u2 _ (by omega)).trans (ex_below HX2.out.1 hb'), (u2 _ (by omega)).trans (ex_below HX2.out.2 hb')⟩
      have hqq : OQ 39 (put4 w5 w3.heap.size (.int .i64 l') (.int .i64 f') (.int .i64 c') (.int .i64 d')) W4.heap.size v' (rows now B U (k + 1)) := by
        have h1 := (HQ2.out.kept hb').keep (w' := put4 w5 w3.heap.size (.int .i64 l') (.int .i64 f') (.int .i64 c') (.int .i64 d')) (fun g h1 h2 => u2 g (by omega))
        show OQ _ _ _ _ (rows now B U k ++ [((k : Int), frm now U k, B k, U k)])
        rw [HLS.out, ← HV.out.1, ← HV.out.2.1, ← HV.out.2.2.1, ← HV.out.2.2.2]
        exact h1
      have hss : W4.heap.size ≤ (put4 w5 w3.heap.size (.int .i64 l') (.int .i64 f') (.int .i64 c') (.int .i64 d')).heap.size := by have := hb'.size; omega
      have hkn := HH.out.1
      obtain ⟨q0, q1, q2, q3, y0, y1, y2, y3⟩ := four_at HM5.out
      unfold put4 at u1 hbb hxx hqq hss
      have HU1 := Lib.hid u1
      have HBB := Lib.hid hbb
      have HXY := Lib.hid hxx
      have HQQ := Lib.hid hqq
      have HSS := Lib.hid hss
      obtain ⟨bf, ef⟩ : ∃ c, (er' != 0) = c := ⟨_, rfl⟩
      clear u1 u2 u3 hbb hxx hqq hss hR' hb' hfo n0' n1' n2' n3' c0 c1 c2 c3 j0 j1 j2
      cases bf
      · have HE' := Lib.hid (show er' = 0 by simpa using ef)
        go_wp2_with fail
        go_roundg (n + 1 - (k + 1))
        case measure => omega
        case rel => exact ⟨k + 1, l', f', c', d', er', ok2, ok2, rfl, rfl, by omega, HQQ, HU1, HST', Lib.hid (.inl ⟨HE'.out, rfl⟩), Lib.hid (fun _ => rfl), HBB, HXY, HSS⟩
      · have HE' := Lib.hid (show er' ≠ 0 by simpa using ef)
        have HF : Hid (PlanDone D n B U E now [] er') := Lib.hid (by
          obtain ⟨h1, h2⟩ := HST'.out
          rcases h2 with ⟨_, h3, h4⟩ | ⟨h3, _⟩ | ⟨h3, _⟩
          · exact .inr ⟨HE'.out, rfl, k + 1, h3, h4, h1⟩
          · exact absurd h3 HE'.out
          · exact absurd h3 HE'.out)
        go_wp2_with fail
        go_ret2
        exact ⟨_, _, _, rfl, OQ.nil _ _ _, HF.out, HBB.out⟩
    · have hmo := HMK.out h1
      rw [hok] at hmo
      subst hmo
      have HF := Lib.hid (show PlanDone D n B U E now (rows now B U k) 0 from .inl ⟨rfl, by rw [h2], by rw [← h2]; exact hsq⟩)
      obtain ⟨va, vc, hsh, hml, _⟩ := HQ.out.shape
      subst hsh
      clear h1 h2 hsq hml hok HMO HMK
      go_wp2_with fail
      go_ret2
      exact ⟨_, _, _, rfl, HQ.out.mono (by omega), HF.out, HBW.out⟩
end Go.Proofs.Ythnnbmofpmedhaa
