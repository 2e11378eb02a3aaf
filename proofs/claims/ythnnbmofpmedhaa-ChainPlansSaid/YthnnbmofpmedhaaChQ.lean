/- Plans: the program's. -/
import Derived.Test.YthnnbmofpmedhaaChP
import Derived.Deep.LoopGhost
namespace Go.Proofs.Ythnnbmofpmedhaa
open Go.RowKit
theorem new_four (w : World) (a b c d : Value) (t : TypeId) : ∀ j u, [a, b, c, d][j]? = some u → (w.alloc (.cells #[a, b, c, d] t)).cell? ((⟨w.heap.size, 0, none⟩ : Addr).add j) = some u := by
  obtain ⟨h0, h1, h2, h3, -⟩ := four_at (box1 w #[a, b, c, d] t).2.1
  intro j u h
  rw [add_at, Nat.zero_add]
  match j with
  | 0 => simp at h; subst h; exact h0
  | 1 => simp at h; subst h; exact h1
  | 2 => simp at h; subst h; exact h2
  | 3 => simp at h; subst h; exact h3
  | j + 4 => simp at h
set_option maxRecDepth 100000 in
set_option maxHeartbeats 8000000 in
theorem plan_any {L : Loc} {D : Cal} {w : World} (h : Ck L D w) (hd : D.ok) (c : Int) (a : Option Addr) (n ca : Nat) (r b : Int) (B P : Nat → Int) (now : Int) (hS : Sps w a n B P) (hg : goodC c n r b B P = true) (hfar : ∀ x, 0 < n → a = some x → x.block ≠ L.C) (U E : Nat → Int)
    (hU : ∀ i v e, D.Dues (frm now U i) (B i) v e → v = U i ∧ e = E i) :
    Calls Try.prog 21 #[.pointer (some ⟨L.K, 0, none⟩), conV c a n ca r b, .int .i64 now] w fun e w' => ∃ v er ls, e = .returned (.tuple #[v, .int .i64 er]) ∧ OQ 29 w' w.heap.size v ls ∧ PlanDone D n B U E now ls er ∧ Ck L D w' ∧ Only (· = L.C) w w' := by
  obtain ⟨B2, s0, sz⟩ := box1 w #[.int .i64 c, .slice a n ca, .int .i64 r, .int .i64 b] 27
  obtain ⟨c0, c1, c2, c3, -⟩ := four_at s0
  obtain ⟨_, _, n1, n6, hlv⟩ := goodC_n hg
  have HFI := Lib.hid (first_any (h.kept B2) hd c a n ca r b B P now (hS.kept B2) hg)
  have HFO := Lib.hid (fun (W : World) (hC : Ck L D W) (hs : Sps W a n B P) (lv x1 x2 x3 : Int) => follow_any hC hd c a n ca r b B P lv x1 x2 x3 hs hg)
  have HB := Lib.hid B2
  have H0 := Lib.hid h
  have HR := Lib.hid (And.intro hS hfar)
  have HD := Lib.hid hd
  have HU := Lib.hid hU
  have hLC := h.pl.lt
  obtain ⟨k, hk⟩ : ∃ k, some (⟨L.K, 0, none⟩ : Addr) = k := ⟨_, rfl⟩
  rw [hk] at HFI HFO ⊢
  unfold conV at *
  clear B2 s0 sz hS hg h hd hlv hU hk hfar
  go_enter Try.func21, Try.ntmps21
  go_wp2_with fail
  go_step3
  go_wp2_with fail
  generalize (w.alloc (.cells #[.int .i64 c, .slice a n ca, .int .i64 r, .int .i64 b] 27)) = W at HB HFI c0 c1 c2 c3 ⊢
  refine HFI.out.mono ?_
  rintro e w3 ⟨l, f, cc, d, er, rfl, hR, hC, ho⟩
  obtain ⟨bx, bn, bz⟩ := box1 w3 #[.int .i64 l, .int .i64 f, .int .i64 cc, .int .i64 d] 29
  have HST := Lib.hid (St.first HU.out n1 hR)
  have HC4 := Lib.hid (hC.kept bx)
  have HO4 := Lib.hid (((Only.below (X := (· = L.C)) HB.out).trans ho).trans (Only.below bx))
  have hw3 : w.heap.size ≤ w3.heap.size := Nat.le_trans HB.out.size ho.size
  have HM := Lib.hid bn
  have HZ := Lib.hid bz
  obtain ⟨more, hm⟩ : ∃ c, (er == 0) = c := ⟨_, rfl⟩
  rw [hm] at HST
  unfold stepV
  clear hR hC ho c0 c1 c2 c3 bx bn bz
  go_wp2_with fail
  clear hm
  go_step3
  go_wp2_with fail
  generalize w3.alloc (.cells #[.int .i64 l, .int .i64 f, .int .i64 cc, .int .i64 d] 29) = W4 at HC4 HO4 HM HZ ⊢
  go_loopg [9, 11, 12] (n + 1) (fun kx s9 s11 s12 wr => ∃ (k : Nat) (l f cc d er : Int) (more : Bool), s11 = .int .i64 er ∧ s12 = .bool more ∧ n + 1 - k ≤ kx ∧ Hid (OQ 29 wr W4.heap.size s9 (rows now B U k)) ∧ Hid (wr.heap[w3.heap.size]? = some (.cells #[.int .i64 l, .int .i64 f, .int .i64 cc, .int .i64 d] 29 (0, 0))) ∧ Hid (St D n B U E now k l f cc d er more) ∧ Hid (Ck L D wr) ∧ Hid (Only (· = L.C) w wr) ∧ Hid (W4.heap.size ≤ wr.heap.size))
  case atStart => exact ⟨0, l, f, cc, d, er, more, rfl, rfl, Nat.le_refl _, Lib.hid (OQ.nil _ _ _), HM, HST, HC4, HO4, Lib.hid (Nat.le_refl _)⟩
  case round =>
    clear HM HST HC4 HO4
    obtain ⟨k, l, f, cc, d, er, more, rfl, rfl, hkx, HQ, HM, HST, HC, HO, HS⟩ := hrel
    have hlM : w3.heap.size < W4.heap.size := by have := HZ.out; omega
    obtain ⟨hsq, hst⟩ := HST.out
    rcases hst with ⟨h1, h2, h3⟩ | ⟨h1, rfl, h2, h3, h4, h5, h6, h7⟩ | ⟨h1, rfl, h2⟩
    · have e1 : (er != 0) = true := by simpa using h1
      have HF := Lib.hid (show PlanDone D n B U E now [] er from .inr ⟨h1, rfl, k, h2, h3, hsq⟩)
      clear h1 h2 h3 hsq
      go_wp2_with fail
      rw [Exit.noGoto_ret]
      go_ret2
      exact ⟨_, _, _, rfl, OQ.nil _ _ _, HF.out, HC.out, HO.out⟩
    · have HE0 := Lib.hid h1
      have e1 : (er != 0) = false := by simp [h1]
      have HH := Lib.hid (And.intro h2 (And.intro h7 hsq))
      have HV := Lib.hid (And.intro h3 (And.intro h4 (And.intro h5 h6)))
      obtain ⟨va, vc, hsh, hml, _⟩ := HQ.out.shape
      subst hsh
      obtain ⟨m0, m1, m2, m3, -⟩ := four_at HM.out
      have hln : (rows now B U k).length ≤ 100000 := by rw [rows_len]; omega
      obtain ⟨ls, hls⟩ : ∃ l, rows now B U k = l := ⟨_, rfl⟩
      have HLS := Lib.hid hls
      rw [hls] at HQ hln hml ⊢
      obtain ⟨bx, bn, bz⟩ := box1 wr #[.int .i64 l, .int .i64 f, .int .i64 cc, .int .i64 d] 29
      have HBX := Lib.hid bx
      have HBZ := Lib.hid bz
      have HNF := Lib.hid (new_four wr (.int .i64 l) (.int .i64 f) (.int .i64 cc) (.int .i64 d) 29)
      have HQ1 := Lib.hid (HQ.out.kept bx)
      have hsz1 : W4.heap.size ≤ (wr.alloc (.cells #[.int .i64 l, .int .i64 f, .int .i64 cc, .int .i64 d] 29)).heap.size := Nat.le_trans HS.out bx.size
      clear h1 h2 h3 h4 h5 h6 h7 hsq bx bn bz hls
      have hMr : w3.heap.size < wr.heap.size := Nat.lt_of_lt_of_le hlM HS.out
      go_wp2_with (at_builtin; refine append_qp rfl (.tmp 32) (.tmp 34) rfl W4.heap.size (.slice va ls.length vc) ls l f cc d ⟨wr.heap.size, 0, none⟩ 1 rfl rfl HQ1.out HNF.out hln hsz1 ?_; intro v' w' hO' hG; obtain ⟨n0', n1', n2', n3', -⟩ := four_at ((hG.block hlM hsz1).trans ((HBX.out.block _ hMr).trans HM.out)); have HG := Lib.hid hG; have HO1 := Lib.hid hO'; clear hO' hG m0 m1 m2 m3)
      have hG := HG.out
      have hO' := HO1.out
      have hne : w3.heap.size ≠ L.C := by omega
      have HM2 := Lib.hid ((hG.block hlM hsz1).trans ((HBX.out.block _ hMr).trans HM.out))
      have HC2 := Lib.hid (hG.ck (by decide) H0.out (by omega) (HC.out.kept HBX.out))
      have HO2 := Lib.hid (hG.only (HO.out.trans (Only.below HBX.out)) (by omega))
      have hz2 : W4.heap.size ≤ w'.heap.size := Nat.le_trans hsz1 hG.size
      have HQ2 := Lib.hid hO'
      have hfo := HFO.out w' HC2.out (HR.out.1.only HO2.out (fun x h1 h2 => HR.out.2 x h1 h2)) l f cc d
      have hM2 : w3.heap.size < w'.heap.size := Nat.lt_of_lt_of_le hlM hz2
      clear hO' hG hsz1
      unfold stepV at *
      refine hfo.mono ?_
      rintro e w5 ⟨l', f', c', d', ok, er', rfl, hR', hC', ho'⟩
      unfold stepV
      have HM5 := Lib.hid ((ho'.block _ hM2 (by show ¬ w3.heap.size = L.C; exact hne)).trans HM2.out)
      rw [HV.out.1, HV.out.2.2.2] at hR'
      have HST' := Lib.hid (St.next HU.out HH.out.2.2 HH.out.1 HH.out.2.1 hR')
      obtain ⟨u1, u2, u3⟩ := put4_at HM5.out (.int .i64 l') (.int .i64 f') (.int .i64 c') (.int .i64 d')
      have hck := Ck.other H0.out (N := w3.heap.size) hw3 hC' (hC'.apT HM5.out (by decide)) (fun k _ => u2 k) (show w5.heap.size ≤ (put4 w5 w3.heap.size (.int .i64 l') (.int .i64 f') (.int .i64 c') (.int .i64 d')).heap.size by omega)
      have hoo := (HO2.out.trans ho').put4 (N := w3.heap.size) hw3 (.int .i64 l') (.int .i64 f') (.int .i64 c') (.int .i64 d')
      have hqq : OQ 29 (put4 w5 w3.heap.size (.int .i64 l') (.int .i64 f') (.int .i64 c') (.int .i64 d')) W4.heap.size v' (rows now B U (k + 1)) := by
        have h1 := (HQ2.out.only ho' (show L.C < W4.heap.size by omega)).keep (w' := put4 w5 w3.heap.size (.int .i64 l') (.int .i64 f') (.int .i64 c') (.int .i64 d')) (fun g h1 h2 => u2 g (by omega))
        show OQ _ _ _ _ (rows now B U k ++ [((k : Int), frm now U k, B k, U k)])
        rw [HLS.out, ← HV.out.1, ← HV.out.2.1, ← HV.out.2.2.1, ← HV.out.2.2.2]
        exact h1
      have hss : W4.heap.size ≤ (put4 w5 w3.heap.size (.int .i64 l') (.int .i64 f') (.int .i64 c') (.int .i64 d')).heap.size := by have := ho'.size; omega
      have hkn := HH.out.1
      obtain ⟨q0, q1, q2, q3, y0, y1, y2, y3⟩ := four_at HM5.out
      unfold put4 at u1 hck hoo hqq hss
      have HU1 := Lib.hid u1
      have HCK := Lib.hid hck
      have HOO := Lib.hid hoo
      have HQQ := Lib.hid hqq
      have HSS := Lib.hid hss
      clear u1 u2 u3 hck hoo hqq hss hR' hC' ho' hfo n0' n1' n2' n3'
      go_wp2_with fail
      go_roundg (n + 1 - (k + 1))
      case measure => omega
      case rel => exact ⟨k + 1, l', f', c', d', er', ok, rfl, rfl, by omega, HQQ, HU1, HST', HCK, HOO, HSS⟩
    · have e1 : (er != 0) = false := by simp [h1]
      have HF := Lib.hid (show PlanDone D n B U E now (rows now B U k) er from .inl ⟨h1, by rw [h2], by rw [← h2]; exact hsq⟩)
      obtain ⟨va, vc, hsh, hml, _⟩ := HQ.out.shape
      subst hsh
      clear h1 h2 hsq hml
      go_wp2_with fail
      rw [Exit.noGoto_ret]
      go_ret2
      exact ⟨_, _, _, rfl, HQ.out.mono (by omega), HF.out, HC.out, HO.out⟩
end Go.Proofs.Ythnnbmofpmedhaa
