/- The law's Files: a disk's files, as the reference has them. -/
import Derived.Test.YthkjjpkipeeimaaDoB
import Derived.Test.YthkjjpkipeeimaaDrP
namespace Go.Proofs.Ythkjjpkipeeimaa
open Go.RowKit Go.Maps
set_option maxRecDepth 100000 in
set_option maxHeartbeats 8000000 in
theorem lfiles {S : Nat → Prop} {w : World} {B m mt : Nat} {D : Dd} {M : Lit → Option Value} {V : Nm → Value} (h : DKx S w B m mt D M V) : Calls Try.prog 23 #[.pointer (some ⟨B, 0, none⟩)] w fun e w' => ∃ v, e = .returned v ∧ OF w' w.heap.size v D.fs ∧ Below w.heap.size w w' := by
  have HW := Lib.hid h
  clear h
  go_enter Try.func23, Try.ntmps23
  go_wp2_with fail
  refine (dfiles HW.out).mono ?_
  rintro e w2 ⟨a, c, rfl, hgr, -, hb⟩
  have HR := Lib.hid hgr
  have HB1 := Lib.hid hb
  have HFIT := Lib.hid HW.out.fit
  clear hgr hb HW
  obtain ⟨L, hL⟩ : ∃ L, D.fs = L := ⟨_, rfl⟩
  have HOK : Hid (∀ p ∈ L, (∀ c ∈ p.2.all, c < 256) ∧ p.2.kept ≤ p.2.all.length ∧ p.2.all.length ≤ 1048576) := Lib.hid (fun p hp => by
    rw [← hL] at hp
    have h1 := HFIT.out.ok p.1 p.2 (getF_of_mem HFIT.out.srt hp)
    exact ⟨h1.1, h1.2.1, by have := sum_le hp; have := HFIT.out.sum; omega⟩)
  have HLEN : Hid (L.length ≤ 128) := Lib.hid (by rw [← hL]; exact HFIT.out.few)
  rw [hL] at HR ⊢
  have HLE := Lib.hid hL
  clear HFIT hL
  obtain ⟨ln, hln⟩ : ∃ ln, L.length = ln := ⟨_, rfl⟩
  have HLN := Lib.hid hln
  rw [hln]
  clear hln
  go_wp2_with fail
  go_loopg [3, 9] ln (fun kx s3 s9 wr => ∃ (i : Nat) (v : Value), s9 = .int .i64 (i : Int) ∧ v = s3 ∧ i ≤ ln ∧ ln - i ≤ kx ∧ Hid (OF wr w2.heap.size v (L.take i)) ∧ Hid (Below w2.heap.size w2 wr))
  case atStart => exact ⟨0, _, rfl, rfl, by omega, by omega, Lib.hid (OF.nil _ _), Lib.hid (Below.refl _ _)⟩
  case round =>
    obtain ⟨i, v, rfl, rfl, hi, hk, HO, HB⟩ := hrel
    obtain ⟨w4, rfl⟩ : ∃ W, W = wr := ⟨_, rfl⟩
    obtain ⟨av, cv, hv, -⟩ := HO.out.row
    obtain ⟨lv, hlv⟩ : ∃ lv, (L.take i).length = lv := ⟨_, rfl⟩
    rw [hlv] at hv
    subst hv
    clear hlv
    by_cases hlt : i < ln
    · have hltz : (i : Int) < (ln : Int) := by omega
      have hi0 : (0 : Int) ≤ (i : Int) := by omega
      have hiL : i < L.length := by rw [HLN.out]; exact hlt
      have HWI : Hid (wrap64 ((i : Int) + 1) = (i : Int) + 1) := Lib.hid (IntWalk.wrap64_in _ (by have := HLEN.out; have := HLN.out; omega))
      obtain ⟨b, o, v1, v2, rfl, -, k0, k1, k2, r1, r2⟩ := (HR.out.below HB.out) i hiL
      have HTS0 := List.take_succ_eq_append_getElem hiL
      have HOKI0 := HOK.out L[i] (List.getElem_mem hiL)
      obtain ⟨p, hp⟩ : ∃ p, L[i] = p := ⟨_, rfl⟩
      obtain ⟨nm, f⟩ := p
      rw [hp] at k0 r1 r2 HTS0 HOKI0
      dsimp only at k0 r1 r2 HOKI0
      have HTS := Lib.hid HTS0
      have HOKI := Lib.hid HOKI0
      clear hp hiL HTS0 HOKI0
      obtain ⟨a1, c1, hs1, -⟩ := r1.shape
      obtain ⟨a2, c2, hs2, -⟩ := r2.shape
      obtain ⟨n1, hn1⟩ : ∃ n1, (f.all.take f.kept).length = n1 := ⟨_, rfl⟩
      obtain ⟨n2, hn2⟩ : ∃ n2, (f.all.drop f.kept).length = n2 := ⟨_, rfl⟩
      rw [hn1] at hs1
      rw [hn2] at hs2
      subst hs1 hs2
      have HN1 : Hid (n1 = f.kept) := Lib.hid (by rw [← hn1, List.length_take]; have := HOKI.out.2.1; omega)
      clear hn1 hn2
      obtain ⟨hb5, hs5, -⟩ := box1 w4 #[encStr nm, .slice a1 n1 c1, .slice a2 n2 c2] 53
      have HS5 := Lib.hid hs5
      have HO5 := Lib.hid (HO.out.kept hb5)
      have HB5 := Lib.hid (HB.out.trans (hb5.mono HB.out.size))
      have HR1 := Lib.hid (r1.kept hb5)
      have HR2 := Lib.hid (r2.kept hb5)
      obtain ⟨NF, hNF⟩ : ∃ NF, w4.heap.size = NF := ⟨_, rfl⟩
      rw [hNF] at HS5
      clear hb5 hs5 r1 r2 HO HB
      go_upto_region 5 with fail
      try rw [hNF]
      clear hNF k0 k1 k2
      generalize w4.alloc (.cells #[encStr nm, .slice a1 n1 c1, .slice a2 n2 c2] 53) = w5 at HS5 HO5 HB5 HR1 HR2 ⊢
      obtain ⟨x0, x1, x2⟩ := three_rd HS5.out
      have hst1 := rb_string (P := Try.prog) HR1.out 51 9 5 Try.underlying51 Try.underlying5 Try.underlying9
      have hst2 := rb_string (P := Try.prog) HR2.out 51 9 5 Try.underlying51 Try.underlying5 Try.underlying9
      have hct := run_cat (f.all.take f.kept) (f.all.drop f.kept) (by rw [List.length_take, List.length_drop]; have := HOKI.out.2.2; omega)
      rw [List.take_append_drop] at hct
      obtain ⟨hba, -, -⟩ := box1 w5 #[encStr nm, .string (str f.all), .int .i64 (n1 : Int)] 45
      have HOA := Lib.hid (HO5.out.kept hba)
      have HBA := Lib.hid (HB5.out.trans (hba.mono HB5.out.size))
      have hcn := c1f_new w5 nm ⟨f.all, n1⟩
      have HCA := Lib.hid hcn
      have HLV : Hid ((L.take i).length ≤ 100000) := Lib.hid (by rw [List.length_take]; have := HLEN.out; omega)
      have HTS2 : Hid (L.take (i + 1) = L.take i ++ [(nm, ⟨f.all, n1⟩)]) := Lib.hid (by rw [HTS.out, HN1.out])
      clear hba hcn HO5 HB5
      go_wp2_with (refine append_file rfl (.tmp 13) (.tmp 27) rfl w2.heap.size (.slice av lv cv) (L.take i) (nm, ⟨f.all, n1⟩) ⟨w5.heap.size, 0, none⟩ 1 rfl rfl HOA.out HCA.out HLV.out HBA.out.size ?_; intro v' w' h1 h2 h3; have HO3 := Lib.hid h1; have HB3 := Lib.hid (h3 _ HBA.out); clear h1 h2 h3)
      go_roundg (ln - (i + 1))
      case measure => omega
      case rel => exact ⟨i + 1, _, by rw [HWI.out]; rfl, rfl, by omega, by omega, Lib.hid (by rw [HTS2.out]; exact HO3.out), HB3⟩
    · have hltz : ¬ (i : Int) < (ln : Int) := by omega
      obtain rfl : i = ln := by omega
      have HTK : Hid (L.take i = L) := Lib.hid (List.take_of_length_le (by rw [HLN.out]; exact Nat.le_refl _))
      clear hi hk
      go_wp2_with fail
      go_ret
      have ho := HO.out
      rw [HTK.out] at ho
      exact ⟨_, rfl, by rw [HLE.out]; exact ho.mono HB1.out.size, HB1.out.trans (HB.out.mono HB1.out.size)⟩
end Go.Proofs.Ythkjjpkipeeimaa
