/- The disk: Names. -/
import Derived.Test.YthkjjpkipeeimaaDkO
namespace Go.Proofs.Ythkjjpkipeeimaa
open Go.RowKit Go.Maps
def keysF (L : Ft) : List Nm := L.map (·.1)
theorem keysF_sorted {L : Ft} (h : SrtF L) : (keysF L).Pairwise (· < ·) := List.pairwise_map.2 h
theorem keysF_mem {L : Ft} {n : Nm} : n ∈ keysF L ↔ getF L n ≠ none := by
  constructor
  · intro h e
    obtain ⟨p, hp, rfl⟩ := List.mem_map.1 h
    exact getF_none e p hp rfl
  · intro h
    obtain ⟨f, hf⟩ := Option.ne_none_iff_exists'.1 h
    exact List.mem_map.2 ⟨_, getF_mem hf, rfl⟩
theorem merge_keys {L : Ft} (h : SrtF L) {ss : List Nm} (hnd : ss.Nodup) (hm : ∀ x, x ∈ ss ↔ x ∈ keysF L) : ss.mergeSort leB = keysF L := by
  have hs := keysF_sorted h
  have hn : (keysF L).Nodup := hs.imp (fun hab e => by subst e; exact nm_irrefl _ hab)
  have hp : ss.Perm (keysF L) := (List.perm_ext_iff_of_nodup hnd hn).2 hm
  rw [mergeSort_of_perm hp]
  have tr : ∀ a b c : Nm, leB a b = true → leB b c = true → leB a c = true := fun a b c h1 h2 => by simp only [leB, decide_eq_true_eq] at *; exact List.le_trans h1 h2
  have to : ∀ a b : Nm, (leB a b || leB b a) = true := fun a b => by simp only [leB, Bool.or_eq_true, decide_eq_true_eq]; exact List.le_total a b
  refine List.Perm.eq_of_pairwise (le := fun a b => leB a b = true) (fun a b _ _ h1 h2 => ?_) (List.pairwise_mergeSort tr to _) (hs.imp (fun hab => ?_)) (List.mergeSort_perm _ leB)
  · simp only [leB, decide_eq_true_eq] at h1 h2
    exact List.le_antisymm h1 h2
  · simp only [leB, decide_eq_true_eq]
    exact List.le_of_lt hab
section
variable {S : Nat → Prop} {w : World} {B m mt : Nat} {D : Dd} {M : Lit → Option Value} {V : Nm → Value}
set_option maxRecDepth 100000 in
set_option maxHeartbeats 8000000 in
theorem dnames (h : DKx S w B m mt D M V) : Calls Try.prog 17 #[.pointer (some ⟨B, 0, none⟩)] w fun e w' => ∃ v, e = .returned v ∧ OZ w' w.heap.size v (keysF D.fs) ∧ Below w.heap.size w w' := by
  have H := Lib.hid h
  obtain ⟨Dm, hown, hsz, hM, hMN⟩ := h.ranged
  have HOWN := Lib.hid hown
  have HM := Lib.hid hM
  have HMN := Lib.hid hMN
  have HSZ := Lib.hid hsz
  obtain ⟨-, c1, -⟩ := h.at
  have HML := Lib.hid h.lt.2.1
  clear hown hM hMN h hsz
  go_enter Try.func17, Try.ntmps17
  go_wp2_with fail
  refine (dcreated_yes H.out).mono ?_
  rintro e w1 ⟨rfl, rfl⟩
  go_wp2_with (at_range; refine wpList_range_own _ rfl _ 103 rfl 9 124 keyedS fm_und _ m _ _ rfl HOWN.out ?_; intro w2 hrg0 hg0 hs0)
  go_frame
  obtain ⟨r, hr⟩ : ∃ r, w.heap.size = r := ⟨_, rfl⟩
  have HR := Lib.hid hr
  rw [hr] at hrg0
  try rw [hr]
  clear hr
  have HRG := Lib.hid hrg0
  have HBW : Hid (Below w.heap.size w w2) := Lib.hid ⟨hg0.os, hg0.tape, hg0.output, hg0.size, fun k hk => hg0.block k hk (by simp)⟩
  have HLF0 : Hid (∀ kl, Maps.has Dm kl = true → M kl ≠ none) := Lib.hid (fun kl hl e => by rw [HMN.out kl e] at hl; cases hl)
  clear hrg0 hg0 hs0 c1
  go_loopg [3] (Maps.size Dm) (fun kx s3 wr => ∃ (left : Lit → Bool) (cnt : Nat) (ss : List Nm) (v : Value), cnt ≤ kx ∧ v = s3 ∧ ss.length + cnt ≤ Maps.size Dm ∧ Hid (OZ wr w.heap.size v ss) ∧ Hid (Collected Dm left ss) ∧ Hid (wr.ranges Try.prog 9 vR m r D.fs.length Dm left cnt) ∧ Hid (∀ kl, left kl = true → M kl ≠ none) ∧ Hid (Below w.heap.size w wr))
  case atStart => exact ⟨_, _, [], _, Nat.le_refl _, rfl, by simp, Lib.hid (OZ.nil _ _), Lib.hid (Collected.start Dm), HRG, HLF0, HBW⟩
  case round =>
    clear HRG HBW HLF0
    obtain ⟨left, cnt, ss, v, hcnt, rfl, hlen, HO, HC, HRG, HLF, HB⟩ := hrel
    go_wp2_with (at_next; refine wpList_next_ranges _ rfl _ rfl 9 keyedS vR encStr (fun v : Value => v) (fun key kl hkey => by obtain ⟨x, h1, -⟩ := Maps.keyOf_str Try.underlying9 hkey; exact ⟨x, h1⟩) (fun v y _ => ⟨v, rfl⟩) m r D.fs.length _ _ _ rfl HRG.out ?_ ?_)
    · intro hc0 hl0
      have HK : Hid (ss.mergeSort leB = keysF D.fs) := Lib.hid (merge_keys H.out.df.srt HC.out.1 (fun x => by
        rw [HC.out.2 x, hl0, keysF_mem]
        simp only [and_true]
        constructor
        · intro hx e
          have := H.out.df.spot x
          rw [e] at this
          rw [HMN.out _ this] at hx
          cases hx
        · intro hx
          obtain ⟨f, hf⟩ := Option.ne_none_iff_exists'.1 hx
          obtain ⟨a, c, -, e2⟩ := H.out.file hf
          exact (HM.out _ _ e2).1))
      have HLN : Hid (ss.length ≤ 100000) := Lib.hid (by have := HSZ.out; have := H.out.df.few; omega)
      clear hl0 hc0
      go_wp2_with fail
      refine (sort_oz w.heap.size _ ss _ HO.out HLN.out).mono ?_
      rintro e w5 ⟨rfl, ho, hg⟩
      rw [HK.out] at ho
      have HO5 := Lib.hid ho
      have HB5 := Lib.hid (HB.out.grown hg HB.out.size (fun k hk => (HO.out.lt hk).1))
      clear ho hg
      go_wp2_with fail
      go_ret
      exact ⟨_, rfl, HO5.out, HB5.out⟩
    · intro x v2 kl y ps w3 cnt1 hkey hlx hv hat hrg1 hlt hg1 hs1 hen
      obtain ⟨x', ex, rfl, -⟩ := Maps.keyOf_str Try.underlying9 hkey
      obtain rfl := encStr_inj ex
      have HC1 := Lib.hid (HC.out.step hlx hat)
      have HLF1 : Hid (∀ kl, (left kl && !kl.sameKey (.string x)) = true → M kl ≠ none) := Lib.hid (fun kl hk => HLF.out kl (strike_le hk))
      have HB3 : Hid (Below w.heap.size w w3) := Lib.hid (HB.out.trans ⟨hg1.os, hg1.tape, hg1.output, hg1.size, fun k hk => hg1.block k (Nat.lt_of_lt_of_le hk HB.out.size) (fun e => by injection e with e; have := HR.out; omega)⟩)
      have HO3 : Hid (OZ w3 w.heap.size v ss) := Lib.hid (World.ownsRow.kept HO.out hg1 (.inr (Ne.symm (row_ne_iter HO.out HRG.out))))
      obtain ⟨B4, s4, -⟩ := box1 w3 #[encStr x] 9
      have x0 : (w3.alloc (.cells #[encStr x] 9)).cell? ⟨w3.heap.size, 0, none⟩ = some (encStr x) := by simp only [World.cell?, s4]; rfl
      have X0 := Lib.hid x0
      have HO4 := Lib.hid (HO3.out.below B4)
      have HB4 := Lib.hid (HB3.out.trans (B4.mono HB3.out.size))
      have HRG4 := Lib.hid (hrg1.alloc (.cells #[encStr x] 9))
      have hm9 : cnt1 < gk := by omega
      have hl9 : (ss ++ [x]).length + cnt1 ≤ Maps.size Dm := by rw [List.length_append]; simp; omega
      have HLN : Hid (ss.length + 1 ≤ 100000) := Lib.hid (by have := HSZ.out; have := H.out.df.few; omega)
      have HB40 : Hid (w.heap.size ≤ (w3.alloc (.cells #[encStr x] 9)).heap.size) := Lib.hid HB4.out.size
      clear B4 s4 x0 hkey hlx hv hat hrg1 hg1 hs1 ex hlt hcnt hlen
      go_wp2_with (at_builtin; refine append_s rfl (.tmp 17) (.tmp 19) rfl w.heap.size _ ss x ⟨w3.heap.size, 0, none⟩ 1 rfl rfl HO4.out X0.out HLN.out HB40.out ?_; intro v4 w4 ho4 hg4; have HO5 := Lib.hid ho4; have HB5 := Lib.hid (HB4.out.grown hg4 HB40.out (fun k hk => (HO4.out.lt hk).1)); have HRG5 := Lib.hid (HRG4.out.kept hg4 (row_ne_low HO4.out HML.out) (row_ne_iter HO4.out HRG4.out)); clear ho4 hg4)
      go_roundg cnt1
      case measure => exact hm9
      case rel => exact ⟨_, cnt1, ss ++ [x], _, Nat.le_refl _, rfl, hl9, HO5, HC1, HRG5, HLF1, HB5⟩
end
end Go.Proofs.Ythkjjpkipeeimaa
