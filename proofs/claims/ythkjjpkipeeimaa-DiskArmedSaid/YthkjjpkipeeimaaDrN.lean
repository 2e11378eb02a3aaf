/- The reference's disk: Crash. -/
import Derived.Test.YthkjjpkipeeimaaDrM
import Derived.Deep.DeepCutAuto
namespace Go.Proofs.Ythkjjpkipeeimaa
open Go.RowKit Go.Maps
theorem two_rd {w : World} {N : Nat} {x0 x1 : Value} {t : TypeId} (h : w.heap[N]? = some (.cells #[x0, x1] t (0, 0))) : w.cell? ⟨N, 0, none⟩ = some x0 ∧ w.cell? ⟨N, 1, none⟩ = some x1 := by
  refine ⟨?_, ?_⟩ <;> simp [World.cell?, h]
theorem set2 {w : World} {N : Nat} {x0 x1 : Value} {t : TypeId} (h : w.heap[N]? = some (.cells #[x0, x1] t (0, 0))) (y0 y1 : Value) : ((w.setCell ⟨N, 0, none⟩ y0).setCell ⟨N, 1, none⟩ y1).heap[N]? = some (.cells #[y0, y1] t (0, 0)) := (two_set (two_set h y0).1 y1).2
theorem OF.len_le {w : World} {base : Nat} {v : Value} {l : Ft} (_h : OF w base v l) : l.length ≤ l.length := Nat.le_refl _
theorem crash_len : ∀ (L : Ft) (ts : List (Nat × Nat)), (crashF L ts).length ≤ L.length
  | [], _ => Nat.le_refl _
  | (n, f) :: r, ts => by
    have one : ∀ g : Fl, (oneF n g).length ≤ 1 := fun g => by unfold oneF; split <;> simp
    rw [crashF_cons]
    split
    · have h1 := crash_len r (nextT ts).2
      have h2 := one (tornF f (nextT ts).1)
      simp only [List.length_append, List.length_cons]
      omega
    · have h1 := crash_len r ts
      have h2 := one f
      simp only [List.length_append, List.length_cons]
      omega
/-- What is told of the first tears, beyond the row's end too. -/
def tearAt (ts : List (Nat × Nat)) (u : Nat) : Nat × Nat := (nextT (ts.drop u)).1
theorem next_drop (ts : List (Nat × Nat)) (u : Nat) : (nextT (ts.drop u)).2 = ts.drop (u + 1) := by
  rcases Nat.lt_or_ge u ts.length with h | h
  · rw [List.drop_eq_getElem_cons h]
    rfl
  · rw [List.drop_eq_nil_of_le h, List.drop_eq_nil_of_le (by omega)]
    rfl
theorem tearAt_in {ts : List (Nat × Nat)} {u : Nat} (h : u < ts.length) : tearAt ts u = ts[u] := by
  unfold tearAt
  rw [List.drop_eq_getElem_cons h]
  rfl
theorem tearAt_out {ts : List (Nat × Nat)} {u : Nat} (h : ts.length ≤ u) : tearAt ts u = (0, 0) := by
  unfold tearAt
  rw [List.drop_eq_nil_of_le h]
  rfl
set_option maxRecDepth 100000 in
set_option maxHeartbeats 8000000 in
theorem rcrash (room : Int) (a : Option Addr) (c : Nat) (down : Bool) (ar st : Int) (L : Ft) (at_ : Option Addr) (ct : Nat) (ts : List (Nat × Nat)) (w : World) (h : FRow w a L) (hl : L.length ≤ 1000) (htr : TRow (fun _ => False) w at_ ts) (hts : ts.length ≤ 1000) (hwf : ∀ t ∈ ts, t.1 < 65536 ∧ t.2 < 4294967296) (hok : ∀ p ∈ L, (∀ c ∈ p.2.all, c < 256) ∧ p.2.kept ≤ p.2.all.length ∧ p.2.all.length ≤ 1048576) : Calls Try.prog 66 #[.agg #[.int .i64 room, .slice a L.length c, .bool down, .int .i64 ar, .int .u64 st], .slice at_ ts.length ct] w fun e w' => ∃ v, e = .returned (.agg #[.int .i64 room, v, .bool true, .int .i64 (-1), .int .u64 st]) ∧ OF w' w.heap.size v (crashF L ts) ∧ Below w.heap.size w w' := by
  obtain ⟨ln, hln⟩ : ∃ ln, L.length = ln := ⟨_, rfl⟩
  have HLN := Lib.hid hln
  obtain ⟨B1, s0, s1, hz⟩ := box2 w #[.int .i64 room, .slice a ln c, .bool down, .int .i64 ar, .int .u64 st] #[.int .i64 0, .slice none 0 0, .bool false, .int .i64 0, .int .u64 0] 30 30
  have HB1 := Lib.hid B1
  have HS01 := Lib.hid s0
  have HS11 := Lib.hid s1
  have HZ := Lib.hid hz
  have HR := Lib.hid h
  obtain ⟨lt, hlt⟩ : ∃ lt, ts.length = lt := ⟨_, rfl⟩
  have HLT := Lib.hid hlt
  have HL := Lib.hid hl
  have HTR := Lib.hid htr
  have HTS := Lib.hid hts
  have HWF := Lib.hid hwf
  have HOK := Lib.hid hok
  rw [hln, hlt]
  clear h B1 s0 s1 hz hl htr hts hwf hok hln hlt
  go_enter Try.func66, Try.ntmps66
  go_upto_region 1 with fail
  obtain ⟨N, hN⟩ : ∃ N, w.heap.size = N := ⟨_, rfl⟩
  have HN := Lib.hid hN
  rw [hN] at HS01 HS11 HZ
  try rw [hN]
  clear hN
  generalize (w.alloc (.cells #[.int .i64 room, .slice a ln c, .bool down, .int .i64 ar, .int .u64 st] 30)).alloc (.cells #[.int .i64 0, .slice none 0 0, .bool false, .int .i64 0, .int .u64 0] 30) = w1 at HS01 HS11 HB1 HZ ⊢
  obtain ⟨c0, c1, c2, c3, c4⟩ := five_rd HS01.out
  have fHS0 : ∀ o, w1.frozen? ⟨N, o, none⟩ = false := fun o => by simp [World.frozen?, HS01.out]
  have hNN := HN.out
  have hZZ := HZ.out
  have HQ_HS0 : Hid ((w1.setCell ⟨N, 2, none⟩ (.bool true)).heap[N]? = some (.cells #[.int .i64 room, .slice a ln c, .bool true, .int .i64 ar, .int .u64 st] 30 (0, 0))) := Lib.hid (by rw [heap_setCell_same w1 _ 2 _ _ _ HS01.out]; simp)
  have HQ_HS1 : Hid ((w1.setCell ⟨N, 2, none⟩ (.bool true)).heap[N + 1]? = some (.cells #[.int .i64 0, .slice none 0 0, .bool false, .int .i64 0, .int .u64 0] 30 (0, 0))) := Lib.hid ((Below.heap_setCell _ _ _ _ (show N + 1 ≠ N by omega)).trans (HS11.out))
  have HQB := Lib.hid (below_two (HB1.out) (show w.heap.size ≤ N by omega) 2 (.bool true))
  clear hNN hZZ
  go_upto_region 2 with fail
  generalize (w1.setCell ⟨N, 2, none⟩ (.bool true)) = w2 at HQ_HS0 HQ_HS1 HQB ⊢
  have HS02 := HQ_HS0
  have HS12 := HQ_HS1
  have HB2 := HQB
  clear HQ_HS0 HQ_HS1 HQB HS01 HS11 HB1
  clear c0 c1 c2 c3 c4
  clear fHS0
  obtain ⟨c0, c1, c2, c3, c4⟩ := five_rd HS02.out
  have fHS0 : ∀ o, w2.frozen? ⟨N, o, none⟩ = false := fun o => by simp [World.frozen?, HS02.out]
  have hNN := HN.out
  have hZZ := HZ.out
  have HQ_HS0 : Hid ((w2.setCell ⟨N, 3, none⟩ (.int .i64 (-1))).heap[N]? = some (.cells #[.int .i64 room, .slice a ln c, .bool true, .int .i64 (-1), .int .u64 st] 30 (0, 0))) := Lib.hid (by rw [heap_setCell_same w2 _ 3 _ _ _ HS02.out]; simp)
  have HQ_HS1 : Hid ((w2.setCell ⟨N, 3, none⟩ (.int .i64 (-1))).heap[N + 1]? = some (.cells #[.int .i64 0, .slice none 0 0, .bool false, .int .i64 0, .int .u64 0] 30 (0, 0))) := Lib.hid ((Below.heap_setCell _ _ _ _ (show N + 1 ≠ N by omega)).trans (HS12.out))
  have HQB := Lib.hid (below_two (HB2.out) (show w.heap.size ≤ N by omega) 3 (.int .i64 (-1)))
  clear hNN hZZ
  go_upto_region 3 with fail
  generalize (w2.setCell ⟨N, 3, none⟩ (.int .i64 (-1))) = w3 at HQ_HS0 HQ_HS1 HQB ⊢
  have HS03 := HQ_HS0
  have HS13 := HQ_HS1
  have HB3 := HQB
  clear HQ_HS0 HQ_HS1 HQB HS02 HS12 HB2
  clear c0 c1 c2 c3 c4
  clear fHS0
  obtain ⟨c0, c1, c2, c3, c4⟩ := five_rd HS03.out
  go_wp2_with fail
  obtain ⟨b3, hb3⟩ : ∃ b3, w3.heap.size = b3 := ⟨_, rfl⟩
  have HBB3 : Hid (w.heap.size ≤ b3 ∧ N + 1 < b3) := Lib.hid ⟨by rw [← hb3]; exact HB3.out.size, by rw [← hb3]; exact ex_lt HS13.out⟩
  have HB3E : Hid (b3 ≤ w3.heap.size) := Lib.hid (by omega)
  clear hb3
  clear c0 c1 c2 c3 c4
  go_loopg [5, 6, 7] ln (fun kx s5 s6 s7 w9 => ∃ (i u : Nat) (v : Value) (l : Ft), s7 = .int .i64 i ∧ s6 = .int .i64 u ∧ v = s5 ∧ i ≤ ln ∧ ln - i ≤ kx ∧ u ≤ i ∧ Hid (OF w9 b3 v l) ∧ Hid (crashF L ts = l ++ crashF (L.drop i) (ts.drop u)) ∧ Hid (Below w.heap.size w w9) ∧ Hid (w9.heap[N]? = some (.cells #[.int .i64 room, .slice a ln c, .bool true, .int .i64 (-1), .int .u64 st] 30 (0, 0))) ∧ Hid (w9.heap[N + 1]? = some (.cells #[.int .i64 0, .slice none 0 0, .bool false, .int .i64 0, .int .u64 0] 30 (0, 0))) ∧ Hid (b3 ≤ w9.heap.size))
  case atStart => exact ⟨0, 0, _, [], rfl, rfl, rfl, by omega, by omega, by omega, Lib.hid (OF.nil _ _), Lib.hid rfl, HB3, HS03, HS13, HB3E⟩
  case round =>
    obtain ⟨i, u, v, l, rfl, rfl, rfl, hi, hk, hui, HO, HE, HBO, HS09, HS19, HBZ⟩ := hrel
    obtain ⟨w9, rfl⟩ : ∃ W, W = wr := ⟨_, rfl⟩
    clear HB3 HS03 HS13 HB3E
    obtain ⟨av, cv, hv, -⟩ := HO.out.row
    obtain ⟨lv, hlv⟩ : ∃ lv, l.length = lv := ⟨_, rfl⟩
    rw [hlv] at hv
    subst hv
    have HLV := Lib.hid hlv
    clear hlv
    by_cases hlt : i < ln
    · have hltz : (i : Int) < (ln : Int) := by omega
      have hi0 : (0 : Int) ≤ (i : Int) := by omega
      have hiL : i < L.length := by rw [HLN.out]; exact hlt
      obtain ⟨bb, o, rfl, -, k0, k1, k2⟩ := (HR.out.below HBO.out) i hiL
      have HDR : Hid (L.drop i = L[i] :: L.drop (i + 1)) := Lib.hid (List.drop_eq_getElem_cons hiL)
      have HOKI := Lib.hid (HOK.out L[i] (List.getElem_mem hiL))
      obtain ⟨p, hp⟩ : ∃ p, L[i] = p := ⟨_, rfl⟩
      obtain ⟨q, f⟩ := p
      rw [hp] at k0 k1 k2 HDR HOKI
      dsimp only at k0 k1 k2
      clear hp hiL
      have HOKJ : Hid ((∀ c ∈ f.all, c < 256) ∧ f.kept ≤ f.all.length ∧ f.all.length ≤ 1048576) := Lib.hid HOKI.out
      clear HOKI
      have HOKI := HOKJ
      clear HOKJ
      have HWI : Hid (wrap64 ((i : Int) + 1) = (i : Int) + 1) := Lib.hid (IntWalk.wrap64_in _ (by have := HL.out; have := HLN.out; omega))
      have HWU : Hid (wrap64 ((u : Int) + 1) = (u : Int) + 1) := Lib.hid (IntWalk.wrap64_in _ (by have := HL.out; have := HLN.out; omega))
      have HB9 : Hid (Below w9.heap.size w9 w9) := Lib.hid (Below.refl _ _)
      obtain ⟨c0, c1, c2, c3, c4⟩ := five_rd HS09.out
      obtain ⟨hbf, hsf, hzf⟩ := box1 w9 #[encStr q, .string (str f.all), .int .i64 (f.kept : Int)] 45
      obtain ⟨NF, hNF⟩ : ∃ NF, w9.heap.size = NF := ⟨_, rfl⟩
      have HNFe := Lib.hid hNF
      have HNF : Hid (N + 1 < NF ∧ w9.heap.size ≤ NF) := Lib.hid ⟨by have := ex_lt HS19.out; omega, by have := HB9.out.size; omega⟩
      have HS010 := Lib.hid (ex_below HS09.out hbf)
      have HS110 := Lib.hid (ex_below HS19.out hbf)
      have HB10 := Lib.hid (HB9.out.trans (hbf.mono HB9.out.size))
      rw [hNF] at hsf
      have HF10 := Lib.hid hsf
      clear hbf hsf hzf HS09 HS19 HB9
      go_upto_region 9 with fail
      try rw [hNF]
      clear hNF
      generalize w9.alloc (.cells #[encStr q, .string (str f.all), .int .i64 (f.kept : Int)] 45) = w10 at HS010 HS110 HF10 HB10 ⊢
      clear c0 c1 c2 c3 c4
      clear k0 k1 k2 hltz hi0
      have HNE : Hid (NF ≠ N ∧ NF ≠ N + 1) := Lib.hid ⟨by have := HNF.out; omega, by have := HNF.out; omega⟩
      by_cases hlo : f.kept < f.all.length
      · have dl0 : decide (f.kept < f.all.length) = true := decide_eq_true hlo
        have dl1 : decide ((f.all.length : Int) > (f.kept : Int)) = true := decide_eq_true (by omega)
        have dl2 : decide ((f.kept : Int) < (f.all.length : Int)) = true := decide_eq_true (by omega)
        have hqs0 : (str f.all).size = f.all.length := str_size _
        have HLO := Lib.hid hlo
        obtain ⟨x0, x1, x2⟩ := three_rd HF10.out
        go_upto_region 10 with fail
        clear dl0 dl1 dl2 hqs0
        clear x0 x1 x2
        obtain ⟨t0, t1, hta⟩ : ∃ t0 t1, tearAt ts u = (t0, t1) := ⟨_, _, rfl⟩
        have HTA := Lib.hid hta
        have HTW : Hid (t0 < 65536 ∧ t1 < 4294967296) := Lib.hid (by
          rcases Nat.lt_or_ge u ts.length with h | h
          · rw [tearAt_in h] at hta
            have := HWF.out _ (List.getElem_mem h)
            rw [hta] at this
            exact this
          · rw [tearAt_out h] at hta
            injection hta with e0 e1
            rw [← e0, ← e1]
            exact ⟨by decide, by decide⟩)
        clear hta
        obtain ⟨tb, htb⟩ : ∃ tb, tearB (f.all.drop f.kept) t0 t1 = tb := ⟨_, rfl⟩
        obtain ⟨tf, htf⟩ : ∃ tf, f.all.take f.kept ++ tb = tf := ⟨_, rfl⟩
        have HTB := Lib.hid htb
        have HTF := Lib.hid htf
        clear htb htf
        obtain ⟨hbf, hsf, -⟩ := box1 w10 #[.int .u16 0, .int .u32 0] 178
        obtain ⟨NT, hNT⟩ : ∃ NT, w10.heap.size = NT := ⟨_, rfl⟩
        have HNT : Hid (NF < NT ∧ N + 1 < NT ∧ w9.heap.size ≤ NT) := Lib.hid ⟨by have := ex_lt HF10.out; omega, by have := ex_lt HS110.out; omega, by have := HB10.out.size; omega⟩
        have HS011 := Lib.hid (ex_below HS010.out hbf)
        have HS111 := Lib.hid (ex_below HS110.out hbf)
        have HF11 := Lib.hid (ex_below HF10.out hbf)
        have HB11 := Lib.hid (HB10.out.trans (hbf.mono HB10.out.size))
        rw [hNT] at hsf
        have HT11 := Lib.hid hsf
        clear hbf hsf HS010 HS110 HF10 HB10
        go_upto_region 11 with fail
        try rw [hNT]
        clear hNT
        generalize w10.alloc (.cells #[.int .u16 0, .int .u32 0] 178) = w11 at HS011 HS111 HF11 HT11 HB11 ⊢
        by_cases hut : u < lt
        · have hutz : (u : Int) < (lt : Int) := by omega
          have hu0 : (0 : Int) ≤ (u : Int) := by omega
          have hul : u < ts.length := by rw [HLT.out]; exact hut
          obtain ⟨bt, ot, rfl, -, -, r0, r1⟩ := HTR.out u hul
          have htt := tearAt_in hul
          rw [HTA.out] at htt
          rw [← htt] at r0 r1
          dsimp only at r0 r1
          have r0 := ((HBO.out.trans (HB11.out.mono HBO.out.size)).cell (p := ⟨bt, ot + u * 2, none⟩) (cell_spot r0).2).trans r0
          have r1 := ((HBO.out.trans (HB11.out.mono HBO.out.size)).cell (p := ⟨bt, ot + u * 2 + 1, none⟩) (cell_spot r1).2).trans r1
          clear htt hul
          obtain ⟨y0, y1⟩ := two_rd HT11.out
          have fHT : ∀ o, w11.frozen? ⟨NT, o, none⟩ = false := fun o => by simp [World.frozen?, HT11.out]
          have hNN := HN.out
          have hZZ := HZ.out
          have HQ_HT := Lib.hid (set2 HT11.out (.int .u16 (t0 : Int)) (.int .u32 (t1 : Int)))
          have HQ_HS0 : Hid (((w11.setCell ⟨NT, 0, none⟩ (.int .u16 (t0 : Int))).setCell ⟨NT, 1, none⟩ (.int .u32 (t1 : Int))).heap[N]? = some (.cells #[.int .i64 room, .slice (some ⟨bb, o, none⟩) ln c, .bool true, .int .i64 (-1), .int .u64 st] 30 (0, 0))) := Lib.hid ((Below.heap_setCell _ _ _ _ (show N ≠ NT by have := HNF.out; have := HNT.out; omega)).trans ((Below.heap_setCell _ _ _ _ (show N ≠ NT by have := HNF.out; have := HNT.out; omega)).trans (HS011.out)))
          have HQ_HS1 : Hid (((w11.setCell ⟨NT, 0, none⟩ (.int .u16 (t0 : Int))).setCell ⟨NT, 1, none⟩ (.int .u32 (t1 : Int))).heap[N + 1]? = some (.cells #[.int .i64 0, .slice none 0 0, .bool false, .int .i64 0, .int .u64 0] 30 (0, 0))) := Lib.hid ((Below.heap_setCell _ _ _ _ (show N + 1 ≠ NT by have := HNF.out; have := HNT.out; omega)).trans ((Below.heap_setCell _ _ _ _ (show N + 1 ≠ NT by have := HNF.out; have := HNT.out; omega)).trans (HS111.out)))
          have HQ_HF : Hid (((w11.setCell ⟨NT, 0, none⟩ (.int .u16 (t0 : Int))).setCell ⟨NT, 1, none⟩ (.int .u32 (t1 : Int))).heap[NF]? = some (.cells #[encStr q, .string (str f.all), .int .i64 (f.kept : Int)] 45 (0, 0))) := Lib.hid ((Below.heap_setCell _ _ _ _ (show NF ≠ NT by have := HNF.out; have := HNT.out; omega)).trans ((Below.heap_setCell _ _ _ _ (show NF ≠ NT by have := HNF.out; have := HNT.out; omega)).trans (HF11.out)))
          have HQB := Lib.hid (below_two (below_two (HB11.out) (show w9.heap.size ≤ NT by have := HNF.out; have := HNT.out; omega) 0 (.int .u16 (t0 : Int))) (show w9.heap.size ≤ NT by have := HNF.out; have := HNT.out; omega) 1 (.int .u32 (t1 : Int)))
          clear hNN hZZ
          go_upto_region 13 with fail
          generalize ((w11.setCell ⟨NT, 0, none⟩ (.int .u16 (t0 : Int))).setCell ⟨NT, 1, none⟩ (.int .u32 (t1 : Int))) = w12 at HQ_HS0 HQ_HS1 HQ_HF HQ_HT HQB ⊢
          have HS012 := HQ_HS0
          have HS112 := HQ_HS1
          have HF12 := HQ_HF
          have HT12 := HQ_HT
          have HB12 := HQB
          clear HQ_HS0 HQ_HS1 HQ_HF HQ_HT HQB HS011 HS111 HF11 HT11 HB11
          clear y0 y1
          clear fHT hut hutz hu0 r0 r1
          go_upto_region 14 with fail
          go_cut [] (fun wc => Hid (Below w9.heap.size w9 wc) ∧ Hid (wc.heap[NF]? = some (.cells #[encStr q, .string (str tf), .int .i64 (f.kept : Int)] 45 (0, 0))) ∧ Hid (wc.heap[N]? = some (.cells #[.int .i64 room, .slice (some ⟨bb, o, none⟩) ln c, .bool true, .int .i64 (-1), .int .u64 st] 30 (0, 0))) ∧ Hid (wc.heap[N + 1]? = some (.cells #[.int .i64 0, .slice none 0 0, .bool false, .int .i64 0, .int .u64 0] 30 (0, 0))))
          case first =>
            have HS0 : Hid ((fun W : World => W.cell? ⟨NF, 2, none⟩ = some (.int .i64 (f.kept : Int)) ∧ W.heap[NT]? = some (.cells #[.int .u16 (t0 : Int), .int .u32 (t1 : Int)] 178 (0, 0))) w12.drew) := Lib.hid ⟨(three_rd HF12.out).2.2, HT12.out⟩
            have HFD : Hid (w12.drew.heap[NF]? = some (.cells #[encStr q, .string (str f.all), .int .i64 (f.kept : Int)] 45 (0, 0))) := Lib.hid HF12.out
            have HD0 : Hid (w12.drew.heap[N]? = some (.cells #[.int .i64 room, .slice (some ⟨bb, o, none⟩) ln c, .bool true, .int .i64 (-1), .int .u64 st] 30 (0, 0))) := Lib.hid HS012.out
            have HD1 : Hid (w12.drew.heap[N + 1]? = some (.cells #[.int .i64 0, .slice none 0 0, .bool false, .int .i64 0, .int .u64 0] 30 (0, 0))) := Lib.hid HS112.out
            have HBD : Hid (Below w9.heap.size w9 w12.drew) := Lib.hid HB12.out.drew
            refine wp_region_held_drew (S := (fun W : World => W.cell? ⟨NF, 2, none⟩ = some (.int .i64 (f.kept : Int)) ∧ W.heap[NT]? = some (.cells #[.int .u16 (t0 : Int), .int .u32 (t1 : Int)] 178 (0, 0)))) (by kernel_rfl) HS0.out (fun hHeld => ?_)
            clear hHeld HF12 HT12 HB12 HS012 HS112
            generalize w12.drew = wd at HS0 HFD HD0 HD1 HBD ⊢
            refine wpAnyH_take (i := 0) (oi := { dst := some 40, op := Go.Op.fieldAddr 45 (Go.Operand.tmp 8) 1, type := 0, pos := "ref.go:260", after := #[], guard := none }) (v := ?_) rfl (by kernel_rfl) (by kernel_rfl) (by kernel_rfl) (fun _ _ _ h => h) (Or.inl ⟨by rfl, ?_⟩) HS0.out ?_
            case refine_2 => (intro w1 hS1; clear hS1; go_simp; try with_reducible rfl)
            try simp only [Act.put, List.setIfInBounds_toArray, List.set_cons_zero, List.set_cons_succ]
            refine wpAnyH_take (i := 2) (oi := { dst := some 42, op := Go.Op.fieldAddr 45 (Go.Operand.tmp 8) 2, type := 0, pos := "ref.go:260", after := #[], guard := none }) (v := ?_) rfl (by kernel_rfl) (by kernel_rfl) (by kernel_rfl) (fun _ _ _ h => h) (Or.inl ⟨by rfl, ?_⟩) HS0.out ?_
            case refine_2 => (intro w1 hS1; clear hS1; go_simp; try with_reducible rfl)
            try simp only [Act.put, List.setIfInBounds_toArray, List.set_cons_zero, List.set_cons_succ]
            refine wpAnyH_take (i := 3) (oi := { dst := some 43, op := Go.Op.load 3 (Go.Operand.tmp 42), type := 3, pos := "ref.go:260", after := #[{ on := 2, ground := Go.Ground.data }], guard := none }) (v := .int .i64 (f.kept : Int)) rfl (by kernel_rfl) (by kernel_rfl) (by kernel_rfl) (fun _ _ _ h => h) (Or.inl ⟨by rfl, ?_⟩) HS0.out ?_
            case refine_1 => (intro w1 hS1; obtain ⟨hq, -⟩ := hS1; go_simp; try with_reducible rfl)
            try simp only [Act.put, List.setIfInBounds_toArray, List.set_cons_zero, List.set_cons_succ]
            refine wpAnyH_take (i := 5) (oi := { dst := some 45, op := Go.Op.fieldAddr 45 (Go.Operand.tmp 8) 1, type := 0, pos := "ref.go:260", after := #[], guard := none }) (v := ?_) rfl (by kernel_rfl) (by kernel_rfl) (by kernel_rfl) (fun _ _ _ h => h) (Or.inl ⟨by rfl, ?_⟩) HS0.out ?_
            case refine_2 => (intro w1 hS1; clear hS1; go_simp; try with_reducible rfl)
            try simp only [Act.put, List.setIfInBounds_toArray, List.set_cons_zero, List.set_cons_succ]
            refine wpAnyH_take (i := 7) (oi := { dst := some 47, op := Go.Op.fieldAddr 45 (Go.Operand.tmp 8) 2, type := 0, pos := "ref.go:260", after := #[], guard := none }) (v := ?_) rfl (by kernel_rfl) (by kernel_rfl) (by kernel_rfl) (fun _ _ _ h => h) (Or.inl ⟨by rfl, ?_⟩) HS0.out ?_
            case refine_2 => (intro w1 hS1; clear hS1; go_simp; try with_reducible rfl)
            try simp only [Act.put, List.setIfInBounds_toArray, List.set_cons_zero, List.set_cons_succ]
            refine wpAnyH_take (i := 8) (oi := { dst := some 48, op := Go.Op.load 3 (Go.Operand.tmp 47), type := 3, pos := "ref.go:260", after := #[{ on := 7, ground := Go.Ground.data }], guard := none }) (v := .int .i64 (f.kept : Int)) rfl (by kernel_rfl) (by kernel_rfl) (by kernel_rfl) (fun _ _ _ h => h) (Or.inl ⟨by rfl, ?_⟩) HS0.out ?_
            case refine_1 => (intro w1 hS1; obtain ⟨hq, -⟩ := hS1; go_simp; try with_reducible rfl)
            try simp only [Act.put, List.setIfInBounds_toArray, List.set_cons_zero, List.set_cons_succ]
            refine wpAnyH_take (i := 10) (oi := { dst := some 50, op := Go.Op.load 178 (Go.Operand.tmp 9), type := 178, pos := "ref.go:260", after := #[], guard := none }) (v := .agg #[.int .u16 (t0 : Int), .int .u32 (t1 : Int)]) rfl (by kernel_rfl) (by kernel_rfl) (by kernel_rfl) (fun _ _ _ h => h) (Or.inl ⟨by rfl, ?_⟩) HS0.out ?_
            case refine_1 => (intro w1 hS1; obtain ⟨-, hq⟩ := hS1; obtain ⟨y0, y1⟩ := two_rd hq; clear hq; go_simp; try with_reducible rfl)
            try simp only [Act.put, List.setIfInBounds_toArray, List.set_cons_zero, List.set_cons_succ]
            refine wpAnyH_ready (rs := [1, 6]) (by kernel_rfl) (by simp) ?_
            refine AllReadyH.cons (o := { dst := some 41, op := Go.Op.load 9 (Go.Operand.tmp 40), type := 9, pos := "ref.go:260", after := #[{ on := 0, ground := Go.Ground.data }], guard := none }) rfl (fun K hK => ?_) (AllReadyH.cons (o := { dst := some 46, op := Go.Op.load 9 (Go.Operand.tmp 45), type := 9, pos := "ref.go:260", after := #[{ on := 5, ground := Go.Ground.data }], guard := none }) rfl (fun K hK => ?_) AllReadyH.nil)
            · obtain ⟨x0, x1, x2⟩ := three_rd HFD.out
              go_simp
              refine hK.out _ _ HS0.out (fun hHeld => ?_)
              clear hK K hHeld x0 x1 x2
              try simp only [Act.put, List.setIfInBounds_toArray, List.set_cons_zero, List.set_cons_succ]
              refine wpAnyH_take (i := 4) (oi := { dst := some 44, op := Go.Op.slice 9 (Go.Operand.tmp 41) none (some (Go.Operand.tmp 43)) none, type := 9, pos := "ref.go:260", after := #[{ on := 1, ground := Go.Ground.data }, { on := 3, ground := Go.Ground.data }], guard := none }) (v := .string (str (f.all.take f.kept))) rfl (by kernel_rfl) (by kernel_rfl) (by kernel_rfl) (fun _ _ _ h => h) (Or.inl ⟨by rfl, ?_⟩) HS0.out ?_
              case refine_1 => (intro w1 hS1; clear hS1; have hh := run_head f.all f.kept HOKI.out.2.1; go_simp; try with_reducible rfl)
              try simp only [Act.put, List.setIfInBounds_toArray, List.set_cons_zero, List.set_cons_succ]
              refine wpAnyH_ready (rs := [6]) (by kernel_rfl) (by simp) ?_
              refine AllReadyH.cons (o := { dst := some 46, op := Go.Op.load 9 (Go.Operand.tmp 45), type := 9, pos := "ref.go:260", after := #[{ on := 5, ground := Go.Ground.data }], guard := none }) rfl (fun K hK => ?_) AllReadyH.nil
              obtain ⟨x0, x1, x2⟩ := three_rd HFD.out
              go_simp
              refine hK.out _ _ HS0.out (fun hHeld => ?_)
              clear hK K hHeld x0 x1 x2
              try simp only [Act.put, List.setIfInBounds_toArray, List.set_cons_zero, List.set_cons_succ]
              refine wpAnyH_take (i := 9) (oi := { dst := some 49, op := Go.Op.slice 9 (Go.Operand.tmp 46) (some (Go.Operand.tmp 48)) none none, type := 9, pos := "ref.go:260", after := #[{ on := 6, ground := Go.Ground.data }, { on := 8, ground := Go.Ground.data }], guard := none }) (v := .string (str (f.all.drop f.kept))) rfl (by kernel_rfl) (by kernel_rfl) (by kernel_rfl) (fun _ _ _ h => h) (Or.inl ⟨by rfl, ?_⟩) HS0.out ?_
              case refine_1 => (intro w1 hS1; clear hS1; have hh := run_tail f.all f.kept HOKI.out.2.1; go_simp; try with_reducible rfl)
              try simp only [Act.put, List.setIfInBounds_toArray, List.set_cons_zero, List.set_cons_succ]
              refine wpAnyH_ready (rs := [11]) (by kernel_rfl) (by simp) ?_
              refine AllReadyH.cons (o := { dst := some 51, op := Go.Op.call { callee := Go.Callee.value (Go.Operand.func 113), args := #[Go.Operand.tmp 49, Go.Operand.tmp 50], argTypes := #[9, 178] }, type := 9, pos := "ref.go:260", after := #[{ on := 9, ground := Go.Ground.data }, { on := 10, ground := Go.Ground.data }], guard := none }) rfl (fun K hK => ?_) AllReadyH.nil
              go_simp
              refine (rtorn (f.all.drop f.kept) t0 t1 wd (fun c hc => HOKI.out.1 c (List.mem_of_mem_drop hc)) (by rw [List.length_drop]; have := HOKI.out.2.2; omega) HTW.out.1 HTW.out.2).mono ?_
              rintro e we ⟨rfl, hb⟩
              have HFE := Lib.hid (ex_below HFD.out hb)
              have HE0 := Lib.hid (ex_below HD0.out hb)
              have HE1 := Lib.hid (ex_below HD1.out hb)
              have HBE := Lib.hid (HBD.out.trans (hb.mono HBD.out.size))
              have HS0' : Hid ((fun W : World => W.cell? ⟨NF, 2, none⟩ = some (.int .i64 (f.kept : Int)) ∧ W.heap[NT]? = some (.cells #[.int .u16 (t0 : Int), .int .u32 (t1 : Int)] 178 (0, 0))) we) := Lib.hid ⟨(three_rd HFE.out).2.2, ex_below HS0.out.2 hb⟩
              clear hb HFD HD0 HD1 HBD HS0
              have HFD := HFE
              have HD0 := HE0
              have HD1 := HE1
              have HBD := HBE
              have HS0 := HS0'
              clear HFE HE0 HE1 HBE HS0'
              rw [HTB.out]
              refine hK.out _ _ HS0.out (fun hHeld => ?_)
              clear hK K hHeld
              generalize we = wd at HS0 HFD HD0 HD1 HBD ⊢
              try simp only [Act.put, List.setIfInBounds_toArray, List.set_cons_zero, List.set_cons_succ]
              refine wpAnyH_take (i := 12) (oi := { dst := some 52, op := Go.Op.binOp Go.BinOp.add 9 (Go.Operand.tmp 44) (Go.Operand.tmp 51) 9, type := 9, pos := "ref.go:260", after := #[{ on := 4, ground := Go.Ground.data }, { on := 11, ground := Go.Ground.data }], guard := none }) (v := .string (str tf)) rfl (by kernel_rfl) (by kernel_rfl) (by kernel_rfl) (fun _ _ _ h => h) (Or.inl ⟨by rfl, ?_⟩) HS0.out ?_
              case refine_1 => (intro w1 hS1; clear hS1; have hh := run_cat (f.all.take f.kept) tb (by have h1 := HOKI.out.2.2; have h3 := tearB_len (f.all.drop f.kept) t0 t1; rw [HTB.out] at h3; have h2 := tearN_le (f.all.drop f.kept) t0; rw [List.length_drop] at h2; rw [List.length_take]; omega); rw [HTF.out] at hh; go_simp; try with_reducible rfl)
              try simp only [Act.put, List.setIfInBounds_toArray, List.set_cons_zero, List.set_cons_succ]
              refine wpAnyH_take (i := 13) (oi := { dst := some 53, op := Go.Op.fieldAddr 45 (Go.Operand.tmp 8) 1, type := 0, pos := "ref.go:260", after := #[{ on := 0, ground := Go.Ground.phase }, { on := 1, ground := Go.Ground.phase }, { on := 2, ground := Go.Ground.phase }, { on := 3, ground := Go.Ground.phase }, { on := 4, ground := Go.Ground.phase }, { on := 5, ground := Go.Ground.phase }, { on := 6, ground := Go.Ground.phase }, { on := 7, ground := Go.Ground.phase }, { on := 8, ground := Go.Ground.phase }, { on := 9, ground := Go.Ground.phase }, { on := 10, ground := Go.Ground.phase }, { on := 11, ground := Go.Ground.phase }, { on := 12, ground := Go.Ground.phase }], guard := none }) (v := ?_) rfl (by kernel_rfl) (by kernel_rfl) (by kernel_rfl) (fun _ _ _ h => h) (Or.inl ⟨by rfl, ?_⟩) HS0.out ?_
              case refine_2 => (intro w1 hS1; clear hS1; go_simp; try with_reducible rfl)
              try simp only [Act.put, List.setIfInBounds_toArray, List.set_cons_zero, List.set_cons_succ]
              refine wpAnyH_ready (rs := [14]) (by kernel_rfl) (by simp) ?_
              refine AllReadyH.cons (o := { dst := none, op := Go.Op.store 9 (Go.Operand.tmp 53) (Go.Operand.tmp 52), type := 0, pos := "ref.go:260", after := #[{ on := 13, ground := Go.Ground.data }, { on := 12, ground := Go.Ground.data }, { on := 11, ground := Go.Ground.chain }, { on := 0, ground := Go.Ground.phase }, { on := 1, ground := Go.Ground.phase }, { on := 2, ground := Go.Ground.phase }, { on := 3, ground := Go.Ground.phase }, { on := 4, ground := Go.Ground.phase }, { on := 5, ground := Go.Ground.phase }, { on := 6, ground := Go.Ground.phase }, { on := 7, ground := Go.Ground.phase }, { on := 8, ground := Go.Ground.phase }, { on := 9, ground := Go.Ground.phase }, { on := 10, ground := Go.Ground.phase }, { on := 11, ground := Go.Ground.phase }, { on := 12, ground := Go.Ground.phase }], guard := none }) rfl (fun K hK => ?_) AllReadyH.nil
              obtain ⟨x0, x1, x2⟩ := three_rd HFD.out
              have fz : ∀ o, wd.frozen? ⟨NF, o, none⟩ = false := fun o => by simp [World.frozen?, HFD.out]
              have HFE : Hid ((wd.setCell ⟨NF, 1, none⟩ (.string (str tf))).heap[NF]? = some (.cells #[encStr q, .string (str tf), .int .i64 (f.kept : Int)] 45 (0, 0))) := Lib.hid (by rw [heap_setCell_same wd _ 1 _ _ _ HFD.out]; simp)
              have hne0 : N ≠ NF := by have := HNF.out; omega
              have hne1 : N + 1 ≠ NF := by have := HNF.out; omega
              have hneT : NT ≠ NF := by have := HNT.out; omega
              have hle : w9.heap.size ≤ NF := HNF.out.2
              have HE0 := Lib.hid ((Below.heap_setCell wd ⟨NF, 1, none⟩ (.string (str tf)) N hne0).trans HD0.out)
              have HE1 := Lib.hid ((Below.heap_setCell wd ⟨NF, 1, none⟩ (.string (str tf)) (N + 1) hne1).trans HD1.out)
              have HBE := Lib.hid (below_two HBD.out hle 1 (.string (str tf)))
              have HS0' : Hid ((fun W : World => W.cell? ⟨NF, 2, none⟩ = some (.int .i64 (f.kept : Int)) ∧ W.heap[NT]? = some (.cells #[.int .u16 (t0 : Int), .int .u32 (t1 : Int)] 178 (0, 0))) (wd.setCell ⟨NF, 1, none⟩ (.string (str tf)))) := Lib.hid ⟨(three_rd HFE.out).2.2, (Below.heap_setCell wd ⟨NF, 1, none⟩ (.string (str tf)) NT hneT).trans HS0.out.2⟩
              go_simp
              refine hK.out _ _ HS0'.out (fun hHeld => ?_)
              clear hK K hHeld
              try simp only [Act.put, List.setIfInBounds_toArray, List.set_cons_zero, List.set_cons_succ]
              refine wpAnyH_done (by kernel_rfl) ?_ _
              go_wp2_with fail
              go_meet
              case rel => exact ⟨HBE, HFE, HE0, HE1⟩
            · obtain ⟨x0, x1, x2⟩ := three_rd HFD.out
              go_simp
              refine hK.out _ _ HS0.out (fun hHeld => ?_)
              clear hK K hHeld x0 x1 x2
              try simp only [Act.put, List.setIfInBounds_toArray, List.set_cons_zero, List.set_cons_succ]
              refine wpAnyH_take (i := 9) (oi := { dst := some 49, op := Go.Op.slice 9 (Go.Operand.tmp 46) (some (Go.Operand.tmp 48)) none none, type := 9, pos := "ref.go:260", after := #[{ on := 6, ground := Go.Ground.data }, { on := 8, ground := Go.Ground.data }], guard := none }) (v := .string (str (f.all.drop f.kept))) rfl (by kernel_rfl) (by kernel_rfl) (by kernel_rfl) (fun _ _ _ h => h) (Or.inl ⟨by rfl, ?_⟩) HS0.out ?_
              case refine_1 => (intro w1 hS1; clear hS1; have hh := run_tail f.all f.kept HOKI.out.2.1; go_simp; try with_reducible rfl)
              try simp only [Act.put, List.setIfInBounds_toArray, List.set_cons_zero, List.set_cons_succ]
              refine wpAnyH_ready (rs := [1, 11]) (by kernel_rfl) (by simp) ?_
              refine AllReadyH.cons (o := { dst := some 41, op := Go.Op.load 9 (Go.Operand.tmp 40), type := 9, pos := "ref.go:260", after := #[{ on := 0, ground := Go.Ground.data }], guard := none }) rfl (fun K hK => ?_) (AllReadyH.cons (o := { dst := some 51, op := Go.Op.call { callee := Go.Callee.value (Go.Operand.func 113), args := #[Go.Operand.tmp 49, Go.Operand.tmp 50], argTypes := #[9, 178] }, type := 9, pos := "ref.go:260", after := #[{ on := 9, ground := Go.Ground.data }, { on := 10, ground := Go.Ground.data }], guard := none }) rfl (fun K hK => ?_) AllReadyH.nil)
              · obtain ⟨x0, x1, x2⟩ := three_rd HFD.out
                go_simp
                refine hK.out _ _ HS0.out (fun hHeld => ?_)
                clear hK K hHeld x0 x1 x2
                try simp only [Act.put, List.setIfInBounds_toArray, List.set_cons_zero, List.set_cons_succ]
                refine wpAnyH_take (i := 4) (oi := { dst := some 44, op := Go.Op.slice 9 (Go.Operand.tmp 41) none (some (Go.Operand.tmp 43)) none, type := 9, pos := "ref.go:260", after := #[{ on := 1, ground := Go.Ground.data }, { on := 3, ground := Go.Ground.data }], guard := none }) (v := .string (str (f.all.take f.kept))) rfl (by kernel_rfl) (by kernel_rfl) (by kernel_rfl) (fun _ _ _ h => h) (Or.inl ⟨by rfl, ?_⟩) HS0.out ?_
                case refine_1 => (intro w1 hS1; clear hS1; have hh := run_head f.all f.kept HOKI.out.2.1; go_simp; try with_reducible rfl)
                try simp only [Act.put, List.setIfInBounds_toArray, List.set_cons_zero, List.set_cons_succ]
                refine wpAnyH_ready (rs := [11]) (by kernel_rfl) (by simp) ?_
                refine AllReadyH.cons (o := { dst := some 51, op := Go.Op.call { callee := Go.Callee.value (Go.Operand.func 113), args := #[Go.Operand.tmp 49, Go.Operand.tmp 50], argTypes := #[9, 178] }, type := 9, pos := "ref.go:260", after := #[{ on := 9, ground := Go.Ground.data }, { on := 10, ground := Go.Ground.data }], guard := none }) rfl (fun K hK => ?_) AllReadyH.nil
                go_simp
                refine (rtorn (f.all.drop f.kept) t0 t1 wd (fun c hc => HOKI.out.1 c (List.mem_of_mem_drop hc)) (by rw [List.length_drop]; have := HOKI.out.2.2; omega) HTW.out.1 HTW.out.2).mono ?_
                rintro e we ⟨rfl, hb⟩
                have HFE := Lib.hid (ex_below HFD.out hb)
                have HE0 := Lib.hid (ex_below HD0.out hb)
                have HE1 := Lib.hid (ex_below HD1.out hb)
                have HBE := Lib.hid (HBD.out.trans (hb.mono HBD.out.size))
                have HS0' : Hid ((fun W : World => W.cell? ⟨NF, 2, none⟩ = some (.int .i64 (f.kept : Int)) ∧ W.heap[NT]? = some (.cells #[.int .u16 (t0 : Int), .int .u32 (t1 : Int)] 178 (0, 0))) we) := Lib.hid ⟨(three_rd HFE.out).2.2, ex_below HS0.out.2 hb⟩
                clear hb HFD HD0 HD1 HBD HS0
                have HFD := HFE
                have HD0 := HE0
                have HD1 := HE1
                have HBD := HBE
                have HS0 := HS0'
                clear HFE HE0 HE1 HBE HS0'
                rw [HTB.out]
                refine hK.out _ _ HS0.out (fun hHeld => ?_)
                clear hK K hHeld
                generalize we = wd at HS0 HFD HD0 HD1 HBD ⊢
                try simp only [Act.put, List.setIfInBounds_toArray, List.set_cons_zero, List.set_cons_succ]
                refine wpAnyH_take (i := 12) (oi := { dst := some 52, op := Go.Op.binOp Go.BinOp.add 9 (Go.Operand.tmp 44) (Go.Operand.tmp 51) 9, type := 9, pos := "ref.go:260", after := #[{ on := 4, ground := Go.Ground.data }, { on := 11, ground := Go.Ground.data }], guard := none }) (v := .string (str tf)) rfl (by kernel_rfl) (by kernel_rfl) (by kernel_rfl) (fun _ _ _ h => h) (Or.inl ⟨by rfl, ?_⟩) HS0.out ?_
                case refine_1 => (intro w1 hS1; clear hS1; have hh := run_cat (f.all.take f.kept) tb (by have h1 := HOKI.out.2.2; have h3 := tearB_len (f.all.drop f.kept) t0 t1; rw [HTB.out] at h3; have h2 := tearN_le (f.all.drop f.kept) t0; rw [List.length_drop] at h2; rw [List.length_take]; omega); rw [HTF.out] at hh; go_simp; try with_reducible rfl)
                try simp only [Act.put, List.setIfInBounds_toArray, List.set_cons_zero, List.set_cons_succ]
                refine wpAnyH_take (i := 13) (oi := { dst := some 53, op := Go.Op.fieldAddr 45 (Go.Operand.tmp 8) 1, type := 0, pos := "ref.go:260", after := #[{ on := 0, ground := Go.Ground.phase }, { on := 1, ground := Go.Ground.phase }, { on := 2, ground := Go.Ground.phase }, { on := 3, ground := Go.Ground.phase }, { on := 4, ground := Go.Ground.phase }, { on := 5, ground := Go.Ground.phase }, { on := 6, ground := Go.Ground.phase }, { on := 7, ground := Go.Ground.phase }, { on := 8, ground := Go.Ground.phase }, { on := 9, ground := Go.Ground.phase }, { on := 10, ground := Go.Ground.phase }, { on := 11, ground := Go.Ground.phase }, { on := 12, ground := Go.Ground.phase }], guard := none }) (v := ?_) rfl (by kernel_rfl) (by kernel_rfl) (by kernel_rfl) (fun _ _ _ h => h) (Or.inl ⟨by rfl, ?_⟩) HS0.out ?_
                case refine_2 => (intro w1 hS1; clear hS1; go_simp; try with_reducible rfl)
                try simp only [Act.put, List.setIfInBounds_toArray, List.set_cons_zero, List.set_cons_succ]
                refine wpAnyH_ready (rs := [14]) (by kernel_rfl) (by simp) ?_
                refine AllReadyH.cons (o := { dst := none, op := Go.Op.store 9 (Go.Operand.tmp 53) (Go.Operand.tmp 52), type := 0, pos := "ref.go:260", after := #[{ on := 13, ground := Go.Ground.data }, { on := 12, ground := Go.Ground.data }, { on := 11, ground := Go.Ground.chain }, { on := 0, ground := Go.Ground.phase }, { on := 1, ground := Go.Ground.phase }, { on := 2, ground := Go.Ground.phase }, { on := 3, ground := Go.Ground.phase }, { on := 4, ground := Go.Ground.phase }, { on := 5, ground := Go.Ground.phase }, { on := 6, ground := Go.Ground.phase }, { on := 7, ground := Go.Ground.phase }, { on := 8, ground := Go.Ground.phase }, { on := 9, ground := Go.Ground.phase }, { on := 10, ground := Go.Ground.phase }, { on := 11, ground := Go.Ground.phase }, { on := 12, ground := Go.Ground.phase }], guard := none }) rfl (fun K hK => ?_) AllReadyH.nil
                obtain ⟨x0, x1, x2⟩ := three_rd HFD.out
                have fz : ∀ o, wd.frozen? ⟨NF, o, none⟩ = false := fun o => by simp [World.frozen?, HFD.out]
                have HFE : Hid ((wd.setCell ⟨NF, 1, none⟩ (.string (str tf))).heap[NF]? = some (.cells #[encStr q, .string (str tf), .int .i64 (f.kept : Int)] 45 (0, 0))) := Lib.hid (by rw [heap_setCell_same wd _ 1 _ _ _ HFD.out]; simp)
                have hne0 : N ≠ NF := by have := HNF.out; omega
                have hne1 : N + 1 ≠ NF := by have := HNF.out; omega
                have hneT : NT ≠ NF := by have := HNT.out; omega
                have hle : w9.heap.size ≤ NF := HNF.out.2
                have HE0 := Lib.hid ((Below.heap_setCell wd ⟨NF, 1, none⟩ (.string (str tf)) N hne0).trans HD0.out)
                have HE1 := Lib.hid ((Below.heap_setCell wd ⟨NF, 1, none⟩ (.string (str tf)) (N + 1) hne1).trans HD1.out)
                have HBE := Lib.hid (below_two HBD.out hle 1 (.string (str tf)))
                have HS0' : Hid ((fun W : World => W.cell? ⟨NF, 2, none⟩ = some (.int .i64 (f.kept : Int)) ∧ W.heap[NT]? = some (.cells #[.int .u16 (t0 : Int), .int .u32 (t1 : Int)] 178 (0, 0))) (wd.setCell ⟨NF, 1, none⟩ (.string (str tf)))) := Lib.hid ⟨(three_rd HFE.out).2.2, (Below.heap_setCell wd ⟨NF, 1, none⟩ (.string (str tf)) NT hneT).trans HS0.out.2⟩
                go_simp
                refine hK.out _ _ HS0'.out (fun hHeld => ?_)
                clear hK K hHeld
                try simp only [Act.put, List.setIfInBounds_toArray, List.set_cons_zero, List.set_cons_succ]
                refine wpAnyH_done (by kernel_rfl) ?_ _
                go_wp2_with fail
                go_meet
                case rel => exact ⟨HBE, HFE, HE0, HE1⟩
              · go_simp
                refine (rtorn (f.all.drop f.kept) t0 t1 wd (fun c hc => HOKI.out.1 c (List.mem_of_mem_drop hc)) (by rw [List.length_drop]; have := HOKI.out.2.2; omega) HTW.out.1 HTW.out.2).mono ?_
                rintro e we ⟨rfl, hb⟩
                have HFE := Lib.hid (ex_below HFD.out hb)
                have HE0 := Lib.hid (ex_below HD0.out hb)
                have HE1 := Lib.hid (ex_below HD1.out hb)
                have HBE := Lib.hid (HBD.out.trans (hb.mono HBD.out.size))
                have HS0' : Hid ((fun W : World => W.cell? ⟨NF, 2, none⟩ = some (.int .i64 (f.kept : Int)) ∧ W.heap[NT]? = some (.cells #[.int .u16 (t0 : Int), .int .u32 (t1 : Int)] 178 (0, 0))) we) := Lib.hid ⟨(three_rd HFE.out).2.2, ex_below HS0.out.2 hb⟩
                clear hb HFD HD0 HD1 HBD HS0
                have HFD := HFE
                have HD0 := HE0
                have HD1 := HE1
                have HBD := HBE
                have HS0 := HS0'
                clear HFE HE0 HE1 HBE HS0'
                rw [HTB.out]
                refine hK.out _ _ HS0.out (fun hHeld => ?_)
                clear hK K hHeld
                generalize we = wd at HS0 HFD HD0 HD1 HBD ⊢
                try simp only [Act.put, List.setIfInBounds_toArray, List.set_cons_zero, List.set_cons_succ]
                refine wpAnyH_ready (rs := [1]) (by kernel_rfl) (by simp) ?_
                refine AllReadyH.cons (o := { dst := some 41, op := Go.Op.load 9 (Go.Operand.tmp 40), type := 9, pos := "ref.go:260", after := #[{ on := 0, ground := Go.Ground.data }], guard := none }) rfl (fun K hK => ?_) AllReadyH.nil
                obtain ⟨x0, x1, x2⟩ := three_rd HFD.out
                go_simp
                refine hK.out _ _ HS0.out (fun hHeld => ?_)
                clear hK K hHeld x0 x1 x2
                try simp only [Act.put, List.setIfInBounds_toArray, List.set_cons_zero, List.set_cons_succ]
                refine wpAnyH_take (i := 4) (oi := { dst := some 44, op := Go.Op.slice 9 (Go.Operand.tmp 41) none (some (Go.Operand.tmp 43)) none, type := 9, pos := "ref.go:260", after := #[{ on := 1, ground := Go.Ground.data }, { on := 3, ground := Go.Ground.data }], guard := none }) (v := .string (str (f.all.take f.kept))) rfl (by kernel_rfl) (by kernel_rfl) (by kernel_rfl) (fun _ _ _ h => h) (Or.inl ⟨by rfl, ?_⟩) HS0.out ?_
                case refine_1 => (intro w1 hS1; clear hS1; have hh := run_head f.all f.kept HOKI.out.2.1; go_simp; try with_reducible rfl)
                try simp only [Act.put, List.setIfInBounds_toArray, List.set_cons_zero, List.set_cons_succ]
                refine wpAnyH_take (i := 12) (oi := { dst := some 52, op := Go.Op.binOp Go.BinOp.add 9 (Go.Operand.tmp 44) (Go.Operand.tmp 51) 9, type := 9, pos := "ref.go:260", after := #[{ on := 4, ground := Go.Ground.data }, { on := 11, ground := Go.Ground.data }], guard := none }) (v := .string (str tf)) rfl (by kernel_rfl) (by kernel_rfl) (by kernel_rfl) (fun _ _ _ h => h) (Or.inl ⟨by rfl, ?_⟩) HS0.out ?_
                case refine_1 => (intro w1 hS1; clear hS1; have hh := run_cat (f.all.take f.kept) tb (by have h1 := HOKI.out.2.2; have h3 := tearB_len (f.all.drop f.kept) t0 t1; rw [HTB.out] at h3; have h2 := tearN_le (f.all.drop f.kept) t0; rw [List.length_drop] at h2; rw [List.length_take]; omega); rw [HTF.out] at hh; go_simp; try with_reducible rfl)
                try simp only [Act.put, List.setIfInBounds_toArray, List.set_cons_zero, List.set_cons_succ]
                refine wpAnyH_take (i := 13) (oi := { dst := some 53, op := Go.Op.fieldAddr 45 (Go.Operand.tmp 8) 1, type := 0, pos := "ref.go:260", after := #[{ on := 0, ground := Go.Ground.phase }, { on := 1, ground := Go.Ground.phase }, { on := 2, ground := Go.Ground.phase }, { on := 3, ground := Go.Ground.phase }, { on := 4, ground := Go.Ground.phase }, { on := 5, ground := Go.Ground.phase }, { on := 6, ground := Go.Ground.phase }, { on := 7, ground := Go.Ground.phase }, { on := 8, ground := Go.Ground.phase }, { on := 9, ground := Go.Ground.phase }, { on := 10, ground := Go.Ground.phase }, { on := 11, ground := Go.Ground.phase }, { on := 12, ground := Go.Ground.phase }], guard := none }) (v := ?_) rfl (by kernel_rfl) (by kernel_rfl) (by kernel_rfl) (fun _ _ _ h => h) (Or.inl ⟨by rfl, ?_⟩) HS0.out ?_
                case refine_2 => (intro w1 hS1; clear hS1; go_simp; try with_reducible rfl)
                try simp only [Act.put, List.setIfInBounds_toArray, List.set_cons_zero, List.set_cons_succ]
                refine wpAnyH_ready (rs := [14]) (by kernel_rfl) (by simp) ?_
                refine AllReadyH.cons (o := { dst := none, op := Go.Op.store 9 (Go.Operand.tmp 53) (Go.Operand.tmp 52), type := 0, pos := "ref.go:260", after := #[{ on := 13, ground := Go.Ground.data }, { on := 12, ground := Go.Ground.data }, { on := 11, ground := Go.Ground.chain }, { on := 0, ground := Go.Ground.phase }, { on := 1, ground := Go.Ground.phase }, { on := 2, ground := Go.Ground.phase }, { on := 3, ground := Go.Ground.phase }, { on := 4, ground := Go.Ground.phase }, { on := 5, ground := Go.Ground.phase }, { on := 6, ground := Go.Ground.phase }, { on := 7, ground := Go.Ground.phase }, { on := 8, ground := Go.Ground.phase }, { on := 9, ground := Go.Ground.phase }, { on := 10, ground := Go.Ground.phase }, { on := 11, ground := Go.Ground.phase }, { on := 12, ground := Go.Ground.phase }], guard := none }) rfl (fun K hK => ?_) AllReadyH.nil
                obtain ⟨x0, x1, x2⟩ := three_rd HFD.out
                have fz : ∀ o, wd.frozen? ⟨NF, o, none⟩ = false := fun o => by simp [World.frozen?, HFD.out]
                have HFE : Hid ((wd.setCell ⟨NF, 1, none⟩ (.string (str tf))).heap[NF]? = some (.cells #[encStr q, .string (str tf), .int .i64 (f.kept : Int)] 45 (0, 0))) := Lib.hid (by rw [heap_setCell_same wd _ 1 _ _ _ HFD.out]; simp)
                have hne0 : N ≠ NF := by have := HNF.out; omega
                have hne1 : N + 1 ≠ NF := by have := HNF.out; omega
                have hneT : NT ≠ NF := by have := HNT.out; omega
                have hle : w9.heap.size ≤ NF := HNF.out.2
                have HE0 := Lib.hid ((Below.heap_setCell wd ⟨NF, 1, none⟩ (.string (str tf)) N hne0).trans HD0.out)
                have HE1 := Lib.hid ((Below.heap_setCell wd ⟨NF, 1, none⟩ (.string (str tf)) (N + 1) hne1).trans HD1.out)
                have HBE := Lib.hid (below_two HBD.out hle 1 (.string (str tf)))
                have HS0' : Hid ((fun W : World => W.cell? ⟨NF, 2, none⟩ = some (.int .i64 (f.kept : Int)) ∧ W.heap[NT]? = some (.cells #[.int .u16 (t0 : Int), .int .u32 (t1 : Int)] 178 (0, 0))) (wd.setCell ⟨NF, 1, none⟩ (.string (str tf)))) := Lib.hid ⟨(three_rd HFE.out).2.2, (Below.heap_setCell wd ⟨NF, 1, none⟩ (.string (str tf)) NT hneT).trans HS0.out.2⟩
                go_simp
                refine hK.out _ _ HS0'.out (fun hHeld => ?_)
                clear hK K hHeld
                try simp only [Act.put, List.setIfInBounds_toArray, List.set_cons_zero, List.set_cons_succ]
                refine wpAnyH_done (by kernel_rfl) ?_ _
                go_wp2_with fail
                go_meet
                case rel => exact ⟨HBE, HFE, HE0, HE1⟩
          case rest =>
            obtain ⟨HB20, HF20, HS020, HS120⟩ := hcut
            clear HB12 HS012 HS112 HF12 HT12
            obtain ⟨w20, hw20⟩ : ∃ W, wc = W := ⟨_, rfl⟩
            rw [hw20] at HB20 HF20 HS020 HS120 ⊢
            clear hw20
            obtain ⟨lq, hlq⟩ : ∃ lq, tf.length = lq := ⟨_, rfl⟩
            have hqs : (str tf).size = lq := by rw [str_size, hlq]
            have HLQ := Lib.hid hlq
            clear hlq
            obtain ⟨x0, x1, x2⟩ := three_rd HF20.out
            have fHF : ∀ o, w20.frozen? ⟨NF, o, none⟩ = false := fun o => by simp [World.frozen?, HF20.out]
            have hNN := HN.out
            have hZZ := HZ.out
            have HQ_HF : Hid ((w20.setCell ⟨NF, 2, none⟩ (.int .i64 (lq : Int))).heap[NF]? = some (.cells #[encStr q, .string (str tf), .int .i64 (lq : Int)] 45 (0, 0))) := Lib.hid (by rw [heap_setCell_same w20 _ 2 _ _ _ HF20.out]; simp)
            have HQ_HS0 : Hid ((w20.setCell ⟨NF, 2, none⟩ (.int .i64 (lq : Int))).heap[N]? = some (.cells #[.int .i64 room, .slice (some ⟨bb, o, none⟩) ln c, .bool true, .int .i64 (-1), .int .u64 st] 30 (0, 0))) := Lib.hid ((Below.heap_setCell _ _ _ _ (show N ≠ NF by have := HNF.out; omega)).trans (HS020.out))
            have HQ_HS1 : Hid ((w20.setCell ⟨NF, 2, none⟩ (.int .i64 (lq : Int))).heap[N + 1]? = some (.cells #[.int .i64 0, .slice none 0 0, .bool false, .int .i64 0, .int .u64 0] 30 (0, 0))) := Lib.hid ((Below.heap_setCell _ _ _ _ (show N + 1 ≠ NF by have := HNF.out; omega)).trans (HS120.out))
            have HQB := Lib.hid (below_two (HB20.out) (show w9.heap.size ≤ NF by have := HNF.out; omega) 2 (.int .i64 (lq : Int)))
            clear hNN hZZ
            go_upto_region 16 with fail
            generalize (w20.setCell ⟨NF, 2, none⟩ (.int .i64 (lq : Int))) = w21 at HQ_HS0 HQ_HS1 HQ_HF HQB ⊢
            have HS021 := HQ_HS0
            have HS121 := HQ_HS1
            have HF21 := HQ_HF
            have HB21 := HQB
            clear HQ_HS0 HQ_HS1 HQ_HF HQB HS020 HS120 HF20 HB20
            clear x0 x1 x2
            clear fHF hqs
            have HTOR : Hid (tornF f (nextT (ts.drop u)).1 = ⟨tf, lq⟩) := Lib.hid (by
              have e := HTA.out
              unfold tearAt at e
              rw [e]
              unfold tornF
              rw [HTB.out, HTF.out, HLQ.out])
            have hqs : (str (tf)).size = (tf).length := str_size _
            obtain ⟨lf, hlf⟩ : ∃ lf, (tf).length = lf := ⟨_, rfl⟩
            rw [hlf] at hqs
            have HLF := Lib.hid hlf
            clear hlf
            by_cases hz : lf = 0
            · have dz0 : decide ((lf : Int) > 0) = false := decide_eq_false (by omega)
              have dz1 : decide (0 < (lf : Int)) = false := decide_eq_false (by omega)
              have dz2 : decide (0 < lf) = false := decide_eq_false (by omega)
              have dz3 : ¬ 0 < lf := by omega
              have HZF : Hid (tf = []) := Lib.hid (List.length_eq_zero_iff.mp (by rw [HLF.out]; exact hz))
              have HE2 : Hid (crashF L ts = l ++ crashF (L.drop (i + 1)) (ts.drop (u + 1))) := Lib.hid (by
                rw [HE.out, HDR.out, crashF_cons]
                rw [if_pos HLO.out, HTOR.out, next_drop]
                unfold oneF
                rw [if_pos HZF.out]
                rfl)
              have HOX := Lib.hid (HO.out.kept HB21.out)
              have HBX := Lib.hid (HBO.out.trans (HB21.out.mono HBO.out.size))
              have HBY : Hid (b3 ≤ w21.heap.size) := Lib.hid (Nat.le_trans HBZ.out HB21.out.size)
              obtain ⟨x0, x1, x2⟩ := three_rd HF21.out
              clear hz
              go_wp2_with fail
              go_roundg (ln - (i + 1))
              case measure => omega
              case rel => exact ⟨i + 1, u + 1, _, l, by rw [HWI.out]; rfl, by rw [HWU.out]; rfl, rfl, by omega, by omega, by omega, HOX, HE2, HBX, HS021, HS121, HBY⟩
            · have dz0 : decide ((lf : Int) > 0) = true := decide_eq_true (by omega)
              have dz1 : decide (0 < (lf : Int)) = true := decide_eq_true (by omega)
              have dz2 : decide (0 < lf) = true := decide_eq_true (by omega)
              have dz3 : 0 < lf := by omega
              have HZF : Hid (tf ≠ []) := Lib.hid (fun e => hz (by rw [← HLF.out, e]; rfl))
              have HE2 : Hid (crashF L ts = (l ++ [(q, ⟨tf, lq⟩)]) ++ crashF (L.drop (i + 1)) (ts.drop (u + 1))) := Lib.hid (by
                rw [HE.out, HDR.out, crashF_cons]
                rw [if_pos HLO.out, HTOR.out, next_drop]
                unfold oneF
                rw [if_neg HZF.out, List.append_assoc])
              obtain ⟨hba, -, -⟩ := box1 w21 #[encStr q, .string (str (tf)), .int .i64 ((lq : Nat) : Int)] 45
              have HOA : Hid (OF (w21.alloc (.cells #[encStr q, .string (str (tf)), .int .i64 ((lq : Nat) : Int)] 45)) b3 (.slice av lv cv) l) := Lib.hid ((HO.out.kept HB21.out).kept hba)
              have HBA : Hid (Below w.heap.size w (w21.alloc (.cells #[encStr q, .string (str (tf)), .int .i64 ((lq : Nat) : Int)] 45))) := Lib.hid ((HBO.out.trans (HB21.out.mono HBO.out.size)).trans (hba.mono (Nat.le_trans HBO.out.size HB21.out.size)))
              have HBY : Hid (b3 ≤ w21.heap.size) := Lib.hid (Nat.le_trans HBZ.out HB21.out.size)
              have HBA3 : Hid (b3 ≤ (w21.alloc (.cells #[encStr q, .string (str (tf)), .int .i64 ((lq : Nat) : Int)] 45)).heap.size) := Lib.hid (Nat.le_trans HBY.out hba.size)
              have HCA : Hid (∀ j u, (c1f (q, ⟨tf, lq⟩))[j]? = some u → (w21.alloc (.cells #[encStr q, .string (str (tf)), .int .i64 ((lq : Nat) : Int)] 45)).cell? ((⟨w21.heap.size, 0, none⟩ : Addr).add j) = some u) := Lib.hid (c1f_new w21 q ⟨tf, lq⟩)
              have HSA0 := Lib.hid (ex_below HS021.out hba)
              have HSA1 := Lib.hid (ex_below HS121.out hba)
              have HLL : Hid (l.length ≤ 100000) := Lib.hid (by have h1 := HLV.out; have h2 := crash_len L ts; rw [HE.out, List.length_append] at h2; have := HL.out; omega)
              clear hz hba
              obtain ⟨x0, x1, x2⟩ := three_rd HF21.out
              go_wp2_with (refine append_file rfl (.tmp 62) (.tmp 64) rfl b3 (.slice av lv cv) l (q, ⟨tf, lq⟩) ⟨w21.heap.size, 0, none⟩ 1 rfl rfl HOA.out HCA.out HLL.out HBA3.out ?_; intro v' w' h1 h2 h3; have HO3 := Lib.hid h1; have HB3' := Lib.hid (h3 _ (Below.refl _ _)); have HZ3 := Lib.hid h2; clear h1 h2 h3)
              go_roundg (ln - (i + 1))
              case measure => omega
              case rel =>
                have hbt := HB3'.out
                refine ⟨i + 1, u + 1, _, _, by rw [HWI.out]; rfl, by rw [HWU.out]; rfl, rfl, by omega, by omega, by omega, HO3, HE2, Lib.hid ?_, Lib.hid ?_, Lib.hid ?_, Lib.hid ?_⟩
                · exact HBA.out.trans (hbt.mono HBB3.out.1)
                · exact (hbt.block _ (by have := HBB3.out.2; omega)).trans HSA0.out
                · exact (hbt.block _ HBB3.out.2).trans HSA1.out
                · exact Nat.le_trans HBA3.out HZ3.out
        · have hutz : ¬ (u : Int) < (lt : Int) := by omega
          have htt := tearAt_out (ts := ts) (u := u) (by rw [HLT.out]; omega)
          rw [HTA.out] at htt
          injection htt with e0 e1
          have HTX : Hid (w11.heap[NT]? = some (.cells #[.int .u16 (t0 : Int), .int .u32 (t1 : Int)] 178 (0, 0))) := Lib.hid (by rw [e0, e1]; exact HT11.out)
          clear HT11
          have HT11 := HTX
          clear HTX e0 e1
          go_upto_region 14 with fail
          clear hut hutz
          go_cut [] (fun wc => Hid (Below w9.heap.size w9 wc) ∧ Hid (wc.heap[NF]? = some (.cells #[encStr q, .string (str tf), .int .i64 (f.kept : Int)] 45 (0, 0))) ∧ Hid (wc.heap[N]? = some (.cells #[.int .i64 room, .slice (some ⟨bb, o, none⟩) ln c, .bool true, .int .i64 (-1), .int .u64 st] 30 (0, 0))) ∧ Hid (wc.heap[N + 1]? = some (.cells #[.int .i64 0, .slice none 0 0, .bool false, .int .i64 0, .int .u64 0] 30 (0, 0))))
          case first =>
            have HS0 : Hid ((fun W : World => W.cell? ⟨NF, 2, none⟩ = some (.int .i64 (f.kept : Int)) ∧ W.heap[NT]? = some (.cells #[.int .u16 (t0 : Int), .int .u32 (t1 : Int)] 178 (0, 0))) w11.drew) := Lib.hid ⟨(three_rd HF11.out).2.2, HT11.out⟩
            have HFD : Hid (w11.drew.heap[NF]? = some (.cells #[encStr q, .string (str f.all), .int .i64 (f.kept : Int)] 45 (0, 0))) := Lib.hid HF11.out
            have HD0 : Hid (w11.drew.heap[N]? = some (.cells #[.int .i64 room, .slice (some ⟨bb, o, none⟩) ln c, .bool true, .int .i64 (-1), .int .u64 st] 30 (0, 0))) := Lib.hid HS011.out
            have HD1 : Hid (w11.drew.heap[N + 1]? = some (.cells #[.int .i64 0, .slice none 0 0, .bool false, .int .i64 0, .int .u64 0] 30 (0, 0))) := Lib.hid HS111.out
            have HBD : Hid (Below w9.heap.size w9 w11.drew) := Lib.hid HB11.out.drew
            refine wp_region_held_drew (S := (fun W : World => W.cell? ⟨NF, 2, none⟩ = some (.int .i64 (f.kept : Int)) ∧ W.heap[NT]? = some (.cells #[.int .u16 (t0 : Int), .int .u32 (t1 : Int)] 178 (0, 0)))) (by kernel_rfl) HS0.out (fun hHeld => ?_)
            clear hHeld HF11 HT11 HB11 HS011 HS111
            generalize w11.drew = wd at HS0 HFD HD0 HD1 HBD ⊢
            refine wpAnyH_take (i := 0) (oi := { dst := some 40, op := Go.Op.fieldAddr 45 (Go.Operand.tmp 8) 1, type := 0, pos := "ref.go:260", after := #[], guard := none }) (v := ?_) rfl (by kernel_rfl) (by kernel_rfl) (by kernel_rfl) (fun _ _ _ h => h) (Or.inl ⟨by rfl, ?_⟩) HS0.out ?_
            case refine_2 => (intro w1 hS1; clear hS1; go_simp; try with_reducible rfl)
            try simp only [Act.put, List.setIfInBounds_toArray, List.set_cons_zero, List.set_cons_succ]
            refine wpAnyH_take (i := 2) (oi := { dst := some 42, op := Go.Op.fieldAddr 45 (Go.Operand.tmp 8) 2, type := 0, pos := "ref.go:260", after := #[], guard := none }) (v := ?_) rfl (by kernel_rfl) (by kernel_rfl) (by kernel_rfl) (fun _ _ _ h => h) (Or.inl ⟨by rfl, ?_⟩) HS0.out ?_
            case refine_2 => (intro w1 hS1; clear hS1; go_simp; try with_reducible rfl)
            try simp only [Act.put, List.setIfInBounds_toArray, List.set_cons_zero, List.set_cons_succ]
            refine wpAnyH_take (i := 3) (oi := { dst := some 43, op := Go.Op.load 3 (Go.Operand.tmp 42), type := 3, pos := "ref.go:260", after := #[{ on := 2, ground := Go.Ground.data }], guard := none }) (v := .int .i64 (f.kept : Int)) rfl (by kernel_rfl) (by kernel_rfl) (by kernel_rfl) (fun _ _ _ h => h) (Or.inl ⟨by rfl, ?_⟩) HS0.out ?_
            case refine_1 => (intro w1 hS1; obtain ⟨hq, -⟩ := hS1; go_simp; try with_reducible rfl)
            try simp only [Act.put, List.setIfInBounds_toArray, List.set_cons_zero, List.set_cons_succ]
            refine wpAnyH_take (i := 5) (oi := { dst := some 45, op := Go.Op.fieldAddr 45 (Go.Operand.tmp 8) 1, type := 0, pos := "ref.go:260", after := #[], guard := none }) (v := ?_) rfl (by kernel_rfl) (by kernel_rfl) (by kernel_rfl) (fun _ _ _ h => h) (Or.inl ⟨by rfl, ?_⟩) HS0.out ?_
            case refine_2 => (intro w1 hS1; clear hS1; go_simp; try with_reducible rfl)
            try simp only [Act.put, List.setIfInBounds_toArray, List.set_cons_zero, List.set_cons_succ]
            refine wpAnyH_take (i := 7) (oi := { dst := some 47, op := Go.Op.fieldAddr 45 (Go.Operand.tmp 8) 2, type := 0, pos := "ref.go:260", after := #[], guard := none }) (v := ?_) rfl (by kernel_rfl) (by kernel_rfl) (by kernel_rfl) (fun _ _ _ h => h) (Or.inl ⟨by rfl, ?_⟩) HS0.out ?_
            case refine_2 => (intro w1 hS1; clear hS1; go_simp; try with_reducible rfl)
            try simp only [Act.put, List.setIfInBounds_toArray, List.set_cons_zero, List.set_cons_succ]
            refine wpAnyH_take (i := 8) (oi := { dst := some 48, op := Go.Op.load 3 (Go.Operand.tmp 47), type := 3, pos := "ref.go:260", after := #[{ on := 7, ground := Go.Ground.data }], guard := none }) (v := .int .i64 (f.kept : Int)) rfl (by kernel_rfl) (by kernel_rfl) (by kernel_rfl) (fun _ _ _ h => h) (Or.inl ⟨by rfl, ?_⟩) HS0.out ?_
            case refine_1 => (intro w1 hS1; obtain ⟨hq, -⟩ := hS1; go_simp; try with_reducible rfl)
            try simp only [Act.put, List.setIfInBounds_toArray, List.set_cons_zero, List.set_cons_succ]
            refine wpAnyH_take (i := 10) (oi := { dst := some 50, op := Go.Op.load 178 (Go.Operand.tmp 9), type := 178, pos := "ref.go:260", after := #[], guard := none }) (v := .agg #[.int .u16 (t0 : Int), .int .u32 (t1 : Int)]) rfl (by kernel_rfl) (by kernel_rfl) (by kernel_rfl) (fun _ _ _ h => h) (Or.inl ⟨by rfl, ?_⟩) HS0.out ?_
            case refine_1 => (intro w1 hS1; obtain ⟨-, hq⟩ := hS1; obtain ⟨y0, y1⟩ := two_rd hq; clear hq; go_simp; try with_reducible rfl)
            try simp only [Act.put, List.setIfInBounds_toArray, List.set_cons_zero, List.set_cons_succ]
            refine wpAnyH_ready (rs := [1, 6]) (by kernel_rfl) (by simp) ?_
            refine AllReadyH.cons (o := { dst := some 41, op := Go.Op.load 9 (Go.Operand.tmp 40), type := 9, pos := "ref.go:260", after := #[{ on := 0, ground := Go.Ground.data }], guard := none }) rfl (fun K hK => ?_) (AllReadyH.cons (o := { dst := some 46, op := Go.Op.load 9 (Go.Operand.tmp 45), type := 9, pos := "ref.go:260", after := #[{ on := 5, ground := Go.Ground.data }], guard := none }) rfl (fun K hK => ?_) AllReadyH.nil)
            · obtain ⟨x0, x1, x2⟩ := three_rd HFD.out
              go_simp
              refine hK.out _ _ HS0.out (fun hHeld => ?_)
              clear hK K hHeld x0 x1 x2
              try simp only [Act.put, List.setIfInBounds_toArray, List.set_cons_zero, List.set_cons_succ]
              refine wpAnyH_take (i := 4) (oi := { dst := some 44, op := Go.Op.slice 9 (Go.Operand.tmp 41) none (some (Go.Operand.tmp 43)) none, type := 9, pos := "ref.go:260", after := #[{ on := 1, ground := Go.Ground.data }, { on := 3, ground := Go.Ground.data }], guard := none }) (v := .string (str (f.all.take f.kept))) rfl (by kernel_rfl) (by kernel_rfl) (by kernel_rfl) (fun _ _ _ h => h) (Or.inl ⟨by rfl, ?_⟩) HS0.out ?_
              case refine_1 => (intro w1 hS1; clear hS1; have hh := run_head f.all f.kept HOKI.out.2.1; go_simp; try with_reducible rfl)
              try simp only [Act.put, List.setIfInBounds_toArray, List.set_cons_zero, List.set_cons_succ]
              refine wpAnyH_ready (rs := [6]) (by kernel_rfl) (by simp) ?_
              refine AllReadyH.cons (o := { dst := some 46, op := Go.Op.load 9 (Go.Operand.tmp 45), type := 9, pos := "ref.go:260", after := #[{ on := 5, ground := Go.Ground.data }], guard := none }) rfl (fun K hK => ?_) AllReadyH.nil
              obtain ⟨x0, x1, x2⟩ := three_rd HFD.out
              go_simp
              refine hK.out _ _ HS0.out (fun hHeld => ?_)
              clear hK K hHeld x0 x1 x2
              try simp only [Act.put, List.setIfInBounds_toArray, List.set_cons_zero, List.set_cons_succ]
              refine wpAnyH_take (i := 9) (oi := { dst := some 49, op := Go.Op.slice 9 (Go.Operand.tmp 46) (some (Go.Operand.tmp 48)) none none, type := 9, pos := "ref.go:260", after := #[{ on := 6, ground := Go.Ground.data }, { on := 8, ground := Go.Ground.data }], guard := none }) (v := .string (str (f.all.drop f.kept))) rfl (by kernel_rfl) (by kernel_rfl) (by kernel_rfl) (fun _ _ _ h => h) (Or.inl ⟨by rfl, ?_⟩) HS0.out ?_
              case refine_1 => (intro w1 hS1; clear hS1; have hh := run_tail f.all f.kept HOKI.out.2.1; go_simp; try with_reducible rfl)
              try simp only [Act.put, List.setIfInBounds_toArray, List.set_cons_zero, List.set_cons_succ]
              refine wpAnyH_ready (rs := [11]) (by kernel_rfl) (by simp) ?_
              refine AllReadyH.cons (o := { dst := some 51, op := Go.Op.call { callee := Go.Callee.value (Go.Operand.func 113), args := #[Go.Operand.tmp 49, Go.Operand.tmp 50], argTypes := #[9, 178] }, type := 9, pos := "ref.go:260", after := #[{ on := 9, ground := Go.Ground.data }, { on := 10, ground := Go.Ground.data }], guard := none }) rfl (fun K hK => ?_) AllReadyH.nil
              go_simp
              refine (rtorn (f.all.drop f.kept) t0 t1 wd (fun c hc => HOKI.out.1 c (List.mem_of_mem_drop hc)) (by rw [List.length_drop]; have := HOKI.out.2.2; omega) HTW.out.1 HTW.out.2).mono ?_
              rintro e we ⟨rfl, hb⟩
              have HFE := Lib.hid (ex_below HFD.out hb)
              have HE0 := Lib.hid (ex_below HD0.out hb)
              have HE1 := Lib.hid (ex_below HD1.out hb)
              have HBE := Lib.hid (HBD.out.trans (hb.mono HBD.out.size))
              have HS0' : Hid ((fun W : World => W.cell? ⟨NF, 2, none⟩ = some (.int .i64 (f.kept : Int)) ∧ W.heap[NT]? = some (.cells #[.int .u16 (t0 : Int), .int .u32 (t1 : Int)] 178 (0, 0))) we) := Lib.hid ⟨(three_rd HFE.out).2.2, ex_below HS0.out.2 hb⟩
              clear hb HFD HD0 HD1 HBD HS0
              have HFD := HFE
              have HD0 := HE0
              have HD1 := HE1
              have HBD := HBE
              have HS0 := HS0'
              clear HFE HE0 HE1 HBE HS0'
              rw [HTB.out]
              refine hK.out _ _ HS0.out (fun hHeld => ?_)
              clear hK K hHeld
              generalize we = wd at HS0 HFD HD0 HD1 HBD ⊢
              try simp only [Act.put, List.setIfInBounds_toArray, List.set_cons_zero, List.set_cons_succ]
              refine wpAnyH_take (i := 12) (oi := { dst := some 52, op := Go.Op.binOp Go.BinOp.add 9 (Go.Operand.tmp 44) (Go.Operand.tmp 51) 9, type := 9, pos := "ref.go:260", after := #[{ on := 4, ground := Go.Ground.data }, { on := 11, ground := Go.Ground.data }], guard := none }) (v := .string (str tf)) rfl (by kernel_rfl) (by kernel_rfl) (by kernel_rfl) (fun _ _ _ h => h) (Or.inl ⟨by rfl, ?_⟩) HS0.out ?_
              case refine_1 => (intro w1 hS1; clear hS1; have hh := run_cat (f.all.take f.kept) tb (by have h1 := HOKI.out.2.2; have h3 := tearB_len (f.all.drop f.kept) t0 t1; rw [HTB.out] at h3; have h2 := tearN_le (f.all.drop f.kept) t0; rw [List.length_drop] at h2; rw [List.length_take]; omega); rw [HTF.out] at hh; go_simp; try with_reducible rfl)
              try simp only [Act.put, List.setIfInBounds_toArray, List.set_cons_zero, List.set_cons_succ]
              refine wpAnyH_take (i := 13) (oi := { dst := some 53, op := Go.Op.fieldAddr 45 (Go.Operand.tmp 8) 1, type := 0, pos := "ref.go:260", after := #[{ on := 0, ground := Go.Ground.phase }, { on := 1, ground := Go.Ground.phase }, { on := 2, ground := Go.Ground.phase }, { on := 3, ground := Go.Ground.phase }, { on := 4, ground := Go.Ground.phase }, { on := 5, ground := Go.Ground.phase }, { on := 6, ground := Go.Ground.phase }, { on := 7, ground := Go.Ground.phase }, { on := 8, ground := Go.Ground.phase }, { on := 9, ground := Go.Ground.phase }, { on := 10, ground := Go.Ground.phase }, { on := 11, ground := Go.Ground.phase }, { on := 12, ground := Go.Ground.phase }], guard := none }) (v := ?_) rfl (by kernel_rfl) (by kernel_rfl) (by kernel_rfl) (fun _ _ _ h => h) (Or.inl ⟨by rfl, ?_⟩) HS0.out ?_
              case refine_2 => (intro w1 hS1; clear hS1; go_simp; try with_reducible rfl)
              try simp only [Act.put, List.setIfInBounds_toArray, List.set_cons_zero, List.set_cons_succ]
              refine wpAnyH_ready (rs := [14]) (by kernel_rfl) (by simp) ?_
              refine AllReadyH.cons (o := { dst := none, op := Go.Op.store 9 (Go.Operand.tmp 53) (Go.Operand.tmp 52), type := 0, pos := "ref.go:260", after := #[{ on := 13, ground := Go.Ground.data }, { on := 12, ground := Go.Ground.data }, { on := 11, ground := Go.Ground.chain }, { on := 0, ground := Go.Ground.phase }, { on := 1, ground := Go.Ground.phase }, { on := 2, ground := Go.Ground.phase }, { on := 3, ground := Go.Ground.phase }, { on := 4, ground := Go.Ground.phase }, { on := 5, ground := Go.Ground.phase }, { on := 6, ground := Go.Ground.phase }, { on := 7, ground := Go.Ground.phase }, { on := 8, ground := Go.Ground.phase }, { on := 9, ground := Go.Ground.phase }, { on := 10, ground := Go.Ground.phase }, { on := 11, ground := Go.Ground.phase }, { on := 12, ground := Go.Ground.phase }], guard := none }) rfl (fun K hK => ?_) AllReadyH.nil
              obtain ⟨x0, x1, x2⟩ := three_rd HFD.out
              have fz : ∀ o, wd.frozen? ⟨NF, o, none⟩ = false := fun o => by simp [World.frozen?, HFD.out]
              have HFE : Hid ((wd.setCell ⟨NF, 1, none⟩ (.string (str tf))).heap[NF]? = some (.cells #[encStr q, .string (str tf), .int .i64 (f.kept : Int)] 45 (0, 0))) := Lib.hid (by rw [heap_setCell_same wd _ 1 _ _ _ HFD.out]; simp)
              have hne0 : N ≠ NF := by have := HNF.out; omega
              have hne1 : N + 1 ≠ NF := by have := HNF.out; omega
              have hneT : NT ≠ NF := by have := HNT.out; omega
              have hle : w9.heap.size ≤ NF := HNF.out.2
              have HE0 := Lib.hid ((Below.heap_setCell wd ⟨NF, 1, none⟩ (.string (str tf)) N hne0).trans HD0.out)
              have HE1 := Lib.hid ((Below.heap_setCell wd ⟨NF, 1, none⟩ (.string (str tf)) (N + 1) hne1).trans HD1.out)
              have HBE := Lib.hid (below_two HBD.out hle 1 (.string (str tf)))
              have HS0' : Hid ((fun W : World => W.cell? ⟨NF, 2, none⟩ = some (.int .i64 (f.kept : Int)) ∧ W.heap[NT]? = some (.cells #[.int .u16 (t0 : Int), .int .u32 (t1 : Int)] 178 (0, 0))) (wd.setCell ⟨NF, 1, none⟩ (.string (str tf)))) := Lib.hid ⟨(three_rd HFE.out).2.2, (Below.heap_setCell wd ⟨NF, 1, none⟩ (.string (str tf)) NT hneT).trans HS0.out.2⟩
              go_simp
              refine hK.out _ _ HS0'.out (fun hHeld => ?_)
              clear hK K hHeld
              try simp only [Act.put, List.setIfInBounds_toArray, List.set_cons_zero, List.set_cons_succ]
              refine wpAnyH_done (by kernel_rfl) ?_ _
              go_wp2_with fail
              go_meet
              case rel => exact ⟨HBE, HFE, HE0, HE1⟩
            · obtain ⟨x0, x1, x2⟩ := three_rd HFD.out
              go_simp
              refine hK.out _ _ HS0.out (fun hHeld => ?_)
              clear hK K hHeld x0 x1 x2
              try simp only [Act.put, List.setIfInBounds_toArray, List.set_cons_zero, List.set_cons_succ]
              refine wpAnyH_take (i := 9) (oi := { dst := some 49, op := Go.Op.slice 9 (Go.Operand.tmp 46) (some (Go.Operand.tmp 48)) none none, type := 9, pos := "ref.go:260", after := #[{ on := 6, ground := Go.Ground.data }, { on := 8, ground := Go.Ground.data }], guard := none }) (v := .string (str (f.all.drop f.kept))) rfl (by kernel_rfl) (by kernel_rfl) (by kernel_rfl) (fun _ _ _ h => h) (Or.inl ⟨by rfl, ?_⟩) HS0.out ?_
              case refine_1 => (intro w1 hS1; clear hS1; have hh := run_tail f.all f.kept HOKI.out.2.1; go_simp; try with_reducible rfl)
              try simp only [Act.put, List.setIfInBounds_toArray, List.set_cons_zero, List.set_cons_succ]
              refine wpAnyH_ready (rs := [1, 11]) (by kernel_rfl) (by simp) ?_
              refine AllReadyH.cons (o := { dst := some 41, op := Go.Op.load 9 (Go.Operand.tmp 40), type := 9, pos := "ref.go:260", after := #[{ on := 0, ground := Go.Ground.data }], guard := none }) rfl (fun K hK => ?_) (AllReadyH.cons (o := { dst := some 51, op := Go.Op.call { callee := Go.Callee.value (Go.Operand.func 113), args := #[Go.Operand.tmp 49, Go.Operand.tmp 50], argTypes := #[9, 178] }, type := 9, pos := "ref.go:260", after := #[{ on := 9, ground := Go.Ground.data }, { on := 10, ground := Go.Ground.data }], guard := none }) rfl (fun K hK => ?_) AllReadyH.nil)
              · obtain ⟨x0, x1, x2⟩ := three_rd HFD.out
                go_simp
                refine hK.out _ _ HS0.out (fun hHeld => ?_)
                clear hK K hHeld x0 x1 x2
                try simp only [Act.put, List.setIfInBounds_toArray, List.set_cons_zero, List.set_cons_succ]
                refine wpAnyH_take (i := 4) (oi := { dst := some 44, op := Go.Op.slice 9 (Go.Operand.tmp 41) none (some (Go.Operand.tmp 43)) none, type := 9, pos := "ref.go:260", after := #[{ on := 1, ground := Go.Ground.data }, { on := 3, ground := Go.Ground.data }], guard := none }) (v := .string (str (f.all.take f.kept))) rfl (by kernel_rfl) (by kernel_rfl) (by kernel_rfl) (fun _ _ _ h => h) (Or.inl ⟨by rfl, ?_⟩) HS0.out ?_
                case refine_1 => (intro w1 hS1; clear hS1; have hh := run_head f.all f.kept HOKI.out.2.1; go_simp; try with_reducible rfl)
                try simp only [Act.put, List.setIfInBounds_toArray, List.set_cons_zero, List.set_cons_succ]
                refine wpAnyH_ready (rs := [11]) (by kernel_rfl) (by simp) ?_
                refine AllReadyH.cons (o := { dst := some 51, op := Go.Op.call { callee := Go.Callee.value (Go.Operand.func 113), args := #[Go.Operand.tmp 49, Go.Operand.tmp 50], argTypes := #[9, 178] }, type := 9, pos := "ref.go:260", after := #[{ on := 9, ground := Go.Ground.data }, { on := 10, ground := Go.Ground.data }], guard := none }) rfl (fun K hK => ?_) AllReadyH.nil
                go_simp
                refine (rtorn (f.all.drop f.kept) t0 t1 wd (fun c hc => HOKI.out.1 c (List.mem_of_mem_drop hc)) (by rw [List.length_drop]; have := HOKI.out.2.2; omega) HTW.out.1 HTW.out.2).mono ?_
                rintro e we ⟨rfl, hb⟩
                have HFE := Lib.hid (ex_below HFD.out hb)
                have HE0 := Lib.hid (ex_below HD0.out hb)
                have HE1 := Lib.hid (ex_below HD1.out hb)
                have HBE := Lib.hid (HBD.out.trans (hb.mono HBD.out.size))
                have HS0' : Hid ((fun W : World => W.cell? ⟨NF, 2, none⟩ = some (.int .i64 (f.kept : Int)) ∧ W.heap[NT]? = some (.cells #[.int .u16 (t0 : Int), .int .u32 (t1 : Int)] 178 (0, 0))) we) := Lib.hid ⟨(three_rd HFE.out).2.2, ex_below HS0.out.2 hb⟩
                clear hb HFD HD0 HD1 HBD HS0
                have HFD := HFE
                have HD0 := HE0
                have HD1 := HE1
                have HBD := HBE
                have HS0 := HS0'
                clear HFE HE0 HE1 HBE HS0'
                rw [HTB.out]
                refine hK.out _ _ HS0.out (fun hHeld => ?_)
                clear hK K hHeld
                generalize we = wd at HS0 HFD HD0 HD1 HBD ⊢
                try simp only [Act.put, List.setIfInBounds_toArray, List.set_cons_zero, List.set_cons_succ]
                refine wpAnyH_take (i := 12) (oi := { dst := some 52, op := Go.Op.binOp Go.BinOp.add 9 (Go.Operand.tmp 44) (Go.Operand.tmp 51) 9, type := 9, pos := "ref.go:260", after := #[{ on := 4, ground := Go.Ground.data }, { on := 11, ground := Go.Ground.data }], guard := none }) (v := .string (str tf)) rfl (by kernel_rfl) (by kernel_rfl) (by kernel_rfl) (fun _ _ _ h => h) (Or.inl ⟨by rfl, ?_⟩) HS0.out ?_
                case refine_1 => (intro w1 hS1; clear hS1; have hh := run_cat (f.all.take f.kept) tb (by have h1 := HOKI.out.2.2; have h3 := tearB_len (f.all.drop f.kept) t0 t1; rw [HTB.out] at h3; have h2 := tearN_le (f.all.drop f.kept) t0; rw [List.length_drop] at h2; rw [List.length_take]; omega); rw [HTF.out] at hh; go_simp; try with_reducible rfl)
                try simp only [Act.put, List.setIfInBounds_toArray, List.set_cons_zero, List.set_cons_succ]
                refine wpAnyH_take (i := 13) (oi := { dst := some 53, op := Go.Op.fieldAddr 45 (Go.Operand.tmp 8) 1, type := 0, pos := "ref.go:260", after := #[{ on := 0, ground := Go.Ground.phase }, { on := 1, ground := Go.Ground.phase }, { on := 2, ground := Go.Ground.phase }, { on := 3, ground := Go.Ground.phase }, { on := 4, ground := Go.Ground.phase }, { on := 5, ground := Go.Ground.phase }, { on := 6, ground := Go.Ground.phase }, { on := 7, ground := Go.Ground.phase }, { on := 8, ground := Go.Ground.phase }, { on := 9, ground := Go.Ground.phase }, { on := 10, ground := Go.Ground.phase }, { on := 11, ground := Go.Ground.phase }, { on := 12, ground := Go.Ground.phase }], guard := none }) (v := ?_) rfl (by kernel_rfl) (by kernel_rfl) (by kernel_rfl) (fun _ _ _ h => h) (Or.inl ⟨by rfl, ?_⟩) HS0.out ?_
                case refine_2 => (intro w1 hS1; clear hS1; go_simp; try with_reducible rfl)
                try simp only [Act.put, List.setIfInBounds_toArray, List.set_cons_zero, List.set_cons_succ]
                refine wpAnyH_ready (rs := [14]) (by kernel_rfl) (by simp) ?_
                refine AllReadyH.cons (o := { dst := none, op := Go.Op.store 9 (Go.Operand.tmp 53) (Go.Operand.tmp 52), type := 0, pos := "ref.go:260", after := #[{ on := 13, ground := Go.Ground.data }, { on := 12, ground := Go.Ground.data }, { on := 11, ground := Go.Ground.chain }, { on := 0, ground := Go.Ground.phase }, { on := 1, ground := Go.Ground.phase }, { on := 2, ground := Go.Ground.phase }, { on := 3, ground := Go.Ground.phase }, { on := 4, ground := Go.Ground.phase }, { on := 5, ground := Go.Ground.phase }, { on := 6, ground := Go.Ground.phase }, { on := 7, ground := Go.Ground.phase }, { on := 8, ground := Go.Ground.phase }, { on := 9, ground := Go.Ground.phase }, { on := 10, ground := Go.Ground.phase }, { on := 11, ground := Go.Ground.phase }, { on := 12, ground := Go.Ground.phase }], guard := none }) rfl (fun K hK => ?_) AllReadyH.nil
                obtain ⟨x0, x1, x2⟩ := three_rd HFD.out
                have fz : ∀ o, wd.frozen? ⟨NF, o, none⟩ = false := fun o => by simp [World.frozen?, HFD.out]
                have HFE : Hid ((wd.setCell ⟨NF, 1, none⟩ (.string (str tf))).heap[NF]? = some (.cells #[encStr q, .string (str tf), .int .i64 (f.kept : Int)] 45 (0, 0))) := Lib.hid (by rw [heap_setCell_same wd _ 1 _ _ _ HFD.out]; simp)
                have hne0 : N ≠ NF := by have := HNF.out; omega
                have hne1 : N + 1 ≠ NF := by have := HNF.out; omega
                have hneT : NT ≠ NF := by have := HNT.out; omega
                have hle : w9.heap.size ≤ NF := HNF.out.2
                have HE0 := Lib.hid ((Below.heap_setCell wd ⟨NF, 1, none⟩ (.string (str tf)) N hne0).trans HD0.out)
                have HE1 := Lib.hid ((Below.heap_setCell wd ⟨NF, 1, none⟩ (.string (str tf)) (N + 1) hne1).trans HD1.out)
                have HBE := Lib.hid (below_two HBD.out hle 1 (.string (str tf)))
                have HS0' : Hid ((fun W : World => W.cell? ⟨NF, 2, none⟩ = some (.int .i64 (f.kept : Int)) ∧ W.heap[NT]? = some (.cells #[.int .u16 (t0 : Int), .int .u32 (t1 : Int)] 178 (0, 0))) (wd.setCell ⟨NF, 1, none⟩ (.string (str tf)))) := Lib.hid ⟨(three_rd HFE.out).2.2, (Below.heap_setCell wd ⟨NF, 1, none⟩ (.string (str tf)) NT hneT).trans HS0.out.2⟩
                go_simp
                refine hK.out _ _ HS0'.out (fun hHeld => ?_)
                clear hK K hHeld
                try simp only [Act.put, List.setIfInBounds_toArray, List.set_cons_zero, List.set_cons_succ]
                refine wpAnyH_done (by kernel_rfl) ?_ _
                go_wp2_with fail
                go_meet
                case rel => exact ⟨HBE, HFE, HE0, HE1⟩
              · go_simp
                refine (rtorn (f.all.drop f.kept) t0 t1 wd (fun c hc => HOKI.out.1 c (List.mem_of_mem_drop hc)) (by rw [List.length_drop]; have := HOKI.out.2.2; omega) HTW.out.1 HTW.out.2).mono ?_
                rintro e we ⟨rfl, hb⟩
                have HFE := Lib.hid (ex_below HFD.out hb)
                have HE0 := Lib.hid (ex_below HD0.out hb)
                have HE1 := Lib.hid (ex_below HD1.out hb)
                have HBE := Lib.hid (HBD.out.trans (hb.mono HBD.out.size))
                have HS0' : Hid ((fun W : World => W.cell? ⟨NF, 2, none⟩ = some (.int .i64 (f.kept : Int)) ∧ W.heap[NT]? = some (.cells #[.int .u16 (t0 : Int), .int .u32 (t1 : Int)] 178 (0, 0))) we) := Lib.hid ⟨(three_rd HFE.out).2.2, ex_below HS0.out.2 hb⟩
                clear hb HFD HD0 HD1 HBD HS0
                have HFD := HFE
                have HD0 := HE0
                have HD1 := HE1
                have HBD := HBE
                have HS0 := HS0'
                clear HFE HE0 HE1 HBE HS0'
                rw [HTB.out]
                refine hK.out _ _ HS0.out (fun hHeld => ?_)
                clear hK K hHeld
                generalize we = wd at HS0 HFD HD0 HD1 HBD ⊢
                try simp only [Act.put, List.setIfInBounds_toArray, List.set_cons_zero, List.set_cons_succ]
                refine wpAnyH_ready (rs := [1]) (by kernel_rfl) (by simp) ?_
                refine AllReadyH.cons (o := { dst := some 41, op := Go.Op.load 9 (Go.Operand.tmp 40), type := 9, pos := "ref.go:260", after := #[{ on := 0, ground := Go.Ground.data }], guard := none }) rfl (fun K hK => ?_) AllReadyH.nil
                obtain ⟨x0, x1, x2⟩ := three_rd HFD.out
                go_simp
                refine hK.out _ _ HS0.out (fun hHeld => ?_)
                clear hK K hHeld x0 x1 x2
                try simp only [Act.put, List.setIfInBounds_toArray, List.set_cons_zero, List.set_cons_succ]
                refine wpAnyH_take (i := 4) (oi := { dst := some 44, op := Go.Op.slice 9 (Go.Operand.tmp 41) none (some (Go.Operand.tmp 43)) none, type := 9, pos := "ref.go:260", after := #[{ on := 1, ground := Go.Ground.data }, { on := 3, ground := Go.Ground.data }], guard := none }) (v := .string (str (f.all.take f.kept))) rfl (by kernel_rfl) (by kernel_rfl) (by kernel_rfl) (fun _ _ _ h => h) (Or.inl ⟨by rfl, ?_⟩) HS0.out ?_
                case refine_1 => (intro w1 hS1; clear hS1; have hh := run_head f.all f.kept HOKI.out.2.1; go_simp; try with_reducible rfl)
                try simp only [Act.put, List.setIfInBounds_toArray, List.set_cons_zero, List.set_cons_succ]
                refine wpAnyH_take (i := 12) (oi := { dst := some 52, op := Go.Op.binOp Go.BinOp.add 9 (Go.Operand.tmp 44) (Go.Operand.tmp 51) 9, type := 9, pos := "ref.go:260", after := #[{ on := 4, ground := Go.Ground.data }, { on := 11, ground := Go.Ground.data }], guard := none }) (v := .string (str tf)) rfl (by kernel_rfl) (by kernel_rfl) (by kernel_rfl) (fun _ _ _ h => h) (Or.inl ⟨by rfl, ?_⟩) HS0.out ?_
                case refine_1 => (intro w1 hS1; clear hS1; have hh := run_cat (f.all.take f.kept) tb (by have h1 := HOKI.out.2.2; have h3 := tearB_len (f.all.drop f.kept) t0 t1; rw [HTB.out] at h3; have h2 := tearN_le (f.all.drop f.kept) t0; rw [List.length_drop] at h2; rw [List.length_take]; omega); rw [HTF.out] at hh; go_simp; try with_reducible rfl)
                try simp only [Act.put, List.setIfInBounds_toArray, List.set_cons_zero, List.set_cons_succ]
                refine wpAnyH_take (i := 13) (oi := { dst := some 53, op := Go.Op.fieldAddr 45 (Go.Operand.tmp 8) 1, type := 0, pos := "ref.go:260", after := #[{ on := 0, ground := Go.Ground.phase }, { on := 1, ground := Go.Ground.phase }, { on := 2, ground := Go.Ground.phase }, { on := 3, ground := Go.Ground.phase }, { on := 4, ground := Go.Ground.phase }, { on := 5, ground := Go.Ground.phase }, { on := 6, ground := Go.Ground.phase }, { on := 7, ground := Go.Ground.phase }, { on := 8, ground := Go.Ground.phase }, { on := 9, ground := Go.Ground.phase }, { on := 10, ground := Go.Ground.phase }, { on := 11, ground := Go.Ground.phase }, { on := 12, ground := Go.Ground.phase }], guard := none }) (v := ?_) rfl (by kernel_rfl) (by kernel_rfl) (by kernel_rfl) (fun _ _ _ h => h) (Or.inl ⟨by rfl, ?_⟩) HS0.out ?_
                case refine_2 => (intro w1 hS1; clear hS1; go_simp; try with_reducible rfl)
                try simp only [Act.put, List.setIfInBounds_toArray, List.set_cons_zero, List.set_cons_succ]
                refine wpAnyH_ready (rs := [14]) (by kernel_rfl) (by simp) ?_
                refine AllReadyH.cons (o := { dst := none, op := Go.Op.store 9 (Go.Operand.tmp 53) (Go.Operand.tmp 52), type := 0, pos := "ref.go:260", after := #[{ on := 13, ground := Go.Ground.data }, { on := 12, ground := Go.Ground.data }, { on := 11, ground := Go.Ground.chain }, { on := 0, ground := Go.Ground.phase }, { on := 1, ground := Go.Ground.phase }, { on := 2, ground := Go.Ground.phase }, { on := 3, ground := Go.Ground.phase }, { on := 4, ground := Go.Ground.phase }, { on := 5, ground := Go.Ground.phase }, { on := 6, ground := Go.Ground.phase }, { on := 7, ground := Go.Ground.phase }, { on := 8, ground := Go.Ground.phase }, { on := 9, ground := Go.Ground.phase }, { on := 10, ground := Go.Ground.phase }, { on := 11, ground := Go.Ground.phase }, { on := 12, ground := Go.Ground.phase }], guard := none }) rfl (fun K hK => ?_) AllReadyH.nil
                obtain ⟨x0, x1, x2⟩ := three_rd HFD.out
                have fz : ∀ o, wd.frozen? ⟨NF, o, none⟩ = false := fun o => by simp [World.frozen?, HFD.out]
                have HFE : Hid ((wd.setCell ⟨NF, 1, none⟩ (.string (str tf))).heap[NF]? = some (.cells #[encStr q, .string (str tf), .int .i64 (f.kept : Int)] 45 (0, 0))) := Lib.hid (by rw [heap_setCell_same wd _ 1 _ _ _ HFD.out]; simp)
                have hne0 : N ≠ NF := by have := HNF.out; omega
                have hne1 : N + 1 ≠ NF := by have := HNF.out; omega
                have hneT : NT ≠ NF := by have := HNT.out; omega
                have hle : w9.heap.size ≤ NF := HNF.out.2
                have HE0 := Lib.hid ((Below.heap_setCell wd ⟨NF, 1, none⟩ (.string (str tf)) N hne0).trans HD0.out)
                have HE1 := Lib.hid ((Below.heap_setCell wd ⟨NF, 1, none⟩ (.string (str tf)) (N + 1) hne1).trans HD1.out)
                have HBE := Lib.hid (below_two HBD.out hle 1 (.string (str tf)))
                have HS0' : Hid ((fun W : World => W.cell? ⟨NF, 2, none⟩ = some (.int .i64 (f.kept : Int)) ∧ W.heap[NT]? = some (.cells #[.int .u16 (t0 : Int), .int .u32 (t1 : Int)] 178 (0, 0))) (wd.setCell ⟨NF, 1, none⟩ (.string (str tf)))) := Lib.hid ⟨(three_rd HFE.out).2.2, (Below.heap_setCell wd ⟨NF, 1, none⟩ (.string (str tf)) NT hneT).trans HS0.out.2⟩
                go_simp
                refine hK.out _ _ HS0'.out (fun hHeld => ?_)
                clear hK K hHeld
                try simp only [Act.put, List.setIfInBounds_toArray, List.set_cons_zero, List.set_cons_succ]
                refine wpAnyH_done (by kernel_rfl) ?_ _
                go_wp2_with fail
                go_meet
                case rel => exact ⟨HBE, HFE, HE0, HE1⟩
          case rest =>
            obtain ⟨HB20, HF20, HS020, HS120⟩ := hcut
            clear HB11 HS011 HS111 HF11 HT11
            obtain ⟨w20, hw20⟩ : ∃ W, wc = W := ⟨_, rfl⟩
            rw [hw20] at HB20 HF20 HS020 HS120 ⊢
            clear hw20
            obtain ⟨lq, hlq⟩ : ∃ lq, tf.length = lq := ⟨_, rfl⟩
            have hqs : (str tf).size = lq := by rw [str_size, hlq]
            have HLQ := Lib.hid hlq
            clear hlq
            obtain ⟨x0, x1, x2⟩ := three_rd HF20.out
            have fHF : ∀ o, w20.frozen? ⟨NF, o, none⟩ = false := fun o => by simp [World.frozen?, HF20.out]
            have hNN := HN.out
            have hZZ := HZ.out
            have HQ_HF : Hid ((w20.setCell ⟨NF, 2, none⟩ (.int .i64 (lq : Int))).heap[NF]? = some (.cells #[encStr q, .string (str tf), .int .i64 (lq : Int)] 45 (0, 0))) := Lib.hid (by rw [heap_setCell_same w20 _ 2 _ _ _ HF20.out]; simp)
            have HQ_HS0 : Hid ((w20.setCell ⟨NF, 2, none⟩ (.int .i64 (lq : Int))).heap[N]? = some (.cells #[.int .i64 room, .slice (some ⟨bb, o, none⟩) ln c, .bool true, .int .i64 (-1), .int .u64 st] 30 (0, 0))) := Lib.hid ((Below.heap_setCell _ _ _ _ (show N ≠ NF by have := HNF.out; omega)).trans (HS020.out))
            have HQ_HS1 : Hid ((w20.setCell ⟨NF, 2, none⟩ (.int .i64 (lq : Int))).heap[N + 1]? = some (.cells #[.int .i64 0, .slice none 0 0, .bool false, .int .i64 0, .int .u64 0] 30 (0, 0))) := Lib.hid ((Below.heap_setCell _ _ _ _ (show N + 1 ≠ NF by have := HNF.out; omega)).trans (HS120.out))
            have HQB := Lib.hid (below_two (HB20.out) (show w9.heap.size ≤ NF by have := HNF.out; omega) 2 (.int .i64 (lq : Int)))
            clear hNN hZZ
            go_upto_region 16 with fail
            generalize (w20.setCell ⟨NF, 2, none⟩ (.int .i64 (lq : Int))) = w21 at HQ_HS0 HQ_HS1 HQ_HF HQB ⊢
            have HS021 := HQ_HS0
            have HS121 := HQ_HS1
            have HF21 := HQ_HF
            have HB21 := HQB
            clear HQ_HS0 HQ_HS1 HQ_HF HQB HS020 HS120 HF20 HB20
            clear x0 x1 x2
            clear fHF hqs
            have HTOR : Hid (tornF f (nextT (ts.drop u)).1 = ⟨tf, lq⟩) := Lib.hid (by
              have e := HTA.out
              unfold tearAt at e
              rw [e]
              unfold tornF
              rw [HTB.out, HTF.out, HLQ.out])
            have hqs : (str (tf)).size = (tf).length := str_size _
            obtain ⟨lf, hlf⟩ : ∃ lf, (tf).length = lf := ⟨_, rfl⟩
            rw [hlf] at hqs
            have HLF := Lib.hid hlf
            clear hlf
            by_cases hz : lf = 0
            · have dz0 : decide ((lf : Int) > 0) = false := decide_eq_false (by omega)
              have dz1 : decide (0 < (lf : Int)) = false := decide_eq_false (by omega)
              have dz2 : decide (0 < lf) = false := decide_eq_false (by omega)
              have dz3 : ¬ 0 < lf := by omega
              have HZF : Hid (tf = []) := Lib.hid (List.length_eq_zero_iff.mp (by rw [HLF.out]; exact hz))
              have HE2 : Hid (crashF L ts = l ++ crashF (L.drop (i + 1)) (ts.drop (u + 1))) := Lib.hid (by
                rw [HE.out, HDR.out, crashF_cons]
                rw [if_pos HLO.out, HTOR.out, next_drop]
                unfold oneF
                rw [if_pos HZF.out]
                rfl)
              have HOX := Lib.hid (HO.out.kept HB21.out)
              have HBX := Lib.hid (HBO.out.trans (HB21.out.mono HBO.out.size))
              have HBY : Hid (b3 ≤ w21.heap.size) := Lib.hid (Nat.le_trans HBZ.out HB21.out.size)
              obtain ⟨x0, x1, x2⟩ := three_rd HF21.out
              clear hz
              go_wp2_with fail
              go_roundg (ln - (i + 1))
              case measure => omega
              case rel => exact ⟨i + 1, u + 1, _, l, by rw [HWI.out]; rfl, by rw [HWU.out]; rfl, rfl, by omega, by omega, by omega, HOX, HE2, HBX, HS021, HS121, HBY⟩
            · have dz0 : decide ((lf : Int) > 0) = true := decide_eq_true (by omega)
              have dz1 : decide (0 < (lf : Int)) = true := decide_eq_true (by omega)
              have dz2 : decide (0 < lf) = true := decide_eq_true (by omega)
              have dz3 : 0 < lf := by omega
              have HZF : Hid (tf ≠ []) := Lib.hid (fun e => hz (by rw [← HLF.out, e]; rfl))
              have HE2 : Hid (crashF L ts = (l ++ [(q, ⟨tf, lq⟩)]) ++ crashF (L.drop (i + 1)) (ts.drop (u + 1))) := Lib.hid (by
                rw [HE.out, HDR.out, crashF_cons]
                rw [if_pos HLO.out, HTOR.out, next_drop]
                unfold oneF
                rw [if_neg HZF.out, List.append_assoc])
              obtain ⟨hba, -, -⟩ := box1 w21 #[encStr q, .string (str (tf)), .int .i64 ((lq : Nat) : Int)] 45
              have HOA : Hid (OF (w21.alloc (.cells #[encStr q, .string (str (tf)), .int .i64 ((lq : Nat) : Int)] 45)) b3 (.slice av lv cv) l) := Lib.hid ((HO.out.kept HB21.out).kept hba)
              have HBA : Hid (Below w.heap.size w (w21.alloc (.cells #[encStr q, .string (str (tf)), .int .i64 ((lq : Nat) : Int)] 45))) := Lib.hid ((HBO.out.trans (HB21.out.mono HBO.out.size)).trans (hba.mono (Nat.le_trans HBO.out.size HB21.out.size)))
              have HBY : Hid (b3 ≤ w21.heap.size) := Lib.hid (Nat.le_trans HBZ.out HB21.out.size)
              have HBA3 : Hid (b3 ≤ (w21.alloc (.cells #[encStr q, .string (str (tf)), .int .i64 ((lq : Nat) : Int)] 45)).heap.size) := Lib.hid (Nat.le_trans HBY.out hba.size)
              have HCA : Hid (∀ j u, (c1f (q, ⟨tf, lq⟩))[j]? = some u → (w21.alloc (.cells #[encStr q, .string (str (tf)), .int .i64 ((lq : Nat) : Int)] 45)).cell? ((⟨w21.heap.size, 0, none⟩ : Addr).add j) = some u) := Lib.hid (c1f_new w21 q ⟨tf, lq⟩)
              have HSA0 := Lib.hid (ex_below HS021.out hba)
              have HSA1 := Lib.hid (ex_below HS121.out hba)
              have HLL : Hid (l.length ≤ 100000) := Lib.hid (by have h1 := HLV.out; have h2 := crash_len L ts; rw [HE.out, List.length_append] at h2; have := HL.out; omega)
              clear hz hba
              obtain ⟨x0, x1, x2⟩ := three_rd HF21.out
              go_wp2_with (refine append_file rfl (.tmp 62) (.tmp 64) rfl b3 (.slice av lv cv) l (q, ⟨tf, lq⟩) ⟨w21.heap.size, 0, none⟩ 1 rfl rfl HOA.out HCA.out HLL.out HBA3.out ?_; intro v' w' h1 h2 h3; have HO3 := Lib.hid h1; have HB3' := Lib.hid (h3 _ (Below.refl _ _)); have HZ3 := Lib.hid h2; clear h1 h2 h3)
              go_roundg (ln - (i + 1))
              case measure => omega
              case rel =>
                have hbt := HB3'.out
                refine ⟨i + 1, u + 1, _, _, by rw [HWI.out]; rfl, by rw [HWU.out]; rfl, rfl, by omega, by omega, by omega, HO3, HE2, Lib.hid ?_, Lib.hid ?_, Lib.hid ?_, Lib.hid ?_⟩
                · exact HBA.out.trans (hbt.mono HBB3.out.1)
                · exact (hbt.block _ (by have := HBB3.out.2; omega)).trans HSA0.out
                · exact (hbt.block _ HBB3.out.2).trans HSA1.out
                · exact Nat.le_trans HBA3.out HZ3.out
      · have dl0 : decide (f.kept < f.all.length) = false := decide_eq_false hlo
        have dl1 : decide ((f.all.length : Int) > (f.kept : Int)) = false := decide_eq_false (by omega)
        have dl2 : decide ((f.kept : Int) < (f.all.length : Int)) = false := decide_eq_false (by omega)
        have hqs0 : (str f.all).size = f.all.length := str_size _
        have HLO := Lib.hid hlo
        obtain ⟨x0, x1, x2⟩ := three_rd HF10.out
        go_upto_region 16 with fail
        clear dl0 dl1 dl2 hqs0 hlo
        clear x0 x1 x2
        have hqs : (str (f.all)).size = (f.all).length := str_size _
        obtain ⟨lf, hlf⟩ : ∃ lf, (f.all).length = lf := ⟨_, rfl⟩
        rw [hlf] at hqs
        have HLF := Lib.hid hlf
        clear hlf
        by_cases hz : lf = 0
        · have dz0 : decide ((lf : Int) > 0) = false := decide_eq_false (by omega)
          have dz1 : decide (0 < (lf : Int)) = false := decide_eq_false (by omega)
          have dz2 : decide (0 < lf) = false := decide_eq_false (by omega)
          have dz3 : ¬ 0 < lf := by omega
          have HZF : Hid (f.all = []) := Lib.hid (List.length_eq_zero_iff.mp (by rw [HLF.out]; exact hz))
          have HE2 : Hid (crashF L ts = l ++ crashF (L.drop (i + 1)) (ts.drop (u))) := Lib.hid (by
            rw [HE.out, HDR.out, crashF_cons]
            rw [if_neg HLO.out]
            unfold oneF
            rw [if_pos HZF.out]
            rfl)
          have HOX := Lib.hid (HO.out.kept HB10.out)
          have HBX := Lib.hid (HBO.out.trans (HB10.out.mono HBO.out.size))
          have HBY : Hid (b3 ≤ w10.heap.size) := Lib.hid (Nat.le_trans HBZ.out HB10.out.size)
          obtain ⟨x0, x1, x2⟩ := three_rd HF10.out
          clear hz
          go_wp2_with fail
          go_roundg (ln - (i + 1))
          case measure => omega
          case rel => exact ⟨i + 1, u, _, l, by rw [HWI.out]; rfl, rfl, rfl, by omega, by omega, by omega, HOX, HE2, HBX, HS010, HS110, HBY⟩
        · have dz0 : decide ((lf : Int) > 0) = true := decide_eq_true (by omega)
          have dz1 : decide (0 < (lf : Int)) = true := decide_eq_true (by omega)
          have dz2 : decide (0 < lf) = true := decide_eq_true (by omega)
          have dz3 : 0 < lf := by omega
          have HZF : Hid (f.all ≠ []) := Lib.hid (fun e => hz (by rw [← HLF.out, e]; rfl))
          have HE2 : Hid (crashF L ts = (l ++ [(q, ⟨f.all, f.kept⟩)]) ++ crashF (L.drop (i + 1)) (ts.drop (u))) := Lib.hid (by
            rw [HE.out, HDR.out, crashF_cons]
            rw [if_neg HLO.out]
            unfold oneF
            rw [if_neg HZF.out, List.append_assoc])
          obtain ⟨hba, -, -⟩ := box1 w10 #[encStr q, .string (str (f.all)), .int .i64 ((f.kept : Nat) : Int)] 45
          have HOA : Hid (OF (w10.alloc (.cells #[encStr q, .string (str (f.all)), .int .i64 ((f.kept : Nat) : Int)] 45)) b3 (.slice av lv cv) l) := Lib.hid ((HO.out.kept HB10.out).kept hba)
          have HBA : Hid (Below w.heap.size w (w10.alloc (.cells #[encStr q, .string (str (f.all)), .int .i64 ((f.kept : Nat) : Int)] 45))) := Lib.hid ((HBO.out.trans (HB10.out.mono HBO.out.size)).trans (hba.mono (Nat.le_trans HBO.out.size HB10.out.size)))
          have HBY : Hid (b3 ≤ w10.heap.size) := Lib.hid (Nat.le_trans HBZ.out HB10.out.size)
          have HBA3 : Hid (b3 ≤ (w10.alloc (.cells #[encStr q, .string (str (f.all)), .int .i64 ((f.kept : Nat) : Int)] 45)).heap.size) := Lib.hid (Nat.le_trans HBY.out hba.size)
          have HCA : Hid (∀ j u, (c1f (q, ⟨f.all, f.kept⟩))[j]? = some u → (w10.alloc (.cells #[encStr q, .string (str (f.all)), .int .i64 ((f.kept : Nat) : Int)] 45)).cell? ((⟨w10.heap.size, 0, none⟩ : Addr).add j) = some u) := Lib.hid (c1f_new w10 q ⟨f.all, f.kept⟩)
          have HSA0 := Lib.hid (ex_below HS010.out hba)
          have HSA1 := Lib.hid (ex_below HS110.out hba)
          have HLL : Hid (l.length ≤ 100000) := Lib.hid (by have h1 := HLV.out; have h2 := crash_len L ts; rw [HE.out, List.length_append] at h2; have := HL.out; omega)
          clear hz hba
          obtain ⟨x0, x1, x2⟩ := three_rd HF10.out
          go_wp2_with (refine append_file rfl (.tmp 62) (.tmp 64) rfl b3 (.slice av lv cv) l (q, ⟨f.all, f.kept⟩) ⟨w10.heap.size, 0, none⟩ 1 rfl rfl HOA.out HCA.out HLL.out HBA3.out ?_; intro v' w' h1 h2 h3; have HO3 := Lib.hid h1; have HB3' := Lib.hid (h3 _ (Below.refl _ _)); have HZ3 := Lib.hid h2; clear h1 h2 h3)
          go_roundg (ln - (i + 1))
          case measure => omega
          case rel =>
            have hbt := HB3'.out
            refine ⟨i + 1, u, _, _, by rw [HWI.out]; rfl, rfl, rfl, by omega, by omega, by omega, HO3, HE2, Lib.hid ?_, Lib.hid ?_, Lib.hid ?_, Lib.hid ?_⟩
            · exact HBA.out.trans (hbt.mono HBB3.out.1)
            · exact (hbt.block _ (by have := HBB3.out.2; omega)).trans HSA0.out
            · exact (hbt.block _ HBB3.out.2).trans HSA1.out
            · exact Nat.le_trans HBA3.out HZ3.out
    · have hltz : ¬ (i : Int) < (ln : Int) := by omega
      obtain rfl : i = ln := by omega
      have HEE : Hid (l = crashF L ts) := Lib.hid (by
        rw [HE.out, List.drop_eq_nil_of_le (by rw [HLN.out]; exact Nat.le_refl _)]
        unfold crashF
        rw [List.append_nil])
      have HB9 := HBO
      have hnn := HN.out
      have HOQ : Hid (OF w9 b3 (.slice av lv cv) l) := HO
      have HOQb : Hid (N + 1 < b3) := Lib.hid HBB3.out.2
      clear hnn HE HLV hk hi hui hlt
      obtain ⟨c0, c1, c2, c3, c4⟩ := five_rd HS09.out
      have fHS0 : ∀ o, w9.frozen? ⟨N, o, none⟩ = false := fun o => by simp [World.frozen?, HS09.out]
      have hNN := HN.out
      have hZZ := HZ.out
      have HQ_HS0 : Hid ((w9.setCell ⟨N, 1, none⟩ (.slice av lv cv)).heap[N]? = some (.cells #[.int .i64 room, .slice av lv cv, .bool true, .int .i64 (-1), .int .u64 st] 30 (0, 0))) := Lib.hid (by rw [heap_setCell_same w9 _ 1 _ _ _ HS09.out]; simp)
      have HQ_HS1 : Hid ((w9.setCell ⟨N, 1, none⟩ (.slice av lv cv)).heap[N + 1]? = some (.cells #[.int .i64 0, .slice none 0 0, .bool false, .int .i64 0, .int .u64 0] 30 (0, 0))) := Lib.hid ((Below.heap_setCell _ _ _ _ (show N + 1 ≠ N by omega)).trans (HS19.out))
      have HQB := Lib.hid (below_two (HB9.out) (show w.heap.size ≤ N by omega) 1 (.slice av lv cv))
      have HQO := Lib.hid (OF.set (HOQ.out) (p := ⟨N, 1, none⟩) (show N < _ by have := HOQb.out; omega) (.slice av lv cv))
      clear hNN hZZ
      go_upto_region 19 with fail
      generalize (w9.setCell ⟨N, 1, none⟩ (.slice av lv cv)) = w10 at HQ_HS0 HQ_HS1 HQB HQO ⊢
      have HS010 := HQ_HS0
      have HS110 := HQ_HS1
      have HB10 := HQB
      have HOQ := HQO
      clear HQ_HS0 HQ_HS1 HQB HQO HS09 HS19 HB9
      clear c0 c1 c2 c3 c4
      clear fHS0
      obtain ⟨c0, c1, c2, c3, c4⟩ := five_rd HS010.out
      obtain ⟨p0, p1, p2, p3, p4⟩ := five_rd HS110.out
      have fHS0 : ∀ o, w10.frozen? ⟨N, o, none⟩ = false := fun o => by simp [World.frozen?, HS010.out]
      have fHS1 : ∀ o, w10.frozen? ⟨N + 1, o, none⟩ = false := fun o => by simp [World.frozen?, HS110.out]
      go_wp2_with fail
      refine bodyPost_ret (rd_res1 rfl _ _ (N + 1) (.int .i64 room) (.slice av lv cv) (.bool true) (.int .i64 (-1)) (.int .u64 st) rfl (by go_simp) (by go_simp) (by go_simp) (by go_simp) (by go_simp)) rfl ?_
      have hN := HN.out
      refine ⟨_, rfl, ?_, ?_⟩
      · rw [← HEE.out]
        have hb3 := HBB3.out
        exact OF.mono (OF.set (OF.set (OF.set (OF.set (OF.set (HOQ.out) (by show N + 1 < _; omega) _) (by show N + 1 < _; omega) _) (by show N + 1 < _; omega) _) (by show N + 1 < _; omega) _) (by show N + 1 < _; omega) _) hb3.1
      · exact below_two (below_two (below_two (below_two (below_two (HB10.out) (by omega) _ _) (by omega) _ _) (by omega) _ _) (by omega) _ _) (by omega) _ _
end Go.Proofs.Ythkjjpkipeeimaa
