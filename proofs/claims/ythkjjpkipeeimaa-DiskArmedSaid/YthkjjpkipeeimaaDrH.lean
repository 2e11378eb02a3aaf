/- The reference's disk: with a file. -/
import Derived.Test.YthkjjpkipeeimaaMmG
import Derived.Sort.Walk0
import Derived.BigQuiet
namespace Go.Proofs.Ythkjjpkipeeimaa
open Go.RowKit Go.Maps
theorem inF_none : ∀ {T : Ft} {x : Nm × Fl}, (∀ p ∈ T, ¬ x.1 < p.1) → ∀ R, inF x (T ++ R) = T ++ inF x R
  | [], _, _, _ => rfl
  | p :: r, x, h, R => by
    rw [List.cons_append, inF_cons, if_neg (h p List.mem_cons_self), inF_none (fun p hp => h p (List.mem_cons_of_mem _ hp)) R, List.cons_append]
theorem inF_some : ∀ {T : Ft} {x : Nm × Fl}, (∃ p ∈ T, x.1 < p.1) → ∀ R, inF x (T ++ R) = inF x T ++ R
  | [], _, h, _ => by obtain ⟨p, hp, -⟩ := h; cases hp
  | p :: r, x, h, R => by
    rw [List.cons_append, inF_cons, inF_cons]
    by_cases hl : x.1 < p.1
    · rw [if_pos hl, if_pos hl]; rfl
    · rw [if_neg hl, if_neg hl, inF_some (T := r) (by
        obtain ⟨p2, hp2, h2⟩ := h
        rcases List.mem_cons.1 hp2 with rfl | hp2
        · exact absurd h2 hl
        · exact ⟨p2, hp2, h2⟩) R]
      rfl
/-- What is collected of T, whether the file is in it yet. -/
def Seen (x : Nm × Fl) (T : Ft) (db : Bool) (l : Ft) : Prop := (db = false ∧ l = T ∧ ∀ p ∈ T, ¬ x.1 < p.1) ∨ (db = true ∧ l = inF x T ∧ ∃ p ∈ T, x.1 < p.1)
theorem Seen.old {x p : Nm × Fl} {T l : Ft} (h : Seen x T true l) : Seen x (T ++ [p]) true (l ++ [p]) := by
  rcases h with ⟨h, -⟩ | ⟨-, rfl, h⟩
  · cases h
  · exact .inr ⟨rfl, (inF_some h [p]).symm, by obtain ⟨q, hq, h2⟩ := h; exact ⟨q, List.mem_append_left _ hq, h2⟩⟩
theorem Seen.skip {x p : Nm × Fl} {T l : Ft} (h : Seen x T false l) (hl : ¬ x.1 < p.1) : Seen x (T ++ [p]) false (l ++ [p]) := by
  rcases h with ⟨-, rfl, h⟩ | ⟨h, -⟩
  · exact .inl ⟨rfl, rfl, fun q hq => by
      rcases List.mem_append.1 hq with hq | hq
      · exact h q hq
      · rw [List.mem_singleton.1 hq]; exact hl⟩
  · cases h
theorem Seen.now {x p : Nm × Fl} {T l : Ft} (h : Seen x T false l) (hl : x.1 < p.1) : Seen x (T ++ [p]) true ((l ++ [x]) ++ [p]) := by
  rcases h with ⟨-, rfl, h⟩ | ⟨h, -⟩
  · refine .inr ⟨rfl, ?_, ⟨p, List.mem_append_right _ List.mem_cons_self, hl⟩⟩
    rw [inF_none h [p], inF_cons, if_pos hl, List.append_assoc]
    rfl
  · cases h
theorem Seen.fin {x : Nm × Fl} {T l : Ft} {db : Bool} (h : Seen x T db l) : inF x T = if db then l else l ++ [x] := by
  rcases h with ⟨rfl, rfl, h⟩ | ⟨rfl, rfl, h⟩
  · have := inF_none h []
    rw [List.append_nil] at this
    exact this
  · rfl
theorem set5 {w : World} {N : Nat} {x0 x1 x2 x3 x4 : Value} {t : TypeId} (h : w.heap[N]? = some (.cells #[x0, x1, x2, x3, x4] t (0, 0))) (y0 y1 y2 y3 y4 : Value) : (((((w.setCell ⟨N, 0, none⟩ y0).setCell ⟨N, 1, none⟩ y1).setCell ⟨N, 2, none⟩ y2).setCell ⟨N, 3, none⟩ y3).setCell ⟨N, 4, none⟩ y4).heap[N]? = some (.cells #[y0, y1, y2, y3, y4] t (0, 0)) := by
  have e0 := heap_setCell_same w N 0 _ _ y0 h
  have e1 := heap_setCell_same _ N 1 _ _ y1 e0
  have e2 := heap_setCell_same _ N 2 _ _ y2 e1
  have e3 := heap_setCell_same _ N 3 _ _ y3 e2
  have e4 := heap_setCell_same _ N 4 _ _ y4 e3
  rw [e4]
  simp
theorem set5_out {w : World} {N b : Nat} (hb : b ≠ N) (y0 y1 y2 y3 y4 : Value) : (((((w.setCell ⟨N, 0, none⟩ y0).setCell ⟨N, 1, none⟩ y1).setCell ⟨N, 2, none⟩ y2).setCell ⟨N, 3, none⟩ y3).setCell ⟨N, 4, none⟩ y4).heap[b]? = w.heap[b]? :=
  (Below.heap_setCell _ _ _ _ (by exact hb)).trans ((Below.heap_setCell _ _ _ _ (by exact hb)).trans ((Below.heap_setCell _ _ _ _ (by exact hb)).trans ((Below.heap_setCell _ _ _ _ (by exact hb)).trans (Below.heap_setCell _ _ _ _ (by exact hb)))))
theorem c1f_new (w : World) (q : Nm) (f : Fl) : ∀ j u, (c1f (q, f))[j]? = some u → (w.alloc (.cells #[encStr q, .string (str f.all), .int .i64 (f.kept : Int)] 45)).cell? ((⟨w.heap.size, 0, none⟩ : Addr).add j) = some u := fun j u hj => by
  obtain ⟨-, s2, -⟩ := box1 w #[encStr q, .string (str f.all), .int .i64 (f.kept : Int)] 45
  rw [add_at, Nat.zero_add]
  rcases j with _ | _ | _ | j
  · injection hj with hj; subst hj; exact (three_rd s2).1
  · injection hj with hj; subst hj; exact (three_rd s2).2.1
  · injection hj with hj; subst hj; exact (three_rd s2).2.2
  · cases hj
set_option maxRecDepth 100000 in
set_option maxHeartbeats 8000000 in
theorem rwith (room : Int) (a : Option Addr) (c : Nat) (down : Bool) (armed st : Int) (L : Ft) (xn : Nm) (xf : Fl) (w : World) (h : FRow w a L) (hl : L.length ≤ 1000) : Calls Try.prog 110 #[.agg #[.int .i64 room, .slice a L.length c, .bool down, .int .i64 armed, .int .u64 st], .agg #[encStr xn, .string (str xf.all), .int .i64 (xf.kept : Int)]] w fun e w' => ∃ v, e = .returned (.agg #[.int .i64 room, v, .bool down, .int .i64 armed, .int .u64 st]) ∧ OF w' w.heap.size v (inF (xn, xf) (woF L xn)) ∧ Below w.heap.size w w' := by
  obtain ⟨ln, hln⟩ : ∃ ln, L.length = ln := ⟨_, rfl⟩
  have HLN := Lib.hid hln
  obtain ⟨B1, s0, sx, s1, hz⟩ := box3 w #[.int .i64 room, .slice a ln c, .bool down, .int .i64 armed, .int .u64 st] #[encStr xn, .string (str xf.all), .int .i64 (xf.kept : Int)] #[.int .i64 0, .slice none 0 0, .bool false, .int .i64 0, .int .u64 0] 30 45 30
  have HR1 := Lib.hid (h.below B1)
  have HB := Lib.hid B1
  have HS0 := Lib.hid s0
  have HSX := Lib.hid sx
  have HS1 := Lib.hid s1
  have HZ := Lib.hid hz
  have HL := Lib.hid hl
  obtain ⟨c0, c1, c2, c3, c4⟩ := five_rd s0
  obtain ⟨x0, x1, x2⟩ := three_rd sx
  rw [hln]
  clear h B1 s0 sx s1 hz hl hln
  go_enter Try.func110, Try.ntmps110
  go_upto_region 1 with fail
  obtain ⟨N, hN⟩ : ∃ N, w.heap.size = N := ⟨_, rfl⟩
  have HN := Lib.hid hN
  rw [hN] at HS0 HSX HS1 HZ c0 c1 c2 c3 c4 x0 x1 x2
  try rw [hN]
  clear hN
  generalize ((w.alloc (.cells #[.int .i64 room, .slice a ln c, .bool down, .int .i64 armed, .int .u64 st] 30)).alloc (.cells #[encStr xn, .string (str xf.all), .int .i64 (xf.kept : Int)] 45)).alloc (.cells #[.int .i64 0, .slice none 0 0, .bool false, .int .i64 0, .int .u64 0] 30) = w1 at HS0 HSX HS1 HB HZ HR1 c0 c1 c2 c3 c4 x0 x1 x2 ⊢
  have HWO := Lib.hid (rwithout room a c down armed st L xn w1 HR1.out (by have := HL.out; omega))
  have hln := HLN.out
  rw [hln] at HWO
  clear hln
  go_wp2_with fail
  refine HWO.out.mono ?_
  rintro e w2 ⟨v0, rfl, ho, hb⟩
  obtain ⟨a2, k2, hv, hrow⟩ := ho.row
  obtain ⟨W, hW⟩ : ∃ W, woF L xn = W := ⟨_, rfl⟩
  have HWW := Lib.hid hW
  have hwl := woF_len L xn
  rw [hW] at ho hrow hv hwl
  obtain ⟨lw, hlw⟩ : ∃ lw, W.length = lw := ⟨_, rfl⟩
  rw [hlw] at hv hwl
  subst hv
  have HLW := Lib.hid hlw
  have HWL : Hid (lw ≤ 1000) := Lib.hid (by have := HL.out; omega)
  have s0 := ex_below HS0.out hb
  have sx := ex_below HSX.out hb
  have s1 := ex_below HS1.out hb
  have HS03 := Lib.hid (set5 s0 (.int .i64 room) (.slice a2 lw k2) (.bool down) (.int .i64 armed) (.int .u64 st))
  have HSXc := Lib.hid ((set5_out (w := w2) (N := N) (b := N + 1) (by omega) (.int .i64 room) (.slice a2 lw k2) (.bool down) (.int .i64 armed) (.int .u64 st)).trans sx)
  have HS13 := Lib.hid ((set5_out (w := w2) (N := N) (b := N + 1 + 1) (by omega) (.int .i64 room) (.slice a2 lw k2) (.bool down) (.int .i64 armed) (.int .u64 st)).trans s1)
  have hN := HN.out
  have hz := HZ.out
  have HO3 := Lib.hid (((((ho.set (p := ⟨N, 0, none⟩) (by show N < _; omega) (.int .i64 room)).set (p := ⟨N, 1, none⟩) (by show N < _; omega) (.slice a2 lw k2)).set (p := ⟨N, 2, none⟩) (by show N < _; omega) (.bool down)).set (p := ⟨N, 3, none⟩) (by show N < _; omega) (.int .i64 armed)).set (p := ⟨N, 4, none⟩) (by show N < _; omega) (.int .u64 st))
  have hb2 := HB.out.trans (hb.mono HB.out.size)
  have hN2 : w.heap.size ≤ N := by omega
  have HB3 := Lib.hid (below_two (below_two (below_two (below_two (below_two hb2 hN2 0 (.int .i64 room)) hN2 1 (.slice a2 lw k2)) hN2 2 (.bool down)) hN2 3 (.int .i64 armed)) hN2 4 (.int .u64 st))
  obtain ⟨c0, c1, c2, c3, c4⟩ := five_rd s0
  have f0 : ∀ o, w2.frozen? ⟨N, o, none⟩ = false := fun o => by simp [World.frozen?, s0]
  have HW2 : Hid (w1.heap.size ≤ w2.heap.size) := Lib.hid hb.size
  clear ho hrow hb hb2 s0 sx s1 hW hlw hwl HWO hN hz hN2
  go_upto_region 2 with fail
  generalize ((((w2.setCell ⟨N, 0, none⟩ (.int .i64 room)).setCell ⟨N, 1, none⟩ (.slice a2 lw k2)).setCell ⟨N, 2, none⟩ (.bool down)).setCell ⟨N, 3, none⟩ (.int .i64 armed)).setCell ⟨N, 4, none⟩ (.int .u64 st) = w3 at HS03 HSXc HS13 HO3 HB3 ⊢
  clear c0 c1 c2 c3 c4 f0 x0 x1 x2
  go_wp2_with fail
  have HRW : Hid (FRow w3 a2 W) := Lib.hid (by
    obtain ⟨a', c', e, hr⟩ := HO3.out.row
    injection e with e1
    subst e1
    exact hr)
  clear HS0 HSX HS1 HR1 HB HO3 c0 c1 c2 c3 c4
  go_loopg [5, 6, 7] lw (fun kx s5 s6 s7 wr => ∃ (i : Nat) (v : Value) (db : Bool) (l : Ft), s7 = .int .i64 i ∧ v = s5 ∧ s6 = .bool db ∧ i ≤ lw ∧ lw - i ≤ kx ∧ Hid (OF wr w3.heap.size v l) ∧ Hid (Seen (xn, xf) (W.take i) db l ∧ l.length ≤ i + 1) ∧ Hid (Below w3.heap.size w3 wr))
  case atStart => exact ⟨0, _, false, [], rfl, rfl, rfl, by omega, by omega, Lib.hid (OF.nil _ _), Lib.hid ⟨.inl ⟨rfl, rfl, fun p hp => by cases hp⟩, by simp⟩, Lib.hid (Below.refl _ _)⟩
  case round =>
    obtain ⟨i, v, db, l, rfl, rfl, rfl, hi, hk, HO, HSE, HBR⟩ := hrel
    have s0' := ex_below HS03.out HBR.out
    have sx' := ex_below HSXc.out HBR.out
    obtain ⟨c0, c1, c2, c3, c4⟩ := five_rd s0'
    obtain ⟨x0, x1, x2⟩ := three_rd sx'
    obtain ⟨av, cv, hv, -⟩ := HO.out.row
    obtain ⟨lv, hlv⟩ : ∃ lv, l.length = lv := ⟨_, rfl⟩
    rw [hlv] at hv
    subst hv
    by_cases hlt : i < lw
    · have hltz : (i : Int) < (lw : Int) := by omega
      have hi0 : (0 : Int) ≤ (i : Int) := by omega
      have hiW : i < W.length := by rw [HLW.out]; exact hlt
      obtain ⟨b, o, rfl, hb, k0, k1, k2'⟩ := (HRW.out.below HBR.out) i hiW
      obtain ⟨p, hp⟩ : ∃ p, W[i] = p := ⟨_, rfl⟩
      obtain ⟨q, f⟩ := p
      rw [hp] at k0 k1 k2'
      dsimp only at k0 k1 k2'
      have HWI : Hid (wrap64 ((i : Int) + 1) = (i : Int) + 1) := Lib.hid (IntWalk.wrap64_in _ (by have := HWL.out; omega))
      have HTK : Hid (W.take (i + 1) = W.take i ++ [(q, f)]) := Lib.hid (by rw [List.take_succ_eq_append_getElem hiW, hp])
      have HKK : Hid (∀ W2, Below w3.heap.size w3 W2 → W2.cell? ⟨b, o + i * 3, none⟩ = some (encStr q) ∧ W2.cell? ⟨b, o + i * 3 + 1, none⟩ = some (.string (str f.all)) ∧ W2.cell? ⟨b, o + i * 3 + 2, none⟩ = some (.int .i64 (f.kept : Int))) := Lib.hid (fun W2 hW2 => by
        obtain ⟨b', o', e', -, j0, j1, j2⟩ := (HRW.out.below hW2) i hiW
        injection e' with e'
        injection e' with e1 e2
        subst e1 e2
        rw [hp] at j0 j1 j2
        exact ⟨j0, j1, j2⟩)
      clear hp hb s0' sx' hlv
      cases db with
      | true =>
        go_wp2_with fail
        go_quiet (fail)
        obtain ⟨wd, hwd⟩ : ∃ wd, wr.drewN nq = wd := ⟨_, rfl⟩
        have HOd : Hid (OF wd w3.heap.size (.slice av lv cv) l) := Lib.hid (by rw [← hwd]; exact HO.out)
        have HBd : Hid (Below w3.heap.size w3 wd) := Lib.hid (by rw [← hwd]; exact HBR.out.trans ⟨rfl, rfl, rfl, Nat.le_refl _, fun _ _ => rfl⟩)
        rw [hwd]
        clear hwd HO HBR c0 c1 c2 c3 c4 x0 x1 x2 k0 k1 k2'
        obtain ⟨c0, c1, c2, c3, c4⟩ := five_rd (ex_below HS03.out HBd.out)
        obtain ⟨x0, x1, x2⟩ := three_rd (ex_below HSXc.out HBd.out)
        have k0 := (HKK.out wd HBd.out).1
        have k1 := (HKK.out wd HBd.out).2.1
        have k2' := (HKK.out wd HBd.out).2.2
        obtain ⟨B2, s2, -⟩ := box1 wd #[encStr q, .string (str f.all), .int .i64 (f.kept : Int)] 45
        have HOA1 : Hid (OF (wd.alloc (.cells #[encStr q, .string (str f.all), .int .i64 (f.kept : Int)] 45)) w3.heap.size (.slice av lv cv) l) := Lib.hid (HOd.out.kept B2)
        have HBA1 : Hid (Below w3.heap.size w3 (wd.alloc (.cells #[encStr q, .string (str f.all), .int .i64 (f.kept : Int)] 45))) := Lib.hid (HBd.out.trans (B2.mono HBd.out.size))
        have HCA1 : Hid (∀ j u, (c1f (q, f))[j]? = some u → (wd.alloc (.cells #[encStr q, .string (str f.all), .int .i64 (f.kept : Int)] 45)).cell? ((⟨wd.heap.size, 0, none⟩ : Addr).add j) = some u) := Lib.hid (fun j u hj => by
          rw [add_at, Nat.zero_add]
          rcases j with _ | _ | _ | j
          · injection hj with hj; subst hj; exact (three_rd s2).1
          · injection hj with hj; subst hj; exact (three_rd s2).2.1
          · injection hj with hj; subst hj; exact (three_rd s2).2.2
          · cases hj)
        have HLV1 : Hid ((l).length ≤ 100000) := Lib.hid (by have := HSE.out.2; have := HWL.out; (try simp only [List.length_append, List.length_singleton]); omega)
        clear B2 s2
        go_wp2_with (refine append_file rfl (.tmp 36) (.tmp 42) rfl w3.heap.size (.slice av lv cv) (l) (q, f) ⟨wd.heap.size, 0, none⟩ 1 rfl rfl HOA1.out HCA1.out HLV1.out HBA1.out.size ?_; intro v1 wa1 h1 h2 h3; have HOr1 := Lib.hid h1; have HBr1 := Lib.hid (h3 _ HBA1.out); clear h1 h2 h3)
        go_roundg (lw - (i + 1))
        case measure => omega
        case rel => exact ⟨i + 1, _, true, _, by rw [HWI.out]; rfl, rfl, rfl, by omega, by omega, HOr1, Lib.hid ⟨by rw [HTK.out]; exact HSE.out.1.old, by have := HSE.out.2; rw [List.length_append, List.length_singleton]; omega⟩, HBr1⟩
      | false =>
        by_cases hx : xn < q
        · have hls : Op.bytesLess xn q = true := by rw [bytesLess_eq]; exact decide_eq_true hx
          go_wp2_with fail
          go_quiet (fail)
          obtain ⟨wd, hwd⟩ : ∃ wd, wr.drewN nq = wd := ⟨_, rfl⟩
          have HOd : Hid (OF wd w3.heap.size (.slice av lv cv) l) := Lib.hid (by rw [← hwd]; exact HO.out)
          have HBd : Hid (Below w3.heap.size w3 wd) := Lib.hid (by rw [← hwd]; exact HBR.out.trans ⟨rfl, rfl, rfl, Nat.le_refl _, fun _ _ => rfl⟩)
          rw [hwd]
          clear hwd HO HBR c0 c1 c2 c3 c4 x0 x1 x2 k0 k1 k2'
          obtain ⟨c0, c1, c2, c3, c4⟩ := five_rd (ex_below HS03.out HBd.out)
          obtain ⟨x0, x1, x2⟩ := three_rd (ex_below HSXc.out HBd.out)
          have k0 := (HKK.out wd HBd.out).1
          have k1 := (HKK.out wd HBd.out).2.1
          have k2' := (HKK.out wd HBd.out).2.2
          obtain ⟨B2, s2, -⟩ := box1 wd #[encStr xn, .string (str xf.all), .int .i64 (xf.kept : Int)] 45
          have HOA1 : Hid (OF (wd.alloc (.cells #[encStr xn, .string (str xf.all), .int .i64 (xf.kept : Int)] 45)) w3.heap.size (.slice av lv cv) l) := Lib.hid (HOd.out.kept B2)
          have HBA1 : Hid (Below w3.heap.size w3 (wd.alloc (.cells #[encStr xn, .string (str xf.all), .int .i64 (xf.kept : Int)] 45))) := Lib.hid (HBd.out.trans (B2.mono HBd.out.size))
          have HCA1 : Hid (∀ j u, (c1f (xn, xf))[j]? = some u → (wd.alloc (.cells #[encStr xn, .string (str xf.all), .int .i64 (xf.kept : Int)] 45)).cell? ((⟨wd.heap.size, 0, none⟩ : Addr).add j) = some u) := Lib.hid (fun j u hj => by
            rw [add_at, Nat.zero_add]
            rcases j with _ | _ | _ | j
            · injection hj with hj; subst hj; exact (three_rd s2).1
            · injection hj with hj; subst hj; exact (three_rd s2).2.1
            · injection hj with hj; subst hj; exact (three_rd s2).2.2
            · cases hj)
          have HLV1 : Hid ((l).length ≤ 100000) := Lib.hid (by have := HSE.out.2; have := HWL.out; (try simp only [List.length_append, List.length_singleton]); omega)
          clear B2 s2
          have HLV2 : Hid ((l ++ [(xn, xf)]).length ≤ 100000) := Lib.hid (by have := HSE.out.2; have := HWL.out; rw [List.length_append, List.length_singleton]; omega)
          go_wp2_with (first
            | (refine append_file rfl (.tmp 32) (.tmp 34) rfl w3.heap.size (.slice av lv cv) (l) (xn, xf) ⟨wd.heap.size, 0, none⟩ 1 rfl rfl HOA1.out HCA1.out HLV1.out HBA1.out.size ?_; intro v1 wa1 h1 h2 h3; have HOr1 := Lib.hid h1; have HBr1 := Lib.hid (h3 _ HBA1.out); clear h1 h2 h3; obtain ⟨e0, e1, e2, e3, e4⟩ := five_rd (ex_below HS03.out HBr1.out); have j0 := (HKK.out wa1 HBr1.out).1; have j1 := (HKK.out wa1 HBr1.out).2.1; have j2 := (HKK.out wa1 HBr1.out).2.2; have HOA2 := Lib.hid (HOr1.out.kept (box1 wa1 #[encStr q, .string (str f.all), .int .i64 (f.kept : Int)] 45).1); have HBA2 := Lib.hid (HBr1.out.trans ((box1 wa1 #[encStr q, .string (str f.all), .int .i64 (f.kept : Int)] 45).1.mono HBr1.out.size)))
            | (refine append_file rfl (.tmp 36) (.tmp 42) rfl w3.heap.size v1 (l ++ [(xn, xf)]) (q, f) ⟨wa1.heap.size, 0, none⟩ 1 rfl rfl HOA2.out (c1f_new wa1 q f) HLV2.out HBA2.out.size ?_; intro v2 wa2 h1 h2 h3; have HOr2 := Lib.hid h1; have HBr2 := Lib.hid (h3 _ HBA2.out); clear h1 h2 h3))
          go_roundg (lw - (i + 1))
          case measure => omega
          case rel => exact ⟨i + 1, _, true, _, by rw [HWI.out]; rfl, rfl, rfl, by omega, by omega, HOr2, Lib.hid ⟨by rw [HTK.out]; exact HSE.out.1.now hx, by have h7 := HSE.out.1; rcases h7 with ⟨-, h7, -⟩ | ⟨h7, -⟩; rw [h7, List.length_append, List.length_append, List.length_singleton, List.length_singleton, List.length_take]; omega; cases h7⟩, HBr2⟩
        · have hls : Op.bytesLess xn q = false := by rw [bytesLess_eq]; exact decide_eq_false hx
          go_wp2_with fail
          go_quiet (fail)
          obtain ⟨wd, hwd⟩ : ∃ wd, wr.drewN nq = wd := ⟨_, rfl⟩
          have HOd : Hid (OF wd w3.heap.size (.slice av lv cv) l) := Lib.hid (by rw [← hwd]; exact HO.out)
          have HBd : Hid (Below w3.heap.size w3 wd) := Lib.hid (by rw [← hwd]; exact HBR.out.trans ⟨rfl, rfl, rfl, Nat.le_refl _, fun _ _ => rfl⟩)
          rw [hwd]
          clear hwd HO HBR c0 c1 c2 c3 c4 x0 x1 x2 k0 k1 k2'
          obtain ⟨c0, c1, c2, c3, c4⟩ := five_rd (ex_below HS03.out HBd.out)
          obtain ⟨x0, x1, x2⟩ := three_rd (ex_below HSXc.out HBd.out)
          have k0 := (HKK.out wd HBd.out).1
          have k1 := (HKK.out wd HBd.out).2.1
          have k2' := (HKK.out wd HBd.out).2.2
          obtain ⟨B2, s2, -⟩ := box1 wd #[encStr q, .string (str f.all), .int .i64 (f.kept : Int)] 45
          have HOA1 : Hid (OF (wd.alloc (.cells #[encStr q, .string (str f.all), .int .i64 (f.kept : Int)] 45)) w3.heap.size (.slice av lv cv) l) := Lib.hid (HOd.out.kept B2)
          have HBA1 : Hid (Below w3.heap.size w3 (wd.alloc (.cells #[encStr q, .string (str f.all), .int .i64 (f.kept : Int)] 45))) := Lib.hid (HBd.out.trans (B2.mono HBd.out.size))
          have HCA1 : Hid (∀ j u, (c1f (q, f))[j]? = some u → (wd.alloc (.cells #[encStr q, .string (str f.all), .int .i64 (f.kept : Int)] 45)).cell? ((⟨wd.heap.size, 0, none⟩ : Addr).add j) = some u) := Lib.hid (fun j u hj => by
            rw [add_at, Nat.zero_add]
            rcases j with _ | _ | _ | j
            · injection hj with hj; subst hj; exact (three_rd s2).1
            · injection hj with hj; subst hj; exact (three_rd s2).2.1
            · injection hj with hj; subst hj; exact (three_rd s2).2.2
            · cases hj)
          have HLV1 : Hid ((l).length ≤ 100000) := Lib.hid (by have := HSE.out.2; have := HWL.out; (try simp only [List.length_append, List.length_singleton]); omega)
          clear B2 s2
          go_wp2_with (refine append_file rfl (.tmp 36) (.tmp 42) rfl w3.heap.size (.slice av lv cv) (l) (q, f) ⟨wd.heap.size, 0, none⟩ 1 rfl rfl HOA1.out HCA1.out HLV1.out HBA1.out.size ?_; intro v1 wa1 h1 h2 h3; have HOr1 := Lib.hid h1; have HBr1 := Lib.hid (h3 _ HBA1.out); clear h1 h2 h3)
          go_roundg (lw - (i + 1))
          case measure => omega
          case rel => exact ⟨i + 1, _, false, _, by rw [HWI.out]; rfl, rfl, rfl, by omega, by omega, HOr1, Lib.hid ⟨by rw [HTK.out]; exact HSE.out.1.skip hx, by have := HSE.out.2; rw [List.length_append, List.length_singleton]; omega⟩, HBr1⟩
    · have hltz : ¬ (i : Int) < (lw : Int) := by omega
      obtain rfl : i = lw := by omega
      have hTK : W.take i = W := List.take_of_length_le (by rw [HLW.out]; exact Nat.le_refl _)
      have hF := HSE.out.1.fin
      rw [hTK] at hF
      have HLB : Hid (l.length ≤ 100000) := Lib.hid (by have := HSE.out.2; have := HWL.out; omega)
      have HW32 : Hid (N + 1 + 1 < w3.heap.size) := Lib.hid (ex_lt HS13.out)
      clear hTK hlv hi hk
      cases db with
      | true =>
        have HFIN : Hid (inF (xn, xf) W = l) := Lib.hid hF
        have s1' := ex_below HS13.out HBR.out
        obtain ⟨p0, p1, p2, p3, p4⟩ := five_rd s1'
        have f0 : ∀ o, wr.frozen? ⟨N, o, none⟩ = false := fun o => by simp [World.frozen?, s0']
        have f1 : ∀ o, wr.frozen? ⟨N + 1 + 1, o, none⟩ = false := fun o => by simp [World.frozen?, s1']
        clear s0' sx' s1' hF
        go_wp2_with fail
        refine bodyPost_ret (rd_res1 rfl _ _ (N + 1 + 1) (.int .i64 room) (.slice av lv cv) (.bool down) (.int .i64 armed) (.int .u64 st) rfl (by go_simp) (by go_simp) (by go_simp) (by go_simp) (by go_simp)) rfl ?_
        have hN := HN.out
        have hz := HZ.out
        have h32 := HW32.out
        have ho := HO.out
        refine ⟨_, rfl, ?_, ?_⟩
        · rw [HWW.out, HFIN.out]
          exact ((((((ho.set (by show N < _; omega) _).set (by show N + 1 + 1 < _; omega) _).set (by show N + 1 + 1 < _; omega) _).set (by show N + 1 + 1 < _; omega) _).set (by show N + 1 + 1 < _; omega) _).set (by show N + 1 + 1 < _; omega) _).mono HB3.out.size
        · exact below_two (below_two (below_two (below_two (below_two (below_two (HB3.out.trans (HBR.out.mono HB3.out.size)) (by omega) _ _) (by omega) _ _) (by omega) _ _) (by omega) _ _) (by omega) _ _) (by omega) _ _
      | false =>
        have HFIN : Hid (inF (xn, xf) W = l ++ [(xn, xf)]) := Lib.hid hF
        have HOA1 := Lib.hid (HO.out.kept (box1 wr #[encStr xn, .string (str xf.all), .int .i64 (xf.kept : Int)] 45).1)
        have HBA1 := Lib.hid (HBR.out.trans ((box1 wr #[encStr xn, .string (str xf.all), .int .i64 (xf.kept : Int)] 45).1.mono HBR.out.size))
        clear s0' sx' hF
        go_wp2_with (refine append_file rfl (.tmp 46) (.tmp 48) rfl w3.heap.size (.slice av lv cv) l (xn, xf) ⟨wr.heap.size, 0, none⟩ 1 rfl rfl HOA1.out (c1f_new wr xn xf) HLB.out HBA1.out.size ?_; intro v1 wa1 h1 h2 h3; obtain ⟨av1, cv1, hv1, -⟩ := h1.row; obtain ⟨lv1, hlv1⟩ : ∃ lv1, (l ++ [(xn, xf)]).length = lv1 := ⟨_, rfl⟩; rw [hlv1] at hv1; subst hv1; clear hlv1; have HOr1 := Lib.hid h1; have HBr1 := Lib.hid (h3 _ HBA1.out); clear h1 h2 h3; have s0a := ex_below HS03.out HBr1.out; have s1a := ex_below HS13.out HBr1.out; obtain ⟨e0, e1, e2, e3, e4⟩ := five_rd s0a; obtain ⟨p0, p1, p2, p3, p4⟩ := five_rd s1a; have f0 : ∀ o, wa1.frozen? ⟨N, o, none⟩ = false := (fun o => by simp [World.frozen?, s0a]); have f1 : ∀ o, wa1.frozen? ⟨N + 1 + 1, o, none⟩ = false := (fun o => by simp [World.frozen?, s1a]); clear s0a s1a)
        refine bodyPost_ret (rd_res1 rfl _ _ (N + 1 + 1) (.int .i64 room) (.slice av1 lv1 cv1) (.bool down) (.int .i64 armed) (.int .u64 st) rfl (by go_simp) (by go_simp) (by go_simp) (by go_simp) (by go_simp)) rfl ?_
        have hN := HN.out
        have hz := HZ.out
        have h32 := HW32.out
        have ho := HOr1.out
        refine ⟨_, rfl, ?_, ?_⟩
        · rw [HWW.out, HFIN.out]
          exact ((((((ho.set (by show N < _; omega) _).set (by show N + 1 + 1 < _; omega) _).set (by show N + 1 + 1 < _; omega) _).set (by show N + 1 + 1 < _; omega) _).set (by show N + 1 + 1 < _; omega) _).set (by show N + 1 + 1 < _; omega) _).mono HB3.out.size
        · exact below_two (below_two (below_two (below_two (below_two (below_two (HB3.out.trans (HBr1.out.mono HB3.out.size)) (by omega) _ _) (by omega) _ _) (by omega) _ _) (by omega) _ _) (by omega) _ _) (by omega) _ _
end Go.Proofs.Ythkjjpkipeeimaa
