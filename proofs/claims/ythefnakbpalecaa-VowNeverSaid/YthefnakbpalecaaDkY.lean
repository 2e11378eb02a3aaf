/- The disk: Crash. -/
import Derived.Test.YthefnakbpalecaaMaU
namespace Go.Proofs.Ythefnakbpalecaa
open Go.RowKit Go.Maps
theorem setCells_block {N b : Nat} (hn : b ≠ N) : ∀ (vs : List Value) (o : Nat) (w : World), (w.setCells N o vs).heap[b]? = w.heap[b]?
  | [], _, _ => rfl
  | v :: r, o, w => by
    rw [World.setCells, setCells_block hn r (o + 1)]
    exact Below.heap_setCell _ _ _ _ hn
theorem setCells_size {N : Nat} : ∀ (vs : List Value) (o : Nat) (w : World), (w.setCells N o vs).heap.size = w.heap.size
  | [], _, _ => rfl
  | v :: r, o, w => by
    rw [World.setCells, setCells_size r (o + 1)]
    simp
theorem setCells_os {N : Nat} : ∀ (vs : List Value) (o : Nat) (w : World), (w.setCells N o vs).os = w.os
  | [], _, _ => rfl
  | v :: r, o, w => by rw [World.setCells, setCells_os r (o + 1)]; rfl
theorem setCells_tape {N : Nat} : ∀ (vs : List Value) (o : Nat) (w : World), (w.setCells N o vs).tape = w.tape
  | [], _, _ => rfl
  | v :: r, o, w => by rw [World.setCells, setCells_tape r (o + 1)]; rfl
theorem setCells_output {N : Nat} : ∀ (vs : List Value) (o : Nat) (w : World), (w.setCells N o vs).output = w.output
  | [], _, _ => rfl
  | v :: r, o, w => by rw [World.setCells, setCells_output r (o + 1)]; rfl
theorem there_new {w : World} {N : Nat} {A : Array Value} {t : TypeId} (h : w.heap[N]? = some (.cells A t (0, 0))) : w.there N 0 A.size := fun j hj => ⟨by simp only [World.cell?, h]; simp [hj], by simp [World.frozen?, h]⟩
theorem crashF_cons (n : Nm) (f : Fl) (r : Ft) (ts : List (Nat × Nat)) : crashF ((n, f) :: r) ts = if f.kept < f.all.length then oneF n (tornF f (nextT ts).1) ++ crashF r (nextT ts).2 else oneF n f ++ crashF r ts := rfl
theorem setCells2 {w : World} {N : Nat} {x y x' y' : Value} {t : TypeId} (h : w.heap[N]? = some (.cells #[x, y] t (0, 0))) : (w.setCells N 0 [x', y']).heap[N]? = some (.cells #[x', y'] t (0, 0)) := by
  have e : w.setCells N 0 [x', y'] = (w.setCell ⟨N, 0, none⟩ x').setCell ⟨N, 1, none⟩ y' := rfl
  rw [e]
  exact (two_set (two_set h x').1 y').2
/-- Bytes that can be read, whatever becomes of block T. -/
def RBT (T : Nat) (w : World) (v : Value) (bs : List Nat) : Prop := RB w v bs ∧ ∀ W, Only (· = T) w W → RB W v bs
theorem RBT.drew {T : Nat} {w : World} {v : Value} {bs : List Nat} (h : RBT T w v bs) : RBT T w.drew v bs := ⟨h.1.kept ((Below.refl _ w).drew), fun W hW => h.2 W ⟨hW.os, hW.tape, hW.output, hW.size, hW.block⟩⟩
theorem RBT.only7 {T : Nat} {w W : World} {v : Value} {bs : List Nat} (h : RBT T w v bs) (ho : Only (· = T) w W) : RB W v bs := h.2 W ho
theorem RBT.of {T : Nat} {w : World} {v : Value} {bs : List Nat} (h : OB w 0 v bs) (h1 : ∀ c ∈ bs, c < 256) (h2 : bs.length ≤ 140737488351232) (hT : v.ownBlock ≠ some T) : RBT T w v bs :=
  ⟨h.rb h1 h2, fun W hW => (h.blk (fun g hg => hW.block g (h.lt hg).2 (fun e => hT (by rw [hg, e])))).rb h1 h2⟩
theorem mid_only {T N : Nat} {w5 w6 w7 w8 w9 : World} (h1 : Below w5.heap.size w5 w6) (h2 : Only (· = T) w6 w7) (h3 : Below w7.heap.size w7 w8) (h4 : ∀ k, k ≠ N → w9.heap[k]? = w8.heap[k]?) (h5 : w9.heap.size = w8.heap.size ∧ w9.os = w8.os ∧ w9.tape = w8.tape ∧ w9.output = w8.output) : Only (fun k => k = T ∨ k = N) w5 w9 :=
  ⟨h5.2.1.trans (h3.os.trans (h2.os.trans h1.os)), h5.2.2.1.trans (h3.tape.trans (h2.tape.trans h1.tape)), h5.2.2.2.trans (h3.output.trans (h2.output.trans h1.output)), by rw [h5.1]; exact Nat.le_trans h1.size (Nat.le_trans h2.size h3.size), fun k hk hx => by
    rw [h4 k (fun e => hx (.inr e)), h3.block k (Nat.lt_of_lt_of_le hk (Nat.le_trans h1.size h2.size)), h2.block k (Nat.lt_of_lt_of_le hk h1.size) (fun e => hx (.inl e)), h1.block k hk]⟩
theorem outer_only {S1 : Nat → Prop} {T N : Nat} {w3 w5 wc : World} (h : Only S1 w3 w5) (k : Only (fun k => k = T ∨ k = N) w5 wc) (hT : S1 T) (hN : w3.heap.size ≤ N) : Only S1 w3 wc :=
  ⟨k.os.trans h.os, k.tape.trans h.tape, k.output.trans h.output, Nat.le_trans h.size k.size, fun i hi hx => (k.block i (Nat.lt_of_lt_of_le hi h.size) (fun e => by
    rcases e with e | e
    · exact hx (by rw [e]; exact hT)
    · omega)).trans (h.block i hi hx)⟩
theorem trow_in {S1 : Nat → Prop} {T N : Nat} {w5 wc : World} {a : Option Addr} {ts : List (Nat × Nat)} (h : TRow S1 w5 a ts) (k : Only (fun k => k = T ∨ k = N) w5 wc) (hT : S1 T) (hN : ∀ b o, a = some ⟨b, o, none⟩ → ts ≠ [] → b ≠ N) : TRow S1 wc a ts := fun i hi => by
  obtain ⟨b, o, e, h1, h2, h3, h4⟩ := h i hi
  have hne : ¬ (b = T ∨ b = N) := fun e2 => by
    rcases e2 with e2 | e2
    · exact h2 (by rw [e2]; exact hT)
    · exact hN b o e (fun e3 => by rw [e3] at hi; simp at hi) e2
  exact ⟨b, o, e, Nat.lt_of_lt_of_le h1 k.size, h2, (World.cell?_of_block (a := ⟨b, _, none⟩) (k.block b h1 hne)).trans h3, (World.cell?_of_block (a := ⟨b, _, none⟩) (k.block b h1 hne)).trans h4⟩
theorem TRow.ne {P : Nat → Prop} {w : World} {a : Option Addr} {ts : List (Nat × Nat)} (h : TRow P w a ts) {N : Nat} (hN : w.heap.size ≤ N) : ∀ b o, a = some ⟨b, o, none⟩ → ts ≠ [] → b ≠ N := fun b o e hne => by
  obtain ⟨b2, o2, e2, h1, -⟩ := h 0 (List.length_pos_iff.2 hne)
  rw [e] at e2
  injection e2 with e2
  injection e2 with e2
  omega
set_option maxRecDepth 100000 in
set_option maxHeartbeats 8000000 in
theorem dcrash {S : Nat → Prop} {w : World} {B m mt : Nat} {D : Dd} {M : Lit → Option Value} {V : Nm → Value} (h : DKx S w B m mt D M V) (a0 : Option Addr) (c0 : Nat) (ts0 : List (Nat × Nat)) (htr : TRow S w a0 ts0) (hc0 : ts0.length ≤ c0) (hwf : ∀ t ∈ ts0, t.1 < 65536 ∧ t.2 < 4294967296)
    (hq : ∀ p ∈ D.fs, ∀ t : Nat × Nat, t = (0, 0) ∨ t ∈ ts0 → tearN (p.2.all.drop p.2.kept) t.1 < 3) : Calls Try.prog 37 #[.pointer (some ⟨B, 0, none⟩), .slice a0 ts0.length c0] w fun e w' => e = .returned (.int .i64 0) ∧ ∃ S', DK S' w' B (crashD D ts0) ∧ Fr S w S' w' := by
  obtain ⟨B1, s1, -⟩ := box1 w #[.slice a0 ts0.length c0] 55
  have H1 := Lib.hid (h.below B1)
  have HT1 := Lib.hid s1
  have HB1 := Lib.hid B1
  have HWF := Lib.hid hwf
  have HC0 := Lib.hid hc0
  have HTR0 := Lib.hid htr
  have HBD := Lib.hid h.bd
  obtain ⟨L, hL⟩ : ∃ L, D.fs = L := ⟨_, rfl⟩
  have HLL := Lib.hid hL
  have HQ : Hid (∀ p ∈ L, ∀ t : Nat × Nat, t = (0, 0) ∨ t ∈ ts0 → tearN (p.2.all.drop p.2.kept) t.1 < 3) := Lib.hid (by rw [← hL]; exact hq)
  have hmf : ∀ (fn : Fn) (first cap : Array Value) (w : World), (Instr.makeFunc fn first cap).run Try.prog w = .ok (.func fn first cap) w := fun _ _ _ _ => rfl
  clear h B1 s1 hwf hc0 htr hq hL
  go_enter Try.func37, Try.ntmps37
  go_upto_region 1 with fail
  obtain ⟨T, hT⟩ : ∃ T, w.heap.size = T := ⟨_, rfl⟩
  have HTN := Lib.hid hT
  rw [hT] at HT1
  try rw [hT]
  clear hT
  generalize w.alloc (.cells #[.slice a0 ts0.length c0] 55) = w1 at H1 HT1 HB1 ⊢
  obtain ⟨D1, hD1⟩ : ∃ D1 : Dd, (⟨D.room, D.fs, D.st, true, D.armed, D.after⟩ : Dd) = D1 := ⟨_, rfl⟩
  have c3 := H1.out.at.2.2.2.1
  have f3 := H1.out.fr 3
  have H2 : Hid (DKx S (w1.setCell ⟨B, 3, none⟩ (.bool true)) B m mt D1 M V) := Lib.hid (by rw [← hD1]; exact H1.out.field ⟨D.room, D.fs, D.st, true, D.armed, D.after⟩ 3 (.bool true) rfl rfl rfl H1.out.rm H1.out.af)
  have HD1 := Lib.hid hD1
  have HTB : Hid (T ≠ B ∧ T ≠ m) := Lib.hid (by have h1 := HTN.out; have h2 := HBD.out B H1.out.own.1; have h3 := HBD.out m H1.out.own.2.1; omega)
  have HT2 : Hid ((w1.setCell ⟨B, 3, none⟩ (.bool true)).heap[T]? = some (.cells #[.slice a0 ts0.length c0] 55 (0, 0))) := Lib.hid ((Below.heap_setCell _ _ _ _ (by exact HTB.out.1)).trans HT1.out)
  have HO2 : Hid (Only S w (w1.setCell ⟨B, 3, none⟩ (.bool true))) := Lib.hid ((Only.below HB1.out).setCell _ _ H1.out.own.1)
  clear hD1
  go_wp2_with fail
  refine (dcreated_yes H1.out).mono ?_
  rintro e w2 ⟨rfl, rfl⟩
  go_wp2_with fail
  clear c3 f3 hmf H1 HT1 HB1
  generalize w1.setCell ⟨B, 3, none⟩ (.bool true) = w2 at H2 HT2 HO2 ⊢
  refine (dnames H2.out).mono ?_
  rintro e w3 ⟨v, rfl, hoz, hb⟩
  have hfs : D1.fs = L := by rw [← HD1.out]; exact HLL.out
  rw [hfs] at hoz
  have H3 : Hid (DKx S w3 B m mt (D1.files ([] ++ L.drop 0)) M V) := Lib.hid (by have := H2.out.below hb; rw [← hfs]; exact this)
  have HT3 := Lib.hid (ex_below HT2.out hb)
  have HO3 := Lib.hid (Only.trans HO2.out (Only.below hb))
  have hlz := fun g => OZ.lt hoz (g := g)
  have hkl : (keysF L).length = L.length := by unfold keysF; rw [List.length_map]
  obtain ⟨an, cn, rfl, hcs⟩ := hoz.cells
  rw [hkl]
  have HNAM : Hid (∀ i (hi : i < L.length), ∃ g, an = some ⟨g, 0, none⟩ ∧ g < w3.heap.size ∧ ¬ S g ∧ g ≠ T ∧ w3.cell? ⟨g, i, none⟩ = some (encStr (L[i]).1)) := Lib.hid (fun i hi => by
    obtain ⟨g, rfl, hg⟩ := hcs i (by rw [hkl]; exact hi)
    refine ⟨g, rfl, (hlz g rfl).2, fun hs => ?_, fun e => ?_, ?_⟩
    · have := H2.out.bd g hs; have := (hlz g rfl).1; omega
    · have := ex_lt HT2.out; have := (hlz g rfl).1; omega
    · rw [hg]; unfold keysF; rw [List.getElem_map])
  have HTR3 : Hid (TRow (fun k : Nat => S k ∨ k = T) w3 a0 ts0) := Lib.hid (fun i hi => by
    obtain ⟨b, o, e, h1, -⟩ := HTR0.out i hi
    obtain ⟨b2, o2, e2, k1, k2, k3, k4⟩ := (HTR0.out.only HO3.out) i hi
    rw [e] at e2
    injection e2 with e2
    injection e2 with e2
    subst e2
    exact ⟨b, o2, by rw [e]; congr 2, k1, fun hx => hx.elim k2 (fun e3 => by have := HTN.out; omega), k3, k4⟩)
  have HSO : Hid (S B ∧ S m ∧ S mt) := Lib.hid H2.out.own
  have HTW3 : Hid (T < w3.heap.size ∧ ¬ S T) := Lib.hid ⟨ex_lt HT3.out, fun hs => by have := HBD.out T hs; have := HTN.out; omega⟩
  have HLEN : Hid (L.length ≤ 128) := Lib.hid (by have := H2.out.df.few; rw [hfs] at this; exact this)
  clear hoz hb hlz hcs hkl hfs
  go_wp2_with fail
  go_loopg [19] L.length (fun kx s19 wr => ∃ (i : Nat) (pre : Ft) (ts : List (Nat × Nat)) (at0 : Option Addr) (ct : Nat) (S5 : Nat → Prop) (M5 : Lit → Option Value) (V5 : Nm → Value), s19 = .int .i64 (i : Int) ∧ i ≤ L.length ∧ L.length - i ≤ kx ∧ Hid (crashF L ts0 = pre ++ crashF (L.drop i) ts) ∧ Hid (DKx S5 wr B m mt (D1.files (pre ++ L.drop i)) M5 V5) ∧ Hid ((∀ k, S k → S5 k) ∧ ∀ k, S5 k → S k ∨ w3.heap.size ≤ k) ∧ Hid (Only (fun k : Nat => S k ∨ k = T) w3 wr) ∧ Hid (wr.heap[T]? = some (.cells #[.slice at0 ts.length ct] 55 (0, 0))) ∧ Hid (ts.length ≤ ct) ∧ Hid (TRow (fun k : Nat => S k ∨ k = T) wr at0 ts) ∧ Hid (∀ t ∈ ts, t ∈ ts0))
  case atStart => exact ⟨0, [], ts0, a0, c0, S, M, V, rfl, by omega, by omega, Lib.hid rfl, H3, Lib.hid ⟨fun _ h => h, fun _ h => .inl h⟩, Lib.hid (Only.refl _ _), HT3, HC0, HTR3, Lib.hid (fun _ h => h)⟩
  case round =>
    clear H3 HT3 HTR3 HT2 H2 HO2 HTR0 HC0
    obtain ⟨i, pre, ts, at0, ct, S5, M5, V5, rfl, hi, hix, HE, H4, HSS5, HO4, HTT4, HCT5, HTR4, HTI5⟩ := hrel
    by_cases hlt : i < L.length
    · have hltz : (i : Int) < (L.length : Int) := by omega
      have hi0 : (0 : Int) ≤ (i : Int) := by omega
      have hd : decide ((i : Int) < (L.length : Int)) = true := decide_eq_true hltz
      have hmm9 : L.length - (i + 1) < gk := by omega
      have hii9 : i + 1 ≤ L.length ∧ L.length - (i + 1) ≤ L.length - (i + 1) := by omega
      have HWI : Hid (wrap64 ((i : Int) + 1) = (i : Int) + 1) := Lib.hid (IntWalk.wrap64_in _ (by have := HLEN.out; omega))
      obtain ⟨g, rfl, hg1, hg2, hg3, hg4⟩ := HNAM.out i hlt
      have hcn := (HO4.out.cell (p := ⟨g, i, none⟩) hg1 (fun hx => hx.elim hg2 hg3)).trans hg4
      obtain ⟨⟨nm, f⟩, hnf⟩ : ∃ p, L[i] = p := ⟨_, rfl⟩
      rw [hnf] at hcn
      have HDR : Hid (L.drop i = (nm, f) :: L.drop (i + 1)) := Lib.hid (by rw [List.drop_eq_getElem_cons hlt, hnf])
      have HML : Hid ((nm, f) ∈ L) := Lib.hid (by rw [← hnf]; exact List.getElem_mem hlt)
      have hsrt : SrtF (pre ++ (nm, f) :: L.drop (i + 1)) := by rw [← HDR.out]; exact H4.out.df.srt
      have hget : getF (D1.files (pre ++ L.drop i)).fs nm = some f := by show getF (pre ++ L.drop i) nm = _; rw [HDR.out]; exact getF_mid hsrt
      have HOKF := Lib.hid (H4.out.df.ok nm f hget)
      have HNL : Hid (nm.length ≤ 100000) := Lib.hid (H4.out.df.ok nm f hget).2.2
      have HFL : Hid (f.all.length ≤ 1048576) := Lib.hid (by have h1 := sum_le (getF_mem hget); have h2 := H4.out.df.sum; simp only at h1; omega)
      obtain ⟨a, c, e1, e2⟩ := H4.out.file hget
      have HOW : Hid (OB wr 0 (.slice a f.all.length c) f.all ∧ (Value.slice a f.all.length c).ownBlock ≠ some T) := Lib.hid (by
        have h1 := H4.out.df.own nm f hget
        have h2 := fun g => H4.out.df.inS nm g (by rw [hget]; exact Option.some_ne_none _)
        rw [e1] at h1 h2
        refine ⟨h1, fun e => ?_⟩
        rcases HSS5.out.2 T (h2 T e) with h | h
        · exact HTW3.out.2 h
        · have := HTW3.out.1; omega)
      obtain ⟨-, c1, -⟩ := H4.out.at
      have hz := fl_zero wr
      have hlk := H4.out.df.vm.look keyedS fm_und hz (keyS HNL.out)
      rw [e2] at hlk
      simp only [Option.getD_some] at hlk
      obtain ⟨B4, s4⟩ := boxF (w := wr) (.slice a f.all.length c) (.int .i64 (f.kept : Int))
      have H5a := Lib.hid (H4.out.below B4)
      have HX5a := Lib.hid s4
      have HTT5a := Lib.hid (ex_below HTT4.out B4)
      have HO5a := Lib.hid (Only.trans HO4.out (Only.below B4))
      have HTR5a := Lib.hid (HTR4.out.only (Only.below B4))
      have HOWa : Hid (OB (wr.alloc (.cells #[.slice a f.all.length c, .int .i64 (f.kept : Int)] 143)) 0 (.slice a f.all.length c) f.all) := Lib.hid (HOW.out.1.kept B4)
      have HNT1 : Hid (∀ b o, at0 = some ⟨b, o, none⟩ → ts ≠ [] → b ≠ wr.heap.size) := Lib.hid (HTR4.out.ne (Nat.le_refl _))
      have HNM : Hid (¬ S5 wr.heap.size) := Lib.hid (fun hs => by have := H4.out.bd _ hs; omega)
      have HTM : Hid (wr.heap.size ≠ T ∧ T ≠ m ∧ ¬ S5 T) := Lib.hid ⟨by have := ex_lt HTT4.out; omega, HTB.out.2, fun hs => by
        rcases HSS5.out.2 T hs with h | h
        · exact HTW3.out.2 h
        · have := HTW3.out.1; omega⟩
      have HNMM : Hid (wr.heap.size ≠ m) := Lib.hid (by have := H4.out.lt.2.1; omega)
      have HNW : Hid (w3.heap.size ≤ wr.heap.size) := Lib.hid HO4.out.size
      clear hsrt hget e1 e2 hz B4 s4 hg1 hg2 hg3 hg4 hnf H4 HTT4 HO4 HTR4
      go_upto_region 9 with fail
      obtain ⟨N, hN⟩ : ∃ N, wr.heap.size = N := ⟨_, rfl⟩
      rw [hN] at HX5a HNT1 HNM HTM HNMM HNW
      try rw [hN]
      clear hN hlk c1 hcn
      generalize wr.alloc (.cells #[.slice a f.all.length c, .int .i64 (f.kept : Int)] 143) = w4 at H5a HX5a HTT5a HO5a HTR5a HOWa ⊢
      obtain ⟨x0, x1, -⟩ := two_at HX5a.out
      go_wp2_with fail
      refine (dloose a c f.all f.kept w4 (HOWa.out.rb HOKF.out.1 (by have := HFL.out; omega)) HOKF.out.2.1).mono ?_
      rintro e w5 ⟨a2, c2, rfl, hrl, hb⟩
      have H5 := Lib.hid (H5a.out.below hb)
      have HX5 := Lib.hid (ex_below HX5a.out hb)
      have HTT5 := Lib.hid (ex_below HTT5a.out hb)
      have HO5 := Lib.hid (Only.trans HO5a.out (Only.below hb))
      have HTR5 := Lib.hid (HTR5a.out.only (Only.below hb))
      have HRB5 : Hid (RBT T w5 (.slice a f.all.length c) f.all) := Lib.hid (RBT.of (HOWa.out.kept hb) HOKF.out.1 (by have := HFL.out; omega) HOW.out.2)
      have HBD5 := Lib.hid H5.out.bd
      have HW35 : Hid (w3.heap.size ≤ w5.heap.size) := Lib.hid HO5.out.size
      clear hrl hb H5a HX5a HTT5a HO5a HTR5a HOWa HOW x0 x1
      by_cases hlo : f.kept < f.all.length
      · have hL0 : 0 < f.all.length - f.kept := by omega
        have hd0 : decide (((f.all.length - f.kept : Nat) : Int) > 0) = true := decide_eq_true (by omega)
        have hd1 : decide (0 < ((f.all.length - f.kept : Nat) : Int)) = true := decide_eq_true (by omega)
        have hd2 : decide (0 < f.all.length - f.kept) = true := decide_eq_true (by omega)
        have HE5 : Hid (crashF L ts0 = pre ++ (oneF nm (tornF f (nextT ts).1) ++ crashF (L.drop (i + 1)) (nextT ts).2)) := Lib.hid (by
          rw [HE.out, HDR.out]
          show pre ++ crashF ((nm, f) :: L.drop (i + 1)) ts = _
          rw [crashF_cons, if_pos hlo])
        have HTIN : Hid (∀ t ∈ (nextT ts).2, t ∈ ts0) := Lib.hid (fun t ht => HTI5.out t (by cases ts with | nil => cases ht | cons u q => exact List.mem_cons_of_mem _ ht))
        have HNT : Hid ((nextT ts).1.1 < 65536 ∧ (nextT ts).1.2 < 4294967296) := Lib.hid (by
          cases ts with
          | nil => exact ⟨by decide, by decide⟩
          | cons u q => exact HWF.out u (HTI5.out u List.mem_cons_self))
        have HQF : Hid (tearN (f.all.drop f.kept) (nextT ts).1.1 < 3) := Lib.hid (by
          refine HQ.out (nm, f) HML.out _ ?_
          cases ts with
          | nil => exact .inl rfl
          | cons u q => exact .inr (HTI5.out u List.mem_cons_self))
        clear hlo hL0
        go_upto_region 10 with fail
        go_cut [] (fun wc => ∃ (a8 : Option Addr) (ln c8 : Nat) (a2 : Option Addr) (c2 : Nat), Hid (wc.heap[N]? = some (.cells #[.slice a8 ln c8, .int .i64 (ln : Int)] 143 (0, 0))) ∧ Hid (ln = (f.all.take f.kept ++ tearB (f.all.drop f.kept) (nextT ts).1.1 (nextT ts).1.2).length) ∧ Hid (OB wc 0 (.slice a8 ln c8) (f.all.take f.kept ++ tearB (f.all.drop f.kept) (nextT ts).1.1 (nextT ts).1.2)) ∧ Hid (wc.heap[T]? = some (.cells #[.slice a2 (nextT ts).2.length c2] 55 (0, 0))) ∧ Hid ((nextT ts).2.length ≤ c2) ∧ Hid (∀ W, TRow (fun k : Nat => S k ∨ k = T) W at0 ts → TRow (fun k : Nat => S k ∨ k = T) W a2 (nextT ts).2) ∧ Hid (Only (fun k => k = T ∨ k = N) w5 wc) ∧ Hid (∀ g, (Value.slice a8 ln c8).ownBlock = some g → w5.heap.size ≤ g))
        case first =>
          have HS0 : Hid ((fun W : World => W.there N 0 2) w5.drew) := Lib.hid (there_new HX5.out)
          have HX6 : Hid (w5.drew.heap[N]? = some (.cells #[.slice a f.all.length c, .int .i64 (f.kept : Int)] 143 (0, 0))) := Lib.hid HX5.out
          have HTT6 : Hid (w5.drew.heap[T]? = some (.cells #[.slice at0 ts.length ct] 55 (0, 0))) := Lib.hid HTT5.out
          have HTR6 : Hid (TRow (fun k : Nat => S k ∨ k = T) w5.drew at0 ts) := Lib.hid (HTR5.out.only (Only.refl (fun k : Nat => S k ∨ k = T) w5).drew)
          have HRB6 : Hid (RBT T w5.drew (.slice a f.all.length c) f.all) := Lib.hid HRB5.out.drew
          have HO56 : Hid (Below w5.heap.size w5 w5.drew) := Lib.hid (Below.refl _ w5).drew
          refine wp_region_held_drew (S := (fun W : World => W.there N 0 2)) (by kernel_rfl) HS0.out (fun hHeld => ?_)
          clear hHeld
          generalize w5.drew = w6 at HX6 HTT6 HTR6 HRB6 HO56 HS0 ⊢
          refine wpAnyH_take (i := 1) (oi := { dst := some 34, op := Go.Op.move (Go.Operand.tmp 5), type := 139, pos := "disk.go:211", after := #[], guard := none }) (v := ?_) rfl (by kernel_rfl) (by kernel_rfl) (by kernel_rfl) (fun _ _ _ h => h) (Or.inl ⟨by rfl, ?_⟩) HS0.out ?_
          case refine_2 => (intro w1 hS1; clear hS1; go_simp; try with_reducible rfl)
          try simp only [Act.put, List.setIfInBounds_toArray, List.set_cons_zero, List.set_cons_succ]
          refine wpAnyH_ready (rs := [0, 2]) (by kernel_rfl) (by simp) ?_
          refine AllReadyH.cons (o := { dst := some 33, op := Go.Op.load 143 (Go.Operand.tmp 8), type := 143, pos := "disk.go:211", after := #[], guard := none }) rfl (fun K hK => ?_) (AllReadyH.cons (o := { dst := some 35, op := Go.Op.call { callee := Go.Callee.value (Go.Operand.tmp 34), args := #[], argTypes := #[] }, type := 138, pos := "disk.go:211", after := #[{ on := 1, ground := Go.Ground.data }], guard := none }) rfl (fun K hK => ?_) AllReadyH.nil)
          · obtain ⟨z0, z1, -⟩ := two_at HX6.out
            go_simp
            refine hK.out _ _ HS0.out (fun hHeld => ?_)
            clear hK K hHeld z0 z1
            try simp only [Act.put, List.setIfInBounds_toArray, List.set_cons_zero, List.set_cons_succ]
            refine wpAnyH_ready (rs := [2]) (by kernel_rfl) (by simp) ?_
            refine AllReadyH.cons (o := { dst := some 35, op := Go.Op.call { callee := Go.Callee.value (Go.Operand.tmp 34), args := #[], argTypes := #[] }, type := 138, pos := "disk.go:211", after := #[{ on := 1, ground := Go.Ground.data }], guard := none }) rfl (fun K hK => ?_) AllReadyH.nil
            go_simp
            refine (next_any (fun k : Nat => S k ∨ k = T) T at0 ct ts w6 HTT6.out HTR6.out HCT5.out).mono ?_
            rintro e w7 ⟨rfl, a2, c2, ht7, hc7, htr7, ho7⟩
            have HTT7 := Lib.hid ht7
            have HCT7 := Lib.hid hc7
            have HTRW := Lib.hid htr7
            have HO7 := Lib.hid ho7
            have HX7 : Hid (w7.heap[N]? = some (.cells #[.slice a f.all.length c, .int .i64 (f.kept : Int)] 143 (0, 0))) := Lib.hid ((ho7.block N (ex_lt HX6.out) (by show ¬ N = T; exact HTM.out.1)).trans HX6.out)
            have HS0' : Hid ((fun W : World => W.there N 0 2) w7) := Lib.hid (there_new HX7.out)
            clear ht7 hc7 htr7 ho7 HS0
            have HS0 := HS0'
            clear HS0'
            refine hK.out _ _ HS0.out (fun hHeld => ?_)
            clear hK K hHeld
            try simp only [Act.put, List.setIfInBounds_toArray, List.set_cons_zero, List.set_cons_succ]
            refine wpAnyH_ready (rs := [3]) (by kernel_rfl) (by simp) ?_
            refine AllReadyH.cons (o := { dst := some 36, op := Go.Op.call { callee := Go.Callee.value (Go.Operand.func 93), args := #[Go.Operand.tmp 33, Go.Operand.tmp 35], argTypes := #[143, 138] }, type := 143, pos := "disk.go:211", after := #[{ on := 0, ground := Go.Ground.data }, { on := 2, ground := Go.Ground.data }, { on := 2, ground := Go.Ground.chain }], guard := none }) rfl (fun K hK => ?_) AllReadyH.nil
            go_simp
            have HR7 : Hid (RB w7 (.slice a f.all.length c) f.all) := Lib.hid (HRB6.out.only7 HO7.out)
            refine (torn_few a c f.all f.kept (nextT ts).1.1 (nextT ts).1.2 w7 HR7.out HOKF.out.2.1 HFL.out HNT.out.1 HNT.out.2 HQF.out).mono ?_
            rintro e w8 ⟨v8, rfl, ho8, hb8⟩
            obtain ⟨a8, c8, rfl⟩ := ho8.shp
            obtain ⟨ln, hln⟩ : ∃ ln, (f.all.take f.kept ++ tearB (f.all.drop f.kept) (nextT ts).1.1 (nextT ts).1.2).length = ln := ⟨_, rfl⟩
            rw [hln] at ho8 ⊢
            have HLN := Lib.hid hln
            have HO8 := Lib.hid ho8
            have HB8 := Lib.hid hb8
            have HX8 := Lib.hid (ex_below HX7.out hb8)
            have HS0' : Hid ((fun W : World => W.there N 0 2) w8) := Lib.hid (there_new HX8.out)
            clear ho8 hb8 hln HS0
            have HS0 := HS0'
            clear HS0'
            refine hK.out _ _ HS0.out (fun hHeld => ?_)
            clear hK K hHeld
            try simp only [Act.put, List.setIfInBounds_toArray, List.set_cons_zero, List.set_cons_succ]
            refine wpAnyH_ready (rs := [4]) (by kernel_rfl) (by simp) ?_
            refine AllReadyH.cons (o := { dst := none, op := Go.Op.store 143 (Go.Operand.tmp 8) (Go.Operand.tmp 36), type := 0, pos := "disk.go:211", after := #[{ on := 3, ground := Go.Ground.data }, { on := 3, ground := Go.Ground.chain }, { on := 0, ground := Go.Ground.phase }, { on := 1, ground := Go.Ground.phase }, { on := 2, ground := Go.Ground.phase }, { on := 3, ground := Go.Ground.phase }], guard := none }) rfl (fun K hK => ?_) AllReadyH.nil
            rw [if_pos (by rfl)]
            refine wp_store_mid 143 (.tmp 8) (.tmp 36) rfl N 0 #[.slice a8 ln c8, .int .i64 (ln : Int)] rfl rfl HS0.out fl_info (all_oneCell_toArray (cs := [Value.slice a8 ln c8, .int .i64 (ln : Int)]) (by intro v hv; simp only [List.mem_cons, List.not_mem_nil, or_false] at hv; rcases hv with rfl | rfl <;> rfl)) ?_
            rw [List.toList_toArray]
            generalize hW9 : w8.setCells N 0 [.slice a8 ln c8, .int .i64 (ln : Int)] = w9
            have HX9 : Hid (w9.heap[N]? = some (.cells #[.slice a8 ln c8, .int .i64 (ln : Int)] 143 (0, 0))) := Lib.hid (by rw [← hW9]; exact setCells2 HX8.out)
            have HK9 : Hid (∀ k, k ≠ N → w9.heap[k]? = w8.heap[k]?) := Lib.hid (fun k hk => by rw [← hW9]; exact setCells_block hk _ _ _)
            have HZ9 : Hid (w9.heap.size = w8.heap.size ∧ w9.os = w8.os ∧ w9.tape = w8.tape ∧ w9.output = w8.output) := Lib.hid (by rw [← hW9]; exact ⟨setCells_size _ _ _, setCells_os _ _ _, setCells_tape _ _ _, setCells_output _ _ _⟩)
            have HS0' : Hid ((fun W : World => W.there N 0 2) w9) := Lib.hid (there_new HX9.out)
            clear hW9 HS0
            have HS0 := HS0'
            clear HS0'
            refine hK.out _ _ HS0.out (fun hHeld => ?_)
            clear hK K hHeld
            try simp only [Act.put, List.setIfInBounds_toArray, List.set_cons_zero, List.set_cons_succ]
            refine wpAnyH_done (by kernel_rfl) ?_ _
            go_wp2_with fail
            go_meet
            case rel => exact ⟨a8, ln, c8, a2, c2, HX9, Lib.hid (by rw [HLN.out]), Lib.hid ((HO8.out.mono (Nat.zero_le _)).blk (fun g hg => HK9.out g (by have h1 := (HO8.out.lt hg).1; have h2 := ex_lt HX7.out; omega))), Lib.hid ((HK9.out T (Ne.symm HTM.out.1)).trans ((HB8.out.block T (ex_lt HTT7.out)).trans HTT7.out)), HCT7, HTRW, Lib.hid (mid_only HO56.out HO7.out HB8.out HK9.out HZ9.out), Lib.hid (fun g hg => by have h1 := (HO8.out.lt hg).1; have h2 := HO7.out.size; have h3 := HO56.out.size; omega)⟩
          · go_simp
            refine (next_any (fun k : Nat => S k ∨ k = T) T at0 ct ts w6 HTT6.out HTR6.out HCT5.out).mono ?_
            rintro e w7 ⟨rfl, a2, c2, ht7, hc7, htr7, ho7⟩
            have HTT7 := Lib.hid ht7
            have HCT7 := Lib.hid hc7
            have HTRW := Lib.hid htr7
            have HO7 := Lib.hid ho7
            have HX7 : Hid (w7.heap[N]? = some (.cells #[.slice a f.all.length c, .int .i64 (f.kept : Int)] 143 (0, 0))) := Lib.hid ((ho7.block N (ex_lt HX6.out) (by show ¬ N = T; exact HTM.out.1)).trans HX6.out)
            have HS0' : Hid ((fun W : World => W.there N 0 2) w7) := Lib.hid (there_new HX7.out)
            clear ht7 hc7 htr7 ho7 HS0
            have HS0 := HS0'
            clear HS0'
            refine hK.out _ _ HS0.out (fun hHeld => ?_)
            clear hK K hHeld
            try simp only [Act.put, List.setIfInBounds_toArray, List.set_cons_zero, List.set_cons_succ]
            refine wpAnyH_ready (rs := [0]) (by kernel_rfl) (by simp) ?_
            refine AllReadyH.cons (o := { dst := some 33, op := Go.Op.load 143 (Go.Operand.tmp 8), type := 143, pos := "disk.go:211", after := #[], guard := none }) rfl (fun K hK => ?_) AllReadyH.nil
            obtain ⟨z0, z1, -⟩ := two_at HX7.out
            go_simp
            refine hK.out _ _ HS0.out (fun hHeld => ?_)
            clear hK K hHeld z0 z1
            try simp only [Act.put, List.setIfInBounds_toArray, List.set_cons_zero, List.set_cons_succ]
            refine wpAnyH_ready (rs := [3]) (by kernel_rfl) (by simp) ?_
            refine AllReadyH.cons (o := { dst := some 36, op := Go.Op.call { callee := Go.Callee.value (Go.Operand.func 93), args := #[Go.Operand.tmp 33, Go.Operand.tmp 35], argTypes := #[143, 138] }, type := 143, pos := "disk.go:211", after := #[{ on := 0, ground := Go.Ground.data }, { on := 2, ground := Go.Ground.data }, { on := 2, ground := Go.Ground.chain }], guard := none }) rfl (fun K hK => ?_) AllReadyH.nil
            go_simp
            have HR7 : Hid (RB w7 (.slice a f.all.length c) f.all) := Lib.hid (HRB6.out.only7 HO7.out)
            refine (torn_few a c f.all f.kept (nextT ts).1.1 (nextT ts).1.2 w7 HR7.out HOKF.out.2.1 HFL.out HNT.out.1 HNT.out.2 HQF.out).mono ?_
            rintro e w8 ⟨v8, rfl, ho8, hb8⟩
            obtain ⟨a8, c8, rfl⟩ := ho8.shp
            obtain ⟨ln, hln⟩ : ∃ ln, (f.all.take f.kept ++ tearB (f.all.drop f.kept) (nextT ts).1.1 (nextT ts).1.2).length = ln := ⟨_, rfl⟩
            rw [hln] at ho8 ⊢
            have HLN := Lib.hid hln
            have HO8 := Lib.hid ho8
            have HB8 := Lib.hid hb8
            have HX8 := Lib.hid (ex_below HX7.out hb8)
            have HS0' : Hid ((fun W : World => W.there N 0 2) w8) := Lib.hid (there_new HX8.out)
            clear ho8 hb8 hln HS0
            have HS0 := HS0'
            clear HS0'
            refine hK.out _ _ HS0.out (fun hHeld => ?_)
            clear hK K hHeld
            try simp only [Act.put, List.setIfInBounds_toArray, List.set_cons_zero, List.set_cons_succ]
            refine wpAnyH_ready (rs := [4]) (by kernel_rfl) (by simp) ?_
            refine AllReadyH.cons (o := { dst := none, op := Go.Op.store 143 (Go.Operand.tmp 8) (Go.Operand.tmp 36), type := 0, pos := "disk.go:211", after := #[{ on := 3, ground := Go.Ground.data }, { on := 3, ground := Go.Ground.chain }, { on := 0, ground := Go.Ground.phase }, { on := 1, ground := Go.Ground.phase }, { on := 2, ground := Go.Ground.phase }, { on := 3, ground := Go.Ground.phase }], guard := none }) rfl (fun K hK => ?_) AllReadyH.nil
            rw [if_pos (by rfl)]
            refine wp_store_mid 143 (.tmp 8) (.tmp 36) rfl N 0 #[.slice a8 ln c8, .int .i64 (ln : Int)] rfl rfl HS0.out fl_info (all_oneCell_toArray (cs := [Value.slice a8 ln c8, .int .i64 (ln : Int)]) (by intro v hv; simp only [List.mem_cons, List.not_mem_nil, or_false] at hv; rcases hv with rfl | rfl <;> rfl)) ?_
            rw [List.toList_toArray]
            generalize hW9 : w8.setCells N 0 [.slice a8 ln c8, .int .i64 (ln : Int)] = w9
            have HX9 : Hid (w9.heap[N]? = some (.cells #[.slice a8 ln c8, .int .i64 (ln : Int)] 143 (0, 0))) := Lib.hid (by rw [← hW9]; exact setCells2 HX8.out)
            have HK9 : Hid (∀ k, k ≠ N → w9.heap[k]? = w8.heap[k]?) := Lib.hid (fun k hk => by rw [← hW9]; exact setCells_block hk _ _ _)
            have HZ9 : Hid (w9.heap.size = w8.heap.size ∧ w9.os = w8.os ∧ w9.tape = w8.tape ∧ w9.output = w8.output) := Lib.hid (by rw [← hW9]; exact ⟨setCells_size _ _ _, setCells_os _ _ _, setCells_tape _ _ _, setCells_output _ _ _⟩)
            have HS0' : Hid ((fun W : World => W.there N 0 2) w9) := Lib.hid (there_new HX9.out)
            clear hW9 HS0
            have HS0 := HS0'
            clear HS0'
            refine hK.out _ _ HS0.out (fun hHeld => ?_)
            clear hK K hHeld
            try simp only [Act.put, List.setIfInBounds_toArray, List.set_cons_zero, List.set_cons_succ]
            refine wpAnyH_done (by kernel_rfl) ?_ _
            go_wp2_with fail
            go_meet
            case rel => exact ⟨a8, ln, c8, a2, c2, HX9, Lib.hid (by rw [HLN.out]), Lib.hid ((HO8.out.mono (Nat.zero_le _)).blk (fun g hg => HK9.out g (by have h1 := (HO8.out.lt hg).1; have h2 := ex_lt HX7.out; omega))), Lib.hid ((HK9.out T (Ne.symm HTM.out.1)).trans ((HB8.out.block T (ex_lt HTT7.out)).trans HTT7.out)), HCT7, HTRW, Lib.hid (mid_only HO56.out HO7.out HB8.out HK9.out HZ9.out), Lib.hid (fun g hg => by have h1 := (HO8.out.lt hg).1; have h2 := HO7.out.size; have h3 := HO56.out.size; omega)⟩
        case rest =>
          obtain ⟨a8, ln, c8, a2, c2, HX6, HLN6, HOB6, HTT6, HCT5', HTRW, HO56, HGB⟩ := hcut
          have HCT6 := Lib.hid HCT5'.out
          have H6 : Hid (DKx S5 wc B m mt (D1.files (pre ++ L.drop i)) M5 V5) := Lib.hid (H5.out.only HO56.out (fun k hk e => by
            rcases e with e | e
            · exact HTM.out.2.2 (by rw [← e]; exact hk)
            · exact HNM.out (by rw [← e]; exact hk)))
          have HO6 : Hid (Only (fun k : Nat => S k ∨ k = T) w3 wc) := Lib.hid (outer_only HO5.out HO56.out (.inr rfl) HNW.out)
          have HTR6 : Hid (TRow (fun k : Nat => S k ∨ k = T) wc a2 (nextT ts).2) := Lib.hid (HTRW.out wc (trow_in HTR5.out HO56.out (.inr rfl) HNT1.out))
          clear H5 HO5 HTR5 HX5 HTT5 HRB5 HCT5 HCT5' HTI5
          go_upto_region 11 with fail
          have HS0 : Hid ((fun W : World => W.heap[B]? = some (.cells (DC D1 m mt).toArray 78 (0, 0)) ∧ W.heap[N]? = some (.cells #[.slice a8 ln c8, .int .i64 (ln : Int)] 143 (0, 0))) wc.drew) := Lib.hid ⟨H6.out.cells, HX6.out⟩
          refine wp_region_held_drew (S := (fun W : World => W.heap[B]? = some (.cells (DC D1 m mt).toArray 78 (0, 0)) ∧ W.heap[N]? = some (.cells #[.slice a8 ln c8, .int .i64 (ln : Int)] 143 (0, 0)))) (by kernel_rfl) HS0.out (fun hHeld => ?_)
          clear hHeld
          have H7 : Hid (DKx S5 wc.drew B m mt (D1.files (pre ++ L.drop i)) M5 V5) := Lib.hid (H6.out.move (Nat.le_refl _) (fun _ _ _ => rfl))
          have HO7 : Hid (Only (fun k : Nat => S k ∨ k = T) w3 wc.drew) := Lib.hid HO6.out.drew
          have HOB7 : Hid (OB wc.drew 0 (.slice a8 ln c8) (f.all.take f.kept ++ tearB (f.all.drop f.kept) (nextT ts).1.1 (nextT ts).1.2)) := Lib.hid (HOB6.out.blk (fun _ _ => rfl))
          have HTT7 : Hid (wc.drew.heap[T]? = some (.cells #[.slice a2 (nextT ts).2.length c2] 55 (0, 0))) := Lib.hid HTT6.out
          have HTR7 : Hid (TRow (fun k : Nat => S k ∨ k = T) wc.drew a2 (nextT ts).2) := Lib.hid (HTR6.out.only (Only.refl (fun k : Nat => S k ∨ k = T) wc).drew)
          have HZ7 : Hid (w5.heap.size ≤ wc.drew.heap.size) := Lib.hid HO56.out.size
          clear H6 HO6 HOB6 HTT6 HTR6 HX6
          generalize wc.drew = w7 at H7 HO7 HOB7 HTT7 HTR7 HZ7 HS0 ⊢
          refine wpAnyH_take (i := 0) (oi := { dst := some 37, op := Go.Op.move (Go.Operand.tmp 0), type := 56, pos := "disk.go:212", after := #[], guard := none }) (v := ?_) rfl (by kernel_rfl) (by kernel_rfl) (by kernel_rfl) (fun _ _ _ h => h) (Or.inl ⟨by rfl, ?_⟩) HS0.out ?_
          case refine_2 => (intro w1 hS1; clear hS1; go_simp; try with_reducible rfl)
          try simp only [Act.put, List.setIfInBounds_toArray, List.set_cons_zero, List.set_cons_succ]
          refine wpAnyH_take (i := 1) (oi := { dst := some 38, op := Go.Op.nilCheck (Go.Operand.tmp 37), type := 0, pos := "disk.go:212", after := #[{ on := 0, ground := Go.Ground.data }], guard := none }) (v := ?_) rfl (by kernel_rfl) (by kernel_rfl) (by kernel_rfl) (fun _ _ _ h => h) (Or.inl ⟨by rfl, ?_⟩) HS0.out ?_
          case refine_2 => (intro w1 hS1; clear hS1; go_simp; try with_reducible rfl)
          try simp only [Act.put, List.setIfInBounds_toArray, List.set_cons_zero, List.set_cons_succ]
          refine wpAnyH_take (i := 2) (oi := { dst := some 39, op := Go.Op.fieldAddr 78 (Go.Operand.tmp 38) 1, type := 0, pos := "disk.go:212", after := #[{ on := 1, ground := Go.Ground.data }], guard := none }) (v := ?_) rfl (by kernel_rfl) (by kernel_rfl) (by kernel_rfl) (fun _ _ _ h => h) (Or.inl ⟨by rfl, ?_⟩) HS0.out ?_
          case refine_2 => (intro w1 hS1; clear hS1; go_simp; try with_reducible rfl)
          try simp only [Act.put, List.setIfInBounds_toArray, List.set_cons_zero, List.set_cons_succ]
          refine wpAnyH_take (i := 3) (oi := { dst := some 40, op := Go.Op.load 75 (Go.Operand.tmp 39), type := 75, pos := "disk.go:212", after := #[{ on := 2, ground := Go.Ground.data }], guard := none }) (v := ?_) rfl (by kernel_rfl) (by kernel_rfl) (by kernel_rfl) (fun _ _ _ h => h) (Or.inl ⟨by rfl, ?_⟩) HS0.out ?_
          case refine_2 => (intro w1 hS1; obtain ⟨hb1, -⟩ := hS1; have c1 : w1.cell? ⟨B, 1, none⟩ = some (.map (some m)) := (by simp only [World.cell?, hb1]; rfl); clear hb1; go_simp; try with_reducible rfl)
          try simp only [Act.put, List.setIfInBounds_toArray, List.set_cons_zero, List.set_cons_succ]
          refine wpAnyH_take (i := 4) (oi := { dst := some 41, op := Go.Op.move (Go.Operand.tmp 7), type := 9, pos := "disk.go:212", after := #[], guard := none }) (v := ?_) rfl (by kernel_rfl) (by kernel_rfl) (by kernel_rfl) (fun _ _ _ h => h) (Or.inl ⟨by rfl, ?_⟩) HS0.out ?_
          case refine_2 => (intro w1 hS1; clear hS1; go_simp; try with_reducible rfl)
          try simp only [Act.put, List.setIfInBounds_toArray, List.set_cons_zero, List.set_cons_succ]
          refine wpAnyH_take (i := 5) (oi := { dst := some 42, op := Go.Op.load 143 (Go.Operand.tmp 8), type := 143, pos := "disk.go:212", after := #[], guard := none }) (v := .agg #[.slice a8 ln c8, .int .i64 (ln : Int)]) rfl (by kernel_rfl) (by kernel_rfl) (by kernel_rfl) (fun _ _ _ h => h) (Or.inl ⟨by rfl, ?_⟩) HS0.out ?_
          case refine_1 => (intro w1 hS1; obtain ⟨-, hb2⟩ := hS1; obtain ⟨z0, z1, -⟩ := two_at hb2; clear hb2; go_simp; try with_reducible rfl)
          try simp only [Act.put, List.setIfInBounds_toArray, List.set_cons_zero, List.set_cons_succ]
          obtain ⟨M8, hM1, hM2⟩ := upV M5 (.string nm) (some (.agg #[.slice a8 ln c8, .int .i64 (ln : Int)]))
          obtain ⟨w8, hrun, hv8, hg8, hz8⟩ := H7.out.df.vm.put keyedS fm_und (by have := H7.out.df.few; unfold maxLen; omega) (keyS HNL.out) (.agg #[.slice a8 ln c8, .int .i64 (ln : Int)]) hM1 hM2
          have HS8 : Hid ((fun W : World => W.heap[B]? = some (.cells (DC D1 m mt).toArray 78 (0, 0)) ∧ W.heap[N]? = some (.cells #[.slice a8 ln c8, .int .i64 (ln : Int)] 143 (0, 0))) w8) := Lib.hid ⟨(hg8.block B H7.out.lt.1 (by intro e; injection e with e; exact H7.out.ne.1 e)).trans HS0.out.1, (hg8.block N (ex_lt HS0.out.2) (by intro e; injection e with e; exact HNMM.out e)).trans HS0.out.2⟩
          refine wpAnyH_ready (rs := [6]) (by kernel_rfl) (by simp) ?_
          refine AllReadyH.cons (o := { dst := none, op := Go.Op.mapUpdate 75 (Go.Operand.tmp 40) (Go.Operand.tmp 41) (Go.Operand.tmp 42), type := 0, pos := "disk.go:212", after := #[{ on := 3, ground := Go.Ground.data }, { on := 4, ground := Go.Ground.data }, { on := 5, ground := Go.Ground.data }, { on := 0, ground := Go.Ground.phase }, { on := 1, ground := Go.Ground.phase }, { on := 2, ground := Go.Ground.phase }, { on := 3, ground := Go.Ground.phase }, { on := 4, ground := Go.Ground.phase }, { on := 5, ground := Go.Ground.phase }], guard := none }) rfl (fun K hK => ?_) AllReadyH.nil
          go_simp
          have HV8 := Lib.hid hv8
          have HG8 := Lib.hid hg8
          have HM8 := Lib.hid (And.intro hM1 hM2)
          have HZ8 := Lib.hid hz8
          clear hv8 hg8 hM1 hM2 hz8 HS0
          have HS0 := HS8
          clear HS8
          refine hK.out _ _ HS0.out (fun hHeld => ?_)
          clear hrun hK K hHeld
          try simp only [Act.put, List.setIfInBounds_toArray, List.set_cons_zero, List.set_cons_succ]
          refine wpAnyH_done (by kernel_rfl) ?_ _
          have hgk : ∀ k, k < w7.heap.size → k ≠ m → w8.heap[k]? = w7.heap[k]? := fun k hk e => HG8.out.block k hk (fun e2 => e (by injection e2))
          have h7 := H7.out
          have hgl : ∀ g, (Value.slice a8 ln c8).ownBlock = some g → w5.heap.size ≤ g ∧ g < w7.heap.size := fun g hg => ⟨HGB.out g hg, (HOB7.out.lt hg).2⟩
          have hbd5 := HBD5.out
          have emid : (D1.files (pre ++ L.drop i)).fs = pre ++ (nm, f) :: L.drop (i + 1) := by show pre ++ L.drop i = _; rw [HDR.out]
          have hsrt : SrtF (pre ++ (nm, f) :: L.drop (i + 1)) := by rw [← emid]; exact h7.df.srt
          have hget : getF (D1.files (pre ++ L.drop i)).fs nm = some f := by rw [emid]; exact getF_mid hsrt
          have eput : putF (D1.files (pre ++ L.drop i)).fs nm (tornF f (nextT ts).1) = pre ++ (nm, tornF f (nextT ts).1) :: L.drop (i + 1) := by rw [emid]; exact putF_mid hsrt
          have hsp := sum_put_some (L := (D1.files (pre ++ L.drop i)).fs) (tornF f (nextT ts).1) h7.df.srt hget
          have hlp := len_put_some (L := (D1.files (pre ++ L.drop i)).fs) (tornF f (nextT ts).1) h7.df.srt hget
          have htl : (tornF f (nextT ts).1).all.length ≤ f.all.length := by
            show (f.all.take f.kept ++ tearB (f.all.drop f.kept) (nextT ts).1.1 (nextT ts).1.2).length ≤ _
            have h1 := HOKF.out.2.1
            have h2 := tearN_le (f.all.drop f.kept) (nextT ts).1.1
            rw [tear_few HQF.out, List.length_append, List.length_take, List.length_take]
            rw [List.length_drop] at h2 ⊢
            omega
          have hby : ∀ c ∈ (tornF f (nextT ts).1).all, c < 256 := fun c hc => by
            have hc2 : c ∈ f.all.take f.kept ++ tearB (f.all.drop f.kept) (nextT ts).1.1 (nextT ts).1.2 := hc
            rw [tear_few HQF.out] at hc2
            rcases List.mem_append.1 hc2 with h | h
            · exact HOKF.out.1 c (List.mem_of_mem_take h)
            · exact HOKF.out.1 c (List.mem_of_mem_drop (List.mem_of_mem_take h))
          have h8 := h7.putf (n := nm) (v := .slice a8 ln c8) (f := tornF f (nextT ts).1) (M' := M8) (S' := fun k => S5 k ∨ (Value.slice a8 ln c8).ownBlock = some k) (hgk B h7.lt.1 h7.ne.1) (hgk mt h7.lt.2.2 (Ne.symm h7.ne.2.2)) (fun k g _ hk hv => hgk g (h7.df.lt hk hv) (h7.fne k g hk hv).2.1) HV8.out (by rw [HM8.out.1, HLN6.out]; rfl) HM8.out.2 (HOB7.out.blk (fun g hv => hgk g (hgl g hv).2 (fun e => by have := hbd5 m h7.own.2.1; have := (hgl g hv).1; omega))) ⟨hby, Nat.le_refl _, HNL.out⟩ (fun k g _ hk hv e => by have := hbd5 g (h7.df.inS k g hk hv); have := (hgl g e).1; omega) (fun g hv => by have h1 := (hgl g hv).1; have h2 := hbd5 B h7.own.1; have h3 := hbd5 m h7.own.2.1; have h4 := hbd5 mt h7.own.2.2; exact ⟨by omega, by omega, by omega⟩) (fun _ h => .inl h) (fun g hv => .inr hv) (by have := h7.df.sum; omega) (by have := h7.df.few; omega) (fun k hk => by rw [HZ8.out]; rcases hk with hk | hk; exact h7.bd k hk; exact (hgl k hk).2)
          rw [eput] at h8
          obtain ⟨VT, hVT⟩ : ∃ VT, (fun k => if k = nm then .slice a8 ln c8 else V5 k) = VT := ⟨_, rfl⟩
          rw [hVT] at h8
          have HT9 : Hid (DKx (fun k => S5 k ∨ (Value.slice a8 ln c8).ownBlock = some k) w8 B m mt (D1.files (pre ++ (nm, tornF f (nextT ts).1) :: L.drop (i + 1))) M8 VT) := Lib.hid h8
          have HSS5' : Hid ((∀ k, S k → (S5 k ∨ (Value.slice a8 ln c8).ownBlock = some k)) ∧ ∀ k, (S5 k ∨ (Value.slice a8 ln c8).ownBlock = some k) → S k ∨ w3.heap.size ≤ k) := Lib.hid ⟨fun k hk => .inl (HSS5.out.1 k hk), fun k hk => by
            rcases hk with hk | hk
            · exact HSS5.out.2 k hk
            · exact .inr (Nat.le_trans HW35.out (hgl k hk).1)⟩
          have HO5 : Hid (Only (fun k : Nat => S k ∨ k = T) w3 w8) := Lib.hid (only_grown HO7.out HG8.out (.inl HSO.out.2.1))
          have HTT5 : Hid (w8.heap[T]? = some (.cells #[.slice a2 (nextT ts).2.length c2] 55 (0, 0))) := Lib.hid ((HG8.out.block T (ex_lt HTT7.out) (by intro e; injection e with e; exact HTM.out.2.1 e)).trans HTT7.out)
          have HTR5 := Lib.hid (HTR7.out.only (only_grown (Only.refl (fun k : Nat => S k ∨ k = T) w7) HG8.out (.inl HSO.out.2.1)))
          have HX9 : Hid (w8.cell? ⟨N, 0, none⟩ = some (.slice a8 ln c8) ∧ True) := Lib.hid ⟨(two_at HS0.out.2).1, trivial⟩
          have HLN : Hid ((tornF f (nextT ts).1).all.length = ln) := Lib.hid HLN6.out.symm
          have HCT5 := HCT6
          have HTI5 := HTIN
          clear h8 hVT hgk h7 hgl hbd5 emid hsrt hget eput hsp hlp htl hby HSS5
          have HSS5 := HSS5'
          clear HSS5' H7 HO7 HOB7 HTT7 HTR7 HV8 HG8 HM8 HZ8 HS0 HLN6 HCT6 HTIN
          obtain ⟨S9, hS9⟩ : ∃ S9 : Nat → Prop, (fun k => S5 k ∨ (Value.slice a8 ln c8).ownBlock = some k) = S9 := ⟨_, rfl⟩
          rw [hS9] at HT9
          have HSS9 : Hid ((∀ k, S k → S9 k) ∧ ∀ k, S9 k → S k ∨ w3.heap.size ≤ k) := Lib.hid (by rw [← hS9]; exact HSS5.out)
          clear HSS5 hS9
          have HSS5 := HSS9
          clear HSS9
          obtain ⟨MT, hMT⟩ : ∃ MT, M8 = MT := ⟨_, rfl⟩
          rw [hMT] at HT9
          clear hMT
          go_upto_region 12 with fail
          by_cases hz : ln = 0
          · have hzl : decide ((ln : Int) = 0) = true := decide_eq_true (by omega)
            have hzb : ((ln : Int) == 0) = true := by simp; omega
            have hall : (tornF f (nextT ts).1).all = [] := List.length_eq_zero_iff.1 (by have := HLN.out; omega)
            obtain ⟨M9, hM1, hM2⟩ := upV MT (.string nm) none
            obtain ⟨w9, hrun, hv9, hg9⟩ := HT9.out.df.vm.del keyedS fm_und (keyS HNL.out) 0 hM1 hM2
            have h9 := HT9.out.delf hg9 hv9 hM1 hM2
            have e9 : delF (pre ++ (nm, (tornF f (nextT ts).1)) :: L.drop (i + 1)) nm = pre ++ L.drop (i + 1) := delF_mid HT9.out.df.srt
            have H9 : Hid (DKx S9 w9 B m mt (D1.files (pre ++ L.drop (i + 1))) M9 VT) := Lib.hid (by rw [← e9]; exact h9)
            have HE9 : Hid (crashF L ts0 = pre ++ crashF (L.drop (i + 1)) (nextT ts).2) := Lib.hid (by rw [HE5.out]; unfold oneF; rw [if_pos hall]; rfl)
            have hm1 : (fun k : Nat => S k ∨ k = T) m := .inl HSO.out.2.1
            have HO9 : Hid (Only (fun k : Nat => S k ∨ k = T) w3 w9) := Lib.hid (only_grown HO5.out hg9 hm1)
            have HTT9 : Hid (w9.heap[T]? = some (.cells #[.slice a2 (nextT ts).2.length c2] 55 (0, 0))) := Lib.hid ((hg9.block T (ex_lt HTT5.out) (by intro e; injection e with e; exact HTM.out.2.1 e)).trans HTT5.out)
            have HTR9 := Lib.hid (HTR5.out.only (only_grown (Only.refl (fun k : Nat => S k ∨ k = T) w8) hg9 hm1))
            have c19 := HT9.out.at.2.1
            have HXZ := HX9.out.1
            clear hv9 hg9 hM1 hM2 h9 e9 hall hz hm1
            go_wp2_with fail
            go_roundg (L.length - (i + 1))
            case measure => exact hmm9
            case rel => exact ⟨i + 1, pre, (nextT ts).2, a2, c2, S9, M9, VT, by first | (rw [HWI.out]; rfl) | rfl, hii9.1, hii9.2, HE9, H9, HSS5, HO9, HTT9, HCT5, HTR9, HTI5⟩
          · have hzl : decide ((ln : Int) = 0) = false := decide_eq_false (by omega)
            have hzb : ((ln : Int) == 0) = false := by simp; omega
            have hall : ¬ (tornF f (nextT ts).1).all = [] := fun e => hz (by have := HLN.out; rw [e] at this; simpa using this.symm)
            have HE9 : Hid (crashF L ts0 = (pre ++ [(nm, (tornF f (nextT ts).1))]) ++ crashF (L.drop (i + 1)) (nextT ts).2) := Lib.hid (by rw [HE5.out]; unfold oneF; rw [if_neg hall, List.append_assoc])
            have H9 : Hid (DKx S9 w8 B m mt (D1.files ((pre ++ [(nm, (tornF f (nextT ts).1))]) ++ L.drop (i + 1))) MT VT) := Lib.hid (by rw [List.append_assoc]; exact HT9.out)
            have HXZ := HX9.out.1
            clear hall hz
            go_wp2_with fail
            go_roundg (L.length - (i + 1))
            case measure => exact hmm9
            case rel => exact ⟨i + 1, pre ++ [(nm, (tornF f (nextT ts).1))], (nextT ts).2, a2, c2, S9, MT, VT, by first | (rw [HWI.out]; rfl) | rfl, hii9.1, hii9.2, HE9, H9, HSS5, HO5, HTT5, HCT5, HTR5, HTI5⟩
      · have hL0 : f.all.length - f.kept = 0 := by omega
        have hd0 : decide (((f.all.length - f.kept : Nat) : Int) > 0) = false := decide_eq_false (by omega)
        have hd1 : decide (0 < ((f.all.length - f.kept : Nat) : Int)) = false := decide_eq_false (by omega)
        have hd2 : decide (0 < f.all.length - f.kept) = false := decide_eq_false (by omega)
        have HE5 : Hid (crashF L ts0 = pre ++ (oneF nm f ++ crashF (L.drop (i + 1)) ts)) := Lib.hid (by
          rw [HE.out, HDR.out]
          show pre ++ crashF ((nm, f) :: L.drop (i + 1)) ts = _
          rw [crashF_cons, if_neg hlo])
        clear hlo hL0
        go_upto_region 12 with fail
        obtain ⟨MT, hMT⟩ : ∃ MT, M5 = MT := ⟨_, rfl⟩
        obtain ⟨VT, hVT⟩ : ∃ VT, V5 = VT := ⟨_, rfl⟩
        have HT9 : Hid (DKx S5 w5 B m mt (D1.files (pre ++ (nm, f) :: L.drop (i + 1))) MT VT) := Lib.hid (by rw [← hMT, ← hVT, ← HDR.out]; exact H5.out)
        have HLN : Hid (f.all.length = f.all.length) := Lib.hid rfl
        have HX9 : Hid (w5.cell? ⟨N, 0, none⟩ = some (.slice a f.all.length c) ∧ True) := Lib.hid ⟨(two_at HX5.out).1, trivial⟩
        obtain ⟨ln, hln⟩ : ∃ ln, f.all.length = ln := ⟨_, rfl⟩
        rw [hln] at HX9
        have HLN : Hid (f.all.length = ln) := Lib.hid hln
        try rw [hln]
        clear hMT hVT hln
        by_cases hz : ln = 0
        · have hzl : decide ((ln : Int) = 0) = true := decide_eq_true (by omega)
          have hzb : ((ln : Int) == 0) = true := by simp; omega
          have hall : f.all = [] := List.length_eq_zero_iff.1 (by have := HLN.out; omega)
          obtain ⟨M9, hM1, hM2⟩ := upV MT (.string nm) none
          obtain ⟨w9, hrun, hv9, hg9⟩ := HT9.out.df.vm.del keyedS fm_und (keyS HNL.out) 0 hM1 hM2
          have h9 := HT9.out.delf hg9 hv9 hM1 hM2
          have e9 : delF (pre ++ (nm, f) :: L.drop (i + 1)) nm = pre ++ L.drop (i + 1) := delF_mid HT9.out.df.srt
          have H9 : Hid (DKx S5 w9 B m mt (D1.files (pre ++ L.drop (i + 1))) M9 VT) := Lib.hid (by rw [← e9]; exact h9)
          have HE9 : Hid (crashF L ts0 = pre ++ crashF (L.drop (i + 1)) ts) := Lib.hid (by rw [HE5.out]; unfold oneF; rw [if_pos hall]; rfl)
          have hm1 : (fun k : Nat => S k ∨ k = T) m := .inl HSO.out.2.1
          have HO9 : Hid (Only (fun k : Nat => S k ∨ k = T) w3 w9) := Lib.hid (only_grown HO5.out hg9 hm1)
          have HTT9 : Hid (w9.heap[T]? = some (.cells #[.slice at0 ts.length ct] 55 (0, 0))) := Lib.hid ((hg9.block T (ex_lt HTT5.out) (by intro e; injection e with e; exact HTM.out.2.1 e)).trans HTT5.out)
          have HTR9 := Lib.hid (HTR5.out.only (only_grown (Only.refl (fun k : Nat => S k ∨ k = T) w5) hg9 hm1))
          have c19 := HT9.out.at.2.1
          have HXZ := HX9.out.1
          clear hv9 hg9 hM1 hM2 h9 e9 hall hz hm1
          go_wp2_with fail
          go_roundg (L.length - (i + 1))
          case measure => exact hmm9
          case rel => exact ⟨i + 1, pre, ts, at0, ct, S5, M9, VT, by first | (rw [HWI.out]; rfl) | rfl, hii9.1, hii9.2, HE9, H9, HSS5, HO9, HTT9, HCT5, HTR9, HTI5⟩
        · have hzl : decide ((ln : Int) = 0) = false := decide_eq_false (by omega)
          have hzb : ((ln : Int) == 0) = false := by simp; omega
          have hall : ¬ f.all = [] := fun e => hz (by have := HLN.out; rw [e] at this; simpa using this.symm)
          have HE9 : Hid (crashF L ts0 = (pre ++ [(nm, f)]) ++ crashF (L.drop (i + 1)) ts) := Lib.hid (by rw [HE5.out]; unfold oneF; rw [if_neg hall, List.append_assoc])
          have H9 : Hid (DKx S5 w5 B m mt (D1.files ((pre ++ [(nm, f)]) ++ L.drop (i + 1))) MT VT) := Lib.hid (by rw [List.append_assoc]; exact HT9.out)
          have HXZ := HX9.out.1
          clear hall hz
          go_wp2_with fail
          go_roundg (L.length - (i + 1))
          case measure => exact hmm9
          case rel => exact ⟨i + 1, pre ++ [(nm, f)], ts, at0, ct, S5, MT, VT, by first | (rw [HWI.out]; rfl) | rfl, hii9.1, hii9.2, HE9, H9, HSS5, HO5, HTT5, HCT5, HTR5, HTI5⟩
    · obtain rfl : i = L.length := by omega
      have hd : decide (((L.length : Nat) : Int) < ((L.length : Nat) : Int)) = false := decide_eq_false (by omega)
      clear hlt hi hix
      go_wp2_with fail
      go_ret
      have h9 := H4.out
      have hE := HE.out
      have hcn : crashF [] ts = [] := by cases ts <;> rfl
      rw [List.drop_length] at h9 hE
      rw [hcn, List.append_nil] at hE
      rw [List.append_nil] at h9
      have e9 : D1.files pre = crashD D ts0 := by
        rw [← HD1.out]
        unfold crashD Dd.files
        rw [HLL.out, hE]
      rw [e9] at h9
      refine ⟨rfl, S5, ⟨m, mt, M5, V5, h9⟩, ?_, HSS5.out.1, fun k hk => (HSS5.out.2 k hk).imp_right (fun h => Nat.le_trans HO3.out.size h)⟩
      have o1 := HO3.out
      have o2 := HO4.out
      exact ⟨o2.os.trans o1.os, o2.tape.trans o1.tape, o2.output.trans o1.output, Nat.le_trans o1.size o2.size, fun k hk hx => (o2.block k (Nat.lt_of_lt_of_le hk o1.size) (fun e => e.elim hx (fun e => by have := HTN.out; omega))).trans (o1.block k hk hx)⟩
end Go.Proofs.Ythefnakbpalecaa
