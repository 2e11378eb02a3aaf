/- What a crash leaves of a file; Files, in blocks of its own. -/
import Derived.Test.YthkjjpkipeeimaaDoC
namespace Go.Proofs.Ythkjjpkipeeimaa
open Go.RowKit Go.Maps
def gF (f : Fl) (ts : List (Nat × Nat)) : Fl := if f.kept < f.all.length then tornF f (nextT ts).1 else f
def rT (f : Fl) (ts : List (Nat × Nat)) : List (Nat × Nat) := if f.kept < f.all.length then (nextT ts).2 else ts
theorem crash_step (n : Nm) (f : Fl) (r : Ft) (ts : List (Nat × Nat)) : crashF ((n, f) :: r) ts = oneF n (gF f ts) ++ crashF r (rT f ts) := by
  rw [crashF_cons]
  unfold gF rT
  by_cases h : f.kept < f.all.length
  · rw [if_pos h, if_pos h, if_pos h]
  · rw [if_neg h, if_neg h, if_neg h]
theorem rT_mem {f : Fl} {ts : List (Nat × Nat)} {x : Nat × Nat} (h : x ∈ rT f ts) : x ∈ ts := by
  unfold rT at h
  split at h
  · cases ts with
    | nil => cases h
    | cons u q => exact List.mem_cons_of_mem _ h
  · exact h
/-- What a crash leaves of a file, against the file. -/
structure Gd (f g : Fl) : Prop where
  kept : g.kept = g.all.length
  le : g.all.length ≤ f.all.length
  ge : f.kept ≤ g.all.length
  tk : g.all.take f.kept = f.all.take f.kept
  safe : g.all.take (max f.kept (g.all.length - 3)) = f.all.take (max f.kept (g.all.length - 3))
theorem take_set_lo (l : List Nat) {i k : Nat} (c : Nat) (h : k ≤ i) : (l.set i c).take k = l.take k := by
  apply List.ext_getElem?
  intro j
  rw [List.getElem?_take, List.getElem?_take]
  split
  · rw [List.getElem?_set_ne (by omega)]
  · rfl
theorem turn3_take (y : List Nat) (tn : Nat) : (turn3 y tn).take (y.length - 3) = y.take (y.length - 3) := by
  unfold turn3
  rw [take_set_lo _ _ (by omega), take_set_lo _ _ (by omega), take_set_lo _ _ (by omega)]
theorem gF_ok {f : Fl} (ts : List (Nat × Nat)) (hk : f.kept ≤ f.all.length) : Gd f (gF f ts) := by
  unfold gF
  by_cases h : f.kept < f.all.length
  · rw [if_pos h]
    obtain ⟨kp, tn⟩ := (nextT ts).1
    unfold tornF
    dsimp only
    obtain ⟨all, kept⟩ := f
    dsimp only at h hk ⊢
    have hl : (all.take kept).length = kept := by rw [List.length_take]; omega
    obtain ⟨n, hn⟩ : ∃ n, tearN (all.drop kept) kp = n := ⟨_, rfl⟩
    have hnl : n ≤ all.length - kept := by have := tearN_le (all.drop kept) kp; rw [hn, List.length_drop] at this; exact this
    have htl : (tearB (all.drop kept) kp tn).length = n := by rw [tearB_len, hn]
    have hgl : (all.take kept ++ tearB (all.drop kept) kp tn).length = kept + n := by rw [List.length_append, hl, htl]
    have htk : ∀ s, s ≤ n - 3 ∨ (n < 3 ∧ s ≤ n) → (tearB (all.drop kept) kp tn).take s = (all.drop kept).take s := by
      intro s hs
      unfold tearB
      rw [hn]
      by_cases h3 : n < 3
      · rw [if_pos h3, List.take_take]
        congr 1
        omega
      · rw [if_neg h3]
        have hyl : ((all.drop kept).take n).length = n := by rw [List.length_take, List.length_drop]; omega
        have h4 := turn3_take ((all.drop kept).take n) tn
        rw [hyl] at h4
        have h5 : (turn3 ((all.drop kept).take n) tn).take s = ((turn3 ((all.drop kept).take n) tn).take (n - 3)).take s := by rw [List.take_take]; congr 1; omega
        rw [h5, h4, List.take_take, List.take_take]
        congr 1
        omega
    refine ⟨rfl, by show (all.take kept ++ tearB (all.drop kept) kp tn).length ≤ all.length; rw [hgl]; omega, by show kept ≤ (all.take kept ++ tearB (all.drop kept) kp tn).length; rw [hgl]; omega, ?_, ?_⟩
    · show (all.take kept ++ tearB (all.drop kept) kp tn).take kept = all.take kept
      rw [List.take_append_of_le_length (by omega), List.take_take, Nat.min_self]
    · show (all.take kept ++ tearB (all.drop kept) kp tn).take (max kept ((all.take kept ++ tearB (all.drop kept) kp tn).length - 3)) = all.take (max kept ((all.take kept ++ tearB (all.drop kept) kp tn).length - 3))
      rw [hgl]
      obtain ⟨s, hs⟩ : ∃ s, max kept (kept + n - 3) = kept + s ∧ (s ≤ n - 3 ∨ (n < 3 ∧ s ≤ n)) := ⟨max kept (kept + n - 3) - kept, by omega, by omega⟩
      rw [hs.1]
      have e1 : (all.take kept ++ tearB (all.drop kept) kp tn).take (kept + s) = all.take kept ++ (tearB (all.drop kept) kp tn).take s := by
        rw [List.take_append, hl, List.take_take]
        congr 1
        · congr 1; omega
        · congr 1; omega
      rw [e1, htk s hs.2, List.take_add]
  · rw [if_neg h]
    exact ⟨by omega, Nat.le_refl _, hk, rfl, rfl⟩
theorem crash_names : ∀ {L : Ft} {ts : List (Nat × Nat)} {p : Nm × Fl}, p ∈ crashF L ts → ∃ f, (p.1, f) ∈ L
  | [], _, _, h => by cases h
  | (n, f) :: r, ts, p, h => by
    rw [crash_step] at h
    rcases List.mem_append.1 h with h | h
    · unfold oneF at h
      split at h
      · cases h
      · rw [List.mem_singleton] at h
        exact ⟨f, by rw [h]; exact List.mem_cons_self⟩
    · obtain ⟨g, hg⟩ := crash_names h
      exact ⟨g, List.mem_cons_of_mem _ hg⟩
/-- A row of told files, in blocks from base on. -/
def GRowO (base : Nat) (w : World) (a : Option Addr) (T : Ft) : Prop := ∀ i (hi : i < T.length), ∃ g v1 v2, a = some ⟨g, 0, none⟩ ∧ base ≤ g ∧ g < w.heap.size ∧ w.cell? ⟨g, i * 3, none⟩ = some (encStr T[i].1) ∧ w.cell? ⟨g, i * 3 + 1, none⟩ = some v1 ∧ w.cell? ⟨g, i * 3 + 2, none⟩ = some v2 ∧ OB w base v1 (T[i].2.all.take T[i].2.kept) ∧ OB w base v2 (T[i].2.all.drop T[i].2.kept)
theorem GRowO.mono {base base' : Nat} {w : World} {a : Option Addr} {T : Ft} (h : GRowO base w a T) (hb : base' ≤ base) : GRowO base' w a T := fun i hi => by
  obtain ⟨g, v1, v2, e, h0, h1, h2, h3, h4, h5, h6⟩ := h i hi
  exact ⟨g, v1, v2, e, by omega, h1, h2, h3, h4, h5.mono hb, h6.mono hb⟩
theorem GRowO.only {base : Nat} {S : Nat → Prop} {w w' : World} {a : Option Addr} {T : Ft} (h : GRowO base w a T) (ho : Only S w w') (hs : ∀ k, S k → k < base) : GRowO base w' a T := fun i hi => by
  obtain ⟨g, v1, v2, e, h0, h1, h2, h3, h4, h5, h6⟩ := h i hi
  have hg : ¬ S g := fun hx => by have := hs g hx; omega
  exact ⟨g, v1, v2, e, h0, Nat.lt_of_lt_of_le h1 ho.size, (World.cell?_of_block (a := ⟨g, _, none⟩) (ho.block g h1 hg)).trans h2, (World.cell?_of_block (a := ⟨g, _, none⟩) (ho.block g h1 hg)).trans h3, (World.cell?_of_block (a := ⟨g, _, none⟩) (ho.block g h1 hg)).trans h4,
    h5.blk (fun k hk => ho.block k (h5.lt hk).2 (fun hx => by have := hs k hx; have := (h5.lt hk).1; omega)), h6.blk (fun k hk => ho.block k (h6.lt hk).2 (fun hx => by have := hs k hx; have := (h6.lt hk).1; omega))⟩
theorem GRowO.row {base : Nat} {w : World} {a : Option Addr} {T : Ft} (h : GRowO base w a T) (hok : ∀ p ∈ T, (∀ c ∈ p.2.all, c < 256) ∧ p.2.all.length ≤ 1048576) : GRow w a T := fun i hi => by
  obtain ⟨g, v1, v2, e, h0, h1, h2, h3, h4, h5, h6⟩ := h i hi
  have hb := hok T[i] (List.getElem_mem hi)
  exact ⟨g, 0, v1, v2, e, h1, by rw [Nat.zero_add]; exact h2, by rw [Nat.zero_add]; exact h3, by rw [Nat.zero_add]; exact h4, h5.rb (fun c hc => hb.1 c (List.mem_of_mem_take hc)) (by rw [List.length_take]; omega), h6.rb (fun c hc => hb.1 c (List.mem_of_mem_drop hc)) (by rw [List.length_drop]; omega)⟩
theorem GI.rowO {w : World} {base : Nat} {T : Ft} {l : List Gf} {v : Value} (h : GI w base T l) (ho : OG w base v l) : ∃ a c, v = .slice a T.length c ∧ GRowO base w a T := by
  have h' := ho
  rcases h'.2 with ⟨hv, h0⟩ | ⟨g, cap, cur, hv, hg, hh, hc, hm, _⟩
  · have e : T.length = 0 := by rw [← h.1, h0]
    exact ⟨none, 0, by rw [hv, e], fun i hi => by omega⟩
  · subst hv
    refine ⟨_, cap, by rw [h.1], fun k hk => ?_⟩
    have hkl : k < l.length := by rw [h.1]; exact hk
    obtain ⟨e, k1, k2⟩ := h.2 k hkl hk
    have c0 := World.ownsRow.cellAt ho (k * 3) (by omega)
    have c1 := World.ownsRow.cellAt ho (k * 3 + 1) (by omega)
    have c2 := World.ownsRow.cellAt ho (k * 3 + 2) (by omega)
    have hs := cg_at l k hkl
    rw [hs.1, e] at c0
    rw [hs.2.1] at c1
    rw [hs.2.2] at c2
    exact ⟨g, _, _, rfl, hg, (Array.getElem?_eq_some_iff.mp hh).1, c0, c1, c2, k1, k2⟩
set_option maxRecDepth 100000 in
set_option maxHeartbeats 8000000 in
theorem dfilesO {S : Nat → Prop} {w : World} {B m mt : Nat} {D : Dd} {M : Lit → Option Value} {V : Nm → Value} (h : DKx S w B m mt D M V) : Calls Try.prog 24 #[.pointer (some ⟨B, 0, none⟩)] w fun e w' => ∃ a c, e = .returned (.slice a D.fs.length c) ∧ GRowO w.heap.size w' a D.fs ∧ Below w.heap.size w w' := by
  have HW := Lib.hid h
  clear h
  go_enter Try.func24, Try.ntmps24
  go_wp2_with fail
  refine (dnames HW.out).mono ?_
  rintro e w2 ⟨v, rfl, hoz, hb⟩
  have H2 := Lib.hid (HW.out.below hb)
  have HB1 := Lib.hid hb
  have hlz := fun g => OZ.lt hoz (g := g)
  have hkl : (keysF D.fs).length = D.fs.length := by unfold keysF; rw [List.length_map]
  obtain ⟨an, cn, rfl, hcs⟩ := hoz.cells
  rw [hkl]
  have HNAM : Hid (∀ i (hi : i < D.fs.length), ∃ g, an = some ⟨g, 0, none⟩ ∧ g < w2.heap.size ∧ w2.cell? ⟨g, i, none⟩ = some (encStr (D.fs[i]).1)) := Lib.hid (fun i hi => by
    obtain ⟨g, rfl, hg⟩ := hcs i (by rw [hkl]; exact hi)
    refine ⟨g, rfl, (hlz g rfl).2, ?_⟩
    rw [hg]; unfold keysF; rw [List.getElem_map])
  have HLEN : Hid (D.fs.length ≤ 128) := Lib.hid H2.out.df.few
  clear hoz hb hlz hcs hkl HW
  obtain ⟨b2, hb2⟩ : ∃ b2, w2.heap.size = b2 := ⟨_, rfl⟩
  have HB2Z : Hid (w2.heap.size = b2) := Lib.hid hb2
  obtain ⟨ln, hln⟩ : ∃ ln, D.fs.length = ln := ⟨_, rfl⟩
  have HLN := Lib.hid hln
  rw [hln]
  clear hb2 hln
  go_wp2_with fail
  go_loopg [3, 10] ln (fun kx s3 s10 wr => ∃ (i : Nat) (v : Value) (l : List Gf), s10 = .int .i64 (i : Int) ∧ v = s3 ∧ i ≤ ln ∧ ln - i ≤ kx ∧ Hid (OG wr b2 v l) ∧ Hid (GI wr b2 (D.fs.take i) l) ∧ Hid (Below b2 w2 wr))
  case atStart => exact ⟨0, _, [], rfl, rfl, by omega, by omega, Lib.hid (OG.nil _ _), Lib.hid ⟨rfl, fun j h => absurd h (Nat.not_lt_zero _)⟩, Lib.hid (Below.refl _ _)⟩
  case round =>
    obtain ⟨i, v, l, rfl, rfl, hi, hk, HO4, HG4, HB4⟩ := hrel
    obtain ⟨w4, rfl⟩ : ∃ W, W = wr := ⟨_, rfl⟩
    obtain ⟨av, cv, hv⟩ := HO4.out.shp
    obtain ⟨lv, hlv⟩ : ∃ lv, l.length = lv := ⟨_, rfl⟩
    rw [hlv] at hv
    subst hv
    clear hlv
    have H4 : Hid (DKx S w4 B m mt D M V) := Lib.hid (H2.out.below (by rw [HB2Z.out]; exact HB4.out))
    by_cases hlt : i < ln
    · have hltz : (i : Int) < (ln : Int) := by omega
      have hi0 : (0 : Int) ≤ (i : Int) := by omega
      have hiL : i < D.fs.length := by rw [HLN.out]; exact hlt
      have HIL := Lib.hid hiL
      have HWI : Hid (wrap64 ((i : Int) + 1) = (i : Int) + 1) := Lib.hid (IntWalk.wrap64_in _ (by have := HLEN.out; have := HLN.out; omega))
      obtain ⟨g, rfl, hg1, hg4⟩ := HNAM.out i hiL
      have hcn0 := (HB4.out.cell (p := ⟨g, i, none⟩) (by rw [← HB2Z.out]; exact hg1)).trans hg4
      obtain ⟨⟨nm, f⟩, hnf⟩ : ∃ p, D.fs[i] = p := ⟨_, rfl⟩
      have hcn : w4.cell? ⟨g, i, none⟩ = some (encStr nm) := by have e := congrArg Prod.fst hnf; simp only at e; rw [← e]; exact hcn0
      have HTS : Hid (D.fs.take (i + 1) = D.fs.take i ++ [(nm, f)]) := Lib.hid ((List.take_succ_eq_append_getElem hiL).trans (congrArg (fun p => D.fs.take i ++ [p]) hnf))
      have hget : getF D.fs nm = some f := getF_of_mem H4.out.df.srt (by rw [← hnf]; exact List.getElem_mem hiL)
      have HGET := Lib.hid hget
      have HOKF := Lib.hid (H4.out.df.ok nm f hget)
      have HFL : Hid (f.all.length ≤ 1048576) := Lib.hid (by have h1 := sum_le (getF_mem hget); have h2 := H4.out.df.sum; simp only at h1; omega)
      obtain ⟨a, c, e1, e2⟩ := H4.out.file hget
      have HVE := Lib.hid e1
      obtain ⟨-, c1, -⟩ := H4.out.at
      have hz := fl_zero w4
      have hlk := H4.out.df.vm.look keyedS fm_und hz (keyS (H4.out.df.ok nm f hget).2.2)
      rw [e2] at hlk
      simp only [Option.getD_some] at hlk
      obtain ⟨B4, s4⟩ := boxF (w := w4) (.slice a f.all.length c) (.int .i64 (f.kept : Int))
      have H5 := Lib.hid (H4.out.below B4)
      have HO5 := Lib.hid (HO4.out.kept B4)
      have HG5 := Lib.hid (HG4.out.kept B4)
      have HB5 := Lib.hid (HB4.out.trans (B4.mono (by have := HB4.out.size; have := HB2Z.out; omega)))
      obtain ⟨NF, hNF⟩ : ∃ NF, w4.heap.size = NF := ⟨_, rfl⟩
      have HNFR : Hid ((Value.slice av lv cv).ownBlock ≠ some NF) := Lib.hid (fun e => by have := (HO4.out.lt e).2; omega)
      rw [hNF] at s4
      have HX5 := Lib.hid s4
      clear hget hnf e1 e2 hg4 hcn0 B4 s4 H4 HO4 HG4 HB4
      go_upto_region 6 with fail
      try rw [hNF]
      clear hNF hlk hz c1 hcn
      generalize w4.alloc (.cells #[.slice a f.all.length c, .int .i64 (f.kept : Int)] 124) = w5 at H5 HO5 HG5 HB5 HX5 ⊢
      generalize Value.slice av lv cv = v at HO5 HG5 HNFR ⊢
      have HX_w6 : Hid (w5.drew.heap[NF]? = some (.cells #[.slice a f.all.length c, .int .i64 (f.kept : Int)] 124 (0, 0))) := Lib.hid HX5.out
      have H_w6 : Hid (DKx S w5.drew B m mt D M V) := Lib.hid (H5.out.move (Nat.le_refl _) (fun _ _ _ => rfl))
      have HO_w6 : Hid (OG w5.drew b2 v l) := Lib.hid HO5.out
      have HG_w6 : Hid (GI w5.drew b2 (D.fs.take i) l) := Lib.hid HG5.out
      have HB_w6 : Hid (Below b2 w2 w5.drew) := Lib.hid HB5.out.drew
      have HS0 : Hid ((fun W : World => W.heap[NF]? = some (.cells #[.slice a f.all.length c, .int .i64 (f.kept : Int)] 124 (0, 0))) w5.drew) := Lib.hid HX_w6.out
      refine wp_region_held_drew (S := (fun W : World => W.heap[NF]? = some (.cells #[.slice a f.all.length c, .int .i64 (f.kept : Int)] 124 (0, 0)))) (by kernel_rfl) HS0.out (fun hHeld => ?_)
      clear hHeld HX5 H5 HO5 HG5 HB5
      generalize w5.drew = w6 at HX_w6 H_w6 HO_w6 HG_w6 HB_w6 HS0 ⊢
      refine wpAnyH_take (i := 0) (oi := { dst := some 20, op := Go.Op.move (Go.Operand.tmp 3), type := 47, pos := "disk.go:238", after := #[], guard := none }) (v := ?_) rfl (by kernel_rfl) (by kernel_rfl) (by kernel_rfl) (fun _ _ _ h => h) (Or.inl ⟨by rfl, ?_⟩) HS0.out ?_
      case refine_2 => (intro w1 hS1; clear hS1; go_simp; try with_reducible rfl)
      try simp only [Act.put, List.setIfInBounds_toArray, List.set_cons_zero, List.set_cons_succ]
      refine wpAnyH_take (i := 1) (oi := { dst := some 21, op := Go.Op.move (Go.Operand.tmp 5), type := 9, pos := "disk.go:238", after := #[], guard := none }) (v := ?_) rfl (by kernel_rfl) (by kernel_rfl) (by kernel_rfl) (fun _ _ _ h => h) (Or.inl ⟨by rfl, ?_⟩) HS0.out ?_
      case refine_2 => (intro w1 hS1; clear hS1; go_simp; try with_reducible rfl)
      try simp only [Act.put, List.setIfInBounds_toArray, List.set_cons_zero, List.set_cons_succ]
      refine wpAnyH_take (i := 2) (oi := { dst := some 22, op := Go.Op.load 124 (Go.Operand.tmp 6), type := 124, pos := "disk.go:238", after := #[], guard := none }) (v := .agg #[.slice a f.all.length c, .int .i64 (f.kept : Int)]) rfl (by kernel_rfl) (by kernel_rfl) (by kernel_rfl) (fun _ _ _ h => h) (Or.inl ⟨by rfl, ?_⟩) HS0.out ?_
      case refine_1 => (intro w1 hS1; obtain ⟨x0, x1, -⟩ := two_at hS1; clear hS1; go_simp; try with_reducible rfl)
      try simp only [Act.put, List.setIfInBounds_toArray, List.set_cons_zero, List.set_cons_succ]
      refine wpAnyH_take (i := 5) (oi := { dst := some 25, op := Go.Op.load 124 (Go.Operand.tmp 6), type := 124, pos := "disk.go:238", after := #[], guard := none }) (v := .agg #[.slice a f.all.length c, .int .i64 (f.kept : Int)]) rfl (by kernel_rfl) (by kernel_rfl) (by kernel_rfl) (fun _ _ _ h => h) (Or.inl ⟨by rfl, ?_⟩) HS0.out ?_
      case refine_1 => (intro w1 hS1; obtain ⟨x0, x1, -⟩ := two_at hS1; clear hS1; go_simp; try with_reducible rfl)
      try simp only [Act.put, List.setIfInBounds_toArray, List.set_cons_zero, List.set_cons_succ]
      refine wpAnyH_ready (rs := [3]) (by kernel_rfl) (by simp) ?_
      refine AllReadyH.cons (o := { dst := some 23, op := Go.Op.call { callee := Go.Callee.value (Go.Operand.func 75), args := #[Go.Operand.tmp 22], argTypes := #[124] }, type := 51, pos := "disk.go:238", after := #[{ on := 2, ground := Go.Ground.data }], guard := none }) rfl (fun K hK => ?_) AllReadyH.nil
      go_simp
      refine (dsafe a c f.all f.kept w6 (by have h1 := H_w6.out.df.own nm f HGET.out; have h2 := H_w6.out.df.ok nm f HGET.out; rw [HVE.out] at h1; exact h1.rb h2.1 (by have := HFL.out; omega)) HOKF.out.2.1).mono ?_
      rintro e w7 ⟨rfl, hrs, hb⟩
      have H_w7 := Lib.hid (H_w6.out.below hb)
      have HO_w7 := Lib.hid (HO_w6.out.kept hb)
      have HG_w7 := Lib.hid (HG_w6.out.kept hb)
      have HB_w7 := Lib.hid (HB_w6.out.trans (hb.mono (by have := HB_w6.out.size; have := HB2Z.out; omega)))
      have HX_w7 := Lib.hid (ex_below HX_w6.out hb)
      have HRS := Lib.hid hrs
      clear hrs
      have HS0' : Hid ((fun W : World => W.heap[NF]? = some (.cells #[.slice a f.all.length c, .int .i64 (f.kept : Int)] 124 (0, 0))) w7) := Lib.hid HX_w7.out
      clear hb HS0 H_w6 HO_w6 HG_w6 HB_w6 HX_w6
      have HS0 := HS0'
      clear HS0'
      refine hK.out _ _ HS0.out (fun hHeld => ?_)
      clear hK K hHeld
      try simp only [Act.put, List.setIfInBounds_toArray, List.set_cons_zero, List.set_cons_succ]
      refine wpAnyH_ready (rs := [4]) (by kernel_rfl) (by simp) ?_
      refine AllReadyH.cons (o := { dst := some 24, op := Go.Op.call { callee := Go.Callee.value (Go.Operand.func 74), args := #[Go.Operand.tmp 23], argTypes := #[51] }, type := 51, pos := "disk.go:238", after := #[{ on := 3, ground := Go.Ground.data }, { on := 3, ground := Go.Ground.chain }], guard := none }) rfl (fun K hK => ?_) AllReadyH.nil
      go_simp
      refine (bclone (.slice a f.kept f.kept) (f.all.take f.kept) w7 HRS.out (by rw [List.length_take]; have := HFL.out; omega)).mono ?_
      rintro e w8 ⟨u1, rfl, ho1, hb⟩
      have H_w8 := Lib.hid (H_w7.out.below hb)
      have HO_w8 := Lib.hid (HO_w7.out.kept hb)
      have HG_w8 := Lib.hid (HG_w7.out.kept hb)
      have HB_w8 := Lib.hid (HB_w7.out.trans (hb.mono (by have := HB_w7.out.size; have := HB2Z.out; omega)))
      have HX_w8 := Lib.hid (ex_below HX_w7.out hb)
      have HU1 := Lib.hid (ho1.mono (base' := b2) (by have := HB_w7.out.size; have := HB2Z.out; omega))
      obtain ⟨n1, hn1⟩ : ∃ n1, (f.all.take f.kept).length = n1 := ⟨_, rfl⟩
      obtain ⟨a1, c1, hs1⟩ := ho1.shp
      rw [hn1] at hs1
      subst hs1
      clear hn1 ho1 HRS
      have HS0' : Hid ((fun W : World => W.heap[NF]? = some (.cells #[.slice a f.all.length c, .int .i64 (f.kept : Int)] 124 (0, 0))) w8) := Lib.hid HX_w8.out
      clear hb HS0 H_w7 HO_w7 HG_w7 HB_w7 HX_w7
      have HS0 := HS0'
      clear HS0'
      refine hK.out _ _ HS0.out (fun hHeld => ?_)
      clear hK K hHeld
      try simp only [Act.put, List.setIfInBounds_toArray, List.set_cons_zero, List.set_cons_succ]
      refine wpAnyH_ready (rs := [6]) (by kernel_rfl) (by simp) ?_
      refine AllReadyH.cons (o := { dst := some 26, op := Go.Op.call { callee := Go.Callee.value (Go.Operand.func 76), args := #[Go.Operand.tmp 25], argTypes := #[124] }, type := 51, pos := "disk.go:238", after := #[{ on := 5, ground := Go.Ground.data }, { on := 4, ground := Go.Ground.chain }], guard := none }) rfl (fun K hK => ?_) AllReadyH.nil
      go_simp
      refine (dloose a c f.all f.kept w8 (by have h1 := H_w8.out.df.own nm f HGET.out; have h2 := H_w8.out.df.ok nm f HGET.out; rw [HVE.out] at h1; exact h1.rb h2.1 (by have := HFL.out; omega)) HOKF.out.2.1).mono ?_
      rintro e w9 ⟨a2, c2, rfl, hrs, hb⟩
      have H_w9 := Lib.hid (H_w8.out.below hb)
      have HO_w9 := Lib.hid (HO_w8.out.kept hb)
      have HG_w9 := Lib.hid (HG_w8.out.kept hb)
      have HB_w9 := Lib.hid (HB_w8.out.trans (hb.mono (by have := HB_w8.out.size; have := HB2Z.out; omega)))
      have HX_w9 := Lib.hid (ex_below HX_w8.out hb)
      have HRS := Lib.hid hrs
      have HU1b := Lib.hid (HU1.out.kept hb)
      clear hrs HU1
      have HU1 := HU1b
      clear HU1b
      have HS0' : Hid ((fun W : World => W.heap[NF]? = some (.cells #[.slice a f.all.length c, .int .i64 (f.kept : Int)] 124 (0, 0))) w9) := Lib.hid HX_w9.out
      clear hb HS0 H_w8 HO_w8 HG_w8 HB_w8 HX_w8
      have HS0 := HS0'
      clear HS0'
      refine hK.out _ _ HS0.out (fun hHeld => ?_)
      clear hK K hHeld
      try simp only [Act.put, List.setIfInBounds_toArray, List.set_cons_zero, List.set_cons_succ]
      refine wpAnyH_ready (rs := [7]) (by kernel_rfl) (by simp) ?_
      refine AllReadyH.cons (o := { dst := some 27, op := Go.Op.call { callee := Go.Callee.value (Go.Operand.func 74), args := #[Go.Operand.tmp 26], argTypes := #[51] }, type := 51, pos := "disk.go:238", after := #[{ on := 6, ground := Go.Ground.data }, { on := 6, ground := Go.Ground.chain }], guard := none }) rfl (fun K hK => ?_) AllReadyH.nil
      go_simp
      refine (bclone (.slice a2 (f.all.length - f.kept) c2) (f.all.drop f.kept) w9 HRS.out (by rw [List.length_drop]; have := HFL.out; omega)).mono ?_
      rintro e w10 ⟨u2, rfl, ho2, hb⟩
      have H_w10 := Lib.hid (H_w9.out.below hb)
      have HO_w10 := Lib.hid (HO_w9.out.kept hb)
      have HG_w10 := Lib.hid (HG_w9.out.kept hb)
      have HB_w10 := Lib.hid (HB_w9.out.trans (hb.mono (by have := HB_w9.out.size; have := HB2Z.out; omega)))
      have HX_w10 := Lib.hid (ex_below HX_w9.out hb)
      have HU1b := Lib.hid (HU1.out.kept hb)
      have HU2 := Lib.hid (ho2.mono (base' := b2) (by have := HB_w9.out.size; have := HB2Z.out; omega))
      obtain ⟨n3, hn3⟩ : ∃ n3, (f.all.drop f.kept).length = n3 := ⟨_, rfl⟩
      obtain ⟨a3, c3, hs3⟩ := ho2.shp
      rw [hn3] at hs3
      subst hs3
      clear hn3 ho2 HRS HU1
      have HU1 := HU1b
      clear HU1b
      have HS0' : Hid ((fun W : World => W.heap[NF]? = some (.cells #[.slice a f.all.length c, .int .i64 (f.kept : Int)] 124 (0, 0))) w10) := Lib.hid HX_w10.out
      clear hb HS0 H_w9 HO_w9 HG_w9 HB_w9 HX_w9
      have HS0 := HS0'
      clear HS0'
      refine hK.out _ _ HS0.out (fun hHeld => ?_)
      clear hK K hHeld
      try simp only [Act.put, List.setIfInBounds_toArray, List.set_cons_zero, List.set_cons_succ]
      refine wpAnyH_take (i := 8) (oi := { dst := some 28, op := Go.Op.build 53 #[(0, Go.Operand.tmp 21), (1, Go.Operand.tmp 24), (2, Go.Operand.tmp 27)], type := 53, pos := "disk.go:238", after := #[{ on := 1, ground := Go.Ground.data }, { on := 4, ground := Go.Ground.data }, { on := 7, ground := Go.Ground.data }], guard := none }) (v := ?_) rfl (by kernel_rfl) (by kernel_rfl) (by kernel_rfl) (fun _ _ _ h => h) (Or.inl ⟨by rfl, ?_⟩) HS0.out ?_
      case refine_2 => (intro w1 hS1; clear hS1; go_simp; try with_reducible rfl)
      try simp only [Act.put, List.setIfInBounds_toArray, List.set_cons_zero, List.set_cons_succ]
      refine wpAnyH_ready (rs := [9]) (by kernel_rfl) (by simp) ?_
      refine AllReadyH.cons (o := { dst := some 29, op := Go.Op.buildSlice 47 1 #[(0, Go.Operand.tmp 28)], type := 47, pos := "disk.go:238", after := #[{ on := 8, ground := Go.Ground.data }], guard := none }) rfl (fun K hK => ?_) AllReadyH.nil
      go_simp
      obtain ⟨hb, hsx, -⟩ := box1 w10 #[encStr nm, .slice a1 n1 c1, .slice a3 n3 c3] 53
      obtain ⟨x0, x1, x2⟩ := three_g hsx
      have HU1b := Lib.hid (HU1.out.kept hb)
      have HU2b := Lib.hid (HU2.out.kept hb)
      have HCA : Hid (∀ j u, (c1g (nm, .slice a1 n1 c1, .slice a3 n3 c3))[j]? = some u → (w10.alloc (.cells #[encStr nm, .slice a1 n1 c1, .slice a3 n3 c3] 53)).cell? ((⟨w10.heap.size, 0, none⟩ : Addr).add j) = some u) := Lib.hid (fun j u hj => by
        rw [add_at, Nat.zero_add]
        rcases j with _ | _ | _ | j
        · injection hj with hj; subst hj; exact x0
        · injection hj with hj; subst hj; exact x1
        · injection hj with hj; subst hj; exact x2
        · cases hj)
      have HNX : Hid (w10.heap.size ≤ w10.heap.size) := Lib.hid (Nat.le_refl _)
      clear x0 x1 x2 hsx HU1 HU2 HNX
      have H_wX := Lib.hid (H_w10.out.below hb)
      have HO_wX := Lib.hid (HO_w10.out.kept hb)
      have HG_wX := Lib.hid (HG_w10.out.kept hb)
      have HB_wX := Lib.hid (HB_w10.out.trans (hb.mono (by have := HB_w10.out.size; have := HB2Z.out; omega)))
      have HX_wX := Lib.hid (ex_below HX_w10.out hb)
      have HS0' : Hid ((fun W : World => W.heap[NF]? = some (.cells #[.slice a f.all.length c, .int .i64 (f.kept : Int)] 124 (0, 0))) (w10.alloc (.cells #[encStr nm, .slice a1 n1 c1, .slice a3 n3 c3] 53))) := Lib.hid HX_wX.out
      clear hb HS0 H_w10 HO_w10 HG_w10 HB_w10 HX_w10
      have HS0 := HS0'
      clear HS0'
      refine hK.out _ _ HS0.out (fun hHeld => ?_)
      clear hK K hHeld
      obtain ⟨NX, hNX⟩ : ∃ NX, w10.heap.size = NX := ⟨_, rfl⟩
      rw [hNX] at HCA
      try rw [hNX]
      clear hNX
      generalize w10.alloc (.cells #[encStr nm, .slice a1 n1 c1, .slice a3 n3 c3] 53) = w11 at HCA HU1b HU2b H_wX HO_wX HG_wX HB_wX HX_wX HS0 ⊢
      try simp only [Act.put, List.setIfInBounds_toArray, List.set_cons_zero, List.set_cons_succ]
      refine wpAnyH_ready (rs := [10]) (by kernel_rfl) (by simp) ?_
      refine AllReadyH.cons (o := { dst := some 30, op := Go.Op.call { callee := Go.Callee.builtin Go.Builtin.append, args := #[Go.Operand.tmp 20, Go.Operand.tmp 29], argTypes := #[47, 47] }, type := 47, pos := "disk.go:238", after := #[{ on := 0, ground := Go.Ground.data }, { on := 9, ground := Go.Ground.data }, { on := 7, ground := Go.Ground.chain }], guard := none }) rfl (fun K hK => ?_) AllReadyH.nil
      refine step_append_g rfl (.tmp 20) (.tmp 29) rfl b2 v l (nm, .slice a1 n1 c1, .slice a3 n3 c3) rfl HO_wX.out ⟨NX, 0, none⟩ 1 rfl HCA.out (fun u hu => by simp only [c1g, List.mem_cons, List.not_mem_nil, or_false] at hu; rcases hu with rfl | rfl | rfl <;> rfl) (by have h1 := HG_wX.out.1; rw [List.length_take] at h1; have := HLEN.out; omega) (by have := HB_wX.out.size; have := HB2Z.out; omega) ?_
      intro v12 w12 ho12 hg12
      have HO12 := Lib.hid ho12
      have HG12 : Hid (GI w12 b2 (D.fs.take (i + 1)) (l ++ [(nm, .slice a1 n1 c1, .slice a3 n3 c3)])) := Lib.hid (by
        rw [HTS.out]
        exact (HG_wX.out.grown HO_wX.out hg12).snoc (HU1b.out.blk (fun g hb => hg12.block g (HU1b.out.lt hb).2 (Ne.symm (HO_wX.out.ne HU1b.out hb)))) (HU2b.out.blk (fun g hb => hg12.block g (HU2b.out.lt hb).2 (Ne.symm (HO_wX.out.ne HU2b.out hb)))))
      have HB12 : Hid (Below b2 w2 w12) := Lib.hid (HB_wX.out.grown hg12 (by have := HB_wX.out.size; have := HB2Z.out; omega) (fun k hk => (HO_wX.out.lt hk).1))
      have hnr : ∀ k, v.ownBlock = some k → b2 ≤ k := fun k hk => (HO_wX.out.lt hk).1
      have HX12 : Hid (w12.heap[NF]? = some (.cells #[.slice a f.all.length c, .int .i64 (f.kept : Int)] 124 (0, 0))) := Lib.hid ((hg12.block NF (ex_lt HX_wX.out) (fun e => HNFR.out e.symm)).trans HX_wX.out)
      have HS0' : Hid ((fun W : World => W.heap[NF]? = some (.cells #[.slice a f.all.length c, .int .i64 (f.kept : Int)] 124 (0, 0))) w12) := Lib.hid HX12.out
      clear ho12 hg12 hnr HS0 H_wX HO_wX HG_wX HB_wX HX_wX HU1b HU2b HCA
      have HS0 := HS0'
      clear HS0'
      obtain ⟨n12, hn12⟩ : ∃ n12, (l ++ [(nm, .slice a1 n1 c1, .slice a3 n3 c3)] : List Gf).length = n12 := ⟨_, rfl⟩
      obtain ⟨a12, c12, hs12⟩ := HO12.out.shp
      rw [hn12] at hs12
      subst hs12
      clear hn12
      refine hK.out _ _ HS0.out (fun hHeld => ?_)
      clear hK K hHeld
      try simp only [Act.put, List.setIfInBounds_toArray, List.set_cons_zero, List.set_cons_succ]
      refine wpAnyH_take (i := 11) (oi := { dst := some 3, op := Go.Op.assign (Go.Operand.tmp 30), type := 47, pos := "disk.go:238", after := #[{ on := 10, ground := Go.Ground.data }, { on := 10, ground := Go.Ground.chain }, { on := 0, ground := Go.Ground.phase }, { on := 1, ground := Go.Ground.phase }, { on := 2, ground := Go.Ground.phase }, { on := 3, ground := Go.Ground.phase }, { on := 4, ground := Go.Ground.phase }, { on := 5, ground := Go.Ground.phase }, { on := 6, ground := Go.Ground.phase }, { on := 7, ground := Go.Ground.phase }, { on := 8, ground := Go.Ground.phase }, { on := 9, ground := Go.Ground.phase }, { on := 10, ground := Go.Ground.phase }], guard := none }) (v := ?_) rfl (by kernel_rfl) (by kernel_rfl) (by kernel_rfl) (fun _ _ _ h => h) (Or.inl ⟨by rfl, ?_⟩) HS0.out ?_
      case refine_2 => (intro w1 hS1; clear hS1; go_simp; try with_reducible rfl)
      try simp only [Act.put, List.setIfInBounds_toArray, List.set_cons_zero, List.set_cons_succ]
      refine wpAnyH_done (by kernel_rfl) ?_ _
      go_wp2_with fail
      go_roundg (ln - (i + 1))
      case measure => omega
      case rel => exact ⟨i + 1, _, _, by rw [HWI.out]; rfl, rfl, by omega, by omega, HO12, HG12, HB12⟩
    · have hltz : ¬ (i : Int) < (ln : Int) := by omega
      obtain rfl : i = ln := by omega
      have HTK : Hid (D.fs.take i = D.fs) := Lib.hid (List.take_of_length_le (by rw [HLN.out]; exact Nat.le_refl _))
      clear hi hk
      go_wp2_with fail
      go_ret
      have hgi := HG4.out
      rw [HTK.out] at hgi
      obtain ⟨a, c, e, hr⟩ := hgi.rowO HO4.out
      have hb := HB1.out
      exact ⟨a, ⟨c, by rw [← e]; rfl⟩, hr.mono (by have := HB2Z.out; have := hb.size; omega), hb.trans (HB4.out.mono (by have := HB2Z.out; have := hb.size; omega))⟩
end Go.Proofs.Ythkjjpkipeeimaa
