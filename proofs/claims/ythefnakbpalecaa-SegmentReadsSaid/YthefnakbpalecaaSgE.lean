/- Segments: Read. -/
import Derived.Test.YthefnakbpalecaaSgD
import Derived.Deep.DeepCutAuto
namespace Go.Proofs.Ythefnakbpalecaa
open Go.RowKit Go.Shelf
attribute [local go_sem] Oper.semAt_some
theorem sr_res {fn : Func} {p q r : Nat} (h : fn.results = #[.cell p 22, .cell q 23, .cell r 3]) (tmps : Array Value) (w : World) (N M K : Nat) (x y z : Value) (hp : tmps.getD p undef = .pointer (some ⟨N, 0, none⟩)) (hq : tmps.getD q undef = .pointer (some ⟨M, 0, none⟩)) (hr : tmps.getD r undef = .pointer (some ⟨K, 0, none⟩)) (h0 : w.cell? ⟨N, 0, none⟩ = some x) (h1 : w.cell? ⟨M, 0, none⟩ = some y) (h2 : w.cell? ⟨K, 0, none⟩ = some z) : (results fn tmps).run Try.prog w = .ok (.tuple #[x, y, z]) w := by
  have hp' : tmps[p]?.getD undef = .pointer (some ⟨N, 0, none⟩) := by simpa using hp
  have hq' : tmps[q]?.getD undef = .pointer (some ⟨M, 0, none⟩) := by simpa using hq
  have hr' : tmps[r]?.getD undef = .pointer (some ⟨K, 0, none⟩) := by simpa using hr
  simp [results, h, hp', hq', hr', asAddr, go_sem, h0, h1, h2, Result.andThen]
/-- What Read owes. -/
def SegRd (w : World) (bs : List Nat) (e : Ending) (w' : World) : Prop :=
  Below w.heap.size w w' ∧ ∃ v L, e = .returned (.tuple #[.int .u64 ((sRead bs).1 : Int), v, .int .i64 ((sRead bs).2.2 : Int)]) ∧ EO w' w.heap.size v L ∧ L.map Prod.fst = (sRead bs).2.1
/-- The loop, between rounds. -/
structure SI (w : World) (N B : Nat) (bs : List Nat) (f : Nat) (v : Value) (L : List (Ent × Value)) (g : Nat) (W : World) : Prop where
  h0 : W.heap[N]? = some (.cells #[.int .u64 (f : Int)] 22 (0, 0))
  h1 : W.heap[N + 1]? = some (.cells #[v] 23 (0, 0))
  h2 : W.heap[N + 1 + 1]? = some (.cells #[.int .i64 (g : Int)] 3 (0, 0))
  eo : EO W B v L
  fb : f ≤ 1152921504606846976
  da : ∀ p ∈ L, ∀ b, p.2.ownBlock = some b → B ≤ b
  bel : Below w.heap.size w W
theorem SI.tame {w : World} {N B : Nat} {bs : List Nat} {f : Nat} {v : Value} {L : List (Ent × Value)} {g : Nat} {W W' : World} {B' : Nat} (h : SI w N B bs f v L g W) (ht : Tame B' W W') (hB : w.heap.size ≤ B') : SI w N B bs f v L g W' :=
  ⟨ht.block _ _ h.h0 (.inl rfl), ht.block _ _ h.h1 (.inl rfl), ht.block _ _ h.h2 (.inl rfl), h.eo.tame ht, h.fb, h.da, h.bel.trans (ht.belowLe hB h.bel.size)⟩
theorem EO.base {w : World} {base base' : Nat} {v : Value} {L : List (Ent × Value)} (h : EO w base v L) (hb : base' ≤ base) : EO w base' v L := by
  obtain ⟨⟨h1, h2⟩, h3⟩ := h
  refine ⟨⟨h1, ?_⟩, h3⟩
  rcases h2 with h2 | ⟨g, cap, cur, hv, hg, hh, r⟩
  · exact .inl h2
  · exact .inr ⟨g, cap, cur, hv, Nat.le_trans hb hg, hh, r⟩
theorem rows_k_le {bs : List Nat} {k : Nat} {r : Nat × List Nat} (h : (rowsOf bs)[k]? = some r) : k ≤ bs.length := by
  have h1 : k < (rowsOf bs).length := (List.getElem?_eq_some_iff.1 h).1
  have h2 : ∀ rows : List (Nat × List Nat), rows.length ≤ sizeR rows := by
    intro rows
    induction rows with
    | nil => exact Nat.le_refl _
    | cons r rows ih => rw [sizeR_cons, List.length_cons]; omega
  have h3 := h2 (rowsOf bs)
  have h4 : sizeR (rowsOf bs) ≤ bs.length := end_le bs
  omega
theorem take_kind {bs : List Nat} (h : (takeOf bs).e = 0) (hlt : ∀ c ∈ bs, c < 256) : (takeOf bs).kind < 256 := by
  unfold takeOf at h ⊢
  by_cases c1 : badHead bs
  · rw [if_pos c1] at h; cases h
  rw [if_neg c1] at h ⊢
  by_cases c2 : bs.length < szAt bs + 8
  · rw [if_pos c2] at h; cases h
  rw [if_neg c2] at h ⊢
  by_cases c3 : sumFits (bs.take (szOf bs + 8)) (szOf bs + 5)
  · rw [if_pos c3]
    dsimp only
    by_cases h1 : 1 < bs.length
    · exact hlt _ (getD_mem _ _ h1)
    · rw [List.getD_eq_getElem?_getD, List.getElem?_eq_none (by omega)]; exact Nat.zero_lt_succ _
  · rw [if_neg c3] at h; cases h
theorem rows_kind {bs : List Nat} {k : Nat} {r : Nat × List Nat} (h : (rowsOf bs)[k]? = some r) (hlt : ∀ c ∈ bs, c < 256) : r.1 < 256 := by
  have key : ∀ (m : Nat) (bs : List Nat), bs.length ≤ m → (∀ c ∈ bs, c < 256) → ∀ r ∈ rowsOf bs, r.1 < 256 := by
    intro m
    induction m with
    | zero =>
      intro bs h0 _ r hr
      have : bs = [] := List.length_eq_zero_iff.1 (by omega)
      subst this
      rw [rowsOf_nil] at hr; cases hr
    | succ m ih =>
      intro bs hm hlt r hr
      by_cases he : (takeOf bs).e = 0
      · rw [rows_yes he] at hr
        have hn := take_ok_n he
        rcases List.mem_cons.1 hr with rfl | hr
        · exact take_kind he hlt
        · exact ih _ (by rw [List.length_drop]; omega) (fun c hc => hlt c (List.mem_of_mem_drop hc)) r hr
      · rw [rows_no he] at hr; cases hr
  exact key _ bs (Nat.le_refl _) hlt r (List.mem_of_getElem? h)
set_option maxRecDepth 100000 in
set_option maxHeartbeats 8000000 in
theorem sread_any (v : Value) (bs : List Nat) (w : World) (hb : RB w v bs) (hl : bs.length ≤ 2000000) :
    Calls Try.prog 24 #[v] w (SegRd w bs) := by
  obtain ⟨a0, cap0, rfl, _, _⟩ := hb.shape
  obtain ⟨n, hn⟩ : ∃ n, bs.length = n := ⟨_, rfl⟩
  have HN := Lib.hid hn
  have HB := Lib.hid hb
  rw [hn] at HB hl ⊢
  have hbx : Below w.heap.size w (((w.alloc (.cells #[.int .u64 0] 22)).alloc (.cells #[.slice none 0 0] 23)).alloc (.cells #[.int .i64 0] 3)) ∧
      (((w.alloc (.cells #[.int .u64 0] 22)).alloc (.cells #[.slice none 0 0] 23)).alloc (.cells #[.int .i64 0] 3)).heap[w.heap.size]? = some (.cells #[.int .u64 0] 22 (0, 0)) ∧
      (((w.alloc (.cells #[.int .u64 0] 22)).alloc (.cells #[.slice none 0 0] 23)).alloc (.cells #[.int .i64 0] 3)).heap[w.heap.size + 1]? = some (.cells #[.slice none 0 0] 23 (0, 0)) ∧
      (((w.alloc (.cells #[.int .u64 0] 22)).alloc (.cells #[.slice none 0 0] 23)).alloc (.cells #[.int .i64 0] 3)).heap[w.heap.size + 1 + 1]? = some (.cells #[.int .i64 0] 3 (0, 0)) := by
    obtain ⟨h1, h2, h3, h4⟩ := box2 w #[.int .u64 0] #[.slice none 0 0] 22 23
    obtain ⟨k1, k2, k3⟩ := box1 ((w.alloc (.cells #[.int .u64 0] 22)).alloc (.cells #[.slice none 0 0] 23)) #[.int .i64 0] 3
    exact ⟨h1.trans (k1.mono h1.size), ex_below h2 k1, ex_below h3 k1, by rw [← h4]; exact k2⟩
  obtain ⟨B3, s0, s1, s2⟩ := hbx
  have HB3 := Lib.hid B3
  have HS0 := Lib.hid s0
  have HS1 := Lib.hid s1
  have HS2 := Lib.hid s2
  clear hb hn B3 s0 s1 s2
  refine (callsIn_wide (n := 3)).1 ?_
  refine callsIn_of_wp_marks Try.func24 rfl trivial ?_
  simp only [Try.ntmps24, List.size_toArray, List.length_cons, List.length_nil, Nat.reduceAdd, Nat.reduceSub, Array.replicate_succ, Array.replicate_zero, List.push_toArray, List.append_toArray, List.nil_append, List.cons_append]
  gi_wp2_with fail
  refine wpIn_wide.2 (wp_scope_straight ?_)
  refine (wpIn_wide (n := 3)).1 ?_
  obtain ⟨N, hN⟩ : ∃ N, w.heap.size = N := ⟨_, rfl⟩
  have HWN := Lib.hid hN
  rw [hN] at HS0 HS1 HS2
  try rw [hN]
  generalize ((w.alloc (.cells #[.int .u64 0] 22)).alloc (.cells #[.slice none 0 0] 23)).alloc (.cells #[.int .i64 0] 3) = W3 at HB3 HS0 HS1 HS2 ⊢
  try rw [hN]
  clear hN
  have HR3 := Lib.hid (HB.out.kept HB3.out)
  gi_wp2_with fail
  refine wpIn_label ?_
  gi_wp2_with fail
  refine ⟨trivial, ?_⟩
  refine (callsIn_wide.2 (each_any _ bs W3 HR3.out)).mono ?_
  rintro e W4 ⟨c, v', rfl, hcb, hr4, hv4, hb4⟩
  have hN3 : N + 1 + 1 < W3.heap.size := ex_lt HS2.out
  have HZ4 : Hid (N + 1 + 1 < W4.heap.size) := Lib.hid (by have := hb4.size; omega)
  have HSI : Hid (SI w N W4.heap.size bs 0 (.slice none 0 0) [] 0 W4) := Lib.hid ⟨ex_below HS0.out hb4, ex_below HS1.out hb4, ex_below HS2.out hb4, EO.nil _ _, by omega, (fun p hp => by cases hp), HB3.out.trans (hb4.mono HB3.out.size)⟩
  have HH := Lib.hid (frames_handing v' bs c (fun b => b = N ∨ b = N + 1 ∨ b = N + 1 + 1 ∨ W4.heap.size ≤ b) W4 (fun b hb => by have := hv4 b hb; omega) hcb hr4)
  have HLE : Hid (w.heap.size ≤ W4.heap.size) := Lib.hid HSI.out.bel.size
  obtain ⟨B, hB⟩ : ∃ B, W4.heap.size = B := ⟨_, rfl⟩
  have HBB := Lib.hid hB
  rw [hB] at HSI HH HZ4 HLE
  clear hcb hr4 hv4 hb4 hN3 HB3 HS0 HS1 HS2 HR3 hB
  gi_wp2
  refine range_frames rfl frames_enters (rowsOf bs) (fun b => b = N ∨ b = N + 1 ∨ b = N + 1 + 1 ∨ B ≤ b) HH.out
    (fun k W => ∃ (f : Nat) (v : Value) (L : List (Ent × Value)) (g : Nat), SI w N B bs f v L g W ∧ sRows ((rowsOf bs).drop k) f (L.map Prod.fst) g = sRead bs ∧ g = sizeR ((rowsOf bs).take k) ∧ L.length ≤ k)
    (fun c W => c = .exit 0 ∧ ∃ (f : Nat) (v : Value) (L : List (Ent × Value)) (g : Nat), SI w N B bs f v L g W ∧ (f, L.map Prod.fst, g) = sRead bs)
    ?hI ?hIx ⟨0, .slice none 0 0, [], 0, HSI.out, by rw [List.drop_zero]; rfl, rfl, Nat.le_refl _⟩ rfl ?a1 ?assign ?body ?done ?stop
  case hI =>
    rintro k V V' ⟨f, v, L, g, h1, h2, h3, h4⟩ ht
    exact ⟨f, v, L, g, h1.tame ht (by rw [HBB.out]; exact HLE.out), h2, h3, h4⟩
  case hIx =>
    rintro c V V' ⟨hc, f, v, L, g, h1, h2⟩ ht
    exact ⟨hc, f, v, L, g, h1.tame ht (by rw [HBB.out]; exact HLE.out), h2⟩
  case assign =>
    intro l kd u W K hK
    gi_wp2
    exact hK
  case body =>
    rintro l k kd bs' u W hrow ⟨f, v, L, g, hsi, hv, hg, hL⟩ hu hsz
    rw [HBB.out] at hsz
    have hbl := rows_body_le hrow
    dsimp only at hbl
    have hkd : kd < 256 := rows_kind hrow HB.out.1
    have hu2 := hu
    obtain ⟨ua, uc, rfl, _, _⟩ := hu2.shape
    have HRH := Lib.hid (rhead_any kd _ bs' W hu (by have := HN.out; omega) hkd)
    have HRL : Hid (∀ idx : Nat, idx < 18446744073709551616 → Calls Try.prog 71 #[.int .u8 (kd : Int), .slice ua bs'.length uc, .int .u64 (idx : Int)] W (RdLn W (lnOk kd bs' idx) (entOf bs'))) := Lib.hid (fun idx h => rline_any kd _ bs' idx W hu (by have := HN.out; omega) hkd h)
    obtain ⟨m, hm⟩ : ∃ m, bs'.length = m := ⟨_, rfl⟩
    rw [hm] at HRH HRL hbl ⊢
    have HM := Lib.hid hm
    have HBL := Lib.hid hbl
    have HG := Lib.hid hg
    have HRW := Lib.hid hrow
    have HSI1 := Lib.hid hsi
    have HSZ := Lib.hid hsz
    have HLK := Lib.hid hL
    have hvr := hv
    rw [drop_cons_get hrow, sRows_cons] at hvr
    have HVR := Lib.hid hvr
    have c0 : W.cell? ⟨N, 0, none⟩ = some (.int .u64 (f : Int)) := by have h := hsi.h0; simp only [World.cell?, h]; rfl
    have c1 : W.cell? ⟨N + 1, 0, none⟩ = some v := by have h := hsi.h1; simp only [World.cell?, h]; rfl
    have c2 : W.cell? ⟨N + 1 + 1, 0, none⟩ = some (.int .i64 (g : Int)) := by have h := hsi.h2; simp only [World.cell?, h]; rfl
    have HKX : Hid (∀ k o, (k = N ∨ k = N + 1 ∨ k = N + 1 + 1) → W.heap[k]? = some o → o.isCells = true) := Lib.hid (by
      rintro k o (rfl | rfl | rfl) ho
      · rw [hsi.h0] at ho; injection ho with ho; subst ho; rfl
      · rw [hsi.h1] at ho; injection ho with ho; subst ho; rfl
      · rw [hsi.h2] at ho; injection ho with ho; subst ho; rfl)
    have hgm : g + (m + 8) ≤ 2000000 := by have := HN.out; omega
    have g9 : wrap64 ((g : Int) + ((m : Int) + 8)) = ((g + (m + 8) : Nat) : Int) := (IntWalk.wrap64_in _ (by clear hvr hv hsi hu c0 c1 c2 HKX; omega)).trans (by omega)
    have HG9 := Lib.hid g9
    clear g9
    have HM8 : Hid (wrap64 ((m : Int) + 8) = (m : Int) + 8) := Lib.hid (IntWalk.wrap64_in _ (by have := HN.out; omega))
    clear hm hbl hg hrow hL hv hvr hu hkd
    by_cases hg0 : g = 0
    · subst hg0
      obtain ⟨z, hz⟩ : ∃ z, hdOk kd bs' = z := ⟨_, rfl⟩
      have hvr := HVR.out
      rw [if_pos rfl, hz, HM.out] at hvr
      have HVR2 := Lib.hid hvr
      rw [hz] at HRH
      obtain ⟨T, hT⟩ : ∃ T, nN 1152921504606846976 bs' = T := ⟨_, rfl⟩
      have hTm : T ≤ 1152921504606846976 := by rw [← hT]; exact nN_le _ _
      have HTM := Lib.hid hTm
      rw [hT] at HRH HVR2
      clear hvr hz hT hTm HVR HRL
      cases z with
      | false =>
        gi_wp2_with fail
        refine ⟨trivial, ?_⟩
        refine (CallsIn.inRound l (callsIn_wide.2 HRH.out)).mono ?_
        rintro e w5 ⟨rfl, hb5⟩
        have HB5 := Lib.hid hb5
        clear hb5 c0 c1 c2
        gi_wp2_with fail
        exact ⟨keepsOthers_only (X := fun b => b = N ∨ b = N + 1 ∨ b = N + 1 + 1) (Only.below HB5.out) HKX.out, rfl, f, v, L, 0, HSI1.out.tame (Tame.of_below HB5.out) (Nat.le_refl _) |>.tame (B' := w.heap.size) (Tame.of_below (Below.refl _ _)) (Nat.le_refl _), by have := HVR2.out; simpa using this⟩
      | true =>
        gi_wp2_with fail
        refine ⟨trivial, ?_⟩
        refine (CallsIn.inRound l (callsIn_wide.2 HRH.out)).mono ?_
        rintro e w5 ⟨rfl, hb5⟩
        have HB5 := Lib.hid hb5
        have HS5 := Lib.hid (HSI1.out.tame (Tame.of_below (B := w.heap.size) hb5) (Nat.le_refl _))
        clear hb5 c0 c1 c2
        have c0 : w5.cell? ⟨N, 0, none⟩ = some (.int .u64 (f : Int)) := by have h := HS5.out.h0; simp only [World.cell?, h]; rfl
        have e0 : w5.frozen? ⟨N, 0, none⟩ = false := by have h := HS5.out.h0; simp only [World.frozen?, h]; rfl
        have r2 : (w5.setCell ⟨N, 0, none⟩ (.int .u64 (T : Int))).heap[N + 1 + 1]? = some (.cells #[.int .i64 0] 3 (0, 0)) := (Below.heap_setCell _ _ _ _ (show N + 1 + 1 ≠ N by omega)).trans HS5.out.h2
        have z1 : (w5.setCell ⟨N, 0, none⟩ (.int .u64 (T : Int))).cell? ⟨N + 1 + 1, 0, none⟩ = some (.int .i64 0) := by simp only [World.cell?, r2]; rfl
        have z2 : (w5.setCell ⟨N, 0, none⟩ (.int .u64 (T : Int))).frozen? ⟨N + 1 + 1, 0, none⟩ = false := by simp only [World.frozen?, r2]; rfl
        have HR2 := Lib.hid r2
        clear r2
        gi_wp2_with fail
        have hO1 : Only (fun b => b = N ∨ b = N + 1 ∨ b = N + 1 + 1) W (w5.setCell ⟨N, 0, none⟩ (.int .u64 (T : Int))) := (Only.below HB5.out).setCell ⟨N, 0, none⟩ _ (.inl rfl)
        have hda : ∀ p ∈ L, p.2.ownBlock ≠ some N ∧ p.2.ownBlock ≠ some (N + 1 + 1) := fun p hp => ⟨fun h => by have := HS5.out.da p hp _ h; have := HZ4.out; omega, fun h => by have := HS5.out.da p hp _ h; have := HZ4.out; omega⟩
        have hN0 := HWN.out
        have hz4 := HZ4.out
        refine ⟨keepsOthers_only (X := fun b => b = N ∨ b = N + 1 ∨ b = N + 1 + 1) (hO1.setCell ⟨N + 1 + 1, 0, none⟩ _ (.inr (.inr rfl))) HKX.out, (Kept.only (hO1.setCell ⟨N + 1 + 1, 0, none⟩ _ (.inr (.inr rfl)))).more (fun b h => by rcases h with h | h | h; exact .inl h; exact .inr (.inl h); exact .inr (.inr (.inl h))), T, v, L, 0 + (m + 8), ⟨?_, ?_, ?_, ?_, HTM.out, HS5.out.da, ?_⟩, ?_, ?_, ?_⟩
        · rw [Below.heap_setCell _ _ _ _ (show N ≠ N + 1 + 1 by omega)]; exact heap_set HS5.out.h0 0 _
        · rw [Below.heap_setCell _ _ _ _ (show N + 1 ≠ N + 1 + 1 by omega), Below.heap_setCell _ _ _ _ (show N + 1 ≠ N by omega)]; exact HS5.out.h1
        · refine (heap_set HR2.out 0 _).trans ?_
          rw [show ((0 + (m + 8) : Nat) : Int) = (m : Int) + 8 by omega]
          first | rfl | (rw [HM8.out, Int.zero_add, HM8.out]; rfl) | (rw [Int.zero_add, HM8.out]; rfl) | (rw [← HG9.out]; rfl)
        · exact (HS5.out.eo.set (by omega) (fun p hp => (hda p hp).1) _).set (by omega) (fun p hp => (hda p hp).2) _
        · exact below_two (below_two HS5.out.bel (by omega) _ _) (by omega) _ _
        · have := HVR2.out; simpa using this
        · rw [sizeR_take _ _ _ HRW.out, ← HG.out]; dsimp only; rw [HM.out]
        · have := HLK.out; omega
    · have d0 : ((g : Int) == 0) = false := by simp; omega
      have d1 : decide ((g : Int) = 0) = false := decide_eq_false (by omega)
      have d2 : (g == 0) = false := by simp [hg0]
      have d3 : decide (g = 0) = false := decide_eq_false hg0
      obtain ⟨va, vc, hvs⟩ := HSI1.out.eo.shape
      subst hvs
      obtain ⟨ln, hln⟩ : ∃ ln, L.length = ln := ⟨_, rfl⟩
      obtain ⟨z, hz⟩ : ∃ z, lnOk kd bs' (f + ln) = z := ⟨_, rfl⟩
      have hvr := HVR.out
      rw [if_neg hg0, List.length_map, hln, hz, HM.out] at hvr
      have HVR2 := Lib.hid hvr
      have hlk : ln ≤ 2000000 := by have h1 := HLK.out; have h2 := rows_k_le HRW.out; have := HN.out; omega
      have hfb := HSI1.out.fb
      have HRL2 := Lib.hid (HRL.out (f + ln) (by omega))
      rw [hz] at HRL2
      have HLN := Lib.hid hln
      rw [hln] at c1
      have u1 : IntKind.u64.wrap ((ln : Nat) : Int) = ((ln : Nat) : Int) := IntWalk.u64_in _ (by omega)
      have u2 : IntKind.u64.wrap ((f : Int) + (ln : Int)) = ((f + ln : Nat) : Int) := (IntWalk.u64_in _ (by omega)).trans (by omega)
      clear hvr hz HVR HRL HRH hg0 hln hfb
      gi_wp2_with fail
      refine ⟨trivial, ?_⟩
      refine (CallsIn.inRound l (callsIn_wide.2 HRL2.out)).mono ?_
      rintro e w5 ⟨hb5, hcase⟩
      have HB5 := Lib.hid hb5
      clear hb5 c0 c1 c2 u1 u2
      have HS5 := Lib.hid (HSI1.out.tame (Tame.of_below (B := w.heap.size) HB5.out) (Nat.le_refl _))
      rcases hcase with ⟨rfl, gd, gc, rfl, hrb, hg1, hg2⟩ | ⟨rfl, rfl⟩
      · obtain ⟨E, hE⟩ : ∃ E, entOf bs' = E := ⟨_, rfl⟩
        rw [hE] at HVR2 hrb ⊢
        clear hE
        obtain ⟨et, ek, ed⟩ := E
        dsimp only at hrb HVR2 ⊢
        obtain ⟨dl, hdl⟩ : ∃ dl, ed.length = dl := ⟨_, rfl⟩
        rw [hdl] at hrb ⊢
        have HDL := Lib.hid hdl
        clear hdl
        obtain ⟨b6, s6, z6⟩ := box1 w5 #[.int .u64 (et : Int), .int .i64 ek, .slice (some ⟨gd, 0, none⟩) dl gc] 31
        have HS6 := Lib.hid (HS5.out.tame (Tame.of_below (B := w.heap.size) b6) (Nat.le_refl _))
        have HRB6 := Lib.hid (hrb.kept b6)
        have HB6 := Lib.hid (HB5.out.trans (b6.mono HB5.out.size))
        obtain ⟨p0, p1, p2⟩ := three_rd s6
        have c1 : (w5.alloc (.cells #[.int .u64 (et : Int), .int .i64 ek, .slice (some ⟨gd, 0, none⟩) dl gc] 31)).cell? ⟨N + 1, 0, none⟩ = some (.slice va ln vc) := by have h := HS6.out.h1; rw [HLN.out] at h; simp only [World.cell?, h]; rfl
        obtain ⟨x5, hx5⟩ : ∃ x, w5.heap.size = x := ⟨_, rfl⟩
        have HG1 : Hid (B ≤ gd ∧ gd < x5) := Lib.hid ⟨by have := HSZ.out; omega, by rw [← hx5]; exact hg2⟩
        rw [hx5] at p0 p1 p2 z6
        try rw [hx5]
        obtain ⟨b7, s7, z7⟩ := box1 (w5.alloc (.cells #[.int .u64 (et : Int), .int .i64 ek, .slice (some ⟨gd, 0, none⟩) dl gc] 31)) #[.int .u64 (et : Int), .int .i64 ek, .slice (some ⟨gd, 0, none⟩) dl gc] 31
        have HS7 := Lib.hid (HS6.out.tame (Tame.of_below (B := w.heap.size) b7) (Nat.le_refl _))
        have HB7 := Lib.hid (HB6.out.trans (b7.mono HB6.out.size))
        have HD7 : Hid (RB ((w5.alloc (.cells #[.int .u64 (et : Int), .int .i64 ek, .slice (some ⟨gd, 0, none⟩) dl gc] 31)).alloc (.cells #[.int .u64 (et : Int), .int .i64 ek, .slice (some ⟨gd, 0, none⟩) dl gc] 31)) (.slice (some ⟨gd, 0, none⟩) dl gc) ed) := Lib.hid (HRB6.out.kept b7)
        have HWG : Hid (W.heap.size ≤ gd) := Lib.hid hg1
        have hz6 : (w5.alloc (.cells #[.int .u64 (et : Int), .int .i64 ek, .slice (some ⟨gd, 0, none⟩) dl gc] 31)).heap.size = x5 + 1 := by rw [World.size_alloc, hx5]
        have HNW : Hid (∀ j u, (eC ((⟨et, ek, ed⟩ : Ent), .slice (some ⟨gd, 0, none⟩) dl gc))[j]? = some u → ((w5.alloc (.cells #[.int .u64 (et : Int), .int .i64 ek, .slice (some ⟨gd, 0, none⟩) dl gc] 31)).alloc (.cells #[.int .u64 (et : Int), .int .i64 ek, .slice (some ⟨gd, 0, none⟩) dl gc] 31)).cell? ((⟨x5 + 1, 0, none⟩ : Addr).add j) = some u) := Lib.hid (fun j u hj => by
          rw [hz6] at s7
          obtain ⟨q0, q1, q2⟩ := three_rd s7
          rw [add_at]
          rcases j with _ | _ | _ | j
          · injection hj with hj; subst hj; exact q0
          · injection hj with hj; subst hj; exact q1
          · injection hj with hj; subst hj; exact q2
          · cases hj)
        have HZ7 : Hid (B ≤ ((w5.alloc (.cells #[.int .u64 (et : Int), .int .i64 ek, .slice (some ⟨gd, 0, none⟩) dl gc] 31)).alloc (.cells #[.int .u64 (et : Int), .int .i64 ek, .slice (some ⟨gd, 0, none⟩) dl gc] 31)).heap.size) := Lib.hid (by have h1 := HB7.out.size; have h2 := HSZ.out; omega)
        have HLL : Hid (L.length ≤ 3000000) := Lib.hid (by have := HLN.out; omega)
        clear hrb hg1 hg2 b6 s6 hx5 b7 s7 z7 hz6
        have HOB : Hid (∀ q, (Value.slice va ln vc).ownBlock = some q → B ≤ q) := Lib.hid (fun q hq => (HSI1.out.eo.own q (by rw [HLN.out]; exact hq)).1)
        have hz4' := HZ4.out
        gi_wp2_with (gi_at_builtin; refine append_entIn rfl (.tmp 28) (.tmp 30) rfl B (.slice va ln vc) L ((⟨et, ek, ed⟩ : Ent), .slice (some ⟨gd, 0, none⟩) dl gc) ⟨x5 + 1, 0, none⟩ 1 rfl rfl (HLN.out ▸ HS7.out.eo) HNW.out ⟨HD7.out, gd, gc, by rw [HDL.out]⟩ (fun q hq hq2 => by have h1 := (HSI1.out.eo.own q (by rw [HLN.out]; exact hq2)).2; have h2 := HWG.out; simp only [Value.ownBlock, Option.some.injEq] at hq; omega) HLL.out HZ7.out ?_; intro v8 w8 hO8 hg8; refine Hid.out ?_)
        obtain ⟨va8, vc8, hv8⟩ := hO8.shape
        obtain ⟨l8, hl8⟩ : ∃ l8, (L ++ [((⟨et, ek, ed⟩ : Ent), Value.slice (some ⟨gd, 0, none⟩) dl gc)]).length = l8 := ⟨_, rfl⟩
        rw [hl8] at hv8
        subst hv8
        have HL8 := Lib.hid hl8
        have HO8 := Lib.hid hO8
        have HG8 := Lib.hid hg8
        clear hO8 hg8 hl8
        have r1 : w8.heap[N + 1]? = some (.cells #[.slice va ln vc] 23 (0, 0)) := (HG8.out.block (N + 1) (by have := HZ7.out; omega) (fun e => by have := HOB.out _ e.symm; omega)).trans (by have h := HS7.out.h1; rw [HLN.out] at h; exact h)
        have r2 : w8.heap[N + 1 + 1]? = some (.cells #[.int .i64 (g : Int)] 3 (0, 0)) := (HG8.out.block (N + 1 + 1) (by have := HZ7.out; omega) (fun e => by have := HOB.out _ e.symm; omega)).trans HS7.out.h2
        have r0 : w8.heap[N]? = some (.cells #[.int .u64 (f : Int)] 22 (0, 0)) := (HG8.out.block N (by have := HZ7.out; omega) (fun e => by have := HOB.out _ e.symm; omega)).trans HS7.out.h0
        have y1 : w8.frozen? ⟨N + 1, 0, none⟩ = false := (by simp only [World.frozen?, r1]; rfl)
        have y2 : w8.cell? ⟨N + 1, 0, none⟩ = some (.slice va ln vc) := (by simp only [World.cell?, r1]; rfl)
        have r2' : (w8.setCell ⟨N + 1, 0, none⟩ (.slice va8 l8 vc8)).heap[N + 1 + 1]? = some (.cells #[.int .i64 (g : Int)] 3 (0, 0)) := (Below.heap_setCell _ _ _ _ (show N + 1 + 1 ≠ N + 1 by omega)).trans r2
        have y3 : (w8.setCell ⟨N + 1, 0, none⟩ (.slice va8 l8 vc8)).cell? ⟨N + 1 + 1, 0, none⟩ = some (.int .i64 (g : Int)) := (by simp only [World.cell?, r2']; rfl)
        have y4 : (w8.setCell ⟨N + 1, 0, none⟩ (.slice va8 l8 vc8)).frozen? ⟨N + 1 + 1, 0, none⟩ = false := (by simp only [World.frozen?, r2']; rfl)
        have HR0 := Lib.hid r0
        have HR1 := Lib.hid r1
        have HR2 := Lib.hid r2'
        clear r0 r1 r2 r2' hz4'
        refine Lib.hid ?_
        clear c1 p0 p1 p2
        gi_wp2_with fail
        have hz4 := HZ4.out
        have hN0 := HWN.out
        have hO : Only (fun b => b = N ∨ b = N + 1 ∨ b = N + 1 + 1 ∨ (Value.slice va ln vc).ownBlock = some b) W w8 :=
          (Only.below HB7.out).trans ⟨HG8.out.os, HG8.out.tape, HG8.out.output, HG8.out.size, fun b hb hx => HG8.out.block b hb fun e => hx (.inr (.inr (.inr e.symm)))⟩
        have hO1 := hO.setCell ⟨N + 1, 0, none⟩ (.slice va8 l8 vc8) (.inr (.inl rfl))
        have hO2 := fun u => hO1.setCell ⟨N + 1 + 1, 0, none⟩ u (.inr (.inr (.inl rfl)))
        have hda : ∀ p ∈ L ++ [((⟨et, ek, ed⟩ : Ent), Value.slice (some ⟨gd, 0, none⟩) dl gc)], ∀ b, p.2.ownBlock = some b → B ≤ b := by
          intro p hp b hb
          rcases List.mem_append.1 hp with hp | hp
          · exact HSI1.out.da p hp b hb
          · simp only [List.mem_singleton] at hp
            subst hp
            simp only [Value.ownBlock, Option.some.injEq] at hb
            have := HG1.out
            omega
        refine ⟨keepsOthers_only (hO2 _) ?_, (Kept.only (hO2 _)).more ?_, f, .slice va8 l8 vc8, L ++ [((⟨et, ek, ed⟩ : Ent), Value.slice (some ⟨gd, 0, none⟩) dl gc)], g + (m + 8), ⟨?_, ?_, ?_, ?_, HSI1.out.fb, hda, ?_⟩, ?_, ?_, ?_⟩
        · rintro q o (h | h | h | h) ho
          · exact HKX.out q o (.inl h) ho
          · exact HKX.out q o (.inr (.inl h)) ho
          · exact HKX.out q o (.inr (.inr h)) ho
          · have h' : (Value.slice va L.length vc).ownBlock = some q := by rw [HLN.out]; exact h
            rcases HSI1.out.eo.row.2 with ⟨hv, _⟩ | ⟨g', cap, cur, hv, _, hh, _⟩
            · rw [hv] at h'; cases h'
            · rw [hv] at h'
              injection h' with e
              subst e
              rw [hh] at ho
              injection ho with ho
              subst ho
              rfl
        · rintro b (h | h | h | h)
          · exact .inl h
          · exact .inr (.inl h)
          · exact .inr (.inr (.inl h))
          · exact .inr (.inr (.inr (HOB.out b h)))
        · rw [Below.heap_setCell _ _ _ _ (show N ≠ N + 1 + 1 by omega), Below.heap_setCell _ _ _ _ (show N ≠ N + 1 by omega)]; exact HR0.out
        · rw [Below.heap_setCell _ _ _ _ (show N + 1 ≠ N + 1 + 1 by omega)]; exact heap_set HR1.out 0 _
        · refine (heap_set HR2.out 0 _).trans ?_
          rw [show ((g + (m + 8) : Nat) : Int) = (g : Int) + ((m : Int) + 8) by omega]
          first | rfl | (rw [HM8.out]; rfl)
        · exact (HO8.out.set (by omega) (fun p hp h => by have := hda p hp _ h; omega) _).set (by omega) (fun p hp h => by have := hda p hp _ h; omega) _
        · refine HSI1.out.bel.trans ((hO2 _).toBelow HSI1.out.bel.size ?_)
          rintro b (h | h | h | h)
          · omega
          · omega
          · omega
          · have := HOB.out b h; omega
        · have := HVR2.out; simpa using this
        · rw [sizeR_take _ _ _ HRW.out, ← HG.out]; dsimp only; rw [HM.out]
        · have := HLK.out; have := HLN.out; rw [List.length_append]; simp only [List.length_cons, List.length_nil]; omega
      · obtain ⟨b6, s6, z6⟩ := box1 w5 #[.int .u64 0, .int .i64 0, .slice none 0 0] 31
        have HB6 := Lib.hid (HB5.out.trans (b6.mono HB5.out.size))
        clear b6 s6 z6
        gi_wp2_with fail
        exact ⟨keepsOthers_only (X := fun b => b = N ∨ b = N + 1 ∨ b = N + 1 + 1) (Only.below HB6.out) HKX.out, rfl, f, _, L, g, HSI1.out.tame (Tame.of_below (B := w.heap.size) HB6.out) (Nat.le_refl _), by have := HVR2.out; simpa using this⟩
  case done =>
    rintro W ⟨f, v, L, g, hsi, hv, hg, hL⟩ hD
    rw [show (rowsOf bs).drop (rowsOf bs).length = [] from List.drop_length, sRows_nil] at hv
    clear hg hL
    rw [HBB.out] at hD
    obtain ⟨va, vc, hvs⟩ := hsi.eo.shape
    obtain ⟨ln, hln⟩ : ∃ ln, L.length = ln := ⟨_, rfl⟩
    rw [hln] at hvs
    subst hvs
    obtain ⟨v, hvv⟩ : ∃ v, Value.slice va ln vc = v := ⟨_, rfl⟩
    rw [hvv] at hsi
    have HHS := Lib.hid hsi
    have HHV := Lib.hid hv
    have HHD := Lib.hid hD
    have x0 : W.cell? ⟨N, 0, none⟩ = some (.int .u64 (f : Int)) := by have h := hsi.h0; simp only [World.cell?, h]; rfl
    have x1 : W.cell? ⟨N + 1, 0, none⟩ = some v := by have h := hsi.h1; simp only [World.cell?, h]; rfl
    have x2 : W.cell? ⟨N + 1 + 1, 0, none⟩ = some (.int .i64 (g : Int)) := by have h := hsi.h2; simp only [World.cell?, h]; rfl
    have y0 : W.frozen? ⟨N, 0, none⟩ = false := by have h := hsi.h0; simp only [World.frozen?, h]; rfl
    have y1 : W.frozen? ⟨N + 1, 0, none⟩ = false := by have h := hsi.h1; simp only [World.frozen?, h]; rfl
    have y2 : W.frozen? ⟨N + 1 + 1, 0, none⟩ = false := by have h := hsi.h2; simp only [World.frozen?, h]; rfl
    have hz4 := HZ4.out
    have e0 : ((((W.setCell ⟨N, 0, none⟩ (.int .u64 (f : Int))).setCell ⟨N + 1, 0, none⟩ v).setCell ⟨N + 1 + 1, 0, none⟩ (.int .i64 (g : Int))).drew).heap[N]? = some (.cells #[.int .u64 (f : Int)] 22 (0, 0)) := by
      show (((W.setCell ⟨N, 0, none⟩ (.int .u64 (f : Int))).setCell ⟨N + 1, 0, none⟩ v).setCell ⟨N + 1 + 1, 0, none⟩ (.int .i64 (g : Int))).heap[N]? = _
      rw [Below.heap_setCell _ _ _ _ (show N ≠ N + 1 + 1 by omega), Below.heap_setCell _ _ _ _ (show N ≠ N + 1 by omega)]; exact heap_set hsi.h0 0 _
    have e1 : ((((W.setCell ⟨N, 0, none⟩ (.int .u64 (f : Int))).setCell ⟨N + 1, 0, none⟩ v).setCell ⟨N + 1 + 1, 0, none⟩ (.int .i64 (g : Int))).drew).heap[N + 1]? = some (.cells #[v] 23 (0, 0)) := by
      show (((W.setCell ⟨N, 0, none⟩ (.int .u64 (f : Int))).setCell ⟨N + 1, 0, none⟩ v).setCell ⟨N + 1 + 1, 0, none⟩ (.int .i64 (g : Int))).heap[N + 1]? = _
      have q : (W.setCell ⟨N, 0, none⟩ (.int .u64 (f : Int))).heap[N + 1]? = some (.cells #[v] 23 (0, 0)) := by rw [Below.heap_setCell _ _ _ _ (show N + 1 ≠ N by omega)]; exact hsi.h1
      rw [Below.heap_setCell _ _ _ _ (show N + 1 ≠ N + 1 + 1 by omega)]; exact heap_set q 0 _
    have e2 : ((((W.setCell ⟨N, 0, none⟩ (.int .u64 (f : Int))).setCell ⟨N + 1, 0, none⟩ v).setCell ⟨N + 1 + 1, 0, none⟩ (.int .i64 (g : Int))).drew).heap[N + 1 + 1]? = some (.cells #[.int .i64 (g : Int)] 3 (0, 0)) := by
      have q : ((W.setCell ⟨N, 0, none⟩ (.int .u64 (f : Int))).setCell ⟨N + 1, 0, none⟩ v).heap[N + 1 + 1]? = some (.cells #[.int .i64 (g : Int)] 3 (0, 0)) := by
        rw [Below.heap_setCell _ _ _ _ (show N + 1 + 1 ≠ N + 1 by omega), Below.heap_setCell _ _ _ _ (show N + 1 + 1 ≠ N by omega)]; exact hsi.h2
      exact heap_set q 0 _
    have hda : ∀ p ∈ L, ∀ b, b < B → p.2.ownBlock ≠ some b := fun p hp b hb h => by have := hsi.da p hp _ h; omega
    have eE : EO ((((W.setCell ⟨N, 0, none⟩ (.int .u64 (f : Int))).setCell ⟨N + 1, 0, none⟩ v).setCell ⟨N + 1 + 1, 0, none⟩ (.int .i64 (g : Int))).drew) B v L :=
      (((hsi.eo.set (by omega) (fun p hp => hda p hp _ (by omega)) _).set (by omega) (fun p hp => hda p hp _ (by omega)) _).set (by omega) (fun p hp => hda p hp _ (by omega)) _).tame (Tame.of_below (B := 0) ((Below.refl _ _).drew))
    have hN0 := HWN.out
    have eB : Below w.heap.size w ((((W.setCell ⟨N, 0, none⟩ (.int .u64 (f : Int))).setCell ⟨N + 1, 0, none⟩ v).setCell ⟨N + 1 + 1, 0, none⟩ (.int .i64 (g : Int))).drew) :=
      (below_two (below_two (below_two hsi.bel (by omega) _ _) (by omega) _ _) (by omega) _ _).drew
    have eD : ((((W.setCell ⟨N, 0, none⟩ (.int .u64 (f : Int))).setCell ⟨N + 1, 0, none⟩ v).setCell ⟨N + 1 + 1, 0, none⟩ (.int .i64 (g : Int))).drew).heap[B]? = some (.deferred (some [])) := by
      show (((W.setCell ⟨N, 0, none⟩ (.int .u64 (f : Int))).setCell ⟨N + 1, 0, none⟩ v).setCell ⟨N + 1 + 1, 0, none⟩ (.int .i64 (g : Int))).heap[B]? = _
      rw [Below.heap_setCell _ _ _ _ (show B ≠ N + 1 + 1 by omega), Below.heap_setCell _ _ _ _ (show B ≠ N + 1 by omega), Below.heap_setCell _ _ _ _ (show B ≠ N by omega)]; exact hD
    have HE := Lib.hid (And.intro e0 (And.intro e1 (And.intro e2 (And.intro eE (And.intro eB eD)))))
    have hfm : Try.prog.follows Departure.mixedOrders = true := by kernel_rfl
    have hfi : Try.prog.follows Departure.inlinedCapture = true := by kernel_rfl
    clear hsi hv hD e0 e1 e2 eE eB eD hda hz4 hN0 hln
    subst hvv
    gi_wp2
    gi_region_elder_o
    all_goals (
      obtain ⟨e0, e1, e2, eE, eB, eD⟩ := HE.out
      generalize (((W.setCell ⟨N, 0, none⟩ (.int .u64 (f : Int))).setCell ⟨N + 1, 0, none⟩ (.slice va ln vc)).setCell ⟨N + 1 + 1, 0, none⟩ (.int .i64 (g : Int))).drew = W9 at e0 e1 e2 eE eB eD ⊢
      clear HE
      rw [HBB.out]
      gi_wp2
      have hz4 := HZ4.out
      have hN0 := HWN.out
      have k0 : (W9.putObj B (.deferred none)).heap[N]? = _ := (World.putObj_heap_other (by omega)).trans e0
      have k1 : (W9.putObj B (.deferred none)).heap[N + 1]? = _ := (World.putObj_heap_other (by omega)).trans e1
      have k2 : (W9.putObj B (.deferred none)).heap[N + 1 + 1]? = _ := (World.putObj_heap_other (by omega)).trans e2
      refine ⟨by simp, .inl ⟨_, _, rfl, run_takeDeferred eD, ?_⟩⟩
      refine ⟨_, sr_res rfl _ _ N (N + 1) (N + 1 + 1) _ _ _ rfl rfl rfl (by simp only [World.cell?, k0]; rfl) (by simp only [World.cell?, k1]; rfl) (by simp only [World.cell?, k2]; rfl), eB.trans (below_putObj _ _ _ (by omega)), .slice va ln vc, L, (by rw [← HHV.out]; rfl), (eE.tame (Tame.putObj (B := 0) W9 _ eD rfl (Nat.zero_le _))).base HLE.out, by rw [← HHV.out]⟩)
  case stop =>
    rintro c W ⟨rfl, f, v, L, g, hsi, hv⟩ hD
    rw [HBB.out] at hD
    obtain ⟨va, vc, hvs⟩ := hsi.eo.shape
    obtain ⟨ln, hln⟩ : ∃ ln, L.length = ln := ⟨_, rfl⟩
    rw [hln] at hvs
    subst hvs
    obtain ⟨v, hvv⟩ : ∃ v, Value.slice va ln vc = v := ⟨_, rfl⟩
    rw [hvv] at hsi
    have HHS := Lib.hid hsi
    have HHV := Lib.hid hv
    have HHD := Lib.hid hD
    have x0 : W.cell? ⟨N, 0, none⟩ = some (.int .u64 (f : Int)) := by have h := hsi.h0; simp only [World.cell?, h]; rfl
    have x1 : W.cell? ⟨N + 1, 0, none⟩ = some v := by have h := hsi.h1; simp only [World.cell?, h]; rfl
    have x2 : W.cell? ⟨N + 1 + 1, 0, none⟩ = some (.int .i64 (g : Int)) := by have h := hsi.h2; simp only [World.cell?, h]; rfl
    have y0 : W.frozen? ⟨N, 0, none⟩ = false := by have h := hsi.h0; simp only [World.frozen?, h]; rfl
    have y1 : W.frozen? ⟨N + 1, 0, none⟩ = false := by have h := hsi.h1; simp only [World.frozen?, h]; rfl
    have y2 : W.frozen? ⟨N + 1 + 1, 0, none⟩ = false := by have h := hsi.h2; simp only [World.frozen?, h]; rfl
    have hz4 := HZ4.out
    have e0 : ((((W.setCell ⟨N, 0, none⟩ (.int .u64 (f : Int))).setCell ⟨N + 1, 0, none⟩ v).setCell ⟨N + 1 + 1, 0, none⟩ (.int .i64 (g : Int))).drew).heap[N]? = some (.cells #[.int .u64 (f : Int)] 22 (0, 0)) := by
      show (((W.setCell ⟨N, 0, none⟩ (.int .u64 (f : Int))).setCell ⟨N + 1, 0, none⟩ v).setCell ⟨N + 1 + 1, 0, none⟩ (.int .i64 (g : Int))).heap[N]? = _
      rw [Below.heap_setCell _ _ _ _ (show N ≠ N + 1 + 1 by omega), Below.heap_setCell _ _ _ _ (show N ≠ N + 1 by omega)]; exact heap_set hsi.h0 0 _
    have e1 : ((((W.setCell ⟨N, 0, none⟩ (.int .u64 (f : Int))).setCell ⟨N + 1, 0, none⟩ v).setCell ⟨N + 1 + 1, 0, none⟩ (.int .i64 (g : Int))).drew).heap[N + 1]? = some (.cells #[v] 23 (0, 0)) := by
      show (((W.setCell ⟨N, 0, none⟩ (.int .u64 (f : Int))).setCell ⟨N + 1, 0, none⟩ v).setCell ⟨N + 1 + 1, 0, none⟩ (.int .i64 (g : Int))).heap[N + 1]? = _
      have q : (W.setCell ⟨N, 0, none⟩ (.int .u64 (f : Int))).heap[N + 1]? = some (.cells #[v] 23 (0, 0)) := by rw [Below.heap_setCell _ _ _ _ (show N + 1 ≠ N by omega)]; exact hsi.h1
      rw [Below.heap_setCell _ _ _ _ (show N + 1 ≠ N + 1 + 1 by omega)]; exact heap_set q 0 _
    have e2 : ((((W.setCell ⟨N, 0, none⟩ (.int .u64 (f : Int))).setCell ⟨N + 1, 0, none⟩ v).setCell ⟨N + 1 + 1, 0, none⟩ (.int .i64 (g : Int))).drew).heap[N + 1 + 1]? = some (.cells #[.int .i64 (g : Int)] 3 (0, 0)) := by
      have q : ((W.setCell ⟨N, 0, none⟩ (.int .u64 (f : Int))).setCell ⟨N + 1, 0, none⟩ v).heap[N + 1 + 1]? = some (.cells #[.int .i64 (g : Int)] 3 (0, 0)) := by
        rw [Below.heap_setCell _ _ _ _ (show N + 1 + 1 ≠ N + 1 by omega), Below.heap_setCell _ _ _ _ (show N + 1 + 1 ≠ N by omega)]; exact hsi.h2
      exact heap_set q 0 _
    have hda : ∀ p ∈ L, ∀ b, b < B → p.2.ownBlock ≠ some b := fun p hp b hb h => by have := hsi.da p hp _ h; omega
    have eE : EO ((((W.setCell ⟨N, 0, none⟩ (.int .u64 (f : Int))).setCell ⟨N + 1, 0, none⟩ v).setCell ⟨N + 1 + 1, 0, none⟩ (.int .i64 (g : Int))).drew) B v L :=
      (((hsi.eo.set (by omega) (fun p hp => hda p hp _ (by omega)) _).set (by omega) (fun p hp => hda p hp _ (by omega)) _).set (by omega) (fun p hp => hda p hp _ (by omega)) _).tame (Tame.of_below (B := 0) ((Below.refl _ _).drew))
    have hN0 := HWN.out
    have eB : Below w.heap.size w ((((W.setCell ⟨N, 0, none⟩ (.int .u64 (f : Int))).setCell ⟨N + 1, 0, none⟩ v).setCell ⟨N + 1 + 1, 0, none⟩ (.int .i64 (g : Int))).drew) :=
      (below_two (below_two (below_two hsi.bel (by omega) _ _) (by omega) _ _) (by omega) _ _).drew
    have eD : ((((W.setCell ⟨N, 0, none⟩ (.int .u64 (f : Int))).setCell ⟨N + 1, 0, none⟩ v).setCell ⟨N + 1 + 1, 0, none⟩ (.int .i64 (g : Int))).drew).heap[B]? = some (.deferred (some [])) := by
      show (((W.setCell ⟨N, 0, none⟩ (.int .u64 (f : Int))).setCell ⟨N + 1, 0, none⟩ v).setCell ⟨N + 1 + 1, 0, none⟩ (.int .i64 (g : Int))).heap[B]? = _
      rw [Below.heap_setCell _ _ _ _ (show B ≠ N + 1 + 1 by omega), Below.heap_setCell _ _ _ _ (show B ≠ N + 1 by omega), Below.heap_setCell _ _ _ _ (show B ≠ N by omega)]; exact hD
    have HE := Lib.hid (And.intro e0 (And.intro e1 (And.intro e2 (And.intro eE (And.intro eB eD)))))
    have hfm : Try.prog.follows Departure.mixedOrders = true := by kernel_rfl
    have hfi : Try.prog.follows Departure.inlinedCapture = true := by kernel_rfl
    clear hsi hv hD e0 e1 e2 eE eB eD hda hz4 hN0 hln
    subst hvv
    gi_wp2
    gi_region_elder_o
    all_goals (
      obtain ⟨e0, e1, e2, eE, eB, eD⟩ := HE.out
      generalize (((W.setCell ⟨N, 0, none⟩ (.int .u64 (f : Int))).setCell ⟨N + 1, 0, none⟩ (.slice va ln vc)).setCell ⟨N + 1 + 1, 0, none⟩ (.int .i64 (g : Int))).drew = W9 at e0 e1 e2 eE eB eD ⊢
      clear HE
      rw [HBB.out]
      gi_wp2
      have hz4 := HZ4.out
      have hN0 := HWN.out
      have k0 : (W9.putObj B (.deferred none)).heap[N]? = _ := (World.putObj_heap_other (by omega)).trans e0
      have k1 : (W9.putObj B (.deferred none)).heap[N + 1]? = _ := (World.putObj_heap_other (by omega)).trans e1
      have k2 : (W9.putObj B (.deferred none)).heap[N + 1 + 1]? = _ := (World.putObj_heap_other (by omega)).trans e2
      refine ⟨by simp, .inl ⟨_, _, rfl, run_takeDeferred eD, ?_⟩⟩
      refine ⟨_, sr_res rfl _ _ N (N + 1) (N + 1 + 1) _ _ _ rfl rfl rfl (by simp only [World.cell?, k0]; rfl) (by simp only [World.cell?, k1]; rfl) (by simp only [World.cell?, k2]; rfl), eB.trans (below_putObj _ _ _ (by omega)), .slice va ln vc, L, (by rw [← HHV.out]; rfl), (eE.tame (Tame.putObj (B := 0) W9 _ eD rfl (Nat.zero_le _))).base HLE.out, by rw [← HHV.out]⟩)
end Go.Proofs.Ythefnakbpalecaa
