/- A ring's Drop. -/
import Derived.Test.YtfclmbneimbmnaaDoorRiB
namespace Go.Proofs.YtfclmbneimbmnaaDoor
open Go.RowKit

theorem Only.setNew {X : Nat → Prop} {w w' : World} (h : Only X w w') (p : Addr) (v : Value) (hp : w.heap.size ≤ p.block) : Only X w (w'.setCell p v) :=
  ⟨h.os, h.tape, h.output, by have := h.size; simpa using this, fun k hk hx => (Below.heap_setCell _ _ _ _ (by omega)).trans (h.block k hk hx)⟩
theorem OT.cap {w : World} {base g n cap : Nat} {l : List Th} (h : OT w base (.slice (some ⟨g, 0, none⟩) n cap) l) : l.length ≤ cap := by
  rcases h.2 with ⟨hv, _⟩ | ⟨g', cap', cur, hv, _, _, hc, _⟩
  · cases hv
  · injection hv with _ _ e
    rw [e]; exact hc

set_option maxRecDepth 100000 in
set_option maxHeartbeats 4000000 in
theorem drop_some {r b s i : Nat} {V : Nat → Value} {S : Nat → List Th} {M : Int → Option (Nat × Nat)} {t : Th} (w : World) (h : Rn w r b V S M) (hs : s < 64) (ht : (S s)[i]? = some t) :
    Calls Tryd.prog 71 #[.pointer (some ⟨r, 0, none⟩), .int .u64 t.1] w fun e w' => e = .returned (.tuple #[.agg #[.int .u64 t.1, .int .u64 t.2.1, .int .i64 t.2.2], .bool true]) ∧
      ∃ V' M', Rn w' r b V' (upd S s (swr (S s) i zT)) M' ∧ Only (Fp V r b) w w' ∧ ∀ k, Fp V' r b k → Fp V r b k := by
  have mixed := insTh.mixed
  have hi := (List.getElem?_eq_some_iff.1 ht).1
  obtain ⟨n, hn⟩ : ∃ n, (S s).length = n := ⟨_, rfl⟩
  rw [hn] at hi
  have hn6 : n < 1000000 := by rw [← hn]; exact Nat.lt_of_le_of_lt (tot_ge S 64 hs) h.few
  obtain ⟨y, hy⟩ : ∃ y, (S s)[n - 1]? = some y := ⟨_, List.getElem?_eq_getElem (by omega)⟩
  have hx := h.ok s hs t (List.mem_of_getElem? ht)
  have hM := h.at hs ht
  have hxy := h.ok s hs y (List.mem_of_getElem? hy)
  have hMy := h.at hs hy
  obtain ⟨g, vc, hV, hgw, hob, _⟩ := (h.rw.row s hs).block ht
  rw [hn] at hV
  have hgr := h.rw.ring s g hs hob
  have hr := h.lt (.inl rfl)
  have hb := h.lt (.inr (.inl rfl))
  -- the result's cell
  have hbA : Below w.heap.size w (w.alloc (.cells #[.int .u64 0, .int .u64 0, .int .i64 0] 27)) := (Below.refl _ _).alloc (Nat.le_refl _) _
  have hsA : (w.alloc (.cells #[.int .u64 0, .int .u64 0, .int .i64 0] 27)).heap.size = w.heap.size + 1 := by simp
  have hzA : ∀ o, (w.alloc (.cells #[.int .u64 0, .int .u64 0, .int .i64 0] 27)).frozen? ⟨w.heap.size, o, none⟩ = false := fun o => by simp
  have hqA := zero_three w
  have hget := get_some _ (h.below hbA) hs ht
  have H0 := Lib.hid h
  clear h
  obtain ⟨x, yy, z⟩ := t
  obtain ⟨u1, u2, u3⟩ := y
  simp only at hget
  obtain ⟨T, hT⟩ : ∃ T, w.heap.size = T := ⟨_, rfl⟩
  go_enter Tryd.func71, Tryd.ntmps71
  go_wp2_with fail
  rw [hT] at hzA hqA hsA
  generalize w.alloc (.cells #[.int .u64 0, .int .u64 0, .int .i64 0] 27) = W1 at hbA hsA hzA hqA hget ⊢
  refine hget.mono ?_
  rintro e W2 ⟨rfl, hb2⟩
  clear hget
  have sz2 := hb2.size
  have b2 : Below w.heap.size w W2 := hbA.trans (hb2.mono (by omega))
  have b3 : Below w.heap.size w (W2.alloc (.cells #[.int .u64 x, .int .u64 yy, .int .i64 z] 27)) := b2.alloc (by omega) _
  obtain ⟨T2, hT2⟩ : ∃ T2, W2.heap.size = T2 := ⟨_, rfl⟩
  have d0 : (W2.alloc (.cells #[.int .u64 x, .int .u64 yy, .int .i64 z] 27)).cell? ⟨T2, 0, none⟩ = some (.int .u64 x) := World.cell?_alloc_at _ _ _ _ hT2.symm
  have d1 : (W2.alloc (.cells #[.int .u64 x, .int .u64 yy, .int .i64 z] 27)).cell? ⟨T2, 1, none⟩ = some (.int .u64 yy) := World.cell?_alloc_at _ _ _ _ hT2.symm
  have d2 : (W2.alloc (.cells #[.int .u64 x, .int .u64 yy, .int .i64 z] 27)).cell? ⟨T2, 2, none⟩ = some (.int .i64 z) := World.cell?_alloc_at _ _ _ _ hT2.symm
  have hb3 : Below W1.heap.size W1 (W2.alloc (.cells #[.int .u64 x, .int .u64 yy, .int .i64 z] 27)) := hb2.alloc hb2.size _
  have s3 : (W2.alloc (.cells #[.int .u64 x, .int .u64 yy, .int .i64 z] 27)).heap.size = T2 + 1 := by simp; omega
  have a0 := (hb3.cell (p := ⟨T, 0, none⟩) (by show T < _; omega)).trans hqA.1
  have a1 := (hb3.cell (p := ⟨T, 1, none⟩) (by show T < _; omega)).trans hqA.2.1
  have a2 := (hb3.cell (p := ⟨T, 2, none⟩) (by show T < _; omega)).trans hqA.2.2
  have af : ∀ o, (W2.alloc (.cells #[.int .u64 x, .int .u64 yy, .int .i64 z] 27)).frozen? ⟨T, o, none⟩ = false := fun o => (hb3.frozen (p := ⟨T, o, none⟩) (by show T < _; omega)).trans (hzA o)
  have HA := Lib.hid (And.intro a0 (And.intro a1 (And.intro a2 af)))
  have HD := Lib.hid (And.intro d0 (And.intro d1 d2))
  have HB3 := Lib.hid b3
  have hTT : T < T2 := by omega
  clear a0 a1 a2 af d0 d1 d2 hb3 b2 hb2 hbA hzA hqA sz2
  have HN3 := Lib.hid (H0.out.below b3)
  clear b3
  have hl3 := fun w' (hb : Below (T2 + 1) (W2.alloc (.cells #[.int .u64 x, .int .u64 yy, .int .i64 z] 27)) w') => (HN3.out.below (by rw [s3]; exact hb)).rg.pl.at_some hx hM
  have HL3 := Lib.hid hl3
  clear hl3
  go_wp2_with fail
  generalize W2.alloc (.cells #[.int .u64 x, .int .u64 yy, .int .i64 z] 27) = W3 at HA HD HB3 s3 HN3 HL3 ⊢
  have HS : Hid (∀ w', Below (T2 + 1) W3 w' → w'.cell? ⟨r, 64, none⟩ = some (.map (some b)) ∧ w'.cell? ⟨r, s, none⟩ = some (.slice (some ⟨g, 0, none⟩) n vc) ∧ (Instr.lookup 137 (.map (some b)) (.int .u64 x) false).run Tryd.prog w' = .ok (.agg #[.int .i64 s, .int .i64 i]) w') := Lib.hid (fun w' hb => by
    have h' := HN3.out.below (by rw [s3]; exact hb)
    exact ⟨h'.rg.map, (h'.rg.slot s hs).trans (by rw [hV]), HL3.out w' hb⟩)
  clear HL3
  have hs0 : (0 : Int) ≤ (s : Int) := by omega
  have hs64 : (s : Int) < 64 := by omega
  go_region_held3 (fun w' => w'.cell? ⟨r, 64, none⟩ = some (.map (some b)) ∧ w'.cell? ⟨r, s, none⟩ = some (.slice (some ⟨g, 0, none⟩) n vc) ∧ (Instr.lookup 137 (.map (some b)) (.int .u64 x) false).run Tryd.prog w' = .ok (.agg #[.int .i64 s, .int .i64 i]) w')
    (first
      | assumption
      | exact HS.out _ (Below.refl _ _).drew
      | exact HS.out _ ((Below.refl _ _).drew.alloc (by show T2 + 1 ≤ W3.heap.size; omega) _)
      | exact HS.out _ (((Below.refl _ _).drew.alloc (by show T2 + 1 ≤ W3.heap.size; omega) _).setCell (by show T2 + 1 ≤ W3.heap.size; omega) _)
      | exact HS.out _ ((((Below.refl _ _).drew.alloc (by show T2 + 1 ≤ W3.heap.size; omega) _).setCell (by show T2 + 1 ≤ W3.heap.size; omega) _).setCell (by show T2 + 1 ≤ W3.heap.size; omega) _)) (fail)
  all_goals
    clear HS
    have b4 : Below W3.heap.size W3 (W3.alloc (.cells #[.int .i64 s, .int .i64 i] 182)).drew := ((Below.refl _ _).alloc (Nat.le_refl _) _).drew
    have p0 : (W3.alloc (.cells #[.int .i64 s, .int .i64 i] 182)).drew.cell? ⟨T2 + 1, 0, none⟩ = some (.int .i64 s) := by rw [← s3]; exact World.cell?_alloc_at _ _ _ _ rfl
    have p1 : (W3.alloc (.cells #[.int .i64 s, .int .i64 i] 182)).drew.cell? ⟨T2 + 1, 1, none⟩ = some (.int .i64 i) := by rw [← s3]; exact World.cell?_alloc_at _ _ _ _ rfl
    have s4 : (W3.alloc (.cells #[.int .i64 s, .int .i64 i] 182)).drew.heap.size = T2 + 2 := by simp; omega
    generalize (W3.alloc (.cells #[.int .i64 s, .int .i64 i] 182)).drew = W4 at b4 p0 p1 s4 ⊢
    have HN4 := Lib.hid (HN3.out.below b4)
    obtain ⟨m, hm⟩ : ∃ m, n = m + 1 := ⟨n - 1, by omega⟩
    have hym : (S s)[m]? = some (u1, u2, u3) := by rw [← hy, hm]; rfl
    obtain ⟨g', vc', hV', hgl4, _, _, l0, l1, l2⟩ := (HN4.out.rw.row s hs).block hym
    obtain ⟨rfl, rfl⟩ : g = g' ∧ vc = vc' := by
      rw [hV] at hV'
      injection hV' with e1 _ e3
      injection e1 with e1
      injection e1 with e1
      exact ⟨e1, e3⟩
    simp only at l0 l1 l2
    have hmw : IntKind.i64.wrap ((n : Int) - 1) = (m : Int) := by rw [IntKind.wrap_i64]; omega
    have hm0 : (0 : Int) ≤ (m : Int) := by omega
    have hmn : (m : Int) < (n : Int) := by omega
    have hi0 : (0 : Int) ≤ (i : Int) := by omega
    have hin : (i : Int) < (n : Int) := by omega
    have HM4 := Lib.hid hm
    have hin' := Lib.hid hi
    have HYM := Lib.hid hym
    have b5 : Below W4.heap.size W4 (W4.alloc (.cells #[.int .u64 u1, .int .u64 u2, .int .i64 u3] 27)) := (Below.refl _ _).alloc (Nat.le_refl _) _
    have q0 : (W4.alloc (.cells #[.int .u64 u1, .int .u64 u2, .int .i64 u3] 27)).cell? ⟨T2 + 2, 0, none⟩ = some (.int .u64 u1) := World.cell?_alloc_at _ _ _ _ s4.symm
    have q1 : (W4.alloc (.cells #[.int .u64 u1, .int .u64 u2, .int .i64 u3] 27)).cell? ⟨T2 + 2, 1, none⟩ = some (.int .u64 u2) := World.cell?_alloc_at _ _ _ _ s4.symm
    have q2 : (W4.alloc (.cells #[.int .u64 u1, .int .u64 u2, .int .i64 u3] 27)).cell? ⟨T2 + 2, 2, none⟩ = some (.int .i64 u3) := World.cell?_alloc_at _ _ _ _ s4.symm
    have HN5 := Lib.hid (HN4.out.below b5)
    have HT0 := Lib.hid ht
    have s5 : (W4.alloc (.cells #[.int .u64 u1, .int .u64 u2, .int .i64 u3] 27)).heap.size = T2 + 3 := by simp; omega
    have b45 : Below W3.heap.size W3 (W4.alloc (.cells #[.int .u64 u1, .int .u64 u2, .int .i64 u3] 27)) := b4.trans (b5.mono b4.size)
    have HB5 : Hid (Below w.heap.size w (W4.alloc (.cells #[.int .u64 u1, .int .u64 u2, .int .i64 u3] 27))) := Lib.hid (HB3.out.trans (b45.mono HB3.out.size))
    have e0 := (b5.cell (p := ⟨T2 + 1, 0, none⟩) (by show T2 + 1 < _; omega)).trans p0
    have e1 := (b5.cell (p := ⟨T2 + 1, 1, none⟩) (by show T2 + 1 < _; omega)).trans p1
    have t0 := (b45.cell (p := ⟨T, 0, none⟩) (by show T < _; omega)).trans HA.out.1
    have t1 := (b45.cell (p := ⟨T, 1, none⟩) (by show T < _; omega)).trans HA.out.2.1
    have t2 := (b45.cell (p := ⟨T, 2, none⟩) (by show T < _; omega)).trans HA.out.2.2.1
    have tf : ∀ o, (W4.alloc (.cells #[.int .u64 u1, .int .u64 u2, .int .i64 u3] 27)).frozen? ⟨T, o, none⟩ = false := fun o => (b45.frozen (p := ⟨T, o, none⟩) (by show T < _; omega)).trans (HA.out.2.2.2 o)
    have d0 := (b45.cell (p := ⟨T2, 0, none⟩) (by show T2 < _; omega)).trans HD.out.1
    have d1 := (b45.cell (p := ⟨T2, 1, none⟩) (by show T2 < _; omega)).trans HD.out.2.1
    have d2 := (b45.cell (p := ⟨T2, 2, none⟩) (by show T2 < _; omega)).trans HD.out.2.2
    clear hm hym hy ht hV' hi
    go_upto_region 6 with (fail)
    generalize W4.alloc (.cells #[.int .u64 u1, .int .u64 u2, .int .i64 u3] 27) = W5 at HN5 q0 q1 q2 s5 b45 HB5 e0 e1 t0 t1 t2 tf d0 d1 d2 b5 ⊢
    clear p0 p1 l0 l1 l2 b5 b45 b4 HN3 HN4 HA HD HB3
    have HF5 := Lib.hid (And.intro t0 (And.intro t1 (And.intro t2 (And.intro tf (And.intro d0 (And.intro d1 d2))))))
    clear t0 t1 t2 tf d0 d1 d2
    obtain ⟨g', vc', hV', hgl5, _, _, k0, k1, k2⟩ := (HN5.out.rw.row s hs).block HT0.out
    obtain ⟨rfl, rfl⟩ : g = g' ∧ vc = vc' := by
      rw [hV] at hV'
      injection hV' with e1 _ e3
      injection e1 with e1
      injection e1 with e1
      exact ⟨e1, e3⟩
    simp only at k0 k1 k2
    have hrow5 := HN5.out.rw.row s hs
    rw [hV, ← hn] at hrow5
    have z0 := World.ownsRow.frozenAt hrow5 (i * 3)
    have z1 := World.ownsRow.frozenAt hrow5 (i * 3 + 1)
    have z2 := World.ownsRow.frozenAt hrow5 (i * 3 + 2)
    clear hV' hrow5
    go_upto_region 7 with (fail)
    have o56 : Only (fun k => k = g) W5 (((W5.setCell ⟨g, i * 3, none⟩ (.int .u64 u1)).setCell ⟨g, i * 3 + 1, none⟩ (.int .u64 u2)).setCell ⟨g, i * 3 + 2, none⟩ (.int .i64 u3)) := (((Only.refl (fun k => k = g) W5).setCell ⟨g, i * 3, none⟩ _ rfl).setCell ⟨g, i * 3 + 1, none⟩ _ rfl).setCell ⟨g, i * 3 + 2, none⟩ _ rfl
    obtain ⟨W6, hW6⟩ : ∃ W, ((W5.setCell ⟨g, i * 3, none⟩ (.int .u64 u1)).setCell ⟨g, i * 3 + 1, none⟩ (.int .u64 u2)).setCell ⟨g, i * 3 + 2, none⟩ (.int .i64 u3) = W := ⟨_, rfl⟩
    rw [hW6] at o56
    rw [hW6]
    clear k0 k1 k2 z0 z1 z2
    have P6 : Pl W6 b (tot S 64) M := HN5.out.rg.pl.block (o56.block b HN5.out.rg.pl.lt (fun e => hgr.2 e.symm))
    obtain ⟨W7, hup, P7, ht7⟩ := (show Pl W6.drew b (tot S 64) M from P6).put hxy (by have := HN5.out.few; unfold maxLen; omega) s i
    rw [hMy] at P7
    simp only [Option.isSome_some, if_true] at P7
    unfold plV tMp at hup
    have o67 : Only (fun k => k = b) W6 W7 := ((Only.refl _ W6).drew).trans (turned_below ht7 _ rfl)
    obtain ⟨W8, hdel, P8, ht8⟩ := P7.del hx 0
    have ec : (if (updM M u1 (some (s, i)) x).isSome then tot S 64 - 1 else tot S 64) = tot S 64 - 1 := by
      unfold updM
      by_cases e : x = u1
      · rw [if_pos e]; rfl
      · rw [if_neg e, hM]; rfl
    rw [ec] at P8
    unfold tMp kU at hdel
    have o78 : Only (fun k => k = b) W7 W8 := turned_below ht8 _ rfl
    have o68 : Only (fun k => k = b) W6 W8 := o67.trans o78
    have hCons := HN5.out.cons.drop zT hs HT0.out (show (S s)[(S s).length - 1]? = some (u1, u2, u3) by rw [hn, HM4.out]; exact HYM.out)
    obtain ⟨hRn, hOn⟩ := drop_done HN5.out hs HT0.out (show (S s)[n - 1]? = some (u1, u2, u3) by rw [HM4.out]; exact HYM.out) hn hV hW6.symm o68 P8 hCons
    have hrT : r < T ∧ b < T ∧ g < T := by omega
    have big : ∀ W, (Only (fun k => k = g ∨ k = b ∨ k = r) W5 W) → ∀ q o, T ≤ q → q < T2 + 3 → W.cell? ⟨q, o, none⟩ = W5.cell? ⟨q, o, none⟩ := fun W ho q o h1 h2 => ho.cell (p := ⟨q, o, none⟩) (by show q < _; omega) (by show ¬ (q = g ∨ q = b ∨ q = r); omega)
    have o6 : Only (fun k => k = g ∨ k = b ∨ k = r) W5 W6 := o56.more (fun k h => .inl h)
    have o7 : Only (fun k => k = g ∨ k = b ∨ k = r) W5 W7 := o6.trans (o67.more (fun k h => .inr (.inl h)))
    have o8 : Only (fun k => k = g ∨ k = b ∨ k = r) W5 W8 := o7.trans (o78.more (fun k h => .inr (.inl h)))
    have m5 := HN5.out.rg.map
    have m6 : W6.cell? ⟨r, 64, none⟩ = some (.map (some b)) := (o56.cell (p := ⟨r, 64, none⟩) (by show r < _; omega) (fun e => hgr.1 e.symm)).trans m5
    have m7 : W7.cell? ⟨r, 64, none⟩ = some (.map (some b)) := (o67.cell (p := ⟨r, 64, none⟩) (by show r < _; have := o56.size; omega) HN5.out.ne).trans m6
    have c6 : W6.cell? ⟨r, 64, none⟩ = some (.map (some b)) ∧ W6.cell? ⟨T2 + 2, 0, none⟩ = some (.int .u64 u1) ∧ W6.cell? ⟨T2 + 1, 0, none⟩ = some (.int .i64 s) ∧ W6.cell? ⟨T2 + 1, 1, none⟩ = some (.int .i64 i) := ⟨m6, (big W6 o6 _ _ (by omega) (by omega)).trans q0, (big W6 o6 _ _ (by omega) (by omega)).trans e0, (big W6 o6 _ _ (by omega) (by omega)).trans e1⟩
    have c7 : W7.cell? ⟨r, 64, none⟩ = some (.map (some b)) ∧ W7.cell? ⟨T2 + 2, 0, none⟩ = some (.int .u64 u1) ∧ W7.cell? ⟨T2 + 1, 0, none⟩ = some (.int .i64 s) ∧ W7.cell? ⟨T2 + 1, 1, none⟩ = some (.int .i64 i) := ⟨m7, (big W7 o7 _ _ (by omega) (by omega)).trans q0, (big W7 o7 _ _ (by omega) (by omega)).trans e0, (big W7 o7 _ _ (by omega) (by omega)).trans e1⟩
    have rs8 : W8.cell? ⟨r, s, none⟩ = some (.slice (some ⟨g, 0, none⟩) n vc) := by
      rw [o68.cell (p := ⟨r, s, none⟩) (by show r < _; have := o56.size; omega) HN5.out.ne, o56.cell (p := ⟨r, s, none⟩) (by show r < _; omega) (fun e => hgr.1 e.symm), HN5.out.rg.slot s hs, hV]
    have fs8 : W8.frozen? ⟨r, s, none⟩ = false := by
      rw [o68.frozen (p := ⟨r, s, none⟩) (by show r < _; have := o56.size; omega) HN5.out.ne, o56.frozen (p := ⟨r, s, none⟩) (by show r < _; omega) (fun e => hgr.1 e.symm)]
      exact HN5.out.rg.fro s (by omega)
    rw [show n - 1 = m by have := HM4.out; omega] at hRn hOn
    have HRN := Lib.hid (And.intro hRn hOn)
    have hcap : (m : Int) ≤ (vc : Int) := by
      have h1 := HN5.out.rw.row s hs
      rw [hV] at h1
      have := h1.cap
      have := HM4.out
      omega
    have o89 : Only (fun k => k = g ∨ k = b ∨ k = r) W5 (W8.setCell ⟨r, s, none⟩ (.slice (some ⟨g, 0, none⟩) m vc)) := o8.setCell _ _ (.inr (.inr rfl))
    have T2l : T2 < T2 + 3 := by omega
    have f0 := (big _ o89 T2 0 (by omega) (by omega)).trans HF5.out.2.2.2.2.1
    have f1 := (big _ o89 T2 1 (by omega) (by omega)).trans HF5.out.2.2.2.2.2.1
    have f2 := (big _ o89 T2 2 (by omega) (by omega)).trans HF5.out.2.2.2.2.2.2
    have v0 := (big _ o89 T 0 (by omega) (by omega)).trans HF5.out.1
    have v1 := (big _ o89 T 1 (by omega) (by omega)).trans HF5.out.2.1
    have v2 := (big _ o89 T 2 (by omega) (by omega)).trans HF5.out.2.2.1
    have vf : ∀ o, (W8.setCell ⟨r, s, none⟩ (.slice (some ⟨g, 0, none⟩) m vc)).frozen? ⟨T, o, none⟩ = false := fun o => (o89.frozen (p := ⟨T, o, none⟩) (by show T < _; omega) (by show ¬ (T = g ∨ T = b ∨ T = r); omega)).trans (HF5.out.2.2.2.1 o)
    have H9 := Lib.hid (And.intro f0 (And.intro f1 (And.intro f2 (And.intro v0 (And.intro v1 (And.intro v2 vf))))))
    clear f0 f1 f2 v0 v1 v2 vf o89
    clear hRn hOn hCons P6 P7 P8 ht7 ht8 o56 o67 o78 o68 o6 o7 o8 big m5 m6 hW6 q0 q1 q2 e0 e1 ec
    obtain ⟨c60, c61, c62, c63⟩ := c6
    obtain ⟨c70, c71, c72, c73⟩ := c7
    go_region_held3 (fun w' => w'.cell? ⟨r, 64, none⟩ = some (.map (some b)) ∧ w'.cell? ⟨T2 + 2, 0, none⟩ = some (.int .u64 u1) ∧ w'.cell? ⟨T2 + 1, 0, none⟩ = some (.int .i64 s) ∧ w'.cell? ⟨T2 + 1, 1, none⟩ = some (.int .i64 i)) (first | exact ⟨c60, c61, c62, c63⟩ | exact ⟨c70, c71, c72, c73⟩ | assumption) (fail)
  all_goals
    clear c60 c61 c62 c63 c71 c72 c73 hup
    go_upto_region 9 with (fail)
    clear c70
    go_region_held3 (fun _ => True) (trivial) (fail)
  all_goals
    clear rs8 fs8
    obtain ⟨f0, f1, f2, v0, v1, v2, vf⟩ := H9.out
    have vf0 := vf 0
    have vf1 := vf 1
    have vf2 := vf 2
    clear vf
    obtain ⟨W9, hW9⟩ : ∃ W, (W8.setCell ⟨r, s, none⟩ (.slice (some ⟨g, 0, none⟩) m vc)).drew = W := ⟨_, rfl⟩
    have hRn9 := HRN.out.1.only ((Only.refl (fun _ => False) _).drew) (fun _ _ h => h)
    rw [hW9] at hRn9
    have hOn9 : Only (Fp V r b) W5 W9 := by rw [← hW9]; exact HRN.out.2.drew
    replace f0 : W9.cell? ⟨T2, 0, none⟩ = some (.int .u64 x) := by rw [← hW9]; exact f0
    replace f1 : W9.cell? ⟨T2, 1, none⟩ = some (.int .u64 yy) := by rw [← hW9]; exact f1
    replace f2 : W9.cell? ⟨T2, 2, none⟩ = some (.int .i64 z) := by rw [← hW9]; exact f2
    replace v0 : W9.cell? ⟨T, 0, none⟩ = some (.int .u64 0) := by rw [← hW9]; exact v0
    replace v1 : W9.cell? ⟨T, 1, none⟩ = some (.int .u64 0) := by rw [← hW9]; exact v1
    replace v2 : W9.cell? ⟨T, 2, none⟩ = some (.int .i64 0) := by rw [← hW9]; exact v2
    replace vf0 : W9.frozen? ⟨T, 0, none⟩ = false := by rw [← hW9]; exact vf0
    replace vf1 : W9.frozen? ⟨T, 1, none⟩ = false := by rw [← hW9]; exact vf1
    replace vf2 : W9.frozen? ⟨T, 2, none⟩ = false := by rw [← hW9]; exact vf2
    rw [hW9]
    clear hW9
    have hfp : ∀ k, Fp (upd V s (.slice (some ⟨g, 0, none⟩) m vc)) r b k → Fp V r b k := fun k hk => by
      rcases hk with h | h | ⟨j, hj, hg⟩
      · exact .inl h
      · exact .inr (.inl h)
      · unfold upd at hg
        by_cases e : j = s
        · rw [if_pos e] at hg; exact .inr (.inr ⟨s, hs, by rw [hob]; exact hg⟩)
        · rw [if_neg e] at hg; exact .inr (.inr ⟨j, hj, hg⟩)
    have HFP := Lib.hid hfp
    have hO0 : Only (Fp V r b) w W9 := (Only.below HB5.out).trans hOn9
    have hO1 := ((hO0.setNew ⟨T, 0, none⟩ (.int .u64 x) (by show w.heap.size ≤ T; omega)).setNew ⟨T, 1, none⟩ (.int .u64 yy) (by show w.heap.size ≤ T; omega)).setNew ⟨T, 2, none⟩ (.int .i64 z) (by show w.heap.size ≤ T; omega)
    have hO2 : Only (fun k => k = T) W9 (((W9.setCell ⟨T, 0, none⟩ (.int .u64 x)).setCell ⟨T, 1, none⟩ (.int .u64 yy)).setCell ⟨T, 2, none⟩ (.int .i64 z)) := (((Only.refl (fun k => k = T) W9).setCell ⟨T, 0, none⟩ _ rfl).setCell ⟨T, 1, none⟩ _ rfl).setCell ⟨T, 2, none⟩ _ rfl
    have hRn10 := hRn9.only hO2 (fun k hk e => by have := H0.out.lt (hfp k hk); omega)
    have HR10 := Lib.hid (And.intro hRn10 hO1)
    clear hRn10 hO1 hO2 hO0 hRn9 hOn9 hfp
    obtain ⟨k0, k1, k2⟩ := three_read (u := .int .u64 x) (v := .int .u64 yy) (z := .int .i64 z) v0 v1 v2
    go_wp2
    generalize ((W9.setCell ⟨T, 0, none⟩ (.int .u64 x)).setCell ⟨T, 1, none⟩ (.int .u64 yy)).setCell ⟨T, 2, none⟩ (.int .i64 z) = W10 at k0 k1 k2 HR10 ⊢
    refine bodyPost_ret (v := .tuple #[.agg #[.int .u64 x, .int .u64 yy, .int .i64 z], .bool true]) (by simp [results, Tryd.results71, go_sem, k0, k1, k2]) rfl ⟨rfl, _, _, HR10.out.1, HR10.out.2, HFP.out⟩
end Go.Proofs.YtfclmbneimbmnaaDoor
