/- The reference's dice: Order and Split. -/
import Derived.Test.YtfakgemifbgafaaDcJ
import Derived.Laws.AppendOwn
import Derived.Laws.AppendOwnNone
import Derived.Laws.OwnMore
namespace Go.Proofs.Ytfakgemifbgafaa
open Go.RowKit

/-- The slice v, whose elements are the numbers xs of kind k, is the call's own. -/
def OI (k : IntKind) (E : TypeId) (w : World) (base : Nat) (v : Value) (xs : List Int) : Prop := w.ownsRow base E 1 v xs.length (xs.map (Value.int k))
theorem OI.kept {k : IntKind} {E : TypeId} {w w' : World} {base : Nat} {v : Value} {xs : List Int} (h : OI k E w base v xs) (hb : ∀ g, v.ownBlock = some g → w'.heap[g]? = w.heap[g]?) : OI k E w' base v xs := by
  obtain ⟨h1, h2⟩ := h
  refine ⟨h1, ?_⟩
  rcases h2 with h2 | ⟨g, cap, cur, hv, hg, hh, r⟩
  · exact .inl h2
  · exact .inr ⟨g, cap, cur, hv, hg, by rw [hb g (by rw [hv]; rfl)]; exact hh, r⟩
theorem OI.at {k : IntKind} {E : TypeId} {w : World} {base : Nat} {v : Value} {xs : List Int} (h : OI k E w base v xs) (hp : 0 < xs.length) :
    ∃ g cap, v = .slice (some ⟨g, 0, none⟩) xs.length cap ∧ base ≤ g ∧ g < w.heap.size ∧ (∀ i, i < xs.length → w.cell? ⟨g, i, none⟩ = some (.int k (xs.getD i 0))) ∧ ∀ i, w.frozen? ⟨g, i, none⟩ = false := by
  have h' := h
  rcases h'.2 with ⟨hv, hn⟩ | ⟨g, cap, cur, hv, hg, hh, hc, hm, r⟩
  · omega
  · refine ⟨g, cap, hv, hg, (Array.getElem?_eq_some_iff.mp hh).1, fun i hi => ?_, fun i => ?_⟩
    · subst hv
      have hh := World.ownsRow.cellAt h i (by omega)
      simp only [List.getElem?_map, List.getElem?_eq_getElem hi, Option.map_some] at hh
      rw [hh]
      simp [hi]
    · subst hv
      exact World.ownsRow.frozenAt h i
theorem OI.store {k : IntKind} {E : TypeId} {w : World} {base g n c : Nat} {xs : List Int} (h : OI k E w base (.slice (some ⟨g, 0, none⟩) n c) xs) (hn : xs.length = n) (j : Nat) (y : Int) : OI k E (w.setCell ⟨g, j, none⟩ (.int k y)) base (.slice (some ⟨g, 0, none⟩) n c) (xs.set j y) := by
  subst hn
  have := (World.ownsRow.stored h j (.int k y)).1
  unfold OI
  rw [List.length_set, List.map_set]
  exact this
theorem asc_succ (k : Nat) : asc (k + 1) = asc k ++ [(k : Int)] := by simp [asc, List.range_succ]

theorem rorder_none (r : Value) (n : Int) (w : World) (h : n < 1 ∨ 65536 < n) : Calls Try.prog 40 #[r, .int .i64 n] w fun e w' => e = .returned (.slice none 0 0) ∧ w = w' := by
  by_cases h1 : n < 1
  · have d1 : decide (n < 1) = true := by simp [h1]
    go_enter Try.func40, Try.ntmps40
    go_wp2_with fail
    go_ret
    exact ⟨rfl, rfl⟩
  · have d1 : decide (n < 1) = false := by simp; omega
    have d2 : decide (65536 < n) = true := by simp; omega
    go_enter Try.func40, Try.ntmps40
    go_wp2_with fail
    go_ret
    exact ⟨rfl, rfl⟩

set_option maxRecDepth 100000 in
set_option maxHeartbeats 4000000 in
theorem rorder_dic {X : Nat → Prop} (r n : Nat) (ds : List Nat) (w : World) (D : Rdc X r ds w) (h1 : 1 ≤ n) (h2 : n ≤ 65536) :
    Calls Try.prog 40 #[.pointer (some ⟨r, 0, none⟩), .int .i64 (n : Int)] w fun e w' => ∃ v, e = .returned v ∧ Rdn w.heap.size v (ord (n - 1) (asc n) ds).1 w' ∧ Rdc X r (ord (n - 1) (asc n) ds).2 w' ∧ Only (· = r) w w' := by
  have d1 : decide ((n : Int) < 1) = false := by simp; omega
  have d2 : decide (65536 < (n : Int)) = false := by simp; omega
  obtain ⟨i0, hi, hz0, hz1, hz2⟩ := info_parts ints_info'
  have hrl := D.lt
  have HD := Lib.hid D
  clear D
  go_enter Try.func40, Try.ntmps40
  go_wp2_with fail
  go_loopw [5, 6] (fun s i wr => ∃ k : Nat, k ≤ n ∧ i = .int .i64 k ∧ Below w.heap.size w wr ∧ OI .i64 3 wr w.heap.size s (asc k)) (fun _ i _ => n - (intOf i).toNat)
  case atStart => exact ⟨0, Nat.zero_le _, rfl, Below.refl _ _, World.ownsRow_nil _ _ _ _⟩
  case round =>
    obtain ⟨k, hk, rfl, hB, hO⟩ := hrel
    by_cases hlt : k < n
    · have hs := asc_succ k
      have hln := asc_length k
      obtain ⟨l, hl⟩ : ∃ l, asc k = l := ⟨_, rfl⟩
      rw [hl] at hO hs hln
      have HT := Lib.hid hs
      have HL := Lib.hid hln
      have k0 : (0 : Int) ≤ (k : Int) := by omega
      have k1 : (k : Int) ≤ 65536 := by omega
      have d3 : decide ((k : Int) < (n : Int)) = true := by simp [hlt]
      clear hs hln hl
      go_wp2_with (at_builtin; refine wpList_append_own _ rfl _ _ 24 rfl w.heap.size 3 i0 (.int .i64 0) 1 8 Try.underlying24 hi hz0 hz1 hz2 rfl (by decide) _ _ _ rfl (hO.alloc _) ⟨wr.heap.size, 0, none⟩ 1 1 [.int .i64 (k : Int)] rfl rfl ?c1 ?c2 ?c3 ?c4 ?c5 ?_)
      case c1 =>
        intro j u hj
        rcases j with _ | j
        · simp only [List.getElem?_cons_zero, Option.some.injEq] at hj
          subst hj
          simp [Addr.add]
        · simp at hj
      case c2 =>
        intro u hu
        simp only [List.mem_singleton] at hu
        subst hu
        rfl
      case c3 => have := HL.out; unfold maxLen; omega
      case c4 => have := HL.out; omega
      case c5 => have := hB.size; simp; omega
      intro v' w1 hown' hgrow _
      have hB1 : Below w.heap.size w w1 := (hB.alloc hB.size _).grown hgrow (by have := hB.size; simp; omega) fun j hj => (World.ownsRow.lt hO j hj).1
      have hO1 : OI .i64 3 w1 w.heap.size v' (l ++ [(k : Int)]) := by
        unfold OI
        rw [List.length_append, List.map_append]
        exact hown'
      clear hown' hgrow
      go_wp2_with fail
      go_roundw
      case rel => exact ⟨k + 1, by omega, by go_num, hB1, by rw [HT.out]; exact hO1⟩
      case measure => simp [intOf]; omega
    · obtain rfl : k = n := by omega
      have D1 : Rdc (fun j => X j ∨ w.heap.size ≤ j) r ds wr := ((HD.out).more w.heap.size (Nat.le_refl _)).kept hB
      have O1 : Only (fun j => j = r ∨ w.heap.size ≤ j) w wr := Only.below hB
      obtain ⟨g, c, hv, hg, hgl, -, -⟩ := hO.at (by rw [asc_length]; omega)
      rw [asc_length] at hv
      subst hv
      have HD1 := Lib.hid D1
      clear D1 hB
      obtain ⟨wo, rfl⟩ : ∃ wo : World, wo = wr := ⟨_, rfl⟩
      have k1 : (1 : Int) ≤ (k : Int) := by omega
      have k2 : (k : Int) ≤ 65536 := by omega
      have ek : (k : Int) - 1 = ((k - 1 : Nat) : Int) := by omega
      go_wp2_with fail
      go_loopw [7, 8, 9] (fun i _ _ wr => ∃ m : Nat, m + 1 ≤ k ∧ i = .int .i64 (m : Int) ∧ Only (fun j => j = r ∨ w.heap.size ≤ j) w wr ∧ g < wr.heap.size ∧
        ∃ l bs, l.length = k ∧ OI .i64 3 wr w.heap.size (.slice (some ⟨g, 0, none⟩) k c) l ∧ Rdc (fun j => X j ∨ w.heap.size ≤ j) r bs wr ∧ ord m l bs = ord (k - 1) (asc k) ds) (fun i _ _ _ => (intOf i).toNat)
      case atStart => exact ⟨k - 1, by omega, by first | rfl | (rw [ek]), O1, hgl, _, _, asc_length k, hO, HD1.out, rfl⟩
      case round =>
        clear hO O1 hgl HD1 ek
        obtain ⟨m, hmk, rfl, hOn, hgl, l, bs, hl, hO, D, hord⟩ := hrel
        by_cases hm0 : 0 < m
        · obtain ⟨m', rfl⟩ : ∃ m', m = m' + 1 := ⟨m - 1, by omega⟩
          have hB := rbelow_any r (m' + 2) bs wr D (by omega)
          have hlt3 := below_lt (m' + 2) bs (by omega)
          have hor : ord (m' + 1) l bs = ord m' (swap l (m' + 1) (below (m' + 2) bs).1) (below (m' + 2) bs).2 := rfl
          have ec : ((m' + 2 : Nat) : Int) = (m' : Int) + 1 + 1 := by omega
          rw [ec] at hB
          rw [hor] at hord
          obtain ⟨q, hq⟩ : ∃ q, below (m' + 2) bs = q := ⟨_, rfl⟩
          rw [hq] at hB hlt3 hord
          have d5 : decide (0 < ((m' + 1 : Nat) : Int)) = true := decide_eq_true (by omega)
          have d6 : decide (0 < m' + 1) = true := by simp
          have d7 : decide (0 < (m' : Int) + 1) = true := decide_eq_true (by omega)
          have m0 : (0 : Int) ≤ (m' : Int) := by omega
          have m1 : (m' : Int) ≤ 65534 := by omega
          have q0 : (0 : Int) ≤ (q.1 : Int) := by omega
          have q1 : (q.1 : Int) ≤ 65536 := by omega
          have mk : (m' : Int) + 1 < (k : Int) := by omega
          have qk : (q.1 : Int) < (k : Int) := by omega
          have m00 : (0 : Int) ≤ (m' : Int) + 1 := by omega
          have HORD := Lib.hid hord
          have HL := Lib.hid hl
          have HMK := Lib.hid hmk
          have HQ3 := Lib.hid hlt3
          clear hord hl hor hq ec D hmk hlt3
          go_wp2_with fail
          refine hB.mono ?_
          rintro e w2 ⟨rfl, D2, O2⟩
          have hO2 : OI .i64 3 w2 w.heap.size (.slice (some ⟨g, 0, none⟩) k c) l := hO.kept fun j hj => by
            have : g = j := by simpa [Value.ownBlock] using hj
            subst this
            exact O2.block g hgl (by omega)
          have hlk := HL.out
          have hmk := HMK.out
          have hq3 := HQ3.out
          obtain ⟨g', c', hv', -, hg2, hc, hz⟩ := hO2.at (by omega)
          simp only [Value.slice.injEq, Option.some.injEq, Addr.mk.injEq, and_true] at hv'
          obtain ⟨rfl, -, rfl⟩ := hv'
          have e1 := hc (m' + 1) (by omega)
          have e2 := hc q.1 (by omega)
          have z1 := hz (m' + 1)
          have z2 := hz q.1
          have S1 := hO2.store hlk (m' + 1) (l.getD q.1 0)
          have S2 := S1.store (by simpa using hlk) q.1 (l.getD (m' + 1) 0)
          have HS2 : Hid (OI .i64 3 ((w2.setCell ⟨g, m' + 1, none⟩ (.int .i64 (l.getD q.1 0))).setCell ⟨g, q.1, none⟩ (.int .i64 (l.getD (m' + 1) 0))) w.heap.size (.slice (some ⟨g, 0, none⟩) k c) (swap l (m' + 1) q.1)) := Lib.hid S2
          obtain ⟨g'', c'', hv'', -, -, hc3, -⟩ := S1.at (by simp; omega)
          simp only [Value.slice.injEq, Option.some.injEq, Addr.mk.injEq, and_true] at hv''
          obtain ⟨rfl, -, rfl⟩ := hv''
          have e3 := hc3 q.1 (by simp; omega)
          obtain ⟨u3, hu3⟩ : ∃ u, ((l.set (m' + 1) (l.getD q.1 0)).getD q.1 0) = u := ⟨_, rfl⟩
          obtain ⟨u1, hu1⟩ : ∃ u, l.getD (m' + 1) 0 = u := ⟨_, rfl⟩
          obtain ⟨u2, hu2⟩ : ∃ u, l.getD q.1 0 = u := ⟨_, rfl⟩
          rw [hu3] at e3
          rw [hu1] at e1 HS2
          rw [hu2] at e2 e3 HS2
          have z3 : (w2.setCell ⟨g, m' + 1, none⟩ (.int .i64 u2)).frozen? ⟨g, q.1, none⟩ = false := by simpa using z2
          have D3 : Rdc (fun j => X j ∨ w.heap.size ≤ j) r q.2 ((w2.setCell ⟨g, m' + 1, none⟩ (.int .i64 u2)).setCell ⟨g, q.1, none⟩ (.int .i64 u1)) :=
            D2.only (Y := (· = g)) (fun j hj => .inr (by omega)) (by omega) (((Only.refl (fun k => k = g) w2).setCell ⟨g, m' + 1, none⟩ _ rfl).setCell ⟨g, q.1, none⟩ _ rfl)
          have O4 : Only (fun j => j = r ∨ w.heap.size ≤ j) w ((w2.setCell ⟨g, m' + 1, none⟩ (.int .i64 u2)).setCell ⟨g, q.1, none⟩ (.int .i64 u1)) :=
            ((hOn.trans (O2.more fun j hj => .inl hj)).setCell ⟨g, m' + 1, none⟩ _ (.inr hg)).setCell ⟨g, q.1, none⟩ _ (.inr hg)
          have HD3 := Lib.hid D3
          have HO4 := Lib.hid O4
          have HG : Hid (g < ((w2.setCell ⟨g, m' + 1, none⟩ (.int .i64 u2)).setCell ⟨g, q.1, none⟩ (.int .i64 u1)).heap.size) := Lib.hid (by simpa using hg2)
          clear hB hO hO2 hc hz hc3 S1 S2 hu1 hu2 hu3 D2 O2 D3 O4 hOn hlk hmk hq3 hg2 hgl
          go_wp2_with fail
          go_roundw
          case rel => exact ⟨m', by have := HMK.out; omega, by first | rfl | go_num, HO4.out, HG.out, _, q.2, by rw [swap_length]; exact HL.out, HS2.out, HD3.out, HORD.out⟩
          case measure => simp [intOf]; try omega
        · obtain rfl : m = 0 := by omega
          have hord' : ord (k - 1) (asc k) ds = (l, bs) := hord.symm
          have fin : Rdn w.heap.size (.slice (some ⟨g, 0, none⟩) k c) l wr := by
            obtain ⟨g', c', hv', _, _, hc, _⟩ := hO.at (by omega)
            simp only [Value.slice.injEq, Option.some.injEq, Addr.mk.injEq, and_true] at hv'
            obtain ⟨rfl, -, rfl⟩ := hv'
            exact ⟨_, _, by rw [hl], fun _ => ⟨g, rfl, hg, hc⟩⟩
          have D4 : Rdc X r bs wr := D.less (fun k hk => .inl hk) (HD.out).x
          have O4 : Only (· = r) w wr := ⟨hOn.os, hOn.tape, hOn.output, hOn.size, fun j hj hjb => hOn.block j hj (by omega)⟩
          have HF : Hid (Rdn w.heap.size (.slice (some ⟨g, 0, none⟩) k c) (ord (k - 1) (asc k) ds).1 wr ∧ Rdc X r (ord (k - 1) (asc k) ds).2 wr ∧ Only (· = r) w wr) := Lib.hid (by rw [hord']; exact ⟨fin, D4, O4⟩)
          clear hord hord' fin D4 O4 D hOn hO
          go_wp2_with fail
          go_ret
          exact ⟨_, rfl, HF.out⟩
theorem rorder_all {X : Nat → Prop} (r : Nat) (n : Int) (ds : List Nat) (w : World) (D : Rdc X r ds w) :
    Calls Try.prog 40 #[.pointer (some ⟨r, 0, none⟩), .int .i64 n] w fun e w' => ∃ v, e = .returned v ∧ Rdn w.heap.size v (ordI n ds).1 w' ∧ Rdc X r (ordI n ds).2 w' ∧ Only (· = r) w w' := by
  unfold ordI
  by_cases h : n < 1 ∨ 65536 < n
  · rw [if_pos h]
    refine (rorder_none _ n w h).mono ?_
    rintro e w' ⟨rfl, rfl⟩
    exact ⟨_, rfl, ⟨none, 0, rfl, fun h => by simp at h⟩, D, Only.refl _ _⟩
  · rw [if_neg h]
    obtain ⟨k, rfl⟩ : ∃ k : Nat, n = (k : Int) := ⟨n.toNat, by omega⟩
    rw [Int.toNat_natCast]
    exact rorder_dic r k ds w D (by omega) (by omega)
end Go.Proofs.Ytfakgemifbgafaa
