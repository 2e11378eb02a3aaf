/- Dice: take, number, Below. -/
import Derived.Test.YtfakgemifbgafaaDcB
namespace Go.Proofs.Ytfakgemifbgafaa
open Go.RowKit

theorem rb_take {w : World} {x : Addr} {L cap : Nat} {ds : List Nat} (h : RB w (.slice (some x) L cap) ds) (n : Nat) (hn : n ≤ ds.length) : RB w (.slice (some x) n cap) (ds.take n) := by
  obtain ⟨h1, h2, h3⟩ := h
  rcases h3 with ⟨h, _⟩ | ⟨x', cap', hv, hc, hm, hcell⟩
  · simp at h
  · simp only [Value.slice.injEq, Option.some.injEq] at hv
    obtain ⟨rfl, rfl, rfl⟩ := hv
    have hl : (ds.take n).length = n := by simp; omega
    refine ⟨fun c hc => h1 c (List.mem_of_mem_take hc), by omega, .inr ⟨x, cap, by rw [hl], by omega, hm, fun i hi => ?_⟩⟩
    rw [hcell i (by omega)]
    congr 3
    simp only [List.getD_eq_getElem?_getD, List.getElem?_take]
    rw [if_pos (by omega)]
theorem rb_drop {w : World} {x y : Addr} {L cap k c : Nat} {ds : List Nat} (h : RB w (.slice (some x) L cap) ds) (n : Nat) (hn : n ≤ ds.length) (hy : y = x.add n ∨ n = ds.length) (hk : k = ds.length - n) (hkc : k ≤ c) (hcm : c ≤ maxLen) : RB w (.slice (some y) k c) (ds.drop n) := by
  have hl : (ds.drop n).length = k := by rw [List.length_drop]; exact hk.symm
  have h2 := h.2.1
  refine ⟨fun c hc => h.1 c (List.mem_of_mem_drop hc), by omega, .inr ⟨y, c, by rw [hl], by omega, hcm, fun i hi => ?_⟩⟩
  rw [hl] at hi
  obtain ⟨b, off, cap', hv, _, _, _, hcell⟩ := h.at (by omega)
  simp only [Value.slice.injEq, Option.some.injEq] at hv
  rcases hy with rfl | hy
  · rw [hv.1, add_at, add_at, Nat.add_assoc, hcell (n + i) (by omega)]
    congr 3
    simp
  · omega
theorem out_addr {X : Nat → Prop} {x y : Addr} {n c L cap : Nat} (h : Out X (.slice (some x) L cap)) (hy : y = x ∨ ∃ k, y = x.add k) : Out X (.slice (some y) n c) := by
  have e : y.block = x.block := by
    rcases hy with rfl | ⟨k, rfl⟩
    · rfl
    · unfold Addr.add; split <;> rfl
  intro k hk
  refine h k ?_
  simpa [Value.ownBlock, e] using hk
theorem lies_addr {w : World} {x y : Addr} {n c L cap : Nat} (h : Lies w (.slice (some x) L cap)) (hy : y = x ∨ ∃ k, y = x.add k) : Lies w (.slice (some y) n c) := by
  have e : y.block = x.block := by
    rcases hy with rfl | ⟨k, rfl⟩
    · rfl
    · unfold Addr.add; split <;> rfl
  intro k hk
  refine h k ?_
  simpa [Value.ownBlock, e] using hk
theorem out_nil (X : Nat → Prop) : Out X (.slice none 0 0) := fun k hk => by simp [Value.ownBlock] at hk

/-- What take hands back. -/
def Took (X : Nat → Prop) (b : Nat) (ds es : List Nat) (w : World) (e : Ending) (w' : World) : Prop := ∃ v', e = .returned v' ∧ RB w' v' ds ∧ Out X v' ∧ Dic X b es w' ∧ Only (· = b) w w'
theorem took {X : Nat → Prop} {w : World} {b n L cap k c : Nat} {x y : Addr} {ds : List Nat} (D : Dic X b ds w) (h : RB w (.slice (some x) L cap) ds) (ho : Out X (.slice (some x) L cap)) (hs : Lies w (.slice (some x) L cap)) (hn : n ≤ ds.length)
    (hy : y = x.add n ∨ (n = ds.length ∧ y = x)) (hk : k = ds.length - n) (hkc : k ≤ c) (hcm : c ≤ maxLen) :
    Took X b (ds.take n) (ds.drop n) w (.returned (.slice (some x) n cap)) (w.setCell ⟨b, 1, none⟩ (.slice (some y) k c)) := by
  have o : Only (· = b) w (w.setCell ⟨b, 1, none⟩ (.slice (some y) k c)) := (Only.refl (fun k => k = b) w).setCell ⟨b, 1, none⟩ _ rfl
  have o1 := out_addr (n := n) (c := cap) ho (.inl rfl)
  have o2 := out_addr (n := k) (c := c) ho (y := y) (hy.elim (fun h => .inr ⟨n, h⟩) (fun h => .inl h.2))
  have hd := rb_drop h n hn (hy.elim .inl (fun h => .inr h.1)) hk hkc hcm
  have o3 := lies_addr (n := k) (c := c) hs (y := y) (hy.elim (fun h => .inr ⟨n, h⟩) (fun h => .inl h.2))
  exact ⟨_, rfl, rb_only (rb_take h n hn) o1 (fun k hk => by subst hk; exact D.x) o, o1, D.set hd o2 o3, o⟩

section take
variable {X : Nat → Prop} (b : Nat) (n : Int) (ds : List Nat) (w : World) (D : Dic X b ds w)
include D
theorem take_none (h : n ≤ 0 ∨ ds.length = 0) : Calls Try.prog 73 #[.pointer (some ⟨b, 0, none⟩), .int .i64 n] w (Took X b [] ds w) := by
  have hl := left_dic b ds w D
  have fin : Took X b [] ds w (.returned (.slice none 0 0)) w := ⟨_, rfl, RB.nil w, out_nil X, D, Only.refl _ _⟩
  obtain ⟨v, h1, h2, h3, -⟩ := D.rest
  have hb := h2.2.1
  obtain ⟨L, hL⟩ : ∃ L, ds.length = L := ⟨_, rfl⟩
  rw [hL] at hl h hb
  clear h1 h2 h3 hL D
  by_cases hn : n < 0
  · have d1 : decide (n < (L : Int)) = true := by simp; omega
    have d2 : decide ((L : Int) < n) = false := by simp; omega
    have d3 : decide (n < 0) = true := by simp [hn]
    have d4 : decide (0 < n) = false := by simp; omega
    go_enter Try.func73, Try.ntmps73
    go_wp2_with (go_at_call 43; refine hl.mono ?_; rintro e w' ⟨rfl, rfl⟩)
    go_ret
    exact fin
  · by_cases h0 : n = 0
    · subst h0
      by_cases hL : L = 0
      · subst hL
        go_enter Try.func73, Try.ntmps73
        go_wp2_with (go_at_call 43; refine hl.mono ?_; rintro e w' ⟨rfl, rfl⟩)
        go_ret
        exact fin
      · have d1 : decide ((0 : Int) < (L : Int)) = true := by simp; omega
        have d2 : decide ((L : Int) < 0) = false := by simp
        have d3 : decide (0 < L) = true := by simp; omega
        go_enter Try.func73, Try.ntmps73
        go_wp2_with (go_at_call 43; refine hl.mono ?_; rintro e w' ⟨rfl, rfl⟩)
        go_ret
        exact fin
    · obtain rfl : L = 0 := by omega
      have d1 : decide (n < 0) = false := by simp; omega
      have d2 : decide (0 < n) = true := by simp; omega
      go_enter Try.func73, Try.ntmps73
      go_wp2_with (go_at_call 43; refine hl.mono ?_; rintro e w' ⟨rfl, rfl⟩)
      go_ret
      exact fin
/-- n bytes, clipped to m. -/
theorem take_some (m : Nat) (h0 : 0 < m) (hm : m ≤ ds.length) (h : n = (m : Int) ∨ m = ds.length ∧ (m : Int) < n) : Calls Try.prog 73 #[.pointer (some ⟨b, 0, none⟩), .int .i64 n] w (Took X b (ds.take m) (ds.drop m) w) := by
  have hl := left_dic b ds w D
  obtain ⟨v, h1, h2, h3, h4⟩ := D.rest
  rcases h2.2.2 with ⟨hv, hd0⟩ | ⟨x, cap, hv, hcl, hcm, hcell⟩
  · rw [hd0] at hm; simp at hm; omega
  · obtain ⟨L, hL⟩ : ∃ L, ds.length = L := ⟨_, rfl⟩
    have HK : Hid (∀ (y : Addr) (k c : Nat), (y = x.add m ∨ (m = L ∧ y = x)) → k = L - m → k ≤ c → c ≤ maxLen → Took X b (ds.take m) (ds.drop m) w (.returned (.slice (some x) m cap)) (w.setCell ⟨b, 1, none⟩ (.slice (some y) k c))) :=
      Lib.hid fun y k c e1 e2 e3 e4 => by subst hv; exact took D h2 h3 h4 hm (by rw [hL]; exact e1) (by rw [hL]; exact e2) e3 e4
    have hz := D.free 1
    have hb := h2.2.1
    rw [hL] at hv hcl hm h hl hb
    subst hv
    have HM := Lib.hid hcm
    clear hcell hL hcm h2 h3 h4 D
    have m0 : (0 : Int) < (m : Int) := by omega
    have m1 : (m : Int) ≤ (L : Int) := by omega
    have d3 : decide ((m : Int) < 0) = false := by simp
    have d4 : decide (0 < (m : Int)) = true := by simp; omega
    have d4' : decide (0 < m) = true := by simp; omega
    have d5 : ((m : Int) == 0) = false := by rw [beq_eq_false_iff_ne]; omega
    have d6 : decide ((m : Int) = 0) = false := decide_eq_false (by omega)
    by_cases hn : n = (m : Int)
    · subst hn
      by_cases hmL : m = L
      · subst hmL
        by_cases hcn : cap = m
        · subst hcn
          go_enter Try.func73, Try.ntmps73
          go_wp2_with (go_at_call 43; refine hl.mono ?_; rintro e w' ⟨rfl, rfl⟩)
          go_ret
          exact HK.out _ _ _ (.inr (by simp)) (by omega) (by omega) (by simp)
        · go_enter Try.func73, Try.ntmps73
          go_wp2_with (go_at_call 43; refine hl.mono ?_; rintro e w' ⟨rfl, rfl⟩)
          go_ret
          exact HK.out _ _ _ (.inl rfl) (by omega) (by omega) (by have := HM.out; omega)
      · have d1 : decide ((m : Int) < (L : Int)) = true := by simp; omega
        have d1' : decide (m < L) = true := by simp; omega
        have d2 : decide ((L : Int) < (m : Int)) = false := by simp; omega
        have d2' : decide (L < m) = false := by simp; omega
        go_enter Try.func73, Try.ntmps73
        go_wp2_with (go_at_call 43; refine hl.mono ?_; rintro e w' ⟨rfl, rfl⟩)
        go_ret
        exact HK.out _ _ _ (.inl rfl) (by omega) (by omega) (by have := HM.out; omega)
    · obtain ⟨rfl, hmn⟩ : m = L ∧ (m : Int) < n := by omega
      have d1 : decide (n < (m : Int)) = false := by simp; omega
      have d2 : decide ((m : Int) < n) = true := by simp; omega
      by_cases hcn : cap = m
      · subst hcn
        go_enter Try.func73, Try.ntmps73
        go_wp2_with (go_at_call 43; refine hl.mono ?_; rintro e w' ⟨rfl, rfl⟩)
        go_ret
        exact HK.out _ _ _ (.inr (by simp)) (by omega) (by omega) (by simp)
      · go_enter Try.func73, Try.ntmps73
        go_wp2_with (go_at_call 43; refine hl.mono ?_; rintro e w' ⟨rfl, rfl⟩)
        go_ret
        exact HK.out _ _ _ (.inl rfl) (by omega) (by omega) (by have := HM.out; omega)
/-- How many bytes n asks for, of L. -/
def clip (n : Int) (L : Nat) : Nat := if n ≤ 0 then 0 else if n ≤ (L : Int) then n.toNat else L
theorem take_any : Calls Try.prog 73 #[.pointer (some ⟨b, 0, none⟩), .int .i64 n] w (Took X b (ds.take (clip n ds.length)) (ds.drop (clip n ds.length)) w) := by
  by_cases h0 : n ≤ 0 ∨ ds.length = 0
  · have e : clip n ds.length = 0 := by unfold clip; split <;> (try split) <;> omega
    rw [e]
    simpa using take_none b n ds w D h0
  · unfold clip
    rw [if_neg (by omega)]
    by_cases h1 : n ≤ (ds.length : Int)
    · rw [if_pos h1]
      exact take_some b n ds w D n.toNat (by omega) (by omega) (.inl (by omega))
    · rw [if_neg h1]
      exact take_some b n ds w D ds.length (by omega) (by omega) (.inr ⟨rfl, by omega⟩)
end take
theorem clip_nat (k L : Nat) : clip (k : Int) L = min k L := by
  unfold clip
  split
  · omega
  · split <;> omega
theorem take_min (l : List Nat) (k : Nat) : l.take (min k l.length) = l.take k := by
  rcases Nat.le_total k l.length with h | h
  · rw [Nat.min_eq_left h]
  · rw [Nat.min_eq_right h, List.take_of_length_le (Nat.le_refl _), List.take_of_length_le h]
theorem drop_min (l : List Nat) (k : Nat) : l.drop (min k l.length) = l.drop k := by
  rcases Nat.le_total k l.length with h | h
  · rw [Nat.min_eq_left h]
  · rw [Nat.min_eq_right h, List.drop_of_length_le (Nat.le_refl _), List.drop_of_length_le h]

theorem shl_up (c i : Nat) (hi : i ≤ 7) (hc : c < 256) : IntKind.u64.wrap ((c : Int) * 2 ^ (8 * i)) = ((c * 2 ^ (8 * i) : Nat) : Int) := by
  have hp := pow_small i hi
  have hcp : c * 2 ^ (8 * i) ≤ 255 * 2 ^ (8 * i) := Nat.mul_le_mul_right _ (by omega)
  have e : ((c : Int) * 2 ^ (8 * i)) = ((c * 2 ^ (8 * i) : Nat) : Int) := by push_cast; rfl
  rw [e, IntKind.wrap_u64]
  omega

/-- A number out of the dice. -/
def Drawn (X : Nat → Prop) (b : Nat) (n : Int) (es : List Nat) (w : World) (e : Ending) (w' : World) : Prop := e = .returned (.int .u64 n) ∧ Dic X b es w' ∧ Only (· = b) w w'
set_option maxRecDepth 100000 in
set_option maxHeartbeats 4000000 in
theorem number_any {X : Nat → Prop} (b k : Nat) (ds : List Nat) (w : World) (D : Dic X b ds w) (hk : k ≤ 8) : Calls Try.prog 69 #[.pointer (some ⟨b, 0, none⟩), .int .i64 (k : Int)] w (Drawn X b (lo (ds.take k) : Nat) (ds.drop k) w) := by
  have hT := take_any b (k : Int) ds w D
  rw [clip_nat, take_min, drop_min] at hT
  clear D
  go_enter Try.func69, Try.ntmps69
  go_wp2_with fail
  refine hT.mono ?_
  rintro e w1 ⟨v, rfl, hR, -, D1, O1⟩
  obtain ⟨bs, hbs⟩ : ∃ bs, ds.take k = bs := ⟨_, rfl⟩
  have hlen : bs.length ≤ 8 := by rw [← hbs, List.length_take]; omega
  rw [hbs] at hR ⊢
  have HBS := Lib.hid hbs
  clear hT hbs
  obtain ⟨a, cap, rfl, _, _⟩ := hR.shape
  go_wp2_with fail
  go_loop [5, 12] (fun s i => ∃ j : Nat, j ≤ bs.length ∧ i = .int .i64 j ∧ s = .int .u64 ((lo (bs.take j) : Nat) : Int)) (fun _ i => bs.length - (intOf i).toNat)
  case atStart => exact ⟨0, Nat.zero_le _, rfl, rfl⟩
  case round =>
    obtain ⟨j, hj, rfl, rfl⟩ := hrel
    by_cases hlt : j < bs.length
    · obtain ⟨g, off, cap', hv, _, _, _, hc⟩ := hR.at (by omega)
      have h0 := hc j hlt
      have hs := lo_step bs j hlt
      have hsm := lo_small bs hR.1 j
      have hc256 := hR.at_lt j hlt
      have hor := or_up _ _ j (by omega) hsm hc256
      simp only [Value.slice.injEq] at hv
      obtain ⟨rfl, -, rfl⟩ := hv
      obtain ⟨c, hcc⟩ : ∃ c, bs.getD j 0 = c := ⟨_, rfl⟩
      obtain ⟨x, hx⟩ : ∃ x, lo (bs.take j) = x := ⟨_, rfl⟩
      rw [hcc] at h0 hs hc256 hor
      rw [hx] at hs hor ⊢
      have HS := Lib.hid hs
      have HO := Lib.hid hor
      have c0 : (0 : Int) ≤ (c : Int) := by omega
      have c1 : (c : Int) ≤ 255 := by omega
      have j0 : (0 : Int) ≤ (j : Int) := by omega
      have j1 : (j : Int) ≤ 7 := by omega
      have jl : (j : Int) < (bs.length : Int) := by omega
      clear hs hor hcc hx hsm hR hc
      have HC := Lib.hid hc256
      clear hc256
      go_wp2_with fail
      go_round
      case rel => exact ⟨j + 1, by omega, by go_num, by rw [shl_up c j (by omega) HC.out, HO.out, HS.out]⟩
      case measure => simp [intOf]; omega
    · obtain rfl : j = bs.length := by omega
      rw [List.take_length]
      have d1 : decide (((bs.length : Nat) : Int) < (bs.length : Int)) = false := by simp
      go_wp2_with fail
      go_ret
      exact ⟨by rw [HBS.out]; rfl, D1, O1⟩
end Go.Proofs.Ytfakgemifbgafaa
