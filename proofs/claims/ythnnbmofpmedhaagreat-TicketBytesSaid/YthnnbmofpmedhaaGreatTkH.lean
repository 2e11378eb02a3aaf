/- Tickets: the chapter's example. -/
import Derived.Test.YthnnbmofpmedhaaGreatTkG
import Derived.Test.YthnnbmofpmedhaaGreatTkE
import Derived.Test.YthnnbmofpmedhaaGreatChI
namespace Go.Proofs.YthnnbmofpmedhaaGreat
open Go.RowKit
theorem exT_0 {l f c d e : Int} (h : Ran exA 0 (fr [(10, 0), (20, 1)] 0) 0 l f c d e) : l = 0 ∧ f = 0 ∧ c = 10 ∧ d = 10 ∧ e = 0 := by
  obtain ⟨v, e', hv, h4⟩ := h
  obtain ⟨rfl, rfl⟩ := exA_3 hv
  rcases h4 with ⟨_, h1, h2, h3, h4, h5⟩ | ⟨h, _⟩
  · exact ⟨h1, h2, h3, h4, h5⟩
  · exact absurd rfl h
theorem exT_1 {l f c d e : Int} {ok : Bool} (h : Nxtd exA 2 (fr [(10, 0), (20, 1)]) 0 12 l f c d ok e) : l = 1 ∧ f = 12 ∧ c = 20 ∧ d = 32 ∧ ok = true := by
  rcases h with ⟨h, _⟩ | ⟨_, h, _⟩ | ⟨_, _, ⟨v, e', hv, h4⟩, hok⟩
  · omega
  · omega
  · obtain ⟨rfl, rfl⟩ := exA_4 hv
    rcases h4 with ⟨_, h1, h2, h3, h4, h5⟩ | ⟨h, _⟩
    · exact ⟨h1, h2, h3, h4, by rw [hok, h5]; rfl⟩
    · exact absurd rfl h
theorem exT_2 {l f c d e : Int} {ok : Bool} (h : Nxtd exA 2 (fr [(10, 0), (20, 1)]) 1 32 l f c d ok e) : ok = false := by
  rcases h with ⟨h, _⟩ | ⟨_, h, _, _, _, _, h2, _⟩ | ⟨_, h, _⟩
  · omega
  · exact h2
  · omega
set_option maxRecDepth 100000 in
set_option maxHeartbeats 4000000 in
theorem lives16 (w : World) : Calls Tryz.prog 18 #[] w fun e w' => e = .returned (.bool true) ∧ Below w.heap.size w w' := by
  go_enter Tryz.func18, Tryz.ntmps18
  go_wp2_with fail
  refine (always_any w).mono ?_
  rintro e w1 ⟨rfl, hS1, hb1⟩
  have HB1 := Lib.hid hb1
  have hnew : Calls Tryz.prog 25 #[.agg #[.int .i64 0, .slice (some ⟨w.heap.size + 1, 0, none⟩) 1 1, .slice none 0 0]] w1 (Clocked exA w1) :=
    clock_ok exA (some ⟨w.heap.size + 1, 0, none⟩) 1 none 0 w1 exA_ok hS1 ⟨by decide, fun h => absurd h (Nat.not_lt_zero _)⟩
  clear hS1 hb1
  go_wp2_with fail
  refine hnew.mono ?_
  rintro e w2 ⟨L, rfl, hC2, hle, hb2⟩
  have HB2 := Lib.hid (HB1.out.trans (hb2.mono HB1.out.size))
  have HL := Lib.hid (Nat.le_trans HB1.out.size hle)
  have HC2 := Lib.hid hC2
  clear hnew hC2 hle hb2
  go_wp2_with fail
  refine (plain_any w2).mono ?_
  rintro e w3 ⟨rfl, hS3, hb3⟩
  have HB3 := Lib.hid (HB2.out.trans (hb3.mono HB2.out.size))
  obtain ⟨bx, bn, bz⟩ := box1 w3 #[.int .i64 0, .slice (some ⟨w2.heap.size + 1, 0, none⟩) 2 2, .int .i64 2, .int .i64 5] 80
  have HB4 := Lib.hid (HB3.out.trans (bx.mono HB3.out.size))
  have HSR := Lib.hid (hS3.kept bx)
  have HC4 := Lib.hid ((HC2.out.kept hb3).kept bx)
  have HN : Hid (w3.heap.size ≠ L.C) := Lib.hid (by have := HC2.out.pl.lt; have := hb3.size; omega)
  have HF : Hid (w2.heap.size + 1 ≠ L.C) := Lib.hid (by have := HC2.out.pl.lt; omega)
  have HE := Lib.hid bn
  have hop := open_any' HC4.out exA_ok 7 0 0 (some ⟨w2.heap.size + 1, 0, none⟩) 2 2 2 5 _ _ 0 HSR.out plain_good (by decide)
  obtain ⟨c0, c1, c2, c3, -⟩ := four_at bn
  clear hS3 hb3 bx bn bz
  unfold conV at *
  go_wp2_with fail
  generalize w3.alloc (.cells #[.int .i64 0, .slice (some ⟨w2.heap.size + 1, 0, none⟩) 2 2, .int .i64 2, .int .i64 5] 80) = W4 at HB4 HSR HC4 HE hop c0 c1 c2 c3 ⊢
  refine hop.mono ?_
  rintro e w5 ⟨l, f, c, d, er, hR, hc, hC5, ho5⟩
  obtain ⟨rfl, rfl, rfl, rfl, rfl⟩ := exT_0 hR
  obtain rfl : e = .returned (.tuple #[tkV 7 0 1 0 0 0 10 10 0, .int .i64 0]) := by
    rcases hc with ⟨_, h⟩ | ⟨h, _⟩
    · exact h
    · exact absurd rfl h
  obtain ⟨bx, bn, bz⟩ := box1 w5 #[.int .u64 7, .int .i64 0, .int .i64 1, .int .i64 0, .int .u64 0, .int .i64 0, .int .i64 10, .int .i64 10, .int .i64 0] 48
  have HB5 := Lib.hid ((HB4.out.trans (ho5.toBelow HB4.out.size (fun k hk => hk ▸ HL.out))).trans (bx.mono (Nat.le_trans HB4.out.size ho5.size)))
  have HC5 := Lib.hid (hC5.kept bx)
  have HE5 := Lib.hid (ex_below (ex_only HE.out ho5 HN.out) bx)
  have HT5 := Lib.hid bn
  have HNT : Hid (w5.heap.size ≠ L.C) := Lib.hid (by have := hC5.pl.lt; omega)
  have HS5 := Lib.hid ((HSR.out.only ho5 (fun x _ h => by injection h with h; subst h; exact HF.out)).kept bx)
  have hf1 : Calls Tryz.prog 46 #[tkV 7 0 1 0 0 0 10 10 0, .pointer (some ⟨L.K, 0, none⟩), conV 0 (some ⟨w2.heap.size + 1, 0, none⟩) 2 2 2 5, .int .i64 12] _ (GaveF L exA _ (Nxtd exA 2 (fr [(10, 0), (20, 1)]) 0 12) 7 0 0 1) := fire_any HC5.out exA_ok 7 0 0 0 0 10 10 0 0 (some ⟨w2.heap.size + 1, 0, none⟩) 2 2 2 5 _ _ 12 HS5.out plain_good (fun x _ h => by injection h with h; subst h; exact HF.out) (by decide) (by decide) (by decide) (by decide) (by decide)
  clear hop hR hc hC5 ho5 c0 c1 c2 c3 bx bz
  obtain ⟨c0, c1, c2, c3, -⟩ := four_at HE5.out
  obtain ⟨t0, t1, t2, t3, t4, t5, t6, t7, t8⟩ := nine_at bn
  clear bn
  unfold tkV conV at *
  go_wp2_with fail
  generalize w5.alloc (.cells #[.int .u64 7, .int .i64 0, .int .i64 1, .int .i64 0, .int .u64 0, .int .i64 0, .int .i64 10, .int .i64 10, .int .i64 0] 48) = W5 at HB5 HC5 HE5 HT5 HS5 hf1 c0 c1 c2 c3 t0 t1 t2 t3 t4 t5 t6 t7 t8 ⊢
  refine hf1.mono ?_
  rintro e w6 ⟨l, f, c, d, ok, er, hR, hc, hC6, ho6⟩
  obtain ⟨rfl, rfl, rfl, rfl, rfl⟩ := exT_1 hR
  obtain rfl : e = .returned (.tuple #[tkV 7 0 1 1 0 12 20 32 1, .int .i64 0, .int .i64 0]) := by
    rcases hc with ⟨_, h⟩ | ⟨h, _⟩
    · exact h
    · exact absurd h (by decide)
  obtain ⟨bx, bn, bz⟩ := box1 w6 #[.int .u64 7, .int .i64 0, .int .i64 1, .int .i64 1, .int .u64 0, .int .i64 12, .int .i64 20, .int .i64 32, .int .i64 1] 48
  have HB6 := Lib.hid ((HB5.out.trans (ho6.toBelow HB5.out.size (fun k hk => hk ▸ HL.out))).trans (bx.mono (Nat.le_trans HB5.out.size ho6.size)))
  have HC6 := Lib.hid (hC6.kept bx)
  have HE6 := Lib.hid (ex_below (ex_only HE5.out ho6 HN.out) bx)
  have HT6 := Lib.hid (ex_below (ex_only HT5.out ho6 HNT.out) bx)
  have HU6 := Lib.hid bn
  have HNU : Hid (w6.heap.size ≠ L.C) := Lib.hid (by have := hC6.pl.lt; omega)
  have HS6 := Lib.hid ((HS5.out.only ho6 (fun x _ h => by injection h with h; subst h; exact HF.out)).kept bx)
  have hf2 : Calls Tryz.prog 46 #[tkV 7 0 1 1 0 12 20 32 1, .pointer (some ⟨L.K, 0, none⟩), conV 0 (some ⟨w2.heap.size + 1, 0, none⟩) 2 2 2 5, .int .i64 32] _ (GaveF L exA _ (Nxtd exA 2 (fr [(10, 0), (20, 1)]) 1 32) 7 0 1 2) := fire_any HC6.out exA_ok 7 0 1 0 12 20 32 1 0 (some ⟨w2.heap.size + 1, 0, none⟩) 2 2 2 5 _ _ 32 HS6.out plain_good (fun x _ h => by injection h with h; subst h; exact HF.out) (by decide) (by decide) (by decide) (by decide) (by decide)
  clear hf1 hR hc hC6 ho6 c0 c1 c2 c3 t0 t1 t2 t3 t4 t5 t6 t7 t8 bx bz
  obtain ⟨c0, c1, c2, c3, -⟩ := four_at HE6.out
  obtain ⟨u0, u1, u2, u3, u4, u5, u6, u7, u8⟩ := nine_at bn
  clear bn
  unfold tkV conV at *
  go_wp2_with fail
  generalize w6.alloc (.cells #[.int .u64 7, .int .i64 0, .int .i64 1, .int .i64 1, .int .u64 0, .int .i64 12, .int .i64 20, .int .i64 32, .int .i64 1] 48) = W6 at HB6 HC6 HE6 HT6 HU6 HS6 hf2 c0 c1 c2 c3 u0 u1 u2 u3 u4 u5 u6 u7 u8 ⊢
  refine hf2.mono ?_
  rintro e w7 ⟨l, f, c, d, ok, er, hR, hc, hC7, ho7⟩
  obtain rfl := exT_2 hR
  obtain rfl : e = .returned (.tuple #[tkV 7 0 3 1 0 0 0 0 2, .int .i64 1, .int .i64 0]) := by
    rcases hc with ⟨h, _⟩ | ⟨_, h⟩
    · exact absurd h (by decide)
    · exact h
  obtain ⟨bx, bn, bz⟩ := box1 w7 #[.int .u64 7, .int .i64 0, .int .i64 3, .int .i64 1, .int .u64 0, .int .i64 0, .int .i64 0, .int .i64 0, .int .i64 2] 48
  have HB7 := Lib.hid ((HB6.out.trans (ho7.toBelow HB6.out.size (fun k hk => hk ▸ HL.out))).trans (bx.mono (Nat.le_trans HB6.out.size ho7.size)))
  have ht7 := ex_below (ex_only HT6.out ho7 HNT.out) bx
  have hu7 := ex_below (ex_only HU6.out ho7 HNU.out) bx
  clear hf2 hR hc hC7 ho7 c0 c1 c2 c3 u0 u1 u2 u3 u4 u5 u6 u7 u8 bx bz
  obtain ⟨t0, t1, t2, t3, t4, t5, t6, t7, t8⟩ := nine_at ht7
  obtain ⟨u0, u1, u2, u3, u4, u5, u6, u7, u8⟩ := nine_at hu7
  obtain ⟨v0, v1, v2, v3, v4, v5, v6, v7, v8⟩ := nine_at bn
  clear bn ht7 hu7
  unfold tkV
  go_wp2_with fail
  go_ret
  exact ⟨rfl, HB7.out⟩
/-- What becomes of a ticket by a call. -/
def Acted (L : Loc) (D : Cal) (w : World) (n : Nat) (now nx tl : Int) (e : Ending) (w' : World) : Prop :=
  ∃ a0 a1 a2 a3 a4 a5 a6 a7 a8 er, e = .returned (.tuple #[tkV a0 a1 a2 a3 a4 a5 a6 a7 a8, .int .i64 er]) ∧ (er = 0 → a0 = 1 ∧ a1 = 2 ∧ a4 = 0 ∧ a8 = tl ∧ TS D n now nx a2 a3 a5 a6 a7) ∧ Ck L D w' ∧ Only (· = L.C) w w'
theorem GaveT.acted {L : Loc} {D : Cal} {w : World} {n : Nat} {now nx tl sn : Int} {R : Int → Int → Int → Int → Int → Prop} (hR : ∀ l f c d e, R l f c d e → e = 0 → TS D n now nx sn l f c d) {e : Ending} {w' : World} (h : GaveT L D w R 1 2 sn tl e w') : Acted L D w n now nx tl e w' := by
  obtain ⟨l, f, c, d, er, h1, h2, h3, h4⟩ := h
  rcases h2 with ⟨rfl, rfl⟩ | ⟨h0, rfl⟩
  · exact ⟨_, _, _, _, _, _, _, _, _, _, rfl, fun _ => ⟨rfl, rfl, rfl, rfl, hR _ _ _ _ _ h1 rfl⟩, h3, h4⟩
  · exact ⟨_, _, _, _, _, _, _, _, _, _, rfl, fun h => absurd h h0, h3, h4⟩
theorem TS.lf_le {D : Cal} {n : Nat} {now nx st lv fr lf du : Int} (h : TS D n now nx st lv fr lf du) : lf ≤ 9223372036854775807 := by
  obtain ⟨_, _, _, h⟩ := h
  rcases h with ⟨_, _, _, h0, h1, h2, h3, h4, _⟩ | ⟨_, _, _, _, _, h, _⟩ | ⟨_, _, _, h, _⟩ <;> omega
theorem TS.fr_le {D : Cal} {n : Nat} {now nx st lv fr lf du : Int} (h : TS D n now nx st lv fr lf du) : fr ≤ 9223372036854775807 := by
  obtain ⟨_, _, _, h⟩ := h
  rcases h with ⟨_, _, _, h0, h1, h2, h3, h4, _⟩ | ⟨_, _, _, h, _⟩ | ⟨_, _, h, _⟩ <;> omega
theorem TS.sound {D : Cal} {n : Nat} {now nx st lv fr lf du : Int} (h : TS D n now nx st lv fr lf du) (hn : n ≤ 6) {ge tl : Int} (h1 : st = 1 → 1 ≤ ge ∧ ge ≤ 1152921504606846976) (h2 : st ≠ 1 → ge = 0) (h3 : 0 ≤ tl) (h4 : tl ≤ 2147483648) : soundB 2 st lv ge fr lf du tl = true := by
  obtain ⟨l0, l1, _, h⟩ := h
  have hh : headT 2 lv ge tl = true := by
    have : ge ≤ 1152921504606846976 := by
      by_cases hs : st = 1
      · exact (h1 hs).2
      · rw [h2 hs]; decide
    simp [headT, rngB]; omega
  unfold soundB
  rw [hh, Bool.true_and]
  rcases h with ⟨rfl, _, _, h0, h5, h6, h7, h8, _⟩ | ⟨rfl, _, h0, h5, h6, h7, h8⟩ | ⟨hs, _, rfl, rfl, rfl⟩
  · obtain ⟨g0, g1⟩ := h1 rfl
    simp [runT, rngB]; omega
  · have := h2 (by decide)
    subst this
    simp [pauT, rngB]; omega
  · have h9 : st ≠ 1 := by omega
    have := h2 h9
    subst this
    rw [if_neg h9, if_neg (by omega), if_pos hs]
    decide
def ActedF (L : Loc) (D : Cal) (w : World) (n : Nat) (now nx tl : Int) (e : Ending) (w' : World) : Prop :=
  ∃ a0 a1 a2 a3 a4 a5 a6 a7 a8 met er, e = .returned (.tuple #[tkV a0 a1 a2 a3 a4 a5 a6 a7 a8, .int .i64 met, .int .i64 er]) ∧ (er = 0 → met = nx ∧ a0 = 1 ∧ a1 = 2 ∧ a4 = 0 ∧ a8 = tl + 1 ∧ TS D n now (nx + 1) a2 a3 a5 a6 a7 ∧ (((a2 == 1) = true ∧ a3 = nx + 1) ∨ (a2 == 1) = false)) ∧ Ck L D w' ∧ Only (· = L.C) w w'
theorem act_fire {L : Loc} {D : Cal} {w : World} {n : Nat} {now nx st lv fr lf du : Int} (h : Ck L D w) (hd : D.ok) (hT : TS D n now nx st lv fr lf du) (ge tl : Int) (c : Int) (a : Option Addr) (ca : Nat) (r b : Int) (B P : Nat → Int) (hS : Sps w a n B P) (hg : goodC c n r b B P = true) (hfar : ∀ x, 0 < n → a = some x → x.block ≠ L.C) (t0 : 0 ≤ tl) (t1 : tl < 2147483648) : Calls Tryz.prog 46 #[tkV 1 2 st lv ge fr lf du tl, .pointer (some ⟨L.K, 0, none⟩), conV c a n ca r b, .int .i64 now] w (ActedF L D w n now nx tl) := by
  obtain ⟨_, _, n1, n6, hl⟩ := goodC_n hg
  by_cases hs : st = 1
  · subst hs
    have hlv : nx = lv := by
      obtain ⟨_, _, _, h⟩ := hT
      rcases h with ⟨_, h, _⟩ | ⟨h, _⟩ | ⟨h, _⟩ <;> omega
    by_cases hdu : now < du
    · refine (fire_busy (some ⟨L.K, 0, none⟩) 1 2 1 lv ge fr lf du tl c a n ca r b now w rfl (decide_eq_true hdu)).mono ?_
      rintro e w' ⟨rfl, hb⟩
      exact ⟨_, _, _, _, _, _, _, _, _, _, _, rfl, fun h => absurd h (by decide), h.kept hb, Only.below hb⟩
    · refine (fire_any h hd 1 2 lv ge fr lf du tl c a n ca r b B P now hS hg hfar hT.1 hT.2.1 (decide_eq_false hdu) t0 t1).mono ?_
      rintro e w' ⟨l, f, cc, d, ok, er, h1, h2, h3, h4⟩
      subst hlv
      rcases h2 with ⟨ho, rfl⟩ | ⟨ho, rfl⟩
      · obtain ⟨h5, h6⟩ := hT.next hl h1 ho
        exact ⟨_, _, _, _, _, _, _, _, _, _, _, rfl, fun _ => ⟨rfl, rfl, rfl, rfl, rfl, h5, .inl ⟨rfl, h6⟩⟩, h3, h4⟩
      · exact ⟨_, _, _, _, _, _, _, _, _, _, _, rfl, fun _ => ⟨rfl, rfl, rfl, rfl, rfl, hT.spent, .inr rfl⟩, h3, h4⟩
  · refine (fire_no (some ⟨L.K, 0, none⟩) 1 2 st lv ge fr lf du tl c a n ca r b now w (by simpa using hs)).mono ?_
    rintro e w' ⟨rfl, hb⟩
    exact ⟨_, _, _, _, _, _, _, _, _, _, _, rfl, fun h => absurd h (by decide), h.kept hb, Only.below hb⟩
end Go.Proofs.YthnnbmofpmedhaaGreat
