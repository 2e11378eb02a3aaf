import Derived.Test.YtnhaakdjijjinaaMSb
import Derived.Test.YtnhaakdjijjinaaMRc
import Derived.Test.YtnhaakdjijjinaaMSc
import Derived.Deep.QuietTactic
import Derived.Test.YtnhaakdjijjinaaSnJ
namespace Go.Proofs.Ytnhaakdjijjinaa
open Go.RowKit
/- Session: a reply's bytes by a call's fields. -/
open Go.RowKit Go.Maps
def Snd (x : Opn) : Prop := repS x.cd x.tm x.id x.cn x.st x.lv x.ge x.fr x.lf x.du x.tl x.n x.de = true ∧ (0 ≤ x.id ∧ x.id < 18446744073709551616) ∧ (0 ≤ x.ge ∧ x.ge < 18446744073709551616) ∧ (0 ≤ x.nt ∧ x.nt < 18446744073709551616)
def repB (x : Opn) : List Nat := repW x.cd.toNat x.tm (noT x.id x.cn x.st x.lv x.ge x.fr x.lf x.du x.tl) [x.id.toNat, x.cn.toNat, x.st.toNat, x.lv.toNat, x.ge.toNat, x.fr.toNat, x.lf.toNat, x.du.toNat, x.tl.toNat] x.xs x.nt.toNat x.de.toNat
theorem nat_form {x : Opn} (h : Snd x) : ∃ c n1 n2 n3 n4 n5 n6 n7 n8 n9 t d : Nat, x.cd = c ∧ (x.id = n1 ∧ x.cn = n2 ∧ x.st = n3 ∧ x.lv = n4 ∧ x.ge = n5 ∧ x.fr = n6 ∧ x.lf = n7 ∧ x.du = n8 ∧ x.tl = n9) ∧ x.nt = t ∧ x.de = d ∧ c ≤ 99 ∧ (0 ≤ x.tm ∧ x.tm ≤ 1125899906842624) ∧ d ≤ 128 ∧ t < 18446744073709551616 ∧ x.n ≤ 64 ∧ n1 < 18446744073709551616 ∧ n2 < 9223372036854775808 ∧ n3 < 9223372036854775808 ∧ n4 < 9223372036854775808 ∧ n5 < 18446744073709551616 ∧ n6 < 9223372036854775808 ∧ n7 < 9223372036854775808 ∧ n8 < 9223372036854775808 ∧ n9 < 9223372036854775808 := by
  obtain ⟨hs, hid, hge, hnt⟩ := h
  have h0 := hs
  unfold repS at h0
  simp only [Bool.and_eq_true, Bool.or_eq_true, decide_eq_true_eq] at h0
  obtain ⟨hc, ht, hk, hn, hd⟩ := h0
  unfold rngB at hc ht hd
  simp only [Bool.and_eq_true, decide_eq_true_eq] at hc ht hd
  have key : ∃ n1 n2 n3 n4 n5 n6 n7 n8 n9 : Nat, (x.id = n1 ∧ x.cn = n2 ∧ x.st = n3 ∧ x.lv = n4 ∧ x.ge = n5 ∧ x.fr = n6 ∧ x.lf = n7 ∧ x.du = n8 ∧ x.tl = n9) ∧ n1 < 18446744073709551616 ∧ n2 < 9223372036854775808 ∧ n3 < 9223372036854775808 ∧ n4 < 9223372036854775808 ∧ n5 < 18446744073709551616 ∧ n6 < 9223372036854775808 ∧ n7 < 9223372036854775808 ∧ n8 < 9223372036854775808 ∧ n9 < 9223372036854775808 := by
    rcases hk with hk | hk
    · unfold noT at hk
      obtain ⟨e1, e2, e3, e4, e5, e6, e7, e8, e9⟩ := (tEq_iff _ _ _ _ _ _ _ _ _ _ _ _ _ _ _ _ _ _).1 hk
      exact ⟨0, 0, 0, 0, 0, 0, 0, 0, 0, ⟨e1, e2, e3, e4, e5, e6, e7, e8, e9⟩, by decide, by decide, by decide, by decide, by decide, by decide, by decide, by decide, by decide⟩
    · obtain ⟨n1, n2, n3, n4, n5, n6, n7, n8, n9, e1, e2, e3, e4, e5, e6, e7, e8, e9, b1, b2, b3, b4, b5, b6, b7, b8, b9⟩ := sound_nat hk hid hge
      exact ⟨n1, n2, n3, n4, n5, n6, n7, n8, n9, ⟨e1, e2, e3, e4, e5, e6, e7, e8, e9⟩, by omega, by omega, by omega, by omega, by omega, by omega, by omega, by omega, by omega⟩
  obtain ⟨n1, n2, n3, n4, n5, n6, n7, n8, n9, he, hb⟩ := key
  exact ⟨x.cd.toNat, n1, n2, n3, n4, n5, n6, n7, n8, n9, x.nt.toNat, x.de.toNat, by omega, he, by omega, by omega, by omega, ht, by omega, by omega, hn, hb⟩
theorem repB_ok {x : Opn} (h : Snd x) (hl : x.xs.length = x.n) (hx : ∀ y ∈ x.xs, y < 18446744073709551616) : (repB x).length ≤ 1000 ∧ ∀ y ∈ repB x, y < 256 := by
  obtain ⟨c, n1, n2, n3, n4, n5, n6, n7, n8, n9, t, d, ec, ⟨e1, e2, e3, e4, e5, e6, e7, e8, e9⟩, et, ed, hc, htm, hd, ht, hn, b1, b2, b3, b4, b5, b6, b7, b8, b9⟩ := nat_form h
  have hE : repB x = repW c x.tm (noT n1 n2 n3 n4 n5 n6 n7 n8 n9) [n1, n2, n3, n4, n5, n6, n7, n8, n9] x.xs t d := by
    unfold repB
    rw [ec, e1, e2, e3, e4, e5, e6, e7, e8, e9, et, ed]
    simp only [Int.toNat_natCast]
  rw [hE]
  constructor
  · have h1 := num_len9 0 c (by omega)
    have h2 := intB_len9 x.tm (by omega) (by omega)
    have h3 := flagB_len9 (!noT n1 n2 n3 n4 n5 n6 n7 n8 n9)
    have h4 : (tkW (noT n1 n2 n3 n4 n5 n6 n7 n8 n9) [n1, n2, n3, n4, n5, n6, n7, n8, n9]).length ≤ 81 := by
      unfold tkW
      split
      · simp
      · exact flat_len (num 0) 9 _ (fun x hx => num_len9 0 x (nine_nums n1 n2 n3 n4 n5 n6 n7 n8 n9 b1 b2 b3 b4 b5 b6 b7 b8 b9 x hx))
    have h5 := num_len9 0 x.xs.length (by omega)
    have h6 : (nums x.xs).length ≤ 9 * x.xs.length := flat_len (num 0) 9 x.xs (fun x' hx' => num_len9 0 x' (hx x' hx'))
    have h7 := num_len9 0 t ht
    have h8 := num_len9 0 d (by omega)
    unfold repW
    simp only [List.length_append]
    omega
  · unfold repW
    intro y hy
    simp only [List.mem_append] at hy
    rcases hy with (((((hy | hy) | hy) | hy) | hy) | hy) | (hy | hy)
    · exact num_lt' 0 c (by omega) (by omega) y hy
    · exact intB_lt x.tm (by omega) (by omega) y hy
    · exact flagB_lt _ y hy
    · unfold tkW at hy
      split at hy
      · cases hy
      · exact flat_lt (num 0) _ (fun x hx => num_lt' 0 x (by omega) (nine_nums n1 n2 n3 n4 n5 n6 n7 n8 n9 b1 b2 b3 b4 b5 b6 b7 b8 b9 x hx)) y hy
    · exact num_lt' 0 _ (by omega) (by omega) y hy
    · exact flat_lt (num 0) x.xs (fun x' hx' => num_lt' 0 x' (by omega) (hx x' hx')) y hy
    · exact num_lt' 0 t (by omega) ht y hy
    · exact num_lt' 0 d (by omega) (by omega) y hy
theorem put_ent (b base : Nat) (v : Value) (bs : List Nat) (hbl : bs.length ≤ 1000000) (x : Opn) (h : Snd x) (ac : Option Addr) (cc : Nat) (w : World) (hw : WR w b base v bs) (hU : Us w ac x.n x.xs) (hfar : ∀ g o, ac = some ⟨g, o, none⟩ → g < base ∧ g ≠ b) :
    Calls Try.prog 19 #[.pointer (some ⟨b, 0, none⟩), repV x.cd x.tm x.id x.cn x.st x.lv x.ge x.fr x.lf x.du x.tl ac x.n cc x.nt x.de] w fun e w' => e = .returned (.tuple #[]) ∧ Wrote b base v w (bs ++ repB x) w' := by
  obtain ⟨c, n1, n2, n3, n4, n5, n6, n7, n8, n9, t, d, ec, ⟨e1, e2, e3, e4, e5, e6, e7, e8, e9⟩, et, ed, hc, htm, hd, ht, hn, b1, b2, b3, b4, b5, b6, b7, b8, b9⟩ := nat_form h
  unfold repB
  rw [ec, e1, e2, e3, e4, e5, e6, e7, e8, e9, et, ed]
  simp only [Int.toNat_natCast]
  exact put19 b base v bs hbl c x.tm n1 n2 n3 n4 n5 n6 n7 n8 n9 b1 b2 b3 b4 b5 b6 b7 b8 b9 ac x.n cc x.xs t d (by omega) (by omega) (by omega) ht (by omega) (by omega) w hw hU hfar
theorem rput_ent (x : Opn) (h : Snd x) (ac : Option Addr) (cc : Nat) (w : World) (hU : Us w ac x.n x.xs) :
    Calls Try.prog 22 #[repV x.cd x.tm x.id x.cn x.st x.lv x.ge x.fr x.lf x.du x.tl ac x.n cc x.nt x.de] w (Owned w (repB x)) := by
  obtain ⟨c, n1, n2, n3, n4, n5, n6, n7, n8, n9, t, d, ec, ⟨e1, e2, e3, e4, e5, e6, e7, e8, e9⟩, et, ed, hc, htm, hd, ht, hn, b1, b2, b3, b4, b5, b6, b7, b8, b9⟩ := nat_form h
  unfold repB
  rw [ec, e1, e2, e3, e4, e5, e6, e7, e8, e9, et, ed]
  simp only [Int.toNat_natCast]
  exact rput19 c x.tm n1 n2 n3 n4 n5 n6 n7 n8 n9 b1 b2 b3 b4 b5 b6 b7 b8 b9 ac x.n cc x.xs t d (by omega) (by omega) (by omega) ht (by omega) (by omega) w hU
/- Session: a table's bytes, the program's. -/
open Go.RowKit Go.Maps
variable {Av : Nat}
/-- What a table has of client i, and what the reference has. -/
def Ent (Av : Nat) (W : World) (B : Nat) (M : Lit → Option Value) (i : Nat) (x : Opn) : Prop :=
  (M (.int .u64 (i : Int)) = none ∧ x.rq = 0) ∨ ∃ (ac : Option Addr) (cc : Nat), M (.int .u64 (i : Int)) = some (x.req ac cc) ∧ 0 < x.rq ∧ x.rq < 18446744073709551616 ∧ Snd x ∧ Us W ac x.n x.xs ∧ (∀ g o, ac = some ⟨g, o, none⟩ → g < B ∧ g ≠ Av) ∧ Us W x.a x.n x.xs ∧ ∀ g o, x.a = some ⟨g, o, none⟩ → 0 < x.n → g ≠ Av
theorem Us.turn2 {w w' : World} {a : Option Addr} {n : Nat} {xs : List Nat} {b : Nat} {v : Value} (h : Us w a n xs) (ht : Turn b v w w') (hb : ∀ g o, a = some ⟨g, o, Option.none⟩ → g ≠ b ∧ v.ownBlock ≠ some g) : Us w' a n xs := by
  obtain ⟨h1, h2, h3, h4⟩ := h
  refine ⟨h1, h2, h3, fun i hi => ?_⟩
  obtain ⟨g, o, ha, hlt, hc⟩ := h4 i hi
  exact ⟨g, o, ha, Nat.lt_of_lt_of_le hlt ht.size, by rw [ht.cell (p := ⟨g, o + i, Option.none⟩) hlt (hb g o ha).1 (fun h => (hb g o ha).2 h.symm)]; exact hc⟩
def cntTo (X : Nat → Opn) : Nat → Nat
  | 0 => 0
  | k + 1 => cntTo X k + if 0 < (X (k + 1)).rq then 1 else 0
def entB (i : Nat) (x : Opn) : List Nat := if 0 < x.rq then num 0 i ++ num 0 x.rq.toNat ++ repB x else []
def tabB (X : Nat → Opn) : Nat → List Nat
  | 0 => []
  | k + 1 => tabB X k ++ entB (k + 1) (X (k + 1))
theorem cntTo_le (X : Nat → Opn) : ∀ k, cntTo X k ≤ k
  | 0 => Nat.le_refl _
  | k + 1 => by
    have := cntTo_le X k
    unfold cntTo
    split <;> omega
theorem Ent.ok {W : World} {B : Nat} {M : Lit → Option Value} {i : Nat} {x : Opn} (h : Ent Av W B M i x) (hi : i ≤ 8) : (entB i x).length ≤ 1018 ∧ ∀ y ∈ entB i x, y < 256 := by
  rcases h with ⟨-, h0⟩ | ⟨ac, cc, -, h1, h2, h3, h4, -, -⟩
  · unfold entB
    rw [if_neg (by omega)]
    simp
  · unfold entB
    rw [if_pos h1]
    obtain ⟨r1, r2⟩ := repB_ok h3 h4.1 h4.2.2.1
    have l1 := num_len9 0 i (by omega)
    have l2 := num_len9 0 x.rq.toNat (by omega)
    refine ⟨by simp only [List.length_append]; omega, fun y hy => ?_⟩
    simp only [List.mem_append] at hy
    rcases hy with (hy | hy) | hy
    · exact num_lt' 0 i (by omega) (by omega) y hy
    · exact num_lt' 0 _ (by omega) (by omega) y hy
    · exact r2 y hy
theorem tabB_ok {W : World} {B : Nat} {M : Lit → Option Value} {X : Nat → Opn} (h : ∀ i, 1 ≤ i → i ≤ 8 → Ent Av W B M i (X i)) : ∀ k, k ≤ 8 → (tabB X k).length ≤ 1018 * k ∧ ∀ y ∈ tabB X k, y < 256
  | 0, _ => ⟨Nat.le_refl _, by simp [tabB]⟩
  | k + 1, hk => by
    obtain ⟨h1, h2⟩ := tabB_ok h k (by omega)
    obtain ⟨h3, h4⟩ := (h (k + 1) (by omega) hk).ok hk
    unfold tabB
    refine ⟨by rw [List.length_append]; omega, fun y hy => ?_⟩
    rcases List.mem_append.1 hy with hy | hy
    · exact h2 y hy
    · exact h4 y hy
theorem meas9 (k : Nat) (hk : k < 8) (v : Value) (hv : v = .int .u64 ((k : Int) + 1 + 1)) : 9 - (intOf v).toNat < 9 - (intOf (.int .u64 ((k : Int) + 1))).toNat := by
  subst hv
  simp only [intOf]
  omega
set_option maxRecDepth 100000 in
set_option maxHeartbeats 8000000 in
theorem tput20 (T mb c : Nat) (M : Lit → Option Value) (X : Nat → Opn) (b : Nat) (W : World) (hT : Tab W T mb c M) (hc : c ≤ 8) (hTb : T < b) (hmb : mb < b) (hE : ∀ i, 1 ≤ i → i ≤ 8 → Ent Av W b M i (X i)) (hw : WR W b (b + 1) (.slice none 0 0) []) :
    Calls Try.prog 74 #[.pointer (some ⟨T, 0, none⟩), .pointer (some ⟨b, 0, none⟩)] W fun e w' => e = .returned (.tuple #[]) ∧ Wrote b (b + 1) (.slice none 0 0) W (num 0 c ++ tabB X 8) w' := by
  have HT := Lib.hid hT
  have HC := Lib.hid hc
  have HE := Lib.hid hE
  have HCR := Lib.hid (created_yes T mb c M W hT)
  have HLT := Lib.hid (And.intro hTb hmb)
  have HTK := Lib.hid (tabB_ok hE)
  have HKE : Hid (∀ wr, Turn b (.slice none 0 0) W wr → Tab wr T mb c M) := Lib.hid (fun wr ht => ⟨(ht.block T (ex_lt hT.1) (by omega) (by simp [Value.ownBlock])).trans hT.1, hT.2.block (ht.block mb hT.2.lt (by omega) (by simp [Value.ownBlock]))⟩)
  have HN : Hid (∀ v w, WR w b (b + 1) v [] → Calls Try.prog 49 #[.pointer (some ⟨b, 0, none⟩), .slice (some ⟨w.heap.size, 0, none⟩) 1 1] (w.alloc (.cells #[.int .u64 ((c : Nat) : Int)] 23)) fun e w' => e = .returned (.tuple #[]) ∧ Wrote b (b + 1) v w ([] ++ num 0 c) w') := Lib.hid (fun v w h => num_one b (b + 1) v c [] w h (by simp) (by omega))
  have HW := Lib.hid hw
  have hlen := hT.2.len rq_und 3
  have c0 := one_at hT.1
  have hcw : IntKind.u64.wrap (c : Int) = (c : Int) := IntWalk.u64_in _ ⟨by omega, by omega⟩
  clear hT hc hTb hmb hE hw
  go_enter Try.func74, Try.ntmps74
  go_wp2_with fail
  refine HCR.out.mono ?_
  rintro e w0 ⟨rfl, rfl⟩
  clear HCR
  go_wp2_with fail
  refine (HN.out _ _ HW.out).mono ?_
  rintro e w1 ⟨rfl, hwr⟩
  have HWR : Hid (Wrote b (b + 1) (.slice none 0 0) W (num 0 c ++ tabB X 0) w1) := Lib.hid (by simpa [tabB] using hwr)
  clear hwr HW hlen c0 HN
  go_wp2_with fail
  go_loopw [4] (fun i wr => ∃ k : Nat, k ≤ 8 ∧ i = .int .u64 ((k : Int) + 1) ∧ Hid (Wrote b (b + 1) (.slice none 0 0) W (num 0 c ++ tabB X k) wr)) (fun i _ => 9 - (intOf i).toNat)
  case atStart => exact ⟨0, Nat.zero_le _, rfl, HWR⟩
  case round =>
    clear HWR
    obtain ⟨k, hk, rfl, HWR⟩ := hrel
    obtain ⟨v1, hw1, ht1, hm1⟩ := HWR.out
    have HT1 := Lib.hid (HKE.out wr ht1)
    by_cases hlt : k < 8
    · have hwk : IntKind.u64.wrap ((k : Int) + 1 + 1) = (k : Int) + 1 + 1 := IntWalk.u64_in _ ⟨by omega, by omega⟩
      have d1 : decide ((k : Int) + 1 ≤ 8) = true := decide_eq_true (by omega)
      have hkey : ((k + 1 : Nat) : Int) = (k : Int) + 1 := by omega
      have hlk := HT1.out.2.look_ok keyedU rq_und (rq_zero _) (keyU (show 0 ≤ (k : Int) + 1 ∧ (k : Int) + 1 < 18446744073709551616 by omega))
      have c0 := one_at HT1.out.1
      have hent := HE.out (k + 1) (by omega) (by omega)
      obtain ⟨Y1, Y2, -⟩ := box1 wr #[.int .u64 0, .int .i64 0, .int .i64 0, .int .u64 0, .int .i64 0, .int .i64 0, .int .i64 0, .int .u64 0, .int .i64 0, .int .i64 0, .int .i64 0, .int .i64 0, .slice none 0 0, .int .u64 0, .int .i64 0] 113
      obtain ⟨t0, t1, t2, t3, t4, t5, t6, t7, t8, t9, t10, t11, t12, t13, t14⟩ := rq_at Y2
      have tf := rq_fr Y2
      unfold Ent at hent
      rw [hkey] at hent
      have HSB : Hid (tabB X (k + 1) = tabB X k ++ entB (k + 1) (X (k + 1))) := Lib.hid rfl
      generalize X (k + 1) = x at hent HSB
      rcases hent with ⟨hM, h0⟩ | ⟨ac, cc, hM, h0, hrq, hsnd, hus, hfb, -⟩
      · rw [hM] at hlk
        replace hlk : (Instr.lookup 80 (.map (some mb)) (.int .u64 ((k : Int) + 1)) true).run Try.prog wr = .ok (.tuple #[.agg #[.int .u64 0, .int .i64 0, .int .i64 0, .int .u64 0, .int .i64 0, .int .i64 0, .int .i64 0, .int .u64 0, .int .i64 0, .int .i64 0, .int .i64 0, .int .i64 0, .slice none 0 0, .int .u64 0, .int .i64 0], .bool false]) wr := hlk
        have HWN : Hid (Wrote b (b + 1) (.slice none 0 0) W (num 0 c ++ tabB X (k + 1)) (wr.alloc (.cells #[.int .u64 0, .int .i64 0, .int .i64 0, .int .u64 0, .int .i64 0, .int .i64 0, .int .i64 0, .int .u64 0, .int .i64 0, .int .i64 0, .int .i64 0, .int .i64 0, .slice none 0 0, .int .u64 0, .int .i64 0] 113))) := Lib.hid (by
          rw [HSB.out]
          unfold entB
          rw [if_neg (by omega), List.append_nil]
          exact HWR.out.kept ((Below.refl _ _).alloc (Nat.le_refl _) _))
        clear hM h0 Y1 Y2 hw1 ht1 hm1 HT1 HWR
        go_wp2_with fail
        go_roundw
        case rel => exact ⟨k + 1, hlt, by rw [hkey], HWN⟩
        case measure => exact meas9 k hlt _ rfl
      · rw [hM] at hlk
        obtain ⟨kd, cl0, rq, cd, tm, id, cn, st, lv, ge, fr, lf, du, tl, a, n, ca, nt, de, xs⟩ := x
        replace hlk : (Instr.lookup 80 (.map (some mb)) (.int .u64 ((k : Int) + 1)) true).run Try.prog wr = .ok (.tuple #[.agg #[.int .u64 rq, .int .i64 cd, .int .i64 tm, .int .u64 id, .int .i64 cn, .int .i64 st, .int .i64 lv, .int .u64 ge, .int .i64 fr, .int .i64 lf, .int .i64 du, .int .i64 tl, .slice ac n cc, .int .u64 nt, .int .i64 de], .bool true]) wr := hlk
        replace h0 : 0 < rq := h0
        replace hrq : rq < 18446744073709551616 := hrq
        replace hus : Us W ac n xs := hus
        obtain ⟨rn, hrn⟩ : ∃ rn : Nat, rq = (rn : Int) := ⟨rq.toNat, by omega⟩
        subst hrn
        obtain ⟨P1, P2, -⟩ := box1 wr #[.int .u64 (rn : Int), .int .i64 cd, .int .i64 tm, .int .u64 id, .int .i64 cn, .int .i64 st, .int .i64 lv, .int .u64 ge, .int .i64 fr, .int .i64 lf, .int .i64 du, .int .i64 tl, .slice ac n cc, .int .u64 nt, .int .i64 de] 113
        have HP := Lib.hid P2
        have HPB := Lib.hid P1
        have HSND := Lib.hid hsnd
        have HFB := Lib.hid hfb
        have HJ1 := Lib.hid (And.intro hw1 (And.intro ht1 hm1))
        have HWB : Hid (b < wr.heap.size) := Lib.hid hw1.lt
        have HWO : Hid (∀ g, v1.ownBlock = some g → g < wr.heap.size) := Lib.hid (fun g h => hw1.own_lt g h)
        have hus1 : Us wr ac n xs := hus.turn2 ht1 (fun g o h => ⟨by have := (hfb g o h).1; omega, by simp [Value.ownBlock]⟩)
        have HU := Lib.hid (hus1.kept P1)
        have HW1 := Lib.hid (hw1.kept P1)
        have HLEN : Hid ((num 0 c ++ tabB X k).length ≤ 9000) := Lib.hid (by have h1 := (HTK.out k hk).1; have h2 := num_len9 0 c (by have := HC.out; omega); rw [List.length_append]; omega)
        have HRN : Hid (rn < 18446744073709551616 ∧ 0 < rn) := Lib.hid ⟨by omega, by omega⟩
        obtain ⟨p0, p1, p2, p3, p4, p5, p6, p7, p8, p9, p10, p11, p12, p13, p14⟩ := rq_at P2
        clear hM h0 hrq hsnd hus hfb Y1 Y2 P1 P2 hus1 hw1 ht1 hm1
        go_wp2_with fail
        clear t0 t1 t2 t3 t4 t5 t6 t7 t8 t9 t10 t11 t12 t13 t14 tf p0 p1 p2 p3 p4 p5 p6 p7 p8 p9 p10 p11 p12 p13 p14 hlk c0
        obtain ⟨G, hG⟩ : ∃ y, wr.heap.size = y := ⟨_, rfl⟩
        rw [hG] at HP
        try rw [hG]
        have hnum := num_two b (b + 1) v1 (k + 1) rn (num 0 c ++ tabB X k) _ HW1.out (by have := HLEN.out; omega) (by omega) HRN.out.1
        rw [hkey] at hnum
        have hsz : (wr.alloc (.cells #[.int .u64 (rn : Int), .int .i64 cd, .int .i64 tm, .int .u64 id, .int .i64 cn, .int .i64 st, .int .i64 lv, .int .u64 ge, .int .i64 fr, .int .i64 lf, .int .i64 du, .int .i64 tl, .slice ac n cc, .int .u64 nt, .int .i64 de] 113)).heap.size = G + 1 := by simp [hG]
        rw [hsz] at hnum
        have HSZ := Lib.hid hsz
        have HGE := Lib.hid hG
        clear hG hsz
        generalize wr.alloc (.cells #[.int .u64 (rn : Int), .int .i64 cd, .int .i64 tm, .int .u64 id, .int .i64 cn, .int .i64 st, .int .i64 lv, .int .u64 ge, .int .i64 fr, .int .i64 lf, .int .i64 du, .int .i64 tl, .slice ac n cc, .int .u64 nt, .int .i64 de] 113) = W2 at HP HPB HU HW1 hnum HSZ ⊢
        refine hnum.mono ?_
        rintro e W3 ⟨rfl, hwr3⟩
        obtain ⟨v3, hw3, ht3, hm3⟩ := hwr3
        have hb2 : ∀ g o, ac = some ⟨g, o, none⟩ → g ≠ b ∧ v1.ownBlock ≠ some g := fun g o h => ⟨by have := (HFB.out g o h).1; omega, fun e => by have h1 := HW1.out.base_le g e; have h2 := (HFB.out g o h).1; omega⟩
        have HU3 := Lib.hid (HU.out.turn2 ht3 hb2)
        have HP3 : Hid (W3.heap[G]? = _) := Lib.hid ((ht3.block G (ex_lt HP.out) (by have h1 := HWB.out; have h2 := HGE.out; omega) (fun e => by have h1 := HWO.out G e.symm; have h2 := HGE.out; omega)).trans HP.out)
        have HW3 := Lib.hid hw3
        have HJ3 := Lib.hid (And.intro hw3 (And.intro ht3 hm3))
        have HLEN3 : Hid ((num 0 c ++ tabB X k ++ (num 0 (k + 1) ++ num 0 rn)).length ≤ 10000) := Lib.hid (by have h1 := HLEN.out; have h2 := num_len9 0 (k + 1) (by omega); have h3 := num_len9 0 rn HRN.out.1; simp only [List.length_append] at h1 ⊢; omega)
        have hpe := put_ent b (b + 1) v3 (num 0 c ++ tabB X k ++ (num 0 (k + 1) ++ num 0 rn)) (by have := HLEN3.out; omega) (Opn.mk kd cl0 rn cd tm id cn st lv ge fr lf du tl a n ca nt de xs) HSND.out ac cc W3 HW3.out HU3.out (fun g o h => ⟨by have := (HFB.out g o h).1; omega, by have := (HFB.out g o h).1; omega⟩)
        obtain ⟨q0, q1, q2, q3, q4, q5, q6, q7, q8, q9, q10, q11, q12, q13, q14⟩ := rq_at HP3.out
        clear hnum hw3 ht3 hm3 hb2 HP HU HW1
        go_wp2_with fail
        clear q0 q1 q2 q3 q4 q5 q6 q7 q8 q9 q10 q11 q12 q13 q14
        refine hpe.mono ?_
        rintro e W4 ⟨rfl, hwr4⟩
        have HWN : Hid (Wrote b (b + 1) (.slice none 0 0) W (num 0 c ++ tabB X (k + 1)) W4) := Lib.hid (by
          have h2 := Wrote.join HJ1.out.1 HJ1.out.2.1 HJ1.out.2.2 (Wrote.after HPB.out (Wrote.join HJ3.out.1 HJ3.out.2.1 HJ3.out.2.2 hwr4))
          have e : num 0 c ++ tabB X (k + 1) = num 0 c ++ tabB X k ++ (num 0 (k + 1) ++ num 0 rn) ++ repB (Opn.mk kd cl0 rn cd tm id cn st lv ge fr lf du tl a n ca nt de xs) := by
            rw [HSB.out]
            unfold entB
            rw [if_pos (show 0 < (rn : Int) by have := HRN.out.2; omega)]
            have e1 : (rn : Int).toNat = rn := by omega
            simp only [List.append_assoc, e1]
          rw [e]
          exact h2)
        clear hpe hwr4
        go_wp2_with fail
        go_roundw
        case rel => exact ⟨k + 1, hlt, by rw [hkey], HWN⟩
        case measure => exact meas9 k hlt _ rfl
    · obtain rfl : k = 8 := by omega
      clear hw1 ht1 hm1 HT1
      go_wp2_with fail
      go_end0
      exact ⟨rfl, HWR.out⟩
/- Session: a table's bytes as a string, and the reference's. -/
open Go.RowKit Go.Maps
variable {Av : Nat}
theorem Ent.kept {W W' : World} {B : Nat} {M : Lit → Option Value} {i : Nat} {x : Opn} (h : Ent Av W B M i x) (hb : Below W.heap.size W W') : Ent Av W' B M i x := by
  rcases h with h | ⟨ac, cc, h1, h2, h3, h4, h5, h6, h7⟩
  · exact .inl h
  · exact .inr ⟨ac, cc, h1, h2, h3, h4, h5.kept hb, h6, h7.1.kept hb, h7.2⟩
set_option maxRecDepth 100000 in
set_option maxHeartbeats 8000000 in
theorem bytes20 (T mb c : Nat) (M : Lit → Option Value) (X : Nat → Opn) (W : World) (hT : Tab W T mb c M) (hc : c ≤ 8) (hE : ∀ i, 1 ≤ i → i ≤ 8 → Ent Av W W.heap.size M i (X i)) :
    Calls Try.prog 33 #[.pointer (some ⟨T, 0, none⟩)] W fun e w' => e = .returned (.string (str (num 0 c ++ tabB X 8))) ∧ Below W.heap.size W w' := by
  obtain ⟨B1, s1, z1⟩ := box1 W #[.slice none 0 0] 39
  have hw : WR (W.alloc (.cells #[.slice none 0 0] 39)) W.heap.size (W.heap.size + 1) (.slice none 0 0) [] := ⟨s1, Nat.lt_succ_self _, by omega, World.ownsRow_nil _ _ _ _, by simp⟩
  have hp := tput20 T mb c M X W.heap.size _ (hT.kept B1) hc (ex_lt hT.1) hT.2.lt (fun i h1 h2 => (hE i h1 h2).kept B1) hw
  have hk := tabB_ok hE 8 (Nat.le_refl _)
  obtain ⟨Y, hY⟩ : ∃ Y, num 0 c ++ tabB X 8 = Y := ⟨_, rfl⟩
  have HY : Hid (Y.length ≤ 10000 ∧ ∀ y ∈ Y, y < 256) := Lib.hid (by
    rw [← hY]
    refine ⟨by have := num_len9 0 c (by omega); have := hk.1; rw [List.length_append]; omega, fun y hy => ?_⟩
    rcases List.mem_append.1 hy with h | h
    · exact num_lt' 0 c (by omega) (by omega) y h
    · exact hk.2 y h)
  rw [hY] at hp ⊢
  have HP := Lib.hid hp
  have HB := Lib.hid B1
  clear hp hk hY hw s1 z1 B1 hT hc hE
  go_enter Try.func33, Try.ntmps33
  go_wp2_with fail
  generalize hW : W.alloc (.cells #[.slice none 0 0] 39) = W1 at HP HB ⊢
  clear hW
  refine HP.out.mono ?_
  rintro e w2 ⟨rfl, v2, hw2, ht2, -⟩
  have HB2 := Lib.hid (Turn.outside ht2 HB.out HB.out.size (Nat.le_refl _) (by simp [Value.ownBlock]))
  have hby := bytes_wr W.heap.size (W.heap.size + 1) v2 Y w2 hw2 (by have := HY.out.1; omega)
  clear hw2 ht2 HP HB
  go_wp2_with fail
  refine hby.mono ?_
  rintro e w3 ⟨v3, rfl, ho, hb⟩
  have HB3 := Lib.hid (HB2.out.trans (hb.mono HB2.out.size))
  have hcv := rb_string (P := Try.prog) (ho.rb HY.out.2 (by have := HY.out.1; omega)) 35 9 5 Try.underlying35 Try.underlying5 Try.underlying9
  clear ho hb hby
  go_wp2_with fail
  go_ret
  exact ⟨rfl, HB3.out⟩
theorem bw_step (X : Nat → Opn) (m : Nat) : tabB X (m + 1) = tabB X m ++ entB (m + 1) (X (m + 1)) := rfl
/-- What the reference's table must be to have bytes. -/
def RE (W : World) (X : Nat → Opn) : Prop := ∀ i, 1 ≤ i → i ≤ 8 → (X i).rq = 0 ∨ (0 < (X i).rq ∧ (X i).rq < 18446744073709551616 ∧ Snd (X i) ∧ Us W (X i).a (X i).n (X i).xs)
theorem RE.kept {W W' : World} {X : Nat → Opn} (h : RE W X) (hb : Below W.heap.size W W') : RE W' X := fun i h1 h2 => (h i h1 h2).imp id (fun ⟨k1, k2, k3, k4⟩ => ⟨k1, k2, k3, k4.kept hb⟩)
theorem RE.ok {W : World} {X : Nat → Opn} (h : RE W X) : ∀ k, k ≤ 8 → (tabB X k).length ≤ 1018 * k ∧ ∀ y ∈ tabB X k, y < 256
  | 0, _ => ⟨Nat.le_refl _, by simp [tabB]⟩
  | k + 1, hk => by
    obtain ⟨h1, h2⟩ := h.ok k (by omega)
    have h34 : (entB (k + 1) (X (k + 1))).length ≤ 1018 ∧ ∀ y ∈ entB (k + 1) (X (k + 1)), y < 256 := by
      rcases h (k + 1) (by omega) hk with h0 | ⟨k1, k2, k3, k4⟩
      · unfold entB
        rw [if_neg (by omega)]
        simp
      · unfold entB
        rw [if_pos k1]
        obtain ⟨r1, r2⟩ := repB_ok k3 k4.1 k4.2.2.1
        have l1 := num_len9 0 (k + 1) (by omega)
        have l2 := num_len9 0 (X (k + 1)).rq.toNat (by omega)
        refine ⟨by simp only [List.length_append]; omega, fun y hy => ?_⟩
        simp only [List.mem_append] at hy
        rcases hy with (hy | hy) | hy
        · exact num_lt' 0 (k + 1) (by omega) (by omega) y hy
        · exact num_lt' 0 _ (by omega) (by omega) y hy
        · exact r2 y hy
    unfold tabB
    refine ⟨by rw [List.length_append]; omega, fun y hy => ?_⟩
    rcases List.mem_append.1 hy with hy | hy
    · exact h2 y hy
    · exact h34.2 y hy
theorem RT.eq {w w' : World} {B : Nat} {X : Nat → Opn} (h : RT w B X) (e : w'.heap[B]? = w.heap[B]?) : RT w' B X := by
  refine ⟨fun j v hv => (World.cell?_of_block (a := ⟨B, 0 + j, none⟩) e).trans (h.1 j v hv), fun j hj => ?_⟩
  obtain ⟨h1, h2⟩ := h.2 j hj
  exact ⟨by rw [World.cell?_of_block (a := ⟨B, 0 + j, none⟩) e]; exact h1, by rw [World.frozen?_of_block (a := ⟨B, 0 + j, none⟩) e]; exact h2⟩
theorem row_apart {w w' : World} {base B : Nat} {v : Value} {bs : List Nat} (ho : OB w base v bs) (hg : w.grownBy w' v.ownBlock) (hB : B < base) (hb : base ≤ w.heap.size) : w'.heap[B]? = w.heap[B]? :=
  hg.block B (by omega) (fun e => by have := (World.ownsRow.lt ho B e.symm).1; omega)
set_option maxRecDepth 100000 in
set_option maxHeartbeats 8000000 in
theorem rput20 (X : Nat → Opn) (w : World) (hE : RE w X) : Calls Try.prog 34 #[rtV X] w (Owned w (num 0 (cntTo X 8) ++ tabB X 8)) := by
  have B1 : Below w.heap.size w (w.alloc (.cells (tabC X).toArray 62)) := (Below.refl _ _).alloc (Nat.le_refl _) _
  have HB := Lib.hid (And.intro B1 (show w.heap.size + 1 ≤ (w.alloc (.cells (tabC X).toArray 62)).heap.size by simp))
  have HR := Lib.hid (RT.made w X 62)
  have HE := Lib.hid hE
  have HK := Lib.hid hE.ok
  clear hE B1
  unfold rtV
  go_enter Try.func34, Try.ntmps34
  go_wp2_with fail
  generalize w.alloc (.cells (tabC X).toArray 62) = W0 at HB HR ⊢
  have HO0 : Hid (OB W0 (w.heap.size + 1) (.slice none 0 0) (tabB X 0)) := Lib.hid (World.ownsRow_nil _ _ _ _)
  go_loopw [3, 4, 5] (fun n v i wr => ∃ (j m : Nat) (v0 : Value), v0 = v ∧ j = m + 1 ∧ m ≤ 8 ∧ i = .int .i64 (j : Int) ∧ n = .int .u64 (cntTo X m : Int) ∧ Hid (OB wr (w.heap.size + 1) v0 (tabB X m)) ∧ Hid (RT wr w.heap.size X) ∧ Hid (Below w.heap.size w wr ∧ w.heap.size + 1 ≤ wr.heap.size)) (fun _ _ i _ => 9 - (intOf i).toNat)
  case atStart => exact ⟨1, 0, _, rfl, rfl, Nat.zero_le _, rfl, rfl, HO0, HR, HB⟩
  case round =>
    clear HO0 HR HB W0
    obtain ⟨j, m, v, rfl, hjm, hm, rfl, rfl, HO, HR, HB⟩ := hrel
    have j0 : (0 : Int) ≤ (j : Int) := by omega
    have hcl := cntTo_le X m
    have HJ := Lib.hid hjm
    have hj1 : 1 ≤ j := by omega
    by_cases hlt : j < 9
    · have j9 : (j : Int) < 9 := by omega
      have d1 : decide ((j : Int) < 9) = true := decide_eq_true j9
      have hw64 : wrap64 ((j : Int) + 1) = (j : Int) + 1 := IntWalk.wrap64_in _ (by omega)
      have c0 := HR.out.req j hlt
      have hrc := rc_at (HR.out.rep j hlt)
      have hrg := HR.out.rep j hlt
      have hre := HE.out j hj1 (by omega)
      clear hjm
      have HST : Hid (tabB X j = tabB X m ++ entB j (X j) ∧ cntTo X j = cntTo X m + if 0 < (X j).rq then 1 else 0) := Lib.hid (by have h := HJ.out; subst h; exact ⟨rfl, rfl⟩)
      generalize X j = x at c0 hrc hre HST hrg
      obtain ⟨kd, cl0, rq, cd, tm, id, cn, st, lv, ge, fr, lf, du, tl, a, n, ca, nt, de, xs⟩ := x
      replace c0 : wr.cell? ⟨w.heap.size, j, none⟩ = some (.int .u64 rq) := c0
      by_cases h0 : 0 < rq
      · have d2 : decide (0 < rq) = true := decide_eq_true h0
        rcases hre with hre | ⟨k1, k2, k3, k4⟩
        · replace hre : rq = 0 := hre
          omega
        replace k2 : rq < 18446744073709551616 := k2
        replace k4 : Us w a n xs := k4
        obtain ⟨rn, rfl⟩ : ∃ rn : Nat, rq = (rn : Int) := ⟨rq.toNat, by omega⟩
        dsimp only at hrc
        have HRG : Hid (wr.rangeAt w.heap.size (9 + j * 14) (Opn.mk kd cl0 rn cd tm id cn st lv ge fr lf du tl a n ca nt de xs).rc) := Lib.hid hrg
        obtain ⟨q0, q1, q2, q3, q4, q5, q6, q7, q8, q9, q10, q11, q12, q13⟩ := hrc
        have hn1 : IntKind.u64.wrap ((cntTo X m : Int) + 1) = (cntTo X m : Int) + 1 := IntWalk.u64_in _ ⟨by omega, by omega⟩
        have hn2 : IntKind.u64.wrap (j : Int) = (j : Int) := IntWalk.u64_in _ ⟨by omega, by omega⟩
        have HN1 := Lib.hid (fun W => refnum_any j W (by omega))
        have HN2 := Lib.hid (fun W => refnum_any rn W (by omega))
        have HPT : Hid (∀ W, Below w.heap.size w W → Calls Try.prog 22 #[repV cd tm id cn st lv ge fr lf du tl a n ca nt de] W (Owned W (repB (Opn.mk kd cl0 rn cd tm id cn st lv ge fr lf du tl a n ca nt de xs)))) := Lib.hid (fun W hb => rput_ent (Opn.mk kd cl0 rn cd tm id cn st lv ge fr lf du tl a n ca nt de xs) k3 a ca W (k4.kept hb))
        have HRB := Lib.hid (repB_ok k3 k4.1 k4.2.2.1)
        have HL1 : Hid ((num 0 j).length ≤ 9 ∧ (∀ y ∈ num 0 j, y < 256) ∧ (num 0 rn).length ≤ 9 ∧ ∀ y ∈ num 0 rn, y < 256) := Lib.hid ⟨num_len9 0 j (by omega), num_lt' 0 j (by omega) (by omega), num_len9 0 rn (by omega), num_lt' 0 rn (by omega) (by omega)⟩
        have HKM := Lib.hid (HK.out m hm).1
        have HRN : Hid (0 < (rn : Int)) := Lib.hid h0
        have hpos : 0 < rn := by omega
        have d3 : decide (0 < rn) = true := decide_eq_true hpos
        clear k2 k3 k4 h0 hcl
        have HC0 := Lib.hid c0
        have HQ14 := Lib.hid (And.intro q0 (And.intro q1 (And.intro q2 (And.intro q3 (And.intro q4 (And.intro q5 (And.intro q6 (And.intro q7 (And.intro q8 (And.intro q9 (And.intro q10 (And.intro q11 (And.intro q12 q13)))))))))))))
        clear q0 q1 q2 q3 q4 q5 q6 q7 q8 q9 q10 q11 q12 q13
        unfold repV at HPT
        go_wp2_with fail
        refine (HN1.out _).mono ?_
        rintro e w1 ⟨v1, rfl, ho, hb⟩
        have HB1 := Lib.hid (And.intro (HB.out.1.trans (hb.mono HB.out.1.size)) (Nat.le_trans HB.out.2 hb.size))
        have HE1 : Hid (w1.heap[w.heap.size]? = wr.heap[w.heap.size]?) := Lib.hid (hb.block _ HR.out.lt)
        have HV1 := Lib.hid (ho.rb HL1.out.2.1 (by have := HL1.out.1; omega))
        have HO1 := Lib.hid (HO.out.kept hb)
        clear ho hb c0
        go_wp2_with (at_builtin; go_must (refine append_rb rfl (.tmp 17) (.tmp 20) rfl (w.heap.size + 1) _ _ (tabB X m) (num 0 j) rfl rfl HO1.out HV1.out (by have := HL1.out.1; have := HKM.out; omega) HB1.out.2 ?_); intro v2 w2 ho hg'; have HB2 := Lib.hid (And.intro ((HO1.out.mono (Nat.le_succ _)).below hg' (HB1.out.1) (Nat.le_of_succ_le HB1.out.2)) (Nat.le_trans HB1.out.2 hg'.size)); have HE2 : Hid (w2.heap[w.heap.size]? = wr.heap[w.heap.size]?) := Lib.hid ((row_apart HO1.out hg' (Nat.lt_succ_self _) HB1.out.2).trans HE1.out); have HO2 := Lib.hid ho; have c2 := (World.cell?_of_block (a := ⟨w.heap.size, j, none⟩) HE2.out).trans HC0.out; clear ho hg')
        refine (HN2.out _).mono ?_
        rintro e w3 ⟨v3, rfl, ho, hb⟩
        have HB3 := Lib.hid (And.intro (HB2.out.1.trans (hb.mono HB2.out.1.size)) (Nat.le_trans HB2.out.2 hb.size))
        have HE3 : Hid (w3.heap[w.heap.size]? = wr.heap[w.heap.size]?) := Lib.hid ((hb.block _ (Nat.lt_of_succ_le HB2.out.2)).trans HE2.out)
        have HV3 := Lib.hid (ho.rb HL1.out.2.2.2 (by have := HL1.out.2.2.1; omega))
        have HO3 := Lib.hid (HO2.out.kept hb)
        clear ho hb c2 HO1 HO2 HB1 HE1 HV1
        go_wp2_with (at_builtin; go_must (refine append_rb rfl (.tmp 22) (.tmp 27) rfl (w.heap.size + 1) _ _ (tabB X m ++ num 0 j) (num 0 rn) rfl rfl HO3.out HV3.out (by have := HL1.out.1; have := HL1.out.2.2.1; have := HKM.out; rw [List.length_append]; omega) HB3.out.2 ?_); intro v4 w4 ho hg'; have HB4 := Lib.hid (And.intro ((HO3.out.mono (Nat.le_succ _)).below hg' (HB3.out.1) (Nat.le_of_succ_le HB3.out.2)) (Nat.le_trans HB3.out.2 hg'.size)); have HE4 : Hid (w4.heap[w.heap.size]? = wr.heap[w.heap.size]?) := Lib.hid ((row_apart HO3.out hg' (Nat.lt_succ_self _) HB3.out.2).trans HE3.out); have HO4 := Lib.hid ho; have hrc4 : w4.rangeAt w.heap.size (9 + j * 14) (Opn.mk kd cl0 rn cd tm id cn st lv ge fr lf du tl a n ca nt de xs).rc := (fun k v hv => (World.cell?_of_block (a := ⟨w.heap.size, 9 + j * 14 + k, none⟩) HE4.out).trans (HRG.out k v hv)); obtain ⟨q0, q1, q2, q3, q4, q5, q6, q7, q8, q9, q10, q11, q12, q13⟩ := rc_at hrc4; dsimp only at q0 q1 q2 q3 q4 q5 q6 q7 q8 q9 q10 q11 q12 q13; clear ho hg' hrc4)
        refine (HPT.out _ HB4.out.1).mono ?_
        rintro e w5 ⟨v5, rfl, ho, hb⟩
        have HB5 := Lib.hid (And.intro (HB4.out.1.trans (hb.mono HB4.out.1.size)) (Nat.le_trans HB4.out.2 hb.size))
        have HE5 : Hid (w5.heap[w.heap.size]? = wr.heap[w.heap.size]?) := Lib.hid ((hb.block _ (Nat.lt_of_succ_le HB4.out.2)).trans HE4.out)
        have HV5 := Lib.hid (ho.rb HRB.out.2 (by have := HRB.out.1; omega))
        have HO5 := Lib.hid (HO4.out.kept hb)
        clear ho hb q0 q1 q2 q3 q4 q5 q6 q7 q8 q9 q10 q11 q12 q13 HO3 HO4 HB3 HE3 HV3
        go_wp2_with (at_builtin; go_must (refine append_rb rfl (.tmp 29) (.tmp 34) rfl (w.heap.size + 1) _ _ (tabB X m ++ num 0 j ++ num 0 rn) (repB (Opn.mk kd cl0 rn cd tm id cn st lv ge fr lf du tl a n ca nt de xs)) rfl rfl HO5.out HV5.out (by have := HL1.out.1; have := HL1.out.2.2.1; have := HKM.out; have := HRB.out.1; simp only [List.length_append]; omega) HB5.out.2 ?_); intro v6 w6 ho hg'; have HB6 := Lib.hid (And.intro ((HO5.out.mono (Nat.le_succ _)).below hg' (HB5.out.1) (Nat.le_of_succ_le HB5.out.2)) (Nat.le_trans HB5.out.2 hg'.size)); have HE6 : Hid (w6.heap[w.heap.size]? = wr.heap[w.heap.size]?) := Lib.hid ((row_apart HO5.out hg' (Nat.lt_succ_self _) HB5.out.2).trans HE5.out); have HO6 := Lib.hid ho; clear ho hg')
        have hcn : ((cntTo X j : Nat) : Int) = (cntTo X m : Int) + 1 := by
          rw [HST.out.2, if_pos (show 0 < (rn : Int) from HRN.out)]
          omega
        have hbs : tabB X j = tabB X m ++ num 0 j ++ num 0 rn ++ repB (Opn.mk kd cl0 rn cd tm id cn st lv ge fr lf du tl a n ca nt de xs) := by
          rw [HST.out.1]
          unfold entB
          rw [if_pos (show 0 < (rn : Int) from HRN.out)]
          have e1 : (rn : Int).toNat = rn := by omega
          simp only [List.append_assoc, e1]
        have HOF : Hid (OB w6 (w.heap.size + 1) v6 (tabB X j)) := Lib.hid (by rw [hbs]; exact HO6.out)
        have HRF := Lib.hid (HR.out.eq HE6.out)
        go_roundw
        case rel => exact ⟨j + 1, j, _, rfl, rfl, by omega, by first | rfl | (rw [hw64]; rfl), by rw [hcn], HOF, HRF, HB6⟩
        case measure => exact meas_lt 9 j _ (by first | rfl | rw [hw64]) hlt
      · have d2 : decide (0 < rq) = false := decide_eq_false h0
        have hcn : cntTo X j = cntTo X m := by
          rw [HST.out.2, if_neg (show ¬ (0 < rq) from h0)]
          omega
        have hbs : tabB X j = tabB X m := by
          rw [HST.out.1]
          unfold entB
          rw [if_neg (show ¬ (0 < rq) from h0), List.append_nil]
        have HOF : Hid (OB wr (w.heap.size + 1) v (tabB X j)) := Lib.hid (by rw [hbs]; exact HO.out)
        have HCN := Lib.hid hcn
        clear hrc hre hbs hcn hcl
        go_wp2_with fail
        go_roundw
        case rel => exact ⟨j + 1, j, _, rfl, rfl, by omega, by first | rfl | (rw [hw64]; rfl), by rw [HCN.out], HOF, HR, HB⟩
        case measure => exact meas_lt 9 j _ (by first | rfl | rw [hw64]) hlt
    · obtain rfl : j = 9 := by omega
      obtain rfl : m = 8 := by omega
      have HKM := Lib.hid (HK.out 8 (Nat.le_refl _))
      have HNC := Lib.hid (fun W => refnum_any (cntTo X 8) W (by omega))
      have HLC : Hid ((num 0 (cntTo X 8)).length ≤ 9 ∧ cntTo X 8 ≤ 8) := Lib.hid ⟨num_len9 0 _ (by omega), hcl⟩
      clear hcl hjm
      go_wp2_with fail
      refine (HNC.out _).mono ?_
      rintro e w1 ⟨v1, rfl, ho, hb⟩
      have HB1 := Lib.hid (And.intro (HB.out.1.trans (hb.mono HB.out.1.size)) (Nat.le_trans HB.out.2 hb.size))
      have HV1 := Lib.hid ((HO.out.rb HKM.out.2 (by have := HKM.out.1; omega)).kept hb)
      have HO1 : Hid (OB w1 (w.heap.size + 1) v1 (num 0 (cntTo X 8))) := Lib.hid (ho.mono HB.out.2)
      clear ho hb
      go_wp2_with (at_builtin; go_must (refine append_rb rfl (.tmp 37) (.tmp 38) rfl (w.heap.size + 1) _ _ (num 0 (cntTo X 8)) (tabB X 8) rfl rfl HO1.out HV1.out (by have := HLC.out.1; have := HKM.out.1; omega) HB1.out.2 ?_); intro v2 w2 ho hg'; have HB2 := Lib.hid ((HO1.out.mono (Nat.le_succ _)).below hg' (HB1.out.1) (Nat.le_of_succ_le HB1.out.2)); have HO2 := Lib.hid ho; clear ho hg')
      go_ret
      exact ⟨_, rfl, HO2.out.mono (Nat.le_succ _), HB2.out⟩
/- Session: both tables side by side: Last, Look, Done, Drop. -/
open Go.RowKit Go.Maps
variable {Av : Nat}
theorem cnt_up (X : Nat → Opn) (i : Nat) (x : Opn) (hi : 1 ≤ i ∧ i ≤ 8) : cntTo (upX X i x) 8 + (if 0 < (X i).rq then 1 else 0) = cntTo X 8 + (if 0 < x.rq then 1 else 0) := by
  have h : i = 1 ∨ i = 2 ∨ i = 3 ∨ i = 4 ∨ i = 5 ∨ i = 6 ∨ i = 7 ∨ i = 8 := by omega
  rcases h with rfl | rfl | rfl | rfl | rfl | rfl | rfl | rfl <;> simp [cntTo, upX] <;> omega
/-- Both tables have the same. -/
def Rt (Av : Nat) (W : World) (T mb c : Nat) (M : Lit → Option Value) (X : Nat → Opn) : Prop :=
  Tab W T mb c M ∧ c = cntTo X 8 ∧ (∀ i, 1 ≤ i → i ≤ 8 → Ent Av W W.heap.size M i (X i)) ∧ ∀ cl : Int, ¬ (1 ≤ cl ∧ cl ≤ 8) → M (.int .u64 cl) = none
theorem Ent.mono {W : World} {B B' : Nat} {M : Lit → Option Value} {i : Nat} {x : Opn} (h : Ent Av W B M i x) (hb : B ≤ B') : Ent Av W B' M i x := by
  rcases h with h | ⟨ac, cc, h1, h2, h3, h4, h5, h6, h7⟩
  · exact .inl h
  · exact .inr ⟨ac, cc, h1, h2, h3, h4, h5, fun g o e => ⟨Nat.lt_of_lt_of_le (h6 g o e).1 hb, (h6 g o e).2⟩, h7⟩
theorem Ent.grown {W W' : World} {B mb : Nat} {M : Lit → Option Value} {i : Nat} {x : Opn} (h : Ent Av W B M i x) (g : W.grownBy W' (some mb)) (hm : ∃ es cl, W.heap[mb]? = some (.map es cl)) : Ent Av W' B M i x := by
  rcases h with h | ⟨ac, cc, h1, h2, h3, h4, h5, h6, h7⟩
  · exact .inl h
  · exact .inr ⟨ac, cc, h1, h2, h3, h4, h5.grown g hm, h6, h7.1.grown g hm, h7.2⟩
theorem Ent.same {W : World} {B : Nat} {M M' : Lit → Option Value} {i : Nat} {x : Opn} (h : Ent Av W B M i x) (e : M' (.int .u64 (i : Int)) = M (.int .u64 (i : Int))) : Ent Av W B M' i x := by
  unfold Ent at h ⊢
  rw [e]
  exact h
theorem Rt.kept {W W' : World} {T mb c : Nat} {M : Lit → Option Value} {X : Nat → Opn} (h : Rt Av W T mb c M X) (hb : Below W.heap.size W W') : Rt Av W' T mb c M X :=
  ⟨h.1.kept hb, h.2.1, fun i h1 h2 => ((h.2.2.1 i h1 h2).kept hb).mono hb.size, h.2.2.2⟩
theorem Rt.re {W : World} {T mb c : Nat} {M : Lit → Option Value} {X : Nat → Opn} (h : Rt Av W T mb c M X) : RE W X := fun i h1 h2 => by
  rcases h.2.2.1 i h1 h2 with h | ⟨ac, cc, k1, k2, k3, k4, k5, k6, k7⟩
  · exact .inl h.2
  · exact .inr ⟨k2, k3, k4, k7.1⟩
theorem ou_fr {w : World} {base : Nat} {a : Option Addr} {n c : Nat} {l : List Nat} (h : OU w base (.slice a n c) l) : ∀ g o, a = some ⟨g, o, none⟩ → g < w.heap.size := by
  intro g o ha
  rcases h.2 with ⟨hv, -⟩ | ⟨g', cap, cur, hv, hg, hh, -⟩
  · injection hv with h1 _ _
    rw [h1] at ha
    cases ha
  · injection hv with h1 _ _
    rw [h1] at ha
    injection ha with ha
    injection ha with ha _ _
    subst ha
    exact ex_lt hh
theorem ou_ge {w : World} {base : Nat} {a : Option Addr} {n c : Nat} {l : List Nat} (h : OU w base (.slice a n c) l) : ∀ g o, a = some ⟨g, o, none⟩ → base ≤ g := by
  intro g o ha
  rcases h.2 with ⟨hv, -⟩ | ⟨g', cap, cur, hv, hg, hh, -⟩
  · injection hv with h1 _ _
    rw [h1] at ha
    cases ha
  · injection hv with h1 _ _
    rw [h1] at ha
    injection ha with ha
    injection ha with ha _ _
    subst ha
    exact hg
def qv (X : Nat → Opn) (cl : Int) : Int := if 1 ≤ cl ∧ cl ≤ 8 then (X cl.toNat).rq else 0
/-- What the table gives as the last request of a client. -/
theorem Rt.last {W : World} {T mb c : Nat} {M : Lit → Option Value} {X : Nat → Opn} (h : Rt Av W T mb c M X) (cl : Int) :
    (qv X cl = 0 ∧ (M (.int .u64 cl)).getD (.agg #[.int .u64 0, .int .i64 0, .int .i64 0, .int .u64 0, .int .i64 0, .int .i64 0, .int .i64 0, .int .u64 0, .int .i64 0, .int .i64 0, .int .i64 0, .int .i64 0, .slice none 0 0, .int .u64 0, .int .i64 0]) = .agg #[.int .u64 0, .int .i64 0, .int .i64 0, .int .u64 0, .int .i64 0, .int .i64 0, .int .i64 0, .int .u64 0, .int .i64 0, .int .i64 0, .int .i64 0, .int .i64 0, .slice none 0 0, .int .u64 0, .int .i64 0] ∧ (M (.int .u64 cl)).isSome = false) ∨
    ∃ (i : Nat) (x : Opn) (ac : Option Addr) (cc : Nat), cl = (i : Int) ∧ 1 ≤ i ∧ i ≤ 8 ∧ X i = x ∧ qv X cl = x.rq ∧ M (.int .u64 cl) = some (x.req ac cc) ∧ 0 < x.rq ∧ Snd x ∧ Us W ac x.n x.xs ∧ Us W x.a x.n x.xs := by
  by_cases hc : 1 ≤ cl ∧ cl ≤ 8
  · obtain ⟨i, rfl⟩ : ∃ i : Nat, cl = (i : Int) := ⟨cl.toNat, by omega⟩
    rcases h.2.2.1 i (by omega) (by omega) with ⟨h1, h2⟩ | ⟨ac, cc, k1, k2, k3, k4, k5, k6, k7⟩
    · refine .inl ⟨by unfold qv; rw [if_pos hc, Int.toNat_natCast]; exact h2, by rw [h1]; rfl, by rw [h1]; rfl⟩
    · refine .inr ⟨i, X i, ac, cc, rfl, by omega, by omega, rfl, by unfold qv; rw [if_pos hc, Int.toNat_natCast], k1, k2, k4, k5, k7.1⟩
  · exact .inl ⟨by unfold qv; rw [if_neg hc], by rw [h.2.2.2 cl hc]; rfl, by rw [h.2.2.2 cl hc]; rfl⟩
theorem rlast_q (X : Nat → Opn) (cl : Int) (W : World) : Calls Try.prog 32 #[rtV X, .int .u64 cl] W fun e w' => e = .returned (.int .u64 (qv X cl)) ∧ Below W.heap.size W w' := by
  by_cases hc : 1 ≤ cl ∧ cl ≤ 8
  · obtain ⟨i, rfl⟩ : ∃ i : Nat, cl = (i : Int) := ⟨cl.toNat, by omega⟩
    unfold qv
    rw [if_pos hc, Int.toNat_natCast]
    exact rlast_yes X i W (by omega)
  · unfold qv
    rw [if_neg hc]
    exact rlast_no X cl W hc
theorem last_q {W : World} {T mb c : Nat} {M : Lit → Option Value} {X : Nat → Opn} (h : Rt Av W T mb c M X) (cl : Int) (hcl : 0 ≤ cl ∧ cl < 18446744073709551616) : Calls Try.prog 31 #[.pointer (some ⟨T, 0, none⟩), .int .u64 cl] W fun e w' => e = .returned (.int .u64 (qv X cl)) ∧ Below W.heap.size W w' := by
  rcases h.last cl with ⟨h1, h2, -⟩ | ⟨i, x, ac, cc, e1, e2, e3, e4, e5, e6, e7, e8, e9, e10⟩
  · rw [h1]
    exact lastq_any T mb c M cl 0 0 0 0 0 0 0 0 0 0 0 0 none 0 0 0 0 W h.1 hcl h2
  · rw [e5]
    exact lastq_any T mb c M cl x.rq x.cd x.tm x.id x.cn x.st x.lv x.ge x.fr x.lf x.du x.tl ac x.n cc x.nt x.de W h.1 hcl (by rw [e6]; rfl)
/-- Look, both ways. -/
theorem look_both {w : World} {T mb c : Nat} {M : Lit → Option Value} {X : Nat → Opn} (h : Rt Av w T mb c M X) (cl rq : Int) (hcl : 0 ≤ cl ∧ cl < 18446744073709551616) (hrq : 0 ≤ rq) : ∃ (how : Int) (x : Opn),
    (∀ W, Below w.heap.size w W → Calls Try.prog 35 #[.pointer (some ⟨T, 0, none⟩), .int .u64 cl, .int .u64 rq] W fun e w' => ∃ a1 c1, e = .returned (.tuple #[.int .i64 how, .agg #[.int .i64 x.cd, .int .i64 x.tm, .int .u64 x.id, .int .i64 x.cn, .int .i64 x.st, .int .i64 x.lv, .int .u64 x.ge, .int .i64 x.fr, .int .i64 x.lf, .int .i64 x.du, .int .i64 x.tl, .slice a1 x.n c1, .int .u64 x.nt, .int .i64 x.de]]) ∧ Us w' a1 x.n x.xs ∧ Below W.heap.size W w') ∧
    (∀ W, Calls Try.prog 69 #[rtV X, .int .u64 cl, .int .u64 rq] W fun e w' => e = .returned (.tuple #[.int .i64 how, .agg #[.int .i64 x.cd, .int .i64 x.tm, .int .u64 x.id, .int .i64 x.cn, .int .i64 x.st, .int .i64 x.lv, .int .u64 x.ge, .int .i64 x.fr, .int .i64 x.lf, .int .i64 x.du, .int .i64 x.tl, .slice x.a x.n x.ca, .int .u64 x.nt, .int .i64 x.de]]) ∧ Below W.heap.size W w') ∧ Us w x.a x.n x.xs := by
  have hz : (M (.int .u64 cl)).getD (.agg #[.int .u64 0, .int .i64 0, .int .i64 0, .int .u64 0, .int .i64 0, .int .i64 0, .int .i64 0, .int .u64 0, .int .i64 0, .int .i64 0, .int .i64 0, .int .i64 0, .slice none 0 0, .int .u64 0, .int .i64 0]) = .agg #[.int .u64 0, .int .i64 0, .int .i64 0, .int .u64 0, .int .i64 0, .int .i64 0, .int .i64 0, .int .u64 0, .int .i64 0, .int .i64 0, .int .i64 0, .int .i64 0, .slice none 0 0, .int .u64 0, .int .i64 0] ∨ True := .inr trivial
  obtain ⟨q, cd1, tm1, id1, cn1, st1, lv1, ge1, fr1, lf1, du1, tl1, a1, n1, ca1, nt1, de1, hv, hq⟩ : ∃ (q cd1 tm1 id1 cn1 st1 lv1 ge1 fr1 lf1 du1 tl1 : Int) (a1 : Option Addr) (n1 ca1 : Nat) (nt1 de1 : Int), (M (.int .u64 cl)).getD (.agg #[.int .u64 0, .int .i64 0, .int .i64 0, .int .u64 0, .int .i64 0, .int .i64 0, .int .i64 0, .int .u64 0, .int .i64 0, .int .i64 0, .int .i64 0, .int .i64 0, .slice none 0 0, .int .u64 0, .int .i64 0]) = .agg #[.int .u64 q, .int .i64 cd1, .int .i64 tm1, .int .u64 id1, .int .i64 cn1, .int .i64 st1, .int .i64 lv1, .int .u64 ge1, .int .i64 fr1, .int .i64 lf1, .int .i64 du1, .int .i64 tl1, .slice a1 n1 ca1, .int .u64 nt1, .int .i64 de1] ∧ qv X cl = q := by
    rcases h.last cl with ⟨h1, h2, -⟩ | ⟨i, x, ac, cc, e1, e2, e3, e4, e5, e6, e7, e8, e9, e10⟩
    · exact ⟨0, 0, 0, 0, 0, 0, 0, 0, 0, 0, 0, 0, none, 0, 0, 0, 0, h2, h1⟩
    · exact ⟨x.rq, x.cd, x.tm, x.id, x.cn, x.st, x.lv, x.ge, x.fr, x.lf, x.du, x.tl, ac, x.n, cc, x.nt, x.de, by rw [e6]; rfl, e5⟩
  have hR : ∀ W, Calls Try.prog 32 #[rtV X, .int .u64 cl] W fun e w' => e = .returned (.int .u64 q) ∧ Below W.heap.size W w' := fun W => by rw [← hq]; exact rlast_q X cl W
  by_cases c1 : q < rq
  · refine ⟨1, zOp, fun W hb => ?_, fun W => ?_, Us.none w⟩
    · refine (look_new T mb c M cl q rq cd1 tm1 id1 cn1 st1 lv1 ge1 fr1 lf1 du1 tl1 a1 n1 ca1 nt1 de1 W (h.1.kept hb) hcl hv c1).mono ?_
      rintro e w' ⟨rfl, hb'⟩
      exact ⟨none, 0, rfl, Us.none w', hb'⟩
    · exact rlook_new X cl q rq W hR c1
  by_cases c2 : rq < q
  · refine ⟨3, zOp, fun W hb => ?_, fun W => ?_, Us.none w⟩
    · refine (look_old T mb c M cl q rq cd1 tm1 id1 cn1 st1 lv1 ge1 fr1 lf1 du1 tl1 a1 n1 ca1 nt1 de1 W (h.1.kept hb) hcl hv c2).mono ?_
      rintro e w' ⟨rfl, hb'⟩
      exact ⟨none, 0, rfl, Us.none w', hb'⟩
    · exact rlook_old X cl q rq W hR c2
  obtain rfl : rq = q := by omega
  by_cases c3 : rq = 0
  · refine ⟨3, zOp, fun W hb => ?_, fun W => ?_, Us.none w⟩
    · refine (look_zero T mb c M cl rq rq cd1 tm1 id1 cn1 st1 lv1 ge1 fr1 lf1 du1 tl1 a1 n1 ca1 nt1 de1 W (h.1.kept hb) hcl hv rfl c3).mono ?_
      rintro e w' ⟨rfl, hb'⟩
      exact ⟨none, 0, rfl, Us.none w', hb'⟩
    · exact rlook_zero X cl rq rq W hR rfl c3
  · rcases h.last cl with ⟨h1, -, -⟩ | ⟨i, x, ac, cc, rfl, e2, e3, e4, e5, e6, e7, e8, e9, e10⟩
    · omega
    · have hxq : x.rq = rq := by rw [← e5, hq]
      have hn : x.n ≤ 64 := by
        obtain ⟨_, _, _, _, _, _, _, _, _, _, _, _, _, _, _, _, _, _, _, _, hn, _⟩ := nat_form e8
        exact hn
      refine ⟨2, x, fun W hb => ?_, fun W => ?_, e10⟩
      · refine (look_again T mb c M i rq rq x.cd x.tm x.id x.cn x.st x.lv x.ge x.fr x.lf x.du x.tl ac x.n cc x.nt x.de W (h.1.kept hb) hcl (by rw [e6, ← hxq]; rfl) x.xs (e9.kept hb) (by omega) rfl (by omega)).mono ?_
        rintro e w' ⟨a', ca', rfl, ho, hb'⟩
        exact ⟨a', ca', rfl, (ho.us e9.2.2.1).2, hb'⟩
      · exact rlook_again X i rq W hR ⟨e2, e3⟩ x.kd x.cl x.rq x.cd x.tm x.id x.cn x.st x.lv x.ge x.fr x.lf x.du x.tl x.a x.n x.ca x.nt x.de x.xs (by rw [e4]) (by omega)
/-- A later world: what was there before the call, and what the call made, is as the call left it. -/
def Aft (w W w' W2 : World) : Prop := w'.heap.size ≤ W2.heap.size ∧ ∀ k, k < w'.heap.size → (k < w.heap.size ∨ W.heap.size ≤ k) → W2.heap[k]? = w'.heap[k]?
theorem Us.via {w W2 : World} {a : Option Addr} {n : Nat} {xs : List Nat} {mb : Nat} (h : Us w a n xs) (hm : ∃ es cl, w.heap[mb]? = some (.map es cl)) (hs : w.heap.size ≤ W2.heap.size) (e : ∀ k, k < w.heap.size → k ≠ mb → W2.heap[k]? = w.heap[k]?) : Us W2 a n xs := by
  obtain ⟨h1, h2, h3, h4⟩ := h
  obtain ⟨es, cl, hm⟩ := hm
  refine ⟨h1, h2, h3, fun i hi => ?_⟩
  obtain ⟨b, off, ha, hlt, hc⟩ := h4 i hi
  have hne : b ≠ mb := by
    intro e
    subst e
    simp [World.cell?, hm] at hc
  exact ⟨b, off, ha, Nat.lt_of_lt_of_le hlt hs, by rw [World.cell?_of_block (a := ⟨b, off + i, Option.none⟩) (e b hlt hne)]; exact hc⟩
theorem Ent.via {w W2 : World} {mb : Nat} {M M' : Lit → Option Value} {i : Nat} {x : Opn} (h : Ent Av w w.heap.size M i x) (hm : ∃ es cl, w.heap[mb]? = some (.map es cl)) (hs : w.heap.size ≤ W2.heap.size) (e : ∀ k, k < w.heap.size → k ≠ mb → W2.heap[k]? = w.heap[k]?) (eM : M' (.int .u64 (i : Int)) = M (.int .u64 (i : Int))) : Ent Av W2 W2.heap.size M' i x := by
  refine Ent.same ?_ eM
  rcases h with h | ⟨ac, cc, h1, h2, h3, h4, h5, h6, h7⟩
  · exact .inl h
  · exact .inr ⟨ac, cc, h1, h2, h3, h4, h5.via hm hs e, fun g o e => ⟨Nat.lt_of_lt_of_le (h6 g o e).1 hs, (h6 g o e).2⟩, h7.1.via hm hs e, h7.2⟩
theorem Rt.low {w W2 : World} {T mb c : Nat} {M : Lit → Option Value} {X : Nat → Opn} (h : Rt Av w T mb c M X) (hs : w.heap.size ≤ W2.heap.size) (e : ∀ k, k < w.heap.size → W2.heap[k]? = w.heap[k]?) : Rt Av W2 T mb c M X :=
  ⟨⟨(e T (ex_lt h.1.1)).trans h.1.1, h.1.2.block (e mb h.1.2.lt)⟩, h.2.1, fun i h1 h2 => (h.2.2.1 i h1 h2).via h.1.2.isMap hs (fun k hk _ => e k hk) rfl, h.2.2.2⟩
theorem Aft.low {w W w' W2 : World} (h : Aft w W w' W2) (hb : Below w.heap.size w W) (hb' : Below W.heap.size W w') : w.heap.size ≤ W2.heap.size ∧ ∀ k, k < w.heap.size → W2.heap[k]? = w.heap[k]? :=
  ⟨Nat.le_trans (Nat.le_trans hb.size hb'.size) h.1, fun k hk => ((h.2 k (by have := hb.size; have := hb'.size; omega) (.inl hk)).trans (hb'.block k (Nat.lt_of_lt_of_le hk hb.size))).trans (hb.block k hk)⟩
theorem Aft.mid {w W w' W2 : World} {mb : Nat} (h : Aft w W w' W2) (hb : Below w.heap.size w W) (hg : W.grownBy w' (some mb)) : w.heap.size ≤ W2.heap.size ∧ ∀ k, k < w.heap.size → k ≠ mb → W2.heap[k]? = w.heap[k]? :=
  ⟨Nat.le_trans (Nat.le_trans hb.size hg.size) h.1, fun k hk hne => ((h.2 k (by have := hb.size; have := hg.size; omega) (.inl hk)).trans (hg.block k (Nat.lt_of_lt_of_le hk hb.size) (by intro e; injection e with e; exact hne e))).trans (hb.block k hk)⟩
theorem below_of_grown {w w' : World} {r : Option Nat} (h : Below w.heap.size w w') : w.grownBy w' r := ⟨h.os, h.tape, h.output, h.size, fun k hk _ => h.block k hk⟩
theorem Us.far {w w' : World} {a : Option Addr} {n : Nat} {xs : List Nat} {K : Nat} (h : Us w a n xs) (hs : w.heap.size ≤ w'.heap.size) (e : ∀ k, k ≠ K → w'.heap[k]? = w.heap[k]?) (hk : ∀ g o, a = some ⟨g, o, Option.none⟩ → 0 < n → g ≠ K) : Us w' a n xs := by
  obtain ⟨h1, h2, h3, h4⟩ := h
  refine ⟨h1, h2, h3, fun i hi => ?_⟩
  obtain ⟨b, off, ha, hlt, hc⟩ := h4 i hi
  exact ⟨b, off, ha, Nat.lt_of_lt_of_le hlt hs, by rw [World.cell?_of_block (a := ⟨b, off + i, Option.none⟩) (e b (hk b off ha (by omega)))]; exact hc⟩
/-- What is written into the block that the rows avoid does not matter. -/
theorem Rt.far {w w' : World} {T mb c : Nat} {M : Lit → Option Value} {X : Nat → Opn} (h : Rt Av w T mb c M X) (hs : w.heap.size ≤ w'.heap.size) (hT : T ≠ Av) (hmb : mb ≠ Av) (e : ∀ k, k ≠ Av → w'.heap[k]? = w.heap[k]?) : Rt Av w' T mb c M X := by
  refine ⟨⟨(e T hT).trans h.1.1, h.1.2.block (e mb hmb)⟩, h.2.1, fun i h1 h2 => ?_, h.2.2.2⟩
  rcases h.2.2.1 i h1 h2 with k | ⟨ac, cc, k1, k2, k3, k4, k5, k6, k7⟩
  · exact .inl k
  · exact .inr ⟨ac, cc, k1, k2, k3, k4, k5.far hs e (fun g o ha _ => (k6 g o ha).2), fun g o ha => ⟨Nat.lt_of_lt_of_le (k6 g o ha).1 hs, (k6 g o ha).2⟩, k7.1.far hs e k7.2, k7.2⟩
/-- Drop, both ways. -/
theorem drop_both {w : World} {T mb c : Nat} {M : Lit → Option Value} {X : Nat → Opn} (h : Rt Av w T mb c M X) (cl : Int) (hcl : 0 ≤ cl ∧ cl < 18446744073709551616) : ∃ (z : Bool) (X' : Nat → Opn),
    (∀ W, Below w.heap.size w W → Calls Try.prog 40 #[.pointer (some ⟨T, 0, none⟩), .int .u64 cl] W fun e w' => e = .returned (.bool z) ∧ (∃ c' M', ∀ W2, Aft w W w' W2 → Rt Av W2 T mb c' M' X') ∧ W.grownBy w' (some mb)) ∧
    (∀ W, Calls Try.prog 70 #[rtV X, .int .u64 cl] W fun e w' => e = .returned (.tuple #[rtV X', .bool z]) ∧ Below W.heap.size W w') := by
  rcases h.last cl with ⟨h1, h2, -⟩ | ⟨i, x, ac, cc, rfl, e2, e3, e4, e5, e6, e7, e8, e9, e10⟩
  · refine ⟨false, X, fun W hb => ?_, fun W => rdrop_no X cl W (fun W => by rw [← h1]; exact rlast_q X cl W)⟩
    refine (drop_no T mb c M cl 0 0 0 0 0 0 0 0 0 0 0 none 0 0 0 0 W (h.1.kept hb) hcl h2).mono ?_
    rintro e w' ⟨rfl, hb'⟩
    exact ⟨rfl, ⟨c, M, fun W2 ha => h.low (ha.low hb hb').1 (ha.low hb hb').2⟩, below_of_grown hb'⟩
  · refine ⟨true, upX X i zOp, fun W hb => ?_, fun W => rdrop_yes X i W ⟨e2, e3⟩ (by rw [e4]; omega)⟩
    obtain ⟨M', m1, m2⟩ := upV M (.int .u64 (i : Int)) none
    have hW := h.kept hb
    refine (drop_yes T mb c M i x.rq x.cd x.tm x.id x.cn x.st x.lv x.ge x.fr x.lf x.du x.tl ac x.n cc x.nt x.de W hW.1 hcl (by rw [e6]; rfl) (by omega) m1 m2).mono ?_
    rintro e w' ⟨rfl, ht, hg⟩
    refine ⟨rfl, ⟨dnC M (.int .u64 (i : Int)) c, M', fun W2 ha => ?_⟩, hg⟩
    obtain ⟨hs2, he2⟩ := ha.mid hb hg
    have ht2 : Tab W2 T mb (dnC M (.int .u64 (i : Int)) c) M' := ⟨(ha.2 T (ex_lt ht.1) (.inl (ex_lt h.1.1))).trans ht.1, ht.2.block (ha.2 mb ht.2.lt (.inl h.1.2.lt))⟩
    refine ⟨ht2, ?_, fun j h1 h2 => ?_, fun cl' hc => ?_⟩
    · have hc := cnt_up X i zOp ⟨e2, e3⟩
      have hcc := h.2.1
      have z0 : ¬ (0 < zOp.rq) := by decide
      rw [e4, if_pos e7, if_neg z0] at hc
      unfold dnC
      rw [e6]
      simp only [Option.isSome_some, if_true]
      omega
    · by_cases ej : j = i
      · subst ej
        rw [upX_same]
        exact .inl ⟨m1, rfl⟩
      · rw [upX_other _ _ _ _ ej]
        exact (h.2.2.1 j h1 h2).via h.1.2.isMap hs2 he2 (m2 _ (fun e => ej (by injection e with _ e; omega)))
    · rw [m2 _ (fun e => hc (by injection e with _ e; omega))]
      exact h.2.2.2 cl' hc
/-- Done, both ways. -/
theorem done_pair {w : World} {T mb c : Nat} {M : Lit → Option Value} {X : Nat → Opn} (h : Rt Av w T mb c M X) (x : Opn) (hin : OpIn w x) (hb3 : (0 ≤ x.id ∧ x.id < 18446744073709551616) ∧ (0 ≤ x.ge ∧ x.ge < 18446744073709551616) ∧ (0 ≤ x.nt ∧ x.nt < 18446744073709551616)) (hn2 : x.n ≤ 200) (hav : Av < w.heap.size) (hxa : ∀ g o, x.a = some ⟨g, o, none⟩ → 0 < x.n → g ≠ Av) : ∃ (f : Int) (X' : Nat → Opn),
    (∀ W, Below w.heap.size w W → Calls Try.prog 36 #[.pointer (some ⟨T, 0, none⟩), .int .u64 x.cl, .int .u64 x.rq, .agg #[.int .i64 x.cd, .int .i64 x.tm, .int .u64 x.id, .int .i64 x.cn, .int .i64 x.st, .int .i64 x.lv, .int .u64 x.ge, .int .i64 x.fr, .int .i64 x.lf, .int .i64 x.du, .int .i64 x.tl, .slice x.a x.n x.ca, .int .u64 x.nt, .int .i64 x.de]] W fun e w' => e = .returned (.int .i64 f) ∧ (∃ c' M', ∀ W2, Aft w W w' W2 → Rt Av W2 T mb c' M' X') ∧ W.grownBy w' (some mb)) ∧
    (∀ W, Calls Try.prog 71 #[rtV X, .int .u64 x.cl, .int .u64 x.rq, .agg #[.int .i64 x.cd, .int .i64 x.tm, .int .u64 x.id, .int .i64 x.cn, .int .i64 x.st, .int .i64 x.lv, .int .u64 x.ge, .int .i64 x.fr, .int .i64 x.lf, .int .i64 x.du, .int .i64 x.tl, .slice x.a x.n x.ca, .int .u64 x.nt, .int .i64 x.de]] W fun e w' => e = .returned (.tuple #[rtV X', .int .i64 f]) ∧ Below W.heap.size W w') := by
  have hkeep : ∀ (f : Int) (W : World), Below w.heap.size w W → (∀ {e w'}, e = Ending.returned (.int .i64 f) ∧ Below W.heap.size W w' → e = .returned (.int .i64 f) ∧ (∃ c' M', ∀ W2, Aft w W w' W2 → Rt Av W2 T mb c' M' X) ∧ W.grownBy w' (some mb)) := fun f W hb e w' hh => ⟨hh.1, ⟨c, M, fun W2 ha => h.low (ha.low hb hh.2).1 (ha.low hb hh.2).2⟩, below_of_grown hh.2⟩
  by_cases hc : 1 ≤ x.cl ∧ x.cl ≤ 8
  case neg =>
    refine ⟨2, X, fun W hb => ?_, fun W => rdone_out X x.cl x.rq x.cd x.tm x.id x.cn x.st x.lv x.ge x.fr x.lf x.du x.tl x.a x.n x.ca x.nt x.de W hc⟩
    by_cases h1 : x.cl < 1
    · exact (done_lo T mb c M x.cl x.rq x.cd x.tm x.id x.cn x.st x.lv x.ge x.fr x.lf x.du x.tl x.a x.n x.ca x.nt x.de W (h.1.kept hb) h1).mono fun e w' hh => hkeep 2 W hb hh
    · exact (done_hi T mb c M x.cl x.rq x.cd x.tm x.id x.cn x.st x.lv x.ge x.fr x.lf x.du x.tl x.a x.n x.ca x.nt x.de W (h.1.kept hb) (by omega)).mono fun e w' hh => hkeep 2 W hb hh
  cases hs : repS x.cd x.tm x.id x.cn x.st x.lv x.ge x.fr x.lf x.du x.tl x.n x.de with
  | false =>
    exact ⟨2, X, fun W hb => (done_bad T mb c M x.cl x.rq x.cd x.tm x.id x.cn x.st x.lv x.ge x.fr x.lf x.du x.tl x.a x.n x.ca x.nt x.de W (h.1.kept hb) hc hin.2.2.2 hs).mono fun e w' hh => hkeep 2 W hb hh, fun W => rdone_bad X x.cl x.rq x.cd x.tm x.id x.cn x.st x.lv x.ge x.fr x.lf x.du x.tl x.a x.n x.ca x.nt x.de W hc hs⟩
  | true =>
    have hqx : qv X x.cl = (X x.cl.toNat).rq := by unfold qv; rw [if_pos hc]
    obtain ⟨q, cd1, tm1, id1, cn1, st1, lv1, ge1, fr1, lf1, du1, tl1, a1, n1, ca1, nt1, de1, hv, hq, hq0⟩ : ∃ (q cd1 tm1 id1 cn1 st1 lv1 ge1 fr1 lf1 du1 tl1 : Int) (a1 : Option Addr) (n1 ca1 : Nat) (nt1 de1 : Int), (M (.int .u64 x.cl)).getD (.agg #[.int .u64 0, .int .i64 0, .int .i64 0, .int .u64 0, .int .i64 0, .int .i64 0, .int .i64 0, .int .u64 0, .int .i64 0, .int .i64 0, .int .i64 0, .int .i64 0, .slice none 0 0, .int .u64 0, .int .i64 0]) = .agg #[.int .u64 q, .int .i64 cd1, .int .i64 tm1, .int .u64 id1, .int .i64 cn1, .int .i64 st1, .int .i64 lv1, .int .u64 ge1, .int .i64 fr1, .int .i64 lf1, .int .i64 du1, .int .i64 tl1, .slice a1 n1 ca1, .int .u64 nt1, .int .i64 de1] ∧ qv X x.cl = q ∧ (q = 0 ∧ (M (.int .u64 x.cl)).isSome = false ∨ 0 < q ∧ (M (.int .u64 x.cl)).isSome = true) := by
      rcases h.last x.cl with ⟨h1, h2, h3⟩ | ⟨i, y, ac, cc, e1, e2, e3, e4, e5, e6, e7, e8, e9, e10⟩
      · exact ⟨0, 0, 0, 0, 0, 0, 0, 0, 0, 0, 0, 0, none, 0, 0, 0, 0, h2, h1, .inl ⟨rfl, h3⟩⟩
      · exact ⟨y.rq, y.cd, y.tm, y.id, y.cn, y.st, y.lv, y.ge, y.fr, y.lf, y.du, y.tl, ac, y.n, cc, y.nt, y.de, by rw [e6]; rfl, e5, .inr ⟨e7, by rw [e6]; rfl⟩⟩
    by_cases hlt : q < x.rq
    case neg =>
      exact ⟨34, X, fun W hb => (done_old T mb c M x.cl x.rq x.cd x.tm x.id x.cn x.st x.lv x.ge x.fr x.lf x.du x.tl x.a x.n x.ca x.nt x.de W (h.1.kept hb) q cd1 tm1 id1 cn1 st1 lv1 ge1 fr1 lf1 du1 tl1 a1 n1 ca1 nt1 de1 hv hc hin.2.2.2 hs (by omega)).mono fun e w' hh => hkeep 34 W hb hh, fun W => rdone_old X x.cl x.rq x.cd x.tm x.id x.cn x.st x.lv x.ge x.fr x.lf x.du x.tl x.a x.n x.ca x.nt x.de W hc hs (by omega)⟩
    obtain ⟨i, hi⟩ : ∃ i : Nat, x.cl = (i : Int) := ⟨x.cl.toNat, by omega⟩
    have hti : x.cl.toNat = i := by omega
    have hc9 : c ≤ 8 := by rw [h.2.1]; exact cntTo_le X 8
    refine ⟨0, upX X i x, fun W hb => ?_, fun W => ?_⟩
    · have hW := h.kept hb
      refine (done_ok T mb c M x.cl x.rq x.cd x.tm x.id x.cn x.st x.lv x.ge x.fr x.lf x.du x.tl x.a x.n x.ca x.nt x.de W hW.1 q cd1 tm1 id1 cn1 st1 lv1 ge1 fr1 lf1 du1 tl1 a1 n1 ca1 nt1 de1 hv x.xs (hin.1.kept hb) hc (by omega) (by unfold maxLen; omega) hin.2.2.2 hs hlt).mono ?_
      rintro e w' ⟨rfl, ac, cc, M', ht, ⟨m1, m2⟩, ho, hg⟩
      rw [hi] at m1 m2 ht
      refine ⟨rfl, ⟨upC M (.int .u64 (i : Int)) c, M', fun W2 ha => ?_⟩, hg⟩
      obtain ⟨hs2, he2⟩ := ha.mid hb hg
      have ht2 : Tab W2 T mb (upC M (.int .u64 (i : Int)) c) M' := ⟨(ha.2 T (ex_lt ht.1) (.inl (ex_lt h.1.1))).trans ht.1, ht.2.block (ha.2 mb ht.2.lt (.inl h.1.2.lt))⟩
      have ho2 : OU W2 W.heap.size (.slice ac x.n cc) x.xs := by
        rcases ho with ⟨hl, k | ⟨b, cap, cur, k1, k2, k3, k4⟩⟩
        · exact ⟨hl, .inl k⟩
        · exact ⟨hl, .inr ⟨b, cap, cur, k1, k2, (ha.2 b (ex_lt k3) (.inr k2)).trans k3, k4⟩⟩
      refine ⟨ht2, ?_, fun j h1 h2 => ?_, fun cl' hc' => ?_⟩
      · have hcu := cnt_up X i x ⟨by omega, by omega⟩
        have hcc := h.2.1
        rw [← hti, ← hqx, hq, hti, if_pos (show 0 < x.rq by rcases hq0 with h | h <;> omega)] at hcu
        unfold upC
        rw [← hi]
        rcases hq0 with ⟨k1, k2⟩ | ⟨k1, k2⟩
        · rw [k2]
          rw [if_neg (by omega)] at hcu
          simp only [Bool.false_eq_true, if_false]
          omega
        · rw [k2]
          rw [if_pos k1] at hcu
          simp only [if_true]
          omega
      · by_cases ej : j = i
        · subst ej
          rw [upX_same]
          exact .inr ⟨ac, cc, m1, by rcases hq0 with h | h <;> omega, hin.2.2.1.2, ⟨hs, hb3⟩, (ho2.us hin.1.2.2.1).2, fun g o e => ⟨ou_fr ho2 g o e, by have := ou_ge ho2 g o e; have := hb.size; omega⟩, hin.1.via h.1.2.isMap hs2 he2, hxa⟩
        · rw [upX_other _ _ _ _ ej]
          exact (h.2.2.1 j h1 h2).via h.1.2.isMap hs2 he2 (m2 _ (fun e => ej (by injection e with _ e; omega)))
      · rw [m2 _ (fun e => hc' (by injection e with _ e; omega))]
        exact h.2.2.2 cl' hc'
    · have hr := rdone_ok X x.cl x.rq x.cd x.tm x.id x.cn x.st x.lv x.ge x.fr x.lf x.du x.tl x.a x.n x.ca x.nt x.de W x.kd x.cl x.xs hc hs (by rw [← hqx, hq]; exact hlt)
      rw [hti] at hr
      exact hr
end Go.Proofs.Ytnhaakdjijjinaa
