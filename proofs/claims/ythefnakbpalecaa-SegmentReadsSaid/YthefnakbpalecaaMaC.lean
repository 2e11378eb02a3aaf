import Derived.Test.YthefnakbpalecaaLaws
import Derived.Below
import Derived.Lib.SlBytesConst
import Derived.WalkSpells
import Derived.Deep.QuietTactic
import Derived.BigQuiet
import Derived.StillTailTactics
import Derived.WalkSmall
namespace Go.Proofs.Ythefnakbpalecaa
open Go.RowKit
/- The plain arithmetic of the 24-bit checksum: the step, a byte, a list of bytes. -/

def sh (r : Nat) : Nat := if 16777215 < 2 * r then (2 * r) ^^^ 25578747 else 2 * r
def shi : Nat → Nat → Nat
  | 0, x => x
  | n + 1, x => sh (shi n x)
def by8 (r c : Nat) : Nat := shi 8 (r ^^^ (c * 65536))
def onN (r : Nat) (l : List Nat) : Nat := l.foldl by8 r

theorem xor_top (x : Nat) (h1 : 16777216 ≤ x) (h2 : x < 33554432) : x ^^^ 25578747 < 16777216 := by
  have : x ^^^ 25578747 < 2 ^ 24 := by
    apply Nat.lt_pow_two_of_testBit
    intro i hi
    rw [Nat.testBit_xor]
    by_cases h : i = 24
    · subst h
      have a : x.testBit 24 = true := by
        rw [Nat.testBit_eq_decide_div_mod_eq]; simp; omega
      have b : (25578747 : Nat).testBit 24 = true := by decide
      rw [a, b]; rfl
    · have a : x.testBit i = false := by
        apply Nat.testBit_lt_two_pow
        have : 2 ^ 25 ≤ 2 ^ i := Nat.pow_le_pow_right (by omega) (by omega)
        omega
      have b : (25578747 : Nat).testBit i = false := by
        apply Nat.testBit_lt_two_pow
        have : 2 ^ 25 ≤ 2 ^ i := Nat.pow_le_pow_right (by omega) (by omega)
        omega
      rw [a, b]; rfl
  simpa using this
theorem sh_lt (r : Nat) (h : r < 16777216) : sh r < 16777216 := by
  unfold sh; split
  · exact xor_top _ (by omega) (by omega)
  · omega
theorem xor_lt24 {a b : Nat} (ha : a < 16777216) (hb : b < 16777216) : a ^^^ b < 16777216 := by
  have := Nat.xor_lt_two_pow (n := 24) (x := a) (y := b) (by omega) (by omega); simpa using this
theorem shi_lt (n x : Nat) (h : x < 16777216) : shi n x < 16777216 := by
  induction n with
  | zero => exact h
  | succ n ih => exact sh_lt _ ih
theorem by8_lt (r c : Nat) (h : r < 16777216) (hc : c < 256) : by8 r c < 16777216 := by
  exact shi_lt 8 _ (xor_lt24 h (by omega))
theorem onN_lt (l : List Nat) : ∀ (r : Nat), r < 16777216 → (∀ c ∈ l, c < 256) → onN r l < 16777216 := by
  induction l with
  | nil => intro r h _; simpa only [onN, List.foldl_nil] using h
  | cons c l ih => intro r h hl; simp only [onN, List.foldl_cons]; exact ih _ (by8_lt r c h (hl c (by simp))) (fun x hx => hl x (by simp [hx]))
theorem onN_snoc (r : Nat) (l : List Nat) (c : Nat) : onN r (l ++ [c]) = by8 (onN r l) c := by
  simp only [onN, List.foldl_append, List.foldl_cons, List.foldl_nil]
theorem onN_append (r : Nat) (l m : List Nat) : onN r (l ++ m) = onN (onN r l) m := by
  simp only [onN, List.foldl_append]
theorem take_succ_getD (l : List Nat) (k : Nat) (h : k < l.length) : l.take (k + 1) = l.take k ++ [l.getD k 0] := by
  rw [List.take_succ_eq_append_getElem h]; simp [h]
/- Walks of crc24: the shift, and a list of bytes. -/
open Go.RowKit
theorem shift_any (r : Nat) (w : World) (h : r < 16777216) :
    Calls Try.prog 167 #[.int .u32 (r : Nat)] w fun e w' => e = .returned (.int .u32 ((sh r : Nat) : Int)) ∧ w = w' := by
  go_enter Try.func167, Try.ntmps167
  go_wp2
  · have h1 : (16777215 : Int) < r * 2 := by assumption
    go_ret
    refine ⟨ret_int ?_, rfl⟩
    have e : ((r : Int) * 2) = ((2 * r : Nat) : Int) := by omega
    rw [e, show (25578747 : Int) = ((25578747 : Nat) : Int) from rfl, u32_xor_nat _ _ (by omega) (by omega)]
    unfold sh; rw [if_pos (by omega)]
  · have h1 : (r : Int) * 2 ≤ 16777215 := by assumption
    go_ret
    refine ⟨ret_int ?_, rfl⟩
    unfold sh; rw [if_neg (by omega)]; omega

theorem and24 (r : Nat) (h : r < 4294967296) : bits .and .u32 (r : Int) 16777215 = ((r % 16777216 : Nat) : Int) := by
  rw [show (16777215 : Int) = ((16777215 : Nat) : Int) from rfl, u32_and_nat _ _ (by omega) (by omega)]
  congr 1
  exact Nat.and_two_pow_sub_one_eq_mod r 24
theorem xor24 (x c : Nat) (hx : x < 16777216) (hc : c < 256) : bits .xor .u32 (x : Int) ((c : Int) * 65536) = ((x ^^^ (c * 65536) : Nat) : Int) := by
  rw [show ((c : Int) * 65536) = ((c * 65536 : Nat) : Int) by omega, u32_xor_nat _ _ (by omega) (by omega)]

set_option maxHeartbeats 400000 in
theorem on_any (r : Nat) (v : Value) (bs : List Nat) (w : World) (hr : r < 4294967296) (hb : RB w v bs) :
    Calls Try.prog 149 #[.int .u32 (r : Nat), v] w fun e w' => e = .returned (.int .u32 ((onN (r % 16777216) bs : Nat) : Int)) ∧ w = w' := by
  have hc := hb.1
  have hm := hb.2.1
  obtain ⟨a, cap, rfl, _, _⟩ := hb.shape
  obtain ⟨len, hl⟩ : ∃ len, bs.length = len := ⟨_, rfl⟩
  rw [hl] at hb hm ⊢
  have hcase : ∀ k, k < len → ∃ b off, a = some ⟨b, off, none⟩ ∧ w.cell? ⟨b, off + k, none⟩ = some (.int .u8 ((bs.getD k 0 : Nat) : Int)) := by
    intro k hk
    obtain ⟨b, off, c, he, _, _, _, h⟩ := hb.at (by omega)
    simp only [Value.slice.injEq] at he
    exact ⟨b, off, he.1, h k (by omega)⟩
  clear hb
  have ha := and24 r hr
  obtain ⟨q, hq⟩ : ∃ q, q = r % 16777216 := ⟨_, rfl⟩
  rw [← hq] at ha ⊢
  have hq' : q < 16777216 := by omega
  clear hq
  go_enter Try.func149, Try.ntmps149
  go_wp2
  clear ha
  have HL := Lib.hid hl
  have HC := Lib.hid hc
  have HS := Lib.hid hcase
  clear hl hc hcase
  go_loop [0, 12] (fun s i => ∃ k : Nat, k ≤ len ∧ i = .int .i64 k ∧ s = .int .u32 ((onN q (bs.take k) : Nat) : Int)) (fun _ i => len - (intOf i).toNat)
  case atStart => exact ⟨0, Nat.zero_le _, rfl, rfl⟩
  case round =>
    obtain ⟨k, hk, rfl, rfl⟩ := hrel
    by_cases hlt : k < len
    · obtain ⟨b, off, rfl, hcell⟩ : ∃ b off, a = some ⟨b, off, none⟩ ∧ w.cell? ⟨b, off + k, none⟩ = some (.int .u8 ((bs.getD k 0 : Nat) : Int)) := HS.out k hlt
      have hlb : k < bs.length := by rw [HL.out]; exact hlt
      have HN := Lib.hid (by rw [take_succ_getD bs k hlb, onN_snoc] : onN q (bs.take (k + 1)) = by8 (onN q (bs.take k)) (bs.getD k 0))
      have hc0 : bs.getD k 0 < 256 := HC.out _ (by simp [hlb])
      have hx0 : onN q (bs.take k) < 16777216 := onN_lt _ _ hq' (fun c h => HC.out c (List.mem_of_mem_take h))
      obtain ⟨c, hcc⟩ : ∃ c, c = bs.getD k 0 := ⟨_, rfl⟩
      obtain ⟨x, hxx⟩ : ∃ x, x = onN q (bs.take k) := ⟨_, rfl⟩
      rw [← hcc] at hc0 hcell HN
      rw [← hxx] at hx0 HN ⊢
      have HX := Lib.hid hxx
      have HCC := Lib.hid hcc
      clear hcc hxx hlb
      have hxor := xor24 x c hx0 hc0
      have hy := xor_lt24 hx0 (show c * 65536 < 16777216 by omega)
      obtain ⟨y, hyy⟩ : ∃ y, y = x ^^^ (c * 65536) := ⟨_, rfl⟩
      rw [← hyy] at hxor hy
      have HY := Lib.hid hyy
      clear hyy
      go_wp2
      clear hcell hxor
      go_loop [0, 21] (fun s i => ∃ j : Nat, j ≤ 8 ∧ i = .int .i64 j ∧ s = .int .u32 ((shi j y : Nat) : Int)) (fun _ i => 8 - (intOf i).toNat)
      case atStart => exact ⟨0, Nat.zero_le _, rfl, rfl⟩
      case round =>
        obtain ⟨j, hj, rfl, rfl⟩ := hrel
        have hs := shi_lt j y hy
        by_cases hj8 : j < 8
        · go_wp2_with (go_at_call 167; refine (shift_any _ _ hs).mono ?_; rintro e w' ⟨rfl, rfl⟩)
          go_round
          case rel => exact ⟨j + 1, by omega, by go_num, rfl⟩
          case measure => simp [intOf]; omega
        · obtain rfl : j = 8 := by omega
          go_wp2
          go_round
          case rel => exact ⟨k + 1, by omega, by go_num, by rw [HN.out, by8, HY.out]⟩
          case measure => simp [intOf]; omega
    · go_wp2
      go_ret
      exact ⟨ret_int (by rw [List.take_of_length_le (by rw [HL.out]; omega)]), rfl⟩
/- Walks of crc24: the sum of several parts, and the examples. -/
open Go.RowKit

/-- A slice of slices of bytes that can be read. -/
def RBB (w : World) (a : Option Addr) (n : Nat) (ps : List (List Nat)) : Prop :=
  ps.length = n ∧ n ≤ 140737488351232 ∧ ∀ i, i < n → ∃ b off v, a = some ⟨b, off, none⟩ ∧ w.cell? ⟨b, off + i, none⟩ = some v ∧ RB w v (ps.getD i [])

theorem flat_take {α : Type} (l : List (List α)) (k : Nat) (h : k < l.length) : (l.take (k + 1)).flatten = (l.take k).flatten ++ l.getD k [] := by
  rw [List.take_succ_eq_append_getElem h, List.flatten_append]
  simp only [List.flatten_cons, List.flatten_nil, List.append_nil]
  simp [h]

set_option maxHeartbeats 400000 in
theorem sum_any (a : Option Addr) (len cap : Nat) (ps : List (List Nat)) (w : World) (hb : RBB w a len ps) :
    Calls Try.prog 136 #[.slice a len cap] w fun e w' => e = .returned (.int .u32 ((onN 11994318 ps.flatten : Nat) : Int)) ∧ w = w' := by
  obtain ⟨hl, hm, hcase⟩ := hb
  have HL := Lib.hid hl
  have HS := Lib.hid hcase
  clear hl hcase
  go_enter Try.func136, Try.ntmps136
  go_wp2
  go_loop [3, 8] (fun s i => ∃ k : Nat, k ≤ len ∧ i = .int .i64 k ∧ s = .int .u32 ((onN 11994318 (ps.take k).flatten : Nat) : Int) ∧ onN 11994318 (ps.take k).flatten < 16777216) (fun _ i => len - (intOf i).toNat)
  case atStart => exact ⟨0, Nat.zero_le _, rfl, rfl, by simp [onN]⟩
  case round =>
    obtain ⟨k, hk, rfl, rfl, hx0⟩ := hrel
    by_cases hlt : k < len
    · obtain ⟨b, off, v, rfl, hcell, hrb⟩ := HS.out k hlt
      have hlb : k < ps.length := by rw [HL.out]; exact hlt
      have HN := Lib.hid (by rw [flat_take ps k hlb, onN_append] : onN 11994318 (ps.take (k + 1)).flatten = onN (onN 11994318 (ps.take k).flatten) (ps.getD k []))
      obtain ⟨x, hxx⟩ : ∃ x, x = onN 11994318 (ps.take k).flatten := ⟨_, rfl⟩
      obtain ⟨m, hmm⟩ : ∃ m, m = ps.getD k [] := ⟨_, rfl⟩
      rw [← hxx] at hx0 HN ⊢
      rw [← hmm] at hrb HN
      have HX := Lib.hid hxx
      clear hxx hlb hmm
      have hmod : x % 16777216 = x := by omega
      have hy := onN_lt m x hx0 hrb.1
      obtain ⟨ai, ci, rfl, _, _⟩ := hrb.shape
      have HRB := Lib.hid hrb
      have HM := Lib.hid hmod
      clear hrb hmod
      go_wp2_with (go_at_call 149; refine (on_any _ _ _ _ (by omega) HRB.out).mono ?_; rintro e w' ⟨rfl, rfl⟩)
      go_round
      case rel => exact ⟨k + 1, by omega, by go_num, by rw [HN.out, HM.out], by rw [HN.out]; exact hy⟩
      case measure => simp [intOf]; omega
    · go_wp2
      go_ret
      exact ⟨ret_int (by rw [List.take_of_length_le (by rw [HL.out]; omega)]), rfl⟩

/- Walks of crc24: Fits and Seal. -/
open Go.RowKit

theorem rbb_one {w : World} {v : Value} {bs : List Nat} (h : RB w v bs) : RBB (w.alloc (.cells #[v] 28)) (some ⟨w.heap.size, 0, none⟩) 1 [bs] := by
  refine ⟨rfl, by omega, ?_⟩
  intro i hi
  obtain rfl : i = 0 := by omega
  exact ⟨_, _, v, rfl, by simp, h.kept ((Below.refl _ _).alloc (Nat.le_refl _) _)⟩
theorem sum_one (v : Value) (bs : List Nat) (w : World) (hb : RB w v bs) :
    Calls Try.prog 136 #[.slice (some ⟨w.heap.size, 0, none⟩) 1 1] (w.alloc (.cells #[v] 28)) fun e w' => e = .returned (.int .u32 ((onN 11994318 bs : Nat) : Int)) ∧ w.alloc (.cells #[v] 28) = w' :=
  (sum_any _ 1 1 [bs] _ (rbb_one hb)).mono fun e w' ⟨h1, h2⟩ => ⟨by rw [h1]; exact ret_int (by simp), h2⟩

theorem fits_yes (v : Value) (bs : List Nat) (s : Nat) (w : World) (hb : RB w v bs) (h : onN 11994318 bs = s) :
    Calls Try.prog 166 #[v, .int .u32 (s : Nat)] w fun e w' => e = .returned (.bool true) ∧ w.alloc (.cells #[v] 28) = w' := by
  subst h
  obtain ⟨a, cap, rfl, _, _⟩ := hb.shape
  have HB := Lib.hid hb
  clear hb
  go_enter Try.func166, Try.ntmps166
  go_wp2_with (go_at_call 136; refine (sum_one _ _ _ HB.out).mono ?_; rintro e w' ⟨rfl, rfl⟩)
  go_ret
  exact ⟨rfl, rfl⟩
theorem fits_no (v : Value) (bs : List Nat) (s : Nat) (w : World) (hb : RB w v bs) (h : onN 11994318 bs ≠ s) :
    Calls Try.prog 166 #[v, .int .u32 (s : Nat)] w fun e w' => e = .returned (.bool false) ∧ w.alloc (.cells #[v] 28) = w' := by
  have hq : (((onN 11994318 bs : Nat) : Int) == ((s : Nat) : Int)) = false := by simpa using fun e => h (by omega)
  obtain ⟨a, cap, rfl, _, _⟩ := hb.shape
  have HB := Lib.hid hb
  clear hb h
  go_enter Try.func166, Try.ntmps166
  go_wp2_with (go_at_call 136; refine (sum_one _ _ _ HB.out).mono ?_; rintro e w' ⟨rfl, rfl⟩)
  go_ret
  exact ⟨rfl, rfl⟩

theorem rb_lit3 (w : World) (a b c : Nat) (ha : a < 256) (hb : b < 256) (hc : c < 256) :
    RB (w.alloc (.cells #[.int .u8 (a : Int), .int .u8 (b : Int), .int .u8 (c : Int)] 5)) (.slice (some ⟨w.heap.size, 0, none⟩) 3 3) [a, b, c] := by
  refine ⟨?_, by simp, .inr ⟨_, _, rfl, by simp, by simp [maxLen], ?_⟩⟩
  · intro x hx
    simp at hx
    rcases hx with rfl | rfl | rfl <;> assumption
  · intro i hi
    have : i = 0 ∨ i = 1 ∨ i = 2 := by simp at hi; omega
    rcases this with rfl | rfl | rfl <;> (rw [add_at]; simp)

def top (bs : List Nat) : List Nat := [onN 11994318 bs / 65536, onN 11994318 bs / 256 % 256, onN 11994318 bs % 256]

theorem rb_top (w : World) (b x : Nat) (hb : b = w.heap.size) (hx : x < 16777216) :
    RB (w.alloc (.cells #[.int .u8 ((x : Int) / 65536), .int .u8 ((x : Int) / 256 % 256), .int .u8 ((x : Int) % 256)] 5)) (.slice (some ⟨b, 0, none⟩) 3 3) [x / 65536, x / 256 % 256, x % 256] := by
  subst hb
  have := rb_lit3 w (x / 65536) (x / 256 % 256) (x % 256) (by omega) (by omega) (by omega)
  simpa using this

/-- The call hands back bytes of its own, and has turned nothing that was there. -/
def Owned (w : World) (bs : List Nat) (e : Ending) (w' : World) : Prop := ∃ v', e = .returned v' ∧ OB w' w.heap.size v' bs ∧ Below w.heap.size w w'
theorem OB.alloc {w : World} {base : Nat} {v : Value} {bs : List Nat} (h : OB w base v bs) (o : Obj) : OB (w.alloc o) base v bs := World.ownsRow.alloc h o

set_option maxHeartbeats 400000 in
theorem seal_any (v : Value) (bs : List Nat) (w : World) (hb : RB w v bs) (hl : bs.length ≤ 100000) :
    Calls Try.prog 110 #[v] w (Owned w (bs ++ top bs)) := by
  obtain ⟨a, cap, rfl, _, _⟩ := hb.shape
  have hx := onN_lt bs 11994318 (by omega) hb.1
  obtain ⟨n, hn⟩ : ∃ n, bs.length = n := ⟨_, rfl⟩
  obtain ⟨x, hxx⟩ : ∃ x, onN 11994318 bs = x := ⟨_, rfl⟩
  have HB := Lib.hid hb
  have HN := Lib.hid hn
  have HX := Lib.hid hxx
  have ht : top bs = [x / 65536, x / 256 % 256, x % 256] := by unfold top; rw [hxx]
  rw [hn] at hl ⊢
  rw [hxx] at hx
  rw [ht]
  clear hb hn hxx ht
  go_enter Try.func110, Try.ntmps110
  go_wp2_with (first
    | (at_make; refine make_rb rfl _ _ rfl w.heap.size _ _ _ (n + 3) rfl rfl (by omega) (by omega) (Nat.le_refl _) ?_; intro v1 w1 ho1 hg1; have hb1 := (Below.refl w.heap.size w).grown hg1 (Nat.le_refl _) (by simp); have H1 := Lib.hid (HB.out.kept hb1); rw [HN.out] at H1)
    | (at_builtin; refine append_rb rfl (.tmp 9) (.tmp 10) rfl w.heap.size _ _ [] bs rfl rfl ho1 H1.out (by have := HN.out; simp; omega) hb1.size ?_; intro v2 w2 ho2 hg2; have hb2 := ho1.below hg2 hb1 hb1.size; have H2 := Lib.hid (HB.out.kept hb2); rw [HN.out] at H2; clear hg2)
    | (go_at_call 136; refine (sum_one _ _ _ H2.out).mono ?_; rintro e w' ⟨he, rfl⟩; rw [HX.out] at he; subst he)
    | (at_builtin; refine append_rb rfl (.tmp 15) (.tmp 24) rfl w.heap.size _ _ bs [x / 65536, x / 256 % 256, x % 256] rfl rfl ((ho2.alloc _).alloc _) (rb_top _ _ _ (by simp) hx) (by have := HN.out; simp; omega) (by have := hb2.size; simp; omega) ?_; intro v3 w3 ho3 hg3; have hb3 := ((ho2.alloc _).alloc _).below hg3 ((hb2.alloc hb2.size _).alloc (by have := hb2.size; simp; omega) _) (by have := hb2.size; simp; omega); clear hg3))
  go_ret
  exact ⟨v3, rfl, ho3, hb3⟩
/- Walks of crc24: Clone and Open. -/
open Go.RowKit

theorem ob_empty (w : World) (b : Nat) (hb : b = w.heap.size) : OB (w.alloc (.cells #[] 5)) w.heap.size (.slice (some ⟨b, 0, none⟩) 0 0) [] := by
  subst hb
  exact World.ownsRow_lit w #[] 0 (Nat.le_refl _) (by simp) rfl

/-- bytes.Clone. -/
theorem clone_any (v : Value) (bs : List Nat) (w : World) (hb : RB w v bs) : Calls Try.prog 58 #[v] w (Owned w bs) := by
  rcases hb.2.2 with ⟨rfl, rfl⟩ | ⟨x, cap, rfl, _, _, _⟩
  · have hn := fun (w : World) (n c : Nat) => Lib.run_eql_slice_nil (P := Try.prog) w 28 5 none n c 0 0 Try.underlying28
    go_enter Try.func58, Try.ntmps58
    go_wp2
    go_ret
    exact ⟨_, rfl, World.ownsRow_nil _ _ _ _, Below.refl _ _⟩
  · have hn := fun (w : World) (n c : Nat) => Lib.run_eql_slice_nil (P := Try.prog) w 28 5 (some x) n c 0 0 Try.underlying28
    obtain ⟨n, hnn⟩ : ∃ n, bs.length = n := ⟨_, rfl⟩
    have HB := Lib.hid hb
    have hl := hb.2.1
    rw [hnn] at hl ⊢
    have HN := Lib.hid hnn
    clear hb hnn
    go_enter Try.func58, Try.ntmps58
    go_wp2_with (first
      | (at_builtin; refine append_rb rfl _ _ rfl w.heap.size _ _ [] bs rfl rfl (ob_empty _ _ rfl) (by have := HB.out.kept ((Below.refl _ _).alloc (Nat.le_refl _) (.cells #[] 5)); rw [HN.out] at this; exact this) (by have := HN.out; simp; omega) (by simp) ?_; intro v1 w1 ho1 hg1; have hb1 := (ob_empty w _ rfl).below hg1 ((Below.refl w.heap.size w).alloc (Nat.le_refl _) _) (by simp); clear hg1))
    go_ret
    exact ⟨_, rfl, ho1, hb1⟩

/-- Open of too few bytes. -/
theorem open_short (v : Value) (bs : List Nat) (w : World) (hb : RB w v bs) (hl : bs.length < 3) :
    Calls Try.prog 148 #[v] w fun e w' => e = .returned (.tuple #[.slice none 0 0, .bool false]) ∧ w = w' := by
  obtain ⟨a, cap, rfl, _, _⟩ := hb.shape
  obtain ⟨n, hn⟩ : ∃ n, bs.length = n := ⟨_, rfl⟩
  rw [hn] at hl ⊢
  clear hb hn
  go_enter Try.func148, Try.ntmps148
  go_wp2
  go_ret2
  exact ⟨rfl, rfl⟩

theorem or3 (x0 x1 x2 : Nat) (h0 : x0 < 256) (h1 : x1 < 256) (h2 : x2 < 256) :
    bits .or .u32 (bits .or .u32 ((x0 : Int) * 65536) ((x1 : Int) * 256)) (x2 : Int) = ((x0 * 65536 + x1 * 256 + x2 : Nat) : Int) := by
  have e1 : x0 * 65536 ||| x1 * 256 = x0 * 65536 + x1 * 256 := by
    have := Nat.two_pow_add_eq_or_of_lt (i := 16) (b := x1 * 256) (by omega) x0
    rw [Nat.mul_comm x0 65536]; exact this.symm
  have e2 : (x0 * 65536 + x1 * 256) ||| x2 = x0 * 65536 + x1 * 256 + x2 := by
    have := Nat.two_pow_add_eq_or_of_lt (i := 8) (b := x2) (by omega) (x0 * 256 + x1)
    rw [show x0 * 65536 + x1 * 256 = 2 ^ 8 * (x0 * 256 + x1) by omega]; exact this.symm
  rw [show ((x0 : Int) * 65536) = ((x0 * 65536 : Nat) : Int) by omega, show ((x1 : Int) * 256) = ((x1 * 256 : Nat) : Int) by omega,
    u32_or_nat _ _ (by omega) (by omega), e1, u32_or_nat _ _ (by omega) (by omega), e2]

set_option maxRecDepth 100000 in
set_option maxHeartbeats 400000 in
theorem open_bad (v : Value) (bs : List Nat) (m : Nat) (w : World) (hb : RB w v bs) (hl : bs.length = m + 3) (hm : m ≤ 1000000)
    (hs : onN 11994318 (bs.take m) ≠ bs.getD m 0 * 65536 + bs.getD (m + 1) 0 * 256 + bs.getD (m + 2) 0) :
    Calls Try.prog 148 #[v] w fun e w' => e = .returned (.tuple #[.slice none 0 0, .bool false]) ∧ Below w.heap.size w w' := by
  have hrd := hb.take m (by omega)
  obtain ⟨b, off, cap, rfl, hc, hcm, hbb, hcell⟩ := hb.at (by omega)
  have hrd' := hrd _ _ _ rfl
  clear hrd
  rw [hl] at hc hcell ⊢
  have c0 := hcell m (by omega)
  have c1 : w.cell? ⟨b, off + m + 1, none⟩ = some (.int .u8 ((bs.getD (m + 1) 0 : Nat) : Int)) := hcell (m + 1) (by omega)
  have c2 : w.cell? ⟨b, off + m + 2, none⟩ = some (.int .u8 ((bs.getD (m + 2) 0 : Nat) : Int)) := hcell (m + 2) (by omega)
  obtain ⟨x0, hx0⟩ : ∃ x, bs.getD m 0 = x := ⟨_, rfl⟩
  obtain ⟨x1, hx1⟩ : ∃ x, bs.getD (m + 1) 0 = x := ⟨_, rfl⟩
  obtain ⟨x2, hx2⟩ : ∃ x, bs.getD (m + 2) 0 = x := ⟨_, rfl⟩
  have l0 : x0 < 256 := by rw [← hx0]; exact hb.at_lt m (by omega)
  have l1 : x1 < 256 := by rw [← hx1]; exact hb.at_lt _ (by omega)
  have l2 : x2 < 256 := by rw [← hx2]; exact hb.at_lt _ (by omega)
  rw [hx0] at c0 hs
  rw [hx1] at c1 hs
  rw [hx2] at c2 hs
  have hor := or3 x0 x1 x2 l0 l1 l2
  obtain ⟨s, hss⟩ : ∃ s, x0 * 65536 + x1 * 256 + x2 = s := ⟨_, rfl⟩
  rw [hss] at hor hs
  clear hb hl hcell hx0 hx1 hx2 hss
  have HS := Lib.hid hs
  clear hs
  go_enter Try.func148, Try.ntmps148
  go_wp2
  go_quiet (fail)
  have d0 : (w.drewN nq).cell? ⟨b, off + m, none⟩ = some (.int .u8 (x0 : Int)) := c0
  have d1 : (w.drewN nq).cell? ⟨b, off + m + 1, none⟩ = some (.int .u8 (x1 : Int)) := c1
  have d2 : (w.drewN nq).cell? ⟨b, off + m + 2, none⟩ = some (.int .u8 (x2 : Int)) := c2
  have hb1 : Below w.heap.size w (w.drewN nq) := below_drewN (Below.refl _ _) _
  clear c0 c1 c2
  generalize w.drewN nq = w1 at *
  go_wp2_with fail
  go_still_tail 17, (by kernel_rfl)
  have hb2 : Below w.heap.size w w1.drew := hb1.drew
  change wpList _ _ _ _ _ w1.drew
  clear d0 d1 d2
  generalize w1.drew = w2 at *
  have HR := Lib.hid (hrd'.kept hb2)
  go_wp2_with fail
  rw [hor]
  clear hor
  refine (fits_no _ _ _ _ HR.out HS.out).mono ?_
  rintro e w' ⟨rfl, rfl⟩
  go_wp2
  go_ret2
  exact ⟨rfl, hb2.alloc hb2.size _⟩
/-- Open hands back bytes of its own, and true. -/
def Opened (w : World) (bs : List Nat) (e : Ending) (w' : World) : Prop := ∃ v', e = .returned (.tuple #[v', .bool true]) ∧ OB w' w.heap.size v' bs ∧ Below w.heap.size w w'
set_option maxRecDepth 100000 in
set_option maxHeartbeats 400000 in
theorem open_good (v : Value) (bs : List Nat) (m : Nat) (w : World) (hb : RB w v bs) (hl : bs.length = m + 3) (hm : m ≤ 1000000)
    (hs : onN 11994318 (bs.take m) = bs.getD m 0 * 65536 + bs.getD (m + 1) 0 * 256 + bs.getD (m + 2) 0) :
    Calls Try.prog 148 #[v] w (Opened w (bs.take m)) := by
  have hrd := hb.take m (by omega)
  obtain ⟨b, off, cap, rfl, hc, hcm, hbb, hcell⟩ := hb.at (by omega)
  have hrd' := hrd _ _ _ rfl
  clear hrd
  rw [hl] at hc hcell ⊢
  have c0 := hcell m (by omega)
  have c1 : w.cell? ⟨b, off + m + 1, none⟩ = some (.int .u8 ((bs.getD (m + 1) 0 : Nat) : Int)) := hcell (m + 1) (by omega)
  have c2 : w.cell? ⟨b, off + m + 2, none⟩ = some (.int .u8 ((bs.getD (m + 2) 0 : Nat) : Int)) := hcell (m + 2) (by omega)
  obtain ⟨x0, hx0⟩ : ∃ x, bs.getD m 0 = x := ⟨_, rfl⟩
  obtain ⟨x1, hx1⟩ : ∃ x, bs.getD (m + 1) 0 = x := ⟨_, rfl⟩
  obtain ⟨x2, hx2⟩ : ∃ x, bs.getD (m + 2) 0 = x := ⟨_, rfl⟩
  have l0 : x0 < 256 := by rw [← hx0]; exact hb.at_lt m (by omega)
  have l1 : x1 < 256 := by rw [← hx1]; exact hb.at_lt _ (by omega)
  have l2 : x2 < 256 := by rw [← hx2]; exact hb.at_lt _ (by omega)
  rw [hx0] at c0 hs
  rw [hx1] at c1 hs
  rw [hx2] at c2 hs
  have hor := or3 x0 x1 x2 l0 l1 l2
  obtain ⟨s, hss⟩ : ∃ s, x0 * 65536 + x1 * 256 + x2 = s := ⟨_, rfl⟩
  rw [hss] at hor hs
  clear hb hl hcell hx0 hx1 hx2 hss
  have HS := Lib.hid hs
  clear hs
  go_enter Try.func148, Try.ntmps148
  go_wp2
  go_quiet (fail)
  have d0 : (w.drewN nq).cell? ⟨b, off + m, none⟩ = some (.int .u8 (x0 : Int)) := c0
  have d1 : (w.drewN nq).cell? ⟨b, off + m + 1, none⟩ = some (.int .u8 (x1 : Int)) := c1
  have d2 : (w.drewN nq).cell? ⟨b, off + m + 2, none⟩ = some (.int .u8 (x2 : Int)) := c2
  have hb1 : Below w.heap.size w (w.drewN nq) := below_drewN (Below.refl _ _) _
  clear c0 c1 c2
  generalize w.drewN nq = w1 at *
  go_wp2_with fail
  go_still_tail 17, (by kernel_rfl)
  have hb2 : Below w.heap.size w w1.drew := hb1.drew
  change wpList _ _ _ _ _ w1.drew
  clear d0 d1 d2
  generalize w1.drew = w2 at *
  have HR := Lib.hid (hrd'.kept hb2)
  go_wp2_with fail
  rw [hor]
  clear hor
  refine (fits_yes _ _ _ _ HR.out HS.out).mono ?_
  rintro e w' ⟨rfl, rfl⟩
  have hb3 := hb2.alloc hb2.size (.cells #[.slice (some ⟨b, off, none⟩) m cap] 28)
  have HR3 := Lib.hid (hrd'.kept hb3)
  go_wp2_with (go_at_call 58; refine (clone_any _ _ _ HR3.out).mono ?_; rintro e w' ⟨v', rfl, ho, hb4⟩)
  go_ret2
  exact ⟨v', rfl, ho.mono hb3.size, hb3.trans (hb4.mono hb3.size)⟩
/- The walk of CrcApart. -/
open Go.RowKit

theorem top_lt {bs : List Nat} (h : ∀ c ∈ bs, c < 256) : ∀ c ∈ bs ++ top bs, c < 256 := by
  have hx := onN_lt bs 11994318 (by omega) h
  intro c hc
  simp only [List.mem_append, top, List.mem_cons, List.not_mem_nil, or_false] at hc
  rcases hc with hc | rfl | rfl | rfl
  · exact h c hc
  all_goals omega
theorem top_len (bs : List Nat) : (bs ++ top bs).length = bs.length + 3 := by simp [top]
theorem top_take (bs : List Nat) : (bs ++ top bs).take bs.length = bs := by simp
theorem top_fits (bs : List Nat) : onN 11994318 ((bs ++ top bs).take bs.length) = (bs ++ top bs).getD bs.length 0 * 65536 + (bs ++ top bs).getD (bs.length + 1) 0 * 256 + (bs ++ top bs).getD (bs.length + 2) 0 := by
  rw [top_take]
  have e0 : (bs ++ top bs).getD bs.length 0 = onN 11994318 bs / 65536 := by simp [top]
  have e1 : (bs ++ top bs).getD (bs.length + 1) 0 = onN 11994318 bs / 256 % 256 := by simp [top]
  have e2 : (bs ++ top bs).getD (bs.length + 2) 0 = onN 11994318 bs % 256 := by simp [top]
  rw [e0, e1, e2]
  omega
/-- What was sealed is opened. -/
theorem open_sealed (v : Value) (bs : List Nat) (w : World) (hb : RB w v (bs ++ top bs)) (hm : bs.length ≤ 1000000) : Calls Try.prog 148 #[v] w (Opened w bs) := by
  have := open_good v (bs ++ top bs) bs.length w hb (top_len bs) hm (top_fits bs)
  rwa [top_take] at this

theorem RB.shapeN {w : World} {v : Value} {bs : List Nat} {n : Nat} (h : RB w v bs) (hn : bs.length = n) : ∃ a cap, v = .slice a n cap := by
  obtain ⟨a, cap, hv, _, _⟩ := h.shape
  exact ⟨a, cap, by rw [← hn]; exact hv⟩
/-- n cells of bytes, whatever they hold, that are the call's own. -/
def Own (w : World) (base : Nat) (v : Value) (n : Nat) : Prop := ∃ xs, w.ownsRow base 5 1 v n xs
theorem OB.own {w : World} {base : Nat} {v : Value} {bs : List Nat} {n : Nat} (h : OB w base v bs) (hn : bs.length = n) : Own w base v n := ⟨_, by rw [← hn]; exact h⟩
theorem Own.at {w : World} {base : Nat} {a : Option Addr} {n cap k : Nat} (h : Own w base (.slice a n cap) n) (hk : k < n) :
    ∃ g u, a = some ⟨g, 0, none⟩ ∧ base ≤ g ∧ g < w.heap.size ∧ w.cell? ⟨g, k, none⟩ = some u ∧ w.frozen? ⟨g, k, none⟩ = false := by
  obtain ⟨xs, h⟩ := h
  have h' := h
  rcases h'.2 with ⟨hv, hn⟩ | ⟨g, cap', cur, hv, hg, hh, _⟩
  · omega
  · simp only [Value.slice.injEq] at hv
    obtain ⟨rfl, _, rfl⟩ := hv
    have e := h'.1
    refine ⟨g, xs[k]'(by omega), rfl, hg, (Array.getElem?_eq_some_iff.mp hh).1, ?_, World.ownsRow.frozenAt h k⟩
    rw [World.ownsRow.cellAt h k (by omega)]
    simp
theorem Own.set {w : World} {base g n cap k : Nat} (h : Own w base (.slice (some ⟨g, 0, none⟩) n cap) n) (u : Value) : Own (w.setCell ⟨g, k, none⟩ u) base (.slice (some ⟨g, 0, none⟩) n cap) n := by
  obtain ⟨xs, h⟩ := h
  exact ⟨_, (World.ownsRow.stored h k u).1⟩
theorem OB.set {w : World} {base : Nat} {v : Value} {bs : List Nat} (h : OB w base v bs) {p : Addr} (hp : p.block < base) (u : Value) : OB (w.setCell p u) base v bs := ownsRow_setCell_below h hp u
theorem Own.setOther {w : World} {base : Nat} {v : Value} {n : Nat} (h : Own w base v n) {p : Addr} (hp : p.block < base) (u : Value) : Own (w.setCell p u) base v n := by
  obtain ⟨xs, h⟩ := h
  exact ⟨xs, ownsRow_setCell_below h hp u⟩

end Go.Proofs.Ythefnakbpalecaa
