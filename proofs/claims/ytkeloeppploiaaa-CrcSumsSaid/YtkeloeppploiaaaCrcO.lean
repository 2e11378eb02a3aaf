/- The walk of CrcSums. -/
import Derived.Test.YtkeloeppploiaaaCrcK
namespace Go.Proofs.Ytkeloeppploiaaa
open Go.RowKit

/-- A slice of slices of bytes that came in: each that is not long can be read. -/
def Parts (w : World) (a : Option Addr) (n : Nat) (ps : List (List Nat)) : Prop :=
  ps.length = n ∧ ∀ i, i < n → ∃ b off ai li ci, a = some ⟨b, off, none⟩ ∧ w.cell? ⟨b, off + i, none⟩ = some (.slice ai li ci) ∧ b < w.heap.size ∧ li ≤ 9223372036854775807 ∧ (li ≤ 1000 → RB w (.slice ai li ci) (ps.getD i []) ∧ (ps.getD i []).length = li)

set_option maxHeartbeats 400000 in
theorem sums_big (a0 : Option Addr) (len0 cap0 : Nat) (s : Int) (w : World) (hl : 50 < len0) (hm : len0 ≤ 9223372036854775807) :
    Calls Try.prog 8 #[.slice a0 len0 cap0, .int .u32 s] w fun e w' => e = .returned (.bool true) ∧ Below w.heap.size w w' := by
  go_enter Try.func8, Try.ntmps8
  go_wp2_with (go_at_call 32; refine (lives2 _).mono ?_; rintro e w' ⟨rfl, hb⟩)
  go_ret
  exact ⟨rfl, hb⟩

/-- What holds before part k. -/
def Upto (w : World) (a : Option Addr) (ps : List (List Nat)) (sum k s : Nat) (all : Value) (wr : World) : Prop :=
  Below w.heap.size w wr ∧ OB wr w.heap.size all (ps.take k).flatten ∧ (ps.take k).flatten.length ≤ 1000 * k ∧ (∀ c ∈ (ps.take k).flatten, c < 256) ∧ s < 4294967296 ∧ s % 16777216 = onN (sum % 16777216) (ps.take k).flatten ∧
  ∀ i, i < k → ∃ b off v, a = some ⟨b, off, none⟩ ∧ w.cell? ⟨b, off + i, none⟩ = some v ∧ RB w v (ps.getD i [])
theorem Upto.start (w : World) (a : Option Addr) (ps : List (List Nat)) (sum : Nat) (h : sum < 4294967296) : Upto w a ps sum 0 sum (.slice none 0 0) w :=
  ⟨Below.refl _ _, by simpa [OB, cb] using World.ownsRow_nil w w.heap.size 5 1, by simp, by simp, h, by simp [onN_nil], fun i hi => by omega⟩
theorem Upto.next {w : World} {a : Option Addr} {ps : List (List Nat)} {sum k s : Nat} {all all' : Value} {wr wr' : World} (h : Upto w a ps sum k s all wr) (hk : k < ps.length)
    (hp : ∃ b off v, a = some ⟨b, off, none⟩ ∧ w.cell? ⟨b, off + k, none⟩ = some v ∧ RB w v (ps.getD k [])) (hlen : (ps.getD k []).length ≤ 1000)
    (ho : OB wr' w.heap.size all' ((ps.take k).flatten ++ ps.getD k [])) (hb : Below w.heap.size w wr') : Upto w a ps sum (k + 1) (onN (s % 16777216) (ps.getD k [])) all' wr' := by
  obtain ⟨h1, h2, h3, h4, h5, h6, h7⟩ := h
  have hrb := hp
  obtain ⟨_, _, _, _, _, hrb⟩ := hrb
  have e := flat_take ps k hk
  have hlt := onN_lt (ps.getD k []) (s % 16777216) (by omega) hrb.1
  refine ⟨hb, by rw [e]; exact ho, by rw [e, List.length_append]; omega, ?_, by omega, ?_, ?_⟩
  · intro c hc
    rw [e, List.mem_append] at hc
    exact hc.elim (h4 c) (hrb.1 c)
  · rw [e, onN_append, ← h6]
    exact Nat.mod_eq_of_lt hlt
  · intro i hi
    by_cases hik : i = k
    · subst hik; exact hp
    · exact h7 i (by omega)

theorem RBB.kept {w w' : World} {a : Option Addr} {n : Nat} {ps : List (List Nat)} (h : RBB w a n ps) (hb : Below w.heap.size w w') : RBB w' a n ps := by
  obtain ⟨h1, h2, h3⟩ := h
  refine ⟨h1, h2, fun i hi => ?_⟩
  obtain ⟨b, off, v, ha, hc, hr⟩ := h3 i hi
  exact ⟨b, off, v, ha, by rw [hb.cell (cell_spot hc).2]; exact hc, hr.kept hb⟩

set_option maxHeartbeats 1000000 in
theorem sums_small (a0 : Option Addr) (n cap0 sum : Nat) (ps : List (List Nat)) (w : World) (hl : n ≤ 50) (hs : sum < 4294967296) (hp : Parts w a0 n ps) :
    Calls Try.prog 8 #[.slice a0 n cap0, .int .u32 (sum : Int)] w fun e w' => e = .returned (.bool true) ∧ Below w.heap.size w w' := by
  have HP := Lib.hid hp
  clear hp
  have hU := Upto.start w a0 ps sum hs
  go_enter Try.func8, Try.ntmps8
  go_wp2_with fail
  go_loopw [5, 6, 16] (fun al on i wr => ∃ (k s : Nat), k ≤ n ∧ i = .int .i64 k ∧ on = .int .u32 (s : Int) ∧ Upto w a0 ps sum k s al wr) (fun _ _ i _ => n - (intOf i).toNat)
  case atStart => exact ⟨0, sum, Nat.zero_le _, rfl, rfl, hU⟩
  case round =>
    obtain ⟨k, s, hk, rfl, rfl, hr⟩ := hrel
    clear hU
    by_cases hlt : k < n
    · obtain ⟨b, off, ai, li, ci, rfl, hcell, hbw, hli, hrow⟩ := HP.out.2 k hlt
      have hcell' := (hr.1.cell (p := ⟨b, off + k, none⟩) hbw).trans hcell
      by_cases hbig : 1000 < li
      · have hW := hr.1
        go_wp2_with (go_at_call 32; refine (lives2 _).mono ?_; rintro e w' ⟨rfl, hb⟩)
        go_ret
        exact ⟨rfl, hW.trans (hb.mono hW.size)⟩
      · obtain ⟨hrb, hll⟩ := hrow (by omega)
        have hlp : k < ps.length := by rw [HP.out.1]; exact hlt
        have HR := Lib.hid hr
        have HRB := Lib.hid (hrb.kept hr.1)
        have HRW := Lib.hid hrb
        have HLL := Lib.hid hll
        have hs1 := hr.2.2.2.2.1
        have HH := Lib.hid (show ∃ b' off' v, some (⟨b, off, none⟩ : Addr) = some ⟨b', off', none⟩ ∧ w.cell? ⟨b', off' + k, none⟩ = some v ∧ RB w v (ps.getD k []) from ⟨b, off, _, rfl, hcell, hrb⟩)
        clear hrow hr hcell hrb hll
        obtain ⟨m, hm⟩ : ∃ m, ps.getD k [] = m := ⟨_, rfl⟩
        rw [hm] at HRB HLL HRW
        have HM := Lib.hid hm
        clear hm
        go_wp2_with (first
          | (at_builtin; refine append_rb rfl (.tmp 24) (.tmp 25) rfl w.heap.size _ _ (ps.take k).flatten m rfl rfl HR.out.2.1 HRB.out (by have := HR.out.2.2.1; have := HLL.out; omega) HR.out.1.size ?_; intro v2 w2 ho2 hg2; have hb2 := HR.out.2.1.below hg2 HR.out.1 HR.out.1.size; have hrb2 := Lib.hid (HRW.out.kept hb2); clear hg2)
          | (go_at_call 33; refine (on_any _ _ _ _ hs1 hrb2.out).mono ?_; rintro e w' ⟨rfl, rfl⟩)
          | (go_at_call 34; refine (refon_any _ _ _ _ hs1 hrb2.out).mono ?_; rintro e w' ⟨rfl, rfl⟩))
        go_roundw
        case rel => exact ⟨k + 1, _, by omega, by go_num, rfl, by rw [← HM.out] at ho2 ⊢; exact HR.out.next hlp HH.out (by have := HLL.out; rw [← HM.out] at this; omega) ho2 hb2⟩
        case measure => simp [intOf]; omega
    · obtain rfl : k = n := by omega
      have hall : ps.take k = ps := List.take_of_length_le (by rw [HP.out.1]; omega)
      obtain ⟨hW, hob, hlen, hlt256, hs1, hsx, hparts⟩ := hr
      rw [hall] at hob hlen hlt256
      obtain ⟨L, hL⟩ : ∃ L, ps.flatten = L := ⟨_, rfl⟩
      rw [hL] at hob hlen hlt256
      have hrb := hob.rb hlt256 (by omega)
      have hrbb : RBB w a0 k ps := ⟨HP.out.1, by omega, hparts⟩
      have hsum := sum_any a0 k cap0 ps wr (hrbb.kept hW)
      rw [hL] at hsum
      have hbl : ∀ v : Value, Below wr.heap.size wr (wr.alloc (.cells #[v] 27)) := fun v => (Below.refl _ _).alloc (Nat.le_refl _) _
      have HBL := Lib.hid hbl
      have hf : ∀ W, RB W u5 L → Calls Try.prog 37 #[u5, .int .u32 (sum : Int)] W fun e w' => e = .returned (.bool (decide (onN 11994318 L = sum))) ∧ W.alloc (.cells #[u5] 27) = w' := by
        intro W h
        by_cases hq : onN 11994318 L = sum
        · simpa [hq] using fits_yes u5 L sum W h hq
        · simpa [hq] using fits_no u5 L sum W h hq
      have hy : ∀ W, RB W u5 L → Calls Try.prog 37 #[u5, .int .u32 ((onN 11994318 L : Nat) : Int)] W fun e w' => e = .returned (.bool true) ∧ W.alloc (.cells #[u5] 27) = w' := fun W h => fits_yes u5 L _ W h rfl
      have hrf : ∀ W, RB W u5 L → Calls Try.prog 36 #[u5] W fun e w' => e = .returned (.int .u32 ((onN 11994318 L : Nat) : Int)) ∧ W = w' := fun W h => refsum_any u5 L W h
      have hbq : (((onN 11994318 L : Nat) : Int) == (sum : Int)) = decide (onN 11994318 L = sum) := by
        by_cases hq : onN 11994318 L = sum
        · simp [hq]
        · simp [hq]; omega
      obtain ⟨x, hxx⟩ : ∃ x, onN 11994318 L = x := ⟨_, rfl⟩
      rw [hxx] at hsum hf hy hrf hbq
      obtain ⟨q, hqq⟩ : ∃ q, decide (x = sum) = q := ⟨_, rfl⟩
      rw [hqq] at hf hbq
      have HSUM := Lib.hid hsum
      have HF := Lib.hid hf
      have HY := Lib.hid hy
      have HRF := Lib.hid hrf
      have H0 := Lib.hid hrb
      have H1 := Lib.hid (hrb.kept (hbl u5))
      have HW := Lib.hid hW
      have hne : ∀ b : Bool, (b == b) = true := fun b => by simp
      clear hsum hf hy hrf hrb hbl hxx hqq hob hlen hlt256 hall hparts hsx hL hrbb hk hlt hW
      go_wp2_with fail
      refine (HSUM.out).mono ?_
      rintro e w' ⟨rfl, rfl⟩
      go_wp2_with fail
      refine (HRF.out _ H0.out).mono ?_
      rintro e w' ⟨rfl, rfl⟩
      go_wp2_with fail
      refine (HF.out _ H0.out).mono ?_
      rintro e w' ⟨rfl, rfl⟩
      go_wp2_with fail
      refine (HRF.out _ H1.out).mono ?_
      rintro e w' ⟨rfl, rfl⟩
      go_wp2_with fail
      refine (HRF.out _ H1.out).mono ?_
      rintro e w' ⟨rfl, rfl⟩
      go_wp2_with fail
      refine (HY.out _ H1.out).mono ?_
      rintro e w' ⟨rfl, rfl⟩
      go_wp2_with fail
      refine (lives2 _).mono ?_
      rintro e w' ⟨rfl, hb⟩
      go_wp2
      go_ret
      have h2 : Below w.heap.size w ((wr.alloc (.cells #[u5] 27)).alloc (.cells #[u5] 27)) := (HW.out.alloc HW.out.size _).alloc (by have := HW.out.size; simp; omega) _
      exact ⟨rfl, h2.trans (hb.mono h2.size)⟩
end Go.Proofs.Ytkeloeppploiaaa
