/- Walks of quill: what a writer has; and of its reference: the bytes by the text. -/
import Derived.Test.YtnhaakdjijjinaaQa1
namespace Go.Proofs.Ytnhaakdjijjinaa
open Go.RowKit
/-- The call hands back bytes of its own, and has turned nothing that was there. -/
def Owned (w : World) (bs : List Nat) (e : Ending) (w' : World) : Prop := ∃ v', e = .returned v' ∧ OB w' w.heap.size v' bs ∧ Below w.heap.size w w'
theorem ob_empty (w : World) (b : Nat) (hb : b = w.heap.size) : OB (w.alloc (.cells #[] 5)) w.heap.size (.slice (some ⟨b, 0, none⟩) 0 0) [] := by
  subst hb
  exact World.ownsRow_lit w #[] 0 (Nat.le_refl _) (by simp) rfl

/-- bytes.Clone. -/
theorem bclone_any (v : Value) (bs : List Nat) (w : World) (hb : RB w v bs) : Calls Try.prog 53 #[v] w (Owned w bs) := by
  rcases hb.2.2 with ⟨rfl, rfl⟩ | ⟨x, cap, rfl, _, _, _⟩
  · have hn := fun (w : World) (n c : Nat) => Lib.run_eql_slice_nil (P := Try.prog) w 35 5 none n c 0 0 Try.underlying35
    go_enter Try.func53, Try.ntmps53
    go_wp2
    go_ret
    exact ⟨_, rfl, World.ownsRow_nil _ _ _ _, Below.refl _ _⟩
  · have hn := fun (w : World) (n c : Nat) => Lib.run_eql_slice_nil (P := Try.prog) w 35 5 (some x) n c 0 0 Try.underlying35
    obtain ⟨n, hnn⟩ : ∃ n, bs.length = n := ⟨_, rfl⟩
    have HB := Lib.hid hb
    have hl := hb.2.1
    rw [hnn] at hl ⊢
    have HN := Lib.hid hnn
    clear hb hnn
    go_enter Try.func53, Try.ntmps53
    go_wp2_with (first
      | (at_builtin; refine append_rb rfl _ _ rfl w.heap.size _ _ [] bs rfl rfl (ob_empty _ _ rfl) (by have := HB.out.kept ((Below.refl _ _).alloc (Nat.le_refl _) (.cells #[] 5)); rw [HN.out] at this; exact this) (by have := HN.out; simp; omega) (by simp) ?_; intro v1 w1 ho1 hg1; have hb1 := (ob_empty w _ rfl).below hg1 ((Below.refl w.heap.size w).alloc (Nat.le_refl _) _) (by simp); clear hg1))
    go_ret
    exact ⟨_, rfl, ho1, hb1⟩


theorem bytes_wr (b base : Nat) (v : Value) (bs : List Nat) (w : World) (hw : WR w b base v bs) (hl : bs.length ≤ 10000000) : Calls Try.prog 23 #[.pointer (some ⟨b, 0, none⟩)] w (Owned w bs) := by
  have hc := cell_of_one hw.1
  have H := Lib.hid (bclone_any v bs w (hw.2.2.2.1.rb hw.2.2.2.2 (by omega)))
  clear hw hl
  go_enter Try.func23, Try.ntmps23
  go_wp2_with (go_at_call 53; refine (H.out).mono ?_; rintro e w' ⟨v', rfl, ho, hb⟩)
  go_ret
  exact ⟨v', rfl, ho, hb⟩
theorem bytes_nil (w : World) : Calls Try.prog 23 #[.pointer none] w fun e w' => e = .returned (.slice none 0 0) ∧ w = w' := by
  go_enter Try.func23, Try.ntmps23
  go_wp2
  go_ret
  exact ⟨rfl, rfl⟩

theorem RB.shapeN' {w : World} {v : Value} {bs : List Nat} {n : Nat} (h : RB w v bs) (hn : bs.length = n) : ∃ a cap, v = .slice a n cap := by
  obtain ⟨a, cap, hv, _, _⟩ := h.shape
  exact ⟨a, cap, by rw [← hn]; exact hv⟩
theorem ob_lit1 (w : World) (b base : Nat) (y : Int) (x : Nat) (hb : b = w.heap.size) (hy : y = (x : Int)) (hB : base ≤ w.heap.size) : OB (w.alloc (.cells #[.int .u8 y] 5)) base (.slice (some ⟨b, 0, none⟩) 1 1) [x] := by
  subst hb
  subst hy
  exact World.ownsRow_lit w #[.int .u8 (x : Int)] 1 hB (by simp [maxLen]) rfl

set_option maxHeartbeats 1000000 in
theorem refnum_any (n : Nat) (w : World) (hn : n < 18446744073709551616) : Calls Try.prog 60 #[.int .u64 (n : Int)] w (Owned w (num 0 n)) := by
  have HN := Lib.hid hn
  clear hn
  go_enter Try.func60, Try.ntmps60
  go_wp2_with fail
  go_loopw [0, 3] (fun m v wr => ∃ j : Nat, j ≤ 8 ∧ m = .int .u64 ((n / 2 ^ (8 * j) : Nat) : Int) ∧ OB wr w.heap.size v (enc j n) ∧ Below w.heap.size w wr ∧ (0 < j → 2 ^ (8 * (j - 1)) ≤ n)) (fun m _ _ => (intOf m).toNat)
  case atStart => exact ⟨0, by omega, by simp, World.ownsRow_nil _ _ _ _, Below.refl _ _, by omega⟩
  case round =>
    obtain ⟨j, hj, rfl, ho, hW, hlow⟩ := hrel
    obtain ⟨m, hm⟩ : ∃ m, n / 2 ^ (8 * j) = m := ⟨_, rfl⟩
    rw [hm]
    have hrb := ho.rb (enc_lt j n) (by rw [enc_len]; omega)
    by_cases h0 : 0 < m
    · have h8 : j < 8 := by
        rcases Nat.lt_or_ge j 8 with h | h
        · exact h
        · have e : j = 8 := by omega
          subst e
          have := HN.out
          have e2 : (2 : Nat) ^ (8 * 8) = 18446744073709551616 := by decide
          rw [e2] at hm
          omega
      have hnext : n / 2 ^ (8 * (j + 1)) = m / 256 := by rw [← hm, Nat.div_div_eq_div_mul, Nat.mul_add, Nat.pow_add]
      have hlow2 : 2 ^ (8 * j) ≤ n := by
        rcases Nat.lt_or_ge n (2 ^ (8 * j)) with h | h
        · rw [Nat.div_eq_of_lt h] at hm; omega
        · exact h
      have hmn : m ≤ n := by rw [← hm]; exact Nat.div_le_self _ _
      have hwr : IntKind.u64.wrap ((m : Int) / 256) = (m : Int) / 256 := by have := HN.out; exact IntWalk.u64_in _ ⟨by omega, by omega⟩
      have HE := Lib.hid (show enc (j + 1) n = [m % 256] ++ enc j n by rw [enc, hm]; rfl)
      have HX := Lib.hid hnext
      have HL := Lib.hid hlow2
      have HR := Lib.hid (hrb.kept ((Below.refl _ _).alloc (Nat.le_refl _) (.cells #[.int .u8 ((m : Int) % 256)] 5)))
      have hsz := hW.size
      clear hm hrb hlow ho hnext hlow2 hmn
      go_wp2_with (at_builtin; refine append_rb rfl (.tmp 9) (.tmp 10) rfl w.heap.size _ _ [m % 256] (enc j n) rfl rfl (ob_lit1 _ _ _ _ _ rfl (by omega) hsz) HR.out (by rw [enc_len]; simp; omega) (by simp; omega) ?_; intro v2 w2 ho2 hg2; have hb2 := (ob_lit1 wr _ w.heap.size ((m : Int) % 256) (m % 256) rfl (by omega) hsz).below hg2 (hW.alloc hsz _) (by simp; omega); clear hg2)
      go_roundw
      case rel => exact ⟨j + 1, by omega, by rw [HX.out]; go_num, by rw [HE.out]; exact ho2, hb2, fun _ => HL.out⟩
      case measure => simp [intOf]; omega
    · obtain rfl : m = 0 := by omega
      have hup : n < 2 ^ (8 * j) := by
        rcases Nat.lt_or_ge n (2 ^ (8 * j)) with h | h
        · exact h
        · have := Nat.div_pos h (Nat.two_pow_pos _); omega
      have hz := sz_unique n j hup hlow
      have HE := Lib.hid (show num 0 n = [j] ++ enc j n by unfold num; rw [hz]; simp)
      have hel := enc_len j n
      obtain ⟨a, c, hv⟩ := hrb.shapeN' hel
      subst hv
      have HEL := Lib.hid hel
      have HR := Lib.hid hrb
      have hsz := hW.size
      clear hm hup hz hel hlow hrb ho
      go_wp2_with (at_builtin; refine append_rb rfl (.tmp 17) (.tmp 18) rfl w.heap.size _ _ [j] (enc j n) rfl rfl (ob_lit1 _ _ _ _ _ rfl (by omega) hsz) (HR.out.kept ((Below.refl _ _).alloc (Nat.le_refl _) _)) (by rw [HEL.out]; simp; omega) (by simp; omega) ?_; intro v2 w2 ho2 hg2; have hb2 := (ob_lit1 wr _ w.heap.size (j : Int) j rfl rfl hsz).below hg2 (hW.alloc hsz _) (by simp; omega); clear hg2)
      go_ret
      exact ⟨_, rfl, by rw [HE.out]; exact ho2, hb2⟩
end Go.Proofs.Ytnhaakdjijjinaa
