/- Walks of crc24: Clone and Open. -/
import Derived.Test.YteehglaadofidaaCrcD
import Derived.WalkSpells
import Derived.Deep.QuietTactic
import Derived.BigQuiet
import Derived.StillTailTactics
import Derived.WalkSmall
namespace Go.Proofs.Yteehglaadofidaa
open Go.RowKit

theorem ob_empty (w : World) (b : Nat) (hb : b = w.heap.size) : OB (w.alloc (.cells #[] 5)) w.heap.size (.slice (some ⟨b, 0, none⟩) 0 0) [] := by
  subst hb
  exact World.ownsRow_lit w #[] 0 (Nat.le_refl _) (by simp) rfl

/-- bytes.Clone. -/
theorem clone_any (v : Value) (bs : List Nat) (w : World) (hb : RB w v bs) : Calls Try.prog 40 #[v] w (Owned w bs) := by
  rcases hb.2.2 with ⟨rfl, rfl⟩ | ⟨x, cap, rfl, _, _, _⟩
  · have hn := fun (w : World) (n c : Nat) => Lib.run_eql_slice_nil (P := Try.prog) w 22 5 none n c 0 0 Try.underlying22
    go_enter Try.func40, Try.ntmps40
    go_wp2
    go_ret
    exact ⟨_, rfl, World.ownsRow_nil _ _ _ _, Below.refl _ _⟩
  · have hn := fun (w : World) (n c : Nat) => Lib.run_eql_slice_nil (P := Try.prog) w 22 5 (some x) n c 0 0 Try.underlying22
    obtain ⟨n, hnn⟩ : ∃ n, bs.length = n := ⟨_, rfl⟩
    have HB := Lib.hid hb
    have hl := hb.2.1
    rw [hnn] at hl ⊢
    have HN := Lib.hid hnn
    clear hb hnn
    go_enter Try.func40, Try.ntmps40
    go_wp2_with (first
      | (at_builtin; refine append_rb rfl _ _ rfl w.heap.size _ _ [] bs rfl rfl (ob_empty _ _ rfl) (by have := HB.out.kept ((Below.refl _ _).alloc (Nat.le_refl _) (.cells #[] 5)); rw [HN.out] at this; exact this) (by have := HN.out; simp; omega) (by simp) ?_; intro v1 w1 ho1 hg1; have hb1 := (ob_empty w _ rfl).below hg1 ((Below.refl w.heap.size w).alloc (Nat.le_refl _) _) (by simp); clear hg1))
    go_ret
    exact ⟨_, rfl, ho1, hb1⟩

/-- Open of too few bytes. -/
theorem open_short (v : Value) (bs : List Nat) (w : World) (hb : RB w v bs) (hl : bs.length < 3) :
    Calls Try.prog 38 #[v] w fun e w' => e = .returned (.tuple #[.slice none 0 0, .bool false]) ∧ w = w' := by
  obtain ⟨a, cap, rfl, _, _⟩ := hb.shape
  obtain ⟨n, hn⟩ : ∃ n, bs.length = n := ⟨_, rfl⟩
  rw [hn] at hl ⊢
  clear hb hn
  go_enter Try.func38, Try.ntmps38
  go_wp2
  go_ret2
  exact ⟨rfl, rfl⟩

theorem or3 (x0 x1 x2 : Nat) (h0 : x0 < 256) (h1 : x1 < 256) (h2 : x2 < 256) :
    bits .or .u32 (bits .or .u32 ((x0 : Int) * 65536) ((x1 : Int) * 256)) (x2 : Int) = ((x0 * 65536 + x1 * 256 + x2 : Nat) : Int) := by
  have e1 : x0 * 65536 ||| x1 * 256 = x0 * 65536 + x1 * 256 := by
    have := Nat.two_pow_add_eq_or_of_lt (i := 16) (b := x1 * 256) (by omega) x0
    rw [Nat.mul_comm x0 65536]; exact this.symm
  have e2 : (x0 * 65536 + x1 * 256) ||| x2 = x0 * 65536 + x1 * 256 + x2 := by
    have := Nat.two_pow_add_eq_or_of_lt (i := 8) (b := x2) (by omega) (x0 * 256 + x1)
    rw [show x0 * 65536 + x1 * 256 = 2 ^ 8 * (x0 * 256 + x1) by omega]; exact this.symm
  rw [show ((x0 : Int) * 65536) = ((x0 * 65536 : Nat) : Int) by omega, show ((x1 : Int) * 256) = ((x1 * 256 : Nat) : Int) by omega,
    u32_or_nat _ _ (by omega) (by omega), e1, u32_or_nat _ _ (by omega) (by omega), e2]

set_option maxRecDepth 100000 in
set_option maxHeartbeats 400000 in
theorem open_bad (v : Value) (bs : List Nat) (m : Nat) (w : World) (hb : RB w v bs) (hl : bs.length = m + 3) (hm : m ≤ 1000000)
    (hs : onN 11994318 (bs.take m) ≠ bs.getD m 0 * 65536 + bs.getD (m + 1) 0 * 256 + bs.getD (m + 2) 0) :
    Calls Try.prog 38 #[v] w fun e w' => e = .returned (.tuple #[.slice none 0 0, .bool false]) ∧ Below w.heap.size w w' := by
  have hrd := hb.take m (by omega)
  obtain ⟨b, off, cap, rfl, hc, hcm, hbb, hcell⟩ := hb.at (by omega)
  have hrd' := hrd _ _ _ rfl
  clear hrd
  rw [hl] at hc hcell ⊢
  have c0 := hcell m (by omega)
  have c1 : w.cell? ⟨b, off + m + 1, none⟩ = some (.int .u8 ((bs.getD (m + 1) 0 : Nat) : Int)) := hcell (m + 1) (by omega)
  have c2 : w.cell? ⟨b, off + m + 2, none⟩ = some (.int .u8 ((bs.getD (m + 2) 0 : Nat) : Int)) := hcell (m + 2) (by omega)
  obtain ⟨x0, hx0⟩ : ∃ x, bs.getD m 0 = x := ⟨_, rfl⟩
  obtain ⟨x1, hx1⟩ : ∃ x, bs.getD (m + 1) 0 = x := ⟨_, rfl⟩
  obtain ⟨x2, hx2⟩ : ∃ x, bs.getD (m + 2) 0 = x := ⟨_, rfl⟩
  have l0 : x0 < 256 := by rw [← hx0]; exact hb.at_lt m (by omega)
  have l1 : x1 < 256 := by rw [← hx1]; exact hb.at_lt _ (by omega)
  have l2 : x2 < 256 := by rw [← hx2]; exact hb.at_lt _ (by omega)
  rw [hx0] at c0 hs
  rw [hx1] at c1 hs
  rw [hx2] at c2 hs
  have hor := or3 x0 x1 x2 l0 l1 l2
  obtain ⟨s, hss⟩ : ∃ s, x0 * 65536 + x1 * 256 + x2 = s := ⟨_, rfl⟩
  rw [hss] at hor hs
  clear hb hl hcell hx0 hx1 hx2 hss
  have HS := Lib.hid hs
  clear hs
  go_enter Try.func38, Try.ntmps38
  go_wp2
  go_quiet (fail)
  have d0 : (w.drewN nq).cell? ⟨b, off + m, none⟩ = some (.int .u8 (x0 : Int)) := c0
  have d1 : (w.drewN nq).cell? ⟨b, off + m + 1, none⟩ = some (.int .u8 (x1 : Int)) := c1
  have d2 : (w.drewN nq).cell? ⟨b, off + m + 2, none⟩ = some (.int .u8 (x2 : Int)) := c2
  have hb1 : Below w.heap.size w (w.drewN nq) := below_drewN (Below.refl _ _) _
  clear c0 c1 c2
  generalize w.drewN nq = w1 at *
  go_wp2_with fail
  go_still_tail 17, (by kernel_rfl)
  have hb2 : Below w.heap.size w w1.drew := hb1.drew
  change wpList _ _ _ _ _ w1.drew
  clear d0 d1 d2
  generalize w1.drew = w2 at *
  have HR := Lib.hid (hrd'.kept hb2)
  go_wp2_with fail
  rw [hor]
  clear hor
  refine (fits_no _ _ _ _ HR.out HS.out).mono ?_
  rintro e w' ⟨rfl, rfl⟩
  go_wp2
  go_ret2
  exact ⟨rfl, hb2.alloc hb2.size _⟩
/-- Open hands back bytes of its own, and true. -/
def Opened (w : World) (bs : List Nat) (e : Ending) (w' : World) : Prop := ∃ v', e = .returned (.tuple #[v', .bool true]) ∧ OB w' w.heap.size v' bs ∧ Below w.heap.size w w'
set_option maxRecDepth 100000 in
set_option maxHeartbeats 400000 in
theorem open_good (v : Value) (bs : List Nat) (m : Nat) (w : World) (hb : RB w v bs) (hl : bs.length = m + 3) (hm : m ≤ 1000000)
    (hs : onN 11994318 (bs.take m) = bs.getD m 0 * 65536 + bs.getD (m + 1) 0 * 256 + bs.getD (m + 2) 0) :
    Calls Try.prog 38 #[v] w (Opened w (bs.take m)) := by
  have hrd := hb.take m (by omega)
  obtain ⟨b, off, cap, rfl, hc, hcm, hbb, hcell⟩ := hb.at (by omega)
  have hrd' := hrd _ _ _ rfl
  clear hrd
  rw [hl] at hc hcell ⊢
  have c0 := hcell m (by omega)
  have c1 : w.cell? ⟨b, off + m + 1, none⟩ = some (.int .u8 ((bs.getD (m + 1) 0 : Nat) : Int)) := hcell (m + 1) (by omega)
  have c2 : w.cell? ⟨b, off + m + 2, none⟩ = some (.int .u8 ((bs.getD (m + 2) 0 : Nat) : Int)) := hcell (m + 2) (by omega)
  obtain ⟨x0, hx0⟩ : ∃ x, bs.getD m 0 = x := ⟨_, rfl⟩
  obtain ⟨x1, hx1⟩ : ∃ x, bs.getD (m + 1) 0 = x := ⟨_, rfl⟩
  obtain ⟨x2, hx2⟩ : ∃ x, bs.getD (m + 2) 0 = x := ⟨_, rfl⟩
  have l0 : x0 < 256 := by rw [← hx0]; exact hb.at_lt m (by omega)
  have l1 : x1 < 256 := by rw [← hx1]; exact hb.at_lt _ (by omega)
  have l2 : x2 < 256 := by rw [← hx2]; exact hb.at_lt _ (by omega)
  rw [hx0] at c0 hs
  rw [hx1] at c1 hs
  rw [hx2] at c2 hs
  have hor := or3 x0 x1 x2 l0 l1 l2
  obtain ⟨s, hss⟩ : ∃ s, x0 * 65536 + x1 * 256 + x2 = s := ⟨_, rfl⟩
  rw [hss] at hor hs
  clear hb hl hcell hx0 hx1 hx2 hss
  have HS := Lib.hid hs
  clear hs
  go_enter Try.func38, Try.ntmps38
  go_wp2
  go_quiet (fail)
  have d0 : (w.drewN nq).cell? ⟨b, off + m, none⟩ = some (.int .u8 (x0 : Int)) := c0
  have d1 : (w.drewN nq).cell? ⟨b, off + m + 1, none⟩ = some (.int .u8 (x1 : Int)) := c1
  have d2 : (w.drewN nq).cell? ⟨b, off + m + 2, none⟩ = some (.int .u8 (x2 : Int)) := c2
  have hb1 : Below w.heap.size w (w.drewN nq) := below_drewN (Below.refl _ _) _
  clear c0 c1 c2
  generalize w.drewN nq = w1 at *
  go_wp2_with fail
  go_still_tail 17, (by kernel_rfl)
  have hb2 : Below w.heap.size w w1.drew := hb1.drew
  change wpList _ _ _ _ _ w1.drew
  clear d0 d1 d2
  generalize w1.drew = w2 at *
  have HR := Lib.hid (hrd'.kept hb2)
  go_wp2_with fail
  rw [hor]
  clear hor
  refine (fits_yes _ _ _ _ HR.out HS.out).mono ?_
  rintro e w' ⟨rfl, rfl⟩
  have hb3 := hb2.alloc hb2.size (.cells #[.slice (some ⟨b, off, none⟩) m cap] 22)
  have HR3 := Lib.hid (hrd'.kept hb3)
  go_wp2_with (go_at_call 40; refine (clone_any _ _ _ HR3.out).mono ?_; rintro e w' ⟨v', rfl, ho, hb4⟩)
  go_ret2
  exact ⟨v', rfl, ho.mono hb3.size, hb3.trans (hb4.mono hb3.size)⟩
end Go.Proofs.Yteehglaadofidaa
