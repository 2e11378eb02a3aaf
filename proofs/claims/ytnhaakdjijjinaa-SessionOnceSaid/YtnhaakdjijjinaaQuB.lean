/- Walks of quill: how many bits a number has. -/
import Derived.Test.YtnhaakdjijjinaaLaws
import Derived.Test.YtnhaakdjijjinaaQuA
import Derived.Lib.Tables
namespace Go.Proofs.Ytnhaakdjijjinaa
open Go.RowKit

theorem tab_get (b : Nat) (h : b < Lib.len8tab.size) : (Lib.len8tab[b]'h).toNat = bitLen b := by
  have all : ∀ j : Fin 256, Lib.len8 ((j.val : Nat) : Int) = ((bitLen j.val : Nat) : Int) := by decide +kernel
  have h2 : b < 256 := by rw [← Lib.len8tab_size]; exact h
  have e := all ⟨b, h2⟩
  simp only [Lib.len8, Int.toNat_natCast, ByteArray.getElem?_lt' _ _ h, Option.getD_some] at e
  omega
theorem tab_way (s n m : Nat) (e : n / 2 ^ s = m) (h0 : m ≠ 0) (h : m < 256) (hs : s ≤ 56) : wrap64 ((s : Int) + wrap64 ((bitLen m : Nat) : Int)) = ((bitLen n : Nat) : Int) := by
  subst e
  have h8 := bitLen_le8 _ h
  rw [bitLen_shift n s h0]
  have e1 : wrap64 ((bitLen (n / 2 ^ s) : Nat) : Int) = ((bitLen (n / 2 ^ s) : Nat) : Int) := IntWalk.wrap64_in _ ⟨by omega, by omega⟩
  rw [e1]
  exact (IntWalk.wrap64_in _ ⟨by omega, by omega⟩).trans (by omega)

set_option maxRecDepth 100000 in
set_option maxHeartbeats 4000000 in
theorem len64_int (x : Int) (w : World) (h0 : 0 ≤ x) (h1 : x ≤ 18446744073709551615) :
    Calls Try.prog 87 #[.int .u64 x] w fun e w' => e = .returned (.int .i64 ((bitLen x.toNat : Nat) : Int)) ∧ w = w' := by
  go_enter Try.func87, Try.ntmps87
  generalize htab : ({ data := _ } : ByteArray) = tab
  have e : tab = Lib.len8tab := htab.symm.trans (by kernel_rfl)
  have hsz : tab.size = 256 := by rw [e]; exact Lib.len8tab_size
  have hg : ∀ (b : Nat) (h : b < tab.size), (tab[b]'h).toNat = bitLen b := by subst e; exact tab_get
  have HG := Lib.hid hg
  clear htab e hg
  go_wp2
  all_goals (go_ret; refine ⟨ret_int ?_, rfl⟩)
  all_goals rw [HG.out]
  all_goals first
    | exact tab_way 56 x.toNat _ (by omega) (by omega) (by omega) (by omega)
    | exact tab_way 48 x.toNat _ (by omega) (by omega) (by omega) (by omega)
    | exact tab_way 40 x.toNat _ (by omega) (by omega) (by omega) (by omega)
    | exact tab_way 32 x.toNat _ (by omega) (by omega) (by omega) (by omega)
    | exact tab_way 24 x.toNat _ (by omega) (by omega) (by omega) (by omega)
    | exact tab_way 16 x.toNat _ (by omega) (by omega) (by omega) (by omega)
    | exact tab_way 8 x.toNat _ (by omega) (by omega) (by omega) (by omega)
    | (have h8 := bitLen_le8 x.toNat (by omega)
       have e1 : wrap64 ((bitLen x.toNat : Nat) : Int) = ((bitLen x.toNat : Nat) : Int) := IntWalk.wrap64_in _ ⟨by omega, by omega⟩
       rw [e1, e1])

theorem len64_any (n : Nat) (w : World) (h : n < 18446744073709551616) :
    Calls Try.prog 87 #[.int .u64 (n : Int)] w fun e w' => e = .returned (.int .i64 ((bitLen n : Nat) : Int)) ∧ w = w' := by
  have := len64_int (n : Int) w (by omega) (by omega)
  rwa [Int.toNat_natCast] at this
end Go.Proofs.Ytnhaakdjijjinaa
