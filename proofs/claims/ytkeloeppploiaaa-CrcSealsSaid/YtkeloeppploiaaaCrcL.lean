/- The walk of CrcSeals. -/
import Derived.Test.YtkeloeppploiaaaCrcK
import Derived.Test.YtkeloeppploiaaaCrcH
namespace Go.Proofs.Ytkeloeppploiaaa
open Go.RowKit

theorem str_list (a : List Nat) : (str a).toList = a.map UInt8.ofNat := by
  rw [ByteArray.toList_eq]; rfl
theorem ofNat_inj : ∀ (a b : List Nat), (∀ c ∈ a, c < 256) → (∀ c ∈ b, c < 256) → a.map UInt8.ofNat = b.map UInt8.ofNat → a = b
  | [], [], _, _, _ => rfl
  | [], _ :: _, _, _, h => by simp at h
  | _ :: _, [], _, _, h => by simp at h
  | x :: a, y :: b, ha, hb, h => by
    simp only [List.map_cons, List.cons.injEq] at h
    have h1 := congrArg UInt8.toNat h.1
    have hx := ha x (by simp)
    have hy := hb y (by simp)
    rw [UInt8.toNat_ofNat', UInt8.toNat_ofNat'] at h1
    have hxy : x = y := by omega
    rw [hxy, ofNat_inj a b (fun c hc => ha c (by simp [hc])) (fun c hc => hb c (by simp [hc])) h.2]
theorem str_ne {a b : List Nat} (ha : ∀ c ∈ a, c < 256) (hb : ∀ c ∈ b, c < 256) (h : a ≠ b) : ((str a).toList == (str b).toList) = false := by
  rw [str_list, str_list]
  simpa using fun e => h (ofNat_inj a b ha hb e)
theorem fits_iff (bs : List Nat) (m : Nat) (hl : bs.length = m + 3) (hb : ∀ c ∈ bs, c < 256) :
    onN 11994318 (bs.take m) = bs.getD m 0 * 65536 + bs.getD (m + 1) 0 * 256 + bs.getD (m + 2) 0 ↔ bs.take m ++ top (bs.take m) = bs := by
  have hbi : ∀ i, i < bs.length → bs.getD i 0 < 256 := fun i hi => hb _ (by simp [hi])
  have h0 := hbi m (by omega)
  have h1 := hbi (m + 1) (by omega)
  have h2 := hbi (m + 2) (by omega)
  constructor
  · intro e
    have hs := split3 bs m hl
    have ht : top (bs.take m) = [bs.getD m 0, bs.getD (m + 1) 0, bs.getD (m + 2) 0] := by
      unfold top
      rw [e]
      generalize bs.getD m 0 = x0 at *
      generalize bs.getD (m + 1) 0 = x1 at *
      generalize bs.getD (m + 2) 0 = x2 at *
      have e0 : (x0 * 65536 + x1 * 256 + x2) / 65536 = x0 := by omega
      have e1 : (x0 * 65536 + x1 * 256 + x2) / 256 % 256 = x1 := by omega
      have e2 : (x0 * 65536 + x1 * 256 + x2) % 256 = x2 := by omega
      rw [e0, e1, e2]
    rw [ht]; exact hs.symm
  · intro e
    have hlt : (bs.take m).length = m := by simp; omega
    have := top_fits (bs.take m)
    rw [hlt, e] at this
    exact this

set_option maxHeartbeats 400000 in
theorem seals_big (a0 b0 : Option Addr) (n1 n2 c1 c2 : Nat) (w : World) (h1 : n1 ≤ 9223372036854775807) (h2 : n2 ≤ 9223372036854775807) (h : 3000 < n1 ∨ 3000 < n2) :
    Calls Try.prog 9 #[.slice a0 n1 c1, .slice b0 n2 c2] w fun e w' => e = .returned (.bool true) ∧ Below w.heap.size w w' := by
  by_cases h3 : 3000 < n1
  · have hd : decide (3000 < (n1 : Int)) = true := by simp; omega
    go_enter Try.func9, Try.ntmps9
    go_wp2_with (go_at_call 32; refine (lives2 _).mono ?_; rintro e w' ⟨rfl, hb⟩)
    go_ret
    exact ⟨rfl, hb⟩
  · have hd : decide (3000 < (n1 : Int)) = false := by simp; omega
    have hd2 : decide (3000 < (n2 : Int)) = true := by simp; omega
    go_enter Try.func9, Try.ntmps9
    go_wp2_with (go_at_call 32; refine (lives2 _).mono ?_; rintro e w' ⟨rfl, hb⟩)
    go_ret
    exact ⟨rfl, hb⟩

end Go.Proofs.Ytkeloeppploiaaa
