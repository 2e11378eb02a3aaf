/- Walks of quill's reference: numbers with a sign, flags, strings. -/
import Derived.Test.YtnhaakdjijjinaaQuI
import Derived.Lib.AppendStr
namespace Go.Proofs.Ytnhaakdjijjinaa
open Go.RowKit
theorem OB.byte {w : World} {base : Nat} {a : Option Addr} {n cap k : Nat} {bs : List Nat} (h : OB w base (.slice a n cap) bs) (hn : bs.length = n) (hk : k < n) :
    ∃ g, a = some ⟨g, 0, none⟩ ∧ base ≤ g ∧ w.cell? ⟨g, k, none⟩ = some (.int .u8 ((bs.getD k 0 : Nat) : Int)) ∧ w.frozen? ⟨g, k, none⟩ = false := by
  have h' := h
  rcases h'.2 with ⟨hv, h0⟩ | ⟨g, cap', cur, hv, hg, hh, _⟩
  · omega
  · simp only [Value.slice.injEq] at hv
    obtain ⟨rfl, rfl, rfl⟩ := hv
    refine ⟨g, rfl, hg, ?_, World.ownsRow.frozenAt h k⟩
    rw [World.ownsRow.cellAt h k (by omega)]
    exact cb_get bs k (by omega)
theorem OB.put {w : World} {base g n cap : Nat} {bs : List Nat} (h : OB w base (.slice (some ⟨g, 0, none⟩) n cap) bs) (hn : bs.length = n) (k c : Nat) : OB (w.setCell ⟨g, k, none⟩ (.int .u8 (c : Int))) base (.slice (some ⟨g, 0, none⟩) n cap) (bs.set k c) := by
  subst hn
  unfold OB
  have := (World.ownsRow.stored h k (.int .u8 (c : Int))).1
  rw [List.length_set]
  simpa [cb, List.map_set] using this


theorem num_put (m : Nat) : (num 0 m).set 0 (sz m + 128) = num 128 m := by unfold num; simp; omega

set_option maxHeartbeats 1000000 in
theorem refint_any (z : Int) (w : World) (h0 : -9223372036854775808 ≤ z) (h1 : z ≤ 9223372036854775807) : Calls Try.prog 61 #[.int .i64 z] w (Owned w (intB z)) := by
  by_cases hz : z < 0
  · obtain ⟨m, hm⟩ : ∃ m : Nat, -1 - z = (m : Int) := ⟨(-1 - z).toNat, by omega⟩
    have hb : intB z = num 128 m := by unfold intB; rw [if_pos hz, hm, Int.toNat_natCast]
    have H := Lib.hid (refnum_any m w (by omega))
    have hu : IntKind.u64.wrap (m : Int) = (m : Int) := IntWalk.u64_in _ ⟨by omega, by omega⟩
    have hs8 := sz_le m (by omega)
    have hl9 := num_len 0 m
    obtain ⟨d, hd⟩ : ∃ d, sz m = d := ⟨_, rfl⟩
    have hg0 : (num 0 m).getD 0 0 = d := by unfold num; simp [hd]
    have hp := num_put m
    rw [hd] at hs8 hl9 hp
    rw [hb]
    have HP := Lib.hid hp
    have HG := Lib.hid hg0
    have HL9 := Lib.hid hl9
    have hlt := num_lt' 0 m (by omega) (by omega)
    have HLT := Lib.hid hlt
    clear hb hd hl9 hg0 hp hlt
    go_enter Try.func61, Try.ntmps61
    go_wp2_with (go_at_call 60; refine (H.out).mono ?_; rintro e w' ⟨v', rfl, ho, hB⟩; obtain ⟨a, c, rfl⟩ := (ho.rb HLT.out (by have := HL9.out; omega)).shapeN' rfl; obtain ⟨g, rfl, hg, hcell, hfr⟩ := ho.byte rfl (by have := HL9.out; omega : 0 < (num 0 m).length); rw [HG.out] at hcell; have HO := Lib.hid (ho.put rfl 0 (d + 128)); rw [HP.out] at HO; obtain ⟨L, hL⟩ : ∃ L, (num 0 m).length = L := ⟨_, rfl⟩; rw [hL] at HO HL9 ⊢; have hL1 : 1 ≤ L := (by have := HL9.out; omega); clear hL ho)
    go_ret
    exact ⟨_, rfl, by have := HO.out; rwa [show ((d + 128 : Nat) : Int) = (d : Int) + 128 by omega] at this, hB.setCell (by exact hg) _⟩
  · obtain ⟨m, rfl⟩ : ∃ m : Nat, z = (m : Int) := ⟨z.toNat, by omega⟩
    have hb : intB (m : Int) = num 0 m := by unfold intB; rw [if_neg hz, Int.toNat_natCast]
    have H := Lib.hid (refnum_any m w (by omega))
    have hu : IntKind.u64.wrap (m : Int) = (m : Int) := IntWalk.u64_in _ ⟨by omega, by omega⟩
    have hm0 : (0 : Int) ≤ (m : Int) := by omega
    rw [hb]
    clear hb hz h0 h1
    go_enter Try.func61, Try.ntmps61
    go_wp2_with (go_at_call 60; refine (H.out).mono ?_; rintro e w' ⟨v', rfl, ho, hB⟩)
    go_ret
    exact ⟨_, rfl, ho, hB⟩
theorem refflag_any (x : Bool) (w : World) : Calls Try.prog 62 #[.bool x] w (Owned w (flagB x)) := by
  have H1 := Lib.hid (refnum_any 1 w (by omega))
  have H0 := Lib.hid (refnum_any 0 w (by omega))
  cases x with
  | true =>
    have hb : flagB true = num 0 1 := rfl
    rw [hb]
    clear hb
    go_enter Try.func62, Try.ntmps62
    go_wp2_with (go_at_call 60; refine (H1.out).mono ?_; rintro e w' ⟨v', rfl, ho, hB⟩)
    go_ret
    exact ⟨_, rfl, ho, hB⟩
  | false =>
    have hb : flagB false = num 0 0 := rfl
    rw [hb]
    clear hb
    go_enter Try.func62, Try.ntmps62
    go_wp2_with (go_at_call 60; refine (H0.out).mono ?_; rintro e w' ⟨v', rfl, ho, hB⟩)
    go_ret
    exact ⟨_, rfl, ho, hB⟩
theorem strCells_cb (s : ByteArray) : Lib.strCells s = cb (sB s) := by
  unfold Lib.strCells cb sB
  rw [List.map_map]
  rfl
end Go.Proofs.Ytnhaakdjijjinaa
