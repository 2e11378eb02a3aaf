/- Both readers, one thing read: Num. -/
import Derived.Test.YtkeloeppploiaaaQrJ
namespace Go.Proofs.Ytkeloeppploiaaa
open Go.RowKit

set_option maxHeartbeats 2000000 in
theorem read0 (b c most : Nat) (kd nn : Int) (ds : List Nat) (bad : Bool) (w : World) (h : Two w b c ds bad) (h1 : kd ≠ 1) (h2 : kd ≠ 2) (h3 : kd ≠ 3) (h4 : kd ≠ 4) (h5 : kd ≠ 5) :
    Calls Try.prog 22 #[.pointer (some ⟨b, 0, none⟩), .pointer (some ⟨c, 0, none⟩), .agg #[.int .i64 kd, .int .i64 nn, .int .u64 (most : Int)]] w (ReadTwo b c w ds) := by
  have hA : Below w.heap.size w (w.alloc (.cells #[.int .i64 kd, .int .i64 nn, .int .u64 (most : Int)] 49)) := (Below.refl _ _).alloc (Nat.le_refl _) _
  have hbl : b < w.heap.size := by obtain ⟨v, g, _⟩ := h.1; exact lt_of_block g
  have hcl : c < w.heap.size := by obtain ⟨v, g, _⟩ := h.2.1; exact lt_of_block g
  have f : (w.alloc (.cells #[.int .i64 kd, .int .i64 nn, .int .u64 (most : Int)] 49)).cell? ⟨w.heap.size, 2, none⟩ = some (.int .u64 (most : Int)) := by simp
  have hca : w.heap.size < (w.alloc (.cells #[.int .i64 kd, .int .i64 nn, .int .u64 (most : Int)] 49)).heap.size := by simp
  have hT := h.kept hA
  have BH : ∀ (B : Nat) (W : World), Below B W w → B ≤ w.heap.size → Below B W (w.alloc (.cells #[.int .i64 kd, .int .i64 nn, .int .u64 (most : Int)] 49)) := fun B W hW hB => hW.alloc hB _
  have hlen : ∀ ds', ((rNum most ds).map u64v = none ∧ ds' = [] ∨ ∃ v', (rNum most ds).map u64v = some (v', ds')) → ds'.length ≤ ds.length := by
    rintro ds' (⟨_, rfl⟩ | ⟨v', hq⟩)
    · simp
    · obtain ⟨p, hp0, hp⟩ := Option.map_eq_some_iff.1 hq
      simp only [u64v, Prod.mk.injEq] at hp
      obtain ⟨z, rest⟩ := p
      have := rNum_len hp0
      rw [← hp.2]; exact this
  have hshape : ∀ v, (v = Value.int .u64 0 ∨ ∃ rest, (rNum most ds).map u64v = some (v, rest)) → ∃ x, v = .int .u64 x := by
    rintro v (rfl | ⟨rest, hq⟩)
    · exact ⟨0, rfl⟩
    · obtain ⟨p, _, hp⟩ := Option.map_eq_some_iff.1 hq
      simp only [u64v, Prod.mk.injEq] at hp
      exact ⟨_, hp.1.symm⟩
  have HS := Lib.hid hshape
  have HL := Lib.hid hlen
  have e1 : decide (kd = 1) = false := by simp [h1]
  have e2 : decide (kd = 2) = false := by simp [h2]
  have e3 : decide (kd = 3) = false := by simp [h3]
  have e4 : decide (kd = 4) = false := by simp [h4]
  have e5 : decide (kd = 5) = false := by simp [h5]
  clear hlen hshape h hA
  go_enter Try.func22, Try.ntmps22
  go_wp2_with fail
  generalize w.alloc (.cells #[.int .i64 kd, .int .i64 nn, .int .u64 (most : Int)] 49) = wa at *
  have hT2 : Two wa.drew b c ds bad := hT.kept (Below.refl _ _).drew
  have fd : wa.drew.cell? ⟨w.heap.size, 2, none⟩ = some (.int .u64 (most : Int)) := f
  have HT := Lib.hid hT2
  have HR := Lib.hid (num_rd b most ds bad _ hT2.1)
  have F1 : ∀ w1, Rd b wa.drew w1 → w1.cell? ⟨w.heap.size, 2, none⟩ = some (.int .u64 (most : Int)) := fun w1 ht => (ht.cell (p := ⟨w.heap.size, 2, none⟩) hca (by simp; omega) (by simp [Value.ownBlock])).trans f
  have F2 : ∀ w1 w2, Rd b wa.drew w1 → Rd c w1 w2 → w2.cell? ⟨w.heap.size, 2, none⟩ = some (.int .u64 (most : Int)) := fun w1 w2 ht ht2 => (ht2.cell (p := ⟨w.heap.size, 2, none⟩) (Nat.lt_of_lt_of_le hca ht.size) (by simp; omega) (by simp [Value.ownBlock])).trans (F1 w1 ht)
  have HF1 := Lib.hid F1
  have HF2 := Lib.hid F2
  have HB := Lib.hid BH
  have HCA := Lib.hid hca
  clear F1 F2 BH hT hT2 hca hbl hcl
  go_region_with (first
    | (go_at_call 31; refine HR.out.mono ?_; rintro e w1 hg; obtain ⟨v, ds', bad', rfl, hv, hd', hf1, ht1, hnx⟩ := HT.out.both hg; obtain ⟨x, rfl⟩ := HS.out _ hv; have g1 := HF1.out w1 ht1; clear hv hg)
    | (go_at_call 56; refine (num_rf c most ds bad w1 hf1).mono ?_; rintro e w2 hg2; obtain ⟨rfl, k2, ht2⟩ := hnx _ _ hg2; have g2 := HF2.out w1 w2 ht1 ht2))
  all_goals (go_wp2; go_ret; exact ⟨rfl, ds', bad', k2, HL.out _ hd', fun B W hW hB hb hc => ht2.outside (ht1.outside (HB.out B W hW hB).drew (by have := HCA.out; show B ≤ wa.heap.size; omega) hb) (Nat.le_trans (by have := HCA.out; show B ≤ wa.drew.heap.size; exact Nat.le_trans hB (Nat.le_of_lt this)) ht1.size) hc⟩)
end Go.Proofs.Ytkeloeppploiaaa
