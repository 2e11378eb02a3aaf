/- Both readers, one thing read: Raw's walk. -/
import Derived.Test.YtkeloeppploiaaaQrM
namespace Go.Proofs.Ytkeloeppploiaaa
open Go.RowKit

set_option maxHeartbeats 2000000 in
theorem read4 (b c : Nat) (nn most : Int) (ds : List Nat) (bad : Bool) (w : World) (h : Two w b c ds bad) (hn : nn ≤ 9223372036854775807) (hds : ds.length ≤ 3000) :
    Calls Try.prog 22 #[.pointer (some ⟨b, 0, none⟩), .pointer (some ⟨c, 0, none⟩), .agg #[.int .i64 4, .int .i64 nn, .int .u64 most]] w (ReadTwo b c w ds) := by
  have hA : Below w.heap.size w (w.alloc (.cells #[.int .i64 4, .int .i64 nn, .int .u64 most] 49)) := (Below.refl _ _).alloc (Nat.le_refl _) _
  have hbl : b < w.heap.size := by obtain ⟨v, g, _⟩ := h.1; exact lt_of_block g
  have hcl : c < w.heap.size := by obtain ⟨v, g, _⟩ := h.2.1; exact lt_of_block g
  have f : (w.alloc (.cells #[.int .i64 4, .int .i64 nn, .int .u64 most] 49)).cell? ⟨w.heap.size, 1, none⟩ = some (.int .i64 nn) := by simp
  have hca : w.heap.size < (w.alloc (.cells #[.int .i64 4, .int .i64 nn, .int .u64 most] 49)).heap.size := by simp
  have hT := h.kept hA
  have BH : ∀ (B : Nat) (W : World), Below B W w → B ≤ w.heap.size → Below B W (w.alloc (.cells #[.int .i64 4, .int .i64 nn, .int .u64 most] 49)) := fun B W hW hB => hW.alloc hB _
  have HN := Lib.hid hn
  clear h hA
  go_enter Try.func22, Try.ntmps22
  go_wp2_with fail
  generalize w.alloc (.cells #[.int .i64 4, .int .i64 nn, .int .u64 most] 49) = wa at *
  have hT2 : Two wa.drew b c ds bad := hT.kept (Below.refl _ _).drew
  have fd : wa.drew.cell? ⟨w.heap.size, 1, none⟩ = some (.int .i64 nn) := f
  have HT := Lib.hid hT2
  have HR := Lib.hid (raw_rr b nn ds bad _ hT2.1 hn hds)
  have hxl := rawX_len nn ds bad
  have HQ : ∀ w1, RF w1 c ds bad → Calls Try.prog 53 #[.pointer (some ⟨c, 0, none⟩), .int .i64 nn] w1 fun e w' => ∃ v, e = .returned v ∧ RB w' v (rawX nn ds bad).1 ∧ RF w' c (rawX nn ds bad).2.1 (rawX nn ds bad).2.2 ∧ Rd c w1 w' := fun w1 h1 => raw_rf c nn ds bad w1 h1 hds
  generalize rawX nn ds bad = X at *
  obtain ⟨xs, ds', bad'⟩ := X
  dsimp only at HR HQ hxl
  obtain ⟨A, hA⟩ : ∃ A, xs.length = A := ⟨_, rfl⟩
  have HAL := Lib.hid hA
  have HQH := Lib.hid HQ
  clear hA HQ
  have F1 : ∀ w1, Rd b wa.drew w1 → w1.cell? ⟨w.heap.size, 1, none⟩ = some (.int .i64 nn) := fun w1 ht => (ht.cell (p := ⟨w.heap.size, 1, none⟩) hca (by simp; omega) (by simp [Value.ownBlock])).trans f
  have F2 : ∀ w1 w2, Rd b wa.drew w1 → Rd c w1 w2 → w2.cell? ⟨w.heap.size, 1, none⟩ = some (.int .i64 nn) := fun w1 w2 ht ht2 => (ht2.cell (p := ⟨w.heap.size, 1, none⟩) (Nat.lt_of_lt_of_le hca ht.size) (by simp; omega) (by simp [Value.ownBlock])).trans (F1 w1 ht)
  have HF1 := Lib.hid F1
  have HF2 := Lib.hid F2
  have HB := Lib.hid BH
  have HCA := Lib.hid hca
  clear F1 F2 BH hT hT2 hca hbl hcl
  go_region_with (first
    | (go_at_call 30; refine HR.out.mono ?_; rintro e w1 ⟨y1, rfl, hy1, hr1, ht1⟩; have hf1 := HT.out.2.1.besides HT.out.1 ht1 (fun e => HT.out.2.2 e.symm); have g1 := HF1.out w1 ht1; have s1 := rb_string (P := Try.prog) hy1 27 9 5 Try.underlying27 Try.underlying5 Try.underlying9; obtain ⟨a1, c1, rfl⟩ := hy1.shapeN' HAL.out)
    | (go_at_call 53; refine (HQH.out w1 hf1).mono ?_; rintro e w2 ⟨y2, rfl, hy2, hf2, ht2⟩; have g2 := HF2.out w1 w2 ht1 ht2; have s2 := rb_string (P := Try.prog) hy2 27 9 5 Try.underlying27 Try.underlying5 Try.underlying9; have hy12 := (by obtain ⟨vv, gg1, gg2, _⟩ := hf1; exact hy1.beyond gg1 gg2 ht2 : RB w2 _ xs); have s12 := rb_string (P := Try.prog) hy12 27 9 5 Try.underlying27 Try.underlying5 Try.underlying9; obtain ⟨a2, c2, rfl⟩ := hy2.shapeN' HAL.out))
  all_goals (go_wp2; go_ret; exact ⟨rfl, ds', bad', ⟨hr1.besides hf1 ht2 HT.out.2.2, hf2, HT.out.2.2⟩, hxl, fun B W hW hB hb hc => ht2.outside (ht1.outside (HB.out B W hW hB).drew (by have := HCA.out; show B ≤ wa.heap.size; omega) hb) (Nat.le_trans (by have := HCA.out; show B ≤ wa.drew.heap.size; exact Nat.le_trans hB (Nat.le_of_lt this)) ht1.size) hc⟩)
end Go.Proofs.Ytkeloeppploiaaa
