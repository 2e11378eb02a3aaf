/- Both readers, one thing read: Flag, Fail, Num. -/
import Derived.Test.YtkeloeppploiaaaQrI
namespace Go.Proofs.Ytkeloeppploiaaa
open Go.RowKit

set_option maxHeartbeats 1000000 in
theorem read2 (b c : Nat) (nn most : Int) (ds : List Nat) (bad : Bool) (w : World) (h : Two w b c ds bad) :
    Calls Try.prog 22 #[.pointer (some ⟨b, 0, none⟩), .pointer (some ⟨c, 0, none⟩), .agg #[.int .i64 2, .int .i64 nn, .int .u64 most]] w (ReadTwo b c w ds) := by
  have hA : Below w.heap.size w (w.alloc (.cells #[.int .i64 2, .int .i64 nn, .int .u64 most] 49)) := (Below.refl _ _).alloc (Nat.le_refl _) _
  have HT := Lib.hid (h.kept hA)
  have HR := Lib.hid (flag_rd b ds bad _ (h.kept hA).1)
  have hshape : ∀ v, (v = Value.bool false ∨ ∃ rest, (rFlag ds).map boolv = some (v, rest)) → ∃ x, v = .bool x := by
    rintro v (rfl | ⟨rest, hq⟩)
    · exact ⟨false, rfl⟩
    · obtain ⟨p, _, hp⟩ := Option.map_eq_some_iff.1 hq
      simp only [boolv, Prod.mk.injEq] at hp
      exact ⟨p.1, hp.1.symm⟩
  have hlen : ∀ ds', ((rFlag ds).map boolv = none ∧ ds' = [] ∨ ∃ v', (rFlag ds).map boolv = some (v', ds')) → ds'.length ≤ ds.length := by
    rintro ds' (⟨_, rfl⟩ | ⟨v', hq⟩)
    · simp
    · obtain ⟨p, hp0, hp⟩ := Option.map_eq_some_iff.1 hq
      unfold rFlag at hp0
      obtain ⟨q, hq0, hq1⟩ := Option.map_eq_some_iff.1 hp0
      simp only [boolv, Prod.mk.injEq] at hp
      obtain ⟨z, rest⟩ := q
      have := rNum_len hq0
      subst hq1
      rw [← hp.2]; exact this
  have HS := Lib.hid hshape
  have HL := Lib.hid hlen
  clear h hA hshape hlen
  go_enter Try.func22, Try.ntmps22
  go_wp2_with (first
    | (go_at_call 28; refine HR.out.mono ?_; rintro e w1 hg; obtain ⟨v, ds', bad', rfl, hv, hd', hf1, ht1, hnx⟩ := HT.out.both hg; obtain ⟨x, rfl⟩ := HS.out _ hv; clear hv hg)
    | (go_at_call 51; refine (flag_rf c ds bad w1 hf1).mono ?_; rintro e w2 hg2; obtain ⟨rfl, h2, ht2⟩ := hnx _ _ hg2))
  go_ret
  exact ⟨rfl, ds', bad', h2, HL.out _ hd', fun B W hW hB hb hc => ht2.outside (ht1.outside (hW.alloc hB _) (by simp; omega) hb) (Nat.le_trans (by simp; omega) ht1.size) hc⟩
set_option maxHeartbeats 1000000 in
theorem read5 (b c : Nat) (nn most : Int) (ds : List Nat) (bad : Bool) (w : World) (h : Two w b c ds bad) :
    Calls Try.prog 22 #[.pointer (some ⟨b, 0, none⟩), .pointer (some ⟨c, 0, none⟩), .agg #[.int .i64 5, .int .i64 nn, .int .u64 most]] w (ReadTwo b c w ds) := by
  have hA : Below w.heap.size w (w.alloc (.cells #[.int .i64 5, .int .i64 nn, .int .u64 most] 49)) := (Below.refl _ _).alloc (Nat.le_refl _) _
  have HT := Lib.hid (h.kept hA)
  have HR := Lib.hid (fail_rd b ds bad _ (h.kept hA).1)
  clear h hA
  go_enter Try.func22, Try.ntmps22
  go_wp2_with (first
    | (go_at_call 54; refine HR.out.mono ?_; rintro e w1 ⟨rfl, hr1, ht1⟩; have hf1 := HT.out.2.1.besides HT.out.1 ht1 (fun e => HT.out.2.2 e.symm))
    | (go_at_call 55; refine (fail_rf c ds bad w1 hf1).mono ?_; rintro e w2 ⟨rfl, hf2, ht2⟩))
  go_ret
  exact ⟨rfl, [], true, ⟨hr1.besides hf1 ht2 HT.out.2.2, hf2, HT.out.2.2⟩, by simp, fun B W hW hB hb hc => ht2.outside (ht1.outside (hW.alloc hB _) (by simp; omega) hb) (Nat.le_trans (by simp; omega) ht1.size) hc⟩
end Go.Proofs.Ytkeloeppploiaaa
