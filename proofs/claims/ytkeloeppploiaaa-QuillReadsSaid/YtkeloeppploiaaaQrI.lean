/- Both readers, one thing read: by its kind. -/
import Derived.Test.YtkeloeppploiaaaQrH
namespace Go.Proofs.Ytkeloeppploiaaa
open Go.RowKit

theorem rnum_len {ds rest : List Nat} {n : Nat} {bl : Bool} (h : rnum ds = some (n, bl, rest)) : rest.length ≤ ds.length := by
  cases ds with
  | nil => simp [rnum] at h
  | cons c t =>
    rw [rnum_first] at h
    cases ho : ofN (c % 128) t with
    | none => rw [ho] at h; cases h
    | some p =>
      obtain ⟨n', r'⟩ := p
      rw [ho] at h
      simp only [Option.some.injEq, Prod.mk.injEq] at h
      obtain ⟨_, _, rfl⟩ := h
      unfold ofN at ho
      split at ho
      · cases ho
      · simp only [Option.some.injEq, Prod.mk.injEq] at ho
        obtain ⟨_, rfl⟩ := ho
        rw [List.length_drop, List.length_cons]; omega
theorem rNum_len {ds rest : List Nat} {n most : Nat} (h : rNum most ds = some (n, rest)) : rest.length ≤ ds.length := by
  unfold rNum at h
  split at h
  · rename_i hr
    split at h
    · simp only [Option.some.injEq, Prod.mk.injEq] at h
      obtain ⟨rfl, rfl⟩ := h
      exact rnum_len hr
    · cases h
  · cases h
theorem rInt_len {ds rest : List Nat} {z : Int} (h : rInt ds = some (z, rest)) : rest.length ≤ ds.length := by
  unfold rInt at h
  split at h
  · rename_i hr
    split at h
    · simp only [Option.some.injEq, Prod.mk.injEq] at h
      obtain ⟨_, rfl⟩ := h
      exact rnum_len hr
    · cases h
  · cases h
set_option maxHeartbeats 1000000 in
theorem read1 (b c : Nat) (nn most : Int) (ds : List Nat) (bad : Bool) (w : World) (h : Two w b c ds bad) :
    Calls Try.prog 22 #[.pointer (some ⟨b, 0, none⟩), .pointer (some ⟨c, 0, none⟩), .agg #[.int .i64 1, .int .i64 nn, .int .u64 most]] w (ReadTwo b c w ds) := by
  have hA : Below w.heap.size w (w.alloc (.cells #[.int .i64 1, .int .i64 nn, .int .u64 most] 49)) := (Below.refl _ _).alloc (Nat.le_refl _) _
  have HT := Lib.hid (h.kept hA)
  have HR := Lib.hid (int_rd b ds bad _ (h.kept hA).1)
  have hshape : ∀ v, (v = Value.int .i64 0 ∨ ∃ rest, (rInt ds).map i64v = some (v, rest)) → ∃ x, v = .int .i64 x := by
    rintro v (rfl | ⟨rest, hq⟩)
    · exact ⟨0, rfl⟩
    · obtain ⟨p, _, hp⟩ := Option.map_eq_some_iff.1 hq
      simp only [i64v, Prod.mk.injEq] at hp
      exact ⟨p.1, hp.1.symm⟩
  have hlen : ∀ ds', ((rInt ds).map i64v = none ∧ ds' = [] ∨ ∃ v', (rInt ds).map i64v = some (v', ds')) → ds'.length ≤ ds.length := by
    rintro ds' (⟨_, rfl⟩ | ⟨v', hq⟩)
    · simp
    · obtain ⟨p, hp0, hp⟩ := Option.map_eq_some_iff.1 hq
      simp only [i64v, Prod.mk.injEq] at hp
      obtain ⟨z, rest⟩ := p
      have := rInt_len hp0
      rw [← hp.2]; exact this
  have HS := Lib.hid hshape
  have HL := Lib.hid hlen
  clear h hA hshape hlen
  go_enter Try.func22, Try.ntmps22
  go_wp2_with (first
    | (go_at_call 27; refine HR.out.mono ?_; rintro e w1 hg; obtain ⟨v, ds', bad', rfl, hv, hd', hf1, ht1, hnx⟩ := HT.out.both hg; obtain ⟨x, rfl⟩ := HS.out _ hv; clear hv hg)
    | (go_at_call 50; refine (int_rf c ds bad w1 hf1).mono ?_; rintro e w2 hg2; obtain ⟨rfl, h2, ht2⟩ := hnx _ _ hg2))
  go_ret
  exact ⟨rfl, ds', bad', h2, HL.out _ hd', fun B W hW hB hb hc => ht2.outside (ht1.outside (hW.alloc hB _) (by simp; omega) hb) (Nat.le_trans (by simp; omega) ht1.size) hc⟩
end Go.Proofs.Ytkeloeppploiaaa
