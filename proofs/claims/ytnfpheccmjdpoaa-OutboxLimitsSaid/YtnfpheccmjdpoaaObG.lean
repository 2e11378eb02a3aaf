/- The outbox: a notice is taken out of the room. -/
import Derived.Test.YtnfpheccmjdpoaaObF
import Derived.Deep.RegionLaw
import Derived.Lib.SliceRun
namespace Go.Proofs.Ytnfpheccmjdpoaa
open Go.RowKit
def flat (l : List Nt) : List Value := l.flatMap Nt.L
theorem flat_len : ∀ l : List Nt, (flat l).length = l.length * 9
  | [] => rfl
  | x :: r => by
    have h9 : x.L.length = 9 := rfl
    have ih := flat_len r
    unfold flat at ih ⊢
    rw [List.flatMap_cons, List.length_append, ih, h9, List.length_cons]
    omega
theorem flat_one : ∀ l : List Nt, ∀ v ∈ flat l, v.oneCell' = true := by
  intro l v hv
  obtain ⟨x, _, hx⟩ := List.mem_flatMap.1 hv
  exact nt_one x v hx
theorem flat_get : ∀ (l : List Nt) (i : Nat) (h : i < l.length) (c : Nat) (v : Value), l[i].L[c]? = some v → (flat l)[i * 9 + c]? = some v
  | x :: r, 0, _, c, v, hv => by
    have hc : c < x.L.length := (List.getElem?_eq_some_iff.1 hv).1
    unfold flat
    rw [List.flatMap_cons, Nat.zero_mul, Nat.zero_add, List.getElem?_append_left hc]
    exact hv
  | x :: r, i + 1, h, c, v, hv => by
    have h9 : x.L.length = 9 := rfl
    have ih := flat_get r i (by simpa using h) c v (by simpa using hv)
    unfold flat at ih ⊢
    rw [List.flatMap_cons, List.getElem?_append_right (by rw [h9]; omega), h9]
    have e : (i + 1) * 9 + c - 9 = i * 9 + c := by omega
    rw [e]
    exact ih
theorem rows_range {w : World} {b : Nat} : ∀ (l : List Nt) (o : Nat), (∀ i (h : i < l.length), NtAt w b (o + i * 9) l[i]) → w.rangeAt b o (flat l)
  | [], _, _ => fun j v hv => by simp [flat] at hv
  | x :: r, o, h => by
    have h9 : x.L.length = 9 := rfl
    have h0 := nt_range (h 0 (by simp))
    have ih := rows_range r (o + 9) (fun i hi => by
      have := h (i + 1) (by simpa using hi)
      have e : o + (i + 1) * 9 = o + 9 + i * 9 := by omega
      rw [e] at this
      simpa using this)
    intro j v hv
    unfold flat at hv
    rw [List.flatMap_cons] at hv
    by_cases hj : j < 9
    · rw [List.getElem?_append_left (by rw [h9]; exact hj)] at hv
      have := h0 j v hv
      simpa using this
    · rw [List.getElem?_append_right (by rw [h9]; omega), h9] at hv
      have := ih (j - 9) v hv
      have e : o + 9 + (j - 9) = o + j := by omega
      rw [e] at this
      exact this
theorem range_rows {w : World} {b o : Nat} {l : List Nt} (h : w.rangeAt b o (flat l)) (i : Nat) (hi : i < l.length) : NtAt w b (o + i * 9) l[i] := by
  refine nt_of_range (fun c v hv => ?_)
  have := h (i * 9 + c) v (flat_get l i hi c v hv)
  have e : o + (i * 9 + c) = o + i * 9 + c := by omega
  rwa [e] at this
theorem nt_infoW : (Try.prog.info? 36).map (fun i => (i.zero, i.size, i.bytes)) = some (some (.agg #[.int .u64 0, .int .u64 0, .int .i64 0, .int .i64 0, .int .i64 0, .int .i64 0, .int .i64 0, .int .i64 0, .int .i64 0]), 9, 72) := by kernel_rfl
/-- The room, where one notice is moved over. -/
theorem BX.moved {w : World} {b : Nat} {last : Int} {l : List Nt} (h : BX w b last l) (h8 : l.length = 128) (k : Nat) (hk : k < 128) : BXm (w.setCells b (2 + k * 9) (flat (l.drop (k + 1)))) b last 128 (l.eraseIdx k) := by
  have hl : (flat (l.drop (k + 1))).length = (128 - (k + 1)) * 9 := by rw [flat_len, List.length_drop, h8]
  have hs := World.rangeAt_setCells_same w b (2 + k * 9) (flat (l.drop (k + 1))) (there_part h.th (by rw [hl]; omega))
  have hle : (l.eraseIdx k).length = 127 := by rw [List.length_eraseIdx, h8]; simp [hk]
  have h1 := h.c1
  rw [h8] at h1
  refine ⟨cell_apart h.c0 (.inl (by omega)), cell_apart h1 (.inl (by omega)), cell_apart h.c2 (.inr (by rw [hl]; omega)), fun i hi => ?_, World.there_setCells h.th b _ _, by omega⟩
  rw [List.getElem_eraseIdx]
  split
  · rename_i hik
    exact nt_of_range (World.rangeAt_setCells_apart (nt_range (h.row i (by omega))) b _ _ (.inr (.inl (by have : l[i].L.length = 9 := rfl; rw [this]; omega))))
  · rename_i hik
    have h2 := range_rows hs (i - k) (by rw [List.length_drop]; omega)
    rw [List.getElem_drop] at h2
    have e1 : 2 + k * 9 + (i - k) * 9 = 2 + i * 9 := by omega
    have e2 : k + 1 + (i - k) = i + 1 := by omega
    rw [e1] at h2
    simpa only [e2] using h2
theorem BXm.cleared {w : World} {b : Nat} {last : Int} {l : List Nt} (h : BXm w b last 128 l) (hl : l.length = 127) (vs : List Value) (hv : vs.length = 9) : BXm (w.setCells b 1145 vs) b last 128 l :=
  ⟨cell_apart h.c0 (.inl (by omega)), cell_apart h.c1 (.inl (by omega)), cell_apart h.c2 (.inr (by omega)), fun k hk => nt_of_range (World.rangeAt_setCells_apart (nt_range (h.row k hk)) b _ _ (.inr (.inl (by have : l[k].L.length = 9 := rfl; omega)))), World.there_setCells h.th b _ _, h.len⟩
theorem run_clear9 (w : World) (ty : TypeId) (b o c : Nat) (ht : w.there b o 9) : (Builtin.clear_ #[23] ty #[.slice (some ⟨b, o, none⟩) 1 c]).run Try.prog w = .ok (.tuple #[]) (w.setCells b o [.int .u64 0, .int .u64 0, .int .i64 0, .int .i64 0, .int .i64 0, .int .i64 0, .int .i64 0, .int .i64 0, .int .i64 0]) := by
  have hu : Try.prog.underlying 23 = some (.slice 36) := by kernel_rfl
  have hv : ∀ W, (zeroValue 36).run Try.prog W = .ok (.agg #[.int .u64 0, .int .u64 0, .int .i64 0, .int .i64 0, .int .i64 0, .int .i64 0, .int .i64 0, .int .i64 0, .int .i64 0]) W := fun W => by go_simp
  have hzc : (Builtin.zeroCells (Value.agg #[.int .u64 0, .int .u64 0, .int .i64 0, .int .i64 0, .int .i64 0, .int .i64 0, .int .i64 0, .int .i64 0, .int .i64 0]).cells 1).toList = [.int .u64 0, .int .u64 0, .int .i64 0, .int .i64 0, .int .i64 0, .int .i64 0, .int .i64 0, .int .i64 0, .int .i64 0] := by simp [Builtin.zeroCells, Value.cells, Array.range, List.range, List.range.loop]
  have hst := run_storeCells_cells (P := Try.prog) b o [.int .u64 0, .int .u64 0, .int .i64 0, .int .i64 0, .int .i64 0, .int .i64 0, .int .i64 0, .int .i64 0, .int .i64 0] 0 w (fun j hj => (ht j (by simpa using hj)).1) (fun j hj => (ht j (by simpa using hj)).2) (by intro v hv'; simp only [List.mem_cons, List.not_mem_nil, or_false] at hv'; rcases hv' with rfl | rfl | rfl | rfl | rfl | rfl | rfl | rfl | rfl <;> rfl)
  simp only [Nat.add_zero] at hst
  simp [Builtin.clear_, run_underlying hu, hv, hzc, hst]
set_option maxRecDepth 100000 in
set_option maxHeartbeats 8000000 in
theorem del_box (b : Nat) (last : Int) (l : List Nt) (k : Nat) (w : World) (h : BX w b last l) (h8 : l.length = 128) (hk : k < 128) :
    Calls Try.prog 57 #[.slice (some ⟨b, 2, none⟩) 128 128, .int .i64 (k : Int), .int .i64 ((k : Int) + 1)] w fun e w' => e = .returned (.slice (some ⟨b, 2, none⟩) 127 128) ∧ BXm w' b last 128 (l.eraseIdx k) ∧ OnlyB b w w' := by
  obtain ⟨i0, hi0, hz0, hz1, hz2⟩ := info_parts nt_infoW
  obtain ⟨news, hnews⟩ : ∃ news, news = flat (l.drop (k + 1)) := ⟨_, rfl⟩
  have hlen : news.length = (128 - (k + 1)) * 9 := by rw [hnews, flat_len, List.length_drop, h8]
  have hr : w.rangeAt b (2 + (k + 1) * 9) news := by
    rw [hnews]
    refine rows_range _ _ (fun i hi => ?_)
    rw [List.length_drop, h8] at hi
    have := h.row (k + 1 + i) (by omega)
    have e : 2 + (k + 1 + i) * 9 = 2 + (k + 1) * 9 + i * 9 := by omega
    rw [e] at this
    rw [List.getElem_drop]
    exact this
  obtain ⟨A, hA, hsrc⟩ : ∃ A : Addr, (if k = 127 then some (⟨b, 2, none⟩ : Addr) else some ⟨b, 2 + (k + 1) * 9, none⟩) = some A ∧ Hid (∀ t u, news[t]? = some u → w.drew.cell? (A.add t) = some u) := by
    by_cases h1 : k = 127
    · refine ⟨⟨b, 2, none⟩, by simp [h1], Lib.hid (fun t u hu => ?_)⟩
      have h0 : news.length = 0 := by rw [hlen]; omega
      rw [List.length_eq_zero_iff.1 h0] at hu
      simp at hu
    · refine ⟨⟨b, 2 + (k + 1) * 9, none⟩, by simp [h1], Lib.hid (fun t u hu => ?_)⟩
      rw [Addr.add_lit]
      exact hr t u hu
  have s1 : Hid (news.length = (127 - k) * 9) := Lib.hid (by rw [hlen]; omega)
  have s2 : Hid (∀ u ∈ news, u.oneCell' = true) := Lib.hid (by rw [hnews]; exact flat_one _)
  have s3 : Hid (∀ t, t < news.length → (w.drew.cell? ⟨b, 2 + k * 9 + t, none⟩).isSome = true ∧ w.drew.frozen? ⟨b, 2 + k * 9 + t, none⟩ = false) := Lib.hid (fun t ht => by
    rw [hlen] at ht
    have := h.th (2 + k * 9 + t) (by omega)
    rwa [Nat.zero_add] at this)
  obtain ⟨W1, hW1⟩ : ∃ W1, W1 = w.drew.setCells b (2 + k * 9) news := ⟨_, rfl⟩
  have hm1 : BXm W1 b last 128 (l.eraseIdx k) := by rw [hW1, hnews]; exact BX.moved (w := w.drew) (h.kept rfl) h8 k hk
  have HM1 := Lib.hid hm1
  have hcl : ∀ ty c, (Builtin.clear_ #[23] ty #[.slice (some ⟨b, 1145, none⟩) 1 c]).run Try.prog W1 = .ok (.tuple #[]) (W1.setCells b 1145 [.int .u64 0, .int .u64 0, .int .i64 0, .int .i64 0, .int .i64 0, .int .i64 0, .int .i64 0, .int .i64 0, .int .i64 0]) := fun ty c => run_clear9 W1 ty b 1145 c (there_part hm1.th (by omega))
  have HO : Hid (OnlyB b w (W1.setCells b 1145 [.int .u64 0, .int .u64 0, .int .i64 0, .int .i64 0, .int .i64 0, .int .i64 0, .int .i64 0, .int .i64 0, .int .i64 0])) := Lib.hid (OnlyB.set (by rw [hW1]; exact OnlyB.set (Only.drew (Only.refl _ w)) _ _) _ _)
  have HL : Hid ((l.eraseIdx k).length = 127) := Lib.hid (by rw [List.length_eraseIdx, h8]; simp [hk])
  have hW := Lib.hid hW1
  have hk0 : (0 : Int) ≤ (k : Int) := by omega
  have hk1 : (0 : Int) ≤ (k : Int) + 1 := by omega
  have hk2 : (k : Int) + 1 ≤ 128 := by omega
  have hk3 : (k : Int) ≤ 128 := by omega
  have hk4 : (k : Int) ≤ (k : Int) + 1 := by omega
  have dk : decide ((k : Int) = (k : Int) + 1) = false := decide_eq_false (by omega)
  have hus : Try.prog.underlying 23 = some (.slice 36) := by kernel_rfl
  clear hW1 hm1 h hr hnews hlen
  go_enter Try.func57, Try.ntmps57
  go_wp2_with fail
  go_region_law (refine step_append_room rfl (.tmp 22) (.tmp 25) 23 rfl 36 i0 9 hus hi0 hz1 b 2 k 128 (by simp [Act.eval, Act.put]) A (127 - k) (127 - k) news (by simp [Act.eval, Act.put, hA]) s1.out hsrc.out s2.out (by omega) s3.out ?_; rw [← hW.out])
  rw [show k + (127 - k) = 127 from by omega]
  clear hsrc s1 s2 s3 hA
  go_wp2_with fail
  go_ret
  exact ⟨rfl, HM1.out.cleared HL.out _ rfl, HO.out⟩
end Go.Proofs.Ytnfpheccmjdpoaa
