/- Segments: the reference's Same, of equal rows. -/
import Derived.Test.YthefnakbpalecaaSgK
import Derived.Deep.DeepCutAuto
namespace Go.Proofs.Ythefnakbpalecaa
open Go.RowKit
theorem EO.at {w : World} {base : Nat} {va : Option Addr} {n c : Nat} {L : List (Ent × Value)} (h : EO w base (.slice va n c) L) (i : Nat) (hi : i < n) :
    ∃ g p, va = some ⟨g, 0, none⟩ ∧ L[i]? = some p ∧ n = L.length ∧ w.cell? ⟨g, i * 3, none⟩ = some (.int .u64 (p.1.t : Int)) ∧ w.cell? ⟨g, i * 3 + 1, none⟩ = some (.int .i64 p.1.k) ∧ w.cell? ⟨g, i * 3 + 2, none⟩ = some p.2 ∧ RB w p.2 p.1.d ∧ ∃ gd cd, p.2 = .slice (some ⟨gd, 0, none⟩) p.1.d.length cd := by
  obtain ⟨a, cc, hs⟩ := h.shape
  injection hs with _ hn _
  rcases h.row.2 with ⟨hv, hl⟩ | ⟨g, cap, cur, hv, hg, hh, _⟩
  · injection hv with _ h2 _; omega
  · injection hv with h1 _ _
    subst h1
    obtain ⟨p, hp⟩ : ∃ p, L[i]? = some p := ⟨_, List.getElem?_eq_getElem (by omega)⟩
    obtain ⟨c0, c1, c2⟩ := eCells_at L i p hp
    have hm := List.mem_of_getElem? hp
    have hr := h.row
    rw [hn] at hr
    have q0 := World.ownsRow.cellAt hr (i * 3) (by omega)
    have q1 := World.ownsRow.cellAt hr (i * 3 + 1) (by omega)
    have q2 := World.ownsRow.cellAt hr (i * 3 + 2) (by omega)
    rw [c0] at q0
    rw [c1] at q1
    rw [c2] at q2
    exact ⟨g, p, rfl, hp, hn, q0, q1, q2, (h.dat p hm).1, (h.dat p hm).2⟩
set_option maxRecDepth 100000 in
set_option maxHeartbeats 8000000 in
theorem rsame_eq (v1 v2 : Value) (L M : List (Ent × Value)) (B1 B2 : Nat) (w : World) (h1 : EO w B1 v1 L) (h2 : EO w B2 v2 M) (he : L.map Prod.fst = M.map Prod.fst) (hn : L.length ≤ 3000000) :
    Calls Try.prog 16 #[v1, v2] w fun e w' => e = .returned (.bool true) ∧ Below w.heap.size w w' := by
  obtain ⟨a, ca, rfl⟩ := h1.shape
  obtain ⟨b, cb, rfl⟩ := h2.shape
  have hlm : M.length = L.length := by have := congrArg List.length he; rw [List.length_map, List.length_map] at this; omega
  rw [hlm] at h2 ⊢
  obtain ⟨n, hln⟩ : ∃ n, L.length = n := ⟨_, rfl⟩
  rw [hln] at h1 h2 hn ⊢
  have H1 := Lib.hid h1
  have H2 := Lib.hid h2
  have HE := Lib.hid he
  have HN := Lib.hid hln
  clear h1 h2 he hlm hln
  go_enter Try.func16, Try.ntmps16
  go_wp2_with fail
  go_loopg [5] (n + 1) (fun kx s5 wr => ∃ i : Nat, s5 = .int .i64 (i : Int) ∧ i ≤ n ∧ n - i ≤ kx ∧ Hid (Below w.heap.size w wr))
  case atStart => exact ⟨0, rfl, by omega, by omega, Lib.hid (Below.refl _ _)⟩
  case round =>
    obtain ⟨i, rfl, hi, hkx, HW⟩ := hrel
    by_cases hlt : i < n
    · have hltz : (i : Int) < (n : Int) := by omega
      have gl : decide ((i : Int) < (n : Int)) = true := decide_eq_true hltz
      obtain ⟨ga, p, rfl, hp, -, p0, p1, p2, prb, gp, cp, hp2⟩ := (H1.out.below HW.out).at i hlt
      obtain ⟨gb, q, rfl, hq, -, q0, q1, q2, qrb, gq, cq, hq2⟩ := (H2.out.below HW.out).at i hlt
      have hpq : p.1 = q.1 := by
        have e := congrArg (fun l => l[i]?) HE.out
        simp only [List.getElem?_map, hp, hq, Option.map_some, Option.some.injEq] at e
        exact e
      obtain ⟨⟨t, k, d⟩, vp⟩ := p
      obtain ⟨e2, vq⟩ := q
      dsimp only at hpq hp2 hq2 p0 p1 p2 q0 q1 q2 prb qrb
      subst hpq
      dsimp only at hp2 hq2 p0 p1 p2 q0 q1 q2 prb qrb
      subst hp2 hq2
      obtain ⟨dl, hdl⟩ : ∃ x, d.length = x := ⟨_, rfl⟩
      rw [hdl] at p2 q2 prb qrb
      have es : ∀ m, (convert 28 9 (.slice (some ⟨gp, 0, none⟩) dl cp)).run Try.prog (wr.drewN m) = .ok (.string (str d)) (wr.drewN m) := fun m => rb_string (P := Try.prog) (prb.kept (below_drewN (Below.refl _ _) m)) 28 9 5 Try.underlying28 Try.underlying5 Try.underlying9
      have et : ∀ m, (convert 28 9 (.slice (some ⟨gq, 0, none⟩) dl cq)).run Try.prog (wr.drewN m) = .ok (.string (str d)) (wr.drewN m) := fun m => rb_string (P := Try.prog) (qrb.kept (below_drewN (Below.refl _ _) m)) 28 9 5 Try.underlying28 Try.underlying5 Try.underlying9
      obtain ⟨s, hs⟩ : ∃ s, str d = s := ⟨_, rfl⟩
      rw [hs] at es et
      clear hp hq prb qrb hdl hs
      go_upto_region 6 with fail
      go_quiet (fail)
      clear es et p0 p1 p2 q0 q1 q2
      have HW2 := Lib.hid (below_drewN HW.out nq)
      have HW3 := Lib.hid (below_drewN HW.out nq).drew
      go_wp2_with fail
      go_roundg (n - (i + 1))
      case measure => omega
      case rel => exact ⟨i + 1, by go_num, by omega, by omega, by first | exact HW2 | exact HW3⟩
    · have hltz : ¬ (i : Int) < (n : Int) := by omega
      have gl : decide ((i : Int) < (n : Int)) = false := decide_eq_false hltz
      go_wp2_with fail
      go_ret
      exact ⟨rfl, HW.out⟩
end Go.Proofs.Ythefnakbpalecaa
