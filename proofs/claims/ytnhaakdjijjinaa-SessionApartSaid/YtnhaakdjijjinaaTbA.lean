/- Tickets: what nine numbers read as. -/
import Derived.Test.YtnhaakdjijjinaaNbA
import Derived.Test.YtnhaakdjijjinaaQrH
import Derived.Test.YtnhaakdjijjinaaTkG
namespace Go.Proofs.Ytnhaakdjijjinaa
open Go.RowKit
/-- Bytes don't lie in a ticket's box. -/
theorem RB.nine {w w' : World} {v : Value} {ds : List Nat} {N : Nat} {x0 x1 x2 x3 x4 x5 x6 x7 x8 : Int} {t : TypeId} (h2 : RB w v ds) (k1 : w.heap[N]? = some (.cells #[.int .u64 x0, .int .i64 x1, .int .i64 x2, .int .i64 x3, .int .u64 x4, .int .i64 x5, .int .i64 x6, .int .i64 x7, .int .i64 x8] t (0, 0))) (hb : ∀ k, k ≠ N → w'.heap[k]? = w.heap[k]?) : RB w' v ds := by
  obtain ⟨g1, g2, g3⟩ := h2
  refine ⟨g1, g2, ?_⟩
  rcases g3 with g3 | ⟨x, cap, hv, ha, hm, hc⟩
  · exact .inl g3
  · refine .inr ⟨x, cap, hv, ha, hm, fun i hi => ?_⟩
    have hb' : (x.add i).block ≠ N := by
      intro e
      have hci := hc i hi
      obtain ⟨e2, _⟩ := cell_spot hci
      rw [e2, e] at hci
      unfold World.cell? at hci
      simp only [k1] at hci
      have : (#[Value.int .u64 x0, .int .i64 x1, .int .i64 x2, .int .i64 x3, .int .u64 x4, .int .i64 x5, .int .i64 x6, .int .i64 x7, .int .i64 x8] : Array Value)[(x.add i).off]? = some (Value.int .u8 ((ds.getD i 0 : Nat) : Int)) := by simpa using hci
      rcases h0 : (x.add i).off with _ | _ | _ | _ | _ | _ | _ | _ | _ | k
      all_goals
        rw [h0] at this
        simp at this
    rw [World.cell?_of_block (hb _ hb')]
    exact hc i hi
theorem RR.nine {w w' : World} {b : Nat} {ds : List Nat} {bad : Bool} {N : Nat} {x0 x1 x2 x3 x4 x5 x6 x7 x8 : Int} {t : TypeId} (h : RR w b ds bad) (k1 : w.heap[N]? = some (.cells #[.int .u64 x0, .int .i64 x1, .int .i64 x2, .int .i64 x3, .int .u64 x4, .int .i64 x5, .int .i64 x6, .int .i64 x7, .int .i64 x8] t (0, 0))) (hb : ∀ k, k ≠ N → w'.heap[k]? = w.heap[k]?) (hN : b ≠ N) : RR w' b ds bad := by
  obtain ⟨v, h1, h2, h3, h4⟩ := h
  exact ⟨v, (hb b hN).trans h1, h2.nine k1 hb, h3, h4⟩
theorem RF.nine {w w' : World} {b : Nat} {ds : List Nat} {bad : Bool} {N : Nat} {x0 x1 x2 x3 x4 x5 x6 x7 x8 : Int} {t : TypeId} (h : RF w b ds bad) (k1 : w.heap[N]? = some (.cells #[.int .u64 x0, .int .i64 x1, .int .i64 x2, .int .i64 x3, .int .u64 x4, .int .i64 x5, .int .i64 x6, .int .i64 x7, .int .i64 x8] t (0, 0))) (hb : ∀ k, k ≠ N → w'.heap[k]? = w.heap[k]?) (hN : b ≠ N) : RF w' b ds bad := by
  obtain ⟨v, h1, h2, h3, h4⟩ := h
  exact ⟨v, (hb b hN).trans h1, h2.nine k1 hb, h3, h4⟩
theorem heap_put9 (w : World) {N k : Nat} (hk : k ≠ N) (y0 y1 y2 y3 y4 y5 y6 y7 y8 : Value) : (put9 w N y0 y1 y2 y3 y4 y5 y6 y7 y8).heap[k]? = w.heap[k]? := by
  unfold put9
  rw [Below.heap_setCell _ _ _ _ (by exact hk), Below.heap_setCell _ _ _ _ (by exact hk), Below.heap_setCell _ _ _ _ (by exact hk), Below.heap_setCell _ _ _ _ (by exact hk), Below.heap_setCell _ _ _ _ (by exact hk), Below.heap_setCell _ _ _ _ (by exact hk), Below.heap_setCell _ _ _ _ (by exact hk), Below.heap_setCell _ _ _ _ (by exact hk), Below.heap_setCell _ _ _ _ (by exact hk)]
theorem size_put9 (w : World) (N : Nat) (y0 y1 y2 y3 y4 y5 y6 y7 y8 : Value) : (put9 w N y0 y1 y2 y3 y4 y5 y6 y7 y8).heap.size = w.heap.size := by simp [put9]
theorem Rd.new {b : Nat} {w w' : World} (h : Rd b w w') {N : Nat} (hN : w.heap.size ≤ N) (j : Nat) (y : Value) : Rd b w (w'.setCell ⟨N, j, none⟩ y) :=
  ⟨h.os, h.tape, h.output, by have := h.size; simpa using this, fun k hk hb hv => (Below.heap_setCell _ _ _ _ (by show k ≠ N; omega)).trans (h.block k hk hb hv)⟩
theorem Rd.put9 {b : Nat} {w w' : World} (h : Rd b w w') {N : Nat} (hN : w.heap.size ≤ N) (y0 y1 y2 y3 y4 y5 y6 y7 y8 : Value) : Rd b w (put9 w' N y0 y1 y2 y3 y4 y5 y6 y7 y8) :=
  (((((((((h.new hN 0 y0).new hN 1 y1).new hN 2 y2).new hN 3 y3).new hN 4 y4).new hN 5 y5).new hN 6 y6).new hN 7 y7).new hN 8 y8)
/-- A reader on the way, and the box of its pointer. -/
structure RdS (w0 w : World) (R0 b : Nat) (ds : List Nat) (bad : Bool) : Prop where
  rr : RR w b ds bad
  box : w.heap[R0]? = some (.cells #[.pointer (some ⟨b, 0, none⟩)] 42 (0, 0))
  ne : R0 ≠ b
  rd : Rd b w0 w
theorem RdS.step {w0 w w' : World} {R0 b : Nat} {ds ds' : List Nat} {bad bad' : Bool} (h : RdS w0 w R0 b ds bad) (hr : RR w' b ds' bad') (ht : Rd b w w') : RdS w0 w' R0 b ds' bad' :=
  ⟨hr, ht.keep h.box h.ne, h.ne, h.rd.trans ht⟩
theorem RdS.kept {w0 w w' : World} {R0 b : Nat} {ds : List Nat} {bad : Bool} (h : RdS w0 w R0 b ds bad) (hb : Below w.heap.size w w') : RdS w0 w' R0 b ds bad :=
  ⟨h.rr.kept hb, ex_below h.box hb, h.ne, h.rd.trans (Rd.below hb)⟩
theorem rs_num (b most : Nat) (m : Int) (em : m = (most : Int)) {w0 w : World} {R0 : Nat} {ds : List Nat} {bad : Bool} (h : RdS w0 w R0 b ds bad) :
    Calls Try.prog 54 #[.pointer (some ⟨b, 0, none⟩), .int .u64 m] w fun e w' => e = .returned (.int .u64 ((nN most ds : Nat) : Int)) ∧ RdS w0 w' R0 b (nR most ds) (nB most ds) ∧ Rd b w w' :=
  em ▸ (num_rd1 b most ds bad w h.rr).mono fun e w' ⟨h1, h2, h3⟩ => ⟨h1, h.step h2 h3, h3⟩
set_option maxRecDepth 100000 in
theorem rs_cnt (b most : Nat) (m : Int) (em : m = (most : Int)) {w0 w : World} {R0 : Nat} {ds : List Nat} {bad : Bool} (h : RdS w0 w R0 b ds bad) (hm : most ≤ 9223372036854775807) :
    Calls Try.prog 83 #[.int .u64 m, .pointer (some ⟨R0, 0, none⟩)] w fun e w' => e = .returned (.int .i64 ((nN most ds : Nat) : Int)) ∧ RdS w0 w' R0 b (nR most ds) (nB most ds) ∧ Rd b w w' := by
  have hc := one_at h.box
  have HN := Lib.hid (rs_num b most m em h)
  obtain ⟨n, hn⟩ : ∃ n, nN most ds = n := ⟨_, rfl⟩
  have e1 : IntKind.i64.wrap (n : Int) = (n : Int) := IntWalk.i64_in _ (by have := nN_le most ds; omega)
  rw [hn] at HN ⊢
  clear hn h em
  go_enter Try.func83, Try.ntmps83
  go_wp2_with (go_at_call 54; refine HN.out.mono ?_; rintro e w1 ⟨rfl, hs, ht⟩; have HP := Lib.hid (And.intro hs ht); clear hs ht)
  go_ret
  exact ⟨rfl, HP.out⟩
set_option maxRecDepth 100000 in
theorem rs_sec (b : Nat) {w0 w : World} {R0 : Nat} {ds : List Nat} {bad : Bool} (h : RdS w0 w R0 b ds bad) :
    Calls Try.prog 84 #[.pointer (some ⟨R0, 0, none⟩)] w fun e w' => e = .returned (.int .i64 ((nN 1125899906842624 ds : Nat) : Int)) ∧ RdS w0 w' R0 b (nR 1125899906842624 ds) (nB 1125899906842624 ds) ∧ Rd b w w' := by
  have hc := one_at h.box
  have HN := Lib.hid (rs_num b 1125899906842624 1125899906842624 (by omega) h)
  obtain ⟨n, hn⟩ : ∃ n, nN 1125899906842624 ds = n := ⟨_, rfl⟩
  have e1 : IntKind.i64.wrap (n : Int) = (n : Int) := IntWalk.i64_in _ (by have := nN_le 1125899906842624 ds; omega)
  rw [hn] at HN ⊢
  clear hn h
  go_enter Try.func84, Try.ntmps84
  go_wp2_with (go_at_call 54; refine HN.out.mono ?_; rintro e w1 ⟨rfl, hs, ht⟩; have HP := Lib.hid (And.intro hs ht); clear hs ht)
  go_ret
  exact ⟨rfl, HP.out⟩
end Go.Proofs.Ytnhaakdjijjinaa
