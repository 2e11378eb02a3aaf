/- Tickets: the law of bytes: its walk. -/
import Derived.Test.YthnnbmofpmedhaaGreatTbI
import Derived.Deep.RegionHeld3
import Derived.Deep.RegionWith
import Derived.Deep.QuietTactic
namespace Go.Proofs.YthnnbmofpmedhaaGreat
open Go.RowKit
theorem tbt_struct : Tryz.prog.underlying 48 = some (.struct (Tryz.prog.fieldsOf 48)) := by kernel_rfl
theorem tbt_held : Tryz.prog.stoodInHeld 48 = false := by kernel_rfl
theorem tbt_guard : Tryz.prog.eqGuardType Tryz.prog.depth 48 = false := by kernel_rfl
theorem guard_tbt (op : BinOp) (x y : Operand) (xs ys : Array Value) (w : World) : (eqGuard op 48 x y (.agg xs) (.agg ys)).run Tryz.prog w = .ok () w := run_eqGuard_agg w op _ x y xs ys tbt_guard
theorem eq_tbt (id cn st lv ge fr lf du tl : Int) (w : World) : (Op.equalIn 10000 48 (.agg #[.int .u64 id, .int .i64 cn, .int .i64 st, .int .i64 lv, .int .u64 ge, .int .i64 fr, .int .i64 lf, .int .i64 du, .int .i64 tl]) (.agg #[.int .u64 id, .int .i64 cn, .int .i64 st, .int .i64 lv, .int .u64 ge, .int .i64 fr, .int .i64 lf, .int .i64 du, .int .i64 tl])).run Tryz.prog w = .ok true w := by
  rw [run_equalIn_agg w 9999 _ _ _ tbt_struct tbt_held]
  have h : Tryz.prog.underlying 2 = some (.int .i64) := Tryz.underlying2
  have h' : Tryz.prog.underlying 3 = some (.int .i64) := Tryz.underlying3
  have h2 : Tryz.prog.underlying 46 = some (.int .u64) := Tryz.underlying46
  simp [Op.eqFields, go_sem, h, h', h2, Tryz.underlying48]
theorem eql_tbt (id cn st lv ge fr lf du tl : Int) (w : World) : (binOp .eql 48 (.agg #[.int .u64 id, .int .i64 cn, .int .i64 st, .int .i64 lv, .int .u64 ge, .int .i64 fr, .int .i64 lf, .int .i64 du, .int .i64 tl]) (.agg #[.int .u64 id, .int .i64 cn, .int .i64 st, .int .i64 lv, .int .u64 ge, .int .i64 fr, .int .i64 lf, .int .i64 du, .int .i64 tl])).run Tryz.prog w = .ok (.bool true) w := by
  rw [run_eql_struct, eq_tbt]; rfl
theorem neq_tbt (id cn st lv ge fr lf du tl : Int) (w : World) : (binOp .neq 48 (.agg #[.int .u64 id, .int .i64 cn, .int .i64 st, .int .i64 lv, .int .u64 ge, .int .i64 fr, .int .i64 lf, .int .i64 du, .int .i64 tl]) (.agg #[.int .u64 id, .int .i64 cn, .int .i64 st, .int .i64 lv, .int .u64 ge, .int .i64 fr, .int .i64 lf, .int .i64 du, .int .i64 tl])).run Tryz.prog w = .ok (.bool false) w := by
  rw [run_neq_struct, eq_tbt]; rfl
/-- What the law's last line reads stays. -/
theorem send_below {w0 : World} {T10 T12 c rb rl : Nat} {va : Option Addr} {vc : Nat} {R : List Nat} {bad : Bool} {y1 y2 y3 y4 y5 y6 y7 y8 y9 : Int} {w1 w2 : World} (h : w1.cell? ⟨T10, 0, none⟩ = some (.int .u64 y1) ∧ w1.cell? ⟨T10, 1, none⟩ = some (.int .i64 y2) ∧ w1.cell? ⟨T10, 2, none⟩ = some (.int .i64 y3) ∧ w1.cell? ⟨T10, 3, none⟩ = some (.int .i64 y4) ∧ w1.cell? ⟨T10, 4, none⟩ = some (.int .u64 y5) ∧ w1.cell? ⟨T10, 5, none⟩ = some (.int .i64 y6) ∧ w1.cell? ⟨T10, 6, none⟩ = some (.int .i64 y7) ∧ w1.cell? ⟨T10, 7, none⟩ = some (.int .i64 y8) ∧ w1.cell? ⟨T10, 8, none⟩ = some (.int .i64 y9) ∧ w1.cell? ⟨T12, 0, none⟩ = some (.int .u64 y1) ∧ w1.cell? ⟨T12, 1, none⟩ = some (.int .i64 y2) ∧ w1.cell? ⟨T12, 2, none⟩ = some (.int .i64 y3) ∧ w1.cell? ⟨T12, 3, none⟩ = some (.int .i64 y4) ∧ w1.cell? ⟨T12, 4, none⟩ = some (.int .u64 y5) ∧ w1.cell? ⟨T12, 5, none⟩ = some (.int .i64 y6) ∧ w1.cell? ⟨T12, 6, none⟩ = some (.int .i64 y7) ∧ w1.cell? ⟨T12, 7, none⟩ = some (.int .i64 y8) ∧ w1.cell? ⟨T12, 8, none⟩ = some (.int .i64 y9) ∧ w1.cell? ⟨c, 0, none⟩ = some (.slice va rl vc) ∧ w1.cell? ⟨c, 1, none⟩ = some (.bool bad) ∧ RR w1 rb R bad ∧ Below w0.heap.size w0 w1) (hb : Below w1.heap.size w1 w2) : w2.cell? ⟨T10, 0, none⟩ = some (.int .u64 y1) ∧ w2.cell? ⟨T10, 1, none⟩ = some (.int .i64 y2) ∧ w2.cell? ⟨T10, 2, none⟩ = some (.int .i64 y3) ∧ w2.cell? ⟨T10, 3, none⟩ = some (.int .i64 y4) ∧ w2.cell? ⟨T10, 4, none⟩ = some (.int .u64 y5) ∧ w2.cell? ⟨T10, 5, none⟩ = some (.int .i64 y6) ∧ w2.cell? ⟨T10, 6, none⟩ = some (.int .i64 y7) ∧ w2.cell? ⟨T10, 7, none⟩ = some (.int .i64 y8) ∧ w2.cell? ⟨T10, 8, none⟩ = some (.int .i64 y9) ∧ w2.cell? ⟨T12, 0, none⟩ = some (.int .u64 y1) ∧ w2.cell? ⟨T12, 1, none⟩ = some (.int .i64 y2) ∧ w2.cell? ⟨T12, 2, none⟩ = some (.int .i64 y3) ∧ w2.cell? ⟨T12, 3, none⟩ = some (.int .i64 y4) ∧ w2.cell? ⟨T12, 4, none⟩ = some (.int .u64 y5) ∧ w2.cell? ⟨T12, 5, none⟩ = some (.int .i64 y6) ∧ w2.cell? ⟨T12, 6, none⟩ = some (.int .i64 y7) ∧ w2.cell? ⟨T12, 7, none⟩ = some (.int .i64 y8) ∧ w2.cell? ⟨T12, 8, none⟩ = some (.int .i64 y9) ∧ w2.cell? ⟨c, 0, none⟩ = some (.slice va rl vc) ∧ w2.cell? ⟨c, 1, none⟩ = some (.bool bad) ∧ RR w2 rb R bad ∧ Below w0.heap.size w0 w2 := by
  obtain ⟨a0, a1, a2, a3, a4, a5, a6, a7, a8, b0, b1, b2, b3, b4, b5, b6, b7, b8, c0, c1, hr, hbl⟩ := h
  have k : ∀ {p : Addr} {v : Value}, w1.cell? p = some v → w2.cell? p = some v := fun {p} {v} e => (hb.cell (p := p) (by have := cell_spot e; exact this.2)).trans e
  exact ⟨k a0, k a1, k a2, k a3, k a4, k a5, k a6, k a7, k a8, k b0, k b1, k b2, k b3, k b4, k b5, k b6, k b7, k b8, k c0, k c1, hr.kept hb, hbl.trans (hb.mono hbl.size)⟩
set_option maxRecDepth 100000 in
set_option maxHeartbeats 16000000 in
theorem tb_no (id cn st lv ge fr lf du tl : Int) (hfr : fr ≤ 9223372036854775807) (a : Option Addr) (n cap : Nat) (bs : List Nat) (w : World) (hrb : RB w (.slice a n cap) bs) (hln : bs.length = n) (hown : ∀ k, w.heap.size ≤ k → (Value.slice a n cap).ownBlock ≠ some k) (hn : n ≤ 3000) (ok : Bool) (hok : tkOk bs = ok) (hsb : soundB cn st lv ge fr lf du tl = false) :
    Calls Tryz.prog 4 #[tkV id cn st lv ge fr lf du tl, .slice a n cap] w fun e w' => e = .returned (.bool true) ∧ Below w.heap.size w w' := by
  have HLN : Hid (bs.length ≤ 3000) := Lib.hid (by omega)
  have HRB0 : Hid (∀ W', Below w.heap.size w W' → RB W' (.slice a n cap) bs) := Lib.hid (fun W' h => hrb.kept h)
  have HOWN := Lib.hid hown
  obtain ⟨y1, y2, y3, y4, y5, y6, y7, y8, y9, hy⟩ : ∃ y1 y2 y3 y4 y5 y6 y7 y8 y9 : Int, (if ok = true then (nine bs).t else tkV 0 0 0 0 0 0 0 0 0) = tkV y1 y2 y3 y4 y5 y6 y7 y8 y9 := by
    cases ok
    · exact ⟨0, 0, 0, 0, 0, 0, 0, 0, 0, rfl⟩
    · exact ⟨_, _, _, _, _, _, _, _, _, rfl⟩
  obtain ⟨R, hR⟩ : ∃ R, (if ok = true then nineR bs else []) = R := ⟨_, rfl⟩
  have HRD1 : Hid (∀ rb V, RR V rb bs false → Calls Tryz.prog 22 #[.pointer (some ⟨rb, 0, none⟩)] V fun e w' => e = .returned (.tuple #[.agg #[.int .u64 y1, .int .i64 y2, .int .i64 y3, .int .i64 y4, .int .u64 y5, .int .i64 y6, .int .i64 y7, .int .i64 y8, .int .i64 y9], .bool ok]) ∧ RR w' rb R (!ok) ∧ Rd rb V w') := Lib.hid (fun rb V h => by
    have := read_first rb bs false V h ok hok
    rw [hy, hR] at this
    exact this)
  have HRD2 : Hid (∀ rb V, RF V rb bs false → Calls Tryz.prog 24 #[.pointer (some ⟨rb, 0, none⟩)] V fun e w' => e = .returned (.tuple #[.agg #[.int .u64 y1, .int .i64 y2, .int .i64 y3, .int .i64 y4, .int .u64 y5, .int .i64 y6, .int .i64 y7, .int .i64 y8, .int .i64 y9], .bool ok]) ∧ RF w' rb R (!ok) ∧ Rd rb V w') := Lib.hid (fun rb V h => by
    have := rread_any rb bs false V h ok hok
    rw [hy, hR] at this
    exact this)
  have d1 : decide (3000 < (n : Int)) = false := decide_eq_false (by omega)
  have HSA := Lib.hid (fun w' => sound_any id cn st lv ge fr lf du tl w' hfr)
  have HSR := Lib.hid (fun w' => rsound_any id cn st lv ge fr lf du tl w')
  rw [hsb] at HSA HSR
  clear hrb hown hok hy hR hsb
  obtain ⟨B2, s0, sz⟩ := box1 w #[.int .u64 id, .int .i64 cn, .int .i64 st, .int .i64 lv, .int .u64 ge, .int .i64 fr, .int .i64 lf, .int .i64 du, .int .i64 tl] 48
  have HT0 := Lib.hid s0
  have HB0 := Lib.hid B2
  obtain ⟨c0, c1, c2, c3, c4, c5, c6, c7, c8⟩ := nine_at s0
  have hst : ∀ w', w'.heap[w.heap.size]? = some (.cells #[.int .u64 id, .int .i64 cn, .int .i64 st, .int .i64 lv, .int .u64 ge, .int .i64 fr, .int .i64 lf, .int .i64 du, .int .i64 tl] 48 (0, 0)) → Below w.heap.size w w' → (w'.cell? ⟨w.heap.size, 0, none⟩ = some (.int .u64 id) ∧ w'.cell? ⟨w.heap.size, 1, none⟩ = some (.int .i64 cn) ∧ w'.cell? ⟨w.heap.size, 2, none⟩ = some (.int .i64 st) ∧ w'.cell? ⟨w.heap.size, 3, none⟩ = some (.int .i64 lv) ∧ w'.cell? ⟨w.heap.size, 4, none⟩ = some (.int .u64 ge) ∧ w'.cell? ⟨w.heap.size, 5, none⟩ = some (.int .i64 fr) ∧ w'.cell? ⟨w.heap.size, 6, none⟩ = some (.int .i64 lf) ∧ w'.cell? ⟨w.heap.size, 7, none⟩ = some (.int .i64 du) ∧ w'.cell? ⟨w.heap.size, 8, none⟩ = some (.int .i64 tl) ∧ w'.heap[w.heap.size]? = some (.cells #[.int .u64 id, .int .i64 cn, .int .i64 st, .int .i64 lv, .int .u64 ge, .int .i64 fr, .int .i64 lf, .int .i64 du, .int .i64 tl] 48 (0, 0)) ∧ Below w.heap.size w w') := fun w' h hb => by
    obtain ⟨e0, e1, e2, e3, e4, e5, e6, e7, e8⟩ := nine_at h
    exact ⟨e0, e1, e2, e3, e4, e5, e6, e7, e8, h, hb⟩
  have HST := Lib.hid hst
  have HA : Hid (∀ w', (w'.cell? ⟨w.heap.size, 0, none⟩ = some (.int .u64 id) ∧ w'.cell? ⟨w.heap.size, 1, none⟩ = some (.int .i64 cn) ∧ w'.cell? ⟨w.heap.size, 2, none⟩ = some (.int .i64 st) ∧ w'.cell? ⟨w.heap.size, 3, none⟩ = some (.int .i64 lv) ∧ w'.cell? ⟨w.heap.size, 4, none⟩ = some (.int .u64 ge) ∧ w'.cell? ⟨w.heap.size, 5, none⟩ = some (.int .i64 fr) ∧ w'.cell? ⟨w.heap.size, 6, none⟩ = some (.int .i64 lf) ∧ w'.cell? ⟨w.heap.size, 7, none⟩ = some (.int .i64 du) ∧ w'.cell? ⟨w.heap.size, 8, none⟩ = some (.int .i64 tl) ∧ w'.heap[w.heap.size]? = some (.cells #[.int .u64 id, .int .i64 cn, .int .i64 st, .int .i64 lv, .int .u64 ge, .int .i64 fr, .int .i64 lf, .int .i64 du, .int .i64 tl] 48 (0, 0)) ∧ Below w.heap.size w w') → Calls Tryz.prog 19 #[.agg #[.int .u64 id, .int .i64 cn, .int .i64 st, .int .i64 lv, .int .u64 ge, .int .i64 fr, .int .i64 lf, .int .i64 du, .int .i64 tl]] w' fun e w'' => e = .returned (.bool false) ∧ (w''.cell? ⟨w.heap.size, 0, none⟩ = some (.int .u64 id) ∧ w''.cell? ⟨w.heap.size, 1, none⟩ = some (.int .i64 cn) ∧ w''.cell? ⟨w.heap.size, 2, none⟩ = some (.int .i64 st) ∧ w''.cell? ⟨w.heap.size, 3, none⟩ = some (.int .i64 lv) ∧ w''.cell? ⟨w.heap.size, 4, none⟩ = some (.int .u64 ge) ∧ w''.cell? ⟨w.heap.size, 5, none⟩ = some (.int .i64 fr) ∧ w''.cell? ⟨w.heap.size, 6, none⟩ = some (.int .i64 lf) ∧ w''.cell? ⟨w.heap.size, 7, none⟩ = some (.int .i64 du) ∧ w''.cell? ⟨w.heap.size, 8, none⟩ = some (.int .i64 tl) ∧ w''.heap[w.heap.size]? = some (.cells #[.int .u64 id, .int .i64 cn, .int .i64 st, .int .i64 lv, .int .u64 ge, .int .i64 fr, .int .i64 lf, .int .i64 du, .int .i64 tl] 48 (0, 0)) ∧ Below w.heap.size w w'')) := Lib.hid (fun w' h => by
    obtain ⟨_, _, _, _, _, _, _, _, _, hh, hb⟩ := h
    refine (HSA.out w').mono ?_
    rintro e w'' ⟨rfl, hb2⟩
    exact ⟨rfl, HST.out w'' (ex_below hh hb2) (hb.trans (hb2.mono hb.size))⟩)
  have HR : Hid (∀ w', (w'.cell? ⟨w.heap.size, 0, none⟩ = some (.int .u64 id) ∧ w'.cell? ⟨w.heap.size, 1, none⟩ = some (.int .i64 cn) ∧ w'.cell? ⟨w.heap.size, 2, none⟩ = some (.int .i64 st) ∧ w'.cell? ⟨w.heap.size, 3, none⟩ = some (.int .i64 lv) ∧ w'.cell? ⟨w.heap.size, 4, none⟩ = some (.int .u64 ge) ∧ w'.cell? ⟨w.heap.size, 5, none⟩ = some (.int .i64 fr) ∧ w'.cell? ⟨w.heap.size, 6, none⟩ = some (.int .i64 lf) ∧ w'.cell? ⟨w.heap.size, 7, none⟩ = some (.int .i64 du) ∧ w'.cell? ⟨w.heap.size, 8, none⟩ = some (.int .i64 tl) ∧ w'.heap[w.heap.size]? = some (.cells #[.int .u64 id, .int .i64 cn, .int .i64 st, .int .i64 lv, .int .u64 ge, .int .i64 fr, .int .i64 lf, .int .i64 du, .int .i64 tl] 48 (0, 0)) ∧ Below w.heap.size w w') → Calls Tryz.prog 20 #[.agg #[.int .u64 id, .int .i64 cn, .int .i64 st, .int .i64 lv, .int .u64 ge, .int .i64 fr, .int .i64 lf, .int .i64 du, .int .i64 tl]] w' fun e w'' => e = .returned (.bool false) ∧ (w''.cell? ⟨w.heap.size, 0, none⟩ = some (.int .u64 id) ∧ w''.cell? ⟨w.heap.size, 1, none⟩ = some (.int .i64 cn) ∧ w''.cell? ⟨w.heap.size, 2, none⟩ = some (.int .i64 st) ∧ w''.cell? ⟨w.heap.size, 3, none⟩ = some (.int .i64 lv) ∧ w''.cell? ⟨w.heap.size, 4, none⟩ = some (.int .u64 ge) ∧ w''.cell? ⟨w.heap.size, 5, none⟩ = some (.int .i64 fr) ∧ w''.cell? ⟨w.heap.size, 6, none⟩ = some (.int .i64 lf) ∧ w''.cell? ⟨w.heap.size, 7, none⟩ = some (.int .i64 du) ∧ w''.cell? ⟨w.heap.size, 8, none⟩ = some (.int .i64 tl) ∧ w''.heap[w.heap.size]? = some (.cells #[.int .u64 id, .int .i64 cn, .int .i64 st, .int .i64 lv, .int .u64 ge, .int .i64 fr, .int .i64 lf, .int .i64 du, .int .i64 tl] 48 (0, 0)) ∧ Below w.heap.size w w'')) := Lib.hid (fun w' h => by
    obtain ⟨_, _, _, _, _, _, _, _, _, hh, hb⟩ := h
    refine (HSR.out w').mono ?_
    rintro e w'' ⟨rfl, hb2⟩
    exact ⟨rfl, HST.out w'' (ex_below hh hb2) (hb.trans (hb2.mono hb.size))⟩)
  clear B2 s0 sz hst
  unfold tkV
  go_enter Tryz.func4, Tryz.ntmps4
  go_wp2_with fail
  generalize w.alloc (.cells #[.int .u64 id, .int .i64 cn, .int .i64 st, .int .i64 lv, .int .u64 ge, .int .i64 fr, .int .i64 lf, .int .i64 du, .int .i64 tl] 48) = W0 at HT0 HB0 c0 c1 c2 c3 c4 c5 c6 c7 c8 ⊢
  have h0 : W0.drew.cell? ⟨w.heap.size, 0, none⟩ = some (.int .u64 id) ∧ W0.drew.cell? ⟨w.heap.size, 1, none⟩ = some (.int .i64 cn) ∧ W0.drew.cell? ⟨w.heap.size, 2, none⟩ = some (.int .i64 st) ∧ W0.drew.cell? ⟨w.heap.size, 3, none⟩ = some (.int .i64 lv) ∧ W0.drew.cell? ⟨w.heap.size, 4, none⟩ = some (.int .u64 ge) ∧ W0.drew.cell? ⟨w.heap.size, 5, none⟩ = some (.int .i64 fr) ∧ W0.drew.cell? ⟨w.heap.size, 6, none⟩ = some (.int .i64 lf) ∧ W0.drew.cell? ⟨w.heap.size, 7, none⟩ = some (.int .i64 du) ∧ W0.drew.cell? ⟨w.heap.size, 8, none⟩ = some (.int .i64 tl) ∧ W0.drew.heap[w.heap.size]? = some (.cells #[.int .u64 id, .int .i64 cn, .int .i64 st, .int .i64 lv, .int .u64 ge, .int .i64 fr, .int .i64 lf, .int .i64 du, .int .i64 tl] 48 (0, 0)) ∧ Below w.heap.size w W0.drew := HST.out _ HT0.out HB0.out.drew
  clear c0 c1 c2 c3 c4 c5 c6 c7 c8
  go_region_held3 (fun w' => w'.cell? ⟨w.heap.size, 0, none⟩ = some (.int .u64 id) ∧ w'.cell? ⟨w.heap.size, 1, none⟩ = some (.int .i64 cn) ∧ w'.cell? ⟨w.heap.size, 2, none⟩ = some (.int .i64 st) ∧ w'.cell? ⟨w.heap.size, 3, none⟩ = some (.int .i64 lv) ∧ w'.cell? ⟨w.heap.size, 4, none⟩ = some (.int .u64 ge) ∧ w'.cell? ⟨w.heap.size, 5, none⟩ = some (.int .i64 fr) ∧ w'.cell? ⟨w.heap.size, 6, none⟩ = some (.int .i64 lf) ∧ w'.cell? ⟨w.heap.size, 7, none⟩ = some (.int .i64 du) ∧ w'.cell? ⟨w.heap.size, 8, none⟩ = some (.int .i64 tl) ∧ w'.heap[w.heap.size]? = some (.cells #[.int .u64 id, .int .i64 cn, .int .i64 st, .int .i64 lv, .int .u64 ge, .int .i64 fr, .int .i64 lf, .int .i64 du, .int .i64 tl] 48 (0, 0)) ∧ Below w.heap.size w w')
    (first | exact h0 | assumption)
    (first
      | (go_at_call 19; refine (HA.out _ (by assumption)).mono ?_; rintro e w8 ⟨rfl, hS8⟩)
      | (go_at_call 20; refine (HR.out _ (by assumption)).mono ?_; rintro e w8 ⟨rfl, hS8⟩))
  all_goals
    obtain ⟨c0, c1, c2, c3, c4, c5, c6, c7, c8, hh8, hb8⟩ := hS8
    have HT8 := Lib.hid hh8
    have HB8 := Lib.hid hb8
    clear hh8 hb8 h0
    go_wp2_with fail
    refine (HR.out _ (HST.out _ HT8.out HB8.out)).mono ?_
    rintro e X0 ⟨rfl, hS9⟩
    obtain ⟨-, -, -, -, -, -, -, -, -, hh9, hb9⟩ := hS9
    have HT9 := Lib.hid hh9
    have HB := Lib.hid hb9
    clear hh9 hb9 c0 c1 c2 c3 c4 c5 c6 c7 c8
    go_wp2_with fail
    refine (open_any (.slice a n cap) bs X0 (HRB0.out _ HB.out) (by have := HLN.out; omega)).mono ?_
    rintro e W1 ⟨rb, rfl, hle, hrr, hb1⟩
    have HB1 := Lib.hid (HB.out.trans (hb1.mono HB.out.size))
    have HRR1 := Lib.hid hrr
    have HRL : Hid (rb < W1.heap.size ∧ w.heap.size ≤ rb) := Lib.hid ⟨hrr.lt, Nat.le_trans HB.out.size hle⟩
    clear hle hrr hb1
    go_wp2_with fail
    obtain ⟨bx, bn, bz⟩ := box1 W1 #[.slice a n cap, .bool false] 42
    have HB2 := Lib.hid (HB1.out.trans (bx.mono HB1.out.size))
    have HRR2 := Lib.hid (HRR1.out.kept bx)
    obtain ⟨c, hce⟩ : ∃ c, W1.heap.size = c := ⟨_, rfl⟩
    have HNE : Hid (rb ≠ c ∧ c < (W1.alloc (.cells #[.slice a n cap, .bool false] 42)).heap.size ∧ w.heap.size ≤ c ∧ w.heap.size ≤ rb) := Lib.hid ⟨by have := HRL.out.1; omega, by rw [bz]; omega, by rw [← hce]; exact HB1.out.size, HRL.out.2⟩
    have HRF2 : Hid (RF (W1.alloc (.cells #[.slice a n cap, .bool false] 42)) c bs false) := Lib.hid ⟨.slice a n cap, by rw [← hce]; exact bn, HRB0.out _ HB2.out, HOWN.out c HNE.out.2.2.1, fun h => by cases h⟩
    clear bx bn bz HRR1 HB1 HRL
    try rw [hce]
    generalize W1.alloc (.cells #[.slice a n cap, .bool false] 42) = V1 at HB2 HRR2 HRF2 HNE ⊢
    clear hce
    refine (HRD1.out rb V1 HRR2.out).mono ?_
    rintro e W2 ⟨rfl, hr2, ht2⟩
    have HB3 := Lib.hid (ht2.outside HB2.out HB2.out.size HNE.out.2.2.2)
    have HRR3 := Lib.hid hr2
    have HRF3 := Lib.hid (HRF2.out.besides HRR2.out ht2 (fun h => HNE.out.1 h.symm))
    have HCL : Hid (c < W2.heap.size) := Lib.hid (Nat.lt_of_lt_of_le HNE.out.2.1 ht2.size)
    clear hr2 ht2 HRR2 HRF2 HB2
    go_wp2_with fail
    obtain ⟨bx, bn, bz⟩ := box1 W2 #[.int .u64 y1, .int .i64 y2, .int .i64 y3, .int .i64 y4, .int .u64 y5, .int .i64 y6, .int .i64 y7, .int .i64 y8, .int .i64 y9] 48
    have HB4 := Lib.hid (HB3.out.trans (bx.mono HB3.out.size))
    have HRR4 := Lib.hid (HRR3.out.kept bx)
    have HRF4 := Lib.hid (HRF3.out.kept bx)
    obtain ⟨T10, hTe⟩ : ∃ c, W2.heap.size = c := ⟨_, rfl⟩
    rw [hTe] at bn
    have HT10 := Lib.hid bn
    have HTC : Hid (T10 ≠ c) := Lib.hid (by have := HCL.out; omega)
    clear bx bn bz HRR3 HRF3 HB3
    try rw [hTe]
    generalize W2.alloc (.cells #[.int .u64 y1, .int .i64 y2, .int .i64 y3, .int .i64 y4, .int .u64 y5, .int .i64 y6, .int .i64 y7, .int .i64 y8, .int .i64 y9] 48) = V2 at HB4 HRR4 HRF4 HT10 ⊢
    clear hTe HCL
    refine (HRD2.out c V2 HRF4.out).mono ?_
    rintro e W3 ⟨rfl, hr3, ht3⟩
    have HB5 := Lib.hid (ht3.outside HB4.out HB4.out.size HNE.out.2.2.1)
    have HRF5 := Lib.hid hr3
    have HRR5 := Lib.hid (HRR4.out.besides HRF4.out ht3 HNE.out.1)
    have HT11 := Lib.hid (ht3.keep HT10.out HTC.out)
    clear hr3 ht3 HRR4 HRF4 HB4 HT10
    go_wp2_with fail
    obtain ⟨bx, bn, bz⟩ := box1 W3 #[.int .u64 y1, .int .i64 y2, .int .i64 y3, .int .i64 y4, .int .u64 y5, .int .i64 y6, .int .i64 y7, .int .i64 y8, .int .i64 y9] 48
    have HB6 := Lib.hid (HB5.out.trans (bx.mono HB5.out.size))
    obtain ⟨T12, hTe⟩ : ∃ c, W3.heap.size = c := ⟨_, rfl⟩
    rw [hTe] at bn
    obtain ⟨v, h1, h2, -, -⟩ := HRF5.out.kept bx
    obtain ⟨va, vc, rfl⟩ := h2.shapeN' (rfl : R.length = R.length)
    obtain ⟨a0, a1, a2, a3, a4, a5, a6, a7, a8⟩ := nine_at (ex_below HT11.out bx)
    obtain ⟨b0, b1, b2, b3, b4, b5, b6, b7, b8⟩ := nine_at bn
    have hrr := HRR5.out.kept bx
    have c0 : (W3.alloc (.cells #[.int .u64 y1, .int .i64 y2, .int .i64 y3, .int .i64 y4, .int .u64 y5, .int .i64 y6, .int .i64 y7, .int .i64 y8, .int .i64 y9] 48)).cell? ⟨c, 0, none⟩ = some (.slice va R.length vc) := by simp [World.cell?, h1]
    have c1 : (W3.alloc (.cells #[.int .u64 y1, .int .i64 y2, .int .i64 y3, .int .i64 y4, .int .u64 y5, .int .i64 y6, .int .i64 y7, .int .i64 y8, .int .i64 y9] 48)).cell? ⟨c, 1, none⟩ = some (.bool (!ok)) := by simp [World.cell?, h1]
    try rw [hTe]
    clear h1 h2 bx bn bz HRR5 HRF5 HB5 HT11
    generalize W3.alloc (.cells #[.int .u64 y1, .int .i64 y2, .int .i64 y3, .int .i64 y4, .int .u64 y5, .int .i64 y6, .int .i64 y7, .int .i64 y8, .int .i64 y9] 48) = V3 at HB6 hrr c0 c1 a0 b0 a1 b1 a2 b2 a3 b3 a4 b4 a5 b5 a6 b6 a7 b7 a8 b8 ⊢
    have h0 : V3.drew.cell? ⟨T10, 0, none⟩ = some (.int .u64 y1) ∧ V3.drew.cell? ⟨T10, 1, none⟩ = some (.int .i64 y2) ∧ V3.drew.cell? ⟨T10, 2, none⟩ = some (.int .i64 y3) ∧ V3.drew.cell? ⟨T10, 3, none⟩ = some (.int .i64 y4) ∧ V3.drew.cell? ⟨T10, 4, none⟩ = some (.int .u64 y5) ∧ V3.drew.cell? ⟨T10, 5, none⟩ = some (.int .i64 y6) ∧ V3.drew.cell? ⟨T10, 6, none⟩ = some (.int .i64 y7) ∧ V3.drew.cell? ⟨T10, 7, none⟩ = some (.int .i64 y8) ∧ V3.drew.cell? ⟨T10, 8, none⟩ = some (.int .i64 y9) ∧ V3.drew.cell? ⟨T12, 0, none⟩ = some (.int .u64 y1) ∧ V3.drew.cell? ⟨T12, 1, none⟩ = some (.int .i64 y2) ∧ V3.drew.cell? ⟨T12, 2, none⟩ = some (.int .i64 y3) ∧ V3.drew.cell? ⟨T12, 3, none⟩ = some (.int .i64 y4) ∧ V3.drew.cell? ⟨T12, 4, none⟩ = some (.int .u64 y5) ∧ V3.drew.cell? ⟨T12, 5, none⟩ = some (.int .i64 y6) ∧ V3.drew.cell? ⟨T12, 6, none⟩ = some (.int .i64 y7) ∧ V3.drew.cell? ⟨T12, 7, none⟩ = some (.int .i64 y8) ∧ V3.drew.cell? ⟨T12, 8, none⟩ = some (.int .i64 y9) ∧ V3.drew.cell? ⟨c, 0, none⟩ = some (.slice va R.length vc) ∧ V3.drew.cell? ⟨c, 1, none⟩ = some (.bool (!ok)) ∧ RR V3.drew rb R (!ok) ∧ Below w.heap.size w V3.drew := ⟨a0, a1, a2, a3, a4, a5, a6, a7, a8, b0, b1, b2, b3, b4, b5, b6, b7, b8, c0, c1, hrr.kept (Below.refl _ _).drew, HB6.out.drew⟩
    have HS0 := Lib.hid h0
    clear hTe hrr c0 c1 a0 b0 a1 b1 a2 b2 a3 b3 a4 b4 a5 b5 a6 b6 a7 b7 a8 b8
    have HL : Hid (∀ w', (w'.cell? ⟨T10, 0, none⟩ = some (.int .u64 y1) ∧ w'.cell? ⟨T10, 1, none⟩ = some (.int .i64 y2) ∧ w'.cell? ⟨T10, 2, none⟩ = some (.int .i64 y3) ∧ w'.cell? ⟨T10, 3, none⟩ = some (.int .i64 y4) ∧ w'.cell? ⟨T10, 4, none⟩ = some (.int .u64 y5) ∧ w'.cell? ⟨T10, 5, none⟩ = some (.int .i64 y6) ∧ w'.cell? ⟨T10, 6, none⟩ = some (.int .i64 y7) ∧ w'.cell? ⟨T10, 7, none⟩ = some (.int .i64 y8) ∧ w'.cell? ⟨T10, 8, none⟩ = some (.int .i64 y9) ∧ w'.cell? ⟨T12, 0, none⟩ = some (.int .u64 y1) ∧ w'.cell? ⟨T12, 1, none⟩ = some (.int .i64 y2) ∧ w'.cell? ⟨T12, 2, none⟩ = some (.int .i64 y3) ∧ w'.cell? ⟨T12, 3, none⟩ = some (.int .i64 y4) ∧ w'.cell? ⟨T12, 4, none⟩ = some (.int .u64 y5) ∧ w'.cell? ⟨T12, 5, none⟩ = some (.int .i64 y6) ∧ w'.cell? ⟨T12, 6, none⟩ = some (.int .i64 y7) ∧ w'.cell? ⟨T12, 7, none⟩ = some (.int .i64 y8) ∧ w'.cell? ⟨T12, 8, none⟩ = some (.int .i64 y9) ∧ w'.cell? ⟨c, 0, none⟩ = some (.slice va R.length vc) ∧ w'.cell? ⟨c, 1, none⟩ = some (.bool (!ok)) ∧ RR w' rb R (!ok) ∧ Below w.heap.size w w') → Calls Tryz.prog 16 #[.pointer (some ⟨rb, 0, none⟩)] w' fun e w'' => e = .returned (.int .i64 (R.length : Int)) ∧ w' = w'') := Lib.hid (fun w' h => left_rd rb R (!ok) w' (by obtain ⟨_, _, _, _, _, _, _, _, _, _, _, _, _, _, _, _, _, _, _, _, hr, _⟩ := h; exact hr))
    have HBD : Hid (∀ w', (w'.cell? ⟨T10, 0, none⟩ = some (.int .u64 y1) ∧ w'.cell? ⟨T10, 1, none⟩ = some (.int .i64 y2) ∧ w'.cell? ⟨T10, 2, none⟩ = some (.int .i64 y3) ∧ w'.cell? ⟨T10, 3, none⟩ = some (.int .i64 y4) ∧ w'.cell? ⟨T10, 4, none⟩ = some (.int .u64 y5) ∧ w'.cell? ⟨T10, 5, none⟩ = some (.int .i64 y6) ∧ w'.cell? ⟨T10, 6, none⟩ = some (.int .i64 y7) ∧ w'.cell? ⟨T10, 7, none⟩ = some (.int .i64 y8) ∧ w'.cell? ⟨T10, 8, none⟩ = some (.int .i64 y9) ∧ w'.cell? ⟨T12, 0, none⟩ = some (.int .u64 y1) ∧ w'.cell? ⟨T12, 1, none⟩ = some (.int .i64 y2) ∧ w'.cell? ⟨T12, 2, none⟩ = some (.int .i64 y3) ∧ w'.cell? ⟨T12, 3, none⟩ = some (.int .i64 y4) ∧ w'.cell? ⟨T12, 4, none⟩ = some (.int .u64 y5) ∧ w'.cell? ⟨T12, 5, none⟩ = some (.int .i64 y6) ∧ w'.cell? ⟨T12, 6, none⟩ = some (.int .i64 y7) ∧ w'.cell? ⟨T12, 7, none⟩ = some (.int .i64 y8) ∧ w'.cell? ⟨T12, 8, none⟩ = some (.int .i64 y9) ∧ w'.cell? ⟨c, 0, none⟩ = some (.slice va R.length vc) ∧ w'.cell? ⟨c, 1, none⟩ = some (.bool (!ok)) ∧ RR w' rb R (!ok) ∧ Below w.heap.size w w') → Calls Tryz.prog 17 #[.pointer (some ⟨rb, 0, none⟩)] w' fun e w'' => e = .returned (.bool (!ok)) ∧ w' = w'') := Lib.hid (fun w' h => bad_rd rb R (!ok) w' (by obtain ⟨_, _, _, _, _, _, _, _, _, _, _, _, _, _, _, _, _, _, _, _, hr, _⟩ := h; exact hr))
    have HLV : Hid (∀ w', (w'.cell? ⟨T10, 0, none⟩ = some (.int .u64 y1) ∧ w'.cell? ⟨T10, 1, none⟩ = some (.int .i64 y2) ∧ w'.cell? ⟨T10, 2, none⟩ = some (.int .i64 y3) ∧ w'.cell? ⟨T10, 3, none⟩ = some (.int .i64 y4) ∧ w'.cell? ⟨T10, 4, none⟩ = some (.int .u64 y5) ∧ w'.cell? ⟨T10, 5, none⟩ = some (.int .i64 y6) ∧ w'.cell? ⟨T10, 6, none⟩ = some (.int .i64 y7) ∧ w'.cell? ⟨T10, 7, none⟩ = some (.int .i64 y8) ∧ w'.cell? ⟨T10, 8, none⟩ = some (.int .i64 y9) ∧ w'.cell? ⟨T12, 0, none⟩ = some (.int .u64 y1) ∧ w'.cell? ⟨T12, 1, none⟩ = some (.int .i64 y2) ∧ w'.cell? ⟨T12, 2, none⟩ = some (.int .i64 y3) ∧ w'.cell? ⟨T12, 3, none⟩ = some (.int .i64 y4) ∧ w'.cell? ⟨T12, 4, none⟩ = some (.int .u64 y5) ∧ w'.cell? ⟨T12, 5, none⟩ = some (.int .i64 y6) ∧ w'.cell? ⟨T12, 6, none⟩ = some (.int .i64 y7) ∧ w'.cell? ⟨T12, 7, none⟩ = some (.int .i64 y8) ∧ w'.cell? ⟨T12, 8, none⟩ = some (.int .i64 y9) ∧ w'.cell? ⟨c, 0, none⟩ = some (.slice va R.length vc) ∧ w'.cell? ⟨c, 1, none⟩ = some (.bool (!ok)) ∧ RR w' rb R (!ok) ∧ Below w.heap.size w w') → Calls Tryz.prog 18 #[] w' fun e w'' => e = .returned (.bool true) ∧ (w''.cell? ⟨T10, 0, none⟩ = some (.int .u64 y1) ∧ w''.cell? ⟨T10, 1, none⟩ = some (.int .i64 y2) ∧ w''.cell? ⟨T10, 2, none⟩ = some (.int .i64 y3) ∧ w''.cell? ⟨T10, 3, none⟩ = some (.int .i64 y4) ∧ w''.cell? ⟨T10, 4, none⟩ = some (.int .u64 y5) ∧ w''.cell? ⟨T10, 5, none⟩ = some (.int .i64 y6) ∧ w''.cell? ⟨T10, 6, none⟩ = some (.int .i64 y7) ∧ w''.cell? ⟨T10, 7, none⟩ = some (.int .i64 y8) ∧ w''.cell? ⟨T10, 8, none⟩ = some (.int .i64 y9) ∧ w''.cell? ⟨T12, 0, none⟩ = some (.int .u64 y1) ∧ w''.cell? ⟨T12, 1, none⟩ = some (.int .i64 y2) ∧ w''.cell? ⟨T12, 2, none⟩ = some (.int .i64 y3) ∧ w''.cell? ⟨T12, 3, none⟩ = some (.int .i64 y4) ∧ w''.cell? ⟨T12, 4, none⟩ = some (.int .u64 y5) ∧ w''.cell? ⟨T12, 5, none⟩ = some (.int .i64 y6) ∧ w''.cell? ⟨T12, 6, none⟩ = some (.int .i64 y7) ∧ w''.cell? ⟨T12, 7, none⟩ = some (.int .i64 y8) ∧ w''.cell? ⟨T12, 8, none⟩ = some (.int .i64 y9) ∧ w''.cell? ⟨c, 0, none⟩ = some (.slice va R.length vc) ∧ w''.cell? ⟨c, 1, none⟩ = some (.bool (!ok)) ∧ RR w'' rb R (!ok) ∧ Below w.heap.size w w'')) := Lib.hid (fun w' h => (lives16 w').mono (by rintro e w'' ⟨rfl, hb⟩; exact ⟨rfl, send_below h hb⟩))
    have hgd := fun (op : BinOp) (x y : Operand) (xs ys : Array Value) (w : World) => guard_tbt op x y xs ys w
    have heq := fun (w : World) => eql_tbt y1 y2 y3 y4 y5 y6 y7 y8 y9 w
    go_region_held3 (fun w' => w'.cell? ⟨T10, 0, none⟩ = some (.int .u64 y1) ∧ w'.cell? ⟨T10, 1, none⟩ = some (.int .i64 y2) ∧ w'.cell? ⟨T10, 2, none⟩ = some (.int .i64 y3) ∧ w'.cell? ⟨T10, 3, none⟩ = some (.int .i64 y4) ∧ w'.cell? ⟨T10, 4, none⟩ = some (.int .u64 y5) ∧ w'.cell? ⟨T10, 5, none⟩ = some (.int .i64 y6) ∧ w'.cell? ⟨T10, 6, none⟩ = some (.int .i64 y7) ∧ w'.cell? ⟨T10, 7, none⟩ = some (.int .i64 y8) ∧ w'.cell? ⟨T10, 8, none⟩ = some (.int .i64 y9) ∧ w'.cell? ⟨T12, 0, none⟩ = some (.int .u64 y1) ∧ w'.cell? ⟨T12, 1, none⟩ = some (.int .i64 y2) ∧ w'.cell? ⟨T12, 2, none⟩ = some (.int .i64 y3) ∧ w'.cell? ⟨T12, 3, none⟩ = some (.int .i64 y4) ∧ w'.cell? ⟨T12, 4, none⟩ = some (.int .u64 y5) ∧ w'.cell? ⟨T12, 5, none⟩ = some (.int .i64 y6) ∧ w'.cell? ⟨T12, 6, none⟩ = some (.int .i64 y7) ∧ w'.cell? ⟨T12, 7, none⟩ = some (.int .i64 y8) ∧ w'.cell? ⟨T12, 8, none⟩ = some (.int .i64 y9) ∧ w'.cell? ⟨c, 0, none⟩ = some (.slice va R.length vc) ∧ w'.cell? ⟨c, 1, none⟩ = some (.bool (!ok)) ∧ RR w' rb R (!ok) ∧ Below w.heap.size w w')
      (first | exact HS0.out | assumption)
      (first
        | (go_at_call 16; refine (HL.out _ (by assumption)).mono ?_; rintro e w8 ⟨rfl, rfl⟩)
        | (go_at_call 17; refine (HBD.out _ (by assumption)).mono ?_; rintro e w8 ⟨rfl, rfl⟩)
        | (go_at_call 18; refine (HLV.out _ (by assumption)).mono ?_; rintro e w8 ⟨rfl, hS8⟩))
    all_goals
      obtain ⟨-, -, -, -, -, -, -, -, -, -, -, -, -, -, -, -, -, -, -, -, -, hbe⟩ := hS8
      have HBE := Lib.hid hbe
      clear hbe h0
      go_wp2_with fail
      go_ret
      exact ⟨rfl, HBE.out⟩
end Go.Proofs.YthnnbmofpmedhaaGreat
