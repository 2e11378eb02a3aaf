/- Tickets: the law of bytes for every input. -/
import Derived.Test.YthnnbmofpmedhaaGreatTbJ
namespace Go.Proofs.YthnnbmofpmedhaaGreat
open Go.RowKit
set_option maxRecDepth 100000 in
set_option maxHeartbeats 4000000 in
theorem tb_big (id cn st lv ge fr lf du tl : Int) (a : Option Addr) (n cap : Nat) (w : World) (hn : 3000 < n) :
    Calls Tryz.prog 4 #[tkV id cn st lv ge fr lf du tl, .slice a n cap] w fun e w' => e = .returned (.bool true) ∧ Below w.heap.size w w' := by
  have d1 : decide (3000 < (n : Int)) = true := decide_eq_true (by omega)
  unfold tkV
  obtain ⟨B2, s0, sz⟩ := box1 w #[.int .u64 id, .int .i64 cn, .int .i64 st, .int .i64 lv, .int .u64 ge, .int .i64 fr, .int .i64 lf, .int .i64 du, .int .i64 tl] 48
  have HB := Lib.hid B2
  clear B2 s0 sz
  go_enter Tryz.func4, Tryz.ntmps4
  go_wp2_with (go_at_call 18; refine (lives16 _).mono ?_; rintro e w1 ⟨rfl, hb⟩; have HB1 := Lib.hid (HB.out.trans (hb.mono HB.out.size)); clear hb)
  go_ret
  exact ⟨rfl, HB1.out⟩
set_option maxRecDepth 100000 in
theorem slice_thereB {w : World} {base : Nat} {a : Option Addr} {n c : Nat} (h : Value.okWide Tryz.prog w .any base 25 (.slice a n c)) : ∀ k, w.heap.size ≤ k → (Value.slice a n c).ownBlock ≠ some k := by
  intro k hk e
  cases a with
  | none => simp [Value.ownBlock] at e
  | some x =>
    simp only [Value.ownBlock, Option.map_some, Option.some.injEq] at e
    simp only [Value.okWide, Tryz.underlying25, Cell.okWide, Cell.ok] at h
    obtain ⟨_, _, _, _, row, cells, hs, _⟩ := h
    have hx : w.heap[x.block]? = none := Array.getElem?_eq_none (by omega)
    simp [World.shape?, hx] at hs
set_option maxRecDepth 100000 in
theorem tb_walk (id cn st lv ge fr lf du tl : Int) (a : Option Addr) (n cap : Nat) (bs : List Nat) (w : World) (h0 : (0 ≤ id ∧ id < 18446744073709551616) ∧ (0 ≤ ge ∧ ge < 18446744073709551616) ∧ fr ≤ 9223372036854775807) (h1 : BSc cap w a n bs) (hown : ∀ k, w.heap.size ≤ k → (Value.slice a n cap).ownBlock ≠ some k) :
    Calls Tryz.prog 4 #[tkV id cn st lv ge fr lf du tl, .slice a n cap] w fun e w' => e = .returned (.bool true) ∧ Below w.heap.size w w' := by
  by_cases hn : 3000 < n
  · exact tb_big id cn st lv ge fr lf du tl a n cap w hn
  · have hrb := h1.2 (by omega)
    cases hs : soundB cn st lv ge fr lf du tl with
    | false => exact tb_no id cn st lv ge fr lf du tl h0.2.2 a n cap bs w hrb h1.1 hown (by omega) _ rfl hs
    | true =>
      obtain ⟨n1, n2, n3, n4, n5, n6, n7, n8, n9, rfl, rfl, rfl, rfl, rfl, rfl, rfl, rfl, rfl, g1, g2, g3, g4, g5, g6, g7, g8, g9⟩ := sound_nat hs h0.1 h0.2.1
      exact tb_yes n1 n2 n3 n4 n5 n6 n7 n8 n9 g1 g2 g3 g4 g5 g6 g7 g8 g9 a n cap bs w hrb h1.1 hown (by omega) _ rfl hs
end Go.Proofs.YthnnbmofpmedhaaGreat
