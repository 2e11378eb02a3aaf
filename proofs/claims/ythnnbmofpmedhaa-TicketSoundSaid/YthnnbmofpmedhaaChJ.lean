/- What the laws of layer 15 use: First and Next of any contract; what is looked at; two steps compared; how a contract and a step read. -/
import Derived.Test.YthnnbmofpmedhaaChI
import Derived.Laws.StructEq
namespace Go.Proofs.Ythnnbmofpmedhaa
open Go.RowKit
def Fst (D : Cal) (g : Bool) (b0 now : Int) (l f c d e : Int) : Prop := (g = false ∧ l = 0 ∧ f = 0 ∧ c = 0 ∧ d = 0 ∧ e = 2) ∨ (g = true ∧ Ran D 0 b0 now l f c d e)
theorem Fst.same {D : Cal} {g : Bool} {b now l f c d e l' f' c' d' e' : Int} (h : Fst D g b now l f c d e) (h' : Fst D g b now l' f' c' d' e') : l = l' ∧ f = f' ∧ c = c' ∧ d = d' ∧ e = e' := by
  rcases h with ⟨h0, rfl, rfl, rfl, rfl, rfl⟩ | ⟨h0, h1⟩ <;> rcases h' with ⟨k0, rfl, rfl, rfl, rfl, rfl⟩ | ⟨k0, k1⟩
  · exact ⟨rfl, rfl, rfl, rfl, rfl⟩
  · rw [h0] at k0; cases k0
  · rw [h0] at k0; cases k0
  · exact h1.same k1
theorem first_all {L : Loc} {D : Cal} {w : World} (h : Ck L D w) (hd : D.ok) (c : Int) (a : Option Addr) (n ca : Nat) (r b : Int) (B P : Nat → Int) (now : Int) (hS : Sps w a n B P) :
    Calls Try.prog 13 #[.pointer (some ⟨L.K, 0, none⟩), conV c a n ca r b, .int .i64 now] w (Gave L D w (Fst D (goodC c n r b B P) (B 0) now)) := by
  cases hg : goodC c n r b B P
  · refine (first_bad (some ⟨L.K, 0, none⟩) c a n ca r b B P now w hS hg).mono ?_
    rintro e w' ⟨rfl, hb⟩
    exact ⟨0, 0, 0, 0, 2, rfl, .inl ⟨rfl, rfl, rfl, rfl, rfl, rfl⟩, h.kept hb, Only.below hb⟩
  · refine (first_any h hd c a n ca r b B P now hS hg).mono ?_
    rintro e w' ⟨l, f, c, d, er, rfl, hR, hC, ho⟩
    exact ⟨l, f, c, d, er, rfl, .inr ⟨rfl, hR⟩, hC, ho⟩
theorem rfirst_all {D : Cal} (hd : D.ok) (a0 : Option Addr) (ca0 : Nat) (b0 : Option Addr) (cb0 : Nat) (c : Int) (a : Option Addr) (n ca : Nat) (r b : Int) (B P : Nat → Int) (now : Int) (w : World) (hS0 : Sps w a0 D.n D.F D.T) (hR0 : Sps w b0 D.m D.G D.U) (hS : Sps w a n B P) :
    Calls Try.prog 14 #[calV D.off a0 D.n ca0 b0 D.m cb0, conV c a n ca r b, .int .i64 now] w (RGave w (Fst D (goodC c n r b B P) (B 0) now)) := by
  cases hg : goodC c n r b B P
  · refine (rfirst_bad D.off a0 D.n ca0 b0 D.m cb0 c a n ca r b B P now w hS hg).mono ?_
    rintro e w' ⟨rfl, hb⟩
    exact ⟨0, 0, 0, 0, 2, rfl, .inl ⟨rfl, rfl, rfl, rfl, rfl, rfl⟩, hb⟩
  · refine (rfirst_any hd a0 ca0 b0 cb0 c a n ca r b B P now w hS0 hR0 hS hg).mono ?_
    rintro e w' ⟨l, f, c, d, er, rfl, hR, hb⟩
    exact ⟨l, f, c, d, er, rfl, .inr ⟨rfl, hR⟩, hb⟩
def Nx (D : Cal) (g : Bool) (n : Nat) (B : Nat → Int) (lv now : Int) (l f c d : Int) (ok : Bool) (e : Int) : Prop := (g = false ∧ l = 0 ∧ f = 0 ∧ c = 0 ∧ d = 0 ∧ ok = false ∧ e = 2) ∨ (g = true ∧ Nxtd D n B lv now l f c d ok e)
theorem Nx.same {D : Cal} {g : Bool} {n : Nat} {B : Nat → Int} {lv now l f c d e l' f' c' d' e' : Int} {ok ok' : Bool} (h : Nx D g n B lv now l f c d ok e) (h' : Nx D g n B lv now l' f' c' d' ok' e') : l = l' ∧ f = f' ∧ c = c' ∧ d = d' ∧ ok = ok' ∧ e = e' := by
  rcases h with ⟨h0, rfl, rfl, rfl, rfl, rfl, rfl⟩ | ⟨h0, h1⟩ <;> rcases h' with ⟨k0, rfl, rfl, rfl, rfl, rfl, rfl⟩ | ⟨k0, k1⟩
  · exact ⟨rfl, rfl, rfl, rfl, rfl, rfl⟩
  · rw [h0] at k0; cases k0
  · rw [h0] at k0; cases k0
  · exact h1.same k1
theorem next_all {L : Loc} {D : Cal} {w : World} (h : Ck L D w) (hd : D.ok) (c : Int) (a : Option Addr) (n ca : Nat) (r b : Int) (B P : Nat → Int) (lv x1 x2 x3 now : Int) (hS : Sps w a n B P) :
    Calls Try.prog 15 #[.pointer (some ⟨L.K, 0, none⟩), conV c a n ca r b, stepV lv x1 x2 x3, .int .i64 now] w (Gave3 L D w (Nx D (goodC c n r b B P) n B lv now)) := by
  cases hg : goodC c n r b B P
  · refine (next_bad (some ⟨L.K, 0, none⟩) c a n ca r b B P lv x1 x2 x3 now w hS hg).mono ?_
    rintro e w' ⟨rfl, hb⟩
    exact ⟨0, 0, 0, 0, false, 2, rfl, .inl ⟨rfl, rfl, rfl, rfl, rfl, rfl, rfl⟩, h.kept hb, Only.below hb⟩
  · refine (next_any h hd c a n ca r b B P lv x1 x2 x3 now hS hg).mono ?_
    rintro e w' ⟨l, f, c, d, ok, er, rfl, hR, hC, ho⟩
    exact ⟨l, f, c, d, ok, er, rfl, .inr ⟨rfl, hR⟩, hC, ho⟩
theorem rnext_all {D : Cal} (hd : D.ok) (a0 : Option Addr) (ca0 : Nat) (b0 : Option Addr) (cb0 : Nat) (c : Int) (a : Option Addr) (n ca : Nat) (r b : Int) (B P : Nat → Int) (lv x1 x2 x3 now : Int) (w : World) (hS0 : Sps w a0 D.n D.F D.T) (hR0 : Sps w b0 D.m D.G D.U) (hS : Sps w a n B P) :
    Calls Try.prog 16 #[calV D.off a0 D.n ca0 b0 D.m cb0, conV c a n ca r b, stepV lv x1 x2 x3, .int .i64 now] w (RGave3 w (Nx D (goodC c n r b B P) n B lv now)) := by
  cases hg : goodC c n r b B P
  · refine (rnext_bad D.off a0 D.n ca0 b0 D.m cb0 c a n ca r b B P lv x1 x2 x3 now w hS hg).mono ?_
    rintro e w' ⟨rfl, hb⟩
    exact ⟨0, 0, 0, 0, false, 2, rfl, .inl ⟨rfl, rfl, rfl, rfl, rfl, rfl, rfl⟩, hb⟩
  · refine (rnext_any hd a0 ca0 b0 cb0 c a n ca r b B P lv x1 x2 x3 now w hS0 hR0 hS hg).mono ?_
    rintro e w' ⟨l, f, c, d, ok, er, rfl, hR, hb⟩
    exact ⟨l, f, c, d, ok, er, rfl, .inr ⟨rfl, hR⟩, hb⟩

set_option maxRecDepth 100000 in
set_option maxHeartbeats 4000000 in
theorem light15 (off : Int) (a0 : Option Addr) (n0 ca0 : Nat) (b0 : Option Addr) (m0 cb0 : Nat) (c : Int) (a : Option Addr) (n ca : Nat) (r b : Int) (w : World) (h0 : n0 ≤ maxLen) (h1 : m0 ≤ maxLen) (hn : n ≤ maxLen) :
    Calls Try.prog 9 #[calV off a0 n0 ca0 b0 m0 cb0, conV c a n ca r b] w fun e w' => e = .returned (.bool (decide (n0 ≤ 60 ∧ m0 ≤ 60) && decide (n ≤ 60))) ∧ Below w.heap.size w w' := by
  obtain ⟨B2, s0, s1, sz⟩ := box2 w #[.int .i64 off, .slice a0 n0 ca0, .slice b0 m0 cb0] #[.int .i64 c, .slice a n ca, .int .i64 r, .int .i64 b] 24 27
  have hli := light10 off a0 n0 ca0 b0 m0 cb0 ((w.alloc (.cells #[.int .i64 off, .slice a0 n0 ca0, .slice b0 m0 cb0] 24)).alloc (.cells #[.int .i64 c, .slice a n ca, .int .i64 r, .int .i64 b] 27)) h0 h1
  obtain ⟨x1, hx1⟩ : ∃ x, decide (n0 ≤ 60 ∧ m0 ≤ 60) = x := ⟨_, rfl⟩
  obtain ⟨x2, hx2⟩ : ∃ x, decide (n ≤ 60) = x := ⟨_, rfl⟩
  have d2 : decide ((n : Int) ≤ 60) = x2 := by rw [← hx2]; congr 1; simp; omega
  rw [hx1] at hli
  rw [hx1, hx2]
  have HB := Lib.hid B2
  have HS := Lib.hid (And.intro s1 sz)
  have j0 := cells_heap s0 0
  have j1 := cells_heap s0 1
  have j2 := cells_heap s0 2
  unfold maxLen at hn
  unfold conV
  unfold calV at *
  clear B2 s0 s1 sz h0 h1 hx1 hx2
  cases x1
  all_goals
    go_enter Try.func9, Try.ntmps9
    go_wp2_with fail
    generalize ((w.alloc (.cells #[.int .i64 off, .slice a0 n0 ca0, .slice b0 m0 cb0] 24)).alloc (.cells #[.int .i64 c, .slice a n ca, .int .i64 r, .int .i64 b] 27)) = W at hli HB HS j0 j1 j2 ⊢
    refine hli.mono ?_
    rintro e w3 ⟨rfl, hb3⟩
    obtain ⟨_, k1, -⟩ := four_at ((hb3.block (w.heap.size + 1) (by have := HS.out.2; omega)).trans HS.out.1)
    have HB3 := Lib.hid (HB.out.trans (hb3.mono HB.out.size))
    clear hb3 hli j0 j1 j2
    go_wp2_with fail
    go_ret
    exact ⟨rfl, HB3.out⟩

theorem rstep_struct : Try.prog.underlying 39 = some (.struct (Try.prog.fieldsOf 39)) := by kernel_rfl
theorem rstep_held : Try.prog.stoodInHeld 39 = false := by kernel_rfl
theorem rstep_guard : Try.prog.eqGuardType Try.prog.depth 39 = false := by kernel_rfl
theorem guard_rstep (op : BinOp) (x y : Operand) (xs ys : Array Value) (w : World) : (eqGuard op 39 x y (.agg xs) (.agg ys)).run Try.prog w = .ok () w := run_eqGuard_agg w op _ x y xs ys rstep_guard
theorem eq_rstep (l f c d : Int) (w : World) : (Op.equalIn 10000 39 (.agg #[.int .i64 l, .int .i64 f, .int .i64 c, .int .i64 d]) (.agg #[.int .i64 l, .int .i64 f, .int .i64 c, .int .i64 d])).run Try.prog w = .ok true w := by
  rw [run_equalIn_agg w 9999 _ _ _ rstep_struct rstep_held]
  have h : Try.prog.underlying 2 = some (.int .i64) := Try.underlying2
  have h' : Try.prog.underlying 3 = some (.int .i64) := Try.underlying3
  simp [Op.eqFields, go_sem, h, h', Try.underlying39]
theorem eql_rstep (l f c d : Int) (w : World) : (binOp .eql 39 (.agg #[.int .i64 l, .int .i64 f, .int .i64 c, .int .i64 d]) (.agg #[.int .i64 l, .int .i64 f, .int .i64 c, .int .i64 d])).run Try.prog w = .ok (.bool true) w := by
  rw [run_eql_struct, eq_rstep]; rfl
theorem neq_rstep (l f c d : Int) (w : World) : (binOp .neq 39 (.agg #[.int .i64 l, .int .i64 f, .int .i64 c, .int .i64 d]) (.agg #[.int .i64 l, .int .i64 f, .int .i64 c, .int .i64 d])).run Try.prog w = .ok (.bool false) w := by
  rw [run_neq_struct, eq_rstep]; rfl
end Go.Proofs.Ythnnbmofpmedhaa
