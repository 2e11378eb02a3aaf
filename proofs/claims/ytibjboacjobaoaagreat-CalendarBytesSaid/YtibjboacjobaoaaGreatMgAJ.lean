import Derived.Test.YtibjboacjobaoaaGreatMgAI
import Derived.Test.YtibjboacjobaoaaGreatMgAA
import Derived.Test.YtibjboacjobaoaaGreatRows
import Derived.Defers
import Derived.Laws.Pointers
import Derived.Laws.LoneSync
import Derived.RegionTactic
import Derived.RegionCalls
import Derived.Laws.NewBlocks
import Derived.Laws.EntriesVeiled
import Derived.Outline
namespace Go.Proofs.YtibjboacjobaoaaGreat
open Go.RowKit
/- The other reader: Flag, End and Int. -/
open Go.RowKit

theorem rnum_first (c : Nat) (t : List Nat) : rnum (c :: t) = match ofN (c % 128) t with | some (n, rest) => some (n, decide (128 ≤ c), rest) | none => none := by
  rw [rnum]
  unfold ofN
  by_cases h1 : 8 < c % 128
  · rw [if_pos h1, if_pos (.inl h1)]
  rw [if_neg h1]
  by_cases h2 : t.length < c % 128
  · rw [if_pos h2, if_pos (.inr (.inl h2))]
  rw [if_neg h2]
  by_cases h3 : 0 < c % 128 ∧ t.getD 0 0 = 0
  · rw [if_pos h3, if_pos (.inr (.inr h3))]
  rw [if_neg h3, if_neg (by rintro (h | h | h) <;> first | omega | exact h3 h)]
set_option maxHeartbeats 1000000 in
theorem int_rf_no (b : Nat) (ds : List Nat) (bad : Bool) (w : World) (hr : RF w b ds bad) (hn : rnum ds = none) :
    Calls Tryz.prog 61 #[.pointer (some ⟨b, 0, none⟩)] w fun e w' => e = .returned (.int .i64 0) ∧ RF w' b [] true ∧ Rd b w w' := by
  cases ds with
  | nil =>
    have HF := Lib.hid (first_no b bad w hr)
    have HX := Lib.hid (fail_rf b [] bad w hr)
    clear hr hn
    go_enter Tryz.func61, Tryz.ntmps61
    go_wp2_with (first
      | (go_at_call 101; refine HF.out.mono ?_; rintro e w1 ⟨rfl, rfl⟩)
      | (go_at_call 63; refine HX.out.mono ?_; rintro e w2 ⟨rfl, hr2, ht2⟩))
    go_ret
    exact ⟨rfl, hr2, ht2⟩
  | cons c t =>
    have hb : bad = false := by
      obtain ⟨v, _, _, _, h4⟩ := hr
      cases bad
      · rfl
      · simp at h4
    subst hb
    have hc : c < 256 := by obtain ⟨v, _, h2, _⟩ := hr; exact h2.1 c (by simp)
    have HF := Lib.hid (first_yes b c t w hr)
    have hof : ofN (c % 128) t = none := by
      rw [rnum_first] at hn
      cases h : ofN (c % 128) t with
      | none => rfl
      | some p => rw [h] at hn; cases hn
    have hnum : ∀ w1, RF w1 b t false → Calls Tryz.prog 102 #[.pointer (some ⟨b, 0, none⟩), .int .i64 ((c % 128 : Nat) : Int)] w1 fun e w2 => e = .returned (.tuple #[.int .u64 0, .bool false]) ∧ w1 = w2 := fun w1 h1 => (rfnum_any b (c % 128) t w1 h1).mono fun e w2 hq => by
      rcases hq with ⟨_, h1, h2⟩ | ⟨n', rest', h, _⟩
      · exact ⟨h1, h2⟩
      · rw [hof] at h; cases h
    have HQ := Lib.hid hnum
    have hm : ((c % 128 : Nat) : Int) = (c : Int) % 128 := by omega
    have hw : IntKind.i64.wrap ((c : Int) % 128) = (c : Int) % 128 := IntWalk.i64_in _ ⟨by omega, by omega⟩
    rw [hm] at HQ
    clear hr hn hof hnum hm
    go_enter Tryz.func61, Tryz.ntmps61
    go_wp2_with (first
      | (go_at_call 101; refine HF.out.mono ?_; rintro e w1 ⟨rfl, hr1, ht1⟩)
      | (go_at_call 102; refine (HQ.out w1 hr1).mono ?_; rintro e w2 ⟨rfl, rfl⟩)
      | (go_at_call 63; refine (fail_rf b _ _ _ hr1).mono ?_; rintro e w3 ⟨rfl, hr3, ht3⟩))
    go_ret
    exact ⟨rfl, hr3, ht1.trans ht3⟩
/- The other reader: Int. -/
open Go.RowKit

set_option maxHeartbeats 1000000 in
theorem int_rf_some (b n : Nat) (bl : Bool) (ds rest : List Nat) (bad : Bool) (w : World) (hr : RF w b ds bad) (hn : rnum ds = some (n, bl, rest)) :
    Calls Tryz.prog 61 #[.pointer (some ⟨b, 0, none⟩)] w (GotF b w (.int .i64 0) ((rInt ds).map i64v)) := by
  have hrI : (rInt ds).map i64v = if n ≤ 9223372036854775807 then some (.int .i64 (if bl then -1 - (n : Int) else (n : Int)), rest) else none := by
    unfold rInt
    rw [hn]
    by_cases h : n ≤ 9223372036854775807
    · simp only [if_pos h]; rfl
    · simp only [if_neg h]; rfl
  cases ds with
  | nil => simp [rnum] at hn
  | cons c t =>
    have hb : bad = false := by
      obtain ⟨v, _, _, _, h4⟩ := hr
      cases bad
      · rfl
      · simp at h4
    subst hb
    have hc : c < 256 := by obtain ⟨v, _, h2, _⟩ := hr; exact h2.1 c (by simp)
    have HF := Lib.hid (first_yes b c t w hr)
    rw [rnum_first] at hn
    have hof : ofN (c % 128) t = some (n, rest) ∧ bl = decide (128 ≤ c) := by
      cases h : ofN (c % 128) t with
      | none => rw [h] at hn; cases hn
      | some p =>
        obtain ⟨n', r'⟩ := p
        rw [h] at hn
        simp only [Option.some.injEq, Prod.mk.injEq] at hn
        obtain ⟨rfl, rfl, rfl⟩ := hn
        exact ⟨rfl, rfl⟩
    obtain ⟨hof, rfl⟩ := hof
    have hnum : ∀ w1, RF w1 b t false → Calls Tryz.prog 102 #[.pointer (some ⟨b, 0, none⟩), .int .i64 ((c % 128 : Nat) : Int)] w1 fun e w2 => e = .returned (.tuple #[.int .u64 ((n : Nat) : Int), .bool true]) ∧ RF w2 b rest false ∧ Rd b w1 w2 := fun w1 h1 => (rfnum_any b (c % 128) t w1 h1).mono fun e w2 hq => by
      rcases hq with ⟨h, _⟩ | ⟨n', rest', h, h2, h3, h4, _⟩
      · rw [hof] at h; cases h
      · rw [hof] at h
        simp only [Option.some.injEq, Prod.mk.injEq] at h
        obtain ⟨rfl, rfl⟩ := h
        exact ⟨h2, h3, h4⟩
    have HQ := Lib.hid hnum
    have hm : ((c % 128 : Nat) : Int) = (c : Int) % 128 := by omega
    have hw : IntKind.i64.wrap ((c : Int) % 128) = (c : Int) % 128 := IntWalk.i64_in _ ⟨by omega, by omega⟩
    rw [hm] at HQ
    rw [hrI]
    clear hr hn hof hnum hm hrI
    by_cases hle : n ≤ 9223372036854775807
    · rw [if_pos hle]
      have hd : decide ((n : Int) ≤ 9223372036854775807) = true := by simp; omega
      have hwn : IntKind.i64.wrap (n : Int) = (n : Int) := IntWalk.i64_in _ ⟨by omega, by omega⟩
      have hws : IntKind.i64.wrap (-1 - (n : Int)) = -1 - (n : Int) := IntWalk.i64_in _ ⟨by omega, by omega⟩
      by_cases h128 : 128 ≤ c
      · have hdc : decide ((128 : Int) ≤ (c : Int)) = true := by simp; omega
        rw [if_pos (by simp [h128])]
        go_enter Tryz.func61, Tryz.ntmps61
        go_wp2_with (first
          | (go_at_call 101; refine HF.out.mono ?_; rintro e w1 ⟨rfl, hr1, ht1⟩)
          | (go_at_call 102; refine (HQ.out w1 hr1).mono ?_; rintro e w2 ⟨rfl, hr2, ht2⟩))
        go_ret
        exact GotF.yes rfl hr2 (ht1.trans ht2)
      · have hdc : decide ((128 : Int) ≤ (c : Int)) = false := by simp; omega
        rw [if_neg (by simp [h128])]
        go_enter Tryz.func61, Tryz.ntmps61
        go_wp2_with (first
          | (go_at_call 101; refine HF.out.mono ?_; rintro e w1 ⟨rfl, hr1, ht1⟩)
          | (go_at_call 102; refine (HQ.out w1 hr1).mono ?_; rintro e w2 ⟨rfl, hr2, ht2⟩))
        go_ret
        exact GotF.yes rfl hr2 (ht1.trans ht2)
    · rw [if_neg hle]
      have hd : decide ((n : Int) ≤ 9223372036854775807) = false := by simp; omega
      go_enter Tryz.func61, Tryz.ntmps61
      go_wp2_with (first
        | (go_at_call 101; refine HF.out.mono ?_; rintro e w1 ⟨rfl, hr1, ht1⟩)
        | (go_at_call 102; refine (HQ.out w1 hr1).mono ?_; rintro e w2 ⟨rfl, hr2, ht2⟩)
        | (go_at_call 63; refine (fail_rf b _ _ _ hr2).mono ?_; rintro e w3 ⟨rfl, hr3, ht3⟩))
      go_ret
      exact GotF.no rfl hr3 ((ht1.trans ht2).trans ht3)
theorem int_rf (b : Nat) (ds : List Nat) (bad : Bool) (w : World) (hr : RF w b ds bad) :
    Calls Tryz.prog 61 #[.pointer (some ⟨b, 0, none⟩)] w (GotF b w (.int .i64 0) ((rInt ds).map i64v)) := by
  cases hn : rnum ds with
  | none =>
    refine (int_rf_no b ds bad w hr hn).mono ?_
    rintro e w' ⟨rfl, h1, h2⟩
    exact GotF.no (by rw [rInt_none hn]; rfl) h1 h2
  | some p =>
    obtain ⟨n, bl, rest⟩ := p
    exact int_rf_some b n bl ds rest bad w hr hn
/- The parts of sync.Once and sync/atomic: each a contract of its own. -/
open Go.RowKit

/-- Of what was there, the blocks X alone may have turned. -/
structure Only (X : Nat → Prop) (w w' : World) : Prop where
  os : w'.os = w.os
  tape : w'.tape = w.tape
  output : w'.output = w.output
  size : w.heap.size ≤ w'.heap.size
  block : ∀ k, k < w.heap.size → ¬ X k → w'.heap[k]? = w.heap[k]?
theorem Only.refl (X : Nat → Prop) (w : World) : Only X w w := ⟨rfl, rfl, rfl, Nat.le_refl _, fun _ _ _ => rfl⟩
theorem Only.trans {X : Nat → Prop} {a b c : World} (h : Only X a b) (k : Only X b c) : Only X a c :=
  ⟨k.os.trans h.os, k.tape.trans h.tape, k.output.trans h.output, Nat.le_trans h.size k.size, fun i hi hx => (k.block i (Nat.lt_of_lt_of_le hi h.size) hx).trans (h.block i hi hx)⟩
theorem Only.more {X Y : Nat → Prop} {a b : World} (h : Only X a b) (hxy : ∀ k, X k → Y k) : Only Y a b := ⟨h.os, h.tape, h.output, h.size, fun k hk hy => h.block k hk fun hx => hy (hxy k hx)⟩
theorem Only.setCell {X : Nat → Prop} {w w' : World} (h : Only X w w') (p : Addr) (v : Value) (hp : X p.block) : Only X w (w'.setCell p v) :=
  ⟨h.os, h.tape, h.output, by have := h.size; simpa using this, fun k hk hx => (Below.heap_setCell _ _ _ _ (fun e => hx (by first | (rw [e]; exact hp) | (rw [← e]; exact hp)))).trans (h.block k hk hx)⟩
theorem Only.drew {X : Nat → Prop} {w w' : World} (h : Only X w w') : Only X w w'.drew := ⟨h.os, h.tape, h.output, h.size, h.block⟩
theorem Only.below {X : Nat → Prop} {w w' : World} (h : Below w.heap.size w w') : Only X w w' := ⟨h.os, h.tape, h.output, h.size, fun k hk _ => h.block k hk⟩
theorem Only.toBelow {X : Nat → Prop} {B : Nat} {w w' : World} (h : Only X w w') (hB : B ≤ w.heap.size) (hx : ∀ k, X k → B ≤ k) : Below B w w' :=
  ⟨h.os, h.tape, h.output, h.size, fun k hk => h.block k (Nat.lt_of_lt_of_le hk hB) fun hxk => by have := hx k hxk; omega⟩
theorem Only.cell {X : Nat → Prop} {w w' : World} (h : Only X w w') {p : Addr} (hp : p.block < w.heap.size) (hx : ¬ X p.block) : w'.cell? p = w.cell? p := World.cell?_of_block (h.block _ hp hx)

theorem disable (w : World) : (callFunc 149 #[]).run Tryz.prog w = .ok (.value (.tuple #[])) w := run_call_mark0 Tryz.func149 (by kernel_rfl) (by kernel_rfl) (by kernel_rfl) .disable (by kernel_rfl) w
theorem enable (w : World) : (callFunc 151 #[]).run Tryz.prog w = .ok (.value (.tuple #[])) w := run_call_mark0 Tryz.func151 (by kernel_rfl) (by kernel_rfl) (by kernel_rfl) .enable (by kernel_rfl) w
theorem acquire (a : Addr) (w : World) : (callFunc 152 #[.pointer (some a)]).run Tryz.prog w = .ok (.value (.tuple #[])) w := run_call_marked Tryz.func152 (by kernel_rfl) (by kernel_rfl) (by kernel_rfl) .acquire (by kernel_rfl) a w
theorem releaseMerge (a : Addr) (w : World) : (callFunc 154 #[.pointer (some a)]).run Tryz.prog w = .ok (.value (.tuple #[])) w := run_call_marked Tryz.func154 (by kernel_rfl) (by kernel_rfl) (by kernel_rfl) .releaseMerge (by kernel_rfl) a w

/-- A Bool is stored, as a deferred call. -/
theorem store_deferred (a : Addr) (x : Value) (u : FrameMode) (w : World) (hc : w.cell? a = some x) (hz : w.frozen? a = false) :
    CallsD Tryz.prog 131 #[.pointer (some a), .bool true] u w fun e u' w' => u' = u ∧ (e = .returned (.tuple #[]) ∧ w.drew.setCell a (.int .u32 1) = w') := by
  have hc' : w.drew.cell? a = some x := by go_simp
  have hz' : w.drew.frozen? a = false := by go_simp
  have hst := run_call_store (P := Tryz.prog) Tryz.func142 (by kernel_rfl) (by kernel_rfl) (by kernel_rfl) (by kernel_rfl) (k := .u32) (y := 1) hc' hz'
  go_enter_d Tryz.func131, Tryz.ntmps131
  go_wp2
  go_region_calls
  all_goals (go_end0; exact ⟨rfl, rfl⟩)
/-- A Bool is stored. -/
theorem store_true (a : Addr) (x : Value) (w : World) (hc : w.cell? a = some x) (hz : w.frozen? a = false) :
    Calls Tryz.prog 131 #[.pointer (some a), .bool true] w fun e w' => e = .returned (.tuple #[]) ∧ w.drew.setCell a (.int .u32 1) = w' := by
  have hc' : w.drew.cell? a = some x := by go_simp
  have hz' : w.drew.frozen? a = false := by go_simp
  have hst := run_call_store (P := Tryz.prog) Tryz.func142 (by kernel_rfl) (by kernel_rfl) (by kernel_rfl) (by kernel_rfl) (k := .u32) (y := 1) hc' hz'
  go_enter Tryz.func131, Tryz.ntmps131
  go_wp2
  go_region_calls
  all_goals (go_end0; exact ⟨rfl, rfl⟩)
theorem load_bool (a : Addr) (d : Int) (w : World) (hc : w.cell? a = some (.int .u32 d)) :
    Calls Tryz.prog 129 #[.pointer (some a)] w fun e w' => e = .returned (.bool (d != 0)) ∧ w = w' := by
  have hl := run_call_load (P := Tryz.prog) Tryz.func139 (by kernel_rfl) (by kernel_rfl) (by kernel_rfl) .u32 (by kernel_rfl) hc
  go_enter Tryz.func129, Tryz.ntmps129
  go_wp2
  go_ret
  exact ⟨rfl, rfl⟩
/-- A count is raised. -/
theorem add_int (a : Addr) (x y s : Int) (hs : wrap64 (x + y) = s) (w : World) (hc : w.cell? a = some (.int .i64 x)) (hz : w.frozen? a = false) :
    Calls Tryz.prog 108 #[.pointer (some a), .int .i64 y] w fun e w' => e = .returned (.int .i64 s) ∧ w.setCell a (.int .i64 s) = w' := by
  have hadd := run_call_add (P := Tryz.prog) Tryz.func128 (by kernel_rfl) (by kernel_rfl) (by kernel_rfl) .i64 (by kernel_rfl) (y := y) (s := s) hc hz (by simp [go_sem, IntKind.wrap_i64, ← hs, wrap64])
  go_enter Tryz.func108, Tryz.ntmps108
  go_wp2
  go_ret
  exact ⟨rfl, rfl⟩
set_option maxRecDepth 100000 in
set_option maxHeartbeats 1600000 in
theorem unlock_deferred (a : Addr) (u : FrameMode) (w : World) (hc : w.cell? a = some (.int .i32 1)) (hz : w.frozen? a = false) :
    CallsD Tryz.prog 141 #[.pointer (some a)] u w fun e u' w' => u' = u ∧ (e = .returned (.tuple #[]) ∧ w.setCell a (.int .i32 0) = w') := by
  have hd := disable
  have he := enable
  have hr := releaseMerge
  have hadd := run_call_add (P := Tryz.prog) Tryz.func155 (by kernel_rfl) (by kernel_rfl) (by kernel_rfl) .i32 (by kernel_rfl) (y := -1) (s := 0) hc hz (by simp [go_sem]; rfl)
  have hcv := run_convert_to_unsafe (P := Tryz.prog) (src := 221) (dst := 225) Tryz.underlying221 Tryz.underlying225 (by kernel_rfl) hc
  go_enter_d Tryz.func141, Tryz.ntmps141
  go_wp2
  go_end0
  go_wp2
  go_end0
  exact ⟨rfl, rfl⟩
set_option maxRecDepth 100000 in
set_option maxHeartbeats 1600000 in
theorem lock_free (a : Addr) (w : World) (hc : w.cell? a = some (.int .i32 0)) (hz : w.frozen? a = false) :
    Calls Tryz.prog 140 #[.pointer (some a)] w fun e w' => e = .returned (.tuple #[]) ∧ w.setCell a (.int .i32 1) = w' := by
  have hd := disable
  have he := enable
  have ha := acquire
  have hcas := run_call_cas_hit (P := Tryz.prog) Tryz.func150 (by kernel_rfl) (by kernel_rfl) (by kernel_rfl) .i32 (by kernel_rfl) (y := 1) hc hz
  have hc' : (w.setCell a (.int .i32 1)).cell? a = some (.int .i32 1) := World.cell?_setCell_same w a _ hc
  have hcv := run_convert_to_unsafe (P := Tryz.prog) (src := 221) (dst := 225) Tryz.underlying221 Tryz.underlying225 (by kernel_rfl) hc'
  go_enter Tryz.func140, Tryz.ntmps140
  go_wp2
  first | go_end0 | (simp only [Exit.inBlock, Exit.then]; refine bodyPost_ret (results_none rfl _ _ _) rfl ?_) | refine bodyPost_ret (results_none rfl _ _ _) rfl ?_
  go_wp2
  go_end0
  exact ⟨rfl, rfl⟩
end Go.Proofs.YtibjboacjobaoaaGreat
