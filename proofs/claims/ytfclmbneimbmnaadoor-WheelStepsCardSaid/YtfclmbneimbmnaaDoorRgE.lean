/- A ring's Used: which slots bear something. -/
import Derived.Test.YtfclmbneimbmnaaDoorRgD
import Derived.Shelf.SlicesQ.Load
import Derived.Laws.Bits64b
namespace Go.Proofs.YtfclmbneimbmnaaDoor
open Go.RowKit Go.Shelf

/-- The bits of those slots below k that bear something. -/
def bitsN (L : Nat → Nat) : Nat → Nat
  | 0 => 0
  | k + 1 => if 0 < L k then bitsN L k ||| 2 ^ k else bitsN L k
theorem bitsN_lt (L : Nat → Nat) : ∀ k, bitsN L k < 2 ^ k
  | 0 => by simp [bitsN]
  | k + 1 => by
    have ih := bitsN_lt L k
    have h2 : 2 ^ k < 2 ^ (k + 1) := Nat.pow_lt_pow_right (by omega) (by omega)
    unfold bitsN
    split
    · exact Nat.or_lt_two_pow (by omega) h2
    · omega

/-- What Used asks of the program, said of a program by another name, and of an array's size by another name. -/
structure HatU (P : Program) (n : Nat) : Prop where
  mixed : P.follows .mixedOrders = true
  t3 : P.underlying 3 = some (.int .i64)
  a3 : ∀ w, Sem.run P (isAgg 3) w = .ok false w
  z3 : ∀ w, Sem.run P (Go.sizeOf 3) w = .ok 1 w
  v3 : ∀ w, Sem.run P (Go.zeroValue 3) w = .ok (.int .i64 0) w
  t4 : P.underlying 4 = some (.bool)
  a4 : ∀ w, Sem.run P (isAgg 4) w = .ok false w
  z4 : ∀ w, Sem.run P (Go.sizeOf 4) w = .ok 1 w
  v4 : ∀ w, Sem.run P (Go.zeroValue 4) w = .ok (.bool false) w
  t22 : P.underlying 22 = some (.slice 27)
  a22 : ∀ w, Sem.run P (isAgg 22) w = .ok false w
  z22 : ∀ w, Sem.run P (Go.sizeOf 22) w = .ok 1 w
  v22 : ∀ w, Sem.run P (Go.zeroValue 22) w = .ok (.slice none 0 0) w
  t25 : P.underlying 25 = some (.int .u64)
  a25 : ∀ w, Sem.run P (isAgg 25) w = .ok false w
  z25 : ∀ w, Sem.run P (Go.sizeOf 25) w = .ok 1 w
  v25 : ∀ w, Sem.run P (Go.zeroValue 25) w = .ok (.int .u64 0) w
  t38 : P.underlying 38 = some (.pointer 140)
  a38 : ∀ w, Sem.run P (isAgg 38) w = .ok false w
  z38 : ∀ w, Sem.run P (Go.sizeOf 38) w = .ok 1 w
  v38 : ∀ w, Sem.run P (Go.zeroValue 38) w = .ok (.pointer none) w
  t52 : P.underlying 137 = some (.map 25 182)
  a52 : ∀ w, Sem.run P (isAgg 137) w = .ok false w
  z52 : ∀ w, Sem.run P (Go.sizeOf 137) w = .ok 1 w
  v52 : ∀ w, Sem.run P (Go.zeroValue 137) w = .ok (.map none) w
  t54 : P.underlying 140 = Tryd.prog.underlying 140
  t51 : P.underlying 138 = some (.array 64 22)
  a51 : ∀ w, Sem.run P (isAgg 138) w = .ok true w
  z51 : ∀ w, Sem.run P (Go.sizeOf 138) w = .ok n w
  f21 : P.funcs[25]? = some Tryd.f25
  e49 : ∀ args w, (callFunc 77 args).run P w = .ok (.enter 77 args) w

set_option maxRecDepth 100000 in
theorem hatU : HatU Tryd.prog 64 where
  mixed := by kernel_rfl
  t3 := Tryd.underlying3
  a3 := Tryd.isAgg3
  z3 := Tryd.sizeOf3
  v3 := Tryd.zeroValue3
  t4 := Tryd.underlying4
  a4 := Tryd.isAgg4
  z4 := Tryd.sizeOf4
  v4 := Tryd.zeroValue4
  t22 := Tryd.underlying22
  a22 := Tryd.isAgg22
  z22 := Tryd.sizeOf22
  v22 := Tryd.zeroValue22
  t25 := Tryd.underlying25
  a25 := Tryd.isAgg25
  z25 := Tryd.sizeOf25
  v25 := Tryd.zeroValue25
  t38 := Tryd.underlying38
  a38 := Tryd.isAgg38
  z38 := Tryd.sizeOf38
  v38 := Tryd.zeroValue38
  t52 := Tryd.underlying137
  a52 := Tryd.isAgg137
  z52 := Tryd.sizeOf137
  v52 := Tryd.zeroValue137
  t54 := rfl
  t51 := Tryd.underlying138
  a51 := Tryd.isAgg138
  z51 := Tryd.sizeOf138
  f21 := Tryd.func25
  e49 := fun _ _ => rfl

theorem run_index_arr {P : Program} {t e : TypeId} {n : Nat} {A : Array Value} {v : Value} (h : P.underlying t = some (.array n e)) (z : ∀ w, Sem.run P (Go.sizeOf e) w = .ok 1 w) (a : ∀ w, Sem.run P (isAgg e) w = .ok false w) (k : Nat) (hk : k < n) (hn : n < 1000) (hA : A[k]? = some v) (w : World) :
    Sem.run P (Instr.index t (.agg A) (.int .i64 k)) w = .ok v w := by
  have hi : IntKind.i64.wrap (k : Int) = (k : Int) := by rw [IntKind.wrap_i64]; omega
  simp [Instr.index, run_underlying h, asIntOf, go_sem, z, a, hA, hk]

set_option maxHeartbeats 4000000 in
set_option maxRecDepth 1000000 in
theorem usedP {P : Program} {n r : Nat} {V : Nat → Value} {L : Nat → Nat} (H : HatU P n) (hn : n = 64) (w : World) (hV : ∀ k, k < 64 → w.cell? ⟨r, k, none⟩ = some (V k)) (hL : ∀ k, k < 64 → ∃ a c, V k = .slice a (L k) c) (hL2 : ∀ k, L k < 1000000000000)
    (hc : ∀ w1, w1 = w → Calls P 77 #[.pointer (some ⟨r, 0, none⟩)] w1 fun e w' => e = .returned (.bool true) ∧ w' = w1) :
    Calls P 25 #[.pointer (some ⟨r, 0, none⟩)] w fun e w' => e = .returned (.int .u64 (bitsN L 64)) ∧ w' = w := by
  have hcr := hc w rfl
  obtain ⟨A, hA⟩ : ∃ A : Array Value, ((List.range 64).map V).toArray = A := ⟨_, rfl⟩
  have hld : Sem.run P (loadCellsFrom ⟨r, 0, none⟩ 0 n #[]) w = .ok A w := by
    rw [← hA]
    refine run_loadCellsFrom_list P w _ ((List.range 64).map V) n (by simp [hn]) (fun j v hj => ?_)
    have hj64 : j < 64 := by have := (List.getElem?_eq_some_iff.1 hj).1; simpa using this
    have e : ((List.range 64).map V)[j]? = some (V j) := by simp [hj64]
    rw [e] at hj
    injection hj with hj
    rw [← hj]
    have e2 : (⟨r, 0, none⟩ : Addr).add j = ⟨r, j, none⟩ := by cases j <;> simp [Addr.add]
    rw [e2]
    exact hV j hj64
  have hAk : ∀ k, k < 64 → A[k]? = some (V k) := fun k hk => by rw [← hA]; simp [hk]
  have hAs : A.size = 64 := by rw [← hA]; simp
  have HA := Lib.hid hAk
  have HL := Lib.hid hL
  have hn0 : ¬ n = 0 := by omega
  clear hA hAk hL hV hc hn
  obtain ⟨mixed, t3, a3, z3, v3, t4, a4, z4, v4, t22, a22, z22, v22, t25, a25, z25, v25, t38, a38, z38, v38, t52, a52, z52, v52, t54, t51, a51, z51, f21, e49⟩ := H
  rw [Tryd.underlying140] at t54
  have u54 := run_underlying t54
  have u51 := run_underlying t51
  have u52 := run_underlying t52
  have u22 := run_underlying t22
  go_enter f21, Tryd.ntmps25
  clear f21
  go_wp2_with (go_at_fn 77; refine hcr.mono ?_; rintro e w1 ⟨rfl, rfl⟩)
  go_loopg [3, 4, 5, 14] 64 (fun kx s3 s4 s5 s14 wr => ∃ (k : Nat), s3 = .int .u64 (bitsN L k) ∧ (∃ v4 v5 : Value, s4 = v4 ∧ s5 = v5) ∧ s14 = .int .i64 k ∧ k ≤ 64 ∧ 64 - k ≤ kx ∧ wr = w1)
  case atStart => exact ⟨0, rfl, ⟨_, _, rfl, rfl⟩, rfl, by omega, by omega, rfl⟩
  case round =>
    obtain ⟨k, rfl, ⟨v4, v5, rfl, rfl⟩, rfl, hk, hkx, rfl⟩ := hrel
    by_cases hlt : k < 64
    · have hltz : (k : Int) < 64 := by omega
      have hk0 : (0 : Int) ≤ (k : Int) := by omega
      have hAk := HA.out k hlt
      obtain ⟨a, c, hVk⟩ := HL.out k hlt
      rw [hVk] at hAk
      have hb := bitsN_lt L k
      have hix := fun w => run_index_arr t51 z22 a22 k hlt (by omega) hAk w
      by_cases h0 : 0 < L k
      · go_wp2_with fail
        go_roundg (64 - (k + 1))
        case measure => omega
        case rel =>
          refine ⟨k + 1, ?_, ⟨_, _, rfl, rfl⟩, by go_num, by omega, by omega, rfl⟩
          have h64 : 2 ^ k < 18446744073709551616 := by
            have := Nat.pow_le_pow_right (n := 2) (by omega) (show k ≤ 63 by omega)
            have e : (2 : Nat) ^ 63 = 9223372036854775808 := by decide
            omega
          have hw : IntKind.u64.wrap ((2 : Int) ^ k) = ((2 ^ k : Nat) : Int) := by
            have e : ((2 : Int) ^ k) = ((2 ^ k : Nat) : Int) := by simp
            rw [e, IntKind.wrap_u64]; omega
          rw [hw, bits_or_u64_nat _ _ (by omega) h64, bitsN, if_pos h0]
      · go_wp2_with fail
        go_roundg (64 - (k + 1))
        case measure => omega
        case rel => exact ⟨k + 1, by rw [bitsN, if_neg h0], ⟨_, _, rfl, rfl⟩, by go_num, by omega, by omega, rfl⟩
    · have hltz : ¬ (k : Int) < 64 := by omega
      obtain rfl : k = 64 := by omega
      go_wp2
      go_ret
      exact ⟨rfl, rfl⟩
end Go.Proofs.YtfclmbneimbmnaaDoor
