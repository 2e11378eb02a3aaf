/- The disk: what a tear leaves of a file, where it leaves three loose bytes or more. -/
import Derived.Test.YthefnakbpalecaaMaE
import Derived.Test.YthefnakbpalecaaMaU
import Derived.Laws.BitsAllLaws
import Derived.Laws.Shifts
namespace Go.Proofs.Ythefnakbpalecaa
open Go.RowKit Go.Maps
theorem OB.drew {w : World} {base : Nat} {v : Value} {bs : List Nat} (h : OB w base v bs) : OB w.drew base v bs := h
def bt (y : List Nat) (tn k : Nat) : Nat := y.getD (y.length - 3 + k) 0 ^^^ (tn / 2 ^ (8 * (2 - k)) % 256)
def tk3 (y : List Nat) (tn : Nat) : Nat → List Nat
  | 0 => y
  | k + 1 => (tk3 y tn k).set (y.length - 3 + k) (bt y tn k)
theorem tk3_len (y : List Nat) (tn k : Nat) : (tk3 y tn k).length = y.length := by
  induction k with
  | zero => rfl
  | succ k ih => show ((tk3 y tn k).set _ _).length = _; rw [List.length_set, ih]
theorem tk3_get (y : List Nat) (tn k j : Nat) (h : y.length - 3 + k ≤ j) : (tk3 y tn k).getD j 0 = y.getD j 0 := by
  induction k with
  | zero => rfl
  | succ k ih =>
    show ((tk3 y tn k).set _ _).getD j 0 = _
    rw [← ih (by omega), List.getD_eq_getElem?_getD, List.getD_eq_getElem?_getD, List.getElem?_set_ne (by omega)]
theorem tk3_turn (y : List Nat) (tn : Nat) (h : 3 ≤ y.length) : tk3 y tn 3 = turn3 y tn := by
  have e0 : y.length - 3 + 0 = y.length - 3 := rfl
  have e1 : y.length - 3 + 1 = y.length - 2 := by omega
  have e2 : y.length - 3 + 2 = y.length - 1 := by omega
  show (((y.set (y.length - 3 + 0) (bt y tn 0)).set (y.length - 3 + 1) (bt y tn 1)).set (y.length - 3 + 2) (bt y tn 2)) = _
  unfold turn3 bt
  rw [e0, e1, e2, show 2 ^ (8 * (2 - 0)) = 65536 from rfl, show 2 ^ (8 * (2 - 1)) = 256 from rfl, show 2 ^ (8 * (2 - 2)) = 1 from rfl, Nat.div_one]
theorem tk3_at (x y : List Nat) (tn k : Nat) (h : 3 ≤ y.length) : (x ++ tk3 y tn k).getD (x.length + y.length - 3 + k) 0 = y.getD (y.length - 3 + k) 0 := by
  rw [← tk3_get y tn k _ (Nat.le_refl _), List.getD_eq_getElem?_getD, List.getElem?_append_right (by omega), List.getD_eq_getElem?_getD]
  congr 2
  omega
theorem tk3_set (x y : List Nat) (tn k : Nat) (h : 3 ≤ y.length) : (x ++ tk3 y tn k).set (x.length + y.length - 3 + k) (bt y tn k) = x ++ tk3 y tn (k + 1) := by
  rw [List.set_append_right _ _ (by omega)]
  show _ = x ++ (tk3 y tn k).set (y.length - 3 + k) (bt y tn k)
  congr 2
  omega
set_option maxRecDepth 100000 in
set_option maxHeartbeats 8000000 in
theorem torn_many (a : Option Addr) (c : Nat) (all : List Nat) (kept kp tn : Nat) (w : World) (h : RB w (.slice a all.length c) all) (hk : kept ≤ all.length) (hlb : all.length ≤ 1048576) (hkp : kp < 65536) (htn : tn < 4294967296) (hf3 : ¬ tearN (all.drop kept) kp < 3) : Calls Try.prog 93 #[.agg #[.slice a all.length c, .int .i64 (kept : Int)], .agg #[.int .u16 (kp : Int), .int .u32 (tn : Int)]] w fun e w' => ∃ v, e = .returned (.agg #[v, .int .i64 ((all.take kept ++ tearB (all.drop kept) kp tn).length : Int)]) ∧ OB w' w.heap.size v (all.take kept ++ tearB (all.drop kept) kp tn) ∧ Below w.heap.size w w' := by
  have HR := Lib.hid h
  have HK := Lib.hid hk
  have HLB : Hid (all.length ≤ 1048576) := Lib.hid hlb
  obtain ⟨B1, s1, s2, s3⟩ := box3F w (.slice a all.length c) (.int .i64 (kept : Int)) (.int .u16 (kp : Int)) (.int .u32 (tn : Int))
  have HB1 := Lib.hid B1
  have HS1 := Lib.hid s1
  have HS2 := Lib.hid s2
  have HS3 := Lib.hid s3
  have HR1 := Lib.hid (h.kept B1)
  obtain ⟨L, hL⟩ : ∃ L, all.length - kept = L := ⟨_, rfl⟩
  have HL := Lib.hid hL
  obtain ⟨n, hn⟩ : ∃ n, tearN (all.drop kept) kp = n := ⟨_, rfl⟩
  have HN := Lib.hid hn
  have hnL : n ≤ L := by rw [← hn, ← hL]; unfold tearN; rw [List.length_drop]; have := Nat.mod_lt kp (show 0 < all.length - kept + 1 by omega); omega
  have hrm : Int.tmod (kp : Int) ((L : Int) + 1) = (n : Int) := by
    rw [← hn, ← hL]
    unfold tearN
    rw [List.length_drop]
    show Int.tmod (kp : Int) (((all.length - kept : Nat) : Int) + 1) = _
    rw [show (((all.length - kept : Nat) : Int) + 1) = ((all.length - kept + 1 : Nat) : Int) from by omega, ← Int.ofNat_tmod]
  have hLb : L ≤ 1048576 := by omega
  have hw1 : IntKind.i64.wrap (kp : Int) = (kp : Int) := IntWalk.i64_in _ ⟨by omega, by omega⟩
  have hw2 : IntKind.i64.wrap ((L : Int) + 1) = (L : Int) + 1 := IntWalk.i64_in _ ⟨by omega, by omega⟩
  have hw3 : IntKind.i64.wrap (n : Int) = (n : Int) := IntWalk.i64_in _ ⟨by omega, by omega⟩
  have hz : decide ((L : Int) + 1 = 0) = false := decide_eq_false (by omega)
  have hz2 : ((L : Int) + 1 == 0) = false := by simp; omega
  have HF := Lib.hid (And.intro hnL hLb)
  have HRM := Lib.hid (And.intro hrm (And.intro hw1 (And.intro hw2 (And.intro hw3 (And.intro hz hz2)))))
  clear h hk hlb B1 s1 s2 s3 hL hn hrm hw1 hw2 hw3 hz hz2 hnL hLb hkp
  go_enter Try.func93, Try.ntmps93
  go_wp2_with fail
  obtain ⟨N, hN⟩ : ∃ N, w.heap.size = N := ⟨_, rfl⟩
  have HNN := Lib.hid hN
  rw [hN] at HS1 HS2 HS3
  try rw [hN]
  clear hN
  generalize ((w.alloc (.cells #[.slice a all.length c, .int .i64 (kept : Int)] 143)).alloc (.cells #[.int .u16 (kp : Int), .int .u32 (tn : Int)] 138)).alloc (.cells #[.slice none 0 0, .int .i64 0] 143) = w1 at HB1 HS1 HS2 HS3 HR1 ⊢
  have HS0 : Hid (Below w1.drew.heap.size w1.drew w1.drew) := Lib.hid (Below.refl _ _)
  have HB2 : Hid (Below w.heap.size w w1.drew) := Lib.hid HB1.out.drew
  have HT2 : Hid (w1.drew.heap[N]? = some (.cells #[.slice a all.length c, .int .i64 (kept : Int)] 143 (0, 0)) ∧ w1.drew.heap[N + 1]? = some (.cells #[.int .u16 (kp : Int), .int .u32 (tn : Int)] 138 (0, 0)) ∧ w1.drew.heap[N + 1 + 1]? = some (.cells #[.slice none 0 0, .int .i64 0] 143 (0, 0))) := Lib.hid ⟨HS1.out, HS2.out, HS3.out⟩
  have HR2 : Hid (RB w1.drew (.slice a all.length c) all) := Lib.hid (HR1.out.kept ((Below.refl _ w1).drew))
  clear HB1 HS1 HS2 HS3 HR1
  refine wp_region_held_drew (S := (fun W : World => Below w1.drew.heap.size w1.drew W)) (by kernel_rfl) HS0.out (fun hHeld => ?_)
  clear hHeld
  generalize w1.drew = w2 at HB2 HT2 HR2 HS0 ⊢
  refine wpAnyH_take (i := 0) (oi := { dst := some 9, op := Go.Op.fieldAddr 138 (Go.Operand.tmp 3) 0, type := 0, pos := "disk.go:296", after := #[], guard := none }) (v := ?_) rfl (by kernel_rfl) (by kernel_rfl) (by kernel_rfl) (fun _ _ _ h => h) (Or.inl ⟨by rfl, ?_⟩) HS0.out ?_
  case refine_2 => (intro w1 hS1; clear hS1; go_simp; try with_reducible rfl)
  try simp only [Act.put, List.setIfInBounds_toArray, List.set_cons_zero, List.set_cons_succ]
  refine wpAnyH_take (i := 1) (oi := { dst := some 10, op := Go.Op.load 41 (Go.Operand.tmp 9), type := 41, pos := "disk.go:296", after := #[{ on := 0, ground := Go.Ground.data }], guard := none }) (v := ?_) rfl (by kernel_rfl) (by kernel_rfl) (by kernel_rfl) (fun _ _ _ h => h) (Or.inl ⟨by rfl, ?_⟩) HS0.out ?_
  case refine_2 => (intro w1 hS1; obtain ⟨z0, z1, -⟩ := two_at (ex_below HT2.out.2.1 hS1); clear hS1; go_simp; try with_reducible rfl)
  try simp only [Act.put, List.setIfInBounds_toArray, List.set_cons_zero, List.set_cons_succ]
  refine wpAnyH_take (i := 2) (oi := { dst := some 11, op := Go.Op.convert 41 3 (Go.Operand.tmp 10), type := 3, pos := "disk.go:296", after := #[{ on := 1, ground := Go.Ground.data }], guard := none }) (v := .int .i64 (kp : Int)) rfl (by kernel_rfl) (by kernel_rfl) (by kernel_rfl) (fun _ _ _ h => h) (Or.inl ⟨by rfl, ?_⟩) HS0.out ?_
  case refine_1 => (intro w1 hS1; clear hS1; have hw1 := HRM.out.2.1; go_simp; try with_reducible rfl)
  try simp only [Act.put, List.setIfInBounds_toArray, List.set_cons_zero, List.set_cons_succ]
  refine wpAnyH_take (i := 3) (oi := { dst := some 12, op := Go.Op.load 143 (Go.Operand.tmp 2), type := 143, pos := "disk.go:296", after := #[], guard := none }) (v := .agg #[.slice a all.length c, .int .i64 (kept : Int)]) rfl (by kernel_rfl) (by kernel_rfl) (by kernel_rfl) (fun _ _ _ h => h) (Or.inl ⟨by rfl, ?_⟩) HS0.out ?_
  case refine_1 => (intro w1 hS1; obtain ⟨z0, z1, -⟩ := two_at (ex_below HT2.out.1 hS1); clear hS1; go_simp; try with_reducible rfl)
  try simp only [Act.put, List.setIfInBounds_toArray, List.set_cons_zero, List.set_cons_succ]
  refine wpAnyH_ready (rs := [4]) (by kernel_rfl) (by simp) ?_
  refine AllReadyH.cons (o := { dst := some 13, op := Go.Op.call { callee := Go.Callee.value (Go.Operand.func 92), args := #[Go.Operand.tmp 12], argTypes := #[143] }, type := 28, pos := "disk.go:296", after := #[{ on := 3, ground := Go.Ground.data }], guard := none }) rfl (fun K hK => ?_) AllReadyH.nil
  go_simp
  refine (dloose a c all kept w2 HR2.out HK.out).mono ?_
  rintro e w3 ⟨a2, c2, rfl, hrl, hb⟩
  rw [HL.out] at hrl ⊢
  have HS0' : Hid (Below w2.heap.size w2 w3) := Lib.hid hb
  clear hb hrl HS0
  have HS0 := HS0'
  clear HS0'
  refine hK.out _ _ HS0.out (fun hHeld => ?_)
  clear hK K hHeld
  try simp only [Act.put, List.setIfInBounds_toArray, List.set_cons_zero, List.set_cons_succ]
  refine wpAnyH_take (i := 5) (oi := { dst := some 14, op := Go.Op.call { callee := Go.Callee.builtin Go.Builtin.len, args := #[Go.Operand.tmp 13], argTypes := #[28] }, type := 3, pos := "disk.go:296", after := #[{ on := 4, ground := Go.Ground.data }], guard := none }) (v := ?_) rfl (by kernel_rfl) (by kernel_rfl) (by kernel_rfl) (fun _ _ _ h => h) (Or.inl ⟨by rfl, ?_⟩) HS0.out ?_
  case refine_2 => (intro w1 hS1; clear hS1; go_simp; try with_reducible rfl)
  try simp only [Act.put, List.setIfInBounds_toArray, List.set_cons_zero, List.set_cons_succ]
  refine wpAnyH_take (i := 6) (oi := { dst := some 15, op := Go.Op.binOp Go.BinOp.add 3 (Go.Operand.tmp 14) (Go.Operand.const (Go.Value.int Go.IntKind.i64 1)) 3, type := 3, pos := "disk.go:296", after := #[{ on := 5, ground := Go.Ground.data }], guard := none }) (v := .int .i64 ((L : Int) + 1)) rfl (by kernel_rfl) (by kernel_rfl) (by kernel_rfl) (fun _ _ _ h => h) (Or.inl ⟨by rfl, ?_⟩) HS0.out ?_
  case refine_1 => (intro w1 hS1; clear hS1; have hw2 := HRM.out.2.2.1; go_simp; try with_reducible rfl)
  try simp only [Act.put, List.setIfInBounds_toArray, List.set_cons_zero, List.set_cons_succ]
  refine wpAnyH_take (i := 7) (oi := { dst := some 16, op := Go.Op.binOp Go.BinOp.rem 3 (Go.Operand.tmp 11) (Go.Operand.tmp 15) 3, type := 3, pos := "disk.go:296", after := #[{ on := 2, ground := Go.Ground.data }, { on := 6, ground := Go.Ground.data }], guard := none }) (v := .int .i64 (n : Int)) rfl (by kernel_rfl) (by kernel_rfl) (by kernel_rfl) (fun _ _ _ h => h) (Or.inl ⟨by rfl, ?_⟩) HS0.out ?_
  case refine_1 => (intro w1 hS1; clear hS1; have hr0 := HRM.out.1; have hr3 := HRM.out.2.2.2.1; have hr4 := HRM.out.2.2.2.2.1; have hr5 := HRM.out.2.2.2.2.2; go_simp; omega)
  try simp only [Act.put, List.setIfInBounds_toArray, List.set_cons_zero, List.set_cons_succ]
  refine wpAnyH_take (i := 8) (oi := { dst := some 5, op := Go.Op.assign (Go.Operand.tmp 16), type := 3, pos := "disk.go:296", after := #[{ on := 7, ground := Go.Ground.data }, { on := 4, ground := Go.Ground.chain }, { on := 0, ground := Go.Ground.phase }, { on := 1, ground := Go.Ground.phase }, { on := 2, ground := Go.Ground.phase }, { on := 3, ground := Go.Ground.phase }, { on := 4, ground := Go.Ground.phase }, { on := 5, ground := Go.Ground.phase }, { on := 6, ground := Go.Ground.phase }, { on := 7, ground := Go.Ground.phase }], guard := none }) (v := ?_) rfl (by kernel_rfl) (by kernel_rfl) (by kernel_rfl) (fun _ _ _ h => h) (Or.inl ⟨by rfl, ?_⟩) HS0.out ?_
  case refine_2 => (intro w1 hS1; clear hS1; go_simp; try with_reducible rfl)
  try simp only [Act.put, List.setIfInBounds_toArray, List.set_cons_zero, List.set_cons_succ]
  refine wpAnyH_done (by kernel_rfl) ?_ _
  have HB3 := Lib.hid (HB2.out.trans (HS0.out.mono HB2.out.size))
  have HT3 : Hid (w3.heap[N]? = some (.cells #[.slice a all.length c, .int .i64 (kept : Int)] 143 (0, 0)) ∧ w3.heap[N + 1]? = some (.cells #[.int .u16 (kp : Int), .int .u32 (tn : Int)] 138 (0, 0)) ∧ w3.heap[N + 1 + 1]? = some (.cells #[.slice none 0 0, .int .i64 0] 143 (0, 0))) := Lib.hid ⟨ex_below HT2.out.1 HS0.out, ex_below HT2.out.2.1 HS0.out, ex_below HT2.out.2.2 HS0.out⟩
  have HR3 := Lib.hid (HR2.out.kept HS0.out)
  clear HS0 HB2 HT2 HR2
  go_wp2_with fail
  have HS0 : Hid (Below w3.drew.heap.size w3.drew w3.drew) := Lib.hid (Below.refl _ _)
  have HB4 : Hid (Below w.heap.size w w3.drew) := Lib.hid HB3.out.drew
  have HT4 : Hid (w3.drew.heap[N]? = some (.cells #[.slice a all.length c, .int .i64 (kept : Int)] 143 (0, 0)) ∧ w3.drew.heap[N + 1]? = some (.cells #[.int .u16 (kp : Int), .int .u32 (tn : Int)] 138 (0, 0)) ∧ w3.drew.heap[N + 1 + 1]? = some (.cells #[.slice none 0 0, .int .i64 0] 143 (0, 0))) := Lib.hid HT3.out
  have HR4 : Hid (RB w3.drew (.slice a all.length c) all) := Lib.hid (HR3.out.kept ((Below.refl _ w3).drew))
  clear HB3 HT3 HR3
  refine wp_region_held_drew (S := (fun W : World => Below w3.drew.heap.size w3.drew W)) (by kernel_rfl) HS0.out (fun hHeld => ?_)
  clear hHeld
  generalize w3.drew = w4 at HB4 HT4 HR4 HS0 ⊢
  refine wpAnyH_take (i := 0) (oi := { dst := some 17, op := Go.Op.load 143 (Go.Operand.tmp 2), type := 143, pos := "disk.go:297", after := #[], guard := none }) (v := .agg #[.slice a all.length c, .int .i64 (kept : Int)]) rfl (by kernel_rfl) (by kernel_rfl) (by kernel_rfl) (fun _ _ _ h => h) (Or.inl ⟨by rfl, ?_⟩) HS0.out ?_
  case refine_1 => (intro w1 hS1; obtain ⟨z0, z1, -⟩ := two_at (ex_below HT4.out.1 hS1); clear hS1; go_simp; try with_reducible rfl)
  try simp only [Act.put, List.setIfInBounds_toArray, List.set_cons_zero, List.set_cons_succ]
  refine wpAnyH_take (i := 2) (oi := { dst := some 19, op := Go.Op.load 143 (Go.Operand.tmp 2), type := 143, pos := "disk.go:297", after := #[], guard := none }) (v := .agg #[.slice a all.length c, .int .i64 (kept : Int)]) rfl (by kernel_rfl) (by kernel_rfl) (by kernel_rfl) (fun _ _ _ h => h) (Or.inl ⟨by rfl, ?_⟩) HS0.out ?_
  case refine_1 => (intro w1 hS1; obtain ⟨z0, z1, -⟩ := two_at (ex_below HT4.out.1 hS1); clear hS1; go_simp; try with_reducible rfl)
  try simp only [Act.put, List.setIfInBounds_toArray, List.set_cons_zero, List.set_cons_succ]
  refine wpAnyH_take (i := 4) (oi := { dst := some 21, op := Go.Op.move (Go.Operand.tmp 5), type := 3, pos := "disk.go:297", after := #[], guard := none }) (v := ?_) rfl (by kernel_rfl) (by kernel_rfl) (by kernel_rfl) (fun _ _ _ h => h) (Or.inl ⟨by rfl, ?_⟩) HS0.out ?_
  case refine_2 => (intro w1 hS1; clear hS1; go_simp; try with_reducible rfl)
  try simp only [Act.put, List.setIfInBounds_toArray, List.set_cons_zero, List.set_cons_succ]
  refine wpAnyH_ready (rs := [1]) (by kernel_rfl) (by simp) ?_
  refine AllReadyH.cons (o := { dst := some 18, op := Go.Op.call { callee := Go.Callee.value (Go.Operand.func 125), args := #[Go.Operand.tmp 17], argTypes := #[143] }, type := 28, pos := "disk.go:297", after := #[{ on := 0, ground := Go.Ground.data }], guard := none }) rfl (fun K hK => ?_) AllReadyH.nil
  go_simp
  refine (dsafe a c all kept w4 HR4.out HK.out).mono ?_
  rintro e w5 ⟨rfl, hrs, hb⟩
  have HRS := Lib.hid hrs
  have HS0' : Hid (Below w4.heap.size w4 w5) := Lib.hid hb
  clear hb hrs HS0
  have HS0 := HS0'
  clear HS0'
  refine hK.out _ _ HS0.out (fun hHeld => ?_)
  clear hK K hHeld
  try simp only [Act.put, List.setIfInBounds_toArray, List.set_cons_zero, List.set_cons_succ]
  refine wpAnyH_ready (rs := [3]) (by kernel_rfl) (by simp) ?_
  refine AllReadyH.cons (o := { dst := some 20, op := Go.Op.call { callee := Go.Callee.value (Go.Operand.func 92), args := #[Go.Operand.tmp 19], argTypes := #[143] }, type := 28, pos := "disk.go:297", after := #[{ on := 2, ground := Go.Ground.data }, { on := 1, ground := Go.Ground.chain }], guard := none }) rfl (fun K hK => ?_) AllReadyH.nil
  go_simp
  refine (dloose a c all kept w5 (HR4.out.kept HS0.out) HK.out).mono ?_
  rintro e w6 ⟨a2, c2, rfl, hrl, hb⟩
  rw [HL.out] at hrl ⊢
  have HRL := Lib.hid hrl
  have HRS6 := Lib.hid (HRS.out.kept hb)
  have HC2 : Hid (L ≤ c2) := Lib.hid (by
    have e4 : (all.drop kept).length = L := by rw [List.length_drop]; exact HL.out
    rw [← e4] at hrl
    obtain ⟨a3, cap, e3, hcl, -⟩ := hrl.shape
    injection e3 with _ _ e3
    omega)
  have HS0' : Hid (Below w4.heap.size w4 w6) := Lib.hid (HS0.out.trans (hb.mono HS0.out.size))
  clear hb hrl HS0 HRS
  have HS0 := HS0'
  clear HS0'
  refine hK.out _ _ HS0.out (fun hHeld => ?_)
  clear hK K hHeld
  try simp only [Act.put, List.setIfInBounds_toArray, List.set_cons_zero, List.set_cons_succ]
  have hn0 : (0 : Int) ≤ (n : Int) := by omega
  have hn1 : (n : Int) ≤ (c2 : Int) := by have := HC2.out; have := HF.out; omega
  refine wpAnyH_take (i := 5) (oi := { dst := some 22, op := Go.Op.slice 28 (Go.Operand.tmp 20) none (some (Go.Operand.tmp 21)) none, type := 28, pos := "disk.go:297", after := #[{ on := 3, ground := Go.Ground.data }, { on := 4, ground := Go.Ground.data }], guard := none }) (v := .slice a2 n c2) rfl (by kernel_rfl) (by kernel_rfl) (by kernel_rfl) (fun _ _ _ h => h) (Or.inl ⟨by rfl, ?_⟩) HS0.out ?_
  case refine_1 => (intro w1 hS1; clear hS1; have hsl := run_slice_h (P := Try.prog) w1 28 a2 L c2 Try.underlying28 .i64 (n : Int) hn0 hn1; go_simp; try with_reducible rfl)
  try simp only [Act.put, List.setIfInBounds_toArray, List.set_cons_zero, List.set_cons_succ]
  have HRN : Hid (RB w6 (.slice a2 n c2) ((all.drop kept).take n)) := Lib.hid (by
    have e4 : (all.drop kept).length = L := by rw [List.length_drop]; exact HL.out
    have hrl := HRL.out
    rw [← e4] at hrl
    rcases hrl.head (k := n) (by rw [e4]; exact HF.out.1) c2 (by omega) (Nat.le_refl _) with h2 | ⟨h2, h3⟩
    · exact h2
    · have h4 := hrl.nilc h3
      rw [h2, h3, h4.2, List.take_zero]
      exact RB.nil _)
  clear hn0 hn1 HRL
  obtain ⟨B7, s7, -⟩ := box1 w6 #[.slice a kept kept, .slice a2 n c2] 28
  have HS7 : Hid (Below w4.heap.size w4 (w6.alloc (.cells #[.slice a kept kept, .slice a2 n c2] 28))) := Lib.hid (HS0.out.trans (B7.mono HS0.out.size))
  have HA7 := Lib.hid (And.intro (HRS6.out.kept B7) (HRN.out.kept B7))
  have HC7 := Lib.hid (And.intro (two_at s7).1 (two_at s7).2.1)
  clear B7 s7
  refine wpAnyH_ready (rs := [6]) (by kernel_rfl) (by simp) ?_
  refine AllReadyH.cons (o := { dst := some 23, op := Go.Op.buildSlice 197 2 #[(0, Go.Operand.tmp 18), (1, Go.Operand.tmp 22)], type := 197, pos := "disk.go:297", after := #[{ on := 1, ground := Go.Ground.data }, { on := 5, ground := Go.Ground.data }], guard := none }) rfl (fun K hK => ?_) AllReadyH.nil
  go_simp
  refine hK.out _ _ HS7.out (fun hHeld => ?_)
  clear hK K hHeld HS0 HRS6 HRN
  try simp only [Act.put, List.setIfInBounds_toArray, List.set_cons_zero, List.set_cons_succ]
  obtain ⟨G, hG⟩ : ∃ G, w6.heap.size = G := ⟨_, rfl⟩
  rw [hG] at HC7
  try rw [hG]
  clear hG
  generalize w6.alloc (.cells #[.slice a kept kept, .slice a2 n c2] 28) = w7 at HS7 HA7 HC7 ⊢
  have HLN : Hid ((all.take kept).length = kept ∧ ((all.drop kept).take n).length = n) := Lib.hid ⟨by rw [List.length_take]; have := HK.out; omega, by rw [List.length_take, List.length_drop, HL.out]; have := HF.out.1; omega⟩
  refine wpAnyH_ready (rs := [7]) (by kernel_rfl) (by simp) ?_
  refine AllReadyH.cons (o := { dst := some 24, op := Go.Op.call { callee := Go.Callee.value (Go.Operand.func 124), args := #[Go.Operand.tmp 23], argTypes := #[197] }, type := 28, pos := "disk.go:297", after := #[{ on := 6, ground := Go.Ground.data }, { on := 3, ground := Go.Ground.chain }], guard := none }) rfl (fun K hK => ?_) AllReadyH.nil
  go_simp
  refine (bconcat2 G 2 a a2 kept c2 (all.take kept) ((all.drop kept).take n) w7 (by rw [HLN.out.1]; exact HC7.out.1) (by rw [HLN.out.2]; exact HC7.out.2) (by rw [HLN.out.1]; exact HA7.out.1) (by rw [HLN.out.2]; exact HA7.out.2) (by rw [HLN.out.1, HLN.out.2]; have := HK.out; have := HF.out; have := HLB.out; omega)).mono ?_
  rintro e w8 ⟨v, rfl, ho, hb⟩
  obtain ⟨av, cv, rfl⟩ := ho.shp
  obtain ⟨ln, hln⟩ : ∃ ln, (all.take kept ++ (all.drop kept).take n).length = ln := ⟨_, rfl⟩
  rw [hln] at ho ⊢
  have HLL := Lib.hid hln
  clear hln
  have HO8 : Hid (OB w8 w.heap.size (.slice av ln cv) (all.take kept ++ (all.drop kept).take n)) := Lib.hid (ho.mono (by have h1 := HS7.out.size; have h2 := HB4.out.size; omega))
  have HGB : Hid (∀ g, (Value.slice av ln cv).ownBlock = some g → N + 1 + 1 < g) := Lib.hid (fun g hg => by have h1 := (ho.lt hg).1; have h2 := HS7.out.size; have h3 := ex_lt HT4.out.2.2; omega)
  have HS0 : Hid (Below w4.heap.size w4 w8) := Lib.hid (HS7.out.trans (hb.mono HS7.out.size))
  clear hb ho HS7 HA7 HC7
  refine hK.out _ _ HS0.out (fun hHeld => ?_)
  clear hK K hHeld
  try simp only [Act.put, List.setIfInBounds_toArray, List.set_cons_zero, List.set_cons_succ]
  refine wpAnyH_take (i := 8) (oi := { dst := some 6, op := Go.Op.assign (Go.Operand.tmp 24), type := 28, pos := "disk.go:297", after := #[{ on := 7, ground := Go.Ground.data }, { on := 7, ground := Go.Ground.chain }, { on := 0, ground := Go.Ground.phase }, { on := 1, ground := Go.Ground.phase }, { on := 2, ground := Go.Ground.phase }, { on := 3, ground := Go.Ground.phase }, { on := 4, ground := Go.Ground.phase }, { on := 5, ground := Go.Ground.phase }, { on := 6, ground := Go.Ground.phase }, { on := 7, ground := Go.Ground.phase }], guard := none }) (v := ?_) rfl (by kernel_rfl) (by kernel_rfl) (by kernel_rfl) (fun _ _ _ h => h) (Or.inl ⟨by rfl, ?_⟩) HS0.out ?_
  case refine_2 => (intro w1 hS1; clear hS1; go_simp; try with_reducible rfl)
  try simp only [Act.put, List.setIfInBounds_toArray, List.set_cons_zero, List.set_cons_succ]
  refine wpAnyH_done (by kernel_rfl) ?_ _
  have HB8 := Lib.hid (HB4.out.trans (HS0.out.mono HB4.out.size))
  have HT8 : Hid (w8.heap[N]? = some (.cells #[.slice a all.length c, .int .i64 (kept : Int)] 143 (0, 0)) ∧ w8.heap[N + 1]? = some (.cells #[.int .u16 (kp : Int), .int .u32 (tn : Int)] 138 (0, 0)) ∧ w8.heap[N + 1 + 1]? = some (.cells #[.slice none 0 0, .int .i64 0] 143 (0, 0))) := Lib.hid ⟨ex_below HT4.out.1 HS0.out, ex_below HT4.out.2.1 HS0.out, ex_below HT4.out.2.2 HS0.out⟩
  clear HS0 HB4 HT4 HR4
  have hnn : 3 ≤ n := by have := HN.out; omega
  have d1 : decide ((n : Int) ≥ 3) = true := decide_eq_true (by omega)
  have d2 : decide (3 ≤ (n : Int)) = true := decide_eq_true (by omega)
  have d3 : decide (3 ≤ n) = true := decide_eq_true (by omega)
  have HLN : Hid ((all.take kept).length = kept ∧ ((all.drop kept).take n).length = n) := Lib.hid ⟨by rw [List.length_take]; have := HK.out; omega, by rw [List.length_take, List.length_drop, HL.out]; have := HF.out.1; omega⟩
  obtain ⟨x, hx⟩ : ∃ x, all.take kept = x := ⟨_, rfl⟩
  obtain ⟨y, hy⟩ : ∃ y, (all.drop kept).take n = y := ⟨_, rfl⟩
  have HTB : Hid (tearB (all.drop kept) kp tn = turn3 y tn) := Lib.hid (by unfold tearB; rw [if_neg (by omega), HN.out, hy])
  have HYB : Hid (∀ c ∈ y, c < 256) := Lib.hid (fun c hc => HR.out.1 c (List.mem_of_mem_drop (List.mem_of_mem_take (hy ▸ hc))))
  rw [hx, hy] at HLN HO8 HLL
  have HX := Lib.hid hx
  have hln : x.length + y.length = ln := by have := HLL.out; rw [List.length_append] at this; exact this
  have hyn : y.length = n := HLN.out.2
  obtain ⟨m, hm⟩ : ∃ m, ln = m + 3 := ⟨ln - 3, by omega⟩
  obtain ⟨g, rfl, hg, -, -⟩ := HO8.out.byte HLL.out (k := 0) (by omega)
  have hgn : N + 1 + 1 < g := HGB.out g rfl
  have hxy : ∀ c ∈ x ++ y, c < 256 := fun c hc => HR.out.1 c (by
    rcases List.mem_append.1 hc with h | h
    · exact List.mem_of_mem_take (hx ▸ h)
    · exact List.mem_of_mem_drop (List.mem_of_mem_take (hy ▸ h)))
  have hlb2 : (x ++ y).length ≤ 140737488351232 := by rw [HLL.out, ← hln, HLN.out.1, hyn]; have := HK.out; have := HF.out; have := HLB.out; omega
  have hcv : m + 3 ≤ cv := by
    have e4 := HLL.out
    have hrl := HO8.out.rb hxy hlb2
    obtain ⟨a3, cap, e3, hcl, -⟩ := hrl.shape
    injection e3 with _ _ e3
    omega
  have hm0 : (0 : Int) ≤ (m : Int) := by omega
  have hm1 : (m : Int) ≤ (ln : Int) := by omega
  have hsl := fun w1 => run_slice_l (P := Try.prog) w1 28 (some ⟨g, 0, none⟩) ln cv Try.underlying28 .i64 (m : Int) hm0 hm1
  have hml : m + 3 ≤ 1048576 := by have := HK.out; have := HL.out; have := HF.out; have := HLB.out; have := HLN.out.1; omega
  have HWM : Hid (wrap64 (m : Int) = (m : Int)) := Lib.hid (IntWalk.wrap64_in _ (by omega))
  have q1 : ¬ cv = m := by omega
  have q2 : ¬ cv - m = 0 := by omega
  clear hxy hlb2 hx hy
  go_wp2_with fail
  clear q1 q2 hml HWM
  have HLEN : Hid (x.length + y.length = m + 3 ∧ 3 ≤ y.length ∧ tn < 4294967296) := Lib.hid ⟨by omega, by omega, htn⟩
  clear d1 d2 d3 hnn hm0 hm1 hsl hln hyn hf3
  go_loopg [34] 3 (fun kx s34 wr => ∃ k : Nat, s34 = .int .i64 k ∧ k ≤ 3 ∧ 3 - k ≤ kx ∧ Hid (Below w.heap.size w wr) ∧ Hid (wr.heap[N + 1]? = some (.cells #[.int .u16 (kp : Int), .int .u32 (tn : Int)] 138 (0, 0)) ∧ wr.heap[N + 1 + 1]? = some (.cells #[.slice none 0 0, .int .i64 0] 143 (0, 0))) ∧ Hid (OB wr w.heap.size (.slice (some ⟨g, 0, none⟩) ln cv) (x ++ tk3 y tn k)))
  case atStart => exact ⟨0, rfl, by omega, by omega, HB8, Lib.hid HT8.out.2, HO8⟩
  case round =>
    obtain ⟨k, rfl, hk, hkx, HB, HT, HO⟩ := hrel
    clear HB8 HT8 HO8
    by_cases hk3 : k < 3
    · have h3 : k = 0 ∨ k = 1 ∨ k = 2 := by omega
      rcases h3 with rfl | rfl | rfl
      · obtain ⟨g', e', hg', hc, hfr⟩ := HO.out.byte (k := m + 0) (by rw [List.length_append, tk3_len]; have := HLEN.out; omega) (by omega)
        cases e'
        have hget : (x ++ tk3 y tn 0).getD (m + 0) 0 = y.getD (y.length - 3 + 0) 0 := by
          have h9 := HLEN.out
          rw [show m + 0 = x.length + y.length - 3 + 0 from by omega]
          exact tk3_at x y tn 0 h9.2.1
        rw [hget] at hc
        have hbm : y.getD (y.length - 3 + 0) 0 < 256 := by
          have h9 := HLEN.out
          have hlt : y.length - 3 + 0 < y.length := by omega
          rw [List.getD_eq_getElem?_getD, List.getElem?_eq_getElem hlt]
          exact HYB.out _ (List.getElem_mem hlt)
        have hbt : bt y tn 0 = y.getD (y.length - 3 + 0) 0 ^^^ (tn / 65536 % 256) := rfl
        obtain ⟨b, hb⟩ : ∃ b, y.getD (y.length - 3 + 0) 0 = b := ⟨_, rfl⟩
        obtain ⟨d, hd⟩ : ∃ d, tn / 65536 % 256 = d := ⟨_, rfl⟩
        rw [hb] at hc hbm hbt
        rw [hd] at hbt
        have hdl : d < 256 := by omega
        have hwd : IntKind.u8.wrap ((tn : Int) / 65536) = (d : Int) := by
          rw [← hd]
          simp [IntKind.wrap, IntKind.signed, IntKind.bits]
        have hxr := u8_xor_nat b d hbm hdl
        obtain ⟨z, hz⟩ : ∃ z, b ^^^ d = z := ⟨_, rfl⟩
        rw [hz] at hxr hbt
        have hO := HO.out.put (by rw [List.length_append, tk3_len]; have := HLEN.out; omega) (m + 0) z
        have hset : (x ++ tk3 y tn 0).set (m + 0) z = x ++ tk3 y tn (0 + 1) := by
          have h9 := HLEN.out
          rw [show m + 0 = x.length + y.length - 3 + 0 from by omega, ← hbt]
          exact tk3_set x y tn 0 h9.2.1
        rw [hset] at hO
        have HO2 := Lib.hid hO
        obtain ⟨z0, z1, -⟩ := two_at HT.out.1
        have hf3 := hfr
        clear hO hset hget hbt hb hd hz hg'
        rw [Nat.add_zero] at hc hfr HO2 hf3
        go_wp2_with fail
        go_region
        go_wp2_with fail
        go_roundg (3 - (0 + 1))
        case measure => omega
        case rel =>
          have hg1 : N + 1 ≠ g := by omega
          have hg2 : N + 1 + 1 ≠ g := by omega
          exact ⟨0 + 1, by go_num, by omega, by omega, Lib.hid ((HB.out.setCell (by exact hg) _).drew), Lib.hid ⟨(Below.heap_setCell _ _ _ _ (by exact hg1)).trans HT.out.1, (Below.heap_setCell _ _ _ _ (by exact hg2)).trans HT.out.2⟩, Lib.hid HO2.out.drew⟩
      · obtain ⟨g', e', hg', hc, hfr⟩ := HO.out.byte (k := m + 1) (by rw [List.length_append, tk3_len]; have := HLEN.out; omega) (by omega)
        cases e'
        have hget : (x ++ tk3 y tn 1).getD (m + 1) 0 = y.getD (y.length - 3 + 1) 0 := by
          have h9 := HLEN.out
          rw [show m + 1 = x.length + y.length - 3 + 1 from by omega]
          exact tk3_at x y tn 1 h9.2.1
        rw [hget] at hc
        have hbm : y.getD (y.length - 3 + 1) 0 < 256 := by
          have h9 := HLEN.out
          have hlt : y.length - 3 + 1 < y.length := by omega
          rw [List.getD_eq_getElem?_getD, List.getElem?_eq_getElem hlt]
          exact HYB.out _ (List.getElem_mem hlt)
        have hbt : bt y tn 1 = y.getD (y.length - 3 + 1) 0 ^^^ (tn / 256 % 256) := rfl
        obtain ⟨b, hb⟩ : ∃ b, y.getD (y.length - 3 + 1) 0 = b := ⟨_, rfl⟩
        obtain ⟨d, hd⟩ : ∃ d, tn / 256 % 256 = d := ⟨_, rfl⟩
        rw [hb] at hc hbm hbt
        rw [hd] at hbt
        have hdl : d < 256 := by omega
        have hwd : IntKind.u8.wrap ((tn : Int) / 256) = (d : Int) := by
          rw [← hd]
          simp [IntKind.wrap, IntKind.signed, IntKind.bits]
        have hxr := u8_xor_nat b d hbm hdl
        obtain ⟨z, hz⟩ : ∃ z, b ^^^ d = z := ⟨_, rfl⟩
        rw [hz] at hxr hbt
        have hO := HO.out.put (by rw [List.length_append, tk3_len]; have := HLEN.out; omega) (m + 1) z
        have hset : (x ++ tk3 y tn 1).set (m + 1) z = x ++ tk3 y tn (1 + 1) := by
          have h9 := HLEN.out
          rw [show m + 1 = x.length + y.length - 3 + 1 from by omega, ← hbt]
          exact tk3_set x y tn 1 h9.2.1
        rw [hset] at hO
        have HO2 := Lib.hid hO
        obtain ⟨z0, z1, -⟩ := two_at HT.out.1
        have hf3 := hfr
        clear hO hset hget hbt hb hd hz hg'
        go_wp2_with fail
        go_region
        go_wp2_with fail
        go_roundg (3 - (1 + 1))
        case measure => omega
        case rel =>
          have hg1 : N + 1 ≠ g := by omega
          have hg2 : N + 1 + 1 ≠ g := by omega
          exact ⟨1 + 1, by go_num, by omega, by omega, Lib.hid ((HB.out.setCell (by exact hg) _).drew), Lib.hid ⟨(Below.heap_setCell _ _ _ _ (by exact hg1)).trans HT.out.1, (Below.heap_setCell _ _ _ _ (by exact hg2)).trans HT.out.2⟩, Lib.hid HO2.out.drew⟩
      · obtain ⟨g', e', hg', hc, hfr⟩ := HO.out.byte (k := m + 2) (by rw [List.length_append, tk3_len]; have := HLEN.out; omega) (by omega)
        cases e'
        have hget : (x ++ tk3 y tn 2).getD (m + 2) 0 = y.getD (y.length - 3 + 2) 0 := by
          have h9 := HLEN.out
          rw [show m + 2 = x.length + y.length - 3 + 2 from by omega]
          exact tk3_at x y tn 2 h9.2.1
        rw [hget] at hc
        have hbm : y.getD (y.length - 3 + 2) 0 < 256 := by
          have h9 := HLEN.out
          have hlt : y.length - 3 + 2 < y.length := by omega
          rw [List.getD_eq_getElem?_getD, List.getElem?_eq_getElem hlt]
          exact HYB.out _ (List.getElem_mem hlt)
        have hbt : bt y tn 2 = y.getD (y.length - 3 + 2) 0 ^^^ (tn / 1 % 256) := by unfold bt; rw [show 2 ^ (8 * (2 - 2)) = 1 from rfl]
        obtain ⟨b, hb⟩ : ∃ b, y.getD (y.length - 3 + 2) 0 = b := ⟨_, rfl⟩
        obtain ⟨d, hd⟩ : ∃ d, tn / 1 % 256 = d := ⟨_, rfl⟩
        rw [hb] at hc hbm hbt
        rw [hd] at hbt
        have hdl : d < 256 := by omega
        have hwd : IntKind.u8.wrap ((tn : Int)) = (d : Int) := by
          rw [← hd]
          simp [IntKind.wrap, IntKind.signed, IntKind.bits]
        have hxr := u8_xor_nat b d hbm hdl
        obtain ⟨z, hz⟩ : ∃ z, b ^^^ d = z := ⟨_, rfl⟩
        rw [hz] at hxr hbt
        have hO := HO.out.put (by rw [List.length_append, tk3_len]; have := HLEN.out; omega) (m + 2) z
        have hset : (x ++ tk3 y tn 2).set (m + 2) z = x ++ tk3 y tn (2 + 1) := by
          have h9 := HLEN.out
          rw [show m + 2 = x.length + y.length - 3 + 2 from by omega, ← hbt]
          exact tk3_set x y tn 2 h9.2.1
        rw [hset] at hO
        have HO2 := Lib.hid hO
        obtain ⟨z0, z1, -⟩ := two_at HT.out.1
        have hf3 := hfr
        clear hO hset hget hbt hb hd hz hg'
        go_wp2_with fail
        go_region
        go_wp2_with fail
        go_roundg (3 - (2 + 1))
        case measure => omega
        case rel =>
          have hg1 : N + 1 ≠ g := by omega
          have hg2 : N + 1 + 1 ≠ g := by omega
          exact ⟨2 + 1, by go_num, by omega, by omega, Lib.hid ((HB.out.setCell (by exact hg) _).drew), Lib.hid ⟨(Below.heap_setCell _ _ _ _ (by exact hg1)).trans HT.out.1, (Below.heap_setCell _ _ _ _ (by exact hg2)).trans HT.out.2⟩, Lib.hid HO2.out.drew⟩
    · obtain rfl : k = 3 := by omega
      have HM := Lib.hid hm
      obtain ⟨z0, z1, fr⟩ := two_at HT.out.2
      have f0 := fr 0
      have f1 := fr 1
      have HX9 := Lib.hid (two_set (two_set HT.out.2 (.slice (some ⟨g, 0, none⟩) ln cv)).1 (.int .i64 (ln : Int))).2
      have hgn2 := Lib.hid hgn
      clear fr hm hcv hk hkx hk3 hgn
      go_wp2_with fail
      refine bodyPost_ret (tr_res rfl _ _ (N + 1 + 1) _ _ rfl (two_at HX9.out).1 (two_at HX9.out).2.1) rfl ?_
      have hN := HNN.out
      have hg9 := hgn2.out
      have hy3 := tk3_turn y tn HLEN.out.2.1
      have hlen : (x ++ turn3 y tn).length = ln := by rw [← hy3, List.length_append, tk3_len, HM.out]; exact HLEN.out.1
      have HO' := HO.out
      rw [hy3] at HO'
      refine ⟨_, by rw [HTB.out, HX.out, hlen], ?_, below_two (below_two HB.out (by omega) _ _) (by omega) _ _⟩
      rw [HTB.out, HX.out]
      exact HO'.blk (fun g2 hg2 => by
        have e2 : g2 = g := by injection hg2 with hg2; exact hg2.symm
        have e3 : g2 ≠ N + 1 + 1 := by omega
        exact (Below.heap_setCell _ _ _ _ (by exact e3)).trans (Below.heap_setCell _ _ _ _ (by exact e3)))
end Go.Proofs.Ythefnakbpalecaa
