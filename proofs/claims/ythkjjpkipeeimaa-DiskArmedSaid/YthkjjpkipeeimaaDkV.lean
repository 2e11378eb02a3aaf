/- The disk: what a tear leaves of a file. -/
import Derived.Test.YthkjjpkipeeimaaDkU
namespace Go.Proofs.Ythkjjpkipeeimaa
open Go.RowKit Go.Maps
def tearN (loose : List Nat) (kp : Nat) : Nat := kp % (loose.length + 1)
/-- The last three bytes of a row, turned. -/
def turn3 (b : List Nat) (tn : Nat) : List Nat := ((b.set (b.length - 3) (b.getD (b.length - 3) 0 ^^^ (tn / 65536 % 256))).set (b.length - 2) (b.getD (b.length - 2) 0 ^^^ (tn / 256 % 256))).set (b.length - 1) (b.getD (b.length - 1) 0 ^^^ (tn % 256))
def tearB (loose : List Nat) (kp tn : Nat) : List Nat := if tearN loose kp < 3 then loose.take (tearN loose kp) else turn3 (loose.take (tearN loose kp)) tn
theorem tr_info : (Try.prog.info? 109).map (·.size) = some 2 := by kernel_rfl
theorem box3F (w : World) (x y u v : Value) : Below w.heap.size w (((w.alloc (.cells #[x, y] 124)).alloc (.cells #[u, v] 109)).alloc (.cells #[.slice none 0 0, .int .i64 0] 124)) ∧ (((w.alloc (.cells #[x, y] 124)).alloc (.cells #[u, v] 109)).alloc (.cells #[.slice none 0 0, .int .i64 0] 124)).heap[w.heap.size]? = some (.cells #[x, y] 124 (0, 0)) ∧ (((w.alloc (.cells #[x, y] 124)).alloc (.cells #[u, v] 109)).alloc (.cells #[.slice none 0 0, .int .i64 0] 124)).heap[w.heap.size + 1]? = some (.cells #[u, v] 109 (0, 0)) ∧ (((w.alloc (.cells #[x, y] 124)).alloc (.cells #[u, v] 109)).alloc (.cells #[.slice none 0 0, .int .i64 0] 124)).heap[w.heap.size + 1 + 1]? = some (.cells #[.slice none 0 0, .int .i64 0] 124 (0, 0)) := by
  obtain ⟨h1, h2, h3, h4, -⟩ := box3 w #[x, y] #[u, v] #[.slice none 0 0, .int .i64 0] 124 109 124
  exact ⟨h1, h2, h3, h4⟩
theorem RB.below {w w' : World} {v : Value} {bs : List Nat} (h : RB w v bs) (hb : Below w.heap.size w w') : RB w' v bs := h.kept hb
theorem tr_res {fn : Func} {p : Nat} (h : fn.results = #[.cell p 124]) (tmps : Array Value) (w : World) (N : Nat) (x y : Value) (hp : tmps.getD p undef = .pointer (some ⟨N, 0, none⟩)) (h0 : w.cell? ⟨N, 0, none⟩ = some x) (h1 : w.cell? ⟨N, 1, none⟩ = some y) : (results fn tmps).run Try.prog w = .ok (.agg #[x, y]) w := by
  have hR : w.rangeAt N 0 [x, y] := fun j u hj => by
    rcases j with _ | _ | j
    · injection hj with hj
      subst hj
      exact h0
    · injection hj with hj
      subst hj
      exact h1
    · cases hj
  have hl := run_loadVar_mid w N 0 _ [x, y] _ hR fl_und rfl fl_info
  have hp' : tmps[p]?.getD undef = .pointer (some ⟨N, 0, none⟩) := by simpa using hp
  simp [results, h, hp', asAddr, hl]
set_option maxRecDepth 100000 in
set_option maxHeartbeats 8000000 in
theorem torn_few (a : Option Addr) (c : Nat) (all : List Nat) (kept kp tn : Nat) (w : World) (h : RB w (.slice a all.length c) all) (hk : kept ≤ all.length) (hlb : all.length ≤ 1048576) (hkp : kp < 65536) (htn : tn < 4294967296) (hf3 : tearN (all.drop kept) kp < 3) : Calls Try.prog 78 #[.agg #[.slice a all.length c, .int .i64 (kept : Int)], .agg #[.int .u16 (kp : Int), .int .u32 (tn : Int)]] w fun e w' => ∃ v, e = .returned (.agg #[v, .int .i64 ((all.take kept ++ tearB (all.drop kept) kp tn).length : Int)]) ∧ OB w' w.heap.size v (all.take kept ++ tearB (all.drop kept) kp tn) ∧ Below w.heap.size w w' := by
  have HR := Lib.hid h
  have HK := Lib.hid hk
  have HLB : Hid (all.length ≤ 1048576) := Lib.hid hlb
  obtain ⟨B1, s1, s2, s3⟩ := box3F w (.slice a all.length c) (.int .i64 (kept : Int)) (.int .u16 (kp : Int)) (.int .u32 (tn : Int))
  have HB1 := Lib.hid B1
  have HS1 := Lib.hid s1
  have HS2 := Lib.hid s2
  have HS3 := Lib.hid s3
  have HR1 := Lib.hid (h.kept B1)
  obtain ⟨L, hL⟩ : ∃ L, all.length - kept = L := ⟨_, rfl⟩
  have HL := Lib.hid hL
  obtain ⟨n, hn⟩ : ∃ n, tearN (all.drop kept) kp = n := ⟨_, rfl⟩
  have HN := Lib.hid hn
  have hnL : n ≤ L := by rw [← hn, ← hL]; unfold tearN; rw [List.length_drop]; have := Nat.mod_lt kp (show 0 < all.length - kept + 1 by omega); omega
  have hrm : Int.tmod (kp : Int) ((L : Int) + 1) = (n : Int) := by
    rw [← hn, ← hL]
    unfold tearN
    rw [List.length_drop]
    show Int.tmod (kp : Int) (((all.length - kept : Nat) : Int) + 1) = _
    rw [show (((all.length - kept : Nat) : Int) + 1) = ((all.length - kept + 1 : Nat) : Int) from by omega, ← Int.ofNat_tmod]
  have hLb : L ≤ 1048576 := by omega
  have hw1 : IntKind.i64.wrap (kp : Int) = (kp : Int) := IntWalk.i64_in _ ⟨by omega, by omega⟩
  have hw2 : IntKind.i64.wrap ((L : Int) + 1) = (L : Int) + 1 := IntWalk.i64_in _ ⟨by omega, by omega⟩
  have hw3 : IntKind.i64.wrap (n : Int) = (n : Int) := IntWalk.i64_in _ ⟨by omega, by omega⟩
  have hz : decide ((L : Int) + 1 = 0) = false := decide_eq_false (by omega)
  have hz2 : ((L : Int) + 1 == 0) = false := by simp; omega
  have HF := Lib.hid (And.intro hnL hLb)
  have HRM := Lib.hid (And.intro hrm (And.intro hw1 (And.intro hw2 (And.intro hw3 (And.intro hz hz2)))))
  clear h hk hlb B1 s1 s2 s3 hL hn hrm hw1 hw2 hw3 hz hz2 hnL hLb hkp htn
  go_enter Try.func78, Try.ntmps78
  go_wp2_with fail
  obtain ⟨N, hN⟩ : ∃ N, w.heap.size = N := ⟨_, rfl⟩
  have HNN := Lib.hid hN
  rw [hN] at HS1 HS2 HS3
  try rw [hN]
  clear hN
  generalize ((w.alloc (.cells #[.slice a all.length c, .int .i64 (kept : Int)] 124)).alloc (.cells #[.int .u16 (kp : Int), .int .u32 (tn : Int)] 109)).alloc (.cells #[.slice none 0 0, .int .i64 0] 124) = w1 at HB1 HS1 HS2 HS3 HR1 ⊢
  have HS0 : Hid (Below w1.drew.heap.size w1.drew w1.drew) := Lib.hid (Below.refl _ _)
  have HB2 : Hid (Below w.heap.size w w1.drew) := Lib.hid HB1.out.drew
  have HT2 : Hid (w1.drew.heap[N]? = some (.cells #[.slice a all.length c, .int .i64 (kept : Int)] 124 (0, 0)) ∧ w1.drew.heap[N + 1]? = some (.cells #[.int .u16 (kp : Int), .int .u32 (tn : Int)] 109 (0, 0)) ∧ w1.drew.heap[N + 1 + 1]? = some (.cells #[.slice none 0 0, .int .i64 0] 124 (0, 0))) := Lib.hid ⟨HS1.out, HS2.out, HS3.out⟩
  have HR2 : Hid (RB w1.drew (.slice a all.length c) all) := Lib.hid (HR1.out.kept ((Below.refl _ w1).drew))
  clear HB1 HS1 HS2 HS3 HR1
  refine wp_region_held_drew (S := (fun W : World => Below w1.drew.heap.size w1.drew W)) (by kernel_rfl) HS0.out (fun hHeld => ?_)
  clear hHeld
  generalize w1.drew = w2 at HB2 HT2 HR2 HS0 ⊢
  refine wpAnyH_take (i := 0) (oi := { dst := some 9, op := Go.Op.fieldAddr 109 (Go.Operand.tmp 3) 0, type := 0, pos := "disk.go:296", after := #[], guard := none }) (v := ?_) rfl (by kernel_rfl) (by kernel_rfl) (by kernel_rfl) (fun _ _ _ h => h) (Or.inl ⟨by rfl, ?_⟩) HS0.out ?_
  case refine_2 => (intro w1 hS1; clear hS1; go_simp; try with_reducible rfl)
  try simp only [Act.put, List.setIfInBounds_toArray, List.set_cons_zero, List.set_cons_succ]
  refine wpAnyH_take (i := 1) (oi := { dst := some 10, op := Go.Op.load 77 (Go.Operand.tmp 9), type := 77, pos := "disk.go:296", after := #[{ on := 0, ground := Go.Ground.data }], guard := none }) (v := ?_) rfl (by kernel_rfl) (by kernel_rfl) (by kernel_rfl) (fun _ _ _ h => h) (Or.inl ⟨by rfl, ?_⟩) HS0.out ?_
  case refine_2 => (intro w1 hS1; obtain ⟨z0, z1, -⟩ := two_at (ex_below HT2.out.2.1 hS1); clear hS1; go_simp; try with_reducible rfl)
  try simp only [Act.put, List.setIfInBounds_toArray, List.set_cons_zero, List.set_cons_succ]
  refine wpAnyH_take (i := 2) (oi := { dst := some 11, op := Go.Op.convert 77 3 (Go.Operand.tmp 10), type := 3, pos := "disk.go:296", after := #[{ on := 1, ground := Go.Ground.data }], guard := none }) (v := .int .i64 (kp : Int)) rfl (by kernel_rfl) (by kernel_rfl) (by kernel_rfl) (fun _ _ _ h => h) (Or.inl ⟨by rfl, ?_⟩) HS0.out ?_
  case refine_1 => (intro w1 hS1; clear hS1; have hw1 := HRM.out.2.1; go_simp; try with_reducible rfl)
  try simp only [Act.put, List.setIfInBounds_toArray, List.set_cons_zero, List.set_cons_succ]
  refine wpAnyH_take (i := 3) (oi := { dst := some 12, op := Go.Op.load 124 (Go.Operand.tmp 2), type := 124, pos := "disk.go:296", after := #[], guard := none }) (v := .agg #[.slice a all.length c, .int .i64 (kept : Int)]) rfl (by kernel_rfl) (by kernel_rfl) (by kernel_rfl) (fun _ _ _ h => h) (Or.inl ⟨by rfl, ?_⟩) HS0.out ?_
  case refine_1 => (intro w1 hS1; obtain ⟨z0, z1, -⟩ := two_at (ex_below HT2.out.1 hS1); clear hS1; go_simp; try with_reducible rfl)
  try simp only [Act.put, List.setIfInBounds_toArray, List.set_cons_zero, List.set_cons_succ]
  refine wpAnyH_ready (rs := [4]) (by kernel_rfl) (by simp) ?_
  refine AllReadyH.cons (o := { dst := some 13, op := Go.Op.call { callee := Go.Callee.value (Go.Operand.func 76), args := #[Go.Operand.tmp 12], argTypes := #[124] }, type := 51, pos := "disk.go:296", after := #[{ on := 3, ground := Go.Ground.data }], guard := none }) rfl (fun K hK => ?_) AllReadyH.nil
  go_simp
  refine (dloose a c all kept w2 HR2.out HK.out).mono ?_
  rintro e w3 ⟨a2, c2, rfl, hrl, hb⟩
  rw [HL.out] at hrl ⊢
  have HS0' : Hid (Below w2.heap.size w2 w3) := Lib.hid hb
  clear hb hrl HS0
  have HS0 := HS0'
  clear HS0'
  refine hK.out _ _ HS0.out (fun hHeld => ?_)
  clear hK K hHeld
  try simp only [Act.put, List.setIfInBounds_toArray, List.set_cons_zero, List.set_cons_succ]
  refine wpAnyH_take (i := 5) (oi := { dst := some 14, op := Go.Op.call { callee := Go.Callee.builtin Go.Builtin.len, args := #[Go.Operand.tmp 13], argTypes := #[51] }, type := 3, pos := "disk.go:296", after := #[{ on := 4, ground := Go.Ground.data }], guard := none }) (v := ?_) rfl (by kernel_rfl) (by kernel_rfl) (by kernel_rfl) (fun _ _ _ h => h) (Or.inl ⟨by rfl, ?_⟩) HS0.out ?_
  case refine_2 => (intro w1 hS1; clear hS1; go_simp; try with_reducible rfl)
  try simp only [Act.put, List.setIfInBounds_toArray, List.set_cons_zero, List.set_cons_succ]
  refine wpAnyH_take (i := 6) (oi := { dst := some 15, op := Go.Op.binOp Go.BinOp.add 3 (Go.Operand.tmp 14) (Go.Operand.const (Go.Value.int Go.IntKind.i64 1)) 3, type := 3, pos := "disk.go:296", after := #[{ on := 5, ground := Go.Ground.data }], guard := none }) (v := .int .i64 ((L : Int) + 1)) rfl (by kernel_rfl) (by kernel_rfl) (by kernel_rfl) (fun _ _ _ h => h) (Or.inl ⟨by rfl, ?_⟩) HS0.out ?_
  case refine_1 => (intro w1 hS1; clear hS1; have hw2 := HRM.out.2.2.1; go_simp; try with_reducible rfl)
  try simp only [Act.put, List.setIfInBounds_toArray, List.set_cons_zero, List.set_cons_succ]
  refine wpAnyH_take (i := 7) (oi := { dst := some 16, op := Go.Op.binOp Go.BinOp.rem 3 (Go.Operand.tmp 11) (Go.Operand.tmp 15) 3, type := 3, pos := "disk.go:296", after := #[{ on := 2, ground := Go.Ground.data }, { on := 6, ground := Go.Ground.data }], guard := none }) (v := .int .i64 (n : Int)) rfl (by kernel_rfl) (by kernel_rfl) (by kernel_rfl) (fun _ _ _ h => h) (Or.inl ⟨by rfl, ?_⟩) HS0.out ?_
  case refine_1 => (intro w1 hS1; clear hS1; have hr0 := HRM.out.1; have hr3 := HRM.out.2.2.2.1; have hr4 := HRM.out.2.2.2.2.1; have hr5 := HRM.out.2.2.2.2.2; go_simp; omega)
  try simp only [Act.put, List.setIfInBounds_toArray, List.set_cons_zero, List.set_cons_succ]
  refine wpAnyH_take (i := 8) (oi := { dst := some 5, op := Go.Op.assign (Go.Operand.tmp 16), type := 3, pos := "disk.go:296", after := #[{ on := 7, ground := Go.Ground.data }, { on := 4, ground := Go.Ground.chain }, { on := 0, ground := Go.Ground.phase }, { on := 1, ground := Go.Ground.phase }, { on := 2, ground := Go.Ground.phase }, { on := 3, ground := Go.Ground.phase }, { on := 4, ground := Go.Ground.phase }, { on := 5, ground := Go.Ground.phase }, { on := 6, ground := Go.Ground.phase }, { on := 7, ground := Go.Ground.phase }], guard := none }) (v := ?_) rfl (by kernel_rfl) (by kernel_rfl) (by kernel_rfl) (fun _ _ _ h => h) (Or.inl ⟨by rfl, ?_⟩) HS0.out ?_
  case refine_2 => (intro w1 hS1; clear hS1; go_simp; try with_reducible rfl)
  try simp only [Act.put, List.setIfInBounds_toArray, List.set_cons_zero, List.set_cons_succ]
  refine wpAnyH_done (by kernel_rfl) ?_ _
  have HB3 := Lib.hid (HB2.out.trans (HS0.out.mono HB2.out.size))
  have HT3 : Hid (w3.heap[N]? = some (.cells #[.slice a all.length c, .int .i64 (kept : Int)] 124 (0, 0)) ∧ w3.heap[N + 1]? = some (.cells #[.int .u16 (kp : Int), .int .u32 (tn : Int)] 109 (0, 0)) ∧ w3.heap[N + 1 + 1]? = some (.cells #[.slice none 0 0, .int .i64 0] 124 (0, 0))) := Lib.hid ⟨ex_below HT2.out.1 HS0.out, ex_below HT2.out.2.1 HS0.out, ex_below HT2.out.2.2 HS0.out⟩
  have HR3 := Lib.hid (HR2.out.kept HS0.out)
  clear HS0 HB2 HT2 HR2
  go_wp2_with fail
  have HS0 : Hid (Below w3.drew.heap.size w3.drew w3.drew) := Lib.hid (Below.refl _ _)
  have HB4 : Hid (Below w.heap.size w w3.drew) := Lib.hid HB3.out.drew
  have HT4 : Hid (w3.drew.heap[N]? = some (.cells #[.slice a all.length c, .int .i64 (kept : Int)] 124 (0, 0)) ∧ w3.drew.heap[N + 1]? = some (.cells #[.int .u16 (kp : Int), .int .u32 (tn : Int)] 109 (0, 0)) ∧ w3.drew.heap[N + 1 + 1]? = some (.cells #[.slice none 0 0, .int .i64 0] 124 (0, 0))) := Lib.hid HT3.out
  have HR4 : Hid (RB w3.drew (.slice a all.length c) all) := Lib.hid (HR3.out.kept ((Below.refl _ w3).drew))
  clear HB3 HT3 HR3
  refine wp_region_held_drew (S := (fun W : World => Below w3.drew.heap.size w3.drew W)) (by kernel_rfl) HS0.out (fun hHeld => ?_)
  clear hHeld
  generalize w3.drew = w4 at HB4 HT4 HR4 HS0 ⊢
  refine wpAnyH_take (i := 0) (oi := { dst := some 17, op := Go.Op.load 124 (Go.Operand.tmp 2), type := 124, pos := "disk.go:297", after := #[], guard := none }) (v := .agg #[.slice a all.length c, .int .i64 (kept : Int)]) rfl (by kernel_rfl) (by kernel_rfl) (by kernel_rfl) (fun _ _ _ h => h) (Or.inl ⟨by rfl, ?_⟩) HS0.out ?_
  case refine_1 => (intro w1 hS1; obtain ⟨z0, z1, -⟩ := two_at (ex_below HT4.out.1 hS1); clear hS1; go_simp; try with_reducible rfl)
  try simp only [Act.put, List.setIfInBounds_toArray, List.set_cons_zero, List.set_cons_succ]
  refine wpAnyH_take (i := 2) (oi := { dst := some 19, op := Go.Op.load 124 (Go.Operand.tmp 2), type := 124, pos := "disk.go:297", after := #[], guard := none }) (v := .agg #[.slice a all.length c, .int .i64 (kept : Int)]) rfl (by kernel_rfl) (by kernel_rfl) (by kernel_rfl) (fun _ _ _ h => h) (Or.inl ⟨by rfl, ?_⟩) HS0.out ?_
  case refine_1 => (intro w1 hS1; obtain ⟨z0, z1, -⟩ := two_at (ex_below HT4.out.1 hS1); clear hS1; go_simp; try with_reducible rfl)
  try simp only [Act.put, List.setIfInBounds_toArray, List.set_cons_zero, List.set_cons_succ]
  refine wpAnyH_take (i := 4) (oi := { dst := some 21, op := Go.Op.move (Go.Operand.tmp 5), type := 3, pos := "disk.go:297", after := #[], guard := none }) (v := ?_) rfl (by kernel_rfl) (by kernel_rfl) (by kernel_rfl) (fun _ _ _ h => h) (Or.inl ⟨by rfl, ?_⟩) HS0.out ?_
  case refine_2 => (intro w1 hS1; clear hS1; go_simp; try with_reducible rfl)
  try simp only [Act.put, List.setIfInBounds_toArray, List.set_cons_zero, List.set_cons_succ]
  refine wpAnyH_ready (rs := [1]) (by kernel_rfl) (by simp) ?_
  refine AllReadyH.cons (o := { dst := some 18, op := Go.Op.call { callee := Go.Callee.value (Go.Operand.func 75), args := #[Go.Operand.tmp 17], argTypes := #[124] }, type := 51, pos := "disk.go:297", after := #[{ on := 0, ground := Go.Ground.data }], guard := none }) rfl (fun K hK => ?_) AllReadyH.nil
  go_simp
  refine (dsafe a c all kept w4 HR4.out HK.out).mono ?_
  rintro e w5 ⟨rfl, hrs, hb⟩
  have HRS := Lib.hid hrs
  have HS0' : Hid (Below w4.heap.size w4 w5) := Lib.hid hb
  clear hb hrs HS0
  have HS0 := HS0'
  clear HS0'
  refine hK.out _ _ HS0.out (fun hHeld => ?_)
  clear hK K hHeld
  try simp only [Act.put, List.setIfInBounds_toArray, List.set_cons_zero, List.set_cons_succ]
  refine wpAnyH_ready (rs := [3]) (by kernel_rfl) (by simp) ?_
  refine AllReadyH.cons (o := { dst := some 20, op := Go.Op.call { callee := Go.Callee.value (Go.Operand.func 76), args := #[Go.Operand.tmp 19], argTypes := #[124] }, type := 51, pos := "disk.go:297", after := #[{ on := 2, ground := Go.Ground.data }, { on := 1, ground := Go.Ground.chain }], guard := none }) rfl (fun K hK => ?_) AllReadyH.nil
  go_simp
  refine (dloose a c all kept w5 (HR4.out.kept HS0.out) HK.out).mono ?_
  rintro e w6 ⟨a2, c2, rfl, hrl, hb⟩
  rw [HL.out] at hrl ⊢
  have HRL := Lib.hid hrl
  have HRS6 := Lib.hid (HRS.out.kept hb)
  have HC2 : Hid (L ≤ c2) := Lib.hid (by
    have e4 : (all.drop kept).length = L := by rw [List.length_drop]; exact HL.out
    rw [← e4] at hrl
    obtain ⟨a3, cap, e3, hcl, -⟩ := hrl.shape
    injection e3 with _ _ e3
    omega)
  have HS0' : Hid (Below w4.heap.size w4 w6) := Lib.hid (HS0.out.trans (hb.mono HS0.out.size))
  clear hb hrl HS0 HRS
  have HS0 := HS0'
  clear HS0'
  refine hK.out _ _ HS0.out (fun hHeld => ?_)
  clear hK K hHeld
  try simp only [Act.put, List.setIfInBounds_toArray, List.set_cons_zero, List.set_cons_succ]
  have hn0 : (0 : Int) ≤ (n : Int) := by omega
  have hn1 : (n : Int) ≤ (c2 : Int) := by have := HC2.out; have := HF.out; omega
  refine wpAnyH_take (i := 5) (oi := { dst := some 22, op := Go.Op.slice 51 (Go.Operand.tmp 20) none (some (Go.Operand.tmp 21)) none, type := 51, pos := "disk.go:297", after := #[{ on := 3, ground := Go.Ground.data }, { on := 4, ground := Go.Ground.data }], guard := none }) (v := .slice a2 n c2) rfl (by kernel_rfl) (by kernel_rfl) (by kernel_rfl) (fun _ _ _ h => h) (Or.inl ⟨by rfl, ?_⟩) HS0.out ?_
  case refine_1 => (intro w1 hS1; clear hS1; have hsl := run_slice_h (P := Try.prog) w1 51 a2 L c2 Try.underlying51 .i64 (n : Int) hn0 hn1; go_simp; try with_reducible rfl)
  try simp only [Act.put, List.setIfInBounds_toArray, List.set_cons_zero, List.set_cons_succ]
  have HRN : Hid (RB w6 (.slice a2 n c2) ((all.drop kept).take n)) := Lib.hid (by
    have e4 : (all.drop kept).length = L := by rw [List.length_drop]; exact HL.out
    have hrl := HRL.out
    rw [← e4] at hrl
    rcases hrl.head (k := n) (by rw [e4]; exact HF.out.1) c2 (by omega) (Nat.le_refl _) with h2 | ⟨h2, h3⟩
    · exact h2
    · have h4 := hrl.nilc h3
      rw [h2, h3, h4.2, List.take_zero]
      exact RB.nil _)
  clear hn0 hn1 HRL
  obtain ⟨B7, s7, -⟩ := box1 w6 #[.slice a kept kept, .slice a2 n c2] 51
  have HS7 : Hid (Below w4.heap.size w4 (w6.alloc (.cells #[.slice a kept kept, .slice a2 n c2] 51))) := Lib.hid (HS0.out.trans (B7.mono HS0.out.size))
  have HA7 := Lib.hid (And.intro (HRS6.out.kept B7) (HRN.out.kept B7))
  have HC7 := Lib.hid (And.intro (two_at s7).1 (two_at s7).2.1)
  clear B7 s7
  refine wpAnyH_ready (rs := [6]) (by kernel_rfl) (by simp) ?_
  refine AllReadyH.cons (o := { dst := some 23, op := Go.Op.buildSlice 212 2 #[(0, Go.Operand.tmp 18), (1, Go.Operand.tmp 22)], type := 212, pos := "disk.go:297", after := #[{ on := 1, ground := Go.Ground.data }, { on := 5, ground := Go.Ground.data }], guard := none }) rfl (fun K hK => ?_) AllReadyH.nil
  go_simp
  refine hK.out _ _ HS7.out (fun hHeld => ?_)
  clear hK K hHeld HS0 HRS6 HRN
  try simp only [Act.put, List.setIfInBounds_toArray, List.set_cons_zero, List.set_cons_succ]
  obtain ⟨G, hG⟩ : ∃ G, w6.heap.size = G := ⟨_, rfl⟩
  rw [hG] at HC7
  try rw [hG]
  clear hG
  generalize w6.alloc (.cells #[.slice a kept kept, .slice a2 n c2] 51) = w7 at HS7 HA7 HC7 ⊢
  have HLN : Hid ((all.take kept).length = kept ∧ ((all.drop kept).take n).length = n) := Lib.hid ⟨by rw [List.length_take]; have := HK.out; omega, by rw [List.length_take, List.length_drop, HL.out]; have := HF.out.1; omega⟩
  refine wpAnyH_ready (rs := [7]) (by kernel_rfl) (by simp) ?_
  refine AllReadyH.cons (o := { dst := some 24, op := Go.Op.call { callee := Go.Callee.value (Go.Operand.func 118), args := #[Go.Operand.tmp 23], argTypes := #[212] }, type := 51, pos := "disk.go:297", after := #[{ on := 6, ground := Go.Ground.data }, { on := 3, ground := Go.Ground.chain }], guard := none }) rfl (fun K hK => ?_) AllReadyH.nil
  go_simp
  refine (bconcat2 G 2 a a2 kept c2 (all.take kept) ((all.drop kept).take n) w7 (by rw [HLN.out.1]; exact HC7.out.1) (by rw [HLN.out.2]; exact HC7.out.2) (by rw [HLN.out.1]; exact HA7.out.1) (by rw [HLN.out.2]; exact HA7.out.2) (by rw [HLN.out.1, HLN.out.2]; have := HK.out; have := HF.out; have := HLB.out; omega)).mono ?_
  rintro e w8 ⟨v, rfl, ho, hb⟩
  obtain ⟨av, cv, rfl⟩ := ho.shp
  obtain ⟨ln, hln⟩ : ∃ ln, (all.take kept ++ (all.drop kept).take n).length = ln := ⟨_, rfl⟩
  rw [hln] at ho ⊢
  have HLL := Lib.hid hln
  clear hln
  have HO8 : Hid (OB w8 w.heap.size (.slice av ln cv) (all.take kept ++ (all.drop kept).take n)) := Lib.hid (ho.mono (by have h1 := HS7.out.size; have h2 := HB4.out.size; omega))
  have HGB : Hid (∀ g, (Value.slice av ln cv).ownBlock = some g → g ≠ N + 1 + 1) := Lib.hid (fun g hg => by have h1 := (ho.lt hg).1; have h2 := HS7.out.size; have h3 := ex_lt HT4.out.2.2; omega)
  have HS0 : Hid (Below w4.heap.size w4 w8) := Lib.hid (HS7.out.trans (hb.mono HS7.out.size))
  clear hb ho HS7 HA7 HC7
  refine hK.out _ _ HS0.out (fun hHeld => ?_)
  clear hK K hHeld
  try simp only [Act.put, List.setIfInBounds_toArray, List.set_cons_zero, List.set_cons_succ]
  refine wpAnyH_take (i := 8) (oi := { dst := some 6, op := Go.Op.assign (Go.Operand.tmp 24), type := 51, pos := "disk.go:297", after := #[{ on := 7, ground := Go.Ground.data }, { on := 7, ground := Go.Ground.chain }, { on := 0, ground := Go.Ground.phase }, { on := 1, ground := Go.Ground.phase }, { on := 2, ground := Go.Ground.phase }, { on := 3, ground := Go.Ground.phase }, { on := 4, ground := Go.Ground.phase }, { on := 5, ground := Go.Ground.phase }, { on := 6, ground := Go.Ground.phase }, { on := 7, ground := Go.Ground.phase }], guard := none }) (v := ?_) rfl (by kernel_rfl) (by kernel_rfl) (by kernel_rfl) (fun _ _ _ h => h) (Or.inl ⟨by rfl, ?_⟩) HS0.out ?_
  case refine_2 => (intro w1 hS1; clear hS1; go_simp; try with_reducible rfl)
  try simp only [Act.put, List.setIfInBounds_toArray, List.set_cons_zero, List.set_cons_succ]
  refine wpAnyH_done (by kernel_rfl) ?_ _
  have HB8 := Lib.hid (HB4.out.trans (HS0.out.mono HB4.out.size))
  have HT8 : Hid (w8.heap[N]? = some (.cells #[.slice a all.length c, .int .i64 (kept : Int)] 124 (0, 0)) ∧ w8.heap[N + 1]? = some (.cells #[.int .u16 (kp : Int), .int .u32 (tn : Int)] 109 (0, 0)) ∧ w8.heap[N + 1 + 1]? = some (.cells #[.slice none 0 0, .int .i64 0] 124 (0, 0))) := Lib.hid ⟨ex_below HT4.out.1 HS0.out, ex_below HT4.out.2.1 HS0.out, ex_below HT4.out.2.2 HS0.out⟩
  clear HS0 HB4 HT4 HR4
  have hnn : n < 3 := by rw [← HN.out]; exact hf3
  have d1 : decide ((n : Int) ≥ 3) = false := decide_eq_false (by omega)
  have d2 : decide (3 ≤ (n : Int)) = false := decide_eq_false (by omega)
  have d3 : decide (3 ≤ n) = false := decide_eq_false (by omega)
  have HTB : Hid (tearB (all.drop kept) kp tn = (all.drop kept).take n) := Lib.hid (by unfold tearB; rw [if_pos hf3, HN.out])
  obtain ⟨z0, z1, fr⟩ := two_at HT8.out.2.2
  have f0 := fr 0
  have f1 := fr 1
  have HX9 := Lib.hid (two_set (two_set HT8.out.2.2 (.slice av ln cv)).1 (.int .i64 (ln : Int))).2
  clear hnn fr hf3
  go_wp2_with fail
  refine bodyPost_ret (tr_res rfl _ _ (N + 1 + 1) _ _ rfl (two_at HX9.out).1 (two_at HX9.out).2.1) rfl ?_
  have hN := HNN.out
  refine ⟨_, by rw [HTB.out, HLL.out], ?_, below_two (below_two HB8.out (by omega) _ _) (by omega) _ _⟩
  rw [HTB.out]
  exact HO8.out.blk (fun g hg => (Below.heap_setCell _ _ _ _ (by exact HGB.out g hg)).trans (Below.heap_setCell _ _ _ _ (by exact HGB.out g hg)))
end Go.Proofs.Ythkjjpkipeeimaa
