import Derived.Test.YthefnakbpalecaaMaO
import Derived.Test.YthefnakbpalecaaDkT
import Derived.Deep.DeepCutAuto
namespace Go.Proofs.Ythefnakbpalecaa
open Go.RowKit
/- Bytes: room made; two rows put together. -/
open Go.RowKit Go.Maps Go.Shelf
theorem info5' : ∃ i0, Try.prog.info? 5 = some i0 ∧ i0.zero = some (.int .u8 0) ∧ i0.size = 1 ∧ i0.bytes = 1 := by
  obtain ⟨i0, hi, hz0, hz1, hz2⟩ := info_parts info5
  exact ⟨i0, hi, hz0, hz1, hz2⟩
theorem bgrow (n : Nat) (w : World) (hn : n ≤ 100000000) : Calls Try.prog 146 #[.slice none 0 0, .int .i64 (n : Int)] w fun e w' => ∃ v, e = .returned v ∧ OB w' w.heap.size v [] ∧ Below w.heap.size w w' := by
  by_cases h0 : n = 0
  · subst h0
    have hc := Any8.slices_Grow_room growB none 0 0 0 w (Nat.le_refl _) (by decide) (by decide) (Nat.le_refl _)
    change Calls Try.prog 146 _ _ _ at hc
    refine hc.mono ?_
    rintro e w' ⟨rfl, rfl⟩
    exact ⟨_, rfl, World.ownsRow_nil _ _ _ _, Below.refl _ _⟩
  · obtain ⟨i0, hi, hz0, hz1, hz2⟩ := info5'
    have hc := Any8.slices_Grow_grow growB i0 (.int .u8 0) hi hz0 (by rw [hz1]; decide) none 0 0 n [] w (Nat.le_refl _) (by omega) (by rw [hz2]; omega) (by omega) (by simp) (fun _ => rfl) (fun a h => by cases h)
    change Calls Try.prog 146 _ _ _ at hc
    refine hc.mono ?_
    rintro e w' ⟨rfl, rfl⟩
    refine ⟨_, rfl, ?_, ((Below.refl _ _).drew).alloc (Nat.le_refl _) _⟩
    refine ⟨rfl, .inr ⟨w.heap.size, _, _, rfl, Nat.le_refl _, heap_alloc_new w.drew _, Nat.zero_le _, grownCap_le_maxLen _ _ _ _ (by unfold maxLen; omega), ?_, by simp [cb]⟩⟩
    have hge := grownCap_ge w (0 + n) 0 5
    simp only [Array.size_append, size_zeroCells]
    show 0 + (0 + n - 0) * 1 + (grownCap w (0 + n) 0 5 - (0 + n)) * 1 = grownCap w (0 + n) 0 5 * 1
    omega
set_option maxRecDepth 100000 in
set_option maxHeartbeats 4000000 in
theorem bconcat2 (g : Nat) (cg : Nat) (a1 a2 : Option Addr) (c1 c2 : Nat) (x y : List Nat) (w : World) (h0 : w.cell? ⟨g, 0, none⟩ = some (.slice a1 x.length c1)) (h1 : w.cell? ⟨g, 1, none⟩ = some (.slice a2 y.length c2)) (hx : RB w (.slice a1 x.length c1) x) (hy : RB w (.slice a2 y.length c2) y) (hl : x.length + y.length ≤ 10000000) : Calls Try.prog 124 #[.slice (some ⟨g, 0, none⟩) 2 cg] w fun e w' => ∃ v, e = .returned v ∧ OB w' w.heap.size v (x ++ y) ∧ Below w.heap.size w w' := by
  have HX := Lib.hid hx
  have HY := Lib.hid hy
  have HG : Hid (g < w.heap.size) := Lib.hid (cell_spot h0).2
  have HC := Lib.hid (And.intro h0 h1)
  have HL := Lib.hid hl
  clear hx hy hl
  go_enter Try.func124, Try.ntmps124
  go_wp2_with fail
  go_loopg [3, 11] 2 (fun kx s3 s11 wr => w = wr ∧ ((s11 = .int .i64 0 ∧ s3 = .int .i64 0 ∧ 2 ≤ kx) ∨ (s11 = .int .i64 1 ∧ s3 = .int .i64 (x.length : Int) ∧ 1 ≤ kx) ∨ (s11 = .int .i64 2 ∧ s3 = .int .i64 ((x.length + y.length : Nat) : Int))))
  case atStart => exact ⟨rfl, .inl ⟨rfl, rfl, Nat.le_refl _⟩⟩
  case round =>
    obtain ⟨rfl, ⟨rfl, rfl, hk⟩ | ⟨rfl, rfl, hk⟩ | ⟨rfl, rfl⟩⟩ := hrel
    · have hw1 : wrap64 (x.length : Int) = (x.length : Int) := IntWalk.wrap64_in _ (by have := HL.out; omega)
      have hd1 : decide ((x.length : Int) < 0) = false := decide_eq_false (by omega)
      have hm : 1 < gk := by omega
      go_wp2_with fail
      go_roundg 1
      case measure => exact hm
      case rel => exact ⟨rfl, .inr (.inl ⟨rfl, by first | rfl | rw [hw1], Nat.le_refl _⟩)⟩
    · have hs : (x.length : Int) + (y.length : Int) = ((x.length + y.length : Nat) : Int) := by omega
      have hw1 : wrap64 ((x.length : Int) + (y.length : Int)) = ((x.length + y.length : Nat) : Int) := by rw [hs]; exact IntWalk.wrap64_in _ (by have := HL.out; omega)
      have hd1 : decide (((x.length + y.length : Nat) : Int) < 0) = false := decide_eq_false (by omega)
      have hm : 0 < gk := by omega
      have HW := Lib.hid hw1
      clear hs
      obtain ⟨sz, hsz⟩ : ∃ sz, ((x.length + y.length : Nat) : Int) = sz := ⟨_, rfl⟩
      have HSZ := Lib.hid hsz
      rw [hsz] at hw1 hd1 HW
      clear hsz
      go_wp2_with fail
      go_roundg 0
      case measure => exact hm
      case rel => exact ⟨rfl, .inr (.inr ⟨rfl, by rw [HSZ.out]; first | rfl | rw [HW.out]⟩)⟩
    · clear h0 h1
      go_wp2_with fail
      refine (bgrow (x.length + y.length) w (by have := HL.out; omega)).mono ?_
      rintro e w1 ⟨v, rfl, ho, hb⟩
      have HO := Lib.hid ho
      have HB := Lib.hid hb
      clear ho hb
      go_wp2_with fail
      go_loopg [6, 27] 2 (fun kx s6 s27 wq => ∃ v : Value, v = s6 ∧ Hid (Below w.heap.size w wq) ∧ ((s27 = .int .i64 0 ∧ Hid (OB wq w.heap.size v []) ∧ 2 ≤ kx) ∨ (s27 = .int .i64 1 ∧ Hid (OB wq w.heap.size v x) ∧ 1 ≤ kx) ∨ (s27 = .int .i64 2 ∧ Hid (OB wq w.heap.size v (x ++ y)))))
      case atStart => exact ⟨v, rfl, HB, .inl ⟨rfl, HO, Nat.le_refl _⟩⟩
      case round =>
        clear HO HB
        obtain ⟨v2, rfl, HB, ⟨rfl, HO, hk⟩ | ⟨rfl, HO, hk⟩ | ⟨rfl, HO⟩⟩ := hrel
        · have e0 := (HB.out.cell (p := ⟨g, 0, none⟩) HG.out).trans HC.out.1
          have HRX := Lib.hid (HX.out.kept HB.out)
          have HSZ2 : Hid (w.heap.size ≤ wr.heap.size) := Lib.hid HB.out.size
          have hm : 1 < gk := by omega
          go_wp2_with (at_builtin; refine append_moved rfl (.tmp 31) (.tmp 32) rfl w.heap.size _ _ [] x rfl rfl HO.out HRX.out (by have := HL.out; simp; omega) HSZ2.out ?_; intro v3 w3 ho3 hg3 hm3; have HO3 := Lib.hid ho3; have HB3 := Lib.hid (HB.out.grown hg3 HSZ2.out (fun k hk => (World.ownsRow.lt HO.out k hk).1)); clear ho3 hg3 hm3)
          go_roundg 1
          case measure => exact hm
          case rel => exact ⟨_, rfl, HB3, .inr (.inl ⟨rfl, Lib.hid (by simpa using HO3.out), Nat.le_refl _⟩)⟩
        · have e0 := (HB.out.cell (p := ⟨g, 1, none⟩) HG.out).trans HC.out.2
          have HRX := Lib.hid (HY.out.kept HB.out)
          have HSZ2 : Hid (w.heap.size ≤ wr.heap.size) := Lib.hid HB.out.size
          have hm : 0 < gk := by omega
          go_wp2_with (at_builtin; refine append_moved rfl (.tmp 31) (.tmp 32) rfl w.heap.size _ _ x y rfl rfl HO.out HRX.out (by have := HL.out; omega) HSZ2.out ?_; intro v3 w3 ho3 hg3 hm3; have HO3 := Lib.hid ho3; have HB3 := Lib.hid (HB.out.grown hg3 HSZ2.out (fun k hk => (World.ownsRow.lt HO.out k hk).1)); clear ho3 hg3 hm3)
          go_roundg 0
          case measure => exact hm
          case rel => exact ⟨_, rfl, HB3, .inr (.inr ⟨rfl, HO3⟩)⟩
        · go_wp2_with fail
          go_ret
          exact ⟨_, rfl, HO.out, HB.out⟩
/- The disk: what a tear leaves of a file. -/
open Go.RowKit Go.Maps
def tearN (loose : List Nat) (kp : Nat) : Nat := kp % (loose.length + 1)
/-- The last three bytes of a row, turned. -/
def turn3 (b : List Nat) (tn : Nat) : List Nat := ((b.set (b.length - 3) (b.getD (b.length - 3) 0 ^^^ (tn / 65536 % 256))).set (b.length - 2) (b.getD (b.length - 2) 0 ^^^ (tn / 256 % 256))).set (b.length - 1) (b.getD (b.length - 1) 0 ^^^ (tn % 256))
def tearB (loose : List Nat) (kp tn : Nat) : List Nat := if tearN loose kp < 3 then loose.take (tearN loose kp) else turn3 (loose.take (tearN loose kp)) tn
theorem tr_info : (Try.prog.info? 138).map (·.size) = some 2 := by kernel_rfl
theorem box3F (w : World) (x y u v : Value) : Below w.heap.size w (((w.alloc (.cells #[x, y] 143)).alloc (.cells #[u, v] 138)).alloc (.cells #[.slice none 0 0, .int .i64 0] 143)) ∧ (((w.alloc (.cells #[x, y] 143)).alloc (.cells #[u, v] 138)).alloc (.cells #[.slice none 0 0, .int .i64 0] 143)).heap[w.heap.size]? = some (.cells #[x, y] 143 (0, 0)) ∧ (((w.alloc (.cells #[x, y] 143)).alloc (.cells #[u, v] 138)).alloc (.cells #[.slice none 0 0, .int .i64 0] 143)).heap[w.heap.size + 1]? = some (.cells #[u, v] 138 (0, 0)) ∧ (((w.alloc (.cells #[x, y] 143)).alloc (.cells #[u, v] 138)).alloc (.cells #[.slice none 0 0, .int .i64 0] 143)).heap[w.heap.size + 1 + 1]? = some (.cells #[.slice none 0 0, .int .i64 0] 143 (0, 0)) := by
  obtain ⟨h1, h2, h3, h4, -⟩ := box3 w #[x, y] #[u, v] #[.slice none 0 0, .int .i64 0] 143 138 143
  exact ⟨h1, h2, h3, h4⟩
theorem RB.below {w w' : World} {v : Value} {bs : List Nat} (h : RB w v bs) (hb : Below w.heap.size w w') : RB w' v bs := h.kept hb
theorem tr_res {fn : Func} {p : Nat} (h : fn.results = #[.cell p 143]) (tmps : Array Value) (w : World) (N : Nat) (x y : Value) (hp : tmps.getD p undef = .pointer (some ⟨N, 0, none⟩)) (h0 : w.cell? ⟨N, 0, none⟩ = some x) (h1 : w.cell? ⟨N, 1, none⟩ = some y) : (results fn tmps).run Try.prog w = .ok (.agg #[x, y]) w := by
  have hR : w.rangeAt N 0 [x, y] := fun j u hj => by
    rcases j with _ | _ | j
    · injection hj with hj
      subst hj
      exact h0
    · injection hj with hj
      subst hj
      exact h1
    · cases hj
  have hl := run_loadVar_mid w N 0 _ [x, y] _ hR fl_und rfl fl_info
  have hp' : tmps[p]?.getD undef = .pointer (some ⟨N, 0, none⟩) := by simpa using hp
  simp [results, h, hp', asAddr, hl]
set_option maxRecDepth 100000 in
set_option maxHeartbeats 8000000 in
theorem torn_few (a : Option Addr) (c : Nat) (all : List Nat) (kept kp tn : Nat) (w : World) (h : RB w (.slice a all.length c) all) (hk : kept ≤ all.length) (hlb : all.length ≤ 1048576) (hkp : kp < 65536) (htn : tn < 4294967296) (hf3 : tearN (all.drop kept) kp < 3) : Calls Try.prog 93 #[.agg #[.slice a all.length c, .int .i64 (kept : Int)], .agg #[.int .u16 (kp : Int), .int .u32 (tn : Int)]] w fun e w' => ∃ v, e = .returned (.agg #[v, .int .i64 ((all.take kept ++ tearB (all.drop kept) kp tn).length : Int)]) ∧ OB w' w.heap.size v (all.take kept ++ tearB (all.drop kept) kp tn) ∧ Below w.heap.size w w' := by
  have HR := Lib.hid h
  have HK := Lib.hid hk
  have HLB : Hid (all.length ≤ 1048576) := Lib.hid hlb
  obtain ⟨B1, s1, s2, s3⟩ := box3F w (.slice a all.length c) (.int .i64 (kept : Int)) (.int .u16 (kp : Int)) (.int .u32 (tn : Int))
  have HB1 := Lib.hid B1
  have HS1 := Lib.hid s1
  have HS2 := Lib.hid s2
  have HS3 := Lib.hid s3
  have HR1 := Lib.hid (h.kept B1)
  obtain ⟨L, hL⟩ : ∃ L, all.length - kept = L := ⟨_, rfl⟩
  have HL := Lib.hid hL
  obtain ⟨n, hn⟩ : ∃ n, tearN (all.drop kept) kp = n := ⟨_, rfl⟩
  have HN := Lib.hid hn
  have hnL : n ≤ L := by rw [← hn, ← hL]; unfold tearN; rw [List.length_drop]; have := Nat.mod_lt kp (show 0 < all.length - kept + 1 by omega); omega
  have hrm : Int.tmod (kp : Int) ((L : Int) + 1) = (n : Int) := by
    rw [← hn, ← hL]
    unfold tearN
    rw [List.length_drop]
    show Int.tmod (kp : Int) (((all.length - kept : Nat) : Int) + 1) = _
    rw [show (((all.length - kept : Nat) : Int) + 1) = ((all.length - kept + 1 : Nat) : Int) from by omega, ← Int.ofNat_tmod]
  have hLb : L ≤ 1048576 := by omega
  have hw1 : IntKind.i64.wrap (kp : Int) = (kp : Int) := IntWalk.i64_in _ ⟨by omega, by omega⟩
  have hw2 : IntKind.i64.wrap ((L : Int) + 1) = (L : Int) + 1 := IntWalk.i64_in _ ⟨by omega, by omega⟩
  have hw3 : IntKind.i64.wrap (n : Int) = (n : Int) := IntWalk.i64_in _ ⟨by omega, by omega⟩
  have hz : decide ((L : Int) + 1 = 0) = false := decide_eq_false (by omega)
  have hz2 : ((L : Int) + 1 == 0) = false := by simp; omega
  have HF := Lib.hid (And.intro hnL hLb)
  have HRM := Lib.hid (And.intro hrm (And.intro hw1 (And.intro hw2 (And.intro hw3 (And.intro hz hz2)))))
  clear h hk hlb B1 s1 s2 s3 hL hn hrm hw1 hw2 hw3 hz hz2 hnL hLb hkp htn
  go_enter Try.func93, Try.ntmps93
  go_wp2_with fail
  obtain ⟨N, hN⟩ : ∃ N, w.heap.size = N := ⟨_, rfl⟩
  have HNN := Lib.hid hN
  rw [hN] at HS1 HS2 HS3
  try rw [hN]
  clear hN
  generalize ((w.alloc (.cells #[.slice a all.length c, .int .i64 (kept : Int)] 143)).alloc (.cells #[.int .u16 (kp : Int), .int .u32 (tn : Int)] 138)).alloc (.cells #[.slice none 0 0, .int .i64 0] 143) = w1 at HB1 HS1 HS2 HS3 HR1 ⊢
  have HS0 : Hid (Below w1.drew.heap.size w1.drew w1.drew) := Lib.hid (Below.refl _ _)
  have HB2 : Hid (Below w.heap.size w w1.drew) := Lib.hid HB1.out.drew
  have HT2 : Hid (w1.drew.heap[N]? = some (.cells #[.slice a all.length c, .int .i64 (kept : Int)] 143 (0, 0)) ∧ w1.drew.heap[N + 1]? = some (.cells #[.int .u16 (kp : Int), .int .u32 (tn : Int)] 138 (0, 0)) ∧ w1.drew.heap[N + 1 + 1]? = some (.cells #[.slice none 0 0, .int .i64 0] 143 (0, 0))) := Lib.hid ⟨HS1.out, HS2.out, HS3.out⟩
  have HR2 : Hid (RB w1.drew (.slice a all.length c) all) := Lib.hid (HR1.out.kept ((Below.refl _ w1).drew))
  clear HB1 HS1 HS2 HS3 HR1
  refine wp_region_held_drew (S := (fun W : World => Below w1.drew.heap.size w1.drew W)) (by kernel_rfl) HS0.out (fun hHeld => ?_)
  clear hHeld
  generalize w1.drew = w2 at HB2 HT2 HR2 HS0 ⊢
  refine wpAnyH_take (i := 0) (oi := { dst := some 9, op := Go.Op.fieldAddr 138 (Go.Operand.tmp 3) 0, type := 0, pos := "disk.go:296", after := #[], guard := none }) (v := ?_) rfl (by kernel_rfl) (by kernel_rfl) (by kernel_rfl) (fun _ _ _ h => h) (Or.inl ⟨by rfl, ?_⟩) HS0.out ?_
  case refine_2 => (intro w1 hS1; clear hS1; go_simp; try with_reducible rfl)
  try simp only [Act.put, List.setIfInBounds_toArray, List.set_cons_zero, List.set_cons_succ]
  refine wpAnyH_take (i := 1) (oi := { dst := some 10, op := Go.Op.load 41 (Go.Operand.tmp 9), type := 41, pos := "disk.go:296", after := #[{ on := 0, ground := Go.Ground.data }], guard := none }) (v := ?_) rfl (by kernel_rfl) (by kernel_rfl) (by kernel_rfl) (fun _ _ _ h => h) (Or.inl ⟨by rfl, ?_⟩) HS0.out ?_
  case refine_2 => (intro w1 hS1; obtain ⟨z0, z1, -⟩ := two_at (ex_below HT2.out.2.1 hS1); clear hS1; go_simp; try with_reducible rfl)
  try simp only [Act.put, List.setIfInBounds_toArray, List.set_cons_zero, List.set_cons_succ]
  refine wpAnyH_take (i := 2) (oi := { dst := some 11, op := Go.Op.convert 41 3 (Go.Operand.tmp 10), type := 3, pos := "disk.go:296", after := #[{ on := 1, ground := Go.Ground.data }], guard := none }) (v := .int .i64 (kp : Int)) rfl (by kernel_rfl) (by kernel_rfl) (by kernel_rfl) (fun _ _ _ h => h) (Or.inl ⟨by rfl, ?_⟩) HS0.out ?_
  case refine_1 => (intro w1 hS1; clear hS1; have hw1 := HRM.out.2.1; go_simp; try with_reducible rfl)
  try simp only [Act.put, List.setIfInBounds_toArray, List.set_cons_zero, List.set_cons_succ]
  refine wpAnyH_take (i := 3) (oi := { dst := some 12, op := Go.Op.load 143 (Go.Operand.tmp 2), type := 143, pos := "disk.go:296", after := #[], guard := none }) (v := .agg #[.slice a all.length c, .int .i64 (kept : Int)]) rfl (by kernel_rfl) (by kernel_rfl) (by kernel_rfl) (fun _ _ _ h => h) (Or.inl ⟨by rfl, ?_⟩) HS0.out ?_
  case refine_1 => (intro w1 hS1; obtain ⟨z0, z1, -⟩ := two_at (ex_below HT2.out.1 hS1); clear hS1; go_simp; try with_reducible rfl)
  try simp only [Act.put, List.setIfInBounds_toArray, List.set_cons_zero, List.set_cons_succ]
  refine wpAnyH_ready (rs := [4]) (by kernel_rfl) (by simp) ?_
  refine AllReadyH.cons (o := { dst := some 13, op := Go.Op.call { callee := Go.Callee.value (Go.Operand.func 92), args := #[Go.Operand.tmp 12], argTypes := #[143] }, type := 28, pos := "disk.go:296", after := #[{ on := 3, ground := Go.Ground.data }], guard := none }) rfl (fun K hK => ?_) AllReadyH.nil
  go_simp
  refine (dloose a c all kept w2 HR2.out HK.out).mono ?_
  rintro e w3 ⟨a2, c2, rfl, hrl, hb⟩
  rw [HL.out] at hrl ⊢
  have HS0' : Hid (Below w2.heap.size w2 w3) := Lib.hid hb
  clear hb hrl HS0
  have HS0 := HS0'
  clear HS0'
  refine hK.out _ _ HS0.out (fun hHeld => ?_)
  clear hK K hHeld
  try simp only [Act.put, List.setIfInBounds_toArray, List.set_cons_zero, List.set_cons_succ]
  refine wpAnyH_take (i := 5) (oi := { dst := some 14, op := Go.Op.call { callee := Go.Callee.builtin Go.Builtin.len, args := #[Go.Operand.tmp 13], argTypes := #[28] }, type := 3, pos := "disk.go:296", after := #[{ on := 4, ground := Go.Ground.data }], guard := none }) (v := ?_) rfl (by kernel_rfl) (by kernel_rfl) (by kernel_rfl) (fun _ _ _ h => h) (Or.inl ⟨by rfl, ?_⟩) HS0.out ?_
  case refine_2 => (intro w1 hS1; clear hS1; go_simp; try with_reducible rfl)
  try simp only [Act.put, List.setIfInBounds_toArray, List.set_cons_zero, List.set_cons_succ]
  refine wpAnyH_take (i := 6) (oi := { dst := some 15, op := Go.Op.binOp Go.BinOp.add 3 (Go.Operand.tmp 14) (Go.Operand.const (Go.Value.int Go.IntKind.i64 1)) 3, type := 3, pos := "disk.go:296", after := #[{ on := 5, ground := Go.Ground.data }], guard := none }) (v := .int .i64 ((L : Int) + 1)) rfl (by kernel_rfl) (by kernel_rfl) (by kernel_rfl) (fun _ _ _ h => h) (Or.inl ⟨by rfl, ?_⟩) HS0.out ?_
  case refine_1 => (intro w1 hS1; clear hS1; have hw2 := HRM.out.2.2.1; go_simp; try with_reducible rfl)
  try simp only [Act.put, List.setIfInBounds_toArray, List.set_cons_zero, List.set_cons_succ]
  refine wpAnyH_take (i := 7) (oi := { dst := some 16, op := Go.Op.binOp Go.BinOp.rem 3 (Go.Operand.tmp 11) (Go.Operand.tmp 15) 3, type := 3, pos := "disk.go:296", after := #[{ on := 2, ground := Go.Ground.data }, { on := 6, ground := Go.Ground.data }], guard := none }) (v := .int .i64 (n : Int)) rfl (by kernel_rfl) (by kernel_rfl) (by kernel_rfl) (fun _ _ _ h => h) (Or.inl ⟨by rfl, ?_⟩) HS0.out ?_
  case refine_1 => (intro w1 hS1; clear hS1; have hr0 := HRM.out.1; have hr3 := HRM.out.2.2.2.1; have hr4 := HRM.out.2.2.2.2.1; have hr5 := HRM.out.2.2.2.2.2; go_simp; omega)
  try simp only [Act.put, List.setIfInBounds_toArray, List.set_cons_zero, List.set_cons_succ]
  refine wpAnyH_take (i := 8) (oi := { dst := some 5, op := Go.Op.assign (Go.Operand.tmp 16), type := 3, pos := "disk.go:296", after := #[{ on := 7, ground := Go.Ground.data }, { on := 4, ground := Go.Ground.chain }, { on := 0, ground := Go.Ground.phase }, { on := 1, ground := Go.Ground.phase }, { on := 2, ground := Go.Ground.phase }, { on := 3, ground := Go.Ground.phase }, { on := 4, ground := Go.Ground.phase }, { on := 5, ground := Go.Ground.phase }, { on := 6, ground := Go.Ground.phase }, { on := 7, ground := Go.Ground.phase }], guard := none }) (v := ?_) rfl (by kernel_rfl) (by kernel_rfl) (by kernel_rfl) (fun _ _ _ h => h) (Or.inl ⟨by rfl, ?_⟩) HS0.out ?_
  case refine_2 => (intro w1 hS1; clear hS1; go_simp; try with_reducible rfl)
  try simp only [Act.put, List.setIfInBounds_toArray, List.set_cons_zero, List.set_cons_succ]
  refine wpAnyH_done (by kernel_rfl) ?_ _
  have HB3 := Lib.hid (HB2.out.trans (HS0.out.mono HB2.out.size))
  have HT3 : Hid (w3.heap[N]? = some (.cells #[.slice a all.length c, .int .i64 (kept : Int)] 143 (0, 0)) ∧ w3.heap[N + 1]? = some (.cells #[.int .u16 (kp : Int), .int .u32 (tn : Int)] 138 (0, 0)) ∧ w3.heap[N + 1 + 1]? = some (.cells #[.slice none 0 0, .int .i64 0] 143 (0, 0))) := Lib.hid ⟨ex_below HT2.out.1 HS0.out, ex_below HT2.out.2.1 HS0.out, ex_below HT2.out.2.2 HS0.out⟩
  have HR3 := Lib.hid (HR2.out.kept HS0.out)
  clear HS0 HB2 HT2 HR2
  go_wp2_with fail
  have HS0 : Hid (Below w3.drew.heap.size w3.drew w3.drew) := Lib.hid (Below.refl _ _)
  have HB4 : Hid (Below w.heap.size w w3.drew) := Lib.hid HB3.out.drew
  have HT4 : Hid (w3.drew.heap[N]? = some (.cells #[.slice a all.length c, .int .i64 (kept : Int)] 143 (0, 0)) ∧ w3.drew.heap[N + 1]? = some (.cells #[.int .u16 (kp : Int), .int .u32 (tn : Int)] 138 (0, 0)) ∧ w3.drew.heap[N + 1 + 1]? = some (.cells #[.slice none 0 0, .int .i64 0] 143 (0, 0))) := Lib.hid HT3.out
  have HR4 : Hid (RB w3.drew (.slice a all.length c) all) := Lib.hid (HR3.out.kept ((Below.refl _ w3).drew))
  clear HB3 HT3 HR3
  refine wp_region_held_drew (S := (fun W : World => Below w3.drew.heap.size w3.drew W)) (by kernel_rfl) HS0.out (fun hHeld => ?_)
  clear hHeld
  generalize w3.drew = w4 at HB4 HT4 HR4 HS0 ⊢
  refine wpAnyH_take (i := 0) (oi := { dst := some 17, op := Go.Op.load 143 (Go.Operand.tmp 2), type := 143, pos := "disk.go:297", after := #[], guard := none }) (v := .agg #[.slice a all.length c, .int .i64 (kept : Int)]) rfl (by kernel_rfl) (by kernel_rfl) (by kernel_rfl) (fun _ _ _ h => h) (Or.inl ⟨by rfl, ?_⟩) HS0.out ?_
  case refine_1 => (intro w1 hS1; obtain ⟨z0, z1, -⟩ := two_at (ex_below HT4.out.1 hS1); clear hS1; go_simp; try with_reducible rfl)
  try simp only [Act.put, List.setIfInBounds_toArray, List.set_cons_zero, List.set_cons_succ]
  refine wpAnyH_take (i := 2) (oi := { dst := some 19, op := Go.Op.load 143 (Go.Operand.tmp 2), type := 143, pos := "disk.go:297", after := #[], guard := none }) (v := .agg #[.slice a all.length c, .int .i64 (kept : Int)]) rfl (by kernel_rfl) (by kernel_rfl) (by kernel_rfl) (fun _ _ _ h => h) (Or.inl ⟨by rfl, ?_⟩) HS0.out ?_
  case refine_1 => (intro w1 hS1; obtain ⟨z0, z1, -⟩ := two_at (ex_below HT4.out.1 hS1); clear hS1; go_simp; try with_reducible rfl)
  try simp only [Act.put, List.setIfInBounds_toArray, List.set_cons_zero, List.set_cons_succ]
  refine wpAnyH_take (i := 4) (oi := { dst := some 21, op := Go.Op.move (Go.Operand.tmp 5), type := 3, pos := "disk.go:297", after := #[], guard := none }) (v := ?_) rfl (by kernel_rfl) (by kernel_rfl) (by kernel_rfl) (fun _ _ _ h => h) (Or.inl ⟨by rfl, ?_⟩) HS0.out ?_
  case refine_2 => (intro w1 hS1; clear hS1; go_simp; try with_reducible rfl)
  try simp only [Act.put, List.setIfInBounds_toArray, List.set_cons_zero, List.set_cons_succ]
  refine wpAnyH_ready (rs := [1]) (by kernel_rfl) (by simp) ?_
  refine AllReadyH.cons (o := { dst := some 18, op := Go.Op.call { callee := Go.Callee.value (Go.Operand.func 125), args := #[Go.Operand.tmp 17], argTypes := #[143] }, type := 28, pos := "disk.go:297", after := #[{ on := 0, ground := Go.Ground.data }], guard := none }) rfl (fun K hK => ?_) AllReadyH.nil
  go_simp
  refine (dsafe a c all kept w4 HR4.out HK.out).mono ?_
  rintro e w5 ⟨rfl, hrs, hb⟩
  have HRS := Lib.hid hrs
  have HS0' : Hid (Below w4.heap.size w4 w5) := Lib.hid hb
  clear hb hrs HS0
  have HS0 := HS0'
  clear HS0'
  refine hK.out _ _ HS0.out (fun hHeld => ?_)
  clear hK K hHeld
  try simp only [Act.put, List.setIfInBounds_toArray, List.set_cons_zero, List.set_cons_succ]
  refine wpAnyH_ready (rs := [3]) (by kernel_rfl) (by simp) ?_
  refine AllReadyH.cons (o := { dst := some 20, op := Go.Op.call { callee := Go.Callee.value (Go.Operand.func 92), args := #[Go.Operand.tmp 19], argTypes := #[143] }, type := 28, pos := "disk.go:297", after := #[{ on := 2, ground := Go.Ground.data }, { on := 1, ground := Go.Ground.chain }], guard := none }) rfl (fun K hK => ?_) AllReadyH.nil
  go_simp
  refine (dloose a c all kept w5 (HR4.out.kept HS0.out) HK.out).mono ?_
  rintro e w6 ⟨a2, c2, rfl, hrl, hb⟩
  rw [HL.out] at hrl ⊢
  have HRL := Lib.hid hrl
  have HRS6 := Lib.hid (HRS.out.kept hb)
  have HC2 : Hid (L ≤ c2) := Lib.hid (by
    have e4 : (all.drop kept).length = L := by rw [List.length_drop]; exact HL.out
    rw [← e4] at hrl
    obtain ⟨a3, cap, e3, hcl, -⟩ := hrl.shape
    injection e3 with _ _ e3
    omega)
  have HS0' : Hid (Below w4.heap.size w4 w6) := Lib.hid (HS0.out.trans (hb.mono HS0.out.size))
  clear hb hrl HS0 HRS
  have HS0 := HS0'
  clear HS0'
  refine hK.out _ _ HS0.out (fun hHeld => ?_)
  clear hK K hHeld
  try simp only [Act.put, List.setIfInBounds_toArray, List.set_cons_zero, List.set_cons_succ]
  have hn0 : (0 : Int) ≤ (n : Int) := by omega
  have hn1 : (n : Int) ≤ (c2 : Int) := by have := HC2.out; have := HF.out; omega
  refine wpAnyH_take (i := 5) (oi := { dst := some 22, op := Go.Op.slice 28 (Go.Operand.tmp 20) none (some (Go.Operand.tmp 21)) none, type := 28, pos := "disk.go:297", after := #[{ on := 3, ground := Go.Ground.data }, { on := 4, ground := Go.Ground.data }], guard := none }) (v := .slice a2 n c2) rfl (by kernel_rfl) (by kernel_rfl) (by kernel_rfl) (fun _ _ _ h => h) (Or.inl ⟨by rfl, ?_⟩) HS0.out ?_
  case refine_1 => (intro w1 hS1; clear hS1; have hsl := run_slice_h (P := Try.prog) w1 28 a2 L c2 Try.underlying28 .i64 (n : Int) hn0 hn1; go_simp; try with_reducible rfl)
  try simp only [Act.put, List.setIfInBounds_toArray, List.set_cons_zero, List.set_cons_succ]
  have HRN : Hid (RB w6 (.slice a2 n c2) ((all.drop kept).take n)) := Lib.hid (by
    have e4 : (all.drop kept).length = L := by rw [List.length_drop]; exact HL.out
    have hrl := HRL.out
    rw [← e4] at hrl
    rcases hrl.head (k := n) (by rw [e4]; exact HF.out.1) c2 (by omega) (Nat.le_refl _) with h2 | ⟨h2, h3⟩
    · exact h2
    · have h4 := hrl.nilc h3
      rw [h2, h3, h4.2, List.take_zero]
      exact RB.nil _)
  clear hn0 hn1 HRL
  obtain ⟨B7, s7, -⟩ := box1 w6 #[.slice a kept kept, .slice a2 n c2] 28
  have HS7 : Hid (Below w4.heap.size w4 (w6.alloc (.cells #[.slice a kept kept, .slice a2 n c2] 28))) := Lib.hid (HS0.out.trans (B7.mono HS0.out.size))
  have HA7 := Lib.hid (And.intro (HRS6.out.kept B7) (HRN.out.kept B7))
  have HC7 := Lib.hid (And.intro (two_at s7).1 (two_at s7).2.1)
  clear B7 s7
  refine wpAnyH_ready (rs := [6]) (by kernel_rfl) (by simp) ?_
  refine AllReadyH.cons (o := { dst := some 23, op := Go.Op.buildSlice 197 2 #[(0, Go.Operand.tmp 18), (1, Go.Operand.tmp 22)], type := 197, pos := "disk.go:297", after := #[{ on := 1, ground := Go.Ground.data }, { on := 5, ground := Go.Ground.data }], guard := none }) rfl (fun K hK => ?_) AllReadyH.nil
  go_simp
  refine hK.out _ _ HS7.out (fun hHeld => ?_)
  clear hK K hHeld HS0 HRS6 HRN
  try simp only [Act.put, List.setIfInBounds_toArray, List.set_cons_zero, List.set_cons_succ]
  obtain ⟨G, hG⟩ : ∃ G, w6.heap.size = G := ⟨_, rfl⟩
  rw [hG] at HC7
  try rw [hG]
  clear hG
  generalize w6.alloc (.cells #[.slice a kept kept, .slice a2 n c2] 28) = w7 at HS7 HA7 HC7 ⊢
  have HLN : Hid ((all.take kept).length = kept ∧ ((all.drop kept).take n).length = n) := Lib.hid ⟨by rw [List.length_take]; have := HK.out; omega, by rw [List.length_take, List.length_drop, HL.out]; have := HF.out.1; omega⟩
  refine wpAnyH_ready (rs := [7]) (by kernel_rfl) (by simp) ?_
  refine AllReadyH.cons (o := { dst := some 24, op := Go.Op.call { callee := Go.Callee.value (Go.Operand.func 124), args := #[Go.Operand.tmp 23], argTypes := #[197] }, type := 28, pos := "disk.go:297", after := #[{ on := 6, ground := Go.Ground.data }, { on := 3, ground := Go.Ground.chain }], guard := none }) rfl (fun K hK => ?_) AllReadyH.nil
  go_simp
  refine (bconcat2 G 2 a a2 kept c2 (all.take kept) ((all.drop kept).take n) w7 (by rw [HLN.out.1]; exact HC7.out.1) (by rw [HLN.out.2]; exact HC7.out.2) (by rw [HLN.out.1]; exact HA7.out.1) (by rw [HLN.out.2]; exact HA7.out.2) (by rw [HLN.out.1, HLN.out.2]; have := HK.out; have := HF.out; have := HLB.out; omega)).mono ?_
  rintro e w8 ⟨v, rfl, ho, hb⟩
  obtain ⟨av, cv, rfl⟩ := ho.shp
  obtain ⟨ln, hln⟩ : ∃ ln, (all.take kept ++ (all.drop kept).take n).length = ln := ⟨_, rfl⟩
  rw [hln] at ho ⊢
  have HLL := Lib.hid hln
  clear hln
  have HO8 : Hid (OB w8 w.heap.size (.slice av ln cv) (all.take kept ++ (all.drop kept).take n)) := Lib.hid (ho.mono (by have h1 := HS7.out.size; have h2 := HB4.out.size; omega))
  have HGB : Hid (∀ g, (Value.slice av ln cv).ownBlock = some g → g ≠ N + 1 + 1) := Lib.hid (fun g hg => by have h1 := (ho.lt hg).1; have h2 := HS7.out.size; have h3 := ex_lt HT4.out.2.2; omega)
  have HS0 : Hid (Below w4.heap.size w4 w8) := Lib.hid (HS7.out.trans (hb.mono HS7.out.size))
  clear hb ho HS7 HA7 HC7
  refine hK.out _ _ HS0.out (fun hHeld => ?_)
  clear hK K hHeld
  try simp only [Act.put, List.setIfInBounds_toArray, List.set_cons_zero, List.set_cons_succ]
  refine wpAnyH_take (i := 8) (oi := { dst := some 6, op := Go.Op.assign (Go.Operand.tmp 24), type := 28, pos := "disk.go:297", after := #[{ on := 7, ground := Go.Ground.data }, { on := 7, ground := Go.Ground.chain }, { on := 0, ground := Go.Ground.phase }, { on := 1, ground := Go.Ground.phase }, { on := 2, ground := Go.Ground.phase }, { on := 3, ground := Go.Ground.phase }, { on := 4, ground := Go.Ground.phase }, { on := 5, ground := Go.Ground.phase }, { on := 6, ground := Go.Ground.phase }, { on := 7, ground := Go.Ground.phase }], guard := none }) (v := ?_) rfl (by kernel_rfl) (by kernel_rfl) (by kernel_rfl) (fun _ _ _ h => h) (Or.inl ⟨by rfl, ?_⟩) HS0.out ?_
  case refine_2 => (intro w1 hS1; clear hS1; go_simp; try with_reducible rfl)
  try simp only [Act.put, List.setIfInBounds_toArray, List.set_cons_zero, List.set_cons_succ]
  refine wpAnyH_done (by kernel_rfl) ?_ _
  have HB8 := Lib.hid (HB4.out.trans (HS0.out.mono HB4.out.size))
  have HT8 : Hid (w8.heap[N]? = some (.cells #[.slice a all.length c, .int .i64 (kept : Int)] 143 (0, 0)) ∧ w8.heap[N + 1]? = some (.cells #[.int .u16 (kp : Int), .int .u32 (tn : Int)] 138 (0, 0)) ∧ w8.heap[N + 1 + 1]? = some (.cells #[.slice none 0 0, .int .i64 0] 143 (0, 0))) := Lib.hid ⟨ex_below HT4.out.1 HS0.out, ex_below HT4.out.2.1 HS0.out, ex_below HT4.out.2.2 HS0.out⟩
  clear HS0 HB4 HT4 HR4
  have hnn : n < 3 := by rw [← HN.out]; exact hf3
  have d1 : decide ((n : Int) ≥ 3) = false := decide_eq_false (by omega)
  have d2 : decide (3 ≤ (n : Int)) = false := decide_eq_false (by omega)
  have d3 : decide (3 ≤ n) = false := decide_eq_false (by omega)
  have HTB : Hid (tearB (all.drop kept) kp tn = (all.drop kept).take n) := Lib.hid (by unfold tearB; rw [if_pos hf3, HN.out])
  obtain ⟨z0, z1, fr⟩ := two_at HT8.out.2.2
  have f0 := fr 0
  have f1 := fr 1
  have HX9 := Lib.hid (two_set (two_set HT8.out.2.2 (.slice av ln cv)).1 (.int .i64 (ln : Int))).2
  clear hnn fr hf3
  go_wp2_with fail
  refine bodyPost_ret (tr_res rfl _ _ (N + 1 + 1) _ _ rfl (two_at HX9.out).1 (two_at HX9.out).2.1) rfl ?_
  have hN := HNN.out
  refine ⟨_, by rw [HTB.out, HLL.out], ?_, below_two (below_two HB8.out (by omega) _ _) (by omega) _ _⟩
  rw [HTB.out]
  exact HO8.out.blk (fun g hg => (Below.heap_setCell _ _ _ _ (by exact HGB.out g hg)).trans (Below.heap_setCell _ _ _ _ (by exact HGB.out g hg)))
/- The disk: the next tear. -/
open Go.RowKit Go.Maps
def tr1 (t : Nat × Nat) : Value := .agg #[.int .u16 (t.1 : Int), .int .u32 (t.2 : Int)]
/-- A row of tears that can be read, in blocks that P does not hold. -/
def TRow (P : Nat → Prop) (w : World) (a : Option Addr) (ts : List (Nat × Nat)) : Prop := ∀ i (hi : i < ts.length), ∃ b o, a = some ⟨b, o, none⟩ ∧ b < w.heap.size ∧ ¬ P b ∧ w.cell? ⟨b, o + i * 2, none⟩ = some (.int .u16 (ts[i].1 : Int)) ∧ w.cell? ⟨b, o + i * 2 + 1, none⟩ = some (.int .u32 (ts[i].2 : Int))
theorem TRow.only {P : Nat → Prop} {w w' : World} {a : Option Addr} {ts : List (Nat × Nat)} (h : TRow P w a ts) (ho : Only P w w') : TRow P w' a ts := fun i hi => by
  obtain ⟨b, o, e, h1, h2, h3, h4⟩ := h i hi
  exact ⟨b, o, e, Nat.lt_of_lt_of_le h1 ho.size, h2, (World.cell?_of_block (a := ⟨b, _, none⟩) (ho.block b h1 h2)).trans h3, (World.cell?_of_block (a := ⟨b, _, none⟩) (ho.block b h1 h2)).trans h4⟩
theorem TRow.tail {P : Nat → Prop} {w : World} {a : Option Addr} {t : Nat × Nat} {ts : List (Nat × Nat)} (h : TRow P w a (t :: ts)) : TRow P w (a.map (·.add 2)) ts := fun i hi => by
  obtain ⟨b, o, e, h1, h2, h3, h4⟩ := h (i + 1) (by simp; omega)
  refine ⟨b, o + 2, by rw [e]; simp [add_at], h1, h2, ?_, ?_⟩
  · rw [show o + 2 + i * 2 = o + (i + 1) * 2 by omega]
    simpa using h3
  · rw [show o + 2 + i * 2 + 1 = o + (i + 1) * 2 + 1 by omega]
    simpa using h4
theorem tt_info : (Try.prog.info? 138).map (·.size) = some 2 := by kernel_rfl
theorem tt_und : Try.prog.underlying 138 = some (.struct (Try.prog.fieldsOf 138)) := by kernel_rfl
theorem tt_res {fn : Func} {p : Nat} (h : fn.results = #[.cell p 138]) (tmps : Array Value) (w : World) (N : Nat) (x y : Value) (hp : tmps.getD p undef = .pointer (some ⟨N, 0, none⟩)) (h0 : w.cell? ⟨N, 0, none⟩ = some x) (h1 : w.cell? ⟨N, 1, none⟩ = some y) : (results fn tmps).run Try.prog w = .ok (.agg #[x, y]) w := by
  have hR : w.rangeAt N 0 [x, y] := fun j u hj => by
    rcases j with _ | _ | j
    · injection hj with hj
      subst hj
      exact h0
    · injection hj with hj
      subst hj
      exact h1
    · cases hj
  have hl := run_loadVar_mid w N 0 _ [x, y] _ hR tt_und rfl tt_info
  have hp' : tmps[p]?.getD undef = .pointer (some ⟨N, 0, none⟩) := by simpa using hp
  simp [results, h, hp', asAddr, hl]
theorem one_at' {w : World} {T : Nat} {v : Value} {t : TypeId} (h : w.heap[T]? = some (.cells #[v] t (0, 0))) : w.cell? ⟨T, 0, none⟩ = some v ∧ ∀ o, w.frozen? ⟨T, o, none⟩ = false := ⟨by simp [World.cell?, h], fun o => by simp [World.frozen?, h]⟩
set_option maxRecDepth 100000 in
theorem next_none (T : Nat) (a : Option Addr) (c : Nat) (w : World) (h : w.heap[T]? = some (.cells #[.slice a 0 c] 55 (0, 0))) : Calls Try.prog 90 #[.pointer (some ⟨T, 0, none⟩)] w fun e w' => e = .returned (tr1 (0, 0)) ∧ Below w.heap.size w w' := by
  obtain ⟨B1, s1, -⟩ := box1 w #[.int .u16 0, .int .u32 0] 138
  have x0 := (one_at' (ex_below h B1)).1
  have HB := Lib.hid B1
  have HS := Lib.hid s1
  clear h B1 s1
  go_enter Try.func90, Try.ntmps90
  go_wp2_with fail
  refine bodyPost_ret (tt_res rfl _ _ w.heap.size _ _ rfl (two_at HS.out).1 (two_at HS.out).2.1) rfl ?_
  exact ⟨rfl, HB.out⟩
set_option maxRecDepth 100000 in
theorem next_some (P : Nat → Prop) (T : Nat) (a : Option Addr) (c : Nat) (t : Nat × Nat) (q : List (Nat × Nat)) (w : World) (h : w.heap[T]? = some (.cells #[.slice a (q.length + 1) c] 55 (0, 0))) (hr : TRow P w a (t :: q)) (hc : q.length + 1 ≤ c) : Calls Try.prog 90 #[.pointer (some ⟨T, 0, none⟩)] w fun e w' => e = .returned (tr1 t) ∧ ∃ a2, w'.heap[T]? = some (.cells #[.slice a2 q.length (c - 1)] 55 (0, 0)) ∧ (∀ W, TRow P W a (t :: q) → TRow P W a2 q) ∧ Only (· = T) w w' := by
  obtain ⟨b, o, rfl, hb, -, hc0, hc1⟩ := hr 0 (by simp)
  simp only [Nat.zero_mul, Nat.add_zero, List.getElem_cons_zero] at hc0 hc1
  obtain ⟨B1, s1, -⟩ := box1 w #[.int .u16 0, .int .u32 0] 138
  have HT1 := Lib.hid (ex_below h B1)
  have HB1 := Lib.hid B1
  have HS1 := Lib.hid s1
  have HTL : Hid (T < w.heap.size ∧ b < w.heap.size) := Lib.hid ⟨ex_lt h, hb⟩
  have HCC := Lib.hid hc
  have hk0 := (B1.cell (p := ⟨b, o, none⟩) hb).trans hc0
  have hk1 := (B1.cell (p := ⟨b, o + 1, none⟩) hb).trans hc1
  have HKK := Lib.hid (And.intro hk0 hk1)
  have HA : Hid (∀ W, TRow P W (some ⟨b, o, none⟩) (t :: q) → TRow P W (if c = 1 then some ⟨b, o, none⟩ else some ⟨b, o + 2, none⟩) q) := Lib.hid (fun W h => by
    by_cases h1 : c = 1
    · have hq : q = [] := List.length_eq_zero_iff.1 (by omega)
      subst hq
      exact fun i hi => absurd hi (by simp)
    · rw [if_neg h1]
      have := h.tail
      simpa [add_at] using this)
  have t0 := (one_at' HT1.out).1
  have l1 : (0 : Int) < (q.length : Int) + 1 := by omega
  have e0 : decide ((q.length : Int) + 1 = 0) = false := decide_eq_false (by omega)
  have e1 : ((q.length : Int) + 1 == 0) = false := by simp; omega
  clear h hr hb hc0 hc1 B1 s1 hk0 hk1 hc
  go_enter Try.func90, Try.ntmps90
  go_upto_region 3 with fail
  obtain ⟨N, hN⟩ : ∃ N, w.heap.size = N := ⟨_, rfl⟩
  have HNN := Lib.hid hN
  rw [hN] at HS1 HTL
  try rw [hN]
  clear hN
  generalize w.alloc (.cells #[.int .u16 0, .int .u32 0] 138) = w1 at HT1 HB1 HS1 HKK t0 ⊢
  obtain ⟨k0, k1⟩ := HKK.out
  clear HKK
  obtain ⟨B2, s2, -⟩ := box1 w1 #[.int .u16 (t.1 : Int), .int .u32 (t.2 : Int)] 138
  have HT2 := Lib.hid (ex_below HT1.out B2)
  have HS2 := Lib.hid s2
  have HZ2 := Lib.hid (ex_below HS1.out B2)
  have HB2 := Lib.hid (HB1.out.trans (B2.mono HB1.out.size))
  have HNL := Lib.hid (ex_lt HS1.out)
  have HTL1 := Lib.hid (ex_lt HT1.out)
  clear B2 s2
  go_upto_region 4 with fail
  obtain ⟨N2, hN2⟩ : ∃ N2, w1.heap.size = N2 := ⟨_, rfl⟩
  rw [hN2] at HS2 HNL HTL1
  try rw [hN2]
  clear hN2 k0 k1 t0
  generalize w1.alloc (.cells #[.int .u16 (t.1 : Int), .int .u32 (t.2 : Int)] 138) = w2 at HT2 HS2 HZ2 HB2 ⊢
  obtain ⟨t0, tf⟩ := one_at' HT2.out
  have tf0 := tf 0
  have h10 : (0 : Int) ≤ 1 := by decide
  have h11 : (1 : Int) ≤ ((q.length + 1 : Nat) : Int) := by omega
  have hsl := fun w => run_slice_l (P := Try.prog) w 55 (some ⟨b, o, none⟩) (q.length + 1) c Try.underlying55 .i64 1 h10 h11
  clear tf
  obtain ⟨a2, ha2⟩ : ∃ a2, (if c = 1 then some ⟨b, o, none⟩ else some (⟨b, o + 2, none⟩ : Addr)) = a2 := ⟨_, rfl⟩
  have HA2 : Hid (∀ W, TRow P W (some ⟨b, o, none⟩) (t :: q) → TRow P W a2 q) := Lib.hid (by rw [← ha2]; exact HA.out)
  have hTN : Hid (T ≠ N ∧ T ≠ N2 ∧ N ≠ N2) := Lib.hid (by have h1 := HTL.out; have h2 := HNL.out; have h3 := HTL1.out; omega)
  have HT3 : Hid ((w2.setCell ⟨T, 0, none⟩ (.slice a2 q.length (c - 1))).heap[T]? = some (.cells #[.slice a2 q.length (c - 1)] 55 (0, 0))) := Lib.hid (by rw [heap_setCell_same w2 T 0 _ _ _ HT2.out]; simp)
  have HS3 : Hid ((w2.setCell ⟨T, 0, none⟩ (.slice a2 q.length (c - 1))).heap[N2]? = some (.cells #[.int .u16 (t.1 : Int), .int .u32 (t.2 : Int)] 138 (0, 0))) := Lib.hid ((Below.heap_setCell _ _ _ _ (by exact Ne.symm hTN.out.2.1)).trans HS2.out)
  have HZ3 : Hid ((w2.setCell ⟨T, 0, none⟩ (.slice a2 q.length (c - 1))).heap[N]? = some (.cells #[.int .u16 0, .int .u32 0] 138 (0, 0))) := Lib.hid ((Below.heap_setCell _ _ _ _ (by exact Ne.symm hTN.out.1)).trans HZ2.out)
  have HO3 : Hid (Only (· = T) w (w2.setCell ⟨T, 0, none⟩ (.slice a2 q.length (c - 1)))) := Lib.hid ((Only.below HB2.out).setCell _ _ rfl)
  go_upto_region 5 with fail
  try rw [ha2]
  clear ha2 t0 tf0 hsl h10 h11 l1 e0 e1
  generalize w2.setCell ⟨T, 0, none⟩ (.slice a2 q.length (c - 1)) = w3 at HT3 HS3 HZ3 HO3 ⊢
  obtain ⟨y0, y1, -⟩ := two_at HS3.out
  obtain ⟨z0, z1, fr⟩ := two_at HZ3.out
  have f0 := fr 0
  have f1 := fr 1
  have HX4 := Lib.hid (two_set (two_set HZ3.out (.int .u16 (t.1 : Int))).1 (.int .u32 (t.2 : Int))).2
  have HT4 : Hid (((w3.setCell ⟨N, 0, none⟩ (.int .u16 (t.1 : Int))).setCell ⟨N, 1, none⟩ (.int .u32 (t.2 : Int))).heap[T]? = some (.cells #[.slice a2 q.length (c - 1)] 55 (0, 0))) := Lib.hid (((Below.heap_setCell _ _ _ _ (by exact hTN.out.1)).trans (Below.heap_setCell _ _ _ _ (by exact hTN.out.1))).trans HT3.out)
  have HO4 := Lib.hid (only_new (only_new HO3.out (N := N) (by have := HNN.out; omega) 0 (.int .u16 (t.1 : Int))) (N := N) (by have := HNN.out; omega) 1 (.int .u32 (t.2 : Int)))
  clear fr
  go_wp2_with fail
  refine bodyPost_ret (tt_res rfl _ _ N _ _ rfl (two_at HX4.out).1 (two_at HX4.out).2.1) rfl ?_
  exact ⟨rfl, a2, HT4.out, HA2.out, HO4.out⟩
/- The disk: what a crash makes of its files; the next tear, whatever is left. -/
open Go.RowKit Go.Maps
def nextT : List (Nat × Nat) → (Nat × Nat) × List (Nat × Nat)
  | [] => ((0, 0), [])
  | t :: q => (t, q)
def tornF (f : Fl) (t : Nat × Nat) : Fl := ⟨f.all.take f.kept ++ tearB (f.all.drop f.kept) t.1 t.2, (f.all.take f.kept ++ tearB (f.all.drop f.kept) t.1 t.2).length⟩
def oneF (n : Nm) (f : Fl) : Ft := if f.all = [] then [] else [(n, f)]
def crashF : Ft → List (Nat × Nat) → Ft
  | [], _ => []
  | (n, f) :: r, ts => if f.kept < f.all.length then oneF n (tornF f (nextT ts).1) ++ crashF r (nextT ts).2 else oneF n f ++ crashF r ts
def crashD (D : Dd) (ts : List (Nat × Nat)) : Dd := ⟨D.room, crashF D.fs ts, D.st, true, D.armed, D.after⟩
theorem srt_mid {pre : Ft} {n : Nm} {f : Fl} {r : Ft} (h : SrtF (pre ++ (n, f) :: r)) : (∀ p ∈ pre, p.1 < n) ∧ ∀ p ∈ r, n < p.1 := by
  have h' := List.pairwise_append.1 h
  refine ⟨fun p hp => h'.2.2 p hp (n, f) List.mem_cons_self, fun p hp => (List.pairwise_cons.1 h'.2.1).1 p hp⟩
theorem putF_mid : ∀ {pre : Ft} {n : Nm} {f f2 : Fl} {r : Ft}, SrtF (pre ++ (n, f) :: r) → putF (pre ++ (n, f) :: r) n f2 = pre ++ (n, f2) :: r
  | [], n, f, f2, r, _ => by simp [putF]
  | (m, g) :: q, n, f, f2, r, h => by
    have h1 := (srt_mid (pre := (m, g) :: q) h).1 (m, g) List.mem_cons_self
    simp only at h1
    rw [List.cons_append]
    unfold putF
    rw [if_neg (fun e => nm_irrefl _ (by rw [e] at h1; exact h1)), if_neg (fun e => nm_irrefl _ (nm_trans h1 e)), putF_mid (List.pairwise_cons.1 h).2]
    rfl
theorem delF_mid : ∀ {pre : Ft} {n : Nm} {f : Fl} {r : Ft}, SrtF (pre ++ (n, f) :: r) → delF (pre ++ (n, f) :: r) n = pre ++ r
  | [], n, f, r, h => by
    have h2 := (srt_mid (pre := []) h).2
    show delF ((n, f) :: r) n = r
    unfold delF
    rw [if_pos rfl]
    exact delF_none (getF_none_of (fun p hp e => nm_irrefl _ (by have := h2 p hp; rw [e] at this; exact this)))
  | (m, g) :: q, n, f, r, h => by
    have h1 := (srt_mid (pre := (m, g) :: q) h).1 (m, g) List.mem_cons_self
    simp only at h1
    rw [List.cons_append]
    unfold delF
    rw [if_neg (fun e => nm_irrefl _ (by rw [e] at h1; exact h1)), delF_mid (List.pairwise_cons.1 h).2]
    rfl
theorem getF_mid {pre : Ft} {n : Nm} {f : Fl} {r : Ft} (h : SrtF (pre ++ (n, f) :: r)) : getF (pre ++ (n, f) :: r) n = some f := getF_of_mem h (List.mem_append_right _ List.mem_cons_self)
theorem tear_few {l : List Nat} {kp tn : Nat} (h : tearN l kp < 3) : tearB l kp tn = l.take (tearN l kp) := by unfold tearB; rw [if_pos h]
theorem tearN_le (l : List Nat) (kp : Nat) : tearN l kp ≤ l.length := by unfold tearN; have := Nat.mod_lt kp (show 0 < l.length + 1 by omega); omega
theorem next_any (P : Nat → Prop) (T : Nat) (a : Option Addr) (c : Nat) (ts : List (Nat × Nat)) (w : World) (h : w.heap[T]? = some (.cells #[.slice a ts.length c] 55 (0, 0))) (hr : TRow P w a ts) (hc : ts.length ≤ c) : Calls Try.prog 90 #[.pointer (some ⟨T, 0, none⟩)] w fun e w' => e = .returned (.agg #[.int .u16 ((nextT ts).1.1 : Int), .int .u32 ((nextT ts).1.2 : Int)]) ∧ ∃ a2 c2, w'.heap[T]? = some (.cells #[.slice a2 (nextT ts).2.length c2] 55 (0, 0)) ∧ (nextT ts).2.length ≤ c2 ∧ (∀ W, TRow P W a ts → TRow P W a2 (nextT ts).2) ∧ Only (· = T) w w' := by
  cases ts with
  | nil =>
    refine (next_none T a c w h).mono ?_
    rintro e w' ⟨rfl, hb⟩
    exact ⟨rfl, a, c, ex_below h hb, hc, fun _ h => h, Only.below hb⟩
  | cons t q =>
    refine (next_some P T a c t q w h hr hc).mono ?_
    rintro e w' ⟨rfl, a2, h1, h2, h3⟩
    exact ⟨rfl, a2, c - 1, h1, by simp at hc; show q.length ≤ _; omega, h2, h3⟩
end Go.Proofs.Ythefnakbpalecaa
