import Derived.Test.YtibjboacjobaoaaNcS
import Derived.Test.YtibjboacjobaoaaRows
import Derived.Test.YtibjboacjobaoaaMgAA
import Derived.Laws.AppendOwnNone
import Derived.Laws.MathBits
import Derived.Lib.Tables
namespace Go.Proofs.Ytibjboacjobaoaa
open Go.RowKit
/- Commands compared, both ways. -/
open Go.RowKit
def cmdV (kd cl rq id cn tm off : Int) (a : Option Addr) (n ca : Nat) (b : Option Addr) (m cb : Nat) (tc : Int) (d : Option Addr) (l cd : Nat) (tr tb : Int) : Value := .agg #[.int .i64 kd, .int .u64 cl, .int .u64 rq, .int .u64 id, .int .i64 cn, .int .i64 tm, .int .i64 off, .slice a n ca, .slice b m cb, .int .i64 tc, .slice d l cd, .int .i64 tr, .int .i64 tb]
def cmdEq (kd kd' cl cl' rq rq' id id' cn cn' tm tm' off off' : Int) (F T F' T' : Nat → Int) (n n' : Nat) (G U G' U' : Nat → Int) (m m' : Nat) (tc tc' : Int) (B P B' P' : Nat → Int) (l l' : Nat) (tr tr' tb tb' : Int) : Bool := decide (kd = kd') && (decide (cl = cl') && (decide (rq = rq') && (decide (id = id') && (decide (cn = cn') && (decide (tm = tm') && (calEq off off' F T F' T' n n' G U G' U' m m' && conEq tc tc' B P B' P' l l' tr tr' tb tb'))))))
theorem cmdEq_refl (kd cl rq id cn tm off : Int) (F T : Nat → Int) (n : Nat) (G U : Nat → Int) (m : Nat) (tc : Int) (B P : Nat → Int) (l : Nat) (tr tb : Int) : cmdEq kd kd cl cl rq rq id id cn cn tm tm off off F T F T n n G U G U m m tc tc B P B P l l tr tr tb tb = true := by
  unfold cmdEq
  rw [calEq_refl, conEq_refl]
  simp
theorem cmd_at {w : World} {N : Nat} {x0 x1 x2 x3 x4 x5 x6 x7 x8 x9 x10 x11 x12 : Value} {t : TypeId} (h : w.heap[N]? = some (.cells #[x0, x1, x2, x3, x4, x5, x6, x7, x8, x9, x10, x11, x12] t (0, 0))) : w.cell? ⟨N, 0, none⟩ = some x0 ∧ w.cell? ⟨N, 1, none⟩ = some x1 ∧ w.cell? ⟨N, 2, none⟩ = some x2 ∧ w.cell? ⟨N, 3, none⟩ = some x3 ∧ w.cell? ⟨N, 4, none⟩ = some x4 ∧ w.cell? ⟨N, 5, none⟩ = some x5 ∧ w.cell? ⟨N, 6, none⟩ = some x6 ∧ w.cell? ⟨N, 7, none⟩ = some x7 ∧ w.cell? ⟨N, 8, none⟩ = some x8 ∧ w.cell? ⟨N, 9, none⟩ = some x9 ∧ w.cell? ⟨N, 10, none⟩ = some x10 ∧ w.cell? ⟨N, 11, none⟩ = some x11 ∧ w.cell? ⟨N, 12, none⟩ = some x12 := by
  simp [World.cell?, h]
set_option maxRecDepth 100000 in
set_option maxHeartbeats 16000000 in
theorem cmd_same (kd cl rq id cn tm off : Int) (a : Option Addr) (n ca : Nat) (b : Option Addr) (m cb : Nat) (tc : Int) (d : Option Addr) (l cd : Nat) (tr tb : Int) (F T G U B P : Nat → Int) (kd' cl' rq' id' cn' tm' off' : Int) (a' : Option Addr) (n' ca' : Nat) (b' : Option Addr) (m' cb' : Nat) (tc' : Int) (d' : Option Addr) (l' cd' : Nat) (tr' tb' : Int) (F' T' G' U' B' P' : Nat → Int) (w : World) (hS : Sps w a n F T) (hR : Sps w b m G U) (hD : Sps w d l B P) (hS' : Sps w a' n' F' T') (hR' : Sps w b' m' G' U') (hD' : Sps w d' l' B' P') :
    Calls Try.prog 16 #[cmdV kd cl rq id cn tm off a n ca b m cb tc d l cd tr tb, cmdV kd' cl' rq' id' cn' tm' off' a' n' ca' b' m' cb' tc' d' l' cd' tr' tb'] w fun e w' => e = .returned (.bool (cmdEq kd kd' cl cl' rq rq' id id' cn cn' tm tm' off off' F T F' T' n n' G U G' U' m m' tc tc' B P B' P' l l' tr tr' tb tb')) ∧ Below w.heap.size w w' := by
  have HA := Lib.hid (fun W (hb : Below w.heap.size w W) => And.intro (csame_any off off' a n ca b m cb F T G U a' n' ca' b' m' cb' F' T' G' U' W (hS.kept hb) (hR.kept hb) (hS'.kept hb) (hR'.kept hb)) (con_same tc tc' d l cd tr tb B P d' l' cd' tr' tb' B' P' W (hD.kept hb) (hD'.kept hb)))
  have HX : Hid (cmdEq kd kd' cl cl' rq rq' id id' cn cn' tm tm' off off' F T F' T' n n' G U G' U' m m' tc tc' B P B' P' l l' tr tr' tb tb' = (decide (kd = kd') && (decide (cl = cl') && (decide (rq = rq') && (decide (id = id') && (decide (cn = cn') && (decide (tm = tm') && (calEq off off' F T F' T' n n' G U G' U' m m' && conEq tc tc' B P B' P' l l' tr tr' tb tb')))))))) := Lib.hid rfl
  obtain ⟨ok, hok⟩ : ∃ x, cmdEq kd kd' cl cl' rq rq' id id' cn cn' tm tm' off off' F T F' T' n n' G U G' U' m m' tc tc' B P B' P' l l' tr tr' tb tb' = x := ⟨_, rfl⟩
  obtain ⟨e1, he1⟩ : ∃ x, calEq off off' F T F' T' n n' G U G' U' m m' = x := ⟨_, rfl⟩
  obtain ⟨e2, he2⟩ : ∃ x, conEq tc tc' B P B' P' l l' tr tr' tb tb' = x := ⟨_, rfl⟩
  rw [hok, he1, he2] at HX
  rw [he1, he2] at HA
  rw [hok]
  unfold calV conV at HA
  obtain ⟨B2, s0, s1, sz⟩ := box2 w #[.int .i64 kd, .int .u64 cl, .int .u64 rq, .int .u64 id, .int .i64 cn, .int .i64 tm, .int .i64 off, .slice a n ca, .slice b m cb, .int .i64 tc, .slice d l cd, .int .i64 tr, .int .i64 tb] #[.int .i64 kd', .int .u64 cl', .int .u64 rq', .int .u64 id', .int .i64 cn', .int .i64 tm', .int .i64 off', .slice a' n' ca', .slice b' m' cb', .int .i64 tc', .slice d' l' cd', .int .i64 tr', .int .i64 tb'] 30 30
  have HT := Lib.hid (And.intro s0 s1)
  obtain ⟨q0, q1, q2, q3, q4, q5, q6, q7, q8, q9, q10, q11, q12⟩ := cmd_at s0
  obtain ⟨r0, r1, r2, r3, r4, r5, r6, r7, r8, r9, r10, r11, r12⟩ := cmd_at s1
  have HB := Lib.hid B2
  clear hS hR hD hS' hR' hD' hok he1 he2 s0 s1 sz B2
  unfold cmdV
  by_cases h0 : kd = kd'
  rotate_left
  · have hd0 : decide (kd = kd') = false := decide_eq_false h0
    go_enter Try.func16, Try.ntmps16
    go_wp2_with fail
    go_ret
    exact ⟨by rw [HX.out]; simp [h0], HB.out⟩
  by_cases h1 : cl = cl'
  rotate_left
  · have hd1 : decide (cl = cl') = false := decide_eq_false h1
    subst h0
    go_enter Try.func16, Try.ntmps16
    go_wp2_with fail
    go_ret
    exact ⟨by rw [HX.out]; simp [h1], HB.out⟩
  by_cases h2 : rq = rq'
  rotate_left
  · have hd2 : decide (rq = rq') = false := decide_eq_false h2
    subst h0 h1
    go_enter Try.func16, Try.ntmps16
    go_wp2_with fail
    go_ret
    exact ⟨by rw [HX.out]; simp [h2], HB.out⟩
  by_cases h3 : id = id'
  rotate_left
  · have hd3 : decide (id = id') = false := decide_eq_false h3
    subst h0 h1 h2
    go_enter Try.func16, Try.ntmps16
    go_wp2_with fail
    go_ret
    exact ⟨by rw [HX.out]; simp [h3], HB.out⟩
  by_cases h4 : cn = cn'
  rotate_left
  · have hd4 : decide (cn = cn') = false := decide_eq_false h4
    subst h0 h1 h2 h3
    go_enter Try.func16, Try.ntmps16
    go_wp2_with fail
    go_ret
    exact ⟨by rw [HX.out]; simp [h4], HB.out⟩
  by_cases h5 : tm = tm'
  rotate_left
  · have hd5 : decide (tm = tm') = false := decide_eq_false h5
    subst h0 h1 h2 h3 h4
    go_enter Try.func16, Try.ntmps16
    go_wp2_with fail
    go_ret
    exact ⟨by rw [HX.out]; simp [h5], HB.out⟩
  subst h0 h1 h2 h3 h4 h5
  have hs1 := (HA.out _ HB.out).1
  go_enter Try.func16, Try.ntmps16
  go_wp2_with fail
  generalize ((w.alloc (.cells #[.int .i64 kd, .int .u64 cl, .int .u64 rq, .int .u64 id, .int .i64 cn, .int .i64 tm, .int .i64 off, .slice a n ca, .slice b m cb, .int .i64 tc, .slice d l cd, .int .i64 tr, .int .i64 tb] 30)).alloc (.cells #[.int .i64 kd, .int .u64 cl, .int .u64 rq, .int .u64 id, .int .i64 cn, .int .i64 tm, .int .i64 off', .slice a' n' ca', .slice b' m' cb', .int .i64 tc', .slice d' l' cd', .int .i64 tr', .int .i64 tb'] 30)) = W at hs1 q0 q1 q2 q3 q4 q5 q6 q7 q8 q9 q10 q11 q12 r0 r1 r2 r3 r4 r5 r6 r7 r8 r9 r10 r11 r12 HB HT ⊢
  refine hs1.mono ?_
  rintro e w3 ⟨rfl, hb3⟩
  have HB3 := Lib.hid (HB.out.trans (hb3.mono HB.out.size))
  have HT3 := Lib.hid (And.intro (ex_below HT.out.1 hb3) (ex_below HT.out.2 hb3))
  clear hs1 hb3 q0 q1 q2 q3 q4 q5 q6 q7 q8 q9 q10 q11 q12 r0 r1 r2 r3 r4 r5 r6 r7 r8 r9 r10 r11 r12 HB HT
  have hs2 := (HA.out _ HB3.out).2
  cases e1
  · go_wp2_with fail
    go_ret
    exact ⟨by rw [HX.out]; simp, HB3.out⟩
  · obtain ⟨-, -, -, -, -, -, -, -, -, q9, q10, q11, q12⟩ := cmd_at HT3.out.1
    obtain ⟨-, -, -, -, -, -, -, -, -, r9, r10, r11, r12⟩ := cmd_at HT3.out.2
    go_wp2_with fail
    refine hs2.mono ?_
    rintro e w4 ⟨rfl, hb4⟩
    have HB4 := Lib.hid (HB3.out.trans (hb4.mono HB3.out.size))
    clear hs2 hb4
    go_wp2_with fail
    go_ret
    exact ⟨by rw [HX.out]; simp, HB4.out⟩
/- The laws of this program for an append of bytes and a make of bytes. -/
open Go.RowKit
theorem info5 : (Try.prog.info? 5).map (fun i => (i.zero, i.size, i.bytes)) = some (some (.int .u8 0), 1, 1) := by kernel_rfl

/-- append(s, x...): s the call's own, x any bytes that can be read. -/
theorem append_rb {w : World} {ops : Array Oper} {rest : List Oper} {o : Oper} {a : Act} {Q : Exit → Act → World → Prop} (hgd : o.guard = none) (s x : Operand)
    (ho : o.op = .call { callee := .builtin .append, args := #[s, x], argTypes := #[36, 36] })
    (base : Nat) (v u : Value) (bs cs : List Nat) (hs : a.eval s = v) (hx : a.eval x = u) (hown : OB w base v bs) (hrb : RB w u cs)
    (hlen : bs.length + cs.length ≤ 140737488351232) (hbase : base ≤ w.heap.size)
    (h : ∀ v' w', OB w' base v' (bs ++ cs) → w.grownBy w' v.ownBlock → wpList Try.prog ops Q rest (a.put o.dst v') w') : wpList Try.prog ops Q (o :: rest) a w := by
  obtain ⟨i0, hi, hz0, hz1, hz2⟩ := info_parts info5
  rcases hrb.2.2 with ⟨rfl, rfl⟩ | ⟨ad, cap, rfl, hc, hm, hcell⟩
  · refine wpList_append_own_none hgd s x 36 ho base 5 i0 1 Try.underlying36 hi v bs.length (cb bs) hs hown hx ?_
    exact h v w (by simpa using hown) (World.grownBy.refl _ _)
  · refine wpList_append_own w hgd s x 36 ho base 5 i0 (.int .u8 0) 1 1 Try.underlying36 hi hz0 hz1 hz2 rfl (by decide) v bs.length (cb bs) hs hown ad cs.length cap (cb cs) hx (by simp [cb]) ?_ (cb_one cs) (by unfold maxLen; omega) (by omega) hbase ?_
    · intro j y hj
      have hlt : j < cs.length := by have := (List.getElem?_eq_some_iff.mp hj).1; rwa [cb_length] at this
      rw [cb_get cs j hlt] at hj
      simp only [Option.some.injEq] at hj
      subst hj
      exact hcell j hlt
    · intro v' w' h1 h2 _
      exact h v' w' (by unfold OB; rw [List.length_append, cb_append]; exact h1) h2

/-- make([]byte, 0, C). -/
theorem make_rb {w : World} {ops : Array Oper} {rest : List Oper} {o : Oper} {a : Act} {Q : Exit → Act → World → Prop} (hgd : o.guard = none) (l c : Operand)
    (ho : o.op = Op.makeSlice 36 l c) (base : Nat) (kl kc : IntKind) (C : Int) (n : Nat) (hl : a.eval l = .int kl 0) (hc : a.eval c = .int kc C) (hC : C = (n : Int)) (hn : n ≤ 140737488355328) (hbase : base ≤ w.heap.size)
    (h : ∀ v' w', OB w' base v' [] → w.grownBy w' none → wpList Try.prog ops Q rest (a.put o.dst v') w') : wpList Try.prog ops Q (o :: rest) a w := by
  obtain ⟨i0, hi, hz0, hz1, hz2⟩ := info_parts info5
  refine wpList_make_own w hgd l c 36 ho base 5 i0 (.int .u8 0) 1 Try.underlying36 hi hz0 hz1 kl kc C n hl hc hC (by rw [hz2]; omega) (by unfold maxLen; omega) hbase ?_
  intro w' h1 h2
  exact h _ w' h1 h2
/- The plain arithmetic of numbers as bytes. -/

/-- How many bytes a number has. -/
def sz (n : Nat) : Nat := (bitLen n + 7) / 8
/-- The lowest j bytes of n, the most significant first. -/
def enc : Nat → Nat → List Nat
  | 0, _ => []
  | j + 1, n => (n / 2 ^ (8 * j) % 256) :: enc j n
/-- A number's bytes, with s added to the first. -/
def num (s n : Nat) : List Nat := (s + sz n) :: enc (sz n) n

theorem bitLen_le (n : Nat) (h : n < 18446744073709551616) : bitLen n ≤ 64 := by
  unfold bitLen
  split
  · omega
  · rename_i h0
    have := (Nat.log2_lt h0).2 (show n < 2 ^ 64 from h)
    omega
theorem sz_le (n : Nat) (h : n < 18446744073709551616) : sz n ≤ 8 := by
  have := bitLen_le n h
  unfold sz; omega
theorem sz_up (n : Nat) : n < 2 ^ (8 * sz n) := by
  have h := (bitLen_spec n).1
  have h2 : bitLen n ≤ 8 * sz n := by unfold sz; omega
  exact Nat.lt_of_lt_of_le h (Nat.pow_le_pow_right (by omega) h2)
theorem sz_low (n : Nat) (h : 0 < sz n) : 2 ^ (8 * (sz n - 1)) ≤ n := by
  have h0 : n ≠ 0 := by
    intro e; subst e; simp [sz, bitLen] at h
  have h1 := (bitLen_spec n).2 h0
  have h2 : 8 * (sz n - 1) ≤ bitLen n - 1 := by unfold sz at h ⊢; omega
  exact Nat.le_trans (Nat.pow_le_pow_right (by omega) h2) h1
theorem sz_unique (n j : Nat) (h1 : n < 2 ^ (8 * j)) (h2 : 0 < j → 2 ^ (8 * (j - 1)) ≤ n) : sz n = j := by
  have a := sz_up n
  have b := sz_low n
  rcases Nat.lt_trichotomy (sz n) j with h | h | h
  · have := h2 (by omega)
    have h3 : 2 ^ (8 * sz n) ≤ 2 ^ (8 * (j - 1)) := Nat.pow_le_pow_right (by omega) (by omega)
    omega
  · exact h
  · have := b (by omega)
    have h3 : 2 ^ (8 * j) ≤ 2 ^ (8 * (sz n - 1)) := Nat.pow_le_pow_right (by omega) (by omega)
    omega
theorem sz_zero : sz 0 = 0 := by decide
theorem enc_len (j n : Nat) : (enc j n).length = j := by
  induction j with
  | zero => rfl
  | succ j ih => simp [enc, ih]
theorem enc_lt (j n : Nat) : ∀ c ∈ enc j n, c < 256 := by
  induction j with
  | zero => simp [enc]
  | succ j ih =>
    intro c hc
    simp only [enc, List.mem_cons] at hc
    rcases hc with rfl | hc
    · exact Nat.mod_lt _ (by omega)
    · exact ih c hc
theorem enc_get (j n k r : Nat) (h : k + 1 + r = j) : (enc j n).getD k 0 = n / 2 ^ (8 * r) % 256 := by
  induction j generalizing k with
  | zero => omega
  | succ j ih =>
    cases k with
    | zero =>
      obtain rfl : r = j := by omega
      simp [enc]
    | succ k =>
      have := ih k (by omega)
      simpa [enc] using this
theorem num_len (s n : Nat) : (num s n).length = 1 + sz n := by simp [num, enc_len]; omega
theorem num_lt (s n : Nat) (hs : s + sz n < 256) : ∀ c ∈ num s n, c < 256 := by
  intro c hc
  simp only [num, List.mem_cons] at hc
  rcases hc with rfl | hc
  · exact hs
  · exact enc_lt _ _ c hc
/- Walks of quill: how many bits a number has. -/
open Go.RowKit

theorem tab_get (b : Nat) (h : b < Lib.len8tab.size) : (Lib.len8tab[b]'h).toNat = bitLen b := by
  have all : ∀ j : Fin 256, Lib.len8 ((j.val : Nat) : Int) = ((bitLen j.val : Nat) : Int) := by decide +kernel
  have h2 : b < 256 := by rw [← Lib.len8tab_size]; exact h
  have e := all ⟨b, h2⟩
  simp only [Lib.len8, Int.toNat_natCast, ByteArray.getElem?_lt' _ _ h, Option.getD_some] at e
  omega
theorem tab_way (s n m : Nat) (e : n / 2 ^ s = m) (h0 : m ≠ 0) (h : m < 256) (hs : s ≤ 56) : wrap64 ((s : Int) + wrap64 ((bitLen m : Nat) : Int)) = ((bitLen n : Nat) : Int) := by
  subst e
  have h8 := bitLen_le8 _ h
  rw [bitLen_shift n s h0]
  have e1 : wrap64 ((bitLen (n / 2 ^ s) : Nat) : Int) = ((bitLen (n / 2 ^ s) : Nat) : Int) := IntWalk.wrap64_in _ ⟨by omega, by omega⟩
  rw [e1]
  exact (IntWalk.wrap64_in _ ⟨by omega, by omega⟩).trans (by omega)

set_option maxRecDepth 100000 in
set_option maxHeartbeats 4000000 in
theorem len64_int (x : Int) (w : World) (h0 : 0 ≤ x) (h1 : x ≤ 18446744073709551615) :
    Calls Try.prog 135 #[.int .u64 x] w fun e w' => e = .returned (.int .i64 ((bitLen x.toNat : Nat) : Int)) ∧ w = w' := by
  go_enter Try.func135, Try.ntmps135
  generalize htab : ({ data := _ } : ByteArray) = tab
  have e : tab = Lib.len8tab := htab.symm.trans (by kernel_rfl)
  have hsz : tab.size = 256 := by rw [e]; exact Lib.len8tab_size
  have hg : ∀ (b : Nat) (h : b < tab.size), (tab[b]'h).toNat = bitLen b := by subst e; exact tab_get
  have HG := Lib.hid hg
  clear htab e hg
  go_wp2
  all_goals (go_ret; refine ⟨ret_int ?_, rfl⟩)
  all_goals rw [HG.out]
  all_goals first
    | exact tab_way 56 x.toNat _ (by omega) (by omega) (by omega) (by omega)
    | exact tab_way 48 x.toNat _ (by omega) (by omega) (by omega) (by omega)
    | exact tab_way 40 x.toNat _ (by omega) (by omega) (by omega) (by omega)
    | exact tab_way 32 x.toNat _ (by omega) (by omega) (by omega) (by omega)
    | exact tab_way 24 x.toNat _ (by omega) (by omega) (by omega) (by omega)
    | exact tab_way 16 x.toNat _ (by omega) (by omega) (by omega) (by omega)
    | exact tab_way 8 x.toNat _ (by omega) (by omega) (by omega) (by omega)
    | (have h8 := bitLen_le8 x.toNat (by omega)
       have e1 : wrap64 ((bitLen x.toNat : Nat) : Int) = ((bitLen x.toNat : Nat) : Int) := IntWalk.wrap64_in _ ⟨by omega, by omega⟩
       rw [e1, e1])

theorem len64_any (n : Nat) (w : World) (h : n < 18446744073709551616) :
    Calls Try.prog 135 #[.int .u64 (n : Int)] w fun e w' => e = .returned (.int .i64 ((bitLen n : Nat) : Int)) ∧ w = w' := by
  have := len64_int (n : Int) w (by omega) (by omega)
  rwa [Int.toNat_natCast] at this
end Go.Proofs.Ytibjboacjobaoaa
