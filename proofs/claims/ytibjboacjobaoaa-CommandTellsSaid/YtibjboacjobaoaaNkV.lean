/- Commands: the law of what may be and what is the same: its walk. -/
import Derived.Test.YtibjboacjobaoaaMgBI
import Derived.Deep.RegionHeld
namespace Go.Proofs.Ytibjboacjobaoaa
open Go.RowKit
set_option maxRecDepth 100000 in
set_option maxHeartbeats 32000000 in
theorem ctells_hi (kd cl rq id cn tm off : Int) (a : Option Addr) (n ca : Nat) (b : Option Addr) (m cb : Nat) (tc : Int) (d : Option Addr) (l cd : Nat) (tr tb : Int) (F T G U B P : Nat → Int) (kd' cl' rq' id' cn' tm' off' : Int) (a' : Option Addr) (n' ca' : Nat) (b' : Option Addr) (m' cb' : Nat) (tc' : Int) (d' : Option Addr) (l' cd' : Nat) (tr' tb' : Int) (F' T' G' U' B' P' : Nat → Int) (kind : Int) (w : World) (hS : Sps w a n F T) (hR : Sps w b m G U) (hD : Sps w d l B P) (hS' : Sps w a' n' F' T') (hR' : Sps w b' m' G' U') (hD' : Sps w d' l' B' P') (hl1 : (decide (n ≤ 60 ∧ m ≤ 60) && decide ((l : Int) ≤ 60)) = true) (hl2 : (decide (n' ≤ 60 ∧ m' ≤ 60) && decide ((l' : Int) ≤ 60)) = true) (hk1 : 1 ≤ kind) (hk2 : ¬ kind ≤ 12) :
    Calls Try.prog 3 #[cmdV kd cl rq id cn tm off a n ca b m cb tc d l cd tr tb, cmdV kd' cl' rq' id' cn' tm' off' a' n' ca' b' m' cb' tc' d' l' cd' tr' tb', .int .i64 kind] w fun e w' => e = .returned (.bool true) ∧ Below w.heap.size w w' := by
  have HL1 := Lib.hid (fun W => light18 kd cl rq id cn tm off a n ca b m cb tc d l cd tr tb W hS.1 hR.1)
  have HL2 := Lib.hid (fun W => light18 kd' cl' rq' id' cn' tm' off' a' n' ca' b' m' cb' tc' d' l' cd' tr' tb' W hS'.1 hR'.1)
  have HLV := Lib.hid (fun W => lives18 W)
  rw [hl1] at HL1
  rw [hl2] at HL2
  have HN : Hid (∀ W, Calls Try.prog 13 #[.int .i64 kind] W fun e w' => e = .returned (.bool false) ∧ Below W.heap.size W w') := Lib.hid (fun W => (named_any kind W).mono fun e w' h => by
    obtain ⟨h1, rfl⟩ := h
    refine ⟨?_, Below.refl _ _⟩
    rw [h1]
    simp; omega)
  have HS1 := Lib.hid (fun W (hb : Below w.heap.size w W) => sound_any kd cl rq id cn tm off a n ca b m cb tc d l cd tr tb F T G U B P W (hS.kept hb) (hR.kept hb) (hD.kept hb))
  have HS2 := Lib.hid (fun W (hb : Below w.heap.size w W) => rsound_any kd cl rq id cn tm off a n ca b m cb tc d l cd tr tb F T G U B P W (hS.kept hb) (hR.kept hb) (hD.kept hb))
  have HM1 := Lib.hid (fun W (hb : Below w.heap.size w W) => cmd_same kd cl rq id cn tm off a n ca b m cb tc d l cd tr tb F T G U B P kd' cl' rq' id' cn' tm' off' a' n' ca' b' m' cb' tc' d' l' cd' tr' tb' F' T' G' U' B' P' W (hS.kept hb) (hR.kept hb) (hD.kept hb) (hS'.kept hb) (hR'.kept hb) (hD'.kept hb))
  have HM2 := Lib.hid (fun W (hb : Below w.heap.size w W) => rcmd_same kd cl rq id cn tm off a n ca b m cb tc d l cd tr tb F T G U B P kd' cl' rq' id' cn' tm' off' a' n' ca' b' m' cb' tc' d' l' cd' tr' tb' F' T' G' U' B' P' W (hS.kept hb) (hR.kept hb) (hD.kept hb) (hS'.kept hb) (hR'.kept hb) (hD'.kept hb))
  have HM3 := Lib.hid (fun W (hb : Below w.heap.size w W) => cmd_same kd cl rq id cn tm off a n ca b m cb tc d l cd tr tb F T G U B P kd cl rq id cn tm off a n ca b m cb tc d l cd tr tb F T G U B P W (hS.kept hb) (hR.kept hb) (hD.kept hb) (hS.kept hb) (hR.kept hb) (hD.kept hb))
  rw [cmdEq_refl] at HM3
  obtain ⟨sa, hsa⟩ : ∃ x, soundB kd cl rq id cn tm off n m tc l tr tb F T G U B P = x := ⟨_, rfl⟩
  rw [hsa] at HS1 HS2
  obtain ⟨sm, hsm⟩ : ∃ x, cmdEq kd kd' cl cl' rq rq' id id' cn cn' tm tm' off off' F T F' T' n n' G U G' U' m m' tc tc' B P B' P' l l' tr tr' tb tb' = x := ⟨_, rfl⟩
  rw [hsm] at HM1 HM2
  have hg1 : decide (1 ≤ kind) = true := by simpa using hk1
  have hg2 : decide (kind ≤ 12) = false := by simpa using hk2
  clear hS hR hD hS' hR' hD' hl1 hl2 hsa hsm
  obtain ⟨B2, s0, s1, sz⟩ := box2 w #[.int .i64 kd, .int .u64 cl, .int .u64 rq, .int .u64 id, .int .i64 cn, .int .i64 tm, .int .i64 off, .slice a n ca, .slice b m cb, .int .i64 tc, .slice d l cd, .int .i64 tr, .int .i64 tb] #[.int .i64 kd', .int .u64 cl', .int .u64 rq', .int .u64 id', .int .i64 cn', .int .i64 tm', .int .i64 off', .slice a' n' ca', .slice b' m' cb', .int .i64 tc', .slice d' l' cd', .int .i64 tr', .int .i64 tb'] 30 30
  have HB2 := Lib.hid B2
  have HT2 := Lib.hid (And.intro s0 s1)
  obtain ⟨q0, q1, q2, q3, q4, q5, q6, q7, q8, q9, q10, q11, q12⟩ := cmd_at s0
  obtain ⟨r0, r1, r2, r3, r4, r5, r6, r7, r8, r9, r10, r11, r12⟩ := cmd_at s1
  clear B2 s0 s1 sz
  unfold cmdV at *
  go_enter Try.func3, Try.ntmps3
  go_wp2_with fail
  generalize (w.alloc (.cells #[.int .i64 kd, .int .u64 cl, .int .u64 rq, .int .u64 id, .int .i64 cn, .int .i64 tm, .int .i64 off, .slice a n ca, .slice b m cb, .int .i64 tc, .slice d l cd, .int .i64 tr, .int .i64 tb] 30)).alloc (.cells #[.int .i64 kd', .int .u64 cl', .int .u64 rq', .int .u64 id', .int .i64 cn', .int .i64 tm', .int .i64 off', .slice a' n' ca', .slice b' m' cb', .int .i64 tc', .slice d' l' cd', .int .i64 tr', .int .i64 tb'] 30) = W2 at HB2 HT2 q0 q1 q2 q3 q4 q5 q6 q7 q8 q9 q10 q11 q12 r0 r1 r2 r3 r4 r5 r6 r7 r8 r9 r10 r11 r12 ⊢
  refine (HL1.out W2).mono ?_
  rintro e W3 ⟨rfl, hb⟩
  have HB3 := Lib.hid (HB2.out.trans (hb.mono HB2.out.size))
  have HT3 := Lib.hid (And.intro (ex_below HT2.out.1 hb) (ex_below HT2.out.2 hb))
  clear hb HB2 HT2 q0 q1 q2 q3 q4 q5 q6 q7 q8 q9 q10 q11 q12 r0 r1 r2 r3 r4 r5 r6 r7 r8 r9 r10 r11 r12
  obtain ⟨q0, q1, q2, q3, q4, q5, q6, q7, q8, q9, q10, q11, q12⟩ := cmd_at HT3.out.1
  obtain ⟨r0, r1, r2, r3, r4, r5, r6, r7, r8, r9, r10, r11, r12⟩ := cmd_at HT3.out.2
  go_wp2_with fail
  refine (HL2.out _).mono ?_
  rintro e W4 ⟨rfl, hb⟩
  have HB4 := Lib.hid (HB3.out.trans (hb.mono HB3.out.size))
  have HT4 := Lib.hid (And.intro (ex_below HT3.out.1 hb) (ex_below HT3.out.2 hb))
  clear hb HB3 HT3 HL1 HL2 q0 q1 q2 q3 q4 q5 q6 q7 q8 q9 q10 q11 q12 r0 r1 r2 r3 r4 r5 r6 r7 r8 r9 r10 r11 r12
  have HSK : Hid (∀ W, Below W4.heap.size W4 W → (W.cell? ⟨w.heap.size, 0, none⟩ = some (.int .i64 kd) ∧ W.cell? ⟨w.heap.size, 1, none⟩ = some (.int .u64 cl) ∧ W.cell? ⟨w.heap.size, 2, none⟩ = some (.int .u64 rq) ∧ W.cell? ⟨w.heap.size, 3, none⟩ = some (.int .u64 id) ∧ W.cell? ⟨w.heap.size, 4, none⟩ = some (.int .i64 cn) ∧ W.cell? ⟨w.heap.size, 5, none⟩ = some (.int .i64 tm) ∧ W.cell? ⟨w.heap.size, 6, none⟩ = some (.int .i64 off) ∧ W.cell? ⟨w.heap.size, 7, none⟩ = some (.slice a n ca) ∧ W.cell? ⟨w.heap.size, 8, none⟩ = some (.slice b m cb) ∧ W.cell? ⟨w.heap.size, 9, none⟩ = some (.int .i64 tc) ∧ W.cell? ⟨w.heap.size, 10, none⟩ = some (.slice d l cd) ∧ W.cell? ⟨w.heap.size, 11, none⟩ = some (.int .i64 tr) ∧ W.cell? ⟨w.heap.size, 12, none⟩ = some (.int .i64 tb)) ∧ (W.cell? ⟨(w.heap.size + 1), 0, none⟩ = some (.int .i64 kd') ∧ W.cell? ⟨(w.heap.size + 1), 1, none⟩ = some (.int .u64 cl') ∧ W.cell? ⟨(w.heap.size + 1), 2, none⟩ = some (.int .u64 rq') ∧ W.cell? ⟨(w.heap.size + 1), 3, none⟩ = some (.int .u64 id') ∧ W.cell? ⟨(w.heap.size + 1), 4, none⟩ = some (.int .i64 cn') ∧ W.cell? ⟨(w.heap.size + 1), 5, none⟩ = some (.int .i64 tm') ∧ W.cell? ⟨(w.heap.size + 1), 6, none⟩ = some (.int .i64 off') ∧ W.cell? ⟨(w.heap.size + 1), 7, none⟩ = some (.slice a' n' ca') ∧ W.cell? ⟨(w.heap.size + 1), 8, none⟩ = some (.slice b' m' cb') ∧ W.cell? ⟨(w.heap.size + 1), 9, none⟩ = some (.int .i64 tc') ∧ W.cell? ⟨(w.heap.size + 1), 10, none⟩ = some (.slice d' l' cd') ∧ W.cell? ⟨(w.heap.size + 1), 11, none⟩ = some (.int .i64 tr') ∧ W.cell? ⟨(w.heap.size + 1), 12, none⟩ = some (.int .i64 tb'))) := Lib.hid (fun W hb => ⟨cmd_at (ex_below HT4.out.1 hb), cmd_at (ex_below HT4.out.2 hb)⟩)
  have HBK : Hid (∀ W, Below W4.heap.size W4 W → Below w.heap.size w W) := Lib.hid (fun W hb => HB4.out.trans (hb.mono HB4.out.size))
  have c5 : Below W4.heap.size W4 W4.drew := (Below.refl _ _).drew
  have h0' := HSK.out _ c5
  go_wp2_with fail
  refine wp_region_held_drew (S := fun w1 => (w1.cell? ⟨w.heap.size, 0, none⟩ = some (.int .i64 kd) ∧ w1.cell? ⟨w.heap.size, 1, none⟩ = some (.int .u64 cl) ∧ w1.cell? ⟨w.heap.size, 2, none⟩ = some (.int .u64 rq) ∧ w1.cell? ⟨w.heap.size, 3, none⟩ = some (.int .u64 id) ∧ w1.cell? ⟨w.heap.size, 4, none⟩ = some (.int .i64 cn) ∧ w1.cell? ⟨w.heap.size, 5, none⟩ = some (.int .i64 tm) ∧ w1.cell? ⟨w.heap.size, 6, none⟩ = some (.int .i64 off) ∧ w1.cell? ⟨w.heap.size, 7, none⟩ = some (.slice a n ca) ∧ w1.cell? ⟨w.heap.size, 8, none⟩ = some (.slice b m cb) ∧ w1.cell? ⟨w.heap.size, 9, none⟩ = some (.int .i64 tc) ∧ w1.cell? ⟨w.heap.size, 10, none⟩ = some (.slice d l cd) ∧ w1.cell? ⟨w.heap.size, 11, none⟩ = some (.int .i64 tr) ∧ w1.cell? ⟨w.heap.size, 12, none⟩ = some (.int .i64 tb)) ∧ (w1.cell? ⟨(w.heap.size + 1), 0, none⟩ = some (.int .i64 kd') ∧ w1.cell? ⟨(w.heap.size + 1), 1, none⟩ = some (.int .u64 cl') ∧ w1.cell? ⟨(w.heap.size + 1), 2, none⟩ = some (.int .u64 rq') ∧ w1.cell? ⟨(w.heap.size + 1), 3, none⟩ = some (.int .u64 id') ∧ w1.cell? ⟨(w.heap.size + 1), 4, none⟩ = some (.int .i64 cn') ∧ w1.cell? ⟨(w.heap.size + 1), 5, none⟩ = some (.int .i64 tm') ∧ w1.cell? ⟨(w.heap.size + 1), 6, none⟩ = some (.int .i64 off') ∧ w1.cell? ⟨(w.heap.size + 1), 7, none⟩ = some (.slice a' n' ca') ∧ w1.cell? ⟨(w.heap.size + 1), 8, none⟩ = some (.slice b' m' cb') ∧ w1.cell? ⟨(w.heap.size + 1), 9, none⟩ = some (.int .i64 tc') ∧ w1.cell? ⟨(w.heap.size + 1), 10, none⟩ = some (.slice d' l' cd') ∧ w1.cell? ⟨(w.heap.size + 1), 11, none⟩ = some (.int .i64 tr') ∧ w1.cell? ⟨(w.heap.size + 1), 12, none⟩ = some (.int .i64 tb'))) (by kernel_rfl) h0' (fun hHeld => ?_)
  refine wpAnyH_take (i := 0) (v := ?_) rfl (by kernel_rfl) (by kernel_rfl) (by kernel_rfl) (fun _ _ _ h => h) (Or.inl ⟨by rfl, ?_⟩) (HSK.out _ c5) ?_
  case refine_2 => (intro w1 hS1; obtain ⟨⟨a0, a1, a2, a3, a4, a5, a6, a7, a8, a9, a10, a11, a12⟩, b0, b1, b2, b3, b4, b5, b6, b7, b8, b9, b10, b11, b12⟩ := hS1; go_simp; try with_reducible rfl)
  try simp only [List.getElem_toArray, List.getElem_cons_zero, List.getElem_cons_succ, Act.put, List.setIfInBounds_toArray, List.set_cons_zero, List.set_cons_succ]
  refine wpAnyH_take (i := 2) (v := ?_) rfl (by kernel_rfl) (by kernel_rfl) (by kernel_rfl) (fun _ _ _ h => h) (Or.inl ⟨by rfl, ?_⟩) (HSK.out _ c5) ?_
  case refine_2 => (intro w1 hS1; obtain ⟨⟨a0, a1, a2, a3, a4, a5, a6, a7, a8, a9, a10, a11, a12⟩, b0, b1, b2, b3, b4, b5, b6, b7, b8, b9, b10, b11, b12⟩ := hS1; go_simp; try with_reducible rfl)
  try simp only [List.getElem_toArray, List.getElem_cons_zero, List.getElem_cons_succ, Act.put, List.setIfInBounds_toArray, List.set_cons_zero, List.set_cons_succ]
  refine wpAnyH_take (i := 3) (v := ?_) rfl (by kernel_rfl) (by kernel_rfl) (by kernel_rfl) (fun _ _ _ h => h) (Or.inl ⟨by rfl, ?_⟩) (HSK.out _ c5) ?_
  case refine_2 => (intro w1 hS1; obtain ⟨⟨a0, a1, a2, a3, a4, a5, a6, a7, a8, a9, a10, a11, a12⟩, b0, b1, b2, b3, b4, b5, b6, b7, b8, b9, b10, b11, b12⟩ := hS1; go_simp; try with_reducible rfl)
  try simp only [List.getElem_toArray, List.getElem_cons_zero, List.getElem_cons_succ, Act.put, List.setIfInBounds_toArray, List.set_cons_zero, List.set_cons_succ]
  refine wpAnyH_ready (rs := [1]) (by kernel_rfl) (by simp) ?_
  refine (AllReadyH.cons rfl (fun K hK => ?_) AllReadyH.nil)
  go_simp
  refine (HN.out _).mono ?_
  rintro e W6 ⟨rfl, hb⟩
  have c6 : Below W4.heap.size W4 W6 := c5.trans (hb.mono c5.size)
  clear hb
  refine hK.out _ _ (HSK.out _ c6) (fun hHeld => ?_)
  clear hK K hHeld
  try simp only [List.getElem_toArray, List.getElem_cons_zero, List.getElem_cons_succ, Act.put, List.setIfInBounds_toArray, List.set_cons_zero, List.set_cons_succ]
  refine wpAnyH_take (i := 4) (v := ?_) rfl (by kernel_rfl) (by kernel_rfl) (by kernel_rfl) (fun _ _ _ h => h) (Or.inl ⟨by rfl, ?_⟩) (HSK.out _ c6) ?_
  case refine_2 => (intro w1 hS1; obtain ⟨⟨a0, a1, a2, a3, a4, a5, a6, a7, a8, a9, a10, a11, a12⟩, b0, b1, b2, b3, b4, b5, b6, b7, b8, b9, b10, b11, b12⟩ := hS1; go_simp; try with_reducible rfl)
  try simp only [List.getElem_toArray, List.getElem_cons_zero, List.getElem_cons_succ, Act.put, List.setIfInBounds_toArray, List.set_cons_zero, List.set_cons_succ]
  refine wpAnyH_take (i := 5) (v := ?_) rfl (by kernel_rfl) (by kernel_rfl) (by kernel_rfl) (fun _ _ _ h => h) (Or.inl ⟨by rfl, ?_⟩) (HSK.out _ c6) ?_
  case refine_2 => (intro w1 hS1; obtain ⟨⟨a0, a1, a2, a3, a4, a5, a6, a7, a8, a9, a10, a11, a12⟩, b0, b1, b2, b3, b4, b5, b6, b7, b8, b9, b10, b11, b12⟩ := hS1; go_simp; try with_reducible rfl)
  try simp only [List.getElem_toArray, List.getElem_cons_zero, List.getElem_cons_succ, Act.put, List.setIfInBounds_toArray, List.set_cons_zero, List.set_cons_succ]
  refine wpAnyH_take (i := 6) (v := ?_) rfl (by kernel_rfl) (by kernel_rfl) (by kernel_rfl) (fun _ _ _ h => h) (Or.inl ⟨by rfl, ?_⟩) (HSK.out _ c6) ?_
  case refine_2 => (intro w1 hS1; obtain ⟨⟨a0, a1, a2, a3, a4, a5, a6, a7, a8, a9, a10, a11, a12⟩, b0, b1, b2, b3, b4, b5, b6, b7, b8, b9, b10, b11, b12⟩ := hS1; go_simp; try with_reducible rfl)
  try simp only [List.getElem_toArray, List.getElem_cons_zero, List.getElem_cons_succ, Act.put, List.setIfInBounds_toArray, List.set_cons_zero, List.set_cons_succ]
  refine wpAnyH_take (i := 7) (v := ?_) rfl (by kernel_rfl) (by kernel_rfl) (by kernel_rfl) (fun _ _ _ h => h) (Or.inl ⟨by rfl, ?_⟩) (HSK.out _ c6) ?_
  case refine_2 => (intro w1 hS1; obtain ⟨⟨a0, a1, a2, a3, a4, a5, a6, a7, a8, a9, a10, a11, a12⟩, b0, b1, b2, b3, b4, b5, b6, b7, b8, b9, b10, b11, b12⟩ := hS1; go_simp; try with_reducible rfl)
  try simp only [List.getElem_toArray, List.getElem_cons_zero, List.getElem_cons_succ, Act.put, List.setIfInBounds_toArray, List.set_cons_zero, List.set_cons_succ]
  refine wpAnyH_take (i := 8) (v := ?_) rfl (by kernel_rfl) (by kernel_rfl) (by kernel_rfl) (fun _ _ _ h => h) (Or.inl ⟨by rfl, ?_⟩) (HSK.out _ c6) ?_
  case refine_2 => (intro w1 hS1; obtain ⟨⟨a0, a1, a2, a3, a4, a5, a6, a7, a8, a9, a10, a11, a12⟩, b0, b1, b2, b3, b4, b5, b6, b7, b8, b9, b10, b11, b12⟩ := hS1; go_simp; try with_reducible rfl)
  try simp only [List.getElem_toArray, List.getElem_cons_zero, List.getElem_cons_succ, Act.put, List.setIfInBounds_toArray, List.set_cons_zero, List.set_cons_succ]
  refine wpAnyH_take (i := 9) (v := ?_) rfl (by kernel_rfl) (by kernel_rfl) (by kernel_rfl) (fun _ _ _ h => h) (Or.inl ⟨by rfl, ?_⟩) (HSK.out _ c6) ?_
  case refine_2 => (intro w1 hS1; obtain ⟨⟨a0, a1, a2, a3, a4, a5, a6, a7, a8, a9, a10, a11, a12⟩, b0, b1, b2, b3, b4, b5, b6, b7, b8, b9, b10, b11, b12⟩ := hS1; go_simp; try with_reducible rfl)
  try simp only [List.getElem_toArray, List.getElem_cons_zero, List.getElem_cons_succ, Act.put, List.setIfInBounds_toArray, List.set_cons_zero, List.set_cons_succ]
  refine wpAnyH_take (i := 10) (v := ?_) rfl (by kernel_rfl) (by kernel_rfl) (by kernel_rfl) (fun _ _ _ h => h) (Or.inl ⟨by rfl, ?_⟩) (HSK.out _ c6) ?_
  case refine_2 => (intro w1 hS1; obtain ⟨⟨a0, a1, a2, a3, a4, a5, a6, a7, a8, a9, a10, a11, a12⟩, b0, b1, b2, b3, b4, b5, b6, b7, b8, b9, b10, b11, b12⟩ := hS1; go_simp; try with_reducible rfl)
  try simp only [List.getElem_toArray, List.getElem_cons_zero, List.getElem_cons_succ, Act.put, List.setIfInBounds_toArray, List.set_cons_zero, List.set_cons_succ]
  refine wpAnyH_take (i := 12) (v := ?_) rfl (by kernel_rfl) (by kernel_rfl) (by kernel_rfl) (fun _ _ _ h => h) (Or.inl ⟨by rfl, ?_⟩) (HSK.out _ c6) ?_
  case refine_2 => (intro w1 hS1; obtain ⟨⟨a0, a1, a2, a3, a4, a5, a6, a7, a8, a9, a10, a11, a12⟩, b0, b1, b2, b3, b4, b5, b6, b7, b8, b9, b10, b11, b12⟩ := hS1; go_simp; try with_reducible rfl)
  try simp only [List.getElem_toArray, List.getElem_cons_zero, List.getElem_cons_succ, Act.put, List.setIfInBounds_toArray, List.set_cons_zero, List.set_cons_succ]
  refine wpAnyH_ready (rs := [11]) (by kernel_rfl) (by simp) ?_
  refine (AllReadyH.cons rfl (fun K hK => ?_) AllReadyH.nil)
  go_simp
  refine (HS1.out _ (HBK.out _ c6)).mono ?_
  rintro e W7 ⟨rfl, hb⟩
  have c7 : Below W4.heap.size W4 W7 := c6.trans (hb.mono c6.size)
  clear hb
  refine hK.out _ _ (HSK.out _ c7) (fun hHeld => ?_)
  clear hK K hHeld
  try simp only [List.getElem_toArray, List.getElem_cons_zero, List.getElem_cons_succ, Act.put, List.setIfInBounds_toArray, List.set_cons_zero, List.set_cons_succ]
  refine wpAnyH_ready (rs := [13]) (by kernel_rfl) (by simp) ?_
  refine (AllReadyH.cons rfl (fun K hK => ?_) AllReadyH.nil)
  go_simp
  refine (HS2.out _ (HBK.out _ c7)).mono ?_
  rintro e W8 ⟨rfl, hb⟩
  have c8 : Below W4.heap.size W4 W8 := c7.trans (hb.mono c7.size)
  clear hb
  refine hK.out _ _ (HSK.out _ c8) (fun hHeld => ?_)
  clear hK K hHeld
  try simp only [List.getElem_toArray, List.getElem_cons_zero, List.getElem_cons_succ, Act.put, List.setIfInBounds_toArray, List.set_cons_zero, List.set_cons_succ]
  refine wpAnyH_take (i := 14) (v := ?_) rfl (by kernel_rfl) (by kernel_rfl) (by kernel_rfl) (fun _ _ _ h => h) (Or.inl ⟨by rfl, ?_⟩) (HSK.out _ c8) ?_
  case refine_2 => (intro w1 hS1; obtain ⟨⟨a0, a1, a2, a3, a4, a5, a6, a7, a8, a9, a10, a11, a12⟩, b0, b1, b2, b3, b4, b5, b6, b7, b8, b9, b10, b11, b12⟩ := hS1; go_simp; try with_reducible rfl)
  try simp only [List.getElem_toArray, List.getElem_cons_zero, List.getElem_cons_succ, Act.put, List.setIfInBounds_toArray, List.set_cons_zero, List.set_cons_succ]
  refine wpAnyH_take (i := 15) (v := ?_) rfl (by kernel_rfl) (by kernel_rfl) (by kernel_rfl) (fun _ _ _ h => h) (Or.inl ⟨by rfl, ?_⟩) (HSK.out _ c8) ?_
  case refine_2 => (intro w1 hS1; obtain ⟨⟨a0, a1, a2, a3, a4, a5, a6, a7, a8, a9, a10, a11, a12⟩, b0, b1, b2, b3, b4, b5, b6, b7, b8, b9, b10, b11, b12⟩ := hS1; go_simp; try with_reducible rfl)
  try simp only [List.getElem_toArray, List.getElem_cons_zero, List.getElem_cons_succ, Act.put, List.setIfInBounds_toArray, List.set_cons_zero, List.set_cons_succ]
  refine wpAnyH_take (i := 16) (v := ?_) rfl (by kernel_rfl) (by kernel_rfl) (by kernel_rfl) (fun _ _ _ h => h) (Or.inl ⟨by rfl, ?_⟩) (HSK.out _ c8) ?_
  case refine_2 => (intro w1 hS1; obtain ⟨⟨a0, a1, a2, a3, a4, a5, a6, a7, a8, a9, a10, a11, a12⟩, b0, b1, b2, b3, b4, b5, b6, b7, b8, b9, b10, b11, b12⟩ := hS1; go_simp; try with_reducible rfl)
  try simp only [List.getElem_toArray, List.getElem_cons_zero, List.getElem_cons_succ, Act.put, List.setIfInBounds_toArray, List.set_cons_zero, List.set_cons_succ]
  refine wpAnyH_take (i := 17) (v := ?_) rfl (by kernel_rfl) (by kernel_rfl) (by kernel_rfl) (fun _ _ _ h => h) (Or.inl ⟨by rfl, ?_⟩) (HSK.out _ c8) ?_
  case refine_2 => (intro w1 hS1; obtain ⟨⟨a0, a1, a2, a3, a4, a5, a6, a7, a8, a9, a10, a11, a12⟩, b0, b1, b2, b3, b4, b5, b6, b7, b8, b9, b10, b11, b12⟩ := hS1; go_simp; try with_reducible rfl)
  try simp only [List.getElem_toArray, List.getElem_cons_zero, List.getElem_cons_succ, Act.put, List.setIfInBounds_toArray, List.set_cons_zero, List.set_cons_succ]
  refine wpAnyH_take (i := 18) (v := ?_) rfl (by kernel_rfl) (by kernel_rfl) (by kernel_rfl) (fun _ _ _ h => h) (Or.inl ⟨by rfl, ?_⟩) (HSK.out _ c8) ?_
  case refine_2 => (intro w1 hS1; obtain ⟨⟨a0, a1, a2, a3, a4, a5, a6, a7, a8, a9, a10, a11, a12⟩, b0, b1, b2, b3, b4, b5, b6, b7, b8, b9, b10, b11, b12⟩ := hS1; go_simp; try with_reducible rfl)
  try simp only [List.getElem_toArray, List.getElem_cons_zero, List.getElem_cons_succ, Act.put, List.setIfInBounds_toArray, List.set_cons_zero, List.set_cons_succ]
  refine wpAnyH_take (i := 20) (v := ?_) rfl (by kernel_rfl) (by kernel_rfl) (by kernel_rfl) (fun _ _ _ h => h) (Or.inl ⟨by rfl, ?_⟩) (HSK.out _ c8) ?_
  case refine_2 => (intro w1 hS1; obtain ⟨⟨a0, a1, a2, a3, a4, a5, a6, a7, a8, a9, a10, a11, a12⟩, b0, b1, b2, b3, b4, b5, b6, b7, b8, b9, b10, b11, b12⟩ := hS1; go_simp; try with_reducible rfl)
  try simp only [List.getElem_toArray, List.getElem_cons_zero, List.getElem_cons_succ, Act.put, List.setIfInBounds_toArray, List.set_cons_zero, List.set_cons_succ]
  refine wpAnyH_take (i := 21) (v := ?_) rfl (by kernel_rfl) (by kernel_rfl) (by kernel_rfl) (fun _ _ _ h => h) (Or.inl ⟨by rfl, ?_⟩) (HSK.out _ c8) ?_
  case refine_2 => (intro w1 hS1; obtain ⟨⟨a0, a1, a2, a3, a4, a5, a6, a7, a8, a9, a10, a11, a12⟩, b0, b1, b2, b3, b4, b5, b6, b7, b8, b9, b10, b11, b12⟩ := hS1; go_simp; try with_reducible rfl)
  try simp only [List.getElem_toArray, List.getElem_cons_zero, List.getElem_cons_succ, Act.put, List.setIfInBounds_toArray, List.set_cons_zero, List.set_cons_succ]
  refine wpAnyH_ready (rs := [19]) (by kernel_rfl) (by simp) ?_
  refine (AllReadyH.cons rfl (fun K hK => ?_) AllReadyH.nil)
  go_simp
  refine (HM1.out _ (HBK.out _ c8)).mono ?_
  rintro e W9 ⟨rfl, hb⟩
  have c9 : Below W4.heap.size W4 W9 := c8.trans (hb.mono c8.size)
  clear hb
  refine hK.out _ _ (HSK.out _ c9) (fun hHeld => ?_)
  clear hK K hHeld
  try simp only [List.getElem_toArray, List.getElem_cons_zero, List.getElem_cons_succ, Act.put, List.setIfInBounds_toArray, List.set_cons_zero, List.set_cons_succ]
  refine wpAnyH_ready (rs := [22]) (by kernel_rfl) (by simp) ?_
  refine (AllReadyH.cons rfl (fun K hK => ?_) AllReadyH.nil)
  go_simp
  refine (HM2.out _ (HBK.out _ c9)).mono ?_
  rintro e W10 ⟨rfl, hb⟩
  have c10 : Below W4.heap.size W4 W10 := c9.trans (hb.mono c9.size)
  clear hb
  refine hK.out _ _ (HSK.out _ c10) (fun hHeld => ?_)
  clear hK K hHeld
  try simp only [List.getElem_toArray, List.getElem_cons_zero, List.getElem_cons_succ, Act.put, List.setIfInBounds_toArray, List.set_cons_zero, List.set_cons_succ]
  refine wpAnyH_take (i := 23) (v := ?_) rfl (by kernel_rfl) (by kernel_rfl) (by kernel_rfl) (fun _ _ _ h => h) (Or.inl ⟨by rfl, ?_⟩) (HSK.out _ c10) ?_
  case refine_2 => (intro w1 hS1; obtain ⟨⟨a0, a1, a2, a3, a4, a5, a6, a7, a8, a9, a10, a11, a12⟩, b0, b1, b2, b3, b4, b5, b6, b7, b8, b9, b10, b11, b12⟩ := hS1; go_simp; try with_reducible rfl)
  try simp only [List.getElem_toArray, List.getElem_cons_zero, List.getElem_cons_succ, Act.put, List.setIfInBounds_toArray, List.set_cons_zero, List.set_cons_succ]
  refine wpAnyH_take (i := 24) (v := ?_) rfl (by kernel_rfl) (by kernel_rfl) (by kernel_rfl) (fun _ _ _ h => h) (Or.inl ⟨by rfl, ?_⟩) (HSK.out _ c10) ?_
  case refine_2 => (intro w1 hS1; obtain ⟨⟨a0, a1, a2, a3, a4, a5, a6, a7, a8, a9, a10, a11, a12⟩, b0, b1, b2, b3, b4, b5, b6, b7, b8, b9, b10, b11, b12⟩ := hS1; go_simp; try with_reducible rfl)
  try simp only [List.getElem_toArray, List.getElem_cons_zero, List.getElem_cons_succ, Act.put, List.setIfInBounds_toArray, List.set_cons_zero, List.set_cons_succ]
  refine wpAnyH_take (i := 25) (v := ?_) rfl (by kernel_rfl) (by kernel_rfl) (by kernel_rfl) (fun _ _ _ h => h) (Or.inl ⟨by rfl, ?_⟩) (HSK.out _ c10) ?_
  case refine_2 => (intro w1 hS1; obtain ⟨⟨a0, a1, a2, a3, a4, a5, a6, a7, a8, a9, a10, a11, a12⟩, b0, b1, b2, b3, b4, b5, b6, b7, b8, b9, b10, b11, b12⟩ := hS1; go_simp; try with_reducible rfl)
  try simp only [List.getElem_toArray, List.getElem_cons_zero, List.getElem_cons_succ, Act.put, List.setIfInBounds_toArray, List.set_cons_zero, List.set_cons_succ]
  refine wpAnyH_take (i := 26) (v := ?_) rfl (by kernel_rfl) (by kernel_rfl) (by kernel_rfl) (fun _ _ _ h => h) (Or.inl ⟨by rfl, ?_⟩) (HSK.out _ c10) ?_
  case refine_2 => (intro w1 hS1; obtain ⟨⟨a0, a1, a2, a3, a4, a5, a6, a7, a8, a9, a10, a11, a12⟩, b0, b1, b2, b3, b4, b5, b6, b7, b8, b9, b10, b11, b12⟩ := hS1; go_simp; try with_reducible rfl)
  try simp only [List.getElem_toArray, List.getElem_cons_zero, List.getElem_cons_succ, Act.put, List.setIfInBounds_toArray, List.set_cons_zero, List.set_cons_succ]
  refine wpAnyH_take (i := 27) (v := ?_) rfl (by kernel_rfl) (by kernel_rfl) (by kernel_rfl) (fun _ _ _ h => h) (Or.inl ⟨by rfl, ?_⟩) (HSK.out _ c10) ?_
  case refine_2 => (intro w1 hS1; obtain ⟨⟨a0, a1, a2, a3, a4, a5, a6, a7, a8, a9, a10, a11, a12⟩, b0, b1, b2, b3, b4, b5, b6, b7, b8, b9, b10, b11, b12⟩ := hS1; go_simp; try with_reducible rfl)
  try simp only [List.getElem_toArray, List.getElem_cons_zero, List.getElem_cons_succ, Act.put, List.setIfInBounds_toArray, List.set_cons_zero, List.set_cons_succ]
  refine wpAnyH_ready (rs := [28]) (by kernel_rfl) (by simp) ?_
  refine (AllReadyH.cons rfl (fun K hK => ?_) AllReadyH.nil)
  go_simp
  refine (HM3.out _ (HBK.out _ c10)).mono ?_
  rintro e W11 ⟨rfl, hb⟩
  have c11 : Below W4.heap.size W4 W11 := c10.trans (hb.mono c10.size)
  clear hb
  refine hK.out _ _ (HSK.out _ c11) (fun hHeld => ?_)
  clear hK K hHeld
  try simp only [List.getElem_toArray, List.getElem_cons_zero, List.getElem_cons_succ, Act.put, List.setIfInBounds_toArray, List.set_cons_zero, List.set_cons_succ]
  refine wpAnyH_take (i := 29) (v := ?_) rfl (by kernel_rfl) (by kernel_rfl) (by kernel_rfl) (fun _ _ _ h => h) (Or.inl ⟨by rfl, ?_⟩) (HSK.out _ c11) ?_
  case refine_2 => (intro w1 hS1; obtain ⟨⟨a0, a1, a2, a3, a4, a5, a6, a7, a8, a9, a10, a11, a12⟩, b0, b1, b2, b3, b4, b5, b6, b7, b8, b9, b10, b11, b12⟩ := hS1; go_simp; try with_reducible rfl)
  try simp only [List.getElem_toArray, List.getElem_cons_zero, List.getElem_cons_succ, Act.put, List.setIfInBounds_toArray, List.set_cons_zero, List.set_cons_succ]
  refine wpAnyH_take (i := 30) (v := ?_) rfl (by kernel_rfl) (by kernel_rfl) (by kernel_rfl) (fun _ _ _ h => h) (Or.inl ⟨by rfl, ?_⟩) (HSK.out _ c11) ?_
  case refine_2 => (intro w1 hS1; obtain ⟨⟨a0, a1, a2, a3, a4, a5, a6, a7, a8, a9, a10, a11, a12⟩, b0, b1, b2, b3, b4, b5, b6, b7, b8, b9, b10, b11, b12⟩ := hS1; go_simp; try with_reducible rfl)
  try simp only [List.getElem_toArray, List.getElem_cons_zero, List.getElem_cons_succ, Act.put, List.setIfInBounds_toArray, List.set_cons_zero, List.set_cons_succ]
  refine wpAnyH_ready (rs := [31]) (by kernel_rfl) (by simp) ?_
  refine (AllReadyH.cons rfl (fun K hK => ?_) AllReadyH.nil)
  go_simp
  refine (HLV.out _).mono ?_
  rintro e W12 ⟨rfl, hb⟩
  have c12 : Below W4.heap.size W4 W12 := c11.trans (hb.mono c11.size)
  clear hb
  refine hK.out _ _ (HSK.out _ c12) (fun hHeld => ?_)
  clear hK K hHeld
  try simp only [List.getElem_toArray, List.getElem_cons_zero, List.getElem_cons_succ, Act.put, List.setIfInBounds_toArray, List.set_cons_zero, List.set_cons_succ]
  refine wpAnyH_take (i := 32) (v := ?_) rfl (by kernel_rfl) (by kernel_rfl) (by kernel_rfl) (fun _ _ _ h => h) (Or.inl ⟨by rfl, ?_⟩) (HSK.out _ c12) ?_
  case refine_2 => (intro w1 hS1; obtain ⟨⟨a0, a1, a2, a3, a4, a5, a6, a7, a8, a9, a10, a11, a12⟩, b0, b1, b2, b3, b4, b5, b6, b7, b8, b9, b10, b11, b12⟩ := hS1; go_simp; try with_reducible rfl)
  try simp only [List.getElem_toArray, List.getElem_cons_zero, List.getElem_cons_succ, Act.put, List.setIfInBounds_toArray, List.set_cons_zero, List.set_cons_succ]
  refine wpAnyH_take (i := 33) (v := ?_) rfl (by kernel_rfl) (by kernel_rfl) (by kernel_rfl) (fun _ _ _ h => h) (Or.inl ⟨by rfl, ?_⟩) (HSK.out _ c12) ?_
  case refine_2 => (intro w1 hS1; obtain ⟨⟨a0, a1, a2, a3, a4, a5, a6, a7, a8, a9, a10, a11, a12⟩, b0, b1, b2, b3, b4, b5, b6, b7, b8, b9, b10, b11, b12⟩ := hS1; go_simp; try with_reducible rfl)
  try simp only [List.getElem_toArray, List.getElem_cons_zero, List.getElem_cons_succ, Act.put, List.setIfInBounds_toArray, List.set_cons_zero, List.set_cons_succ]
  refine wpAnyH_done (by kernel_rfl) ?_ _
  go_wp2_with fail
  go_ret
  exact ⟨rfl, HBK.out _ c12⟩
end Go.Proofs.Ytibjboacjobaoaa
