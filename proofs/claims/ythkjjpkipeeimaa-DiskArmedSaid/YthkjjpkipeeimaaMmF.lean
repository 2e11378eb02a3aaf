import Derived.Test.YthkjjpkipeeimaaDkQ
namespace Go.Proofs.Ythkjjpkipeeimaa
open Go.RowKit
/- The reference's disk: its rows of files; Find, Free, named. -/
open Go.RowKit Go.Maps
/-- A row of the reference's files that can be read. -/
def FRow (w : World) (a : Option Addr) (L : Ft) : Prop := ∀ i (hi : i < L.length), ∃ b o, a = some ⟨b, o, none⟩ ∧ b < w.heap.size ∧ w.cell? ⟨b, o + i * 3, none⟩ = some (encStr L[i].1) ∧ w.cell? ⟨b, o + i * 3 + 1, none⟩ = some (.string (str L[i].2.all)) ∧ w.cell? ⟨b, o + i * 3 + 2, none⟩ = some (.int .i64 (L[i].2.kept : Int))
theorem FRow.below {w w' : World} {a : Option Addr} {L : Ft} (h : FRow w a L) (hb : Below w.heap.size w w') : FRow w' a L := fun i hi => by
  obtain ⟨b, o, e, h1, h2, h3, h4⟩ := h i hi
  exact ⟨b, o, e, Nat.lt_of_lt_of_le h1 hb.size, (hb.cell (p := ⟨b, _, none⟩) h1).trans h2, (hb.cell (p := ⟨b, _, none⟩) h1).trans h3, (hb.cell (p := ⟨b, _, none⟩) h1).trans h4⟩
theorem str_size (bs : List Nat) : (str bs).size = bs.length := by
  show ((bs.map UInt8.ofNat).toArray).size = _
  simp
/-- A disk of the reference's. -/
def rdA (room : Int) (a : Option Addr) (n c : Nat) (down : Bool) (armed st : Int) : Array Value := #[.int .i64 room, .slice a n c, .bool down, .int .i64 armed, .int .u64 st]
theorem five_rd {w : World} {N : Nat} {x0 x1 x2 x3 x4 : Value} {t : TypeId} (h : w.heap[N]? = some (.cells #[x0, x1, x2, x3, x4] t (0, 0))) : w.cell? ⟨N, 0, none⟩ = some x0 ∧ w.cell? ⟨N, 1, none⟩ = some x1 ∧ w.cell? ⟨N, 2, none⟩ = some x2 ∧ w.cell? ⟨N, 3, none⟩ = some x3 ∧ w.cell? ⟨N, 4, none⟩ = some x4 := by
  refine ⟨?_, ?_, ?_, ?_, ?_⟩ <;> simp [World.cell?, h]
/-- Where a name stands, from a place on; minus one where it does not. -/
def Found (L : Ft) (n : Nm) (k : Int) : Prop := (k = -1 ∧ getF L n = none) ∨ ∃ i, ∃ hi : i < L.length, k = (i : Int) ∧ L[i].1 = n
theorem Found.get {L : Ft} {n : Nm} {k : Int} (h : Found L n k) (hs : SrtF L) : (k = -1 ∧ getF L n = none) ∨ ∃ i, ∃ hi : i < L.length, k = (i : Int) ∧ L[i].1 = n ∧ getF L n = some L[i].2 := by
  rcases h with h | ⟨i, hi, e, h1⟩
  · exact .inl h
  · exact .inr ⟨i, hi, e, h1, getF_of_mem hs (by rw [← h1]; exact List.getElem_mem hi)⟩
set_option maxRecDepth 100000 in
set_option maxHeartbeats 8000000 in
theorem rfind (room : Int) (a : Option Addr) (c : Nat) (down : Bool) (armed st : Int) (L : Ft) (n : Nm) (w : World) (h : FRow w a L) (hl : L.length ≤ 100000) : Calls Try.prog 108 #[.agg #[.int .i64 room, .slice a L.length c, .bool down, .int .i64 armed, .int .u64 st], encStr n] w fun e w' => ∃ k, e = .returned (.int .i64 k) ∧ Found L n k ∧ Below w.heap.size w w' := by
  obtain ⟨ln, hln⟩ : ∃ ln, L.length = ln := ⟨_, rfl⟩
  have HLN := Lib.hid hln
  obtain ⟨B1, s1, -⟩ := box1 w #[.int .i64 room, .slice a ln c, .bool down, .int .i64 armed, .int .u64 st] 30
  obtain ⟨-, c1, -⟩ := five_rd s1
  have HR := Lib.hid (h.below B1)
  have HB := Lib.hid B1
  have HL := Lib.hid hl
  rw [hln]
  clear h B1 s1 hl hln
  go_enter Try.func108, Try.ntmps108
  go_wp2_with fail
  obtain ⟨N, hN⟩ : ∃ N, w.heap.size = N := ⟨_, rfl⟩
  rw [hN] at c1
  try rw [hN]
  have HN := Lib.hid hN
  clear hN
  generalize w.alloc (.cells #[.int .i64 room, .slice a ln c, .bool down, .int .i64 armed, .int .u64 st] 30) = w1 at c1 HR HB ⊢
  go_loopg [5] ln (fun kx s5 wr => ∃ i : Nat, s5 = .int .i64 i ∧ i ≤ ln ∧ ln - i ≤ kx ∧ w1 = wr ∧ Hid (∀ j (hj : j < L.length), j < i → L[j].1 ≠ n))
  case atStart => exact ⟨0, rfl, by omega, by omega, rfl, Lib.hid (fun j _ h => by omega)⟩
  case round =>
    obtain ⟨i, rfl, hi, hk, rfl, HJ⟩ := hrel
    by_cases hlt : i < ln
    · have hltz : (i : Int) < (ln : Int) := by omega
      have hi0 : (0 : Int) ≤ (i : Int) := by omega
      have hiL : i < L.length := by rw [HLN.out]; exact hlt
      obtain ⟨b, o, rfl, hb, k0, -, -⟩ := HR.out i hiL
      obtain ⟨q, hq⟩ : ∃ q, L[i].1 = q := ⟨_, rfl⟩
      rw [hq] at k0
      by_cases he : q = n
      · subst he
        have HF : Hid (Found L q (i : Int)) := Lib.hid (.inr ⟨i, hiL, rfl, hq⟩)
        clear hq hb hk hi
        go_wp2_with fail
        go_ret
        exact ⟨_, rfl, HF.out, HB.out⟩
      · have hb2 : (q == n) = false := beq_false_of_ne he
        have HJ2 : Hid (∀ j (hj : j < L.length), j < i + 1 → L[j].1 ≠ n) := Lib.hid (fun j hj hji => by
          by_cases e : j = i
          · subst e; rw [hq]; exact he
          · exact HJ.out j hj (by omega))
        have HWI : Hid (wrap64 ((i : Int) + 1) = (i : Int) + 1) := Lib.hid (IntWalk.wrap64_in _ (by have := HL.out; have := HLN.out; omega))
        clear he hq hb HJ
        go_wp2_with fail
        go_roundg (ln - (i + 1))
        case measure => omega
        case rel => exact ⟨i + 1, by rw [HWI.out]; rfl, by omega, by omega, rfl, HJ2⟩
    · have hltz : ¬ (i : Int) < (ln : Int) := by omega
      obtain rfl : i = ln := by omega
      have HF : Hid (Found L n (-1)) := Lib.hid (.inl ⟨rfl, getF_none_of (fun p hp => by
        obtain ⟨j, hj, e⟩ := List.getElem_of_mem hp
        rw [← e]
        exact HJ.out j hj (by have := HLN.out; omega))⟩)
      clear HJ hk hi
      go_wp2_with fail
      go_ret
      exact ⟨_, rfl, HF.out, HB.out⟩
/- The reference's disk: Free, step, named. -/
open Go.RowKit Go.Maps
theorem sum_split : ∀ (L : Ft) (i : Nat), i < L.length → sumF L = sumF (L.take i) + sumF (L.drop i)
  | [], _, h => by simp at h
  | (m, g) :: r, 0, _ => by simp [sumF]
  | (m, g) :: r, i + 1, h => by
    simp only [List.take_succ_cons, List.drop_succ_cons, sumF]
    by_cases hi : i < r.length
    · rw [sum_split r i hi]; omega
    · simp at h; omega
theorem sum_drop (L : Ft) (i : Nat) (h : i < L.length) : sumF (L.drop i) = L[i].2.all.length + sumF (L.drop (i + 1)) := by
  rw [List.drop_eq_getElem_cons h]
  rfl
set_option maxRecDepth 100000 in
set_option maxHeartbeats 8000000 in
theorem rfree (room : Int) (a : Option Addr) (c : Nat) (down : Bool) (armed st : Int) (L : Ft) (w : World) (h : FRow w a L) (hl : L.length ≤ 100000) (hr : 0 ≤ room ∧ room ≤ 1048576) (hs : sumF L ≤ 1000000000) : Calls Try.prog 20 #[.agg #[.int .i64 room, .slice a L.length c, .bool down, .int .i64 armed, .int .u64 st]] w fun e w' => e = .returned (.int .i64 (if room < (sumF L : Int) then 0 else room - (sumF L : Int))) ∧ Below w.heap.size w w' := by
  obtain ⟨ln, hln⟩ : ∃ ln, L.length = ln := ⟨_, rfl⟩
  have HLN := Lib.hid hln
  obtain ⟨B1, s1, -⟩ := box1 w #[.int .i64 room, .slice a ln c, .bool down, .int .i64 armed, .int .u64 st] 30
  obtain ⟨c0, c1, -⟩ := five_rd s1
  have HR := Lib.hid (h.below B1)
  have HB := Lib.hid B1
  have HL := Lib.hid hl
  have HRM := Lib.hid hr
  have HSM := Lib.hid hs
  rw [hln]
  obtain ⟨z, hz⟩ : ∃ z : Int, (if room < (sumF L : Int) then 0 else room - (sumF L : Int)) = z := ⟨_, rfl⟩
  have HZ := Lib.hid hz
  rw [hz]
  clear h B1 s1 hl hln hr hs hz
  go_enter Try.func20, Try.ntmps20
  go_wp2_with fail
  obtain ⟨N, hN⟩ : ∃ N, w.heap.size = N := ⟨_, rfl⟩
  rw [hN] at c0 c1
  try rw [hN]
  have HN := Lib.hid hN
  clear hN
  generalize w.alloc (.cells #[.int .i64 room, .slice a ln c, .bool down, .int .i64 armed, .int .u64 st] 30) = w1 at c0 c1 HR HB ⊢
  go_loopg [3, 4] ln (fun kx s3 s4 wr => ∃ i : Nat, s4 = .int .i64 i ∧ s3 = .int .i64 (room - (sumF L : Int) + (sumF (L.drop i) : Int)) ∧ i ≤ ln ∧ ln - i ≤ kx ∧ w1 = wr)
  case atStart => exact ⟨0, rfl, by rw [List.drop_zero]; congr 1; omega, by omega, by omega, rfl⟩
  case round =>
    obtain ⟨i, rfl, rfl, hi, hk, rfl⟩ := hrel
    by_cases hlt : i < ln
    · have hltz : (i : Int) < (ln : Int) := by omega
      have hi0 : (0 : Int) ≤ (i : Int) := by omega
      have hiL : i < L.length := by rw [HLN.out]; exact hlt
      obtain ⟨b, o, rfl, hb, -, k1, -⟩ := HR.out i hiL
      have hsd := sum_drop L i hiL
      have hss := sum_split L i hiL
      obtain ⟨q, hq⟩ : ∃ q, str L[i].2.all = q := ⟨_, rfl⟩
      have hqs : q.size = L[i].2.all.length := by rw [← hq, str_size]
      rw [hq] at k1
      obtain ⟨lq, hlq⟩ : ∃ lq, L[i].2.all.length = lq := ⟨_, rfl⟩
      rw [hlq] at hqs hsd
      obtain ⟨x, hx⟩ : ∃ x : Int, room - (sumF L : Int) + (sumF (L.drop i) : Int) = x := ⟨_, rfl⟩
      have hbx : -2000000000 ≤ x ∧ x ≤ 2000000 := by have := HRM.out; have := HSM.out; omega
      have hlqb : lq ≤ 1000000000 := by have := HSM.out; omega
      have hnx : room - (sumF L : Int) + (sumF (L.drop (i + 1)) : Int) = x - (lq : Int) := by omega
      have HNX := Lib.hid hnx
      rw [hx]
      have HW1 : Hid (wrap64 (x - (lq : Int)) = x - (lq : Int)) := Lib.hid (IntWalk.wrap64_in _ (by omega))
      have HWI : Hid (wrap64 ((i : Int) + 1) = (i : Int) + 1) := Lib.hid (IntWalk.wrap64_in _ (by have := HL.out; have := HLN.out; omega))
      clear hq hlq hx hnx hsd hss hb hbx hlqb
      go_wp2_with fail
      go_roundg (ln - (i + 1))
      case measure => omega
      case rel => exact ⟨i + 1, by rw [HWI.out]; rfl, by rw [HNX.out]; try rw [HW1.out], by omega, by omega, rfl⟩
    · have hltz : ¬ (i : Int) < (ln : Int) := by omega
      obtain rfl : i = ln := by omega
      have hd : L.drop i = [] := List.drop_eq_nil_of_le (by rw [HLN.out]; exact Nat.le_refl _)
      rw [hd]
      have h0 : room - (sumF L : Int) + ((sumF ([] : Ft) : Nat) : Int) = room - (sumF L : Int) := by show _ + ((0 : Nat) : Int) = _; omega
      rw [h0]
      clear hd h0 hk hi
      obtain ⟨sm, hsm⟩ : ∃ sm, sumF L = sm := ⟨_, rfl⟩
      have HSS := Lib.hid hsm
      rw [hsm]
      clear hsm
      by_cases hc : room < (sm : Int)
      · have d1 : decide (room - (sm : Int) < 0) = true := decide_eq_true (by omega)
        have HC := Lib.hid hc
        clear hc
        go_wp2_with fail
        go_ret
        exact ⟨by rw [← HZ.out, HSS.out, if_pos HC.out]; rfl, HB.out⟩
      · have d1 : decide (room - (sm : Int) < 0) = false := decide_eq_false (by omega)
        have HC := Lib.hid hc
        clear hc
        go_wp2_with fail
        go_ret
        exact ⟨by rw [← HZ.out, HSS.out, if_neg (by have := HC.out; omega)]; rfl, HB.out⟩
theorem rnamed (n : Nm) (w : World) : Calls Try.prog 112 #[encStr n] w fun e w' => e = .returned (.bool (validN n)) ∧ w = w' := by
  have hs : ((⟨n.toArray⟩ : ByteArray).size : Int) = (n.length : Int) := by show ((n.toArray.size : Nat) : Int) = _; simp
  by_cases h0 : 1 ≤ n.length
  · have d0 : decide (1 ≤ n.length) = true := decide_eq_true h0
    have d0' : decide ((n.length : Int) ≥ 1) = true := decide_eq_true (by omega)
    have d0'' : decide (1 ≤ (n.length : Int)) = true := decide_eq_true (by omega)
    by_cases h1 : n.length ≤ 16
    · have d1 : decide (n.length ≤ 16) = true := decide_eq_true h1
      have d1' : decide ((n.length : Int) ≤ 16) = true := decide_eq_true (by omega)
      have hv : validN n = true := decide_eq_true ⟨h0, h1⟩
      rw [hv]
      clear h0 h1 hv
      go_enter Try.func112, Try.ntmps112
      go_wp2_with fail
      go_ret
      exact ⟨rfl, rfl⟩
    · have d1 : decide (n.length ≤ 16) = false := decide_eq_false h1
      have d1' : decide ((n.length : Int) ≤ 16) = false := decide_eq_false (by omega)
      have hv : validN n = false := decide_eq_false (fun h => h1 h.2)
      rw [hv]
      clear h0 h1 hv
      go_enter Try.func112, Try.ntmps112
      go_wp2_with fail
      go_ret
      exact ⟨rfl, rfl⟩
  · have d0 : decide (1 ≤ n.length) = false := decide_eq_false h0
    have d0' : decide ((n.length : Int) ≥ 1) = false := decide_eq_false (by omega)
    have d0'' : decide (1 ≤ (n.length : Int)) = false := decide_eq_false (by omega)
    have hv : validN n = false := decide_eq_false (fun h => h0 h.1)
    rw [hv]
    clear h0 hv
    go_enter Try.func112, Try.ntmps112
    go_wp2_with fail
    go_ret
    exact ⟨rfl, rfl⟩
/- The reference's disk: step. -/
open Go.RowKit Go.Maps
theorem rd_info : (Try.prog.info? 30).map (·.size) = some 5 := by kernel_rfl
theorem rd_res {fn : Func} {p u : Nat} (h : fn.results = #[.cell p 30, .tmp u]) (tmps : Array Value) (w : World) (N : Nat) (x0 x1 x2 x3 x4 : Value) (hp : tmps.getD p undef = .pointer (some ⟨N, 0, none⟩)) (h0 : w.cell? ⟨N, 0, none⟩ = some x0) (h1 : w.cell? ⟨N, 1, none⟩ = some x1) (h2 : w.cell? ⟨N, 2, none⟩ = some x2) (h3 : w.cell? ⟨N, 3, none⟩ = some x3) (h4 : w.cell? ⟨N, 4, none⟩ = some x4) : (results fn tmps).run Try.prog w = .ok (.tuple #[.agg #[x0, x1, x2, x3, x4], tmps.getD u undef]) w := by
  have hR : w.rangeAt N 0 [x0, x1, x2, x3, x4] := fun j u hj => by
    rcases j with _ | _ | _ | _ | _ | j
    · injection hj with hj; subst hj; exact h0
    · injection hj with hj; subst hj; exact h1
    · injection hj with hj; subst hj; exact h2
    · injection hj with hj; subst hj; exact h3
    · injection hj with hj; subst hj; exact h4
    · cases hj
  rw [results_cell_tmp h, hp]
  have hl := run_loadVar_mid w N 0 _ [x0, x1, x2, x3, x4] _ hR Try.underlying30 rfl rd_info
  simp only [asAddr, Sem.run_pure, Result.andThen_ok, hl]
/-- What a step makes of a disk of the reference's: whether it is down, armed; whether the power is on still. -/
def rstepV (down : Bool) (armed : Int) : Bool × Int × Bool := if armed = 0 then (true, -1, false) else if 0 < armed then (down, armed - 1, true) else (down, armed, true)
set_option maxRecDepth 100000 in
set_option maxHeartbeats 8000000 in
theorem rstep_zero (room : Int) (a : Option Addr) (n c : Nat) (down : Bool) (st : Int) (w : World) (hst : 0 ≤ st ∧ st < 1000000000) : Calls Try.prog 109 #[.agg #[.int .i64 room, .slice a n c, .bool down, .int .i64 0, .int .u64 st]] w fun e w' => e = .returned (.tuple #[.agg #[.int .i64 room, .slice a n c, .bool true, .int .i64 (-1), .int .u64 (st + 1)], .bool false]) ∧ Below w.heap.size w w' := by
  obtain ⟨B1, s0, s1, hz⟩ := box2 w #[.int .i64 room, .slice a n c, .bool down, .int .i64 0, .int .u64 st] #[.int .i64 0, .slice none 0 0, .bool false, .int .i64 0, .int .u64 0] 30 30
  obtain ⟨c0, c1, c2, c3, c4⟩ := five_rd s0
  obtain ⟨p0, p1, p2, p3, p4⟩ := five_rd s1
  have HB := Lib.hid B1
  have HS0 := Lib.hid s0
  have HS1 := Lib.hid s1
  have hw1 : IntKind.u64.wrap (st + 1) = st + 1 := IntWalk.u64_in _ ⟨by omega, by omega⟩
  clear B1 s0 s1 hz hst
  go_enter Try.func109, Try.ntmps109
  go_upto_region 1 with fail
  obtain ⟨N, hN⟩ : ∃ N, w.heap.size = N := ⟨_, rfl⟩
  have HN := Lib.hid hN
  rw [hN] at c0 c1 c2 c3 c4 p0 p1 p2 p3 p4 HS0 HS1
  try rw [hN]
  clear hN
  generalize (w.alloc (.cells #[.int .i64 room, .slice a n c, .bool down, .int .i64 0, .int .u64 st] 30)).alloc (.cells #[.int .i64 0, .slice none 0 0, .bool false, .int .i64 0, .int .u64 0] 30) = w1 at c0 c1 c2 c3 c4 p0 p1 p2 p3 p4 HS0 HS1 HB ⊢
  have f0 : ∀ o, w1.frozen? ⟨N, o, none⟩ = false := fun o => by simp [World.frozen?, HS0.out]
  have f1 : ∀ o, w1.frozen? ⟨N + 1, o, none⟩ = false := fun o => by simp [World.frozen?, HS1.out]
  have HL : Hid (N + 1 < w1.heap.size) := Lib.hid (ex_lt HS1.out)
  go_wp2_with fail
  refine bodyPost_ret (rd_res rfl _ _ (N + 1) (.int .i64 room) (.slice a n c) (.bool true) (.int .i64 (-1)) (.int .u64 (st + 1)) rfl (by go_simp) (by go_simp) (by go_simp) (by go_simp) (by go_simp)) rfl ?_
  have hN := HN.out
  refine ⟨rfl, ?_⟩
  exact below_two (below_two (below_two (below_two (below_two (below_two (below_two (below_two (HB.out) (by omega) _ _) (by omega) _ _) (by omega) _ _) (by omega) _ _) (by omega) _ _) (by omega) _ _) (by omega) _ _) (by omega) _ _
set_option maxRecDepth 100000 in
set_option maxHeartbeats 8000000 in
theorem rstep_on (room : Int) (a : Option Addr) (n c : Nat) (down : Bool) (armed : Int) (ha : 0 < armed ∧ armed < 9223372036854775808) (st : Int) (w : World) (hst : 0 ≤ st ∧ st < 1000000000) : Calls Try.prog 109 #[.agg #[.int .i64 room, .slice a n c, .bool down, .int .i64 armed, .int .u64 st]] w fun e w' => e = .returned (.tuple #[.agg #[.int .i64 room, .slice a n c, .bool down, .int .i64 (armed - 1), .int .u64 (st + 1)], .bool true]) ∧ Below w.heap.size w w' := by
  obtain ⟨B1, s0, s1, hz⟩ := box2 w #[.int .i64 room, .slice a n c, .bool down, .int .i64 armed, .int .u64 st] #[.int .i64 0, .slice none 0 0, .bool false, .int .i64 0, .int .u64 0] 30 30
  obtain ⟨c0, c1, c2, c3, c4⟩ := five_rd s0
  obtain ⟨p0, p1, p2, p3, p4⟩ := five_rd s1
  have HB := Lib.hid B1
  have HS0 := Lib.hid s0
  have HS1 := Lib.hid s1
  have hw1 : IntKind.u64.wrap (st + 1) = st + 1 := IntWalk.u64_in _ ⟨by omega, by omega⟩
  have e0 : decide (armed = 0) = false := decide_eq_false (by omega)
  have e1 : (armed == 0) = false := by simp; omega
  have e2 : decide (armed > 0) = true := decide_eq_true (by omega)
  have e3 : decide (0 < armed) = true := decide_eq_true (by omega)
  have hbb : -9223372036854775808 ≤ armed ∧ armed < 9223372036854775808 := by omega
  clear B1 s0 s1 hz hst
  go_enter Try.func109, Try.ntmps109
  go_upto_region 1 with fail
  obtain ⟨N, hN⟩ : ∃ N, w.heap.size = N := ⟨_, rfl⟩
  have HN := Lib.hid hN
  rw [hN] at c0 c1 c2 c3 c4 p0 p1 p2 p3 p4 HS0 HS1
  try rw [hN]
  clear hN
  generalize (w.alloc (.cells #[.int .i64 room, .slice a n c, .bool down, .int .i64 armed, .int .u64 st] 30)).alloc (.cells #[.int .i64 0, .slice none 0 0, .bool false, .int .i64 0, .int .u64 0] 30) = w1 at c0 c1 c2 c3 c4 p0 p1 p2 p3 p4 HS0 HS1 HB ⊢
  have f0 : ∀ o, w1.frozen? ⟨N, o, none⟩ = false := fun o => by simp [World.frozen?, HS0.out]
  have f1 : ∀ o, w1.frozen? ⟨N + 1, o, none⟩ = false := fun o => by simp [World.frozen?, HS1.out]
  have HL : Hid (N + 1 < w1.heap.size) := Lib.hid (ex_lt HS1.out)
  go_wp2_with fail
  refine bodyPost_ret (rd_res rfl _ _ (N + 1) (.int .i64 room) (.slice a n c) (.bool down) (.int .i64 (armed - 1)) (.int .u64 (st + 1)) rfl (by go_simp) (by go_simp) (by go_simp) (by go_simp) (by go_simp)) rfl ?_
  have hN := HN.out
  refine ⟨rfl, ?_⟩
  exact below_two (below_two (below_two (below_two (below_two (below_two (below_two (HB.out) (by omega) _ _) (by omega) _ _) (by omega) _ _) (by omega) _ _) (by omega) _ _) (by omega) _ _) (by omega) _ _
set_option maxRecDepth 100000 in
set_option maxHeartbeats 8000000 in
theorem rstep_un (room : Int) (a : Option Addr) (n c : Nat) (down : Bool) (armed : Int) (ha : armed < 0) (st : Int) (w : World) (hst : 0 ≤ st ∧ st < 1000000000) : Calls Try.prog 109 #[.agg #[.int .i64 room, .slice a n c, .bool down, .int .i64 armed, .int .u64 st]] w fun e w' => e = .returned (.tuple #[.agg #[.int .i64 room, .slice a n c, .bool down, .int .i64 (armed), .int .u64 (st + 1)], .bool true]) ∧ Below w.heap.size w w' := by
  obtain ⟨B1, s0, s1, hz⟩ := box2 w #[.int .i64 room, .slice a n c, .bool down, .int .i64 armed, .int .u64 st] #[.int .i64 0, .slice none 0 0, .bool false, .int .i64 0, .int .u64 0] 30 30
  obtain ⟨c0, c1, c2, c3, c4⟩ := five_rd s0
  obtain ⟨p0, p1, p2, p3, p4⟩ := five_rd s1
  have HB := Lib.hid B1
  have HS0 := Lib.hid s0
  have HS1 := Lib.hid s1
  have hw1 : IntKind.u64.wrap (st + 1) = st + 1 := IntWalk.u64_in _ ⟨by omega, by omega⟩
  have e0 : decide (armed = 0) = false := decide_eq_false (by omega)
  have e1 : (armed == 0) = false := by simp; omega
  have e2 : decide (armed > 0) = false := decide_eq_false (by omega)
  have e3 : decide (0 < armed) = false := decide_eq_false (by omega)
  clear B1 s0 s1 hz hst
  go_enter Try.func109, Try.ntmps109
  go_upto_region 1 with fail
  obtain ⟨N, hN⟩ : ∃ N, w.heap.size = N := ⟨_, rfl⟩
  have HN := Lib.hid hN
  rw [hN] at c0 c1 c2 c3 c4 p0 p1 p2 p3 p4 HS0 HS1
  try rw [hN]
  clear hN
  generalize (w.alloc (.cells #[.int .i64 room, .slice a n c, .bool down, .int .i64 armed, .int .u64 st] 30)).alloc (.cells #[.int .i64 0, .slice none 0 0, .bool false, .int .i64 0, .int .u64 0] 30) = w1 at c0 c1 c2 c3 c4 p0 p1 p2 p3 p4 HS0 HS1 HB ⊢
  have f0 : ∀ o, w1.frozen? ⟨N, o, none⟩ = false := fun o => by simp [World.frozen?, HS0.out]
  have f1 : ∀ o, w1.frozen? ⟨N + 1, o, none⟩ = false := fun o => by simp [World.frozen?, HS1.out]
  have HL : Hid (N + 1 < w1.heap.size) := Lib.hid (ex_lt HS1.out)
  go_wp2_with fail
  refine bodyPost_ret (rd_res rfl _ _ (N + 1) (.int .i64 room) (.slice a n c) (.bool down) (.int .i64 (armed)) (.int .u64 (st + 1)) rfl (by go_simp) (by go_simp) (by go_simp) (by go_simp) (by go_simp)) rfl ?_
  have hN := HN.out
  refine ⟨rfl, ?_⟩
  exact below_two (below_two (below_two (below_two (below_two (below_two (HB.out) (by omega) _ _) (by omega) _ _) (by omega) _ _) (by omega) _ _) (by omega) _ _) (by omega) _ _
/- The reference's disk: New, Boot, Arm, Resize. -/
open Go.RowKit Go.Maps
theorem rd_res1 {fn : Func} {p : Nat} (h : fn.results = #[.cell p 30]) (tmps : Array Value) (w : World) (N : Nat) (x0 x1 x2 x3 x4 : Value) (hp : tmps.getD p undef = .pointer (some ⟨N, 0, none⟩)) (h0 : w.cell? ⟨N, 0, none⟩ = some x0) (h1 : w.cell? ⟨N, 1, none⟩ = some x1) (h2 : w.cell? ⟨N, 2, none⟩ = some x2) (h3 : w.cell? ⟨N, 3, none⟩ = some x3) (h4 : w.cell? ⟨N, 4, none⟩ = some x4) : (results fn tmps).run Try.prog w = .ok (.agg #[x0, x1, x2, x3, x4]) w := by
  have hR : w.rangeAt N 0 [x0, x1, x2, x3, x4] := fun j u hj => by
    rcases j with _ | _ | _ | _ | _ | j
    · injection hj with hj; subst hj; exact h0
    · injection hj with hj; subst hj; exact h1
    · injection hj with hj; subst hj; exact h2
    · injection hj with hj; subst hj; exact h3
    · injection hj with hj; subst hj; exact h4
    · cases hj
  have hl := run_loadVar_mid w N 0 _ [x0, x1, x2, x3, x4] _ hR Try.underlying30 rfl rd_info
  have hp' : tmps[p]?.getD undef = .pointer (some ⟨N, 0, none⟩) := by simpa using hp
  simp [results, h, hp', asAddr, hl]
set_option maxRecDepth 100000 in
set_option maxHeartbeats 8000000 in
theorem rboot (room : Int) (a : Option Addr) (n c : Nat) (down : Bool) (armed st : Int) (w : World) : Calls Try.prog 68 #[.agg #[.int .i64 room, .slice a n c, .bool down, .int .i64 armed, .int .u64 st]] w fun e w' => e = .returned (.agg #[.int .i64 room, .slice a n c, .bool false, .int .i64 (-1), .int .u64 st]) ∧ Below w.heap.size w w' := by
  obtain ⟨B1, s0, s1, hz⟩ := box2 w #[.int .i64 room, .slice a n c, .bool down, .int .i64 armed, .int .u64 st] #[.int .i64 0, .slice none 0 0, .bool false, .int .i64 0, .int .u64 0] 30 30
  obtain ⟨c0, c1, c2, c3, c4⟩ := five_rd s0
  obtain ⟨p0, p1, p2, p3, p4⟩ := five_rd s1
  have HB := Lib.hid B1
  have HS0 := Lib.hid s0
  have HS1 := Lib.hid s1
  clear B1 s0 s1 hz
  go_enter Try.func68, Try.ntmps68
  go_upto_region 1 with fail
  obtain ⟨N, hN⟩ : ∃ N, w.heap.size = N := ⟨_, rfl⟩
  have HN := Lib.hid hN
  rw [hN] at c0 c1 c2 c3 c4 p0 p1 p2 p3 p4 HS0 HS1
  try rw [hN]
  clear hN
  generalize (w.alloc (.cells #[.int .i64 room, .slice a n c, .bool down, .int .i64 armed, .int .u64 st] 30)).alloc (.cells #[.int .i64 0, .slice none 0 0, .bool false, .int .i64 0, .int .u64 0] 30) = w1 at c0 c1 c2 c3 c4 p0 p1 p2 p3 p4 HS0 HS1 HB ⊢
  have f0 : ∀ o, w1.frozen? ⟨N, o, none⟩ = false := fun o => by simp [World.frozen?, HS0.out]
  have f1 : ∀ o, w1.frozen? ⟨N + 1, o, none⟩ = false := fun o => by simp [World.frozen?, HS1.out]
  go_wp2_with fail
  refine bodyPost_ret (rd_res1 rfl _ _ (N + 1) (.int .i64 room) (.slice a n c) (.bool false) (.int .i64 (-1)) (.int .u64 st) rfl (by go_simp) (by go_simp) (by go_simp) (by go_simp) (by go_simp)) rfl ?_
  have hN := HN.out
  refine ⟨rfl, ?_⟩
  exact below_two (below_two (below_two (below_two (below_two (below_two (below_two (HB.out) (by omega) _ _) (by omega) _ _) (by omega) _ _) (by omega) _ _) (by omega) _ _) (by omega) _ _) (by omega) _ _
set_option maxRecDepth 100000 in
set_option maxHeartbeats 8000000 in
theorem rarm_down (room : Int) (a : Option Addr) (n c : Nat) (down : Bool) (armed st : Int) (x : Int) (w : World) : Calls Try.prog 65 #[.agg #[.int .i64 room, .slice a n c, .bool true, .int .i64 armed, .int .u64 st], .int .i64 x] w fun e w' => e = .returned (.tuple #[.agg #[.int .i64 room, .slice a n c, .bool true, .int .i64 armed, .int .u64 st], .int .i64 50]) ∧ Below w.heap.size w w' := by
  obtain ⟨B1, s0, s1, hz⟩ := box2 w #[.int .i64 room, .slice a n c, .bool true, .int .i64 armed, .int .u64 st] #[.int .i64 0, .slice none 0 0, .bool false, .int .i64 0, .int .u64 0] 30 30
  obtain ⟨c0, c1, c2, c3, c4⟩ := five_rd s0
  obtain ⟨p0, p1, p2, p3, p4⟩ := five_rd s1
  have HB := Lib.hid B1
  have HS0 := Lib.hid s0
  have HS1 := Lib.hid s1
  clear B1 s0 s1 hz
  go_enter Try.func65, Try.ntmps65
  go_upto_region 1 with fail
  obtain ⟨N, hN⟩ : ∃ N, w.heap.size = N := ⟨_, rfl⟩
  have HN := Lib.hid hN
  rw [hN] at c0 c1 c2 c3 c4 p0 p1 p2 p3 p4 HS0 HS1
  try rw [hN]
  clear hN
  generalize (w.alloc (.cells #[.int .i64 room, .slice a n c, .bool true, .int .i64 armed, .int .u64 st] 30)).alloc (.cells #[.int .i64 0, .slice none 0 0, .bool false, .int .i64 0, .int .u64 0] 30) = w1 at c0 c1 c2 c3 c4 p0 p1 p2 p3 p4 HS0 HS1 HB ⊢
  have f0 : ∀ o, w1.frozen? ⟨N, o, none⟩ = false := fun o => by simp [World.frozen?, HS0.out]
  have f1 : ∀ o, w1.frozen? ⟨N + 1, o, none⟩ = false := fun o => by simp [World.frozen?, HS1.out]
  go_wp2_with fail
  refine bodyPost_ret (rd_res rfl _ _ (N + 1) (.int .i64 room) (.slice a n c) (.bool true) (.int .i64 armed) (.int .u64 st) rfl (by go_simp) (by go_simp) (by go_simp) (by go_simp) (by go_simp)) rfl ?_
  have hN := HN.out
  refine ⟨rfl, ?_⟩
  exact below_two (below_two (below_two (below_two (below_two (HB.out) (by omega) _ _) (by omega) _ _) (by omega) _ _) (by omega) _ _) (by omega) _ _
set_option maxRecDepth 100000 in
set_option maxHeartbeats 8000000 in
theorem rarm_arg (room : Int) (a : Option Addr) (n c : Nat) (down : Bool) (armed st : Int) (x : Int) (hx : x < 0) (w : World) : Calls Try.prog 65 #[.agg #[.int .i64 room, .slice a n c, .bool false, .int .i64 armed, .int .u64 st], .int .i64 x] w fun e w' => e = .returned (.tuple #[.agg #[.int .i64 room, .slice a n c, .bool false, .int .i64 armed, .int .u64 st], .int .i64 2]) ∧ Below w.heap.size w w' := by
  obtain ⟨B1, s0, s1, hz⟩ := box2 w #[.int .i64 room, .slice a n c, .bool false, .int .i64 armed, .int .u64 st] #[.int .i64 0, .slice none 0 0, .bool false, .int .i64 0, .int .u64 0] 30 30
  obtain ⟨c0, c1, c2, c3, c4⟩ := five_rd s0
  obtain ⟨p0, p1, p2, p3, p4⟩ := five_rd s1
  have HB := Lib.hid B1
  have HS0 := Lib.hid s0
  have HS1 := Lib.hid s1
  have d : decide (x < 0) = true := decide_eq_true hx
  clear B1 s0 s1 hz
  go_enter Try.func65, Try.ntmps65
  go_upto_region 1 with fail
  obtain ⟨N, hN⟩ : ∃ N, w.heap.size = N := ⟨_, rfl⟩
  have HN := Lib.hid hN
  rw [hN] at c0 c1 c2 c3 c4 p0 p1 p2 p3 p4 HS0 HS1
  try rw [hN]
  clear hN
  generalize (w.alloc (.cells #[.int .i64 room, .slice a n c, .bool false, .int .i64 armed, .int .u64 st] 30)).alloc (.cells #[.int .i64 0, .slice none 0 0, .bool false, .int .i64 0, .int .u64 0] 30) = w1 at c0 c1 c2 c3 c4 p0 p1 p2 p3 p4 HS0 HS1 HB ⊢
  have f0 : ∀ o, w1.frozen? ⟨N, o, none⟩ = false := fun o => by simp [World.frozen?, HS0.out]
  have f1 : ∀ o, w1.frozen? ⟨N + 1, o, none⟩ = false := fun o => by simp [World.frozen?, HS1.out]
  go_wp2_with fail
  refine bodyPost_ret (rd_res rfl _ _ (N + 1) (.int .i64 room) (.slice a n c) (.bool false) (.int .i64 armed) (.int .u64 st) rfl (by go_simp) (by go_simp) (by go_simp) (by go_simp) (by go_simp)) rfl ?_
  have hN := HN.out
  refine ⟨rfl, ?_⟩
  exact below_two (below_two (below_two (below_two (below_two (HB.out) (by omega) _ _) (by omega) _ _) (by omega) _ _) (by omega) _ _) (by omega) _ _
set_option maxRecDepth 100000 in
set_option maxHeartbeats 8000000 in
theorem rarm_ok (room : Int) (a : Option Addr) (n c : Nat) (down : Bool) (armed st : Int) (x : Int) (hx : 0 ≤ x) (w : World) : Calls Try.prog 65 #[.agg #[.int .i64 room, .slice a n c, .bool false, .int .i64 armed, .int .u64 st], .int .i64 x] w fun e w' => e = .returned (.tuple #[.agg #[.int .i64 room, .slice a n c, .bool false, .int .i64 x, .int .u64 st], .int .i64 0]) ∧ Below w.heap.size w w' := by
  obtain ⟨B1, s0, s1, hz⟩ := box2 w #[.int .i64 room, .slice a n c, .bool false, .int .i64 armed, .int .u64 st] #[.int .i64 0, .slice none 0 0, .bool false, .int .i64 0, .int .u64 0] 30 30
  obtain ⟨c0, c1, c2, c3, c4⟩ := five_rd s0
  obtain ⟨p0, p1, p2, p3, p4⟩ := five_rd s1
  have HB := Lib.hid B1
  have HS0 := Lib.hid s0
  have HS1 := Lib.hid s1
  have d : decide (x < 0) = false := decide_eq_false (by omega)
  clear B1 s0 s1 hz
  go_enter Try.func65, Try.ntmps65
  go_upto_region 1 with fail
  obtain ⟨N, hN⟩ : ∃ N, w.heap.size = N := ⟨_, rfl⟩
  have HN := Lib.hid hN
  rw [hN] at c0 c1 c2 c3 c4 p0 p1 p2 p3 p4 HS0 HS1
  try rw [hN]
  clear hN
  generalize (w.alloc (.cells #[.int .i64 room, .slice a n c, .bool false, .int .i64 armed, .int .u64 st] 30)).alloc (.cells #[.int .i64 0, .slice none 0 0, .bool false, .int .i64 0, .int .u64 0] 30) = w1 at c0 c1 c2 c3 c4 p0 p1 p2 p3 p4 HS0 HS1 HB ⊢
  have f0 : ∀ o, w1.frozen? ⟨N, o, none⟩ = false := fun o => by simp [World.frozen?, HS0.out]
  have f1 : ∀ o, w1.frozen? ⟨N + 1, o, none⟩ = false := fun o => by simp [World.frozen?, HS1.out]
  go_wp2_with fail
  refine bodyPost_ret (rd_res rfl _ _ (N + 1) (.int .i64 room) (.slice a n c) (.bool false) (.int .i64 x) (.int .u64 st) rfl (by go_simp) (by go_simp) (by go_simp) (by go_simp) (by go_simp)) rfl ?_
  have hN := HN.out
  refine ⟨rfl, ?_⟩
  exact below_two (below_two (below_two (below_two (below_two (below_two (HB.out) (by omega) _ _) (by omega) _ _) (by omega) _ _) (by omega) _ _) (by omega) _ _) (by omega) _ _
set_option maxRecDepth 100000 in
set_option maxHeartbeats 8000000 in
theorem rresize_down (room : Int) (a : Option Addr) (n c : Nat) (down : Bool) (armed st : Int) (x : Int) (w : World) : Calls Try.prog 69 #[.agg #[.int .i64 room, .slice a n c, .bool true, .int .i64 armed, .int .u64 st], .int .i64 x] w fun e w' => e = .returned (.tuple #[.agg #[.int .i64 room, .slice a n c, .bool true, .int .i64 armed, .int .u64 st], .int .i64 50]) ∧ Below w.heap.size w w' := by
  obtain ⟨B1, s0, s1, hz⟩ := box2 w #[.int .i64 room, .slice a n c, .bool true, .int .i64 armed, .int .u64 st] #[.int .i64 0, .slice none 0 0, .bool false, .int .i64 0, .int .u64 0] 30 30
  obtain ⟨c0, c1, c2, c3, c4⟩ := five_rd s0
  obtain ⟨p0, p1, p2, p3, p4⟩ := five_rd s1
  have HB := Lib.hid B1
  have HS0 := Lib.hid s0
  have HS1 := Lib.hid s1
  clear B1 s0 s1 hz
  go_enter Try.func69, Try.ntmps69
  go_upto_region 1 with fail
  obtain ⟨N, hN⟩ : ∃ N, w.heap.size = N := ⟨_, rfl⟩
  have HN := Lib.hid hN
  rw [hN] at c0 c1 c2 c3 c4 p0 p1 p2 p3 p4 HS0 HS1
  try rw [hN]
  clear hN
  generalize (w.alloc (.cells #[.int .i64 room, .slice a n c, .bool true, .int .i64 armed, .int .u64 st] 30)).alloc (.cells #[.int .i64 0, .slice none 0 0, .bool false, .int .i64 0, .int .u64 0] 30) = w1 at c0 c1 c2 c3 c4 p0 p1 p2 p3 p4 HS0 HS1 HB ⊢
  have f0 : ∀ o, w1.frozen? ⟨N, o, none⟩ = false := fun o => by simp [World.frozen?, HS0.out]
  have f1 : ∀ o, w1.frozen? ⟨N + 1, o, none⟩ = false := fun o => by simp [World.frozen?, HS1.out]
  go_wp2_with fail
  refine bodyPost_ret (rd_res rfl _ _ (N + 1) (.int .i64 room) (.slice a n c) (.bool true) (.int .i64 armed) (.int .u64 st) rfl (by go_simp) (by go_simp) (by go_simp) (by go_simp) (by go_simp)) rfl ?_
  have hN := HN.out
  refine ⟨rfl, ?_⟩
  exact below_two (below_two (below_two (below_two (below_two (HB.out) (by omega) _ _) (by omega) _ _) (by omega) _ _) (by omega) _ _) (by omega) _ _
set_option maxRecDepth 100000 in
set_option maxHeartbeats 8000000 in
theorem rresize_lo (room : Int) (a : Option Addr) (n c : Nat) (down : Bool) (armed st : Int) (x : Int) (hx : x < 0) (w : World) : Calls Try.prog 69 #[.agg #[.int .i64 room, .slice a n c, .bool false, .int .i64 armed, .int .u64 st], .int .i64 x] w fun e w' => e = .returned (.tuple #[.agg #[.int .i64 room, .slice a n c, .bool false, .int .i64 armed, .int .u64 st], .int .i64 2]) ∧ Below w.heap.size w w' := by
  obtain ⟨B1, s0, s1, hz⟩ := box2 w #[.int .i64 room, .slice a n c, .bool false, .int .i64 armed, .int .u64 st] #[.int .i64 0, .slice none 0 0, .bool false, .int .i64 0, .int .u64 0] 30 30
  obtain ⟨c0, c1, c2, c3, c4⟩ := five_rd s0
  obtain ⟨p0, p1, p2, p3, p4⟩ := five_rd s1
  have HB := Lib.hid B1
  have HS0 := Lib.hid s0
  have HS1 := Lib.hid s1
  have d : decide (x < 0) = true := decide_eq_true hx
  clear B1 s0 s1 hz
  go_enter Try.func69, Try.ntmps69
  go_upto_region 1 with fail
  obtain ⟨N, hN⟩ : ∃ N, w.heap.size = N := ⟨_, rfl⟩
  have HN := Lib.hid hN
  rw [hN] at c0 c1 c2 c3 c4 p0 p1 p2 p3 p4 HS0 HS1
  try rw [hN]
  clear hN
  generalize (w.alloc (.cells #[.int .i64 room, .slice a n c, .bool false, .int .i64 armed, .int .u64 st] 30)).alloc (.cells #[.int .i64 0, .slice none 0 0, .bool false, .int .i64 0, .int .u64 0] 30) = w1 at c0 c1 c2 c3 c4 p0 p1 p2 p3 p4 HS0 HS1 HB ⊢
  have f0 : ∀ o, w1.frozen? ⟨N, o, none⟩ = false := fun o => by simp [World.frozen?, HS0.out]
  have f1 : ∀ o, w1.frozen? ⟨N + 1, o, none⟩ = false := fun o => by simp [World.frozen?, HS1.out]
  go_wp2_with fail
  refine bodyPost_ret (rd_res rfl _ _ (N + 1) (.int .i64 room) (.slice a n c) (.bool false) (.int .i64 armed) (.int .u64 st) rfl (by go_simp) (by go_simp) (by go_simp) (by go_simp) (by go_simp)) rfl ?_
  have hN := HN.out
  refine ⟨rfl, ?_⟩
  exact below_two (below_two (below_two (below_two (below_two (HB.out) (by omega) _ _) (by omega) _ _) (by omega) _ _) (by omega) _ _) (by omega) _ _
set_option maxRecDepth 100000 in
set_option maxHeartbeats 8000000 in
theorem rresize_hi (room : Int) (a : Option Addr) (n c : Nat) (down : Bool) (armed st : Int) (x : Int) (hx : 1048576 < x) (w : World) : Calls Try.prog 69 #[.agg #[.int .i64 room, .slice a n c, .bool false, .int .i64 armed, .int .u64 st], .int .i64 x] w fun e w' => e = .returned (.tuple #[.agg #[.int .i64 room, .slice a n c, .bool false, .int .i64 armed, .int .u64 st], .int .i64 2]) ∧ Below w.heap.size w w' := by
  obtain ⟨B1, s0, s1, hz⟩ := box2 w #[.int .i64 room, .slice a n c, .bool false, .int .i64 armed, .int .u64 st] #[.int .i64 0, .slice none 0 0, .bool false, .int .i64 0, .int .u64 0] 30 30
  obtain ⟨c0, c1, c2, c3, c4⟩ := five_rd s0
  obtain ⟨p0, p1, p2, p3, p4⟩ := five_rd s1
  have HB := Lib.hid B1
  have HS0 := Lib.hid s0
  have HS1 := Lib.hid s1
  have d : decide (x < 0) = false := decide_eq_false (by omega)
  have d2 : decide (x > 1048576) = true := decide_eq_true (by omega)
  have d3 : decide (1048576 < x) = true := decide_eq_true (by omega)
  clear B1 s0 s1 hz
  go_enter Try.func69, Try.ntmps69
  go_upto_region 1 with fail
  obtain ⟨N, hN⟩ : ∃ N, w.heap.size = N := ⟨_, rfl⟩
  have HN := Lib.hid hN
  rw [hN] at c0 c1 c2 c3 c4 p0 p1 p2 p3 p4 HS0 HS1
  try rw [hN]
  clear hN
  generalize (w.alloc (.cells #[.int .i64 room, .slice a n c, .bool false, .int .i64 armed, .int .u64 st] 30)).alloc (.cells #[.int .i64 0, .slice none 0 0, .bool false, .int .i64 0, .int .u64 0] 30) = w1 at c0 c1 c2 c3 c4 p0 p1 p2 p3 p4 HS0 HS1 HB ⊢
  have f0 : ∀ o, w1.frozen? ⟨N, o, none⟩ = false := fun o => by simp [World.frozen?, HS0.out]
  have f1 : ∀ o, w1.frozen? ⟨N + 1, o, none⟩ = false := fun o => by simp [World.frozen?, HS1.out]
  go_wp2_with fail
  refine bodyPost_ret (rd_res rfl _ _ (N + 1) (.int .i64 room) (.slice a n c) (.bool false) (.int .i64 armed) (.int .u64 st) rfl (by go_simp) (by go_simp) (by go_simp) (by go_simp) (by go_simp)) rfl ?_
  have hN := HN.out
  refine ⟨rfl, ?_⟩
  exact below_two (below_two (below_two (below_two (below_two (HB.out) (by omega) _ _) (by omega) _ _) (by omega) _ _) (by omega) _ _) (by omega) _ _
set_option maxRecDepth 100000 in
set_option maxHeartbeats 8000000 in
theorem rresize_ok (room : Int) (a : Option Addr) (n c : Nat) (down : Bool) (armed st : Int) (x : Int) (hx : 0 ≤ x ∧ x ≤ 1048576) (w : World) : Calls Try.prog 69 #[.agg #[.int .i64 room, .slice a n c, .bool false, .int .i64 armed, .int .u64 st], .int .i64 x] w fun e w' => e = .returned (.tuple #[.agg #[.int .i64 x, .slice a n c, .bool false, .int .i64 armed, .int .u64 st], .int .i64 0]) ∧ Below w.heap.size w w' := by
  obtain ⟨B1, s0, s1, hz⟩ := box2 w #[.int .i64 room, .slice a n c, .bool false, .int .i64 armed, .int .u64 st] #[.int .i64 0, .slice none 0 0, .bool false, .int .i64 0, .int .u64 0] 30 30
  obtain ⟨c0, c1, c2, c3, c4⟩ := five_rd s0
  obtain ⟨p0, p1, p2, p3, p4⟩ := five_rd s1
  have HB := Lib.hid B1
  have HS0 := Lib.hid s0
  have HS1 := Lib.hid s1
  have d : decide (x < 0) = false := decide_eq_false (by omega)
  have d2 : decide (x > 1048576) = false := decide_eq_false (by omega)
  have d3 : decide (1048576 < x) = false := decide_eq_false (by omega)
  clear B1 s0 s1 hz
  go_enter Try.func69, Try.ntmps69
  go_upto_region 1 with fail
  obtain ⟨N, hN⟩ : ∃ N, w.heap.size = N := ⟨_, rfl⟩
  have HN := Lib.hid hN
  rw [hN] at c0 c1 c2 c3 c4 p0 p1 p2 p3 p4 HS0 HS1
  try rw [hN]
  clear hN
  generalize (w.alloc (.cells #[.int .i64 room, .slice a n c, .bool false, .int .i64 armed, .int .u64 st] 30)).alloc (.cells #[.int .i64 0, .slice none 0 0, .bool false, .int .i64 0, .int .u64 0] 30) = w1 at c0 c1 c2 c3 c4 p0 p1 p2 p3 p4 HS0 HS1 HB ⊢
  have f0 : ∀ o, w1.frozen? ⟨N, o, none⟩ = false := fun o => by simp [World.frozen?, HS0.out]
  have f1 : ∀ o, w1.frozen? ⟨N + 1, o, none⟩ = false := fun o => by simp [World.frozen?, HS1.out]
  go_wp2_with fail
  refine bodyPost_ret (rd_res rfl _ _ (N + 1) (.int .i64 x) (.slice a n c) (.bool false) (.int .i64 armed) (.int .u64 st) rfl (by go_simp) (by go_simp) (by go_simp) (by go_simp) (by go_simp)) rfl ?_
  have hN := HN.out
  refine ⟨rfl, ?_⟩
  exact below_two (below_two (below_two (below_two (below_two (below_two (HB.out) (by omega) _ _) (by omega) _ _) (by omega) _ _) (by omega) _ _) (by omega) _ _) (by omega) _ _
set_option maxRecDepth 100000 in
set_option maxHeartbeats 8000000 in
theorem rnew (room : Int) (w : World) : Calls Try.prog 15 #[.int .i64 room] w fun e w' => e = .returned (.agg #[.int .i64 room, .slice none 0 0, .bool false, .int .i64 (-1), .int .u64 0]) ∧ Below w.heap.size w w' := by
  obtain ⟨B1, s1, -⟩ := box1 w #[.int .i64 0, .slice none 0 0, .bool false, .int .i64 0, .int .u64 0] 30
  obtain ⟨p0, p1, p2, p3, p4⟩ := five_rd s1
  have HB := Lib.hid B1
  have HS1 := Lib.hid s1
  clear B1 s1
  go_enter Try.func15, Try.ntmps15
  go_upto_region 1 with fail
  obtain ⟨N, hN⟩ : ∃ N, w.heap.size = N := ⟨_, rfl⟩
  have HN := Lib.hid hN
  rw [hN] at p0 p1 p2 p3 p4 HS1
  try rw [hN]
  clear hN
  generalize w.alloc (.cells #[.int .i64 0, .slice none 0 0, .bool false, .int .i64 0, .int .u64 0] 30) = w1 at p0 p1 p2 p3 p4 HS1 HB ⊢
  have f1 : ∀ o, w1.frozen? ⟨N, o, none⟩ = false := fun o => by simp [World.frozen?, HS1.out]
  go_wp2_with fail
  refine bodyPost_ret (rd_res1 rfl _ _ N (.int .i64 room) (.slice none 0 0) (.bool false) (.int .i64 (-1)) (.int .u64 0) rfl (by go_simp) (by go_simp) (by go_simp) (by go_simp) (by go_simp)) rfl ?_
  have hN := HN.out
  refine ⟨rfl, ?_⟩
  exact below_two (below_two (below_two (below_two (below_two (HB.out) (by omega) _ _) (by omega) _ _) (by omega) _ _) (by omega) _ _) (by omega) _ _
end Go.Proofs.Ythkjjpkipeeimaa
