/- The outbox: a notice is put. -/
import Derived.Test.YtnfpheccmjdpoaaObD
namespace Go.Proofs.Ytnfpheccmjdpoaa
open Go.RowKit
def Nt.L (x : Nt) : List Value := [.int .u64 x.id, .int .u64 x.tk, .int .i64 x.lv, .int .i64 x.pa, .int .i64 x.st, .int .i64 x.tr, .int .i64 x.rt, .int .i64 x.wt, .int .i64 x.nx]
theorem nt_one (x : Nt) : ∀ v ∈ x.L, v.oneCell' = true := by
  intro v hv
  simp only [Nt.L, List.mem_cons, List.not_mem_nil, or_false] at hv
  rcases hv with rfl | rfl | rfl | rfl | rfl | rfl | rfl | rfl | rfl <;> rfl
theorem nt_info : (Try.prog.info? 36).map (·.size) = some 9 := by kernel_rfl
theorem nt_of_range {w : World} {b o : Nat} {x : Nt} (h : w.rangeAt b o x.L) : NtAt w b o x := ⟨h 0 _ rfl, h 1 _ rfl, h 2 _ rfl, h 3 _ rfl, h 4 _ rfl, h 5 _ rfl, h 6 _ rfl, h 7 _ rfl, h 8 _ rfl⟩
theorem nt_range {w : World} {b o : Nat} {x : Nt} (h : NtAt w b o x) : w.rangeAt b o x.L := by
  obtain ⟨q0, q1, q2, q3, q4, q5, q6, q7, q8⟩ := h
  intro j v hv
  have hj : j < 9 := by have := (List.getElem?_eq_some_iff.1 hv).1; simpa [Nt.L] using this
  have hh : j = 0 ∨ j = 1 ∨ j = 2 ∨ j = 3 ∨ j = 4 ∨ j = 5 ∨ j = 6 ∨ j = 7 ∨ j = 8 := by omega
  rcases hh with rfl | rfl | rfl | rfl | rfl | rfl | rfl | rfl | rfl <;> ((try simp [Nt.L] at hv); (try subst hv); (try assumption))
theorem setCells_block {N b : Nat} (hn : b ≠ N) : ∀ (vs : List Value) (o : Nat) (w : World), (w.setCells N o vs).heap[b]? = w.heap[b]?
  | [], _, _ => rfl
  | v :: r, o, w => by
    rw [World.setCells, setCells_block hn r (o + 1)]
    exact Below.heap_setCell _ _ _ _ hn
theorem setCells_size {N : Nat} : ∀ (vs : List Value) (o : Nat) (w : World), (w.setCells N o vs).heap.size = w.heap.size
  | [], _, _ => rfl
  | v :: r, o, w => by
    rw [World.setCells, setCells_size r (o + 1)]
    simp
theorem cell_apart {w : World} {b i o : Nat} {v : Value} {vs : List Value} (h : w.cell? ⟨b, i, none⟩ = some v) (hi : i + 1 ≤ o ∨ o + vs.length ≤ i) : (w.setCells b o vs).cell? ⟨b, i, none⟩ = some v := by
  have hr : w.rangeAt b i [v] := fun j u hu => by
    have hj : j = 0 := by have := (List.getElem?_eq_some_iff.1 hu).1; simpa using this
    subst hj
    simp at hu
    subst hu
    exact h
  exact World.rangeAt_setCells_apart hr b o vs (.inr hi) 0 v rfl
/-- A box on the way: the count apart from the notices. -/
structure BXm (w : World) (b : Nat) (last : Int) (m : Nat) (l : List Nt) : Prop where
  c0 : w.cell? ⟨b, 0, none⟩ = some (.int .u64 last)
  c1 : w.cell? ⟨b, 1, none⟩ = some (.int .i64 (m : Int))
  c2 : w.cell? ⟨b, 1154, none⟩ = some (.bool true)
  row : ∀ k (hk : k < l.length), NtAt w b (2 + k * 9) l[k]
  th : w.there b 0 1155
  len : l.length ≤ 128
theorem BX.m {w : World} {b : Nat} {last : Int} {l : List Nt} (h : BX w b last l) : BXm w b last l.length l := ⟨h.c0, h.c1, h.c2, h.row, h.th, h.len⟩
theorem BXm.x {w : World} {b : Nat} {last : Int} {m : Nat} {l : List Nt} (h : BXm w b last m l) (e : m = l.length) : BX w b last l := by
  subst e
  exact ⟨h.c0, h.c1, h.c2, h.row, h.th, h.len⟩
theorem there_part {w : World} {b o n : Nat} (h : w.there b 0 1155) (hn : o + n ≤ 1155) : w.there b o n := fun j hj => by
  have := h (o + j) (by omega)
  rwa [Nat.zero_add] at this
theorem BXm.last {w : World} {b : Nat} {last : Int} {m : Nat} {l : List Nt} (h : BXm w b last m l) (v : Int) : BXm (w.setCell ⟨b, 0, none⟩ (.int .u64 v)) b v m l :=
  ⟨World.rangeAt_setCells_same w b 0 [.int .u64 v] (there_part h.th (by simp)) 0 _ rfl, cell_apart (vs := [.int .u64 v]) (o := 0) h.c1 (.inr (by simp)), cell_apart (vs := [.int .u64 v]) (o := 0) h.c2 (.inr (by simp)), fun k hk => nt_of_range (World.rangeAt_setCells_apart (nt_range (h.row k hk)) b 0 [.int .u64 v] (.inr (.inr (by simp <;> omega)))), World.there_setCells h.th b 0 [.int .u64 v], h.len⟩
theorem BXm.many {w : World} {b : Nat} {last : Int} {m : Nat} {l : List Nt} (h : BXm w b last m l) (n : Nat) : BXm (w.setCell ⟨b, 1, none⟩ (.int .i64 (n : Int))) b last n l :=
  ⟨cell_apart (vs := [.int .i64 (n : Int)]) (o := 1) h.c0 (.inl (by simp)), World.rangeAt_setCells_same w b 1 [.int .i64 (n : Int)] (there_part h.th (by simp)) 0 _ rfl, cell_apart (vs := [.int .i64 (n : Int)]) (o := 1) h.c2 (.inr (by simp)), fun k hk => nt_of_range (World.rangeAt_setCells_apart (nt_range (h.row k hk)) b 1 [.int .i64 (n : Int)] (.inr (.inr (by simp <;> omega)))), World.there_setCells h.th b 1 [.int .i64 (n : Int)], h.len⟩
theorem BXm.push {w : World} {b : Nat} {last : Int} {m : Nat} {l : List Nt} (h : BXm w b last m l) (hm : m = l.length) (h128 : m < 128) (x : Nt) : BXm (w.setCells b (2 + m * 9) x.L) b last m (l ++ [x]) := by
  subst hm
  have hL : x.L.length = 9 := rfl
  refine ⟨cell_apart h.c0 (.inl (by omega)), cell_apart h.c1 (.inl (by omega)), cell_apart h.c2 (.inr (by omega)), fun k hk => ?_, World.there_setCells h.th b _ _, by rw [List.length_append]; simp; omega⟩
  by_cases e : k < l.length
  · rw [List.getElem_append_left e]
    exact nt_of_range (World.rangeAt_setCells_apart (nt_range (h.row k e)) b _ _ (.inr (.inl (by have : l[k].L.length = 9 := rfl; omega))))
  · have hk' : k = l.length := by rw [List.length_append] at hk; simp at hk; omega
    subst hk'
    have e2 : (l ++ [x])[l.length] = x := by simp
    rw [e2]
    exact nt_of_range (World.rangeAt_setCells_same w b _ _ (there_part h.th (by omega)))
theorem BXm.below {w w' : World} {b : Nat} {last : Int} {m : Nat} {l : List Nt} (h : BXm w b last m l) (e : w'.heap[b]? = w.heap[b]?) : BXm w' b last m l :=
  ⟨(World.cell?_of_block (a := ⟨b, 0, none⟩) e).trans h.c0, (World.cell?_of_block (a := ⟨b, 1, none⟩) e).trans h.c1, (World.cell?_of_block (a := ⟨b, 1154, none⟩) e).trans h.c2, fun k hk => (h.row k hk).kept e, fun j hj => by
    obtain ⟨h1, h2⟩ := h.th j hj
    exact ⟨by rw [World.cell?_of_block (a := ⟨b, 0 + j, none⟩) e]; exact h1, by rw [World.frozen?_of_block (a := ⟨b, 0 + j, none⟩) e]; exact h2⟩, h.len⟩
theorem BXm.fr {w : World} {b : Nat} {last : Int} {m : Nat} {l : List Nt} (h : BXm w b last m l) (o : Nat) (ho : o < 1155) : w.frozen? ⟨b, o, none⟩ = false := by
  have := (h.th o ho).2
  rwa [Nat.zero_add] at this
theorem setCells_os {N : Nat} : ∀ (vs : List Value) (o : Nat) (w : World), (w.setCells N o vs).os = w.os
  | [], _, _ => rfl
  | v :: r, o, w => by rw [World.setCells, setCells_os r (o + 1)]; rfl
theorem setCells_tape {N : Nat} : ∀ (vs : List Value) (o : Nat) (w : World), (w.setCells N o vs).tape = w.tape
  | [], _, _ => rfl
  | v :: r, o, w => by rw [World.setCells, setCells_tape r (o + 1)]; rfl
theorem setCells_output {N : Nat} : ∀ (vs : List Value) (o : Nat) (w : World), (w.setCells N o vs).output = w.output
  | [], _, _ => rfl
  | v :: r, o, w => by rw [World.setCells, setCells_output r (o + 1)]; rfl
/-- Of what was there, the box alone may have turned. -/
abbrev OnlyB (b : Nat) (w w' : World) : Prop := Only (fun k => k = b) w w'
theorem OnlyB.set {b : Nat} {w w' : World} (h : OnlyB b w w') (o : Nat) (vs : List Value) : OnlyB b w (w'.setCells b o vs) :=
  ⟨by rw [← h.os]; exact setCells_os _ _ _, by rw [← h.tape]; exact setCells_tape _ _ _, by rw [← h.output]; exact setCells_output _ _ _, by rw [setCells_size]; exact h.size, fun k hk hb => (setCells_block hb _ _ _).trans (h.block k hk hb)⟩
/-- The notice that is put. -/
def newN (last : Int) (x : Nt) (now : Int) : Nt := ⟨last + 1, x.tk, x.lv, x.pa, 1, 0, x.rt, x.wt, now⟩
set_option maxRecDepth 100000 in
set_option maxHeartbeats 8000000 in
theorem put_bad (b : Nat) (last : Int) (l : List Nt) (x : Nt) (now : Int) (w : World) (h : BX w b last l) (hn : (insN now && adrN x) = false) :
    Calls Try.prog 24 #[.pointer (some ⟨b, 0, none⟩), .agg #[.int .u64 x.id, .int .u64 x.tk, .int .i64 x.lv, .int .i64 x.pa, .int .i64 x.st, .int .i64 x.tr, .int .i64 x.rt, .int .i64 x.wt, .int .i64 x.nx], .int .i64 now] w fun e w' => e = .returned (.tuple #[.int .u64 0, .int .i64 2]) ∧ Below w.heap.size w w' := by
  obtain ⟨B1, s0, -⟩ := box1 w #[.int .u64 x.id, .int .u64 x.tk, .int .i64 x.lv, .int .i64 x.pa, .int .i64 x.st, .int .i64 x.tr, .int .i64 x.rt, .int .i64 x.wt, .int .i64 x.nx] 36
  have HX := Lib.hid (h.below B1)
  have HB := Lib.hid B1
  obtain ⟨q0, q1, q2, q3, q4, q5, q6, q7, q8⟩ := nt_at0 s0
  have HN : Hid ((insN now && adrN x) = false) := Lib.hid hn
  clear h B1 s0 hn
  go_enter Try.func24, Try.ntmps24
  go_wp2_with fail
  generalize w.alloc (.cells #[.int .u64 x.id, .int .u64 x.tk, .int .i64 x.lv, .int .i64 x.pa, .int .i64 x.st, .int .i64 x.tr, .int .i64 x.rt, .int .i64 x.wt, .int .i64 x.nx] 36) = w1 at HX HB q0 q1 q2 q3 q4 q5 q6 q7 q8 ⊢
  refine (created_box b last l w1 HX.out).mono ?_
  rintro e w2 ⟨rfl, rfl⟩
  go_wp2_with fail
  refine (instant_any now w1).mono ?_
  rintro e w2 ⟨rfl, rfl⟩
  generalize insN now = z at HN ⊢
  cases z
  · go_wp2_with fail
    refine bodyPost_ret (results_tmp2 rfl _ _ _) rfl ?_
    exact ⟨rfl, HB.out⟩
  · go_wp2_with fail
    refine (addressed_any x w1).mono ?_
    rintro e w2 ⟨rfl, hb⟩
    have HB2 := Lib.hid (HB.out.trans (hb.mono HB.out.size))
    have hz : adrN x = false := by simpa using HN.out
    rw [hz]
    clear hb hz q0 q1 q2 q3 q4 q5 q6 q7 q8
    go_wp2_with fail
    refine bodyPost_ret (results_tmp2 rfl _ _ _) rfl ?_
    exact ⟨rfl, HB2.out⟩
set_option maxRecDepth 100000 in
set_option maxHeartbeats 8000000 in
theorem put_full (b : Nat) (last : Int) (l : List Nt) (x : Nt) (now : Int) (w : World) (h : BX w b last l) (hn : insN now = true ∧ adrN x = true) (hl : 0 ≤ last ∧ last < 1152921504606846976) (hc : 128 ≤ cntW l) :
    Calls Try.prog 24 #[.pointer (some ⟨b, 0, none⟩), .agg #[.int .u64 x.id, .int .u64 x.tk, .int .i64 x.lv, .int .i64 x.pa, .int .i64 x.st, .int .i64 x.tr, .int .i64 x.rt, .int .i64 x.wt, .int .i64 x.nx], .int .i64 now] w fun e w' => e = .returned (.tuple #[.int .u64 0, .int .i64 30]) ∧ Below w.heap.size w w' := by
  obtain ⟨B1, s0, -⟩ := box1 w #[.int .u64 x.id, .int .u64 x.tk, .int .i64 x.lv, .int .i64 x.pa, .int .i64 x.st, .int .i64 x.tr, .int .i64 x.rt, .int .i64 x.wt, .int .i64 x.nx] 36
  have HX := Lib.hid (h.below B1)
  have HB := Lib.hid B1
  have HS := Lib.hid s0
  have HBL : Hid (b < w.heap.size) := Lib.hid h.lt
  obtain ⟨q0, q1, q2, q3, q4, q5, q6, q7, q8⟩ := nt_at0 s0
  have HN := Lib.hid hn
  have HLL := Lib.hid hl
  have dl : decide (1152921504606846976 ≤ last) = false := decide_eq_false (by omega)
  have dc : decide ((128 : Int) ≤ (cntW l : Int)) = true := decide_eq_true (by omega)
  have dc2 : decide (128 ≤ cntW l) = true := decide_eq_true hc
  clear hc
  clear h B1 s0 hn hl
  go_enter Try.func24, Try.ntmps24
  go_wp2_with fail
  obtain ⟨N, hN⟩ : ∃ N, w.heap.size = N := ⟨_, rfl⟩
  have HNB : Hid (b ≠ N ∧ w.heap.size = N) := Lib.hid ⟨by have := HBL.out; omega, hN⟩
  rw [hN] at HS
  try rw [hN]
  rw [hN] at q0 q1 q2 q3 q4 q5 q6 q7 q8
  clear hN
  generalize w.alloc (.cells #[.int .u64 x.id, .int .u64 x.tk, .int .i64 x.lv, .int .i64 x.pa, .int .i64 x.st, .int .i64 x.tr, .int .i64 x.rt, .int .i64 x.wt, .int .i64 x.nx] 36) = w1 at HX HB HS q0 q1 q2 q3 q4 q5 q6 q7 q8 ⊢
  refine (created_box b last l w1 HX.out).mono ?_
  rintro e w2 ⟨rfl, rfl⟩
  go_wp2_with fail
  refine (instant_any now w1).mono ?_
  rintro e w2 ⟨rfl, rfl⟩
  rw [HN.out.1]
  go_wp2_with fail
  refine (addressed_any x w1).mono ?_
  rintro e w2 ⟨rfl, hb⟩
  rw [HN.out.2]
  have HX2 := Lib.hid (HX.out.below hb)
  have HB2 := Lib.hid (HB.out.trans (hb.mono HB.out.size))
  have HS2 := Lib.hid (ex_below HS.out hb)
  have c0 := HX2.out.c0
  clear hb q0 q1 q2 q3 q4 q5 q6 q7 q8 HX HB HS
  go_wp2_with fail
  clear c0
  refine (waiting_box b last l w2 HX2.out).mono ?_
  rintro e w3 ⟨rfl, hb⟩
  have HX3 := Lib.hid (HX2.out.below hb)
  have HB3 := Lib.hid (HB2.out.trans (hb.mono HB2.out.size))
  have HS3 := Lib.hid (ex_below HS2.out hb)
  clear hb HX2 HB2 HS2
  go_wp2_with fail
  refine bodyPost_ret (results_tmp2 rfl _ _ _) rfl ?_
  exact ⟨rfl, HB3.out⟩
set_option maxRecDepth 100000 in
set_option maxHeartbeats 8000000 in
theorem put_ok (b : Nat) (last : Int) (l : List Nt) (x : Nt) (now : Int) (w : World) (h : BX w b last l) (hn : insN now = true ∧ adrN x = true) (hl : 0 ≤ last ∧ last < 1152921504606846976) (hc : cntW l < 128) (h128 : l.length < 128) :
    Calls Try.prog 24 #[.pointer (some ⟨b, 0, none⟩), .agg #[.int .u64 x.id, .int .u64 x.tk, .int .i64 x.lv, .int .i64 x.pa, .int .i64 x.st, .int .i64 x.tr, .int .i64 x.rt, .int .i64 x.wt, .int .i64 x.nx], .int .i64 now] w fun e w' => e = .returned (.tuple #[.int .u64 (last + 1), .int .i64 0]) ∧ BX w' b (last + 1) (l ++ [newN last x now]) ∧ OnlyB b w w' := by
  obtain ⟨B1, s0, -⟩ := box1 w #[.int .u64 x.id, .int .u64 x.tk, .int .i64 x.lv, .int .i64 x.pa, .int .i64 x.st, .int .i64 x.tr, .int .i64 x.rt, .int .i64 x.wt, .int .i64 x.nx] 36
  have HX := Lib.hid (h.below B1)
  have HB := Lib.hid B1
  have HS := Lib.hid s0
  have HBL : Hid (b < w.heap.size) := Lib.hid h.lt
  obtain ⟨q0, q1, q2, q3, q4, q5, q6, q7, q8⟩ := nt_at0 s0
  have HN := Lib.hid hn
  have HLL := Lib.hid hl
  have dl : decide (1152921504606846976 ≤ last) = false := decide_eq_false (by omega)
  obtain ⟨m, hm⟩ : ∃ m, l.length = m := ⟨_, rfl⟩
  have dc : decide ((128 : Int) ≤ (cntW l : Int)) = false := decide_eq_false (by omega)
  have dc2 : decide (128 ≤ cntW l) = false := decide_eq_false (by omega)
  have dm : decide ((m : Int) = 128) = false := decide_eq_false (by omega)
  have dm2 : ((m : Int) == 128) = false := by simp; omega
  have dm3 : decide (m = 128) = false := decide_eq_false (by omega)
  have HM : Hid (m < 128) := Lib.hid (by omega)
  have HMM : Hid (m = l.length) := Lib.hid hm.symm
  have m0 : (0 : Int) ≤ (m : Int) := by omega
  have m1 : (m : Int) < 128 := by omega
  have wl : IntKind.u64.wrap (last + 1) = last + 1 := IntWalk.u64_in _ ⟨by omega, by omega⟩
  have wm : wrap64 ((m : Int) + 1) = (m : Int) + 1 := IntWalk.wrap64_in _ (by omega)
  clear hc h128 hm
  clear h B1 s0 hn hl
  go_enter Try.func24, Try.ntmps24
  go_wp2_with fail
  obtain ⟨N, hN⟩ : ∃ N, w.heap.size = N := ⟨_, rfl⟩
  have HNB : Hid (b ≠ N ∧ w.heap.size = N) := Lib.hid ⟨by have := HBL.out; omega, hN⟩
  rw [hN] at HS
  try rw [hN]
  rw [hN] at q0 q1 q2 q3 q4 q5 q6 q7 q8
  clear hN
  generalize w.alloc (.cells #[.int .u64 x.id, .int .u64 x.tk, .int .i64 x.lv, .int .i64 x.pa, .int .i64 x.st, .int .i64 x.tr, .int .i64 x.rt, .int .i64 x.wt, .int .i64 x.nx] 36) = w1 at HX HB HS q0 q1 q2 q3 q4 q5 q6 q7 q8 ⊢
  refine (created_box b last l w1 HX.out).mono ?_
  rintro e w2 ⟨rfl, rfl⟩
  go_wp2_with fail
  refine (instant_any now w1).mono ?_
  rintro e w2 ⟨rfl, rfl⟩
  rw [HN.out.1]
  go_wp2_with fail
  refine (addressed_any x w1).mono ?_
  rintro e w2 ⟨rfl, hb⟩
  rw [HN.out.2]
  have HX2 := Lib.hid (HX.out.below hb)
  have HB2 := Lib.hid (HB.out.trans (hb.mono HB.out.size))
  have HS2 := Lib.hid (ex_below HS.out hb)
  have c0 := HX2.out.c0
  clear hb q0 q1 q2 q3 q4 q5 q6 q7 q8 HX HB HS
  go_wp2_with fail
  clear c0
  refine (waiting_box b last l w2 HX2.out).mono ?_
  rintro e w3 ⟨rfl, hb⟩
  have HX3 := Lib.hid (HX2.out.below hb)
  have HB3 := Lib.hid (HB2.out.trans (hb.mono HB2.out.size))
  have HS3 := Lib.hid (ex_below HS2.out hb)
  clear hb HX2 HB2 HS2
  have HXM : Hid (BXm w3 b last m l) := Lib.hid (by have h := HX3.out.m; rw [← HMM.out] at h; exact h)
  have c0 := HXM.out.c0
  have c1 := HXM.out.c1
  have f0 := HXM.out.fr 0 (by omega)
  have HTH : Hid (∀ W : World, W = W → True) := Lib.hid (fun _ _ => trivial)
  clear HX3
  go_wp2_with fail
  have hx4 := HXM.out.last (last + 1)
  have HX5 : Hid (BXm (w3.setCell ⟨b, 0, none⟩ (.int .u64 (last + 1))).drew b (last + 1) m l) := Lib.hid (hx4.below rfl)
  have HS0 : Hid ((fun W : World => W.cell? ⟨b, 0, none⟩ = some (.int .u64 (last + 1)) ∧ W.cell? ⟨b, 1, none⟩ = some (.int .i64 (m : Int)) ∧ W.heap[N]? = some (.cells #[.int .u64 x.id, .int .u64 x.tk, .int .i64 x.lv, .int .i64 x.pa, .int .i64 x.st, .int .i64 x.tr, .int .i64 x.rt, .int .i64 x.wt, .int .i64 x.nx] 36 (0, 0))) (w3.setCell ⟨b, 0, none⟩ (.int .u64 (last + 1))).drew) := Lib.hid ⟨hx4.c0, hx4.c1, (Below.heap_setCell _ _ _ _ (by have := HNB.out.1; show N ≠ b; omega)).trans HS3.out⟩
  have HO5 : Hid (OnlyB b w (w3.setCell ⟨b, 0, none⟩ (.int .u64 (last + 1))).drew) := Lib.hid (Only.drew ((show OnlyB b w w3 from Only.below HB3.out).set 0 [.int .u64 (last + 1)]))
  clear hx4 c0 c1 f0 HXM HTH HS3 HB3
  refine wp_region_held_drew (S := (fun W : World => W.cell? ⟨b, 0, none⟩ = some (.int .u64 (last + 1)) ∧ W.cell? ⟨b, 1, none⟩ = some (.int .i64 (m : Int)) ∧ W.heap[N]? = some (.cells #[.int .u64 x.id, .int .u64 x.tk, .int .i64 x.lv, .int .i64 x.pa, .int .i64 x.st, .int .i64 x.tr, .int .i64 x.rt, .int .i64 x.wt, .int .i64 x.nx] 36 (0, 0)))) (by kernel_rfl) HS0.out (fun hHeld => ?_)
  clear hHeld
  generalize (w3.setCell ⟨b, 0, none⟩ (.int .u64 (last + 1))).drew = w5 at HS0 HX5 HO5 ⊢
  have HTH : Hid (∀ k : Nat, k < 128 → w5.there b (2 + k * 9) 9) := Lib.hid (fun k hk => there_part HX5.out.th (by omega))
  have HO6' : Hid (OnlyB b w (w5.setCells b (2 + m * 9) (newN last x now).L)) := Lib.hid (OnlyB.set HO5.out _ _)
  have HNB2 : Hid (N ≠ b) := Lib.hid (fun e => HNB.out.1 e.symm)
  refine wpAnyH_take (i := 0) (oi := { dst := some 57, op := Go.Op.move (Go.Operand.tmp 0), type := 29, pos := "outbox.go:66", after := #[], guard := none }) (v := ?_) rfl (by kernel_rfl) (by kernel_rfl) (by kernel_rfl) (fun _ _ _ h => h) (Or.inl ⟨by rfl, ?_⟩) HS0.out ?_
  case refine_2 => (intro w1 hS1; obtain ⟨c0, c1, k3⟩ := hS1; obtain ⟨q0, q1, q2, q3, q4, q5, q6, q7, q8⟩ := nt_at0 k3; clear k3; go_simp; try with_reducible rfl)
  try simp only [Act.put, List.setIfInBounds_toArray, List.set_cons_zero, List.set_cons_succ]
  refine wpAnyH_take (i := 1) (oi := { dst := some 58, op := Go.Op.move (Go.Operand.tmp 0), type := 29, pos := "outbox.go:66", after := #[], guard := none }) (v := ?_) rfl (by kernel_rfl) (by kernel_rfl) (by kernel_rfl) (fun _ _ _ h => h) (Or.inl ⟨by rfl, ?_⟩) HS0.out ?_
  case refine_2 => (intro w1 hS1; obtain ⟨c0, c1, k3⟩ := hS1; obtain ⟨q0, q1, q2, q3, q4, q5, q6, q7, q8⟩ := nt_at0 k3; clear k3; go_simp; try with_reducible rfl)
  try simp only [Act.put, List.setIfInBounds_toArray, List.set_cons_zero, List.set_cons_succ]
  refine wpAnyH_take (i := 2) (oi := { dst := some 59, op := Go.Op.nilCheck (Go.Operand.tmp 58), type := 0, pos := "outbox.go:66", after := #[{ on := 1, ground := Go.Ground.data }], guard := none }) (v := ?_) rfl (by kernel_rfl) (by kernel_rfl) (by kernel_rfl) (fun _ _ _ h => h) (Or.inl ⟨by rfl, ?_⟩) HS0.out ?_
  case refine_2 => (intro w1 hS1; obtain ⟨c0, c1, k3⟩ := hS1; obtain ⟨q0, q1, q2, q3, q4, q5, q6, q7, q8⟩ := nt_at0 k3; clear k3; go_simp; try with_reducible rfl)
  try simp only [Act.put, List.setIfInBounds_toArray, List.set_cons_zero, List.set_cons_succ]
  refine wpAnyH_take (i := 3) (oi := { dst := some 60, op := Go.Op.fieldAddr 79 (Go.Operand.tmp 59) 1, type := 0, pos := "outbox.go:66", after := #[{ on := 2, ground := Go.Ground.data }], guard := none }) (v := ?_) rfl (by kernel_rfl) (by kernel_rfl) (by kernel_rfl) (fun _ _ _ h => h) (Or.inl ⟨by rfl, ?_⟩) HS0.out ?_
  case refine_2 => (intro w1 hS1; obtain ⟨c0, c1, k3⟩ := hS1; obtain ⟨q0, q1, q2, q3, q4, q5, q6, q7, q8⟩ := nt_at0 k3; clear k3; go_simp; try with_reducible rfl)
  try simp only [Act.put, List.setIfInBounds_toArray, List.set_cons_zero, List.set_cons_succ]
  refine wpAnyH_take (i := 4) (oi := { dst := some 61, op := Go.Op.load 3 (Go.Operand.tmp 60), type := 3, pos := "outbox.go:66", after := #[{ on := 3, ground := Go.Ground.data }], guard := none }) (v := ?_) rfl (by kernel_rfl) (by kernel_rfl) (by kernel_rfl) (fun _ _ _ h => h) (Or.inl ⟨by rfl, ?_⟩) HS0.out ?_
  case refine_2 => (intro w1 hS1; obtain ⟨c0, c1, k3⟩ := hS1; obtain ⟨q0, q1, q2, q3, q4, q5, q6, q7, q8⟩ := nt_at0 k3; clear k3; go_simp; try with_reducible rfl)
  try simp only [Act.put, List.setIfInBounds_toArray, List.set_cons_zero, List.set_cons_succ]
  refine wpAnyH_take (i := 5) (oi := { dst := some 62, op := Go.Op.move (Go.Operand.tmp 0), type := 29, pos := "outbox.go:66", after := #[], guard := none }) (v := ?_) rfl (by kernel_rfl) (by kernel_rfl) (by kernel_rfl) (fun _ _ _ h => h) (Or.inl ⟨by rfl, ?_⟩) HS0.out ?_
  case refine_2 => (intro w1 hS1; obtain ⟨c0, c1, k3⟩ := hS1; obtain ⟨q0, q1, q2, q3, q4, q5, q6, q7, q8⟩ := nt_at0 k3; clear k3; go_simp; try with_reducible rfl)
  try simp only [Act.put, List.setIfInBounds_toArray, List.set_cons_zero, List.set_cons_succ]
  refine wpAnyH_take (i := 6) (oi := { dst := some 63, op := Go.Op.nilCheck (Go.Operand.tmp 62), type := 0, pos := "outbox.go:66", after := #[{ on := 5, ground := Go.Ground.data }], guard := none }) (v := ?_) rfl (by kernel_rfl) (by kernel_rfl) (by kernel_rfl) (fun _ _ _ h => h) (Or.inl ⟨by rfl, ?_⟩) HS0.out ?_
  case refine_2 => (intro w1 hS1; obtain ⟨c0, c1, k3⟩ := hS1; obtain ⟨q0, q1, q2, q3, q4, q5, q6, q7, q8⟩ := nt_at0 k3; clear k3; go_simp; try with_reducible rfl)
  try simp only [Act.put, List.setIfInBounds_toArray, List.set_cons_zero, List.set_cons_succ]
  refine wpAnyH_take (i := 7) (oi := { dst := some 64, op := Go.Op.fieldAddr 79 (Go.Operand.tmp 63) 0, type := 0, pos := "outbox.go:66", after := #[{ on := 6, ground := Go.Ground.data }], guard := none }) (v := ?_) rfl (by kernel_rfl) (by kernel_rfl) (by kernel_rfl) (fun _ _ _ h => h) (Or.inl ⟨by rfl, ?_⟩) HS0.out ?_
  case refine_2 => (intro w1 hS1; obtain ⟨c0, c1, k3⟩ := hS1; obtain ⟨q0, q1, q2, q3, q4, q5, q6, q7, q8⟩ := nt_at0 k3; clear k3; go_simp; try with_reducible rfl)
  try simp only [Act.put, List.setIfInBounds_toArray, List.set_cons_zero, List.set_cons_succ]
  refine wpAnyH_take (i := 8) (oi := { dst := some 65, op := Go.Op.load 22 (Go.Operand.tmp 64), type := 22, pos := "outbox.go:66", after := #[{ on := 7, ground := Go.Ground.data }], guard := none }) (v := ?_) rfl (by kernel_rfl) (by kernel_rfl) (by kernel_rfl) (fun _ _ _ h => h) (Or.inl ⟨by rfl, ?_⟩) HS0.out ?_
  case refine_2 => (intro w1 hS1; obtain ⟨c0, c1, k3⟩ := hS1; obtain ⟨q0, q1, q2, q3, q4, q5, q6, q7, q8⟩ := nt_at0 k3; clear k3; go_simp; try with_reducible rfl)
  try simp only [Act.put, List.setIfInBounds_toArray, List.set_cons_zero, List.set_cons_succ]
  refine wpAnyH_take (i := 9) (oi := { dst := some 66, op := Go.Op.fieldAddr 36 (Go.Operand.tmp 4) 1, type := 0, pos := "outbox.go:66", after := #[], guard := none }) (v := ?_) rfl (by kernel_rfl) (by kernel_rfl) (by kernel_rfl) (fun _ _ _ h => h) (Or.inl ⟨by rfl, ?_⟩) HS0.out ?_
  case refine_2 => (intro w1 hS1; obtain ⟨c0, c1, k3⟩ := hS1; obtain ⟨q0, q1, q2, q3, q4, q5, q6, q7, q8⟩ := nt_at0 k3; clear k3; go_simp; try with_reducible rfl)
  try simp only [Act.put, List.setIfInBounds_toArray, List.set_cons_zero, List.set_cons_succ]
  refine wpAnyH_take (i := 10) (oi := { dst := some 67, op := Go.Op.load 22 (Go.Operand.tmp 66), type := 22, pos := "outbox.go:66", after := #[{ on := 9, ground := Go.Ground.data }], guard := none }) (v := ?_) rfl (by kernel_rfl) (by kernel_rfl) (by kernel_rfl) (fun _ _ _ h => h) (Or.inl ⟨by rfl, ?_⟩) HS0.out ?_
  case refine_2 => (intro w1 hS1; obtain ⟨c0, c1, k3⟩ := hS1; obtain ⟨q0, q1, q2, q3, q4, q5, q6, q7, q8⟩ := nt_at0 k3; clear k3; go_simp; try with_reducible rfl)
  try simp only [Act.put, List.setIfInBounds_toArray, List.set_cons_zero, List.set_cons_succ]
  refine wpAnyH_take (i := 11) (oi := { dst := some 68, op := Go.Op.fieldAddr 36 (Go.Operand.tmp 4) 2, type := 0, pos := "outbox.go:66", after := #[], guard := none }) (v := ?_) rfl (by kernel_rfl) (by kernel_rfl) (by kernel_rfl) (fun _ _ _ h => h) (Or.inl ⟨by rfl, ?_⟩) HS0.out ?_
  case refine_2 => (intro w1 hS1; obtain ⟨c0, c1, k3⟩ := hS1; obtain ⟨q0, q1, q2, q3, q4, q5, q6, q7, q8⟩ := nt_at0 k3; clear k3; go_simp; try with_reducible rfl)
  try simp only [Act.put, List.setIfInBounds_toArray, List.set_cons_zero, List.set_cons_succ]
  refine wpAnyH_take (i := 12) (oi := { dst := some 69, op := Go.Op.load 3 (Go.Operand.tmp 68), type := 3, pos := "outbox.go:66", after := #[{ on := 11, ground := Go.Ground.data }], guard := none }) (v := ?_) rfl (by kernel_rfl) (by kernel_rfl) (by kernel_rfl) (fun _ _ _ h => h) (Or.inl ⟨by rfl, ?_⟩) HS0.out ?_
  case refine_2 => (intro w1 hS1; obtain ⟨c0, c1, k3⟩ := hS1; obtain ⟨q0, q1, q2, q3, q4, q5, q6, q7, q8⟩ := nt_at0 k3; clear k3; go_simp; try with_reducible rfl)
  try simp only [Act.put, List.setIfInBounds_toArray, List.set_cons_zero, List.set_cons_succ]
  refine wpAnyH_take (i := 13) (oi := { dst := some 70, op := Go.Op.fieldAddr 36 (Go.Operand.tmp 4) 3, type := 0, pos := "outbox.go:66", after := #[], guard := none }) (v := ?_) rfl (by kernel_rfl) (by kernel_rfl) (by kernel_rfl) (fun _ _ _ h => h) (Or.inl ⟨by rfl, ?_⟩) HS0.out ?_
  case refine_2 => (intro w1 hS1; obtain ⟨c0, c1, k3⟩ := hS1; obtain ⟨q0, q1, q2, q3, q4, q5, q6, q7, q8⟩ := nt_at0 k3; clear k3; go_simp; try with_reducible rfl)
  try simp only [Act.put, List.setIfInBounds_toArray, List.set_cons_zero, List.set_cons_succ]
  refine wpAnyH_take (i := 14) (oi := { dst := some 71, op := Go.Op.load 3 (Go.Operand.tmp 70), type := 3, pos := "outbox.go:66", after := #[{ on := 13, ground := Go.Ground.data }], guard := none }) (v := ?_) rfl (by kernel_rfl) (by kernel_rfl) (by kernel_rfl) (fun _ _ _ h => h) (Or.inl ⟨by rfl, ?_⟩) HS0.out ?_
  case refine_2 => (intro w1 hS1; obtain ⟨c0, c1, k3⟩ := hS1; obtain ⟨q0, q1, q2, q3, q4, q5, q6, q7, q8⟩ := nt_at0 k3; clear k3; go_simp; try with_reducible rfl)
  try simp only [Act.put, List.setIfInBounds_toArray, List.set_cons_zero, List.set_cons_succ]
  refine wpAnyH_take (i := 15) (oi := { dst := some 72, op := Go.Op.fieldAddr 36 (Go.Operand.tmp 4) 6, type := 0, pos := "outbox.go:66", after := #[], guard := none }) (v := ?_) rfl (by kernel_rfl) (by kernel_rfl) (by kernel_rfl) (fun _ _ _ h => h) (Or.inl ⟨by rfl, ?_⟩) HS0.out ?_
  case refine_2 => (intro w1 hS1; obtain ⟨c0, c1, k3⟩ := hS1; obtain ⟨q0, q1, q2, q3, q4, q5, q6, q7, q8⟩ := nt_at0 k3; clear k3; go_simp; try with_reducible rfl)
  try simp only [Act.put, List.setIfInBounds_toArray, List.set_cons_zero, List.set_cons_succ]
  refine wpAnyH_take (i := 16) (oi := { dst := some 73, op := Go.Op.load 3 (Go.Operand.tmp 72), type := 3, pos := "outbox.go:66", after := #[{ on := 15, ground := Go.Ground.data }], guard := none }) (v := ?_) rfl (by kernel_rfl) (by kernel_rfl) (by kernel_rfl) (fun _ _ _ h => h) (Or.inl ⟨by rfl, ?_⟩) HS0.out ?_
  case refine_2 => (intro w1 hS1; obtain ⟨c0, c1, k3⟩ := hS1; obtain ⟨q0, q1, q2, q3, q4, q5, q6, q7, q8⟩ := nt_at0 k3; clear k3; go_simp; try with_reducible rfl)
  try simp only [Act.put, List.setIfInBounds_toArray, List.set_cons_zero, List.set_cons_succ]
  refine wpAnyH_take (i := 17) (oi := { dst := some 74, op := Go.Op.fieldAddr 36 (Go.Operand.tmp 4) 7, type := 0, pos := "outbox.go:66", after := #[], guard := none }) (v := ?_) rfl (by kernel_rfl) (by kernel_rfl) (by kernel_rfl) (fun _ _ _ h => h) (Or.inl ⟨by rfl, ?_⟩) HS0.out ?_
  case refine_2 => (intro w1 hS1; obtain ⟨c0, c1, k3⟩ := hS1; obtain ⟨q0, q1, q2, q3, q4, q5, q6, q7, q8⟩ := nt_at0 k3; clear k3; go_simp; try with_reducible rfl)
  try simp only [Act.put, List.setIfInBounds_toArray, List.set_cons_zero, List.set_cons_succ]
  refine wpAnyH_take (i := 18) (oi := { dst := some 75, op := Go.Op.load 2 (Go.Operand.tmp 74), type := 2, pos := "outbox.go:66", after := #[{ on := 17, ground := Go.Ground.data }], guard := none }) (v := ?_) rfl (by kernel_rfl) (by kernel_rfl) (by kernel_rfl) (fun _ _ _ h => h) (Or.inl ⟨by rfl, ?_⟩) HS0.out ?_
  case refine_2 => (intro w1 hS1; obtain ⟨c0, c1, k3⟩ := hS1; obtain ⟨q0, q1, q2, q3, q4, q5, q6, q7, q8⟩ := nt_at0 k3; clear k3; go_simp; try with_reducible rfl)
  try simp only [Act.put, List.setIfInBounds_toArray, List.set_cons_zero, List.set_cons_succ]
  refine wpAnyH_take (i := 19) (oi := { dst := some 76, op := Go.Op.move (Go.Operand.tmp 2), type := 2, pos := "outbox.go:66", after := #[], guard := none }) (v := ?_) rfl (by kernel_rfl) (by kernel_rfl) (by kernel_rfl) (fun _ _ _ h => h) (Or.inl ⟨by rfl, ?_⟩) HS0.out ?_
  case refine_2 => (intro w1 hS1; obtain ⟨c0, c1, k3⟩ := hS1; obtain ⟨q0, q1, q2, q3, q4, q5, q6, q7, q8⟩ := nt_at0 k3; clear k3; go_simp; try with_reducible rfl)
  try simp only [Act.put, List.setIfInBounds_toArray, List.set_cons_zero, List.set_cons_succ]
  refine wpAnyH_take (i := 20) (oi := { dst := some 77, op := Go.Op.build 36 #[(0, Go.Operand.tmp 65), (1, Go.Operand.tmp 67), (2, Go.Operand.tmp 69), (3, Go.Operand.tmp 71), (4, Go.Operand.const (Go.Value.int Go.IntKind.i64 1)), (6, Go.Operand.tmp 73), (7, Go.Operand.tmp 75), (8, Go.Operand.tmp 76)], type := 36, pos := "outbox.go:66", after := #[{ on := 8, ground := Go.Ground.data }, { on := 10, ground := Go.Ground.data }, { on := 12, ground := Go.Ground.data }, { on := 14, ground := Go.Ground.data }, { on := 16, ground := Go.Ground.data }, { on := 18, ground := Go.Ground.data }, { on := 19, ground := Go.Ground.data }], guard := none }) (v := ?_) rfl (by kernel_rfl) (by kernel_rfl) (by kernel_rfl) (fun _ _ _ h => h) (Or.inl ⟨by rfl, ?_⟩) HS0.out ?_
  case refine_2 => (intro w1 hS1; obtain ⟨c0, c1, k3⟩ := hS1; obtain ⟨q0, q1, q2, q3, q4, q5, q6, q7, q8⟩ := nt_at0 k3; clear k3; go_simp; try with_reducible rfl)
  try simp only [Act.put, List.setIfInBounds_toArray, List.set_cons_zero, List.set_cons_succ]
  refine wpAnyH_take (i := 21) (oi := { dst := some 78, op := Go.Op.nilCheck (Go.Operand.tmp 57), type := 0, pos := "outbox.go:66", after := #[{ on := 0, ground := Go.Ground.data }], guard := none }) (v := ?_) rfl (by kernel_rfl) (by kernel_rfl) (by kernel_rfl) (fun _ _ _ h => h) (Or.inl ⟨by rfl, ?_⟩) HS0.out ?_
  case refine_2 => (intro w1 hS1; obtain ⟨c0, c1, k3⟩ := hS1; obtain ⟨q0, q1, q2, q3, q4, q5, q6, q7, q8⟩ := nt_at0 k3; clear k3; go_simp; try with_reducible rfl)
  try simp only [Act.put, List.setIfInBounds_toArray, List.set_cons_zero, List.set_cons_succ]
  refine wpAnyH_take (i := 22) (oi := { dst := some 79, op := Go.Op.fieldAddr 79 (Go.Operand.tmp 78) 2, type := 0, pos := "outbox.go:66", after := #[{ on := 21, ground := Go.Ground.data }], guard := none }) (v := ?_) rfl (by kernel_rfl) (by kernel_rfl) (by kernel_rfl) (fun _ _ _ h => h) (Or.inl ⟨by rfl, ?_⟩) HS0.out ?_
  case refine_2 => (intro w1 hS1; obtain ⟨c0, c1, k3⟩ := hS1; obtain ⟨q0, q1, q2, q3, q4, q5, q6, q7, q8⟩ := nt_at0 k3; clear k3; go_simp; try with_reducible rfl)
  try simp only [Act.put, List.setIfInBounds_toArray, List.set_cons_zero, List.set_cons_succ]
  refine wpAnyH_take (i := 23) (oi := { dst := some 80, op := Go.Op.indexAddr 77 (Go.Operand.tmp 79) (Go.Operand.tmp 61), type := 0, pos := "outbox.go:66", after := #[{ on := 22, ground := Go.Ground.data }, { on := 4, ground := Go.Ground.data }, { on := 0, ground := Go.Ground.phase }, { on := 1, ground := Go.Ground.phase }, { on := 2, ground := Go.Ground.phase }, { on := 3, ground := Go.Ground.phase }, { on := 4, ground := Go.Ground.phase }, { on := 5, ground := Go.Ground.phase }, { on := 6, ground := Go.Ground.phase }, { on := 7, ground := Go.Ground.phase }, { on := 8, ground := Go.Ground.phase }, { on := 9, ground := Go.Ground.phase }, { on := 10, ground := Go.Ground.phase }, { on := 11, ground := Go.Ground.phase }, { on := 12, ground := Go.Ground.phase }, { on := 13, ground := Go.Ground.phase }, { on := 14, ground := Go.Ground.phase }, { on := 15, ground := Go.Ground.phase }, { on := 16, ground := Go.Ground.phase }, { on := 17, ground := Go.Ground.phase }, { on := 18, ground := Go.Ground.phase }, { on := 19, ground := Go.Ground.phase }, { on := 20, ground := Go.Ground.phase }], guard := none }) (v := ?_) rfl (by kernel_rfl) (by kernel_rfl) (by kernel_rfl) (fun _ _ _ h => h) (Or.inl ⟨by rfl, ?_⟩) HS0.out ?_
  case refine_2 => (intro w1 hS1; obtain ⟨c0, c1, k3⟩ := hS1; obtain ⟨q0, q1, q2, q3, q4, q5, q6, q7, q8⟩ := nt_at0 k3; clear k3; go_simp; try with_reducible rfl)
  try simp only [Act.put, List.setIfInBounds_toArray, List.set_cons_zero, List.set_cons_succ]
  refine wpAnyH_ready (rs := [24]) (by kernel_rfl) (by simp) ?_
  refine AllReadyH.cons (o := { dst := none, op := Go.Op.store 36 (Go.Operand.tmp 80) (Go.Operand.tmp 77), type := 0, pos := "outbox.go:66", after := #[{ on := 23, ground := Go.Ground.data }, { on := 20, ground := Go.Ground.data }, { on := 0, ground := Go.Ground.phase }, { on := 1, ground := Go.Ground.phase }, { on := 2, ground := Go.Ground.phase }, { on := 3, ground := Go.Ground.phase }, { on := 4, ground := Go.Ground.phase }, { on := 5, ground := Go.Ground.phase }, { on := 6, ground := Go.Ground.phase }, { on := 7, ground := Go.Ground.phase }, { on := 8, ground := Go.Ground.phase }, { on := 9, ground := Go.Ground.phase }, { on := 10, ground := Go.Ground.phase }, { on := 11, ground := Go.Ground.phase }, { on := 12, ground := Go.Ground.phase }, { on := 13, ground := Go.Ground.phase }, { on := 14, ground := Go.Ground.phase }, { on := 15, ground := Go.Ground.phase }, { on := 16, ground := Go.Ground.phase }, { on := 17, ground := Go.Ground.phase }, { on := 18, ground := Go.Ground.phase }, { on := 19, ground := Go.Ground.phase }, { on := 20, ground := Go.Ground.phase }], guard := none }) rfl (fun K hK => ?_) AllReadyH.nil
  rw [if_pos (by rfl)]
  refine wp_store_mid 36 (.tmp 80) (.tmp 77) rfl b (2 + m * 9) (newN last x now).L.toArray rfl rfl (HTH.out _ HM.out) nt_info (all_oneCell_toArray (nt_one _)) ?_
  rw [List.toList_toArray]
  have HS0' : Hid ((fun W : World => W.cell? ⟨b, 0, none⟩ = some (.int .u64 (last + 1)) ∧ W.cell? ⟨b, 1, none⟩ = some (.int .i64 (m : Int)) ∧ W.heap[N]? = some (.cells #[.int .u64 x.id, .int .u64 x.tk, .int .i64 x.lv, .int .i64 x.pa, .int .i64 x.st, .int .i64 x.tr, .int .i64 x.rt, .int .i64 x.wt, .int .i64 x.nx] 36 (0, 0))) (w5.setCells b (2 + m * 9) (newN last x now).L)) := Lib.hid ⟨cell_apart HS0.out.1 (by omega), cell_apart HS0.out.2.1 (by omega), (setCells_block (HNB2.out) _ _ _).trans HS0.out.2.2⟩
  have HX6 := Lib.hid (HX5.out.push HMM.out HM.out (newN last x now))
  clear HS0 HX5
  have HS0 := HS0'
  clear HS0'
  generalize hW6 : w5.setCells b (2 + m * 9) (newN last x now).L = w6 at HS0 HX6 ⊢
  rw [hW6] at HO6'
  clear hW6
  refine hK.out _ _ HS0.out (fun hHeld => ?_)
  clear hK K hHeld
  try simp only [Act.put, List.setIfInBounds_toArray, List.set_cons_zero, List.set_cons_succ]
  refine wpAnyH_done (by kernel_rfl) ?_ _
  have c1 := HX6.out.c1
  have f1 := HX6.out.fr 1 (by omega)
  have c0 := (HX6.out.many (m + 1)).c0
  have HX7 := Lib.hid (HX6.out.many (m + 1))
  have HO7 : Hid (OnlyB b w (w6.setCell ⟨b, 1, none⟩ (.int .i64 ((m + 1 : Nat) : Int)))) := Lib.hid (OnlyB.set HO6'.out 1 [.int .i64 ((m + 1 : Nat) : Int)])
  have hmi : ((m + 1 : Nat) : Int) = (m : Int) + 1 := by omega
  rw [hmi] at HX7 HO7 c0
  go_wp2_with fail
  refine bodyPost_ret (results_tmp2 rfl _ _ _) rfl ?_
  exact ⟨rfl, HX7.out.x (by rw [List.length_append, HMM.out]; rfl), HO7.out⟩
end Go.Proofs.Ytnfpheccmjdpoaa
