/- The outbox: a notice is tried, acked, told. -/
import Derived.Test.YtnfpheccmjdpoaaObE
import Derived.Laws.ResultCell
namespace Go.Proofs.Ytnfpheccmjdpoaa
open Go.RowKit
theorem range_set {w : World} {b o i : Nat} {v : Value} {L : List Value} (h : w.rangeAt b o L) (hi : i < L.length) (ht : w.there b (o + i) 1) : (w.setCells b (o + i) [v]).rangeAt b o (L.set i v) := fun j u hu => by
  by_cases e : j = i
  · subst e
    rw [List.getElem?_set_self hi] at hu
    injection hu with hu
    subst hu
    have h1 := World.rangeAt_setCells_same w b (o + j) [v] ht 0 v rfl
    simpa using h1
  · rw [List.getElem?_set_ne (Ne.symm e)] at hu
    exact cell_apart (vs := [v]) (h j u hu) (by simp <;> omega)
theorem BX.turn {w : World} {b : Nat} {last : Int} {l : List Nt} (h : BX w b last l) {k : Nat} (hk : k < l.length) (i : Nat) (hi : i < 9) (v : Value) (x' : Nt) (hx : x'.L = l[k].L.set i v) : BX (w.setCell ⟨b, 2 + k * 9 + i, none⟩ v) b last (l.set k x') := by
  have hk8 : k < 128 := Nat.lt_of_lt_of_le hk h.len
  have ht : w.there b (2 + k * 9 + i) 1 := there_part h.th (by omega)
  refine ⟨cell_apart (vs := [v]) h.c0 (.inl (by omega)), ?_, cell_apart (vs := [v]) h.c2 (.inr (by simp <;> omega)), fun j hj => ?_, World.there_setCells h.th b _ [v], by rw [List.length_set]; exact h.len⟩
  · rw [List.length_set]
    exact cell_apart (vs := [v]) h.c1 (.inl (by omega))
  · have hj2 : j < l.length := by rw [List.length_set] at hj; exact hj
    by_cases e : j = k
    · subst e
      rw [List.getElem_set_self]
      refine nt_of_range ?_
      rw [hx]
      exact range_set (nt_range (h.row j hj2)) hi ht
    · rw [List.getElem_set_ne (Ne.symm e)]
      exact nt_of_range (World.rangeAt_setCells_apart (nt_range (h.row j hj2)) b _ [v] (.inr (by have : l[j].L.length = 9 := rfl; rw [this]; simp; omega)))
theorem BX.atk {w : World} {b : Nat} {last : Int} {l : List Nt} {k : Nat} {x : Nt} (h : BX w b last (l.set k x)) (hk : k < l.length) : NtAt w b (2 + k * 9) x := by
  have := h.row k (by rw [List.length_set]; exact hk)
  rwa [List.getElem_set_self] at this
theorem nt_und : Try.prog.underlying 36 = some (.struct (Try.prog.fieldsOf 36)) := by kernel_rfl
theorem nt_res {fn : Func} {p u : Nat} (h : fn.results = #[.cell p 36, .tmp u]) (tmps : Array Value) (w : World) (N : Nat) (x : Nt) (hp : tmps.getD p undef = .pointer (some ⟨N, 0, none⟩)) (hR : NtAt w N 0 x) : (results fn tmps).run Try.prog w = .ok (.tuple #[x.V, tmps.getD u undef]) w := by
  rw [results_cell_tmp h, hp]
  have hl := run_loadVar_mid w N 0 _ x.L _ (nt_range hR) nt_und rfl nt_info
  simp only [asAddr, Sem.run_pure, Result.andThen_ok, hl]
  rfl
theorem first_only {l : List Nt} {id : Int} {j k : Nat} (hj : j < l.length) (hk : k < l.length) (h1 : l[j].id = id) (h2 : ∀ x ∈ l.take j, x.id ≠ id) (h3 : l[k].id = id) (h4 : ∀ x ∈ l.take k, x.id ≠ id) : j = k := by
  rcases Nat.lt_trichotomy j k with h | h | h
  · exact absurd h1 (h4 _ (List.mem_take_iff_getElem.2 ⟨j, by omega, rfl⟩))
  · exact h
  · exact absurd h3 (h2 _ (List.mem_take_iff_getElem.2 ⟨k, by omega, rfl⟩))
theorem find_at (b : Nat) (last : Int) (l : List Nt) (id : Int) (w : World) (h : BX w b last l) (k : Nat) (hk : k < l.length) (h1 : l[k].id = id) (h2 : ∀ x ∈ l.take k, x.id ≠ id) : Calls Try.prog 44 #[.pointer (some ⟨b, 0, none⟩), .int .u64 id] w fun e w' => e = .returned (.tuple #[.pointer (some ⟨b, 2 + k * 9, none⟩), .int .i64 0]) ∧ Below w.heap.size w w' := by
  refine (find_box b last l id w h).mono ?_
  rintro e w' ⟨⟨j, hj, q1, q2, rfl⟩ | ⟨q1, rfl⟩, hb⟩
  · obtain rfl := first_only hj hk q1 q2 h1 h2
    exact ⟨rfl, hb⟩
  · exact absurd h1 (q1 _ (List.getElem_mem hk))
theorem find_none (b : Nat) (last : Int) (l : List Nt) (id : Int) (w : World) (h : BX w b last l) (h1 : ∀ x ∈ l, x.id ≠ id) : Calls Try.prog 44 #[.pointer (some ⟨b, 0, none⟩), .int .u64 id] w fun e w' => e = .returned (.tuple #[.pointer none, .int .i64 31]) ∧ Below w.heap.size w w' := by
  refine (find_box b last l id w h).mono ?_
  rintro e w' ⟨⟨j, hj, q1, q2, rfl⟩ | ⟨q1, rfl⟩, hb⟩
  · exact absurd q1 (h1 _ (List.getElem_mem hj))
  · exact ⟨rfl, hb⟩
theorem there_new {w : World} {N : Nat} {A : Array Value} {t : TypeId} (h : w.heap[N]? = some (.cells A t (0, 0))) : w.there N 0 A.size := fun j hj => ⟨by simp only [World.cell?, h]; simp [hj], by simp [World.frozen?, h]⟩
theorem nt_infoL (x : Nt) : (Try.prog.info? 36).map (·.size) = some x.L.toArray.size := nt_info
theorem nt_oneL (x : Nt) : x.L.toArray.all (·.oneCell') = true := all_oneCell_toArray (nt_one x)
theorem below_cells {B N : Nat} {w w' : World} (h : Below B w w') (hN : B ≤ N) (o : Nat) (vs : List Value) : Below B w (w'.setCells N o vs) :=
  ⟨by rw [← h.os]; exact setCells_os _ _ _, by rw [← h.tape]; exact setCells_tape _ _ _, by rw [← h.output]; exact setCells_output _ _ _, by rw [setCells_size]; exact h.size, fun k hk => (setCells_block (by omega) _ _ _).trans (h.block k hk)⟩
theorem OnlyB.cells {b N : Nat} {w w' : World} (h : OnlyB b w w') (hN : w.heap.size ≤ N) (o : Nat) (vs : List Value) : OnlyB b w (w'.setCells N o vs) :=
  ⟨by rw [← h.os]; exact setCells_os _ _ _, by rw [← h.tape]; exact setCells_tape _ _ _, by rw [← h.output]; exact setCells_output _ _ _, by rw [setCells_size]; exact h.size, fun k hk hb => (setCells_block (by omega) _ _ _).trans (h.block k hk hb)⟩
/-- The room for a result, turned to a notice. -/
theorem res_set {w w' : World} {N : Nat} {x : Nt} (hs : w.there N 0 9) (e : w' = w.setCells N 0 x.L) : NtAt w' N 0 x := by
  subst e
  exact nt_of_range (World.rangeAt_setCells_same w N 0 x.L hs)
/-- What a notice is that is acked; that is tried. -/
def ackN (x : Nt) : Nt := ⟨x.id, x.tk, x.lv, x.pa, 2, x.tr, x.rt, x.wt, x.nx⟩
def tried1 (x : Nt) : Nt := ⟨x.id, x.tk, x.lv, x.pa, x.st, x.tr + 1, x.rt, x.wt, x.nx⟩
def tried2 (x : Nt) (now : Int) : Nt := ⟨x.id, x.tk, x.lv, x.pa, x.st, x.tr + 1, x.rt, x.wt, mn now (1125899906842624 - x.wt) + x.wt⟩
def triedZ (x : Nt) (now z : Int) : Nt := ⟨x.id, x.tk, x.lv, x.pa, x.st, x.tr + 1, x.rt, z, mn now (1125899906842624 - x.wt) + x.wt⟩
def tried3 (x : Nt) (now : Int) : Nt := ⟨x.id, x.tk, x.lv, x.pa, x.st, x.tr + 1, x.rt, mn (2 * x.wt) 1048576, mn now (1125899906842624 - x.wt) + x.wt⟩
set_option maxRecDepth 100000 in
set_option maxHeartbeats 8000000 in
theorem get_at (b : Nat) (last : Int) (l : List Nt) (id : Int) (w : World) (h : BX w b last l) (k : Nat) (hk : k < l.length) (h1 : l[k].id = id) (h2 : ∀ x ∈ l.take k, x.id ≠ id) : Calls Try.prog 13 #[.pointer (some ⟨b, 0, none⟩), .int .u64 id] w fun e w' => e = .returned (.tuple #[l[k].V, .bool true]) ∧ Below w.heap.size w w' := by
  obtain ⟨B1, s0, -⟩ := box1 w #[.int .u64 0, .int .u64 0, .int .i64 0, .int .i64 0, .int .i64 0, .int .i64 0, .int .i64 0, .int .i64 0, .int .i64 0] 36
  have HX := Lib.hid (h.below B1)
  have HB := Lib.hid B1
  have HT : Hid ((w.alloc (.cells #[.int .u64 0, .int .u64 0, .int .i64 0, .int .i64 0, .int .i64 0, .int .i64 0, .int .i64 0, .int .i64 0, .int .i64 0] 36)).there w.heap.size 0 9) := Lib.hid (there_new s0)
  have HS := Lib.hid s0
  have H2 := Lib.hid h2
  have HBL : Hid (b < w.heap.size) := Lib.hid h.lt
  obtain ⟨x, hx⟩ : ∃ x, l[k] = x := ⟨_, rfl⟩
  have HXE := Lib.hid hx
  clear h B1 s0 h2
  go_enter Try.func13, Try.ntmps13
  go_wp2_with fail
  obtain ⟨N, hN⟩ : ∃ N, w.heap.size = N := ⟨_, rfl⟩
  rw [hN] at HS HT HBL
  try rw [hN]
  have HN := Lib.hid hN
  clear hN
  generalize w.alloc (.cells #[.int .u64 0, .int .u64 0, .int .i64 0, .int .i64 0, .int .i64 0, .int .i64 0, .int .i64 0, .int .i64 0, .int .i64 0] 36) = w1 at HX HB HS HT ⊢
  refine (find_at b last l id w1 HX.out k hk h1 H2.out).mono ?_
  rintro e w2 ⟨rfl, hb⟩
  have HX2 := Lib.hid (HX.out.below hb)
  have HB2 := Lib.hid (HB.out.trans (hb.mono HB.out.size))
  have HS2 := Lib.hid (ex_below HS.out hb)
  have HT2 : Hid (w2.there N 0 9) := Lib.hid (there_new HS2.out)
  clear hb HX HB HS HT
  have hr := HX2.out.row k hk
  rw [hx] at hr
  have HR := Lib.hid hr
  obtain ⟨q0, q1, q2, q3, q4, q5, q6, q7, q8⟩ := hr
  generalize 2 + k * 9 = o at q0 q1 q2 q3 q4 q5 q6 q7 q8 ⊢
  go_wp2_with (refine wpList_store_mid rfl 36 (.tmp 4) (.tmp 19) rfl N 0 x.L.toArray rfl rfl HT2.out (nt_infoL x) (nt_oneL x) ?_; rw [List.toList_toArray]; generalize hW3 : w2.setCells N 0 x.L = w3; have HW := Lib.hid hW3; clear hW3)
  refine bodyPost_ret (nt_res rfl _ _ N x rfl (res_set HT2.out HW.out.symm)) rfl ?_
  have HWN := HN.out
  subst HWN
  refine ⟨by rw [HXE.out]; rfl, ?_⟩
  rw [← HW.out]
  exact below_cells HB2.out (Nat.le_refl _) _ _

set_option maxRecDepth 100000 in
set_option maxHeartbeats 8000000 in
theorem ack_ok (b : Nat) (last : Int) (l : List Nt) (id : Int) (w : World) (h : BX w b last l) (k : Nat) (hk : k < l.length) (h1 : l[k].id = id) (h2 : ∀ x ∈ l.take k, x.id ≠ id) (he : endN l[k] = false) (ht : 0 < l[k].tr) : Calls Try.prog 22 #[.pointer (some ⟨b, 0, none⟩), .int .u64 id] w fun e w' => e = .returned (.tuple #[(ackN l[k]).V, .int .i64 0]) ∧ BX w' b last (l.set k (ackN l[k])) ∧ OnlyB b w w' := by
  obtain ⟨B1, s0, -⟩ := box1 w #[.int .u64 0, .int .u64 0, .int .i64 0, .int .i64 0, .int .i64 0, .int .i64 0, .int .i64 0, .int .i64 0, .int .i64 0] 36
  have HX := Lib.hid (h.below B1)
  have HB := Lib.hid B1
  have HT : Hid ((w.alloc (.cells #[.int .u64 0, .int .u64 0, .int .i64 0, .int .i64 0, .int .i64 0, .int .i64 0, .int .i64 0, .int .i64 0, .int .i64 0] 36)).there w.heap.size 0 9) := Lib.hid (there_new s0)
  have HS := Lib.hid s0
  have H2 := Lib.hid h2
  have HBL : Hid (b < w.heap.size) := Lib.hid h.lt
  obtain ⟨x, hx⟩ : ∃ x, l[k] = x := ⟨_, rfl⟩
  have HXE := Lib.hid hx
  clear h B1 s0 h2
  go_enter Try.func22, Try.ntmps22
  go_wp2_with fail
  obtain ⟨N, hN⟩ : ∃ N, w.heap.size = N := ⟨_, rfl⟩
  rw [hN] at HS HT HBL
  try rw [hN]
  have HN := Lib.hid hN
  clear hN
  generalize w.alloc (.cells #[.int .u64 0, .int .u64 0, .int .i64 0, .int .i64 0, .int .i64 0, .int .i64 0, .int .i64 0, .int .i64 0, .int .i64 0] 36) = w1 at HX HB HS HT ⊢
  refine (find_at b last l id w1 HX.out k hk h1 H2.out).mono ?_
  rintro e w2 ⟨rfl, hb⟩
  have HX2 := Lib.hid (HX.out.below hb)
  have HB2 := Lib.hid (HB.out.trans (hb.mono HB.out.size))
  have HS2 := Lib.hid (ex_below HS.out hb)
  have HT2 : Hid (w2.there N 0 9) := Lib.hid (there_new HS2.out)
  clear hb HX HB HS HT
  have hr := HX2.out.row k hk
  rw [hx] at hr
  have HR := Lib.hid hr
  obtain ⟨q0, q1, q2, q3, q4, q5, q6, q7, q8⟩ := hr
  rw [hx] at he ht
  have HE := Lib.hid he
  have ht2 : decide (x.tr = 0) = false := decide_eq_false (by omega)
  have ht3 : (x.tr == 0) = false := by simp; omega
  have HTU := Lib.hid (fun W (hW : BX W b last l) => hW.turn hk 4 (by omega) (.int .i64 2) (ackN x) (by rw [hx]; rfl))
  have HFR := Lib.hid (fun W (hW : BX W b last l) => hW.fr (2 + k * 9 + 4) (by have := hW.len; omega))
  clear he ht
  obtain ⟨o, ho⟩ : ∃ o, 2 + k * 9 = o := ⟨_, rfl⟩
  rw [ho] at q0 q1 q2 q3 q4 q5 q6 q7 q8 HTU HFR HR
  rw [ho]
  have HO := Lib.hid ho
  clear ho
  go_wp2_with fail
  clear q0 q1 q2 q3 q4 q5 q6 q7 q8
  refine (ended_any x w2).mono ?_
  rintro e w3 ⟨rfl, hb⟩
  rw [HE.out]
  have HX3 := Lib.hid (HX2.out.below hb)
  have HB3 := Lib.hid (HB2.out.trans (hb.mono HB2.out.size))
  have HT3 : Hid (w3.there N 0 9) := Lib.hid (there_new (ex_below HS2.out hb))
  obtain ⟨q0, q1, q2, q3, q4, q5, q6, q7, q8⟩ := HR.out.below hb
  have hfr := HFR.out w3 HX3.out
  clear hb HX2 HB2 HT2 HS2
  have HT4 : Hid ((w3.setCell ⟨b, o + 4, none⟩ (.int .i64 2)).there N 0 9) := Lib.hid (World.there_setCells HT3.out b (o + 4) [.int .i64 2])
  go_wp2_with (refine wpList_store_mid rfl 36 (.tmp 4) (.tmp 37) rfl N 0 (ackN x).L.toArray rfl rfl HT4.out (nt_infoL (ackN x)) (nt_oneL (ackN x)) ?_; rw [List.toList_toArray]; generalize hW5 : (w3.setCell ⟨b, o + 4, none⟩ (.int .i64 2)).setCells N 0 (ackN x).L = w5; have HW := Lib.hid hW5; clear hW5)
  refine bodyPost_ret (nt_res rfl _ _ N (ackN x) rfl (res_set HT4.out HW.out.symm)) rfl ?_
  have HWN := HN.out
  rw [HXE.out, ← HW.out]
  exact ⟨rfl, (HTU.out w3 HX3.out).kept (setCells_block (by have := HBL.out; omega) _ _ _), ((show OnlyB b w w3 from Only.below HB3.out).set (o + 4) [.int .i64 2]).cells (by omega) _ _⟩
set_option maxRecDepth 100000 in
set_option maxHeartbeats 8000000 in
theorem try_ok (b : Nat) (last : Int) (l : List Nt) (id now : Int) (w : World) (h : BX w b last l) (k : Nat) (hk : k < l.length) (h1 : l[k].id = id) (h2 : ∀ x ∈ l.take k, x.id ≠ id) (he : endN l[k] = false) (hx0 : exhN l[k] = false) (hn : l[k].nx ≤ now) (ht : 0 ≤ l[k].tr ∧ l[k].rt ≤ 8) (hw : 1 ≤ l[k].wt ∧ l[k].wt ≤ 1048576) (h0 : 0 ≤ now) : Calls Try.prog 20 #[.pointer (some ⟨b, 0, none⟩), .int .u64 id, .int .i64 now] w fun e w' => e = .returned (.tuple #[(tried3 l[k] now).V, .int .i64 0]) ∧ BX w' b last (l.set k (tried3 l[k] now)) ∧ OnlyB b w w' := by
  obtain ⟨B1, s0, -⟩ := box1 w #[.int .u64 0, .int .u64 0, .int .i64 0, .int .i64 0, .int .i64 0, .int .i64 0, .int .i64 0, .int .i64 0, .int .i64 0] 36
  have HX := Lib.hid (h.below B1)
  have HB := Lib.hid B1
  have HT : Hid ((w.alloc (.cells #[.int .u64 0, .int .u64 0, .int .i64 0, .int .i64 0, .int .i64 0, .int .i64 0, .int .i64 0, .int .i64 0, .int .i64 0] 36)).there w.heap.size 0 9) := Lib.hid (there_new s0)
  have HS := Lib.hid s0
  have H2 := Lib.hid h2
  have HBL : Hid (b < w.heap.size) := Lib.hid h.lt
  obtain ⟨x, hx⟩ : ∃ x, l[k] = x := ⟨_, rfl⟩
  have HXE := Lib.hid hx
  have HLEN := Lib.hid h.len
  clear h B1 s0 h2
  go_enter Try.func20, Try.ntmps20
  go_wp2_with fail
  obtain ⟨N, hN⟩ : ∃ N, w.heap.size = N := ⟨_, rfl⟩
  rw [hN] at HS HT HBL
  try rw [hN]
  have HN := Lib.hid hN
  clear hN
  generalize w.alloc (.cells #[.int .u64 0, .int .u64 0, .int .i64 0, .int .i64 0, .int .i64 0, .int .i64 0, .int .i64 0, .int .i64 0, .int .i64 0] 36) = w1 at HX HB HS HT ⊢
  refine (find_at b last l id w1 HX.out k hk h1 H2.out).mono ?_
  rintro e w2 ⟨rfl, hb⟩
  have HX2 := Lib.hid (HX.out.below hb)
  have HB2 := Lib.hid (HB.out.trans (hb.mono HB.out.size))
  have HS2 := Lib.hid (ex_below HS.out hb)
  have HT2 : Hid (w2.there N 0 9) := Lib.hid (there_new HS2.out)
  clear hb HX HB HS HT
  have hr := HX2.out.row k hk
  rw [hx] at hr
  have HR := Lib.hid hr
  obtain ⟨q0, q1, q2, q3, q4, q5, q6, q7, q8⟩ := hr
  rw [hx] at he ht hx0 hn hw
  have HE := Lib.hid he
  have HEX := Lib.hid hx0
  have htr : x.tr < x.rt := by simpa [exhN] using hx0
  have d1 : decide (now < x.nx) = false := decide_eq_false (by omega)
  have wt1 : wrap64 (x.tr + 1) = x.tr + 1 := IntWalk.wrap64_in _ (by omega)
  have wt4 : wrap64 (2 * x.wt) = 2 * x.wt := IntWalk.wrap64_in _ (by omega)
  have HM := Lib.hid (mn_cases now (1125899906842624 - x.wt))
  have HW1 : Hid (-9223372036854775808 ≤ 1125899906842624 - x.wt ∧ 1125899906842624 - x.wt ≤ 9223372036854775807) := Lib.hid (by omega)
  have HW2 : Hid (-9223372036854775808 ≤ mn now (1125899906842624 - x.wt) + x.wt ∧ mn now (1125899906842624 - x.wt) + x.wt ≤ 9223372036854775807) := Lib.hid (by have := HM.out; omega)
  have HTU1 := Lib.hid (fun W (hW : BX W b last l) => hW.turn hk 5 (by omega) (.int .i64 (x.tr + 1)) (tried1 x) (by rw [hx]; rfl))
  have hks : k < (l.set k (tried1 x)).length := by rw [List.length_set]; exact hk
  have HTU2 : Hid (∀ W, BX W b last (l.set k (tried1 x)) → BX (W.setCell ⟨b, 2 + k * 9 + 8, none⟩ (.int .i64 (mn now (1125899906842624 - x.wt) + x.wt))) b last (l.set k (tried2 x now))) := Lib.hid (fun W hW => by
    have := hW.turn hks 8 (by omega) (.int .i64 (mn now (1125899906842624 - x.wt) + x.wt)) (tried2 x now) (by rw [List.getElem_set_self]; rfl)
    rwa [List.set_set] at this)
  have hks2 : k < (l.set k (tried2 x now)).length := by rw [List.length_set]; exact hk
  have HTU3 : Hid (∀ W z, BX W b last (l.set k (tried2 x now)) → BX (W.setCell ⟨b, 2 + k * 9 + 7, none⟩ (.int .i64 z)) b last (l.set k (triedZ x now z))) := Lib.hid (fun W z hW => by
    have := hW.turn hks2 7 (by omega) (.int .i64 z) (triedZ x now z) (by rw [List.getElem_set_self]; rfl)
    rwa [List.set_set] at this)
  have HFR := Lib.hid (fun W L (hW : BX W b last L) (i : Nat) (hi : i < 9) => hW.fr (2 + k * 9 + i) (by have := HLEN.out; omega))
  have HAT := Lib.hid (fun W X (hW : BX W b last (l.set k X)) => hW.atk hk)
  clear he ht hx0 hn hw h0 htr hks hks2
  obtain ⟨o, ho⟩ : ∃ o, 2 + k * 9 = o := ⟨_, rfl⟩
  rw [ho] at q0 q1 q2 q3 q4 q5 q6 q7 q8 HTU1 HTU2 HTU3 HFR HR HAT
  rw [ho]
  have HO := Lib.hid ho
  clear ho
  go_wp2_with fail
  clear q0 q1 q2 q3 q4 q5 q6 q7 q8
  refine (ended_any x w2).mono ?_
  rintro e w3 ⟨rfl, hb⟩
  rw [HE.out]
  have HX3 := Lib.hid (HX2.out.below hb)
  have HB3 := Lib.hid (HB2.out.trans (hb.mono HB2.out.size))
  have HS3 := Lib.hid (ex_below HS2.out hb)
  have HR3 := Lib.hid (HR.out.below hb)
  obtain ⟨q0, q1, q2, q3, q4, q5, q6, q7, q8⟩ := HR3.out
  clear hb HX2 HB2 HT2 HS2 HR
  go_wp2_with fail
  clear q0 q1 q2 q3 q4 q5 q6 q7 q8
  refine (exhausted_any x w3).mono ?_
  rintro e w4 ⟨rfl, hb⟩
  rw [HEX.out]
  have HX4 := Lib.hid (HX3.out.below hb)
  have HB4 := Lib.hid (HB3.out.trans (hb.mono HB3.out.size))
  have HT4 : Hid (w4.there N 0 9) := Lib.hid (there_new (ex_below HS3.out hb))
  obtain ⟨q0, q1, q2, q3, q4, q5, q6, q7, q8⟩ := HR3.out.below hb
  have hfr := HFR.out w4 l HX4.out 5 (by omega)
  clear hb HX3 HB3 HS3 HR3
  go_wp2_with fail
  have HX5 := Lib.hid (HTU1.out w4 HX4.out)
  have HO5 := Lib.hid ((show OnlyB b w w4 from Only.below HB4.out).set (o + 5) [.int .i64 (x.tr + 1)])
  have HT5 : Hid ((w4.setCell ⟨b, o + 5, none⟩ (.int .i64 (x.tr + 1))).there N 0 9) := Lib.hid (World.there_setCells HT4.out b (o + 5) [.int .i64 (x.tr + 1)])
  clear q0 q1 q2 q3 q4 q5 q6 q7 q8 hfr HX4 HB4 HT4
  obtain ⟨w5, hw5⟩ : ∃ W, w4.setCell ⟨b, o + 5, none⟩ (.int .i64 (x.tr + 1)) = W := ⟨_, rfl⟩
  rw [hw5]
  have HX5' : Hid (BX w5 b last (l.set k (tried1 x))) := Lib.hid (by rw [← hw5]; exact HX5.out)
  have HO5' : Hid (OnlyB b w w5) := Lib.hid (by rw [← hw5]; exact HO5.out)
  have HT5' : Hid (w5.there N 0 9) := Lib.hid (by rw [← hw5]; exact HT5.out)
  clear hw5 HX5 HO5 HT5
  have HS0 : Hid ((fun W : World => W.cell? ⟨b, o + 7, none⟩ = some (.int .i64 x.wt)) w5.drew) := Lib.hid (by obtain ⟨q0, q1, q2, q3, q4, q5, q6, q7, q8⟩ := HAT.out w5 _ HX5'.out; exact q7)
  refine wp_region_held_drew (S := (fun W : World => W.cell? ⟨b, o + 7, none⟩ = some (.int .i64 x.wt))) (by kernel_rfl) HS0.out (fun hHeld => ?_)
  clear hHeld
  have HX6 : Hid (BX w5.drew b last (l.set k (tried1 x))) := Lib.hid (HX5'.out.kept rfl)
  have HO6 : Hid (OnlyB b w w5.drew) := Lib.hid (Only.drew HO5'.out)
  have HT6 : Hid (w5.drew.there N 0 9) := Lib.hid (by simpa using HT5'.out)
  clear HX5' HO5' HT5'
  generalize w5.drew = w6 at HS0 HX6 HO6 HT6 ⊢
  refine wpAnyH_take (i := 0) (oi := { dst := some 48, op := Go.Op.move (Go.Operand.tmp 8), type := 94, pos := "outbox.go:84", after := #[], guard := none }) (v := ?_) rfl (by kernel_rfl) (by kernel_rfl) (by kernel_rfl) (fun _ _ _ h => h) (Or.inl ⟨by rfl, ?_⟩) HS0.out ?_
  case refine_2 => (intro w1 hS1; (try dsimp only at hS1); go_simp; try with_reducible rfl)
  try simp only [Act.put, List.setIfInBounds_toArray, List.set_cons_zero, List.set_cons_succ]
  refine wpAnyH_take (i := 1) (oi := { dst := some 49, op := Go.Op.move (Go.Operand.tmp 2), type := 2, pos := "outbox.go:84", after := #[], guard := none }) (v := ?_) rfl (by kernel_rfl) (by kernel_rfl) (by kernel_rfl) (fun _ _ _ h => h) (Or.inl ⟨by rfl, ?_⟩) HS0.out ?_
  case refine_2 => (intro w1 hS1; (try dsimp only at hS1); go_simp; try with_reducible rfl)
  try simp only [Act.put, List.setIfInBounds_toArray, List.set_cons_zero, List.set_cons_succ]
  refine wpAnyH_take (i := 2) (oi := { dst := some 50, op := Go.Op.move (Go.Operand.tmp 8), type := 94, pos := "outbox.go:84", after := #[], guard := none }) (v := ?_) rfl (by kernel_rfl) (by kernel_rfl) (by kernel_rfl) (fun _ _ _ h => h) (Or.inl ⟨by rfl, ?_⟩) HS0.out ?_
  case refine_2 => (intro w1 hS1; (try dsimp only at hS1); go_simp; try with_reducible rfl)
  try simp only [Act.put, List.setIfInBounds_toArray, List.set_cons_zero, List.set_cons_succ]
  refine wpAnyH_take (i := 3) (oi := { dst := some 51, op := Go.Op.nilCheck (Go.Operand.tmp 50), type := 0, pos := "outbox.go:84", after := #[{ on := 2, ground := Go.Ground.data }], guard := none }) (v := ?_) rfl (by kernel_rfl) (by kernel_rfl) (by kernel_rfl) (fun _ _ _ h => h) (Or.inl ⟨by rfl, ?_⟩) HS0.out ?_
  case refine_2 => (intro w1 hS1; (try dsimp only at hS1); go_simp; try with_reducible rfl)
  try simp only [Act.put, List.setIfInBounds_toArray, List.set_cons_zero, List.set_cons_succ]
  refine wpAnyH_take (i := 4) (oi := { dst := some 52, op := Go.Op.fieldAddr 36 (Go.Operand.tmp 51) 7, type := 0, pos := "outbox.go:84", after := #[{ on := 3, ground := Go.Ground.data }], guard := none }) (v := ?_) rfl (by kernel_rfl) (by kernel_rfl) (by kernel_rfl) (fun _ _ _ h => h) (Or.inl ⟨by rfl, ?_⟩) HS0.out ?_
  case refine_2 => (intro w1 hS1; (try dsimp only at hS1); go_simp; try with_reducible rfl)
  try simp only [Act.put, List.setIfInBounds_toArray, List.set_cons_zero, List.set_cons_succ]
  refine wpAnyH_take (i := 5) (oi := { dst := some 53, op := Go.Op.load 2 (Go.Operand.tmp 52), type := 2, pos := "outbox.go:84", after := #[{ on := 4, ground := Go.Ground.data }], guard := none }) (v := ?_) rfl (by kernel_rfl) (by kernel_rfl) (by kernel_rfl) (fun _ _ _ h => h) (Or.inl ⟨by rfl, ?_⟩) HS0.out ?_
  case refine_2 => (intro w1 hS1; (try dsimp only at hS1); go_simp; try with_reducible rfl)
  try simp only [Act.put, List.setIfInBounds_toArray, List.set_cons_zero, List.set_cons_succ]
  refine wpAnyH_take (i := 6) (oi := { dst := some 54, op := Go.Op.binOp Go.BinOp.sub 2 (Go.Operand.const (Go.Value.int Go.IntKind.i64 1125899906842624)) (Go.Operand.tmp 53) 2, type := 2, pos := "outbox.go:84", after := #[{ on := 5, ground := Go.Ground.data }], guard := none }) (v := ?_) rfl (by kernel_rfl) (by kernel_rfl) (by kernel_rfl) (fun _ _ _ h => h) (Or.inl ⟨by rfl, ?_⟩) HS0.out ?_
  case refine_2 => (intro w1 hS1; (try dsimp only at hS1); go_simp; try with_reducible rfl)
  try simp only [Act.put, List.setIfInBounds_toArray, List.set_cons_zero, List.set_cons_succ]
  refine wpAnyH_take (i := 7) (oi := { dst := some 55, op := Go.Op.call { callee := Go.Callee.builtin Go.Builtin.min, args := #[Go.Operand.tmp 49, Go.Operand.tmp 54], argTypes := #[2, 2] }, type := 2, pos := "outbox.go:84", after := #[{ on := 1, ground := Go.Ground.data }, { on := 6, ground := Go.Ground.data }], guard := none }) (v := ?_) rfl (by kernel_rfl) (by kernel_rfl) (by kernel_rfl) (fun _ _ _ h => h) (Or.inl ⟨by rfl, ?_⟩) HS0.out ?_
  case refine_2 => (intro w1 hS1; (try dsimp only at hS1); go_simp; try with_reducible rfl)
  try simp only [Act.put, List.setIfInBounds_toArray, List.set_cons_zero, List.set_cons_succ]
  refine wpAnyH_take (i := 8) (oi := { dst := some 56, op := Go.Op.move (Go.Operand.tmp 8), type := 94, pos := "outbox.go:84", after := #[], guard := none }) (v := ?_) rfl (by kernel_rfl) (by kernel_rfl) (by kernel_rfl) (fun _ _ _ h => h) (Or.inl ⟨by rfl, ?_⟩) HS0.out ?_
  case refine_2 => (intro w1 hS1; (try dsimp only at hS1); go_simp; try with_reducible rfl)
  try simp only [Act.put, List.setIfInBounds_toArray, List.set_cons_zero, List.set_cons_succ]
  refine wpAnyH_take (i := 9) (oi := { dst := some 57, op := Go.Op.nilCheck (Go.Operand.tmp 56), type := 0, pos := "outbox.go:84", after := #[{ on := 8, ground := Go.Ground.data }], guard := none }) (v := ?_) rfl (by kernel_rfl) (by kernel_rfl) (by kernel_rfl) (fun _ _ _ h => h) (Or.inl ⟨by rfl, ?_⟩) HS0.out ?_
  case refine_2 => (intro w1 hS1; (try dsimp only at hS1); go_simp; try with_reducible rfl)
  try simp only [Act.put, List.setIfInBounds_toArray, List.set_cons_zero, List.set_cons_succ]
  refine wpAnyH_take (i := 10) (oi := { dst := some 58, op := Go.Op.fieldAddr 36 (Go.Operand.tmp 57) 7, type := 0, pos := "outbox.go:84", after := #[{ on := 9, ground := Go.Ground.data }], guard := none }) (v := ?_) rfl (by kernel_rfl) (by kernel_rfl) (by kernel_rfl) (fun _ _ _ h => h) (Or.inl ⟨by rfl, ?_⟩) HS0.out ?_
  case refine_2 => (intro w1 hS1; (try dsimp only at hS1); go_simp; try with_reducible rfl)
  try simp only [Act.put, List.setIfInBounds_toArray, List.set_cons_zero, List.set_cons_succ]
  refine wpAnyH_take (i := 11) (oi := { dst := some 59, op := Go.Op.load 2 (Go.Operand.tmp 58), type := 2, pos := "outbox.go:84", after := #[{ on := 10, ground := Go.Ground.data }], guard := none }) (v := ?_) rfl (by kernel_rfl) (by kernel_rfl) (by kernel_rfl) (fun _ _ _ h => h) (Or.inl ⟨by rfl, ?_⟩) HS0.out ?_
  case refine_2 => (intro w1 hS1; (try dsimp only at hS1); go_simp; try with_reducible rfl)
  try simp only [Act.put, List.setIfInBounds_toArray, List.set_cons_zero, List.set_cons_succ]
  refine wpAnyH_take (i := 12) (oi := { dst := some 60, op := Go.Op.binOp Go.BinOp.add 2 (Go.Operand.tmp 55) (Go.Operand.tmp 59) 2, type := 2, pos := "outbox.go:84", after := #[{ on := 7, ground := Go.Ground.data }, { on := 11, ground := Go.Ground.data }], guard := none }) (v := ?_) rfl (by kernel_rfl) (by kernel_rfl) (by kernel_rfl) (fun _ _ _ h => h) (Or.inl ⟨by rfl, ?_⟩) HS0.out ?_
  case refine_2 => (intro w1 hS1; (try dsimp only at hS1); go_simp; try with_reducible rfl)
  try simp only [Act.put, List.setIfInBounds_toArray, List.set_cons_zero, List.set_cons_succ]
  refine wpAnyH_take (i := 13) (oi := { dst := some 61, op := Go.Op.nilCheck (Go.Operand.tmp 48), type := 0, pos := "outbox.go:84", after := #[{ on := 0, ground := Go.Ground.data }, { on := 0, ground := Go.Ground.phase }, { on := 1, ground := Go.Ground.phase }, { on := 2, ground := Go.Ground.phase }, { on := 3, ground := Go.Ground.phase }, { on := 4, ground := Go.Ground.phase }, { on := 5, ground := Go.Ground.phase }, { on := 6, ground := Go.Ground.phase }, { on := 7, ground := Go.Ground.phase }, { on := 8, ground := Go.Ground.phase }, { on := 9, ground := Go.Ground.phase }, { on := 10, ground := Go.Ground.phase }, { on := 11, ground := Go.Ground.phase }, { on := 12, ground := Go.Ground.phase }], guard := none }) (v := ?_) rfl (by kernel_rfl) (by kernel_rfl) (by kernel_rfl) (fun _ _ _ h => h) (Or.inl ⟨by rfl, ?_⟩) HS0.out ?_
  case refine_2 => (intro w1 hS1; (try dsimp only at hS1); go_simp; try with_reducible rfl)
  try simp only [Act.put, List.setIfInBounds_toArray, List.set_cons_zero, List.set_cons_succ]
  refine wpAnyH_take (i := 14) (oi := { dst := some 62, op := Go.Op.fieldAddr 36 (Go.Operand.tmp 61) 8, type := 0, pos := "outbox.go:84", after := #[{ on := 13, ground := Go.Ground.data }, { on := 0, ground := Go.Ground.phase }, { on := 1, ground := Go.Ground.phase }, { on := 2, ground := Go.Ground.phase }, { on := 3, ground := Go.Ground.phase }, { on := 4, ground := Go.Ground.phase }, { on := 5, ground := Go.Ground.phase }, { on := 6, ground := Go.Ground.phase }, { on := 7, ground := Go.Ground.phase }, { on := 8, ground := Go.Ground.phase }, { on := 9, ground := Go.Ground.phase }, { on := 10, ground := Go.Ground.phase }, { on := 11, ground := Go.Ground.phase }, { on := 12, ground := Go.Ground.phase }], guard := none }) (v := ?_) rfl (by kernel_rfl) (by kernel_rfl) (by kernel_rfl) (fun _ _ _ h => h) (Or.inl ⟨by rfl, ?_⟩) HS0.out ?_
  case refine_2 => (intro w1 hS1; (try dsimp only at hS1); go_simp; try with_reducible rfl)
  try simp only [Act.put, List.setIfInBounds_toArray, List.set_cons_zero, List.set_cons_succ]
  have f8 := HFR.out w6 _ HX6.out 8 (by omega)
  obtain ⟨q0, q1, q2, q3, q4, q5, q6, q7, q8⟩ := HAT.out w6 _ HX6.out
  refine wpAnyH_ready (rs := [15]) (by kernel_rfl) (by simp) ?_
  refine AllReadyH.cons rfl (fun K hK => ?_) AllReadyH.nil
  go_simp
  have hw9 : IntKind.i64.wrap ((if IntKind.i64.wrap (1125899906842624 - x.wt) < now then IntKind.i64.wrap (1125899906842624 - x.wt) else now) + x.wt) = mn now (1125899906842624 - x.wt) + x.wt := by
    rw [IntWalk.i64_in (1125899906842624 - x.wt) HW1.out]
    exact IntWalk.i64_in _ HW2.out
  rw [hw9]
  have hx7 := HTU2.out w6 HX6.out
  have HO7 := Lib.hid (OnlyB.set HO6.out (o + 8) [.int .i64 (mn now (1125899906842624 - x.wt) + x.wt)])
  have HT7 : Hid ((w6.setCell ⟨b, o + 8, none⟩ (.int .i64 (mn now (1125899906842624 - x.wt) + x.wt))).there N 0 9) := Lib.hid (World.there_setCells HT6.out b (o + 8) [.int .i64 (mn now (1125899906842624 - x.wt) + x.wt)])
  have hs7 : (w6.setCell ⟨b, o + 8, none⟩ (.int .i64 (mn now (1125899906842624 - x.wt) + x.wt))).cell? ⟨b, o + 7, none⟩ = some (.int .i64 x.wt) := by
    obtain ⟨-, -, -, -, -, -, -, r7, -⟩ := HAT.out _ _ hx7
    exact r7
  have HX7 := Lib.hid hx7
  clear hx7 q0 q1 q2 q3 q4 q5 q6 q7 q8 f8 HX6 HO6 HT6 hw9 HS0
  refine hK.out _ _ hs7 (fun hHeld => ?_)
  clear hK K hHeld hs7
  obtain ⟨w7, hw7⟩ : ∃ W, w6.setCell ⟨b, o + 8, none⟩ (.int .i64 (mn now (1125899906842624 - x.wt) + x.wt)) = W := ⟨_, rfl⟩
  rw [hw7]
  have HX7' : Hid (BX w7 b last (l.set k (tried2 x now))) := Lib.hid (by rw [← hw7]; exact HX7.out)
  have HO7' : Hid (OnlyB b w w7) := Lib.hid (by rw [← hw7]; exact HO7.out)
  have HT7' : Hid (w7.there N 0 9) := Lib.hid (by rw [← hw7]; exact HT7.out)
  clear hw7 HX7 HO7 HT7
  try simp only [Act.put, List.setIfInBounds_toArray, List.set_cons_zero, List.set_cons_succ]
  refine wpAnyH_done (by kernel_rfl) ?_ _
  obtain ⟨q0, q1, q2, q3, q4, q5, q6, q7, q8⟩ := HAT.out w7 _ HX7'.out
  have f7 := HFR.out w7 _ HX7'.out 7 (by omega)
  have q77 : w7.cell? ⟨b, o + 7, none⟩ = some (.int .i64 x.wt) := q7
  clear q7
  generalize (if IntKind.i64.wrap (1125899906842624 - x.wt) < now then IntKind.i64.wrap (1125899906842624 - x.wt) else now) = m9
  by_cases hq : 1048576 < 2 * x.wt
  · skip
    have hZ : Hid (tried3 x now = triedZ x now 1048576) := Lib.hid (by unfold tried3 triedZ; have := mn_cases (2 * x.wt) 1048576; rw [show mn (2 * x.wt) 1048576 = 1048576 from by omega])
    have HT8 : Hid ((w7.setCell ⟨b, o + 7, none⟩ (.int .i64 (1048576))).there N 0 9) := Lib.hid (World.there_setCells HT7'.out b (o + 7) [.int .i64 (1048576)])
    go_wp2_with (refine wpList_store_mid rfl 36 (.tmp 6) (.tmp 74) rfl N 0 (triedZ x now (1048576)).L.toArray rfl rfl HT8.out (nt_infoL _) (nt_oneL _) ?_; rw [List.toList_toArray]; generalize hW5 : (w7.setCell ⟨b, o + 7, none⟩ (.int .i64 (1048576))).setCells N 0 (triedZ x now (1048576)).L = w9; have HW := Lib.hid hW5; clear hW5)
    refine bodyPost_ret (nt_res rfl _ _ N (triedZ x now (1048576)) rfl (res_set HT8.out HW.out.symm)) rfl ?_
    have HWN := HN.out
    try rw [HXE.out]
    rw [← HW.out, hZ.out]
    exact ⟨rfl, (HTU3.out w7 _ HX7'.out).kept (setCells_block (by have := HBL.out; omega) _ _ _), (OnlyB.set HO7'.out (o + 7) [.int .i64 (1048576)]).cells (by omega) _ _⟩
  · skip
    have hZ : Hid (tried3 x now = triedZ x now (2 * x.wt)) := Lib.hid (by unfold tried3 triedZ; have := mn_cases (2 * x.wt) 1048576; rw [show mn (2 * x.wt) 1048576 = 2 * x.wt from by omega])
    have HT8 : Hid ((w7.setCell ⟨b, o + 7, none⟩ (.int .i64 (2 * x.wt))).there N 0 9) := Lib.hid (World.there_setCells HT7'.out b (o + 7) [.int .i64 (2 * x.wt)])
    go_wp2_with (refine wpList_store_mid rfl 36 (.tmp 6) (.tmp 74) rfl N 0 (triedZ x now (2 * x.wt)).L.toArray rfl rfl HT8.out (nt_infoL _) (nt_oneL _) ?_; rw [List.toList_toArray]; generalize hW5 : (w7.setCell ⟨b, o + 7, none⟩ (.int .i64 (2 * x.wt))).setCells N 0 (triedZ x now (2 * x.wt)).L = w9; have HW := Lib.hid hW5; clear hW5)
    refine bodyPost_ret (nt_res rfl _ _ N (triedZ x now (2 * x.wt)) rfl (res_set HT8.out HW.out.symm)) rfl ?_
    have HWN := HN.out
    try rw [HXE.out]
    rw [← HW.out, hZ.out]
    exact ⟨rfl, (HTU3.out w7 _ HX7'.out).kept (setCells_block (by have := HBL.out; omega) _ _ _), (OnlyB.set HO7'.out (o + 7) [.int .i64 (2 * x.wt)]).cells (by omega) _ _⟩
end Go.Proofs.Ytnfpheccmjdpoaa
