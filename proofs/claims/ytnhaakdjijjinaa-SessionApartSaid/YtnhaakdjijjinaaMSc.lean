import Derived.Test.YtnhaakdjijjinaaMSb
import Derived.Deep.MidRow
import Derived.Laws.ResultCell
namespace Go.Proofs.Ytnhaakdjijjinaa
open Go.RowKit
/- Session: the reference's table as a value, and its last request. -/
open Go.RowKit Go.Maps
/-- The cells of a call's reply. -/
def Opn.rc (x : Opn) : List Value := [.int .i64 x.cd, .int .i64 x.tm, .int .u64 x.id, .int .i64 x.cn, .int .i64 x.st, .int .i64 x.lv, .int .u64 x.ge, .int .i64 x.fr, .int .i64 x.lf, .int .i64 x.du, .int .i64 x.tl, .slice x.a x.n x.ca, .int .u64 x.nt, .int .i64 x.de]
def tabC (X : Nat → Opn) : List Value := (List.range 9).map (fun i => .int .u64 (X i).rq) ++ (List.range 9).flatMap (fun i => (X i).rc)
theorem flat_len14 (f : Nat → List Value) (hf : ∀ i, (f i).length = 14) : ∀ n, ((List.range n).flatMap f).length = 14 * n
  | 0 => rfl
  | n + 1 => by
    rw [List.range_succ, List.flatMap_append, List.length_append, flat_len14 f hf n]
    simp [hf]
    omega
theorem tabC_len (X : Nat → Opn) : (tabC X).length = 135 := by
  unfold tabC
  rw [List.length_append, flat_len14 _ (fun _ => rfl)]
  simp
theorem flat_get (f : Nat → List Value) (hf : ∀ i, (f i).length = 14) : ∀ n i k, i < n → k < 14 → ((List.range n).flatMap f)[14 * i + k]? = (f i)[k]?
  | 0, i, k, h, _ => by omega
  | n + 1, i, k, h, hk => by
    rw [List.range_succ, List.flatMap_append]
    by_cases e : i < n
    · rw [List.getElem?_append_left (by rw [flat_len14 f hf]; omega)]
      exact flat_get f hf n i k e hk
    · obtain rfl : i = n := by omega
      rw [List.getElem?_append_right (by rw [flat_len14 f hf]; omega), flat_len14 f hf]
      simp
theorem tabC_req (X : Nat → Opn) (i : Nat) (hi : i < 9) : (tabC X)[i]? = some (.int .u64 (X i).rq) := by
  unfold tabC
  rw [List.getElem?_append_left (by simpa using hi)]
  simp [hi]
theorem tabC_rep (X : Nat → Opn) (i k : Nat) (hi : i < 9) (hk : k < 14) : (tabC X)[9 + i * 14 + k]? = (X i).rc[k]? := by
  unfold tabC
  rw [List.getElem?_append_right (by simp; omega)]
  have : 9 + i * 14 + k - ((List.range 9).map (fun i => Value.int .u64 (X i).rq)).length = 14 * i + k := by simp; omega
  rw [this]
  exact flat_get (fun i => (X i).rc) (fun _ => rfl) 9 i k hi hk
/-- A table's value in block B. -/
def RT (w : World) (B : Nat) (X : Nat → Opn) : Prop := w.rangeAt B 0 (tabC X) ∧ w.there B 0 135
def rtV (X : Nat → Opn) : Value := .agg (tabC X).toArray
theorem RT.made (w : World) (X : Nat → Opn) (t : TypeId) : RT (w.alloc (.cells (tabC X).toArray t)) w.heap.size X := by
  obtain ⟨-, s, -⟩ := box1 w (tabC X).toArray t
  have hc : ∀ j, (w.alloc (.cells (tabC X).toArray t)).cell? ⟨w.heap.size, j, none⟩ = (tabC X)[j]? := fun j => by
    simp only [World.cell?, s]
    simp
  refine ⟨fun j v hv => ?_, fun j hj => ?_⟩
  · rw [Nat.zero_add, hc]
    exact hv
  · rw [Nat.zero_add, hc]
    have : j < (tabC X).length := by rw [tabC_len]; exact hj
    refine ⟨by rw [List.getElem?_eq_getElem this]; rfl, ?_⟩
    simp only [World.frozen?, s]
    simp
theorem RT.lt {w : World} {B : Nat} {X : Nat → Opn} (h : RT w B X) : B < w.heap.size := (cell_spot (h.1 0 _ (tabC_req X 0 (by omega)))).2
theorem RT.kept {w w' : World} {B : Nat} {X : Nat → Opn} (h : RT w B X) (hb : Below w.heap.size w w') : RT w' B X := by
  have hl := h.lt
  refine ⟨fun j v hv => (hb.cell (p := ⟨B, 0 + j, none⟩) hl).trans (h.1 j v hv), fun j hj => ?_⟩
  obtain ⟨h1, h2⟩ := h.2 j hj
  exact ⟨by rw [hb.cell (p := ⟨B, 0 + j, none⟩) hl]; exact h1, by rw [hb.frozen (p := ⟨B, 0 + j, none⟩) hl]; exact h2⟩
theorem RT.req {w : World} {B : Nat} {X : Nat → Opn} (h : RT w B X) (i : Nat) (hi : i < 9) : w.cell? ⟨B, i, none⟩ = some (.int .u64 (X i).rq) := by
  have := h.1 i _ (tabC_req X i hi)
  rwa [Nat.zero_add] at this
theorem RT.rep {w : World} {B : Nat} {X : Nat → Opn} (h : RT w B X) (i : Nat) (hi : i < 9) : w.rangeAt B (9 + i * 14) (X i).rc := by
  intro k v hv
  have hk : k < 14 := by have := (List.getElem?_eq_some_iff.1 hv).1; simpa [Opn.rc] using this
  have := h.1 (9 + i * 14 + k) v (by rw [tabC_rep X i k hi hk]; exact hv)
  rwa [Nat.zero_add] at this
theorem rt_info : (Try.prog.info? 62).map (·.size) = some 135 := by kernel_rfl
theorem rt_und : Try.prog.underlying 62 = some (.struct (Try.prog.fieldsOf 62)) := by kernel_rfl
theorem RT.load {w : World} {B : Nat} {X : Nat → Opn} (h : RT w B X) : (Instr.loadAt 62 (.pointer (some ⟨B, 0, none⟩))).run Try.prog w = .ok (rtV X) w :=
  run_loadAt_mid w B 0 _ (tabC X) _ h.1 rt_und rfl (by rw [rt_info, tabC_len])
set_option maxRecDepth 100000 in
set_option maxHeartbeats 8000000 in
theorem ris_any (cl : Int) (w : World) : Calls Try.prog 73 #[.int .u64 cl] w fun e w' => e = .returned (.bool (decide (1 ≤ cl) && decide (cl ≤ 8))) ∧ w = w' := by
  obtain ⟨x, hx⟩ : ∃ x, decide (1 ≤ cl) = x := ⟨_, rfl⟩
  obtain ⟨y, hy⟩ : ∃ y, decide (cl ≤ 8) = y := ⟨_, rfl⟩
  rw [hx, hy]
  cases x
  · go_enter Try.func73, Try.ntmps73
    go_wp2_with fail
    go_ret
    exact ⟨rfl, rfl⟩
  · go_enter Try.func73, Try.ntmps73
    go_wp2_with fail
    go_ret
    exact ⟨rfl, rfl⟩
set_option maxRecDepth 100000 in
set_option maxHeartbeats 8000000 in
theorem rlast_no (X : Nat → Opn) (cl : Int) (w : World) (h : ¬ (1 ≤ cl ∧ cl ≤ 8)) : Calls Try.prog 32 #[rtV X, .int .u64 cl] w fun e w' => e = .returned (.int .u64 0) ∧ Below w.heap.size w w' := by
  have B1 : Below w.heap.size w (w.alloc (.cells (tabC X).toArray 62)) := (Below.refl _ _).alloc (Nat.le_refl _) _
  have HI := Lib.hid (fun W => ris_any cl W)
  have he : (decide (1 ≤ cl) && decide (cl ≤ 8)) = false := by
    rw [Bool.and_eq_false_iff, decide_eq_false_iff_not, decide_eq_false_iff_not]
    omega
  rw [he] at HI
  have HB := Lib.hid B1
  clear h he B1
  unfold rtV
  generalize (tabC X).toArray = A at HB ⊢
  go_enter Try.func32, Try.ntmps32
  go_wp2_with fail
  refine (HI.out _).mono ?_
  rintro e w1 ⟨rfl, rfl⟩
  go_wp2_with fail
  go_ret
  exact ⟨rfl, HB.out⟩
set_option maxRecDepth 100000 in
set_option maxHeartbeats 8000000 in
theorem rlast_yes (X : Nat → Opn) (i : Nat) (w : World) (h : 1 ≤ i ∧ i ≤ 8) : Calls Try.prog 32 #[rtV X, .int .u64 (i : Int)] w fun e w' => e = .returned (.int .u64 (X i).rq) ∧ Below w.heap.size w w' := by
  have B1 : Below w.heap.size w (w.alloc (.cells (tabC X).toArray 62)) := (Below.refl _ _).alloc (Nat.le_refl _) _
  have HI := Lib.hid (fun W => ris_any (i : Int) W)
  have he : (decide (1 ≤ (i : Int)) && decide ((i : Int) ≤ 8)) = true := by
    rw [Bool.and_eq_true, decide_eq_true_eq, decide_eq_true_eq]
    omega
  rw [he] at HI
  have HB := Lib.hid B1
  have c0 := (RT.made w X 62).req i (by omega)
  obtain ⟨q, hq⟩ : ∃ q, (X i).rq = q := ⟨_, rfl⟩
  rw [hq] at c0 ⊢
  have i0 : (0 : Int) ≤ (i : Int) := by omega
  have i9 : (i : Int) < 9 := by omega
  clear he B1 hq
  unfold rtV
  generalize (tabC X).toArray = A at HB c0 ⊢
  go_enter Try.func32, Try.ntmps32
  go_wp2_with fail
  refine (HI.out _).mono ?_
  rintro e w1 ⟨rfl, rfl⟩
  go_wp2_with fail
  go_ret
  exact ⟨rfl, HB.out⟩
/- Session: the reference's Look. -/
open Go.RowKit Go.Maps
theorem rc_at {w : World} {B o : Nat} {x : Opn} (h : w.rangeAt B o x.rc) : w.cell? ⟨B, o, none⟩ = some (.int .i64 x.cd) ∧ w.cell? ⟨B, o + 1, none⟩ = some (.int .i64 x.tm) ∧ w.cell? ⟨B, o + 2, none⟩ = some (.int .u64 x.id) ∧ w.cell? ⟨B, o + 3, none⟩ = some (.int .i64 x.cn) ∧ w.cell? ⟨B, o + 4, none⟩ = some (.int .i64 x.st) ∧ w.cell? ⟨B, o + 5, none⟩ = some (.int .i64 x.lv) ∧ w.cell? ⟨B, o + 6, none⟩ = some (.int .u64 x.ge) ∧ w.cell? ⟨B, o + 7, none⟩ = some (.int .i64 x.fr) ∧ w.cell? ⟨B, o + 8, none⟩ = some (.int .i64 x.lf) ∧ w.cell? ⟨B, o + 9, none⟩ = some (.int .i64 x.du) ∧ w.cell? ⟨B, o + 10, none⟩ = some (.int .i64 x.tl) ∧ w.cell? ⟨B, o + 11, none⟩ = some (.slice x.a x.n x.ca) ∧ w.cell? ⟨B, o + 12, none⟩ = some (.int .u64 x.nt) ∧ w.cell? ⟨B, o + 13, none⟩ = some (.int .i64 x.de) :=
  ⟨h 0 _ rfl, h 1 _ rfl, h 2 _ rfl, h 3 _ rfl, h 4 _ rfl, h 5 _ rfl, h 6 _ rfl, h 7 _ rfl, h 8 _ rfl, h 9 _ rfl, h 10 _ rfl, h 11 _ rfl, h 12 _ rfl, h 13 _ rfl⟩
set_option maxRecDepth 100000 in
set_option maxHeartbeats 8000000 in
theorem rlook_new (X : Nat → Opn) (cl q rq : Int) (w : World) (hq0 : ∀ W, Calls Try.prog 32 #[rtV X, .int .u64 cl] W fun e w' => e = .returned (.int .u64 q) ∧ Below W.heap.size W w') (hq : q < rq) :
    Calls Try.prog 69 #[rtV X, .int .u64 cl, .int .u64 rq] w fun e w' => e = .returned (.tuple #[.int .i64 1, .agg #[.int .i64 0, .int .i64 0, .int .u64 0, .int .i64 0, .int .i64 0, .int .i64 0, .int .u64 0, .int .i64 0, .int .i64 0, .int .i64 0, .int .i64 0, .slice none 0 0, .int .u64 0, .int .i64 0]]) ∧ Below w.heap.size w w' := by
  obtain ⟨B1, s0, s1, -⟩ := box2 w (tabC X).toArray #[.int .i64 0, .int .i64 0, .int .u64 0, .int .i64 0, .int .i64 0, .int .i64 0, .int .u64 0, .int .i64 0, .int .i64 0, .int .i64 0, .int .i64 0, .slice none 0 0, .int .u64 0, .int .i64 0] 62 28
  have hR := (RT.made w X 62).kept (((Below.refl _ _).alloc (Nat.le_refl _) (.cells #[.int .i64 0, .int .i64 0, .int .u64 0, .int .i64 0, .int .i64 0, .int .i64 0, .int .u64 0, .int .i64 0, .int .i64 0, .int .i64 0, .int .i64 0, .slice none 0 0, .int .u64 0, .int .i64 0] 28)))
  have HL := Lib.hid hR.1
  have HB := Lib.hid B1
  have HS := Lib.hid s1
  have HR := Lib.hid hR
  have HYI : Hid ((Try.prog.info? 62).map (·.size) = some (tabC X).length) := Lib.hid (by rw [rt_info, tabC_len])
  have HQ := Lib.hid hq0
  unfold rtV at HQ
  clear B1 s0 s1 hR hq0
  have d1 : decide (q < rq) = true := decide_eq_true hq
  unfold rtV
  obtain ⟨Y, hY⟩ : ∃ Y, tabC X = Y := ⟨_, rfl⟩
  rw [hY] at HQ HB HS HR HL HYI ⊢
  clear hY
  go_enter Try.func69, Try.ntmps69
  go_wp2_with (refine wpList_load_mid rfl 62 (.tmp 3) rfl w.heap.size 0 rfl Y _ HL.out rt_und rfl HYI.out ?_)
  generalize (w.alloc (.cells Y.toArray 62)).alloc (.cells #[.int .i64 0, .int .i64 0, .int .u64 0, .int .i64 0, .int .i64 0, .int .i64 0, .int .u64 0, .int .i64 0, .int .i64 0, .int .i64 0, .int .i64 0, .slice none 0 0, .int .u64 0, .int .i64 0] 28) = W0 at HB HS HR HL ⊢
  refine (HQ.out W0).mono ?_
  rintro e w1 ⟨rfl, hb⟩
  have HB1 := Lib.hid (HB.out.trans (hb.mono HB.out.size))
  have HS1 := Lib.hid (ex_below HS.out hb)
  clear HR
  clear hb HB HS HQ HL HYI
  obtain ⟨r0, r1, r2, r3, r4, r5, r6, r7, r8, r9, r10, r11, r12, r13⟩ := rep_at HS1.out
  have rf := rep_fr HS1.out
  go_wp2_with fail
  clear r0 r1 r2 r3 r4 r5 r6 r7 r8 r9 r10 r11 r12 r13 rf
  have hp := put14_at HS1.out (.int .i64 0) (.int .i64 0) (.int .u64 0) (.int .i64 0) (.int .i64 0) (.int .i64 0) (.int .u64 0) (.int .i64 0) (.int .i64 0) (.int .i64 0) (.int .i64 0) (.slice none 0 0) (.int .u64 0) (.int .i64 0)
  have hq := HB1.out.trans (put14_below (B := w.heap.size) w1 (N := w.heap.size + 1) (Nat.le_succ _) (.int .i64 0) (.int .i64 0) (.int .u64 0) (.int .i64 0) (.int .i64 0) (.int .i64 0) (.int .u64 0) (.int .i64 0) (.int .i64 0) (.int .i64 0) (.int .i64 0) (.slice none 0 0) (.int .u64 0) (.int .i64 0))
  unfold put14 at hp hq
  obtain ⟨p0, p1, p2, p3, p4, p5, p6, p7, p8, p9, p10, p11, p12, p13⟩ := rep_at hp
  exact bodyPost_ret (v := .tuple #[.int .i64 1, .agg #[.int .i64 0, .int .i64 0, .int .u64 0, .int .i64 0, .int .i64 0, .int .i64 0, .int .u64 0, .int .i64 0, .int .i64 0, .int .i64 0, .int .i64 0, .slice none 0 0, .int .u64 0, .int .i64 0]]) (by simp [results, Try.results69, go_sem, p0, p1, p2, p3, p4, p5, p6, p7, p8, p9, p10, p11, p12, p13]) rfl ⟨rfl, hq⟩
set_option maxRecDepth 100000 in
set_option maxHeartbeats 8000000 in
theorem rlook_zero (X : Nat → Opn) (cl q rq : Int) (w : World) (hq0 : ∀ W, Calls Try.prog 32 #[rtV X, .int .u64 cl] W fun e w' => e = .returned (.int .u64 q) ∧ Below W.heap.size W w') (hq : rq = q) (h0 : rq = 0) :
    Calls Try.prog 69 #[rtV X, .int .u64 cl, .int .u64 rq] w fun e w' => e = .returned (.tuple #[.int .i64 3, .agg #[.int .i64 0, .int .i64 0, .int .u64 0, .int .i64 0, .int .i64 0, .int .i64 0, .int .u64 0, .int .i64 0, .int .i64 0, .int .i64 0, .int .i64 0, .slice none 0 0, .int .u64 0, .int .i64 0]]) ∧ Below w.heap.size w w' := by
  obtain ⟨B1, s0, s1, -⟩ := box2 w (tabC X).toArray #[.int .i64 0, .int .i64 0, .int .u64 0, .int .i64 0, .int .i64 0, .int .i64 0, .int .u64 0, .int .i64 0, .int .i64 0, .int .i64 0, .int .i64 0, .slice none 0 0, .int .u64 0, .int .i64 0] 62 28
  have hR := (RT.made w X 62).kept (((Below.refl _ _).alloc (Nat.le_refl _) (.cells #[.int .i64 0, .int .i64 0, .int .u64 0, .int .i64 0, .int .i64 0, .int .i64 0, .int .u64 0, .int .i64 0, .int .i64 0, .int .i64 0, .int .i64 0, .slice none 0 0, .int .u64 0, .int .i64 0] 28)))
  have HL := Lib.hid hR.1
  have HB := Lib.hid B1
  have HS := Lib.hid s1
  have HR := Lib.hid hR
  have HYI : Hid ((Try.prog.info? 62).map (·.size) = some (tabC X).length) := Lib.hid (by rw [rt_info, tabC_len])
  have HQ := Lib.hid hq0
  unfold rtV at HQ
  clear B1 s0 s1 hR hq0
  have d1 : decide (q < rq) = false := decide_eq_false (by omega)
  have d2 : decide (rq = q) = true := decide_eq_true hq
  have d3 : decide (0 < rq) = false := decide_eq_false (by omega)
  unfold rtV
  obtain ⟨Y, hY⟩ : ∃ Y, tabC X = Y := ⟨_, rfl⟩
  rw [hY] at HQ HB HS HR HL HYI ⊢
  clear hY
  go_enter Try.func69, Try.ntmps69
  go_wp2_with (refine wpList_load_mid rfl 62 (.tmp 3) rfl w.heap.size 0 rfl Y _ HL.out rt_und rfl HYI.out ?_)
  generalize (w.alloc (.cells Y.toArray 62)).alloc (.cells #[.int .i64 0, .int .i64 0, .int .u64 0, .int .i64 0, .int .i64 0, .int .i64 0, .int .u64 0, .int .i64 0, .int .i64 0, .int .i64 0, .int .i64 0, .slice none 0 0, .int .u64 0, .int .i64 0] 28) = W0 at HB HS HR HL ⊢
  refine (HQ.out W0).mono ?_
  rintro e w1 ⟨rfl, hb⟩
  have HB1 := Lib.hid (HB.out.trans (hb.mono HB.out.size))
  have HS1 := Lib.hid (ex_below HS.out hb)
  clear HR
  clear hb HB HS HQ HL HYI
  obtain ⟨r0, r1, r2, r3, r4, r5, r6, r7, r8, r9, r10, r11, r12, r13⟩ := rep_at HS1.out
  have rf := rep_fr HS1.out
  go_wp2_with fail
  clear r0 r1 r2 r3 r4 r5 r6 r7 r8 r9 r10 r11 r12 r13 rf
  have hp := put14_at HS1.out (.int .i64 0) (.int .i64 0) (.int .u64 0) (.int .i64 0) (.int .i64 0) (.int .i64 0) (.int .u64 0) (.int .i64 0) (.int .i64 0) (.int .i64 0) (.int .i64 0) (.slice none 0 0) (.int .u64 0) (.int .i64 0)
  have hq := HB1.out.trans (put14_below (B := w.heap.size) w1 (N := w.heap.size + 1) (Nat.le_succ _) (.int .i64 0) (.int .i64 0) (.int .u64 0) (.int .i64 0) (.int .i64 0) (.int .i64 0) (.int .u64 0) (.int .i64 0) (.int .i64 0) (.int .i64 0) (.int .i64 0) (.slice none 0 0) (.int .u64 0) (.int .i64 0))
  unfold put14 at hp hq
  obtain ⟨p0, p1, p2, p3, p4, p5, p6, p7, p8, p9, p10, p11, p12, p13⟩ := rep_at hp
  exact bodyPost_ret (v := .tuple #[.int .i64 3, .agg #[.int .i64 0, .int .i64 0, .int .u64 0, .int .i64 0, .int .i64 0, .int .i64 0, .int .u64 0, .int .i64 0, .int .i64 0, .int .i64 0, .int .i64 0, .slice none 0 0, .int .u64 0, .int .i64 0]]) (by simp [results, Try.results69, go_sem, p0, p1, p2, p3, p4, p5, p6, p7, p8, p9, p10, p11, p12, p13]) rfl ⟨rfl, hq⟩
set_option maxRecDepth 100000 in
set_option maxHeartbeats 8000000 in
theorem rlook_old (X : Nat → Opn) (cl q rq : Int) (w : World) (hq0 : ∀ W, Calls Try.prog 32 #[rtV X, .int .u64 cl] W fun e w' => e = .returned (.int .u64 q) ∧ Below W.heap.size W w') (hq : rq < q) :
    Calls Try.prog 69 #[rtV X, .int .u64 cl, .int .u64 rq] w fun e w' => e = .returned (.tuple #[.int .i64 3, .agg #[.int .i64 0, .int .i64 0, .int .u64 0, .int .i64 0, .int .i64 0, .int .i64 0, .int .u64 0, .int .i64 0, .int .i64 0, .int .i64 0, .int .i64 0, .slice none 0 0, .int .u64 0, .int .i64 0]]) ∧ Below w.heap.size w w' := by
  obtain ⟨B1, s0, s1, -⟩ := box2 w (tabC X).toArray #[.int .i64 0, .int .i64 0, .int .u64 0, .int .i64 0, .int .i64 0, .int .i64 0, .int .u64 0, .int .i64 0, .int .i64 0, .int .i64 0, .int .i64 0, .slice none 0 0, .int .u64 0, .int .i64 0] 62 28
  have hR := (RT.made w X 62).kept (((Below.refl _ _).alloc (Nat.le_refl _) (.cells #[.int .i64 0, .int .i64 0, .int .u64 0, .int .i64 0, .int .i64 0, .int .i64 0, .int .u64 0, .int .i64 0, .int .i64 0, .int .i64 0, .int .i64 0, .slice none 0 0, .int .u64 0, .int .i64 0] 28)))
  have HL := Lib.hid hR.1
  have HB := Lib.hid B1
  have HS := Lib.hid s1
  have HR := Lib.hid hR
  have HYI : Hid ((Try.prog.info? 62).map (·.size) = some (tabC X).length) := Lib.hid (by rw [rt_info, tabC_len])
  have HQ := Lib.hid hq0
  unfold rtV at HQ
  clear B1 s0 s1 hR hq0
  have d1 : decide (q < rq) = false := decide_eq_false (by omega)
  have d2 : decide (rq = q) = false := decide_eq_false (by omega)
  unfold rtV
  obtain ⟨Y, hY⟩ : ∃ Y, tabC X = Y := ⟨_, rfl⟩
  rw [hY] at HQ HB HS HR HL HYI ⊢
  clear hY
  go_enter Try.func69, Try.ntmps69
  go_wp2_with (refine wpList_load_mid rfl 62 (.tmp 3) rfl w.heap.size 0 rfl Y _ HL.out rt_und rfl HYI.out ?_)
  generalize (w.alloc (.cells Y.toArray 62)).alloc (.cells #[.int .i64 0, .int .i64 0, .int .u64 0, .int .i64 0, .int .i64 0, .int .i64 0, .int .u64 0, .int .i64 0, .int .i64 0, .int .i64 0, .int .i64 0, .slice none 0 0, .int .u64 0, .int .i64 0] 28) = W0 at HB HS HR HL ⊢
  refine (HQ.out W0).mono ?_
  rintro e w1 ⟨rfl, hb⟩
  have HB1 := Lib.hid (HB.out.trans (hb.mono HB.out.size))
  have HS1 := Lib.hid (ex_below HS.out hb)
  clear HR
  clear hb HB HS HQ HL HYI
  obtain ⟨r0, r1, r2, r3, r4, r5, r6, r7, r8, r9, r10, r11, r12, r13⟩ := rep_at HS1.out
  have rf := rep_fr HS1.out
  go_wp2_with fail
  clear r0 r1 r2 r3 r4 r5 r6 r7 r8 r9 r10 r11 r12 r13 rf
  have hp := put14_at HS1.out (.int .i64 0) (.int .i64 0) (.int .u64 0) (.int .i64 0) (.int .i64 0) (.int .i64 0) (.int .u64 0) (.int .i64 0) (.int .i64 0) (.int .i64 0) (.int .i64 0) (.slice none 0 0) (.int .u64 0) (.int .i64 0)
  have hq := HB1.out.trans (put14_below (B := w.heap.size) w1 (N := w.heap.size + 1) (Nat.le_succ _) (.int .i64 0) (.int .i64 0) (.int .u64 0) (.int .i64 0) (.int .i64 0) (.int .i64 0) (.int .u64 0) (.int .i64 0) (.int .i64 0) (.int .i64 0) (.int .i64 0) (.slice none 0 0) (.int .u64 0) (.int .i64 0))
  unfold put14 at hp hq
  obtain ⟨p0, p1, p2, p3, p4, p5, p6, p7, p8, p9, p10, p11, p12, p13⟩ := rep_at hp
  exact bodyPost_ret (v := .tuple #[.int .i64 3, .agg #[.int .i64 0, .int .i64 0, .int .u64 0, .int .i64 0, .int .i64 0, .int .i64 0, .int .u64 0, .int .i64 0, .int .i64 0, .int .i64 0, .int .i64 0, .slice none 0 0, .int .u64 0, .int .i64 0]]) (by simp [results, Try.results69, go_sem, p0, p1, p2, p3, p4, p5, p6, p7, p8, p9, p10, p11, p12, p13]) rfl ⟨rfl, hq⟩
set_option maxRecDepth 100000 in
set_option maxHeartbeats 8000000 in
theorem rlook_again (X : Nat → Opn) (i : Nat) (q : Int) (w : World) (hq0 : ∀ W, Calls Try.prog 32 #[rtV X, .int .u64 (i : Int)] W fun e w' => e = .returned (.int .u64 q) ∧ Below W.heap.size W w') (hi : 1 ≤ i ∧ i ≤ 8) (kd cl0 rq0 : Int) (cd tm id cn st lv ge fr lf du tl : Int) (a : Option Addr) (n ca : Nat) (nt de : Int) (xs : List Nat) (hx : X i = Opn.mk kd cl0 rq0 cd tm id cn st lv ge fr lf du tl a n ca nt de xs) (h0 : 0 < q) :
    Calls Try.prog 69 #[rtV X, .int .u64 (i : Int), .int .u64 q] w fun e w' => e = .returned (.tuple #[.int .i64 2, .agg #[.int .i64 cd, .int .i64 tm, .int .u64 id, .int .i64 cn, .int .i64 st, .int .i64 lv, .int .u64 ge, .int .i64 fr, .int .i64 lf, .int .i64 du, .int .i64 tl, .slice a n ca, .int .u64 nt, .int .i64 de]]) ∧ Below w.heap.size w w' := by
  have d3 : decide (0 < q) = true := decide_eq_true h0
  have i0 : (0 : Int) ≤ (i : Int) := by omega
  have i9 : (i : Int) < 9 := by omega
  obtain ⟨B1, s0, s1, -⟩ := box2 w (tabC X).toArray #[.int .i64 0, .int .i64 0, .int .u64 0, .int .i64 0, .int .i64 0, .int .i64 0, .int .u64 0, .int .i64 0, .int .i64 0, .int .i64 0, .int .i64 0, .slice none 0 0, .int .u64 0, .int .i64 0] 62 28
  have hR := (RT.made w X 62).kept (((Below.refl _ _).alloc (Nat.le_refl _) (.cells #[.int .i64 0, .int .i64 0, .int .u64 0, .int .i64 0, .int .i64 0, .int .i64 0, .int .u64 0, .int .i64 0, .int .i64 0, .int .i64 0, .int .i64 0, .slice none 0 0, .int .u64 0, .int .i64 0] 28)))
  have HL := Lib.hid hR.1
  have HB := Lib.hid B1
  have HS := Lib.hid s1
  have HR := Lib.hid hR
  have HYI : Hid ((Try.prog.info? 62).map (·.size) = some (tabC X).length) := Lib.hid (by rw [rt_info, tabC_len])
  have HQ := Lib.hid hq0
  unfold rtV at HQ
  clear B1 s0 s1 hR hq0
  unfold rtV
  obtain ⟨Y, hY⟩ : ∃ Y, tabC X = Y := ⟨_, rfl⟩
  rw [hY] at HQ HB HS HR HL HYI ⊢
  clear hY
  go_enter Try.func69, Try.ntmps69
  go_wp2_with (refine wpList_load_mid rfl 62 (.tmp 3) rfl w.heap.size 0 rfl Y _ HL.out rt_und rfl HYI.out ?_)
  generalize (w.alloc (.cells Y.toArray 62)).alloc (.cells #[.int .i64 0, .int .i64 0, .int .u64 0, .int .i64 0, .int .i64 0, .int .i64 0, .int .u64 0, .int .i64 0, .int .i64 0, .int .i64 0, .int .i64 0, .slice none 0 0, .int .u64 0, .int .i64 0] 28) = W0 at HB HS HR HL ⊢
  refine (HQ.out W0).mono ?_
  rintro e w1 ⟨rfl, hb⟩
  have HB1 := Lib.hid (HB.out.trans (hb.mono HB.out.size))
  have HS1 := Lib.hid (ex_below HS.out hb)
  have HRG : Hid (w1.rangeAt w.heap.size (9 + i * 14) (Opn.mk kd cl0 rq0 cd tm id cn st lv ge fr lf du tl a n ca nt de xs).rc) := Lib.hid (by rw [← hx]; exact (HR.out.kept hb).rep i (by omega))
  clear HR
  clear hb HB HS HQ HL HYI
  go_wp2_with fail
  have HS0 : Hid ((fun W => W.rangeAt w.heap.size (9 + i * 14) (Opn.mk kd cl0 rq0 cd tm id cn st lv ge fr lf du tl a n ca nt de xs).rc) w1.drew) := Lib.hid HRG.out
  refine wp_region_held_drew (S := fun W => W.rangeAt w.heap.size (9 + i * 14) (Opn.mk kd cl0 rq0 cd tm id cn st lv ge fr lf du tl a n ca nt de xs).rc) (by kernel_rfl) HS0.out (fun hHeld => ?_)
  clear hHeld
  have hS5 := ex_below HS1.out ((Below.refl w1.heap.size w1).drew)
  have hB5 := HB1.out.trans (((Below.refl w1.heap.size w1).drew).mono HB1.out.size)
  generalize w1.drew = W5 at HS0 hS5 hB5 ⊢
  have HS5a := Lib.hid hS5
  have HB5a := Lib.hid hB5
  clear hS5 hB5 HS1 HB1 HRG
  refine wpAnyH_take (i := 0) (oi := { dst := some 23, op := Go.Op.move (Go.Operand.tmp 1), type := 23, pos := "ref.go:40", after := #[{ on := 4, ground := Go.Ground.gcOnly Go.Departure.lateStores }], guard := none }) (v := ?_) rfl (by kernel_rfl) (by kernel_rfl) (by kernel_rfl) (fun _ _ _ h => h) (Or.inl ⟨by rfl, ?_⟩) HS0.out ?_
  case refine_2 => (intro w1 hS1; obtain ⟨q0, q1, q2, q3, q4, q5, q6, q7, q8, q9, q10, q11, q12, q13⟩ := rc_at hS1; dsimp only at q0 q1 q2 q3 q4 q5 q6 q7 q8 q9 q10 q11 q12 q13; clear hS1; go_simp; try with_reducible rfl)
  try simp only [Act.put, List.setIfInBounds_toArray, List.set_cons_zero, List.set_cons_succ]
  refine wpAnyH_take (i := 1) (oi := { dst := some 24, op := Go.Op.fieldAddr 62 (Go.Operand.tmp 3) 1, type := 0, pos := "ref.go:40", after := #[{ on := 4, ground := Go.Ground.gcOnly Go.Departure.lateStores }], guard := none }) (v := ?_) rfl (by kernel_rfl) (by kernel_rfl) (by kernel_rfl) (fun _ _ _ h => h) (Or.inl ⟨by rfl, ?_⟩) HS0.out ?_
  case refine_2 => (intro w1 hS1; obtain ⟨q0, q1, q2, q3, q4, q5, q6, q7, q8, q9, q10, q11, q12, q13⟩ := rc_at hS1; dsimp only at q0 q1 q2 q3 q4 q5 q6 q7 q8 q9 q10 q11 q12 q13; clear hS1; go_simp; try with_reducible rfl)
  try simp only [Act.put, List.setIfInBounds_toArray, List.set_cons_zero, List.set_cons_succ]
  refine wpAnyH_take (i := 2) (oi := { dst := some 25, op := Go.Op.indexAddr 60 (Go.Operand.tmp 24) (Go.Operand.tmp 23), type := 0, pos := "ref.go:40", after := #[{ on := 1, ground := Go.Ground.data }, { on := 0, ground := Go.Ground.data }, { on := 4, ground := Go.Ground.gcOnly Go.Departure.lateStores }], guard := none }) (v := ?_) rfl (by kernel_rfl) (by kernel_rfl) (by kernel_rfl) (fun _ _ _ h => h) (Or.inl ⟨by rfl, ?_⟩) HS0.out ?_
  case refine_2 => (intro w1 hS1; obtain ⟨q0, q1, q2, q3, q4, q5, q6, q7, q8, q9, q10, q11, q12, q13⟩ := rc_at hS1; dsimp only at q0 q1 q2 q3 q4 q5 q6 q7 q8 q9 q10 q11 q12 q13; clear hS1; go_simp; try with_reducible rfl)
  try simp only [Act.put, List.setIfInBounds_toArray, List.set_cons_zero, List.set_cons_succ]
  refine wpAnyH_take (i := 3) (oi := { dst := some 26, op := Go.Op.load 28 (Go.Operand.tmp 25), type := 28, pos := "ref.go:40", after := #[{ on := 2, ground := Go.Ground.data }, { on := 4, ground := Go.Ground.gcOnly Go.Departure.lateStores }], guard := none }) (v := ?_) rfl (by kernel_rfl) (by kernel_rfl) (by kernel_rfl) (fun _ _ _ h => h) (Or.inl ⟨by rfl, ?_⟩) HS0.out ?_
  case refine_2 => (intro w1 hS1; obtain ⟨q0, q1, q2, q3, q4, q5, q6, q7, q8, q9, q10, q11, q12, q13⟩ := rc_at hS1; dsimp only at q0 q1 q2 q3 q4 q5 q6 q7 q8 q9 q10 q11 q12 q13; clear hS1; go_simp; try with_reducible rfl)
  try simp only [Act.put, List.setIfInBounds_toArray, List.set_cons_zero, List.set_cons_succ]
  refine wpAnyH_take (i := 4) (oi := { dst := some 6, op := Go.Op.assign (Go.Operand.const (Go.Value.int Go.IntKind.i64 2)), type := 3, pos := "ref.go:40", after := #[{ on := 0, ground := Go.Ground.textOnly Go.Departure.lateStores }, { on := 1, ground := Go.Ground.textOnly Go.Departure.lateStores }, { on := 2, ground := Go.Ground.textOnly Go.Departure.lateStores }, { on := 3, ground := Go.Ground.textOnly Go.Departure.lateStores }], guard := none }) (v := ?_) rfl (by kernel_rfl) (by kernel_rfl) (by kernel_rfl) (fun _ _ _ h => h) (Or.inl ⟨by rfl, ?_⟩) HS0.out ?_
  case refine_2 => (intro w1 hS1; obtain ⟨q0, q1, q2, q3, q4, q5, q6, q7, q8, q9, q10, q11, q12, q13⟩ := rc_at hS1; dsimp only at q0 q1 q2 q3 q4 q5 q6 q7 q8 q9 q10 q11 q12 q13; clear hS1; go_simp; try with_reducible rfl)
  try simp only [Act.put, List.setIfInBounds_toArray, List.set_cons_zero, List.set_cons_succ]
  have hS5 := HS5a.out
  have hB5 := HB5a.out
  obtain ⟨r0, r1, r2, r3, r4, r5, r6, r7, r8, r9, r10, r11, r12, r13⟩ := rep_at hS5
  have rf := rep_fr hS5
  refine wpAnyH_ready (rs := [5]) (by kernel_rfl) (by simp) ?_
  refine AllReadyH.cons (o := { dst := none, op := Go.Op.store 28 (Go.Operand.tmp 7) (Go.Operand.tmp 26), type := 0, pos := "ref.go:40", after := #[{ on := 3, ground := Go.Ground.data }, { on := 4, ground := Go.Ground.chain }, { on := 0, ground := Go.Ground.phase }, { on := 1, ground := Go.Ground.phase }, { on := 2, ground := Go.Ground.phase }, { on := 3, ground := Go.Ground.phase }, { on := 4, ground := Go.Ground.phase }], guard := none }) rfl (fun K hK => ?_) AllReadyH.nil
  go_simp
  have hbel := put14_below (B := w.heap.size + 1) W5 (N := w.heap.size + 1) (Nat.le_refl _) (.int .i64 cd) (.int .i64 tm) (.int .u64 id) (.int .i64 cn) (.int .i64 st) (.int .i64 lv) (.int .u64 ge) (.int .i64 fr) (.int .i64 lf) (.int .i64 du) (.int .i64 tl) (.slice a n ca) (.int .u64 nt) (.int .i64 de)
  have HS5 : Hid ((fun W => W.rangeAt w.heap.size (9 + i * 14) (Opn.mk kd cl0 rq0 cd tm id cn st lv ge fr lf du tl a n ca nt de xs).rc) (put14 W5 (w.heap.size + 1) (.int .i64 cd) (.int .i64 tm) (.int .u64 id) (.int .i64 cn) (.int .i64 st) (.int .i64 lv) (.int .u64 ge) (.int .i64 fr) (.int .i64 lf) (.int .i64 du) (.int .i64 tl) (.slice a n ca) (.int .u64 nt) (.int .i64 de))) := Lib.hid (fun j v hv => (hbel.cell (p := ⟨w.heap.size, _, none⟩) (Nat.lt_succ_self _)).trans (HS0.out j v hv))
  have hp := put14_at hS5 (.int .i64 cd) (.int .i64 tm) (.int .u64 id) (.int .i64 cn) (.int .i64 st) (.int .i64 lv) (.int .u64 ge) (.int .i64 fr) (.int .i64 lf) (.int .i64 du) (.int .i64 tl) (.slice a n ca) (.int .u64 nt) (.int .i64 de)
  have hq := hB5.trans (put14_below (B := w.heap.size) W5 (N := w.heap.size + 1) (Nat.le_succ _) (.int .i64 cd) (.int .i64 tm) (.int .u64 id) (.int .i64 cn) (.int .i64 st) (.int .i64 lv) (.int .u64 ge) (.int .i64 fr) (.int .i64 lf) (.int .i64 du) (.int .i64 tl) (.slice a n ca) (.int .u64 nt) (.int .i64 de))
  clear r0 r1 r2 r3 r4 r5 r6 r7 r8 r9 r10 r11 r12 r13 rf hbel hS5 hB5 HS0
  unfold put14 at HS5 hp hq
  have HPQ := Lib.hid (And.intro hp hq)
  clear hp hq
  refine hK.out _ _ HS5.out (fun hHeld => ?_)
  clear hK K hHeld HS5
  refine wpAnyH_done (by kernel_rfl) ?_ _
  go_wp2_with fail
  obtain ⟨p0, p1, p2, p3, p4, p5, p6, p7, p8, p9, p10, p11, p12, p13⟩ := rep_at HPQ.out.1
  exact bodyPost_ret (v := .tuple #[.int .i64 2, .agg #[.int .i64 cd, .int .i64 tm, .int .u64 id, .int .i64 cn, .int .i64 st, .int .i64 lv, .int .u64 ge, .int .i64 fr, .int .i64 lf, .int .i64 du, .int .i64 tl, .slice a n ca, .int .u64 nt, .int .i64 de]]) (by simp [results, Try.results69, go_sem, p0, p1, p2, p3, p4, p5, p6, p7, p8, p9, p10, p11, p12, p13]) rfl ⟨rfl, HPQ.out.2⟩
/- Session: the reference's Drop and Done. -/
open Go.RowKit Go.Maps
def zOp : Opn := ⟨0, 0, 0, 0, 0, 0, 0, 0, 0, 0, 0, 0, 0, 0, none, 0, 0, 0, 0, []⟩
def upX (X : Nat → Opn) (i : Nat) (x : Opn) : Nat → Opn := fun j => if j = i then x else X j
theorem upX_same (X : Nat → Opn) (i : Nat) (x : Opn) : upX X i x i = x := by simp [upX]
theorem upX_other (X : Nat → Opn) (i j : Nat) (x : Opn) (h : j ≠ i) : upX X i x j = X j := by simp [upX, h]
theorem rc_len (x : Opn) : x.rc.length = 14 := rfl
theorem RT.mk2 {w : World} {B : Nat} {X : Nat → Opn} (h1 : ∀ j, j < 9 → w.cell? ⟨B, j, none⟩ = some (.int .u64 (X j).rq)) (h2 : ∀ i, i < 9 → w.rangeAt B (9 + i * 14) (X i).rc) (h3 : w.there B 0 135) : RT w B X := by
  refine ⟨fun j v hv => ?_, h3⟩
  rw [Nat.zero_add]
  have hj : j < 135 := by have := (List.getElem?_eq_some_iff.1 hv).1; rw [tabC_len] at this; exact this
  by_cases h9 : j < 9
  · rw [tabC_req X j h9] at hv
    rw [h1 j h9, hv]
  · have e : j = 9 + ((j - 9) / 14) * 14 + (j - 9) % 14 := by omega
    rw [e] at hv ⊢
    rw [tabC_rep X _ _ (by omega) (by omega)] at hv
    exact h2 _ (by omega) _ v hv
theorem RT.fr {w : World} {B : Nat} {X : Nat → Opn} (h : RT w B X) (o : Nat) (ho : o < 135) : w.frozen? ⟨B, o, none⟩ = false := by
  have := (h.2 o ho).2
  rwa [Nat.zero_add] at this
theorem RT.setreq {w : World} {B : Nat} {X : Nat → Opn} (h : RT w B X) (i : Nat) (hi : i < 9) (v : Int) : RT (w.setCell ⟨B, i, none⟩ (.int .u64 v)) B (upX X i { X i with rq := v }) := by
  refine RT.mk2 (fun j hj => ?_) (fun j hj => ?_) (fun j hj => ?_)
  · by_cases e : j = i
    · subst e
      rw [upX_same, World.cell?_setCell_same _ _ _ (h.req j hj)]
    · rw [upX_other _ _ _ _ e, World.cell?_setCell_other _ _ _ _ (fun e2 => e (by injection e2 with _ e2 _; exact e2.symm))]
      exact h.req j hj
  · have hrc : (upX X i { X i with rq := v } j).rc = (X j).rc := by
      by_cases e : j = i
      · subst e; rw [upX_same]; rfl
      · rw [upX_other _ _ _ _ e]
    rw [hrc]
    intro k u hu
    rw [World.cell?_setCell_other _ _ _ _ (fun e2 => by injection e2 with _ e2 _; omega)]
    exact h.rep j hj k u hu
  · obtain ⟨h1, h2⟩ := h.2 j hj
    refine ⟨?_, by simpa using h2⟩
    obtain ⟨u, hu⟩ := Option.isSome_iff_exists.1 h1
    by_cases e : (⟨B, i, none⟩ : Addr) = ⟨B, 0 + j, none⟩
    · rw [← e] at hu ⊢
      rw [World.cell?_setCell_same _ _ _ hu]
      rfl
    · rw [World.cell?_setCell_other _ _ _ _ e, hu]
      rfl
theorem RT.setrep {w : World} {B : Nat} {X : Nat → Opn} (h : RT w B X) (i : Nat) (hi : i < 9) (x : Opn) (hx : x.rq = (X i).rq) : RT (w.setCells B (9 + i * 14) x.rc) B (upX X i x) := by
  have ht : w.there B (9 + i * 14) x.rc.length := fun k hk => by
    rw [rc_len] at hk
    have := h.2 (9 + i * 14 + k) (by omega)
    rwa [Nat.zero_add] at this
  refine RT.mk2 (fun j hj => ?_) (fun j hj => ?_) (World.there_setCells h.2 _ _ _)
  · have : (upX X i x j).rq = (X j).rq := by
      by_cases e : j = i
      · subst e; rw [upX_same, hx]
      · rw [upX_other _ _ _ _ e]
    rw [this]
    have hap := World.rangeAt_setCells_apart (w := w) (b' := B) (o' := j) (cs := [.int .u64 (X j).rq]) (fun k u hu => by
      have hk : k = 0 := by have := (List.getElem?_eq_some_iff.1 hu).1; simp at this; exact this
      subst hk
      simp at hu
      subst hu
      exact h.req j hj) B (9 + i * 14) x.rc (.inr (.inl (by simp; omega)))
    exact hap 0 _ rfl
  · by_cases e : j = i
    · subst e
      rw [upX_same]
      exact World.rangeAt_setCells_same w B (9 + j * 14) x.rc ht
    · rw [upX_other _ _ _ _ e]
      exact World.rangeAt_setCells_apart (h.rep j hj) B (9 + i * 14) x.rc (by simp only [rc_len]; omega)
theorem below_setCells {B0 : Nat} {W w : World} (h : Below B0 W w) {N : Nat} (hN : B0 ≤ N) : ∀ (vs : List Value) (o : Nat), Below B0 W (w.setCells N o vs) := by
  intro vs
  induction vs generalizing w with
  | nil => intro o; exact h
  | cons v r ih => intro o; rw [World.setCells]; exact ih (h.setCell (p := ⟨N, o, none⟩) hN v) (o + 1)
theorem RT.far {w : World} {B N : Nat} {X : Nat → Opn} (h : RT w B X) (hn : B ≠ N) (vs : List Value) (o : Nat) : RT (w.setCells N o vs) B X :=
  ⟨World.rangeAt_setCells_apart h.1 N o vs (.inl hn), World.there_setCells h.2 _ _ _⟩
/-- A whole table stored over another. -/
theorem RT.over {w : World} {N : Nat} {Z : Nat → Opn} (h : RT w N Z) (X : Nat → Opn) : RT (w.setCells N 0 (tabC X)) N X :=
  ⟨World.rangeAt_setCells_same w N 0 (tabC X) (by rw [tabC_len]; exact h.2), World.there_setCells h.2 _ _ _⟩
theorem tabC_one (X : Nat → Opn) : ∀ v ∈ tabC X, v.oneCell' = true := by
  intro v hv
  unfold tabC at hv
  rcases List.mem_append.1 hv with hv | hv
  · obtain ⟨i, -, rfl⟩ := List.mem_map.1 hv
    rfl
  · obtain ⟨i, -, hv⟩ := List.mem_flatMap.1 hv
    simp only [Opn.rc, List.mem_cons, List.not_mem_nil, or_false] at hv
    rcases hv with rfl | rfl | rfl | rfl | rfl | rfl | rfl | rfl | rfl | rfl | rfl | rfl | rfl | rfl <;> rfl
theorem rc_one (x : Opn) : ∀ v ∈ x.rc, v.oneCell' = true := by
  intro v hv
  simp only [Opn.rc, List.mem_cons, List.not_mem_nil, or_false] at hv
  rcases hv with rfl | rfl | rfl | rfl | rfl | rfl | rfl | rfl | rfl | rfl | rfl | rfl | rfl | rfl <;> rfl
set_option maxRecDepth 100000 in
theorem z135 : Try.zeroCells62 = (tabC (fun _ => zOp)).toArray := by
  have h : Try.zeroCells62 = #[.int .u64 0, .int .u64 0, .int .u64 0, .int .u64 0, .int .u64 0, .int .u64 0, .int .u64 0, .int .u64 0, .int .u64 0, .int .i64 0, .int .i64 0, .int .u64 0, .int .i64 0, .int .i64 0, .int .i64 0, .int .u64 0, .int .i64 0, .int .i64 0, .int .i64 0, .int .i64 0, .slice none 0 0, .int .u64 0, .int .i64 0, .int .i64 0, .int .i64 0, .int .u64 0, .int .i64 0, .int .i64 0, .int .i64 0, .int .u64 0, .int .i64 0, .int .i64 0, .int .i64 0, .int .i64 0, .slice none 0 0, .int .u64 0, .int .i64 0, .int .i64 0, .int .i64 0, .int .u64 0, .int .i64 0, .int .i64 0, .int .i64 0, .int .u64 0, .int .i64 0, .int .i64 0, .int .i64 0, .int .i64 0, .slice none 0 0, .int .u64 0, .int .i64 0, .int .i64 0, .int .i64 0, .int .u64 0, .int .i64 0, .int .i64 0, .int .i64 0, .int .u64 0, .int .i64 0, .int .i64 0, .int .i64 0, .int .i64 0, .slice none 0 0, .int .u64 0, .int .i64 0, .int .i64 0, .int .i64 0, .int .u64 0, .int .i64 0, .int .i64 0, .int .i64 0, .int .u64 0, .int .i64 0, .int .i64 0, .int .i64 0, .int .i64 0, .slice none 0 0, .int .u64 0, .int .i64 0, .int .i64 0, .int .i64 0, .int .u64 0, .int .i64 0, .int .i64 0, .int .i64 0, .int .u64 0, .int .i64 0, .int .i64 0, .int .i64 0, .int .i64 0, .slice none 0 0, .int .u64 0, .int .i64 0, .int .i64 0, .int .i64 0, .int .u64 0, .int .i64 0, .int .i64 0, .int .i64 0, .int .u64 0, .int .i64 0, .int .i64 0, .int .i64 0, .int .i64 0, .slice none 0 0, .int .u64 0, .int .i64 0, .int .i64 0, .int .i64 0, .int .u64 0, .int .i64 0, .int .i64 0, .int .i64 0, .int .u64 0, .int .i64 0, .int .i64 0, .int .i64 0, .int .i64 0, .slice none 0 0, .int .u64 0, .int .i64 0, .int .i64 0, .int .i64 0, .int .u64 0, .int .i64 0, .int .i64 0, .int .i64 0, .int .u64 0, .int .i64 0, .int .i64 0, .int .i64 0, .int .i64 0, .slice none 0 0, .int .u64 0, .int .i64 0] := rfl
  rw [h]
  rfl
theorem rt_result {fn : Func} {p u : Nat} (h : fn.results = #[.cell p 62, .tmp u]) (tmps : Array Value) (w : World) (N : Nat) (X : Nat → Opn) (hp : tmps.getD p undef = .pointer (some ⟨N, 0, none⟩)) (hR : RT w N X) : (results fn tmps).run Try.prog w = .ok (.tuple #[rtV X, tmps.getD u undef]) w := by
  rw [results_cell_tmp h, hp]
  have hl := run_loadVar_mid w N 0 _ (tabC X) _ hR.1 rt_und rfl (by rw [rt_info, tabC_len])
  simp only [asAddr, Sem.run_pure, Result.andThen_ok, hl]
  rfl
set_option maxRecDepth 100000 in
set_option maxHeartbeats 8000000 in
theorem rdrop_no (X : Nat → Opn) (cl : Int) (w : World) (hq0 : ∀ W, Calls Try.prog 32 #[rtV X, .int .u64 cl] W fun e w' => e = .returned (.int .u64 0) ∧ Below W.heap.size W w') :
    Calls Try.prog 70 #[rtV X, .int .u64 cl] w fun e w' => e = .returned (.tuple #[rtV X, .bool false]) ∧ Below w.heap.size w w' := by
  obtain ⟨B1, s0, s1, -⟩ := box2 w (tabC X).toArray Try.zeroCells62 62 62
  have e1 : (w.alloc (.cells (tabC X).toArray 62)).heap.size = w.heap.size + 1 := by simp
  have hR := (RT.made w X 62).kept (((Below.refl _ _).alloc (Nat.le_refl _) (.cells Try.zeroCells62 62)))
  have hZ := RT.made (w.alloc (.cells (tabC X).toArray 62)) (fun _ => zOp) 62
  rw [← z135, e1] at hZ
  have HL := Lib.hid hR.1
  have HB := Lib.hid B1
  have HR := Lib.hid hR
  have HZ := Lib.hid hZ
  have HYI : Hid ((Try.prog.info? 62).map (·.size) = some (tabC X).length) := Lib.hid (by rw [rt_info, tabC_len])
  have HOV : Hid (∀ W N, RT W N (fun _ => zOp) → RT (W.setCells N 0 (tabC X)) N X) := Lib.hid (fun W N h => h.over X)
  have HTH : Hid (∀ W N, RT W N (fun _ => zOp) → W.there N 0 (tabC X).toArray.size) := Lib.hid (fun W N h => by rw [List.size_toArray, tabC_len]; exact h.2)
  have HONE : Hid ((tabC X).toArray.all (·.oneCell') = true) := Lib.hid (all_oneCell_toArray (tabC_one X))
  have HQ := Lib.hid hq0
  unfold rtV at HQ
  clear B1 s0 s1 hR hZ e1 hq0
  obtain ⟨Y, hY⟩ : ∃ Y, tabC X = Y := ⟨_, rfl⟩
  have HY := Lib.hid hY
  unfold rtV
  rw [hY] at HQ HB HR HL HYI HZ HOV HTH HONE ⊢
  clear hY
  go_enter Try.func70, Try.ntmps70
  go_wp2_with (refine wpList_load_mid rfl 62 (.tmp 2) rfl w.heap.size 0 rfl Y _ HL.out rt_und rfl HYI.out ?_)
  generalize (w.alloc (.cells Y.toArray 62)).alloc (.cells Try.zeroCells62 62) = W0 at HB HR HL HZ ⊢
  refine (HQ.out W0).mono ?_
  rintro e w1 ⟨rfl, hb⟩
  have HB1 := Lib.hid (HB.out.trans (hb.mono HB.out.size))
  have HR1 := Lib.hid (HR.out.kept hb)
  have HL1 : Hid (w1.rangeAt w.heap.size 0 Y) := Lib.hid (by rw [← HY.out]; exact HR1.out.1)
  have HZ1 := Lib.hid (HZ.out.kept hb)
  clear hb HB HR HL HZ HQ
  go_wp2_with (first
    | (refine wpList_load_mid rfl 62 (.tmp 2) rfl w.heap.size 0 rfl Y _ HL1.out rt_und rfl HYI.out ?_)
    | (refine wpList_store_mid rfl 62 (.tmp 4) (.tmp 10) rfl (w.heap.size + 1) 0 Y.toArray rfl rfl (HTH.out _ _ HZ1.out) (by rw [List.size_toArray]; exact HYI.out) HONE.out ?_))
  have hF := HOV.out _ _ HZ1.out
  have hBF := below_setCells HB1.out (Nat.le_succ w.heap.size) Y 0
  refine bodyPost_ret (rt_result Try.results70 _ _ (w.heap.size + 1) X rfl (by simpa using hF)) rfl ?_
  refine ⟨by rw [← HY.out]; rfl, by simpa using hBF⟩
/- Session: the reference's Drop and Done, where something is to be done. -/
open Go.RowKit Go.Maps
theorem upX_upX (X : Nat → Opn) (i : Nat) (x y : Opn) : upX (upX X i x) i y = upX X i y := by
  funext j
  by_cases e : j = i
  · subst e; rw [upX_same, upX_same]
  · rw [upX_other _ _ _ _ e, upX_other _ _ _ _ e, upX_other _ _ _ _ e]
set_option maxRecDepth 100000 in
set_option maxHeartbeats 8000000 in
theorem rdrop_yes (X : Nat → Opn) (i : Nat) (w : World) (hi : 1 ≤ i ∧ i ≤ 8) (hq : (X i).rq ≠ 0) :
    Calls Try.prog 70 #[rtV X, .int .u64 (i : Int)] w fun e w' => e = .returned (.tuple #[rtV (upX X i zOp), .bool true]) ∧ Below w.heap.size w w' := by
  obtain ⟨B1, s0, s1, -⟩ := box2 w (tabC X).toArray Try.zeroCells62 62 62
  have e1 : (w.alloc (.cells (tabC X).toArray 62)).heap.size = w.heap.size + 1 := by simp
  have hR := (RT.made w X 62).kept (((Below.refl _ _).alloc (Nat.le_refl _) (.cells Try.zeroCells62 62)))
  have hZ := RT.made (w.alloc (.cells (tabC X).toArray 62)) (fun _ => zOp) 62
  rw [← z135, e1] at hZ
  have HB := Lib.hid B1
  have HR := Lib.hid hR
  have HZ := Lib.hid hZ
  have HOV : Hid (∀ W N V, RT W N (fun _ => zOp) → RT (W.setCells N 0 (tabC V)) N V) := Lib.hid (fun W N V h => h.over V)
  have HTH : Hid (∀ W N V, RT W N (fun _ => zOp) → W.there N 0 (tabC V).toArray.size) := Lib.hid (fun W N V h => by rw [List.size_toArray, tabC_len]; exact h.2)
  have HONE : Hid (∀ V, (tabC V).toArray.all (·.oneCell') = true) := Lib.hid (fun V => all_oneCell_toArray (tabC_one V))
  have HYI : Hid (∀ V, (Try.prog.info? 62).map (·.size) = some (tabC V).length) := Lib.hid (fun V => by rw [rt_info, tabC_len])
  have HI28 : Hid ((Try.prog.info? 28).map (·.size) = some 14) := Lib.hid (by kernel_rfl)
  have HQ := Lib.hid (fun W => rlast_yes X i W hi)
  have HRQ := Lib.hid hq
  unfold rtV at HQ
  have i0 : (0 : Int) ≤ (i : Int) := by omega
  have i9 : (i : Int) < 9 := by omega
  have HI := Lib.hid hi
  obtain ⟨q, hq2⟩ : ∃ q, (X i).rq = q := ⟨_, rfl⟩
  rw [hq2] at HQ HRQ
  have HQE := Lib.hid hq2
  have d1 : decide (q = 0) = false := decide_eq_false HRQ.out
  have d2 : (q == 0) = false := by have := HRQ.out; simpa using this
  have hq3 := HRQ.out
  clear B1 s0 s1 hR hZ e1 hq hq2 hi
  unfold rtV
  go_enter Try.func70, Try.ntmps70
  go_wp2_with (refine wpList_load_mid rfl 62 (.tmp 2) rfl w.heap.size 0 rfl (tabC X) _ HR.out.1 rt_und rfl (HYI.out X) ?_)
  generalize (w.alloc (.cells (tabC X).toArray 62)).alloc (.cells Try.zeroCells62 62) = W0 at HB HR HZ ⊢
  refine (HQ.out W0).mono ?_
  rintro e w1 ⟨rfl, hb⟩
  have HB1 := Lib.hid (HB.out.trans (hb.mono HB.out.size))
  have HR1 := Lib.hid (HR.out.kept hb)
  have HZ1 := Lib.hid (HZ.out.kept hb)
  have hR2 := HR1.out.setreq i (by have := HI.out; omega) 0
  have hR3 := hR2.setrep i (by have := HI.out; omega) zOp (by rw [upX_same]; rfl)
  rw [upX_upX] at hR3
  have HR3 := Lib.hid hR3
  have HT2 : Hid ((w1.setCell ⟨w.heap.size, i, none⟩ (.int .u64 0)).there w.heap.size (9 + i * 14) zOp.rc.toArray.size) := Lib.hid (fun k hk => by
    have hk' : k < 14 := by simpa [rc_len] using hk
    have := hR2.2 (9 + i * 14 + k) (by have := HI.out; omega)
    rwa [Nat.zero_add] at this)
  have HONE2 : Hid (zOp.rc.toArray.all (·.oneCell') = true) := Lib.hid (all_oneCell_toArray (rc_one zOp))
  have hB2 : Below w.heap.size w (w1.setCell ⟨w.heap.size, i, none⟩ (.int .u64 0)) := HB1.out.setCell (p := ⟨w.heap.size, i, none⟩) (Nat.le_refl _) _
  have HB3 := Lib.hid (below_setCells hB2 (Nat.le_refl w.heap.size) zOp.rc (9 + i * 14))
  have hZ2 : RT (w1.setCell ⟨w.heap.size, i, none⟩ (.int .u64 0)) (w.heap.size + 1) (fun _ => zOp) := by
    have h := HZ1.out.far (show w.heap.size + 1 ≠ w.heap.size by omega) [.int .u64 0] i
    exact h
  have HZ3 := Lib.hid (hZ2.far (show w.heap.size + 1 ≠ w.heap.size by omega) zOp.rc (9 + i * 14))
  have c0 := HR1.out.req i (by have := HI.out; omega)
  rw [HQE.out] at c0
  have f0 := HR1.out.fr i (by have := HI.out; omega)
  clear hb HB HR HZ HQ hR2 hR3 hB2 hZ2
  go_wp2_with (first
    | (refine wpList_store_mid rfl 28 (.tmp 17) (.tmp 15) rfl w.heap.size (9 + i * 14) zOp.rc.toArray rfl rfl HT2.out HI28.out HONE2.out ?_; rw [List.toList_toArray]; generalize (w1.setCell ⟨w.heap.size, i, none⟩ (.int .u64 0)).setCells w.heap.size (9 + i * 14) zOp.rc = W3 at HR3 HZ3 HB3 ⊢)
    | (refine wpList_load_mid (w := W3) rfl 62 (.tmp 2) rfl w.heap.size 0 rfl (tabC (upX X i zOp)) _ HR3.out.1 rt_und rfl (HYI.out (upX X i zOp)) ?_)
    | (refine wpList_store_mid (w := W3) rfl 62 (.tmp 4) (.tmp 18) rfl (w.heap.size + 1) 0 (tabC (upX X i zOp)).toArray rfl rfl (HTH.out _ _ (upX X i zOp) HZ3.out) (by rw [List.size_toArray]; exact HYI.out (upX X i zOp)) (HONE.out (upX X i zOp)) ?_))
  have hF := HOV.out _ _ (upX X i zOp) HZ3.out
  have hBF := below_setCells HB3.out (Nat.le_succ w.heap.size) (tabC (upX X i zOp)) 0
  exact bodyPost_ret (rt_result Try.results70 _ _ (w.heap.size + 1) (upX X i zOp) rfl hF) rfl ⟨rfl, hBF⟩
set_option maxRecDepth 100000 in
set_option maxHeartbeats 8000000 in
theorem rdone_out (X : Nat → Opn) (cl rq : Int) (cd tm id cn st lv ge fr lf du tl : Int) (a : Option Addr) (n ca : Nat) (nt de : Int) (w : World) (hc : ¬ (1 ≤ cl ∧ cl ≤ 8)) :
    Calls Try.prog 71 #[rtV X, .int .u64 cl, .int .u64 rq, repV cd tm id cn st lv ge fr lf du tl a n ca nt de] w fun e w' => e = .returned (.tuple #[rtV X, .int .i64 2]) ∧ Below w.heap.size w w' := by
  obtain ⟨B1, s0, s1, -⟩ := box2 w (tabC X).toArray #[.int .i64 cd, .int .i64 tm, .int .u64 id, .int .i64 cn, .int .i64 st, .int .i64 lv, .int .u64 ge, .int .i64 fr, .int .i64 lf, .int .i64 du, .int .i64 tl, .slice a n ca, .int .u64 nt, .int .i64 de] 62 28
  have e2 : ((w.alloc (.cells (tabC X).toArray 62)).alloc (.cells #[.int .i64 cd, .int .i64 tm, .int .u64 id, .int .i64 cn, .int .i64 st, .int .i64 lv, .int .u64 ge, .int .i64 fr, .int .i64 lf, .int .i64 du, .int .i64 tl, .slice a n ca, .int .u64 nt, .int .i64 de] 28)).heap.size = w.heap.size + 2 := by simp
  have hb0 : Below (w.alloc (.cells (tabC X).toArray 62)).heap.size (w.alloc (.cells (tabC X).toArray 62)) ((w.alloc (.cells (tabC X).toArray 62)).alloc (.cells #[.int .i64 cd, .int .i64 tm, .int .u64 id, .int .i64 cn, .int .i64 st, .int .i64 lv, .int .u64 ge, .int .i64 fr, .int .i64 lf, .int .i64 du, .int .i64 tl, .slice a n ca, .int .u64 nt, .int .i64 de] 28)) := (Below.refl _ _).alloc (Nat.le_refl _) _
  obtain ⟨B2, -, -⟩ := box1 ((w.alloc (.cells (tabC X).toArray 62)).alloc (.cells #[.int .i64 cd, .int .i64 tm, .int .u64 id, .int .i64 cn, .int .i64 st, .int .i64 lv, .int .u64 ge, .int .i64 fr, .int .i64 lf, .int .i64 du, .int .i64 tl, .slice a n ca, .int .u64 nt, .int .i64 de] 28)) Try.zeroCells62 62
  have hR := ((RT.made w X 62).kept hb0).kept B2
  have hZ := RT.made ((w.alloc (.cells (tabC X).toArray 62)).alloc (.cells #[.int .i64 cd, .int .i64 tm, .int .u64 id, .int .i64 cn, .int .i64 st, .int .i64 lv, .int .u64 ge, .int .i64 fr, .int .i64 lf, .int .i64 du, .int .i64 tl, .slice a n ca, .int .u64 nt, .int .i64 de] 28)) (fun _ => zOp) 62
  rw [← z135, e2] at hZ
  have HB := Lib.hid (B1.trans (B2.mono B1.size))
  have HR := Lib.hid hR
  have HZ := Lib.hid hZ
  have HS := Lib.hid (ex_below s1 B2)
  have HIS := Lib.hid (fun W => ris_any cl W)
  have HOV : Hid (∀ W N V, RT W N (fun _ => zOp) → RT (W.setCells N 0 (tabC V)) N V) := Lib.hid (fun W N V h => h.over V)
  have HTH : Hid (∀ W N V, RT W N (fun _ => zOp) → W.there N 0 (tabC V).toArray.size) := Lib.hid (fun W N V h => by rw [List.size_toArray, tabC_len]; exact h.2)
  have HONE : Hid (∀ V, (tabC V).toArray.all (·.oneCell') = true) := Lib.hid (fun V => all_oneCell_toArray (tabC_one V))
  have HYI : Hid (∀ V, (Try.prog.info? 62).map (·.size) = some (tabC V).length) := Lib.hid (fun V => by rw [rt_info, tabC_len])
  have HI28 : Hid ((Try.prog.info? 28).map (·.size) = some 14) := Lib.hid (by kernel_rfl)
  have he : (decide (1 ≤ cl) && decide (cl ≤ 8)) = false := by
    rw [Bool.and_eq_false_iff, decide_eq_false_iff_not, decide_eq_false_iff_not]
    omega
  rw [he] at HIS
  clear he hc
  clear B1 B2 s0 s1 hb0 hR hZ e2
  unfold rtV repV at *
  go_enter Try.func71, Try.ntmps71
  go_wp2_with fail
  generalize ((w.alloc (.cells (tabC X).toArray 62)).alloc (.cells #[.int .i64 cd, .int .i64 tm, .int .u64 id, .int .i64 cn, .int .i64 st, .int .i64 lv, .int .u64 ge, .int .i64 fr, .int .i64 lf, .int .i64 du, .int .i64 tl, .slice a n ca, .int .u64 nt, .int .i64 de] 28)).alloc (.cells Try.zeroCells62 62) = W0 at HB HR HZ HS ⊢
  refine (HIS.out W0).mono ?_
  rintro e w0 ⟨rfl, rfl⟩
  clear HIS
  go_wp2_with (first
    | (refine wpList_load_mid rfl 62 (.tmp 4) rfl w.heap.size 0 rfl (tabC X) _ HR.out.1 rt_und rfl (HYI.out X) ?_)
    | (refine wpList_store_mid rfl 62 (.tmp 8) (.tmp 18) rfl (w.heap.size + 2) 0 (tabC X).toArray rfl rfl (HTH.out _ _ X HZ.out) (by rw [List.size_toArray]; exact HYI.out X) (HONE.out X) ?_))
  have hF := HOV.out _ _ X HZ.out
  have hBF := below_setCells HB.out (Nat.le_add_right w.heap.size 2) (tabC X) 0
  exact bodyPost_ret (rt_result Try.results71 _ _ (w.heap.size + 2) X rfl hF) rfl ⟨rfl, hBF⟩
set_option maxRecDepth 100000 in
set_option maxHeartbeats 8000000 in
theorem rdone_bad (X : Nat → Opn) (cl rq : Int) (cd tm id cn st lv ge fr lf du tl : Int) (a : Option Addr) (n ca : Nat) (nt de : Int) (w : World) (hc : 1 ≤ cl ∧ cl ≤ 8) (hs : repS cd tm id cn st lv ge fr lf du tl n de = false) :
    Calls Try.prog 71 #[rtV X, .int .u64 cl, .int .u64 rq, repV cd tm id cn st lv ge fr lf du tl a n ca nt de] w fun e w' => e = .returned (.tuple #[rtV X, .int .i64 2]) ∧ Below w.heap.size w w' := by
  obtain ⟨B1, s0, s1, -⟩ := box2 w (tabC X).toArray #[.int .i64 cd, .int .i64 tm, .int .u64 id, .int .i64 cn, .int .i64 st, .int .i64 lv, .int .u64 ge, .int .i64 fr, .int .i64 lf, .int .i64 du, .int .i64 tl, .slice a n ca, .int .u64 nt, .int .i64 de] 62 28
  have e2 : ((w.alloc (.cells (tabC X).toArray 62)).alloc (.cells #[.int .i64 cd, .int .i64 tm, .int .u64 id, .int .i64 cn, .int .i64 st, .int .i64 lv, .int .u64 ge, .int .i64 fr, .int .i64 lf, .int .i64 du, .int .i64 tl, .slice a n ca, .int .u64 nt, .int .i64 de] 28)).heap.size = w.heap.size + 2 := by simp
  have hb0 : Below (w.alloc (.cells (tabC X).toArray 62)).heap.size (w.alloc (.cells (tabC X).toArray 62)) ((w.alloc (.cells (tabC X).toArray 62)).alloc (.cells #[.int .i64 cd, .int .i64 tm, .int .u64 id, .int .i64 cn, .int .i64 st, .int .i64 lv, .int .u64 ge, .int .i64 fr, .int .i64 lf, .int .i64 du, .int .i64 tl, .slice a n ca, .int .u64 nt, .int .i64 de] 28)) := (Below.refl _ _).alloc (Nat.le_refl _) _
  obtain ⟨B2, -, -⟩ := box1 ((w.alloc (.cells (tabC X).toArray 62)).alloc (.cells #[.int .i64 cd, .int .i64 tm, .int .u64 id, .int .i64 cn, .int .i64 st, .int .i64 lv, .int .u64 ge, .int .i64 fr, .int .i64 lf, .int .i64 du, .int .i64 tl, .slice a n ca, .int .u64 nt, .int .i64 de] 28)) Try.zeroCells62 62
  have hR := ((RT.made w X 62).kept hb0).kept B2
  have hZ := RT.made ((w.alloc (.cells (tabC X).toArray 62)).alloc (.cells #[.int .i64 cd, .int .i64 tm, .int .u64 id, .int .i64 cn, .int .i64 st, .int .i64 lv, .int .u64 ge, .int .i64 fr, .int .i64 lf, .int .i64 du, .int .i64 tl, .slice a n ca, .int .u64 nt, .int .i64 de] 28)) (fun _ => zOp) 62
  rw [← z135, e2] at hZ
  have HB := Lib.hid (B1.trans (B2.mono B1.size))
  have HR := Lib.hid hR
  have HZ := Lib.hid hZ
  have HS := Lib.hid (ex_below s1 B2)
  have HIS := Lib.hid (fun W => ris_any cl W)
  have HOV : Hid (∀ W N V, RT W N (fun _ => zOp) → RT (W.setCells N 0 (tabC V)) N V) := Lib.hid (fun W N V h => h.over V)
  have HTH : Hid (∀ W N V, RT W N (fun _ => zOp) → W.there N 0 (tabC V).toArray.size) := Lib.hid (fun W N V h => by rw [List.size_toArray, tabC_len]; exact h.2)
  have HONE : Hid (∀ V, (tabC V).toArray.all (·.oneCell') = true) := Lib.hid (fun V => all_oneCell_toArray (tabC_one V))
  have HYI : Hid (∀ V, (Try.prog.info? 62).map (·.size) = some (tabC V).length) := Lib.hid (fun V => by rw [rt_info, tabC_len])
  have HI28 : Hid ((Try.prog.info? 28).map (·.size) = some 14) := Lib.hid (by kernel_rfl)
  have he : (decide (1 ≤ cl) && decide (cl ≤ 8)) = true := by
    rw [Bool.and_eq_true, decide_eq_true_eq, decide_eq_true_eq]
    omega
  rw [he] at HIS
  have HSO := Lib.hid (fun W => rrsound19 cd tm id cn st lv ge fr lf du tl a n ca nt de W)
  rw [hs] at HSO
  clear he hs
  clear hc
  clear B1 B2 s0 s1 hb0 hR hZ e2
  unfold rtV repV at *
  go_enter Try.func71, Try.ntmps71
  go_wp2_with fail
  generalize ((w.alloc (.cells (tabC X).toArray 62)).alloc (.cells #[.int .i64 cd, .int .i64 tm, .int .u64 id, .int .i64 cn, .int .i64 st, .int .i64 lv, .int .u64 ge, .int .i64 fr, .int .i64 lf, .int .i64 du, .int .i64 tl, .slice a n ca, .int .u64 nt, .int .i64 de] 28)).alloc (.cells Try.zeroCells62 62) = W0 at HB HR HZ HS ⊢
  refine (HIS.out W0).mono ?_
  rintro e w0 ⟨rfl, rfl⟩
  clear HIS
  obtain ⟨q0, q1, q2, q3, q4, q5, q6, q7, q8, q9, q10, q11, q12, q13⟩ := rep_at HS.out
  go_wp2_with fail
  refine (HSO.out _).mono ?_
  rintro e w1 ⟨rfl, hb⟩
  have HB1 := Lib.hid (HB.out.trans (hb.mono HB.out.size))
  have HR1 := Lib.hid (HR.out.kept hb)
  have HZ1 := Lib.hid (HZ.out.kept hb)
  have HS1 := Lib.hid (ex_below HS.out hb)
  clear hb HB HR HZ HS HSO q0 q1 q2 q3 q4 q5 q6 q7 q8 q9 q10 q11 q12 q13
  go_wp2_with (first
    | (refine wpList_load_mid rfl 62 (.tmp 4) rfl w.heap.size 0 rfl (tabC X) _ HR1.out.1 rt_und rfl (HYI.out X) ?_)
    | (refine wpList_store_mid rfl 62 (.tmp 8) (.tmp 18) rfl (w.heap.size + 2) 0 (tabC X).toArray rfl rfl (HTH.out _ _ X HZ1.out) (by rw [List.size_toArray]; exact HYI.out X) (HONE.out X) ?_))
  have hF := HOV.out _ _ X HZ1.out
  have hBF := below_setCells HB1.out (Nat.le_add_right w.heap.size 2) (tabC X) 0
  exact bodyPost_ret (rt_result Try.results71 _ _ (w.heap.size + 2) X rfl hF) rfl ⟨rfl, hBF⟩
set_option maxRecDepth 100000 in
set_option maxHeartbeats 8000000 in
theorem rdone_old (X : Nat → Opn) (cl rq : Int) (cd tm id cn st lv ge fr lf du tl : Int) (a : Option Addr) (n ca : Nat) (nt de : Int) (w : World) (hc : 1 ≤ cl ∧ cl ≤ 8) (hs : repS cd tm id cn st lv ge fr lf du tl n de = true) (hq : rq ≤ (X cl.toNat).rq) :
    Calls Try.prog 71 #[rtV X, .int .u64 cl, .int .u64 rq, repV cd tm id cn st lv ge fr lf du tl a n ca nt de] w fun e w' => e = .returned (.tuple #[rtV X, .int .i64 34]) ∧ Below w.heap.size w w' := by
  obtain ⟨B1, s0, s1, -⟩ := box2 w (tabC X).toArray #[.int .i64 cd, .int .i64 tm, .int .u64 id, .int .i64 cn, .int .i64 st, .int .i64 lv, .int .u64 ge, .int .i64 fr, .int .i64 lf, .int .i64 du, .int .i64 tl, .slice a n ca, .int .u64 nt, .int .i64 de] 62 28
  have e2 : ((w.alloc (.cells (tabC X).toArray 62)).alloc (.cells #[.int .i64 cd, .int .i64 tm, .int .u64 id, .int .i64 cn, .int .i64 st, .int .i64 lv, .int .u64 ge, .int .i64 fr, .int .i64 lf, .int .i64 du, .int .i64 tl, .slice a n ca, .int .u64 nt, .int .i64 de] 28)).heap.size = w.heap.size + 2 := by simp
  have hb0 : Below (w.alloc (.cells (tabC X).toArray 62)).heap.size (w.alloc (.cells (tabC X).toArray 62)) ((w.alloc (.cells (tabC X).toArray 62)).alloc (.cells #[.int .i64 cd, .int .i64 tm, .int .u64 id, .int .i64 cn, .int .i64 st, .int .i64 lv, .int .u64 ge, .int .i64 fr, .int .i64 lf, .int .i64 du, .int .i64 tl, .slice a n ca, .int .u64 nt, .int .i64 de] 28)) := (Below.refl _ _).alloc (Nat.le_refl _) _
  obtain ⟨B2, -, -⟩ := box1 ((w.alloc (.cells (tabC X).toArray 62)).alloc (.cells #[.int .i64 cd, .int .i64 tm, .int .u64 id, .int .i64 cn, .int .i64 st, .int .i64 lv, .int .u64 ge, .int .i64 fr, .int .i64 lf, .int .i64 du, .int .i64 tl, .slice a n ca, .int .u64 nt, .int .i64 de] 28)) Try.zeroCells62 62
  have hR := ((RT.made w X 62).kept hb0).kept B2
  have hZ := RT.made ((w.alloc (.cells (tabC X).toArray 62)).alloc (.cells #[.int .i64 cd, .int .i64 tm, .int .u64 id, .int .i64 cn, .int .i64 st, .int .i64 lv, .int .u64 ge, .int .i64 fr, .int .i64 lf, .int .i64 du, .int .i64 tl, .slice a n ca, .int .u64 nt, .int .i64 de] 28)) (fun _ => zOp) 62
  rw [← z135, e2] at hZ
  have HB := Lib.hid (B1.trans (B2.mono B1.size))
  have HR := Lib.hid hR
  have HZ := Lib.hid hZ
  have HS := Lib.hid (ex_below s1 B2)
  have HIS := Lib.hid (fun W => ris_any cl W)
  have HOV : Hid (∀ W N V, RT W N (fun _ => zOp) → RT (W.setCells N 0 (tabC V)) N V) := Lib.hid (fun W N V h => h.over V)
  have HTH : Hid (∀ W N V, RT W N (fun _ => zOp) → W.there N 0 (tabC V).toArray.size) := Lib.hid (fun W N V h => by rw [List.size_toArray, tabC_len]; exact h.2)
  have HONE : Hid (∀ V, (tabC V).toArray.all (·.oneCell') = true) := Lib.hid (fun V => all_oneCell_toArray (tabC_one V))
  have HYI : Hid (∀ V, (Try.prog.info? 62).map (·.size) = some (tabC V).length) := Lib.hid (fun V => by rw [rt_info, tabC_len])
  have HI28 : Hid ((Try.prog.info? 28).map (·.size) = some 14) := Lib.hid (by kernel_rfl)
  have he : (decide (1 ≤ cl) && decide (cl ≤ 8)) = true := by
    rw [Bool.and_eq_true, decide_eq_true_eq, decide_eq_true_eq]
    omega
  rw [he] at HIS
  have HSO := Lib.hid (fun W => rrsound19 cd tm id cn st lv ge fr lf du tl a n ca nt de W)
  rw [hs] at HSO
  clear he hs
  obtain ⟨i, rfl⟩ : ∃ i : Nat, cl = (i : Int) := ⟨cl.toNat, by omega⟩
  have i0 : (0 : Int) ≤ (i : Int) := by omega
  have i9 : (i : Int) < 9 := by omega
  have HI := Lib.hid hc
  rw [Int.toNat_natCast] at hq
  obtain ⟨q, hq2⟩ : ∃ q, (X i).rq = q := ⟨_, rfl⟩
  rw [hq2] at hq
  have HQE := Lib.hid hq2
  have d3 : decide (rq ≤ q) = true := decide_eq_true hq
  clear hc hq hq2
  clear B1 B2 s0 s1 hb0 hR hZ e2
  unfold rtV repV at *
  go_enter Try.func71, Try.ntmps71
  go_wp2_with fail
  generalize ((w.alloc (.cells (tabC X).toArray 62)).alloc (.cells #[.int .i64 cd, .int .i64 tm, .int .u64 id, .int .i64 cn, .int .i64 st, .int .i64 lv, .int .u64 ge, .int .i64 fr, .int .i64 lf, .int .i64 du, .int .i64 tl, .slice a n ca, .int .u64 nt, .int .i64 de] 28)).alloc (.cells Try.zeroCells62 62) = W0 at HB HR HZ HS ⊢
  refine (HIS.out W0).mono ?_
  rintro e w0 ⟨rfl, rfl⟩
  clear HIS
  obtain ⟨q0, q1, q2, q3, q4, q5, q6, q7, q8, q9, q10, q11, q12, q13⟩ := rep_at HS.out
  go_wp2_with fail
  refine (HSO.out _).mono ?_
  rintro e w1 ⟨rfl, hb⟩
  have HB1 := Lib.hid (HB.out.trans (hb.mono HB.out.size))
  have HR1 := Lib.hid (HR.out.kept hb)
  have HZ1 := Lib.hid (HZ.out.kept hb)
  have HS1 := Lib.hid (ex_below HS.out hb)
  clear hb HB HR HZ HS HSO q0 q1 q2 q3 q4 q5 q6 q7 q8 q9 q10 q11 q12 q13
  have c0 := HR1.out.req i (by have := HI.out; omega)
  rw [HQE.out] at c0
  go_wp2_with (first
    | (refine wpList_load_mid rfl 62 (.tmp 4) rfl w.heap.size 0 rfl (tabC X) _ HR1.out.1 rt_und rfl (HYI.out X) ?_)
    | (refine wpList_store_mid rfl 62 (.tmp 8) (.tmp 25) rfl (w.heap.size + 2) 0 (tabC X).toArray rfl rfl (HTH.out _ _ X HZ1.out) (by rw [List.size_toArray]; exact HYI.out X) (HONE.out X) ?_))
  have hF := HOV.out _ _ X HZ1.out
  have hBF := below_setCells HB1.out (Nat.le_add_right w.heap.size 2) (tabC X) 0
  exact bodyPost_ret (rt_result Try.results71 _ _ (w.heap.size + 2) X rfl hF) rfl ⟨rfl, hBF⟩
set_option maxRecDepth 100000 in
set_option maxHeartbeats 8000000 in
theorem rdone_ok (X : Nat → Opn) (cl rq : Int) (cd tm id cn st lv ge fr lf du tl : Int) (a : Option Addr) (n ca : Nat) (nt de : Int) (w : World) (kd cl0 : Int) (xs : List Nat) (hc : 1 ≤ cl ∧ cl ≤ 8) (hs : repS cd tm id cn st lv ge fr lf du tl n de = true) (hq : (X cl.toNat).rq < rq) :
    Calls Try.prog 71 #[rtV X, .int .u64 cl, .int .u64 rq, repV cd tm id cn st lv ge fr lf du tl a n ca nt de] w fun e w' => e = .returned (.tuple #[rtV (upX X cl.toNat (Opn.mk kd cl0 rq cd tm id cn st lv ge fr lf du tl a n ca nt de xs)), .int .i64 0]) ∧ Below w.heap.size w w' := by
  obtain ⟨B1, s0, s1, -⟩ := box2 w (tabC X).toArray #[.int .i64 cd, .int .i64 tm, .int .u64 id, .int .i64 cn, .int .i64 st, .int .i64 lv, .int .u64 ge, .int .i64 fr, .int .i64 lf, .int .i64 du, .int .i64 tl, .slice a n ca, .int .u64 nt, .int .i64 de] 62 28
  have e2 : ((w.alloc (.cells (tabC X).toArray 62)).alloc (.cells #[.int .i64 cd, .int .i64 tm, .int .u64 id, .int .i64 cn, .int .i64 st, .int .i64 lv, .int .u64 ge, .int .i64 fr, .int .i64 lf, .int .i64 du, .int .i64 tl, .slice a n ca, .int .u64 nt, .int .i64 de] 28)).heap.size = w.heap.size + 2 := by simp
  have hb0 : Below (w.alloc (.cells (tabC X).toArray 62)).heap.size (w.alloc (.cells (tabC X).toArray 62)) ((w.alloc (.cells (tabC X).toArray 62)).alloc (.cells #[.int .i64 cd, .int .i64 tm, .int .u64 id, .int .i64 cn, .int .i64 st, .int .i64 lv, .int .u64 ge, .int .i64 fr, .int .i64 lf, .int .i64 du, .int .i64 tl, .slice a n ca, .int .u64 nt, .int .i64 de] 28)) := (Below.refl _ _).alloc (Nat.le_refl _) _
  obtain ⟨B2, -, -⟩ := box1 ((w.alloc (.cells (tabC X).toArray 62)).alloc (.cells #[.int .i64 cd, .int .i64 tm, .int .u64 id, .int .i64 cn, .int .i64 st, .int .i64 lv, .int .u64 ge, .int .i64 fr, .int .i64 lf, .int .i64 du, .int .i64 tl, .slice a n ca, .int .u64 nt, .int .i64 de] 28)) Try.zeroCells62 62
  have hR := ((RT.made w X 62).kept hb0).kept B2
  have hZ := RT.made ((w.alloc (.cells (tabC X).toArray 62)).alloc (.cells #[.int .i64 cd, .int .i64 tm, .int .u64 id, .int .i64 cn, .int .i64 st, .int .i64 lv, .int .u64 ge, .int .i64 fr, .int .i64 lf, .int .i64 du, .int .i64 tl, .slice a n ca, .int .u64 nt, .int .i64 de] 28)) (fun _ => zOp) 62
  rw [← z135, e2] at hZ
  have HB := Lib.hid (B1.trans (B2.mono B1.size))
  have HR := Lib.hid hR
  have HZ := Lib.hid hZ
  have HS := Lib.hid (ex_below s1 B2)
  have HIS := Lib.hid (fun W => ris_any cl W)
  have HOV : Hid (∀ W N V, RT W N (fun _ => zOp) → RT (W.setCells N 0 (tabC V)) N V) := Lib.hid (fun W N V h => h.over V)
  have HTH : Hid (∀ W N V, RT W N (fun _ => zOp) → W.there N 0 (tabC V).toArray.size) := Lib.hid (fun W N V h => by rw [List.size_toArray, tabC_len]; exact h.2)
  have HONE : Hid (∀ V, (tabC V).toArray.all (·.oneCell') = true) := Lib.hid (fun V => all_oneCell_toArray (tabC_one V))
  have HYI : Hid (∀ V, (Try.prog.info? 62).map (·.size) = some (tabC V).length) := Lib.hid (fun V => by rw [rt_info, tabC_len])
  have HI28 : Hid ((Try.prog.info? 28).map (·.size) = some 14) := Lib.hid (by kernel_rfl)
  have he : (decide (1 ≤ cl) && decide (cl ≤ 8)) = true := by
    rw [Bool.and_eq_true, decide_eq_true_eq, decide_eq_true_eq]
    omega
  rw [he] at HIS
  have HSO := Lib.hid (fun W => rrsound19 cd tm id cn st lv ge fr lf du tl a n ca nt de W)
  rw [hs] at HSO
  clear he hs
  obtain ⟨i, rfl⟩ : ∃ i : Nat, cl = (i : Int) := ⟨cl.toNat, by omega⟩
  have i0 : (0 : Int) ≤ (i : Int) := by omega
  have i9 : (i : Int) < 9 := by omega
  have HI := Lib.hid hc
  rw [Int.toNat_natCast] at hq ⊢
  obtain ⟨q, hq2⟩ : ∃ q, (X i).rq = q := ⟨_, rfl⟩
  rw [hq2] at hq
  have HQE := Lib.hid hq2
  have d3 : decide (rq ≤ q) = false := decide_eq_false (by omega)
  clear hc hq hq2
  clear B1 B2 s0 s1 hb0 hR hZ e2
  unfold rtV repV at *
  go_enter Try.func71, Try.ntmps71
  go_wp2_with fail
  generalize ((w.alloc (.cells (tabC X).toArray 62)).alloc (.cells #[.int .i64 cd, .int .i64 tm, .int .u64 id, .int .i64 cn, .int .i64 st, .int .i64 lv, .int .u64 ge, .int .i64 fr, .int .i64 lf, .int .i64 du, .int .i64 tl, .slice a n ca, .int .u64 nt, .int .i64 de] 28)).alloc (.cells Try.zeroCells62 62) = W0 at HB HR HZ HS ⊢
  refine (HIS.out W0).mono ?_
  rintro e w0 ⟨rfl, rfl⟩
  clear HIS
  obtain ⟨q0, q1, q2, q3, q4, q5, q6, q7, q8, q9, q10, q11, q12, q13⟩ := rep_at HS.out
  go_wp2_with fail
  refine (HSO.out _).mono ?_
  rintro e w1 ⟨rfl, hb⟩
  have HB1 := Lib.hid (HB.out.trans (hb.mono HB.out.size))
  have HR1 := Lib.hid (HR.out.kept hb)
  have HZ1 := Lib.hid (HZ.out.kept hb)
  have HS1 := Lib.hid (ex_below HS.out hb)
  clear hb HB HR HZ HS HSO q0 q1 q2 q3 q4 q5 q6 q7 q8 q9 q10 q11 q12 q13
  have c0 := HR1.out.req i (by have := HI.out; omega)
  rw [HQE.out] at c0
  have f0 := HR1.out.fr i (by have := HI.out; omega)
  have hR2 := HR1.out.setreq i (by have := HI.out; omega) rq
  have hR3 := hR2.setrep i (by have := HI.out; omega) (Opn.mk kd cl0 rq cd tm id cn st lv ge fr lf du tl a n ca nt de xs) (by rw [upX_same])
  rw [upX_upX] at hR3
  have HR3 := Lib.hid hR3
  have HT2 : Hid ((w1.setCell ⟨w.heap.size, i, none⟩ (.int .u64 rq)).there w.heap.size (9 + i * 14) (Opn.mk kd cl0 rq cd tm id cn st lv ge fr lf du tl a n ca nt de xs).rc.toArray.size) := Lib.hid (fun k hk => by
    have hk' : k < 14 := by simpa [rc_len] using hk
    have := hR2.2 (9 + i * 14 + k) (by have := HI.out; omega)
    rwa [Nat.zero_add] at this)
  have HONE2 : Hid ((Opn.mk kd cl0 rq cd tm id cn st lv ge fr lf du tl a n ca nt de xs).rc.toArray.all (·.oneCell') = true) := Lib.hid (all_oneCell_toArray (rc_one (Opn.mk kd cl0 rq cd tm id cn st lv ge fr lf du tl a n ca nt de xs)))
  have hB2 : Below w.heap.size w (w1.setCell ⟨w.heap.size, i, none⟩ (.int .u64 rq)) := HB1.out.setCell (p := ⟨w.heap.size, i, none⟩) (Nat.le_refl _) _
  have HB3 := Lib.hid (below_setCells hB2 (Nat.le_refl w.heap.size) (Opn.mk kd cl0 rq cd tm id cn st lv ge fr lf du tl a n ca nt de xs).rc (9 + i * 14))
  have hZ2 : RT (w1.setCell ⟨w.heap.size, i, none⟩ (.int .u64 rq)) (w.heap.size + 2) (fun _ => zOp) := by
    have h := HZ1.out.far (show w.heap.size + 2 ≠ w.heap.size by omega) [.int .u64 rq] i
    exact h
  have HZ3 := Lib.hid (hZ2.far (show w.heap.size + 2 ≠ w.heap.size by omega) (Opn.mk kd cl0 rq cd tm id cn st lv ge fr lf du tl a n ca nt de xs).rc (9 + i * 14))
  have hs2 : (w1.setCell ⟨w.heap.size, i, none⟩ (.int .u64 rq)).heap[w.heap.size + 1]? = some (.cells #[.int .i64 cd, .int .i64 tm, .int .u64 id, .int .i64 cn, .int .i64 st, .int .i64 lv, .int .u64 ge, .int .i64 fr, .int .i64 lf, .int .i64 du, .int .i64 tl, .slice a n ca, .int .u64 nt, .int .i64 de] 28 (0, 0)) := (Below.heap_setCell _ _ _ _ (by show w.heap.size + 1 ≠ w.heap.size; omega)).trans HS1.out
  obtain ⟨p0, p1, p2, p3, p4, p5, p6, p7, p8, p9, p10, p11, p12, p13⟩ := rep_at hs2
  clear hR2 hR3 hB2 hZ2 hs2
  go_wp2_with (first
    | (refine wpList_store_mid rfl 28 (.tmp 33) (.tmp 31) rfl w.heap.size (9 + i * 14) (Opn.mk kd cl0 rq cd tm id cn st lv ge fr lf du tl a n ca nt de xs).rc.toArray rfl rfl HT2.out HI28.out HONE2.out ?_; rw [List.toList_toArray]; generalize (w1.setCell ⟨w.heap.size, i, none⟩ (.int .u64 rq)).setCells w.heap.size (9 + i * 14) (Opn.mk kd cl0 rq cd tm id cn st lv ge fr lf du tl a n ca nt de xs).rc = W3 at HR3 HZ3 HB3 ⊢)
    | (refine wpList_load_mid (w := W3) rfl 62 (.tmp 4) rfl w.heap.size 0 rfl (tabC (upX X i (Opn.mk kd cl0 rq cd tm id cn st lv ge fr lf du tl a n ca nt de xs))) _ HR3.out.1 rt_und rfl (HYI.out (upX X i (Opn.mk kd cl0 rq cd tm id cn st lv ge fr lf du tl a n ca nt de xs))) ?_)
    | (refine wpList_store_mid (w := W3) rfl 62 (.tmp 8) (.tmp 34) rfl (w.heap.size + 2) 0 (tabC (upX X i (Opn.mk kd cl0 rq cd tm id cn st lv ge fr lf du tl a n ca nt de xs))).toArray rfl rfl (HTH.out _ _ (upX X i (Opn.mk kd cl0 rq cd tm id cn st lv ge fr lf du tl a n ca nt de xs)) HZ3.out) (by rw [List.size_toArray]; exact HYI.out (upX X i (Opn.mk kd cl0 rq cd tm id cn st lv ge fr lf du tl a n ca nt de xs))) (HONE.out (upX X i (Opn.mk kd cl0 rq cd tm id cn st lv ge fr lf du tl a n ca nt de xs))) ?_))
  have hF := HOV.out _ _ (upX X i (Opn.mk kd cl0 rq cd tm id cn st lv ge fr lf du tl a n ca nt de xs)) HZ3.out
  have hBF := below_setCells HB3.out (Nat.le_add_right w.heap.size 2) (tabC (upX X i (Opn.mk kd cl0 rq cd tm id cn st lv ge fr lf du tl a n ca nt de xs))) 0
  exact bodyPost_ret (rt_result Try.results71 _ _ (w.heap.size + 2) (upX X i (Opn.mk kd cl0 rq cd tm id cn st lv ge fr lf du tl a n ca nt de xs)) rfl hF) rfl ⟨rfl, hBF⟩
end Go.Proofs.Ytnhaakdjijjinaa
