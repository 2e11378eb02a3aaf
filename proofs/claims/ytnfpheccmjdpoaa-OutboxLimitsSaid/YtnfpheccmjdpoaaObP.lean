/- The outbox: a box' state. -/
import Derived.Test.YtnfpheccmjdpoaaObK
namespace Go.Proofs.Ytnfpheccmjdpoaa
open Go.RowKit
/-- A row of notices of one's own. -/
def ON (w : World) (base : Nat) (v : Value) (l : List Nt) : Prop := w.ownsRow base 36 9 v l.length (flat l)
theorem ON.lt {w : World} {base : Nat} {v : Value} {l : List Nt} (h : ON w base v l) {g : Nat} (hg : v.ownBlock = some g) : base ≤ g ∧ g < w.heap.size := World.ownsRow.lt h g hg
theorem ON.below {w w' : World} {base : Nat} {v : Value} {l : List Nt} (h : ON w base v l) (hb : Below w.heap.size w w') : ON w' base v l := by
  refine ⟨h.1, ?_⟩
  have hl := fun g => ON.lt h (g := g)
  rcases h.2 with h2 | ⟨g, cap, cur, e, hg, hc, r⟩
  · exact .inl h2
  · exact .inr ⟨g, cap, cur, e, hg, (hb.block g (hl g (by rw [e]; rfl)).2).trans hc, r⟩
theorem ON.far {w : World} {base N : Nat} {v : Value} {l : List Nt} (h : ON w base v l) (hN : ∀ g, v.ownBlock = some g → g ≠ N) (o : Nat) (vs : List Value) : ON (w.setCells N o vs) base v l := by
  refine ⟨h.1, ?_⟩
  rcases h.2 with h2 | ⟨g, cap, cur, e, hg, hc, r⟩
  · exact .inl h2
  · exact .inr ⟨g, cap, cur, e, hg, (setCells_block (hN g (by rw [e]; rfl)) _ _ _).trans hc, r⟩
theorem ON.down {w : World} {base b2 : Nat} {v : Value} {l : List Nt} (h : ON w base v l) (e : b2 ≤ base) : ON w b2 v l := by
  refine ⟨h.1, ?_⟩
  rcases h.2 with h2 | ⟨g, cap, cur, e1, hg, r⟩
  · exact .inl h2
  · exact .inr ⟨g, cap, cur, e1, by omega, r⟩
theorem ON.nr {w : World} {base : Nat} {v : Value} {l : List Nt} (h : ON w base v l) : ∃ a c, v = .slice a l.length c ∧ NR w a l := by
  have h' := h
  rcases h'.2 with ⟨rfl, h0⟩ | ⟨g, cap, cur, rfl, _, _, hc, _⟩
  · have e : l = [] := List.length_eq_zero_iff.1 h0
    subst e
    exact ⟨none, 0, rfl, NR.nil _ _⟩
  · refine ⟨_, _, rfl, fun k hk => ⟨g, 0, rfl, ?_⟩⟩
    have hr : w.rangeAt g 0 (flat l) := fun j u hj => by
      have hj2 := (List.getElem?_eq_some_iff.1 hj).1
      rw [flat_len] at hj2
      have := World.ownsRow.cellAt h j (by omega)
      rw [Nat.zero_add]
      exact this.trans hj
    exact range_rows hr k hk
theorem BX.flat {w : World} {b : Nat} {last : Int} {l : List Nt} (h : BX w b last l) : w.rangeAt b 2 (flat l) := rows_range l 2 (fun i hi => h.row i hi)
theorem step_append_nts {ops : Array Oper} {o : Oper} {a : Act} {w : World} {K : Act → World → Prop} {Q : Exit → Act → World → Prop} {E : Prop}
    (hgd : o.guard = none) (s x : Operand) (hop : o.op = Op.call { callee := Callee.builtin Builtin.append, args := #[s, x], argTypes := #[23, 23] })
    (base : Nat) (l : List Nt) (hs : a.eval s = .slice none 0 0) (ad : Addr) (c : Nat) (hx : a.eval x = .slice (some ad) l.length c)
    (hc : ∀ j u, (flat l)[j]? = some u → w.cell? (ad.add j) = some u)
    (hlen : l.length ≤ 128) (hbase : base ≤ w.heap.size)
    (hK : ∀ v' w', ON w' w.heap.size v' l → w.grownBy w' none → K (a.put o.dst v') w') :
    if Region.wanted o (yielded ops a.tmps) = true then Oper.wp Try.prog o a w K Q else E := by
  have hw : Region.wanted o (yielded ops a.tmps) = true := by simp [Region.wanted, hgd]
  rw [if_pos hw]
  obtain ⟨i0, hi, hz0, hz1, hz2⟩ := info_parts nt_infoW
  obtain ⟨v', w', hrun, h2, h3, _⟩ := run_append_own (P := Try.prog) w w.heap.size 23 o.type 36 i0 (.agg #[.int .u64 0, .int .u64 0, .int .i64 0, .int .i64 0, .int .i64 0, .int .i64 0, .int .i64 0, .int .i64 0, .int .i64 0]) 9 72 Try.underlying23 hi hz0 hz1 hz2 rfl (by decide) (.slice none 0 0) 0 [] (World.ownsRow_nil w _ _ _) ad l.length c (flat l) (by rw [flat_len]) hc (flat_one l) (by unfold maxLen; omega) (by omega) (Nat.le_refl _)
  unfold Oper.wp
  simp [execOp, hop, resolve, invoke, builtin, hs, hx, hrun, Result.andThen]
  exact hK v' w' (by unfold ON; simpa using h2) h3
theorem st_info : (Try.prog.info? 25).map (·.size) = some 2 := by kernel_rfl
theorem st_und : Try.prog.underlying 25 = some (.struct (Try.prog.fieldsOf 25)) := by kernel_rfl
theorem one_v9 {w : World} {base : Nat} {v : Value} {l : List Nt} {last : Int} (h : ON w base v l) : (#[Value.int .u64 last, v] : Array Value).all (·.oneCell') = true := by
  obtain ⟨a, c, rfl, -⟩ := h.nr
  exact all_oneCell_toArray (cs := [Value.int .u64 last, .slice a l.length c]) (by intro v hv; simp only [List.mem_cons, List.not_mem_nil, or_false] at hv; rcases hv with rfl | rfl <;> rfl)
theorem st_res {fn : Func} {p : Nat} (h : fn.results = #[.cell p 25]) (tmps : Array Value) (w : World) (N : Nat) (last : Int) (v : Value) (hp : tmps.getD p undef = .pointer (some ⟨N, 0, none⟩)) (hR : w.rangeAt N 0 [.int .u64 last, v]) : (results fn tmps).run Try.prog w = .ok (.agg #[.int .u64 last, v]) w := by
  have hl := run_loadVar_mid w N 0 _ [.int .u64 last, v] _ hR st_und rfl st_info
  have hp' : tmps[p]?.getD undef = .pointer (some ⟨N, 0, none⟩) := by simpa using hp
  simp [results, h, hp', asAddr, hl]
set_option maxRecDepth 100000 in
set_option maxHeartbeats 8000000 in
theorem state_box (b : Nat) (last : Int) (l : List Nt) (w : World) (h : BX w b last l) : Calls Try.prog 18 #[.pointer (some ⟨b, 0, none⟩)] w fun e w' => ∃ v, e = .returned (.agg #[.int .u64 last, v]) ∧ ON w' w.heap.size v l ∧ Below w.heap.size w w' := by
  obtain ⟨B1, s0, -⟩ := box1 w #[.int .u64 0, .slice none 0 0] 25
  have HX := Lib.hid (h.below B1)
  have HB := Lib.hid B1
  have HS := Lib.hid s0
  have HBL0 : Hid (b < w.heap.size) := Lib.hid h.lt
  clear h B1 s0
  go_enter Try.func18, Try.ntmps18
  go_wp2_with fail
  obtain ⟨N, hN⟩ : ∃ N, w.heap.size = N := ⟨_, rfl⟩
  rw [hN] at HS
  try rw [hN]
  have HN := Lib.hid hN
  have HBL : Hid (b < N) := Lib.hid (by have := HBL0.out; omega)
  clear hN HBL0
  generalize w.alloc (.cells #[.int .u64 0, .slice none 0 0] 25) = w1 at HX HB HS ⊢
  refine (created_box b last l w1 HX.out).mono ?_
  rintro e w2 ⟨rfl, rfl⟩
  go_wp2_with fail
  have HX3 : Hid (BX w1.drew b last l) := Lib.hid (HX.out.kept rfl)
  have HB3 : Hid (Below w.heap.size w w1.drew) := Lib.hid HB.out.drew
  have HS3 : Hid (w1.drew.heap[N]? = some (.cells #[.int .u64 0, .slice none 0 0] 25 (0, 0))) := Lib.hid HS.out
  have HS0 : Hid ((fun W : World => BX W b last l ∧ W.there N 0 2) w1.drew) := Lib.hid ⟨HX3.out, there_new HS3.out⟩
  refine wp_region_held_drew (S := (fun W : World => BX W b last l ∧ W.there N 0 2)) (by kernel_rfl) HS0.out (fun hHeld => ?_)
  clear hHeld HX HB HS
  generalize w1.drew = w3 at HX3 HB3 HS3 HS0 ⊢
  refine wpAnyH_take (i := 0) (oi := { dst := some 7, op := Go.Op.move (Go.Operand.tmp 0), type := 29, pos := "outbox.go:46", after := #[], guard := none }) (v := ?_) rfl (by kernel_rfl) (by kernel_rfl) (by kernel_rfl) (fun _ _ _ h => h) (Or.inl ⟨by rfl, ?_⟩) HS0.out ?_
  case refine_2 => (intro w1 hS1; obtain ⟨hbx, -⟩ := hS1; have c0 := hbx.c0; clear hbx; go_simp; try with_reducible rfl)
  try simp only [Act.put, List.setIfInBounds_toArray, List.set_cons_zero, List.set_cons_succ]
  refine wpAnyH_take (i := 1) (oi := { dst := some 8, op := Go.Op.nilCheck (Go.Operand.tmp 7), type := 0, pos := "outbox.go:46", after := #[{ on := 0, ground := Go.Ground.data }], guard := none }) (v := ?_) rfl (by kernel_rfl) (by kernel_rfl) (by kernel_rfl) (fun _ _ _ h => h) (Or.inl ⟨by rfl, ?_⟩) HS0.out ?_
  case refine_2 => (intro w1 hS1; obtain ⟨hbx, -⟩ := hS1; have c0 := hbx.c0; clear hbx; go_simp; try with_reducible rfl)
  try simp only [Act.put, List.setIfInBounds_toArray, List.set_cons_zero, List.set_cons_succ]
  refine wpAnyH_take (i := 2) (oi := { dst := some 9, op := Go.Op.fieldAddr 79 (Go.Operand.tmp 8) 0, type := 0, pos := "outbox.go:46", after := #[{ on := 1, ground := Go.Ground.data }], guard := none }) (v := ?_) rfl (by kernel_rfl) (by kernel_rfl) (by kernel_rfl) (fun _ _ _ h => h) (Or.inl ⟨by rfl, ?_⟩) HS0.out ?_
  case refine_2 => (intro w1 hS1; obtain ⟨hbx, -⟩ := hS1; have c0 := hbx.c0; clear hbx; go_simp; try with_reducible rfl)
  try simp only [Act.put, List.setIfInBounds_toArray, List.set_cons_zero, List.set_cons_succ]
  refine wpAnyH_take (i := 3) (oi := { dst := some 10, op := Go.Op.load 22 (Go.Operand.tmp 9), type := 22, pos := "outbox.go:46", after := #[{ on := 2, ground := Go.Ground.data }], guard := none }) (v := ?_) rfl (by kernel_rfl) (by kernel_rfl) (by kernel_rfl) (fun _ _ _ h => h) (Or.inl ⟨by rfl, ?_⟩) HS0.out ?_
  case refine_2 => (intro w1 hS1; obtain ⟨hbx, -⟩ := hS1; have c0 := hbx.c0; clear hbx; go_simp; try with_reducible rfl)
  try simp only [Act.put, List.setIfInBounds_toArray, List.set_cons_zero, List.set_cons_succ]
  refine wpAnyH_take (i := 4) (oi := { dst := some 11, op := Go.Op.move (Go.Operand.tmp 0), type := 29, pos := "outbox.go:46", after := #[], guard := none }) (v := ?_) rfl (by kernel_rfl) (by kernel_rfl) (by kernel_rfl) (fun _ _ _ h => h) (Or.inl ⟨by rfl, ?_⟩) HS0.out ?_
  case refine_2 => (intro w1 hS1; obtain ⟨hbx, -⟩ := hS1; have c0 := hbx.c0; clear hbx; go_simp; try with_reducible rfl)
  try simp only [Act.put, List.setIfInBounds_toArray, List.set_cons_zero, List.set_cons_succ]
  refine wpAnyH_ready (rs := [5]) (by kernel_rfl) (by simp) ?_
  refine AllReadyH.cons (o := { dst := some 12, op := Go.Op.call { callee := Go.Callee.value (Go.Operand.func 46), args := #[Go.Operand.tmp 11], argTypes := #[29] }, type := 23, pos := "outbox.go:46", after := #[{ on := 4, ground := Go.Ground.data }], guard := none }) rfl (fun K hK => ?_) AllReadyH.nil
  go_simp
  refine (all_box b last l w3 HX3.out).mono ?_
  rintro e w4 ⟨rfl, hb⟩
  have HX4 := Lib.hid (HX3.out.below hb)
  have HB4 := Lib.hid (HB3.out.trans (hb.mono HB3.out.size))
  have HS4 := Lib.hid (ex_below HS3.out hb)
  have HS0' : Hid ((fun W : World => BX W b last l ∧ W.there N 0 2) w4) := Lib.hid ⟨HX4.out, there_new HS4.out⟩
  clear hb HX3 HB3 HS3 HS0
  have HS0 := HS0'
  clear HS0'
  refine hK.out _ _ HS0.out (fun hHeld => ?_)
  clear hK K hHeld
  try simp only [Act.put, List.setIfInBounds_toArray, List.set_cons_zero, List.set_cons_succ]
  refine wpAnyH_ready (rs := [6]) (by kernel_rfl) (by simp) ?_
  refine AllReadyH.cons (o := { dst := some 13, op := Go.Op.call { callee := Go.Callee.builtin Go.Builtin.append, args := #[Go.Operand.const (Go.Value.slice none 0 0), Go.Operand.tmp 12], argTypes := #[23, 23] }, type := 23, pos := "outbox.go:46", after := #[{ on := 5, ground := Go.Ground.data }, { on := 5, ground := Go.Ground.chain }], guard := none }) rfl (fun K hK => ?_) AllReadyH.nil
  refine step_append_nts rfl (.const (.slice none 0 0)) (.tmp 12) rfl w.heap.size l rfl ⟨b, 2, none⟩ l.length rfl (fun j u hj => by rw [Addr.add_lit]; exact HX4.out.flat j u hj) HX4.out.len HB4.out.size ?_
  intro v5 w5 ho5 hg5
  obtain ⟨a5, c5, rfl, -⟩ := ho5.nr
  have hb5 : Below w4.heap.size w4 w5 := (Below.refl _ _).grown hg5 (Nat.le_refl _) (fun k hk => by cases hk)
  have HX5 := Lib.hid (HX4.out.below hb5)
  have HB5 := Lib.hid (HB4.out.trans (hb5.mono HB4.out.size))
  have HS5 := Lib.hid (ex_below HS4.out hb5)
  have HO5 : Hid (ON w5 w4.heap.size (.slice a5 l.length c5) l) := Lib.hid ho5
  have HBS4 : Hid (w.heap.size ≤ w4.heap.size) := Lib.hid HB4.out.size
  have HS5N : Hid (N < w4.heap.size) := Lib.hid (ex_lt HS4.out)
  have HS0' : Hid ((fun W : World => BX W b last l ∧ W.there N 0 2) w5) := Lib.hid ⟨HX5.out, there_new HS5.out⟩
  clear hb5 ho5 hg5 HX4 HB4 HS4 HS0
  have HS0 := HS0'
  clear HS0'
  refine hK.out _ _ HS0.out (fun hHeld => ?_)
  clear hK K hHeld
  try simp only [Act.put, List.setIfInBounds_toArray, List.set_cons_zero, List.set_cons_succ]
  refine wpAnyH_take (i := 7) (oi := { dst := some 14, op := Go.Op.build 25 #[(0, Go.Operand.tmp 10), (1, Go.Operand.tmp 13)], type := 25, pos := "outbox.go:46", after := #[{ on := 3, ground := Go.Ground.data }, { on := 6, ground := Go.Ground.data }], guard := none }) (v := .agg #[.int .u64 last, (.slice a5 l.length c5)]) rfl (by kernel_rfl) (by kernel_rfl) (by kernel_rfl) (fun _ _ _ h => h) (Or.inl ⟨by rfl, ?_⟩) HS0.out ?_
  case refine_1 => (intro w1 hS1; clear hS1; go_simp; try with_reducible rfl)
  try simp only [Act.put, List.setIfInBounds_toArray, List.set_cons_zero, List.set_cons_succ]
  refine wpAnyH_ready (rs := [8]) (by kernel_rfl) (by simp) ?_
  refine AllReadyH.cons (o := { dst := none, op := Go.Op.store 25 (Go.Operand.tmp 2) (Go.Operand.tmp 14), type := 0, pos := "outbox.go:46", after := #[{ on := 7, ground := Go.Ground.data }, { on := 6, ground := Go.Ground.chain }, { on := 0, ground := Go.Ground.phase }, { on := 1, ground := Go.Ground.phase }, { on := 2, ground := Go.Ground.phase }, { on := 3, ground := Go.Ground.phase }, { on := 4, ground := Go.Ground.phase }, { on := 5, ground := Go.Ground.phase }, { on := 6, ground := Go.Ground.phase }, { on := 7, ground := Go.Ground.phase }], guard := none }) rfl (fun K hK => ?_) AllReadyH.nil
  rw [if_pos (by rfl)]
  refine wp_store_mid 25 (.tmp 2) (.tmp 14) rfl N 0 #[.int .u64 last, (.slice a5 l.length c5)] rfl rfl HS0.out.2 st_info (one_v9 HO5.out) ?_
  rw [List.toList_toArray]
  generalize hW6 : w5.setCells N 0 [.int .u64 last, (.slice a5 l.length c5)] = w6
  have HW6 := Lib.hid hW6
  have HS0' : Hid ((fun W : World => BX W b last l ∧ W.there N 0 2) w6) := Lib.hid (by rw [← hW6]; exact ⟨HX5.out.kept (setCells_block (by have := HBL.out; omega) _ _ _), World.there_setCells HS0.out.2 _ _ _⟩)
  have HC6 : Hid (w6.rangeAt N 0 [.int .u64 last, (.slice a5 l.length c5)]) := Lib.hid (by rw [← hW6]; exact World.rangeAt_setCells_same w5 N 0 [.int .u64 last, (.slice a5 l.length c5)] HS0.out.2)
  have HB6 : Hid (Below w.heap.size w w6) := Lib.hid (by rw [← hW6]; exact below_cells HB5.out (by have := HN.out; omega) _ _)
  have HO6 : Hid (ON w6 w4.heap.size (.slice a5 l.length c5) l) := Lib.hid (by rw [← hW6]; exact HO5.out.far (fun g hg => by have h1 := (HO5.out.lt hg).1; have h2 := HS5N.out; omega) _ _)
  clear hW6 HS0
  have HS0 := HS0'
  clear HS0'
  refine hK.out _ _ HS0.out (fun hHeld => ?_)
  clear hK K hHeld
  try simp only [Act.put, List.setIfInBounds_toArray, List.set_cons_zero, List.set_cons_succ]
  refine wpAnyH_done (by kernel_rfl) ?_ _
  go_wp2_with fail
  refine bodyPost_ret (st_res rfl _ _ N last (.slice a5 l.length c5) rfl HC6.out) rfl ?_
  exact ⟨_, rfl, HO6.out.down HBS4.out, HB6.out⟩
end Go.Proofs.Ytnfpheccmjdpoaa
