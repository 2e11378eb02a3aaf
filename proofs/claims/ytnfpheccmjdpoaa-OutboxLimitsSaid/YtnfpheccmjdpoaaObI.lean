/- The outbox: what is dead is told. -/
import Derived.Test.YtnfpheccmjdpoaaObH
namespace Go.Proofs.Ytnfpheccmjdpoaa
open Go.RowKit
theorem u64_infoW : (Try.prog.info? 22).map (fun i => (i.zero, i.size, i.bytes)) = some (some (.int .u64 0), 1, 8) := by kernel_rfl
def uc (l : List Int) : List Value := l.map (Value.int .u64)
/-- A row of IDs of one's own. -/
def OU (w : World) (base : Nat) (v : Value) (l : List Int) : Prop := w.ownsRow base 22 1 v l.length (uc l)
theorem OU.nil (w : World) (base : Nat) : OU w base (.slice none 0 0) [] := ⟨rfl, .inl ⟨rfl, rfl⟩⟩
theorem OU.lt {w : World} {base : Nat} {v : Value} {l : List Int} (h : OU w base v l) {g : Nat} (hg : v.ownBlock = some g) : base ≤ g ∧ g < w.heap.size := World.ownsRow.lt h g hg
theorem OU.below {w w' : World} {base : Nat} {v : Value} {l : List Int} (h : OU w base v l) (hb : Below w.heap.size w w') : OU w' base v l := by
  refine ⟨h.1, ?_⟩
  have hl := fun g => OU.lt h (g := g)
  rcases h.2 with h2 | ⟨g, cap, cur, e, hg, hc, r⟩
  · exact .inl h2
  · exact .inr ⟨g, cap, cur, e, hg, (hb.block g (hl g (by rw [e]; rfl)).2).trans hc, r⟩
theorem OU.cells {w : World} {base : Nat} {v : Value} {l : List Int} (h : OU w base v l) : ∃ a c, v = .slice a l.length c ∧ ∀ k (hk : k < l.length), ∃ g, a = some ⟨g, 0, none⟩ ∧ w.cell? ⟨g, k, none⟩ = some (.int .u64 l[k]) := by
  have h' := h
  rcases h'.2 with ⟨rfl, h0⟩ | ⟨g, cap, cur, rfl, _, _, hc, _⟩
  · have e : l = [] := List.length_eq_zero_iff.1 h0
    subst e
    exact ⟨none, 0, rfl, fun k hk => (by simp at hk)⟩
  · refine ⟨_, _, rfl, fun k hk => ⟨g, rfl, ?_⟩⟩
    exact (World.ownsRow.cellAt h k (by omega)).trans (by unfold uc; rw [List.getElem?_map, List.getElem?_eq_getElem hk]; rfl)
/-- One ID more. -/
theorem append_u {w : World} {ops : Array Oper} {rest : List Oper} {o : Oper} {a : Act} {Q : Exit → Act → World → Prop} (hgd : o.guard = none) (s x : Operand)
    (ho : o.op = .call { callee := .builtin .append, args := #[s, x], argTypes := #[55, 55] })
    (base : Nat) (v : Value) (l : List Int) (z : Int) (p : Addr) (c : Nat) (hs : a.eval s = v) (hx : a.eval x = .slice (some p) 1 c) (hown : OU w base v l)
    (hR : w.cell? p = some (.int .u64 z)) (hlen : l.length + 1 ≤ 100000) (hbase : base ≤ w.heap.size)
    (h : ∀ v' w', OU w' base v' (l ++ [z]) → w.grownBy w' v.ownBlock → wpList Try.prog ops Q rest (a.put o.dst v') w') : wpList Try.prog ops Q (o :: rest) a w := by
  obtain ⟨i0, hi, hz0, hz1, hz2⟩ := info_parts3 u64_infoW
  refine wpList_append_own_at w hgd s x 55 ho base 22 i0 (.int .u64 0) 1 8 Try.underlying55 hi hz0 hz1 hz2 rfl (by decide) v l.length (uc l) hs hown p 1 c (uc [z]) hx (by simp [uc]) ?_
    (fun u hu => by obtain ⟨z, _, rfl⟩ := List.mem_map.1 hu; rfl) (by unfold maxLen; omega) (by omega) hbase ?_
  · intro j u hj
    have hlt := (List.getElem?_eq_some_iff.1 hj).1
    have h0 : j = 0 := by simpa [uc] using hlt
    subst h0
    simp [uc] at hj
    subst hj
    simpa [Addr.add] using hR
  · intro v' w' h1 h2 _ _
    exact h v' w' (by unfold OU; rw [List.length_append, show uc (l ++ [z]) = uc l ++ uc [z] from List.map_append]; exact h1) h2
theorem OU.blk {w w' : World} {base : Nat} {v : Value} {l : List Int} (h : OU w base v l) (e : ∀ g, base ≤ g → g < w.heap.size → w'.heap[g]? = w.heap[g]?) : OU w' base v l := by
  refine ⟨h.1, ?_⟩
  have hl := fun g => OU.lt h (g := g)
  rcases h.2 with h2 | ⟨g, cap, cur, e1, hg, hc, r⟩
  · exact .inl h2
  · exact .inr ⟨g, cap, cur, e1, hg, (e g hg (hl g (by rw [e1]; rfl)).2).trans hc, r⟩
theorem OU.down {w : World} {base b2 : Nat} {v : Value} {l : List Int} (h : OU w base v l) (e : b2 ≤ base) : OU w b2 v l := by
  refine ⟨h.1, ?_⟩
  rcases h.2 with h2 | ⟨g, cap, cur, e1, hg, r⟩
  · exact .inl h2
  · exact .inr ⟨g, cap, cur, e1, by omega, r⟩
theorem OI.cells2 {w : World} {base : Nat} {v : Value} {l : List Int} (h : OI w base v l) : ∃ a c, v = .slice a l.length c ∧ ∀ k (hk : k < l.length), ∃ g, a = some ⟨g, 0, none⟩ ∧ base ≤ g ∧ g < w.heap.size ∧ w.cell? ⟨g, k, none⟩ = some (.int .i64 l[k]) := by
  have hl := fun g => OI.lt h (g := g)
  obtain ⟨a, c, rfl, hc⟩ := h.cells
  refine ⟨a, c, rfl, fun k hk => ?_⟩
  obtain ⟨g, rfl, hg⟩ := hc k hk
  exact ⟨g, rfl, (hl g rfl).1, (hl g rfl).2, hg⟩
theorem Only.belowT {X : Nat → Prop} {w w1 w2 : World} (h : Only X w w1) (hb : Below w.heap.size w1 w2) : Only X w w2 := ⟨hb.os.trans h.os, hb.tape.trans h.tape, hb.output.trans h.output, Nat.le_trans h.size hb.size, fun k hk hx => (hb.block k hk).trans (h.block k hk hx)⟩
theorem wh_lt (q : Nt → Bool) : ∀ (l : List Nt) (s : Nat) (p : Int), p ∈ wh q s l → ∃ i : Nat, p = (i : Int) ∧ s ≤ i ∧ i < s + l.length
  | [], _, _, h => by simp [wh] at h
  | x :: r, s, p, h => by
    have ih := wh_lt q r (s + 1) p
    unfold wh at h
    split at h
    · rcases List.mem_cons.1 h with rfl | h
      · exact ⟨s, rfl, Nat.le_refl _, by simp⟩
      · obtain ⟨i, e, h1, h2⟩ := ih h
        exact ⟨i, e, by omega, by simp; omega⟩
    · obtain ⟨i, e, h1, h2⟩ := ih h
      exact ⟨i, e, by omega, by simp; omega⟩
def deadN (x : Nt) : Nt := ⟨x.id, x.tk, x.lv, x.pa, 3, x.tr, x.rt, x.wt, x.nx⟩
/-- One notice of a row is dead; those at some places are. -/
def tk1 (L : List Nt) (i : Nat) : List Nt := if h : i < L.length then L.set i (deadN L[i]) else L
def ticked (l : List Nt) (ps : List Int) : List Nt := ps.foldl (fun L p => tk1 L p.toNat) l
theorem tk1_len (L : List Nt) (i : Nat) : (tk1 L i).length = L.length := by
  unfold tk1
  split
  · rw [List.length_set]
  · rfl
theorem tk1_id (L : List Nt) (i j : Nat) : (tk1 L i)[j]?.map Nt.id = L[j]?.map Nt.id := by
  unfold tk1
  split
  · rename_i h
    by_cases e : i = j
    · subst e
      rw [List.getElem?_set_self h, List.getElem?_eq_getElem h]
      rfl
    · rw [List.getElem?_set_ne e]
  · rfl
theorem ticked_len : ∀ (ps : List Int) (l : List Nt), (ticked l ps).length = l.length
  | [], _ => rfl
  | p :: r, l => (ticked_len r (tk1 l p.toNat)).trans (tk1_len l _)
theorem ticked_id : ∀ (ps : List Int) (l : List Nt) (j : Nat), (ticked l ps)[j]?.map Nt.id = l[j]?.map Nt.id
  | [], _, _ => rfl
  | p :: r, l, j => (ticked_id r (tk1 l p.toNat) j).trans (tk1_id l _ j)
theorem ticked_take (l : List Nt) (ps : List Int) (k : Nat) (hk : k < ps.length) : ticked l (ps.take (k + 1)) = tk1 (ticked l (ps.take k)) ps[k].toNat := by
  rw [List.take_succ_eq_append_getElem hk]
  unfold ticked
  rw [List.foldl_append]
  rfl
def idAt (l : List Nt) (p : Int) : Int := (l[p.toNat]?.map Nt.id).getD 0
set_option maxRecDepth 100000 in
set_option maxHeartbeats 8000000 in
theorem tick_box (b : Nat) (last : Int) (l : List Nt) (now : Int) (w : World) (h : BX w b last l) (ps : List Int) (hps : wh (fun x => reaN now x && exhN x) 0 l = ps) : Calls Try.prog 23 #[.pointer (some ⟨b, 0, none⟩), .int .i64 now] w fun e w' => ∃ v, e = .returned v ∧ OU w' w.heap.size v (ps.map (idAt l)) ∧ BX w' b last (ticked l ps) ∧ OnlyB b w w' := by
  obtain ⟨B1, s0, -⟩ := box1 w #[.int .i64 now] 2
  have HX := Lib.hid (h.below B1)
  have HB := Lib.hid B1
  have HS := Lib.hid s0
  have HBL : Hid (b < w.heap.size) := Lib.hid h.lt
  have HLEN := Lib.hid h.len
  have HPS := Lib.hid hps
  have hmf : ∀ (fn : Fn) (first cap : Array Value) (w : World), (Instr.makeFunc fn first cap).run Try.prog w = .ok (.func fn first cap) w := fun _ _ _ _ => rfl
  clear h B1 s0 hps
  go_enter Try.func23, Try.ntmps23
  go_wp2_with fail
  obtain ⟨N, hN⟩ : ∃ N, w.heap.size = N := ⟨_, rfl⟩
  rw [hN] at HS
  try rw [hN]
  have HN := Lib.hid hN
  clear hN
  generalize w.alloc (.cells #[.int .i64 now] 2) = w1 at HX HB HS ⊢
  refine (all_box b last l w1 HX.out).mono ?_
  rintro e w2 ⟨rfl, hb⟩
  have HX2 := Lib.hid (HX.out.below hb)
  have HB2 := Lib.hid (HB.out.trans (hb.mono HB.out.size))
  have hc2 : w2.cell? ⟨N, 0, none⟩ = some (.int .i64 now) := by simp only [World.cell?, ex_below HS.out hb]; rfl
  have HC := Lib.hid (tick_cond N now w2 hc2)
  clear hb hc2 HX HB HS
  go_wp2_with fail
  refine (which_any _ _ _ _ _ l w2 HX2.out.nr HC.out (by have := HLEN.out; omega)).mono ?_
  rintro e w3 ⟨v, rfl, ho, hb⟩
  have HX3 := Lib.hid (HX2.out.below hb)
  have HB3 := Lib.hid (HB2.out.trans (hb.mono HB2.out.size))
  rw [HPS.out] at ho
  obtain ⟨a, c, rfl, hcs⟩ := ho.cells2
  have HP := Lib.hid hcs
  have HWL : Hid (ps.length ≤ 128) := Lib.hid (by have := wh_len (fun x => reaN now x && exhN x) l 0; rw [HPS.out] at this; have := HLEN.out; omega)
  have HIN : Hid (∀ p ∈ ps, ∃ i : Nat, p = (i : Int) ∧ i < l.length) := Lib.hid (fun p hp => by
    rw [← HPS.out] at hp
    obtain ⟨i, e, -, h2⟩ := wh_lt _ l 0 p hp
    exact ⟨i, e, by omega⟩)
  have HB23 : Hid (w.heap.size ≤ w2.heap.size ∧ w2.heap.size ≤ w3.heap.size) := Lib.hid ⟨HB2.out.size, hb.size⟩
  clear ho hb hcs HX2 HB2 HC
  go_wp2_with fail
  go_loopg [5, 15] ps.length (fun kx s5 s15 wr => ∃ (j : Nat) (v : Value), s5 = v ∧ s15 = .int .i64 (j : Int) ∧ j ≤ ps.length ∧ ps.length - j ≤ kx ∧ Hid (OU wr w3.heap.size v ((ps.take j).map (idAt l))) ∧ Hid (BX wr b last (ticked l (ps.take j))) ∧ Hid (OnlyB b w3 wr))
  case atStart => exact ⟨0, _, rfl, rfl, by omega, by omega, Lib.hid (OU.nil _ _), HX3, Lib.hid (Only.refl _ _)⟩
  case round =>
    obtain ⟨j, v, rfl, rfl, hj, hjx, HO, HX, HB⟩ := hrel
    by_cases hlt : j < ps.length
    · have hltz : (j : Int) < (ps.length : Int) := by omega
      have hj0 : (0 : Int) ≤ (j : Int) := by omega
      have hd : decide ((j : Int) < (ps.length : Int)) = true := decide_eq_true hltz
      obtain ⟨g, rfl, hg1, hg2, hg3⟩ := HP.out j hlt
      obtain ⟨i, hi, hil⟩ := HIN.out ps[j] (List.getElem_mem hlt)
      have hcp : wr.cell? ⟨g, j, none⟩ = some (.int .i64 (i : Int)) := by
        rw [← hi, ← hg3]
        exact HB.out.cell hg2 (by have := HB23.out; have := HBL.out; show ¬ g = b; omega)
      have hi0 : (0 : Int) ≤ (i : Int) := by omega
      have hiz : (i : Int) < (l.length : Int) := by omega
      have hiL : i < (ticked l (ps.take j)).length := by rw [ticked_len]; exact hil
      have hr := HX.out.row i hiL
      obtain ⟨y, hy⟩ : ∃ y, (ticked l (ps.take j))[i] = y := ⟨_, rfl⟩
      have hyid : y.id = idAt l (i : Int) := by
        have := ticked_id (ps.take j) l i
        rw [List.getElem?_eq_getElem hiL, hy] at this
        unfold idAt
        rw [Int.toNat_natCast, ← this]
        rfl
      rw [hy] at hr
      obtain ⟨q0, q1, q2, q3, q4, q5, q6, q7, q8⟩ := hr
      have hfr := HX.out.fr (2 + i * 9 + 4) (by have := HLEN.out; omega)
      have HT : Hid (ticked l (ps.take (j + 1)) = (ticked l (ps.take j)).set i (deadN y)) := Lib.hid (by
        rw [ticked_take l ps j hlt, hi, Int.toNat_natCast]
        unfold tk1
        rw [dif_pos hiL, hy])
      have HM : Hid ((ps.take (j + 1)).map (idAt l) = (ps.take j).map (idAt l) ++ [y.id]) := Lib.hid (by rw [List.take_succ_eq_append_getElem hlt, List.map_append, hi, hyid]; rfl)
      have hx1 := HX.out.turn hiL 4 (by omega) (.int .i64 3) (deadN y) (by rw [hy]; rfl)
      obtain ⟨W1, hW1⟩ : ∃ W1, wr.setCell ⟨b, 2 + i * 9 + 4, none⟩ (.int .i64 3) = W1 := ⟨_, rfl⟩
      have HW1 := Lib.hid hW1
      rw [hW1] at hx1
      have ho1 : OnlyB b w3 W1 := by rw [← hW1]; exact OnlyB.set HB.out _ [.int .i64 3]
      have hu1 : OU W1 w3.heap.size _ ((ps.take j).map (idAt l)) := HO.out.blk (w' := W1) (fun g hg _ => by rw [← hW1]; exact Below.heap_setCell _ _ _ _ (by have := HB23.out; have := HBL.out; show g ≠ b; omega))
      have qid : W1.cell? ⟨b, 2 + i * 9, none⟩ = some (.int .u64 y.id) := (hx1.atk hiL).1
      obtain ⟨B3, s3, -⟩ := box1 W1 #[.int .u64 y.id] 22
      have HX3a := Lib.hid (hx1.below B3)
      have HO3 := Lib.hid (Only.belowT ho1 (B3.mono ho1.size))
      have HU3 := Lib.hid (hu1.below B3)
      have HV3 : Hid ((W1.alloc (.cells #[.int .u64 y.id] 22)).cell? ⟨W1.heap.size, 0, none⟩ = some (.int .u64 y.id)) := Lib.hid (by simp only [World.cell?, s3]; rfl)
      have HLN : Hid (((ps.take j).map (idAt l)).length + 1 ≤ 100000) := Lib.hid (by have := HWL.out; rw [List.length_map, List.length_take]; omega)
      have hwj : wrap64 ((j : Int) + 1) = (j : Int) + 1 := IntWalk.wrap64_in _ (by have := HWL.out; omega)
      have HBS : Hid (w3.heap.size ≤ (W1.alloc (.cells #[.int .u64 y.id] 22)).heap.size) := Lib.hid HO3.out.size
      clear B3 s3 hx1 ho1 hu1 hyid hy HO HX HB hg1 hg2 hg3 hi HW1 qid
      subst hW1
      have hsz : (wr.setCell ⟨b, 2 + i * 9 + 4, none⟩ (.int .i64 3)).heap.size = wr.heap.size := by simp
      rw [hsz] at HV3
      clear hsz
      go_wp2_with (at_builtin; go_must (refine append_u rfl (.tmp 23) (.tmp 29) rfl w3.heap.size _ ((ps.take j).map (idAt l)) y.id ⟨wr.heap.size, 0, none⟩ 1 rfl rfl HU3.out HV3.out HLN.out HBS.out ?_); intro v4 w4 ho4 hg4; have HU4 := Lib.hid ho4; have HB4 := Lib.hid ((Below.refl w3.heap.size _).grown hg4 HBS.out (fun j hj => (HU3.out.lt hj).1)); clear ho4 hg4)
      have HX4 : Hid (BX w4 b last (ticked l (ps.take (j + 1)))) := Lib.hid (by rw [HT.out]; exact HX3a.out.kept (HB4.out.block b (by have := HB23.out; have := HBL.out; omega)))
      have HO4 : Hid (OnlyB b w3 w4) := Lib.hid (Only.belowT HO3.out HB4.out)
      have HU5 : Hid (OU w4 w3.heap.size v4 ((ps.take (j + 1)).map (idAt l))) := Lib.hid (by rw [HM.out]; exact HU4.out)
      go_roundg (ps.length - (j + 1))
      case measure => omega
      case rel => exact ⟨j + 1, _, rfl, by first | rfl | (rw [hwj]; rfl), by omega, by omega, HU5, HX4, HO4⟩
    · obtain rfl : j = ps.length := by omega
      have hd : decide ((ps.length : Int) < (ps.length : Int)) = false := decide_eq_false (by omega)
      go_wp2_with fail
      go_ret
      have h := HO.out
      have h2 := HX.out
      rw [List.take_length] at h h2
      exact ⟨_, rfl, h.down (by have := HB23.out; omega), h2, Only.trans (show OnlyB b w w3 from Only.below HB3.out) HB.out⟩
end Go.Proofs.Ytnfpheccmjdpoaa
