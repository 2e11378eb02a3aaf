/- The outbox: rows of places; which, IndexFunc. -/
import Derived.Test.YtnfpheccmjdpoaaObA
import Derived.Maps.AppendAt
import Derived.Deep.DeepMust
namespace Go.Proofs.Ytnfpheccmjdpoaa
open Go.RowKit
def ic (l : List Int) : List Value := l.map (Value.int .i64)
theorem int_infoW : (Try.prog.info? 3).map (fun i => (i.zero, i.size, i.bytes)) = some (some (.int .i64 0), 1, 8) := by kernel_rfl
theorem info_parts3 {t : TypeId} {z : Option Value} {n b : Nat} (h : (Try.prog.info? t).map (fun i => (i.zero, i.size, i.bytes)) = some (z, n, b)) : ∃ i, Try.prog.info? t = some i ∧ i.zero = z ∧ i.size = n ∧ i.bytes = b := by
  cases hi : Try.prog.info? t with
  | none => rw [hi] at h; cases h
  | some i =>
    rw [hi] at h
    simp only [Option.map_some, Option.some.injEq, Prod.mk.injEq] at h
    exact ⟨i, rfl, h.1, h.2.1, h.2.2⟩
/-- A row of integers of one's own. -/
def OI (w : World) (base : Nat) (v : Value) (l : List Int) : Prop := w.ownsRow base 3 1 v l.length (ic l)
theorem OI.nil (w : World) (base : Nat) : OI w base (.slice none 0 0) [] := ⟨rfl, .inl ⟨rfl, rfl⟩⟩
theorem OI.lt {w : World} {base : Nat} {v : Value} {l : List Int} (h : OI w base v l) {g : Nat} (hg : v.ownBlock = some g) : base ≤ g ∧ g < w.heap.size := World.ownsRow.lt h g hg
theorem OI.below {w w' : World} {base : Nat} {v : Value} {l : List Int} (h : OI w base v l) (hb : Below w.heap.size w w') : OI w' base v l := by
  refine ⟨h.1, ?_⟩
  have hl := fun g => OI.lt h (g := g)
  rcases h.2 with h2 | ⟨g, cap, cur, e, hg, hc, r⟩
  · exact .inl h2
  · exact .inr ⟨g, cap, cur, e, hg, (hb.block g (hl g (by rw [e]; rfl)).2).trans hc, r⟩
theorem OI.cells {w : World} {base : Nat} {v : Value} {l : List Int} (h : OI w base v l) : ∃ a c, v = .slice a l.length c ∧ ∀ k (hk : k < l.length), ∃ g, a = some ⟨g, 0, none⟩ ∧ w.cell? ⟨g, k, none⟩ = some (.int .i64 l[k]) := by
  have h' := h
  rcases h'.2 with ⟨rfl, h0⟩ | ⟨g, cap, cur, rfl, _, _, hc, _⟩
  · have e : l = [] := List.length_eq_zero_iff.1 h0
    subst e
    exact ⟨none, 0, rfl, fun k hk => (by simp at hk)⟩
  · refine ⟨_, _, rfl, fun k hk => ⟨g, rfl, ?_⟩⟩
    exact (World.ownsRow.cellAt h k (by omega)).trans (by unfold ic; rw [List.getElem?_map, List.getElem?_eq_getElem hk]; rfl)
/-- One place more. -/
theorem append_one {w : World} {ops : Array Oper} {rest : List Oper} {o : Oper} {a : Act} {Q : Exit → Act → World → Prop} (hgd : o.guard = none) (s x : Operand)
    (ho : o.op = .call { callee := .builtin .append, args := #[s, x], argTypes := #[97, 97] })
    (base : Nat) (v : Value) (l : List Int) (z : Int) (p : Addr) (c : Nat) (hs : a.eval s = v) (hx : a.eval x = .slice (some p) 1 c) (hown : OI w base v l)
    (hR : w.cell? p = some (.int .i64 z)) (hlen : l.length + 1 ≤ 100000) (hbase : base ≤ w.heap.size)
    (h : ∀ v' w', OI w' base v' (l ++ [z]) → w.grownBy w' v.ownBlock → wpList Try.prog ops Q rest (a.put o.dst v') w') : wpList Try.prog ops Q (o :: rest) a w := by
  obtain ⟨i0, hi, hz0, hz1, hz2⟩ := info_parts3 int_infoW
  refine wpList_append_own_at w hgd s x 97 ho base 3 i0 (.int .i64 0) 1 8 Try.underlying97 hi hz0 hz1 hz2 rfl (by decide) v l.length (ic l) hs hown p 1 c (ic [z]) hx (by simp [ic]) ?_
    (fun u hu => by obtain ⟨z, _, rfl⟩ := List.mem_map.1 hu; rfl) (by unfold maxLen; omega) (by omega) hbase ?_
  · intro j u hj
    have hlt := (List.getElem?_eq_some_iff.1 hj).1
    have h0 : j = 0 := by simpa [ic] using hlt
    subst h0
    simp [ic] at hj
    subst hj
    simpa [Addr.add] using hR
  · intro v' w' h1 h2 _ _
    exact h v' w' (by unfold OI; rw [List.length_append, show ic (l ++ [z]) = ic l ++ ic [z] from List.map_append]; exact h1) h2
/-- The places of those that hold. -/
def wh (q : Nt → Bool) : Nat → List Nt → List Int
  | _, [] => []
  | s, x :: r => if q x = true then (s : Int) :: wh q (s + 1) r else wh q (s + 1) r
theorem wh_snoc (q : Nt → Bool) (x : Nt) : ∀ (l : List Nt) (s : Nat), wh q s (l ++ [x]) = wh q s l ++ (if q x = true then [((s + l.length : Nat) : Int)] else [])
  | [], s => by
    simp only [List.nil_append, wh, List.length_nil, Nat.add_zero]
  | y :: r, s => by
    have ih := wh_snoc q x r (s + 1)
    have e : s + 1 + r.length = s + (r.length + 1) := by omega
    rw [e] at ih
    simp only [List.cons_append, wh, List.length_cons, ih]
    split <;> rfl
theorem wh_len (q : Nt → Bool) : ∀ (l : List Nt) (s : Nat), (wh q s l).length ≤ l.length
  | [], _ => Nat.le_refl _
  | x :: r, s => by
    have := wh_len q r (s + 1)
    unfold wh
    split <;> simp only [List.length_cons] <;> omega
theorem wh_take (q : Nt → Bool) (l : List Nt) (k : Nat) (hk : k < l.length) : wh q 0 (l.take (k + 1)) = wh q 0 (l.take k) ++ (if q l[k] = true then [(k : Int)] else []) := by
  rw [List.take_succ_eq_append_getElem hk, wh_snoc]
  have e : 0 + (l.take k).length = k := by rw [List.length_take]; omega
  rw [e]
set_option maxRecDepth 100000 in
set_option maxHeartbeats 8000000 in
theorem which_any (G : Nat) (cap : Array Value) (q : Nt → Bool) (a : Option Addr) (c : Nat) (l : List Nt) (w : World) (hR : NR w a l) (hC : Cond G cap q w) (hm : l.length ≤ 1000) :
    Calls Try.prog 45 #[.slice a l.length c, .func (.func G) #[] cap] w fun e w' => ∃ v, e = .returned v ∧ OI w' w.heap.size v (wh q 0 l) ∧ Below w.heap.size w w' := by
  have HR := Lib.hid hR
  have HC := Lib.hid hC
  have hent := hC.enter
  clear hR hC
  go_enter Try.func45, Try.ntmps45
  go_wp2
  go_loopg [5, 10] l.length (fun kx s5 s10 wr => ∃ (k : Nat) (v : Value), s5 = v ∧ s10 = .int .i64 (k : Int) ∧ k ≤ l.length ∧ l.length - k ≤ kx ∧ Hid (OI wr w.heap.size v (wh q 0 (l.take k))) ∧ Hid (Below w.heap.size w wr))
  case atStart => exact ⟨0, _, rfl, rfl, by omega, by omega, Lib.hid (OI.nil _ _), Lib.hid (Below.refl _ _)⟩
  case round =>
    obtain ⟨k, v, rfl, rfl, hk, hkx, HO, HB⟩ := hrel
    by_cases hlt : k < l.length
    · have hltz : (k : Int) < (l.length : Int) := by omega
      have hk0 : (0 : Int) ≤ (k : Int) := by omega
      have hd : decide ((k : Int) < (l.length : Int)) = true := decide_eq_true hltz
      obtain ⟨B, o, rfl, hx⟩ := (HR.out.below HB.out) k hlt
      have HX : Hid (l[k] = l[k]) := Lib.hid rfl
      have HW := Lib.hid (wh_take q l k hlt)
      obtain ⟨x, hxe⟩ : ∃ x, l[k] = x := ⟨_, rfl⟩
      rw [hxe] at hx HW
      obtain ⟨q0, q1, q2, q3, q4, q5, q6, q7, q8⟩ := hx
      have hcl := HC.out.calls x
      obtain ⟨B1, s0, -⟩ := box1 wr #[.int .u64 x.id, .int .u64 x.tk, .int .i64 x.lv, .int .i64 x.pa, .int .i64 x.st, .int .i64 x.tr, .int .i64 x.rt, .int .i64 x.wt, .int .i64 x.nx] 36
      obtain ⟨p0, p1, p2, p3, p4, p5, p6, p7, p8⟩ := nt_at0 s0
      have HB1 := Lib.hid (HB.out.trans (B1.mono HB.out.size))
      have HO1 := Lib.hid (HO.out.below B1)
      clear B1 s0 HX hxe
      go_wp2_with fail
      generalize wr.alloc (.cells #[.int .u64 x.id, .int .u64 x.tk, .int .i64 x.lv, .int .i64 x.pa, .int .i64 x.st, .int .i64 x.tr, .int .i64 x.rt, .int .i64 x.wt, .int .i64 x.nx] 36) = w1 at p0 p1 p2 p3 p4 p5 p6 p7 p8 HB1 HO1 ⊢
      refine (hcl w1 HB1.out).mono ?_
      rintro e w2 ⟨rfl, hb⟩
      have HB2 := Lib.hid (HB1.out.trans (hb.mono HB1.out.size))
      have HO2 := Lib.hid (HO1.out.below hb)
      have hkw : wrap64 ((k : Int) + 1) = (k : Int) + 1 := IntWalk.wrap64_in _ (by omega)
      obtain ⟨z, hz⟩ : ∃ z, q x = z := ⟨_, rfl⟩
      rw [hz] at HW ⊢
      clear hb q0 q1 q2 q3 q4 q5 q6 q7 q8 p0 p1 p2 p3 p4 p5 p6 p7 p8 hcl hz HO HB HB1 HO1
      cases z
      · have HOF : Hid (OI w2 w.heap.size u5 (wh q 0 (l.take (k + 1)))) := Lib.hid (by rw [HW.out]; simpa using HO2.out)
        go_wp2_with fail
        go_roundg (l.length - (k + 1))
        case measure => omega
        case rel => exact ⟨k + 1, _, rfl, by first | rfl | (rw [hkw]; rfl), by omega, by omega, HOF, HB2⟩
      · obtain ⟨B3, s3, -⟩ := box1 w2 #[.int .i64 (k : Int)] 3
        have HB3 := Lib.hid (HB2.out.trans (B3.mono HB2.out.size))
        have HO3 := Lib.hid (HO2.out.below B3)
        have HV3 : Hid ((w2.alloc (.cells #[.int .i64 (k : Int)] 3)).cell? ⟨w2.heap.size, 0, none⟩ = some (.int .i64 (k : Int))) := Lib.hid (by simp only [World.cell?, s3]; rfl)
        have hwl := wh_len q (l.take k) 0
        have HWL : Hid ((wh q 0 (l.take k)).length + 1 ≤ 100000) := Lib.hid (by rw [List.length_take] at hwl; omega)
        clear B3 s3 hwl
        go_wp2_with (at_builtin; go_must (refine append_one rfl (.tmp 18) (.tmp 20) rfl w.heap.size _ (wh q 0 (l.take k)) (k : Int) ⟨w2.heap.size, 0, none⟩ 1 rfl rfl HO3.out HV3.out HWL.out HB3.out.size ?_); intro v4 w4 ho4 hg4; have HO4 := Lib.hid ho4; have HB4 := Lib.hid (HB3.out.grown hg4 HB3.out.size (fun j hj => (HO3.out.lt hj).1)); clear ho4 hg4)
        have HOF : Hid (OI w4 w.heap.size v4 (wh q 0 (l.take (k + 1)))) := Lib.hid (by rw [HW.out]; simpa using HO4.out)
        go_roundg (l.length - (k + 1))
        case measure => omega
        case rel => exact ⟨k + 1, _, rfl, by first | rfl | (rw [hkw]; rfl), by omega, by omega, HOF, HB4⟩
    · obtain rfl : k = l.length := by omega
      have hd : decide ((l.length : Int) < (l.length : Int)) = false := decide_eq_false (by omega)
      go_wp2_with fail
      go_ret
      have h := HO.out
      rw [List.take_length] at h
      exact ⟨_, rfl, h, HB.out⟩
/-- Where the first is that holds. -/
def FirstN (q : Nt → Bool) (l : List Nt) (r : Int) : Prop := (∃ k : Nat, r = (k : Int) ∧ ∃ h : k < l.length, q l[k] = true ∧ ∀ x ∈ l.take k, q x = false) ∨ (r = -1 ∧ ∀ x ∈ l, q x = false)
set_option maxRecDepth 100000 in
set_option maxHeartbeats 8000000 in
theorem index_any (G : Nat) (cap : Array Value) (q : Nt → Bool) (a : Option Addr) (c : Nat) (l : List Nt) (w : World) (hR : NR w a l) (hC : Cond G cap q w) (hm : l.length ≤ 1000) :
    Calls Try.prog 56 #[.slice a l.length c, .func (.func G) #[] cap] w fun e w' => ∃ r, e = .returned (.int .i64 r) ∧ FirstN q l r ∧ Below w.heap.size w w' := by
  have HR := Lib.hid hR
  have HC := Lib.hid hC
  have hent := hC.enter
  clear hR hC
  go_enter Try.func56, Try.ntmps56
  go_wp2
  go_loopg [5, 8] l.length (fun kx s5 s8 wr => ∃ k : Nat, s8 = .int .i64 (k : Int) ∧ k ≤ l.length ∧ l.length - k ≤ kx ∧ Hid (∀ x ∈ l.take k, q x = false) ∧ Hid (Below w.heap.size w wr))
  case atStart => exact ⟨0, rfl, by omega, by omega, Lib.hid (by simp), Lib.hid (Below.refl _ _)⟩
  case round =>
    obtain ⟨k, rfl, hk, hkx, HN, HB⟩ := hrel
    by_cases hlt : k < l.length
    · have hltz : (k : Int) < (l.length : Int) := by omega
      have hk0 : (0 : Int) ≤ (k : Int) := by omega
      have hd : decide ((k : Int) < (l.length : Int)) = true := decide_eq_true hltz
      have hkw : wrap64 ((k : Int) + 1) = (k : Int) + 1 := IntWalk.wrap64_in _ (by omega)
      obtain ⟨B, o, rfl, hx⟩ := (HR.out.below HB.out) k hlt
      have HX : Hid (l.take (k + 1) = l.take k ++ [l[k]]) := Lib.hid (List.take_succ_eq_append_getElem hlt)
      obtain ⟨x, hxe⟩ : ∃ x, l[k] = x := ⟨_, rfl⟩
      rw [hxe] at hx HX
      have HXE := Lib.hid hxe
      obtain ⟨q0, q1, q2, q3, q4, q5, q6, q7, q8⟩ := hx
      have hcl := HC.out.calls x
      clear hxe
      go_wp2_with fail
      refine (hcl wr HB.out).mono ?_
      rintro e w2 ⟨rfl, hb⟩
      have HB2 := Lib.hid (HB.out.trans (hb.mono HB.out.size))
      obtain ⟨z, hz⟩ : ∃ z, q x = z := ⟨_, rfl⟩
      have HZ := Lib.hid hz
      rw [hz]
      clear hb q0 q1 q2 q3 q4 q5 q6 q7 q8 hcl hz HB
      cases z
      · go_wp2_with fail
        go_roundg (l.length - (k + 1))
        case measure => omega
        case rel => exact ⟨k + 1, by first | rfl | (rw [hkw]; rfl), by omega, by omega, Lib.hid (fun y hy => by
          rw [HX.out] at hy
          rcases List.mem_append.1 hy with h | h
          · exact HN.out y h
          · rw [List.mem_singleton.1 h]; exact HZ.out), HB2⟩
      · go_wp2_with fail
        go_ret
        exact ⟨_, rfl, .inl ⟨k, rfl, hlt, by rw [HXE.out]; exact HZ.out, HN.out⟩, HB2.out⟩
    · obtain rfl : k = l.length := by omega
      have hd : decide ((l.length : Int) < (l.length : Int)) = false := decide_eq_false (by omega)
      go_wp2_with fail
      go_ret
      have h := HN.out
      rw [List.take_length] at h
      exact ⟨_, rfl, .inr ⟨rfl, h⟩, HB.out⟩
end Go.Proofs.Ytnfpheccmjdpoaa
