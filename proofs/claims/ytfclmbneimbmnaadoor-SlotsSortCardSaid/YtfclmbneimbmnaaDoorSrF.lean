/- The walk of SlotsSort. -/
import Derived.Test.YtfclmbneimbmnaaDoorSrE
import Derived.Test.YtfclmbneimbmnaaDoorSrG
import Derived.Test.YtfclmbneimbmnaaDoorRgG
import Derived.Deep.RegionHeld3
namespace Go.Proofs.YtfclmbneimbmnaaDoor
open Go.RowKit

/-- Things as the reference's. -/
def plR' (l : List Th) : List Rt := l.map fun t => (t, 0)

/-- append(a row of things of one's own, a row from any address). -/
theorem append_tsA {w : World} {ops : Array Oper} {rest : List Oper} {o : Oper} {a : Act} {Q : Exit → Act → World → Prop} (hgd : o.guard = none) (s x : Operand)
    (ho : o.op = .call { callee := .builtin .append, args := #[s, x], argTypes := #[22, 22] })
    (base : Nat) (v : Value) (l m : List Th) (p : Addr) (n : Nat) (c : Nat) (hs : a.eval s = v) (hn : n = m.length) (hx : a.eval x = .slice (some p) n c) (hown : OT w base v l)
    (hR : ∀ j u, (thc m)[j]? = some u → w.cell? (p.add j) = some u) (hlen : l.length + m.length ≤ 100000) (hbase : base ≤ w.heap.size)
    (h : ∀ v' w', OT w' base v' (l ++ m) → w.grownBy w' v.ownBlock → (v'.ownBlock = v.ownBlock ∨ v'.ownBlock = some w.heap.size) → wpList Tryd.prog ops Q rest (a.put o.dst v') w') : wpList Tryd.prog ops Q (o :: rest) a w := by
  subst hn
  obtain ⟨i0, hi, hz0, hz1, hz2⟩ := info_parts th_info
  refine wpList_append_own_at w hgd s x 22 ho base 27 i0 (.agg #[.int .u64 0, .int .u64 0, .int .i64 0]) 3 24 Tryd.underlying22 hi hz0 hz1 hz2 rfl (by decide) v l.length (thc l) hs hown p m.length c (thc m) hx (thc_len m) hR
    (thc_one m) (by unfold maxLen; omega) (by omega) hbase ?_
  intro v' w' h1 h2 _ h4
  exact h v' w' (by unfold OT; rw [List.length_append, thc_append]; exact h1) h2 h4
theorem append_tsX {w : World} {ops : Array Oper} {rest : List Oper} {o : Oper} {a : Act} {Q : Exit → Act → World → Prop} (hgd : o.guard = none) (s x : Operand)
    (ho : o.op = .call { callee := .builtin .append, args := #[s, x], argTypes := #[22, 22] })
    (base : Nat) (v : Value) (l m : List Th) (p : Option Addr) (n : Nat) (c : Nat) (hs : a.eval s = v) (hn : n = m.length) (hx : a.eval x = .slice p n c) (hown : OT w base v l)
    (hR : ∀ q, p = some q → ∀ j u, (thc m)[j]? = some u → w.cell? (q.add j) = some u) (hN : p = none → m = [] ∧ c = 0) (hlen : l.length + m.length ≤ 100000) (hbase : base ≤ w.heap.size)
    (h : ∀ v' w', OT w' base v' (l ++ m) → Only (fun k => v.ownBlock = some k) w w' → (v'.ownBlock = v.ownBlock ∨ v'.ownBlock = some w.heap.size) → wpList Tryd.prog ops Q rest (a.put o.dst v') w') : wpList Tryd.prog ops Q (o :: rest) a w := by
  cases p with
  | some p => exact append_tsA hgd s x ho base v l m p n c hs hn hx hown (hR p rfl) hlen hbase fun v' w' h1 h2 h3 => h v' w' h1 (grown_only h2 _ fun k hk => hk) h3
  | none =>
    obtain ⟨rfl, rfl⟩ := hN rfl
    subst hn
    obtain ⟨i0, hi, hz0, hz1, hz2⟩ := info_parts th_info
    exact wpList_append_own_none hgd s x 22 ho base 27 i0 3 Tryd.underlying22 hi v l.length (thc l) hs hown hx (h v w (by rw [List.append_nil]; exact hown) (Only.refl _ _) (.inl rfl))

set_option maxRecDepth 100000 in
set_option maxHeartbeats 4000000 in
theorem sort_walk_big (a : Option Addr) (c n : Nat) (w : World) (hT : Tab w) (hm : 200 < n) : Calls Tryd.prog 3 #[.slice a n c] w fun e w' => e = .returned (.bool true) ∧ Below w.heap.size w w' := by
  have hl := lives11 w hT
  have hd : decide (200 < (n : Int)) = true := decide_eq_true (by omega)
  have hd1 : decide ((n : Int) > 200) = true := decide_eq_true (by omega)
  go_enter Tryd.func3, Tryd.ntmps3
  go_wp2_with (go_at_call 15; with_reducible refine hl.mono ?_; rintro e w1 ⟨rfl, hB1⟩; have HB1 := Lib.hid hB1; clear hB1)
  go_ret
  exact ⟨rfl, HB1.out⟩

set_option maxRecDepth 100000 in
set_option maxHeartbeats 8000000 in
theorem sort_walk_ok (a : Option Addr) (c : Nat) (l : List Th) (w : World) (hT : Tab w) (hR : TS w a l) (hN0 : a = none → l = [] ∧ c = 0) (hm : l.length ≤ 200) : Calls Tryd.prog 3 #[.slice a l.length c] w fun e w' => e = .returned (.bool true) ∧ Below w.heap.size w w' := by
  have hl := fun w1 (h : Below w.heap.size w w1) => lives11 w1 (hT.below h)
  have HL := Lib.hid hl
  have mixed := insTh.mixed
  have HR := Lib.hid hR
  have HN0 := Lib.hid hN0
  have hd : decide (200 < (l.length : Int)) = false := decide_eq_false (by omega)
  have hd1 : decide ((l.length : Int) > 200) = false := decide_eq_false (by omega)
  clear hl hT hR hN0
  go_enter Tryd.func3, Tryd.ntmps3
  go_wp2_with fail
  go_loopg [3, 4, 5, 13] l.length (fun kx s3 s4 s5 s13 wr => ∃ (k : Nat) (va : Option Addr) (vc : Nat), s3 = .slice va k vc ∧ (∃ v4 v5 : Value, s4 = v4 ∧ s5 = v5) ∧ s13 = .int .i64 k ∧ k ≤ l.length ∧ l.length - k ≤ kx ∧ Hid (OR wr w.heap.size (.slice va k vc) (plR' (l.take k))) ∧ Hid (Below w.heap.size w wr))
  case atStart => exact ⟨0, none, 0, rfl, ⟨_, _, rfl, rfl⟩, rfl, by omega, by omega, OR.nil _ _, Below.refl _ _⟩
  case round =>
    obtain ⟨k, va, vc, rfl, ⟨v4, v5, rfl, rfl⟩, rfl, hk, hkx, HO, HB⟩ := hrel
    by_cases hlt : k < l.length
    · have hltz : (k : Int) < (l.length : Int) := by omega
      have hk0 : (0 : Int) ≤ (k : Int) := by omega
      obtain ⟨B, o, rfl, c0, c1, c2⟩ := (HR.out.below HB.out) k hlt
      obtain ⟨x, hx⟩ : ∃ x, (l[k]).1 = x := ⟨_, rfl⟩
      obtain ⟨y, hy⟩ : ∃ y, (l[k]).2.1 = y := ⟨_, rfl⟩
      obtain ⟨z, hz⟩ : ∃ z, (l[k]).2.2 = z := ⟨_, rfl⟩
      have HK : Hid (l[k] = (x, y, z)) := by rw [← hx, ← hy, ← hz]; exact Lib.hid rfl
      rw [hx] at c0
      rw [hy] at c1
      rw [hz] at c2
      clear hx hy hz
      have hp := fun w => plain_any x y z w
      have hsw : w.heap.size ≤ wr.heap.size := HB.out.size
      go_wp2_with fail
      have b1 : Below wr.heap.size wr (wr.alloc (.cells #[.int .u64 x, .int .u64 y, .int .i64 z] 27)) := (Below.refl _ _).alloc (Nat.le_refl _) _
      obtain ⟨T, hTe⟩ : ∃ T, wr.heap.size = T := ⟨_, rfl⟩
      have t0 : (wr.alloc (.cells #[.int .u64 x, .int .u64 y, .int .i64 z] 27)).cell? ⟨T, 0, none⟩ = some (.int .u64 x) := World.cell?_alloc_at _ _ _ _ hTe.symm
      have t1 : (wr.alloc (.cells #[.int .u64 x, .int .u64 y, .int .i64 z] 27)).cell? ⟨T, 1, none⟩ = some (.int .u64 y) := World.cell?_alloc_at _ _ _ _ hTe.symm
      have t2 : (wr.alloc (.cells #[.int .u64 x, .int .u64 y, .int .i64 z] 27)).cell? ⟨T, 2, none⟩ = some (.int .i64 z) := World.cell?_alloc_at _ _ _ _ hTe.symm
      have hTs : T < (wr.alloc (.cells #[.int .u64 x, .int .u64 y, .int .i64 z] 27)).heap.size := by simp; omega
      have hOa := HO.out.keep b1
      have hvo : ∀ g, (Value.slice va k vc).ownBlock = some g → g < T := fun g hg => by have := (HO.out.own_lt hg).2; omega
      rw [hTe] at b1 hsw ⊢
      have HB1 : Hid (Below w.heap.size w (wr.alloc (.cells #[.int .u64 x, .int .u64 y, .int .i64 z] 27))) := Lib.hid (HB.out.trans (b1.mono hsw))
      generalize wr.alloc (.cells #[.int .u64 x, .int .u64 y, .int .i64 z] 27) = wa at t0 t1 t2 hTs hOa HB1 b1 ⊢
      clear b1 c0 c1 c2
      have HT := Lib.hid (And.intro t0 (And.intro t1 (And.intro t2 (And.intro hTs (And.intro hOa hvo)))))
      clear t0 t1 t2 hTs hOa hvo
      refine (hp wa).mono ?_
      rintro e w1 ⟨rfl, hb1⟩
      have HBa := Lib.hid hb1
      clear hb1 hp
      have HN : Hid (Below w1.heap.size w1 (w1.alloc (.cells #[.int .u64 x, .int .u64 y, .int .i64 z, .int .i64 0] 29)) ∧ RS (w1.alloc (.cells #[.int .u64 x, .int .u64 y, .int .i64 z, .int .i64 0] 29)) (some ⟨w1.heap.size, 0, none⟩) [((x, y, z), 0)]) := Lib.hid ⟨(Below.refl _ _).alloc (Nat.le_refl _) _, RS.one (World.cell?_alloc_at _ _ _ _ rfl) (World.cell?_alloc_at _ _ _ _ rfl) (World.cell?_alloc_at _ _ _ _ rfl) (World.cell?_alloc_at _ _ _ _ rfl)⟩
      have HO1 := Lib.hid ((HT.out.2.2.2.2.1.keep HBa.out).keep HN.out.1)
      have hpk : (plR' (l.take k)).length = k := by simp [plR']; omega
      have HPK := Lib.hid hpk
      clear hpk
      go_wp2_with (at_builtin; refine append_rtG rfl (.tmp 18) (.tmp 21) rfl w.heap.size (.slice va k vc) (plR' (l.take k)) [((x, y, z), 0)] w1.heap.size 0 1 1 rfl rfl rfl HO1.out HN.out.2 (by rw [HPK.out]; simp; omega) (by have := HB1.out.size; have := HBa.out.size; have := HN.out.1.size; omega) ?_; intro v2 w2 hO2 hg2 hob; have HO2 := Lib.hid hO2; have HG2 := Lib.hid hg2; have HOB := Lib.hid hob; clear hO2 hg2 hob)
      have hpl2 : plR' (l.take k) ++ [((x, y, z), 0)] = plR' (l.take (k + 1)) := by
        rw [List.take_add_one, List.getElem?_eq_getElem hlt, HK.out]; simp [plR']
      rw [hpl2] at HO2
      have hl2 : (plR' (l.take (k + 1))).length = k + 1 := by simp [plR']; omega
      obtain ⟨a2, c2, rfl, _, hRS2, _⟩ := HO2.out.shape
      rw [hl2] at HO2 ⊢
      have o2 : Only (fun g => (Value.slice va k vc).ownBlock = some g) (w1.alloc (.cells #[.int .u64 x, .int .u64 y, .int .i64 z, .int .i64 0] 29)) w2 := grown_only HG2.out _ (fun k hk => hk)
      have hsz1 : (w1.alloc (.cells #[.int .u64 x, .int .u64 y, .int .i64 z, .int .i64 0] 29)).heap.size = w1.heap.size + 1 := by simp
      have hTl : T < w1.heap.size := Nat.lt_of_lt_of_le HT.out.2.2.2.1 HBa.out.size
      have bT : ∀ j, w2.cell? ⟨T, j, none⟩ = wa.cell? ⟨T, j, none⟩ := fun j => by
        rw [o2.cell (p := ⟨T, j, none⟩) (by show T < _; omega) (fun h => by have := HT.out.2.2.2.2.2 T h; omega)]
        rw [HN.out.1.cell (p := ⟨T, j, none⟩) hTl]
        exact HBa.out.cell (p := ⟨T, j, none⟩) HT.out.2.2.2.1
      have HB2 : Hid (Below w.heap.size w w2) := Lib.hid (by
        have h1 := (HB1.out.trans (HBa.out.mono HB1.out.size)).trans (HN.out.1.mono (by have := HB1.out.size; have := HBa.out.size; omega))
        exact h1.trans (o2.toBelow h1.size (fun g hg => (HO1.out.own_lt hg).1)))
      have d0 := (bT 0).trans HT.out.1
      have d1 := (bT 1).trans HT.out.2.1
      have d2 := (bT 2).trans HT.out.2.2.1
      have hTw2 : T < w2.heap.size := by have := o2.size; omega
      clear bT o2
      have hgo : ∀ (wz : World), Below w2.heap.size w2 wz → Hid (OR wz w.heap.size (.slice a2 (k + 1) c2) (plR' (l.take (k + 1)))) ∧ Hid (Below w.heap.size w wz) := fun wz hb => ⟨Lib.hid (HO2.out.keep hb), Lib.hid (HB2.out.trans (hb.mono HB2.out.size))⟩
      have HGO := Lib.hid hgo
      clear hgo HN HO1 HBa HB1 HT HG2 HOB
      by_cases hk00 : k = 0
      · subst hk00
        have hz0 : decide ((0 : Int) > 0) = false := by decide
        have hz1 : decide (((0 : Nat) : Int) > 0) = false := by decide
        clear d0 d1 d2 hRS2
        go_wp2_with fail
        go_big_region_o
        go_wp2
        go_roundg (l.length - 1)
        case measure => omega
        case rel => exact ⟨1, a2, c2, rfl, ⟨_, _, rfl, rfl⟩, by go_num, by omega, by omega, (HGO.out _ (Below.refl _ _).drew).1, (HGO.out _ (Below.refl _ _).drew).2⟩
      · obtain ⟨k', hkk⟩ : ∃ k', k = k' + 1 := ⟨k - 1, by omega⟩
        obtain ⟨g, rfl⟩ : ∃ g, a2 = some ⟨g, 0, none⟩ := by
          rcases HO2.out.addr with ⟨_, h0, _⟩ | h
          · rw [h0] at hl2; simp at hl2
          · exact h
        have hk'l : k' < l.length := by omega
        obtain ⟨_, _, eB, c0', c1', c2'⟩ := (HR.out.below HB2.out) k' hk'l
        injection eB with eB
        injection eB with eB1 eB2
        subst eB1 eB2
        obtain ⟨_, _, eG, g0, g1, g2, g3⟩ := hRS2 k' (by omega)
        injection eG with eG
        injection eG with eG1 eG2
        subst eG1 eG2
        obtain ⟨_, _, eG, f0, f1, f2, f3⟩ := hRS2 k (by omega)
        injection eG with eG
        injection eG with eG1 eG2
        subst eG1 eG2
        have ek : (plR' (l.take (k + 1)))[k']'(by omega) = (l[k'], 0) := by simp [plR']
        have ek1 : (plR' (l.take (k + 1)))[k]'(by omega) = ((x, y, z), 0) := by simp [plR', HK.out]
        rw [ek] at g0 g1 g2 g3
        rw [ek1] at f0 f1 f2 f3
        obtain ⟨p1, hp1⟩ : ∃ p, (l[k']).1 = p := ⟨_, rfl⟩
        obtain ⟨p2, hp2⟩ : ∃ p, (l[k']).2.1 = p := ⟨_, rfl⟩
        obtain ⟨p3, hp3⟩ : ∃ p, (l[k']).2.2 = p := ⟨_, rfl⟩
        simp only [hp1, hp2, hp3, Nat.zero_add] at c0' c1' c2' g0 g1 g2 g3 f0 f1 f2 f3
        have hS : Hid (∀ W, Below w2.heap.size w2 W → W.cell? ⟨B, o + k' * 3, none⟩ = some (.int .u64 p1) ∧ W.cell? ⟨B, o + k' * 3 + 1, none⟩ = some (.int .u64 p2) ∧ W.cell? ⟨B, o + k' * 3 + 2, none⟩ = some (.int .i64 p3) ∧ W.cell? ⟨T, 0, none⟩ = some (.int .u64 x) ∧ W.cell? ⟨T, 1, none⟩ = some (.int .u64 y) ∧ W.cell? ⟨T, 2, none⟩ = some (.int .i64 z) ∧ W.cell? ⟨g, k' * 4, none⟩ = some (.int .u64 p1) ∧ W.cell? ⟨g, k' * 4 + 1, none⟩ = some (.int .u64 p2) ∧ W.cell? ⟨g, k' * 4 + 2, none⟩ = some (.int .i64 p3) ∧ W.cell? ⟨g, k' * 4 + 3, none⟩ = some (.int .i64 0) ∧ W.cell? ⟨g, k * 4, none⟩ = some (.int .u64 x) ∧ W.cell? ⟨g, k * 4 + 1, none⟩ = some (.int .u64 y) ∧ W.cell? ⟨g, k * 4 + 2, none⟩ = some (.int .i64 z) ∧ W.cell? ⟨g, k * 4 + 3, none⟩ = some (.int .i64 0) ∧ Below w2.heap.size w2 W) := Lib.hid (fun W hb =>
          have hBl : B < w2.heap.size := by have := cell_lt c0'; exact this
          have hgl : g < w2.heap.size := by have := cell_lt g0; exact this
          ⟨(hb.cell (p := ⟨B, _, none⟩) hBl).trans c0', (hb.cell (p := ⟨B, _, none⟩) hBl).trans c1', (hb.cell (p := ⟨B, _, none⟩) hBl).trans c2', (hb.cell (p := ⟨T, _, none⟩) hTw2).trans d0, (hb.cell (p := ⟨T, _, none⟩) hTw2).trans d1, (hb.cell (p := ⟨T, _, none⟩) hTw2).trans d2, (hb.cell (p := ⟨g, _, none⟩) hgl).trans g0, (hb.cell (p := ⟨g, _, none⟩) hgl).trans g1, (hb.cell (p := ⟨g, _, none⟩) hgl).trans g2, (hb.cell (p := ⟨g, _, none⟩) hgl).trans g3, (hb.cell (p := ⟨g, _, none⟩) hgl).trans f0, (hb.cell (p := ⟨g, _, none⟩) hgl).trans f1, (hb.cell (p := ⟨g, _, none⟩) hgl).trans f2, (hb.cell (p := ⟨g, _, none⟩) hgl).trans f3, hb⟩)
        obtain ⟨b1, hb1⟩ : ∃ b, ltT (p1, p2, p3) (x, y, z) = b := ⟨_, rfl⟩
        obtain ⟨b2, hb2⟩ : ∃ b, ltT (x, y, z) (p1, p2, p3) = b := ⟨_, rfl⟩
        have HP1 : Hid (∀ W, Below w2.heap.size w2 W → Calls Tryd.prog 17 #[.agg #[.int .u64 p1, .int .u64 p2, .int .i64 p3], .agg #[.int .u64 x, .int .u64 y, .int .i64 z]] W fun e w' => e = .returned (.bool b1) ∧ Below w2.heap.size w2 w') := Lib.hid (fun W hb => (before_any p1 p2 p3 x y z W).mono fun e w' ⟨h1, h2⟩ => ⟨by rw [h1, hb1], hb.trans (h2.mono hb.size)⟩)
        have HP2 : Hid (∀ W, Below w2.heap.size w2 W → Calls Tryd.prog 17 #[.agg #[.int .u64 x, .int .u64 y, .int .i64 z], .agg #[.int .u64 p1, .int .u64 p2, .int .i64 p3]] W fun e w' => e = .returned (.bool b2) ∧ Below w2.heap.size w2 w') := Lib.hid (fun W hb => (before_any x y z p1 p2 p3 W).mono fun e w' ⟨h1, h2⟩ => ⟨by rw [h1, hb2], hb.trans (h2.mono hb.size)⟩)
        have HQ1 : Hid (∀ W, Below w2.heap.size w2 W → Calls Tryd.prog 18 #[.agg #[.int .u64 p1, .int .u64 p2, .int .i64 p3, .int .i64 0], .agg #[.int .u64 x, .int .u64 y, .int .i64 z, .int .i64 0]] W fun e w' => e = .returned (.bool b1) ∧ Below w2.heap.size w2 w') := Lib.hid (fun W hb => (rbefore_any p1 p2 p3 0 x y z 0 W).mono fun e w' ⟨h1, h2⟩ => ⟨by rw [h1, hb1], hb.trans (h2.mono hb.size)⟩)
        have HQ2 : Hid (∀ W, Below w2.heap.size w2 W → Calls Tryd.prog 18 #[.agg #[.int .u64 x, .int .u64 y, .int .i64 z, .int .i64 0], .agg #[.int .u64 p1, .int .u64 p2, .int .i64 p3, .int .i64 0]] W fun e w' => e = .returned (.bool b2) ∧ Below w2.heap.size w2 w') := Lib.hid (fun W hb => (rbefore_any x y z 0 p1 p2 p3 0 W).mono fun e w' ⟨h1, h2⟩ => ⟨by rw [h1, hb2], hb.trans (h2.mono hb.size)⟩)
        clear hb1 hb2 c0' c1' c2' d0 d1 d2 g0 g1 g2 g3 f0 f1 f2 f3 hp1 hp2 hp3 ek ek1 hRS2
        have hqd : decide ((k : Int) > 0) = true := decide_eq_true (by omega)
        have hqd2 : decide (0 < k) = true := decide_eq_true (by omega)
        have hqw : IntKind.i64.wrap ((k : Int) - 1) = (k' : Int) := by rw [IntKind.wrap_i64]; omega
        have hq0' : (0 : Int) ≤ (k' : Int) := by omega
        have hqL : (k' : Int) < (l.length : Int) := by omega
        have hqL2 : (k' : Int) < ((k + 1 : Nat) : Int) := by omega
        have hqL3 : (k : Int) < ((k + 1 : Nat) : Int) := by omega
        have h0 : w2.drew.cell? ⟨B, o + k' * 3, none⟩ = some (.int .u64 p1) ∧ w2.drew.cell? ⟨B, o + k' * 3 + 1, none⟩ = some (.int .u64 p2) ∧ w2.drew.cell? ⟨B, o + k' * 3 + 2, none⟩ = some (.int .i64 p3) ∧ w2.drew.cell? ⟨T, 0, none⟩ = some (.int .u64 x) ∧ w2.drew.cell? ⟨T, 1, none⟩ = some (.int .u64 y) ∧ w2.drew.cell? ⟨T, 2, none⟩ = some (.int .i64 z) ∧ w2.drew.cell? ⟨g, k' * 4, none⟩ = some (.int .u64 p1) ∧ w2.drew.cell? ⟨g, k' * 4 + 1, none⟩ = some (.int .u64 p2) ∧ w2.drew.cell? ⟨g, k' * 4 + 2, none⟩ = some (.int .i64 p3) ∧ w2.drew.cell? ⟨g, k' * 4 + 3, none⟩ = some (.int .i64 0) ∧ w2.drew.cell? ⟨g, k * 4, none⟩ = some (.int .u64 x) ∧ w2.drew.cell? ⟨g, k * 4 + 1, none⟩ = some (.int .u64 y) ∧ w2.drew.cell? ⟨g, k * 4 + 2, none⟩ = some (.int .i64 z) ∧ w2.drew.cell? ⟨g, k * 4 + 3, none⟩ = some (.int .i64 0) ∧ Below w2.heap.size w2 w2.drew := hS.out _ (Below.refl _ _).drew
        have HKK := Lib.hid hkk
        have hqL4 : (k' : Int) < (k : Int) + 1 := by omega
        have hqL5 : (k : Int) < (k : Int) + 1 := by omega
        clear hkk
        go_wp2_with fail
        refine wp_region_held_drew (S := (fun w' => w'.cell? ⟨B, o + k' * 3, none⟩ = some (.int .u64 p1) ∧ w'.cell? ⟨B, o + k' * 3 + 1, none⟩ = some (.int .u64 p2) ∧ w'.cell? ⟨B, o + k' * 3 + 2, none⟩ = some (.int .i64 p3) ∧ w'.cell? ⟨T, 0, none⟩ = some (.int .u64 x) ∧ w'.cell? ⟨T, 1, none⟩ = some (.int .u64 y) ∧ w'.cell? ⟨T, 2, none⟩ = some (.int .i64 z) ∧ w'.cell? ⟨g, k' * 4, none⟩ = some (.int .u64 p1) ∧ w'.cell? ⟨g, k' * 4 + 1, none⟩ = some (.int .u64 p2) ∧ w'.cell? ⟨g, k' * 4 + 2, none⟩ = some (.int .i64 p3) ∧ w'.cell? ⟨g, k' * 4 + 3, none⟩ = some (.int .i64 0) ∧ w'.cell? ⟨g, k * 4, none⟩ = some (.int .u64 x) ∧ w'.cell? ⟨g, k * 4 + 1, none⟩ = some (.int .u64 y) ∧ w'.cell? ⟨g, k * 4 + 2, none⟩ = some (.int .i64 z) ∧ w'.cell? ⟨g, k * 4 + 3, none⟩ = some (.int .i64 0) ∧ Below w2.heap.size w2 w')) (by kernel_rfl) h0 (fun hHeld => ?_)
        refine wpAnyH_take (i := 0) (v := ?_) rfl (by kernel_rfl) (by kernel_rfl) (by kernel_rfl) (fun _ _ _ h => h) (Or.inl ⟨by rfl, ?_⟩) (by assumption) ?_
        case refine_2 => (intro w1 hS1; (try dsimp only at hS1); go_simp; try with_reducible rfl)
        try simp only [List.getElem_toArray, List.getElem_cons_zero, List.getElem_cons_succ, Act.put, List.setIfInBounds_toArray, List.set_cons_zero, List.set_cons_succ]
        refine wpAnyH_take (i := 1) (v := ?_) rfl (by kernel_rfl) (by kernel_rfl) (by kernel_rfl) (fun _ _ _ h => h) (Or.inl ⟨by rfl, ?_⟩) (by assumption) ?_
        case refine_2 => (intro w1 hS1; (try dsimp only at hS1); go_simp; try with_reducible rfl)
        try simp only [List.getElem_toArray, List.getElem_cons_zero, List.getElem_cons_succ, Act.put, List.setIfInBounds_toArray, List.set_cons_zero, List.set_cons_succ]
        refine wpAnyH_take (i := 2) (v := ?_) rfl (by kernel_rfl) (by kernel_rfl) (by kernel_rfl) (fun _ _ _ h => h) (Or.inl ⟨by rfl, ?_⟩) (by assumption) ?_
        case refine_2 => (intro w1 hS1; (try dsimp only at hS1); go_simp; try with_reducible rfl)
        try simp only [List.getElem_toArray, List.getElem_cons_zero, List.getElem_cons_succ, Act.put, List.setIfInBounds_toArray, List.set_cons_zero, List.set_cons_succ]
        refine wpAnyH_take (i := 3) (v := ?_) rfl (by kernel_rfl) (by kernel_rfl) (by kernel_rfl) (fun _ _ _ h => h) (Or.inl ⟨by rfl, ?_⟩) (by assumption) ?_
        case refine_2 => (intro w1 hS1; (try dsimp only at hS1); go_simp; try with_reducible rfl)
        try simp only [List.getElem_toArray, List.getElem_cons_zero, List.getElem_cons_succ, Act.put, List.setIfInBounds_toArray, List.set_cons_zero, List.set_cons_succ]
        refine wpAnyH_take (i := 4) (v := ?_) rfl (by kernel_rfl) (by kernel_rfl) (by kernel_rfl) (fun _ _ _ h => h) (Or.inl ⟨by rfl, ?_⟩) (by assumption) ?_
        case refine_2 => (intro w1 hS1; (try dsimp only at hS1); go_simp; try with_reducible rfl)
        try simp only [List.getElem_toArray, List.getElem_cons_zero, List.getElem_cons_succ, Act.put, List.setIfInBounds_toArray, List.set_cons_zero, List.set_cons_succ]
        refine wpAnyH_take (i := 5) (v := ?_) rfl (by kernel_rfl) (by kernel_rfl) (by kernel_rfl) (fun _ _ _ h => h) (Or.inl ⟨by rfl, ?_⟩) (by assumption) ?_
        case refine_2 => (intro w1 hS1; (try dsimp only at hS1); go_simp; try with_reducible rfl)
        try simp only [List.getElem_toArray, List.getElem_cons_zero, List.getElem_cons_succ, Act.put, List.setIfInBounds_toArray, List.set_cons_zero, List.set_cons_succ]
        refine wpAnyH_take (i := 6) (v := ?_) rfl (by kernel_rfl) (by kernel_rfl) (by kernel_rfl) (fun _ _ _ h => h) (Or.inl ⟨by rfl, ?_⟩) (by assumption) ?_
        case refine_2 => (intro w1 hS1; (try dsimp only at hS1); go_simp; try with_reducible rfl)
        try simp only [List.getElem_toArray, List.getElem_cons_zero, List.getElem_cons_succ, Act.put, List.setIfInBounds_toArray, List.set_cons_zero, List.set_cons_succ]
        refine wpAnyH_take (i := 7) (v := ?_) rfl (by kernel_rfl) (by kernel_rfl) (by kernel_rfl) (fun _ _ _ h => h) (Or.inl ⟨by rfl, ?_⟩) (by assumption) ?_
        case refine_2 => (intro w1 hS1; (try dsimp only at hS1); go_simp; try with_reducible rfl)
        try simp only [List.getElem_toArray, List.getElem_cons_zero, List.getElem_cons_succ, Act.put, List.setIfInBounds_toArray, List.set_cons_zero, List.set_cons_succ]
        refine wpAnyH_take (i := 8) (v := ?_) rfl (by kernel_rfl) (by kernel_rfl) (by kernel_rfl) (fun _ _ _ h => h) (Or.inl ⟨by rfl, ?_⟩) (by assumption) ?_
        case refine_2 => (intro w1 hS1; (try dsimp only at hS1); go_simp; try with_reducible rfl)
        try simp only [List.getElem_toArray, List.getElem_cons_zero, List.getElem_cons_succ, Act.put, List.setIfInBounds_toArray, List.set_cons_zero, List.set_cons_succ]
        refine wpAnyH_take (i := 10) (v := ?_) rfl (by kernel_rfl) (by kernel_rfl) (by kernel_rfl) (fun _ _ _ h => h) (Or.inl ⟨by rfl, ?_⟩) (by assumption) ?_
        case refine_2 => (intro w1 hS1; (try dsimp only at hS1); go_simp; try with_reducible rfl)
        try simp only [List.getElem_toArray, List.getElem_cons_zero, List.getElem_cons_succ, Act.put, List.setIfInBounds_toArray, List.set_cons_zero, List.set_cons_succ]
        refine wpAnyH_take (i := 11) (v := ?_) rfl (by kernel_rfl) (by kernel_rfl) (by kernel_rfl) (fun _ _ _ h => h) (Or.inl ⟨by rfl, ?_⟩) (by assumption) ?_
        case refine_2 => (intro w1 hS1; (try dsimp only at hS1); go_simp; try with_reducible rfl)
        try simp only [List.getElem_toArray, List.getElem_cons_zero, List.getElem_cons_succ, Act.put, List.setIfInBounds_toArray, List.set_cons_zero, List.set_cons_succ]
        refine wpAnyH_take (i := 12) (v := ?_) rfl (by kernel_rfl) (by kernel_rfl) (by kernel_rfl) (fun _ _ _ h => h) (Or.inl ⟨by rfl, ?_⟩) (by assumption) ?_
        case refine_2 => (intro w1 hS1; (try dsimp only at hS1); go_simp; try with_reducible rfl)
        try simp only [List.getElem_toArray, List.getElem_cons_zero, List.getElem_cons_succ, Act.put, List.setIfInBounds_toArray, List.set_cons_zero, List.set_cons_succ]
        refine wpAnyH_take (i := 13) (v := ?_) rfl (by kernel_rfl) (by kernel_rfl) (by kernel_rfl) (fun _ _ _ h => h) (Or.inl ⟨by rfl, ?_⟩) (by assumption) ?_
        case refine_2 => (intro w1 hS1; (try dsimp only at hS1); go_simp; try with_reducible rfl)
        try simp only [List.getElem_toArray, List.getElem_cons_zero, List.getElem_cons_succ, Act.put, List.setIfInBounds_toArray, List.set_cons_zero, List.set_cons_succ]
        refine wpAnyH_take (i := 14) (v := ?_) rfl (by kernel_rfl) (by kernel_rfl) (by kernel_rfl) (fun _ _ _ h => h) (Or.inl ⟨by rfl, ?_⟩) (by assumption) ?_
        case refine_2 => (intro w1 hS1; (try dsimp only at hS1); go_simp; try with_reducible rfl)
        try simp only [List.getElem_toArray, List.getElem_cons_zero, List.getElem_cons_succ, Act.put, List.setIfInBounds_toArray, List.set_cons_zero, List.set_cons_succ]
        refine wpAnyH_take (i := 15) (v := ?_) rfl (by kernel_rfl) (by kernel_rfl) (by kernel_rfl) (fun _ _ _ h => h) (Or.inl ⟨by rfl, ?_⟩) (by assumption) ?_
        case refine_2 => (intro w1 hS1; (try dsimp only at hS1); go_simp; try with_reducible rfl)
        try simp only [List.getElem_toArray, List.getElem_cons_zero, List.getElem_cons_succ, Act.put, List.setIfInBounds_toArray, List.set_cons_zero, List.set_cons_succ]
        refine wpAnyH_take (i := 16) (v := ?_) rfl (by kernel_rfl) (by kernel_rfl) (by kernel_rfl) (fun _ _ _ h => h) (Or.inl ⟨by rfl, ?_⟩) (by assumption) ?_
        case refine_2 => (intro w1 hS1; (try dsimp only at hS1); go_simp; try with_reducible rfl)
        try simp only [List.getElem_toArray, List.getElem_cons_zero, List.getElem_cons_succ, Act.put, List.setIfInBounds_toArray, List.set_cons_zero, List.set_cons_succ]
        refine wpAnyH_take (i := 17) (v := ?_) rfl (by kernel_rfl) (by kernel_rfl) (by kernel_rfl) (fun _ _ _ h => h) (Or.inl ⟨by rfl, ?_⟩) (by assumption) ?_
        case refine_2 => (intro w1 hS1; (try dsimp only at hS1); go_simp; try with_reducible rfl)
        try simp only [List.getElem_toArray, List.getElem_cons_zero, List.getElem_cons_succ, Act.put, List.setIfInBounds_toArray, List.set_cons_zero, List.set_cons_succ]
        refine wpAnyH_take (i := 18) (v := ?_) rfl (by kernel_rfl) (by kernel_rfl) (by kernel_rfl) (fun _ _ _ h => h) (Or.inl ⟨by rfl, ?_⟩) (by assumption) ?_
        case refine_2 => (intro w1 hS1; (try dsimp only at hS1); go_simp; try with_reducible rfl)
        try simp only [List.getElem_toArray, List.getElem_cons_zero, List.getElem_cons_succ, Act.put, List.setIfInBounds_toArray, List.set_cons_zero, List.set_cons_succ]
        refine wpAnyH_ready (rs := [9]) (by kernel_rfl) (by simp) ?_
        refine AllReadyH.cons rfl (fun K hK => ?_) AllReadyH.nil
        go_simp
        refine (HP1.out _ (hHeld.2.2.2.2.2.2.2.2.2.2.2.2.2.2)).mono ?_
        rintro e w3 ⟨rfl, hb3⟩
        have hS3 := hS.out _ hb3
        clear hb3
        refine hK.out _ _ (by assumption) (fun hHeld => ?_)
        clear hK K
        try simp only [List.getElem_toArray, List.getElem_cons_zero, List.getElem_cons_succ, Act.put, List.setIfInBounds_toArray, List.set_cons_zero, List.set_cons_succ]
        refine wpAnyH_ready (rs := [19]) (by kernel_rfl) (by simp) ?_
        refine AllReadyH.cons rfl (fun K hK => ?_) AllReadyH.nil
        go_simp
        refine (HQ1.out _ (hHeld.2.2.2.2.2.2.2.2.2.2.2.2.2.2)).mono ?_
        rintro e w4 ⟨rfl, hb4⟩
        have hS4 := hS.out _ hb4
        clear hb4
        refine hK.out _ _ (by assumption) (fun hHeld => ?_)
        clear hK K
        try simp only [List.getElem_toArray, List.getElem_cons_zero, List.getElem_cons_succ, Act.put, List.setIfInBounds_toArray, List.set_cons_zero, List.set_cons_succ]
        refine wpAnyH_take (i := 20) (v := ?_) rfl (by kernel_rfl) (by kernel_rfl) (by kernel_rfl) (fun _ _ _ h => h) (Or.inl ⟨by rfl, ?_⟩) (by assumption) ?_
        case refine_2 => (intro w1 hS1; (try dsimp only at hS1); go_simp; try with_reducible rfl)
        try simp only [List.getElem_toArray, List.getElem_cons_zero, List.getElem_cons_succ, Act.put, List.setIfInBounds_toArray, List.set_cons_zero, List.set_cons_succ]
        refine wpAnyH_take (i := 21) (v := ?_) rfl (by kernel_rfl) (by kernel_rfl) (by kernel_rfl) (fun _ _ _ h => h) (Or.inl ⟨by rfl, ?_⟩) (by assumption) ?_
        case refine_2 => (intro w1 hS1; (try dsimp only at hS1); go_simp; try with_reducible rfl)
        try simp only [List.getElem_toArray, List.getElem_cons_zero, List.getElem_cons_succ, Act.put, List.setIfInBounds_toArray, List.set_cons_zero, List.set_cons_succ]
        refine wpAnyH_take (i := 22) (v := ?_) rfl (by kernel_rfl) (by kernel_rfl) (by kernel_rfl) (fun _ _ _ h => h) (Or.inl ⟨by rfl, ?_⟩) (by assumption) ?_
        case refine_2 => (intro w1 hS1; (try dsimp only at hS1); go_simp; try with_reducible rfl)
        try simp only [List.getElem_toArray, List.getElem_cons_zero, List.getElem_cons_succ, Act.put, List.setIfInBounds_toArray, List.set_cons_zero, List.set_cons_succ]
        refine wpAnyH_take (i := 23) (v := ?_) rfl (by kernel_rfl) (by kernel_rfl) (by kernel_rfl) (fun _ _ _ h => h) (Or.inl ⟨by rfl, ?_⟩) (by assumption) ?_
        case refine_2 => (intro w1 hS1; (try dsimp only at hS1); go_simp; try with_reducible rfl)
        try simp only [List.getElem_toArray, List.getElem_cons_zero, List.getElem_cons_succ, Act.put, List.setIfInBounds_toArray, List.set_cons_zero, List.set_cons_succ]
        refine wpAnyH_take (i := 24) (v := ?_) rfl (by kernel_rfl) (by kernel_rfl) (by kernel_rfl) (fun _ _ _ h => h) (Or.inl ⟨by rfl, ?_⟩) (by assumption) ?_
        case refine_2 => (intro w1 hS1; (try dsimp only at hS1); go_simp; try with_reducible rfl)
        try simp only [List.getElem_toArray, List.getElem_cons_zero, List.getElem_cons_succ, Act.put, List.setIfInBounds_toArray, List.set_cons_zero, List.set_cons_succ]
        refine wpAnyH_take (i := 25) (v := ?_) rfl (by kernel_rfl) (by kernel_rfl) (by kernel_rfl) (fun _ _ _ h => h) (Or.inl ⟨by rfl, ?_⟩) (by assumption) ?_
        case refine_2 => (intro w1 hS1; (try dsimp only at hS1); go_simp; try with_reducible rfl)
        try simp only [List.getElem_toArray, List.getElem_cons_zero, List.getElem_cons_succ, Act.put, List.setIfInBounds_toArray, List.set_cons_zero, List.set_cons_succ]
        refine wpAnyH_take (i := 26) (v := ?_) rfl (by kernel_rfl) (by kernel_rfl) (by kernel_rfl) (fun _ _ _ h => h) (Or.inl ⟨by rfl, ?_⟩) (by assumption) ?_
        case refine_2 => (intro w1 hS1; (try dsimp only at hS1); go_simp; try with_reducible rfl)
        try simp only [List.getElem_toArray, List.getElem_cons_zero, List.getElem_cons_succ, Act.put, List.setIfInBounds_toArray, List.set_cons_zero, List.set_cons_succ]
        refine wpAnyH_take (i := 27) (v := ?_) rfl (by kernel_rfl) (by kernel_rfl) (by kernel_rfl) (fun _ _ _ h => h) (Or.inl ⟨by rfl, ?_⟩) (by assumption) ?_
        case refine_2 => (intro w1 hS1; (try dsimp only at hS1); go_simp; try with_reducible rfl)
        try simp only [List.getElem_toArray, List.getElem_cons_zero, List.getElem_cons_succ, Act.put, List.setIfInBounds_toArray, List.set_cons_zero, List.set_cons_succ]
        refine wpAnyH_take (i := 29) (v := ?_) rfl (by kernel_rfl) (by kernel_rfl) (by kernel_rfl) (fun _ _ _ h => h) (Or.inl ⟨by rfl, ?_⟩) (by assumption) ?_
        case refine_2 => (intro w1 hS1; (try dsimp only at hS1); go_simp; try with_reducible rfl)
        try simp only [List.getElem_toArray, List.getElem_cons_zero, List.getElem_cons_succ, Act.put, List.setIfInBounds_toArray, List.set_cons_zero, List.set_cons_succ]
        refine wpAnyH_take (i := 30) (v := ?_) rfl (by kernel_rfl) (by kernel_rfl) (by kernel_rfl) (fun _ _ _ h => h) (Or.inl ⟨by rfl, ?_⟩) (by assumption) ?_
        case refine_2 => (intro w1 hS1; (try dsimp only at hS1); go_simp; try with_reducible rfl)
        try simp only [List.getElem_toArray, List.getElem_cons_zero, List.getElem_cons_succ, Act.put, List.setIfInBounds_toArray, List.set_cons_zero, List.set_cons_succ]
        refine wpAnyH_take (i := 31) (v := ?_) rfl (by kernel_rfl) (by kernel_rfl) (by kernel_rfl) (fun _ _ _ h => h) (Or.inl ⟨by rfl, ?_⟩) (by assumption) ?_
        case refine_2 => (intro w1 hS1; (try dsimp only at hS1); go_simp; try with_reducible rfl)
        try simp only [List.getElem_toArray, List.getElem_cons_zero, List.getElem_cons_succ, Act.put, List.setIfInBounds_toArray, List.set_cons_zero, List.set_cons_succ]
        refine wpAnyH_take (i := 32) (v := ?_) rfl (by kernel_rfl) (by kernel_rfl) (by kernel_rfl) (fun _ _ _ h => h) (Or.inl ⟨by rfl, ?_⟩) (by assumption) ?_
        case refine_2 => (intro w1 hS1; (try dsimp only at hS1); go_simp; try with_reducible rfl)
        try simp only [List.getElem_toArray, List.getElem_cons_zero, List.getElem_cons_succ, Act.put, List.setIfInBounds_toArray, List.set_cons_zero, List.set_cons_succ]
        refine wpAnyH_take (i := 33) (v := ?_) rfl (by kernel_rfl) (by kernel_rfl) (by kernel_rfl) (fun _ _ _ h => h) (Or.inl ⟨by rfl, ?_⟩) (by assumption) ?_
        case refine_2 => (intro w1 hS1; (try dsimp only at hS1); go_simp; try with_reducible rfl)
        try simp only [List.getElem_toArray, List.getElem_cons_zero, List.getElem_cons_succ, Act.put, List.setIfInBounds_toArray, List.set_cons_zero, List.set_cons_succ]
        refine wpAnyH_take (i := 34) (v := ?_) rfl (by kernel_rfl) (by kernel_rfl) (by kernel_rfl) (fun _ _ _ h => h) (Or.inl ⟨by rfl, ?_⟩) (by assumption) ?_
        case refine_2 => (intro w1 hS1; (try dsimp only at hS1); go_simp; try with_reducible rfl)
        try simp only [List.getElem_toArray, List.getElem_cons_zero, List.getElem_cons_succ, Act.put, List.setIfInBounds_toArray, List.set_cons_zero, List.set_cons_succ]
        refine wpAnyH_take (i := 35) (v := ?_) rfl (by kernel_rfl) (by kernel_rfl) (by kernel_rfl) (fun _ _ _ h => h) (Or.inl ⟨by rfl, ?_⟩) (by assumption) ?_
        case refine_2 => (intro w1 hS1; (try dsimp only at hS1); go_simp; try with_reducible rfl)
        try simp only [List.getElem_toArray, List.getElem_cons_zero, List.getElem_cons_succ, Act.put, List.setIfInBounds_toArray, List.set_cons_zero, List.set_cons_succ]
        refine wpAnyH_take (i := 36) (v := ?_) rfl (by kernel_rfl) (by kernel_rfl) (by kernel_rfl) (fun _ _ _ h => h) (Or.inl ⟨by rfl, ?_⟩) (by assumption) ?_
        case refine_2 => (intro w1 hS1; (try dsimp only at hS1); go_simp; try with_reducible rfl)
        try simp only [List.getElem_toArray, List.getElem_cons_zero, List.getElem_cons_succ, Act.put, List.setIfInBounds_toArray, List.set_cons_zero, List.set_cons_succ]
        refine wpAnyH_take (i := 37) (v := ?_) rfl (by kernel_rfl) (by kernel_rfl) (by kernel_rfl) (fun _ _ _ h => h) (Or.inl ⟨by rfl, ?_⟩) (by assumption) ?_
        case refine_2 => (intro w1 hS1; (try dsimp only at hS1); go_simp; try with_reducible rfl)
        try simp only [List.getElem_toArray, List.getElem_cons_zero, List.getElem_cons_succ, Act.put, List.setIfInBounds_toArray, List.set_cons_zero, List.set_cons_succ]
        refine wpAnyH_ready (rs := [28]) (by kernel_rfl) (by simp) ?_
        refine AllReadyH.cons rfl (fun K hK => ?_) AllReadyH.nil
        go_simp
        refine (HP2.out _ (hHeld.2.2.2.2.2.2.2.2.2.2.2.2.2.2)).mono ?_
        rintro e w5 ⟨rfl, hb5⟩
        have hS5 := hS.out _ hb5
        clear hb5
        refine hK.out _ _ (by assumption) (fun hHeld => ?_)
        clear hK K
        try simp only [List.getElem_toArray, List.getElem_cons_zero, List.getElem_cons_succ, Act.put, List.setIfInBounds_toArray, List.set_cons_zero, List.set_cons_succ]
        refine wpAnyH_ready (rs := [38]) (by kernel_rfl) (by simp) ?_
        refine AllReadyH.cons rfl (fun K hK => ?_) AllReadyH.nil
        go_simp
        refine (HQ2.out _ (hHeld.2.2.2.2.2.2.2.2.2.2.2.2.2.2)).mono ?_
        rintro e w6 ⟨rfl, hb6⟩
        have hS6 := hS.out _ hb6
        clear hb6
        refine hK.out _ _ (by assumption) (fun hHeld => ?_)
        clear hK K
        try simp only [List.getElem_toArray, List.getElem_cons_zero, List.getElem_cons_succ, Act.put, List.setIfInBounds_toArray, List.set_cons_zero, List.set_cons_succ]
        refine wpAnyH_take (i := 39) (v := ?_) rfl (by kernel_rfl) (by kernel_rfl) (by kernel_rfl) (fun _ _ _ h => h) (Or.inl ⟨by rfl, ?_⟩) (by assumption) ?_
        case refine_2 => (intro w1 hS1; (try dsimp only at hS1); go_simp; try with_reducible rfl)
        try simp only [List.getElem_toArray, List.getElem_cons_zero, List.getElem_cons_succ, Act.put, List.setIfInBounds_toArray, List.set_cons_zero, List.set_cons_succ]
        refine wpAnyH_take (i := 40) (v := ?_) rfl (by kernel_rfl) (by kernel_rfl) (by kernel_rfl) (fun _ _ _ h => h) (Or.inl ⟨by rfl, ?_⟩) (by assumption) ?_
        case refine_2 => (intro w1 hS1; (try dsimp only at hS1); go_simp; try with_reducible rfl)
        try simp only [List.getElem_toArray, List.getElem_cons_zero, List.getElem_cons_succ, Act.put, List.setIfInBounds_toArray, List.set_cons_zero, List.set_cons_succ]
        refine wpAnyH_take (i := 41) (v := ?_) rfl (by kernel_rfl) (by kernel_rfl) (by kernel_rfl) (fun _ _ _ h => h) (Or.inl ⟨by rfl, ?_⟩) (by assumption) ?_
        case refine_2 => (intro w1 hS1; (try dsimp only at hS1); go_simp; try with_reducible rfl)
        try simp only [List.getElem_toArray, List.getElem_cons_zero, List.getElem_cons_succ, Act.put, List.setIfInBounds_toArray, List.set_cons_zero, List.set_cons_succ]
        refine wpAnyH_done (by kernel_rfl) ?_ _

        have HZ := HGO.out _ (hS6.2.2.2.2.2.2.2.2.2.2.2.2.2.2)
        clear hS3 hS4 hS5 hS6 h0 hS
        go_wp2_with fail
        go_roundg (l.length - (k + 1))
        case measure => omega
        case rel => exact ⟨k + 1, _, c2, rfl, ⟨_, _, rfl, rfl⟩, by go_num, by omega, by omega, HZ.1, HZ.2⟩
    · have hltz : ¬ (k : Int) < (l.length : Int) := by omega
      have HNW : Hid (∀ p, a = some p → ∀ j u, (thc l)[j]? = some u → (wr.alloc (.cells #[] 27)).cell? (p.add j) = some u) := Lib.hid (by
        rintro p rfl j u hj
        have hR' := (HR.out.below HB.out).below ((Below.refl wr.heap.size wr).alloc (Nat.le_refl _) (.cells #[] 27))
        cases l with
        | nil => simp [thc] at hj
        | cons t l' =>
          obtain ⟨B, o, e, _⟩ := hR' 0 (by simp)
          injection e with e
          subst e
          exact hR'.news j u hj)

      obtain rfl : k = l.length := by omega
      rw [List.take_length] at HO
      have hEm := OT.empty wr wr.heap.size (Nat.le_refl _)
      have bE : Below wr.heap.size wr (wr.alloc (.cells #[] 27)) := (Below.refl _ _).alloc (Nat.le_refl _) _
      have HE := Lib.hid (And.intro hEm bE)
      have HRE := Lib.hid ((HR.out.below HB.out).below bE)
      clear hEm bE
      obtain ⟨L, hL⟩ : ∃ L, srt ltT zT l = L := ⟨_, rfl⟩
      obtain ⟨LR, hLR⟩ : ∃ L, srt ltR zR (plR' l) = L := ⟨_, rfl⟩
      have HLL : Hid (L.length = l.length ∧ LR.length = l.length ∧ LR.map (·.1) = L ∧ (plR' l).length = l.length) := Lib.hid ⟨by rw [← hL, srtT_len], by rw [← hLR, srt_len]; simp [plR'], by rw [← hLR, ← hL, srt_map]; simp [plR', Function.comp_def], by simp [plR']⟩
      have HE1 := Lib.hid hL
      have HE2 := Lib.hid hLR
      clear hL hLR
      go_wp2_with (at_builtin; refine append_tsX rfl (.tmp 66) (.tmp 67) rfl wr.heap.size (.slice (some ⟨wr.heap.size, 0, none⟩) 0 0) [] l a l.length c rfl rfl rfl HE.out.1 HNW.out HN0.out (by simp; omega) HE.out.2.size ?_; rw [List.nil_append]; intro v3 w3 hO3 hg3 hob3)
      obtain ⟨a3, c3, rfl⟩ := hO3.shape
      have b3 : Below wr.heap.size wr w3 := HE.out.2.trans (hg3.toBelow HE.out.2.size (fun k hk => Nat.le_of_eq (by simpa [Value.ownBlock] using hk)))
      have HO3 := Lib.hid (And.intro hO3 b3)
      clear hO3 hg3 hob3 b3
      have hso := sort_any w3 HO3.out.1 (by omega)
      go_wp2_with (go_at_call 19; with_reducible refine hso.mono ?_; rintro e w4 ⟨rfl, hO4, ho4⟩; have HO4 := Lib.hid (And.intro hO4 ho4); clear hO4 ho4 hso)
      have b4 : Below wr.heap.size wr w4 := HO3.out.2.trans (HO4.out.2.toBelow HO3.out.2.size (fun k hk => World.ownsRow.lt HO3.out.1 k hk |>.1))
      obtain ⟨_, _, ev, _, hRS4, _⟩ := (HO.out.keep b4).shape
      rw [HLL.out.2.2.2] at ev
      injection ev with ev1 _ ev3
      subst ev1 ev3
      have hso2 := sorted_any va vc (plR' l) w4 hRS4 (by rw [HLL.out.2.2.2]; omega)
      rw [HLL.out.2.2.2] at hso2
      have HB4 := Lib.hid b4
      clear b4 hRS4
      go_wp2_with (go_at_call 21; with_reducible refine hso2.mono ?_; rintro e w5 ⟨v5, rfl, hO5, hb5⟩; have HO5 := Lib.hid (And.intro hO5 hb5); clear hO5 hb5 hso2)
      obtain ⟨a5, c5, rfl, _, hRS5, _⟩ := HO5.out.1.shape
      have hO4' := HO4.out.1.below HO5.out.2
      rw [HE1.out] at hO4'
      obtain ⟨_, _, ev, hTS5⟩ := hO4'.reads
      rw [HLL.out.1] at ev
      injection ev with ev1 _ ev3
      subst ev1 ev3
      rw [HE2.out] at hRS5 ⊢
      have hsm := same_yes a3 a5 c3 c5 L LR w5 hTS5 hRS5 HLL.out.2.2.1 (by unfold maxLen; have := HLL.out.1; omega)
      rw [HLL.out.1, HLL.out.2.1] at hsm
      rw [HLL.out.2.1]
      have HB5 := Lib.hid (HB.out.trans ((HB4.out.trans (HO5.out.2.mono HB4.out.size)).mono HB.out.size))
      clear hTS5 hRS5 hO4'
      go_wp2_with (first
        | (go_at_call 20; with_reducible refine hsm.mono ?_; rintro e w6 ⟨rfl, hb6⟩; have HB6 := Lib.hid (HB5.out.trans (hb6.mono HB5.out.size)); clear hb6 hsm; have hlv := HL.out w6 HB6.out)
        | (go_at_call 15; with_reducible refine hlv.mono ?_; rintro e w7 ⟨rfl, hb7⟩; have HB7 := Lib.hid (HB6.out.trans (hb7.mono HB6.out.size)); clear hb7 hlv))
      go_ret
      exact ⟨rfl, HB7.out⟩

theorem sort_walk (a : Option Addr) (n c : Nat) (l : List Th) (w : World) (hT : Tab w) (h : l.length = n ∧ TS w a l ∧ (a = none → l = [] ∧ c = 0) ∧ n ≤ maxLen ∧ ∀ t ∈ l, ThOk t) : Calls Tryd.prog 3 #[.slice a n c] w fun e w' => e = .returned (.bool true) ∧ Below w.heap.size w w' := by
  obtain ⟨rfl, hR, hN, _, _⟩ := h
  by_cases hm : l.length ≤ 200
  · exact sort_walk_ok a c l w hT hR hN hm
  · exact sort_walk_big a c l.length w hT (by omega)
end Go.Proofs.YtfclmbneimbmnaaDoor
