/- The reference's Put. -/
import Derived.Test.YtfclmbneimbmnaaDoorRrB
import Derived.Deep.RegionHeld3
namespace Go.Proofs.YtfclmbneimbmnaaDoor
open Go.RowKit

theorem RS.only {X : Nat → Prop} {w w' : World} {l : List Rt} {p : Option Addr} (h : RS w p l) (ho : Only X w w') (n : Nat) (hp : p = some ⟨n, 0, none⟩) (hn : n < w.heap.size) (hx : ¬ X n) : RS w' p l := fun k hk => by
  obtain ⟨B, o, e, c0, c1, c2, c3⟩ := h k hk
  have hB : B = n := by rw [hp] at e; injection e with e; injection e with e; exact e.symm
  subst hB
  exact ⟨B, o, e, (ho.cell (p := ⟨B, _, none⟩) hn hx).trans c0, (ho.cell (p := ⟨B, _, none⟩) hn hx).trans c1, (ho.cell (p := ⟨B, _, none⟩) hn hx).trans c2, (ho.cell (p := ⟨B, _, none⟩) hn hx).trans c3⟩

theorem own_eq {e n a b : Nat} (h : (Value.slice (some ⟨e, 0, none⟩) a b).ownBlock = some n) : e = n := by simpa [Value.ownBlock] using h

/-- append to a row of one's own, as one step of a region that draws. -/
theorem step_append_rtX {ops : Array Oper} {o : Oper} {a : Act} {w : World} {K : Act → World → Prop} {Q : Exit → Act → World → Prop} {E : Prop}
    (hgd : o.guard = none) (s x : Operand) (hop : o.op = Op.call { callee := Callee.builtin Builtin.append, args := #[s, x], argTypes := #[24, 24] })
    (base : Nat) (v : Value) (l m : List Rt) (p : Option Addr) (n : Nat) (c : Nat) (hs : a.eval s = v) (hn : n = m.length) (hx : a.eval x = .slice p n c) (hown : OR w base v l)
    (hp : p = none ∨ ∃ B f, p = some ⟨B, f, none⟩) (hR : RS w p m) (hN : p = none → c = 0) (hlen : l.length + m.length ≤ 100000) (hbase : base ≤ w.heap.size)
    (hK : ∀ v' w', OR w' base v' (l ++ m) → Only (fun k => v.ownBlock = some k) w w' → (v'.ownBlock = v.ownBlock ∨ v'.ownBlock = some w.heap.size) → K (a.put o.dst v') w') :
    if Region.wanted o (yielded ops a.tmps) = true then Oper.wp Tryd.prog o a w K Q else E := by
  have hw : Region.wanted o (yielded ops a.tmps) = true := by simp [Region.wanted, hgd]
  rw [if_pos hw]
  subst hn
  obtain ⟨i, hi, hz0, hz1, hz2⟩ := info_parts rt_info
  have key : ∃ v' w', (Builtin.append_ #[24, 24] o.type #[v, .slice p m.length c]).run Tryd.prog w = .ok v' w' ∧ OR w' base v' (l ++ m) ∧ Only (fun k => v.ownBlock = some k) w w' ∧ (v'.ownBlock = v.ownBlock ∨ v'.ownBlock = some w.heap.size) := by
    rcases hp with rfl | ⟨B, f, rfl⟩
    · have hm : m = [] := by
        cases m with
        | nil => rfl
        | cons y m => obtain ⟨_, _, e, _⟩ := hR 0 (by simp); cases e
      subst hm
      obtain rfl := hN rfl
      exact ⟨v, w, run_append_owned_none (P := Tryd.prog) (w := w) base 24 o.type 29 i 4 Tryd.underlying24 hi v l.length (rtc l) hown, by rw [List.append_nil]; exact hown, Only.refl _ _, .inl rfl⟩
    · obtain ⟨v', w', h1, h2, h3, _, h5⟩ := run_append_own_at w base 24 o.type 29 i (.agg #[.int .u64 0, .int .u64 0, .int .i64 0, .int .i64 0]) 4 32 Tryd.underlying24 hi hz0 hz1 hz2 rfl (by omega) v l.length (rtc l) hown ⟨B, f, none⟩ m.length c (rtc m) (rtc_len m) hR.news (rtc_one m) (by unfold maxLen; omega) (by omega) hbase
      exact ⟨v', w', h1, by unfold OR; rw [List.length_append, rtc_append]; exact h2, grown_only h3 _ fun k hk => hk, h5⟩
  obtain ⟨v', w', hrun, h2, h3, h4⟩ := key
  unfold Oper.wp
  simp [execOp, hop, resolve, invoke, builtin, hs, hx, hrun, Result.andThen]
  exact hK v' w' h2 h3 h4

theorem Fnd.some {L : List Rt} {id r : Int} (h : Fnd L id r) {k : Nat} (hk : k < L.length) (he : idR L[k] = id) : 0 ≤ r := by
  rcases h with ⟨j, rfl, _⟩ | ⟨_, hn⟩
  · omega
  · exact absurd he (hn _ (List.getElem_mem hk))
theorem Fnd.none {L : List Rt} {id r : Int} (h : Fnd L id r) (hn : ∀ q ∈ L, idR q ≠ id) : r = -1 := by
  rcases h with ⟨j, rfl, hj, e⟩ | ⟨e, _⟩
  · exact absurd e (hn _ (List.getElem_mem hj))
  · exact e

set_option maxRecDepth 100000 in
theorem rrput_out (p : Option Addr) (n c : Nat) (s x y z s0 : Int) (w : World) (hs : ¬ (0 ≤ s ∧ s < 64)) :
    Calls Tryd.prog 76 #[.slice p n c, .int .i64 s, .agg #[.int .u64 x, .int .u64 y, .int .i64 z, .int .i64 s0]] w fun e w' => e = .returned (.tuple #[.slice p n c, .int .i64 2]) ∧ Below w.heap.size w w' := by
  have HB := Lib.hid ((Below.refl w.heap.size w).alloc (Nat.le_refl _) (.cells #[.int .u64 x, .int .u64 y, .int .i64 z, .int .i64 s0] 29))
  by_cases h1 : s < 0
  · go_enter Tryd.func76, Tryd.ntmps76
    go_wp2
    go_ret2
    exact ⟨rfl, HB.out⟩
  · have h2 : 63 < s := by omega
    go_enter Tryd.func76, Tryd.ntmps76
    go_wp2
    go_ret2
    exact ⟨rfl, HB.out⟩

set_option maxRecDepth 100000 in
theorem rrput_there (p : Option Addr) (c k : Nat) (L : List Rt) (s x y z s0 : Int) (w : World) (hR : RS w p L) (hm : L.length ≤ 1000000) (hs : 0 ≤ s ∧ s < 64) (hk : k < L.length) (hx : idR L[k] = x) :
    Calls Tryd.prog 76 #[.slice p L.length c, .int .i64 s, .agg #[.int .u64 x, .int .u64 y, .int .i64 z, .int .i64 s0]] w fun e w' => e = .returned (.tuple #[.slice p L.length c, .int .i64 32]) ∧ Below w.heap.size w w' := by
  have hB := (Below.refl w.heap.size w).alloc (Nat.le_refl _) (.cells #[.int .u64 x, .int .u64 y, .int .i64 z, .int .i64 s0] 29)
  have hf := find_any p c L x _ (hR.below hB) hm
  have HB := Lib.hid hB
  have h1 : ¬ s < 0 := by omega
  have h2 : ¬ 63 < s := by omega
  have HX := Lib.hid hx
  have HK := Lib.hid hk
  clear hB hR hx
  go_enter Tryd.func76, Tryd.ntmps76
  go_wp2_with (go_at_call 70; with_reducible refine hf.mono ?_; rintro e w1 ⟨r, rfl, hF, rfl⟩; have hr := hF.some HK.out HX.out; clear hF hf)
  go_ret2
  exact ⟨rfl, HB.out⟩

set_option maxRecDepth 100000 in
set_option maxHeartbeats 4000000 in
theorem rrput_in (p : Option Addr) (c : Nat) (L : List Rt) (s x y z s0 : Int) (w : World) (hR : RS w p L) (hm : L.length ≤ 50000) (hs : 0 ≤ s ∧ s < 64) (hx : ∀ q ∈ L, idR q ≠ x) (hpf : p = none ∨ ∃ B f, p = some ⟨B, f, none⟩) (hpn : p = none → c = 0) :
    Calls Tryd.prog 76 #[.slice p L.length c, .int .i64 s, .agg #[.int .u64 x, .int .u64 y, .int .i64 z, .int .i64 s0]] w fun e w' => ∃ v, e = .returned (.tuple #[v, .int .i64 0]) ∧ OR w' w.heap.size v (L ++ [((x, y, z), s)]) ∧ Below w.heap.size w w' := by
  have hB := (Below.refl w.heap.size w).alloc (Nat.le_refl _) (.cells #[.int .u64 x, .int .u64 y, .int .i64 z, .int .i64 s0] 29)
  have hf := find_any p c L x _ (hR.below hB) (by omega)
  obtain ⟨T, hT⟩ : ∃ T, w.heap.size = T := ⟨_, rfl⟩
  have HPF := Lib.hid hpf
  have HPN := Lib.hid hpn
  have h1 : ¬ s < 0 := by omega
  have h2 : ¬ 63 < s := by omega
  have HX := Lib.hid hx
  have hb2 : Below w.heap.size w (w.alloc (.cells #[.int .u64 x, .int .u64 y, .int .i64 z, .int .i64 s] 29)) := (Below.refl _ _).alloc (Nat.le_refl _) _
  have t0 : (w.alloc (.cells #[.int .u64 x, .int .u64 y, .int .i64 z, .int .i64 s] 29)).cell? ⟨T, 0, none⟩ = some (.int .u64 x) := World.cell?_alloc_at _ _ _ _ hT.symm
  have t1 : (w.alloc (.cells #[.int .u64 x, .int .u64 y, .int .i64 z, .int .i64 s] 29)).cell? ⟨T, 1, none⟩ = some (.int .u64 y) := World.cell?_alloc_at _ _ _ _ hT.symm
  have t2 : (w.alloc (.cells #[.int .u64 x, .int .u64 y, .int .i64 z, .int .i64 s] 29)).cell? ⟨T, 2, none⟩ = some (.int .i64 z) := World.cell?_alloc_at _ _ _ _ hT.symm
  have t3 : (w.alloc (.cells #[.int .u64 x, .int .u64 y, .int .i64 z, .int .i64 s] 29)).cell? ⟨T, 3, none⟩ = some (.int .i64 s) := World.cell?_alloc_at _ _ _ _ hT.symm
  have hTs : T < (w.alloc (.cells #[.int .u64 x, .int .u64 y, .int .i64 z, .int .i64 s] 29)).heap.size := by simp; omega
  have hR2 := hR.below hb2
  have HH := Lib.hid (And.intro t0 (And.intro t1 (And.intro t2 (And.intro t3 (And.intro hTs (And.intro hR2 hb2))))))
  clear t0 t1 t2 t3 hTs hR2 hb2 hB hR hx hpf hpn
  go_enter Tryd.func76, Tryd.ntmps76
  go_wp2_with (go_at_call 70; with_reducible refine hf.mono ?_; rintro e w1 ⟨r, rfl, hF, rfl⟩; obtain rfl := hF.none HX.out; clear hF hf)
  obtain ⟨W0, hW0⟩ : ∃ W, w.alloc (.cells #[.int .u64 x, .int .u64 y, .int .i64 z, .int .i64 s] 29) = W := ⟨_, rfl⟩
  rw [hW0] at HH
  rw [hW0]
  have HS : Hid (∀ W, Below W0.heap.size W0 W → W.cell? ⟨T, 0, none⟩ = some (.int .u64 x) ∧ W.cell? ⟨T, 1, none⟩ = some (.int .u64 y) ∧ W.cell? ⟨T, 2, none⟩ = some (.int .i64 z) ∧ W.cell? ⟨T, 3, none⟩ = some (.int .i64 s) ∧ Below W0.heap.size W0 W) := Lib.hid (fun W hb =>
    ⟨(hb.cell (p := ⟨T, _, none⟩) HH.out.2.2.2.2.1).trans HH.out.1, (hb.cell (p := ⟨T, _, none⟩) HH.out.2.2.2.2.1).trans HH.out.2.1, (hb.cell (p := ⟨T, _, none⟩) HH.out.2.2.2.2.1).trans HH.out.2.2.1, (hb.cell (p := ⟨T, _, none⟩) HH.out.2.2.2.2.1).trans HH.out.2.2.2.1, hb⟩)
  have HR := Lib.hid HH.out.2.2.2.2.2.1
  have HB0 := Lib.hid HH.out.2.2.2.2.2.2
  have bd : Below W0.heap.size W0 W0.drew := (Below.refl _ _).drew
  clear hW0 HH
  refine wp_region_held_drew (S := (fun w' => w'.cell? ⟨T, 0, none⟩ = some (.int .u64 x) ∧ w'.cell? ⟨T, 1, none⟩ = some (.int .u64 y) ∧ w'.cell? ⟨T, 2, none⟩ = some (.int .i64 z) ∧ w'.cell? ⟨T, 3, none⟩ = some (.int .i64 s) ∧ Below W0.heap.size W0 w')) (by kernel_rfl) (HS.out _ bd) (fun hHeld => ?_)
  refine wpAnyH_take (i := 1) (v := ?_) rfl (by kernel_rfl) (by kernel_rfl) (by kernel_rfl) (fun _ _ _ h => h) (Or.inl ⟨by rfl, ?_⟩) (by assumption) ?_
  case refine_2 => (intro w1 hS1; (try dsimp only at hS1); go_simp; try with_reducible rfl)
  try simp only [List.getElem_toArray, List.getElem_cons_zero, List.getElem_cons_succ, Act.put, List.setIfInBounds_toArray, List.set_cons_zero, List.set_cons_succ]
  refine wpAnyH_take (i := 3) (v := ?_) rfl (by kernel_rfl) (by kernel_rfl) (by kernel_rfl) (fun _ _ _ h => h) (Or.inl ⟨by rfl, ?_⟩) (by assumption) ?_
  case refine_2 => (intro w1 hS1; (try dsimp only at hS1); go_simp; try with_reducible rfl)
  try simp only [List.getElem_toArray, List.getElem_cons_zero, List.getElem_cons_succ, Act.put, List.setIfInBounds_toArray, List.set_cons_zero, List.set_cons_succ]
  obtain ⟨W0d, hW0d⟩ : ∃ W, W0.drew = W := ⟨_, rfl⟩
  rw [hW0d] at bd
  rw [hW0d]
  clear hHeld hW0d
  refine wpAnyH_ready (rs := [0, 4]) (by kernel_rfl) (by simp) ?_
  refine AllReadyH.cons rfl (fun K hK => ?_) ?_
  · have b1 : Below W0.heap.size W0 (W0d.alloc (.cells #[] 29)) := bd.alloc bd.size _
    go_simp
    refine hK.out _ _ (HS.out _ b1) (fun hHeld => ?_)
    clear hK K hHeld
    try simp only [List.getElem_toArray, List.getElem_cons_zero, List.getElem_cons_succ, Act.put, List.setIfInBounds_toArray, List.set_cons_zero, List.set_cons_succ]
    have hE1 := OR.empty W0d W0.heap.size bd.size
    have hX1 := (Below.refl W0d.heap.size W0d).alloc (Nat.le_refl _) (.cells #[] 29)
    obtain ⟨e, he⟩ : ∃ e, W0d.heap.size = e := ⟨_, rfl⟩
    rw [he] at hE1 ⊢
    have HE1 := Lib.hid he
    clear he
    generalize W0d.alloc (.cells #[] 29) = W1 at b1 hE1 hX1 b1 ⊢
    refine wpAnyH_ready (rs := [2, 4]) (by kernel_rfl) (by simp) ?_
    refine AllReadyH.cons rfl (fun K hK => ?_) ?_
    · refine step_append_rtX rfl (.tmp 23) (.tmp 24) rfl W0.heap.size (.slice (some ⟨e, 0, none⟩) 0 0) [] L p L.length c rfl rfl rfl hE1 HPF.out (HR.out.below b1) HPN.out (by simp; omega) b1.size ?_
      intro v2 W2 hO2 ho2 hob2
      have b2 : Below W0.heap.size W0 W2 := b1.trans (ho2.toBelow b1.size (fun k hk => (hE1.own_lt hk).1))
      refine hK.out _ _ (HS.out _ b2) (fun hHeld => ?_)
      clear hK K hHeld
      try simp only [List.getElem_toArray, List.getElem_cons_zero, List.getElem_cons_succ, Act.put, List.setIfInBounds_toArray, List.set_cons_zero, List.set_cons_succ]
      refine wpAnyH_ready (rs := [4]) (by kernel_rfl) (by simp) ?_
      refine AllReadyH.cons rfl (fun K hK => ?_) AllReadyH.nil
      have b3 : Below W0.heap.size W0 (W2.alloc (.cells #[.int .u64 x, .int .u64 y, .int .i64 z, .int .i64 s] 29)) := b2.alloc b2.size _
      go_simp
      refine hK.out _ _ (HS.out _ b3) (fun hHeld => ?_)
      clear hK K hHeld
      try simp only [List.getElem_toArray, List.getElem_cons_zero, List.getElem_cons_succ, Act.put, List.setIfInBounds_toArray, List.set_cons_zero, List.set_cons_succ]
      have hN3 : RS (W2.alloc (.cells #[.int .u64 x, .int .u64 y, .int .i64 z, .int .i64 s] 29)) (some ⟨W2.heap.size, 0, none⟩) [((x, y, z), s)] := RS.one (World.cell?_alloc_at _ _ _ _ rfl) (World.cell?_alloc_at _ _ _ _ rfl) (World.cell?_alloc_at _ _ _ _ rfl) (World.cell?_alloc_at _ _ _ _ rfl)
      have hX3 := (Below.refl W2.heap.size W2).alloc (Nat.le_refl _) (.cells #[.int .u64 x, .int .u64 y, .int .i64 z, .int .i64 s] 29)
      obtain ⟨n, hn⟩ : ∃ n, W2.heap.size = n := ⟨_, rfl⟩
      have hZ3 : Hid ((W2.alloc (.cells #[.int .u64 x, .int .u64 y, .int .i64 z, .int .i64 s] 29)).heap.size = n + 1) := Lib.hid (by simp; omega)
      rw [hn] at hN3 ⊢
      have HNN := Lib.hid hn
      clear hn
      have hO3 : OR (W2.alloc (.cells #[.int .u64 x, .int .u64 y, .int .i64 z, .int .i64 s] 29)) W0.heap.size v2 ([] ++ L) := hO2.keep hX3
      generalize W2.alloc (.cells #[.int .u64 x, .int .u64 y, .int .i64 z, .int .i64 s] 29) = W3 at b3 hN3 hO3 hX3 hZ3 ⊢
      refine wpAnyH_ready (rs := [5]) (by kernel_rfl) (by simp) ?_
      refine AllReadyH.cons rfl (fun K hK => ?_) AllReadyH.nil
      refine step_append_rtX rfl (.tmp 25) (.tmp 27) rfl W0.heap.size v2 ([] ++ L) [((x, y, z), s)] (some ⟨n, 0, none⟩) 1 1 rfl rfl rfl hO3 (.inr ⟨n, 0, rfl⟩) hN3 (fun h => by cases h) (by simp; omega) b3.size ?_
      intro v9 W9 hO9 ho9 hob9
      have b9 : Below W0.heap.size W0 W9 := b3.trans (ho9.toBelow b3.size (fun k hk => (hO3.own_lt hk).1))
      refine hK.out _ _ (HS.out _ b9) (fun hHeld => ?_)
      clear hK K hHeld
      try simp only [List.getElem_toArray, List.getElem_cons_zero, List.getElem_cons_succ, Act.put, List.setIfInBounds_toArray, List.set_cons_zero, List.set_cons_succ]
      refine wpAnyH_take (i := 6) (v := ?_) rfl (by kernel_rfl) (by kernel_rfl) (by kernel_rfl) (fun _ _ _ h => h) (Or.inl ⟨by rfl, ?_⟩) (HS.out _ b9) ?_
      case refine_2 => (intro w1 hS1; go_simp; try with_reducible rfl)
      try simp only [List.getElem_toArray, List.getElem_cons_zero, List.getElem_cons_succ, Act.put, List.setIfInBounds_toArray, List.set_cons_zero, List.set_cons_succ]
      refine wpAnyH_take (i := 7) (v := ?_) rfl (by kernel_rfl) (by kernel_rfl) (by kernel_rfl) (fun _ _ _ h => h) (Or.inl ⟨by rfl, ?_⟩) (HS.out _ b9) ?_
      case refine_2 => (intro w1 hS1; (try dsimp only at hS1); go_simp; try with_reducible rfl)
      try simp only [List.getElem_toArray, List.getElem_cons_zero, List.getElem_cons_succ, Act.put, List.setIfInBounds_toArray, List.set_cons_zero, List.set_cons_succ]
      refine wpAnyH_done (by kernel_rfl) ?_ _
      go_wp2
      go_ret2
      have hO9' : OR W9 W0.heap.size v9 (L ++ [((x, y, z), s)]) := by simpa using hO9
      have hfin := And.intro (hO9'.mono HB0.out.size) (HB0.out.trans (b9.mono HB0.out.size))
      first
        | exact ⟨_, rfl, hfin.1, hfin.2⟩
        | (rw [hT] at hfin; exact ⟨_, rfl, hfin.1, hfin.2⟩)
    · refine AllReadyH.cons rfl (fun K hK => ?_) AllReadyH.nil
      have b3 : Below W0.heap.size W0 (W1.alloc (.cells #[.int .u64 x, .int .u64 y, .int .i64 z, .int .i64 s] 29)) := b1.alloc b1.size _
      go_simp
      refine hK.out _ _ (HS.out _ b3) (fun hHeld => ?_)
      clear hK K hHeld
      try simp only [List.getElem_toArray, List.getElem_cons_zero, List.getElem_cons_succ, Act.put, List.setIfInBounds_toArray, List.set_cons_zero, List.set_cons_succ]
      have hN3 : RS (W1.alloc (.cells #[.int .u64 x, .int .u64 y, .int .i64 z, .int .i64 s] 29)) (some ⟨W1.heap.size, 0, none⟩) [((x, y, z), s)] := RS.one (World.cell?_alloc_at _ _ _ _ rfl) (World.cell?_alloc_at _ _ _ _ rfl) (World.cell?_alloc_at _ _ _ _ rfl) (World.cell?_alloc_at _ _ _ _ rfl)
      have hX3 := (Below.refl W1.heap.size W1).alloc (Nat.le_refl _) (.cells #[.int .u64 x, .int .u64 y, .int .i64 z, .int .i64 s] 29)
      obtain ⟨n, hn⟩ : ∃ n, W1.heap.size = n := ⟨_, rfl⟩
      have hZ3 : Hid ((W1.alloc (.cells #[.int .u64 x, .int .u64 y, .int .i64 z, .int .i64 s] 29)).heap.size = n + 1) := Lib.hid (by simp; omega)
      rw [hn] at hN3 ⊢
      have HNN := Lib.hid hn
      clear hn
      have hE3 : OR (W1.alloc (.cells #[.int .u64 x, .int .u64 y, .int .i64 z, .int .i64 s] 29)) W0.heap.size (.slice (some ⟨e, 0, none⟩) 0 0) [] := hE1.keep hX3
      have hen : Hid (e < W1.heap.size) := Lib.hid (hE1.own_lt (g := e) rfl).2
      generalize W1.alloc (.cells #[.int .u64 x, .int .u64 y, .int .i64 z, .int .i64 s] 29) = W3 at b3 hN3 hE3 hX3 hZ3 ⊢
      refine wpAnyH_ready (rs := [2]) (by kernel_rfl) (by simp) ?_
      refine AllReadyH.cons rfl (fun K hK => ?_) AllReadyH.nil
      refine step_append_rtX rfl (.tmp 23) (.tmp 24) rfl W0.heap.size (.slice (some ⟨e, 0, none⟩) 0 0) [] L p L.length c rfl rfl rfl hE3 HPF.out (HR.out.below b3) HPN.out (by simp; omega) b3.size ?_
      intro v2 W2 hO2 ho2 hob2
      have b2 : Below W0.heap.size W0 W2 := b3.trans (ho2.toBelow b3.size (fun k hk => (hE3.own_lt hk).1))
      refine hK.out _ _ (HS.out _ b2) (fun hHeld => ?_)
      clear hK K hHeld
      try simp only [List.getElem_toArray, List.getElem_cons_zero, List.getElem_cons_succ, Act.put, List.setIfInBounds_toArray, List.set_cons_zero, List.set_cons_succ]
      have hN2 : RS W2 (some ⟨n, 0, none⟩) [((x, y, z), s)] := hN3.only ho2 n rfl (by have := hZ3.out; omega) (fun h => by have := own_eq h; have h1 := hen.out; have h2 := HNN.out; omega)
      refine wpAnyH_ready (rs := [5]) (by kernel_rfl) (by simp) ?_
      refine AllReadyH.cons rfl (fun K hK => ?_) AllReadyH.nil
      refine step_append_rtX rfl (.tmp 25) (.tmp 27) rfl W0.heap.size v2 ([] ++ L) [((x, y, z), s)] (some ⟨n, 0, none⟩) 1 1 rfl rfl rfl hO2 (.inr ⟨n, 0, rfl⟩) hN2 (fun h => by cases h) (by simp; omega) b2.size ?_
      intro v9 W9 hO9 ho9 hob9
      have b9 : Below W0.heap.size W0 W9 := b2.trans (ho9.toBelow b2.size (fun k hk => (hO2.own_lt hk).1))
      refine hK.out _ _ (HS.out _ b9) (fun hHeld => ?_)
      clear hK K hHeld
      try simp only [List.getElem_toArray, List.getElem_cons_zero, List.getElem_cons_succ, Act.put, List.setIfInBounds_toArray, List.set_cons_zero, List.set_cons_succ]
      refine wpAnyH_take (i := 6) (v := ?_) rfl (by kernel_rfl) (by kernel_rfl) (by kernel_rfl) (fun _ _ _ h => h) (Or.inl ⟨by rfl, ?_⟩) (HS.out _ b9) ?_
      case refine_2 => (intro w1 hS1; go_simp; try with_reducible rfl)
      try simp only [List.getElem_toArray, List.getElem_cons_zero, List.getElem_cons_succ, Act.put, List.setIfInBounds_toArray, List.set_cons_zero, List.set_cons_succ]
      refine wpAnyH_take (i := 7) (v := ?_) rfl (by kernel_rfl) (by kernel_rfl) (by kernel_rfl) (fun _ _ _ h => h) (Or.inl ⟨by rfl, ?_⟩) (HS.out _ b9) ?_
      case refine_2 => (intro w1 hS1; (try dsimp only at hS1); go_simp; try with_reducible rfl)
      try simp only [List.getElem_toArray, List.getElem_cons_zero, List.getElem_cons_succ, Act.put, List.setIfInBounds_toArray, List.set_cons_zero, List.set_cons_succ]
      refine wpAnyH_done (by kernel_rfl) ?_ _
      go_wp2
      go_ret2
      have hO9' : OR W9 W0.heap.size v9 (L ++ [((x, y, z), s)]) := by simpa using hO9
      have hfin := And.intro (hO9'.mono HB0.out.size) (HB0.out.trans (b9.mono HB0.out.size))
      first
        | exact ⟨_, rfl, hfin.1, hfin.2⟩
        | (rw [hT] at hfin; exact ⟨_, rfl, hfin.1, hfin.2⟩)
  · refine AllReadyH.cons rfl (fun K hK => ?_) AllReadyH.nil
    have b3 : Below W0.heap.size W0 (W0d.alloc (.cells #[.int .u64 x, .int .u64 y, .int .i64 z, .int .i64 s] 29)) := bd.alloc bd.size _
    go_simp
    refine hK.out _ _ (HS.out _ b3) (fun hHeld => ?_)
    clear hK K hHeld
    try simp only [List.getElem_toArray, List.getElem_cons_zero, List.getElem_cons_succ, Act.put, List.setIfInBounds_toArray, List.set_cons_zero, List.set_cons_succ]
    have hN3 : RS (W0d.alloc (.cells #[.int .u64 x, .int .u64 y, .int .i64 z, .int .i64 s] 29)) (some ⟨W0d.heap.size, 0, none⟩) [((x, y, z), s)] := RS.one (World.cell?_alloc_at _ _ _ _ rfl) (World.cell?_alloc_at _ _ _ _ rfl) (World.cell?_alloc_at _ _ _ _ rfl) (World.cell?_alloc_at _ _ _ _ rfl)
    have hX3 := (Below.refl W0d.heap.size W0d).alloc (Nat.le_refl _) (.cells #[.int .u64 x, .int .u64 y, .int .i64 z, .int .i64 s] 29)
    obtain ⟨n, hn⟩ : ∃ n, W0d.heap.size = n := ⟨_, rfl⟩
    have hZ3 : Hid ((W0d.alloc (.cells #[.int .u64 x, .int .u64 y, .int .i64 z, .int .i64 s] 29)).heap.size = n + 1) := Lib.hid (by simp; omega)
    rw [hn] at hN3 ⊢
    have HNN := Lib.hid hn
    clear hn
    generalize W0d.alloc (.cells #[.int .u64 x, .int .u64 y, .int .i64 z, .int .i64 s] 29) = W3 at b3 hN3 hX3 hZ3 ⊢
    refine wpAnyH_ready (rs := [0]) (by kernel_rfl) (by simp) ?_
    refine AllReadyH.cons rfl (fun K hK => ?_) AllReadyH.nil
    have b1 : Below W0.heap.size W0 (W3.alloc (.cells #[] 29)) := b3.alloc b3.size _
    go_simp
    refine hK.out _ _ (HS.out _ b1) (fun hHeld => ?_)
    clear hK K hHeld
    try simp only [List.getElem_toArray, List.getElem_cons_zero, List.getElem_cons_succ, Act.put, List.setIfInBounds_toArray, List.set_cons_zero, List.set_cons_succ]
    have hE1 := OR.empty W3 W0.heap.size b3.size
    have hX1 := (Below.refl W3.heap.size W3).alloc (Nat.le_refl _) (.cells #[] 29)
    obtain ⟨e, he⟩ : ∃ e, W3.heap.size = e := ⟨_, rfl⟩
    rw [he] at hE1 ⊢
    have HE1 := Lib.hid he
    clear he
    have hN1 : RS (W3.alloc (.cells #[] 29)) (some ⟨n, 0, none⟩) [((x, y, z), s)] := hN3.below hX1
    have hz1 : Hid ((W3.alloc (.cells #[] 29)).heap.size = W3.heap.size + 1) := Lib.hid (by simp)
    generalize W3.alloc (.cells #[] 29) = W1 at b1 hE1 hX1 hN1 hz1 ⊢
    refine wpAnyH_ready (rs := [2]) (by kernel_rfl) (by simp) ?_
    refine AllReadyH.cons rfl (fun K hK => ?_) AllReadyH.nil
    refine step_append_rtX rfl (.tmp 23) (.tmp 24) rfl W0.heap.size (.slice (some ⟨e, 0, none⟩) 0 0) [] L p L.length c rfl rfl rfl hE1 HPF.out (HR.out.below b1) HPN.out (by simp; omega) b1.size ?_
    intro v2 W2 hO2 ho2 hob2
    have b2 : Below W0.heap.size W0 W2 := b1.trans (ho2.toBelow b1.size (fun k hk => (hE1.own_lt hk).1))
    refine hK.out _ _ (HS.out _ b2) (fun hHeld => ?_)
    clear hK K hHeld
    try simp only [List.getElem_toArray, List.getElem_cons_zero, List.getElem_cons_succ, Act.put, List.setIfInBounds_toArray, List.set_cons_zero, List.set_cons_succ]
    have hN2 : RS W2 (some ⟨n, 0, none⟩) [((x, y, z), s)] := hN1.only ho2 n rfl (by have := hz1.out; have := hZ3.out; omega) (fun h => by have := own_eq h; have h1 := hZ3.out; have h2 := HE1.out; omega)
    refine wpAnyH_ready (rs := [5]) (by kernel_rfl) (by simp) ?_
    refine AllReadyH.cons rfl (fun K hK => ?_) AllReadyH.nil
    refine step_append_rtX rfl (.tmp 25) (.tmp 27) rfl W0.heap.size v2 ([] ++ L) [((x, y, z), s)] (some ⟨n, 0, none⟩) 1 1 rfl rfl rfl hO2 (.inr ⟨n, 0, rfl⟩) hN2 (fun h => by cases h) (by simp; omega) b2.size ?_
    intro v9 W9 hO9 ho9 hob9
    have b9 : Below W0.heap.size W0 W9 := b2.trans (ho9.toBelow b2.size (fun k hk => (hO2.own_lt hk).1))
    refine hK.out _ _ (HS.out _ b9) (fun hHeld => ?_)
    clear hK K hHeld
    try simp only [List.getElem_toArray, List.getElem_cons_zero, List.getElem_cons_succ, Act.put, List.setIfInBounds_toArray, List.set_cons_zero, List.set_cons_succ]
    refine wpAnyH_take (i := 6) (v := ?_) rfl (by kernel_rfl) (by kernel_rfl) (by kernel_rfl) (fun _ _ _ h => h) (Or.inl ⟨by rfl, ?_⟩) (HS.out _ b9) ?_
    case refine_2 => (intro w1 hS1; go_simp; try with_reducible rfl)
    try simp only [List.getElem_toArray, List.getElem_cons_zero, List.getElem_cons_succ, Act.put, List.setIfInBounds_toArray, List.set_cons_zero, List.set_cons_succ]
    refine wpAnyH_take (i := 7) (v := ?_) rfl (by kernel_rfl) (by kernel_rfl) (by kernel_rfl) (fun _ _ _ h => h) (Or.inl ⟨by rfl, ?_⟩) (HS.out _ b9) ?_
    case refine_2 => (intro w1 hS1; (try dsimp only at hS1); go_simp; try with_reducible rfl)
    try simp only [List.getElem_toArray, List.getElem_cons_zero, List.getElem_cons_succ, Act.put, List.setIfInBounds_toArray, List.set_cons_zero, List.set_cons_succ]
    refine wpAnyH_done (by kernel_rfl) ?_ _
    go_wp2
    go_ret2
    have hO9' : OR W9 W0.heap.size v9 (L ++ [((x, y, z), s)]) := by simpa using hO9
    have hfin := And.intro (hO9'.mono HB0.out.size) (HB0.out.trans (b9.mono HB0.out.size))
    first
      | exact ⟨_, rfl, hfin.1, hfin.2⟩
      | (rw [hT] at hfin; exact ⟨_, rfl, hfin.1, hfin.2⟩)
end Go.Proofs.YtfclmbneimbmnaaDoor
