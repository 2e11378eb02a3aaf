/- Advance's inner function. -/
import Derived.Test.YtfclmbneimbmnaaDoorWhH
import Derived.Deep.DeepMust
namespace Go.Proofs.YtfclmbneimbmnaaDoor
open Go.RowKit

theorem append_tsW {w : World} {ops : Array Oper} {rest : List Oper} {o : Oper} {a : Act} {Q : Exit → Act → World → Prop} (hgd : o.guard = none) (s x : Operand)
    (ho : o.op = .call { callee := .builtin .append, args := #[s, x], argTypes := #[22, 22] })
    (base : Nat) (v : Value) (l m : List Th) (p : Addr) (n : Nat) (c : Nat) (hs : a.eval s = v) (hn : n = m.length) (hx : a.eval x = .slice (some p) n c) (hown : OT w base v l)
    (hR : ∀ j u, (thc m)[j]? = some u → w.cell? (p.add j) = some u) (hlen : l.length + m.length ≤ 100000) (hbase : base ≤ w.heap.size)
    (h : ∀ v' w', OT w' base v' (l ++ m) → Only (fun k => v.ownBlock = some k) w w' → (v'.ownBlock = v.ownBlock ∨ v'.ownBlock = some w.heap.size) → wpList Tryd.prog ops Q rest (a.put o.dst v') w') : wpList Tryd.prog ops Q (o :: rest) a w := by
  subst hn
  obtain ⟨i0, hi, hz0, hz1, hz2⟩ := info_parts th_info
  refine wpList_append_own_at w hgd s x 22 ho base 27 i0 (.agg #[.int .u64 0, .int .u64 0, .int .i64 0]) 3 24 Tryd.underlying22 hi hz0 hz1 hz2 rfl (by decide) v l.length (thc l) hs hown p m.length c (thc m) hx (thc_len m) hR
    (thc_one m) (by unfold maxLen; omega) (by omega) hbase ?_
  intro v' w' h1 h2 _ h4
  exact h v' w' (by unfold OT; rw [List.length_append, thc_append]; exact h1) (grown_only h2 _ fun k hk => hk) h4
theorem one_reads (w : World) (t : Th) (ty : TypeId) {T : Nat} (hT : w.heap.size = T) : ∀ q, some (⟨T, 0, none⟩ : Addr) = some q → ∀ j u, (thc [t])[j]? = some u → (w.alloc (.cells #[.int .u64 t.1, .int .u64 t.2.1, .int .i64 t.2.2] ty)).cell? (q.add j) = some u := by
  intro q e j u hj
  injection e with e
  subst e
  have ea : (⟨T, 0, none⟩ : Addr).add j = ⟨T, j, none⟩ := by
    unfold Addr.add
    split
    · rename_i h; subst h; rfl
    · simp
  rw [ea, World.cell?_alloc_at _ _ _ _ hT.symm]
  simpa [thc, enT] using hj

set_option maxRecDepth 100000 in
set_option maxHeartbeats 8000000 in
theorem wmove {B A3 A7 A2 a : Nat} {D0 : WD} {dv0 : Value} {L0 : List Th} (w : World) (p : Option Addr) (c : Nat) (l : List Th) (h : Mv w B A3 A7 A2 a D0 dv0 L0) (hR : TS w p l) (hp : ∀ g o q, p = some ⟨g, o, q⟩ → ¬ MX A7 D0 dv0 g)
    (ha : a ≤ 1125899906842624) (hok : ∀ u ∈ l, IdOk u.1 ∧ 0 ≤ u.2.2 ∧ u.2.2 ≤ 1125899906842624) (hnd : (l.map (·.1)).Nodup) (hfr : ∀ u ∈ l, D0.free u.1) (hfew : D0.all + L0.length + l.length < 90000) :
    Calls Tryd.prog 86 #[.slice p l.length c, .pointer (some ⟨A3, 0, none⟩), .pointer (some ⟨A7, 0, none⟩), .pointer (some ⟨A2, 0, none⟩)] w fun e w' => e = .returned (.tuple #[]) ∧ ∃ D dv L, Mvd a l D0 L0 D L ∧ Mv w' B A3 A7 A2 a D dv L ∧ Only (MX A7 D0 dv0) w w' ∧ (∀ g, MX A7 D dv g → MX A7 D0 dv0 g ∨ w.heap.size ≤ g) ∧ D.q = D0.q ∧ D.all + L.length = D0.all + L0.length + l.length := by
  have mixed := insTh.mixed
  have HR := Lib.hid hR
  have HP := Lib.hid hp
  have HOK := Lib.hid hok
  have HND := Lib.hid hnd
  obtain ⟨N, hN⟩ : ∃ N, D0.all + L0.length + l.length = N := ⟨_, rfl⟩
  have HN := Lib.hid hN
  have hN9 : N < 90000 := by omega
  have H0 := Lib.hid h
  have HFR := Lib.hid hfr
  have hl9 : l.length < 90000 := by omega
  clear hR hp hok hnd hN hfew h hfr
  go_enter Tryd.func86, Tryd.ntmps86
  go_wp2
  go_loopg [9] l.length (fun kx s9 wr => ∃ k : Nat, s9 = .int .i64 k ∧ k ≤ l.length ∧ l.length - k ≤ kx ∧ Hid (∃ D dv L, Mv wr B A3 A7 A2 a D dv L ∧ Only (MX A7 D0 dv0) w wr ∧ (∀ g, MX A7 D dv g → MX A7 D0 dv0 g ∨ w.heap.size ≤ g) ∧ (∀ D' L', Mvd a (l.drop k) D L D' L' → Mvd a l D0 L0 D' L') ∧ (∀ u ∈ l.drop k, D.free u.1) ∧ D.q = D0.q ∧ D.all + L.length + (l.length - k) = N))
  case atStart => exact ⟨0, rfl, by omega, by omega, D0, dv0, L0, H0.out, Only.refl _ _, fun g hg => .inl hg, fun D' L' h => h, HFR.out, rfl, HN.out⟩
  case round =>
    obtain ⟨k, rfl, hk, hkx, HI⟩ := hrel
    by_cases hlt : k < l.length
    · have hltz : (k : Int) < (l.length : Int) := by omega
      have hk0 : (0 : Int) ≤ (k : Int) := by omega
      obtain ⟨D, dv, L, hI⟩ := HI.out
      have HJ := Lib.hid hI
      have hTS : ∃ Bp o, p = some ⟨Bp, o, none⟩ ∧ wr.cell? ⟨Bp, o + k * 3, none⟩ = some (.int .u64 (l[k]).1) ∧ wr.cell? ⟨Bp, o + k * 3 + 1, none⟩ = some (.int .u64 (l[k]).2.1) ∧ wr.cell? ⟨Bp, o + k * 3 + 2, none⟩ = some (.int .i64 (l[k]).2.2) := by
        obtain ⟨Bp, o, e, c0, c1, c2⟩ := HR.out k hlt
        have nx := HP.out _ _ _ e
        have hBl : Bp < w.heap.size := by have := cell_lt c0; exact this
        exact ⟨Bp, o, e, (hI.2.1.cell (p := ⟨Bp, _, none⟩) hBl nx).trans c0, (hI.2.1.cell (p := ⟨Bp, _, none⟩) hBl nx).trans c1, (hI.2.1.cell (p := ⟨Bp, _, none⟩) hBl nx).trans c2⟩
      obtain ⟨Bp, o, rfl, c0, c1, c2⟩ := hTS
      have hkl : l.drop k = l[k] :: l.drop (k + 1) := List.drop_eq_getElem_cons hlt
      have hu := HOK.out _ (List.getElem_mem hlt)
      obtain ⟨t, ht⟩ : ∃ t, l[k] = t := ⟨_, rfl⟩
      rw [ht] at c0 c1 c2 hkl hu
      have HT := Lib.hid ht
      have HKL := Lib.hid hkl
      obtain ⟨T, hT⟩ : ∃ T, wr.heap.size = T := ⟨_, rfl⟩
      have hbA : Below wr.heap.size wr (wr.alloc (.cells #[.int .u64 t.1, .int .u64 t.2.1, .int .i64 t.2.2] 27)) := (Below.refl _ _).alloc (Nat.le_refl _) _
      have hsA : (wr.alloc (.cells #[.int .u64 t.1, .int .u64 t.2.1, .int .i64 t.2.2] 27)).heap.size = wr.heap.size + 1 := by simp
      have t0 : (wr.alloc (.cells #[.int .u64 t.1, .int .u64 t.2.1, .int .i64 t.2.2] 27)).cell? ⟨T, 0, none⟩ = some (.int .u64 t.1) := World.cell?_alloc_at _ _ _ _ hT.symm
      have t1 : (wr.alloc (.cells #[.int .u64 t.1, .int .u64 t.2.1, .int .i64 t.2.2] 27)).cell? ⟨T, 1, none⟩ = some (.int .u64 t.2.1) := World.cell?_alloc_at _ _ _ _ hT.symm
      have t2 : (wr.alloc (.cells #[.int .u64 t.1, .int .u64 t.2.1, .int .i64 t.2.2] 27)).cell? ⟨T, 2, none⟩ = some (.int .i64 t.2.2) := World.cell?_alloc_at _ _ _ _ hT.symm
      have hmA := hI.1.below hbA
      have ct1 := hmA.ct
      have cd1 := hmA.cd
      have cw1 := hmA.cw
      have hnd1 : ∀ u ∈ l.drop (k + 1), u.1 ≠ t.1 := fun u hu e => by
        have h1 := List.Nodup.sublist ((List.drop_sublist k l).map (·.1)) HND.out
        rw [hkl, List.map_cons, List.nodup_cons] at h1
        exact h1.1 (by rw [← e]; exact List.mem_map_of_mem hu)
      have HND1 := Lib.hid hnd1
      have HMA := Lib.hid hmA
      have HBA := Lib.hid hbA
      have hT1 : (wr.alloc (.cells #[.int .u64 t.1, .int .u64 t.2.1, .int .i64 t.2.2] 27)).heap.size = T + 1 := by rw [hsA, hT]
      clear hI hkl ht hnd1 hbA hsA
      by_cases hle : t.2.2 ≤ (a : Int)
      · have b2 : Below (wr.alloc (.cells #[.int .u64 t.1, .int .u64 t.2.1, .int .i64 t.2.2] 27)).heap.size (wr.alloc (.cells #[.int .u64 t.1, .int .u64 t.2.1, .int .i64 t.2.2] 27)) ((wr.alloc (.cells #[.int .u64 t.1, .int .u64 t.2.1, .int .i64 t.2.2] 27)).alloc (.cells #[.int .u64 t.1, .int .u64 t.2.1, .int .i64 t.2.2] 27)) := (Below.refl _ _).alloc (Nat.le_refl _) _
        have hmB := hmA.below b2
        have hrd := one_reads (wr.alloc (.cells #[.int .u64 t.1, .int .u64 t.2.1, .int .i64 t.2.2] 27)) t 27 hT1
        have HB2 := Lib.hid b2
        have HMB := Lib.hid hmB
        have HRD := Lib.hid hrd
        have cd2 := hmB.cd
        clear hmA hmB hrd b2
        go_wp2_with (at_builtin; go_must (refine append_tsW rfl (.tmp 17) (.tmp 19) rfl B dv L [t] ⟨T + 1, 0, none⟩ 1 1 rfl rfl rfl HMB.out.own (HRD.out _ rfl) (by have := HJ.out.2.2.2.2.2.2; simp only [List.length_singleton]; omega) HMB.out.base ?_); intro v4 w4 hO4 ho4 hob4; obtain ⟨a4, d4, hv4⟩ := hO4.shape; generalize (L ++ [t]).length = n4 at hv4; subst hv4; have hc4 := (ho4.cell (p := ⟨A7, 0, none⟩) (cell_lt HMB.out.cd) (fun e => (HMB.out.da _ e).2.1 rfl)).trans HMB.out.cd; have hf4 := (ho4.frozen (p := ⟨A7, 0, none⟩) (cell_lt HMB.out.cd) (fun e => (HMB.out.da _ e).2.1 rfl)).trans HMB.out.fd; have HX4 := Lib.hid (And.intro (HMB.out.due ho4 hO4 hob4) (And.intro ho4 (And.intro hO4 hob4))); clear ho4 hO4 hob4)
        go_roundg (l.length - (k + 1))
        case measure => omega
        case rel =>
          have hj := HJ.out
          have hx := HX4.out
          have bw : Below wr.heap.size wr ((wr.alloc (.cells #[.int .u64 t.1, .int .u64 t.2.1, .int .i64 t.2.2] 27)).alloc (.cells #[.int .u64 t.1, .int .u64 t.2.1, .int .i64 t.2.2] 27)) := HBA.out.trans (HB2.out.mono HBA.out.size)
          have o4 : Only (MX A7 D dv) wr (w4.setCell ⟨A7, 0, none⟩ (.slice a4 n4 d4)) := ((Only.below bw).trans (hx.2.1.more (fun g hg => .inr (.inr hg)))).setCell _ _ (.inr (.inl rfl))
          refine ⟨k + 1, by go_num, by omega, by omega, D, .slice a4 n4 d4, L ++ [t], hx.1, hj.2.1.step o4 hj.2.2.1, fun g hg => ?_, fun D' L' h => hj.2.2.2.1 D' L' (by rw [HKL.out]; show (if t.2.2 ≤ (a : Int) then _ else _); rw [if_pos hle]; exact h), fun u hu => hj.2.2.2.2.1 u (by rw [HKL.out]; exact List.mem_cons_of_mem _ hu), hj.2.2.2.2.2.1, ?_⟩
          · rcases hg with h1 | h1 | h1
            · exact hj.2.2.1 g (.inl h1)
            · exact .inl (.inr (.inl h1))
            · rcases hx.2.2.2 with e | e
              · exact hj.2.2.1 g (.inr (.inr (by rw [← e]; exact h1)))
              · rw [e] at h1; injection h1 with h1
                have h2 := hj.2.1.size
                have h3 := bw.size
                exact .inr (by omega)
          · have := hj.2.2.2.2.2.2
            rw [List.length_append, List.length_singleton]
            omega
      · obtain ⟨b, hb⟩ : ∃ b : Nat, t.2.2 = (b : Int) := ⟨t.2.2.toNat, by omega⟩
        have hpl := wplace D a b t (wr.alloc (.cells #[.int .u64 t.1, .int .u64 t.2.1, .int .i64 t.2.2] 27)) HMA.out.wl HMA.out.now hb ha (by omega) hu.1 (HMA.out.wl.notin (HJ.out.2.2.2.2.1 t (by rw [HKL.out]; exact List.mem_cons_self))) (by have := HJ.out.2.2.2.2.2.2; omega)
        rw [← hb] at hpl
        have HBV := Lib.hid hb
        have HLE := Lib.hid hle
        clear hmA hb
        go_wp2_with (go_at_call 85; (with_reducible refine hpl.mono ?_); rintro e w4 ⟨rfl, D1, hP, hW4, ho4, hf4⟩; have HX4 := Lib.hid (And.intro hP (And.intro hW4 (And.intro ho4 hf4))); clear hP hW4 ho4 hf4 hpl)
        go_roundg (l.length - (k + 1))
        case measure => omega
        case rel =>
          have hj := HJ.out
          have hx := HX4.out
          obtain ⟨pq, pn, pa, pf⟩ := hx.1.parts
          have bw := HBA.out
          have o4 : Only (MX A7 D dv) wr w4 := (Only.below bw).trans (hx.2.2.1.more (fun g hg => .inl hg))
          refine ⟨k + 1, by go_num, by omega, by omega, D1, dv, L, HMA.out.place hx.2.1 hx.2.2.1 hx.2.2.2 pn pq, hj.2.1.step o4 hj.2.2.1, fun g hg => ?_, fun D' L' h => hj.2.2.2.1 D' L' (by rw [HKL.out]; show (if t.2.2 ≤ (a : Int) then _ else _); rw [if_neg (Int.not_le.2 HLE.out)]; refine ⟨D1, ?_, h⟩; have e : t.2.2.toNat = b := (by have := HBV.out; omega); rw [e]; exact hx.1), fun u hu => pf _ (HND1.out u hu) (hj.2.2.2.2.1 u (by rw [HKL.out]; exact List.mem_cons_of_mem _ hu)), pq.trans hj.2.2.2.2.2.1, ?_⟩
          · rcases hg with h1 | h1
            · rcases hx.2.2.2 g h1 with h2 | h2
              · exact hj.2.2.1 g (.inl h2)
              · have h3 := hj.2.1.size
                have h4 := bw.size
                exact .inr (by omega)
            · exact hj.2.2.1 g (.inr h1)
          · have := hj.2.2.2.2.2.2
            omega
    · have hltz : ¬ (k : Int) < (l.length : Int) := by omega
      obtain rfl : k = l.length := by omega
      go_wp2_with fail
      refine bodyPost_end (results_none rfl _ _ _) rfl ?_
      obtain ⟨D, dv, L, hI⟩ := HI.out
      exact ⟨rfl, D, dv, L, hI.2.2.2.1 _ _ (by rw [List.drop_length]; exact ⟨rfl, rfl⟩), hI.1, hI.2.1, hI.2.2.1, hI.2.2.2.2.2.1, by have := hI.2.2.2.2.2.2; have := HN.out; omega⟩
end Go.Proofs.YtfclmbneimbmnaaDoor
