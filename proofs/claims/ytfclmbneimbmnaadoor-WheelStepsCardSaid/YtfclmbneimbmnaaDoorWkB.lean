import Derived.Test.YtfclmbneimbmnaaDoorWhT
import Derived.Test.YtfclmbneimbmnaaDoorWhI
import Derived.Test.YtfclmbneimbmnaaDoorWfA
import Derived.Test.YtfclmbneimbmnaaDoorWfB
import Derived.Deep.RegionHeld3
import Derived.BigQuiet
namespace Go.Proofs.YtfclmbneimbmnaaDoor
open Go.RowKit
/- A row of things of one's own, cloned; what lies in it. -/
open Go.RowKit
theorem append_tsY {w : World} {ops : Array Oper} {rest : List Oper} {o : Oper} {a : Act} {Q : Exit → Act → World → Prop} (hgd : o.guard = none) (s x : Operand)
    (ho : o.op = .call { callee := .builtin .append, args := #[s, x], argTypes := #[22, 22] })
    (base : Nat) (v : Value) (l m : List Th) (p : Option Addr) (n : Nat) (c : Nat) (hs : a.eval s = v) (hn : n = m.length) (hx : a.eval x = .slice p n c) (hown : OT w base v l)
    (hR : ∀ q, p = some q → ∀ j u, (thc m)[j]? = some u → w.cell? (q.add j) = some u) (hN : p = none → m = [] ∧ c = 0) (hlen : l.length + m.length ≤ 100000) (hbase : base ≤ w.heap.size)
    (h : ∀ v' w', OT w' base v' (l ++ m) → Only (fun k => v.ownBlock = some k) w w' → (v'.ownBlock = v.ownBlock ∨ v'.ownBlock = some w.heap.size) → wpList Tryd.prog ops Q rest (a.put o.dst v') w') : wpList Tryd.prog ops Q (o :: rest) a w := by
  cases p with
  | some p => exact append_tsW hgd s x ho base v l m p n c hs hn hx hown (hR p rfl) hlen hbase fun v' w' h1 h2 h3 => h v' w' h1 h2 h3
  | none =>
    obtain ⟨rfl, rfl⟩ := hN rfl
    subst hn
    obtain ⟨i0, hi, hz0, hz1, hz2⟩ := info_parts th_info
    exact wpList_append_own_none hgd s x 22 ho base 27 i0 3 Tryd.underlying22 hi v l.length (thc l) hs hown hx (h v w (by rw [List.append_nil]; exact hown) (Only.refl _ _) (.inl rfl))

theorem OT.lo {w : World} {base : Nat} {v : Value} {l : List Th} (h : OT w base v l) {g : Nat} (hg : v.ownBlock = some g) : base ≤ g := (World.ownsRow.lt h g hg).1
theorem OT.news {w : World} {base : Nat} {a : Option Addr} {n c : Nat} {l : List Th} (h : OT w base (.slice a n c) l) : ∀ q, a = some q → ∀ j u, (thc l)[j]? = some u → w.cell? (q.add j) = some u := by
  intro q hq j u hj
  subst hq
  have hlen : (thc l).length = l.length * 3 := thc_len l
  have hj3 : j < l.length * 3 := by
    have := (List.getElem?_eq_some_iff.1 hj).1
    omega
  have h' := h
  rcases h'.2 with ⟨hv, _⟩ | ⟨g, cap, cur, hv, _⟩
  · cases hv
  · injection hv with e1 e2 e3
    injection e1 with e1
    subst e1
    subst e2
    have := World.ownsRow.cellAt h j hj3
    rw [hj] at this
    by_cases h0 : j = 0
    · subst h0
      simpa [Addr.add] using this
    · simpa [Addr.add, h0] using this
theorem OT.nilp {w : World} {base : Nat} {a : Option Addr} {n c : Nat} {l : List Th} (h : OT w base (.slice a n c) l) : a = none → l = [] ∧ c = 0 := by
  intro ha
  subst ha
  rcases h.2 with ⟨hv, h0⟩ | ⟨g, cap, cur, hv, _⟩
  · injection hv with _ _ e3
    exact ⟨List.length_eq_zero_iff.1 h0, e3⟩
  · cases hv
set_option maxRecDepth 100000 in
set_option maxHeartbeats 4000000 in
theorem clone_th {base : Nat} {v : Value} {l : List Th} (w : World) (h : OT w base v l) (hl : l.length ≤ 100000) :
    Calls Tryd.prog 84 #[v] w fun e w' => ∃ v', e = .returned v' ∧ OT w' w.heap.size v' l ∧ Below w.heap.size w w' := by
  obtain ⟨a, c, rfl⟩ := h.shape
  have hn := h.nilp
  cases a with
  | none =>
    obtain ⟨rfl, rfl⟩ := hn rfl
    have he : ∀ w : World, (binOp .eql 22 (.slice none 0 0) (.slice none 0 0)).run Tryd.prog w = .ok (.bool true) w := fun _ => rfl
    go_enter Tryd.func84, Tryd.ntmps84
    go_wp2_with fail
    go_ret
    exact ⟨_, rfl, OT.nil w _, Below.refl _ _⟩
  | some q =>
    have mixed := insTh.mixed
    have hEm := OT.empty w w.heap.size (Nat.le_refl _)
    have bE : Below w.heap.size w (w.alloc (.cells #[] 27)) := (Below.refl _ _).alloc (Nat.le_refl _) _
    have HE := Lib.hid (And.intro hEm bE)
    have HNW := Lib.hid (h.below bE).news
    clear hEm bE hn h
    have he : ∀ w : World, (binOp .eql 22 (.slice (some q) l.length c) (.slice none 0 0)).run Tryd.prog w = .ok (.bool false) w := fun _ => rfl
    go_enter Tryd.func84, Tryd.ntmps84
    go_wp2_with (at_builtin; refine append_tsW rfl (.tmp 5) (.tmp 6) rfl w.heap.size (.slice (some ⟨w.heap.size, 0, none⟩) 0 0) [] l q l.length c rfl rfl rfl HE.out.1 (HNW.out q rfl) (by simp; omega) HE.out.2.size ?_; rw [List.nil_append]; intro v3 w3 hO3 hg3 hob3; obtain ⟨a3, c3, rfl⟩ := hO3.shape)
    go_ret
    exact ⟨_, rfl, hO3, HE.out.2.trans (hg3.toBelow HE.out.2.size (fun k hk => by cases hk; exact Nat.le_refl _))⟩
/- A wheel's All: what waits, sorted, in new memory. -/
open Go.RowKit
def ringS (S : Nat → List Th) : Nat → List Th
  | 0 => []
  | n + 1 => ringS S n ++ srt ltT zT (S n)
def allS (D : WD) : Nat → List Th
  | 0 => D.BL
  | k + 1 => allS D k ++ ringS (D.R k).S 64
theorem ringS_perm (S : Nat → List Th) : ∀ n, (ringS S n).Perm (ringL S n)
  | 0 => List.Perm.refl _
  | n + 1 => (ringS_perm S n).append (srt_perm ltT zT (S n))
theorem ringS_len (S : Nat → List Th) (n : Nat) : (ringS S n).length = tot S n := (ringS_perm S n).length_eq.trans (ringL_len S n)
theorem tot_mono (S : Nat → List Th) (a : Nat) : ∀ n, a ≤ n → tot S a ≤ tot S n := by
  intro n
  induction n with
  | zero => intro h; obtain rfl : a = 0 := by omega
            exact Nat.le_refl _
  | succ n ih =>
    intro h
    by_cases e : a = n + 1
    · subst e; exact Nat.le_refl _
    · have := ih (by omega)
      simp only [tot]
      omega
theorem allS_perm (D : WD) : (allS D 4).Perm D.things := by
  show ((((D.BL ++ ringS (D.R 0).S 64) ++ ringS (D.R 1).S 64) ++ ringS (D.R 2).S 64) ++ ringS (D.R 3).S 64).Perm _
  unfold WD.things
  simp only [List.append_assoc]
  refine List.perm_append_comm.trans ?_
  simp only [List.append_assoc]
  exact (ringS_perm _ _).append ((ringS_perm _ _).append ((ringS_perm _ _).append ((ringS_perm _ _).append_right _)))
theorem allS_len (D : WD) : ∀ k, k ≤ 4 → (allS D k).length + (if k < 4 then tot (D.R k).S 64 else 0) ≤ D.things.length := by
  intro k hk
  rw [← D.all_things]
  unfold WD.all WD.n
  match k, hk with
  | 0, _ => simp only [allS]; simp; omega
  | 1, _ => simp only [allS, List.length_append, ringS_len]; simp; omega
  | 2, _ => simp only [allS, List.length_append, ringS_len]; simp; omega
  | 3, _ => simp only [allS, List.length_append, ringS_len]; simp; omega
  | 4, _ => simp only [allS, List.length_append, ringS_len]; simp; omega
set_option maxRecDepth 100000 in
set_option maxHeartbeats 8000000 in
theorem wall {D : WD} {w : World} (h : Wl w D) (hfew : D.things.length ≤ 256) :
    Calls Tryd.prog 36 #[.pointer (some ⟨D.q, 0, none⟩)] w fun e w' => ∃ v, e = .returned v ∧ OT w' w.heap.size v (srt ltT zT (allS D 4)) ∧ Below w.heap.size w w' := by
  have mixed := insTh.mixed
  have HF := Lib.hid (And.intro hfew (allS_len D))
  have hc := wcreated D w h
  have hcl := clone_th w h.own (by have := allS_len D 0 (by omega); simp only [allS] at this; omega)
  have r0 := h.cr 0 (by omega)
  have r1 := h.cr 1 (by omega)
  have r2 := h.cr 2 (by omega)
  have r3 := h.cr 3 (by omega)
  have c5 := h.c5
  obtain ⟨A, hAe⟩ : ∃ A : Array Value, #[Value.pointer (some ⟨(D.R 0).r, 0, none⟩), .pointer (some ⟨(D.R 1).r, 0, none⟩), .pointer (some ⟨(D.R 2).r, 0, none⟩), .pointer (some ⟨(D.R 3).r, 0, none⟩)] = A := ⟨_, rfl⟩
  have HIX : Hid (∀ k : Nat, k < 4 → ∀ w, Sem.run Tryd.prog (Instr.index 79 (.agg A) (.int .i64 k)) w = .ok (.pointer (some ⟨(D.R k).r, 0, none⟩)) w) := Lib.hid (fun k hk w => by
    subst hAe
    refine run_index_arr Tryd.underlying79 Tryd.sizeOf38 Tryd.isAgg38 k hk (by omega) ?_ w
    match k, hk with
    | 0, _ => rfl
    | 1, _ => rfl
    | 2, _ => rfl
    | 3, _ => rfl)
  have H0 := Lib.hid h
  clear h hfew
  go_enter Tryd.func36, Tryd.ntmps36
  go_wp2_with (go_at_call 82; (with_reducible refine hc.mono ?_); rintro e w1 ⟨rfl, rfl⟩)
  refine hcl.mono ?_
  rintro e w2 ⟨v0, rfl, hO, hb⟩
  have g0 := (hb.cell (p := ⟨D.q, 1, none⟩) (cell_lt r0)).trans r0
  have g1 := (hb.cell (p := ⟨D.q, 2, none⟩) (cell_lt r1)).trans r1
  have g2 := (hb.cell (p := ⟨D.q, 3, none⟩) (cell_lt r2)).trans r2
  have g3 := (hb.cell (p := ⟨D.q, 4, none⟩) (cell_lt r3)).trans r3
  have HB := Lib.hid hb
  have HO := Lib.hid hO
  clear hb hO r0 r1 r2 r3 hc hcl c5
  go_wp2_with fail
  clear g0 g1 g2 g3 hAe
  go_loopg [3, 19] 4 (fun kx s3 s19 wr => ∃ (k : Nat), s19 = .int .i64 k ∧ k ≤ 4 ∧ 4 - k ≤ kx ∧ Hid (OT wr w1.heap.size s3 (allS D k)) ∧ Hid (Below w1.heap.size w1 wr))
  case atStart => exact ⟨0, rfl, by omega, by omega, HO, HB⟩
  case round =>
    obtain ⟨k, rfl, hk, hkx, HK, HW⟩ := hrel
    by_cases hlt : k < 4
    · have hk4z : (k : Int) < 4 := by omega
      have hix := HIX.out k hlt
      go_wp2_with fail
      go_loopg [3, 22] 64 (fun kx s3 s22 wr => ∃ (s : Nat), s22 = .int .i64 s ∧ s ≤ 64 ∧ 64 - s ≤ kx ∧ Hid (OT wr w1.heap.size s3 (allS D k ++ ringS (D.R k).S s)) ∧ Hid (Below w1.heap.size w1 wr))
      case atStart => exact ⟨0, rfl, by omega, by omega, (by show OT _ _ _ (allS D k ++ []); rw [List.append_nil]; exact HK.out), HW⟩
      case round =>
        obtain ⟨s, rfl, hs, hsx, HS, HX⟩ := hrel
        by_cases hls : s < 64
        · have hs4z : (s : Int) < 64 := by omega
          have hlook := look_any wr ((H0.out.below HX.out).rg k hlt) hls
          have hlen : (allS D k ++ ringS (D.R k).S s).length + (srt ltT zT ((D.R k).S s)).length ≤ 100000 := by
            have h1 := HF.out.2 k hk
            rw [if_pos hlt] at h1
            have h2 : tot (D.R k).S s + ((D.R k).S s).length ≤ tot (D.R k).S 64 := tot_mono (D.R k).S (s + 1) 64 (by omega)
            rw [List.length_append, ringS_len, srtT_len]
            have := HF.out.1
            omega
          go_wp2_with fail
          refine hlook.mono ?_
          rintro e w3 ⟨v3, rfl, hO3, hb3⟩
          obtain ⟨a3, c3, rfl⟩ := hO3.shape
          have HS3 := Lib.hid (HS.out.below hb3)
          have HX3 := Lib.hid (HX.out.trans (hb3.mono HX.out.size))
          have HO3 := Lib.hid hO3
          clear hb3 hO3 hlook
          go_wp2_with (at_builtin; go_must (refine append_tsY rfl (.tmp 25) (.tmp 28) rfl w1.heap.size u3 (allS D k ++ ringS (D.R k).S s) (srt ltT zT ((D.R k).S s)) a3 (srt ltT zT ((D.R k).S s)).length c3 rfl rfl rfl HS3.out HO3.out.news HO3.out.nilp hlen HX3.out.size ?_); intro v4 w4 hO4 ho4 hob4; have HX4 := Lib.hid (HX3.out.trans (ho4.toBelow HX3.out.size (fun g hg => OT.lo HS3.out hg))); have HO4 := Lib.hid hO4; clear hO4 ho4 hob4)
          go_roundg (64 - (s + 1))
          case measure => omega
          case rel => exact ⟨s + 1, by go_num, by omega, by omega, (by show OT _ _ _ (allS D k ++ (ringS (D.R k).S s ++ _)); rw [← List.append_assoc]; exact HO4.out), HX4⟩
        · have hs4z : ¬ (s : Int) < 64 := by omega
          obtain rfl : s = 64 := by omega
          go_wp2_with fail
          go_roundg (4 - (k + 1))
          case measure => omega
          case rel => exact ⟨k + 1, by go_num, by omega, by omega, HS, HX⟩
    · have hk4z : ¬ (k : Int) < 4 := by omega
      obtain rfl : k = 4 := by omega
      have hs := sort_any wr HK.out (by have h1 := HF.out.2 4 (by omega); have := HF.out.1; simp at h1; omega)
      go_wp2_with (go_at_call 19; go_loud ((with_reducible refine hs.mono ?_); rintro e w5 ⟨rfl, hO5, ho5⟩; have HX5 := Lib.hid (HW.out.trans (ho5.toBelow HW.out.size (fun g hg => OT.lo HK.out hg))); have HO5 := Lib.hid hO5; clear hO5 ho5 hs))
      go_ret
      exact ⟨_, rfl, HO5.out, HX5.out⟩
/- All told by the things that wait; how many wait in each ring; two wheels side by side. -/
open Go.RowKit
theorem ltT_eqW {x y : Th} (h1 : ltT x y = false) (h2 : ltT y x = false) : x.1 = y.1 := by
  obtain ⟨a, b, c⟩ := x
  obtain ⟨a', b', c'⟩ := y
  unfold ltT at h1 h2
  simp at h1 h2
  show a = a'
  omega
/-- A row of things with unlike IDs is sorted in one way alone. -/
theorem srt_eqW {l1 l2 : List Th} (hp : l1.Perm l2) (hn : (l1.map (·.1)).Nodup) : srt ltT zT l1 = srt ltT zT l2 := by
  refine up_unique _ _ (((srt_perm ltT zT l1).trans hp).trans (srt_perm ltT zT l2).symm) (srt_up ltT_swo zT l1) (srt_up ltT_swo zT l2) (fun x hx y hy h1 h2 => ?_)
  have hx' := (srt_perm ltT zT l1).mem_iff.1 hx
  have hy' := (srt_perm ltT zT l1).mem_iff.1 hy
  have he := ltT_eqW h1 h2
  obtain ⟨i, hi, rfl⟩ := List.mem_iff_getElem.1 hx'
  obtain ⟨j, hj, rfl⟩ := List.mem_iff_getElem.1 hy'
  have := (List.pairwise_iff_getElem.1 hn)
  by_cases hij : i = j
  · subst hij; rfl
  · rcases Nat.lt_or_gt_of_ne hij with h | h
    · exact absurd (by rw [List.getElem_map, List.getElem_map]; exact he) (this i j (by simpa using hi) (by simpa using hj) h)
    · exact absurd (by rw [List.getElem_map, List.getElem_map]; exact he.symm) (this j i (by simpa using hj) (by simpa using hi) h)
theorem WI.all {B a : Nat} {w : World} {D : WD} (h : WI B w D a) :
    Calls Tryd.prog 36 #[.pointer (some ⟨D.q, 0, none⟩)] w fun e w' => ∃ v, e = .returned v ∧ OT w' w.heap.size v (srt ltT zT D.things) ∧ Below w.heap.size w w' := by
  refine (wall h.wl h.few).mono ?_
  rintro e w' ⟨v, he, ho, hb⟩
  refine ⟨v, he, ?_, hb⟩
  rw [srt_eqW (allS_perm D).symm h.nd]
  exact ho
/-- In which ring a thing waits. -/
def lvT (a : Nat) (t : Th) : Nat := lvN a t.2.2.toNat
theorem flt_in {p : Th → Bool} {l : List Th} (h : ∀ t ∈ l, p t = true) : (l.filter p).length = l.length := by rw [List.filter_eq_self.2 h]
theorem flt_out {p : Th → Bool} {l : List Th} (h : ∀ t ∈ l, p t = false) : (l.filter p).length = 0 := by
  rw [List.filter_eq_nil_iff.2 (fun t ht => by rw [h t ht]; exact Bool.false_ne_true)]
  rfl
theorem WI.lev {B a : Nat} {w : World} {D : WD} (h : WI B w D a) {k : Nat} (hk : k < 4) : ∀ t ∈ ringL (D.R k).S 64, lvT a t = k := by
  intro t ht
  obtain ⟨s, hs, hts⟩ := mem_ringL.1 ht
  obtain ⟨d, e, _, hl, _⟩ := h.pos k hk s hs t hts
  unfold lvT
  rw [e]
  exact hl
theorem WI.levB {B a : Nat} {w : World} {D : WD} (h : WI B w D a) : ∀ t ∈ D.BL, lvT a t = 4 := by
  intro t ht
  obtain ⟨d, e, _, hl⟩ := h.far t ht
  unfold lvT
  rw [e]
  exact hl
theorem WI.part {B a : Nat} {w : World} {D : WD} (h : WI B w D a) {j : Nat} (hj : j < 4) (k : Nat) : ((ringL (D.R j).S 64).filter (fun t => lvT a t == k)).length = if j = k then D.n j else 0 := by
  have hl := h.lev hj
  by_cases e : j = k
  · rw [if_pos e, flt_in (fun t ht => by rw [hl t ht, e]; simp), ringL_len]
    rfl
  · rw [if_neg e, flt_out (fun t ht => by rw [hl t ht]; simpa using e)]
theorem WI.cnt {B a : Nat} {w : World} {D : WD} (h : WI B w D a) (k : Nat) : (D.things.filter (fun t => lvT a t == k)).length = (if 0 = k then D.n 0 else 0) + ((if 1 = k then D.n 1 else 0) + ((if 2 = k then D.n 2 else 0) + ((if 3 = k then D.n 3 else 0) + (if 4 = k then D.BL.length else 0)))) := by
  unfold WD.things
  simp only [List.filter_append, List.length_append]
  rw [h.part (by omega : 0 < 4) k, h.part (by omega : 1 < 4) k, h.part (by omega : 2 < 4) k, h.part (by omega : 3 < 4) k]
  have hl := h.levB
  by_cases e : 4 = k
  · rw [if_pos e, flt_in (fun t ht => by rw [hl t ht, e]; simp)]
  · rw [if_neg e, flt_out (fun t ht => by rw [hl t ht]; simpa using e)]
/-- Two wheels at one instant of which the same waits: as many in each ring. -/
theorem WI.same {B B' a : Nat} {w w' : World} {D D' : WD} (h : WI B w D a) (h' : WI B' w' D' a) (hp : D.things.Perm D'.things) : D.n 0 = D'.n 0 ∧ D.n 1 = D'.n 1 ∧ D.n 2 = D'.n 2 ∧ D.n 3 = D'.n 3 ∧ D.BL.length = D'.BL.length := by
  have key : ∀ k, (D.things.filter (fun t => lvT a t == k)).length = (D'.things.filter (fun t => lvT a t == k)).length := fun k => (hp.filter _).length_eq
  have k0 := key 0
  have k1 := key 1
  have k2 := key 2
  have k3 := key 3
  have k4 := key 4
  rw [h.cnt, h'.cnt] at k0 k1 k2 k3 k4
  simp at k0 k1 k2 k3 k4
  exact ⟨k0, k1, k2, k3, k4⟩
/-- Two wheels that share no block. -/
structure Tw (B : Nat) (w : World) (D E : WD) (a b : Nat) : Prop where
  l : WI B w D a
  r : WI B w E b
  ap : ∀ g, D.fp g → ¬ E.fp g
theorem Tw.below {B a b : Nat} {w w' : World} {D E : WD} (h : Tw B w D E a b) (hb : Below w.heap.size w w') : Tw B w' D E a b := ⟨h.l.below hb, h.r.below hb, h.ap⟩
theorem Tw.left {B a b a' : Nat} {w w' : World} {D D' E : WD} (h : Tw B w D E a b) (h1 : WI B w' D' a') (ho : Only D.fp w w') (hf : ∀ g, D'.fp g → D.fp g ∨ w.heap.size ≤ g) : Tw B w' D' E a' b :=
  ⟨h1, h.r.only ho (fun g hg hd => h.ap g hd hg), fun g hg he => by
    rcases hf g hg with h2 | h2
    · exact h.ap g h2 he
    · have := h.r.wl.lt he
      omega⟩
theorem Tw.right {B a b b' : Nat} {w w' : World} {D E E' : WD} (h : Tw B w D E a b) (h1 : WI B w' E' b') (ho : Only E.fp w w') (hf : ∀ g, E'.fp g → E.fp g ∨ w.heap.size ≤ g) : Tw B w' D E' a b' :=
  ⟨h.l.only ho (fun g hg hd => h.ap g hg hd), h1, fun g hg he => by
    rcases hf g he with h2 | h2
    · exact h.ap g hg h2
    · have := h.l.wl.lt hg
      omega⟩
/-- The error of an Arm is one for all that waits, in whichever order. -/
theorem armE_perm {L L' : List Th} (hp : L.Perm L') (t : Th) : armE L t = armE L' t := by
  have he : (∃ u ∈ L, u.1 = t.1) ↔ ∃ u ∈ L', u.1 = t.1 := by simp only [hp.mem_iff]
  unfold armE
  by_cases h1 : InsB t.2.2 = false
  · rw [if_pos h1, if_pos h1]
  · rw [if_neg h1, if_neg h1]
    by_cases h2 : ∃ u ∈ L, u.1 = t.1
    · rw [if_pos h2, if_pos (he.1 h2)]
    · rw [if_neg h2, if_neg (fun h => h2 (he.2 h)), hp.length_eq]
/-- Two wheels of which the same waits. -/
def F2 (B qa qb now : Nat) (T : List Th) (w0 w : World) : Prop := ∃ D E, Tw B w D E now now ∧ D.q = qa ∧ E.q = qb ∧ D.things.Perm T ∧ E.things.Perm T ∧ Below B w0 w
/-- One of them has armed a thing, the other not yet. -/
def F2m (B qa qb now K : Nat) (T : List Th) (t : Th) (w0 w : World) : Prop := ∃ D E, Tw B w D E now now ∧ ¬ E.fp K ∧ K < w.heap.size ∧ D.q = qa ∧ E.q = qb ∧ D.things.Perm (if armE T t = 0 then T ++ [t] else T) ∧ E.things.Perm T ∧ Below B w0 w
theorem F2.bel {B qa qb now : Nat} {T : List Th} {w0 w : World} (h : F2 B qa qb now T w0 w) : Below B w0 w := by
  obtain ⟨_, _, _, _, _, _, _, hb⟩ := h
  exact hb
theorem idOk_ofW {x : Int} (h : (Lit.int .u64 x).wf = true) : IdOk x := by
  have h1 : IntKind.u64.min = 0 := by decide
  have h2 : IntKind.u64.max = 18446744073709551615 := by decide
  simp only [Lit.wf, h1, h2, Bool.and_eq_true, decide_eq_true_eq] at h
  unfold IdOk
  omega
theorem wf_i64W {x : Int} (h : (Lit.int .i64 x).wf = true) : -9223372036854775808 ≤ x ∧ x ≤ 9223372036854775807 := by
  have h1 : IntKind.i64.min = -9223372036854775808 := by decide
  have h2 : IntKind.i64.max = 9223372036854775807 := by decide
  simp only [Lit.wf, h1, h2, Bool.and_eq_true, decide_eq_true_eq] at h
  omega
theorem cellW_eq {w w' : World} {g o : Nat} (h : w'.heap[g]? = w.heap[g]?) : w'.cell? ⟨g, o, none⟩ = w.cell? ⟨g, o, none⟩ := by simp only [World.cell?, h]
theorem three_atW {w : World} {T : Nat} {a b c : Value} {t : TypeId} (h : w.heap[T]? = some (.cells #[a, b, c] t (0, 0))) : (w.cell? ⟨T, 0, none⟩ = some a ∧ w.cell? ⟨T, 1, none⟩ = some b ∧ w.cell? ⟨T, 2, none⟩ = some c) ∧ ∀ j, w.frozen? ⟨T, j, none⟩ = false := by
  simp [World.cell?, World.frozen?, h]
theorem below_only {B : Nat} {w0 w w' : World} {D : WD} {a : Nat} (hb : Below B w0 w) (hw : WI B w D a) (ho : Only D.fp w w') (hB : B ≤ w0.heap.size) : Below B w0 w' := hb.trans (ho.toBelow (by have := hb.size; omega) (fun g hg => hw.base g hg))
theorem F2.arm {B qa qb now : Nat} {T : List Th} {w0 w1 w : World} (h : F2 B qa qb now T w0 w1) (hB : B ≤ w0.heap.size) (hw : Below w1.heap.size w1 w) {K : Nat} (hK : w1.heap.size ≤ K) (hK1 : K < w.heap.size) (t : Th) (hx : IdOk t.1) (ht : -9223372036854775808 ≤ t.2.2 ∧ t.2.2 ≤ 9223372036854775807) :
    Calls Tryd.prog 38 #[.pointer (some ⟨qa, 0, none⟩), .agg #[.int .u64 t.1, .int .u64 t.2.1, .int .i64 t.2.2]] w fun e w' => e = .returned (.int .i64 (armE T t)) ∧ F2m B qa qb now K T t w0 w' ∧ w'.heap[K]? = w.heap[K]? := by
  obtain ⟨D, E, hT, rfl, rfl, hp, hq, hb⟩ := h
  have hlt := fun g (hg : D.fp g) => hT.l.wl.lt hg
  have hlE := fun g (hg : E.fp g) => hT.r.wl.lt hg
  replace hb := hb.trans (hw.mono (by have := hb.size; omega))
  replace hT := hT.below hw
  have hBw : B ≤ w.heap.size := by have := hb.size; omega
  refine (warm hT.l hBw t hx ht).mono ?_
  rintro e w' ⟨rfl, D', h1, h2, h3, h4, h5⟩
  rw [armE_perm hp t] at h3 ⊢
  refine ⟨rfl, ⟨D', E, hT.left h1 h4 h5, fun he => by have := hlE K he; omega, Nat.lt_of_lt_of_le hK1 h4.size, h2, rfl, ?_, hq, below_only hb hT.l h4 hB⟩, h4.block K hK1 (fun hd => by have := hlt K hd; omega)⟩
  by_cases e0 : armE T t = 0
  · rw [if_pos e0] at h3 ⊢
    exact h3.trans (hp.append_right _)
  · rw [if_neg e0] at h3 ⊢
    exact h3.trans hp
theorem F2m.arm {B qa qb now K : Nat} {T : List Th} {t : Th} {w0 w : World} (h : F2m B qa qb now K T t w0 w) (hB : B ≤ w0.heap.size) (hx : IdOk t.1) (ht : -9223372036854775808 ≤ t.2.2 ∧ t.2.2 ≤ 9223372036854775807) :
    Calls Tryd.prog 38 #[.pointer (some ⟨qb, 0, none⟩), .agg #[.int .u64 t.1, .int .u64 t.2.1, .int .i64 t.2.2]] w fun e w' => e = .returned (.int .i64 (armE T t)) ∧ F2 B qa qb now (if armE T t = 0 then T ++ [t] else T) w0 w' ∧ w'.heap[K]? = w.heap[K]? := by
  obtain ⟨D, E, hT, hnK, hKw, rfl, rfl, hp, hq, hb⟩ := h
  have hBw : B ≤ w.heap.size := by have := hb.size; omega
  refine (warm hT.r hBw t hx ht).mono ?_
  rintro e w' ⟨rfl, E', h1, h2, h3, h4, h5⟩
  rw [armE_perm hq t] at h3 ⊢
  refine ⟨rfl, ⟨D, E', hT.right h1 h4 h5, rfl, h2, hp, ?_, below_only hb hT.r h4 hB⟩, h4.block K hKw hnK⟩
  by_cases e0 : armE T t = 0
  · rw [if_pos e0] at h3 ⊢
    exact h3.trans (hq.append_right _)
  · rw [if_neg e0] at h3 ⊢
    exact h3.trans hq
/- Two wheels, of which one has made all the way at once, the other a part of it. -/
open Go.RowKit
structure G (B qa qb u b : Nat) (x : Int) (v1 v2 : Value) (p : Option Addr) (st : List Int) (D E : WD) (L M : List Th) (w0 w : World) : Prop where
  tw : Tw B w D E u b
  qd : D.q = qa
  qe : E.q = qb
  perm : (D.things ++ L).Perm (E.things ++ M)
  dueL : ∀ t ∈ L, t.2.2 ≤ (u : Int)
  dueM : ∀ t ∈ M, t.2.2 ≤ (u : Int)
  late : ∀ t ∈ D.things, (u : Int) < t.2.2
  lat2 : ∀ t ∈ E.things, x < t.2.2
  r1 : OT w B v1 (srt ltT zT L)
  r2 : OT w B v2 M
  a1 : ∀ g, v1.ownBlock = some g → ¬ E.fp g ∧ v2.ownBlock ≠ some g
  a2 : ∀ g, v2.ownBlock = some g → ¬ D.fp g ∧ ¬ E.fp g
  is : IS w p st
  a3 : ∀ g o, p = some ⟨g, o, none⟩ → g < w.heap.size ∧ ¬ E.fp g ∧ v2.ownBlock ≠ some g
  nd : ((D.things ++ L).map (·.1)).Nodup
  few : (D.things ++ L).length ≤ 256
  bel : Below B w0 w
theorem OT.mono {w : World} {b c : Nat} {v : Value} {l : List Th} (h : OT w b v l) (hc : c ≤ b) : OT w c v l := by
  refine ⟨h.1, ?_⟩
  rcases h.2 with h2 | ⟨g, cap, cur, e, hg, r⟩
  · exact .inl h2
  · exact .inr ⟨g, cap, cur, e, Nat.le_trans hc hg, r⟩
set_option maxRecDepth 100000 in
set_option maxHeartbeats 1000000 in
theorem F2.adv {B qa qb now u : Nat} {T : List Th} {w0 w : World} (h : F2 B qa qb now T w0 w) (hT : Tab w) (hB0 : 0 < B) (hB : B ≤ w0.heap.size) (hu : now ≤ u) (hto : u ≤ 1125899906842624) :
    Calls Tryd.prog 39 #[.pointer (some ⟨qa, 0, none⟩), .int .i64 u] w fun e w' => ∃ v D E L, e = .returned (.tuple #[v, .int .i64 0]) ∧ G B qa qb u now (-1) v (.slice none 0 0) none [] D E L [] w0 w' := by
  obtain ⟨D, E, hW, rfl, rfl, hp, hq, hb⟩ := h
  have hBw : B ≤ w.heap.size := by have := hb.size; omega
  refine (wadv hW.l hT hB0 hBw hu hto).mono ?_
  rintro e w' ⟨v, D', L, rfl, hA⟩
  refine ⟨v, D', E, L, rfl, ?_⟩
  have hpp : (D'.things ++ L).Perm D.things := hA.perm
  refine { tw := hW.left hA.wi hA.only hA.fps, qd := hA.q, qe := rfl, perm := (by rw [List.append_nil]; exact hpp.trans (hp.trans hq.symm)), dueL := hA.due, dueM := fun t ht => (by cases ht), late := hA.late, lat2 := ?_, r1 := OT.mono hA.row hBw, r2 := OT.nil _ _, a1 := ?_, a2 := fun g hg => (by cases hg), is := fun k hk => (by simp at hk), a3 := fun g o e => (by cases e), nd := nd_perm hpp hW.l.nd, few := (by rw [hpp.length_eq]; exact hW.l.few), bel := below_only hb hW.l hA.only hB }
  · intro t ht
    obtain ⟨d, e, _⟩ := hW.r.dues t ht
    omega
  · intro g hg
    refine ⟨fun he => ?_, fun h => by cases h⟩
    have h1 := OT.lo hA.row hg
    have h2 := hW.r.wl.lt he
    omega
theorem IS.only {X : Nat → Prop} {w w' : World} {a : Option Addr} {l : List Int} (h : IS w a l) (ho : Only X w w') (hx : ∀ g o, a = some ⟨g, o, none⟩ → ¬ X g) : IS w' a l := fun k hk => by
  obtain ⟨B, o, ha, c0⟩ := h k hk
  exact ⟨B, o, ha, (ho.cell (p := ⟨B, _, none⟩) (cell_lt c0) (hx B o ha)).trans c0⟩
set_option maxRecDepth 100000 in
set_option maxHeartbeats 1000000 in
/-- The second one's advance; and what holds when what it tells is laid to the rest. -/
theorem G.adv {B qa qb u b s : Nat} {x : Int} {v1 v2 : Value} {p : Option Addr} {st : List Int} {D E : WD} {L M : List Th} {w0 w : World} (h : G B qa qb u b x v1 v2 p st D E L M w0 w) (hT : Tab w) (hB0 : 0 < B) (hB : B ≤ w0.heap.size) (hs : b ≤ s) (hu : s ≤ u) (hto : u ≤ 1125899906842624) :
    Calls Tryd.prog 39 #[.pointer (some ⟨qb, 0, none⟩), .int .i64 s] w fun e w' => ∃ v E' N, e = .returned (.tuple #[v, .int .i64 0]) ∧ OT w' B v N ∧ OT w' B v2 M ∧ Below B w0 w' ∧ (M ++ N).length ≤ 256 ∧
      ∀ v' w'', OT w'' B v' (M ++ N) → Only (fun k => v2.ownBlock = some k) w' w'' → (v'.ownBlock = v2.ownBlock ∨ v'.ownBlock = some w'.heap.size) → G B qa qb u s s v1 v' p st D E' L (M ++ N) w0 w'' := by
  have hBw : B ≤ w.heap.size := by have := h.bel.size; omega
  obtain ⟨rfl⟩ := h.qe
  refine (wadv h.tw.r hT hB0 hBw hs (by omega)).mono ?_
  rintro e w' ⟨v, E', N, rfl, hA⟩
  have hb' : Below B w0 w' := below_only h.bel h.tw.r hA.only hB
  have h2 : OT w' B v2 M := OT.only h.r2 hA.only (fun g hg => (h.a2 g hg).2)
  have hpp : (E'.things ++ N).Perm E.things := hA.perm
  have hsr : (srt ltT zT N).Perm N := srt_perm ltT zT N
  have hperm : (D.things ++ L).Perm (E'.things ++ (M ++ srt ltT zT N)) := by
    refine h.perm.trans ?_
    refine ((hpp.symm.trans (List.Perm.append_left _ hsr.symm)).append_right M).trans ?_
    rw [List.append_assoc]
    exact List.Perm.append_left _ List.perm_append_comm
  have hlen : (M ++ srt ltT zT N).length ≤ 256 := by
    have h1 := hperm.length_eq
    have h2 := h.few
    simp only [List.length_append] at h1 h2 ⊢
    omega
  refine ⟨v, E', srt ltT zT N, rfl, OT.mono hA.row hBw, h2, hb', hlen, ?_⟩
  intro v' w'' hO hX hv
  have hTw := h.tw.right hA.wi hA.only hA.fps
  have hEw : ∀ g, E'.fp g → g < w'.heap.size := fun g hg => hA.wi.wl.lt hg
  have hDw : ∀ g, D.fp g → g < w'.heap.size := fun g hg => hTw.l.wl.lt hg
  have hsz : w.heap.size ≤ w'.heap.size := hA.only.size
  have notE : ∀ g, g < w.heap.size → ¬ E.fp g → ¬ E'.fp g := fun g hg hn he => by
    rcases hA.fps g he with h3 | h3
    · exact hn h3
    · omega
  have r1w : ∀ g, v1.ownBlock = some g → g < w.heap.size := fun g hg => OT.lt h.r1 hg
  have r2w : ∀ g, v2.ownBlock = some g → g < w.heap.size := fun g hg => OT.lt h.r2 hg
  have hv' : ∀ g, v'.ownBlock = some g → v2.ownBlock = some g ∨ g = w'.heap.size := fun g hg => by
    rcases hv with h3 | h3
    · exact .inl (h3 ▸ hg)
    · right
      rw [h3] at hg
      exact (Option.some.inj hg).symm
  refine { tw := ⟨hTw.l.only hX (fun g hg he => (h.a2 g he).1 hg), hTw.r.only hX (fun g hg he => notE g (r2w g he) (h.a2 g he).2 hg), hTw.ap⟩, qd := h.qd, qe := hA.q, perm := hperm, dueL := h.dueL, dueM := ?_, late := h.late, lat2 := hA.late, r1 := OT.only (OT.only h.r1 hA.only (fun g hg => (h.a1 g hg).1)) hX (fun g hg he => (h.a1 g hg).2 he), r2 := hO, a1 := ?_, a2 := ?_, is := ?_, a3 := ?_, nd := h.nd, few := h.few, bel := hb'.trans (hX.toBelow (by omega) (fun g hg => OT.lo h.r2 hg)) }
  · intro t ht
    rcases List.mem_append.1 ht with h3 | h3
    · exact h.dueM t h3
    · have := hA.due t (hsr.mem_iff.1 h3)
      omega
  · intro g hg
    have hgw := r1w g hg
    refine ⟨notE g hgw (h.a1 g hg).1, fun he => ?_⟩
    rcases hv' g he with h3 | h3
    · exact (h.a1 g hg).2 h3
    · omega
  · intro g hg
    rcases hv' g hg with h3 | h3
    · exact ⟨(h.a2 g h3).1, notE g (r2w g h3) (h.a2 g h3).2⟩
    · exact ⟨fun hd => by have := hDw g hd; omega, fun he => by have := hEw g he; omega⟩
  · exact IS.only (IS.only h.is hA.only (fun g o e => (h.a3 g o e).2.1)) hX (fun g o e => (h.a3 g o e).2.2)
  · intro g o e
    obtain ⟨h3, h4, h5⟩ := h.a3 g o e
    refine ⟨by have := hX.size; omega, notE g h3 h4, fun he => ?_⟩
    rcases hv' g he with h6 | h6
    · exact h5 h6
    · omega
theorem flt_le {u : Nat} {X L : List Th} (hX : ∀ t ∈ X, (u : Int) < t.2.2) (hL : ∀ t ∈ L, t.2.2 ≤ (u : Int)) : (X ++ L).filter (fun t => decide (t.2.2 ≤ (u : Int))) = L ∧ (X ++ L).filter (fun t => !decide (t.2.2 ≤ (u : Int))) = X := by
  rw [List.filter_append, List.filter_append]
  constructor
  · rw [List.filter_eq_nil_iff.2 (fun t ht => by have := hX t ht; simp; omega), List.filter_eq_self.2 (fun t ht => by have := hL t ht; simp; omega)]
    rfl
  · rw [List.filter_eq_self.2 (fun t ht => by have := hX t ht; simp; omega), List.filter_eq_nil_iff.2 (fun t ht => by have := hL t ht; simp; omega), List.append_nil]
theorem G.fin {B qa qb u : Nat} {v1 v2 : Value} {p : Option Addr} {st : List Int} {D E : WD} {L M : List Th} {w0 w : World} (h : G B qa qb u u u v1 v2 p st D E L M w0 w) : D.things.Perm E.things ∧ L.Perm M ∧ srt ltT zT L = srt ltT zT M ∧ srt ltT zT D.things = srt ltT zT E.things := by
  obtain ⟨e1, e2⟩ := flt_le h.late h.dueL
  obtain ⟨e3, e4⟩ := flt_le h.lat2 h.dueM
  have h1 := h.perm.filter (fun t => decide (t.2.2 ≤ (u : Int)))
  have h2 := h.perm.filter (fun t => !decide (t.2.2 ≤ (u : Int)))
  rw [e1, e3] at h1
  rw [e2, e4] at h2
  have hl := nd_left h.nd
  exact ⟨h2, h1, srt_eqW h1 hl.2, srt_eqW h2 hl.1⟩
/- A row of integers of one's own, and what is laid to it; such a row beside the two wheels. -/
open Go.RowKit
def ic (l : List Int) : List Value := l.map (Value.int .i64)
theorem i64_infoW : (Tryd.prog.info? 2).map (fun i => (i.zero, i.size, i.bytes)) = some (some (.int .i64 0), 1, 8) := by kernel_rfl
def OI (w : World) (base : Nat) (v : Value) (l : List Int) : Prop := w.ownsRow base 2 1 v l.length (ic l)
theorem OI.empty (w : World) (base : Nat) (h : base ≤ w.heap.size) : OI (w.alloc (.cells #[] 2)) base (.slice (some ⟨w.heap.size, 0, none⟩) 0 0) [] :=
  ⟨rfl, .inr ⟨w.heap.size, 0, #[], rfl, h, (MapKept.heap_alloc w _).1, Nat.le_refl _, by unfold maxLen; omega, rfl, rfl⟩⟩
theorem OI.lt {w : World} {base : Nat} {v : Value} {l : List Int} (h : OI w base v l) {g : Nat} (hg : v.ownBlock = some g) : base ≤ g ∧ g < w.heap.size := World.ownsRow.lt h g hg
theorem OI.below {w w' : World} {base : Nat} {v : Value} {l : List Int} (h : OI w base v l) (hb : Below w.heap.size w w') : OI w' base v l := by
  refine ⟨h.1, ?_⟩
  have hl := fun g => OI.lt h (g := g)
  rcases h.2 with h2 | ⟨g, cap, cur, e, hg, hc, r⟩
  · exact .inl h2
  · exact .inr ⟨g, cap, cur, e, hg, (hb.block g (hl g (by rw [e]; rfl)).2).trans hc, r⟩
theorem OI.shape {w : World} {base : Nat} {v : Value} {l : List Int} (h : OI w base v l) : ∃ a c, v = .slice a l.length c ∧ IS w a l ∧ ∀ g o, a = some ⟨g, o, none⟩ → v.ownBlock = some g := by
  have h' := h
  rcases h'.2 with ⟨rfl, h0⟩ | ⟨g, cap, cur, rfl, _, _, hc, _⟩
  · have e : l = [] := List.length_eq_zero_iff.1 h0
    subst e
    exact ⟨none, 0, rfl, fun k hk => (by simp at hk), fun g o e => (by cases e)⟩
  · refine ⟨_, _, rfl, fun k hk => ⟨g, 0, rfl, ?_⟩, fun g' o e => by cases e; rfl⟩
    rw [Nat.zero_add]
    exact (World.ownsRow.cellAt h k (by omega)).trans (by unfold ic; rw [List.getElem?_map, List.getElem?_eq_getElem hk]; rfl)
theorem IS.news {w : World} {q : Addr} {l : List Int} (h : IS w (some q) l) : ∀ j u, (ic l)[j]? = some u → w.cell? (q.add j) = some u := by
  intro j u hj
  have hlt : j < l.length := by
    have := (List.getElem?_eq_some_iff.1 hj).1
    simpa [ic] using this
  obtain ⟨B, o, e, c0⟩ := h j hlt
  cases e
  have : (ic l)[j]? = some (.int .i64 (l[j])) := by unfold ic; rw [List.getElem?_map, List.getElem?_eq_getElem hlt]; rfl
  rw [this] at hj
  cases hj
  by_cases h0 : j = 0
  · subst h0
    simpa [Addr.add] using c0
  · simpa [Addr.add, h0] using c0
theorem append_isW {w : World} {ops : Array Oper} {rest : List Oper} {o : Oper} {a : Act} {Q : Exit → Act → World → Prop} (hgd : o.guard = none) (s x : Operand)
    (ho : o.op = .call { callee := .builtin .append, args := #[s, x], argTypes := #[68, 68] })
    (base : Nat) (v : Value) (l m : List Int) (p : Option Addr) (n : Nat) (c : Nat) (hs : a.eval s = v) (hn : n = m.length) (hx : a.eval x = .slice p n c) (hown : OI w base v l)
    (hR : IS w p m) (hN : p = none → m = [] ∧ c = 0) (hlen : l.length + m.length ≤ 100000) (hbase : base ≤ w.heap.size)
    (h : ∀ v' w', OI w' base v' (l ++ m) → Only (fun k => v.ownBlock = some k) w w' → (v'.ownBlock = v.ownBlock ∨ v'.ownBlock = some w.heap.size) → wpList Tryd.prog ops Q rest (a.put o.dst v') w') : wpList Tryd.prog ops Q (o :: rest) a w := by
  subst hn
  obtain ⟨i0, hi, hz0, hz1, hz2⟩ := info_parts i64_infoW
  cases p with
  | some p =>
    refine wpList_append_own_at w hgd s x 68 ho base 2 i0 (.int .i64 0) 1 8 Tryd.underlying68 hi hz0 hz1 hz2 rfl (by decide) v l.length (ic l) hs hown p m.length c (ic m) hx (by simp [ic]) hR.news
      (fun u hu => by obtain ⟨z, _, rfl⟩ := List.mem_map.1 hu; rfl) (by unfold maxLen; omega) (by omega) hbase ?_
    intro v' w' h1 h2 _ h4
    exact h v' w' (by unfold OI; rw [List.length_append, show ic (l ++ m) = ic l ++ ic m from List.map_append]; exact h1) (grown_only h2 _ fun k hk => hk) h4
  | none =>
    obtain ⟨rfl, rfl⟩ := hN rfl
    exact wpList_append_own_none hgd s x 68 ho base 2 i0 1 Tryd.underlying68 hi v l.length (ic l) hs hown hx (h v w (by rw [List.append_nil]; exact hown) (Only.refl _ _) (.inl rfl))
theorem is_one (w : World) (z : Int) : IS (w.alloc (.cells #[.int .i64 z] 2)) (some ⟨w.heap.size, 0, none⟩) [z] := fun k hk => ⟨w.heap.size, 0, rfl, by
  obtain rfl : k = 0 := by simpa using hk
  exact World.cell?_alloc_at _ _ _ _ rfl⟩
/-- The two wheels, where a row of integers has been made since. -/
theorem G.row {B qa qb u b : Nat} {x : Int} {v1 v2 : Value} {p p' : Option Addr} {st st' : List Int} {D E : WD} {L M : List Th} {w0 w w' : World} (h : G B qa qb u b x v1 v2 p st D E L M w0 w) (hB : B ≤ w.heap.size) (hb : Below w.heap.size w w') (hi : IS w' p' st') (hp : ∀ g o, p' = some ⟨g, o, none⟩ → w.heap.size ≤ g ∧ g < w'.heap.size) : G B qa qb u b x v1 v2 p' st' D E L M w0 w' :=
  { tw := h.tw.below hb, qd := h.qd, qe := h.qe, perm := h.perm, dueL := h.dueL, dueM := h.dueM, late := h.late, lat2 := h.lat2, r1 := OT.below h.r1 hb, r2 := OT.below h.r2 hb, a1 := h.a1, a2 := h.a2, is := hi,
    a3 := fun g o e => ⟨(hp g o e).2, fun he => by have := h.tw.r.wl.lt he; have := (hp g o e).1; omega, fun he => by have := OT.lt h.r2 he; have := (hp g o e).1; omega⟩, nd := h.nd, few := h.few, bel := h.bel.trans (hb.mono hB) }
/- Two wheels that came to one instant; == of things and of counts. -/
open Go.RowKit
theorem th_structW : Tryd.prog.underlying 27 = some (.struct (Tryd.prog.fieldsOf 27)) := by kernel_rfl
theorem th_heldW : Tryd.prog.stoodInHeld 27 = false := by kernel_rfl
theorem eq_thW (x y z : Int) (w : World) : (Op.equalIn 10000 27 (.agg #[.int .u64 x, .int .u64 y, .int .i64 z]) (.agg #[.int .u64 x, .int .u64 y, .int .i64 z])).run Tryd.prog w = .ok true w := by
  rw [run_equalIn_agg w 9999 _ _ _ th_structW th_heldW]
  have h : Tryd.prog.underlying 2 = some (.int .i64) := Tryd.underlying2
  have h2 : Tryd.prog.underlying 25 = some (.int .u64) := Tryd.underlying25
  simp [Op.eqFields, go_sem, h, h2, Tryd.underlying27]
theorem neq_thW (x y z : Int) (w : World) : (binOp .neq 27 (.agg #[.int .u64 x, .int .u64 y, .int .i64 z]) (.agg #[.int .u64 x, .int .u64 y, .int .i64 z])).run Tryd.prog w = .ok (.bool false) w := by
  rw [run_neq_struct, eq_thW]; rfl
theorem eql_fiveW (a b c d e : Int) (w : World) : (binOp .eql 61 (.agg #[.int .i64 a, .int .i64 b, .int .i64 c, .int .i64 d, .int .i64 e]) (.agg #[.int .i64 a, .int .i64 b, .int .i64 c, .int .i64 d, .int .i64 e])).run Tryd.prog w = .ok (.bool true) w := by
  rw [run_eql_struct, eq_five]; rfl
theorem OT.ts {w : World} {base : Nat} {a : Option Addr} {n c : Nat} {l : List Th} (h : OT w base (.slice a n c) l) : n = l.length ∧ TS w a l := by
  obtain ⟨a', c', e, h'⟩ := h.reads
  injection e with e1 e2 e3
  subst e1
  exact ⟨e2, h'⟩
structure Fn (B qa qb u : Nat) (v1 v2 : Value) (D E : WD) (R : List Th) (w0 w : World) : Prop where
  tw : Tw B w D E u u
  qd : D.q = qa
  qe : E.q = qb
  hp : D.things.Perm E.things
  r1 : OT w B v1 R
  r2 : OT w B v2 R
  bel : Below B w0 w
theorem Fn.below {B qa qb u : Nat} {v1 v2 : Value} {D E : WD} {R : List Th} {w0 w w' : World} (h : Fn B qa qb u v1 v2 D E R w0 w) (hb : Below w.heap.size w w') (hB : B ≤ w.heap.size) : Fn B qa qb u v1 v2 D E R w0 w' :=
  ⟨h.tw.below hb, h.qd, h.qe, h.hp, OT.below h.r1 hb, OT.below h.r2 hb, h.bel.trans (hb.mono hB)⟩
theorem G.sorted {B qa qb u : Nat} {v1 v2 : Value} {p : Option Addr} {st : List Int} {D E : WD} {L M : List Th} {w0 w w' : World} (h : G B qa qb u u u v1 v2 p st D E L M w0 w) (hB : B ≤ w.heap.size) (hO : OT w' B v2 (srt ltT zT M)) (ho : Only (fun k => v2.ownBlock = some k) w w') : Fn B qa qb u v1 v2 D E (srt ltT zT L) w0 w' := by
  obtain ⟨f1, f2, f3, f4⟩ := h.fin
  refine ⟨⟨h.tw.l.only ho (fun g hg he => (h.a2 g he).1 hg), h.tw.r.only ho (fun g hg he => (h.a2 g he).2 hg), h.tw.ap⟩, h.qd, h.qe, f1, OT.only h.r1 ho (fun g hg he => (h.a1 g hg).2 he), by rw [f3]; exact hO, h.bel.trans (ho.toBelow hB (fun g hg => OT.lo h.r2 hg))⟩
/- WheelSteps: the walk of what is not skipped. -/
open Go.RowKit
set_option maxRecDepth 100000 in
set_option maxHeartbeats 16000000 in
theorem wsteps_ok (now u : Nat) (a1 : Option Addr) (c1 : Nat) (l : List Th) (a2 : Option Addr) (c2 : Nat) (steps : List Int) (w : World) (hT : Tab w) (hI1 : TS w a1 l) (hI2 : IS w a2 steps) (hb1 : ∀ t ∈ l, ThOk t) (hb2 : ∀ t ∈ steps, -9223372036854775808 ≤ t ∧ t ≤ 9223372036854775807) (n m : Nat) (hn : l.length = n) (hm : steps.length = m) (hn1 : n ≤ 100) (hn2 : m ≤ 60) (hN2 : a2 = none → steps = [] ∧ c2 = 0) (hnow : now ≤ u) (hto : u ≤ 1125899906842624) : Calls Tryd.prog 7 #[.int .i64 now, .slice a1 n c1, .slice a2 m c2, .int .i64 u] w fun e w' => e = .returned (.bool true) ∧ Below w.heap.size w w' := by
  have mixed := insTh.mixed
  obtain ⟨B, hB⟩ : ∃ B, w.heap.size = B := ⟨_, rfl⟩
  have hB0 : 0 < B := by have := hT.pos; omega
  have HSZ : Hid (∀ wr, Below B w wr → B ≤ wr.heap.size) := Lib.hid (fun wr h => hB ▸ (hB ▸ h : Below w.heap.size w wr).size)
  have HB0 : Hid (B ≤ w.heap.size) := Lib.hid (by omega)
  have HT : Hid (∀ w', Below B w w' → Tab w') := Lib.hid (fun w' h => hT.below (by rw [hB]; exact h))
  have HI1 : Hid (∀ w', Below B w w' → TS w' a1 l) := Lib.hid (fun w' h => hI1.below (by rw [hB]; exact h))
  have HI2 : Hid (∀ w', Below B w w' → IS w' a2 steps) := Lib.hid (fun w' h => hI2.below (by rw [hB]; exact h))
  have HD1 := Lib.hid hb1
  have HD2 := Lib.hid hb2
  have hnw := fun w1 => wnew (now : Int) w1 (by omega)
  have d1 : decide (100 < (n : Int)) = false := decide_eq_false (by omega)
  have d2 : decide (60 < (m : Int)) = false := decide_eq_false (by omega)
  have d3 : decide ((now : Int) < 0) = false := decide_eq_false (by omega)
  have d4 : decide ((u : Int) < (now : Int)) = false := decide_eq_false (by omega)
  have d5 : decide (1125899906842624 < (u : Int)) = false := decide_eq_false (by omega)
  have HN1 := Lib.hid hn
  have HN2 := Lib.hid hm
  have HZ2 := Lib.hid hN2
  clear hT hI1 hI2 hb1 hb2 hn hm hN2
  rw [hB]
  go_enter Tryd.func7, Tryd.ntmps7
  go_wp2_with fail
  refine (hnw w).mono ?_
  rintro e w1 ⟨q, R, rfl, hW1, hS1, hbl1, hbs1⟩
  have HW1 := Lib.hid (And.intro hW1 (And.intro hS1 (And.intro hbl1 hbs1)))
  clear hW1 hS1 hbl1 hbs1
  go_wp2_with fail
  refine (hnw w1).mono ?_
  rintro e w2 ⟨q2, R2, rfl, hW2, hS2, hbl2, hbs2⟩
  have HA : Hid (F2 B q q2 now [] w w2) := Lib.hid (by
    obtain ⟨hW1, hS1, hbl1, hbs1⟩ := HW1.out
    rw [hB] at hbl1 hbs1
    obtain ⟨h1, h2⟩ := WI.start hW1 hS1 (by omega) hbs1
    obtain ⟨g1, g2⟩ := WI.start hW2 hS2 (by omega) (fun g hg => Nat.le_trans (HSZ.out _ hbl1) (hbs2 g hg))
    exact ⟨_, _, ⟨h1.below hbl2, g1, fun g hg hg2 => by have := h1.wl.lt hg; have := hbs2 g hg2; omega⟩, rfl, rfl, by rw [h2], by rw [g2], hbl1.trans (hbl2.mono (HSZ.out _ hbl1))⟩)
  clear hnw hW2 hS2 hbl2 hbs2 d1 d2 d3 d4 d5 HW1
  go_wp2_with fail
  go_loopg [53] n (fun kx s53 wr => ∃ (k : Nat) (T : List Th), s53 = .int .i64 k ∧ k ≤ n ∧ n - k ≤ kx ∧ Hid (F2 B q q2 now T w wr))
  case atStart => exact ⟨0, [], rfl, by omega, by omega, HA⟩
  case round =>
    obtain ⟨k, T, rfl, hk, hkx, HS⟩ := hrel
    by_cases hlt : k < n
    · have hltz : (k : Int) < (n : Int) := by omega
      have hlk : k < l.length := by rw [HN1.out]; exact hlt
      have hk0 : (0 : Int) ≤ (k : Int) := by omega
      have hbw : Below B w wr := HS.out.bel
      obtain ⟨Bk, o, rfl, t0, t1, t2⟩ := (HI1.out _ hbw) k hlk
      have htk := HD1.out _ (List.getElem_mem hlk)
      obtain ⟨⟨tx, ty, tz⟩, htd⟩ : ∃ t, l[k]'hlk = t := ⟨_, rfl⟩
      rw [htd] at t0 t1 t2 htk
      have HX : Hid (IdOk tx ∧ -9223372036854775808 ≤ tz ∧ tz ≤ 9223372036854775807) := Lib.hid ⟨idOk_ofW htk.1, wf_i64W htk.2.2⟩
      clear htk htd hbw
      have hbA : Below wr.heap.size wr (wr.alloc (.cells #[.int .u64 tx, .int .u64 ty, .int .i64 tz] 27)) := (Below.refl _ _).alloc (Nat.le_refl _) _
      have hsz : (wr.alloc (.cells #[.int .u64 tx, .int .u64 ty, .int .i64 tz] 27)).heap.size = wr.heap.size + 1 := by simp
      have hszD : (wr.alloc (.cells #[.int .u64 tx, .int .u64 ty, .int .i64 tz] 27)).drew.heap.size = wr.heap.size + 1 := hsz
      have harm := HS.out.arm HB0.out hbA.drew (Nat.le_refl _) (by rw [hszD]; omega) (tx, ty, tz) HX.out.1 HX.out.2
      obtain ⟨⟨b0, b1, b2⟩, hbz⟩ := three_atW (MapKept.heap_alloc wr (.cells #[.int .u64 tx, .int .u64 ty, .int .i64 tz] 27)).1
      obtain ⟨K, hK⟩ : ∃ K, wr.heap.size = K := ⟨_, rfl⟩
      rw [hK] at b0 b1 b2 harm
      have HK : Hid (∀ w' w'' : World, w''.heap[K]? = w'.heap[K]? → w'.cell? ⟨K, 0, none⟩ = some (.int .u64 tx) ∧ w'.cell? ⟨K, 1, none⟩ = some (.int .u64 ty) ∧ w'.cell? ⟨K, 2, none⟩ = some (.int .i64 tz) → w''.cell? ⟨K, 0, none⟩ = some (.int .u64 tx) ∧ w''.cell? ⟨K, 1, none⟩ = some (.int .u64 ty) ∧ w''.cell? ⟨K, 2, none⟩ = some (.int .i64 tz)) := Lib.hid (fun w' w'' e h => ⟨(cellW_eq e).trans h.1, (cellW_eq e).trans h.2.1, (cellW_eq e).trans h.2.2⟩)
      have HM : Hid (∀ w', F2m B q q2 now K T (tx, ty, tz) w w' → Calls Tryd.prog 38 #[.pointer (some ⟨q2, 0, none⟩), .agg #[.int .u64 tx, .int .u64 ty, .int .i64 tz]] w' fun e w'' => e = .returned (.int .i64 (armE T (tx, ty, tz))) ∧ F2 B q q2 now (if armE T (tx, ty, tz) = 0 then T ++ [(tx, ty, tz)] else T) w w'' ∧ w''.heap[K]? = w'.heap[K]?) := Lib.hid (fun w' h => h.arm HB0.out HX.out.1 HX.out.2)
      generalize armE T (tx, ty, tz) = er at harm HM
      clear hbz HX hsz hszD hbA
      go_wp2_with fail
      generalize wr.alloc (.cells #[.int .u64 tx, .int .u64 ty, .int .i64 tz] 27) = W at b0 b1 b2 harm ⊢
      clear t0 t1 t2 HS hK
      refine wp_region_held_drew (S := (fun w' => w'.cell? ⟨K, 0, none⟩ = some (.int .u64 tx) ∧ w'.cell? ⟨K, 1, none⟩ = some (.int .u64 ty) ∧ w'.cell? ⟨K, 2, none⟩ = some (.int .i64 tz))) (by kernel_rfl) ⟨b0, b1, b2⟩ (fun hHeld => ?_)
      have h0 : W.drew.cell? ⟨K, 0, none⟩ = some (.int .u64 tx) ∧ W.drew.cell? ⟨K, 1, none⟩ = some (.int .u64 ty) ∧ W.drew.cell? ⟨K, 2, none⟩ = some (.int .i64 tz) := ⟨b0, b1, b2⟩
      clear b0 b1 b2
      generalize W.drew = W0 at h0 harm hHeld ⊢
      refine wpAnyH_take (i := 0) (v := ?_) rfl (by kernel_rfl) (by kernel_rfl) (by kernel_rfl) (fun _ _ _ h => h) (Or.inl ⟨by rfl, ?_⟩) (by assumption) ?_
      case refine_2 => (intro w1 hS1; (try dsimp only at hS1); go_simp; try with_reducible rfl)
      try simp only [List.getElem_toArray, List.getElem_cons_zero, List.getElem_cons_succ, Act.put, List.setIfInBounds_toArray, List.set_cons_zero, List.set_cons_succ]
      refine wpAnyH_take (i := 1) (v := ?_) rfl (by kernel_rfl) (by kernel_rfl) (by kernel_rfl) (fun _ _ _ h => h) (Or.inl ⟨by rfl, ?_⟩) (by assumption) ?_
      case refine_2 => (intro w1 hS1; (try dsimp only at hS1); go_simp; try with_reducible rfl)
      try simp only [List.getElem_toArray, List.getElem_cons_zero, List.getElem_cons_succ, Act.put, List.setIfInBounds_toArray, List.set_cons_zero, List.set_cons_succ]
      refine wpAnyH_take (i := 3) (v := ?_) rfl (by kernel_rfl) (by kernel_rfl) (by kernel_rfl) (fun _ _ _ h => h) (Or.inl ⟨by rfl, ?_⟩) (by assumption) ?_
      case refine_2 => (intro w1 hS1; (try dsimp only at hS1); go_simp; try with_reducible rfl)
      try simp only [List.getElem_toArray, List.getElem_cons_zero, List.getElem_cons_succ, Act.put, List.setIfInBounds_toArray, List.set_cons_zero, List.set_cons_succ]
      refine wpAnyH_take (i := 4) (v := ?_) rfl (by kernel_rfl) (by kernel_rfl) (by kernel_rfl) (fun _ _ _ h => h) (Or.inl ⟨by rfl, ?_⟩) (by assumption) ?_
      case refine_2 => (intro w1 hS1; (try dsimp only at hS1); go_simp; try with_reducible rfl)
      try simp only [List.getElem_toArray, List.getElem_cons_zero, List.getElem_cons_succ, Act.put, List.setIfInBounds_toArray, List.set_cons_zero, List.set_cons_succ]
      refine wpAnyH_ready (rs := [2]) (by kernel_rfl) (by simp) ?_
      refine AllReadyH.cons rfl (fun K hK => ?_) AllReadyH.nil
      go_simp
      refine harm.mono ?_
      rintro e w8 ⟨rfl, hM8, hK8⟩
      have hS8 := HK.out _ w8 hK8 h0
      refine hK.out _ _ hS8 (fun hHeld => ?_)
      clear hK K harm
      try simp only [List.getElem_toArray, List.getElem_cons_zero, List.getElem_cons_succ, Act.put, List.setIfInBounds_toArray, List.set_cons_zero, List.set_cons_succ]
      refine wpAnyH_ready (rs := [5]) (by kernel_rfl) (by simp) ?_
      refine AllReadyH.cons rfl (fun K hK => ?_) AllReadyH.nil
      go_simp
      refine (HM.out _ hM8).mono ?_
      rintro e w9 ⟨rfl, hF9, hK9⟩
      have hS9 := HK.out _ w9 hK9 hS8
      refine hK.out _ _ hS9 (fun hHeld => ?_)
      clear hK K
      try simp only [List.getElem_toArray, List.getElem_cons_zero, List.getElem_cons_succ, Act.put, List.setIfInBounds_toArray, List.set_cons_zero, List.set_cons_succ]
      refine wpAnyH_take (i := 6) (v := ?_) rfl (by kernel_rfl) (by kernel_rfl) (by kernel_rfl) (fun _ _ _ h => h) (Or.inl ⟨by rfl, ?_⟩) (by assumption) ?_
      case refine_2 => (intro w1 hS1; (try dsimp only at hS1); go_simp; try with_reducible rfl)
      try simp only [List.getElem_toArray, List.getElem_cons_zero, List.getElem_cons_succ, Act.put, List.setIfInBounds_toArray, List.set_cons_zero, List.set_cons_succ]
      refine wpAnyH_done (by kernel_rfl) ?_ _
      clear hS9 hS8 hHeld h0 hM8 hK8 hK9
      have HF9 := Lib.hid hF9
      clear hF9
      go_wp2_with fail
      go_roundg (n - (k + 1))
      case measure => omega
      case rel => exact ⟨k + 1, _, by go_num, by omega, by omega, HF9⟩
    · obtain rfl : k = n := by omega
      have hltz : ¬ (k : Int) < (k : Int) := by omega
      have hadv := HS.out.adv (HT.out _ HS.out.bel) hB0 HB0.out hnow hto
      clear HA HS
      go_wp2_with fail
      refine hadv.mono ?_
      rintro e w3 ⟨v1, D, E, L, rfl, hG⟩
      obtain ⟨oa, oc, hv1⟩ := hG.r1.shape
      obtain ⟨nl, hnl⟩ : ∃ n, (srt ltT zT L).length = n := ⟨_, rfl⟩
      rw [hnl] at hv1
      subst hv1
      have HNL := Lib.hid hnl
      clear hnl hadv
      have hbE : Below w3.heap.size w3 (w3.alloc (.cells #[] 2)) := (Below.refl _ _).alloc (Nat.le_refl _) _
      have HE := Lib.hid (And.intro (OI.empty w3 w3.heap.size (Nat.le_refl _)) hbE)
      have HG := Lib.hid hG
      have HI := Lib.hid ((HI2.out _ hG.bel).below hbE)
      clear hG hbE
      go_wp2_with (at_builtin; first
        | (refine append_isW rfl (.tmp 72) (.tmp 73) rfl w3.heap.size (.slice (some ⟨w3.heap.size, 0, none⟩) 0 0) [] steps a2 m c2 rfl HN2.out.symm rfl HE.out.1 HI.out HZ2.out (by have := HN2.out; simp; omega) HE.out.2.size ?_; rw [List.nil_append]; intro v4 w4 hO4 ho4 hob4; have hb4 := HE.out.2.trans (ho4.toBelow HE.out.2.size (fun g hg => (HE.out.1.lt hg).1)); have hb5 : Below w4.heap.size w4 (w4.alloc (.cells #[.int .i64 u] 2)) := (Below.refl _ _).alloc (Nat.le_refl _) _; have HO4 := Lib.hid (And.intro (hO4.below hb5) (And.intro (hb4.trans (hb5.mono hb4.size)) (is_one w4 u))); clear ho4 hob4 hb4 hb5; obtain ⟨a4, c4, rfl, -, -⟩ := hO4.shape; clear hO4)
        | (refine append_isW rfl (.tmp 74) (.tmp 76) rfl w3.heap.size (.slice a4 steps.length c4) steps [(u : Int)] (some ⟨w4.heap.size, 0, none⟩) 1 1 rfl rfl rfl HO4.out.1 HO4.out.2.2 (fun e => by cases e) (by have := HN2.out; rw [List.length_singleton]; omega) HO4.out.2.1.size ?_; intro v6 w6 hO6 ho6 hob6; have hb6 := HO4.out.2.1.trans (ho6.toBelow HO4.out.2.1.size (fun g hg => (HO4.out.1.lt hg).1)); obtain ⟨a6, c6, rfl, hI6, hg6⟩ := hO6.shape; have HO6 : Hid (IS w6 a6 (steps ++ [(u : Int)]) ∧ Below w3.heap.size w3 w6 ∧ ∀ g o, a6 = some ⟨g, o, none⟩ → w3.heap.size ≤ g ∧ g < w6.heap.size) := Lib.hid ⟨hI6, hb6, fun g o e => hO6.lt (hg6 g o e)⟩; have hl6 : (steps ++ [(u : Int)]).length = m + 1 := (by simp [HN2.out]); clear hO6 ho6 hob6 hb6 hI6 hg6))
      have HG6 : Hid (G B q q2 u now (-1) (.slice oa nl oc) (.slice none 0 0) a6 (steps ++ [(u : Int)]) D E L [] w w6) := Lib.hid (HG.out.row (HSZ.out _ HG.out.bel) HO6.out.2.1 HO6.out.1 HO6.out.2.2)
      have HB6 : Hid (∀ t ∈ steps ++ [(u : Int)], -9223372036854775808 ≤ t ∧ t ≤ 9223372036854775807) := Lib.hid (fun t ht => by
        rcases List.mem_append.1 ht with h3 | h3
        · exact HD2.out t h3
        · obtain rfl : t = (u : Int) := by simpa using h3
          omega)
      have HLAST : Hid (∀ j (hj : j < (steps ++ [(u : Int)]).length), j = m → (steps ++ [(u : Int)])[j] = (u : Int)) := Lib.hid (fun j hj e => by
        subst e
        simp [← HN2.out])
      generalize steps ++ [(u : Int)] = st at HG6 HB6 HLAST hl6
      try rw [hl6]
      clear HO6 HO4 HE HG HI HI2 HZ2 HN2 HD2
      go_loopg [15, 16, 79] (m + 1) (fun kx s15 s16 s79 wr => ∃ (j b : Nat) (x : Int) (E : WD) (M : List Th), s16 = .int .i64 b ∧ s79 = .int .i64 j ∧ j ≤ m + 1 ∧ m + 1 - j ≤ kx ∧ b ≤ u ∧ Hid (j = m + 1 → b = u ∧ x = (u : Int)) ∧ Hid (G B q q2 u b x (.slice oa nl oc) s15 a6 st D E L M w wr))
      case atStart => exact ⟨0, now, -1, E, [], rfl, rfl, by omega, by omega, hnow, fun h => by omega, HG6⟩
      case round =>
        obtain ⟨j, b, x, E, M, rfl, rfl, hj, hjx, hbu, HX, HG⟩ := hrel
        by_cases hlt : j < m + 1
        · have hltz : (j : Int) < ((m + 1 : Nat) : Int) := by omega
          have hltz2 : (j : Int) < (m : Int) + 1 := by omega
          have hj0 : (0 : Int) ≤ (j : Int) := by omega
          have hlj : j < st.length := by omega
          obtain ⟨Bk, o, rfl, t0⟩ := HG.out.is j hlj
          have hbd := HB6.out _ (List.getElem_mem hlj)
          have hla := HLAST.out j hlj
          obtain ⟨t, ht⟩ : ∃ t, st[j]'hlj = t := ⟨_, rfl⟩
          rw [ht] at t0 hbd hla
          have skip : (t < (b : Int) ∨ (u : Int) < t) → (j + 1 = m + 1 → b = u ∧ x = (u : Int)) := fun h e => by
            have := hla (by omega)
            omega
          clear ht
          by_cases h1 : t < (b : Int)
          · have HSK := Lib.hid (skip (.inl h1))
            clear skip hla hbd
            go_wp2_with fail
            go_roundg (m + 1 - (j + 1))
            case measure => omega
            case rel => exact ⟨j + 1, b, x, E, M, rfl, by go_num, by omega, by omega, hbu, HSK, HG⟩
          · by_cases h2 : (u : Int) < t
            · have HSK := Lib.hid (skip (.inr h2))
              clear skip hla hbd
              go_wp2_with fail
              go_roundg (m + 1 - (j + 1))
              case measure => omega
              case rel => exact ⟨j + 1, b, x, E, M, rfl, by go_num, by omega, by omega, hbu, HSK, HG⟩
            · obtain ⟨s, rfl⟩ : ∃ s : Nat, t = (s : Int) := ⟨t.toNat, by omega⟩
              have hbs : b ≤ s := by omega
              have hsu : s ≤ u := by omega
              have HX7 : Hid (j + 1 = m + 1 → s = u ∧ (s : Int) = (u : Int)) := Lib.hid (fun e => by
                have := hla (by omega)
                omega)
              have hadv := HG.out.adv (HT.out _ HG.out.bel) hB0 HB0.out hbs hsu hto
              clear skip hla hbd HX HG
              go_wp2_with fail
              refine hadv.mono ?_
              rintro e w7 ⟨v7, E', N, rfl, hN7, hM7, hb7, hln7, hk7⟩
              obtain ⟨na, nc, rfl⟩ := hN7.shape
              have HN7 := Lib.hid (And.intro hN7 (And.intro hM7 (And.intro hb7 (And.intro hln7 hk7))))
              clear hadv hN7 hM7 hb7 hln7 hk7
              go_wp2_with (at_builtin; refine append_tsY rfl (.tmp 99) (.tmp 100) rfl B u15 M N na N.length nc rfl rfl rfl HN7.out.2.1 HN7.out.1.news HN7.out.1.nilp (by have := HN7.out.2.2.2.1; rw [List.length_append] at this; omega) (HSZ.out _ HN7.out.2.2.1) ?_; intro v8 w8 hO8 ho8 hob8; have HG8 := Lib.hid (HN7.out.2.2.2.2 v8 w8 hO8 ho8 hob8); clear hO8 ho8 hob8)
              go_roundg (m + 1 - (j + 1))
              case measure => omega
              case rel => exact ⟨j + 1, s, s, E', M ++ N, rfl, by go_num, by omega, by omega, hsu, HX7, HG8⟩
        · obtain rfl : j = m + 1 := by omega
          have hltz : ¬ (((m + 1 : Nat) : Int) < ((m + 1 : Nat) : Int)) := by omega
          have hltz2 : ¬ ((m : Int) + 1 < (m : Int) + 1) := by omega
          obtain ⟨rfl, rfl⟩ := HX.out rfl
          obtain ⟨f1, f2, f3, f4⟩ := HG.out.fin
          have hM := HG.out.few
          have hs := sort_any wr HG.out.r2 (by have := f2.length_eq; rw [List.length_append] at hM; omega)
          obtain ⟨va, vc, hv2⟩ := HG.out.r2.shape
          have HEL : Hid (M.length = nl) := Lib.hid (by have := f2.length_eq; have h5 := HNL.out; rw [srtT_len] at h5; omega)
          rw [HEL.out] at hv2
          have hn256 : nl ≤ 256 := by have h5 := HNL.out; rw [srtT_len] at h5; rw [List.length_append] at hM; omega
          clear f1 f2 f3 f4 hM
          subst hv2
          go_wp2_with fail
          refine hs.mono ?_
          rintro e w9 ⟨rfl, hO9, ho9⟩
          have HFN := Lib.hid (HG.out.sorted (HSZ.out _ HG.out.bel) hO9 ho9)
          have HNL9 := HNL
          generalize srt ltT zT L = RR at HFN HNL9
          clear hs hO9 ho9 HG HG6 HX HNL HLAST HB6
          go_wp2_with fail
          go_loopg [117] nl (fun kx s117 wr => ∃ j : Nat, s117 = .int .i64 j ∧ j ≤ nl ∧ nl - j ≤ kx ∧ Hid (Fn B q q2 b (.slice oa nl oc) (.slice va nl vc) D E RR w wr))
          case atStart => exact ⟨0, rfl, by omega, by omega, HFN⟩
          case round =>
            obtain ⟨j, rfl, hj, hjx, HFR⟩ := hrel
            by_cases hlt3 : j < nl
            · have hlz : (j : Int) < (nl : Int) := by omega
              have hj0 : (0 : Int) ≤ (j : Int) := by omega
              have hjR : j < RR.length := by rw [HNL9.out]; exact hlt3
              obtain ⟨B1, o1, rfl, x0, x1, x2⟩ := (OT.ts HFR.out.r1).2 j hjR
              obtain ⟨B2, o2, rfl, y0, y1, y2⟩ := (OT.ts HFR.out.r2).2 j hjR
              obtain ⟨⟨tx, ty, tz⟩, htd⟩ : ∃ t, RR[j]'hjR = t := ⟨_, rfl⟩
              rw [htd] at x0 x1 x2 y0 y1 y2
              have hnq := fun w => neq_thW tx ty tz w
              have HFD := Lib.hid (HFR.out.below (Below.refl _ _).drew (HSZ.out _ HFR.out.bel))
              clear htd HFR
              go_wp2_with fail
              refine wp_region_held_drew (S := (fun w' => w'.cell? ⟨B1, o1 + j * 3, none⟩ = some (.int .u64 tx) ∧ w'.cell? ⟨B1, o1 + j * 3 + 1, none⟩ = some (.int .u64 ty) ∧ w'.cell? ⟨B1, o1 + j * 3 + 2, none⟩ = some (.int .i64 tz) ∧ w'.cell? ⟨B2, o2 + j * 3, none⟩ = some (.int .u64 tx) ∧ w'.cell? ⟨B2, o2 + j * 3 + 1, none⟩ = some (.int .u64 ty) ∧ w'.cell? ⟨B2, o2 + j * 3 + 2, none⟩ = some (.int .i64 tz))) (by kernel_rfl) ⟨x0, x1, x2, y0, y1, y2⟩ (fun hHeld => ?_)
              clear x0 x1 x2 y0 y1 y2
              refine wpAnyH_take (i := 0) (v := ?_) rfl (by kernel_rfl) (by kernel_rfl) (by kernel_rfl) (fun _ _ _ h => h) (Or.inl ⟨by rfl, ?_⟩) (by assumption) ?_
              case refine_2 => (intro w1 hS1; (try dsimp only at hS1); go_simp; try with_reducible rfl)
              try simp only [List.getElem_toArray, List.getElem_cons_zero, List.getElem_cons_succ, Act.put, List.setIfInBounds_toArray, List.set_cons_zero, List.set_cons_succ]
              refine wpAnyH_take (i := 1) (v := ?_) rfl (by kernel_rfl) (by kernel_rfl) (by kernel_rfl) (fun _ _ _ h => h) (Or.inl ⟨by rfl, ?_⟩) (by assumption) ?_
              case refine_2 => (intro w1 hS1; (try dsimp only at hS1); go_simp; try with_reducible rfl)
              try simp only [List.getElem_toArray, List.getElem_cons_zero, List.getElem_cons_succ, Act.put, List.setIfInBounds_toArray, List.set_cons_zero, List.set_cons_succ]
              refine wpAnyH_take (i := 2) (v := ?_) rfl (by kernel_rfl) (by kernel_rfl) (by kernel_rfl) (fun _ _ _ h => h) (Or.inl ⟨by rfl, ?_⟩) (by assumption) ?_
              case refine_2 => (intro w1 hS1; (try dsimp only at hS1); go_simp; try with_reducible rfl)
              try simp only [List.getElem_toArray, List.getElem_cons_zero, List.getElem_cons_succ, Act.put, List.setIfInBounds_toArray, List.set_cons_zero, List.set_cons_succ]
              refine wpAnyH_take (i := 3) (v := ?_) rfl (by kernel_rfl) (by kernel_rfl) (by kernel_rfl) (fun _ _ _ h => h) (Or.inl ⟨by rfl, ?_⟩) (by assumption) ?_
              case refine_2 => (intro w1 hS1; (try dsimp only at hS1); go_simp; try with_reducible rfl)
              try simp only [List.getElem_toArray, List.getElem_cons_zero, List.getElem_cons_succ, Act.put, List.setIfInBounds_toArray, List.set_cons_zero, List.set_cons_succ]
              refine wpAnyH_take (i := 4) (v := ?_) rfl (by kernel_rfl) (by kernel_rfl) (by kernel_rfl) (fun _ _ _ h => h) (Or.inl ⟨by rfl, ?_⟩) (by assumption) ?_
              case refine_2 => (intro w1 hS1; (try dsimp only at hS1); go_simp; try with_reducible rfl)
              try simp only [List.getElem_toArray, List.getElem_cons_zero, List.getElem_cons_succ, Act.put, List.setIfInBounds_toArray, List.set_cons_zero, List.set_cons_succ]
              refine wpAnyH_take (i := 5) (v := ?_) rfl (by kernel_rfl) (by kernel_rfl) (by kernel_rfl) (fun _ _ _ h => h) (Or.inl ⟨by rfl, ?_⟩) (by assumption) ?_
              case refine_2 => (intro w1 hS1; (try dsimp only at hS1); go_simp; try with_reducible rfl)
              try simp only [List.getElem_toArray, List.getElem_cons_zero, List.getElem_cons_succ, Act.put, List.setIfInBounds_toArray, List.set_cons_zero, List.set_cons_succ]
              refine wpAnyH_take (i := 6) (v := ?_) rfl (by kernel_rfl) (by kernel_rfl) (by kernel_rfl) (fun _ _ _ h => h) (Or.inl ⟨by rfl, ?_⟩) (by assumption) ?_
              case refine_2 => (intro w1 hS1; (try dsimp only at hS1); go_simp; try with_reducible rfl)
              try simp only [List.getElem_toArray, List.getElem_cons_zero, List.getElem_cons_succ, Act.put, List.setIfInBounds_toArray, List.set_cons_zero, List.set_cons_succ]
              refine wpAnyH_take (i := 7) (v := ?_) rfl (by kernel_rfl) (by kernel_rfl) (by kernel_rfl) (fun _ _ _ h => h) (Or.inl ⟨by rfl, ?_⟩) (by assumption) ?_
              case refine_2 => (intro w1 hS1; (try dsimp only at hS1); go_simp; try with_reducible rfl)
              try simp only [List.getElem_toArray, List.getElem_cons_zero, List.getElem_cons_succ, Act.put, List.setIfInBounds_toArray, List.set_cons_zero, List.set_cons_succ]
              refine wpAnyH_take (i := 8) (v := ?_) rfl (by kernel_rfl) (by kernel_rfl) (by kernel_rfl) (fun _ _ _ h => h) (Or.inl ⟨by rfl, ?_⟩) (by assumption) ?_
              case refine_2 => (intro w1 hS1; (try dsimp only at hS1); go_simp; try with_reducible rfl)
              try simp only [List.getElem_toArray, List.getElem_cons_zero, List.getElem_cons_succ, Act.put, List.setIfInBounds_toArray, List.set_cons_zero, List.set_cons_succ]
              refine wpAnyH_done (by kernel_rfl) ?_ _
              go_wp2_with fail
              go_roundg (nl - (j + 1))
              case measure => omega
              case rel => exact ⟨j + 1, by go_num, by omega, by omega, HFD⟩
            · obtain rfl : j = nl := by omega
              have hlz : ¬ (j : Int) < (j : Int) := by omega
              have ha := HFR.out.tw.l.all
              rw [HFR.out.qd] at ha
              go_wp2_with fail
              refine ha.mono ?_
              rintro e wA ⟨vA, rfl, hOA, hbA⟩
              have HFA := Lib.hid (HFR.out.below hbA (HSZ.out _ HFR.out.bel))
              have HOA := Lib.hid (OT.mono hOA (HSZ.out _ HFR.out.bel))
              clear ha hOA hbA HFR HFN
              have hb := HFA.out.tw.r.all
              rw [HFA.out.qe, ← srt_eqW HFA.out.hp HFA.out.tw.l.nd] at hb
              go_wp2_with fail
              refine hb.mono ?_
              rintro e wB ⟨vB, rfl, hOB, hbB⟩
              have HFB := Lib.hid (HFA.out.below hbB (HSZ.out _ HFA.out.bel))
              have HOA := Lib.hid (OT.below HOA.out hbB)
              have HOB := Lib.hid (OT.mono hOB (HSZ.out _ HFA.out.bel))
              have hfew : (srt ltT zT D.things).length ≤ 256 := by rw [srtT_len]; exact HFB.out.tw.l.few
              clear hb hOB hbB HFA
              generalize srt ltT zT D.things = RA at HOA HOB hfew
              obtain ⟨ea, ec, hvA⟩ := HOA.out.shape
              obtain ⟨fa, fc, hvB⟩ := HOB.out.shape
              obtain ⟨nr, hnr⟩ : ∃ n, RA.length = n := ⟨_, rfl⟩
              rw [hnr] at hvA hvB hfew
              subst hvA
              subst hvB
              have HNR := Lib.hid hnr
              clear hnr
              have HFW := Lib.hid (And.intro HFB.out (And.intro HOA.out HOB.out))
              clear HFB HOA HOB
              go_wp2_with fail
              go_loopg [136] nr (fun kx s136 wr => ∃ i : Nat, s136 = .int .i64 i ∧ i ≤ nr ∧ nr - i ≤ kx ∧ Hid (Fn B q q2 b (.slice oa j oc) (.slice va j vc) D E RR w wr ∧ OT wr B (.slice ea nr ec) RA ∧ OT wr B (.slice fa nr fc) RA))
              case atStart => exact ⟨0, rfl, by omega, by omega, HFW⟩
              case round =>
                obtain ⟨i, rfl, hi, hix, HFR⟩ := hrel
                by_cases hlt4 : i < nr
                · have hlz : (i : Int) < (nr : Int) := by omega
                  have hlz2 : ¬ (nr : Int) ≤ (i : Int) := by omega
                  have hd4 : decide ((nr : Int) ≤ (i : Int)) = false := decide_eq_false hlz2
                  have hd5 : decide ((i : Int) ≥ (nr : Int)) = false := decide_eq_false hlz2
                  have hd6 : decide (nr ≤ i) = false := decide_eq_false (by omega)
                  have hd7 : ¬ nr ≤ i := by omega
                  have hj0 : (0 : Int) ≤ (i : Int) := by omega
                  have hjR : i < RA.length := by rw [HNR.out]; exact hlt4
                  obtain ⟨B1, o1, rfl, x0, x1, x2⟩ := (OT.ts HFR.out.2.1).2 i hjR
                  obtain ⟨B2, o2, rfl, y0, y1, y2⟩ := (OT.ts HFR.out.2.2).2 i hjR
                  obtain ⟨⟨tx, ty, tz⟩, htd⟩ : ∃ t, RA[i]'hjR = t := ⟨_, rfl⟩
                  rw [htd] at x0 x1 x2 y0 y1 y2
                  have hnq := fun w => neq_thW tx ty tz w
                  have hdr := (Below.refl wr.heap.size wr).drew
                  have HFD := Lib.hid (And.intro (HFR.out.1.below hdr (HSZ.out _ HFR.out.1.bel)) (And.intro (OT.below HFR.out.2.1 hdr) (OT.below HFR.out.2.2 hdr)))
                  clear htd HFR hdr
                  go_wp2_with fail
                  refine wp_region_held_drew (S := (fun w' => w'.cell? ⟨B1, o1 + i * 3, none⟩ = some (.int .u64 tx) ∧ w'.cell? ⟨B1, o1 + i * 3 + 1, none⟩ = some (.int .u64 ty) ∧ w'.cell? ⟨B1, o1 + i * 3 + 2, none⟩ = some (.int .i64 tz) ∧ w'.cell? ⟨B2, o2 + i * 3, none⟩ = some (.int .u64 tx) ∧ w'.cell? ⟨B2, o2 + i * 3 + 1, none⟩ = some (.int .u64 ty) ∧ w'.cell? ⟨B2, o2 + i * 3 + 2, none⟩ = some (.int .i64 tz))) (by kernel_rfl) ⟨x0, x1, x2, y0, y1, y2⟩ (fun hHeld => ?_)
                  clear x0 x1 x2 y0 y1 y2
                  refine wpAnyH_take (i := 0) (v := ?_) rfl (by kernel_rfl) (by kernel_rfl) (by kernel_rfl) (fun _ _ _ h => h) (Or.inl ⟨by rfl, ?_⟩) (by assumption) ?_
                  case refine_2 => (intro w1 hS1; (try dsimp only at hS1); go_simp; try with_reducible rfl)
                  try simp only [List.getElem_toArray, List.getElem_cons_zero, List.getElem_cons_succ, Act.put, List.setIfInBounds_toArray, List.set_cons_zero, List.set_cons_succ]
                  refine wpAnyH_take (i := 1) (v := ?_) rfl (by kernel_rfl) (by kernel_rfl) (by kernel_rfl) (fun _ _ _ h => h) (Or.inl ⟨by rfl, ?_⟩) (by assumption) ?_
                  case refine_2 => (intro w1 hS1; (try dsimp only at hS1); go_simp; try with_reducible rfl)
                  try simp only [List.getElem_toArray, List.getElem_cons_zero, List.getElem_cons_succ, Act.put, List.setIfInBounds_toArray, List.set_cons_zero, List.set_cons_succ]
                  refine wpAnyH_take (i := 2) (v := ?_) rfl (by kernel_rfl) (by kernel_rfl) (by kernel_rfl) (fun _ _ _ h => h) (Or.inl ⟨by rfl, ?_⟩) (by assumption) ?_
                  case refine_2 => (intro w1 hS1; (try dsimp only at hS1); go_simp; try with_reducible rfl)
                  try simp only [List.getElem_toArray, List.getElem_cons_zero, List.getElem_cons_succ, Act.put, List.setIfInBounds_toArray, List.set_cons_zero, List.set_cons_succ]
                  refine wpAnyH_take (i := 3) (v := ?_) rfl (by kernel_rfl) (by kernel_rfl) (by kernel_rfl) (fun _ _ _ h => h) (Or.inl ⟨by rfl, ?_⟩) (by assumption) ?_
                  case refine_2 => (intro w1 hS1; (try dsimp only at hS1); go_simp; try with_reducible rfl)
                  try simp only [List.getElem_toArray, List.getElem_cons_zero, List.getElem_cons_succ, Act.put, List.setIfInBounds_toArray, List.set_cons_zero, List.set_cons_succ]
                  refine wpAnyH_take (i := 4) (v := ?_) rfl (by kernel_rfl) (by kernel_rfl) (by kernel_rfl) (fun _ _ _ h => h) (Or.inl ⟨by rfl, ?_⟩) (by assumption) ?_
                  case refine_2 => (intro w1 hS1; (try dsimp only at hS1); go_simp; try with_reducible rfl)
                  try simp only [List.getElem_toArray, List.getElem_cons_zero, List.getElem_cons_succ, Act.put, List.setIfInBounds_toArray, List.set_cons_zero, List.set_cons_succ]
                  refine wpAnyH_take (i := 5) (v := ?_) rfl (by kernel_rfl) (by kernel_rfl) (by kernel_rfl) (fun _ _ _ h => h) (Or.inl ⟨by rfl, ?_⟩) (by assumption) ?_
                  case refine_2 => (intro w1 hS1; (try dsimp only at hS1); go_simp; try with_reducible rfl)
                  try simp only [List.getElem_toArray, List.getElem_cons_zero, List.getElem_cons_succ, Act.put, List.setIfInBounds_toArray, List.set_cons_zero, List.set_cons_succ]
                  refine wpAnyH_take (i := 6) (v := ?_) rfl (by kernel_rfl) (by kernel_rfl) (by kernel_rfl) (fun _ _ _ h => h) (Or.inl ⟨by rfl, ?_⟩) (by assumption) ?_
                  case refine_2 => (intro w1 hS1; (try dsimp only at hS1); go_simp; try with_reducible rfl)
                  try simp only [List.getElem_toArray, List.getElem_cons_zero, List.getElem_cons_succ, Act.put, List.setIfInBounds_toArray, List.set_cons_zero, List.set_cons_succ]
                  refine wpAnyH_take (i := 7) (v := ?_) rfl (by kernel_rfl) (by kernel_rfl) (by kernel_rfl) (fun _ _ _ h => h) (Or.inl ⟨by rfl, ?_⟩) (by assumption) ?_
                  case refine_2 => (intro w1 hS1; (try dsimp only at hS1); go_simp; try with_reducible rfl)
                  try simp only [List.getElem_toArray, List.getElem_cons_zero, List.getElem_cons_succ, Act.put, List.setIfInBounds_toArray, List.set_cons_zero, List.set_cons_succ]
                  refine wpAnyH_take (i := 8) (v := ?_) rfl (by kernel_rfl) (by kernel_rfl) (by kernel_rfl) (fun _ _ _ h => h) (Or.inl ⟨by rfl, ?_⟩) (by assumption) ?_
                  case refine_2 => (intro w1 hS1; (try dsimp only at hS1); go_simp; try with_reducible rfl)
                  try simp only [List.getElem_toArray, List.getElem_cons_zero, List.getElem_cons_succ, Act.put, List.setIfInBounds_toArray, List.set_cons_zero, List.set_cons_succ]
                  refine wpAnyH_take (i := 9) (v := ?_) rfl (by kernel_rfl) (by kernel_rfl) (by kernel_rfl) (fun _ _ _ h => h) (Or.inl ⟨by rfl, ?_⟩) (by assumption) ?_
                  case refine_2 => (intro w1 hS1; (try dsimp only at hS1); go_simp; try with_reducible rfl)
                  try simp only [List.getElem_toArray, List.getElem_cons_zero, List.getElem_cons_succ, Act.put, List.setIfInBounds_toArray, List.set_cons_zero, List.set_cons_succ]
                  refine wpAnyH_take (i := 10) (v := ?_) rfl (by kernel_rfl) (by kernel_rfl) (by kernel_rfl) (fun _ _ _ h => h) (Or.inl ⟨by rfl, ?_⟩) (by assumption) ?_
                  case refine_2 => (intro w1 hS1; (try dsimp only at hS1); go_simp; try with_reducible rfl)
                  try simp only [List.getElem_toArray, List.getElem_cons_zero, List.getElem_cons_succ, Act.put, List.setIfInBounds_toArray, List.set_cons_zero, List.set_cons_succ]
                  refine wpAnyH_take (i := 11) (v := ?_) rfl (by kernel_rfl) (by kernel_rfl) (by kernel_rfl) (fun _ _ _ h => h) (Or.inl ⟨by rfl, ?_⟩) (by assumption) ?_
                  case refine_2 => (intro w1 hS1; (try dsimp only at hS1); go_simp; try with_reducible rfl)
                  try simp only [List.getElem_toArray, List.getElem_cons_zero, List.getElem_cons_succ, Act.put, List.setIfInBounds_toArray, List.set_cons_zero, List.set_cons_succ]
                  refine wpAnyH_take (i := 12) (v := ?_) rfl (by kernel_rfl) (by kernel_rfl) (by kernel_rfl) (fun _ _ _ h => h) (Or.inl ⟨by rfl, ?_⟩) (by assumption) ?_
                  case refine_2 => (intro w1 hS1; (try dsimp only at hS1); go_simp; try with_reducible rfl)
                  try simp only [List.getElem_toArray, List.getElem_cons_zero, List.getElem_cons_succ, Act.put, List.setIfInBounds_toArray, List.set_cons_zero, List.set_cons_succ]
                  refine wpAnyH_take (i := 13) (v := ?_) rfl (by kernel_rfl) (by kernel_rfl) (by kernel_rfl) (fun _ _ _ h => h) (Or.inl ⟨by rfl, ?_⟩) (by assumption) ?_
                  case refine_2 => (intro w1 hS1; (try dsimp only at hS1); go_simp; try with_reducible rfl)
                  try simp only [List.getElem_toArray, List.getElem_cons_zero, List.getElem_cons_succ, Act.put, List.setIfInBounds_toArray, List.set_cons_zero, List.set_cons_succ]
                  refine wpAnyH_take (i := 14) (v := ?_) rfl (by kernel_rfl) (by kernel_rfl) (by kernel_rfl) (fun _ _ _ h => h) (Or.inl ⟨by rfl, ?_⟩) (by assumption) ?_
                  case refine_2 => (intro w1 hS1; (try dsimp only at hS1); go_simp; try with_reducible rfl)
                  try simp only [List.getElem_toArray, List.getElem_cons_zero, List.getElem_cons_succ, Act.put, List.setIfInBounds_toArray, List.set_cons_zero, List.set_cons_succ]
                  refine wpAnyH_done (by kernel_rfl) ?_ _
                  go_wp2_with fail
                  go_roundg (nr - (i + 1))
                  case measure => omega
                  case rel => exact ⟨i + 1, by go_num, by omega, by omega, HFD⟩
                · obtain rfl : i = nr := by omega
                  have hlz : ¬ (i : Int) < (i : Int) := by omega
                  have hs1 := fun W (hW : Below wr.heap.size wr W) => wspread D W (HFR.out.1.tw.l.wl.below hW)
                  have hs2 := fun W (hW : Below wr.heap.size wr W) => wspread E W (HFR.out.1.tw.r.wl.below hW)
                  obtain ⟨s0, s1, s2, s3, s4⟩ := HFR.out.1.tw.l.same HFR.out.1.tw.r HFR.out.1.hp
                  rw [HFR.out.1.qd] at hs1
                  rw [HFR.out.1.qe, ← s0, ← s1, ← s2, ← s3, ← s4] at hs2
                  have HBW := Lib.hid HFR.out.1.bel
                  generalize D.n 0 = k0 at hs1 hs2
                  generalize D.n 1 = k1 at hs1 hs2
                  generalize D.n 2 = k2 at hs1 hs2
                  generalize D.n 3 = k3 at hs1 hs2
                  generalize D.BL.length = k4 at hs1 hs2
                  clear s0 s1 s2 s3 s4 HFR
                  have hq5 := fun w => eql_fiveW (k0 : Int) (k1 : Int) (k2 : Int) (k3 : Int) (k4 : Int) w
                  go_wp2_with (first
                    | (go_at_call 34; (with_reducible refine (hs1 wr (Below.refl _ _)).mono ?_); rintro e wC ⟨rfl, hbC⟩; have HBC := Lib.hid hbC; clear hbC)
                    | (go_at_call 34; (with_reducible refine (hs2 wC HBC.out).mono ?_); rintro e wD ⟨rfl, hbD⟩; have HBD := Lib.hid (HBW.out.trans ((HBC.out.trans (hbD.mono HBC.out.size)).mono (HSZ.out _ HBW.out))); clear hbD)
                    | (go_at_call 30; (with_reducible refine (lives12 wD (HT.out _ HBD.out)).mono ?_); rintro e wE ⟨rfl, hbE⟩; have HBE := Lib.hid (HBD.out.trans (hbE.mono (HSZ.out _ HBD.out))); clear hbE))
                  go_ret
                  exact ⟨rfl, HBE.out⟩
/- WheelSteps for every input. -/
open Go.RowKit
set_option maxRecDepth 100000 in
theorem ints_inZ {H : Type} {enc : TypeId × Value → H} {w : World} {base : Nat} {sp : Nat → Bool} {held : Bool} {fuel : Nat} {a : Option Addr} {n cap : Nat} {x : DataW H × List MemPlace}
    (h : DataW.trod enc Tryd.prog w base sp held fuel 68 (Value.slice a n cap).cells.toList = some x) :
    ∃ l : List Int, l.length = n ∧ IS w a l ∧ (a = none → l = [] ∧ cap = 0) ∧ n ≤ maxLen ∧ ∀ t ∈ l, -9223372036854775808 ≤ t ∧ t ≤ 9223372036854775807 := by
  rcases Deep.open_slice Tryd.underlying68 h with ⟨hcs, _⟩ | ⟨x, l, c, m, nn, D, Pl, hcs, _, hl, hm, hmm, _, hi⟩
  · simp [Value.cells] at hcs
    obtain ⟨rfl, rfl, rfl⟩ := hcs
    exact ⟨[], rfl, fun k hk => by simp at hk, fun _ => ⟨rfl, rfl⟩, by unfold maxLen; omega, by simp⟩
  · simp [Value.cells] at hcs
    obtain ⟨rfl, rfl, rfl⟩ := hcs
    have hlm : n ≤ m := by rw [hmm]; split <;> omega
    have one : ∀ {cs : List Value} {y : DataW H × List MemPlace} {f : Nat}, DataW.trod enc Tryd.prog w base sp held f 2 cs = some y → ∃ z : Int, cs = [.int .i64 z] ∧ (Lit.int .i64 z).wf = true := by
      intro cs y f hy
      obtain ⟨f, e0, _, w0⟩ := DataW.trod_int Tryd.underlying2 hy
      exact ⟨f, e0, w0⟩
    have hex : 0 < n → x = ⟨x.block, x.off, none⟩ := by
      intro h0
      obtain ⟨cs', hc, ht⟩ := hi 0 (by omega)
      obtain ⟨t, rfl, _⟩ := one ht
      rw [cellsI64] at hc
      obtain ⟨_, hcl, hat⟩ := World.cells?_some hc
      have e0 := cell_spot3 ((hat 0 (by omega)).trans (List.getElem?_cons_zero))
      rw [Deep.add_add] at e0
      cases x; simp [Addr.add] at e0; simp [e0]
    have key : ∀ i, i < n → ∃ t : Int, (x = ⟨x.block, x.off, none⟩ ∧ w.cell? ⟨x.block, x.off + i, none⟩ = some (.int .i64 t)) ∧ -9223372036854775808 ≤ t ∧ t ≤ 9223372036854775807 := by
      intro i hil
      obtain ⟨cs', hc, ht⟩ := hi i (by omega)
      obtain ⟨t, rfl, ok⟩ := one ht
      rw [cellsI64] at hc
      obtain ⟨_, hcl, hat⟩ := World.cells?_some hc
      have ex := hex (by omega)
      have bt := bounds_i64 ok
      refine ⟨t, ⟨ex, ?_⟩, by omega⟩
      have h1 := hat 0 (by omega)
      rw [Deep.add_add, ex, add_at3] at h1
      simpa using h1
    obtain ⟨f, hf⟩ := Deep.choose_lt key
    refine ⟨(List.range n).map f, by simp, fun k hk => ?_, fun e => (by cases e), by unfold maxLen at *; omega, fun t ht => ?_⟩
    · have hkn : k < n := by simpa using hk
      obtain ⟨⟨h1, h2⟩, _⟩ := hf k hkn
      refine ⟨x.block, x.off, by rw [← h1], ?_⟩
      simpa using h2
    · obtain ⟨i, hi', rfl⟩ := List.mem_map.1 ht
      exact (hf i (by simpa using hi')).2
set_option maxRecDepth 100000 in
set_option maxHeartbeats 4000000 in
theorem wsteps_skip (now u : Int) (a1 : Option Addr) (n1 c1 : Nat) (a2 : Option Addr) (n2 c2 : Nat) (w : World) (hT : Tab w) (x1 x2 x3 x4 x5 : Bool) (e1 : decide (100 < (n1 : Int)) = x1) (e2 : decide (60 < (n2 : Int)) = x2) (e3 : decide (now < 0) = x3) (e4 : decide (u < now) = x4) (e5 : decide (1125899906842624 < u) = x5) (h : (x1 || (x2 || (x3 || (x4 || x5)))) = true) : Calls Tryd.prog 7 #[.int .i64 now, .slice a1 n1 c1, .slice a2 n2 c2, .int .i64 u] w fun e w' => e = .returned (.bool true) ∧ Below w.heap.size w w' := by
  have hl := lives12 w hT
  clear hT
  cases x1
  case true =>
    clear e2 e3 e4 e5
    go_enter Tryd.func7, Tryd.ntmps7
    go_wp2_with (go_at_call 30; with_reducible refine hl.mono ?_; rintro e w1 ⟨rfl, hB1⟩; have HB1 := Lib.hid hB1; clear hB1)
    go_ret
    exact ⟨rfl, HB1.out⟩
  cases x2
  case true =>
    clear e3 e4 e5
    go_enter Tryd.func7, Tryd.ntmps7
    go_wp2_with (go_at_call 30; with_reducible refine hl.mono ?_; rintro e w1 ⟨rfl, hB1⟩; have HB1 := Lib.hid hB1; clear hB1)
    go_ret
    exact ⟨rfl, HB1.out⟩
  cases x3
  case true =>
    clear e4 e5
    go_enter Tryd.func7, Tryd.ntmps7
    go_wp2_with (go_at_call 30; with_reducible refine hl.mono ?_; rintro e w1 ⟨rfl, hB1⟩; have HB1 := Lib.hid hB1; clear hB1)
    go_ret
    exact ⟨rfl, HB1.out⟩
  cases x4
  case true =>
    clear e5
    go_enter Tryd.func7, Tryd.ntmps7
    go_wp2_with (go_at_call 30; with_reducible refine hl.mono ?_; rintro e w1 ⟨rfl, hB1⟩; have HB1 := Lib.hid hB1; clear hB1)
    go_ret
    exact ⟨rfl, HB1.out⟩
  cases x5
  case false => cases h
  go_enter Tryd.func7, Tryd.ntmps7
  go_wp2_with (go_at_call 30; with_reducible refine hl.mono ?_; rintro e w1 ⟨rfl, hB1⟩; have HB1 := Lib.hid hB1; clear hB1)
  go_ret
  exact ⟨rfl, HB1.out⟩
theorem wsteps_walk (now : Int) (a1 : Option Addr) (n1 c1 : Nat) (l : List Th) (a2 : Option Addr) (n2 c2 : Nat) (steps : List Int) (u : Int) (w : World) (hT : Tab w) {p q : Prop} (_ : p)
    (h1 : l.length = n1 ∧ TS w a1 l ∧ (a1 = none → l = [] ∧ c1 = 0) ∧ n1 ≤ maxLen ∧ ∀ t ∈ l, ThOk t)
    (h2 : steps.length = n2 ∧ IS w a2 steps ∧ (a2 = none → steps = [] ∧ c2 = 0) ∧ n2 ≤ maxLen ∧ ∀ t ∈ steps, -9223372036854775808 ≤ t ∧ t ≤ 9223372036854775807) (_ : q) :
    Calls Tryd.prog 7 #[.int .i64 now, .slice a1 n1 c1, .slice a2 n2 c2, .int .i64 u] w fun e w' => e = .returned (.bool true) ∧ Below w.heap.size w w' := by
  by_cases h : 100 < (n1 : Int) ∨ 60 < (n2 : Int) ∨ now < 0 ∨ u < now ∨ 1125899906842624 < u
  · refine wsteps_skip now u a1 n1 c1 a2 n2 c2 w hT _ _ _ _ _ rfl rfl rfl rfl rfl ?_
    simp only [Bool.or_eq_true, decide_eq_true_eq]
    exact h
  · obtain ⟨b, rfl⟩ : ∃ b : Nat, now = (b : Int) := ⟨now.toNat, by omega⟩
    obtain ⟨v, rfl⟩ : ∃ v : Nat, u = (v : Int) := ⟨u.toNat, by omega⟩
    exact wsteps_ok b v a1 c1 l a2 c2 steps w hT h1.2.1 h2.2.1 h1.2.2.2.2 h2.2.2.2.2 n1 n2 h1.1 h2.1 (by omega) (by omega) h2.2.2.1 (by omega) (by omega)
end Go.Proofs.YtfclmbneimbmnaaDoor
