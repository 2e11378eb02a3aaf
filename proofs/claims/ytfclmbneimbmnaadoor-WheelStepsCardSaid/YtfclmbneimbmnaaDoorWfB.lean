import Derived.Test.YtfclmbneimbmnaaDoorWfA
namespace Go.Proofs.YtfclmbneimbmnaaDoor
open Go.RowKit
/- WheelFires: what was met, what still waits. -/
open Go.RowKit
/-- Which of the dues wait: those that are instants and were not met. -/
def Left (dues : List Int) (n : Nat) (M : Nat → Bool) (T : List Th) : Prop := ∀ t, t ∈ T ↔ ∃ (i : Nat), i < n ∧ t = ((i : Int), 7, dues.getD i 0) ∧ InsB (dues.getD i 0) = true ∧ M i = false
/-- What was met besides. -/
def Mt (M : Nat → Bool) (l : List Th) (i : Nat) : Bool := M i || l.any (fun t => t.1 == (i : Int))
theorem Mt_nil (M : Nat → Bool) : Mt M [] = M := by funext i; simp [Mt]
theorem Mt_step (M : Nat → Bool) (l : List Th) (j : Nat) (hj : j < l.length) (i0 : Nat) (h0 : (l[j]).1 = (i0 : Int)) : Mt M (l.take (j + 1)) = fun i => if i = i0 then true else Mt M (l.take j) i := by
  funext i
  unfold Mt
  rw [← List.take_append_getElem hj, List.any_append]
  simp only [List.any_cons, List.any_nil, Bool.or_false]
  rw [h0]
  by_cases e : i = i0
  · subst e; simp
  · have : ((i0 : Int) == (i : Int)) = false := by simp; omega
    rw [this, if_neg e]; simp
theorem Left.arm {dues : List Int} {n : Nat} {T T' : List Th} (h : Left dues n (fun _ => false) T) (hp : T'.Perm (if InsB (dues.getD n 0) = true then T ++ [((n : Int), 7, dues.getD n 0)] else T)) : Left dues (n + 1) (fun _ => false) T' := by
  intro t
  rw [hp.mem_iff]
  cases hi : InsB (dues.getD n 0) with
  | true =>
    rw [if_pos rfl, List.mem_append, h t, List.mem_singleton]
    constructor
    · rintro (⟨i, h1, h2, h3, h4⟩ | rfl)
      · exact ⟨i, by omega, h2, h3, h4⟩
      · exact ⟨n, by omega, rfl, hi, rfl⟩
    · rintro ⟨i, h1, h2, h3, h4⟩
      by_cases e : i = n
      · subst e; exact .inr h2
      · exact .inl ⟨i, by omega, h2, h3, h4⟩
  | false =>
    rw [if_neg (by decide), h t]
    constructor
    · rintro ⟨i, h1, h2⟩
      exact ⟨i, by omega, h2⟩
    · rintro ⟨i, h1, h2, h3, h4⟩
      by_cases e : i = n
      · subst e; rw [hi] at h3; cases h3
      · exact ⟨i, by omega, h2, h3, h4⟩
theorem Left.armE {dues : List Int} {n : Nat} {T : List Th} (h : Left dues n (fun _ => false) T) (hl : T.length < 256) : armE T ((n : Int), 7, dues.getD n 0) = if InsB (dues.getD n 0) = true then 0 else 2 := by
  unfold Go.Proofs.YtfclmbneimbmnaaDoor.armE
  cases hi : InsB (dues.getD n 0) with
  | true =>
    rw [if_neg (by decide), if_neg, if_neg (by omega), if_pos rfl]
    rintro ⟨u, hu, e⟩
    obtain ⟨i, h1, rfl, _⟩ := (h u).1 hu
    simp only at e
    omega
  | false => rw [if_pos rfl, if_neg (by decide)]
/-- Each that an advance tells: its number, its due. -/
theorem Left.told {dues : List Int} {n : Nat} {M : Nat → Bool} {T T' L l : List Th} (h : Left dues n M T) (hp : (T' ++ L).Perm T) (hl : l.Perm L) (hnd : (l.map (·.1)).Nodup) {j : Nat} (hj : j < l.length) :
    ∃ (i : Nat), i < n ∧ l[j] = ((i : Int), 7, dues.getD i 0) ∧ InsB (dues.getD i 0) = true ∧ Mt M (l.take j) i = false := by
  have hm : l[j] ∈ T := hp.mem_iff.1 (List.mem_append_right _ (hl.mem_iff.1 (List.getElem_mem hj)))
  obtain ⟨i, h1, h2, h3, h4⟩ := (h _).1 hm
  refine ⟨i, h1, h2, h3, ?_⟩
  unfold Mt
  rw [h4, Bool.false_or, List.any_eq_false]
  intro t ht e
  have e' : t.1 = (i : Int) := by simpa using e
  obtain ⟨k, hk, rfl⟩ := List.mem_take_iff_getElem.1 ht
  have hkl : k < l.length := by omega
  have := nd_at hnd (i := k) (j := j) (by simpa using hkl) (by simpa using hj) (by simp only [List.getElem_map]; rw [e', h2])
  omega
theorem Left.step {dues : List Int} {n u : Nat} {M : Nat → Bool} {T T' L l : List Th} (h : Left dues n M T) (hp : (T' ++ L).Perm T) (hl : l.Perm L) (hdue : ∀ t ∈ L, t.2.2 ≤ (u : Int)) (hlate : ∀ t ∈ T', (u : Int) < t.2.2) : Left dues n (Mt M l) T' := by
  intro t
  constructor
  · intro ht
    obtain ⟨i, h1, h2, h3, h4⟩ := (h t).1 (hp.mem_iff.1 (List.mem_append_left _ ht))
    refine ⟨i, h1, h2, h3, ?_⟩
    unfold Mt
    rw [h4, Bool.false_or, List.any_eq_false]
    intro x hx e
    have e' : x.1 = (i : Int) := by simpa using e
    obtain ⟨i', g1, g2, _⟩ := (h x).1 (hp.mem_iff.1 (List.mem_append_right _ (hl.mem_iff.1 hx)))
    have hii : i' = i := by rw [g2] at e'; simp only at e'; omega
    subst hii
    have q1 := hdue x (hl.mem_iff.1 hx)
    have q2 := hlate t ht
    rw [g2] at q1
    rw [h2] at q2
    simp only at q1 q2
    omega
  · rintro ⟨i, h1, h2, h3, h4⟩
    unfold Mt at h4
    obtain ⟨h4, h5⟩ := Bool.or_eq_false_iff.1 h4
    have hT := hp.mem_iff.2 ((h t).2 ⟨i, h1, h2, h3, h4⟩)
    rcases List.mem_append.1 hT with hT | hT
    · exact hT
    · have := List.any_eq_false.1 h5 t (hl.mem_iff.2 hT)
      rw [h2] at this
      simp at this
/-- What was met is due, and what is due was met. -/
def Met (dues : List Int) (n : Nat) (M : Nat → Bool) (u : Nat) : Prop := ∀ i, i < n → InsB (dues.getD i 0) = true → M i = true → dues.getD i 0 ≤ (u : Int)
theorem Left.met {dues : List Int} {n u a : Nat} {M : Nat → Bool} {T T' L l : List Th} (h : Left dues n M T) (hM : Met dues n M a) (hau : a ≤ u) (hp : (T' ++ L).Perm T) (hl : l.Perm L) (hdue : ∀ t ∈ L, t.2.2 ≤ (u : Int)) (hlate : ∀ t ∈ T', (u : Int) < t.2.2) {i : Nat} (hi : i < n) (hv : InsB (dues.getD i 0) = true) : Mt M l i = decide (dues.getD i 0 ≤ (u : Int)) := by
  cases hb : Mt M l i with
  | true =>
    refine (decide_eq_true ?_).symm
    unfold Mt at hb
    rcases Bool.or_eq_true_iff.1 hb with hb | hb
    · have := hM i hi hv hb; omega
    · obtain ⟨x, hx, e⟩ := List.any_eq_true.1 hb
      have e' : x.1 = (i : Int) := by simpa using e
      obtain ⟨i', g1, g2, _⟩ := (h x).1 (hp.mem_iff.1 (List.mem_append_right _ (hl.mem_iff.1 hx)))
      have hii : i' = i := by rw [g2] at e'; simp only at e'; omega
      subst hii
      have q1 := hdue x (hl.mem_iff.1 hx)
      rw [g2] at q1
      exact q1
  | false =>
    refine (decide_eq_false ?_).symm
    have := hlate ((i : Int), 7, dues.getD i 0) ((h.step hp hl hdue hlate _).2 ⟨i, hi, rfl, hv, hb⟩)
    simp only at this
    omega
theorem Met.next {dues : List Int} {n u : Nat} {M' : Nat → Bool} (h : ∀ i, i < n → InsB (dues.getD i 0) = true → M' i = decide (dues.getD i 0 ≤ (u : Int))) : Met dues n M' u := by
  intro i hi hv hb
  rw [h i hi hv] at hb
  exact of_decide_eq_true hb
/- WheelFires: the walk. -/
open Go.RowKit
theorem Tab.pos {w : World} (h : Tab w) : 0 < w.heap.size := by have := cell_lt (h 0 (by omega)); exact this
theorem ringL_bare (n : Nat) : ringL (fun _ => []) n = [] := by
  induction n with
  | zero => rfl
  | succ n ih => show ringL (fun _ => []) n ++ [] = []; rw [ih]; rfl
theorem WI.start {B a q : Nat} {R : Nat → RD} {w : World} (h : Wl w ⟨q, (a : Int), R, .slice none 0 0, []⟩) (hS : ∀ k, k < 4 → (R k).S = fun _ => []) (ha : a ≤ 1125899906842624) (hb : ∀ g, WD.fp ⟨q, (a : Int), R, .slice none 0 0, []⟩ g → B ≤ g) : WI B w ⟨q, (a : Int), R, .slice none 0 0, []⟩ a ∧ WD.things ⟨q, (a : Int), R, .slice none 0 0, []⟩ = [] := by
  have ht : WD.things ⟨q, (a : Int), R, .slice none 0 0, []⟩ = [] := by
    unfold WD.things
    rw [hS 0 (by omega), hS 1 (by omega), hS 2 (by omega), hS 3 (by omega), ringL_bare]
    rfl
  refine ⟨⟨h, rfl, ha, fun k hk s _ t hts => ?_, fun t ht => (by cases ht), by rw [ht]; simp, by rw [ht]; simp, by rw [ht]; simp, hb⟩, ht⟩
  rw [hS k hk] at hts
  cases hts
theorem madeW_at0 (v : Value) (n i : Nat) (hi : i < n) : (madeCells #[v] n)[i]? = some v := by simp [madeCells, hi, Nat.mod_one]
/-- What was met, in block Q. -/
structure SeenB (Q n : Nat) (f : Nat → Bool) (w : World) : Prop where
  c : ∀ j, j < n → w.cell? ⟨Q, j, none⟩ = some (.bool (f j))
  free : ∀ j, w.frozen? ⟨Q, j, none⟩ = false
  lt : Q < w.heap.size
theorem SeenB.set {Q n : Nat} {f : Nat → Bool} {w : World} (S : SeenB Q n f w) (j : Nat) (hj : j < n) : SeenB Q n (fun i => if i = j then true else f i) (w.setCell ⟨Q, j, none⟩ (.bool true)) := by
  refine ⟨fun i hi => ?_, fun i => by simpa using S.free i, by simpa using S.lt⟩
  by_cases h : i = j
  · subst h
    rw [World.cell?_setCell_same _ _ _ (S.c i hi), if_pos rfl]
  · rw [if_neg h]
    exact (World.cell?_setCell_other _ ⟨Q, j, none⟩ ⟨Q, i, none⟩ _ (fun e => by injection e with e1 e2; omega)).trans (S.c i hi)
theorem SeenB.only {X : Nat → Prop} {Q n : Nat} {f : Nat → Bool} {w w' : World} (S : SeenB Q n f w) (ho : Only X w w') (hx : ¬ X Q) : SeenB Q n f w' :=
  ⟨fun j hj => (ho.cell (p := ⟨Q, j, none⟩) S.lt hx).trans (S.c j hj), fun j => (ho.frozen (p := ⟨Q, j, none⟩) S.lt hx).trans (S.free j), Nat.lt_of_lt_of_le S.lt ho.size⟩
theorem SeenB.below {Q n : Nat} {f : Nat → Bool} {w w' : World} (S : SeenB Q n f w) (hb : Below w.heap.size w w') : SeenB Q n f w' :=
  ⟨fun j hj => (hb.cell (p := ⟨Q, j, none⟩) S.lt).trans (S.c j hj), fun j => (hb.frozen (p := ⟨Q, j, none⟩) S.lt).trans (S.free j), Nat.lt_of_lt_of_le S.lt hb.size⟩
theorem boolsW_info : (Tryd.prog.info? 4).map (fun i => (i.zero, i.size, i.bytes)) = some (some (.bool false), 1, 1) := by kernel_rfl
theorem seenB_new (n : Nat) (w : World) : SeenB w.heap.size n (fun _ => false) (w.alloc (.cells (madeCells #[.bool false] n) 4)) := by
  refine ⟨fun j hj => ?_, fun j => ?_, by simp⟩
  · rw [World.cell?_alloc_at _ _ _ _ rfl, madeW_at0 _ _ _ hj]
  · rw [frozen?_alloc_cells]
    have : w.heap[w.heap.size]? = none := by simp
    simp [World.frozen?, this]

set_option maxRecDepth 100000 in
set_option maxHeartbeats 4000000 in
theorem wfires_skip (now : Int) (a1 : Option Addr) (n1 c1 : Nat) (a2 : Option Addr) (n2 c2 : Nat) (w : World) (hT : Tab w) (x1 x2 x3 x4 : Bool) (e1 : decide (100 < (n1 : Int)) = x1) (e2 : decide (100 < (n2 : Int)) = x2) (e3 : decide (now < 0) = x3) (e4 : decide (1125899906842624 < now) = x4) (h : (x1 || (x2 || (x3 || x4))) = true) : Calls Tryd.prog 6 #[.int .i64 now, .slice a1 n1 c1, .slice a2 n2 c2] w fun e w' => e = .returned (.bool true) ∧ Below w.heap.size w w' := by
  have hl := lives12 w hT
  clear hT
  cases x1
  case true =>
    clear e2 e3 e4
    go_enter Tryd.func6, Tryd.ntmps6
    go_wp2_with (go_at_call 30; with_reducible refine hl.mono ?_; rintro e w1 ⟨rfl, hB1⟩; have HB1 := Lib.hid hB1; clear hB1)
    go_ret
    exact ⟨rfl, HB1.out⟩
  cases x2
  case true =>
    clear e3 e4
    go_enter Tryd.func6, Tryd.ntmps6
    go_wp2_with (go_at_call 30; with_reducible refine hl.mono ?_; rintro e w1 ⟨rfl, hB1⟩; have HB1 := Lib.hid hB1; clear hB1)
    go_ret
    exact ⟨rfl, HB1.out⟩
  cases x3
  case true =>
    clear e4
    go_enter Tryd.func6, Tryd.ntmps6
    go_wp2_with (go_at_call 30; with_reducible refine hl.mono ?_; rintro e w1 ⟨rfl, hB1⟩; have HB1 := Lib.hid hB1; clear hB1)
    go_ret
    exact ⟨rfl, HB1.out⟩
  cases x4
  case false => cases h
  go_enter Tryd.func6, Tryd.ntmps6
  go_wp2_with (go_at_call 30; with_reducible refine hl.mono ?_; rintro e w1 ⟨rfl, hB1⟩; have HB1 := Lib.hid hB1; clear hB1)
  go_ret
  exact ⟨rfl, HB1.out⟩
/- WheelFires: what the loops keep. -/
open Go.RowKit
theorem getD_at (l : List Int) (k : Nat) (h : k < l.length) : l.getD k 0 = l[k]'h := by rw [List.getD_eq_getElem?_getD, List.getElem?_eq_getElem h]; rfl
/-- While the dues are armed. -/
def FA (B q now : Nat) (dues : List Int) (k : Nat) (w0 wr : World) : Prop := ∃ D, WI B wr D now ∧ D.q = q ∧ Left dues k (fun _ => false) D.things ∧ D.things.length ≤ k ∧ Below B w0 wr
/-- While time goes on. -/
def FT (B q Q at_ : Nat) (dues : List Int) (w0 wr : World) : Prop := ∃ D M, WI B wr D at_ ∧ D.q = q ∧ Left dues dues.length M D.things ∧ Met dues dues.length M at_ ∧ SeenB Q dues.length M wr ∧ ¬ D.fp Q ∧ B ≤ Q ∧ Below B w0 wr

theorem FA.arm {B q now k : Nat} {dues : List Int} {w0 wr : World} (h : FA B q now dues k w0 wr) (hB : B ≤ w0.heap.size) (hk1 : k ≤ 100) (d : Int) (hd : dues.getD k 0 = d) (hbd : -9223372036854775808 ≤ d ∧ d ≤ 9223372036854775807) :
    Calls Tryd.prog 38 #[.pointer (some ⟨q, 0, none⟩), .agg #[.int .u64 (k : Int), .int .u64 7, .int .i64 d]] wr fun e w2 => e = .returned (.int .i64 (if InsB d = true then 0 else 2)) ∧ FA B q now dues (k + 1) w0 w2 := by
  obtain ⟨D, hwi, hq, hL, hle, hb⟩ := h
  have hBr : B ≤ wr.heap.size := Nat.le_trans hB hb.size
  have harm := warm hwi hBr ((k : Int), 7, d) ⟨by show 0 ≤ (k : Int); omega, by show (k : Int) < 18446744073709551616; omega⟩ hbd
  have hE := hL.armE (by omega)
  rw [hd] at hE
  rw [hE, hq] at harm
  refine harm.mono ?_
  rintro e w2 ⟨he, D', h1, h2, h3, h4, h5⟩
  refine ⟨he, D', h1, h2, hL.arm ?_, ?_, hb.trans (h4.toBelow hBr (fun g hg => hwi.base g hg))⟩
  · rw [hd]
    cases hib : InsB d with
    | true => simpa [hib] using h3
    | false => simpa [hib] using h3
  · have := h3.length_eq
    cases hib : InsB d with
    | true => simp [hib] at this; omega
    | false => simp [hib] at this; omega

theorem below_drewNW {B : Nat} {w w' : World} (h : Below B w w') (n : Nat) : Below B w (w'.drewN n) := ⟨h.os, h.tape, h.output, h.size, h.block⟩
/-- While what an advance told is looked at. -/
structure FI (B q Q u : Nat) (dues : List Int) (base : Nat) (v : Value) (l : List Th) (j : Nat) (w0 wr : World) : Prop where
  ex : ∃ D M, WI B wr D u ∧ D.q = q ∧ Left dues dues.length (Mt M l) D.things ∧ (∀ i, i < dues.length → InsB (dues.getD i 0) = true → Mt M l i = decide (dues.getD i 0 ≤ (u : Int))) ∧ (∀ k (hk : k < l.length), ∃ (i : Nat), i < dues.length ∧ l[k] = ((i : Int), 7, dues.getD i 0) ∧ dues.getD i 0 ≤ (u : Int) ∧ Mt M (l.take k) i = false) ∧ SeenB Q dues.length (Mt M (l.take j)) wr ∧ ¬ D.fp Q
  row : OT wr base v l
  hQ : Q < base
  bQ : B ≤ Q
  bl : Below B w0 wr
  few : l.length ≤ 256
theorem FT.adv {B q Q at_ u : Nat} {dues : List Int} {w0 wr : World} (h : FT B q Q at_ dues w0 wr) (hT : Tab wr) (hB0 : 0 < B) (hB : B ≤ w0.heap.size) (hau : at_ ≤ u) (hu : u ≤ 1125899906842624) :
    Calls Tryd.prog 39 #[.pointer (some ⟨q, 0, none⟩), .int .i64 u] wr fun e w2 => ∃ p l c, e = .returned (.tuple #[.slice p l.length c, .int .i64 0]) ∧ FI B q Q u dues wr.heap.size (.slice p l.length c) l 0 w0 w2 := by
  obtain ⟨D, M, hwi, hq, hL, hM, hS, hQ, hBQ, hb⟩ := h
  have hBr : B ≤ wr.heap.size := Nat.le_trans hB hb.size
  subst hq
  refine (wadv hwi hT hB0 hBr hau hu).mono ?_
  rintro e w2 ⟨v, D', L, he, hA⟩
  obtain ⟨l, hl⟩ : ∃ l, srt ltT zT L = l := ⟨_, rfl⟩
  have hlp : l.Perm L := hl ▸ srt_perm ltT zT L
  have hrow := hA.row
  rw [hl] at hrow
  obtain ⟨p, c, rfl, _⟩ := hrow.reads
  have hnd := nd_perm hlp (hA.nodup hwi)
  refine ⟨p, l, c, he, ⟨⟨D', M, hA.wi, hA.q, hL.step hA.perm hlp hA.due hA.late, fun i hi hv => hL.met hM hau hA.perm hlp hA.due hA.late hi hv, fun k hk => ?_, ?_, fun hg => ?_⟩, hrow, hS.lt, hBQ, hb.trans (hA.only.toBelow hBr (fun g hg => hwi.base g hg)), ?_⟩⟩
  · obtain ⟨i, h1, h2, h3, h4⟩ := hL.told hA.perm hlp hnd hk
    refine ⟨i, h1, h2, ?_, h4⟩
    have := hA.due _ (hlp.mem_iff.1 (List.getElem_mem hk))
    rw [h2] at this
    exact this
  · rw [List.take_zero, Mt_nil]
    exact hS.only hA.only hQ
  · rcases hA.fps Q hg with h | h
    · exact hQ h
    · have := hS.lt; omega
  · have h1 := hA.perm.length_eq
    rw [List.length_append] at h1
    have h2 := hwi.few
    have h3 := hlp.length_eq
    omega
theorem FI.look {B q Q u base j : Nat} {dues : List Int} {p : Option Addr} {n1 c : Nat} {l : List Th} {w0 wr : World} (h : FI B q Q u dues base (.slice p n1 c) l j w0 wr) (hj : j < l.length) :
    ∃ (g o i : Nat), p = some ⟨g, o, none⟩ ∧ i < dues.length ∧ dues.getD i 0 ≤ (u : Int) ∧ wr.cell? ⟨g, o + j * 3, none⟩ = some (.int .u64 (i : Int)) ∧ wr.cell? ⟨g, o + j * 3 + 1, none⟩ = some (.int .u64 7) ∧ wr.cell? ⟨g, o + j * 3 + 2, none⟩ = some (.int .i64 (dues.getD i 0)) ∧ wr.cell? ⟨Q, i, none⟩ = some (.bool false) ∧ wr.frozen? ⟨Q, i, none⟩ = false ∧ Q < wr.heap.size ∧
      ∀ w3, Below wr.heap.size wr w3 → FI B q Q u dues base (.slice p n1 c) l (j + 1) w0 (w3.setCell ⟨Q, i, none⟩ (.bool true)) := by
  obtain ⟨⟨D, M, hwi, hq, hL, hM, hK, hS, hQ⟩, hrow, hQb, hBQ, hb, hfew⟩ := h
  obtain ⟨i, h1, h2, h3, h4⟩ := hK j hj
  obtain ⟨a', c', ev, hT⟩ := hrow.reads
  injection ev with e1 e2 e3
  subst e1
  obtain ⟨g, o, hp, c0, c1, c2⟩ := hT j hj
  rw [h2] at c0 c1 c2
  have hs := hS.c i h1
  rw [h4] at hs
  refine ⟨g, o, i, hp, h1, h3, c0, c1, c2, hs, hS.free i, hS.lt, fun w3 hb3 => ?_⟩
  have ho : Only (fun k => k = Q) w3 (w3.setCell ⟨Q, i, none⟩ (.bool true)) := (Only.refl _ _).setCell _ _ rfl
  have hQr : ∀ g, (Value.slice p n1 c).ownBlock = some g → ¬ g = Q := fun g hg e => by have := (World.ownsRow.lt hrow g hg).1; omega
  have hB3 : B ≤ wr.heap.size := by have := hS.lt; omega
  refine ⟨⟨D, M, (hwi.below hb3).only ho (fun g hg e => hQ (e ▸ hg)), hq, hL, hM, hK, ?_, hQ⟩, (hrow.below hb3).only ho hQr, hQb, hBQ, (hb.trans (hb3.mono hB3)).setCell (by exact hBQ) _, hfew⟩
  rw [Mt_step M l j hj i (by rw [h2])]
  exact (hS.below hb3).set i h1
/-- What is left to look at once time went on. -/
def FC (B q Q u : Nat) (dues : List Int) (w0 wr : World) : Prop := FT B q Q u dues w0 wr ∧ ∀ i, i < dues.length → InsB (dues.getD i 0) = true → wr.cell? ⟨Q, i, none⟩ = some (.bool (decide (dues.getD i 0 ≤ (u : Int))))
theorem FI.done {B q Q u base : Nat} {dues : List Int} {v : Value} {l : List Th} {w0 wr : World} (h : FI B q Q u dues base v l l.length w0 wr) : FC B q Q u dues w0 wr := by
  obtain ⟨⟨D, M, hwi, hq, hL, hM, hK, hS, hQ⟩, hrow, hQb, hBQ, hb, hfew⟩ := h
  rw [List.take_length] at hS
  exact ⟨⟨D, Mt M l, hwi, hq, hL, Met.next hM, hS, hQ, hBQ, hb⟩, fun i hi hv => by rw [← hM i hi hv]; exact hS.c i hi⟩
end Go.Proofs.YtfclmbneimbmnaaDoor
