/- An almanac's after, Next, Closed; between; New; Row. -/
import Derived.Test.YtfeegohjgecjgaaAmA
import Derived.BigQuiet
import Derived.Lib.MinMax
import Derived.Deep.QuietTactic
namespace Go.Proofs.Ytfeegohjgecjgaa
open Go.RowKit

/-- A row from its span i on. -/
def sh (F : Nat → Int) (i k : Nat) : Int := F (i + k)
theorem sh_zero (F : Nat → Int) : sh F 0 = F := by funext k; simp [sh]
theorem sh_at (F : Nat → Int) (i : Nat) : sh F i 0 = F i := rfl
theorem Sps.alike {w : World} {a : Option Addr} {n : Nat} {F T F' T' : Nat → Int} (h : Sps w a n F T) (he : ∀ k, k < n → F k = F' k ∧ T k = T' k) : Sps w a n F' T' := by
  refine ⟨h.1, fun hp => ?_⟩
  obtain ⟨ab, ao, e, hl, hc⟩ := h.2 hp
  exact ⟨ab, ao, e, hl, fun k hk => by rw [← (he k hk).1, ← (he k hk).2]; exact hc k hk⟩
/-- What after hands back: the row from its first span on that ends behind t. -/
def Rest (a : Option Addr) (i n : Nat) (F T : Nat → Int) (w : World) (e : Ending) (w' : World) : Prop :=
  ∃ a' c', e = .returned (.slice a' (n - i : Nat) c') ∧ n - i ≤ c' ∧ Sps w' a' (n - i) (sh F i) (sh T i) ∧ (∀ x', 0 < n - i → a' = some x' → ∃ x, a = some x ∧ x.block = x'.block) ∧ Below w.heap.size w w'
theorem Sps.empty {w : World} {a : Option Addr} {n : Nat} {F T : Nat → Int} (h : n = 0) : Sps w a n F T := by
  subst h
  exact ⟨Nat.zero_le _, fun h => by omega⟩
theorem Sps.from_ {w : World} {a : Option Addr} {n : Nat} {F T : Nat → Int} (h : Sps w a n F T) (i : Nat) : Sps w (a.map (fun x => x.add (i * 2))) (n - i) (sh F i) (sh T i) := by
  refine ⟨by have := h.1; omega, fun hp => ?_⟩
  obtain ⟨ab, ao, rfl, hl, hc⟩ := h.2 (by omega)
  refine ⟨ab, ao + i * 2, by simp [Option.map, Addr.add], hl, fun k hk => ?_⟩
  have := hc (i + k) (by omega)
  rw [show ao + (i + k) * 2 = ao + i * 2 + k * 2 by omega] at this
  exact this
set_option maxRecDepth 100000 in
set_option maxHeartbeats 4000000 in
theorem after_any {p a : Option Addr} {n c : Nat} {F T : Nat → Int} {w : World} (t : Int) (h : Alm p a n c F T w) :
    Calls Try.prog 50 #[.pointer p, .int .i64 t] w (Rest a (idx T t n) n F T w) := by
  have B1 : Below w.heap.size w (w.alloc (.cells #[.int .i64 t] 2)) := (Below.refl _ _).alloc (Nat.le_refl _) _
  have B2 : Below w.heap.size w ((w.alloc (.cells #[.int .i64 t] 2)).alloc (.cells #[.slice a n c] 22)) := B1.alloc B1.size _
  have hcl := closed_any (h.kept B1)
  have h2 := h.kept B2
  have z0 : ((w.alloc (.cells #[.int .i64 t] 2)).alloc (.cells #[.slice a n c] 22)).cell? ⟨w.heap.size, 0, none⟩ = some (.int .i64 t) := by rw [World.cell?_alloc_past _ _ _ (by simp)]; simp
  have z1 : ((w.alloc (.cells #[.int .i64 t] 2)).alloc (.cells #[.slice a n c] 22)).cell? ⟨w.heap.size + 1, 0, none⟩ = some (.slice a n c) := by simp
  have hcap := h.cap
  have hlen := h.len
  have hm := h.sps.1
  have hi := idx_le T t n
  have hse := search_after w.heap.size (w.heap.size + 1) a n c F T t
  have HS := Lib.hid (fun q => hse ((((w.alloc (.cells #[.int .i64 t] 2)).alloc (.cells #[.slice a n c] 22))).drewN q) z0 z1 (h2.sps.kept ⟨rfl, rfl, rfl, Nat.le_refl _, fun _ _ => rfl⟩) h.len h.good)
  obtain ⟨i, hx⟩ : ∃ i, idx T t n = i := ⟨_, rfl⟩
  rw [hx] at hi HS ⊢
  have HP := Lib.hid h2.sps
  have HB := Lib.hid B2
  have i0 : (0 : Int) ≤ (i : Int) := by omega
  have i1 : (i : Int) ≤ (n : Int) := by omega
  have i2 : (i : Int) ≤ (c : Int) := by omega
  clear h h2 B1 B2 hse hx
  go_enter Try.func50, Try.ntmps50
  go_wp2_with (go_at_call 51; refine hcl.mono ?_; rintro e w' ⟨rfl, rfl⟩)
  generalize hW : ((w.alloc (.cells #[.int .i64 t] 2)).alloc (.cells #[.slice a n c] 22)) = W at *
  go_quiet ((go_at_call 74; exact Calls.quiet_of (HS.out _)))
  go_wp2_with fail
  all_goals go_ret
  · exact ⟨_, _, rfl, by omega, Sps.empty (by omega), fun x' h _ => by omega, below_drewN' HB.out _⟩
  · refine ⟨_, _, rfl, by omega, (HP.out.kept ⟨rfl, rfl, rfl, Nat.le_refl _, fun _ _ => rfl⟩).from_ i, ?_, below_drewN' HB.out _⟩
    intro x' _ hx
    cases a with
    | none => cases hx
    | some x =>
      injection hx with hx
      subst hx
      exact ⟨x, rfl, by unfold Addr.add; split <;> rfl⟩

/-- The first closed span that ends behind t, or zeros. -/
def nx (G T : Nat → Int) (n : Nat) (t : Int) : Int := if idx T t n < n then G (idx T t n) else 0
set_option maxRecDepth 100000 in
set_option maxHeartbeats 4000000 in
theorem next_any {p a : Option Addr} {n c : Nat} {F T : Nat → Int} {w : World} (t : Int) (h : Alm p a n c F T w) :
    Calls Try.prog 17 #[.pointer p, .int .i64 t] w fun e w' => e = .returned (.tuple #[.agg #[.int .i64 (nx F T n t), .int .i64 (nx T T n t)], .bool (decide (idx T t n < n))]) ∧ Below w.heap.size w w' := by
  have B1 : Below w.heap.size w (w.alloc (.cells #[.int .i64 0, .int .i64 0] 30)) := (Below.refl _ _).alloc (Nat.le_refl _) _
  have haf := after_any t (h.kept B1)
  have hlen := h.len
  have hx : ∀ G : Nat → Int, nx G T n t = if idx T t n < n then G (idx T t n) else 0 := fun _ => rfl
  have hi := idx_le T t n
  obtain ⟨i, hie⟩ : ∃ i, idx T t n = i := ⟨_, rfl⟩
  rw [hie] at haf hi hx ⊢
  have hx0 := hx F
  have hx1 := hx T
  rw [hx0, hx1]
  clear hx hx0 hx1 hie
  have HB1 := Lib.hid B1
  have hcx : (w.alloc (.cells #[.int .i64 0, .int .i64 0] 30)).cell? ⟨w.heap.size, 0, none⟩ = some (.int .i64 0) := by simp
  have hcy : (w.alloc (.cells #[.int .i64 0, .int .i64 0] 30)).cell? ⟨w.heap.size, 1, none⟩ = some (.int .i64 0) := by simp
  clear h B1
  by_cases hlt : i < n
  · rw [if_pos hlt, if_pos hlt]
    have dt : decide (i < n) = true := decide_eq_true hlt
    rw [dt]
    have dp : (0 : Nat) < n - i := by omega
    have dq' : ((n - i : Nat) : Int) ≠ 0 := by omega
    obtain ⟨m, hm⟩ : ∃ m, n - i = m := ⟨_, rfl⟩
    have haf2 : Calls Try.prog 50 #[.pointer p, .int .i64 t] (w.alloc (.cells #[.int .i64 0, .int .i64 0] 30)) (fun e w' => ∃ a' c', e = .returned (.slice a' m c') ∧ m ≤ c' ∧ Sps w' a' m (sh F i) (sh T i) ∧ (∀ x', 0 < m → a' = some x' → ∃ x, a = some x ∧ x.block = x'.block) ∧ Below (w.alloc (.cells #[.int .i64 0, .int .i64 0] 30)).heap.size (w.alloc (.cells #[.int .i64 0, .int .i64 0] 30)) w') := by rw [← hm]; exact haf
    rw [hm] at dp dq'
    clear haf
    have dq : (0 : Int) < (m : Int) := by omega
    have dq2 : ((m : Int) == 0) = false := by simp; omega
    go_enter Try.func17, Try.ntmps17
    go_wp2_with fail
    refine haf2.mono ?_
    rintro e w1 ⟨a', c', rfl, hc', hS, _, hb1⟩
    have hx1 := (hb1.cell (p := ⟨w.heap.size, 0, none⟩) (by simp)).trans hcx
    have hy1 := (hb1.cell (p := ⟨w.heap.size, 1, none⟩) (by simp)).trans hcy
    have fx1 : w1.frozen? ⟨w.heap.size, 0, none⟩ = false := (hb1.frozen (p := ⟨w.heap.size, 0, none⟩) (by simp)).trans (by simp)
    have fy1 : w1.frozen? ⟨w.heap.size, 1, none⟩ = false := (hb1.frozen (p := ⟨w.heap.size, 1, none⟩) (by simp)).trans (by simp)
    have HB2 := Lib.hid (HB1.out.trans (hb1.mono HB1.out.size))
    obtain ⟨ab, ao, rfl, hab, hk⟩ := hS.2 (by omega)
    obtain ⟨c0, c1, b0, b1, b2, b3⟩ := hk 0 (by omega)
    rw [sh_at] at c0 c1 b0 b1 b2 b3
    rw [Nat.zero_mul, Nat.add_zero] at c0 c1
    obtain ⟨f, hf⟩ : ∃ f, F i = f := ⟨_, rfl⟩
    obtain ⟨u, hu⟩ : ∃ f, T i = f := ⟨_, rfl⟩
    rw [hf] at c0 b0 b1
    rw [hu] at c1 b2 b3
    have HF := Lib.hid hf
    have HU := Lib.hid hu
    clear hS hk hf hu hb1 hcx hcy haf2 hm
    go_wp2_with fail
    have q0 : ((w1.setCell ⟨w.heap.size, 0, none⟩ (.int .i64 f)).setCell ⟨w.heap.size, 1, none⟩ (.int .i64 u)).cell? ⟨w.heap.size, 0, none⟩ = some (.int .i64 f) := by go_simp
    have q1 : ((w1.setCell ⟨w.heap.size, 0, none⟩ (.int .i64 f)).setCell ⟨w.heap.size, 1, none⟩ (.int .i64 u)).cell? ⟨w.heap.size, 1, none⟩ = some (.int .i64 u) := by go_simp
    refine bodyPost_ret (v := .tuple #[.agg #[.int .i64 f, .int .i64 u], .bool true]) (by simp [results, Try.results17, go_sem, q0, q1]) rfl ⟨by rw [HF.out, HU.out], ?_⟩
    exact (HB2.out.setCell (p := ⟨w.heap.size, 0, none⟩) (Nat.le_refl _) _).setCell (p := ⟨w.heap.size, 1, none⟩) (Nat.le_refl _) _
  · rw [if_neg hlt, if_neg hlt]
    have dt : decide (i < n) = false := decide_eq_false hlt
    rw [dt]
    have e0 : n - i = 0 := by omega
    have haf2 : Calls Try.prog 50 #[.pointer p, .int .i64 t] (w.alloc (.cells #[.int .i64 0, .int .i64 0] 30)) (fun e w' => ∃ a' c', e = .returned (.slice a' 0 c') ∧ Below (w.alloc (.cells #[.int .i64 0, .int .i64 0] 30)).heap.size (w.alloc (.cells #[.int .i64 0, .int .i64 0] 30)) w') := haf.mono (by
      rintro e w' ⟨a', c', rfl, _, _, _, hb⟩
      exact ⟨a', c', by rw [e0], hb⟩)
    clear haf
    go_enter Try.func17, Try.ntmps17
    go_wp2_with fail
    refine haf2.mono ?_
    rintro e w1 ⟨a', c', rfl, hb1⟩
    have hx1 := (hb1.cell (p := ⟨w.heap.size, 0, none⟩) (by simp)).trans hcx
    have hy1 := (hb1.cell (p := ⟨w.heap.size, 1, none⟩) (by simp)).trans hcy
    have fx1 : w1.frozen? ⟨w.heap.size, 0, none⟩ = false := (hb1.frozen (p := ⟨w.heap.size, 0, none⟩) (by simp)).trans (by simp)
    have fy1 : w1.frozen? ⟨w.heap.size, 1, none⟩ = false := (hb1.frozen (p := ⟨w.heap.size, 1, none⟩) (by simp)).trans (by simp)
    have HB2 := Lib.hid (HB1.out.trans (hb1.mono HB1.out.size))
    clear hb1 haf2 hcx hcy e0
    go_wp2_with fail
    have q0 : ((w1.setCell ⟨w.heap.size, 0, none⟩ (.int .i64 0)).setCell ⟨w.heap.size, 1, none⟩ (.int .i64 0)).cell? ⟨w.heap.size, 0, none⟩ = some (.int .i64 0) := by go_simp
    have q1 : ((w1.setCell ⟨w.heap.size, 0, none⟩ (.int .i64 0)).setCell ⟨w.heap.size, 1, none⟩ (.int .i64 0)).cell? ⟨w.heap.size, 1, none⟩ = some (.int .i64 0) := by go_simp
    refine bodyPost_ret (v := .tuple #[.agg #[.int .i64 0, .int .i64 0], .bool false]) (by simp [results, Try.results17, go_sem, q0, q1]) rfl ⟨rfl, ?_⟩
    exact (HB2.out.setCell (p := ⟨w.heap.size, 0, none⟩) (Nat.le_refl _) _).setCell (p := ⟨w.heap.size, 1, none⟩) (Nat.le_refl _) _

/-- What lies between two instants: from, to; 0 and 0 where there is nothing. -/
def gapF (x y : Int) : Int := if y ≤ x then 0 else x
def gapT (x y : Int) : Int := if y ≤ x then 0 else y
theorem between_span (x y : Int) (w : World) : Calls Try.prog 54 #[.int .i64 x, .int .i64 y] w (GotSpan (gapF x y) (gapT x y) w) := by
  by_cases h : y ≤ x
  · have d : decide (y ≤ x) = true := decide_eq_true h
    have e1 : gapF x y = 0 := if_pos h
    have e2 : gapT x y = 0 := if_pos h
    rw [e1, e2]
    clear e1 e2
    go_enter Try.func54, Try.ntmps54
    go_wp2_with fail
    refine bodyPost_ret (v := .agg #[.int .i64 0, .int .i64 0]) (by simp [results, Try.results54, go_sem]) rfl ⟨_, _, rfl, rfl, rfl, ?_⟩
    exact (Below.refl _ _).alloc (Nat.le_refl _) _
  · have d : decide (y ≤ x) = false := decide_eq_false h
    have e1 : gapF x y = x := if_neg h
    have e2 : gapT x y = y := if_neg h
    rw [e1, e2]
    clear e1 e2
    go_enter Try.func54, Try.ntmps54
    go_wp2_with fail
    refine bodyPost_ret (v := .agg #[.int .i64 x, .int .i64 y]) (by simp [results, Try.results54, go_sem]) rfl ⟨_, _, rfl, rfl, rfl, ?_⟩
    exact (Below.refl _ _).alloc (Nat.le_refl _) _

/-- Whether a second is closed. -/
def closedB (F T : Nat → Int) (n : Nat) (t : Int) : Bool := decide (idx T t n < n) && decide (nx F T n t ≤ t)
set_option maxRecDepth 100000 in
set_option maxHeartbeats 4000000 in
theorem closed_at {p a : Option Addr} {n c : Nat} {F T : Nat → Int} {w : World} (t : Int) (h : Alm p a n c F T w) :
    Calls Try.prog 19 #[.pointer p, .int .i64 t] w fun e w' => e = .returned (.bool (closedB F T n t)) ∧ Below w.heap.size w w' := by
  have hn := next_any t h
  have HE := Lib.hid (show closedB F T n t = (decide (idx T t n < n) && decide (nx F T n t ≤ t)) from rfl)
  obtain ⟨x, hx⟩ : ∃ x, nx F T n t = x := ⟨_, rfl⟩
  obtain ⟨y, hy⟩ : ∃ x, nx T T n t = x := ⟨_, rfl⟩
  obtain ⟨b, hb⟩ : ∃ b, decide (idx T t n < n) = b := ⟨_, rfl⟩
  obtain ⟨d, hd⟩ : ∃ b, decide (x ≤ t) = b := ⟨_, rfl⟩
  rw [hx, hy, hb] at hn
  rw [hx, hb, hd] at HE
  clear h hx hy hb
  cases b <;> cases d
  all_goals
    go_enter Try.func19, Try.ntmps19
    go_wp2_with fail
    refine hn.mono ?_
    rintro e w1 ⟨rfl, hb1⟩
    clear hn
    go_wp2_with fail
    go_ret
    exact ⟨ret_bool (by rw [HE.out]; rfl), hb1.alloc hb1.size _⟩
theorem closedB_iff {F T : Nat → Int} {n : Nat} (hg : good F T n = true) (t : Int) : closedB F T n t = hasB F T t n := by
  have h1 := idx_le T t n
  by_cases h : idx T t n < n
  · have h2 := idx_hi (t := t) n (idx T t n) (Nat.le_refl _) h
    have e : nx F T n t = F (idx T t n) := if_pos h
    unfold closedB
    rw [e, decide_eq_true h, Bool.true_and]
    cases hh : hasB F T t n with
    | true =>
      obtain ⟨k, hk, h3, h4⟩ := (hasB_iff n).1 hh
      refine decide_eq_true ?_
      by_cases e2 : k < idx T t n
      · have := idx_lo hg k e2; omega
      · by_cases e3 : k = idx T t n
        · rw [← e3]; exact h3
        · have := good_order hg k (idx T t n) (by omega) hk; omega
    | false =>
      refine decide_eq_false fun h3 => ?_
      have : hasB F T t n = true := (hasB_iff n).2 ⟨idx T t n, h, h3, h2⟩
      rw [hh] at this
      cases this
  · unfold closedB
    rw [decide_eq_false h, Bool.false_and]
    cases hh : hasB F T t n with
    | false => rfl
    | true =>
      obtain ⟨k, hk, h3, h4⟩ := (hasB_iff n).1 hh
      have := idx_lo (t := t) hg k (by omega)
      omega

/-- Row: a copy. -/
theorem row_alm {p a : Option Addr} {n c : Nat} {F T : Nat → Int} {w : World} (h : Alm p a n c F T w) :
    Calls Try.prog 22 #[.pointer p] w (Copied (pairs F T n) w) := by
  have hc := closed_any h
  have hk := clone_any a n c F T w h.sps (by have := h.len; omega)
  clear h
  go_enter Try.func22, Try.ntmps22
  go_wp2_with fail
  refine hc.mono ?_
  rintro e w1 ⟨rfl, rfl⟩
  clear hc
  go_wp2_with fail
  refine hk.mono ?_
  rintro e w1 ⟨v, rfl, hO, hb1⟩
  have HO := Lib.hid hO
  clear hk hO
  go_wp2_with fail
  go_ret
  exact ⟨v, rfl, HO.out, hb1⟩

/-- An almanac made. -/
def AlmMade (n : Nat) (F T : Nat → Int) (w : World) (e : Ending) (w' : World) : Prop :=
  ∃ A a c, e = .returned (.tuple #[.pointer (some ⟨A, 0, none⟩), .int .i64 0]) ∧ w.heap.size ≤ A ∧ Alm (some ⟨A, 0, none⟩) a n c F T w' ∧ (∀ x, 0 < n → a = some x → w.heap.size ≤ x.block ∧ x.block ≠ A) ∧ Below w.heap.size w w'
set_option maxRecDepth 100000 in
theorem made_ok (a : Option Addr) (n cap : Nat) (F T : Nat → Int) (w : World) (hS : Sps w a n F T) (hn : n ≤ 32) (hg : good F T n = true) :
    Calls Try.prog 15 #[.slice a n cap] w (AlmMade n F T w) := by
  have hr := row_any a n cap F T w hS
  rw [rowE_ok hn hg] at hr
  have HCL := Lib.hid (fun w1 (hb : Below w.heap.size w w1) => clone_any a n cap F T w1 (hS.kept hb) (by omega))
  have HG := Lib.hid hg
  have HLN := Lib.hid (pairs_len F T n)
  have HC := Lib.hid hS
  clear hS hg
  go_enter Try.func15, Try.ntmps15
  go_wp2_with fail
  refine hr.mono ?_
  rintro e w1 ⟨rfl, hb1⟩
  have hcl := HCL.out w1 hb1
  have HB1 := Lib.hid hb1
  clear hr hb1
  go_wp2_with fail
  refine hcl.mono ?_
  rintro e w2 ⟨v, rfl, hO, hb2⟩
  obtain ⟨va, vc, rfl, _, hsh⟩ := hO.shape
  have hS2 : Sps w2 va n F T := by
    have h := (hO.sps (by
      intro s hs
      obtain ⟨k, hk, rfl⟩ := pairs_mem.1 hs
      obtain ⟨_, _, _, _, _, _, b⟩ := HC.out.at (Below.refl _ _) k hk
      exact b)).2
    rw [HLN.out] at h
    exact h.alike fun k hk => pairs_at F T n k hk
  have hcap : n ≤ vc := by
    rcases hO.2 with ⟨hv, h0⟩ | ⟨g, cap2, cur, hv, hg2, hh, hc, hm, _⟩
    · rw [HLN.out] at h0; omega
    · injection hv with _ _ hv3
      rw [HLN.out] at hc; omega
  rw [HLN.out] at hsh ⊢
  have hblk : ∀ x, 0 < n → va = some x → w.heap.size ≤ x.block ∧ x.block ≠ w2.heap.size := by
    intro x hp hx
    obtain ⟨g, e, h1, h2, _⟩ := hsh hp
    rw [hx] at e
    injection e with e
    subst e
    have := HB1.out.size
    exact ⟨by show w.heap.size ≤ g; omega, by show g ≠ w2.heap.size; omega⟩
  have HB2 := Lib.hid (HB1.out.trans (hb2.mono HB1.out.size))
  have HS2 := Lib.hid hS2
  have HK := Lib.hid hblk
  clear hcl hO hb2 hS2 hsh hblk
  go_wp2_with fail
  go_ret2
  have B3 : Below w2.heap.size w2 (w2.alloc (.cells #[.slice va n vc] 49)) := (Below.refl _ _).alloc (Nat.le_refl _) _
  exact ⟨w2.heap.size, va, vc, rfl, HB2.out.size, ⟨.inr ⟨_, rfl, by simp⟩, HS2.out.kept B3, hcap, hn, HG.out⟩, HK.out, HB2.out.alloc HB2.out.size _⟩
theorem made_bad (a : Option Addr) (n cap : Nat) (F T : Nat → Int) (w : World) (hS : Sps w a n F T) (hw : (rowE F T n != 0) = true) :
    Calls Try.prog 15 #[.slice a n cap] w fun e w' => e = .returned (.tuple #[.pointer none, .int .i64 (rowE F T n)]) ∧ Below w.heap.size w w' := by
  have hr := row_any a n cap F T w hS
  clear hS
  generalize rowE F T n = z at hr hw ⊢
  go_enter Try.func15, Try.ntmps15
  go_wp2_with fail
  refine hr.mono ?_
  rintro e w1 ⟨rfl, hb1⟩
  clear hr
  go_wp2_with fail
  go_ret2
  exact ⟨rfl, hb1⟩
end Go.Proofs.Ytfeegohjgecjgaa
