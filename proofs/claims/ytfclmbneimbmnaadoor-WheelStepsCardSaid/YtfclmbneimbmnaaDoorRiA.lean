/- A ring whose slots bear the rows S; its Get. -/
import Derived.Test.YtfclmbneimbmnaaDoorRiP
import Derived.Test.YtfclmbneimbmnaaDoorNxQ
import Derived.Test.YtfclmbneimbmnaaDoorSrE
namespace Go.Proofs.YtfclmbneimbmnaaDoor
open Go.RowKit

/-- How many there are in the first n rows. -/
def tot {α : Type} (S : Nat → List α) : Nat → Nat
  | 0 => 0
  | k + 1 => tot S k + (S k).length
theorem tot_ge {α : Type} (S : Nat → List α) {s : Nat} : ∀ n, s < n → (S s).length ≤ tot S n
  | 0, h => by omega
  | n + 1, h => by
    unfold tot
    by_cases e : s = n
    · subst e; omega
    · have := tot_ge S n (show s < n by omega); omega
theorem tot_other {α : Type} (S : Nat → List α) (s : Nat) (l : List α) : ∀ n, n ≤ s → tot (upd S s l) n = tot S n
  | 0, _ => rfl
  | n + 1, h => by
    unfold tot
    rw [tot_other S s l n (by omega)]
    unfold upd
    rw [if_neg (by omega)]
theorem tot_upd {α : Type} (S : Nat → List α) (s : Nat) (l : List α) : ∀ n, s < n → tot (upd S s l) n + (S s).length = tot S n + l.length
  | 0, h => by omega
  | n + 1, h => by
    unfold tot
    by_cases e : s = n
    · subst e
      rw [tot_other S s l s (Nat.le_refl _)]
      unfold upd
      rw [if_pos rfl]
      omega
    · have := tot_upd S s l n (by omega)
      have e2 : upd S s l n = S n := by unfold upd; rw [if_neg (Ne.symm e)]
      rw [e2]; omega

def idT (t : Th) : Int := t.1
/-- What an ID may be. -/
def IdOk (x : Int) : Prop := 0 ≤ x ∧ x < 18446744073709551616

/-- A ring at block r, its map at block b, its slots' slices V, its rows S. -/
structure Rn (w : World) (r b : Nat) (V : Nat → Value) (S : Nat → List Th) (M : Int → Option (Nat × Nat)) : Prop where
  rg : Rg w r b (tot S 64) V M
  rw : Rw w 0 r b V S
  cons : Cons idT S M
  ne : r ≠ b
  ok : ∀ s, s < 64 → ∀ t, t ∈ S s → IdOk t.1
  few : tot S 64 < 1000000

theorem Rn.below {w w' : World} {r b : Nat} {V : Nat → Value} {S : Nat → List Th} {M : Int → Option (Nat × Nat)} (h : Rn w r b V S M) (hb : Below w.heap.size w w') : Rn w' r b V S M :=
  ⟨h.rg.below hb, h.rw.below hb, h.cons, h.ne, h.ok, h.few⟩
theorem Rn.at {w : World} {r b : Nat} {V : Nat → Value} {S : Nat → List Th} {M : Int → Option (Nat × Nat)} (h : Rn w r b V S M) {s i : Nat} {t : Th} (hs : s < 64) (ht : (S s)[i]? = some t) : M t.1 = some (s, i) :=
  (h.cons _ _ _).2 ⟨hs, by rw [ht]; rfl⟩
theorem Rn.nowhere {w : World} {r b : Nat} {V : Nat → Value} {S : Nat → List Th} {M : Int → Option (Nat × Nat)} (h : Rn w r b V S M) {x : Int} (hx : ∀ s, s < 64 → ∀ t, t ∈ S s → t.1 ≠ x) : M x = none := by
  cases e : M x with
  | none => rfl
  | some p =>
    obtain ⟨s, i⟩ := p
    obtain ⟨hs, hi⟩ := (h.cons _ _ _).1 e
    cases e2 : (S s)[i]? with
    | none => rw [e2] at hi; cases hi
    | some t =>
      rw [e2] at hi
      injection hi with hi
      exact absurd hi (hx s hs t (List.mem_of_getElem? e2))
/-- A row that is not empty lies in a block. -/
theorem OT.block {w : World} {base i : Nat} {v : Value} {l : List Th} {t : Th} (h : OT w base v l) (ht : l[i]? = some t) : ∃ g c, v = .slice (some ⟨g, 0, none⟩) l.length c ∧ g < w.heap.size ∧ v.ownBlock = some g ∧ i < l.length ∧ w.cell? ⟨g, i * 3, none⟩ = some (.int .u64 t.1) ∧ w.cell? ⟨g, i * 3 + 1, none⟩ = some (.int .u64 t.2.1) ∧ w.cell? ⟨g, i * 3 + 2, none⟩ = some (.int .i64 t.2.2) := by
  have hi := (List.getElem?_eq_some_iff.1 ht).1
  have he := (List.getElem?_eq_some_iff.1 ht).2
  rcases h.2 with ⟨rfl, h0⟩ | ⟨g, cap, cur, rfl, _, hc, _⟩
  · omega
  · obtain ⟨_, _, ev, hT⟩ := h.reads
    injection ev with ev _ _
    subst ev
    obtain ⟨B, o, eB, c0, c1, c2⟩ := hT i hi
    injection eB with eB
    injection eB with eB1 eB2
    subst eB1 eB2
    rw [he] at c0 c1 c2
    rw [Nat.zero_add] at c0 c1 c2
    exact ⟨g, cap, rfl, (Array.getElem?_eq_some_iff.1 hc).1, rfl, hi, c0, c1, c2⟩

theorem zero_three (w : World) : (w.alloc (.cells #[.int .u64 0, .int .u64 0, .int .i64 0] 27)).cell? ⟨w.heap.size, 0, none⟩ = some (.int .u64 0) ∧ (w.alloc (.cells #[.int .u64 0, .int .u64 0, .int .i64 0] 27)).cell? ⟨w.heap.size, 1, none⟩ = some (.int .u64 0) ∧ (w.alloc (.cells #[.int .u64 0, .int .u64 0, .int .i64 0] 27)).cell? ⟨w.heap.size, 2, none⟩ = some (.int .i64 0) := by simp

set_option maxRecDepth 100000 in
set_option maxHeartbeats 4000000 in
theorem get_none {r b : Nat} {V : Nat → Value} {S : Nat → List Th} {M : Int → Option (Nat × Nat)} (x : Int) (w : World) (h : Rn w r b V S M) (hx : IdOk x) (hM : M x = none) :
    Calls Tryd.prog 75 #[.pointer (some ⟨r, 0, none⟩), .int .u64 x] w fun e w' => e = .returned (.tuple #[.agg #[.int .u64 0, .int .u64 0, .int .i64 0], .int .i64 0, .bool false]) ∧ Below w.heap.size w w' := by
  have hb : Below w.heap.size w (w.alloc (.cells #[.int .u64 0, .int .u64 0, .int .i64 0] 27)) := (Below.refl _ _).alloc (Nat.le_refl _) _
  have h1 := h.below hb
  have hc := created_yes r b _ h1.rg.map
  have hm := h1.rg.map
  have hlk := h1.rg.pl.look_none hx hM
  have hs : w.heap.size < (w.alloc (.cells #[.int .u64 0, .int .u64 0, .int .i64 0] 27)).heap.size := by simp
  obtain ⟨z0, z1, z2⟩ := zero_three w
  have HP := Lib.hid hb
  clear h h1 hb
  go_enter Tryd.func75, Tryd.ntmps75
  go_wp2_with (go_at_call 77; with_reducible refine hc.mono ?_; rintro e w1 ⟨rfl, rfl⟩)
  refine bodyPost_ret (v := .tuple #[.agg #[.int .u64 0, .int .u64 0, .int .i64 0], .int .i64 0, .bool false]) (by simp [results, Tryd.results75, go_sem]) rfl ⟨rfl, ?_⟩
  exact HP.out.alloc (by simp) _

set_option maxRecDepth 100000 in
set_option maxHeartbeats 4000000 in
theorem get_some {r b s i : Nat} {V : Nat → Value} {S : Nat → List Th} {M : Int → Option (Nat × Nat)} {t : Th} (w : World) (h : Rn w r b V S M) (hs : s < 64) (ht : (S s)[i]? = some t) :
    Calls Tryd.prog 75 #[.pointer (some ⟨r, 0, none⟩), .int .u64 t.1] w fun e w' => e = .returned (.tuple #[.agg #[.int .u64 t.1, .int .u64 t.2.1, .int .i64 t.2.2], .int .i64 s, .bool true]) ∧ Below w.heap.size w w' := by
  have hx := h.ok s hs t (List.mem_of_getElem? ht)
  have hM := h.at hs ht
  have hb : Below w.heap.size w (w.alloc (.cells #[.int .u64 0, .int .u64 0, .int .i64 0] 27)) := (Below.refl _ _).alloc (Nat.le_refl _) _
  have hsz : (w.alloc (.cells #[.int .u64 0, .int .u64 0, .int .i64 0] 27)).heap.size = w.heap.size + 1 := by simp
  have hz : ∀ o, (w.alloc (.cells #[.int .u64 0, .int .u64 0, .int .i64 0] 27)).frozen? ⟨w.heap.size, o, none⟩ = false := fun o => by simp
  have hq := zero_three w
  have h1 := h.below hb
  have hc := created_yes r b _ h1.rg.map
  have hm := h1.rg.map
  have hlk := h1.rg.pl.look_some hx hM
  have hsl := h1.rg.slot s hs
  obtain ⟨g, vc, hV, hgl, _, hi, c0, c1, c2⟩ := (h1.rw.row s hs).block ht
  rw [hV] at hsl
  have hl : (S s).length < 1000000 := Nat.lt_of_le_of_lt (tot_ge S 64 hs) h.few
  obtain ⟨n, hn⟩ : ∃ n, (S s).length = n := ⟨_, rfl⟩
  rw [hn] at hsl hi hl
  obtain ⟨x, y, z⟩ := t
  simp only at c0 c1 c2 hlk
  have HP := Lib.hid hb
  have hrb : r < w.heap.size := by have := cell_lt h.rg.map; exact this
  have hgw : g < w.heap.size := by
    obtain ⟨g', vc', hV', hgl', _⟩ := (h.rw.row s hs).block ht
    rw [hV] at hV'
    injection hV' with hV'
    injection hV' with hV'
    injection hV' with hV'
    omega
  obtain ⟨T, hT⟩ : ∃ T, w.heap.size = T := ⟨_, rfl⟩
  go_enter Tryd.func75, Tryd.ntmps75
  go_wp2_with fail
  rw [hT] at hq hz hsz
  generalize w.alloc (.cells #[.int .u64 0, .int .u64 0, .int .i64 0] 27) = W1 at hc hm hlk hsl c0 c1 c2 HP hsz hz hq hgl h1 ⊢
  clear h1 h hb
  obtain ⟨q0, q1, q2⟩ := hq
  have b2 : Below W1.heap.size W1 (W1.alloc (.cells #[.int .i64 s, .int .i64 i] 182)) := (Below.refl _ _).alloc (Nat.le_refl _) _
  have p0 : (W1.alloc (.cells #[.int .i64 s, .int .i64 i] 182)).cell? ⟨W1.heap.size, 0, none⟩ = some (.int .i64 s) := World.cell?_alloc_at _ _ _ _ rfl
  have p1 : (W1.alloc (.cells #[.int .i64 s, .int .i64 i] 182)).cell? ⟨W1.heap.size, 1, none⟩ = some (.int .i64 i) := World.cell?_alloc_at _ _ _ _ rfl
  have s2 : (W1.alloc (.cells #[.int .i64 s, .int .i64 i] 182)).heap.size = T + 2 := by simp; omega
  have rl : r < W1.heap.size := by omega
  have e0 := (b2.cell (p := ⟨g, i * 3, none⟩) hgl).trans c0
  have e1 := (b2.cell (p := ⟨g, i * 3 + 1, none⟩) hgl).trans c1
  have e2 := (b2.cell (p := ⟨g, i * 3 + 2, none⟩) hgl).trans c2
  have es := (b2.cell (p := ⟨r, s, none⟩) rl).trans hsl
  have r0 := (b2.cell (p := ⟨T, 0, none⟩) (by show T < _; omega)).trans q0
  have r1 := (b2.cell (p := ⟨T, 1, none⟩) (by show T < _; omega)).trans q1
  have r2 := (b2.cell (p := ⟨T, 2, none⟩) (by show T < _; omega)).trans q2
  have f0 := (b2.frozen (p := ⟨T, 0, none⟩) (by show T < _; omega)).trans (hz 0)
  have f1 := (b2.frozen (p := ⟨T, 1, none⟩) (by show T < _; omega)).trans (hz 1)
  have f2 := (b2.frozen (p := ⟨T, 2, none⟩) (by show T < _; omega)).trans (hz 2)
  have HB2 := Lib.hid (HP.out.trans (b2.mono (by omega)))
  clear hsl c0 c1 c2 q0 q1 q2
  have hs0 : (0 : Int) ≤ (s : Int) := by omega
  have hs64 : (s : Int) < 64 := by omega
  have hi0 : (0 : Int) ≤ (i : Int) := by omega
  have hin : (i : Int) < (n : Int) := by omega
  go_wp2_with (go_at_call 77; with_reducible refine hc.mono ?_; rintro e w1 ⟨rfl, rfl⟩)
  rw [hsz] at p0 p1
  generalize w1.alloc (.cells #[.int .i64 s, .int .i64 i] 182) = W2 at b2 p0 p1 s2 e0 e1 e2 es r0 r1 r2 f0 f1 f2 HB2 ⊢
  have mixed := insTh.mixed
  have HS : Hid (∀ w', Only (fun k => k = T) W2 w' → w'.cell? ⟨T + 1, 0, none⟩ = some (.int .i64 s) ∧ w'.cell? ⟨T + 1, 1, none⟩ = some (.int .i64 i) ∧ w'.cell? ⟨r, s, none⟩ = some (.slice (some ⟨g, 0, none⟩) n vc) ∧ w'.cell? ⟨g, i * 3, none⟩ = some (.int .u64 x) ∧ w'.cell? ⟨g, i * 3 + 1, none⟩ = some (.int .u64 y) ∧ w'.cell? ⟨g, i * 3 + 2, none⟩ = some (.int .i64 z)) := Lib.hid (fun w' ho =>
    ⟨(ho.cell (p := ⟨T + 1, _, none⟩) (by show T + 1 < _; omega) (by show ¬ T + 1 = T; omega)).trans p0, (ho.cell (p := ⟨T + 1, _, none⟩) (by show T + 1 < _; omega) (by show ¬ T + 1 = T; omega)).trans p1, (ho.cell (p := ⟨r, _, none⟩) (by show r < _; omega) (by show ¬ r = T; omega)).trans es, (ho.cell (p := ⟨g, _, none⟩) (by show g < _; omega) (by show ¬ g = T; omega)).trans e0, (ho.cell (p := ⟨g, _, none⟩) (by show g < _; omega) (by show ¬ g = T; omega)).trans e1, (ho.cell (p := ⟨g, _, none⟩) (by show g < _; omega) (by show ¬ g = T; omega)).trans e2⟩)
  clear hc hm hlk hM hV ht hn hgl hz hsz HP b2 hrb rl hgw es e0 e1 e2 p0 p1
  have tT : T < W2.heap.size := by omega
  go_region_held3 (fun w' => w'.cell? ⟨T + 1, 0, none⟩ = some (.int .i64 s) ∧ w'.cell? ⟨T + 1, 1, none⟩ = some (.int .i64 i) ∧ w'.cell? ⟨r, s, none⟩ = some (.slice (some ⟨g, 0, none⟩) n vc) ∧ w'.cell? ⟨g, i * 3, none⟩ = some (.int .u64 x) ∧ w'.cell? ⟨g, i * 3 + 1, none⟩ = some (.int .u64 y) ∧ w'.cell? ⟨g, i * 3 + 2, none⟩ = some (.int .i64 z))
    (first | assumption | exact HS.out _ (by repeat (first | exact Only.refl _ _ | apply Only.drew | refine Only.setCell ?_ _ _ rfl))) (fail)
  all_goals
    obtain ⟨k0, k1, k2⟩ := three_read (u := .int .u64 x) (v := .int .u64 y) (z := .int .i64 z) r0 r1 r2
    have h3 := below_three (a := w) (w := W2) HB2.out (show w.heap.size ≤ T by omega) (.int .u64 x) (.int .u64 y) (.int .i64 z)
    generalize ((W2.setCell ⟨T, 0, none⟩ (.int .u64 x)).setCell ⟨T, 1, none⟩ (.int .u64 y)).setCell ⟨T, 2, none⟩ (.int .i64 z) = W3 at k0 k1 k2 h3 ⊢
    have d0 : W3.drew.cell? ⟨T, 0, none⟩ = some (.int .u64 x) := k0
    have d1 : W3.drew.cell? ⟨T, 1, none⟩ = some (.int .u64 y) := k1
    have d2 : W3.drew.cell? ⟨T, 2, none⟩ = some (.int .i64 z) := k2
    clear r0 r1 r2 f0 f1 f2
    go_wp2
    refine bodyPost_ret (v := .tuple #[.agg #[.int .u64 x, .int .u64 y, .int .i64 z], .int .i64 s, .bool true]) (by simp [results, Tryd.results75, go_sem, d0, d1, d2, k0, k1, k2]) rfl ⟨rfl, h3.drew⟩
end Go.Proofs.YtfclmbneimbmnaaDoor
