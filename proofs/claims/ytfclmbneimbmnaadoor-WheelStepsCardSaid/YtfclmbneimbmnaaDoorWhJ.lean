import Derived.Test.YtfclmbneimbmnaaDoorWhI
import Derived.Deep.DeepMust
import Derived.BigQuiet
namespace Go.Proofs.YtfclmbneimbmnaaDoor
open Go.RowKit
/- How the rings of a wheel go on with time: the numbers, and what waits where. -/

/-- The last slot of a ring that is reached on the way from a to u. -/
def lstN (k a u : Nat) : Nat := if a / 2 ^ (6 * (k + 1)) = u / 2 ^ (6 * (k + 1)) then slN k u else 63

theorem div_between {a u d m : Nat} (h1 : a ≤ u) (h2 : u ≤ d) (h : d / m = a / m) : u / m = a / m := by
  have := Nat.div_le_div_right (c := m) h1
  have := Nat.div_le_div_right (c := m) h2
  omega
theorem digit_split (x k : Nat) : x / 2 ^ (6 * k) = x / 2 ^ (6 * (k + 1)) * 64 + slN k x := by
  unfold slN
  have e : 2 ^ (6 * (k + 1)) = 2 ^ (6 * k) * 64 := by rw [show 6 * (k + 1) = 6 * k + 6 by omega, Nat.pow_add]
  rw [e, ← Nat.div_div_eq_div_mul]
  omega
/-- What was reached and is not due goes down. -/
theorem lv_down {a u d k : Nat} (hk : k < 4) (h1 : a ≤ u) (h2 : u < d) (hl : lvN a d = k) (hs : slN k d ≤ lstN k a u) : lvN u d < k := by
  have e1 := (lvN_le a d k hk (by omega)).1 (by omega)
  have e2 := div_between h1 (Nat.le_of_lt h2) e1
  have e3 : lstN k a u = slN k u := by unfold lstN; rw [if_pos e2.symm]
  rw [e3] at hs
  have q1 := digit_split d k
  have q2 := digit_split u k
  have hm : u / 2 ^ (6 * k) ≤ d / 2 ^ (6 * k) := Nat.div_le_div_right (Nat.le_of_lt h2)
  rw [q1, q2, e1, e2] at hm
  have e4 : d / 2 ^ (6 * k) = u / 2 ^ (6 * k) := by rw [q1, q2, e1, e2]; omega
  match k, e4 with
  | 0, e4 => simp at e4; omega
  | k + 1, e4 => have := (lvN_le u d k (by omega) h2).2 e4; omega
/-- What was not reached stays where it is. -/
theorem lv_stay {a u d k : Nat} (hk : k < 4) (h1 : a ≤ u) (h0 : a < d) (hl : lvN a d = k) (hs : lstN k a u < slN k d) : u < d ∧ lvN u d = k := by
  have e1 := (lvN_le a d k hk h0).1 (by omega)
  have h63 := slN_lt k d
  have e2 : a / 2 ^ (6 * (k + 1)) = u / 2 ^ (6 * (k + 1)) := by
    by_cases e : a / 2 ^ (6 * (k + 1)) = u / 2 ^ (6 * (k + 1))
    · exact e
    · unfold lstN at hs; rw [if_neg e] at hs; omega
  have e3 : lstN k a u = slN k u := by unfold lstN; rw [if_pos e2]
  rw [e3] at hs
  have q1 := digit_split d k
  have q2 := digit_split u k
  have hud : u < d := by
    by_cases e : u < d
    · exact e
    · have hm : d / 2 ^ (6 * k) ≤ u / 2 ^ (6 * k) := Nat.div_le_div_right (by omega)
      rw [q1, q2, e1, e2] at hm
      omega
  have hle := (lvN_le u d k hk hud).2 (by rw [e1, e2])
  refine ⟨hud, ?_⟩
  match k, hle with
  | 0, hle => omega
  | k + 1, hle =>
    by_cases e : lvN u d ≤ k
    · have e4 := (lvN_le u d k (by omega) hud).1 e
      rw [q1, q2, e1, e2] at e4
      omega
    · omega

/-- All that waits in a ring. -/
def ringL (S : Nat → List Th) : Nat → List Th
  | 0 => []
  | n + 1 => ringL S n ++ S n
theorem ringL_other (S : Nat → List Th) (s : Nat) (l : List Th) : ∀ n, n ≤ s → ringL (upd S s l) n = ringL S n := by
  intro n
  induction n with
  | zero => intro _; rfl
  | succ n ih =>
    intro h
    show ringL (upd S s l) n ++ upd S s l n = ringL S n ++ S n
    rw [ih (by omega)]
    unfold upd
    rw [if_neg (by omega)]
theorem ringL_upd (S : Nat → List Th) (s : Nat) (l : List Th) : ∀ n, s < n → (ringL (upd S s l) n ++ S s).Perm (ringL S n ++ l) := by
  intro n
  induction n with
  | zero => intro h; omega
  | succ n ih =>
    intro h
    by_cases e : s = n
    · subst e
      show (ringL (upd S s l) s ++ upd S s l s ++ S s).Perm (ringL S s ++ S s ++ l)
      rw [ringL_other S s l s (by omega)]
      unfold upd
      rw [if_pos rfl, List.append_assoc, List.append_assoc]
      exact List.Perm.append_left _ List.perm_append_comm
    · show (ringL (upd S s l) n ++ upd S s l n ++ S s).Perm (ringL S n ++ S n ++ l)
      have eu : upd S s l n = S n := by unfold upd; rw [if_neg (by omega)]
      rw [eu]
      have h1 := ih (by omega)
      have h2 : (ringL (upd S s l) n ++ S n ++ S s).Perm (ringL (upd S s l) n ++ S s ++ S n) := by
        rw [List.append_assoc, List.append_assoc]; exact List.Perm.append_left _ List.perm_append_comm
      have h3 : (ringL S n ++ l ++ S n).Perm (ringL S n ++ S n ++ l) := by
        rw [List.append_assoc, List.append_assoc]; exact List.Perm.append_left _ List.perm_append_comm
      exact h2.trans ((h1.append_right _).trans h3)
theorem mem_ringL {S : Nat → List Th} {t : Th} : ∀ {n : Nat}, t ∈ ringL S n ↔ ∃ s, s < n ∧ t ∈ S s := by
  intro n
  induction n with
  | zero => simp [ringL]
  | succ n ih =>
    show t ∈ ringL S n ++ S n ↔ _
    rw [List.mem_append, ih]
    constructor
    · rintro (⟨s, h1, h2⟩ | h)
      · exact ⟨s, by omega, h2⟩
      · exact ⟨n, by omega, h⟩
    · rintro ⟨s, h1, h2⟩
      by_cases e : s = n
      · subst e; exact .inr h2
      · exact .inl ⟨s, by omega, h2⟩
/-- All that waits in a wheel. -/
def WD.things (D : WD) : List Th := ringL (D.R 0).S 64 ++ (ringL (D.R 1).S 64 ++ (ringL (D.R 2).S 64 ++ (ringL (D.R 3).S 64 ++ D.BL)))
theorem mem_things {D : WD} {t : Th} : t ∈ D.things ↔ (∃ k, k < 4 ∧ ∃ s, s < 64 ∧ t ∈ (D.R k).S s) ∨ t ∈ D.BL := by
  unfold WD.things
  simp only [List.mem_append, mem_ringL]
  constructor
  · rintro (h | h | h | h | h)
    · exact .inl ⟨0, by omega, h⟩
    · exact .inl ⟨1, by omega, h⟩
    · exact .inl ⟨2, by omega, h⟩
    · exact .inl ⟨3, by omega, h⟩
    · exact .inr h
  · rintro (⟨k, hk, h⟩ | h)
    · have : k = 0 ∨ k = 1 ∨ k = 2 ∨ k = 3 := by omega
      rcases this with rfl | rfl | rfl | rfl
      · exact .inl h
      · exact .inr (.inl h)
      · exact .inr (.inr (.inl h))
      · exact .inr (.inr (.inr (.inl h)))
    · exact .inr (.inr (.inr (.inr h)))
theorem perm_mid {α : Type} {a a' x y b : List α} (h : (a' ++ x).Perm (a ++ y)) : ((a' ++ b) ++ x).Perm ((a ++ b) ++ y) := by
  have h1 : ((a' ++ b) ++ x).Perm ((a' ++ x) ++ b) := by rw [List.append_assoc, List.append_assoc]; exact List.Perm.append_left _ List.perm_append_comm
  have h2 : ((a ++ y) ++ b).Perm ((a ++ b) ++ y) := by rw [List.append_assoc, List.append_assoc]; exact List.Perm.append_left _ List.perm_append_comm
  exact h1.trans ((h.append_right b).trans h2)
theorem perm_front {α : Type} {a a' x y b : List α} (h : (a' ++ x).Perm (a ++ y)) : ((b ++ a') ++ x).Perm ((b ++ a) ++ y) := by
  rw [List.append_assoc, List.append_assoc]; exact List.Perm.append_left b h
theorem things_ring (D : WD) {k s : Nat} (hk : k < 4) (hs : s < 64) (E : RD) (l : List Th) (hE : E.S = upd (D.R k).S s l) : ((D.ring k E).things ++ (D.R k).S s).Perm (D.things ++ l) := by
  have hU : ∀ j, (D.ring k E).R j = if j = k then E else D.R j := fun j => rfl
  have hp := ringL_upd (D.R k).S s l 64 hs
  rw [← hE] at hp
  have eb : (D.ring k E).BL = D.BL := rfl
  unfold WD.things
  rw [hU 0, hU 1, hU 2, hU 3, eb]
  have : k = 0 ∨ k = 1 ∨ k = 2 ∨ k = 3 := by omega
  rcases this with e | e | e | e <;> subst e
  · exact perm_mid hp
  · exact perm_front (perm_mid hp)
  · exact perm_front (perm_front (perm_mid hp))
  · exact perm_front (perm_front (perm_front (perm_mid hp)))
theorem Plc.things {D D' : WD} {a b : Nat} {t : Th} (h : Plc D a b t D') : (D'.things).Perm (D.things ++ [t]) := by
  rcases h with ⟨_, v, rfl⟩ | ⟨hl, E, _, _, eS, rfl⟩
  · unfold WD.things
    simp only [← List.append_assoc]
    exact List.Perm.refl _
  · have h1 := things_ring D hl (slN_lt (lvN a b) b) E _ eS
    have h2 : (D.things ++ ((D.R (lvN a b)).S (slN (lvN a b) b) ++ [t])).Perm ((D.things ++ [t]) ++ (D.R (lvN a b)).S (slN (lvN a b) b)) := by
      rw [List.append_assoc]; exact List.Perm.append_left _ List.perm_append_comm
    exact (List.perm_append_right_iff _).1 (h1.trans h2)
/-- Nothing is lost on the way. -/
theorem Mvd.things {u : Nat} : ∀ {l : List Th} {D D' : WD} {L L' : List Th}, Mvd u l D L D' L' → (D'.things ++ L').Perm (D.things ++ L ++ l)
  | [], D, D', L, L', h => by
    obtain ⟨rfl, rfl⟩ := h
    rw [List.append_nil]
  | t :: l, D, D', L, L', h => by
    unfold Mvd at h
    by_cases e : t.2.2 ≤ (u : Int)
    · rw [if_pos e] at h
      refine (Mvd.things h).trans ?_
      rw [show D.things ++ (L ++ [t]) ++ l = D.things ++ L ++ (t :: l) by simp]
    · rw [if_neg e] at h
      obtain ⟨D1, hP, h⟩ := h
      refine (Mvd.things h).trans ?_
      have h1 : (D1.things ++ L ++ l).Perm (D.things ++ [t] ++ L ++ l) := ((hP.things.append_right L).append_right l)
      refine h1.trans ?_
      have h2 : (D.things ++ [t] ++ L).Perm (D.things ++ L ++ [t]) := by
        rw [List.append_assoc, List.append_assoc]; exact List.Perm.append_left _ List.perm_append_comm
      have h3 := h2.append_right l
      rw [show D.things ++ L ++ [t] ++ l = D.things ++ L ++ (t :: l) by simp] at h3
      exact h3
/- Advance: what holds on the way, ring by ring. -/

/-- A ring's things wait where they wait from an instant on. -/
def PosR (a : Nat) (D : WD) (j : Nat) : Prop := ∀ s, s < 64 → ∀ t, t ∈ (D.R j).S s → ∃ d : Nat, t.2.2 = (d : Int) ∧ d ≤ 1125899906842624 ∧ lvN a d = j ∧ slN j d = s
theorem PosR.of {a j : Nat} {D D' : WD} (h : PosR a D j) (e : (D'.R j).S = (D.R j).S) : PosR a D' j := by unfold PosR; rw [e]; exact h
theorem Plc.R {D D' : WD} {a b : Nat} {t : Th} (h : Plc D a b t D') : ∀ j, j < 4 → (j = lvN a b → (D'.R j).S = upd (D.R j).S (slN j b) ((D.R j).S (slN j b) ++ [t])) ∧ (j ≠ lvN a b → (D'.R j).S = (D.R j).S) := by
  intro j hj
  rcases h with ⟨hl, v, rfl⟩ | ⟨hl, E, _, _, eS, rfl⟩
  · exact ⟨fun e => by omega, fun _ => rfl⟩
  · have hU : (D.ring (lvN a b) E).R j = if j = lvN a b then E else D.R j := rfl
    rw [hU]
    refine ⟨fun e => ?_, fun e => by rw [if_neg e]⟩
    rw [if_pos e]
    subst e
    exact eS
theorem Plc.BL {D D' : WD} {a b : Nat} {t : Th} (h : Plc D a b t D') : D'.BL = D.BL ∨ (lvN a b = 4 ∧ D'.BL = D.BL ++ [t]) := by
  rcases h with ⟨hl, v, rfl⟩ | ⟨hl, E, _, _, eS, rfl⟩
  · exact .inr ⟨hl, rfl⟩
  · exact .inl rfl
theorem Plc.pos {D D' : WD} {u d : Nat} {t : Th} (h : Plc D u d t D') (e : t.2.2 = (d : Int)) (hd : d ≤ 1125899906842624) {j : Nat} (hj : j < 4) (hp : PosR u D j) : PosR u D' j := by
  by_cases ej : j = lvN u d
  · have h1 := (h.R j hj).1 ej
    unfold PosR
    rw [h1]
    intro s hs v hv
    unfold upd at hv
    by_cases es : s = slN j d
    · rw [if_pos es] at hv
      rcases List.mem_append.1 hv with h2 | h2
      · rw [← es] at h2; exact hp s hs v h2
      · rw [List.mem_singleton] at h2; subst h2; exact ⟨d, e, hd, ej.symm, es.symm⟩
    · rw [if_neg es] at hv; exact hp s hs v hv
  · exact hp.of ((h.R j hj).2 ej)

/-- What a row's things become: where each may lie. -/
theorem Mvd.lo {u k : Nat} : ∀ {l : List Th} {D D' : WD} {L L' : List Th}, Mvd u l D L D' L' → (∀ t ∈ l, ∃ d : Nat, t.2.2 = (d : Int) ∧ d ≤ 1125899906842624 ∧ (u < d → lvN u d < k)) → (∀ j, j < k → j < 4 → PosR u D j) →
    (∀ j, j < k → j < 4 → PosR u D' j) ∧ (∀ j, k ≤ j → j < 4 → (D'.R j).S = (D.R j).S) ∧ (∀ t ∈ L', t ∈ L ∨ t.2.2 ≤ (u : Int)) ∧ (∀ t ∈ D'.BL, t ∈ D.BL ∨ ∃ d : Nat, t.2.2 = (d : Int) ∧ d ≤ 1125899906842624 ∧ u < d ∧ lvN u d = 4)
  | [], D, D', L, L', h, hl, hp => by
    obtain ⟨rfl, rfl⟩ := h
    exact ⟨hp, fun _ _ _ => rfl, fun t ht => .inl ht, fun t ht => .inl ht⟩
  | t :: l, D, D', L, L', h, hl, hp => by
    unfold Mvd at h
    by_cases e : t.2.2 ≤ (u : Int)
    · rw [if_pos e] at h
      obtain ⟨a1, a2, a3, a4⟩ := Mvd.lo h (fun v hv => hl v (List.mem_cons_of_mem _ hv)) hp
      refine ⟨a1, a2, fun v hv => ?_, a4⟩
      rcases a3 v hv with h1 | h1
      · rcases List.mem_append.1 h1 with h2 | h2
        · exact .inl h2
        · rw [List.mem_singleton] at h2; subst h2; exact .inr e
      · exact .inr h1
    · rw [if_neg e] at h
      obtain ⟨D1, hP, h⟩ := h
      obtain ⟨d, ed, hd, hk⟩ := hl t List.mem_cons_self
      have et : t.2.2.toNat = d := by omega
      rw [et] at hP
      have hud : u < d := by omega
      obtain ⟨a1, a2, a3, a4⟩ := Mvd.lo h (fun v hv => hl v (List.mem_cons_of_mem _ hv)) (fun j hj hj4 => hP.pos ed hd hj4 (hp j hj hj4))
      refine ⟨a1, fun j hj hj4 => (a2 j hj hj4).trans ((hP.R j hj4).2 (by have := hk hud; omega)), a3, fun v hv => ?_⟩
      rcases a4 v hv with h1 | h1
      · rcases hP.BL with h2 | ⟨h3, h2⟩
        · rw [h2] at h1; exact .inl h1
        · rw [h2] at h1
          rcases List.mem_append.1 h1 with h4 | h4
          · exact .inl h4
          · rw [List.mem_singleton] at h4; subst h4; exact .inr ⟨d, ed, hd, hud, h3⟩
      · exact .inr h1

/-- On the way from a to u, the rings below k done. -/
structure Way (a u k : Nat) (D : WD) (L T0 : List Th) : Prop where
  lo : ∀ j, j < k → j < 4 → PosR u D j
  hi : ∀ j, k ≤ j → j < 4 → PosR a D j
  bl : ∀ t ∈ D.BL, ∃ d : Nat, t.2.2 = (d : Int) ∧ d ≤ 1125899906842624
  due : ∀ t ∈ L, t.2.2 ≤ (u : Int)
  all : (D.things ++ L).Perm T0
/-- A slot of the ring in hand is taken and moved. -/
theorem Way.take {a u k s : Nat} {D D1 D2 : WD} {L L2 T0 l : List Th} {E : RD} (h : Way a u k D L T0) (hk : k < 4) (hs : s < 64) (hau : a ≤ u) (hE : E.S = upd (D.R k).S s []) (h1 : D1 = D.ring k E) (hl : l.Perm ((D.R k).S s)) (hlast : s ≤ lstN k a u) (hm : Mvd u l D1 L D2 L2) :
    Way a u k D2 L2 T0 ∧ (D2.R k).S = upd (D.R k).S s [] := by
  subst h1
  have hU : ∀ j, (D.ring k E).R j = if j = k then E else D.R j := fun j => rfl
  have hlo : ∀ j, j < k → j < 4 → PosR u (D.ring k E) j := fun j hj hj4 => (h.lo j hj hj4).of (by rw [hU, if_neg (by omega)])
  have hpl : ∀ t ∈ l, ∃ d : Nat, t.2.2 = (d : Int) ∧ d ≤ 1125899906842624 ∧ (u < d → lvN u d < k) := fun t ht => by
    obtain ⟨d, e, hd, hv, hsl⟩ := h.hi k (Nat.le_refl _) hk s hs t (hl.mem_iff.1 ht)
    exact ⟨d, e, hd, fun hud => lv_down hk hau hud hv (by rw [hsl]; exact hlast)⟩
  obtain ⟨a1, a2, a3, a4⟩ := hm.lo hpl hlo
  have eR : ∀ j, k ≤ j → j < 4 → (D2.R j).S = if j = k then E.S else (D.R j).S := fun j hj hj4 => by
    rw [a2 j hj hj4, hU]; split <;> rfl
  have eK := eR k (Nat.le_refl _) hk
  rw [if_pos rfl] at eK
  refine ⟨⟨a1, fun j hj hj4 => ?_, fun t ht => ?_, fun t ht => ?_, ?_⟩, eK.trans hE⟩
  · have e2 := eR j hj hj4
    by_cases ej : j = k
    · rw [if_pos ej, hE] at e2
      subst ej
      intro s' hs' t ht
      rw [e2] at ht
      unfold upd at ht
      by_cases es : s' = s
      · rw [if_pos es] at ht; cases ht
      · rw [if_neg es] at ht; exact h.hi j (Nat.le_refl _) hk s' hs' t ht
    · rw [if_neg ej] at e2
      exact (h.hi j hj hj4).of e2
  · rcases a4 t ht with h1 | ⟨d, e, hd, _⟩
    · exact h.bl t h1
    · exact ⟨d, e, hd⟩
  · rcases a3 t ht with h1 | h1
    · exact h.due t h1
    · exact h1
  · have p1 := hm.things
    have p2 := things_ring D hk hs E [] hE
    rw [List.append_nil] at p2
    have p3 : ((D.ring k E).things ++ L ++ l).Perm ((D.ring k E).things ++ (D.R k).S s ++ L) := by
      rw [List.append_assoc, List.append_assoc]
      exact List.Perm.append_left _ (List.perm_append_comm.trans (hl.append_right L))
    exact p1.trans (p3.trans ((p2.append_right L).trans h.all))
/-- A ring is done. -/
theorem Way.next {a u k : Nat} {D : WD} {L T0 : List Th} (h : Way a u k D L T0) (hk : k < 4) (hau : a ≤ u) (he : ∀ s, s ≤ lstN k a u → (D.R k).S s = []) : Way a u (k + 1) D L T0 := by
  refine ⟨fun j hj hj4 => ?_, fun j hj hj4 => h.hi j (by omega) hj4, h.bl, h.due, h.all⟩
  by_cases e : j = k
  · subst e
    intro s hs t ht
    obtain ⟨d, ed, hd, hv, hsl⟩ := h.hi j (Nat.le_refl _) hk s hs t ht
    have had : a < d := by
      by_cases e : a < d
      · exact e
      · rw [lvN_late a d (by omega)] at hv; omega
    have hls : lstN j a u < slN j d := by
      rw [hsl]
      by_cases e : s ≤ lstN j a u
      · rw [he s e] at ht; cases ht
      · omega
    have := lv_stay hk hau had hv hls
    exact ⟨d, ed, hd, this.2, hsl⟩
  · exact h.lo j (by omega) hj4
/- Advance. -/

/-- Next from slot 0. -/
theorem rnext0 {r b : Nat} {V : Nat → Value} {S : Nat → List Th} {M : Int → Option (Nat × Nat)} (w : World) (hT : Tab w) (h : Rn w r b V S M) :
    Calls Tryd.prog 67 #[.pointer (some ⟨r, 0, none⟩), .int .i64 0] w fun e w' => ∃ (x y : Nat) (ok : Bool), e = .returned (.tuple #[.int .i64 x, .int .i64 y, .bool ok]) ∧ w' = w ∧ ((ok = false ∧ ∀ s, s < 64 → S s = []) ∨ (ok = true ∧ x < 64 ∧ S x ≠ [] ∧ ∀ s, s < x → S s = [])) := by
  by_cases he : ∀ s, s < 64 → S s = []
  · refine (rnext_none 0 w h he).mono ?_
    rintro e w' ⟨rfl, rfl⟩
    exact ⟨0, 0, false, rfl, rfl, .inl ⟨rfl, he⟩⟩
  · have hex : ∃ j, j < 64 ∧ S j ≠ [] := by
      refine Classical.byContradiction fun hn => he fun s hs => Classical.byContradiction fun h1 => hn ⟨s, hs, h1⟩
    obtain ⟨j, ⟨hj, h1⟩, h0⟩ : ∃ j, (j < 64 ∧ S j ≠ []) ∧ ∀ i, i < j → S i = [] := by
      obtain ⟨j, hj, h1⟩ := hex
      induction j using Nat.strongRecOn with
      | _ j ih =>
        by_cases h2 : ∃ i, i < j ∧ S i ≠ []
        · obtain ⟨i, hi, h3⟩ := h2
          exact ih i hi (by omega) h3
        · exact ⟨j, ⟨hj, h1⟩, fun i hi => Classical.byContradiction fun h3 => h2 ⟨i, hi, h3⟩⟩
    have e0 : ∀ i, i < 64 → (((0 : Int) % 64).toNat + i) % 64 = i := fun i hi => by
      show (0 + i) % 64 = i
      rw [Nat.zero_add, Nat.mod_eq_of_lt hi]
    have hn := rnext_some 0 j w hT h hj (by rw [e0 j hj]; exact h1) (fun i hi => by rw [e0 i (by omega)]; exact h0 i hi)
    rw [e0 j hj] at hn
    refine hn.mono ?_
    rintro e w' ⟨rfl, rfl⟩
    exact ⟨j, j, true, rfl, rfl, .inr ⟨rfl, hj, h1, h0⟩⟩

theorem Wl.setNow {w : World} {D : WD} (h : Wl w D) (u : Int) : Wl (w.setCell ⟨D.q, 0, none⟩ (.int .i64 u)) { D with now := u } := by
  have o5 : Only (fun g => g = D.q) w (w.setCell ⟨D.q, 0, none⟩ (.int .i64 u)) := (Only.refl _ w).setCell _ _ rfl
  refine ⟨World.cell?_setCell_same' _ _ _ (by rw [h.c0]; rfl), fun k hk => ?_, ?_, fun o => ?_, fun k hk => Rn.only (h.rg k hk) o5 (fun g hg e => (h.ap2 k g hk hg).1 e), h.own.only o5 (fun g hg e => h.ap3 (by rw [← e]; exact hg)), h.ap1, h.ap2, h.ap3, h.few⟩
  · exact (cell_beside _ _ _ _ _ (by omega)).trans (h.cr k hk)
  · exact (cell_beside _ _ _ _ _ (by omega)).trans h.c5
  · exact (World.frozen?_setCell _ _ _ _).trans (h.fro o)
theorem Wl.clear {w : World} {D : WD} (h : Wl w D) : Wl (w.setCell ⟨D.q, 5, none⟩ (.slice none 0 0)) { D with bv := .slice none 0 0, BL := [] } := by
  have o5 : Only (fun g => g = D.q) w (w.setCell ⟨D.q, 5, none⟩ (.slice none 0 0)) := (Only.refl _ w).setCell _ _ rfl
  refine ⟨(cell_beside _ _ _ _ _ (by omega)).trans h.c0, fun k hk => (cell_beside _ _ _ _ _ (by omega)).trans (h.cr k hk), World.cell?_setCell_same' _ _ _ (by rw [h.c5]; rfl), fun o => (World.frozen?_setCell _ _ _ _).trans (h.fro o), fun k hk => Rn.only (h.rg k hk) o5 (fun g hg e => (h.ap2 k g hk hg).1 e), OT.nil _ _, h.ap1, fun k g hk hg => ⟨(h.ap2 k g hk hg).1, fun e => by cases e⟩, fun e => (by cases e), by simp⟩
theorem Mv.clear {w : World} {B A3 A7 A2 a : Nat} {D : WD} {dv : Value} {L : List Th} (h : Mv w B A3 A7 A2 a D dv L) : Mv (w.setCell ⟨D.q, 5, none⟩ (.slice none 0 0)) B A3 A7 A2 a { D with bv := .slice none 0 0, BL := [] } dv L := by
  have o5 : Only D.fp w (w.setCell ⟨D.q, 5, none⟩ (.slice none 0 0)) := (Only.refl _ w).setCell _ _ (.inl rfl)
  refine h.place h.wl.clear o5 (fun g hg => ?_) rfl rfl
  rcases hg with h1 | h1 | h1
  · exact .inl (.inl h1)
  · cases h1
  · exact .inl (.inr (.inr h1))

end Go.Proofs.YtfclmbneimbmnaaDoor
