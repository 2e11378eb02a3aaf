/- The reference's Take. -/
import Derived.Test.YtfclmbneimbmnaaDoorRrA
namespace Go.Proofs.YtfclmbneimbmnaaDoor
open Go.RowKit

/-- What is not in a slot, and what is. -/
def leftR (s : Int) (L : List Rt) : List Rt := L.filter fun x => !(x.2 == s)
def inR (s : Int) (L : List Rt) : List Rt := L.filter fun x => x.2 == s
theorem leftR_step (s : Int) (L : List Rt) (k : Nat) (hk : k < L.length) : leftR s (L.take (k + 1)) = if (L[k]).2 = s then leftR s (L.take k) else leftR s (L.take k) ++ [L[k]] := by
  unfold leftR
  rw [List.take_add_one, List.getElem?_eq_getElem hk, List.filter_append]
  by_cases e : (L[k]).2 = s
  · rw [if_pos e]; simp [e]
  · rw [if_neg e]; simp [e]
theorem inR_step (s : Int) (L : List Rt) (k : Nat) (hk : k < L.length) : inR s (L.take (k + 1)) = if (L[k]).2 = s then inR s (L.take k) ++ [L[k]] else inR s (L.take k) := by
  unfold inR
  rw [List.take_add_one, List.getElem?_eq_getElem hk, List.filter_append]
  by_cases e : (L[k]).2 = s
  · rw [if_pos e]; simp [e]
  · rw [if_neg e]; simp [e]
theorem leftR_len (s : Int) (L : List Rt) : (leftR s L).length ≤ L.length := List.length_filter_le _ _
theorem inR_len (s : Int) (L : List Rt) : (inR s L).length ≤ L.length := List.length_filter_le _ _
theorem OR.addr' {w : World} {base : Nat} {v : Value} {l : List Rt} (h : OR w base v l) : ∃ p c, v = .slice p l.length c ∧ (p = none ∨ ∃ B f, p = some ⟨B, f, none⟩) ∧ RS w p l ∧ (p = none → l = [] ∧ c = 0) := by
  obtain ⟨a, c, rfl, h1, h2, _⟩ := h.shape
  refine ⟨a, c, rfl, ?_, h2, h1⟩
  rcases h.addr with ⟨e, _⟩ | ⟨g, e⟩
  · exact .inl e
  · exact .inr ⟨g, 0, e⟩

theorem OR.form {w : World} {base : Nat} {v : Value} {l : List Rt} (h : OR w base v l) : ∃ p n c, v = .slice p n c := by
  obtain ⟨a, c, e, _⟩ := h.shape
  exact ⟨a, _, c, e⟩

set_option maxRecDepth 100000 in
set_option maxHeartbeats 4000000 in
theorem rtake_any (a : Option Addr) (c : Nat) (L : List Rt) (s : Int) (w : World) (hR : RS w a L) (hm : L.length ≤ 300) :
    Calls Tryd.prog 27 #[.slice a L.length c, .int .i64 s] w fun e w' => ∃ v1 v2, e = .returned (.tuple #[v1, v2]) ∧ OR w' w.heap.size v1 (leftR s L) ∧ OR w' w.heap.size v2 (srt ltR zR (inR s L)) ∧ Below w.heap.size w w' := by
  have HR := Lib.hid hR
  clear hR
  go_enter Tryd.func27, Tryd.ntmps27
  go_wp2
  go_loopg [6, 7, 8] L.length (fun kx s6 s7 s8 wr => ∃ (k : Nat) (p : Option Addr) (pn pc : Nat) (q : Option Addr) (qn qc : Nat), s6 = .slice p pn pc ∧ s7 = .slice q qn qc ∧ s8 = .int .i64 k ∧ k ≤ L.length ∧ L.length - k ≤ kx ∧
    Hid (OR wr w.heap.size (.slice p pn pc) (leftR s (L.take k)) ∧ OR wr w.heap.size (.slice q qn qc) (inR s (L.take k)) ∧ (∀ g, (Value.slice p pn pc).ownBlock = some g → (Value.slice q qn qc).ownBlock ≠ some g) ∧ Below w.heap.size w wr))
  case atStart => exact ⟨0, none, 0, 0, none, 0, 0, rfl, rfl, rfl, by omega, by omega, Lib.hid ⟨OR.nil _ _, OR.nil _ _, fun g hg => (by cases hg), Below.refl _ _⟩⟩
  case round =>
    obtain ⟨k, p, pn, pc, q, qn, qc, rfl, rfl, rfl, hk, hkx, HI⟩ := hrel
    by_cases hlt : k < L.length
    · have hltz : (k : Int) < (L.length : Int) := by omega
      have hk0 : (0 : Int) ≤ (k : Int) := by omega
      obtain ⟨B, o, rfl, d0, d1, d2, d3⟩ := (HR.out.below HI.out.2.2.2) k hlt
      have hl1 := leftR_step s L k hlt
      have hl2 := inR_step s L k hlt
      have hn1 := leftR_len s (L.take k)
      have hn2 := inR_len s (L.take k)
      have hkl : (L.take k).length ≤ 300 := by simp; omega
      obtain ⟨x, hx⟩ : ∃ x, L[k] = x := ⟨_, rfl⟩
      rw [hx] at d0 d1 d2 d3 hl1 hl2
      obtain ⟨⟨x1, x2, x3⟩, x4⟩ := x
      simp only at d0 d1 d2 d3 hl1 hl2
      have HN : Hid (Below wr.heap.size wr (wr.alloc (.cells #[.int .u64 x1, .int .u64 x2, .int .i64 x3, .int .i64 x4] 29)) ∧ RS (wr.alloc (.cells #[.int .u64 x1, .int .u64 x2, .int .i64 x3, .int .i64 x4] 29)) (some ⟨wr.heap.size, 0, none⟩) [((x1, x2, x3), x4)]) := Lib.hid ⟨(Below.refl _ _).alloc (Nat.le_refl _) _, RS.one (World.cell?_alloc_at _ _ _ _ rfl) (World.cell?_alloc_at _ _ _ _ rfl) (World.cell?_alloc_at _ _ _ _ rfl) (World.cell?_alloc_at _ _ _ _ rfl)⟩
      have hws := HI.out.2.2.2.size
      have hsz : wr.heap.size ≤ (wr.alloc (.cells #[.int .u64 x1, .int .u64 x2, .int .i64 x3, .int .i64 x4] 29)).heap.size := HN.out.1.size
      by_cases he : x4 = s
      · subst he
        rw [if_pos rfl] at hl1 hl2
        have HL := Lib.hid (And.intro hl1 hl2)
        have hO := HI.out.2.1.keep HN.out.1
        have HO := Lib.hid hO
        clear hl1 hl2 hO hx
        go_wp2_with (at_builtin; refine append_rtX rfl (.tmp 22) (.tmp 27) rfl w.heap.size (.slice q qn qc) (inR x4 (L.take k)) [((x1, x2, x3), x4)] (some ⟨wr.heap.size, 0, none⟩) 1 1 rfl rfl rfl HO.out (.inr ⟨_, _, rfl⟩) HN.out.2 (fun h => by cases h) (by simp; omega) (Nat.le_trans hws hsz) ?_; intro v1 w1 hO1 ho1 hob1; obtain ⟨q', qn', qc', rfl⟩ := hO1.form; have HO1 := Lib.hid (And.intro hO1 (And.intro ho1 hob1)); clear hO1 ho1 hob1)
        go_roundg (L.length - (k + 1))
        case measure => omega
        case rel =>
          obtain ⟨hO1, ho1, hob1⟩ := HO1.out
          have oA : Only (fun g => (Value.slice q qn qc).ownBlock = some g) wr w1 := (Only.below HN.out.1).trans ho1
          refine ⟨k + 1, p, pn, pc, q', qn', qc', rfl, rfl, by go_num, by omega, by omega, Lib.hid ⟨?_, ?_, fun g hg => ?_, ?_⟩⟩
          · rw [HL.out.1]; exact HI.out.1.only oA (fun g hg h2 => HI.out.2.2.1 g hg h2)
          · rw [HL.out.2]; exact hO1
          · rcases hob1 with e | e
            · rw [e]; exact HI.out.2.2.1 g hg
            · rw [e]; have := (HI.out.1.own_lt hg).2; intro e2; injection e2 with e2; omega
          · exact HI.out.2.2.2.trans (oA.toBelow hws (fun g hg => (HI.out.2.1.own_lt hg).1))
      · rw [if_neg he] at hl1 hl2
        have HL := Lib.hid (And.intro hl1 hl2)
        have hO := HI.out.1.keep HN.out.1
        have HO := Lib.hid hO
        have heb : (x4 == s) = false := by simp [he]
        clear hl1 hl2 hO hx
        go_wp2_with (at_builtin; refine append_rtX rfl (.tmp 29) (.tmp 34) rfl w.heap.size (.slice p pn pc) (leftR s (L.take k)) [((x1, x2, x3), x4)] (some ⟨wr.heap.size, 0, none⟩) 1 1 rfl rfl rfl HO.out (.inr ⟨_, _, rfl⟩) HN.out.2 (fun h => by cases h) (by simp; omega) (Nat.le_trans hws hsz) ?_; intro v1 w1 hO1 ho1 hob1; obtain ⟨q', qn', qc', rfl⟩ := hO1.form; have HO1 := Lib.hid (And.intro hO1 (And.intro ho1 hob1)); clear hO1 ho1 hob1)
        go_roundg (L.length - (k + 1))
        case measure => omega
        case rel =>
          obtain ⟨hO1, ho1, hob1⟩ := HO1.out
          have oA : Only (fun g => (Value.slice p pn pc).ownBlock = some g) wr w1 := (Only.below HN.out.1).trans ho1
          refine ⟨k + 1, q', qn', qc', q, qn, qc, rfl, rfl, by go_num, by omega, by omega, Lib.hid ⟨?_, ?_, fun g hg h2 => ?_, ?_⟩⟩
          · rw [HL.out.1]; exact hO1
          · rw [HL.out.2]; exact HI.out.2.1.only oA (fun g hg h2 => HI.out.2.2.1 g h2 hg)
          · rcases hob1 with e | e
            · rw [e] at hg; exact HI.out.2.2.1 g hg h2
            · rw [e] at hg; have := (HI.out.2.1.own_lt h2).2; injection hg with hg; omega
          · exact HI.out.2.2.2.trans (oA.toBelow hws (fun g hg => (HI.out.1.own_lt hg).1))
    · have hltz : ¬ (k : Int) < (L.length : Int) := by omega
      obtain rfl : k = L.length := by omega
      rw [List.take_length] at HI
      obtain ⟨_, _, ev, _, hRS, _⟩ := HI.out.2.1.addr'
      injection ev with ev1 ev2 ev3
      subst ev1 ev2 ev3
      have hso := sorted_any q qc (inR s L) wr hRS (by have := inR_len s L; omega)
      have hws := HI.out.2.2.2.size
      go_wp2_with (go_at_call 21; with_reducible refine hso.mono ?_; rintro e w2 ⟨v2, rfl, hO2, hb2⟩; have HO2 := Lib.hid (And.intro hO2 hb2); clear hO2 hb2 hso)
      go_ret2
      exact ⟨_, _, rfl, HI.out.1.keep HO2.out.2, HO2.out.1.mono hws, HI.out.2.2.2.trans (HO2.out.2.mono hws)⟩
end Go.Proofs.YtfclmbneimbmnaaDoor
