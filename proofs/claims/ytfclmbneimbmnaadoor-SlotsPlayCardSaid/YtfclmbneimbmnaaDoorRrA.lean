/- The reference's Find, Without. -/
import Derived.Test.YtfclmbneimbmnaaDoorRlP
import Derived.LoopTactic
namespace Go.Proofs.YtfclmbneimbmnaaDoor
open Go.RowKit

/-- What Find tells of an ID. -/
def Fnd (L : List Rt) (id r : Int) : Prop := (∃ k : Nat, r = k ∧ ∃ h : k < L.length, idR L[k] = id) ∨ (r = -1 ∧ ∀ x ∈ L, idR x ≠ id)

set_option maxRecDepth 100000 in
set_option maxHeartbeats 4000000 in
theorem find_any (a : Option Addr) (c : Nat) (L : List Rt) (id : Int) (w : World) (hR : RS w a L) (hm : L.length ≤ 1000000) :
    Calls Tryd.prog 70 #[.slice a L.length c, .int .u64 id] w fun e w' => ∃ r, e = .returned (.int .i64 r) ∧ Fnd L id r ∧ w' = w := by
  have HR := Lib.hid hR
  clear hR
  go_enter Tryd.func70, Tryd.ntmps70
  go_wp2
  go_loopg [5] L.length (fun kx s5 wr => ∃ k : Nat, s5 = .int .i64 k ∧ k ≤ L.length ∧ L.length - k ≤ kx ∧ Hid (∀ x ∈ L.take k, idR x ≠ id) ∧ wr = w)
  case atStart => exact ⟨0, rfl, by omega, by omega, Lib.hid (by simp), rfl⟩
  case round =>
    obtain ⟨k, rfl, hk, hkx, HN, rfl⟩ := hrel
    by_cases hlt : k < L.length
    · have hltz : (k : Int) < (L.length : Int) := by omega
      have hk0 : (0 : Int) ≤ (k : Int) := by omega
      obtain ⟨B, o, rfl, d0, d1, d2, d3⟩ := HR.out k hlt
      obtain ⟨x, hx⟩ : ∃ x, (L[k]).1.1 = x := ⟨_, rfl⟩
      rw [hx] at d0
      clear d1 d2 d3
      by_cases he : x = id
      · subst he
        have HX := Lib.hid hx
        clear hx
        go_wp2
        go_ret
        exact ⟨_, rfl, .inl ⟨k, rfl, hlt, HX.out⟩, rfl⟩
      · have heb : (x == id) = false := by simp [he]
        have HX := Lib.hid hx
        clear hx
        go_wp2
        go_roundg (L.length - (k + 1))
        case measure => omega
        case rel =>
          refine ⟨k + 1, by go_num, by omega, by omega, Lib.hid (fun y hy => ?_), rfl⟩
          rw [List.take_add_one, List.getElem?_eq_getElem hlt] at hy
          rcases List.mem_append.1 hy with h1 | h1
          · exact HN.out y h1
          · simp only [Option.toList_some, List.mem_singleton] at h1
            subst h1
            intro e
            exact he (by rw [← HX.out]; exact e)
    · have hltz : ¬ (k : Int) < (L.length : Int) := by omega
      obtain rfl : k = L.length := by omega
      go_wp2
      go_ret
      exact ⟨_, rfl, .inr ⟨rfl, fun x hx => HN.out x (by rw [List.take_length]; exact hx)⟩, rfl⟩

/-- A row of the reference's things in general: append to one of one's own, the second from any address. -/
theorem append_rtX {w : World} {ops : Array Oper} {rest : List Oper} {o : Oper} {a : Act} {Q : Exit → Act → World → Prop} (hgd : o.guard = none) (s x : Operand)
    (ho : o.op = .call { callee := .builtin .append, args := #[s, x], argTypes := #[24, 24] })
    (base : Nat) (v : Value) (l m : List Rt) (p : Option Addr) (n : Nat) (c : Nat) (hs : a.eval s = v) (hn : n = m.length) (hx : a.eval x = .slice p n c) (hown : OR w base v l)
    (hp : p = none ∨ ∃ B f, p = some ⟨B, f, none⟩) (hR : RS w p m) (hN : p = none → c = 0) (hlen : l.length + m.length ≤ 100000) (hbase : base ≤ w.heap.size)
    (h : ∀ v' w', OR w' base v' (l ++ m) → Only (fun k => v.ownBlock = some k) w w' → (v'.ownBlock = v.ownBlock ∨ v'.ownBlock = some w.heap.size) → wpList Tryd.prog ops Q rest (a.put o.dst v') w') : wpList Tryd.prog ops Q (o :: rest) a w := by
  rcases hp with rfl | ⟨B, f, rfl⟩
  · have hm : m = [] := by
      cases m with
      | nil => rfl
      | cons y m => obtain ⟨_, _, e, _⟩ := hR 0 (by simp); cases e
    subst hm
    obtain rfl := hN rfl
    subst hn
    exact append_rt_none hgd s x ho base v l hs hx hown (h v w (by rw [List.append_nil]; exact hown) (Only.refl _ _) (.inl rfl))
  · exact append_rtG hgd s x ho base v l m B f n c hs hn hx hown hR hlen hbase fun v' w' h1 h2 h3 => h v' w' h1 (grown_only h2 _ fun k hk => hk) h3

set_option maxRecDepth 100000 in
set_option maxHeartbeats 4000000 in
theorem without_any (g c k : Nat) (L : List Rt) (w : World) (hR : RS w (some ⟨g, 0, none⟩) L) (hk : k < L.length) (hc : L.length ≤ c) (hm : L.length ≤ 50000) (hcm : c ≤ maxLen) :
    Calls Tryd.prog 72 #[.slice (some ⟨g, 0, none⟩) L.length c, .int .i64 k] w fun e w' => ∃ v, e = .returned v ∧ OR w' w.heap.size v (L.eraseIdx k) ∧ Below w.heap.size w w' := by
  have HR := Lib.hid hR
  have hE := OR.empty w w.heap.size (Nat.le_refl _)
  have bE : Below w.heap.size w (w.alloc (.cells #[] 29)) := (Below.refl _ _).alloc (Nat.le_refl _) _
  have HE := Lib.hid (And.intro hE bE)
  have hk1 : k = (L.take k).length := by simp; omega
  have hk2 : L.length - (k + 1) = (L.drop (k + 1)).length := by simp
  have HK1 := Lib.hid hk1
  have HK2 := Lib.hid hk2
  have h0 : (0 : Int) ≤ (k : Int) := by omega
  have h1 : (k : Int) ≤ (c : Int) := by omega
  have h2 : IntKind.i64.wrap ((k : Int) + 1) = ((k + 1 : Nat) : Int) := by rw [IntKind.wrap_i64]; unfold maxLen at hcm; omega
  have h3 : ((k + 1 : Nat) : Int) ≤ (L.length : Int) := by omega
  have h4 : (0 : Int) ≤ ((k + 1 : Nat) : Int) := by omega
  have e : L.eraseIdx k = L.take k ++ L.drop (k + 1) := List.eraseIdx_eq_take_drop_succ L k
  rw [e]
  clear hE bE hR hk1 hk2 e
  by_cases hce : c = k + 1
  · subst hce
    have hLk : L.length = k + 1 := by omega
    have HD0 : Hid (0 = (L.drop (k + 1)).length ∧ ∀ w', RS w' (some ⟨g, 0, none⟩) (L.drop (k + 1))) := Lib.hid ⟨by simp; omega, fun w' j hj => absurd hj (by simp; omega)⟩
    have hz : L.length - (k + 1) = 0 := by omega
    clear hLk
    go_enter Tryd.func72, Tryd.ntmps72
    go_wp2_with (first
      | (at_builtin; refine append_rtX rfl (.tmp 6) (.tmp 9) rfl w.heap.size (.slice (some ⟨w.heap.size, 0, none⟩) 0 0) [] (L.take k) (some ⟨g, 0, none⟩) k (k + 1) rfl HK1.out rfl HE.out.1 (.inr ⟨g, 0, rfl⟩) ((HR.out.below HE.out.2).take k) (fun h => by cases h) (by simp; omega) HE.out.2.size ?_; intro v1 w1 hO1 ho1 hob1; have HO1 := Lib.hid (And.intro hO1 (HE.out.2.trans (ho1.toBelow HE.out.2.size (fun k hk => (HE.out.1.own_lt hk).1)))); clear hO1 ho1 hob1)
      | (at_builtin; refine append_rtX rfl (.tmp 11) (.tmp 15) rfl w.heap.size v1 ([] ++ L.take k) (L.drop (k + 1)) (some ⟨g, 0, none⟩) 0 0 rfl HD0.out.1 rfl HO1.out.1 (.inr ⟨g, 0, rfl⟩) (HD0.out.2 _) (fun h => by cases h) (by simp; omega) HO1.out.2.size ?_; intro v2 w2 hO2 ho2 hob2; have HO2 := Lib.hid (And.intro hO2 (HO1.out.2.trans (ho2.toBelow HO1.out.2.size (fun k hk => (HO1.out.1.own_lt hk).1)))); clear hO2 ho2 hob2))
    go_ret
    exact ⟨_, rfl, by simpa using HO2.out.1, HO2.out.2⟩
  · have hcl : k + 1 < c := by omega
    have hk2' : ((L.length - (k + 1) : Nat) : Int) = (L.length : Int) - ((k + 1 : Nat) : Int) := by omega
    go_enter Tryd.func72, Tryd.ntmps72
    go_wp2_with (first
      | (at_builtin; refine append_rtX rfl (.tmp 6) (.tmp 9) rfl w.heap.size (.slice (some ⟨w.heap.size, 0, none⟩) 0 0) [] (L.take k) (some ⟨g, 0, none⟩) k c rfl HK1.out rfl HE.out.1 (.inr ⟨g, 0, rfl⟩) ((HR.out.below HE.out.2).take k) (fun h => by cases h) (by simp; omega) HE.out.2.size ?_; intro v1 w1 hO1 ho1 hob1; have HO1 := Lib.hid (And.intro hO1 (HE.out.2.trans (ho1.toBelow HE.out.2.size (fun k hk => (HE.out.1.own_lt hk).1)))); clear hO1 ho1 hob1)
      | (at_builtin; refine append_rtX rfl (.tmp 11) (.tmp 15) rfl w.heap.size v1 ([] ++ L.take k) (L.drop (k + 1)) (some ⟨g, (k + 1) * 4, none⟩) (L.length - (k + 1)) (c - (k + 1)) rfl HK2.out rfl HO1.out.1 (.inr ⟨g, _, rfl⟩) ((HR.out.below HO1.out.2).drop (k + 1)) (fun h => by cases h) (by simp; omega) HO1.out.2.size ?_; intro v2 w2 hO2 ho2 hob2; have HO2 := Lib.hid (And.intro hO2 (HO1.out.2.trans (ho2.toBelow HO1.out.2.size (fun k hk => (HO1.out.1.own_lt hk).1)))); clear hO2 ho2 hob2))
    go_ret
    exact ⟨_, rfl, by simpa using HO2.out.1, HO2.out.2⟩
end Go.Proofs.YtfclmbneimbmnaaDoor
