/- The disk: the names of its files. -/
import Derived.Test.YthkjjpkipeeimaaDkN
import Derived.Test.YthkjjpkipeeimaaDkS
import Derived.Shelf.Small.Bits
import Derived.Sort.OwnSorted
import Derived.Maps.AppendAt
namespace Go.Proofs.Ythkjjpkipeeimaa
open Go.RowKit Go.Maps Go.Shelf
def sc (l : List Nm) : List Value := l.map encStr
theorem str_infoW : (Try.prog.info? 9).map (fun i => (i.zero, i.size, i.bytes)) = some (some (.string ⟨#[]⟩), 1, 16) := by kernel_rfl
theorem info_parts3 {t : TypeId} {z : Option Value} {n b : Nat} (h : (Try.prog.info? t).map (fun i => (i.zero, i.size, i.bytes)) = some (z, n, b)) : ∃ i, Try.prog.info? t = some i ∧ i.zero = z ∧ i.size = n ∧ i.bytes = b := by
  cases hi : Try.prog.info? t with
  | none => rw [hi] at h; cases h
  | some i =>
    rw [hi] at h
    simp only [Option.map_some, Option.some.injEq, Prod.mk.injEq] at h
    exact ⟨i, rfl, h.1, h.2.1, h.2.2⟩
/-- A row of strings of one's own. -/
def OZ (w : World) (base : Nat) (v : Value) (l : List Nm) : Prop := w.ownsRow base 9 1 v l.length (sc l)
theorem OZ.nil (w : World) (base : Nat) : OZ w base (.slice none 0 0) [] := ⟨rfl, .inl ⟨rfl, rfl⟩⟩
theorem OZ.lt {w : World} {base : Nat} {v : Value} {l : List Nm} (h : OZ w base v l) {g : Nat} (hg : v.ownBlock = some g) : base ≤ g ∧ g < w.heap.size := World.ownsRow.lt h g hg
theorem OZ.below {w w' : World} {base : Nat} {v : Value} {l : List Nm} (h : OZ w base v l) (hb : Below w.heap.size w w') : OZ w' base v l := by
  refine ⟨h.1, ?_⟩
  have hl := fun g => OZ.lt h (g := g)
  rcases h.2 with h2 | ⟨g, cap, cur, e, hg, hc, r⟩
  · exact .inl h2
  · exact .inr ⟨g, cap, cur, e, hg, (hb.block g (hl g (by rw [e]; rfl)).2).trans hc, r⟩
theorem OZ.cells {w : World} {base : Nat} {v : Value} {l : List Nm} (h : OZ w base v l) : ∃ a c, v = .slice a l.length c ∧ ∀ k (hk : k < l.length), ∃ g, a = some ⟨g, 0, none⟩ ∧ w.cell? ⟨g, k, none⟩ = some (encStr l[k]) := by
  have h' := h
  rcases h'.2 with ⟨rfl, h0⟩ | ⟨g, cap, cur, rfl, _, _, hc, _⟩
  · have e : l = [] := List.length_eq_zero_iff.1 h0
    subst e
    exact ⟨none, 0, rfl, fun k hk => (by simp at hk)⟩
  · refine ⟨_, _, rfl, fun k hk => ⟨g, rfl, ?_⟩⟩
    exact (World.ownsRow.cellAt h k (by omega)).trans (by unfold sc; rw [List.getElem?_map, List.getElem?_eq_getElem hk]; rfl)
/-- One place more. -/
theorem append_s {w : World} {ops : Array Oper} {rest : List Oper} {o : Oper} {a : Act} {Q : Exit → Act → World → Prop} (hgd : o.guard = none) (s x : Operand)
    (ho : o.op = .call { callee := .builtin .append, args := #[s, x], argTypes := #[37, 37] })
    (base : Nat) (v : Value) (l : List Nm) (z : Nm) (p : Addr) (c : Nat) (hs : a.eval s = v) (hx : a.eval x = .slice (some p) 1 c) (hown : OZ w base v l)
    (hR : w.cell? p = some (encStr z)) (hlen : l.length + 1 ≤ 100000) (hbase : base ≤ w.heap.size)
    (h : ∀ v' w', OZ w' base v' (l ++ [z]) → w.grownBy w' v.ownBlock → wpList Try.prog ops Q rest (a.put o.dst v') w') : wpList Try.prog ops Q (o :: rest) a w := by
  obtain ⟨i0, hi, hz0, hz1, hz2⟩ := info_parts3 str_infoW
  refine wpList_append_own_at w hgd s x 37 ho base 9 i0 (.string ⟨#[]⟩) 1 16 Try.underlying37 hi hz0 hz1 hz2 rfl (by decide) v l.length (sc l) hs hown p 1 c (sc [z]) hx (by simp [sc]) ?_
    (fun u hu => by obtain ⟨z, _, rfl⟩ := List.mem_map.1 hu; rfl) (by unfold maxLen; omega) (by omega) hbase ?_
  · intro j u hj
    have hlt := (List.getElem?_eq_some_iff.1 hj).1
    have h0 : j = 0 := by simpa [sc] using hlt
    subst h0
    simp [sc] at hj
    subst hj
    simpa [Addr.add] using hR
  · intro v' w' h1 h2 _ _
    exact h v' w' (by unfold OZ; rw [List.length_append, show sc (l ++ [z]) = sc l ++ sc [z] from List.map_append]; exact h1) h2

theorem insertion_nil (w : World) : Calls Try.prog 134 #[.slice none 0 0, .int .i64 0, .int .i64 0] w fun e w' => e = .returned (.tuple #[]) ∧ w = w' := by
  go_enter Try.func134, Try.ntmps134
  go_wp2_with fail
  go_loopw [6] (fun i wr => i = .int .i64 1 ∧ wr = w) (fun _ _ => 0)
  case atStart => exact ⟨rfl, rfl⟩
  case round =>
    obtain ⟨rfl, rfl⟩ := hrel
    go_wp2_with fail
    go_end0
    exact ⟨rfl, rfl⟩
theorem pdq_nil (lim : Int) (w : World) : Calls Try.prog 114 #[.slice none 0 0, .int .i64 0, .int .i64 0, .int .i64 lim] w fun e w' => e = .returned (.tuple #[]) ∧ w = w' := by
  have hi := fun W => insertion_nil W
  go_enter Try.func114, Try.ntmps114
  go_wp2_with fail
  go_loopw [1, 2] (fun a b wr => a = .int .i64 0 ∧ b = .int .i64 0 ∧ wr = w) (fun _ _ _ => 0)
  case atStart => exact ⟨rfl, rfl, rfl⟩
  case round =>
    obtain ⟨rfl, rfl, rfl⟩ := hrel
    go_wp2_with (go_at_call 134; refine (hi _).mono ?_; rintro e w' ⟨rfl, rfl⟩)
    (try simp only [Exit.inBlock, Exit.then]); refine bodyPost_ret (results_none rfl _ _ _) rfl ?_
    exact ⟨rfl, rfl⟩
theorem sort_nil (w : World) : Calls Try.prog 72 #[.slice none 0 0] w fun e w' => e = .returned (.tuple #[]) ∧ w = w' := by
  have hp := fun lim W => pdq_nil lim W
  have hl : ∀ W, Calls Try.prog 115 #[.int .u64 0] W fun e w' => e = .returned (.int .i64 (Lib.bitLen 0 : Nat)) ∧ w' = W := fun W =>
    Any.bits_Len (P := Try.prog) (ρ := sortStr_ren) { sortStr with } 0 W (by omega) (by omega)
  go_enter Try.func72, Try.ntmps72
  go_wp2_with (first
    | (go_at_call 115; refine (hl _).mono ?_; rintro e w' ⟨rfl, rfl⟩)
    | (go_at_call 114; refine (hp _ _).mono ?_; rintro e w' ⟨rfl, rfl⟩))
  go_end0
  exact ⟨rfl, rfl⟩
theorem sort_oz (base : Nat) (v : Value) (ss : List Nm) (w : World) (h : OZ w base v ss) (hl : ss.length ≤ 100000) : Calls Try.prog 72 #[v] w fun e w' => e = .returned (.tuple #[]) ∧ OZ w' base v (ss.mergeSort leB) ∧ w.grownBy w' v.ownBlock := by
  rcases h.2 with ⟨rfl, h0⟩ | ⟨g, cap, cur, rfl, hbase, hb, h1, h2, h3, h4⟩
  · obtain rfl : ss = [] := List.length_eq_zero_iff.1 h0
    refine (sort_nil w).mono ?_
    rintro e w' ⟨rfl, rfl⟩
    exact ⟨rfl, by simpa using OZ.nil w base, World.grownBy.refl _ _⟩
  · have hc := Any.slices_Sort_string sortStr g 0 cap ss w (holds_of_block hb (by simpa [sc] using h4)) (Array.getElem?_eq_some_iff.1 hb).1 (by omega)
    change Calls Try.prog 72 _ _ _ at hc
    refine hc.mono ?_
    rintro e w' ⟨rfl, n, os, rfl⟩
    have hln : (ss.mergeSort leB).length = ss.length := List.length_mergeSort ss
    refine ⟨rfl, ?_, grownBy_sorted _⟩
    have := ownsRow_sorted (n := n) (os := os) (ts := ss.mergeSort leB) hln hbase hb h1 h2 h3
    unfold OZ
    rw [hln]
    exact this
end Go.Proofs.Ythkjjpkipeeimaa
