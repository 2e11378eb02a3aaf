/- Slices of bytes: what it is that one can be read, that one is the call's own, and what an append makes of it. -/
import Derived.WalkKit
import Derived.Below
import Derived.Lib.Hide
import Derived.OpenShut
import Derived.Laws.BytesArg
import Derived.Laws.IdiomStrings
namespace Go.Proofs.Ythefnakbpalecaa
open Go.RowKit
theorem ret_int {k : IntKind} {a b : Int} (h : a = b) : Ending.returned (.int k a) = .returned (.int k b) := by rw [h]
theorem ret_bool {a b : Bool} (h : a = b) : Ending.returned (.bool a) = .returned (.bool b) := by rw [h]

/-- The cells of a list of bytes. -/
def cb (bs : List Nat) : List Value := bs.map fun (c : Nat) => Value.int .u8 ((c : Nat) : Int)
theorem cb_length (bs : List Nat) : (cb bs).length = bs.length := by simp [cb]
theorem cb_append (a b : List Nat) : cb (a ++ b) = cb a ++ cb b := by simp [cb]
theorem cb_get (bs : List Nat) (i : Nat) (h : i < bs.length) : (cb bs)[i]? = some (.int .u8 ((bs.getD i 0 : Nat) : Int)) := by
  simp [cb, h]
theorem cb_one (bs : List Nat) : ∀ u ∈ cb bs, u.oneCell' = true := by
  intro u hu
  simp only [cb, List.mem_map] at hu
  obtain ⟨c, _, rfl⟩ := hu
  rfl

/-- The value v is a slice of bytes that can be read: its elements are the numbers bs. -/
def RB (w : World) (v : Value) (bs : List Nat) : Prop :=
  (∀ c ∈ bs, c < 256) ∧ bs.length ≤ 140737488351232 ∧
  ((v = .slice none 0 0 ∧ bs = []) ∨ ∃ x cap, v = .slice (some x) bs.length cap ∧ bs.length ≤ cap ∧ cap ≤ maxLen ∧ ∀ i, i < bs.length → w.cell? (x.add i) = some (.int .u8 ((bs.getD i 0 : Nat) : Int)))

theorem RB.nil (w : World) : RB w (.slice none 0 0) [] := ⟨by simp, by simp, .inl ⟨rfl, rfl⟩⟩
theorem RB.shape {w : World} {v : Value} {bs : List Nat} (h : RB w v bs) : ∃ a cap, v = .slice a bs.length cap ∧ bs.length ≤ cap ∧ cap ≤ maxLen := by
  rcases h.2.2 with ⟨rfl, rfl⟩ | ⟨x, cap, rfl, h1, h2, _⟩
  · exact ⟨_, _, rfl, by simp, by simp⟩
  · exact ⟨_, _, rfl, h1, h2⟩
theorem add_at (b off i : Nat) : (⟨b, off, none⟩ : Addr).add i = ⟨b, off + i, none⟩ := by
  unfold Addr.add; split
  · rename_i h; subst h; rfl
  · rfl
theorem cell_spot {w : World} {x : Addr} {u : Value} (h : w.cell? x = some u) : x = ⟨x.block, x.off, none⟩ ∧ x.block < w.heap.size := by
  have h1 := World.cell?_spot h
  refine ⟨by cases x; simp_all, ?_⟩
  unfold World.cell? at h
  split at h
  · rename_i h2; exact (Array.getElem?_eq_some_iff.mp h2).1
  · simp at h
theorem RB.at {w : World} {v : Value} {bs : List Nat} (h : RB w v bs) (hp : 0 < bs.length) :
    ∃ b off cap, v = .slice (some ⟨b, off, none⟩) bs.length cap ∧ bs.length ≤ cap ∧ cap ≤ maxLen ∧ b < w.heap.size ∧ ∀ i, i < bs.length → w.cell? ⟨b, off + i, none⟩ = some (.int .u8 ((bs.getD i 0 : Nat) : Int)) := by
  rcases h.2.2 with ⟨rfl, rfl⟩ | ⟨x, cap, rfl, h1, h2, h3⟩
  · simp at hp
  · have h0 := h3 0 hp
    obtain ⟨e, hb⟩ := cell_spot h0
    have e2 : x = ⟨x.block, x.off, none⟩ := by
      cases x; simp [Addr.add] at e; simp [e]
    rw [e2] at h3 ⊢
    exact ⟨_, _, _, rfl, h1, h2, by simpa [Addr.add] using hb, fun i hi => by have := h3 i hi; rwa [add_at] at this⟩
theorem RB.at_lt {w : World} {v : Value} {bs : List Nat} (h : RB w v bs) (i : Nat) (hi : i < bs.length) : bs.getD i 0 < 256 := h.1 _ (by simp [hi])
theorem RB.take {w : World} {v : Value} {bs : List Nat} (h : RB w v bs) (m : Nat) (hm : m < bs.length) : ∀ x n cap, v = .slice (some x) n cap → RB w (.slice (some x) m cap) (bs.take m) := by
  intro x n cap hv
  rcases h.2.2 with ⟨rfl, rfl⟩ | ⟨x', cap', rfl, h1, h2, h3⟩
  · simp at hm
  · simp only [Value.slice.injEq, Option.some.injEq] at hv
    obtain ⟨rfl, _, rfl⟩ := hv
    have hl : (bs.take m).length = m := by simp; omega
    refine ⟨fun c hc => h.1 c (List.mem_of_mem_take hc), by have := h.2.1; omega, .inr ⟨x', cap', by rw [hl], by omega, h2, fun i hi => ?_⟩⟩
    rw [h3 i (by omega)]
    congr 3
    simp only [List.getD_eq_getElem?_getD, List.getElem?_take]
    rw [if_pos (by omega)]
theorem RB.kept {w w' : World} {v : Value} {bs : List Nat} (h : RB w v bs) (hb : Below w.heap.size w w') : RB w' v bs := by
  obtain ⟨h1, h2, h3⟩ := h
  refine ⟨h1, h2, ?_⟩
  rcases h3 with h3 | ⟨x, cap, hv, ha, hm, hc⟩
  · exact .inl h3
  · exact .inr ⟨x, cap, hv, ha, hm, fun i hi => by rw [hb.cell (cell_spot (hc i hi)).2]; exact hc i hi⟩

/-- The slice v, whose elements are the numbers bs, is the call's own. -/
def OB (w : World) (base : Nat) (v : Value) (bs : List Nat) : Prop := w.ownsRow base 5 1 v bs.length (cb bs)
theorem OB.kept {w w' : World} {base : Nat} {v : Value} {bs : List Nat} (h : OB w base v bs) (hb : Below w.heap.size w w') : OB w' base v bs := by
  obtain ⟨h1, h2⟩ := h
  refine ⟨h1, ?_⟩
  rcases h2 with h2 | ⟨g, cap, cur, hv, hg, hh, r⟩
  · exact .inl h2
  · exact .inr ⟨g, cap, cur, hv, hg, by rw [hb.block g (Array.getElem?_eq_some_iff.mp hh).1]; exact hh, r⟩
theorem OB.rb {w : World} {base : Nat} {v : Value} {bs : List Nat} (h : OB w base v bs) (h1 : ∀ c ∈ bs, c < 256) (h2 : bs.length ≤ 140737488351232) : RB w v bs := by
  refine ⟨h1, h2, ?_⟩
  have h' := h
  rcases h'.2 with ⟨hv, hn⟩ | ⟨g, cap, cur, hv, hg, hh, hc, hm, r⟩
  · exact .inl ⟨hv, List.length_eq_zero_iff.mp hn⟩
  · refine .inr ⟨_, cap, hv, hc, hm, fun i hi => ?_⟩
    subst hv
    have := World.ownsRow.cellAt h i (by omega)
    rw [cb_get bs i hi] at this
    rw [add_at, Nat.zero_add]; exact this
theorem OB.mono {w : World} {base base' : Nat} {v : Value} {bs : List Nat} (h : OB w base v bs) (hb : base' ≤ base) : OB w base' v bs := by
  obtain ⟨h1, h2⟩ := h
  refine ⟨h1, ?_⟩
  rcases h2 with h2 | ⟨g, cap, cur, hv, hg, r⟩
  · exact .inl h2
  · exact .inr ⟨g, cap, cur, hv, by omega, r⟩
/-- Behind an append to a slice of the call's own. -/
theorem OB.below {w w' W : World} {base : Nat} {v : Value} {bs : List Nat} (h : OB w base v bs) (hg : w.grownBy w' v.ownBlock) (hW : Below base W w) (hb : base ≤ w.heap.size) : Below base W w' :=
  hW.grown hg hb fun k hk => (World.ownsRow.lt h k hk).1
/-- What is told of a slice of integers that came in (the shell's own words). -/
def IsRow (k : IntKind) (w : World) (a : Option Addr) (len cap : Nat) (zs : List Int) : Prop :=
  (a = none ∧ len = 0 ∧ cap = 0 ∧ zs = []) ∨
  ∃ x, a = some x ∧ len ≤ cap ∧ cap ≤ maxLen ∧ zs.length = cap ∧ (∀ i, i < zs.length → w.cell? (x.add i) = some (.int k (zs.getD i 0))) ∧ ∀ n ∈ zs, (Lit.int k n).wf = true
theorem wf_u8 {n : Int} (h : (Lit.int .u8 n).wf = true) : 0 ≤ n ∧ n < 256 := by
  have := bounds_u8 h; omega
def nats (len : Nat) (zs : List Int) : List Nat := (zs.take len).map Int.toNat
theorem IsRow.rb {w : World} {a : Option Addr} {len cap : Nat} {zs : List Int} (h : IsRow .u8 w a len cap zs) (hl : len ≤ 140737488351232) : RB w (.slice a len cap) (nats len zs) ∧ (nats len zs).length = len := by
  rcases h with ⟨rfl, rfl, rfl, rfl⟩ | ⟨x, rfl, h1, h2, h3, h4, h5⟩
  · exact ⟨RB.nil w, rfl⟩
  · have hlen : (nats len zs).length = len := by simp [nats]; omega
    refine ⟨⟨?_, by omega, .inr ⟨x, cap, by rw [hlen], by omega, h2, ?_⟩⟩, hlen⟩
    · intro c hc
      simp only [nats, List.mem_map] at hc
      obtain ⟨z, hz, rfl⟩ := hc
      have := wf_u8 (h5 z (List.mem_of_mem_take hz))
      omega
    · intro i hi
      rw [hlen] at hi
      rw [h4 i (by omega)]
      have hz : i < zs.length := by omega
      have := wf_u8 (h5 zs[i] (List.getElem_mem hz))
      have e : (nats len zs).getD i 0 = zs[i].toNat := by
        simp only [nats, List.getD_eq_getElem?_getD, List.getElem?_map, List.getElem?_take]
        rw [if_pos hi]; simp [hz]
      rw [e]
      have e2 : zs.getD i 0 = zs[i] := by simp [hz]
      rw [e2, Int.toNat_of_nonneg this.1]

/-- The bytes as a string. -/
def str (bs : List Nat) : ByteArray := ⟨(bs.map UInt8.ofNat).toArray⟩
theorem rb_string {P : Program} {w : World} {v : Value} {bs : List Nat} (h : RB w v bs) (src dst e : TypeId) (hs : P.underlying src = some (.slice e)) (he : P.underlying e = some (.int .u8)) (hd : P.underlying dst = some .string) :
    (convert src dst v).run P w = .ok (.string (str bs)) w := by
  rcases h.2.2 with ⟨rfl, rfl⟩ | ⟨x, cap, rfl, h1, h2, h3⟩
  · rw [run_convert_bytes_nil w src e hs he 0 0 dst hd]; rfl
  · have := run_convert_bytes_back w src dst e x cap (bs.map UInt8.ofNat) hs he hd (by
      intro j hj
      have hj' : j < bs.length := by simpa using hj
      rw [h3 j hj']
      have hb := h.1 bs[j] (List.getElem_mem hj')
      simp [hj', UInt8.toNat_ofNat', Nat.mod_eq_of_lt hb])
    simpa [str] using this
end Go.Proofs.Ythefnakbpalecaa
