import Derived.WalkKit
import Derived.Below
import Derived.Lib.Hide
import Derived.OpenShut
import Derived.Laws.BytesArg
import Derived.Laws.IdiomStrings
import Derived.Test.YtibjboacjobaoaaRows
import Derived.Defers
import Derived.Laws.Pointers
import Derived.Laws.LoneSync
import Derived.RegionTactic
import Derived.RegionCalls
import Derived.Laws.NewBlocks
import Derived.Laws.EntriesVeiled
import Derived.Outline
import Derived.Deep.Slices
import Derived.BigQuiet
import Derived.Deep.QuietTactic
import Derived.LoopTactic
namespace Go.Proofs.Ytibjboacjobaoaa
open Go.RowKit
/- Slices of bytes: what it is that one can be read, that one is the call's own, and what an append makes of it. -/
open Go.RowKit
theorem ret_int {k : IntKind} {a b : Int} (h : a = b) : Ending.returned (.int k a) = .returned (.int k b) := by rw [h]
theorem ret_bool {a b : Bool} (h : a = b) : Ending.returned (.bool a) = .returned (.bool b) := by rw [h]

/-- The cells of a list of bytes. -/
def cb (bs : List Nat) : List Value := bs.map fun (c : Nat) => Value.int .u8 ((c : Nat) : Int)
theorem cb_length (bs : List Nat) : (cb bs).length = bs.length := by simp [cb]
theorem cb_append (a b : List Nat) : cb (a ++ b) = cb a ++ cb b := by simp [cb]
theorem cb_get (bs : List Nat) (i : Nat) (h : i < bs.length) : (cb bs)[i]? = some (.int .u8 ((bs.getD i 0 : Nat) : Int)) := by
  simp [cb, h]
theorem cb_one (bs : List Nat) : ∀ u ∈ cb bs, u.oneCell' = true := by
  intro u hu
  simp only [cb, List.mem_map] at hu
  obtain ⟨c, _, rfl⟩ := hu
  rfl

/-- The value v is a slice of bytes that can be read: its elements are the numbers bs. -/
def RB (w : World) (v : Value) (bs : List Nat) : Prop :=
  (∀ c ∈ bs, c < 256) ∧ bs.length ≤ 140737488351232 ∧
  ((v = .slice none 0 0 ∧ bs = []) ∨ ∃ x cap, v = .slice (some x) bs.length cap ∧ bs.length ≤ cap ∧ cap ≤ maxLen ∧ ∀ i, i < bs.length → w.cell? (x.add i) = some (.int .u8 ((bs.getD i 0 : Nat) : Int)))

theorem RB.nil (w : World) : RB w (.slice none 0 0) [] := ⟨by simp, by simp, .inl ⟨rfl, rfl⟩⟩
theorem RB.shape {w : World} {v : Value} {bs : List Nat} (h : RB w v bs) : ∃ a cap, v = .slice a bs.length cap ∧ bs.length ≤ cap ∧ cap ≤ maxLen := by
  rcases h.2.2 with ⟨rfl, rfl⟩ | ⟨x, cap, rfl, h1, h2, _⟩
  · exact ⟨_, _, rfl, by simp, by simp⟩
  · exact ⟨_, _, rfl, h1, h2⟩
theorem add_at (b off i : Nat) : (⟨b, off, none⟩ : Addr).add i = ⟨b, off + i, none⟩ := by
  unfold Addr.add; split
  · rename_i h; subst h; rfl
  · rfl
theorem cell_spot {w : World} {x : Addr} {u : Value} (h : w.cell? x = some u) : x = ⟨x.block, x.off, none⟩ ∧ x.block < w.heap.size := by
  have h1 := World.cell?_spot h
  refine ⟨by cases x; simp_all, ?_⟩
  unfold World.cell? at h
  split at h
  · rename_i h2; exact (Array.getElem?_eq_some_iff.mp h2).1
  · simp at h
theorem RB.at {w : World} {v : Value} {bs : List Nat} (h : RB w v bs) (hp : 0 < bs.length) :
    ∃ b off cap, v = .slice (some ⟨b, off, none⟩) bs.length cap ∧ bs.length ≤ cap ∧ cap ≤ maxLen ∧ b < w.heap.size ∧ ∀ i, i < bs.length → w.cell? ⟨b, off + i, none⟩ = some (.int .u8 ((bs.getD i 0 : Nat) : Int)) := by
  rcases h.2.2 with ⟨rfl, rfl⟩ | ⟨x, cap, rfl, h1, h2, h3⟩
  · simp at hp
  · have h0 := h3 0 hp
    obtain ⟨e, hb⟩ := cell_spot h0
    have e2 : x = ⟨x.block, x.off, none⟩ := by
      cases x; simp [Addr.add] at e; simp [e]
    rw [e2] at h3 ⊢
    exact ⟨_, _, _, rfl, h1, h2, by simpa [Addr.add] using hb, fun i hi => by have := h3 i hi; rwa [add_at] at this⟩
theorem RB.at_lt {w : World} {v : Value} {bs : List Nat} (h : RB w v bs) (i : Nat) (hi : i < bs.length) : bs.getD i 0 < 256 := h.1 _ (by simp [hi])
theorem RB.take {w : World} {v : Value} {bs : List Nat} (h : RB w v bs) (m : Nat) (hm : m < bs.length) : ∀ x n cap, v = .slice (some x) n cap → RB w (.slice (some x) m cap) (bs.take m) := by
  intro x n cap hv
  rcases h.2.2 with ⟨rfl, rfl⟩ | ⟨x', cap', rfl, h1, h2, h3⟩
  · simp at hm
  · simp only [Value.slice.injEq, Option.some.injEq] at hv
    obtain ⟨rfl, _, rfl⟩ := hv
    have hl : (bs.take m).length = m := by simp; omega
    refine ⟨fun c hc => h.1 c (List.mem_of_mem_take hc), by have := h.2.1; omega, .inr ⟨x', cap', by rw [hl], by omega, h2, fun i hi => ?_⟩⟩
    rw [h3 i (by omega)]
    congr 3
    simp only [List.getD_eq_getElem?_getD, List.getElem?_take]
    rw [if_pos (by omega)]
theorem RB.kept {w w' : World} {v : Value} {bs : List Nat} (h : RB w v bs) (hb : Below w.heap.size w w') : RB w' v bs := by
  obtain ⟨h1, h2, h3⟩ := h
  refine ⟨h1, h2, ?_⟩
  rcases h3 with h3 | ⟨x, cap, hv, ha, hm, hc⟩
  · exact .inl h3
  · exact .inr ⟨x, cap, hv, ha, hm, fun i hi => by rw [hb.cell (cell_spot (hc i hi)).2]; exact hc i hi⟩

/-- The slice v, whose elements are the numbers bs, is the call's own. -/
def OB (w : World) (base : Nat) (v : Value) (bs : List Nat) : Prop := w.ownsRow base 5 1 v bs.length (cb bs)
theorem OB.kept {w w' : World} {base : Nat} {v : Value} {bs : List Nat} (h : OB w base v bs) (hb : Below w.heap.size w w') : OB w' base v bs := by
  obtain ⟨h1, h2⟩ := h
  refine ⟨h1, ?_⟩
  rcases h2 with h2 | ⟨g, cap, cur, hv, hg, hh, r⟩
  · exact .inl h2
  · exact .inr ⟨g, cap, cur, hv, hg, by rw [hb.block g (Array.getElem?_eq_some_iff.mp hh).1]; exact hh, r⟩
theorem OB.rb {w : World} {base : Nat} {v : Value} {bs : List Nat} (h : OB w base v bs) (h1 : ∀ c ∈ bs, c < 256) (h2 : bs.length ≤ 140737488351232) : RB w v bs := by
  refine ⟨h1, h2, ?_⟩
  have h' := h
  rcases h'.2 with ⟨hv, hn⟩ | ⟨g, cap, cur, hv, hg, hh, hc, hm, r⟩
  · exact .inl ⟨hv, List.length_eq_zero_iff.mp hn⟩
  · refine .inr ⟨_, cap, hv, hc, hm, fun i hi => ?_⟩
    subst hv
    have := World.ownsRow.cellAt h i (by omega)
    rw [cb_get bs i hi] at this
    rw [add_at, Nat.zero_add]; exact this
theorem OB.mono {w : World} {base base' : Nat} {v : Value} {bs : List Nat} (h : OB w base v bs) (hb : base' ≤ base) : OB w base' v bs := by
  obtain ⟨h1, h2⟩ := h
  refine ⟨h1, ?_⟩
  rcases h2 with h2 | ⟨g, cap, cur, hv, hg, r⟩
  · exact .inl h2
  · exact .inr ⟨g, cap, cur, hv, by omega, r⟩
/-- Behind an append to a slice of the call's own. -/
theorem OB.below {w w' W : World} {base : Nat} {v : Value} {bs : List Nat} (h : OB w base v bs) (hg : w.grownBy w' v.ownBlock) (hW : Below base W w) (hb : base ≤ w.heap.size) : Below base W w' :=
  hW.grown hg hb fun k hk => (World.ownsRow.lt h k hk).1
/-- What is told of a slice of integers that came in (the shell's own words). -/
def IsRow (k : IntKind) (w : World) (a : Option Addr) (len cap : Nat) (zs : List Int) : Prop :=
  (a = none ∧ len = 0 ∧ cap = 0 ∧ zs = []) ∨
  ∃ x, a = some x ∧ len ≤ cap ∧ cap ≤ maxLen ∧ zs.length = cap ∧ (∀ i, i < zs.length → w.cell? (x.add i) = some (.int k (zs.getD i 0))) ∧ ∀ n ∈ zs, (Lit.int k n).wf = true
theorem wf_u8 {n : Int} (h : (Lit.int .u8 n).wf = true) : 0 ≤ n ∧ n < 256 := by
  have := bounds_u8 h; omega
def nats (len : Nat) (zs : List Int) : List Nat := (zs.take len).map Int.toNat
theorem IsRow.rb {w : World} {a : Option Addr} {len cap : Nat} {zs : List Int} (h : IsRow .u8 w a len cap zs) (hl : len ≤ 140737488351232) : RB w (.slice a len cap) (nats len zs) ∧ (nats len zs).length = len := by
  rcases h with ⟨rfl, rfl, rfl, rfl⟩ | ⟨x, rfl, h1, h2, h3, h4, h5⟩
  · exact ⟨RB.nil w, rfl⟩
  · have hlen : (nats len zs).length = len := by simp [nats]; omega
    refine ⟨⟨?_, by omega, .inr ⟨x, cap, by rw [hlen], by omega, h2, ?_⟩⟩, hlen⟩
    · intro c hc
      simp only [nats, List.mem_map] at hc
      obtain ⟨z, hz, rfl⟩ := hc
      have := wf_u8 (h5 z (List.mem_of_mem_take hz))
      omega
    · intro i hi
      rw [hlen] at hi
      rw [h4 i (by omega)]
      have hz : i < zs.length := by omega
      have := wf_u8 (h5 zs[i] (List.getElem_mem hz))
      have e : (nats len zs).getD i 0 = zs[i].toNat := by
        simp only [nats, List.getD_eq_getElem?_getD, List.getElem?_map, List.getElem?_take]
        rw [if_pos hi]; simp [hz]
      rw [e]
      have e2 : zs.getD i 0 = zs[i] := by simp [hz]
      rw [e2, Int.toNat_of_nonneg this.1]

/-- The bytes as a string. -/
def str (bs : List Nat) : ByteArray := ⟨(bs.map UInt8.ofNat).toArray⟩
theorem rb_string {P : Program} {w : World} {v : Value} {bs : List Nat} (h : RB w v bs) (src dst e : TypeId) (hs : P.underlying src = some (.slice e)) (he : P.underlying e = some (.int .u8)) (hd : P.underlying dst = some .string) :
    (convert src dst v).run P w = .ok (.string (str bs)) w := by
  rcases h.2.2 with ⟨rfl, rfl⟩ | ⟨x, cap, rfl, h1, h2, h3⟩
  · rw [run_convert_bytes_nil w src e hs he 0 0 dst hd]; rfl
  · have := run_convert_bytes_back w src dst e x cap (bs.map UInt8.ofNat) hs he hd (by
      intro j hj
      have hj' : j < bs.length := by simpa using hj
      rw [h3 j hj']
      have hb := h.1 bs[j] (List.getElem_mem hj')
      simp [hj', UInt8.toNat_ofNat', Nat.mod_eq_of_lt hb])
    simpa [str] using this
/- The parts of sync.Once and sync/atomic: each a contract of its own. -/
open Go.RowKit

/-- Of what was there, the blocks X alone may have turned. -/
structure Only (X : Nat → Prop) (w w' : World) : Prop where
  os : w'.os = w.os
  tape : w'.tape = w.tape
  output : w'.output = w.output
  size : w.heap.size ≤ w'.heap.size
  block : ∀ k, k < w.heap.size → ¬ X k → w'.heap[k]? = w.heap[k]?
theorem Only.refl (X : Nat → Prop) (w : World) : Only X w w := ⟨rfl, rfl, rfl, Nat.le_refl _, fun _ _ _ => rfl⟩
theorem Only.trans {X : Nat → Prop} {a b c : World} (h : Only X a b) (k : Only X b c) : Only X a c :=
  ⟨k.os.trans h.os, k.tape.trans h.tape, k.output.trans h.output, Nat.le_trans h.size k.size, fun i hi hx => (k.block i (Nat.lt_of_lt_of_le hi h.size) hx).trans (h.block i hi hx)⟩
theorem Only.more {X Y : Nat → Prop} {a b : World} (h : Only X a b) (hxy : ∀ k, X k → Y k) : Only Y a b := ⟨h.os, h.tape, h.output, h.size, fun k hk hy => h.block k hk fun hx => hy (hxy k hx)⟩
theorem Only.setCell {X : Nat → Prop} {w w' : World} (h : Only X w w') (p : Addr) (v : Value) (hp : X p.block) : Only X w (w'.setCell p v) :=
  ⟨h.os, h.tape, h.output, by have := h.size; simpa using this, fun k hk hx => (Below.heap_setCell _ _ _ _ (fun e => hx (by first | (rw [e]; exact hp) | (rw [← e]; exact hp)))).trans (h.block k hk hx)⟩
theorem Only.drew {X : Nat → Prop} {w w' : World} (h : Only X w w') : Only X w w'.drew := ⟨h.os, h.tape, h.output, h.size, h.block⟩
theorem Only.below {X : Nat → Prop} {w w' : World} (h : Below w.heap.size w w') : Only X w w' := ⟨h.os, h.tape, h.output, h.size, fun k hk _ => h.block k hk⟩
theorem Only.toBelow {X : Nat → Prop} {B : Nat} {w w' : World} (h : Only X w w') (hB : B ≤ w.heap.size) (hx : ∀ k, X k → B ≤ k) : Below B w w' :=
  ⟨h.os, h.tape, h.output, h.size, fun k hk => h.block k (Nat.lt_of_lt_of_le hk hB) fun hxk => by have := hx k hxk; omega⟩
theorem Only.cell {X : Nat → Prop} {w w' : World} (h : Only X w w') {p : Addr} (hp : p.block < w.heap.size) (hx : ¬ X p.block) : w'.cell? p = w.cell? p := World.cell?_of_block (h.block _ hp hx)

/- Spans: how a row of them reads; the small functions, the program's and the reference's. -/
open Go.RowKit

/-- All old cells and marks read as before. -/
theorem bcell {W w1 : World} (hb : Below W.heap.size W w1) : (∀ b o, b < W.heap.size → w1.cell? ⟨b, o, none⟩ = W.cell? ⟨b, o, none⟩) ∧ (∀ b o, b < W.heap.size → w1.frozen? ⟨b, o, none⟩ = W.frozen? ⟨b, o, none⟩) :=
  ⟨fun b o h => hb.cell (p := ⟨b, o, none⟩) h, fun b o h => hb.frozen (p := ⟨b, o, none⟩) h⟩

/-- A new block, then a call that leaves what was there. -/
theorem below_call {B : Nat} {w wr w' : World} {o : Obj} (h : Below B w wr) (hB : B ≤ wr.heap.size) (hb : Below (wr.alloc o).heap.size (wr.alloc o) w') : Below B w w' :=
  (h.alloc hB _).trans (hb.mono (by simp; omega))

def rightB (f t : Int) : Bool := decide (0 ≤ f) && (decide (f < t) && decide (t ≤ 1125899906842624))
theorem rightB_iff (f t : Int) : rightB f t = true ↔ 0 ≤ f ∧ f < t ∧ t ≤ 1125899906842624 := by simp [rightB]

theorem right_any (f t : Int) (w : World) : Calls Try.prog 143 #[.agg #[.int .i64 f, .int .i64 t]] w fun e w' => e = .returned (.bool (rightB f t)) ∧ Below w.heap.size w w' := by
  obtain ⟨c1, d1⟩ : ∃ c, decide (0 ≤ f) = c := ⟨_, rfl⟩
  obtain ⟨c2, d2⟩ : ∃ c, decide (f < t) = c := ⟨_, rfl⟩
  obtain ⟨c3, d3⟩ : ∃ c, decide (t ≤ 1125899906842624) = c := ⟨_, rfl⟩
  have e : rightB f t = (c1 && (c2 && c3)) := by rw [← d1, ← d2, ← d3]; rfl
  rw [e]
  clear e
  cases c1 <;> cases c2 <;> cases c3
  all_goals
    go_enter Try.func143, Try.ntmps143
    go_wp2
    go_ret
    exact ⟨rfl, (Below.refl _ _).alloc (Nat.le_refl _) _⟩
theorem rright_any (f t : Int) (w : World) : Calls Try.prog 133 #[.agg #[.int .i64 f, .int .i64 t]] w fun e w' => e = .returned (.bool (rightB f t)) ∧ Below w.heap.size w w' := by
  obtain ⟨c1, d1⟩ : ∃ c, decide (0 ≤ f) = c := ⟨_, rfl⟩
  obtain ⟨c2, d2⟩ : ∃ c, decide (f < t) = c := ⟨_, rfl⟩
  obtain ⟨c3, d3⟩ : ∃ c, decide (t ≤ 1125899906842624) = c := ⟨_, rfl⟩
  have e : rightB f t = (c1 && (c2 && c3)) := by rw [← d1, ← d2, ← d3]; rfl
  rw [e]
  clear e
  cases c1 <;> cases c2 <;> cases c3
  all_goals
    go_enter Try.func133, Try.ntmps133
    go_wp2
    go_ret
    exact ⟨rfl, (Below.refl _ _).alloc (Nat.le_refl _) _⟩

def mx (a b : Int) : Int := if a < b then b else a
def mn (a b : Int) : Int := if b < a then b else a
/-- What two spans have in common: from, to; 0 and 0 where there is nothing. -/
def comF (f t f' t' : Int) : Int := if mn t t' ≤ mx f f' then 0 else mx f f'
def comT (f t f' t' : Int) : Int := if mn t t' ≤ mx f f' then 0 else mn t t'
theorem com_cases (f t f' t' : Int) : (mn t t' ≤ mx f f' ∧ comF f t f' t' = 0 ∧ comT f t f' t' = 0) ∨ (mx f f' < mn t t' ∧ comF f t f' t' = mx f f' ∧ comT f t f' t' = mn t t') := by
  unfold comF comT
  by_cases h : mn t t' ≤ mx f f'
  · exact .inl ⟨h, by simp [h], by simp [h]⟩
  · exact .inr ⟨by omega, by simp [h], by simp [h]⟩
theorem mx_cases (a b : Int) : (a < b ∧ mx a b = b) ∨ (b ≤ a ∧ mx a b = a) := by unfold mx; split <;> omega
theorem mn_cases (a b : Int) : (b < a ∧ mn a b = b) ∨ (a ≤ b ∧ mn a b = a) := by unfold mn; split <;> omega
/-- A span handed back. -/
def GotSpan (x y : Int) (w : World) (e : Ending) (w' : World) : Prop := ∃ u v, e = .returned (.agg #[.int .i64 u, .int .i64 v]) ∧ u = x ∧ v = y ∧ Below w.heap.size w w'

def GotPart (x y : Int) (w : World) (e : Ending) (w' : World) : Prop := ∃ u v b, e = .returned (.tuple #[.agg #[.int .i64 u, .int .i64 v], .bool b]) ∧ u = x ∧ v = y ∧ b = decide (x < y) ∧ Below w.heap.size w w'
/- Rows of spans: whether a list is one, the program's and the reference's. -/
open Go.RowKit

/-- A list of spans that can be read: where each begins and ends. -/
def Sps (w : World) (a : Option Addr) (n : Nat) (F T : Nat → Int) : Prop := n ≤ maxLen ∧
  (0 < n → ∃ ab ao, a = some ⟨ab, ao, none⟩ ∧ ab < w.heap.size ∧ ∀ k, k < n → w.cell? ⟨ab, ao + k * 2, none⟩ = some (.int .i64 (F k)) ∧ w.cell? ⟨ab, ao + k * 2 + 1, none⟩ = some (.int .i64 (T k)) ∧
    (-9223372036854775808 ≤ F k ∧ F k ≤ 9223372036854775807 ∧ -9223372036854775808 ≤ T k ∧ T k ≤ 9223372036854775807))
theorem Sps.kept {w w' : World} {a : Option Addr} {n : Nat} {F T : Nat → Int} (h : Sps w a n F T) (hb : Below w.heap.size w w') : Sps w' a n F T := by
  refine ⟨h.1, fun hp => ?_⟩
  obtain ⟨ab, ao, e, hl, hc⟩ := h.2 hp
  exact ⟨ab, ao, e, Nat.lt_of_lt_of_le hl hb.size, fun k hk => ⟨(hb.cell (p := ⟨ab, ao + k * 2, none⟩) hl).trans (hc k hk).1, (hb.cell (p := ⟨ab, ao + k * 2 + 1, none⟩) hl).trans (hc k hk).2.1, (hc k hk).2.2⟩⟩

theorem Sps.at {w wr : World} {a : Option Addr} {n : Nat} {F T : Nat → Int} (h : Sps w a n F T) (hb : Below w.heap.size w wr) (k : Nat) (hk : k < n) :
    ∃ ab ao, a = some ⟨ab, ao, none⟩ ∧ ab < wr.heap.size ∧ wr.cell? ⟨ab, ao + k * 2, none⟩ = some (.int .i64 (F k)) ∧ wr.cell? ⟨ab, ao + k * 2 + 1, none⟩ = some (.int .i64 (T k)) ∧ -9223372036854775808 ≤ F k ∧ F k ≤ 9223372036854775807 ∧ -9223372036854775808 ≤ T k ∧ T k ≤ 9223372036854775807 := by
  obtain ⟨ab, ao, e, hl, hc⟩ := (h.kept hb).2 (by omega)
  obtain ⟨h1, h2, h3⟩ := hc k hk
  exact ⟨ab, ao, e, hl, h1, h2, h3⟩
def good (F T : Nat → Int) : Nat → Bool
  | 0 => true
  | k + 1 => good F T k && (rightB (F k) (T k) && (k == 0 || decide (T (k - 1) ≤ F k)))
theorem good_le {F T : Nat → Int} {n : Nat} : ∀ {k}, good F T n = true → k ≤ n → good F T k = true := by
  induction n with
  | zero => intro k h hk; obtain rfl : k = 0 := by omega
            exact h
  | succ n ih =>
    intro k h hk
    by_cases e : k = n + 1
    · subst e; exact h
    · simp only [good, Bool.and_eq_true] at h
      exact ih h.1 (by omega)
theorem good_at {F T : Nat → Int} {n k : Nat} (h : good F T n = true) (hk : k < n) : 0 ≤ F k ∧ F k < T k ∧ T k ≤ 1125899906842624 ∧ (k = 0 ∨ T (k - 1) ≤ F k) := by
  have h1 := good_le h (show k + 1 ≤ n from hk)
  simp only [good, Bool.and_eq_true, rightB_iff, Bool.or_eq_true, beq_iff_eq, decide_eq_true_eq] at h1
  omega
theorem good_bad {F T : Nat → Int} {n k : Nat} (h : good F T (k + 1) = false) (hk : k < n) : good F T n = false := by
  cases hg : good F T n with
  | false => rfl
  | true => rw [good_le hg hk] at h; cases h
def endF (T : Nat → Int) : Nat → Int
  | 0 => 0
  | k + 1 => T k
theorem dec_not (a b : Int) : (!decide (a < b)) = decide (b ≤ a) := by
  by_cases h : a < b
  · rw [decide_eq_true h, decide_eq_false (by omega)]; rfl
  · rw [decide_eq_false h, decide_eq_true (by omega)]; rfl
theorem good_step {F T : Nat → Int} {k : Nat} (h : good F T k = true) : good F T (k + 1) = (rightB (F k) (T k) && !decide (F k < endF T k)) := by
  rw [dec_not]
  simp only [good, h, Bool.true_and]
  cases k with
  | zero =>
    cases hr : rightB (F 0) (T 0) with
    | false => rfl
    | true =>
      have := (rightB_iff _ _).1 hr
      have e : endF T 0 = 0 := rfl
      rw [e, decide_eq_true (show 0 ≤ F 0 by omega)]
      rfl
  | succ k =>
    have e : endF T (k + 1) = T k := rfl
    rw [e]
    rfl
/-- Row's number. -/
def rowE (F T : Nat → Int) (n : Nat) : Int := if 32 < n then 21 else if good F T n = true then 0 else 2
theorem rowE_long {F T : Nat → Int} {n : Nat} (h : 32 < n) : rowE F T n = 21 := by simp [rowE, h]
theorem rowE_ok {F T : Nat → Int} {n : Nat} (h : n ≤ 32) (g : good F T n = true) : rowE F T n = 0 := by simp [rowE, g]; omega
theorem rowE_bad {F T : Nat → Int} {n : Nat} (h : n ≤ 32) (g : good F T n = false) : rowE F T n = 2 := by simp [rowE, g]; omega

set_option maxRecDepth 100000 in
set_option maxHeartbeats 4000000 in
theorem row_any (a : Option Addr) (n cap : Nat) (F T : Nat → Int) (w : World) (hS : Sps w a n F T) :
    Calls Try.prog 139 #[.slice a n cap] w fun e w' => e = .returned (.int .i64 (rowE F T n)) ∧ Below w.heap.size w w' := by
  have hm := hS.1
  unfold maxLen at hm
  by_cases hl : 32 < n
  · have d : decide (32 < (n : Int)) = true := by simp; omega
    rw [rowE_long hl]
    go_enter Try.func139, Try.ntmps139
    go_wp2
    go_ret
    exact ⟨rfl, Below.refl _ _⟩
  have d : decide (32 < (n : Int)) = false := by simp; omega
  have HC := Lib.hid hS
  have HL := Lib.hid hl
  clear hS hl
  go_enter Try.func139, Try.ntmps139
  go_wp2
  go_loopw [3, 11] (fun e i wr => ∃ k : Nat, k ≤ n ∧ i = .int .i64 k ∧ e = .int .i64 (endF T k) ∧ good F T k = true ∧ Below w.heap.size w wr) (fun _ i _ => n - (intOf i).toNat)
  case atStart => exact ⟨0, Nat.zero_le _, rfl, rfl, rfl, Below.refl _ _⟩
  case round =>
    obtain ⟨k, hk, rfl, rfl, hg, hB⟩ := hrel
    by_cases hlt : k < n
    · obtain ⟨ab, ao, rfl, hab, c0, c1, b0, b1, b2, b3⟩ := HC.out.at hB k hlt
      have HB := Lib.hid hB
      have HS := Lib.hid hB.size
      have HG := Lib.hid (good_step hg)
      have HT := Lib.hid (show T k = endF T (k + 1) from rfl)
      obtain ⟨f, e0⟩ : ∃ x, F k = x := ⟨_, rfl⟩
      obtain ⟨t, e1⟩ : ∃ x, T k = x := ⟨_, rfl⟩
      obtain ⟨z, e2⟩ : ∃ x, endF T k = x := ⟨_, rfl⟩
      rw [e0] at c0 b0 b1 HG
      rw [e1] at c1 b2 b3 HG HT
      rw [e2] at HG ⊢
      clear hg hB e0 e1 e2
      have k0 : (0 : Int) ≤ (k : Int) := by omega
      have kl : (k : Int) < (n : Int) := by omega
      have d4 : decide ((k : Int) < (n : Int)) = true := by simp [hlt]
      obtain ⟨c, hr⟩ : ∃ c, rightB f t = c := ⟨_, rfl⟩
      obtain ⟨c', hd⟩ : ∃ c, decide (f < z) = c := ⟨_, rfl⟩
      rw [hr, hd] at HG
      cases c
      · go_wp2_with (go_at_call 143; refine (right_any f t _).mono ?_; rintro e w' ⟨rfl, hb⟩)
        go_ret
        exact ⟨ret_int (rowE_bad (by have := HL.out; omega) (good_bad HG.out hlt)).symm, below_call HB.out HS.out hb⟩
      · cases c'
        · go_wp2_with (go_at_call 143; refine (right_any f t _).mono ?_; rintro e w' ⟨rfl, hb⟩; obtain ⟨hc', hf'⟩ := bcell hb)
          go_roundw
          case rel => exact ⟨k + 1, hlt, by go_num, by rw [HT.out], HG.out, below_call HB.out HS.out hb⟩
          case measure => simp [intOf]; omega
        · go_wp2_with (go_at_call 143; refine (right_any f t _).mono ?_; rintro e w' ⟨rfl, hb⟩; obtain ⟨hc', hf'⟩ := bcell hb)
          go_ret
          exact ⟨ret_int (rowE_bad (by have := HL.out; omega) (good_bad HG.out hlt)).symm, below_call HB.out HS.out hb⟩
    · obtain rfl : k = n := by omega
      have HB := Lib.hid hB
      have HG := Lib.hid hg
      clear hB hg
      go_wp2
      go_ret
      exact ⟨ret_int (rowE_ok (by have := HL.out; omega) HG.out).symm, HB.out⟩

end Go.Proofs.Ytibjboacjobaoaa
