/- The disk in memory: its block, its map of files, each file's bytes in a block of their own. -/
import Derived.Test.YthefnakbpalecaaDkA
import Derived.Test.YthefnakbpalecaaMaA
import Derived.Test.YthefnakbpalecaaNbX
import Derived.Test.YthefnakbpalecaaMaB
namespace Go.Proofs.Ythefnakbpalecaa
open Go.RowKit Go.Maps Go.ChangeMaps
theorem keyedS : Maps.Keyed Try.prog 9 := string_keyed Try.underlying9
theorem keyS {n : Nm} (h : n.length ≤ 100000) : keyOf Try.prog 9 (encStr n) = some (.string n) :=
  WideMaps.keyOf_string_mk Try.underlying9 (s := ⟨n.toArray⟩) (by show n.toArray.size ≤ maxLen; unfold maxLen; simp; omega)
/-- A file's value in the map. -/
def fV (v : Value) (k : Nat) : Value := .agg #[v, .int .i64 (k : Int)]
theorem OB.blk {w w' : World} {base : Nat} {v : Value} {bs : List Nat} (h : OB w base v bs) (e : ∀ g, v.ownBlock = some g → w'.heap[g]? = w.heap[g]?) : OB w' base v bs := by
  refine ⟨h.1, ?_⟩
  rcases h.2 with h2 | ⟨g, cap, cur, e1, hg, hc, r⟩
  · exact .inl h2
  · exact .inr ⟨g, cap, cur, e1, hg, (e g (by rw [e1]; rfl)).trans hc, r⟩
theorem OB.lt {w : World} {base : Nat} {v : Value} {bs : List Nat} (h : OB w base v bs) {g : Nat} (hg : v.ownBlock = some g) : base ≤ g ∧ g < w.heap.size := World.ownsRow.lt h g hg
/-- A table of files in a map: M what stands in the map, V where each file's bytes are. -/
structure DF (S : Nat → Prop) (w : World) (m : Nat) (L : Ft) (M : Lit → Option Value) (V : Nm → Value) : Prop where
  vm : VM 9 w m L.length M
  spot : ∀ n, M (.string n) = (getF L n).map (fun f => fV (V n) f.kept)
  own : ∀ n f, getF L n = some f → OB w 0 (V n) f.all
  ok : ∀ n f, getF L n = some f → (∀ c ∈ f.all, c < 256) ∧ f.kept ≤ f.all.length ∧ n.length ≤ 100000
  sep : ∀ n k g, n ≠ k → getF L n ≠ none → getF L k ≠ none → (V n).ownBlock = some g → (V k).ownBlock ≠ some g
  inS : ∀ n g, getF L n ≠ none → (V n).ownBlock = some g → S g
  srt : SrtF L
  sum : sumF L ≤ 1048576
  few : L.length ≤ 128
section
variable {S : Nat → Prop} {w : World} {m : Nat} {L : Ft} {M : Lit → Option Value} {V : Nm → Value}
theorem DF.move (h : DF S w m L M V) {w' : World} (hm : w'.heap[m]? = w.heap[m]?) (hf : ∀ n g, getF L n ≠ none → (V n).ownBlock = some g → w'.heap[g]? = w.heap[g]?) : DF S w' m L M V :=
  ⟨h.vm.block hm, h.spot, fun n f e => (h.own n f e).blk (fun g hg => hf n g (by rw [e]; exact Option.some_ne_none _) hg), h.ok, h.sep, h.inS, h.srt, h.sum, h.few⟩
theorem DF.lt (h : DF S w m L M V) {n : Nm} {g : Nat} (hn : getF L n ≠ none) (hg : (V n).ownBlock = some g) : g < w.heap.size := by
  obtain ⟨f, hf⟩ := Option.ne_none_iff_exists'.1 hn
  exact ((h.own n f hf).lt hg).2
theorem DF.more (h : DF S w m L M V) {S' : Nat → Prop} (hs : ∀ k, S k → S' k) : DF S' w m L M V :=
  ⟨h.vm, h.spot, h.own, h.ok, h.sep, fun n g a b => hs g (h.inS n g a b), h.srt, h.sum, h.few⟩
theorem DF.put (h : DF S w m L M V) {w1 : World} {n : Nm} {v : Value} {f : Fl} {M' : Lit → Option Value} {c : Nat} (hc : c = (putF L n f).length) (hvm : VM 9 w1 m c M') (h1 : M' (.string n) = some (fV v f.kept)) (h2 : ∀ x, x ≠ .string n → M' x = M x)
    (hkeep : ∀ k g, k ≠ n → getF L k ≠ none → (V k).ownBlock = some g → w1.heap[g]? = w.heap[g]?) (hob : OB w1 0 v f.all) (hok : (∀ c ∈ f.all, c < 256) ∧ f.kept ≤ f.all.length ∧ n.length ≤ 100000)
    (hsep : ∀ k g, k ≠ n → getF L k ≠ none → (V k).ownBlock = some g → v.ownBlock ≠ some g) {S' : Nat → Prop} (hs : ∀ k, S k → S' k) (hS : ∀ g, v.ownBlock = some g → S' g) (hsum : sumF (putF L n f) ≤ 1048576) (hfew : (putF L n f).length ≤ 128) :
    DF S' w1 m (putF L n f) M' (fun k => if k = n then v else V k) := by
  have hg : ∀ k, k ≠ n → getF (putF L n f) k = getF L k := fun k hk => getF_put_other L n f hk
  have hn : getF (putF L n f) n = some f := getF_put_same L n f
  refine ⟨by rw [← hc]; exact hvm, fun k => ?_, fun k f' e => ?_, fun k f' e => ?_, fun k j g hkj hk hj hb => ?_, fun k g hk hb => ?_, h.srt.put n f, hsum, hfew⟩
  · by_cases e : k = n
    · subst e
      rw [h1, hn]
      simp
    · rw [h2 _ (fun e2 => e (by injection e2)), h.spot k, hg k e, if_neg e]
  · by_cases ek : k = n
    · subst ek
      rw [hn] at e
      injection e with e
      subst e
      rw [if_pos rfl]
      exact hob
    · rw [hg k ek] at e
      rw [if_neg ek]
      exact (h.own k f' e).blk (fun g hb => hkeep k g ek (by rw [e]; exact Option.some_ne_none _) hb)
  · by_cases ek : k = n
    · subst ek
      rw [hn] at e
      injection e with e
      subst e
      exact hok
    · rw [hg k ek] at e
      exact h.ok k f' e
  · by_cases ek : k = n
    · subst ek
      rw [if_pos rfl] at hb
      rw [if_neg (Ne.symm hkj)]
      rw [hg j (Ne.symm hkj)] at hj
      exact fun e2 => hsep j g (Ne.symm hkj) hj e2 hb
    · rw [if_neg ek] at hb
      rw [hg k ek] at hk
      by_cases ej : j = n
      · subst ej
        rw [if_pos rfl]
        exact hsep k g ek hk hb
      · rw [if_neg ej]
        rw [hg j ej] at hj
        exact h.sep k j g hkj hk hj hb
  · by_cases ek : k = n
    · subst ek
      rw [if_pos rfl] at hb
      exact hS g hb
    · rw [if_neg ek] at hb
      rw [hg k ek] at hk
      exact hs g (h.inS k g hk hb)
theorem DF.del (h : DF S w m L M V) {w1 : World} {n : Nm} {M' : Lit → Option Value} {c : Nat} (hc : c = (delF L n).length) (hvm : VM 9 w1 m c M') (h1 : M' (.string n) = none) (h2 : ∀ x, x ≠ .string n → M' x = M x)
    (hkeep : ∀ k g, k ≠ n → getF L k ≠ none → (V k).ownBlock = some g → w1.heap[g]? = w.heap[g]?) : DF S w1 m (delF L n) M' V := by
  have hg : ∀ k, k ≠ n → getF (delF L n) k = getF L k := fun k hk => getF_del_other L n hk
  have hn : getF (delF L n) n = none := getF_del_same L n
  have hne : ∀ k, getF (delF L n) k ≠ none → k ≠ n := fun k hk e => hk (by rw [e]; exact hn)
  have hsl : sumF (delF L n) ≤ sumF L ∧ (delF L n).length ≤ L.length := by
    cases e : getF L n with
    | none => rw [delF_none e]; exact ⟨Nat.le_refl _, Nat.le_refl _⟩
    | some g => have a := sum_del h.srt e; have b := len_del_some h.srt e; omega
  refine ⟨by rw [← hc]; exact hvm, fun k => ?_, fun k f' e => ?_, fun k f' e => ?_, fun k j g hkj hk hj hb => ?_, fun k g hk hb => ?_, h.srt.del n, by have := h.sum; omega, by have := h.few; omega⟩
  · by_cases e : k = n
    · subst e
      rw [h1, hn]
      rfl
    · rw [h2 _ (fun e2 => e (by injection e2)), h.spot k, hg k e]
  · have ek := hne k (by rw [e]; exact Option.some_ne_none _)
    rw [hg k ek] at e
    exact (h.own k f' e).blk (fun g hb => hkeep k g ek (by rw [e]; exact Option.some_ne_none _) hb)
  · rw [hg k (hne k (by rw [e]; exact Option.some_ne_none _))] at e
    exact h.ok k f' e
  · have ek := hne k hk
    have ej := hne j hj
    rw [hg k ek] at hk
    rw [hg j ej] at hj
    exact h.sep k j g hkj hk hj hb
  · have ek := hne k hk
    rw [hg k ek] at hk
    exact h.inS k g hk hb
end
/-- A disk's data. -/
structure Dd where
  (room : Int)
  (fs : Ft)
  (st : Nat)
  (down : Bool)
  (armed : Bool)
  (after : Int)
def DC (D : Dd) (m mt : Nat) : List Value := [.int .i64 D.room, .map (some m), .pointer (some ⟨mt, 0, none⟩), .bool D.down, .bool D.armed, .int .u64 D.after]
/-- A disk at block B, with the map m and the meter mt; of what is there it has the blocks S at most. -/
structure DKx (S : Nat → Prop) (w : World) (B m mt : Nat) (D : Dd) (M : Lit → Option Value) (V : Nm → Value) : Prop where
  cells : w.heap[B]? = some (.cells (DC D m mt).toArray 78 (0, 0))
  met : Met mt [(D.st : Int)] w
  df : DF S w m D.fs M V
  own : S B ∧ S m ∧ S mt
  ne : B ≠ m ∧ B ≠ mt ∧ m ≠ mt
  fne : ∀ n g, getF D.fs n ≠ none → (V n).ownBlock = some g → g ≠ B ∧ g ≠ m ∧ g ≠ mt
  rm : 0 ≤ D.room ∧ D.room ≤ 1048576
  af : 0 ≤ D.after ∧ D.after < 18446744073709551616
  bd : ∀ k, S k → k < w.heap.size
def DK (S : Nat → Prop) (w : World) (B : Nat) (D : Dd) : Prop := ∃ m mt M V, DKx S w B m mt D M V
section
variable {S : Nat → Prop} {w : World} {B m mt : Nat} {D : Dd} {M : Lit → Option Value} {V : Nm → Value}
theorem DKx.lt (h : DKx S w B m mt D M V) : B < w.heap.size ∧ m < w.heap.size ∧ mt < w.heap.size := ⟨ex_lt h.cells, h.df.vm.lt, h.met.lt⟩
theorem DKx.at (h : DKx S w B m mt D M V) : w.cell? ⟨B, 0, none⟩ = some (.int .i64 D.room) ∧ w.cell? ⟨B, 1, none⟩ = some (.map (some m)) ∧ w.cell? ⟨B, 2, none⟩ = some (.pointer (some ⟨mt, 0, none⟩)) ∧ w.cell? ⟨B, 3, none⟩ = some (.bool D.down) ∧ w.cell? ⟨B, 4, none⟩ = some (.bool D.armed) ∧ w.cell? ⟨B, 5, none⟩ = some (.int .u64 D.after) := by
  refine ⟨?_, ?_, ?_, ?_, ?_, ?_⟩ <;> (simp only [World.cell?, h.cells]; rfl)
theorem DKx.fr (h : DKx S w B m mt D M V) : ∀ o, w.frozen? ⟨B, o, none⟩ = false := fun o => by simp [World.frozen?, h.cells]
/-- What of a disk's own blocks stays, stays a disk. -/
theorem DKx.move (h : DKx S w B m mt D M V) {w' : World} (hz : w.heap.size ≤ w'.heap.size) (hk : ∀ k, k < w.heap.size → S k → w'.heap[k]? = w.heap[k]?) : DKx S w' B m mt D M V :=
  ⟨(hk B h.lt.1 h.own.1).trans h.cells, h.met.of_block (hk mt h.lt.2.2 h.own.2.2), h.df.move (hk m h.lt.2.1 h.own.2.1) (fun n g hn hg => hk g (h.df.lt hn hg) (h.df.inS n g hn hg)), h.own, h.ne, h.fne, h.rm, h.af, fun k hs => Nat.lt_of_lt_of_le (h.bd k hs) hz⟩
theorem DKx.below (h : DKx S w B m mt D M V) {w' : World} (hb : Below w.heap.size w w') : DKx S w' B m mt D M V := h.move hb.size (fun k hk _ => hb.block k hk)
theorem DKx.only (h : DKx S w B m mt D M V) {w' : World} {X : Nat → Prop} (hb : Only X w w') (hx : ∀ k, S k → ¬ X k) : DKx S w' B m mt D M V := h.move hb.size (fun k hk hs => hb.block k hk (hx k hs))
theorem DKx.more (h : DKx S w B m mt D M V) {S' : Nat → Prop} (hs : ∀ k, S k → S' k) (hbd : ∀ k, S' k → k < w.heap.size) : DKx S' w B m mt D M V :=
  ⟨h.cells, h.met, h.df.more hs, ⟨hs _ h.own.1, hs _ h.own.2.1, hs _ h.own.2.2⟩, h.ne, h.fne, h.rm, h.af, hbd⟩
/-- Another block's turn (neither the map's, nor the meter's, nor a file's): the disk's own block. -/
theorem DKx.field (h : DKx S w B m mt D M V) (D' : Dd) (i : Nat) (v : Value) (hD : DC D' m mt = (DC D m mt).set i v) (hs : D'.st = D.st) (hf : D'.fs = D.fs) (hr : 0 ≤ D'.room ∧ D'.room ≤ 1048576) (ha : 0 ≤ D'.after ∧ D'.after < 18446744073709551616) : DKx S (w.setCell ⟨B, i, none⟩ v) B m mt D' M V := by
  have ho : ∀ k, k ≠ B → (w.setCell ⟨B, i, none⟩ v).heap[k]? = w.heap[k]? := fun k hk => Below.heap_setCell _ _ _ _ (by exact hk)
  refine ⟨?_, ?_, ?_, h.own, h.ne, ?_, hr, ha, fun k hs => by have := h.bd k hs; simpa using this⟩
  · rw [heap_setCell_same w B i _ _ v h.cells, hD]
    simp
  · rw [hs]
    exact h.met.of_block (ho mt (Ne.symm h.ne.2.1))
  · rw [hf]
    exact h.df.move (ho m (Ne.symm h.ne.1)) (fun n g hn hg => ho g (h.fne n g hn hg).1)
  · rw [hf]
    exact h.fne
theorem DK.below {S : Nat → Prop} {w w' : World} {B : Nat} {D : Dd} (h : DK S w B D) (hb : Below w.heap.size w w') : DK S w' B D := by
  obtain ⟨m, mt, M, V, h⟩ := h
  exact ⟨m, mt, M, V, h.below hb⟩
end
end Go.Proofs.Ythefnakbpalecaa
