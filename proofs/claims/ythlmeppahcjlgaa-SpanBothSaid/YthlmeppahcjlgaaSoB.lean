/- Spans sorted by where they begin: slices.SortFunc by the shelf's contract. -/
import Derived.Test.YthlmeppahcjlgaaSoA
import Derived.Test.YthlmeppahcjlgaaSpB
import Derived.Shelf.SlSortCmp.WholeK
import Derived.Shelf.SlicesQ.Reverse
namespace Go.Proofs.Ythlmeppahcjlgaa
open Go.RowKit Go.Shelf Go.Sort

def cmpV (a b : Int) : Int := if a < b then -1 else if b < a then 1 else 0
theorem cmpV_lt (a b : Int) : decide (cmpV a b < 0) = decide (a < b) := by
  unfold cmpV
  by_cases h1 : a < b
  · simp [h1]
  · by_cases h2 : b < a <;> simp [h1, h2]
theorem nan_any (a : Int) (w : World) : Calls Try.prog 64 #[.int .i64 a] w fun e w' => e = .returned (.bool false) ∧ w = w' := by
  have d : (a != a) = false := by simp
  go_enter Try.func64, Try.ntmps64
  go_wp2
  go_ret
  exact ⟨rfl, rfl⟩
theorem compare_any (a b : Int) (w : World) : Calls Try.prog 50 #[.int .i64 a, .int .i64 b] w fun e w' => e = .returned (.int .i64 (cmpV a b)) ∧ w = w' := by
  have h : (a < b ∧ cmpV a b = -1) ∨ (b < a ∧ cmpV a b = 1) ∨ (a = b ∧ cmpV a b = 0) := by
    unfold cmpV
    split
    · exact .inl ⟨‹_›, rfl⟩
    · split
      · exact .inr (.inl ⟨‹_›, rfl⟩)
      · exact .inr (.inr ⟨by omega, rfl⟩)
  have hn := nan_any
  rcases h with ⟨h, e⟩ | ⟨h, e⟩ | ⟨h, e⟩
  · rw [e]
    have d1 : decide (a < b) = true := decide_eq_true h
    clear e h
    go_enter Try.func50, Try.ntmps50
    go_wp2_with (go_at_call 64; refine (hn _ _).mono ?_; rintro e w' ⟨rfl, rfl⟩)
    go_ret
    exact ⟨rfl, rfl⟩
  · rw [e]
    have d1 : decide (a < b) = false := decide_eq_false (by omega)
    have d2 : decide (b < a) = true := decide_eq_true h
    clear e h
    go_enter Try.func50, Try.ntmps50
    go_wp2_with (go_at_call 64; refine (hn _ _).mono ?_; rintro e w' ⟨rfl, rfl⟩)
    go_ret
    exact ⟨rfl, rfl⟩
  · rw [e]
    have d1 : decide (a < b) = false := decide_eq_false (by omega)
    have d2 : decide (b < a) = false := decide_eq_false (by omega)
    clear e h
    go_enter Try.func50, Try.ntmps50
    go_wp2_with (go_at_call 64; refine (hn _ _).mono ?_; rintro e w' ⟨rfl, rfl⟩)
    go_ret
    exact ⟨rfl, rfl⟩

/-- A span's two cells. -/
def encSp (x : Int × Int) : List Value := [.int .i64 x.1, .int .i64 x.2]
theorem by_from (x y : Int × Int) (W : World) : Calls Try.prog 49 #[.agg #[.int .i64 x.1, .int .i64 x.2], .agg #[.int .i64 y.1, .int .i64 y.2]] W fun e w' => e = .returned (.int .i64 (cmpV x.1 y.1)) ∧ ∃ q os', w' = grow (W.drewN q) os' := by
  have hcon := fun W' => compare_any x.1 y.1 W'
  generalize cmpV x.1 y.1 = r at hcon ⊢
  go_enter Try.func49, Try.ntmps49
  go_wp2_with (go_at_call 50; refine (hcon _).mono ?_; rintro e w' ⟨rfl, rfl⟩)
  go_ret
  exact ⟨rfl, 0, _, by rw [alloc_eq_grow, alloc_eq_grow, grow_grow]; rfl⟩
theorem ltSp (x y : Int × Int) : ltOf (fun x y : Int × Int => cmpV x.1 y.1) x y = decide (x.1 < y.1) := cmpV_lt _ _
theorem swoSp : SWO (ltOf fun x y : Int × Int => cmpV x.1 y.1) where
  irrefl x := by rw [ltSp]; exact decide_eq_false (by omega)
  trans x y z h1 h2 := by rw [ltSp] at *; have := of_decide_eq_true h1; have := of_decide_eq_true h2; exact decide_eq_true (by omega)
  ntrans x y z h1 h2 := by rw [ltSp] at *; have := of_decide_eq_false h1; have := of_decide_eq_false h2; exact decide_eq_false (by omega)

/-- Of what was there, the row's block alone may have turned. -/
theorem sortWorld_only (enc : Int × Int → List Value) (k : Nat) (w : World) (blk off n : Nat) (d : Array (Int × Int)) (os : Array Obj) : Only (· = blk) w (sortWorldK enc k w blk off n d os) := by
  refine ⟨rfl, rfl, rfl, size_sortWorldK_c enc k w blk off n d os, fun i hi hne => ?_⟩
  unfold sortWorldK
  rw [heap_grow_old _ _ (by simpa [putRowK, putRow, mapBlock, ahead] using hi)]
  simp only [putRowK, putRow, mapBlock, ahead]
  rw [Array.getElem?_modify, if_neg (fun e => hne e.symm)]
  rfl

/-- A row of spans that can be written to: what it holds. -/
def HSp (w : World) (blk off : Nat) (l : List (Int × Int)) : Prop := HoldsK encSp 2 w blk off l.toArray
theorem HSp.at {w : World} {blk off : Nat} {l : List (Int × Int)} (h : HSp w blk off l) (i : Nat) (hi : i < l.length) :
    w.cell? ⟨blk, off + i * 2, none⟩ = some (.int .i64 (l[i]).1) ∧ w.cell? ⟨blk, off + i * 2 + 1, none⟩ = some (.int .i64 (l[i]).2) := by
  have e : (l.toArray)[i]! = l[i] := by simp [hi]
  have h0 := HoldsK.cell (i := i) (c := 0) h (by simpa using hi) (by omega)
  have h1 := HoldsK.cell (i := i) (c := 1) h (by simpa using hi) (by omega)
  rw [e] at h0 h1
  exact ⟨by simpa [encSp] using h0.1, by simpa [encSp] using h1.1⟩

/-- What the sort leaves behind. -/
def SortedBy (l : List (Int × Int)) (blk off : Nat) (w : World) (e : Ending) (w' : World) : Prop :=
  ∃ l', e = .returned (.tuple #[]) ∧ l'.Perm l ∧ l'.length = l.length ∧ (∀ i j (hi : i < l'.length) (hj : j < l'.length), i < j → (l'[i]).1 ≤ (l'[j]).1) ∧ HSp w' blk off l' ∧ Only (· = blk) w w'
theorem sort_any (blk off cap : Nat) (l : List (Int × Int)) (w : World) (hH : HSp w blk off l) (hblk : blk < w.heap.size) (hsz : l.length < 4611686018427387904) :
    Calls Try.prog 48 #[.slice (some ⟨blk, off, none⟩) l.length cap, .func (.func 49) #[] #[]] w (SortedBy l blk off w) := by
  have eg : ∀ args w, (callFunc 49 args).run Try.prog w = .ok (.enter 49 args) w := enters_of Try.func49 (by kernel_rfl) rfl
  have hcon := AnyQ.slices_SortFunc sortSp 2 Try.isAgg25 Try.sizeOf25 encSp (fun _ => rfl) (fun x v hv => by simp [encSp] at hv; rcases hv with rfl | rfl <;> rfl) (fun x y => cmpV x.1 y.1) swoSp 49 #[] blk off cap l.toArray w eg (fun _ _ _ _ x y => by_from x y _) hH hblk (by simpa using hsz)
  change Calls Try.prog 48 _ _ _ at hcon
  refine hcon.mono ?_
  rintro e w' ⟨rfl, d', n, os, hp, hs, rfl⟩
  have hsz' : d'.size = l.length := by rw [hp.1]; simp
  have hlen : d'.toList.length = l.length := by simpa using hsz'
  refine ⟨d'.toList, rfl, ?_, hlen, ?_, ?_, sortWorld_only _ _ _ _ _ _ _ _⟩
  · have h := hp.2.2
    have e1 : (l.toArray.extract 0 l.toArray.size).toList = l := by simp
    have e2 : (d'.extract 0 l.toArray.size).toList = d'.toList := by
      have : l.toArray.size = d'.size := by rw [hsz']; simp
      rw [this]; simp
    rw [e1, e2] at h
    exact h
  · intro i j hi hj hij
    have h := hs i j (Nat.zero_le _) hij (by simpa [hlen] using hj)
    rw [ltSp] at h
    have := of_decide_eq_false h
    have ei : d'[i]! = d'.toList[i] := by
      have : i < d'.size := by simpa using hi
      simp [this]
    have ej : d'[j]! = d'.toList[j] := by
      have : j < d'.size := by simpa using hj
      simp [this]
    rw [ei, ej] at this
    omega
  · unfold HSp
    rw [Array.toArray_toList]
    exact holdsK_sortWorldK_c encSp 2 w blk off l.toArray d' n os hH hblk (by rw [hsz']; simp)
end Go.Proofs.Ythlmeppahcjlgaa
