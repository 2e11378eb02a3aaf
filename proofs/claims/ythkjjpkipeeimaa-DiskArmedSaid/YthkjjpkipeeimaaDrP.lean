/- The reference's disk: its calls, each in general, beside what the tables make of them. -/
import Derived.Test.YthkjjpkipeeimaaDrO
import Derived.Test.YthkjjpkipeeimaaDrJ
namespace Go.Proofs.Ythkjjpkipeeimaa
open Go.RowKit Go.Maps
def armI (D : Dd) : Int := if D.armed then D.after - (D.st : Int) else -1
/-- A disk of the reference's has what D has; no block of P is in use for it. -/
structure RA (P : Nat → Prop) (w : World) (D : Dd) (a : Option Addr) (ar : Int) : Prop where
  row : FRow w a D.fs
  out : ∀ x, a = some x → ¬ P x.block ∧ x.block < w.heap.size
  lt : -1 ≤ ar ∧ ar < 9223372036854775808
  arm : D.down = false → ar = armI D ∧ (D.armed = true → (D.st : Int) ≤ D.after)
def RVal (D : Dd) (a : Option Addr) (c : Nat) (ar : Int) : Value := .agg #[.int .i64 D.room, .slice a D.fs.length c, .bool D.down, .int .i64 ar, .int .u64 (D.st : Int)]
def RDid (P : Nat → Prop) (w : World) (e : Ending) (w' : World) (r : Dd × Int) : Prop := ∃ a c ar, e = .returned (.tuple #[RVal r.1 a c ar, .int .i64 r.2]) ∧ RA P w' r.1 a ar ∧ Below w.heap.size w w'
theorem RA.out2 {P : Nat → Prop} {w w' : World} {D : Dd} {a : Option Addr} {ar : Int} (h : RA P w D a ar) (hb : Below w.heap.size w w') : ∀ x, a = some x → ¬ P x.block ∧ x.block < w'.heap.size := fun x e => ⟨(h.out x e).1, Nat.lt_of_lt_of_le (h.out x e).2 hb.size⟩
theorem RA.below {P : Nat → Prop} {w w' : World} {D : Dd} {a : Option Addr} {ar : Int} (h : RA P w D a ar) (hb : Below w.heap.size w w') : RA P w' D a ar := ⟨h.row.below hb, h.out2 hb, h.lt, h.arm⟩
theorem RA.only {P P' : Nat → Prop} {w w' : World} {D : Dd} {a : Option Addr} {ar : Int} (h : RA P w D a ar) (ho : Only P w w') (hp : ∀ k, P' k → P k ∨ w.heap.size ≤ k) : RA P' w' D a ar := by
  refine ⟨fun i hi => ?_, fun x hx => ⟨fun hp' => ?_, Nat.lt_of_lt_of_le (h.out x hx).2 ho.size⟩, h.lt, h.arm⟩
  · obtain ⟨b, o, e, h1, h2, h3, h4⟩ := h.row i hi
    have hn := (h.out _ e).1
    exact ⟨b, o, e, Nat.lt_of_lt_of_le h1 ho.size, (World.cell?_of_block (a := ⟨b, _, none⟩) (ho.block b h1 hn)).trans h2, (World.cell?_of_block (a := ⟨b, _, none⟩) (ho.block b h1 hn)).trans h3, (World.cell?_of_block (a := ⟨b, _, none⟩) (ho.block b h1 hn)).trans h4⟩
  · rcases hp _ hp' with h1 | h1
    · exact (h.out x hx).1 h1
    · have := (h.out x hx).2
      omega
theorem RA.set {P : Nat → Prop} {w : World} {D : Dd} {a : Option Addr} {ar : Int} (h : RA P w D a ar) {p : Addr} (hp : P p.block) (v : Value) : RA P (w.setCell p v) D a ar := h.only ((Only.refl P w).setCell p v hp) (fun k hk => .inl hk)
theorem OF.rowP {w : World} {base : Nat} {v : Value} {l : Ft} (h : OF w base v l) : ∃ a c, v = .slice a l.length c ∧ FRow w a l ∧ ∀ x, a = some x → base ≤ x.block ∧ x.block < w.heap.size := by
  obtain ⟨a, c, e, hr⟩ := h.row
  refine ⟨a, c, e, hr, fun x hx => ?_⟩
  subst hx
  exact World.ownsRow.lt h _ (by rw [e]; rfl)
section
variable {P : Nat → Prop} {w w' : World} {D D' : Dd} {a : Option Addr} {c : Nat} {ar ar' : Int} {e : Ending} {k : Int}
theorem RDid.same (h : RA P w D a ar) (he : e = .returned (.tuple #[RVal D a c ar, .int .i64 k])) (hb : Below w.heap.size w w') : RDid P w e w' (D, k) := ⟨a, c, ar, he, h.below hb, hb⟩
theorem RDid.row {v : Value} {L : Ft} (hL : D'.fs = L) (ho : OF w' w.heap.size v L) (hP : ∀ k, P k → k < w.heap.size) (hv : ∀ a c, v = .slice a L.length c → e = .returned (.tuple #[.agg #[.int .i64 D'.room, .slice a L.length c, .bool D'.down, .int .i64 ar', .int .u64 (D'.st : Int)], .int .i64 k])) (hlt : -1 ≤ ar' ∧ ar' < 9223372036854775808) (harm : D'.down = false → ar' = armI D' ∧ (D'.armed = true → (D'.st : Int) ≤ D'.after)) (hb : Below w.heap.size w w') : RDid P w e w' (D', k) := by
  subst hL
  obtain ⟨a, c, rfl, hr, hx⟩ := ho.rowP
  exact ⟨a, c, ar', hv a c rfl, ⟨hr, fun x e => ⟨fun hp => by have h1 := hP _ hp; have h2 := (hx x e).1; omega, (hx x e).2⟩, hlt, harm⟩, hb⟩
/-- A step, by what the reference counts down. -/
theorem step_zero (h : RA P w D a ar) (hd : D.down = false) : (stepD D).down = true ↔ ar = 0 := by
  obtain ⟨h1, h2⟩ := h.arm hd
  show (D.armed && decide (D.after < ((D.st + 1 : Nat) : Int))) = true ↔ _
  unfold armI at h1
  cases ha : D.armed with
  | false =>
    rw [ha] at h1
    simp only [Bool.false_and, Bool.false_eq_true, false_iff]
    simp at h1
    omega
  | true =>
    rw [ha] at h1
    have h3 := h2 ha
    simp only [Bool.true_and, decide_eq_true_eq]
    simp at h1
    omega
theorem step_arm (h : RA P w D a ar) (hd : D.down = false) (hz : ar ≠ 0) : arS ar = armI (stepD D) ∧ ((stepD D).armed = true → ((stepD D).st : Int) ≤ (stepD D).after) ∧ -1 ≤ arS ar ∧ arS ar < 9223372036854775808 := by
  obtain ⟨h1, h2⟩ := h.arm hd
  have hl := h.lt
  unfold armI at h1 ⊢
  show arS ar = (if D.armed then D.after - ((D.st + 1 : Nat) : Int) else -1) ∧ (D.armed = true → ((D.st + 1 : Nat) : Int) ≤ D.after) ∧ _
  unfold arS
  cases ha : D.armed with
  | false =>
    rw [ha] at h1
    simp at h1
    subst h1
    simp
  | true =>
    rw [ha] at h1
    have h3 := h2 ha
    simp at h1
    have h4 : 0 < ar := by omega
    rw [if_pos h4]
    simp
    omega
theorem rval_down {b : Bool} (hd : D.down = b) : RVal D a c ar = .agg #[.int .i64 D.room, .slice a D.fs.length c, .bool b, .int .i64 ar, .int .u64 (D.st : Int)] := by
  unfold RVal
  rw [hd]
theorem rsync_any (h : RA P w D a ar) (fit : FitD D) (hP : ∀ k, P k → k < w.heap.size) {n : Nm} (hst : D.st < 1000000000) : Calls Try.prog 60 #[RVal D a c ar, encStr n] w fun e w' => RDid P w e w' (syncD D n) := by
  cases hd : D.down with
  | true =>
    rw [show syncD D n = (D, 50) by simp [syncD, hd], rval_down hd]
    exact (rsync_down D.room a c ar (D.st : Int) D.fs n w h.row (by have := fit.few; omega)).mono (fun e w' ⟨he, hb⟩ => RDid.same (c := c) h (by rw [rval_down hd]; exact he) hb)
  | false =>
    cases hf : getF D.fs n with
    | none =>
      rw [show syncD D n = (D, 31) by simp [syncD, hd, hf], rval_down hd]
      exact (rsync_none D.room a c ar (D.st : Int) D.fs n w h.row (by have := fit.few; omega) fit.srt hf).mono (fun e w' ⟨he, hb⟩ => RDid.same (c := c) h (by rw [rval_down hd]; exact he) hb)
    | some f =>
      by_cases hz : ar = 0
      · have hs : (stepD D).down = true := (step_zero h hd).2 hz
        rw [show syncD D n = (stepD D, 50) by simp [syncD, hd, hf, hs], rval_down hd]
        subst hz
        exact (rsync_sd D.room a c 0 (D.st : Int) D.fs n f w h.row (by have := fit.few; omega) fit.srt hf ⟨by omega, by omega⟩).mono (fun e w' ⟨he, hb⟩ => ⟨a, c, -1, by rw [rval_down hs]; exact he, ⟨h.row.below hb, h.out2 hb, by decide, fun e => by rw [hs] at e; cases e⟩, hb⟩)
      · have hs : ¬ (stepD D).down = true := fun e => hz ((step_zero h hd).1 e)
        have hs' : (stepD D).down = false := by simpa using hs
        obtain ⟨s1, s2, s3⟩ := step_arm h hd hz
        rw [show syncD D n = ((stepD D).files (putF D.fs n ⟨f.all, f.all.length⟩), 0) by simp [syncD, hd, hf, hs], rval_down hd]
        exact (rsync_ok D.room a c ar (D.st : Int) D.fs n f w h.row (by have := fit.few; omega) fit.srt hf ⟨hz, h.lt.2⟩ ⟨by omega, by omega⟩).mono (fun e w' ⟨v, he, ho, hb⟩ => RDid.row (D' := (stepD D).files (putF D.fs n ⟨f.all, f.all.length⟩)) (ar' := arS ar) rfl ho hP (fun a c hv => by rw [he, hv, show ((stepD D).files (putF D.fs n ⟨f.all, f.all.length⟩)).down = false from hs']; rfl) s3 (fun _ => ⟨s1, s2⟩) hb)
theorem rremove_any (h : RA P w D a ar) (fit : FitD D) (hP : ∀ k, P k → k < w.heap.size) {n : Nm} (hst : D.st < 1000000000) : Calls Try.prog 62 #[RVal D a c ar, encStr n] w fun e w' => RDid P w e w' (removeD D n) := by
  cases hd : D.down with
  | true =>
    rw [show removeD D n = (D, 50) by simp [removeD, hd], rval_down hd]
    exact (rremove_down D.room a c ar (D.st : Int) D.fs n w h.row (by have := fit.few; omega)).mono (fun e w' ⟨he, hb⟩ => RDid.same (c := c) h (by rw [rval_down hd]; exact he) hb)
  | false =>
    cases hf : getF D.fs n with
    | none =>
      rw [show removeD D n = (D, 31) by simp [removeD, hd, hf], rval_down hd]
      exact (rremove_none D.room a c ar (D.st : Int) D.fs n w h.row (by have := fit.few; omega) fit.srt hf).mono (fun e w' ⟨he, hb⟩ => RDid.same (c := c) h (by rw [rval_down hd]; exact he) hb)
    | some f =>
      by_cases hz : ar = 0
      · have hs : (stepD D).down = true := (step_zero h hd).2 hz
        rw [show removeD D n = (stepD D, 50) by simp [removeD, hd, hf, hs], rval_down hd]
        subst hz
        exact (rremove_sd D.room a c 0 (D.st : Int) D.fs n f w h.row (by have := fit.few; omega) fit.srt hf ⟨by omega, by omega⟩).mono (fun e w' ⟨he, hb⟩ => ⟨a, c, -1, by rw [rval_down hs]; exact he, ⟨h.row.below hb, h.out2 hb, by decide, fun e => by rw [hs] at e; cases e⟩, hb⟩)
      · have hs : ¬ (stepD D).down = true := fun e => hz ((step_zero h hd).1 e)
        have hs' : (stepD D).down = false := by simpa using hs
        obtain ⟨s1, s2, s3⟩ := step_arm h hd hz
        rw [show removeD D n = ((stepD D).files (delF D.fs n), 0) by simp [removeD, hd, hf, hs], rval_down hd]
        exact (rremove_ok D.room a c ar (D.st : Int) D.fs n f w h.row (by have := fit.few; omega) fit.srt hf ⟨hz, h.lt.2⟩ ⟨by omega, by omega⟩).mono (fun e w' ⟨v, he, ho, hb⟩ => RDid.row (D' := (stepD D).files (delF D.fs n)) (ar' := arS ar) rfl ho hP (fun a c hv => by rw [he, hv, show ((stepD D).files (delF D.fs n)).down = false from hs']; rfl) s3 (fun _ => ⟨s1, s2⟩) hb)
theorem rmove_any (h : RA P w D a ar) (fit : FitD D) (hP : ∀ k, P k → k < w.heap.size) {n : Nm} (n2 : Nm) (hst : D.st < 1000000000) : Calls Try.prog 63 #[RVal D a c ar, encStr n, encStr n2] w fun e w' => RDid P w e w' (moveD D n n2) := by
  cases hd : D.down with
  | true =>
    rw [show moveD D n n2 = (D, 50) by simp [moveD, hd], rval_down hd]
    exact (rmove_down D.room a c ar (D.st : Int) D.fs n n2 w h.row (by have := fit.few; omega)).mono (fun e w' ⟨he, hb⟩ => RDid.same (c := c) h (by rw [rval_down hd]; exact he) hb)
  | false =>
    cases hf : getF D.fs n with
    | none =>
      rw [show moveD D n n2 = (D, 31) by simp [moveD, hd, hf], rval_down hd]
      exact (rmove_none D.room a c ar (D.st : Int) D.fs n n2 w h.row (by have := fit.few; omega) fit.srt hf).mono (fun e w' ⟨he, hb⟩ => RDid.same (c := c) h (by rw [rval_down hd]; exact he) hb)
    | some f =>
      cases hv : validN n2 with
      | false =>
        rw [show moveD D n n2 = (D, 2) by simp [moveD, hd, hf, hv], rval_down hd]
        exact (rmove_arg D.room a c ar (D.st : Int) D.fs n n2 f w h.row (by have := fit.few; omega) fit.srt hf hv).mono (fun e w' ⟨he, hb⟩ => RDid.same (c := c) h (by rw [rval_down hd]; exact he) hb)
      | true =>
        by_cases hz : ar = 0
        · have hs : (stepD D).down = true := (step_zero h hd).2 hz
          rw [show moveD D n n2 = (stepD D, 50) by simp [moveD, hd, hf, hs, hv], rval_down hd]
          subst hz
          exact (rmove_sd D.room a c 0 (D.st : Int) D.fs n n2 f w h.row (by have := fit.few; omega) fit.srt hf hv ⟨by omega, by omega⟩).mono (fun e w' ⟨he, hb⟩ => ⟨a, c, -1, by rw [rval_down hs]; exact he, ⟨h.row.below hb, h.out2 hb, by decide, fun e => by rw [hs] at e; cases e⟩, hb⟩)
        · have hs : ¬ (stepD D).down = true := fun e => hz ((step_zero h hd).1 e)
          have hs' : (stepD D).down = false := by simpa using hs
          obtain ⟨s1, s2, s3⟩ := step_arm h hd hz
          rw [show moveD D n n2 = ((stepD D).files (putF (delF D.fs n) n2 f), 0) by simp [moveD, hd, hf, hs, hv], rval_down hd]
          exact (rmove_ok D.room a c ar (D.st : Int) D.fs n n2 f w h.row (by have := fit.few; omega) fit.srt hf hv ⟨hz, h.lt.2⟩ ⟨by omega, by omega⟩).mono (fun e w' ⟨v, he, ho, hb⟩ => RDid.row (D' := (stepD D).files (putF (delF D.fs n) n2 f)) (ar' := arS ar) rfl ho hP (fun a c hv => by rw [he, hv, show ((stepD D).files (putF (delF D.fs n) n2 f)).down = false from hs']; rfl) s3 (fun _ => ⟨s1, s2⟩) hb)
theorem rcut_any (h : RA P w D a ar) (fit : FitD D) (hP : ∀ k, P k → k < w.heap.size) {n : Nm} (r : Int) (hst : D.st < 1000000000) : Calls Try.prog 61 #[RVal D a c ar, encStr n, .int .i64 r] w fun e w' => RDid P w e w' (cutD D n r) := by
  cases hd : D.down with
  | true =>
    rw [show cutD D n r = (D, 50) by simp [cutD, hd], rval_down hd]
    exact (rcut_down D.room a c ar (D.st : Int) D.fs n r w h.row (by have := fit.few; omega)).mono (fun e w' ⟨he, hb⟩ => RDid.same (c := c) h (by rw [rval_down hd]; exact he) hb)
  | false =>
    cases hf : getF D.fs n with
    | none =>
      rw [show cutD D n r = (D, 31) by simp [cutD, hd, hf], rval_down hd]
      exact (rcut_none D.room a c ar (D.st : Int) D.fs n r w h.row (by have := fit.few; omega) fit.srt hf).mono (fun e w' ⟨he, hb⟩ => RDid.same (c := c) h (by rw [rval_down hd]; exact he) hb)
    | some f =>
      by_cases h0 : r < 0
      · rw [show cutD D n r = (D, 2) by simp [cutD, hd, hf, h0], rval_down hd]
        exact (rcut_neg D.room a c ar (D.st : Int) D.fs n r f w h.row (by have := fit.few; omega) fit.srt hf h0).mono (fun e w' ⟨he, hb⟩ => RDid.same (c := c) h (by rw [rval_down hd]; exact he) hb)
      · by_cases h1 : (f.all.length : Int) < r
        · rw [show cutD D n r = (D, 2) by simp [cutD, hd, hf, h1], rval_down hd]
          exact (rcut_big D.room a c ar (D.st : Int) D.fs n r f w h.row (by have := fit.few; omega) fit.srt hf ⟨by omega, h1⟩).mono (fun e w' ⟨he, hb⟩ => RDid.same (c := c) h (by rw [rval_down hd]; exact he) hb)
        · obtain ⟨k, rfl⟩ : ∃ k : Nat, r = (k : Int) := ⟨r.toNat, by omega⟩
          by_cases hz : ar = 0
          · have hs : (stepD D).down = true := (step_zero h hd).2 hz
            rw [show cutD D n (k : Int) = (stepD D, 50) by exact (by
          unfold cutD
          rw [hd, hf]
          simp only [Bool.false_eq_true, if_false]
          rw [if_neg (by omega), if_pos hs]), rval_down hd]
            subst hz
            exact (rcut_sd D.room a c 0 (D.st : Int) D.fs n k f w h.row (by have := fit.few; omega) fit.srt hf (by omega) ⟨by omega, by omega⟩).mono (fun e w' ⟨he, hb⟩ => ⟨a, c, -1, by rw [rval_down hs]; exact he, ⟨h.row.below hb, h.out2 hb, by decide, fun e => by rw [hs] at e; cases e⟩, hb⟩)
          · by_cases hm : k < f.kept
            · have hs : ¬ (stepD D).down = true := fun e => hz ((step_zero h hd).1 e)
              have hs' : (stepD D).down = false := by simpa using hs
              obtain ⟨s1, s2, s3⟩ := step_arm h hd hz
              rw [show cutD D n (k : Int) = ((stepD D).files (putF D.fs n ⟨f.all.take k, k⟩), 0) by exact (by
          unfold cutD
          rw [hd, hf]
          simp only [Bool.false_eq_true, if_false]
          rw [if_neg (by omega), if_neg hs, Int.toNat_natCast, show min f.kept k = k by omega]), rval_down hd]
              exact (rcut_ok1 D.room a c ar (D.st : Int) D.fs n k f w h.row (by have := fit.few; omega) fit.srt hf (by omega) hm ⟨hz, h.lt.2⟩ ⟨by omega, by omega⟩).mono (fun e w' ⟨v, he, ho, hb⟩ => RDid.row (D' := (stepD D).files (putF D.fs n ⟨f.all.take k, k⟩)) (ar' := arS ar) rfl ho hP (fun a c hv => by rw [he, hv, show ((stepD D).files (putF D.fs n ⟨f.all.take k, k⟩)).down = false from hs']; rfl) s3 (fun _ => ⟨s1, s2⟩) hb)
            · have hs : ¬ (stepD D).down = true := fun e => hz ((step_zero h hd).1 e)
              have hs' : (stepD D).down = false := by simpa using hs
              obtain ⟨s1, s2, s3⟩ := step_arm h hd hz
              rw [show cutD D n (k : Int) = ((stepD D).files (putF D.fs n ⟨f.all.take k, f.kept⟩), 0) by exact (by
          unfold cutD
          rw [hd, hf]
          simp only [Bool.false_eq_true, if_false]
          rw [if_neg (by omega), if_neg hs, Int.toNat_natCast, show min f.kept k = f.kept by omega]), rval_down hd]
              exact (rcut_ok2 D.room a c ar (D.st : Int) D.fs n k f w h.row (by have := fit.few; omega) fit.srt hf (by omega) (by omega) ⟨hz, h.lt.2⟩ ⟨by omega, by omega⟩).mono (fun e w' ⟨v, he, ho, hb⟩ => RDid.row (D' := (stepD D).files (putF D.fs n ⟨f.all.take k, f.kept⟩)) (ar' := arS ar) rfl ho hP (fun a c hv => by rw [he, hv, show ((stepD D).files (putF D.fs n ⟨f.all.take k, f.kept⟩)).down = false from hs']; rfl) s3 (fun _ => ⟨s1, s2⟩) hb)
theorem rappend_any (h : RA P w D a ar) (fit : FitD D) (hP : ∀ k, P k → k < w.heap.size) (n : Nm) (bs : List Nat) (hst : D.st < 1000000000) : Calls Try.prog 70 #[RVal D a c ar, encStr n, .string (str bs)] w fun e w' => RDid P w e w' (appendD D n bs) := by
  cases hd : D.down with
  | true =>
    rw [show appendD D n bs = (D, 50) by simp [appendD, hd], rval_down hd]
    exact (rappend_down D.room a c ar (D.st : Int) D.fs n bs w h.row (by have := fit.few; omega)).mono (fun e w' ⟨he, hb⟩ => RDid.same (c := c) h (by rw [rval_down hd]; exact he) hb)
  | false =>
    cases hv : validN n with
    | false =>
      rw [show appendD D n bs = (D, 2) by simp [appendD, hd, hv], rval_down hd]
      exact (rappend_arg D.room a c ar (D.st : Int) D.fs n bs w h.row (by have := fit.few; omega) hv).mono (fun e w' ⟨he, hb⟩ => RDid.same (c := c) h (by rw [rval_down hd]; exact he) hb)
    | true =>
      have hsm : sumF D.fs ≤ 1000000000 := by have := fit.sum; omega
      have hfr : (if D.room < (sumF D.fs : Int) then 0 else D.room - (sumF D.fs : Int)) = freeD D := rfl
      cases hf : getF D.fs n with
      | none =>
        by_cases hm : 128 ≤ D.fs.length
        · rw [show appendD D n bs = (D, 30) by simp [appendD, hd, hf, hv, hm], rval_down hd]
          exact (rappend_many D.room a c ar (D.st : Int) D.fs n bs w h.row (by have := fit.few; omega) fit.srt hf hv hm).mono (fun e w' ⟨he, hb⟩ => RDid.same (c := c) h (by rw [rval_down hd]; exact he) hb)
        · skip
          by_cases hfr1 : freeD D < (bs.length : Int)
          · rw [show appendD D n bs = (D, 30) by simp [appendD, hd, hf, hv, hm, hfr1], rval_down hd]
            exact (rappend_full0 D.room a c ar (D.st : Int) D.fs n bs (freeD D) w h.row (by have := fit.few; omega) fit.srt hf hv fit.rm hsm hfr (by omega) hfr1).mono (fun e w' ⟨he, hb⟩ => RDid.same (c := c) h (by rw [rval_down hd]; exact he) hb)
          · rw [show appendD D n bs = (stepD (D.files (putF D.fs n ⟨bs, 0⟩)), pw (stepD (D.files (putF D.fs n ⟨bs, 0⟩))).down) by simp [appendD, hd, hf, hv, hm, hfr1], rval_down hd]
            by_cases hz : ar = 0
            · have hs : (stepD (D.files (putF D.fs n ⟨bs, 0⟩))).down = true := (step_zero h hd).2 hz
              subst hz
              exact (rappend_ok0z D.room a c 0 (D.st : Int) D.fs n bs (freeD D) w h.row (by have := fit.few; omega) fit.srt hf hv fit.rm hsm hfr (by omega) (by omega) ⟨by omega, by omega⟩).mono (fun e w' ⟨v, he, ho, hb⟩ => RDid.row (D' := stepD (D.files (putF D.fs n ⟨bs, 0⟩))) (ar' := -1) rfl ho hP (fun a c hv => by rw [he, hv, hs]; rfl) (by decide) (fun e => by rw [hs] at e; cases e) hb)
            · have hs' : (stepD (D.files (putF D.fs n ⟨bs, 0⟩))).down = false := by
                have := (step_zero h hd)
                exact Bool.eq_false_iff.2 (fun e => hz (this.1 e))
              obtain ⟨s1, s2, s3⟩ := step_arm h hd hz
              exact (rappend_ok0 D.room a c ar (D.st : Int) D.fs n bs (freeD D) w h.row (by have := fit.few; omega) fit.srt hf hv fit.rm hsm hfr (by omega) (by omega) ⟨hz, h.lt.2⟩ ⟨by omega, by omega⟩).mono (fun e w' ⟨v, he, ho, hb⟩ => RDid.row (D' := stepD (D.files (putF D.fs n ⟨bs, 0⟩))) (ar' := arS ar) rfl ho hP (fun a c hv => by rw [he, hv, hs']; rfl) s3 (fun _ => ⟨s1, s2⟩) hb)
      | some f =>
        by_cases hfr1 : freeD D < (bs.length : Int)
        · rw [show appendD D n bs = (D, 30) by simp [appendD, hd, hf, hv, hfr1], rval_down hd]
          exact (rappend_full1 D.room a c ar (D.st : Int) D.fs n bs (freeD D) f w h.row (by have := fit.few; omega) fit.srt hf hv fit.rm hsm hfr hfr1).mono (fun e w' ⟨he, hb⟩ => RDid.same (c := c) h (by rw [rval_down hd]; exact he) hb)
        · rw [show appendD D n bs = (stepD (D.files (putF D.fs n ⟨f.all ++ bs, f.kept⟩)), pw (stepD (D.files (putF D.fs n ⟨f.all ++ bs, f.kept⟩))).down) by simp [appendD, hd, hf, hv, hfr1], rval_down hd]
          by_cases hz : ar = 0
          · have hs : (stepD (D.files (putF D.fs n ⟨f.all ++ bs, f.kept⟩))).down = true := (step_zero h hd).2 hz
            subst hz
            exact (rappend_ok1z D.room a c 0 (D.st : Int) D.fs n bs (freeD D) f w h.row (by have := fit.few; omega) fit.srt hf hv fit.rm hsm hfr (by omega) ⟨by omega, by omega⟩ (by have h1 := sum_le (getF_mem hf); have h2 := fit.sum; simp only at h1; omega)).mono (fun e w' ⟨v, he, ho, hb⟩ => RDid.row (D' := stepD (D.files (putF D.fs n ⟨f.all ++ bs, f.kept⟩))) (ar' := -1) rfl ho hP (fun a c hv => by rw [he, hv, hs]; rfl) (by decide) (fun e => by rw [hs] at e; cases e) hb)
          · have hs' : (stepD (D.files (putF D.fs n ⟨f.all ++ bs, f.kept⟩))).down = false := by
              have := (step_zero h hd)
              exact Bool.eq_false_iff.2 (fun e => hz (this.1 e))
            obtain ⟨s1, s2, s3⟩ := step_arm h hd hz
            exact (rappend_ok1 D.room a c ar (D.st : Int) D.fs n bs (freeD D) f w h.row (by have := fit.few; omega) fit.srt hf hv fit.rm hsm hfr (by omega) ⟨hz, h.lt.2⟩ ⟨by omega, by omega⟩ (by have h1 := sum_le (getF_mem hf); have h2 := fit.sum; simp only at h1; omega)).mono (fun e w' ⟨v, he, ho, hb⟩ => RDid.row (D' := stepD (D.files (putF D.fs n ⟨f.all ++ bs, f.kept⟩))) (ar' := arS ar) rfl ho hP (fun a c hv => by rw [he, hv, hs']; rfl) s3 (fun _ => ⟨s1, s2⟩) hb)
theorem rarm_any (h : RA P w D a ar) (fit : FitD D) (hP : ∀ k, P k → k < w.heap.size) (r : Int) (hr : r < 9223372036854775808) : Calls Try.prog 65 #[RVal D a c ar, .int .i64 r] w fun e w' => RDid P w e w' (armD D r) := by
  cases hd : D.down with
  | true =>
    rw [show armD D r = (D, 50) by simp [armD, hd], rval_down hd]
    exact (rarm_down D.room a D.fs.length c true ar (D.st : Int) r w).mono (fun e w' ⟨he, hb⟩ => RDid.same (c := c) h (by rw [rval_down hd]; exact he) hb)
  | false =>
    by_cases h0 : r < 0
    · rw [show armD D r = (D, 2) by simp [armD, hd, h0], rval_down hd]
      exact (rarm_arg D.room a D.fs.length c false ar (D.st : Int) r h0 w).mono (fun e w' ⟨he, hb⟩ => RDid.same (c := c) h (by rw [rval_down hd]; exact he) hb)
    · rw [show armD D r = (⟨D.room, D.fs, D.st, D.down, true, (D.st : Int) + r⟩, 0) by simp [armD, hd, h0], rval_down hd]
      exact (rarm_ok D.room a D.fs.length c false ar (D.st : Int) r (by omega) w).mono (fun e w' ⟨he, hb⟩ => ⟨a, c, r, by rw [he]; unfold RVal; rw [hd], ⟨h.row.below hb, h.out2 hb, ⟨by omega, hr⟩, fun _ => ⟨by show r = (if true = true then (D.st : Int) + r - (D.st : Int) else -1); rw [if_pos rfl]; omega, fun _ => by show (D.st : Int) ≤ (D.st : Int) + r; omega⟩⟩, hb⟩)
theorem rresize_any (h : RA P w D a ar) (fit : FitD D) (hP : ∀ k, P k → k < w.heap.size) (r : Int) : Calls Try.prog 69 #[RVal D a c ar, .int .i64 r] w fun e w' => RDid P w e w' (resizeD D r) := by
  cases hd : D.down with
  | true =>
    rw [show resizeD D r = (D, 50) by simp [resizeD, hd], rval_down hd]
    exact (rresize_down D.room a D.fs.length c true ar (D.st : Int) r w).mono (fun e w' ⟨he, hb⟩ => RDid.same (c := c) h (by rw [rval_down hd]; exact he) hb)
  | false =>
    by_cases h0 : r < 0
    · rw [show resizeD D r = (D, 2) by unfold resizeD; rw [if_neg (by simp [hd]), if_pos (.inl h0)], rval_down hd]
      exact (rresize_lo D.room a D.fs.length c false ar (D.st : Int) r h0 w).mono (fun e w' ⟨he, hb⟩ => RDid.same (c := c) h (by rw [rval_down hd]; exact he) hb)
    · by_cases h1 : 1048576 < r
      · rw [show resizeD D r = (D, 2) by unfold resizeD; rw [if_neg (by simp [hd]), if_pos (.inr h1)], rval_down hd]
        exact (rresize_hi D.room a D.fs.length c false ar (D.st : Int) r h1 w).mono (fun e w' ⟨he, hb⟩ => RDid.same (c := c) h (by rw [rval_down hd]; exact he) hb)
      · rw [show resizeD D r = (⟨r, D.fs, D.st, D.down, D.armed, D.after⟩, 0) by unfold resizeD; rw [if_neg (by simp [hd]), if_neg (by omega)], rval_down hd]
        exact (rresize_ok D.room a D.fs.length c false ar (D.st : Int) r (by omega) w).mono (fun e w' ⟨he, hb⟩ => ⟨a, c, ar, by rw [he]; unfold RVal; rw [hd], ⟨h.row.below hb, h.out2 hb, h.lt, fun e => h.arm hd⟩, hb⟩)
theorem rboot_any (h : RA P w D a ar) (fit : FitD D) (hP : ∀ k, P k → k < w.heap.size) : Calls Try.prog 68 #[RVal D a c ar] w fun e w' => ∃ c' ar', e = .returned (RVal (bootD D) a c' ar') ∧ RA P w' (bootD D) a ar' ∧ Below w.heap.size w w' :=
  (rboot D.room a D.fs.length c D.down ar (D.st : Int) w).mono (fun e w' ⟨he, hb⟩ => ⟨c, -1, he, ⟨h.row.below hb, h.out2 hb, by decide, fun _ => ⟨rfl, fun e => by cases e⟩⟩, hb⟩)
theorem rcrash_any (h : RA P w D a ar) (fit : FitD D) (hP : ∀ k, P k → k < w.heap.size) (at_ : Option Addr) (ct : Nat) (ts : List (Nat × Nat)) (htr : TRow (fun _ => False) w at_ ts) (hts : ts.length ≤ 1000) (hwf : ∀ t ∈ ts, t.1 < 65536 ∧ t.2 < 4294967296) : Calls Try.prog 66 #[RVal D a c ar, .slice at_ ts.length ct] w fun e w' => ∃ a' c' ar', e = .returned (RVal (crashD D ts) a' c' ar') ∧ RA P w' (crashD D ts) a' ar' ∧ Below w.heap.size w w' := by
  refine (rcrash D.room a c D.down ar (D.st : Int) D.fs at_ ct ts w h.row (by have := fit.few; omega) htr hts hwf (fun p hp => ?_)).mono (fun e w' ⟨v, he, ho, hb⟩ => ?_)
  · have h1 := fit.ok p.1 p.2 (getF_of_mem fit.srt hp)
    exact ⟨h1.1, h1.2.1, by have := sum_le hp; have := fit.sum; omega⟩
  · obtain ⟨a', c', rfl, hr, hx⟩ := ho.rowP
    exact ⟨a', c', -1, he, ⟨hr, fun x e => ⟨fun hp => by have h1 := hP _ hp; have h2 := (hx x e).1; omega, (hx x e).2⟩, by decide, fun e => by cases e⟩, hb⟩
theorem rread_any (h : RA P w D a ar) (fit : FitD D) (hP : ∀ k, P k → k < w.heap.size) {n : Nm} : Calls Try.prog 64 #[RVal D a c ar, encStr n] w fun e w' => e = .returned (.tuple #[.string (str (readD D n).1), .int .i64 (readD D n).2]) ∧ Below w.heap.size w w' := by
  cases hd : D.down with
  | true =>
    rw [show readD D n = ([], 50) by simp [readD, hd], rval_down hd]
    exact rread_down D.room a c ar (D.st : Int) D.fs n w h.row (by have := fit.few; omega)
  | false =>
    cases hf : getF D.fs n with
    | none =>
      rw [show readD D n = ([], 31) by simp [readD, hd, hf], rval_down hd]
      exact rread_none D.room a c ar (D.st : Int) D.fs n w h.row (by have := fit.few; omega) fit.srt hf
    | some f =>
      rw [show readD D n = (f.all, 0) by simp [readD, hd, hf], rval_down hd]
      exact rread_ok D.room a c ar (D.st : Int) D.fs n f w h.row (by have := fit.few; omega) fit.srt hf
theorem rnew_any (P : Nat → Prop) (room : Int) (w : World) : Calls Try.prog 15 #[.int .i64 room] w fun e w' => e = .returned (RVal (d0 room) none 0 (-1)) ∧ RA P w' (d0 room) none (-1) ∧ Below w.heap.size w w' :=
  (rnew room w).mono (fun e w' ⟨he, hb⟩ => ⟨he, ⟨fun i hi => absurd hi (Nat.not_lt_zero _), (fun x e => by cases e), by decide, fun _ => ⟨rfl, fun e => by cases e⟩⟩, hb⟩)
theorem rfree_any (h : RA P w D a ar) (fit : FitD D) (hP : ∀ k, P k → k < w.heap.size) : Calls Try.prog 20 #[RVal D a c ar] w fun e w' => e = .returned (.int .i64 (freeD D)) ∧ Below w.heap.size w w' :=
  rfree D.room a c D.down ar (D.st : Int) D.fs w h.row (by have := fit.few; omega) fit.rm (by have := fit.sum; omega)
end
end Go.Proofs.Ythkjjpkipeeimaa
