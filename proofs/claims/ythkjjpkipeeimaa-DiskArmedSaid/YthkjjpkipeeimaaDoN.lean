/- DiskArmed: what a call makes of a disk that is armed, against one that is not. -/
import Derived.Test.YthkjjpkipeeimaaDoM
namespace Go.Proofs.Ythkjjpkipeeimaa
open Go.RowKit Go.Maps
/-- The same disk, not armed. -/
def unD (D : Dd) : Dd := ⟨D.room, D.fs, D.st, false, false, 0⟩
theorem unD_fit {D : Dd} (h : FitD D) : FitD (unD D) := ⟨h.srt, h.few, h.sum, h.ok, h.rm, (show (0 : Int) ≤ 0 by decide), (show (0 : Int) < 18446744073709551616 by decide)⟩
def AOk (s : Nat) (D D' Q' : Dd) (app : Bool) : Prop := (D' = D ∧ Q' = unD D) ∨ (D'.st = D.st + 1 ∧ D'.armed = true ∧ D'.after = (s : Int) ∧ D'.down = decide (s < D.st + 1) ∧ (D'.down = true → D'.fs = if app then Q'.fs else D.fs) ∧ (D'.down = false → Q' = unD D'))
section
variable {s : Nat} {D : Dd}
theorem step_dn (ha : D.armed = true) (haf : D.after = (s : Int)) : (stepD D).down = decide (s < D.st + 1) := by
  show (D.armed && decide (D.after < ((D.st + 1 : Nat) : Int))) = _
  rw [ha, haf, Bool.true_and]
  by_cases h : s < D.st + 1
  · rw [decide_eq_true h, decide_eq_true (by omega)]
  · rw [decide_eq_false h, decide_eq_false (by omega)]
theorem step_un : (stepD (unD D)).down = false := rfl
theorem aok_step (ha : D.armed = true) (haf : D.after = (s : Int)) (X : Ft) (app : Bool) (D' Q' : Dd) (h1 : (stepD D).down = true → D' = stepD D) (h2 : (stepD D).down = false → D' = (stepD D).files X) (h3 : Q' = (stepD (unD D)).files X) (happ : app = false) : AOk s D D' Q' app := by
  have hs := step_dn ha haf
  cases hd : (stepD D).down with
  | true =>
    rw [h1 hd]
    rw [happ]
    exact .inr ⟨rfl, ha, haf, hs, fun _ => rfl, fun e => by rw [hd] at e; cases e⟩
  | false =>
    rw [h2 hd]
    refine .inr ⟨rfl, ha, haf, hs, fun e => ?_, fun _ => by rw [h3]; rfl⟩
    have e2 : (stepD D).down = true := e
    rw [hd] at e2
    cases e2
theorem aok_sync (hd : D.down = false) (ha : D.armed = true) (haf : D.after = (s : Int)) (n : Nm) : AOk s D (syncD D n).1 (syncD (unD D) n).1 false := by
  have hq : (unD D).down = false := rfl
  have hqf : (unD D).fs = D.fs := rfl
  cases hf : getF D.fs n with
  | none => exact .inl ⟨by simp [syncD, hd, hf], by simp [syncD, hq, hqf, hf]⟩
  | some f =>
    refine aok_step ha haf (putF D.fs n ⟨f.all, f.all.length⟩) false _ _ (fun e => by simp [syncD, hd, hf, e]) (fun e => by simp [syncD, hd, hf, e]) ?_ rfl
    simp [syncD, hq, hqf, hf, step_un]
theorem aok_remove (hd : D.down = false) (ha : D.armed = true) (haf : D.after = (s : Int)) (n : Nm) : AOk s D (removeD D n).1 (removeD (unD D) n).1 false := by
  have hq : (unD D).down = false := rfl
  have hqf : (unD D).fs = D.fs := rfl
  cases hf : getF D.fs n with
  | none => exact .inl ⟨by simp [removeD, hd, hf], by simp [removeD, hq, hqf, hf]⟩
  | some f =>
    refine aok_step ha haf (delF D.fs n) false _ _ (fun e => by simp [removeD, hd, hf, e]) (fun e => by simp [removeD, hd, hf, e]) ?_ rfl
    simp [removeD, hq, hqf, hf, step_un]
theorem aok_move (hd : D.down = false) (ha : D.armed = true) (haf : D.after = (s : Int)) (n b : Nm) : AOk s D (moveD D n b).1 (moveD (unD D) n b).1 false := by
  have hq : (unD D).down = false := rfl
  have hqf : (unD D).fs = D.fs := rfl
  cases hf : getF D.fs n with
  | none => exact .inl ⟨by simp [moveD, hd, hf], by simp [moveD, hq, hqf, hf]⟩
  | some f =>
    cases hv : validN b with
    | false => exact .inl ⟨by simp [moveD, hd, hf, hv], by simp [moveD, hq, hqf, hf, hv]⟩
    | true =>
      refine aok_step ha haf (putF (delF D.fs n) b f) false _ _ (fun e => by simp [moveD, hd, hf, hv, e]) (fun e => by simp [moveD, hd, hf, hv, e]) ?_ rfl
      simp [moveD, hq, hqf, hf, hv, step_un]
theorem aok_cut (hd : D.down = false) (ha : D.armed = true) (haf : D.after = (s : Int)) (n : Nm) (k : Int) : AOk s D (cutD D n k).1 (cutD (unD D) n k).1 false := by
  have hq : (unD D).down = false := rfl
  have hqf : (unD D).fs = D.fs := rfl
  cases hf : getF D.fs n with
  | none => exact .inl ⟨by simp [cutD, hd, hf], by simp [cutD, hq, hqf, hf]⟩
  | some f =>
    by_cases hb : k < 0 ∨ (f.all.length : Int) < k
    · exact .inl ⟨by simp [cutD, hd, hf, hb], by simp [cutD, hq, hqf, hf, hb]⟩
    · refine aok_step ha haf (putF D.fs n ⟨f.all.take k.toNat, min f.kept k.toNat⟩) false _ _ (fun e => ?_) (fun e => ?_) ?_ rfl
      · unfold cutD; rw [hd, hf]; simp only [Bool.false_eq_true, if_false]; rw [if_neg hb, if_pos e]
      · unfold cutD; rw [hd, hf]; simp only [Bool.false_eq_true, if_false]; rw [if_neg hb, if_neg (by rw [e]; decide)]
      · unfold cutD; rw [hq, hqf, hf]; simp only [Bool.false_eq_true, if_false]; rw [if_neg hb, if_neg (by rw [step_un]; decide)]
theorem aok_append (hd : D.down = false) (ha : D.armed = true) (haf : D.after = (s : Int)) (n : Nm) (bs : List Nat) : AOk s D (appendD D n bs).1 (appendD (unD D) n bs).1 true := by
  have hq : (unD D).down = false := rfl
  have hqf : (unD D).fs = D.fs := rfl
  have hfr : freeD (unD D) = freeD D := rfl
  have go : ∀ X : Ft, AOk s D (stepD (D.files X)) (stepD ((unD D).files X)) true := fun X => by
    have hs : (stepD (D.files X)).down = decide (s < D.st + 1) := step_dn (D := D.files X) ha haf
    exact .inr ⟨rfl, ha, haf, hs, fun _ => rfl, fun _ => rfl⟩
  cases hv : validN n with
  | false => exact .inl ⟨by simp [appendD, hd, hv], by simp [appendD, hq, hv]⟩
  | true =>
    cases hf : getF D.fs n with
    | none =>
      by_cases hm : 128 ≤ D.fs.length
      · exact .inl ⟨by simp [appendD, hd, hv, hf, hm], by simp [appendD, hq, hqf, hv, hf, hm]⟩
      · by_cases hx : freeD D < (bs.length : Int)
        · exact .inl ⟨by simp [appendD, hd, hv, hf, hx], by simp [appendD, hq, hqf, hv, hf, hfr, hx]⟩
        · have e1 : (appendD D n bs).1 = stepD (D.files (putF D.fs n ⟨bs, 0⟩)) := by simp [appendD, hd, hv, hf, hm, hx]
          have e2 : (appendD (unD D) n bs).1 = stepD ((unD D).files (putF D.fs n ⟨bs, 0⟩)) := by simp [appendD, hq, hqf, hv, hf, hfr, hm, hx]
          rw [e1, e2]
          exact go _
    | some f =>
      by_cases hx : freeD D < (bs.length : Int)
      · exact .inl ⟨by simp [appendD, hd, hv, hf, hx], by simp [appendD, hq, hqf, hv, hf, hfr, hx]⟩
      · have e1 : (appendD D n bs).1 = stepD (D.files (putF D.fs n ⟨f.all ++ bs, f.kept⟩)) := by simp [appendD, hd, hv, hf, hx]
        have e2 : (appendD (unD D) n bs).1 = stepD ((unD D).files (putF D.fs n ⟨f.all ++ bs, f.kept⟩)) := by simp [appendD, hq, hqf, hv, hf, hfr, hx]
        rw [e1, e2]
        exact go _
end
def appK (kd : Int) : Bool := !(decide (1 ≤ kd) && decide (kd ≤ 5))
/-- Any call but Arm, Crash, Boot, Resize, on an armed disk with power. -/
theorem dp_any {S : Nat → Prop} {w : World} {B m mt : Nat} {D : Dd} {M : Lit → Option Value} {V : Nm → Value} {a : Option Addr} (c : Nat) {ar : Int} (s : Nat) (h : DKx S w B m mt D M V) (hra : RA S w (unD D) a ar) (hst : D.st < 1000000) (hd : D.down = false) (ha : D.armed = true) (haf : D.after = (s : Int)) (y : Oq) (hkd : ¬ (6 ≤ y.kd ∧ y.kd ≤ 9)) (hli : y.tx.length ≤ 2000 ∧ y.nm.length ≤ 100 ∧ y.tt.length ≤ 100 ∧ y.ts.length ≤ 40) : Calls Try.prog 16 #[.pointer (some ⟨B, 0, none⟩), RVal (unD D) a c ar, OqV y] w fun e w' => ∃ D' Q', AOk s D D' Q' (appK y.kd) ∧ DoP2 S w B e w' D' Q' := by
  obtain ⟨kd, n, nm, tt, tx, ts, ya, yc⟩ := y
  have hfq := unD_fit h.fit
  have hsq : (unD D).st < 1000000 := hst
  unfold OqV RVal
  dsimp only at hkd hli ⊢
  by_cases h1 : kd = 1
  · subst h1; exact (dp_sync (B0 := 0) c h hra hfq hst n nm tt tx ts ya yc hli.2.1 hsq).mono (fun e w' hp => ⟨_, _, aok_sync hd ha haf nm, hp⟩)
  by_cases h2 : kd = 2
  · subst h2; exact (dp_cut (B0 := 0) c h hra hfq hst n nm tt tx ts ya yc hli.2.1 hsq).mono (fun e w' hp => ⟨_, _, aok_cut hd ha haf nm n, hp⟩)
  by_cases h3 : kd = 3
  · subst h3; exact (dp_remove (B0 := 0) c h hra hfq hst n nm tt tx ts ya yc hli.2.1 hsq).mono (fun e w' hp => ⟨_, _, aok_remove hd ha haf nm, hp⟩)
  by_cases h4 : kd = 4
  · subst h4; exact (dp_move (B0 := 0) c h hra hfq hst n nm tt tx ts ya yc hli.2.1 hsq).mono (fun e w' hp => ⟨_, _, aok_move hd ha haf nm tt, hp⟩)
  by_cases h5 : kd = 5
  · subst h5; exact (dp_read (B0 := 0) c h hra hfq hst n nm tt tx ts ya yc hli.2.1 (by simp [readD, hd, unD])).mono (fun e w' hp => ⟨D, unD D, .inl ⟨rfl, rfl⟩, hp⟩)
  have hk : appK kd = true := by
    unfold appK
    rw [Bool.not_eq_true', Bool.and_eq_false_iff]
    by_cases h : 1 ≤ kd
    · right; exact decide_eq_false (by omega)
    · left; exact decide_eq_false h
  rw [hk]
  exact (dp_append (B0 := 0) c h hra hfq hst n nm tt tx ts ya yc kd h1 h2 h3 h4 h5 (by omega) (by omega) (by omega) (by omega) hli.1 hsq).mono (fun e w' hp => ⟨_, _, aok_append hd ha haf nm _, hp⟩)
theorem OF.frame {S : Nat → Prop} {w w' : World} {base : Nat} {v : Value} {l : Ft} (h : OF w base v l) (ho : Only S w w') (hs : ∀ k, S k → k < base) : OF w' base v l := by
  obtain ⟨h1, h2⟩ := h
  refine ⟨h1, ?_⟩
  rcases h2 with h2 | ⟨g, cap, cur, hv, hg, hh, r⟩
  · exact .inl h2
  · exact .inr ⟨g, cap, cur, hv, hg, by rw [ho.block g (Array.getElem?_eq_some_iff.mp hh).1 (fun hx => by have := hs g hx; omega)]; exact hh, r⟩
theorem str_anyA (w : World) (s : List UInt8) : ∃ v' w', (convert 9 51 (encStr s)).run Try.prog w = .ok v' w' ∧ Below w.heap.size w w' := by
  have hr := run_bytes_of_string (P := Try.prog) w 9 51 5 ⟨s.toArray⟩ Try.underlying9 Try.underlying51 Try.underlying5
  exact ⟨_, _, hr, ((Below.refl _ _).drew).alloc (by simp) _⟩
theorem TRow.upto {B0 B1 : Nat} {w : World} {a : Option Addr} {ts : List (Nat × Nat)} (h : TRow (fun k => B0 ≤ k) w a ts) (hB : B0 ≤ B1) : TRow (fun k => B1 ≤ k) w a ts := fun i hi => by
  obtain ⟨b, o, e, h1, h2, h3⟩ := h i hi
  exact ⟨b, o, e, h1, fun h4 => h2 (Nat.le_trans hB h4), h3⟩
end Go.Proofs.Ythkjjpkipeeimaa
