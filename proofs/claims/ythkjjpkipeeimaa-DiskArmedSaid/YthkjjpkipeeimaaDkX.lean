/- The disk: what a crash makes of its files; the next tear, whatever is left. -/
import Derived.Test.YthkjjpkipeeimaaDkW
namespace Go.Proofs.Ythkjjpkipeeimaa
open Go.RowKit Go.Maps
def nextT : List (Nat × Nat) → (Nat × Nat) × List (Nat × Nat)
  | [] => ((0, 0), [])
  | t :: q => (t, q)
def tornF (f : Fl) (t : Nat × Nat) : Fl := ⟨f.all.take f.kept ++ tearB (f.all.drop f.kept) t.1 t.2, (f.all.take f.kept ++ tearB (f.all.drop f.kept) t.1 t.2).length⟩
def oneF (n : Nm) (f : Fl) : Ft := if f.all = [] then [] else [(n, f)]
def crashF : Ft → List (Nat × Nat) → Ft
  | [], _ => []
  | (n, f) :: r, ts => if f.kept < f.all.length then oneF n (tornF f (nextT ts).1) ++ crashF r (nextT ts).2 else oneF n f ++ crashF r ts
def crashD (D : Dd) (ts : List (Nat × Nat)) : Dd := ⟨D.room, crashF D.fs ts, D.st, true, D.armed, D.after⟩
theorem srt_mid {pre : Ft} {n : Nm} {f : Fl} {r : Ft} (h : SrtF (pre ++ (n, f) :: r)) : (∀ p ∈ pre, p.1 < n) ∧ ∀ p ∈ r, n < p.1 := by
  have h' := List.pairwise_append.1 h
  refine ⟨fun p hp => h'.2.2 p hp (n, f) List.mem_cons_self, fun p hp => (List.pairwise_cons.1 h'.2.1).1 p hp⟩
theorem putF_mid : ∀ {pre : Ft} {n : Nm} {f f2 : Fl} {r : Ft}, SrtF (pre ++ (n, f) :: r) → putF (pre ++ (n, f) :: r) n f2 = pre ++ (n, f2) :: r
  | [], n, f, f2, r, _ => by simp [putF]
  | (m, g) :: q, n, f, f2, r, h => by
    have h1 := (srt_mid (pre := (m, g) :: q) h).1 (m, g) List.mem_cons_self
    simp only at h1
    rw [List.cons_append]
    unfold putF
    rw [if_neg (fun e => nm_irrefl _ (by rw [e] at h1; exact h1)), if_neg (fun e => nm_irrefl _ (nm_trans h1 e)), putF_mid (List.pairwise_cons.1 h).2]
    rfl
theorem delF_mid : ∀ {pre : Ft} {n : Nm} {f : Fl} {r : Ft}, SrtF (pre ++ (n, f) :: r) → delF (pre ++ (n, f) :: r) n = pre ++ r
  | [], n, f, r, h => by
    have h2 := (srt_mid (pre := []) h).2
    show delF ((n, f) :: r) n = r
    unfold delF
    rw [if_pos rfl]
    exact delF_none (getF_none_of (fun p hp e => nm_irrefl _ (by have := h2 p hp; rw [e] at this; exact this)))
  | (m, g) :: q, n, f, r, h => by
    have h1 := (srt_mid (pre := (m, g) :: q) h).1 (m, g) List.mem_cons_self
    simp only at h1
    rw [List.cons_append]
    unfold delF
    rw [if_neg (fun e => nm_irrefl _ (by rw [e] at h1; exact h1)), delF_mid (List.pairwise_cons.1 h).2]
    rfl
theorem getF_mid {pre : Ft} {n : Nm} {f : Fl} {r : Ft} (h : SrtF (pre ++ (n, f) :: r)) : getF (pre ++ (n, f) :: r) n = some f := getF_of_mem h (List.mem_append_right _ List.mem_cons_self)
theorem tear_few {l : List Nat} {kp tn : Nat} (h : tearN l kp < 3) : tearB l kp tn = l.take (tearN l kp) := by unfold tearB; rw [if_pos h]
theorem tearN_le (l : List Nat) (kp : Nat) : tearN l kp ≤ l.length := by unfold tearN; have := Nat.mod_lt kp (show 0 < l.length + 1 by omega); omega
theorem next_any (P : Nat → Prop) (T : Nat) (a : Option Addr) (c : Nat) (ts : List (Nat × Nat)) (w : World) (h : w.heap[T]? = some (.cells #[.slice a ts.length c] 32 (0, 0))) (hr : TRow P w a ts) (hc : ts.length ≤ c) : Calls Try.prog 77 #[.pointer (some ⟨T, 0, none⟩)] w fun e w' => e = .returned (.agg #[.int .u16 ((nextT ts).1.1 : Int), .int .u32 ((nextT ts).1.2 : Int)]) ∧ ∃ a2 c2, w'.heap[T]? = some (.cells #[.slice a2 (nextT ts).2.length c2] 32 (0, 0)) ∧ (nextT ts).2.length ≤ c2 ∧ (∀ W, TRow P W a ts → TRow P W a2 (nextT ts).2) ∧ Only (· = T) w w' := by
  cases ts with
  | nil =>
    refine (next_none T a c w h).mono ?_
    rintro e w' ⟨rfl, hb⟩
    exact ⟨rfl, a, c, ex_below h hb, hc, fun _ h => h, Only.below hb⟩
  | cons t q =>
    refine (next_some P T a c t q w h hr hc).mono ?_
    rintro e w' ⟨rfl, a2, h1, h2, h3⟩
    exact ⟨rfl, a2, c - 1, h1, by simp at hc; show q.length ≤ _; omega, h2, h3⟩
end Go.Proofs.Ythkjjpkipeeimaa
