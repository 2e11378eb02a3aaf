/- What the laws of layer 15 use: First and Next of any contract; what is looked at; two steps compared; how a contract and a step read. -/
import Derived.Test.YthnnbmofpmedhaaGreatChI
import Derived.Laws.StructEq
namespace Go.Proofs.YthnnbmofpmedhaaGreat
open Go.RowKit
def Fst (D : Cal) (g : Bool) (b0 now : Int) (l f c d e : Int) : Prop := (g = false ∧ l = 0 ∧ f = 0 ∧ c = 0 ∧ d = 0 ∧ e = 2) ∨ (g = true ∧ Ran D 0 b0 now l f c d e)
theorem Fst.same {D : Cal} {g : Bool} {b now l f c d e l' f' c' d' e' : Int} (h : Fst D g b now l f c d e) (h' : Fst D g b now l' f' c' d' e') : l = l' ∧ f = f' ∧ c = c' ∧ d = d' ∧ e = e' := by
  rcases h with ⟨h0, rfl, rfl, rfl, rfl, rfl⟩ | ⟨h0, h1⟩ <;> rcases h' with ⟨k0, rfl, rfl, rfl, rfl, rfl⟩ | ⟨k0, k1⟩
  · exact ⟨rfl, rfl, rfl, rfl, rfl⟩
  · rw [h0] at k0; cases k0
  · rw [h0] at k0; cases k0
  · exact h1.same k1
theorem first_all {L : Loc} {D : Cal} {w : World} (h : Ck L D w) (hd : D.ok) (c : Int) (a : Option Addr) (n ca : Nat) (r b : Int) (B P : Nat → Int) (now : Int) (hS : Sps w a n B P) :
    Calls Tryz.prog 72 #[.pointer (some ⟨L.K, 0, none⟩), conV c a n ca r b, .int .i64 now] w (Gave L D w (Fst D (goodC c n r b B P) (B 0) now)) := by
  cases hg : goodC c n r b B P
  · refine (first_bad (some ⟨L.K, 0, none⟩) c a n ca r b B P now w hS hg).mono ?_
    rintro e w' ⟨rfl, hb⟩
    exact ⟨0, 0, 0, 0, 2, rfl, .inl ⟨rfl, rfl, rfl, rfl, rfl, rfl⟩, h.kept hb, Only.below hb⟩
  · refine (first_any h hd c a n ca r b B P now hS hg).mono ?_
    rintro e w' ⟨l, f, c, d, er, rfl, hR, hC, ho⟩
    exact ⟨l, f, c, d, er, rfl, .inr ⟨rfl, hR⟩, hC, ho⟩
def Nx (D : Cal) (g : Bool) (n : Nat) (B : Nat → Int) (lv now : Int) (l f c d : Int) (ok : Bool) (e : Int) : Prop := (g = false ∧ l = 0 ∧ f = 0 ∧ c = 0 ∧ d = 0 ∧ ok = false ∧ e = 2) ∨ (g = true ∧ Nxtd D n B lv now l f c d ok e)
theorem Nx.same {D : Cal} {g : Bool} {n : Nat} {B : Nat → Int} {lv now l f c d e l' f' c' d' e' : Int} {ok ok' : Bool} (h : Nx D g n B lv now l f c d ok e) (h' : Nx D g n B lv now l' f' c' d' ok' e') : l = l' ∧ f = f' ∧ c = c' ∧ d = d' ∧ ok = ok' ∧ e = e' := by
  rcases h with ⟨h0, rfl, rfl, rfl, rfl, rfl, rfl⟩ | ⟨h0, h1⟩ <;> rcases h' with ⟨k0, rfl, rfl, rfl, rfl, rfl, rfl⟩ | ⟨k0, k1⟩
  · exact ⟨rfl, rfl, rfl, rfl, rfl, rfl⟩
  · rw [h0] at k0; cases k0
  · rw [h0] at k0; cases k0
  · exact h1.same k1
theorem next_all {L : Loc} {D : Cal} {w : World} (h : Ck L D w) (hd : D.ok) (c : Int) (a : Option Addr) (n ca : Nat) (r b : Int) (B P : Nat → Int) (lv x1 x2 x3 now : Int) (hS : Sps w a n B P) :
    Calls Tryz.prog 76 #[.pointer (some ⟨L.K, 0, none⟩), conV c a n ca r b, stepV lv x1 x2 x3, .int .i64 now] w (Gave3 L D w (Nx D (goodC c n r b B P) n B lv now)) := by
  cases hg : goodC c n r b B P
  · refine (next_bad (some ⟨L.K, 0, none⟩) c a n ca r b B P lv x1 x2 x3 now w hS hg).mono ?_
    rintro e w' ⟨rfl, hb⟩
    exact ⟨0, 0, 0, 0, false, 2, rfl, .inl ⟨rfl, rfl, rfl, rfl, rfl, rfl, rfl⟩, h.kept hb, Only.below hb⟩
  · refine (next_any h hd c a n ca r b B P lv x1 x2 x3 now hS hg).mono ?_
    rintro e w' ⟨l, f, c, d, ok, er, rfl, hR, hC, ho⟩
    exact ⟨l, f, c, d, ok, er, rfl, .inr ⟨rfl, hR⟩, hC, ho⟩
end Go.Proofs.YthnnbmofpmedhaaGreat
