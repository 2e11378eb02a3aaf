/- Whether there may be a command, for every command. -/
import Derived.Test.YtibjboacjobaoaaNkG
import Derived.Test.YtibjboacjobaoaaNkD
namespace Go.Proofs.Ytibjboacjobaoaa
open Go.RowKit
def leftB (i c t y s : Bool) (kd cl rq id cn tm off : Int) (n m : Nat) (tc : Int) (l : Nat) (tr tb : Int) (F T G U B P : Nat → Int) : Bool := cmdEq kd kd cl cl rq rq id (if i = true then id else 0) cn (if c = true then cn else 0) tm (if t = true then tm else 0) off (if y = true then off else 0) F T F T n (if y = true then n else 0) G U G U m (if y = true then m else 0) tc (if s = true then tc else 0) B P B P l (if s = true then l else 0) tr (if s = true then tr else 0) tb (if s = true then tb else 0)
def soundB (kd cl rq id cn tm off : Int) (n m : Nat) (tc : Int) (l : Nat) (tr tb : Int) (F T G U B P : Nat → Int) : Bool := (decide (1 ≤ kd) && decide (kd ≤ 12)) && (!decide (8 < cl) && (!decide (cn < 0) && (!decide (16 ≤ cn) && (if kd = 2 then decide (checkE off F T n G U m = 0) else true) && ((if kd = 3 then goodC tc l tr tb B P else true) && leftB (idB kd) (decide (kd = 4)) (decide (kd = 9)) (decide (kd = 2)) (decide (kd = 3)) kd cl rq id cn tm off n m tc l tr tb F T G U B P))))
set_option maxRecDepth 100000 in
set_option maxHeartbeats 8000000 in
theorem sound_any (kd cl rq id cn tm off : Int) (a : Option Addr) (n ca : Nat) (b : Option Addr) (m cb : Nat) (tc : Int) (d : Option Addr) (l cd : Nat) (tr tb : Int) (F T G U B P : Nat → Int) (w : World) (hS : Sps w a n F T) (hR : Sps w b m G U) (hD : Sps w d l B P) :
    Calls Try.prog 14 #[cmdV kd cl rq id cn tm off a n ca b m cb tc d l cd tr tb] w fun e w' => e = .returned (.bool (soundB kd cl rq id cn tm off n m tc l tr tb F T G U B P)) ∧ Below w.heap.size w w' := by
  by_cases h2 : kd = 2
  · subst h2
    have h := sound_10 2 cl rq id cn tm off a n ca b m cb tc d l cd tr tb F T G U B P true false false w hS hR hD _ rfl (fun W => of_any 2 W) (fun W => only_4 2 cl rq id cn tm off a n ca b m cb tc d l cd tr tb W)
    simpa [soundB, leftB, idB, Bool.and_assoc] using h
  by_cases h3 : kd = 3
  · subst h3
    have h := sound_01 3 cl rq id cn tm off a n ca b m cb tc d l cd tr tb F T G U B P true false false w hS hR hD _ rfl (fun W => of_any 3 W) (fun W => only_5 3 cl rq id cn tm off a n ca b m cb tc d l cd tr tb W)
    simpa [soundB, leftB, idB, Bool.and_assoc] using h
  by_cases h4 : kd = 4
  · subst h4
    have h := sound_00 4 cl rq id cn tm off a n ca b m cb tc d l cd tr tb F T G U B P true true false w hS hR hD _ rfl (fun W => of_any 4 W) (fun W => only_3 4 cl rq id cn tm off a n ca b m cb tc d l cd tr tb W)
    simpa [soundB, leftB, idB, Bool.and_assoc] using h
  by_cases h9 : kd = 9
  · subst h9
    have h := sound_00 9 cl rq id cn tm off a n ca b m cb tc d l cd tr tb F T G U B P false false true w hS hR hD _ rfl (fun W => of_any 9 W) (fun W => only_1 9 cl rq id cn tm off a n ca b m cb tc d l cd tr tb W)
    simpa [soundB, leftB, idB, Bool.and_assoc] using h
  have o := fun W => of_any kd W
  have e2 : decide (kd = 2) = false := decide_eq_false h2
  have e3 : decide (kd = 3) = false := decide_eq_false h3
  have e4 : decide (kd = 4) = false := decide_eq_false h4
  have e9 : decide (kd = 9) = false := decide_eq_false h9
  rw [e2, e3, e4, e9] at o
  cases hi : idB kd
  · rw [hi] at o
    have h := sound_00 kd cl rq id cn tm off a n ca b m cb tc d l cd tr tb F T G U B P false false false w hS hR hD _ rfl o (fun W => only_0 kd cl rq id cn tm off a n ca b m cb tc d l cd tr tb W)
    simpa [soundB, leftB, hi, h2, h3, h4, h9, Bool.and_assoc] using h
  · rw [hi] at o
    have h := sound_00 kd cl rq id cn tm off a n ca b m cb tc d l cd tr tb F T G U B P true false false w hS hR hD _ rfl o (fun W => only_2 kd cl rq id cn tm off a n ca b m cb tc d l cd tr tb W)
    simpa [soundB, leftB, hi, h2, h3, h4, h9, Bool.and_assoc] using h
end Go.Proofs.Ytibjboacjobaoaa
