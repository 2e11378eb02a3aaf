/- Tickets: what Read gives. -/
import Derived.Test.YtnhaakdjijjinaaTbA
import Derived.Deep.Cut
import Derived.Deep.CutRange
namespace Go.Proofs.Ytnhaakdjijjinaa
open Go.RowKit
/-- The nine numbers. -/
structure Nine where
  n1 : Nat
  n2 : Nat
  n3 : Nat
  n4 : Nat
  n5 : Nat
  n6 : Nat
  n7 : Nat
  n8 : Nat
  n9 : Nat
def Nine.t (x : Nine) : Value := tkV x.n1 x.n2 x.n3 x.n4 x.n5 x.n6 x.n7 x.n8 x.n9
def Nine.ok (x : Nine) : Bool := soundB x.n2 x.n3 x.n4 x.n5 x.n6 x.n7 x.n8 x.n9
/-- What nine readings give, what is left, and whether that is bad. -/
def nine (ds : List Nat) : Nine := ⟨nN 18446744073709551615 ds, nN 15 (nR 18446744073709551615 ds), nN 4 (nR 15 (nR 18446744073709551615 ds)), nN 5 (nR 4 (nR 15 (nR 18446744073709551615 ds))), nN 1152921504606846976 (nR 5 (nR 4 (nR 15 (nR 18446744073709551615 ds)))), nN 1125899906842624 (nR 1152921504606846976 (nR 5 (nR 4 (nR 15 (nR 18446744073709551615 ds))))), nN 1125899906842624 (nR 1125899906842624 (nR 1152921504606846976 (nR 5 (nR 4 (nR 15 (nR 18446744073709551615 ds)))))), nN 1125899906842624 (nR 1125899906842624 (nR 1125899906842624 (nR 1152921504606846976 (nR 5 (nR 4 (nR 15 (nR 18446744073709551615 ds))))))), nN 2147483648 (nR 1125899906842624 (nR 1125899906842624 (nR 1125899906842624 (nR 1152921504606846976 (nR 5 (nR 4 (nR 15 (nR 18446744073709551615 ds))))))))⟩
def nineR (ds : List Nat) : List Nat := (nR 2147483648 (nR 1125899906842624 (nR 1125899906842624 (nR 1125899906842624 (nR 1152921504606846976 (nR 5 (nR 4 (nR 15 (nR 18446744073709551615 ds)))))))))
def nineB (ds : List Nat) : Bool := nB 2147483648 (nR 1125899906842624 (nR 1125899906842624 (nR 1125899906842624 (nR 1152921504606846976 (nR 5 (nR 4 (nR 15 (nR 18446744073709551615 ds))))))))
/-- What Read gives. -/
def tkOk (ds : List Nat) : Bool := !nineB ds && (nine ds).ok
def tkR (ds : List Nat) : List Nat := if tkOk ds = true then nineR ds else []
def tkT (ds : List Nat) : Value := if tkOk ds = true then (nine ds).t else tkV 0 0 0 0 0 0 0 0 0
end Go.Proofs.Ytnhaakdjijjinaa
