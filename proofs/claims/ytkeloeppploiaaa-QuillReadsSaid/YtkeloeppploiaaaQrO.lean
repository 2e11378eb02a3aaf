/- Both readers, one thing read, whatever it is. -/
import Derived.Test.YtkeloeppploiaaaQrN
namespace Go.Proofs.Ytkeloeppploiaaa
open Go.RowKit

theorem read_any (b c most : Nat) (kd nn : Int) (ds : List Nat) (bad : Bool) (w : World) (h : Two w b c ds bad) (hn : nn ≤ 9223372036854775807) (hds : ds.length ≤ 3000) :
    Calls Try.prog 22 #[.pointer (some ⟨b, 0, none⟩), .pointer (some ⟨c, 0, none⟩), .agg #[.int .i64 kd, .int .i64 nn, .int .u64 (most : Int)]] w (ReadTwo b c w ds) := by
  by_cases h1 : kd = 1
  · subst h1; exact read1 b c nn most ds bad w h
  by_cases h2 : kd = 2
  · subst h2; exact read2 b c nn most ds bad w h
  by_cases h3 : kd = 3
  · subst h3; exact read3 b c nn most ds bad w h hn hds
  by_cases h4 : kd = 4
  · subst h4; exact read4 b c nn most ds bad w h hn hds
  by_cases h5 : kd = 5
  · subst h5; exact read5 b c nn most ds bad w h
  exact read0 b c most kd nn ds bad w h h1 h2 h3 h4 h5
end Go.Proofs.Ytkeloeppploiaaa
