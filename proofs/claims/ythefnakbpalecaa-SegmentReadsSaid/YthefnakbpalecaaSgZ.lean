/- Rows of frames: a whole frame first; none. -/
import Derived.Test.YthefnakbpalecaaMaJ
import Derived.Test.YthefnakbpalecaaMaF
import Derived.Test.YthefnakbpalecaaVyB
namespace Go.Proofs.Ythefnakbpalecaa
open Go.RowKit Go.Maps
theorem rows_frm (k : Nat) (body more : List Nat) (hk : k ≠ 0) (hn : body.length ≤ 65536) (hb : ∀ c ∈ body, c < 256) : rowsOf (frm k body ++ more) = (k, body) :: rowsOf more := by
  have ht := take_frm k body more hk hn hb
  rw [rows_yes (by rw [ht]), ht]
  dsimp only
  rw [List.drop_left' (by rw [frm_len])]
theorem rowsOf_nil : rowsOf [] = [] := rows_no (by rw [ftake_nil]; decide)
end Go.Proofs.Ythefnakbpalecaa
