/- The walk of QuillNobody. -/
import Derived.Test.YtkeloeppploiaaaQuP
namespace Go.Proofs.Ytkeloeppploiaaa
open Go.RowKit

theorem nobody_big (kind int n : Int) (nm most : Nat) (fl : Bool) (s : ByteArray) (w : World) (hs : 1000 < s.size) (hm : s.size ≤ 9223372036854775807) :
    Calls Try.prog 7 #[.agg #[.int .i64 kind, .int .u64 (nm : Int), .int .i64 int, .bool fl, .string s], .int .u64 (most : Int), .int .i64 n] w fun e w' => e = .returned (.bool true) ∧ Below w.heap.size w w' := by
  have hb0 : Below w.heap.size w (w.alloc (.cells #[.int .i64 kind, .int .u64 (nm : Int), .int .i64 int, .bool fl, .string s] 32)) := (Below.refl _ _).alloc (Nat.le_refl _) _
  go_enter Try.func7, Try.ntmps7
  go_wp2_with (go_at_call 13; refine (lives1 _).mono ?_; rintro e w' ⟨rfl, hb⟩)
  go_ret
  exact ⟨rfl, hb0.trans (hb.mono hb0.size)⟩

set_option maxHeartbeats 2000000 in
theorem nobody_small (x : It) (n : Int) (most : Nat) (w : World) (hx : x.ok) (h0 : -9223372036854775808 ≤ n) (h1 : n ≤ 9223372036854775807) :
    Calls Try.prog 7 #[x.v, .int .u64 (most : Int), .int .i64 n] w fun e w' => e = .returned (.bool true) ∧ Below w.heap.size w w' := by
  have hW := fun W => write_nil x W hx
  have hs := hx.2.2.2
  unfold It.v at hW ⊢
  have HW := Lib.hid hW
  have HN := Lib.hid (And.intro h0 h1)
  clear hW hx h0 h1
  have hb0 : Below w.heap.size w (w.alloc (.cells #[.int .i64 x.kind, .int .u64 ((x.num : Nat) : Int), .int .i64 x.int, .bool x.flag, .string x.text] 32)) := (Below.refl _ _).alloc (Nat.le_refl _) _
  go_enter Try.func7, Try.ntmps7
  go_wp2_with (first
    | (go_at_call 14; refine (HW.out _).mono ?_; rintro e w1 ⟨r, rfl, hr1, hb1⟩)
    | (go_at_call 16; refine (len_nil _).mono ?_; rintro e w2 ⟨rfl, rfl⟩)
    | (go_at_call 15; refine (bytes_nil _).mono ?_; rintro e w2 ⟨rfl, rfl⟩)
    | (go_at_call 27; refine (rint_nil _).mono ?_; rintro e w2 ⟨rfl, rfl⟩)
    | (go_at_call 28; refine (rflag_nil _).mono ?_; rintro e w2 ⟨rfl, rfl⟩)
    | (go_at_call 29; refine (rtext_nil n _ HN.out.2 HN.out.1).mono ?_; rintro e w2 ⟨rfl, rfl⟩)
    | (go_at_call 30; refine (rraw_nil n _ HN.out.2 HN.out.1).mono ?_; rintro e w2 ⟨rfl, rfl⟩)
    | (go_at_call 31; ((with_reducible refine (rnum_nil _ _).mono ?_); rintro e w2 ⟨rfl, rfl⟩))
    | (go_at_call 24; ((with_reducible refine (bad_nil _).mono ?_); rintro e w2 ⟨rfl, rfl⟩))
    | (go_at_call 23; refine (left_nil _).mono ?_; rintro e w2 ⟨rfl, rfl⟩)
    | (go_at_call 25; ((with_reducible refine (end_nil _).mono ?_); rintro e w2 ⟨rfl, rfl⟩)))
  have hB1 := hb0.trans (hb1.mono hb0.size)
  clear HW HN hr1 hb0 hb1
  have hB2 : Below w.heap.size w (w1.alloc (.cells #[.slice none 0 0, .bool false] 60)) := hB1.alloc hB1.size _
  have hr : RR (w1.alloc (.cells #[.slice none 0 0, .bool false] 60)) w1.heap.size [] false := ⟨_, heap_alloc_new w1 _, RB.nil _, by simp [Value.ownBlock], by simp⟩
  have hb : w.heap.size ≤ w1.heap.size := hB1.size
  have he := end_rd _ _ _ _ hr
  rw [show endOf [] false = 0 from rfl] at he
  have HE := Lib.hid he
  clear hB1 he
  generalize w1.heap.size = b at hr hb HE ⊢
  generalize w1.alloc (.cells #[.slice none 0 0, .bool false] 60) = w2 at hr hB2 HE ⊢
  refine HE.out.mono ?_
  rintro e w3 ⟨rfl, rfl⟩
  have hn := num_rd b most [] false w2 hr
  rw [show (rNum most []).map u64v = none from rfl] at hn
  have HNU := Lib.hid hn
  clear hn hr HE
  go_wp2_with fail
  refine HNU.out.mono ?_
  rintro e w3 ⟨hno, _⟩
  obtain ⟨rfl, hr3, ht3⟩ := hno rfl
  clear hno HNU
  have hB3 := ht3.outside hB2 hB2.size hb
  have HBA := Lib.hid (bad_rd b [] true w3 hr3)
  have HOP := Lib.hid (open_any _ [] w3 (RB.nil w3) (by simp))
  clear hB2 ht3 hr3
  go_wp2_with fail
  refine HBA.out.mono ?_
  rintro e w4 ⟨rfl, rfl⟩
  go_wp2_with fail
  refine HOP.out.mono ?_
  rintro e w4 ⟨b2, rfl, hb2, hr4, hB4⟩
  have he := end_rd _ _ _ _ hr4
  rw [show endOf [] false = 0 from rfl] at he
  have HE := Lib.hid he
  have hB5 := hB3.trans (hB4.mono hB3.size)
  clear HBA HOP he hB3 hB4 hr4
  go_wp2_with fail
  refine HE.out.mono ?_
  rintro e w5 ⟨rfl, rfl⟩
  go_wp2_with (go_at_call 13; refine (lives1 _).mono ?_; rintro e w' ⟨rfl, hb⟩)
  go_ret
  exact ⟨rfl, hB5.trans (hb.mono hB5.size)⟩
end Go.Proofs.Ytkeloeppploiaaa
