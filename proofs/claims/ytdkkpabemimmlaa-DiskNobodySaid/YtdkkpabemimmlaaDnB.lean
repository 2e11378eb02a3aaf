/- The disk that no call made: the law's walk. -/
import Derived.Test.YtdkkpabemimmlaaDnA
import Derived.Laws.IdiomStrings
namespace Go.Proofs.Ytdkkpabemimmlaa
open Go.RowKit Go.Maps
theorem str_any (w : World) (s : List UInt8) : ∃ v' w', (convert 9 51 (encStr s)).run Try.prog w = .ok v' w' ∧ Below w.heap.size w w' := by
  have hr := run_bytes_of_string (P := Try.prog) w 9 51 5 ⟨s.toArray⟩ Try.underlying9 Try.underlying51 Try.underlying5
  exact ⟨_, _, hr, ((Below.refl _ _).drew).alloc (by simp) _⟩
structure OpAt (w : World) (N : Nat) (kd n : Int) (nm tt tx : List UInt8) (a : Option Addr) (l c : Nat) : Prop where
  c0 : w.cell? ⟨N, 0, none⟩ = some (.int .i64 kd)
  c1 : w.cell? ⟨N, 1, none⟩ = some (.int .i64 n)
  c2 : w.cell? ⟨N, 2, none⟩ = some (encStr nm)
  c3 : w.cell? ⟨N, 3, none⟩ = some (encStr tt)
  c4 : w.cell? ⟨N, 4, none⟩ = some (encStr tx)
  c5 : w.cell? ⟨N, 5, none⟩ = some (.slice a l c)
theorem OpAt.below {w w' : World} {N : Nat} {kd n : Int} {nm tt tx : List UInt8} {a : Option Addr} {l c : Nat} (h : OpAt w N kd n nm tt tx a l c) (hb : Below w.heap.size w w') : OpAt w' N kd n nm tt tx a l c := by
  have k : ∀ i v, w.cell? ⟨N, i, none⟩ = some v → w'.cell? ⟨N, i, none⟩ = some v := fun i v hv => (hb.cell (p := ⟨N, i, none⟩) (cell_spot hv).2).trans hv
  exact ⟨k _ _ h.c0, k _ _ h.c1, k _ _ h.c2, k _ _ h.c3, k _ _ h.c4, k _ _ h.c5⟩
theorem opat_new {w : World} {N : Nat} {kd n : Int} {nm tt tx : List UInt8} {a : Option Addr} {l c : Nat} {t : TypeId} (h : w.heap[N]? = some (.cells #[.int .i64 kd, .int .i64 n, encStr nm, encStr tt, encStr tx, .slice a l c] t (0, 0))) : OpAt w N kd n nm tt tx a l c := by
  constructor <;> simp [World.cell?, h]
set_option maxRecDepth 100000 in
theorem light_one (kd n : Int) (nm tt tx : List UInt8) (a : Option Addr) (l c : Nat) (N : Nat) (w : World) (h : OpAt w N kd n nm tt tx a l c) : Calls Try.prog 11 #[.slice (some ⟨N, 0, none⟩) 1 1] w fun e w' => ∃ b, e = .returned (.bool b) ∧ Below w.heap.size w w' := by
  obtain ⟨s2, h2⟩ : ∃ s, encStr nm = .string s := ⟨_, rfl⟩
  obtain ⟨s3, h3⟩ : ∃ s, encStr tt = .string s := ⟨_, rfl⟩
  obtain ⟨s4, h4⟩ : ∃ s, encStr tx = .string s := ⟨_, rfl⟩
  obtain ⟨c0, c1, c2, c3, c4, c5⟩ := h
  rw [h2] at c2
  rw [h3] at c3
  rw [h4] at c4
  have H := Lib.hid c0
  go_enter Try.func11, Try.ntmps11
  go_wp2_with fail
  go_loopg [7] 1 (fun kx s7 wr => ∃ i : Nat, s7 = .int .i64 i ∧ i ≤ 1 ∧ 1 - i ≤ kx ∧ (i = 0 → w = wr) ∧ Hid (Below w.heap.size w wr))
  case atStart => exact ⟨0, rfl, by omega, by omega, fun _ => rfl, Below.refl _ _⟩
  case round =>
    obtain ⟨i, rfl, hi, hk, hw, HB⟩ := hrel
    by_cases hi0 : i = 0
    · subst hi0
      obtain rfl := hw rfl
      have HA := Lib.hid ((Below.refl w.heap.size w).alloc (Nat.le_refl _) (.cells #[.int .i64 kd, .int .i64 n, .string s2, .string s3, .string s4, .slice a l c] 34))
      clear hi hw
      by_cases d4 : (s4.size : Int) > 2000
      · have e4 : decide ((s4.size : Int) > 2000) = true := decide_eq_true d4
        clear d4 hk
        go_wp2_with fail
        go_ret
        exact ⟨_, rfl, HA.out⟩
      · have e4 : decide ((s4.size : Int) > 2000) = false := decide_eq_false d4
        clear d4
        by_cases d2 : (s2.size : Int) > 100
        · have e2 : decide ((s2.size : Int) > 100) = true := decide_eq_true d2
          clear d2 hk
          go_wp2_with fail
          go_ret
          exact ⟨_, rfl, HA.out⟩
        · have e2 : decide ((s2.size : Int) > 100) = false := decide_eq_false d2
          clear d2
          by_cases d3 : (s3.size : Int) > 100
          · have e3 : decide ((s3.size : Int) > 100) = true := decide_eq_true d3
            clear d3 hk
            go_wp2_with fail
            go_ret
            exact ⟨_, rfl, HA.out⟩
          · have e3 : decide ((s3.size : Int) > 100) = false := decide_eq_false d3
            clear d3
            by_cases d5 : (l : Int) > 40
            · have e5 : decide ((l : Int) > 40) = true := decide_eq_true d5
              clear d5 hk
              go_wp2_with fail
              go_ret
              exact ⟨_, rfl, HA.out⟩
            · have e5 : decide ((l : Int) > 40) = false := decide_eq_false d5
              clear d5
              go_wp2_with fail
              go_roundg (1 - (0 + 1))
              case measure => omega
              case rel => exact ⟨1, by go_num, by omega, by omega, by omega, HA⟩
    · obtain rfl : i = 1 := by omega
      clear hi hw hi0 hk
      go_wp2_with fail
      go_ret
      exact ⟨_, rfl, HB.out⟩
end Go.Proofs.Ytdkkpabemimmlaa
