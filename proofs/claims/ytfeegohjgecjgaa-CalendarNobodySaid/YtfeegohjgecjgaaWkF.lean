/- New, and the reference's Wrong. -/
import Derived.Test.YtfeegohjgecjgaaWkE
import Derived.Test.YtfeegohjgecjgaaSpC
namespace Go.Proofs.Ytfeegohjgecjgaa
open Go.RowKit

def weekB (T : Nat → Int) : Nat → Bool
  | 0 => true
  | k + 1 => weekB T k && decide (T k ≤ 604800)
theorem weekB_iff {T : Nat → Int} : ∀ n, weekB T n = true ↔ ∀ k, k < n → T k ≤ 604800 := by
  intro n
  induction n with
  | zero => simp [weekB]
  | succ n ih =>
    simp only [weekB, Bool.and_eq_true, ih, decide_eq_true_eq]
    constructor
    · rintro ⟨h1, h2⟩ k hk
      by_cases e : k = n
      · subst e; exact h2
      · exact h1 k (by omega)
    · intro h
      exact ⟨fun k hk => h k (by omega), h n (by omega)⟩
/-- New's number. -/
def wrongE (F T : Nat → Int) (n : Nat) : Int := if rowE F T n = 0 then (if weekB T n = true then 0 else 2) else rowE F T n
theorem Sps.congr {w : World} {a : Option Addr} {n : Nat} {F T F' T' : Nat → Int} (h : Sps w a n F T) (he : ∀ k, k < n → F k = F' k ∧ T k = T' k) : Sps w a n F' T' := by
  refine ⟨h.1, fun hp => ?_⟩
  obtain ⟨ab, ao, e, hl, hc⟩ := h.2 hp
  exact ⟨ab, ao, e, hl, fun k hk => by rw [← (he k hk).1, ← (he k hk).2]; exact hc k hk⟩

/-- A plan made. -/
def Planned (n : Nat) (F T : Nat → Int) (w : World) (e : Ending) (w' : World) : Prop :=
  ∃ P C a c, e = .returned (.tuple #[.pointer (some ⟨P, 0, none⟩), .int .i64 0]) ∧ Pl w.heap.size P C a n c F T w' ∧ Below w.heap.size w w'
set_option maxRecDepth 100000 in
set_option maxHeartbeats 4000000 in
theorem new_ok (a : Option Addr) (n cap : Nat) (F T : Nat → Int) (w : World) (hS : Sps w a n F T) (hw : Wk F T n) :
    Calls Try.prog 56 #[.slice a n cap] w (Planned n F T w) := by
  have hr := row_any a n cap F T w hS
  rw [rowE_ok hw.len hw.good] at hr
  have HC := Lib.hid hS
  have HW := Lib.hid hw
  have hm := hw.len
  -- the clone, the plan's block, the cell
  have key : ∀ (w2 : World) (va : Option Addr) (vc : Nat) (w1 : World), OS w2 w1.heap.size (.slice va n vc) (pairs F T n) → Below w.heap.size w w1 → Below w1.heap.size w1 w2 →
      Pl w.heap.size w2.heap.size (w2.heap.size + 1) va n vc F T ((w2.alloc (.cells #[.slice va n vc, .pointer (some ⟨w2.heap.size + 1, 0, none⟩)] 102)).alloc (.cells #[.func (.func 79) #[.pointer (some ⟨w2.heap.size, 0, none⟩)] #[], .int .u32 0, .int .i32 0, .int .u32 0, .slice none 0 0, .int .u32 0, .int .i64 0] 131)) ∧ Below w.heap.size w ((w2.alloc (.cells #[.slice va n vc, .pointer (some ⟨w2.heap.size + 1, 0, none⟩)] 102)).alloc (.cells #[.func (.func 79) #[.pointer (some ⟨w2.heap.size, 0, none⟩)] #[], .int .u32 0, .int .i32 0, .int .u32 0, .slice none 0 0, .int .u32 0, .int .i64 0] 131)) := by
    intro w2 va vc w1 hO hb1 hb2
    have hsz : w.heap.size ≤ w2.heap.size := Nat.le_trans hb1.size hb2.size
    have hS2 : Sps w2 va n F T := by
      have h := (hO.sps (by
        intro s hs
        obtain ⟨k, hk, rfl⟩ := pairs_mem.1 hs
        obtain ⟨_, _, _, _, _, _, b⟩ := HC.out.at (Below.refl _ _) k hk
        exact b)).2
      exact h.congr fun k hk => pairs_at F T n k hk
    have hva : ∀ x, 0 < n → va = some x → x.block < w2.heap.size := by
      intro x hp e
      obtain ⟨ab, ao, e2, hl, _⟩ := hS2.2 hp
      rw [e] at e2
      injection e2 with e2
      subst e2
      exact hl
    generalize hW : ((w2.alloc (.cells #[.slice va n vc, .pointer (some ⟨w2.heap.size + 1, 0, none⟩)] 102)).alloc (.cells #[.func (.func 79) #[.pointer (some ⟨w2.heap.size, 0, none⟩)] #[], .int .u32 0, .int .i32 0, .int .u32 0, .slice none 0 0, .int .u32 0, .int .i64 0] 131)) = W
    have B2 : Below w2.heap.size w2 W := by
      rw [← hW]
      exact ((Below.refl _ _).alloc (Nat.le_refl _) _).alloc (by simp) _
    have p0 : W.cell? ⟨w2.heap.size, 0, none⟩ = some (.slice va n vc) := by rw [← hW, World.cell?_alloc_past _ _ _ (by simp)]; simp
    have p1 : W.cell? ⟨w2.heap.size, 1, none⟩ = some (.pointer (some ⟨w2.heap.size + 1, 0, none⟩)) := by rw [← hW, World.cell?_alloc_past _ _ _ (by simp)]; simp
    have cl : ∀ j, W.cell? ⟨w2.heap.size + 1, j, none⟩ = (#[.func (.func 79) #[.pointer (some ⟨w2.heap.size, 0, none⟩)] #[], .int .u32 0, .int .i32 0, .int .u32 0, .slice none 0 0, .int .u32 0, .int .i64 0] : Array Value)[j]? := fun j => by
      rw [← hW, World.cell?_alloc_at _ _ _ _ (by simp)]
    have fz : ∀ j, W.frozen? ⟨w2.heap.size + 1, j, none⟩ = false := fun j => by
      rw [← hW, frozen?_alloc_cells, frozen?_alloc_cells]
      simp [World.frozen?]
    have hWs : W.heap.size = w2.heap.size + 2 := by rw [← hW]; simp
    refine ⟨⟨hsz, by omega, by omega, by omega, p0, p1, hS2.kept B2, fun x hp e => by have := hva x hp e; omega, .inl ⟨0, ?_⟩⟩, (hb1.trans (hb2.mono hb1.size)).trans (B2.mono hsz)⟩
    exact ⟨(cl 0).trans rfl, (cl 1).trans rfl, (cl 2).trans rfl, (cl 4).trans rfl, (cl 5).trans rfl, (cl 6).trans rfl, fz⟩
  have KEY := Lib.hid key
  have hclone : ∀ w1, Below w.heap.size w w1 → Calls Try.prog 48 #[.slice a n cap] w1 (Copied (pairs F T n) w1) := fun w1 hb => clone_any a n cap F T w1 (HC.out.kept hb) (by omega)
  have HCL := Lib.hid hclone
  have HLN := Lib.hid (pairs_len F T n)
  clear hS hw key hclone
  cases n with
  | zero =>
    go_enter Try.func56, Try.ntmps56
    go_wp2_with fail
    refine hr.mono ?_
    rintro e w1 ⟨rfl, hb1⟩
    have hcl := HCL.out w1 hb1
    go_wp2_with fail
    refine hcl.mono ?_
    rintro e w2 ⟨v, rfl, hO, hb2⟩
    obtain ⟨va, vc, rfl, _, _⟩ := hO.shape
    rw [HLN.out] at hO ⊢
    have HK := Lib.hid (KEY.out w2 va vc w1 hO hb1 hb2)
    clear hcl hO hb1 hb2
    go_wp2_with (first | (go_at_call 78; refine (new_fn _ _ _ _).mono ?_; rintro e w' ⟨rfl, rfl⟩))
    go_ret2
    exact ⟨_, _, _, _, rfl, HK.out.1, HK.out.2⟩
  | succ p =>
    have hlast := HW.out.week p (by omega)
    obtain ⟨u, hu⟩ : ∃ u, T p = u := ⟨_, rfl⟩
    rw [hu] at hlast
    have d1 : decide (604800 < u) = false := decide_eq_false (by omega)
    have HU := Lib.hid hu
    clear hu
    go_enter Try.func56, Try.ntmps56
    go_wp2_with fail
    refine hr.mono ?_
    rintro e w1 ⟨rfl, hb1⟩
    have hcl := HCL.out w1 hb1
    obtain ⟨ab, ao, rfl, hab, _, c1, _⟩ := HC.out.at hb1 p (by omega)
    rw [HU.out] at c1
    have p0 : (0 : Int) ≤ (p : Int) := by omega
    have p1 : (p : Int) < (p : Int) + 1 := by omega
    have p2 : (p : Int) ≤ 32 := by omega
    go_wp2_with fail
    refine hcl.mono ?_
    rintro e w2 ⟨v, rfl, hO, hb2⟩
    obtain ⟨va, vc, rfl, _, _⟩ := hO.shape
    rw [HLN.out] at hO ⊢
    have HK := Lib.hid (KEY.out w2 va vc w1 hO hb1 hb2)
    clear hcl hO hb1 hb2
    go_wp2_with (first | (go_at_call 78; refine (new_fn _ _ _ _).mono ?_; rintro e w' ⟨rfl, rfl⟩))
    go_ret2
    exact ⟨_, _, _, _, rfl, HK.out.1, HK.out.2⟩
set_option maxRecDepth 100000 in
set_option maxHeartbeats 4000000 in
/-- New, where the row is no plan's. -/
theorem new_bad (a : Option Addr) (n cap : Nat) (F T : Nat → Int) (w : World) (hS : Sps w a n F T) (hw : (rowE F T n != 0) = true) :
    Calls Try.prog 56 #[.slice a n cap] w fun e w' => e = .returned (.tuple #[.pointer none, .int .i64 (rowE F T n)]) ∧ Below w.heap.size w w' := by
  have hr := row_any a n cap F T w hS
  clear hS
  generalize rowE F T n = z at hr hw ⊢
  go_enter Try.func56, Try.ntmps56
  go_wp2_with fail
  refine hr.mono ?_
  rintro e w1 ⟨rfl, hb1⟩
  clear hr
  go_wp2_with fail
  go_ret2
  exact ⟨rfl, hb1⟩
set_option maxRecDepth 100000 in
set_option maxHeartbeats 4000000 in
/-- New, where a span extends beyond a week. -/
theorem new_long (a : Option Addr) (p cap : Nat) (F T : Nat → Int) (w : World) (hS : Sps w a (p + 1) F T) (hn : p + 1 ≤ 32) (hg : good F T (p + 1) = true) (hw : 604800 < T p) :
    Calls Try.prog 56 #[.slice a (p + 1) cap] w fun e w' => e = .returned (.tuple #[.pointer none, .int .i64 2]) ∧ Below w.heap.size w w' := by
  have hr := row_any a (p + 1) cap F T w hS
  rw [rowE_ok hn hg] at hr
  have HC := Lib.hid hS
  obtain ⟨u, hu⟩ : ∃ u, T p = u := ⟨_, rfl⟩
  rw [hu] at hw
  have d1 : decide (604800 < u) = true := decide_eq_true (by omega)
  have HU := Lib.hid hu
  clear hu hS hg
  go_enter Try.func56, Try.ntmps56
  go_wp2_with fail
  refine hr.mono ?_
  rintro e w1 ⟨rfl, hb1⟩
  clear hr
  obtain ⟨ab, ao, rfl, hab, _, c1, _⟩ := HC.out.at hb1 p (by omega)
  rw [HU.out] at c1
  have p0 : (0 : Int) ≤ (p : Int) := by omega
  have p1 : (p : Int) < (p : Int) + 1 := by omega
  have p2 : (p : Int) ≤ 32 := by omega
  go_wp2_with fail
  go_ret2
  exact ⟨rfl, hb1⟩

set_option maxRecDepth 100000 in
set_option maxHeartbeats 4000000 in
/-- The reference's number of a row. -/
theorem wrong_any (a : Option Addr) (n cap : Nat) (F T : Nat → Int) (w : World) (hS : Sps w a n F T) :
    Calls Try.prog 57 #[.slice a n cap] w fun e w' => e = .returned (.int .i64 (wrongE F T n)) ∧ Below w.heap.size w w' := by
  have hm := hS.1
  unfold maxLen at hm
  have hr := rrow_any a n cap F T w hS
  have HC := Lib.hid hS
  clear hS
  by_cases hz : rowE F T n = 0
  · have HV := Lib.hid (show wrongE F T n = if weekB T n = true then 0 else 2 by unfold wrongE; rw [if_pos hz])
    rw [hz] at hr
    clear hz
    go_enter Try.func57, Try.ntmps57
    go_wp2_with fail
    refine hr.mono ?_
    rintro e w1 ⟨rfl, hb1⟩
    clear hr
    have HB1 := Lib.hid hb1
    clear hb1
    go_wp2_with fail
    go_loopw [4] (fun i wr => ∃ k : Nat, k ≤ n ∧ i = .int .i64 k ∧ weekB T k = true ∧ wr = w1) (fun i _ => n - (intOf i).toNat)
    case atStart => exact ⟨0, Nat.zero_le _, rfl, rfl, rfl⟩
    case round =>
      obtain ⟨k, hk, rfl, hwk, rfl⟩ := hrel
      by_cases hlt : k < n
      · obtain ⟨ab, ao, rfl, hab, _, c1, _⟩ := HC.out.at HB1.out k hlt
        have HK : Hid (weekB T (k + 1) = decide (T k ≤ 604800)) := Lib.hid (by simp [weekB, hwk])
        have HX := Lib.hid (fun h => (weekB_iff (T := T) n).1 h k hlt)
        obtain ⟨u, hu⟩ : ∃ u, T k = u := ⟨_, rfl⟩
        rw [hu] at c1 HK HX
        clear hu hwk
        have k0 : (0 : Int) ≤ (k : Int) := by omega
        have kl : (k : Int) < (n : Int) := by omega
        have d4 : decide ((k : Int) < (n : Int)) = true := by simp [hlt]
        by_cases hlw : u ≤ 604800
        · have d5 : decide (604800 < u) = false := decide_eq_false (by omega)
          go_wp2_with fail
          go_roundw
          case rel => exact ⟨k + 1, hlt, by go_num, by rw [HK.out]; exact decide_eq_true hlw, trivial⟩
          case measure => simp [intOf]; omega
        · have d5 : decide (604800 < u) = true := decide_eq_true (by omega)
          go_wp2_with fail
          go_ret
          exact ⟨ret_int (by rw [HV.out, if_neg (fun h => by have := HX.out h; omega)]), HB1.out⟩
      · obtain rfl : k = n := by omega
        have HWK := Lib.hid hwk
        clear hwk
        go_wp2_with fail
        go_ret
        exact ⟨ret_int (by rw [HV.out, if_pos HWK.out]), HB1.out⟩
  · have HV := Lib.hid (show wrongE F T n = rowE F T n by unfold wrongE; rw [if_neg hz])
    have hz' : (rowE F T n != 0) = true := by simpa using hz
    generalize rowE F T n = z at hr hz' HV
    clear hz
    go_enter Try.func57, Try.ntmps57
    go_wp2_with fail
    refine hr.mono ?_
    rintro e w1 ⟨rfl, hb1⟩
    clear hr
    go_wp2_with fail
    go_ret
    exact ⟨ret_int HV.out.symm, hb1⟩
end Go.Proofs.Ytfeegohjgecjgaa
