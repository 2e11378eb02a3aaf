/- The walk of QuillBack. -/
import Derived.Test.YtkeloeppploiaaaQuW
import Derived.Deep.RegionWith
import Derived.Deep.DeepCutAuto
namespace Go.Proofs.Ytkeloeppploiaaa
open Go.RowKit

/-- The bytes of items, one behind the other. -/
def allB (xs : List It) : List Nat := (xs.map It.bytes).flatten
theorem allB_len (xs : List It) (h : ∀ x ∈ xs, x.ok) : (allB xs).length ≤ 1009 * xs.length := flat_len It.bytes 1009 xs fun x hx => x.bytes_len (h x hx)
theorem allB_snoc (xs : List It) (k : Nat) (x : It) (h : xs[k]? = some x) : allB (xs.take (k + 1)) = allB (xs.take k) ++ x.bytes := by
  unfold allB
  rw [List.take_add_one, h]
  simp
theorem allB_cons (xs : List It) (k : Nat) (x : It) (h : xs[k]? = some x) : allB (xs.drop k) = x.bytes ++ allB (xs.drop (k + 1)) := by
  obtain ⟨hk, rfl⟩ := List.getElem?_eq_some_iff.1 h
  rw [List.drop_eq_getElem_cons hk]
  unfold allB
  rw [List.map_cons, List.flatten_cons]

set_option maxHeartbeats 10000000 in
theorem back_any (a : Option Addr) (n cap : Nat) (xs : List It) (w : World) (h : Items w a n cap xs) :
    Calls Try.prog 5 #[.slice a n cap] w fun e w' => e = .returned (.bool true) ∧ Below w.heap.size w w' := by
  have HI := Lib.hid h
  have hm := h.2.1
  unfold maxLen at hm
  have HL := Lib.hid (light_any a n cap xs w h)
  clear h
  go_enter Try.func5, Try.ntmps5
  go_wp2_with (first
    | (go_at_call 12; refine HL.out.mono ?_; rintro e w1 ⟨⟨b, rfl, hb⟩, hB⟩)
    | (go_at_call 13; refine (lives1 _).mono ?_; rintro e w' ⟨rfl, hb'⟩))
  · go_ret
    exact ⟨rfl, hB.trans (hb'.mono hB.size)⟩
  · have hbt : b = true := by cases b <;> simp_all
    subst hbt
    simp only [Bool.not_true]
    obtain ⟨h200, h1000⟩ := hb rfl
    clear HL hb
    have hok : ∀ x ∈ xs, x.ok := fun x hx => ⟨(HI.out.2.2.1 x hx).1, (HI.out.2.2.1 x hx).2.1, (HI.out.2.2.1 x hx).2.2.1, h1000 x hx⟩
    have HOK := Lib.hid hok
    have hn : n ≤ 200 := by rw [← HI.out.1]; exact h200
    have HW0 := Lib.hid (wr_new w1 _ rfl)
    have hB0 : Below w.heap.size w (w1.alloc (.cells #[.slice none 0 0] 29)) := hB.alloc hB.size _
    obtain ⟨g, hg⟩ : ∃ g, w1.heap.size = g := ⟨_, rfl⟩
    have hgB := hB.size
    rw [hg] at HW0 hgB
    clear h200 h1000 hok hm
    rw [hg]
    go_loopw [16] (fun i wr => ∃ k : Nat, k ≤ n ∧ i = .int .i64 k ∧ Below w.heap.size w wr ∧ ∃ v, WR wr g (g + 1) v (allB (xs.take k))) (fun i _ => n - (intOf i).toNat)
    case atStart => exact ⟨0, Nat.zero_le _, rfl, hB0, _, HW0.out⟩
    case round =>
      obtain ⟨k, hk, rfl, hW, v, hwr⟩ := hrel
      by_cases hlt : k < n
      · have hxk : xs[k]? = some (xs[k]'(by rw [HI.out.1]; exact hlt)) := List.getElem?_eq_getElem _
        obtain ⟨x, hx⟩ : ∃ x, xs[k]? = some x := ⟨_, hxk⟩
        obtain ⟨b, off, rfl, hc⟩ := (HI.out.kept hW).2.2.2 k x hx
        have c0 : wr.cell? ⟨b, off + k * 5, none⟩ = some (.int .i64 x.kind) := hc 0 _ rfl
        have c1 : wr.cell? ⟨b, off + k * 5 + 1, none⟩ = some (.int .u64 ((x.num : Nat) : Int)) := hc 1 _ rfl
        have c2 : wr.cell? ⟨b, off + k * 5 + 2, none⟩ = some (.int .i64 x.int) := hc 2 _ rfl
        have c3 : wr.cell? ⟨b, off + k * 5 + 3, none⟩ = some (.bool x.flag) := hc 3 _ rfl
        have c4 : wr.cell? ⟨b, off + k * 5 + 4, none⟩ = some (.string x.text) := hc 4 _ rfl
        have HX := Lib.hid hx
        have HWR := Lib.hid hwr
        clear hc hxk hx hwr
        have hwr2 := HWR.out.kept ((Below.refl _ _).alloc (Nat.le_refl _) (.cells #[.int .i64 x.kind, .int .u64 ((x.num : Nat) : Int), .int .i64 x.int, .bool x.flag, .string x.text] 32))
        have hl9 : (allB (xs.take k)).length ≤ 1009 * k := by
          have := allB_len (xs.take k) (fun y hy => HOK.out y (List.mem_of_mem_take hy))
          rw [List.length_take] at this
          omega
        have HP := Lib.hid (write_wr g (g + 1) v x _ _ hwr2 (by omega) (HOK.out x (List.mem_of_getElem? HX.out)))
        unfold It.v at HP
        clear hwr2
        go_wp2_with (go_at_call 14; refine HP.out.mono ?_; rintro e w2 ⟨r, rfl, hrb, v2, hwr2, ht2, hm2⟩)
        go_roundw
        case rel =>
          refine ⟨k + 1, by omega, by go_num, ?_, v2, ?_⟩
          · exact ht2.outside (hW.alloc hW.size _) (Nat.le_trans hW.size (World.size_alloc _ _ ▸ Nat.le_succ _)) (by omega) (fun j hj => by have := HWR.out.base_le j hj; omega)
          · rw [allB_snoc xs k x HX.out]; exact hwr2
        case measure => simp [intOf]; omega
      · obtain rfl : k = n := by omega
        rw [List.take_of_length_le (by rw [HI.out.1]; omega)] at hwr
        have hl9 : (allB xs).length ≤ 201800 := by
          have := allB_len xs (fun y hy => HOK.out y hy)
          rw [HI.out.1] at this
          omega
        have HWR := Lib.hid hwr
        have hlt : ∀ c ∈ allB xs, c < 256 := hwr.2.2.2.2
        clear hwr
        go_wp2_with (first
          | (go_at_call 15; refine (bytes_wr g (g + 1) v _ _ HWR.out (by omega)).mono ?_; rintro e w2 ⟨y, rfl, hy, hB2⟩)
          | (go_at_call 21; refine (open_any y (allB xs) w2 (hy.rb hlt (by omega)) (by omega)).mono ?_; rintro e w3 ⟨d, rfl, hd, hrd, hB3⟩))
        have hB3' : Below w.heap.size w w3 := (hW.trans (hB2.mono hW.size)).trans (hB3.mono (Nat.le_trans hW.size hB2.size))
        have hdB : w.heap.size ≤ d := Nat.le_trans (Nat.le_trans hW.size hB2.size) hd
        have HRD := Lib.hid hrd
        clear hrd hlt hl9 HWR hy hB2 hB3 hW hd
        go_loopw [27] (fun i wr => ∃ j : Nat, j ≤ k ∧ i = .int .i64 j ∧ Below w.heap.size w wr ∧ RR wr d (allB (xs.drop j)) false) (fun i _ => k - (intOf i).toNat)
        case atStart => exact ⟨0, Nat.zero_le _, rfl, hB3', HRD.out⟩
        case round =>
          clear HRD hB3'
          obtain ⟨j, hj, rfl, hW, hrr⟩ := hrel
          by_cases hlt : j < k
          · have hxk : xs[j]? = some (xs[j]'(by rw [HI.out.1]; exact hlt)) := List.getElem?_eq_getElem _
            obtain ⟨x, hx⟩ : ∃ x, xs[j]? = some x := ⟨_, hxk⟩
            obtain ⟨b, off, rfl, hc⟩ := (HI.out.kept hW).2.2.2 j x hx
            have c0 : wr.cell? ⟨b, off + j * 5, none⟩ = some (.int .i64 x.kind) := hc 0 _ rfl
            have c1 : wr.cell? ⟨b, off + j * 5 + 1, none⟩ = some (.int .u64 ((x.num : Nat) : Int)) := hc 1 _ rfl
            have c2 : wr.cell? ⟨b, off + j * 5 + 2, none⟩ = some (.int .i64 x.int) := hc 2 _ rfl
            have c3 : wr.cell? ⟨b, off + j * 5 + 3, none⟩ = some (.bool x.flag) := hc 3 _ rfl
            have c4 : wr.cell? ⟨b, off + j * 5 + 4, none⟩ = some (.string x.text) := hc 4 _ rfl
            have HX := Lib.hid hx
            have hxo := HOK.out x (List.mem_of_getElem? hx)
            have hdl : d < wr.heap.size := by
              obtain ⟨y, hy, _⟩ := hrr
              exact (Array.getElem?_eq_some_iff.1 hy).1
            rw [allB_cons xs j x hx] at hrr
            have HRR := Lib.hid hrr
            clear hc hxk hx hrr
            by_cases h1 : x.kind = 1
            · rw [h1] at c0
              have hB : x.bytes = intB x.int := by unfold It.bytes; rw [if_pos h1]
              have hr2 := (HRR.out.kept ((Below.refl _ _).alloc (Nat.le_refl _) (.cells #[.int .i64 1, .int .u64 ((x.num : Nat) : Int), .int .i64 x.int, .bool x.flag, .string x.text] 32)))
              rw [hB] at hr2
              have f : (wr.alloc (.cells #[.int .i64 1, .int .u64 ((x.num : Nat) : Int), .int .i64 x.int, .bool x.flag, .string x.text] 32)).cell? ⟨wr.heap.size, 2, none⟩ = some (.int .i64 x.int) := by simp
              have hBa : Below w.heap.size w (wr.alloc (.cells #[.int .i64 1, .int .u64 ((x.num : Nat) : Int), .int .i64 x.int, .bool x.flag, .string x.text] 32)) := hW.alloc hW.size _
              have hca : wr.heap.size < (wr.alloc (.cells #[.int .i64 1, .int .u64 ((x.num : Nat) : Int), .int .i64 x.int, .bool x.flag, .string x.text] 32)).heap.size := by simp
              go_wp2_with fail
              generalize wr.alloc (.cells #[.int .i64 1, .int .u64 ((x.num : Nat) : Int), .int .i64 x.int, .bool x.flag, .string x.text] 32) = wa at *
              obtain ⟨c, hc⟩ : ∃ c, wr.heap.size = c := ⟨_, rfl⟩
              rw [hc] at f hca hdl
              rw [hc]
              have HC := Lib.hid ((int_rd d _ false wa.drew (hr2.kept (Below.refl _ _).drew)).mono fun e w' h => h.2 _ _ (by rw [rInt_back _ _ hxo.2.1 hxo.2.2.1]; rfl))
              have FC : ∀ w', Rd d wa.drew w' → w'.cell? ⟨c, 2, none⟩ = some (.int .i64 x.int) := fun w' ht => (ht.cell (p := ⟨c, 2, none⟩) hca (by simp; omega) (by simp [Value.ownBlock])).trans f
              have FH := Lib.hid FC
              have BH : ∀ w', Rd d wa.drew w' → Below w.heap.size w w' := fun w' ht => ht.outside hBa.drew hBa.size hdB
              have HB := Lib.hid BH
              have fd : wa.drew.cell? ⟨c, 2, none⟩ = some (.int .i64 x.int) := f
              clear hr2 FC BH hBa hca hdB hc
              go_region_with (go_at_call 27; refine HC.out.mono ?_; rintro e w6 ⟨rfl, hr6, ht6⟩; have f6 := FH.out w6 ht6; have hb6 := HB.out w6 ht6)
              all_goals
                go_wp2_with (go_at_call 24; refine (bad_rd d _ false _ hr6).mono ?_; rintro e w7 ⟨rfl, rfl⟩)
                go_roundw
                case rel => exact ⟨j + 1, by omega, by go_num, hb6, hr6⟩
                case measure => simp [intOf]; omega
            by_cases h2 : x.kind = 2
            · rw [h2] at c0
              have hB : x.bytes = flagB x.flag := by unfold It.bytes; rw [if_neg h1, if_pos h2]
              have hr2 := (HRR.out.kept ((Below.refl _ _).alloc (Nat.le_refl _) (.cells #[.int .i64 2, .int .u64 ((x.num : Nat) : Int), .int .i64 x.int, .bool x.flag, .string x.text] 32)))
              rw [hB] at hr2
              have f : (wr.alloc (.cells #[.int .i64 2, .int .u64 ((x.num : Nat) : Int), .int .i64 x.int, .bool x.flag, .string x.text] 32)).cell? ⟨wr.heap.size, 3, none⟩ = some (.bool x.flag) := by simp
              have hBa : Below w.heap.size w (wr.alloc (.cells #[.int .i64 2, .int .u64 ((x.num : Nat) : Int), .int .i64 x.int, .bool x.flag, .string x.text] 32)) := hW.alloc hW.size _
              have hca : wr.heap.size < (wr.alloc (.cells #[.int .i64 2, .int .u64 ((x.num : Nat) : Int), .int .i64 x.int, .bool x.flag, .string x.text] 32)).heap.size := by simp
              go_wp2_with fail
              generalize wr.alloc (.cells #[.int .i64 2, .int .u64 ((x.num : Nat) : Int), .int .i64 x.int, .bool x.flag, .string x.text] 32) = wa at *
              obtain ⟨c, hc⟩ : ∃ c, wr.heap.size = c := ⟨_, rfl⟩
              rw [hc] at f hca hdl
              rw [hc]
              have HC := Lib.hid ((flag_rd d _ false wa.drew (hr2.kept (Below.refl _ _).drew)).mono fun e w' h => h.2 _ _ (by rw [rFlag_back]; rfl))
              have FC : ∀ w', Rd d wa.drew w' → w'.cell? ⟨c, 3, none⟩ = some (.bool x.flag) := fun w' ht => (ht.cell (p := ⟨c, 3, none⟩) hca (by simp; omega) (by simp [Value.ownBlock])).trans f
              have FH := Lib.hid FC
              have BH : ∀ w', Rd d wa.drew w' → Below w.heap.size w w' := fun w' ht => ht.outside hBa.drew hBa.size hdB
              have HB := Lib.hid BH
              have fd : wa.drew.cell? ⟨c, 3, none⟩ = some (.bool x.flag) := f
              clear hr2 FC BH hBa hca hdB hc
              go_region_with (go_at_call 28; refine HC.out.mono ?_; rintro e w6 ⟨rfl, hr6, ht6⟩; have f6 := FH.out w6 ht6; have hb6 := HB.out w6 ht6)
              all_goals
                go_wp2_with (go_at_call 24; refine (bad_rd d _ false _ hr6).mono ?_; rintro e w7 ⟨rfl, rfl⟩)
                go_roundw
                case rel => exact ⟨j + 1, by omega, by go_num, hb6, hr6⟩
                case measure => simp [intOf]; omega
            by_cases h3 : x.kind = 3
            · rw [h3] at c0
              have hB : x.bytes = num 0 x.text.size ++ sB x.text := by unfold It.bytes; rw [if_neg h1, if_neg h2, if_pos h3]
              have hr2 := (HRR.out.kept ((Below.refl _ _).alloc (Nat.le_refl _) (.cells #[.int .i64 3, .int .u64 ((x.num : Nat) : Int), .int .i64 x.int, .bool x.flag, .string x.text] 32)))
              rw [hB] at hr2
              have f : (wr.alloc (.cells #[.int .i64 3, .int .u64 ((x.num : Nat) : Int), .int .i64 x.int, .bool x.flag, .string x.text] 32)).cell? ⟨wr.heap.size, 4, none⟩ = some (.string x.text) := by simp
              have hBa : Below w.heap.size w (wr.alloc (.cells #[.int .i64 3, .int .u64 ((x.num : Nat) : Int), .int .i64 x.int, .bool x.flag, .string x.text] 32)) := hW.alloc hW.size _
              have hca : wr.heap.size < (wr.alloc (.cells #[.int .i64 3, .int .u64 ((x.num : Nat) : Int), .int .i64 x.int, .bool x.flag, .string x.text] 32)).heap.size := by simp
              go_wp2_with fail
              generalize wr.alloc (.cells #[.int .i64 3, .int .u64 ((x.num : Nat) : Int), .int .i64 x.int, .bool x.flag, .string x.text] 32) = wa at *
              obtain ⟨c, hc⟩ : ∃ c, wr.heap.size = c := ⟨_, rfl⟩
              rw [hc] at f hca hdl
              rw [hc]
              have HC := Lib.hid ((text_rd d (x.text.size : Int) _ false wa.drew (hr2.kept (Below.refl _ _).drew) (by have := hxo.2.2.2; omega)).mono fun e w' h => h.2 (.string x.text) (allB (xs.drop (j + 1))) (by rw [rText_back _ _ hxo.2.2.2]; simp [textv, str_sB]))
              have FC : ∀ w', Rd d wa.drew w' → w'.cell? ⟨c, 4, none⟩ = some (.string x.text) := fun w' ht => (ht.cell (p := ⟨c, 4, none⟩) hca (by simp; omega) (by simp [Value.ownBlock])).trans f
              have FH := Lib.hid FC
              have BH : ∀ w', Rd d wa.drew w' → Below w.heap.size w w' := fun w' ht => ht.outside hBa.drew hBa.size hdB
              have HB := Lib.hid BH
              have fd : wa.drew.cell? ⟨c, 4, none⟩ = some (.string x.text) := f
              clear hr2 FC BH hBa hca hdB hc
              go_region_with (go_at_call 29; refine HC.out.mono ?_; rintro e w6 ⟨rfl, hr6, ht6⟩; have f6 := FH.out w6 ht6; have hb6 := HB.out w6 ht6)
              all_goals
                go_wp2_with (go_at_call 24; refine (bad_rd d _ false _ hr6).mono ?_; rintro e w7 ⟨rfl, rfl⟩)
                go_roundw
                case rel => exact ⟨j + 1, by omega, by go_num, hb6, hr6⟩
                case measure => simp [intOf]; omega
            by_cases h4 : x.kind = 4
            · rw [h4] at c0
              have hB : x.bytes = sB x.text := by unfold It.bytes; rw [if_neg h1, if_neg h2, if_neg h3, if_pos h4]
              have hr2 := (HRR.out.kept ((Below.refl _ _).alloc (Nat.le_refl _) (.cells #[.int .i64 4, .int .u64 ((x.num : Nat) : Int), .int .i64 x.int, .bool x.flag, .string x.text] 32)))
              rw [hB] at hr2
              have f : (wr.alloc (.cells #[.int .i64 4, .int .u64 ((x.num : Nat) : Int), .int .i64 x.int, .bool x.flag, .string x.text] 32)).cell? ⟨wr.heap.size, 4, none⟩ = some (.string x.text) := by simp
              have hBa : Below w.heap.size w (wr.alloc (.cells #[.int .i64 4, .int .u64 ((x.num : Nat) : Int), .int .i64 x.int, .bool x.flag, .string x.text] 32)) := hW.alloc hW.size _
              have hca : wr.heap.size < (wr.alloc (.cells #[.int .i64 4, .int .u64 ((x.num : Nat) : Int), .int .i64 x.int, .bool x.flag, .string x.text] 32)).heap.size := by simp
              go_wp2_with fail
              generalize wr.alloc (.cells #[.int .i64 4, .int .u64 ((x.num : Nat) : Int), .int .i64 x.int, .bool x.flag, .string x.text] 32) = wa at *
              obtain ⟨c, hc⟩ : ∃ c, wr.heap.size = c := ⟨_, rfl⟩
              rw [hc] at f hca hdl
              rw [hc]
              have hsl := sB_len x.text
              have hal : (allB (xs.drop (j + 1))).length ≤ 201800 := by
                have := allB_len (xs.drop (j + 1)) (fun y hy => HOK.out y (List.mem_of_mem_drop hy))
                rw [List.length_drop, HI.out.1] at this
                omega
              have HC0 := raw_yes d x.text.size _ false wa.drew (hr2.kept (Below.refl _ _).drew) (by rw [List.length_append, hsl]; omega) (by rw [List.length_append, hsl]; have := hxo.2.2.2; omega)
              rw [List.take_append_of_le_length (by omega), List.take_of_length_le (by omega), List.drop_append_of_le_length (by omega), List.drop_of_length_le (by omega), List.nil_append] at HC0
              have HC := Lib.hid HC0
              have HSL := Lib.hid hsl
              clear HC0 hsl hal
              have FC : ∀ w', Rd d wa.drew w' → w'.cell? ⟨c, 4, none⟩ = some (.string x.text) := fun w' ht => (ht.cell (p := ⟨c, 4, none⟩) hca (by simp; omega) (by simp [Value.ownBlock])).trans f
              have FH := Lib.hid FC
              have BH : ∀ w', Rd d wa.drew w' → Below w.heap.size w w' := fun w' ht => ht.outside hBa.drew hBa.size hdB
              have HB := Lib.hid BH
              have fd : wa.drew.cell? ⟨c, 4, none⟩ = some (.string x.text) := f
              clear hr2 FC BH hBa hca hdB hc
              go_region_with (go_at_call 30; refine HC.out.mono ?_; rintro e w6 ⟨y6, rfl, hy6, hr6, ht6⟩; have hs6 := rb_string (P := Try.prog) hy6 27 9 5 Try.underlying27 Try.underlying5 Try.underlying9; rw [str_sB] at hs6; obtain ⟨ya, yc, rfl⟩ := hy6.shapeN' HSL.out; have f6 := FH.out w6 ht6; have hb6 := HB.out w6 ht6)
              all_goals
                go_wp2_with (go_at_call 24; refine (bad_rd d _ false _ hr6).mono ?_; rintro e w7 ⟨rfl, rfl⟩)
                go_roundw
                case rel => exact ⟨j + 1, by omega, by go_num, hb6, hr6⟩
                case measure => simp [intOf]; omega
            have d1 : decide (x.kind = 1) = false := by simp [h1]
            have d2 : decide (x.kind = 2) = false := by simp [h2]
            have d3 : decide (x.kind = 3) = false := by simp [h3]
            have d4 : decide (x.kind = 4) = false := by simp [h4]
            have hB : x.bytes = num 0 x.num := by unfold It.bytes; rw [if_neg h1, if_neg h2, if_neg h3, if_neg h4]
            have hr2 := (HRR.out.kept ((Below.refl _ _).alloc (Nat.le_refl _) (.cells #[.int .i64 x.kind, .int .u64 ((x.num : Nat) : Int), .int .i64 x.int, .bool x.flag, .string x.text] 32)))
            rw [hB] at hr2
            have f : (wr.alloc (.cells #[.int .i64 x.kind, .int .u64 ((x.num : Nat) : Int), .int .i64 x.int, .bool x.flag, .string x.text] 32)).cell? ⟨wr.heap.size, 1, none⟩ = some (.int .u64 ((x.num : Nat) : Int)) := by simp
            have hBa : Below w.heap.size w (wr.alloc (.cells #[.int .i64 x.kind, .int .u64 ((x.num : Nat) : Int), .int .i64 x.int, .bool x.flag, .string x.text] 32)) := hW.alloc hW.size _
            have hca : wr.heap.size < (wr.alloc (.cells #[.int .i64 x.kind, .int .u64 ((x.num : Nat) : Int), .int .i64 x.int, .bool x.flag, .string x.text] 32)).heap.size := by simp
            go_wp2_with fail
            generalize wr.alloc (.cells #[.int .i64 x.kind, .int .u64 ((x.num : Nat) : Int), .int .i64 x.int, .bool x.flag, .string x.text] 32) = wa at *
            obtain ⟨c, hc⟩ : ∃ c, wr.heap.size = c := ⟨_, rfl⟩
            rw [hc] at f hca hdl
            rw [hc]
            have HC := Lib.hid ((num_rd d x.num _ false wa.drew (hr2.kept (Below.refl _ _).drew)).mono fun e w' h => h.2 _ _ (by rw [rNum_back x.num _ hxo.1 x.num (Nat.le_refl _)]; rfl))
            have FC : ∀ w', Rd d wa.drew w' → w'.cell? ⟨c, 1, none⟩ = some (.int .u64 ((x.num : Nat) : Int)) := fun w' ht => (ht.cell (p := ⟨c, 1, none⟩) hca (by simp; omega) (by simp [Value.ownBlock])).trans f
            have FH := Lib.hid FC
            have BH : ∀ w', Rd d wa.drew w' → Below w.heap.size w w' := fun w' ht => ht.outside hBa.drew hBa.size hdB
            have HB := Lib.hid BH
            have fd : wa.drew.cell? ⟨c, 1, none⟩ = some (.int .u64 ((x.num : Nat) : Int)) := f
            clear hr2 FC BH hBa hca hdB hc
            go_region_with (go_at_call 31; refine HC.out.mono ?_; rintro e w6 ⟨rfl, hr6, ht6⟩; have f6 := FH.out w6 ht6; have hb6 := HB.out w6 ht6)
            all_goals
              go_wp2_with (go_at_call 24; refine (bad_rd d _ false _ hr6).mono ?_; rintro e w7 ⟨rfl, rfl⟩)
              go_roundw
              case rel => exact ⟨j + 1, by omega, by go_num, hb6, hr6⟩
              case measure => simp [intOf]; omega
          · obtain rfl : j = k := by omega
            rw [List.drop_of_length_le (by rw [HI.out.1]; omega)] at hrr
            have HE := Lib.hid (show Calls Try.prog 25 #[.pointer (some ⟨d, 0, none⟩)] wr fun e w' => e = .returned (.int .i64 0) ∧ wr = w' from (end_rd d _ false wr hrr).mono fun e w' h => ⟨by rw [h.1]; simp [endOf, allB], h.2⟩)
            clear hrr
            go_wp2_with (first
              | (go_at_call 25; refine HE.out.mono ?_; rintro e w7 ⟨rfl, rfl⟩)
              | (go_at_call 13; refine (lives1 _).mono ?_; rintro e w8 ⟨rfl, hb8⟩))
            go_ret
            exact ⟨rfl, hW.trans (hb8.mono hW.size)⟩
end Go.Proofs.Ytkeloeppploiaaa
