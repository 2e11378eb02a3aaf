/- The walk of QuillWrites. -/
import Derived.Test.YtkeloeppploiaaaQzB
import Derived.Deep.RegionWith
import Derived.Deep.DeepCutAuto
namespace Go.Proofs.Ytkeloeppploiaaa
open Go.RowKit

/-- The bytes of items, one behind the other. -/
def allW (xs : List It) : List Nat := (xs.map It.bytes).flatten
theorem allW_len (xs : List It) (h : ∀ x ∈ xs, x.ok) : (allW xs).length ≤ 1009 * xs.length := flat_len It.bytes 1009 xs fun x hx => x.bytes_len (h x hx)
theorem allW_snoc (xs : List It) (k : Nat) (x : It) (h : xs[k]? = some x) : allW (xs.take (k + 1)) = allW (xs.take k) ++ x.bytes := by
  unfold allW
  rw [List.take_add_one, h]
  simp
theorem wr_pair (w : World) (b c : Nat) (hb : b = w.heap.size) (hc : c = b + 1) :
    WR ((w.alloc (.cells #[.slice none 0 0] 29)).alloc (.cells #[.slice none 0 0] 29)) b (b + 2) (.slice none 0 0) [] ∧ WR ((w.alloc (.cells #[.slice none 0 0] 29)).alloc (.cells #[.slice none 0 0] 29)) c (b + 2) (.slice none 0 0) [] := by
  subst hb
  subst hc
  have h1 := heap_alloc_new w (.cells #[.slice none 0 0] 29)
  have h2 := heap_alloc_new (w.alloc (.cells #[.slice none 0 0] 29)) (.cells #[.slice none 0 0] 29)
  rw [World.size_alloc] at h2
  refine ⟨⟨?_, by omega, by simp, World.ownsRow_nil _ _ _ _, by simp⟩, ⟨h2, by omega, by simp, World.ownsRow_nil _ _ _ _, by simp⟩⟩
  rw [Below.heap_alloc _ _ _ (by simp)]
  exact h1

theorem Beside.mid {W w wA w2 : World} {B g g2 : Nat} {v u : Value} {bs : List Nat} (h : Beside W w B g g2 v u bs) (hA : Below w.heap.size w wA) (ht : Turn g v wA w2) : OB w2 B u bs := by
  have hgB := h.wr.2.1
  have oA : OB wA B u bs := h.ob.kept hA
  exact oA.turned ht (fun e => by have := (oA.own_le g e).1; omega) h.apart
theorem Row.mid {W w wA : World} {B g : Nat} {v u : Value} {tot bs : List Nat} (h : Row W w B g v tot u bs) (hA : Below w.heap.size w wA) : OB wA B u bs := h.ob.kept hA

theorem rv_at {α : Type} {w : World} {a : Option Addr} {n cap : Nat} {l : List α} {f : α → Value} (h : RV w (.slice a n cap) (l.map f)) (hl : l.length = n) (k : Nat) (hk : k < n) (d : α) :
    ∃ b off, a = some ⟨b, off, none⟩ ∧ w.cell? ⟨b, off + k, none⟩ = some (f (l.getD k d)) := by
  obtain ⟨_, a', cap', hv, hc⟩ := h
  simp only [Value.slice.injEq] at hv
  obtain ⟨rfl, _, rfl⟩ := hv
  obtain ⟨b, off, ha, hc⟩ := hc k (by rw [List.length_map, hl]; exact hk)
  refine ⟨b, off, ha, hc.trans ?_⟩
  have : k < l.length := by omega
  simp [this]

set_option maxHeartbeats 20000000 in
theorem writes_any (a a1 a2 : Option Addr) (n cap n1 c1 n2 c2 : Nat) (z1 z2 : List Int) (xs : List It) (w : World) (h : Items w a n cap xs) (k1 : IsRow .u64 w a1 n1 c1 z1) (k2 : IsRow .i64 w a2 n2 c2 z2)
    (m1 : n1 ≤ 9223372036854775807) (m2 : n2 ≤ 9223372036854775807) :
    Calls Try.prog 3 #[.slice a n cap, .slice a1 n1 c1, .slice a2 n2 c2] w fun e w' => e = .returned (.bool true) ∧ Below w.heap.size w w' := by
  have HI := Lib.hid h
  have hm := h.2.1
  unfold maxLen at hm
  have HL := Lib.hid (light_any a n cap xs w h)
  have HK1 := Lib.hid k1
  have HK2 := Lib.hid k2
  clear h k1 k2
  go_enter Try.func3, Try.ntmps3
  go_wp2_with (first
    | (go_at_call 12; refine HL.out.mono ?_; rintro e w1 ⟨⟨b, rfl, hb⟩, hB⟩)
    | (go_at_call 13; refine (lives1 _).mono ?_; rintro e w' ⟨rfl, hb'⟩))
  · go_ret
    exact ⟨rfl, hB.trans (hb'.mono hB.size)⟩
  rotate_left
  · go_ret
    exact ⟨rfl, hB.trans (hb'.mono hB.size)⟩
  · go_ret
    exact ⟨rfl, hB.trans (hb'.mono hB.size)⟩
  have hbt : b = true := by assumption
  subst hbt
  have hn1 : n1 ≤ 100 := by omega
  have hn2 : n2 ≤ 100 := by omega
  have e1 : decide (100 < (n1 : Int)) = false := decide_eq_false (by omega)
  have e2 : decide (100 < (n2 : Int)) = false := decide_eq_false (by omega)
  simp only [e1, e2, Bool.or_false, Bool.not_true]
  obtain ⟨h200, h1000⟩ := hb rfl
  clear HL hb
  have hok : ∀ x ∈ xs, x.ok := fun x hx => ⟨(HI.out.2.2.1 x hx).1, (HI.out.2.2.1 x hx).2.1, (HI.out.2.2.1 x hx).2.2.1, h1000 x hx⟩
  have HOK := Lib.hid hok
  have hn : n ≤ 200 := by rw [← HI.out.1]; exact h200
  obtain ⟨ns, hns, hnsB, hrv1⟩ := rv_u64 HK1.out hn1
  obtain ⟨zs, hzs, hzsB, hrv2⟩ := rv_i64 HK2.out hn2
  have HNS := Lib.hid (And.intro hns hnsB)
  have HZS := Lib.hid (And.intro hzs hzsB)
  have HR1 := Lib.hid hrv1
  have HR2 := Lib.hid hrv2
  have HW0 := Lib.hid (wr_pair w1 _ _ rfl rfl)
  have hB0 : Below w.heap.size w ((w1.alloc (.cells #[.slice none 0 0] 29)).alloc (.cells #[.slice none 0 0] 29)) := (hB.alloc hB.size _).alloc (by have := hB.size; simp; omega) _
  obtain ⟨g, hg⟩ : ∃ g, w1.heap.size = g := ⟨_, rfl⟩
  have hgB := hB.size
  rw [hg] at HW0 hgB
  clear h200 h1000 hok hm hns hnsB hzs hzsB hrv1 hrv2 HK1 HK2 e1 e2
  rw [hg]
  go_loopw [9, 33] (fun u i wr => ∃ (k : Nat) (v : Value), k ≤ n ∧ i = .int .i64 k ∧ Beside w wr (g + 2) g (g + 1) v u (allW (xs.take k))) (fun _ i _ => n - (intOf i).toNat)
  case atStart => exact ⟨0, _, Nat.zero_le _, rfl, hB0, HW0.out.1, World.ownsRow_nil _ _ _ _, HW0.out.2, by simp [Value.ownBlock]⟩
  case round =>
    clear HW0
    obtain ⟨k, v, hk, rfl, hbe⟩ := hrel
    by_cases hlt : k < n
    · have hxk : xs[k]? = some (xs[k]'(by rw [HI.out.1]; exact hlt)) := List.getElem?_eq_getElem _
      obtain ⟨x, hx⟩ : ∃ x, xs[k]? = some x := ⟨_, hxk⟩
      obtain ⟨b, off, rfl, hc⟩ := (HI.out.kept hbe.below).2.2.2 k x hx
      have c0 : wr.cell? ⟨b, off + k * 5, none⟩ = some (.int .i64 x.kind) := hc 0 _ rfl
      have c1 : wr.cell? ⟨b, off + k * 5 + 1, none⟩ = some (.int .u64 ((x.num : Nat) : Int)) := hc 1 _ rfl
      have c2 : wr.cell? ⟨b, off + k * 5 + 2, none⟩ = some (.int .i64 x.int) := hc 2 _ rfl
      have c3 : wr.cell? ⟨b, off + k * 5 + 3, none⟩ = some (.bool x.flag) := hc 3 _ rfl
      have c4 : wr.cell? ⟨b, off + k * 5 + 4, none⟩ = some (.string x.text) := hc 4 _ rfl
      have HX := Lib.hid hx
      have hA : Below wr.heap.size wr (wr.alloc (.cells #[.int .i64 x.kind, .int .u64 ((x.num : Nat) : Int), .int .i64 x.int, .bool x.flag, .string x.text] 32)) := (Below.refl _ _).alloc (Nat.le_refl _) _
      have HBE := Lib.hid hbe
      have hl9 : (allW (xs.take k)).length ≤ 1009 * k := by
        have := allW_len (xs.take k) (fun y hy => HOK.out y (List.mem_of_mem_take hy))
        rw [List.length_take] at this
        omega
      have hxl := x.bytes_len (HOK.out x (List.mem_of_getElem? HX.out))
      have HP := Lib.hid (write_wr g (g + 2) v x _ _ (hbe.wr.kept hA) (by omega) (HOK.out x (List.mem_of_getElem? HX.out)))
      unfold It.v at HP
      have HA := Lib.hid hA
      clear hc hxk hx hA hbe
      go_wp2_with (first
        | (go_at_call 14; refine HP.out.mono ?_; rintro e w2 ⟨r, rfl, hrb, v2, hwr2, ht2, hm2⟩)
        | (at_builtin; refine append_moved rfl (.tmp 37) (.tmp 39) rfl (g + 2) _ _ (allW (xs.take k)) x.bytes rfl rfl (HBE.out.mid HA.out ht2) hrb (by omega) hwr2.2.2.1 ?_; intro u3 w3 ho3 hg3 hm3))
      go_roundw
      case rel =>
        refine ⟨k + 1, v2, by omega, by go_num, ?_⟩
        rw [allW_snoc xs k x HX.out]
        exact HBE.out.step hgB (by omega) (by omega) HA.out hwr2 ht2 hm2 ho3 hg3 hm3
      case measure => simp [intOf]; omega
    · obtain rfl : k = n := by omega
      rw [List.take_of_length_le (by rw [HI.out.1]; omega)] at hbe
      have hl9 : (allW xs).length ≤ 201800 := by
        have := allW_len xs (fun y hy => HOK.out y hy)
        rw [HI.out.1] at this
        omega
      have hlt8 : ∀ c ∈ allW xs, c < 256 := hbe.wr.2.2.2.2
      obtain ⟨A, hA⟩ : ∃ A, (allW xs).length = A := ⟨_, rfl⟩
      have hrb := hbe.ob.rb hlt8 (by omega)
      obtain ⟨ao, co, rfl⟩ := hrb.shapeN' hA
      have HY := Lib.hid (bytes_wr g (g + 2) v (allW xs) wr.drew (hbe.wr.kept (Below.refl _ _).drew) (by omega))
      have HN0 : ∀ W', Below wr.heap.size wr W' → Calls Try.prog 16 #[.pointer (some ⟨g, 0, none⟩)] W' fun e w' => e = .returned (.int .i64 (A : Int)) ∧ W' = w' := fun W' hW' => by
        have := len_wr g (g + 2) v (allW xs) W' (hbe.wr.kept hW') (by omega)
        rwa [hA] at this
      have HC0 : ∀ W', Below wr.heap.size wr W' → (convert 27 9 (.slice ao A co)).run Try.prog W' = .ok (.string (str (allW xs))) W' := fun W' hW' => rb_string (P := Try.prog) (hrb.kept hW') 27 9 5 Try.underlying27 Try.underlying5 Try.underlying9
      have hd : Below wr.heap.size wr wr.drew := (Below.refl _ _).drew
      have HN := Lib.hid HN0
      have HC := Lib.hid HC0
      have hc0 := HC0 _ hd
      have HBE := Lib.hid hbe
      have HLA := Lib.hid hA
      have HLT := Lib.hid hlt8
      clear HN0 HC0 hrb hbe hlt8 hA
      go_wp2_with fail
      go_region_with (first
        | (go_at_call 16; refine (HN.out _ (by assumption)).mono ?_; rintro e wx ⟨rfl, rfl⟩)
        | (go_at_call 15; refine HY.out.mono ?_; rintro e w8 ⟨y, rfl, ho8, hb8⟩; have hbb8 := hd.trans (hb8.mono hd.size); have hc8 := HC.out _ hbb8; have hv8 := rb_string (P := Try.prog) (ho8.rb HLT.out (by have := HLA.out; omega)) 27 9 5 Try.underlying27 Try.underlying5 Try.underlying9))
      all_goals
        have htwo := HBE.out.two.kept hbb8
        have hb0 : Below w.heap.size w w8 := HBE.out.below.trans (hbb8.mono HBE.out.below.size)
        have hl1 : (nums ns).length ≤ 900 := by
          have := flat_len (num 0) 9 ns (fun y hy => num_len9 0 y (HNS.out.2 y hy))
          rw [HNS.out.1] at this
          unfold nums; omega
        have HN1 := Lib.hid (num_wr (g + 1) (g + 2) _ [] ns _ w8 htwo (by simp) (HR1.out.kept hb0) HNS.out.2)
        rw [List.nil_append] at HN1
        have HB0 := Lib.hid hb0
        clear htwo hc8 hv8 hbb8 hb8 ho8 hc0 hd HY HN HC HBE HLA HLT hl9 hb0
        go_wp2_with (first
          | (go_at_call 17; refine HN1.out.mono ?_; rintro e w9 ⟨rfl, v9, hw9, ht9, hm9⟩; have hb9 : Below w.heap.size w w9 := ht9.outside HB0.out HB0.out.size (by omega) (fun j hj => by simp [Value.ownBlock] at hj))
          | (go_at_call 18; refine (int_wr (g + 1) (g + 2) v9 _ zs _ w9 hw9 (by omega) (HR2.out.kept hb9) HZS.out.2).mono ?_; rintro e w10 ⟨rfl, v10, hw10, ht10, hm10⟩))
        have hb10 : Below w.heap.size w w10 := ht10.outside hb9 hb9.size (by omega) (fun j hj => by have := hw9.base_le j hj; omega)
        have hrow0 : Row w w10 (g + 2) (g + 1) v10 (nums ns ++ ints zs) (.slice none 0 0) (nums (ns.take 0)) := ⟨hb10, hw10, World.ownsRow_nil _ _ _ _, by simp [Value.ownBlock]⟩
        have HROW := Lib.hid hrow0
        clear hrow0 hb10 hw10 ht10 hm10 hb9 hw9 ht9 hm9 HB0 HN1
        go_loopw [12, 59] (fun u i wr => ∃ k : Nat, k ≤ n1 ∧ i = .int .i64 k ∧ Row w wr (g + 2) (g + 1) v10 (nums ns ++ ints zs) u (nums (ns.take k))) (fun _ i _ => n1 - (intOf i).toNat)
        case atStart => exact ⟨0, Nat.zero_le _, rfl, HROW.out⟩
        case round =>
          clear HROW
          obtain ⟨j, hj, rfl, hrow⟩ := hrel
          by_cases hlt : j < n1
          · obtain ⟨b, off, rfl, hc⟩ := rv_at (HR1.out.kept hrow.below) HNS.out.1 j hlt 0
            have hlp : j < ns.length := by rw [HNS.out.1]; exact hlt
            have HM := Lib.hid (HNS.out.2 (ns.getD j 0) (by simp [hlp]))
            have HT := Lib.hid (flat_snoc (num 0) ns j 0 hlp)
            obtain ⟨m, hm⟩ : ∃ m, ns.getD j 0 = m := ⟨_, rfl⟩
            rw [hm] at hc HM HT
            have hlj : (nums (ns.take j)).length ≤ 900 := by
              have := flat_len (num 0) 9 (ns.take j) (fun y hy => num_len9 0 y (HNS.out.2 y (List.mem_of_mem_take hy)))
              rw [List.length_take] at this
              unfold nums; omega
            have hlm := num_len9 0 m HM.out
            have HRW := Lib.hid hrow
            clear hm hrow hlp
            go_wp2_with (first
              | (go_at_call 19; refine (refnum_any m _ HM.out).mono ?_; rintro e w2 ⟨r, rfl, ho2, hA2⟩)
              | (at_builtin; refine append_moved rfl (.tmp 63) (.tmp 65) rfl (g + 2) _ _ (nums (ns.take j)) (num 0 m) rfl rfl (HRW.out.mid hA2) (ho2.rb (num_lt' 0 m (by omega) HM.out) (by omega)) (by omega) (Nat.le_trans HRW.out.wr.2.2.1 hA2.size) ?_; intro u3 w3 ho3 hg3 hm3))
            go_roundw
            case rel =>
              refine ⟨j + 1, by omega, by go_num, ?_⟩
              have e : nums (ns.take (j + 1)) = nums (ns.take j) ++ num 0 m := HT.out
              rw [e]
              exact HRW.out.step (by omega) hA2 ho3 hg3 hm3
            case measure => simp [intOf]; omega
          · obtain rfl : j = n1 := by omega
            have e0 : nums (ns.take j) = nums ns ++ ints (zs.take 0) := by rw [List.take_of_length_le (by rw [HNS.out.1]; omega)]; simp [ints]
            rw [e0] at hrow
            have HROW := Lib.hid hrow
            clear e0 hrow
            go_wp2_with fail
            go_loopw [12, 70] (fun u i wr => ∃ k : Nat, k ≤ n2 ∧ i = .int .i64 k ∧ Row w wr (g + 2) (g + 1) v10 (nums ns ++ ints zs) u (nums ns ++ ints (zs.take k))) (fun _ i _ => n2 - (intOf i).toNat)
            case atStart => exact ⟨0, Nat.zero_le _, rfl, HROW.out⟩
            case round =>
              clear HROW
              obtain ⟨j2, hj2, rfl, hrow⟩ := hrel
              by_cases hlt2 : j2 < n2
              · obtain ⟨b, off, rfl, hc⟩ := rv_at (HR2.out.kept hrow.below) HZS.out.1 j2 hlt2 0
                have hlp : j2 < zs.length := by rw [HZS.out.1]; exact hlt2
                have HM := Lib.hid (HZS.out.2 (zs.getD j2 0) (by simp [hlp]))
                have HT := Lib.hid (flat_snoc intB zs j2 0 hlp)
                obtain ⟨m, hm⟩ : ∃ m, zs.getD j2 0 = m := ⟨_, rfl⟩
                rw [hm] at hc HM HT
                have hlj : (ints (zs.take j2)).length ≤ 900 := by
                  have := flat_len intB 9 (zs.take j2) (fun y hy => intB_len9 y (HZS.out.2 y (List.mem_of_mem_take hy)).1 (HZS.out.2 y (List.mem_of_mem_take hy)).2)
                  rw [List.length_take] at this
                  unfold ints; omega
                have hlm := intB_len9 m HM.out.1 HM.out.2
                have HRW := Lib.hid hrow
                clear hm hrow hlp
                go_wp2_with (first
                  | (go_at_call 20; refine (refint_any m _ HM.out.1 HM.out.2).mono ?_; rintro e w2 ⟨r, rfl, ho2, hA2⟩)
                  | (at_builtin; refine append_moved rfl (.tmp 74) (.tmp 76) rfl (g + 2) _ _ (nums ns ++ ints (zs.take j2)) (intB m) rfl rfl (HRW.out.mid hA2) (ho2.rb (intB_lt m HM.out.1 HM.out.2) (by omega)) (by rw [List.length_append]; omega) (Nat.le_trans HRW.out.wr.2.2.1 hA2.size) ?_; intro u3 w3 ho3 hg3 hm3))
                go_roundw
                case rel =>
                  refine ⟨j2 + 1, by omega, by go_num, ?_⟩
                  have e : nums ns ++ ints (zs.take (j2 + 1)) = nums ns ++ ints (zs.take j2) ++ intB m := by
                    have e3 : ints (zs.take (j2 + 1)) = ints (zs.take j2) ++ intB m := HT.out
                    rw [e3, List.append_assoc]
                  rw [e]
                  exact HRW.out.step (by omega) hA2 ho3 hg3 hm3
                case measure => simp [intOf]; omega
              · obtain rfl : j2 = n2 := by omega
                rw [List.take_of_length_le (by rw [HZS.out.1]; omega)] at hrow
                have hl2 : (ints zs).length ≤ 900 := by
                  have := flat_len intB 9 zs (fun y hy => intB_len9 y (HZS.out.2 y hy).1 (HZS.out.2 y hy).2)
                  rw [HZS.out.1] at this
                  unfold ints; omega
                have htl : (nums ns ++ ints zs).length ≤ 1800 := by rw [List.length_append]; omega
                generalize nums ns ++ ints zs = tot at *
                have hlt8 : ∀ c ∈ tot, c < 256 := hrow.wr.2.2.2.2
                have hrb := hrow.ob.rb hlt8 (by omega)
                obtain ⟨ao, no, co, hsl⟩ := hrow.ob.slice
                subst hsl
                have hd : Below wr.heap.size wr wr.drew := (Below.refl _ _).drew
                have HY := Lib.hid (bytes_wr (g + 1) (g + 2) v10 tot wr.drew (hrow.wr.kept hd) (by omega))
                have HC0 : ∀ W', Below wr.heap.size wr W' → (convert 27 9 (.slice ao no co)).run Try.prog W' = .ok (.string (str tot)) W' := fun W' hW' => rb_string (P := Try.prog) (hrb.kept hW') 27 9 5 Try.underlying27 Try.underlying5 Try.underlying9
                have hc0 := HC0 _ hd
                have HC := Lib.hid HC0
                have HLT := Lib.hid hlt8
                have HBW := Lib.hid hrow.below
                clear HC0 hrb hrow hlt8
                go_wp2_with fail
                go_region_with (first
                  | (go_at_call 15; refine HY.out.mono ?_; rintro e w8 ⟨y, rfl, ho8, hb8⟩; have hbb8 := hd.trans (hb8.mono hd.size); have hc8 := HC.out _ hbb8; have hv8 := rb_string (P := Try.prog) (ho8.rb HLT.out (by omega)) 27 9 5 Try.underlying27 Try.underlying5 Try.underlying9; have hbw8 := HBW.out.trans (hbb8.mono HBW.out.size))
                  | (go_at_call 13; refine (lives1 _).mono ?_; rintro e wz ⟨rfl, hbz⟩))
                all_goals (go_wp2; go_ret; exact ⟨rfl, hbw8.trans (hbz.mono hbw8.size)⟩)
end Go.Proofs.Ytkeloeppploiaaa
