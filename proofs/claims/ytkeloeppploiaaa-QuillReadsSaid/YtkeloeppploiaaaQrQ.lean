/- The walk of QuillReads. -/
import Derived.Test.YtkeloeppploiaaaQrP
import Derived.Deep.RegionWith
import Derived.Outline
namespace Go.Proofs.Ytkeloeppploiaaa
open Go.RowKit

theorem reads_big (a b : Option Addr) (n m c d : Nat) (w : World) (hn : n ≤ 9223372036854775807) (hm : m ≤ 9223372036854775807) (h : 3000 < n ∨ 200 < m) :
    Calls Try.prog 4 #[.slice a n c, .slice b m d] w fun e w' => e = .returned (.bool true) ∧ Below w.heap.size w w' := by
  by_cases h3 : 3000 < n
  · have hd : decide (3000 < (n : Int)) = true := by simp; omega
    go_enter Try.func4, Try.ntmps4
    go_wp2_with (go_at_call 13; refine (lives1 _).mono ?_; rintro e w' ⟨rfl, hb⟩)
    go_ret
    exact ⟨rfl, hb⟩
  · have hd : decide (3000 < (n : Int)) = false := by simp; omega
    have hd2 : decide (200 < (m : Int)) = true := by simp; omega
    go_enter Try.func4, Try.ntmps4
    go_wp2_with (go_at_call 13; refine (lives1 _).mono ?_; rintro e w' ⟨rfl, hb⟩)
    go_ret
    exact ⟨rfl, hb⟩

set_option maxHeartbeats 40000000 in
theorem reads_any (a b : Option Addr) (n m c d : Nat) (ds : List Nat) (xs : List Ak) (w : World) (hr : RB w (.slice a n c) ds) (hds : ds.length = n) (hx : Asks w b m d xs)
    (ha : ∀ k, w.heap.size ≤ k → (Value.slice a n c).ownBlock ≠ some k) (hn : n ≤ 3000) (hm : m ≤ 200) :
    Calls Try.prog 4 #[.slice a n c, .slice b m d] w fun e w' => e = .returned (.bool true) ∧ Below w.heap.size w w' := by
  have hd : decide (3000 < (n : Int)) = false := by simp; omega
  have hd2 : decide (200 < (m : Int)) = false := by simp; omega
  have HX := Lib.hid hx
  have HA := Lib.hid ha
  have HR := Lib.hid hr
  have HDS := Lib.hid hds
  have HO := Lib.hid (open_any _ ds w hr (by omega))
  clear hx ha hr hds
  go_enter Try.func4, Try.ntmps4
  go_wp2_with (go_at_call 21; refine HO.out.mono ?_; rintro e w1 ⟨q, rfl, hq, hrr, hB⟩)
  have hgB := hB.size
  have hql : q < w1.heap.size := by obtain ⟨v, g1, _⟩ := hrr; exact lt_of_block g1
  have hB1 : Below w1.heap.size w1 (w1.alloc (.cells #[.slice a n c, .bool false] 47)) := (Below.refl _ _).alloc (Nat.le_refl _) _
  have hB0 : Below w.heap.size w (w1.alloc (.cells #[.slice a n c, .bool false] 47)) := hB.trans (hB1.mono hgB)
  have hT0 : Two (w1.alloc (.cells #[.slice a n c, .bool false] 47)) q w1.heap.size ds false :=
    ⟨hrr.kept hB1, ⟨_, heap_alloc_new w1 _, (HR.out.kept hB).kept hB1, HA.out _ hgB, by simp⟩, by omega⟩
  obtain ⟨g, hg⟩ : ∃ g, w1.heap.size = g := ⟨_, rfl⟩
  rw [hg] at hT0 hgB hql ⊢
  clear hrr hB hB1 hg
  have HT0 := Lib.hid hT0
  clear hT0
  go_loopw [25] (fun i wr => ∃ k : Nat, k ≤ m ∧ i = .int .i64 k ∧ Below w.heap.size w wr ∧ ∃ es bad, Two wr q g es bad ∧ es.length ≤ 3000) (fun i _ => m - (intOf i).toNat)
  case atStart => exact ⟨0, Nat.zero_le _, rfl, hB0, ds, false, HT0.out, by rw [HDS.out]; exact hn⟩
  case round =>
    clear HT0 hB0
    obtain ⟨k, hk, rfl, hW, es, bad, ht, hel⟩ := hrel
    by_cases hlt : k < m
    · obtain ⟨x, hx⟩ : ∃ x, xs[k]? = some x := ⟨_, List.getElem?_eq_getElem (by rw [HX.out.1]; exact hlt)⟩
      obtain ⟨b, off, rfl, hc⟩ := (HX.out.kept hW).2.2.2 k x hx
      have c0 : wr.cell? ⟨b, off + k * 3, none⟩ = some (.int .i64 x.kind) := hc 0 _ rfl
      have c1 : wr.cell? ⟨b, off + k * 3 + 1, none⟩ = some (.int .i64 x.n) := hc 1 _ rfl
      have c2 : wr.cell? ⟨b, off + k * 3 + 2, none⟩ = some (.int .u64 ((x.most : Nat) : Int)) := hc 2 _ rfl
      have hxn := HX.out.2.2.1 x (List.mem_of_getElem? hx)
      have hsz := hW.size
      have hA : Below wr.heap.size wr (wr.alloc (.cells #[.int .i64 x.kind, .int .i64 x.n, .int .u64 ((x.most : Nat) : Int)] 49)) := (Below.refl _ _).alloc (Nat.le_refl _) _
      have hA' : Below w.heap.size w (wr.alloc (.cells #[.int .i64 x.kind, .int .i64 x.n, .int .u64 ((x.most : Nat) : Int)] 49)).drew := (hW.trans (hA.mono hsz)).drew
      have HTW := Lib.hid ((ht.kept hA).kept (Below.refl _ _).drew)
      have f0 : (wr.alloc (.cells #[.int .i64 x.kind, .int .i64 x.n, .int .u64 ((x.most : Nat) : Int)] 49)).cell? ⟨wr.heap.size, 0, none⟩ = some (.int .i64 x.kind) := by simp
      have f1 : (wr.alloc (.cells #[.int .i64 x.kind, .int .i64 x.n, .int .u64 ((x.most : Nat) : Int)] 49)).cell? ⟨wr.heap.size, 1, none⟩ = some (.int .i64 x.n) := by simp
      have f2 : (wr.alloc (.cells #[.int .i64 x.kind, .int .i64 x.n, .int .u64 ((x.most : Nat) : Int)] 49)).cell? ⟨wr.heap.size, 2, none⟩ = some (.int .u64 ((x.most : Nat) : Int)) := by simp
      have hsz2 : w.heap.size ≤ (wr.alloc (.cells #[.int .i64 x.kind, .int .i64 x.n, .int .u64 ((x.most : Nat) : Int)] 49)).drew.heap.size := by have := hA.size; exact Nat.le_trans hsz this
      clear hc hx ht
      go_wp2_with fail
      generalize wr.alloc (.cells #[.int .i64 x.kind, .int .i64 x.n, .int .u64 ((x.most : Nat) : Int)] 49) = wa at *
      have HA' := Lib.hid hA'
      have HC := Lib.hid (read_any q g x.most x.kind x.n es bad wa.drew HTW.out hxn hel)
      have d0 : wa.drew.cell? ⟨wr.heap.size, 0, none⟩ = some (.int .i64 x.kind) := f0
      have d1 : wa.drew.cell? ⟨wr.heap.size, 1, none⟩ = some (.int .i64 x.n) := f1
      have d2 : wa.drew.cell? ⟨wr.heap.size, 2, none⟩ = some (.int .u64 ((x.most : Nat) : Int)) := f2
      have HSZ := Lib.hid hsz2
      clear hA hA' hsz2 c0 c1 c2 f0 f1 f2
      go_region_with (first
        | (go_at_call 22; refine HC.out.mono ?_; rintro e w2 ⟨rfl, es', bad', ht2, hl2, hO⟩; have hW2 := hO w.heap.size w HA'.out HSZ.out hq hgB; have HT2 := Lib.hid ht2; obtain ⟨v, k1, k2, _, _⟩ := ht2.2.1; obtain ⟨g0, g1, _, _⟩ := two_cells k1; obtain ⟨ya, yc, rfl, _, _⟩ := k2.shape; clear k1 k2 ht2 hO)
        | (go_at_call 23; refine (left_rd q es' bad' _ HT2.out.1).mono ?_; rintro e w3 ⟨rfl, rfl⟩)
        | (go_at_call 24; refine (bad_rd q es' bad' _ HT2.out.1).mono ?_; rintro e w3 ⟨rfl, rfl⟩)
        | (go_at_call 25; refine (end_rd q es' bad' _ HT2.out.1).mono ?_; rintro e w3 ⟨rfl, rfl⟩)
        | (go_at_call 26; refine (end_rf g es' bad' _ HT2.out.2.1).mono ?_; rintro e w3 ⟨rfl, rfl⟩))
      all_goals
        go_wp2
        go_roundw
        case rel => exact ⟨k + 1, by omega, by go_num, hW2, es', bad', HT2.out, by omega⟩
        case measure => simp [intOf]; omega
    · go_wp2_with (go_at_call 13; refine (lives1 _).mono ?_; rintro e w' ⟨rfl, hb'⟩)
      go_ret
      exact ⟨rfl, hW.trans (hb'.mono hW.size)⟩
end Go.Proofs.Ytkeloeppploiaaa
