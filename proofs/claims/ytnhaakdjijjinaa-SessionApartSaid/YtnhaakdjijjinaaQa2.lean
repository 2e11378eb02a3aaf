/- Walks of quill: what a writer has; and of its reference: the bytes by the text.   Walks of quill's reference: numbers with a sign, flags, strings.   What a writer's call leaves of what was there.   What a reader is; the walks of its Fail, take, Open, Left, Bad and End.   The walk of a reader's number.   Walks of a reader's methods.   Walks of a reader's methods: numbers with a sign, flags, strings, raw bytes. -/
import Derived.Test.YtnhaakdjijjinaaQa1
import Derived.Lib.AppendStr
import Derived.Deep.QuietTactic
import Derived.BigQuiet
import Derived.WalkSmall
import Derived.Laws.DeepNot64
namespace Go.Proofs.Ytnhaakdjijjinaa
section
open Go.RowKit
/-- The call hands back bytes of its own, and has turned nothing that was there. -/
def Owned (w : World) (bs : List Nat) (e : Ending) (w' : World) : Prop := ∃ v', e = .returned v' ∧ OB w' w.heap.size v' bs ∧ Below w.heap.size w w'
theorem ob_empty (w : World) (b : Nat) (hb : b = w.heap.size) : OB (w.alloc (.cells #[] 5)) w.heap.size (.slice (some ⟨b, 0, none⟩) 0 0) [] := by
  subst hb
  exact World.ownsRow_lit w #[] 0 (Nat.le_refl _) (by simp) rfl

/-- bytes.Clone. -/
theorem bclone_any (v : Value) (bs : List Nat) (w : World) (hb : RB w v bs) : Calls Try.prog 53 #[v] w (Owned w bs) := by
  rcases hb.2.2 with ⟨rfl, rfl⟩ | ⟨x, cap, rfl, _, _, _⟩
  · have hn := fun (w : World) (n c : Nat) => Lib.run_eql_slice_nil (P := Try.prog) w 35 5 none n c 0 0 Try.underlying35
    go_enter Try.func53, Try.ntmps53
    go_wp2
    go_ret
    exact ⟨_, rfl, World.ownsRow_nil _ _ _ _, Below.refl _ _⟩
  · have hn := fun (w : World) (n c : Nat) => Lib.run_eql_slice_nil (P := Try.prog) w 35 5 (some x) n c 0 0 Try.underlying35
    obtain ⟨n, hnn⟩ : ∃ n, bs.length = n := ⟨_, rfl⟩
    have HB := Lib.hid hb
    have hl := hb.2.1
    rw [hnn] at hl ⊢
    have HN := Lib.hid hnn
    clear hb hnn
    go_enter Try.func53, Try.ntmps53
    go_wp2_with (first
      | (at_builtin; refine append_rb rfl _ _ rfl w.heap.size _ _ [] bs rfl rfl (ob_empty _ _ rfl) (by have := HB.out.kept ((Below.refl _ _).alloc (Nat.le_refl _) (.cells #[] 5)); rw [HN.out] at this; exact this) (by have := HN.out; simp; omega) (by simp) ?_; intro v1 w1 ho1 hg1; have hb1 := (ob_empty w _ rfl).below hg1 ((Below.refl w.heap.size w).alloc (Nat.le_refl _) _) (by simp); clear hg1))
    go_ret
    exact ⟨_, rfl, ho1, hb1⟩


theorem bytes_wr (b base : Nat) (v : Value) (bs : List Nat) (w : World) (hw : WR w b base v bs) (hl : bs.length ≤ 10000000) : Calls Try.prog 23 #[.pointer (some ⟨b, 0, none⟩)] w (Owned w bs) := by
  have hc := cell_of_one hw.1
  have H := Lib.hid (bclone_any v bs w (hw.2.2.2.1.rb hw.2.2.2.2 (by omega)))
  clear hw hl
  go_enter Try.func23, Try.ntmps23
  go_wp2_with (go_at_call 53; refine (H.out).mono ?_; rintro e w' ⟨v', rfl, ho, hb⟩)
  go_ret
  exact ⟨v', rfl, ho, hb⟩
theorem bytes_nil (w : World) : Calls Try.prog 23 #[.pointer none] w fun e w' => e = .returned (.slice none 0 0) ∧ w = w' := by
  go_enter Try.func23, Try.ntmps23
  go_wp2
  go_ret
  exact ⟨rfl, rfl⟩

theorem RB.shapeN' {w : World} {v : Value} {bs : List Nat} {n : Nat} (h : RB w v bs) (hn : bs.length = n) : ∃ a cap, v = .slice a n cap := by
  obtain ⟨a, cap, hv, _, _⟩ := h.shape
  exact ⟨a, cap, by rw [← hn]; exact hv⟩
theorem ob_lit1 (w : World) (b base : Nat) (y : Int) (x : Nat) (hb : b = w.heap.size) (hy : y = (x : Int)) (hB : base ≤ w.heap.size) : OB (w.alloc (.cells #[.int .u8 y] 5)) base (.slice (some ⟨b, 0, none⟩) 1 1) [x] := by
  subst hb
  subst hy
  exact World.ownsRow_lit w #[.int .u8 (x : Int)] 1 hB (by simp [maxLen]) rfl

set_option maxHeartbeats 1000000 in
theorem refnum_any (n : Nat) (w : World) (hn : n < 18446744073709551616) : Calls Try.prog 60 #[.int .u64 (n : Int)] w (Owned w (num 0 n)) := by
  have HN := Lib.hid hn
  clear hn
  go_enter Try.func60, Try.ntmps60
  go_wp2_with fail
  go_loopw [0, 3] (fun m v wr => ∃ j : Nat, j ≤ 8 ∧ m = .int .u64 ((n / 2 ^ (8 * j) : Nat) : Int) ∧ OB wr w.heap.size v (enc j n) ∧ Below w.heap.size w wr ∧ (0 < j → 2 ^ (8 * (j - 1)) ≤ n)) (fun m _ _ => (intOf m).toNat)
  case atStart => exact ⟨0, by omega, by simp, World.ownsRow_nil _ _ _ _, Below.refl _ _, by omega⟩
  case round =>
    obtain ⟨j, hj, rfl, ho, hW, hlow⟩ := hrel
    obtain ⟨m, hm⟩ : ∃ m, n / 2 ^ (8 * j) = m := ⟨_, rfl⟩
    rw [hm]
    have hrb := ho.rb (enc_lt j n) (by rw [enc_len]; omega)
    by_cases h0 : 0 < m
    · have h8 : j < 8 := by
        rcases Nat.lt_or_ge j 8 with h | h
        · exact h
        · have e : j = 8 := by omega
          subst e
          have := HN.out
          have e2 : (2 : Nat) ^ (8 * 8) = 18446744073709551616 := by decide
          rw [e2] at hm
          omega
      have hnext : n / 2 ^ (8 * (j + 1)) = m / 256 := by rw [← hm, Nat.div_div_eq_div_mul, Nat.mul_add, Nat.pow_add]
      have hlow2 : 2 ^ (8 * j) ≤ n := by
        rcases Nat.lt_or_ge n (2 ^ (8 * j)) with h | h
        · rw [Nat.div_eq_of_lt h] at hm; omega
        · exact h
      have hmn : m ≤ n := by rw [← hm]; exact Nat.div_le_self _ _
      have hwr : IntKind.u64.wrap ((m : Int) / 256) = (m : Int) / 256 := by have := HN.out; exact IntWalk.u64_in _ ⟨by omega, by omega⟩
      have HE := Lib.hid (show enc (j + 1) n = [m % 256] ++ enc j n by rw [enc, hm]; rfl)
      have HX := Lib.hid hnext
      have HL := Lib.hid hlow2
      have HR := Lib.hid (hrb.kept ((Below.refl _ _).alloc (Nat.le_refl _) (.cells #[.int .u8 ((m : Int) % 256)] 5)))
      have hsz := hW.size
      clear hm hrb hlow ho hnext hlow2 hmn
      go_wp2_with (at_builtin; refine append_rb rfl (.tmp 9) (.tmp 10) rfl w.heap.size _ _ [m % 256] (enc j n) rfl rfl (ob_lit1 _ _ _ _ _ rfl (by omega) hsz) HR.out (by rw [enc_len]; simp; omega) (by simp; omega) ?_; intro v2 w2 ho2 hg2; have hb2 := (ob_lit1 wr _ w.heap.size ((m : Int) % 256) (m % 256) rfl (by omega) hsz).below hg2 (hW.alloc hsz _) (by simp; omega); clear hg2)
      go_roundw
      case rel => exact ⟨j + 1, by omega, by rw [HX.out]; go_num, by rw [HE.out]; exact ho2, hb2, fun _ => HL.out⟩
      case measure => simp [intOf]; omega
    · obtain rfl : m = 0 := by omega
      have hup : n < 2 ^ (8 * j) := by
        rcases Nat.lt_or_ge n (2 ^ (8 * j)) with h | h
        · exact h
        · have := Nat.div_pos h (Nat.two_pow_pos _); omega
      have hz := sz_unique n j hup hlow
      have HE := Lib.hid (show num 0 n = [j] ++ enc j n by unfold num; rw [hz]; simp)
      have hel := enc_len j n
      obtain ⟨a, c, hv⟩ := hrb.shapeN' hel
      subst hv
      have HEL := Lib.hid hel
      have HR := Lib.hid hrb
      have hsz := hW.size
      clear hm hup hz hel hlow hrb ho
      go_wp2_with (at_builtin; refine append_rb rfl (.tmp 17) (.tmp 18) rfl w.heap.size _ _ [j] (enc j n) rfl rfl (ob_lit1 _ _ _ _ _ rfl (by omega) hsz) (HR.out.kept ((Below.refl _ _).alloc (Nat.le_refl _) _)) (by rw [HEL.out]; simp; omega) (by simp; omega) ?_; intro v2 w2 ho2 hg2; have hb2 := (ob_lit1 wr _ w.heap.size (j : Int) j rfl rfl hsz).below hg2 (hW.alloc hsz _) (by simp; omega); clear hg2)
      go_ret
      exact ⟨_, rfl, by rw [HE.out]; exact ho2, hb2⟩
end
section
open Go.RowKit
theorem OB.byte {w : World} {base : Nat} {a : Option Addr} {n cap k : Nat} {bs : List Nat} (h : OB w base (.slice a n cap) bs) (hn : bs.length = n) (hk : k < n) :
    ∃ g, a = some ⟨g, 0, none⟩ ∧ base ≤ g ∧ w.cell? ⟨g, k, none⟩ = some (.int .u8 ((bs.getD k 0 : Nat) : Int)) ∧ w.frozen? ⟨g, k, none⟩ = false := by
  have h' := h
  rcases h'.2 with ⟨hv, h0⟩ | ⟨g, cap', cur, hv, hg, hh, _⟩
  · omega
  · simp only [Value.slice.injEq] at hv
    obtain ⟨rfl, rfl, rfl⟩ := hv
    refine ⟨g, rfl, hg, ?_, World.ownsRow.frozenAt h k⟩
    rw [World.ownsRow.cellAt h k (by omega)]
    exact cb_get bs k (by omega)
theorem OB.put {w : World} {base g n cap : Nat} {bs : List Nat} (h : OB w base (.slice (some ⟨g, 0, none⟩) n cap) bs) (hn : bs.length = n) (k c : Nat) : OB (w.setCell ⟨g, k, none⟩ (.int .u8 (c : Int))) base (.slice (some ⟨g, 0, none⟩) n cap) (bs.set k c) := by
  subst hn
  unfold OB
  have := (World.ownsRow.stored h k (.int .u8 (c : Int))).1
  rw [List.length_set]
  simpa [cb, List.map_set] using this


theorem num_put (m : Nat) : (num 0 m).set 0 (sz m + 128) = num 128 m := by unfold num; simp; omega

set_option maxHeartbeats 1000000 in
theorem refint_any (z : Int) (w : World) (h0 : -9223372036854775808 ≤ z) (h1 : z ≤ 9223372036854775807) : Calls Try.prog 61 #[.int .i64 z] w (Owned w (intB z)) := by
  by_cases hz : z < 0
  · obtain ⟨m, hm⟩ : ∃ m : Nat, -1 - z = (m : Int) := ⟨(-1 - z).toNat, by omega⟩
    have hb : intB z = num 128 m := by unfold intB; rw [if_pos hz, hm, Int.toNat_natCast]
    have H := Lib.hid (refnum_any m w (by omega))
    have hu : IntKind.u64.wrap (m : Int) = (m : Int) := IntWalk.u64_in _ ⟨by omega, by omega⟩
    have hs8 := sz_le m (by omega)
    have hl9 := num_len 0 m
    obtain ⟨d, hd⟩ : ∃ d, sz m = d := ⟨_, rfl⟩
    have hg0 : (num 0 m).getD 0 0 = d := by unfold num; simp [hd]
    have hp := num_put m
    rw [hd] at hs8 hl9 hp
    rw [hb]
    have HP := Lib.hid hp
    have HG := Lib.hid hg0
    have HL9 := Lib.hid hl9
    have hlt := num_lt' 0 m (by omega) (by omega)
    have HLT := Lib.hid hlt
    clear hb hd hl9 hg0 hp hlt
    go_enter Try.func61, Try.ntmps61
    go_wp2_with (go_at_call 60; refine (H.out).mono ?_; rintro e w' ⟨v', rfl, ho, hB⟩; obtain ⟨a, c, rfl⟩ := (ho.rb HLT.out (by have := HL9.out; omega)).shapeN' rfl; obtain ⟨g, rfl, hg, hcell, hfr⟩ := ho.byte rfl (by have := HL9.out; omega : 0 < (num 0 m).length); rw [HG.out] at hcell; have HO := Lib.hid (ho.put rfl 0 (d + 128)); rw [HP.out] at HO; obtain ⟨L, hL⟩ : ∃ L, (num 0 m).length = L := ⟨_, rfl⟩; rw [hL] at HO HL9 ⊢; have hL1 : 1 ≤ L := (by have := HL9.out; omega); clear hL ho)
    go_ret
    exact ⟨_, rfl, by have := HO.out; rwa [show ((d + 128 : Nat) : Int) = (d : Int) + 128 by omega] at this, hB.setCell (by exact hg) _⟩
  · obtain ⟨m, rfl⟩ : ∃ m : Nat, z = (m : Int) := ⟨z.toNat, by omega⟩
    have hb : intB (m : Int) = num 0 m := by unfold intB; rw [if_neg hz, Int.toNat_natCast]
    have H := Lib.hid (refnum_any m w (by omega))
    have hu : IntKind.u64.wrap (m : Int) = (m : Int) := IntWalk.u64_in _ ⟨by omega, by omega⟩
    have hm0 : (0 : Int) ≤ (m : Int) := by omega
    rw [hb]
    clear hb hz h0 h1
    go_enter Try.func61, Try.ntmps61
    go_wp2_with (go_at_call 60; refine (H.out).mono ?_; rintro e w' ⟨v', rfl, ho, hB⟩)
    go_ret
    exact ⟨_, rfl, ho, hB⟩
theorem refflag_any (x : Bool) (w : World) : Calls Try.prog 62 #[.bool x] w (Owned w (flagB x)) := by
  have H1 := Lib.hid (refnum_any 1 w (by omega))
  have H0 := Lib.hid (refnum_any 0 w (by omega))
  cases x with
  | true =>
    have hb : flagB true = num 0 1 := rfl
    rw [hb]
    clear hb
    go_enter Try.func62, Try.ntmps62
    go_wp2_with (go_at_call 60; refine (H1.out).mono ?_; rintro e w' ⟨v', rfl, ho, hB⟩)
    go_ret
    exact ⟨_, rfl, ho, hB⟩
  | false =>
    have hb : flagB false = num 0 0 := rfl
    rw [hb]
    clear hb
    go_enter Try.func62, Try.ntmps62
    go_wp2_with (go_at_call 60; refine (H0.out).mono ?_; rintro e w' ⟨v', rfl, ho, hB⟩)
    go_ret
    exact ⟨_, rfl, ho, hB⟩
theorem strCells_cb (s : ByteArray) : Lib.strCells s = cb (sB s) := by
  unfold Lib.strCells cb sB
  rw [List.map_map]
  rfl
end
section
open Go.RowKit

theorem Turn.cell {b : Nat} {v : Value} {w w' : World} (h : Turn b v w w') {p : Addr} (hp : p.block < w.heap.size) (hb : p.block ≠ b) (hv : some p.block ≠ v.ownBlock) : w'.cell? p = w.cell? p :=
  World.cell?_of_block (h.block _ hp hb hv)
theorem WR.own_lt {w : World} {b base : Nat} {v : Value} {bs : List Nat} (h : WR w b base v bs) : ∀ k, v.ownBlock = some k → k < w.heap.size := fun k hk => (World.ownsRow.lt h.2.2.2.1 k hk).2

/-- A box's cells, behind a call that wrote to a writer. -/
theorem box_after {w w1 : World} {b base : Nat} {v : Value} {bs : List Nat} {C : Array Value} {t : TypeId} (hw : WR w b base v bs) (ht : Turn b v (w.alloc (.cells C t)) w1) (j : Nat) : w1.cell? ⟨w.heap.size, j, none⟩ = C[j]? := by
  have h1 := hw.lt
  refine (ht.cell (p := ⟨w.heap.size, j, none⟩) (by simp) (by simp; omega) ?_).trans (by simp)
  intro e
  have := hw.own_lt _ e.symm
  simp at this
theorem Wrote.boxed {w w' : World} {b base : Nat} {v : Value} {bs : List Nat} {o : Obj} (h : Wrote b base v (w.alloc o) bs w') : Wrote b base v w bs w' := h.after ((Below.refl _ _).alloc (Nat.le_refl _) _)
theorem Wrote.kept {w w1 w' : World} {b base : Nat} {v : Value} {bs : List Nat} (h : Wrote b base v w bs w1) (hb : Below w1.heap.size w1 w') : Wrote b base v w bs w' := by
  obtain ⟨v', h1, h2, h3⟩ := h
  exact ⟨v', h1.kept hb, h2.trans h3 (Turn.below hb), h3⟩
end
section
open Go.RowKit

/-- What this slice points to lies below block b. -/
def Far (b : Nat) (v : Value) : Prop := ∀ k, v.ownBlock = some k → k < b
theorem Far.ne {b : Nat} {v : Value} (h : Far b v) : v.ownBlock ≠ some b := fun e => Nat.lt_irrefl _ (h b e)
theorem Far.nil (b : Nat) : Far b (.slice none 0 0) := fun k e => by simp [Value.ownBlock] at e
/-- A reader: block b holds the slice v, whose elements are the bytes ds that are left, and whether it is bad. -/
def RR (w : World) (b : Nat) (ds : List Nat) (bad : Bool) : Prop :=
  ∃ v, w.heap[b]? = some (.cells #[v, .bool bad] 98 (0, 0)) ∧ RB w v ds ∧ Far b v ∧ (bad = true → ds = [])
/-- Of what was there, block b alone may have turned. -/
abbrev Rd (b : Nat) (w w' : World) : Prop := Turn b (.slice none 0 0) w w'
theorem Rd.trans {b : Nat} {w w1 w2 : World} (h : Rd b w w1) (k : Rd b w1 w2) : Rd b w w2 := Turn.trans h (Moved.refl _ _) k
theorem Rd.outside {b B : Nat} {W w w' : World} (h : Rd b w w') (hW : Below B W w) (hB : B ≤ w.heap.size) (hb : B ≤ b) : Below B W w' := Turn.outside h hW hB hb (by simp [Value.ownBlock])
theorem RB.turned {w w' : World} {b : Nat} {v : Value} {bs : List Nat} (h : RB w v bs) (ht : Rd b w w') (hb : v.ownBlock ≠ some b) : RB w' v bs := by
  obtain ⟨h1, h2, h3⟩ := h
  refine ⟨h1, h2, ?_⟩
  rcases h3 with h3 | ⟨x, cap, hv, ha, hm, hc⟩
  · exact .inl h3
  · refine .inr ⟨x, cap, hv, ha, hm, fun i hi => ?_⟩
    have hx : x.block ≠ b := by intro e; apply hb; rw [hv]; simp [Value.ownBlock, e]
    have hbk : (x.add i).block = x.block := by unfold Addr.add; split <;> rfl
    rw [ht.cell (p := x.add i) (cell_spot (hc i hi)).2 (by rw [hbk]; exact hx) (by simp [Value.ownBlock])]
    exact hc i hi
theorem RR.kept {w w' : World} {b : Nat} {ds : List Nat} {bad : Bool} (h : RR w b ds bad) (hb : Below w.heap.size w w') : RR w' b ds bad := by
  obtain ⟨v, h1, h2, h3, h4⟩ := h
  exact ⟨v, (hb.block b (lt_of_block h1)).trans h1, h2.kept hb, h3, h4⟩
theorem two_cells {w : World} {b : Nat} {u v : Value} {t : TypeId} (h : w.heap[b]? = some (.cells #[u, v] t (0, 0))) :
    w.cell? ⟨b, 0, none⟩ = some u ∧ w.cell? ⟨b, 1, none⟩ = some v ∧ w.frozen? ⟨b, 0, none⟩ = false ∧ w.frozen? ⟨b, 1, none⟩ = false := by
  simp [World.cell?, World.frozen?, h]
theorem heap_set {w : World} {b : Nat} {C : Array Value} {t : TypeId} (h : w.heap[b]? = some (.cells C t (0, 0))) (j : Nat) (u : Value) : (w.setCell ⟨b, j, none⟩ u).heap[b]? = some (.cells (C.setIfInBounds j u) t (0, 0)) := by
  have hlt := lt_of_block h
  have h' : w.heap[b] = .cells C t (0, 0) := by simpa [Array.getElem?_eq_getElem hlt] using h
  show (w.heap.modify b _)[b]? = _
  rw [Array.getElem?_eq_getElem (by simpa using hlt), Array.getElem_modify_self, h']
  rfl
theorem Rd.set {b : Nat} {w w' : World} (h : Rd b w w') (j : Nat) (u : Value) : Rd b w (w'.setCell ⟨b, j, none⟩ u) := by
  refine ⟨h.os, h.tape, h.output, by have := h.size; simpa using this, fun k hk hb hv => ?_⟩
  rw [Below.heap_setCell _ _ _ _ (by exact hb)]
  exact h.block k hk hb hv

theorem fail_rd (b : Nat) (ds : List Nat) (bad : Bool) (w : World) (hr : RR w b ds bad) :
    Calls Try.prog 59 #[.pointer (some ⟨b, 0, none⟩)] w fun e w' => e = .returned (.tuple #[]) ∧ RR w' b [] true ∧ Rd b w w' := by
  obtain ⟨v, h1, h2, h3, h4⟩ := hr
  obtain ⟨c0, c1, f0, f1⟩ := two_cells h1
  have HE := Lib.hid h1
  clear h1 h2 h3 h4
  go_enter Try.func59, Try.ntmps59
  go_wp2
  go_end0
  refine ⟨rfl, ⟨.slice none 0 0, ?_, RB.nil _, Far.nil _, fun _ => rfl⟩, Rd.set (Rd.set (Turn.refl _ _ _) 0 _) 1 _⟩
  exact heap_set (heap_set HE.out 0 _) 1 _
theorem fail_nil (w : World) : Calls Try.prog 59 #[.pointer none] w fun e w' => e = .returned (.tuple #[]) ∧ w = w' := by
  go_enter Try.func59, Try.ntmps59
  go_wp2
  go_end0
  exact ⟨rfl, rfl⟩

/-- take of more than there is. -/
theorem take_no (b n : Nat) (ds : List Nat) (bad : Bool) (w : World) (hr : RR w b ds bad) (hn : ds.length < n) :
    Calls Try.prog 90 #[.pointer (some ⟨b, 0, none⟩), .int .u64 (n : Int)] w fun e w' => e = .returned (.slice none 0 0) ∧ RR w' b [] true ∧ Rd b w w' := by
  have HF := Lib.hid (fail_rd b ds bad w hr)
  obtain ⟨v, h1, h2, h3, h4⟩ := hr
  obtain ⟨L, hL⟩ : ∃ L, ds.length = L := ⟨_, rfl⟩
  obtain ⟨a, cap, rfl⟩ := h2.shapeN' hL
  obtain ⟨c0, c1, f0, f1⟩ := two_cells h1
  have hL2 := h2.2.1
  rw [hL] at hn hL2
  have hw : IntKind.u64.wrap (L : Int) = (L : Int) := IntWalk.u64_in _ ⟨by omega, by omega⟩
  have hd : decide ((L : Int) < (n : Int)) = true := by simp; omega
  clear h1 h2 h3 h4 hL
  go_enter Try.func90, Try.ntmps90
  go_wp2_with (go_at_call 59; refine (HF.out).mono ?_; rintro e w' ⟨rfl, hr', ht⟩)
  go_ret
  exact ⟨rfl, hr', ht⟩

/-- What take hands back. -/
def Took (b : Nat) (w : World) (ds es : List Nat) (bad : Bool) (e : Ending) (w' : World) : Prop := ∃ v', e = .returned v' ∧ RB w' v' ds ∧ Far b v' ∧ RR w' b es bad ∧ Rd b w w'
theorem rb_take {w : World} {x : Addr} {L cap : Nat} {ds : List Nat} (h : RB w (.slice (some x) L cap) ds) (n : Nat) (hn : n ≤ ds.length) : RB w (.slice (some x) n cap) (ds.take n) := by
  obtain ⟨h1, h2, h3⟩ := h
  rcases h3 with ⟨h, _⟩ | ⟨x', cap', hv, hc, hm, hcell⟩
  · simp at h
  · simp only [Value.slice.injEq, Option.some.injEq] at hv
    obtain ⟨rfl, rfl, rfl⟩ := hv
    have hl : (ds.take n).length = n := by simp; omega
    refine ⟨fun c hc => h1 c (List.mem_of_mem_take hc), by omega, .inr ⟨x, cap, by rw [hl], by omega, hm, fun i hi => ?_⟩⟩
    rw [hcell i (by omega)]
    congr 3
    simp only [List.getD_eq_getElem?_getD, List.getElem?_take]
    rw [if_pos (by omega)]
theorem rb_drop {w : World} {x y : Addr} {L cap k c : Nat} {ds : List Nat} (h : RB w (.slice (some x) L cap) ds) (n : Nat) (hn : n ≤ ds.length) (hy : y = x.add n ∨ n = ds.length) (hk : k = ds.length - n) (hkc : k ≤ c) (hcm : c ≤ maxLen) : RB w (.slice (some y) k c) (ds.drop n) := by
  have hl : (ds.drop n).length = k := by rw [List.length_drop]; exact hk.symm
  have h2 := h.2.1
  refine ⟨fun c hc => h.1 c (List.mem_of_mem_drop hc), by omega, .inr ⟨y, c, by rw [hl], by omega, hcm, fun i hi => ?_⟩⟩
  rw [hl] at hi
  obtain ⟨b, off, cap', hv, _, _, _, hcell⟩ := h.at (by omega)
  simp only [Value.slice.injEq, Option.some.injEq] at hv
  rcases hy with rfl | hy
  · rw [hv.1, add_at, add_at, Nat.add_assoc, hcell (n + i) (by omega)]
    congr 3
    simp
  · omega
theorem own_addr {x y : Addr} {n c L cap b : Nat} (h : Far b (Value.slice (some x) L cap)) (hy : y = x ∨ ∃ k, y = x.add k) : Far b (Value.slice (some y) n c) := by
  have e : y.block = x.block := by
    rcases hy with rfl | ⟨k, rfl⟩
    · rfl
    · unfold Addr.add; split <;> rfl
  intro k hk
  exact h k (by simpa [Value.ownBlock, e] using hk)
theorem took {w : World} {b n L cap k c : Nat} {x y : Addr} {ds : List Nat} {bad : Bool} (hh : w.heap[b]? = some (.cells #[.slice (some x) L cap, .bool bad] 98 (0, 0))) (h : RB w (.slice (some x) L cap) ds)
    (h3 : Far b (Value.slice (some x) L cap)) (h4 : bad = true → ds = []) (hn : n ≤ ds.length) (hy : y = x.add n ∨ (n = ds.length ∧ y = x)) (hk : k = ds.length - n) (hkc : k ≤ c) (hcm : c ≤ maxLen) :
    Took b w (ds.take n) (ds.drop n) bad (.returned (.slice (some x) n cap)) (w.setCell ⟨b, 0, none⟩ (.slice (some y) k c)) := by
  have ht : Rd b w (w.setCell ⟨b, 0, none⟩ (.slice (some y) k c)) := Rd.set (Turn.refl _ _ _) 0 _
  have hb1 := own_addr (n := n) (c := cap) h3 (.inl rfl)
  have hb2 := own_addr (n := k) (c := c) h3 (y := y) (hy.elim (fun h => .inr ⟨n, h⟩) (fun h => .inl h.2))
  have hd := rb_drop h n hn (hy.elim .inl (fun h => .inr h.1)) hk hkc hcm
  exact ⟨_, rfl, (rb_take h n hn).turned ht hb1.ne, hb1, ⟨_, heap_set hh 0 _, hd.turned ht hb2.ne, hb2, fun hb => by rw [h4 hb]; simp⟩, ht⟩

set_option maxHeartbeats 1000000 in
theorem take_yes (b n : Nat) (ds : List Nat) (bad : Bool) (w : World) (hr : RR w b ds bad) (hn : n ≤ ds.length) :
    Calls Try.prog 90 #[.pointer (some ⟨b, 0, none⟩), .int .u64 (n : Int)] w (Took b w (ds.take n) (ds.drop n) bad) := by
  obtain ⟨v, h1, h2, h3, h4⟩ := hr
  obtain ⟨c0, c1, f0, f1⟩ := two_cells h1
  rcases h2.2.2 with ⟨hv, hd0⟩ | ⟨x, cap, hv, hcl, hcm, hcell⟩
  · subst hv
    subst hd0
    obtain rfl : n = 0 := by simpa using hn
    have HE := Lib.hid h1
    have H4 := Lib.hid h4
    clear h1 h2 h3 h4 hn
    go_enter Try.func90, Try.ntmps90
    go_wp2
    go_ret
    exact ⟨_, rfl, RB.nil _, Far.nil _, ⟨_, heap_set HE.out 0 _, RB.nil _, Far.nil _, fun _ => rfl⟩, Rd.set (Turn.refl _ _ _) 0 _⟩
  · obtain ⟨L, hL⟩ : ∃ L, ds.length = L := ⟨_, rfl⟩
    rw [hL] at hv hcl hn
    subst hv
    have hL2 := h2.2.1
    rw [hL] at hL2
    have hw : IntKind.u64.wrap (L : Int) = (L : Int) := IntWalk.u64_in _ ⟨by omega, by omega⟩
    have hd : decide ((L : Int) < (n : Int)) = false := by simp; omega
    have HE := Lib.hid h1
    have H4 := Lib.hid h4
    have H2 := Lib.hid h2
    have H3 := Lib.hid h3
    have HM := Lib.hid hcm
    have HL := Lib.hid hL
    clear h1 h2 h3 h4 hcell hL hcm
    by_cases hcn : cap = n
    · obtain rfl : L = n := by omega
      subst hcn
      go_enter Try.func90, Try.ntmps90
      go_wp2
      go_ret
      exact took HE.out H2.out H3.out H4.out (by rw [HL.out]; exact Nat.le_refl _) (.inr ⟨HL.out.symm, rfl⟩) (by rw [HL.out]; simp) (by simp) (by simp)
    · go_enter Try.func90, Try.ntmps90
      go_wp2
      go_ret
      exact took HE.out H2.out H3.out H4.out (by rw [HL.out]; exact hn) (.inl rfl) (by rw [HL.out]) (by omega) (by have := HM.out; omega)

set_option maxHeartbeats 400000 in
theorem take_nil (n : Nat) (w : World) : Calls Try.prog 90 #[.pointer none, .int .u64 (n : Int)] w fun e w' => e = .returned (.slice none 0 0) ∧ w = w' := by
  go_enter Try.func90, Try.ntmps90
  go_wp2_with (go_at_call 59; refine (fail_nil _).mono ?_; rintro e w' ⟨rfl, rfl⟩)
  go_ret
  exact ⟨rfl, rfl⟩

/-- What Open hands back. -/
def Opens (w : World) (ds : List Nat) (e : Ending) (w' : World) : Prop := ∃ b, e = .returned (.pointer (some ⟨b, 0, none⟩)) ∧ w.heap.size ≤ b ∧ RR w' b ds false ∧ Below w.heap.size w w'
theorem open_any (v : Value) (ds : List Nat) (w : World) (hv : RB w v ds) (hl : ds.length ≤ 10000000) : Calls Try.prog 20 #[v] w (Opens w ds) := by
  have H := Lib.hid (bclone_any v ds w hv)
  have hlt := Lib.hid hv.1
  clear hv
  go_enter Try.func20, Try.ntmps20
  go_wp2_with (go_at_call 53; refine (H.out).mono ?_; rintro e w1 ⟨c, rfl, ho, hb⟩; obtain ⟨a1, n1, c1, rfl⟩ := ho.slice)
  go_ret
  have hb2 : Below w1.heap.size w1 (w1.alloc (.cells #[.slice a1 n1 c1, .bool false] 98)) := (Below.refl _ _).alloc (Nat.le_refl _) _
  refine ⟨_, rfl, hb.size, ⟨_, heap_alloc_new w1 _, (ho.rb hlt.out (by omega)).kept hb2, ?_, by simp⟩, hb.trans (hb2.mono hb.size)⟩
  intro k e
  exact (World.ownsRow.lt ho _ e).2
theorem left_rd (b : Nat) (ds : List Nat) (bad : Bool) (w : World) (hr : RR w b ds bad) : Calls Try.prog 24 #[.pointer (some ⟨b, 0, none⟩)] w fun e w' => e = .returned (.int .i64 ((ds.length : Nat) : Int)) ∧ w = w' := by
  obtain ⟨v, h1, h2, h3, h4⟩ := hr
  obtain ⟨L, hL⟩ : ∃ L, ds.length = L := ⟨_, rfl⟩
  obtain ⟨a, cap, rfl⟩ := h2.shapeN' hL
  obtain ⟨c0, c1, f0, f1⟩ := two_cells h1
  rw [hL]
  clear h1 h2 h3 h4 hL
  go_enter Try.func24, Try.ntmps24
  go_wp2
  go_ret
  exact ⟨rfl, rfl⟩
theorem left_nil (w : World) : Calls Try.prog 24 #[.pointer none] w fun e w' => e = .returned (.int .i64 0) ∧ w = w' := by
  go_enter Try.func24, Try.ntmps24
  go_wp2
  go_ret
  exact ⟨rfl, rfl⟩
theorem bad_rd (b : Nat) (ds : List Nat) (bad : Bool) (w : World) (hr : RR w b ds bad) : Calls Try.prog 26 #[.pointer (some ⟨b, 0, none⟩)] w fun e w' => e = .returned (.bool bad) ∧ w = w' := by
  obtain ⟨v, h1, h2, h3, h4⟩ := hr
  obtain ⟨c0, c1, f0, f1⟩ := two_cells h1
  clear h1 h2 h3 h4
  go_enter Try.func26, Try.ntmps26
  go_wp2
  go_ret
  exact ⟨rfl, rfl⟩
theorem bad_nil (w : World) : Calls Try.prog 26 #[.pointer none] w fun e w' => e = .returned (.bool false) ∧ w = w' := by
  go_enter Try.func26, Try.ntmps26
  go_wp2
  go_ret
  exact ⟨rfl, rfl⟩
/-- End's answer. -/
def endOf (ds : List Nat) (bad : Bool) : Int := if bad = true ∨ ds ≠ [] then 20 else 0
end
section
open Go.RowKit

/-- The number that some bytes are, the most significant first. -/
def val (l : List Nat) : Nat := l.foldl (fun n c => n * 256 + c) 0
theorem val_snoc (l : List Nat) (c : Nat) : val (l ++ [c]) = val l * 256 + c := by simp only [val, List.foldl_append, List.foldl_cons, List.foldl_nil]
theorem val_take_succ (l : List Nat) (k : Nat) (hk : k < l.length) : val (l.take (k + 1)) = val (l.take k) * 256 + l.getD k 0 := by
  rw [take_succ_getD' l k hk, val_snoc]
theorem val_take_lt (l : List Nat) (h : ∀ c ∈ l, c < 256) : ∀ k, k ≤ l.length → val (l.take k) < 2 ^ (8 * k) := by
  intro k
  induction k with
  | zero => intro _; simp [val]
  | succ k ih =>
    intro hk
    have h1 := ih (by omega)
    have h2 : l.getD k 0 < 256 := h _ (by simp [show k < l.length by omega])
    rw [val_take_succ l k (by omega), Nat.mul_add, Nat.pow_add]
    omega
/-- What number reads: none, if it fails; else the number, whether it is below 0, and what is left. -/
def rnum : List Nat → Option (Nat × Bool × List Nat)
  | [] => none
  | h :: t => if 8 < h % 128 then none else if t.length < h % 128 then none else if 0 < h % 128 ∧ t.getD 0 0 = 0 then none else some (val (t.take (h % 128)), decide (128 ≤ h), t.drop (h % 128))
def NumNo (b : Nat) (w : World) (e : Ending) (w' : World) : Prop := e = .returned (.tuple #[.int .u64 0, .bool false]) ∧ RR w' b [] true ∧ Rd b w w'
def NumYes (b : Nat) (w : World) (n : Nat) (below : Bool) (rest : List Nat) (e : Ending) (w' : World) : Prop := e = .returned (.tuple #[.int .u64 (n : Int), .bool below]) ∧ RR w' b rest false ∧ Rd b w w'
theorem and128 (h : Nat) (hh : h < 256) : bits .andNot .u8 (h : Int) 128 = ((h % 128 : Nat) : Int) := by
  have all : ∀ j : Fin 256, bits .andNot .u8 ((j.val : Nat) : Int) 128 = ((j.val % 128 : Nat) : Int) := by decide +kernel
  exact all ⟨h, hh⟩

theorem number_empty (b : Nat) (bad : Bool) (w : World) (hr : RR w b [] bad) : Calls Try.prog 82 #[.pointer (some ⟨b, 0, none⟩)] w (NumNo b w) := by
  have H := Lib.hid (take_no b 1 [] bad w hr (by simp))
  clear hr
  go_enter Try.func82, Try.ntmps82
  go_wp2_with (go_at_call 90; refine (H.out).mono ?_; rintro e w' ⟨rfl, hr', ht⟩)
  go_ret2
  exact ⟨rfl, hr', ht⟩

set_option maxHeartbeats 1000000 in
theorem number_big (b h : Nat) (t : List Nat) (w : World) (hr : RR w b (h :: t) false) (hs : 8 < h % 128) : Calls Try.prog 82 #[.pointer (some ⟨b, 0, none⟩)] w (NumNo b w) := by
  have hh : h < 256 := by obtain ⟨v, _, h2, _⟩ := hr; exact h2.1 h (by simp)
  have H := Lib.hid (take_yes b 1 (h :: t) false w hr (by simp))
  have ha := and128 h hh
  obtain ⟨s, hs'⟩ : ∃ s, h % 128 = s := ⟨_, rfl⟩
  rw [hs'] at ha hs
  clear hr hs'
  go_enter Try.func82, Try.ntmps82
  go_wp2_with fail
  refine (H.out).mono ?_
  rintro e w1 ⟨v1, rfl, hv1, hb1, hr1, ht1⟩
  obtain ⟨b1, o1, c1, rfl, _, _, _, hcell⟩ := hv1.at (by simp)
  have hc0 : w1.cell? ⟨b1, o1, none⟩ = some (.int .u8 (h : Int)) := hcell 0 (by simp)
  have HF := Lib.hid (fail_rd b _ _ w1 hr1)
  clear hcell hv1 hb1 hr1
  go_wp2_with (go_at_call 59; refine (HF.out).mono ?_; rintro e w2 ⟨rfl, hr2, ht2⟩)
  go_ret2
  exact ⟨rfl, hr2, ht1.trans ht2⟩

set_option maxHeartbeats 1000000 in
theorem number_short (b h : Nat) (t : List Nat) (w : World) (hr : RR w b (h :: t) false) (hs : h % 128 ≤ 8) (hl : t.length < h % 128) : Calls Try.prog 82 #[.pointer (some ⟨b, 0, none⟩)] w (NumNo b w) := by
  have hh : h < 256 := by obtain ⟨v, _, h2, _⟩ := hr; exact h2.1 h (by simp)
  have H := Lib.hid (take_yes b 1 (h :: t) false w hr (by simp))
  have ha := and128 h hh
  obtain ⟨s, hs'⟩ : ∃ s, h % 128 = s := ⟨_, rfl⟩
  rw [hs'] at ha hs hl
  clear hr hs'
  have HL := Lib.hid hl
  clear hl
  go_enter Try.func82, Try.ntmps82
  go_wp2_with fail
  refine (H.out).mono ?_
  rintro e w1 ⟨v1, rfl, hv1, hb1, hr1, ht1⟩
  obtain ⟨b1, o1, c1, hv, _, _, _, hcell⟩ := hv1.at (by simp)
  have HT := Lib.hid (take_no b s _ _ w1 hr1 (by have := HL.out; simpa using this))
  subst hv
  have hbb : b1 ≠ b := by have := hb1 b1 rfl; omega
  have hc0 : w1.cell? ⟨b1, o1, none⟩ = some (.int .u8 (h : Int)) := hcell 0 (by simp)
  have HB := Lib.hid hbb
  clear hcell hv1 hb1 hr1 hbb
  go_wp2_with fail
  refine (HT.out).mono ?_
  rintro e w2 ⟨rfl, hr2, ht2⟩
  have hc2 : w2.cell? ⟨b1, o1, none⟩ = some (.int .u8 (h : Int)) := (ht2.cell (p := ⟨b1, o1, none⟩) (cell_spot hc0).2 HB.out (by simp [Value.ownBlock])).trans hc0
  have HR := Lib.hid hr2
  obtain ⟨v2, e2, _, _, _⟩ := hr2
  have hcb := (two_cells e2).2.1
  clear e2 hc0
  go_wp2
  go_loop [2, 39] (fun s i => s = .int .u64 0 ∧ i = .int .i64 0) (fun _ _ => 0)
  case atStart => exact ⟨rfl, rfl⟩
  case round =>
    obtain ⟨rfl, rfl⟩ := hrel
    by_cases hbit : (128 : Int) ≤ (h : Int)
    · have hd : decide ((128 : Int) ≤ (h : Int)) = true := by simpa using hbit
      go_wp2
      go_quiet (fail)
      go_wp2
      go_ret2
      exact ⟨rfl, HR.out.kept (below_drewN (Below.refl _ _) _), (ht1.trans ht2).trans (Turn.below (below_drewN (Below.refl _ _) _))⟩
    · have hd : decide ((128 : Int) ≤ (h : Int)) = false := by simpa using hbit
      clear hbit
      go_wp2
      go_quiet (fail)
      go_wp2
      go_ret2
      exact ⟨rfl, HR.out.kept (below_drewN (Below.refl _ _) _), (ht1.trans ht2).trans (Turn.below (below_drewN (Below.refl _ _) _))⟩
set_option maxHeartbeats 1000000 in
theorem number_zero (b h : Nat) (t : List Nat) (w : World) (hr : RR w b (h :: t) false) (hs : h % 128 ≤ 8) (hl : h % 128 ≤ t.length) (h0 : 0 < h % 128) (hz : t.getD 0 0 = 0) : Calls Try.prog 82 #[.pointer (some ⟨b, 0, none⟩)] w (NumNo b w) := by
  have hh : h < 256 := by obtain ⟨v, _, h2, _⟩ := hr; exact h2.1 h (by simp)
  have ht256 : ∀ c ∈ t, c < 256 := by obtain ⟨v, _, h2, _⟩ := hr; exact fun c hc => h2.1 c (by simp [hc])
  have H := Lib.hid (take_yes b 1 (h :: t) false w hr (by simp))
  have ha := and128 h hh
  obtain ⟨s, hs'⟩ : ∃ s, h % 128 = s := ⟨_, rfl⟩
  rw [hs'] at ha hs hl h0
  clear hr hs'
  have HL := Lib.hid hl
  have HT256 := Lib.hid ht256
  clear hl ht256
  go_enter Try.func82, Try.ntmps82
  go_wp2_with fail
  refine (H.out).mono ?_
  rintro e w1 ⟨v1, rfl, hv1, hb1, hr1, ht1⟩
  obtain ⟨b1, o1, c1, hv, _, _, _, hcell⟩ := hv1.at (by simp)
  have HT := Lib.hid (take_yes b s _ _ w1 hr1 HL.out)
  subst hv
  have hbb : b1 ≠ b := by have := hb1 b1 rfl; omega
  have hc0 : w1.cell? ⟨b1, o1, none⟩ = some (.int .u8 (h : Int)) := hcell 0 (by simp)
  have HB := Lib.hid hbb
  clear hcell hv1 hb1 hr1 hbb
  go_wp2_with fail
  refine (HT.out).mono ?_
  rintro e w2 ⟨v2, rfl, hv2, hb2, hr2, ht2⟩
  have hc2 : w2.cell? ⟨b1, o1, none⟩ = some (.int .u8 (h : Int)) := (ht2.cell (p := ⟨b1, o1, none⟩) (cell_spot hc0).2 HB.out (by simp [Value.ownBlock])).trans hc0
  have htl : (List.take s (List.drop 1 (h :: t))).length = s := by have := HL.out; simp; omega
  have HR := Lib.hid hr2
  clear hc0
  obtain ⟨b2, o2, c2, hv, _, _, _, hcell⟩ := hv2.at (by rw [htl]; exact h0)
  rw [htl] at hv
  subst hv
  have hcz : w2.cell? ⟨b2, o2, none⟩ = some (.int .u8 0) := by
    have := hcell 0 (by rw [htl]; exact h0)
    rw [Nat.add_zero] at this
    rw [this]
    have e : (List.take s (List.drop 1 (h :: t))).getD 0 0 = t.getD 0 0 := by simp [List.getElem?_take, h0]
    rw [e, hz]; rfl
  have HF := Lib.hid (fail_rd b _ _ w2 hr2)
  have hd0 : decide ((0 : Int) < (s : Int)) = true := by simp; omega
  clear hcell hv2 hb2 hr2 hz htl
  go_wp2_with (go_at_call 59; refine (HF.out).mono ?_; rintro e w3 ⟨rfl, hr3, ht3⟩)
  go_ret2
  exact ⟨rfl, hr3, (ht1.trans ht2).trans ht3⟩

theorem getD_mem (l : List Nat) (k : Nat) (h : k < l.length) : l.getD k 0 ∈ l := by rw [List.getD_eq_getElem?_getD, List.getElem?_eq_getElem h]; exact List.getElem_mem h
theorem or256 (x c : Nat) (hx : x < 72057594037927936) (hc : c < 256) : bits .or .u64 ((x : Int) * 256) (c : Int) = ((x * 256 + c : Nat) : Int) := by
  have e : x * 256 ||| c = x * 256 + c := by
    have := Nat.two_pow_add_eq_or_of_lt (i := 8) (b := c) (by omega) x
    rw [Nat.mul_comm x 256]; exact this.symm
  rw [show ((x : Int) * 256) = ((x * 256 : Nat) : Int) by omega, u64_or_nat _ _ (by omega) (by omega), e]

set_option maxHeartbeats 2000000 in
theorem number_ok (b h : Nat) (t : List Nat) (w : World) (hr : RR w b (h :: t) false) (hs : h % 128 ≤ 8) (hl : h % 128 ≤ t.length) (h0 : ¬ (0 < h % 128 ∧ t.getD 0 0 = 0)) :
    Calls Try.prog 82 #[.pointer (some ⟨b, 0, none⟩)] w (NumYes b w (val (t.take (h % 128))) (decide (128 ≤ h)) (t.drop (h % 128))) := by
  have hh : h < 256 := by obtain ⟨v, _, h2, _⟩ := hr; exact h2.1 h (by simp)
  have ht256 : ∀ c ∈ t, c < 256 := by obtain ⟨v, _, h2, _⟩ := hr; exact fun c hc => h2.1 c (by simp [hc])
  have H := Lib.hid (take_yes b 1 (h :: t) false w hr (by simp))
  have ha := and128 h hh
  obtain ⟨s, hs'⟩ : ∃ s, h % 128 = s := ⟨_, rfl⟩
  rw [hs'] at ha hs hl h0 ⊢
  clear hr hs'
  have HL := Lib.hid hl
  have HT256 := Lib.hid ht256
  clear hl ht256
  go_enter Try.func82, Try.ntmps82
  go_wp2_with fail
  refine (H.out).mono ?_
  rintro e w1 ⟨v1, rfl, hv1, hb1, hr1, ht1⟩
  obtain ⟨b1, o1, c1, hv, _, _, _, hcell⟩ := hv1.at (by simp)
  have HT := Lib.hid (take_yes b s _ _ w1 hr1 HL.out)
  subst hv
  have hbb : b1 ≠ b := by have := hb1 b1 rfl; omega
  have hc0 : w1.cell? ⟨b1, o1, none⟩ = some (.int .u8 (h : Int)) := hcell 0 (by simp)
  have HB := Lib.hid hbb
  clear hcell hv1 hb1 hr1 hbb
  go_wp2_with fail
  refine (HT.out).mono ?_
  rintro e w2 ⟨v2, rfl, hv2, hb2, hr2, ht2⟩
  have hc2 : w2.cell? ⟨b1, o1, none⟩ = some (.int .u8 (h : Int)) := (ht2.cell (p := ⟨b1, o1, none⟩) (cell_spot hc0).2 HB.out (by simp [Value.ownBlock])).trans hc0
  have htl : (List.take s (List.drop 1 (h :: t))).length = s := by have := HL.out; simp; omega
  have HR := Lib.hid hr2
  clear hc0
  have e1 : List.drop 1 (h :: t) = t := rfl
  rw [e1] at htl HR hv2 hr2
  obtain ⟨a2, c2, hv⟩ := hv2.shapeN' htl
  have hcl : ∀ k, k < s → ∃ b2 o2, a2 = some ⟨b2, o2, none⟩ ∧ w2.cell? ⟨b2, o2 + k, none⟩ = some (.int .u8 (((t.take s).getD k 0 : Nat) : Int)) := by
    intro k hk
    obtain ⟨b2, o2, c3, he, _, _, _, hcell⟩ := hv2.at (by omega)
    rw [hv] at he
    simp only [Value.slice.injEq] at he
    exact ⟨b2, o2, he.1, hcell k (by omega)⟩
  subst hv
  have HCL := Lib.hid hcl
  have HTL := Lib.hid htl
  obtain ⟨v9, e9, _, _, _⟩ := hr2
  have hcb := (two_cells e9).2.1
  have H0 := Lib.hid h0
  have hfirst : 0 < s → ∃ b2 o2 c, a2 = some ⟨b2, o2, none⟩ ∧ w2.cell? ⟨b2, o2, none⟩ = some (.int .u8 ((c : Nat) : Int)) ∧ ((c : Int) == 0) = false := by
    intro hp
    obtain ⟨b2, o2, ha2, hc⟩ := hcl 0 hp
    refine ⟨b2, o2, _, ha2, hc, ?_⟩
    have e : (t.take s).getD 0 0 = t.getD 0 0 := by simp [List.getElem?_take, hp]
    rw [e]
    have : ¬ t.getD 0 0 = 0 := fun hq => h0 ⟨hp, hq⟩
    simpa using this
  have HFI := Lib.hid hfirst
  clear hcl htl hv2 hb2 e9 h0 hfirst H HT e1
  by_cases hp : 0 < s
  · obtain ⟨b2, o2, c, rfl, hcf, hcz⟩ := HFI.out hp
    have hd0 : decide ((0 : Int) < (s : Int)) = true := by simp; omega
    go_wp2
    go_loop [2, 39] (fun n i => ∃ k : Nat, k ≤ s ∧ i = .int .i64 k ∧ n = .int .u64 ((val ((t.take s).take k) : Nat) : Int)) (fun _ i => s - (intOf i).toNat)
    case atStart => exact ⟨0, by omega, rfl, rfl⟩
    case round =>
      obtain ⟨k, hk, rfl, rfl⟩ := hrel
      by_cases hlt : k < s
      · obtain ⟨b3, o3, ha3, hc3⟩ := HCL.out k hlt
        simp only [Option.some.injEq, Addr.mk.injEq, and_true] at ha3
        obtain ⟨rfl, rfl⟩ := ha3
        have hkl : k < (t.take s).length := by rw [HTL.out]; exact hlt
        have HV := Lib.hid (val_take_succ (t.take s) k hkl)
        have hx56 : val ((t.take s).take k) < 72057594037927936 := by
          have h1 := val_take_lt (t.take s) (fun c hc => HT256.out c (List.mem_of_mem_take hc)) k (by omega)
          have h2 : 2 ^ (8 * k) ≤ 2 ^ 56 := Nat.pow_le_pow_right (by omega) (by omega)
          omega
        have hc256 : (t.take s).getD k 0 < 256 := HT256.out _ (List.mem_of_mem_take (getD_mem _ k hkl))
        obtain ⟨x, hx⟩ : ∃ x, val ((t.take s).take k) = x := ⟨_, rfl⟩
        obtain ⟨c', hc'⟩ : ∃ c', (t.take s).getD k 0 = c' := ⟨_, rfl⟩
        rw [hx] at HV hx56 ⊢
        rw [hc'] at HV hc256 hc3
        have hor := or256 x c' hx56 hc256
        have hsh : IntKind.u64.wrap ((x : Int) * 256) = (x : Int) * 256 := IntWalk.u64_in _ ⟨by omega, by omega⟩
        clear hx hc' hkl hx56
        go_wp2
        go_round
        case rel => exact ⟨k + 1, by omega, by go_num, by rw [HV.out]; go_num⟩
        case measure => simp [intOf]; omega
      · obtain rfl : k = s := by omega
        have hfin : (t.take k).take k = t.take k := List.take_of_length_le (by rw [HTL.out]; exact Nat.le_refl _)
        rw [hfin]
        clear hfin
        by_cases hbit : (128 : Int) ≤ (h : Int)
        · have hd : decide ((128 : Int) ≤ (h : Int)) = true := by simpa using hbit
          have HD := Lib.hid (show decide (128 ≤ h) = true by simp; omega)
          go_wp2
          go_quiet (fail)
          go_wp2
          go_ret2
          exact ⟨by rw [HD.out]; rfl, HR.out.kept (below_drewN (Below.refl _ _) _), (ht1.trans ht2).trans (Turn.below (below_drewN (Below.refl _ _) _))⟩
        · have hd : decide ((128 : Int) ≤ (h : Int)) = false := by simpa using hbit
          have HD := Lib.hid (show decide (128 ≤ h) = false by simp; omega)
          clear hbit
          go_wp2
          go_quiet (fail)
          go_wp2
          go_ret2
          exact ⟨by rw [HD.out]; rfl, HR.out.kept (below_drewN (Below.refl _ _) _), (ht1.trans ht2).trans (Turn.below (below_drewN (Below.refl _ _) _))⟩
  · obtain rfl : s = 0 := by omega
    go_wp2
    go_loop [2, 39] (fun n i => n = .int .u64 0 ∧ i = .int .i64 0) (fun _ _ => 0)
    case atStart => exact ⟨rfl, rfl⟩
    case round =>
      obtain ⟨rfl, rfl⟩ := hrel
      by_cases hbit : (128 : Int) ≤ (h : Int)
      · have hd : decide ((128 : Int) ≤ (h : Int)) = true := by simpa using hbit
        have HD := Lib.hid (show decide (128 ≤ h) = true by simp; omega)
        go_wp2
        go_quiet (fail)
        go_wp2
        go_ret2
        exact ⟨by rw [HD.out]; rfl, HR.out.kept (below_drewN (Below.refl _ _) _), (ht1.trans ht2).trans (Turn.below (below_drewN (Below.refl _ _) _))⟩
      · have hd : decide ((128 : Int) ≤ (h : Int)) = false := by simpa using hbit
        have HD := Lib.hid (show decide (128 ≤ h) = false by simp; omega)
        clear hbit
        go_wp2
        go_quiet (fail)
        go_wp2
        go_ret2
        exact ⟨by rw [HD.out]; rfl, HR.out.kept (below_drewN (Below.refl _ _) _), (ht1.trans ht2).trans (Turn.below (below_drewN (Below.refl _ _) _))⟩
end
section
open Go.RowKit

/-- What number answers, by what it reads. -/
def NumRd (b : Nat) (w : World) (r : Option (Nat × Bool × List Nat)) (e : Ending) (w' : World) : Prop :=
  (r = none → NumNo b w e w') ∧ ∀ n bl rest, r = some (n, bl, rest) → NumYes b w n bl rest e w'
theorem number_rd (b : Nat) (ds : List Nat) (bad : Bool) (w : World) (hr : RR w b ds bad) : Calls Try.prog 82 #[.pointer (some ⟨b, 0, none⟩)] w (NumRd b w (rnum ds)) := by
  cases ds with
  | nil => exact (number_empty b bad w hr).mono fun e w' h => ⟨fun _ => h, fun n bl rest hq => by simp [rnum] at hq⟩
  | cons h t =>
    have hb : bad = false := by
      obtain ⟨_, _, _, _, h4⟩ := hr
      cases bad with
      | false => rfl
      | true => simp at h4
    subst hb
    by_cases h1 : 8 < h % 128
    · exact (number_big b h t w hr h1).mono fun e w' hq => ⟨fun _ => hq, fun n bl rest hx => by simp [rnum, h1] at hx⟩
    by_cases h2 : t.length < h % 128
    · exact (number_short b h t w hr (by omega) h2).mono fun e w' hq => ⟨fun _ => hq, fun n bl rest hx => by rw [rnum, if_neg h1, if_pos h2] at hx; cases hx⟩
    by_cases h3 : 0 < h % 128 ∧ t.getD 0 0 = 0
    · exact (number_zero b h t w hr (by omega) (by omega) h3.1 h3.2).mono fun e w' hq => ⟨fun _ => hq, fun n bl rest hx => by rw [rnum, if_neg h1, if_neg h2, if_pos h3] at hx; cases hx⟩
    · refine (number_ok b h t w hr (by omega) (by omega) h3).mono fun e w' hq => ⟨fun hx => ?_, fun n bl rest hx => ?_⟩
      · rw [rnum, if_neg h1, if_neg h2, if_neg h3] at hx; cases hx
      · rw [rnum, if_neg h1, if_neg h2, if_neg h3] at hx
        simp only [Option.some.injEq, Prod.mk.injEq] at hx
        obtain ⟨rfl, rfl, rfl⟩ := hx
        exact hq

/-- What a reading hands back: z, if it fails. -/
def Got (b : Nat) (w : World) (z : Value) (r : Option (Value × List Nat)) (e : Ending) (w' : World) : Prop :=
  (r = none → e = .returned z ∧ RR w' b [] true ∧ Rd b w w') ∧ ∀ v rest, r = some (v, rest) → e = .returned v ∧ RR w' b rest false ∧ Rd b w w'
theorem Got.no {b : Nat} {w w' : World} {z : Value} {r : Option (Value × List Nat)} (hr : r = none) (h1 : RR w' b [] true) (h2 : Rd b w w') : Got b w z r (.returned z) w' :=
  ⟨(fun _ => ⟨rfl, h1, h2⟩), (fun v rest hx => by rw [hr] at hx; cases hx)⟩
theorem Got.yes {b : Nat} {w w' : World} {z v : Value} {rest : List Nat} {r : Option (Value × List Nat)} (hr : r = some (v, rest)) (h1 : RR w' b rest false) (h2 : Rd b w w') : Got b w z r (.returned v) w' :=
  ⟨(fun hx => by rw [hr] at hx; cases hx), (fun v' rest' hx => by rw [hr] at hx; simp only [Option.some.injEq, Prod.mk.injEq] at hx; obtain ⟨rfl, rfl⟩ := hx; exact ⟨rfl, h1, h2⟩)⟩

/-- Num's reading. -/
def rNum (most : Nat) (ds : List Nat) : Option (Nat × List Nat) :=
  match rnum ds with
  | some (n, false, rest) => if n ≤ most then some (n, rest) else none
  | _ => none
def u64v (p : Nat × List Nat) : Value × List Nat := (.int .u64 ((p.1 : Nat) : Int), p.2)
set_option maxHeartbeats 1000000 in
theorem num_rd (b most : Nat) (ds : List Nat) (bad : Bool) (w : World) (hr : RR w b ds bad) :
    Calls Try.prog 54 #[.pointer (some ⟨b, 0, none⟩), .int .u64 (most : Int)] w (Got b w (.int .u64 0) ((rNum most ds).map u64v)) := by
  have hn := number_rd b ds bad w hr
  cases hrn : rnum ds with
  | none =>
    have HQ := Lib.hid (show (rNum most ds).map u64v = none by unfold rNum; rw [hrn]; rfl)
    rw [hrn] at hn
    have HN := Lib.hid hn
    obtain ⟨R, hR⟩ : ∃ R, (rNum most ds).map u64v = R := ⟨_, rfl⟩
    rw [hR] at HQ ⊢
    clear hrn hn hr hR
    have hm : (0 : Int) ≤ (most : Int) := by omega
    go_enter Try.func54, Try.ntmps54
    go_wp2_with fail
    refine (HN.out).mono ?_
    rintro e w1 ⟨hno, _⟩
    obtain ⟨rfl, hr1, ht1⟩ := hno rfl
    go_wp2
    go_ret
    exact Got.no HQ.out hr1 ht1
  | some p =>
    obtain ⟨n, bl, rest⟩ := p
    rw [hrn] at hn
    have HN := Lib.hid hn
    cases bl with
    | true =>
      have HQ := Lib.hid (show (rNum most ds).map u64v = none by unfold rNum; rw [hrn]; rfl)
      obtain ⟨R, hR⟩ : ∃ R, (rNum most ds).map u64v = R := ⟨_, rfl⟩
      rw [hR] at HQ ⊢
      clear hrn hn hr hR
      go_enter Try.func54, Try.ntmps54
      go_wp2_with fail
      refine (HN.out).mono ?_
      rintro e w1 ⟨_, hyes⟩
      obtain ⟨rfl, hr1, ht1⟩ := hyes _ _ _ rfl
      clear hyes
      have HF := Lib.hid (fail_rd b _ _ w1 hr1)
      go_wp2_with (go_at_call 59; refine (HF.out).mono ?_; rintro e w2 ⟨rfl, hr2, ht2⟩)
      go_ret
      exact Got.no HQ.out hr2 (ht1.trans ht2)
    | false =>
      by_cases hle : n ≤ most
      · have HQ := Lib.hid (show (rNum most ds).map u64v = some (.int .u64 (n : Int), rest) by unfold rNum; rw [hrn]; simp [hle, u64v])
        obtain ⟨R, hR⟩ : ∃ R, (rNum most ds).map u64v = R := ⟨_, rfl⟩
        rw [hR] at HQ ⊢
        have hd : decide ((most : Int) < (n : Int)) = false := by simp; omega
        clear hrn hn hr hR
        go_enter Try.func54, Try.ntmps54
        go_wp2_with fail
        refine (HN.out).mono ?_
        rintro e w1 ⟨_, hyes⟩
        obtain ⟨rfl, hr1, ht1⟩ := hyes _ _ _ rfl
        clear hyes
        go_wp2
        go_ret
        exact Got.yes HQ.out hr1 ht1
      · have HQ := Lib.hid (show (rNum most ds).map u64v = none by unfold rNum; rw [hrn]; simp [hle])
        obtain ⟨R, hR⟩ : ∃ R, (rNum most ds).map u64v = R := ⟨_, rfl⟩
        rw [hR] at HQ ⊢
        have hd : decide ((most : Int) < (n : Int)) = true := by simp; omega
        have hgt : most < n := by omega
        clear hrn hn hr hR hle
        go_enter Try.func54, Try.ntmps54
        go_wp2_with fail
        refine (HN.out).mono ?_
        rintro e w1 ⟨_, hyes⟩
        obtain ⟨rfl, hr1, ht1⟩ := hyes _ _ _ rfl
        clear hyes
        have HF := Lib.hid (fail_rd b _ _ w1 hr1)
        go_wp2_with (go_at_call 59; refine (HF.out).mono ?_; rintro e w2 ⟨rfl, hr2, ht2⟩)
        go_ret
        exact Got.no HQ.out hr2 (ht1.trans ht2)
end
section
open Go.RowKit

/-- Int's reading. -/
def rInt (ds : List Nat) : Option (Int × List Nat) :=
  match rnum ds with
  | some (n, bl, rest) => if n ≤ 9223372036854775807 then some (if bl then -1 - (n : Int) else (n : Int), rest) else none
  | none => none
def i64v (p : Int × List Nat) : Value × List Nat := (.int .i64 p.1, p.2)
theorem rInt_none {ds : List Nat} (h : rnum ds = none) : rInt ds = none := by unfold rInt; rw [h]
theorem rInt_big {ds rest : List Nat} {n : Nat} {bl : Bool} (h : rnum ds = some (n, bl, rest)) (hn : ¬ n ≤ 9223372036854775807) : rInt ds = none := by unfold rInt; rw [h]; exact if_neg hn
theorem rInt_some {ds rest : List Nat} {n : Nat} {bl : Bool} (h : rnum ds = some (n, bl, rest)) (hn : n ≤ 9223372036854775807) : rInt ds = some (if bl then -1 - (n : Int) else (n : Int), rest) := by unfold rInt; rw [h]; exact if_pos hn
set_option maxHeartbeats 1000000 in
theorem int_rd (b : Nat) (ds : List Nat) (bad : Bool) (w : World) (hr : RR w b ds bad) :
    Calls Try.prog 56 #[.pointer (some ⟨b, 0, none⟩)] w (Got b w (.int .i64 0) ((rInt ds).map i64v)) := by
  have hn := number_rd b ds bad w hr
  cases hrn : rnum ds with
  | none =>
    have HQ := Lib.hid (show (rInt ds).map i64v = none by rw [rInt_none hrn]; rfl)
    rw [hrn] at hn
    have HN := Lib.hid hn
    obtain ⟨R, hR⟩ : ∃ R, (rInt ds).map i64v = R := ⟨_, rfl⟩
    rw [hR] at HQ ⊢
    clear hrn hn hr hR
    go_enter Try.func56, Try.ntmps56
    go_wp2_with fail
    refine (HN.out).mono ?_
    rintro e w1 ⟨hno, _⟩
    obtain ⟨rfl, hr1, ht1⟩ := hno rfl
    go_wp2
    go_ret
    exact Got.no HQ.out hr1 ht1
  | some p =>
    obtain ⟨n, bl, rest⟩ := p
    rw [hrn] at hn
    have HN := Lib.hid hn
    by_cases hle : n ≤ 9223372036854775807
    · have hd : decide ((9223372036854775807 : Int) < (n : Int)) = false := by simp; omega
      have hw : IntKind.i64.wrap (n : Int) = (n : Int) := IntWalk.i64_in _ ⟨by omega, by omega⟩
      have hx := i64_not n (by omega)
      cases bl with
      | true =>
        have HQ := Lib.hid (show (rInt ds).map i64v = some (.int .i64 (-1 - (n : Int)), rest) by rw [rInt_some hrn hle]; rfl)
        obtain ⟨R, hR⟩ : ∃ R, (rInt ds).map i64v = R := ⟨_, rfl⟩
        rw [hR] at HQ ⊢
        clear hrn hn hr hR hle
        go_enter Try.func56, Try.ntmps56
        go_wp2_with fail
        refine (HN.out).mono ?_
        rintro e w1 ⟨_, hyes⟩
        obtain ⟨rfl, hr1, ht1⟩ := hyes _ _ _ rfl
        clear hyes
        go_wp2
        go_ret
        exact Got.yes HQ.out hr1 ht1
      | false =>
        have HQ := Lib.hid (show (rInt ds).map i64v = some (.int .i64 (n : Int), rest) by rw [rInt_some hrn hle]; rfl)
        obtain ⟨R, hR⟩ : ∃ R, (rInt ds).map i64v = R := ⟨_, rfl⟩
        rw [hR] at HQ ⊢
        clear hrn hn hr hR hle hx
        go_enter Try.func56, Try.ntmps56
        go_wp2_with fail
        refine (HN.out).mono ?_
        rintro e w1 ⟨_, hyes⟩
        obtain ⟨rfl, hr1, ht1⟩ := hyes _ _ _ rfl
        clear hyes
        go_wp2
        go_ret
        exact Got.yes HQ.out hr1 ht1
    · have hd : decide ((9223372036854775807 : Int) < (n : Int)) = true := by simp; omega
      have HQ := Lib.hid (show (rInt ds).map i64v = none by rw [rInt_big hrn hle]; rfl)
      obtain ⟨R, hR⟩ : ∃ R, (rInt ds).map i64v = R := ⟨_, rfl⟩
      rw [hR] at HQ ⊢
      clear hrn hn hr hR hle
      go_enter Try.func56, Try.ntmps56
      go_wp2_with fail
      refine (HN.out).mono ?_
      rintro e w1 ⟨_, hyes⟩
      obtain ⟨rfl, hr1, ht1⟩ := hyes _ _ _ rfl
      clear hyes
      have HF := Lib.hid (fail_rd b _ _ w1 hr1)
      go_wp2_with (go_at_call 59; refine (HF.out).mono ?_; rintro e w2 ⟨rfl, hr2, ht2⟩)
      go_ret
      exact Got.no HQ.out hr2 (ht1.trans ht2)

/-- Flag's reading. -/
def rFlag (ds : List Nat) : Option (Bool × List Nat) := (rNum 1 ds).map fun p => (p.1 == 1, p.2)
def boolv (p : Bool × List Nat) : Value × List Nat := (.bool p.1, p.2)
set_option maxHeartbeats 1000000 in
theorem flag_rd (b : Nat) (ds : List Nat) (bad : Bool) (w : World) (hr : RR w b ds bad) :
    Calls Try.prog 57 #[.pointer (some ⟨b, 0, none⟩)] w (Got b w (.bool false) ((rFlag ds).map boolv)) := by
  have HN := Lib.hid (num_rd b 1 ds bad w hr)
  cases hrn : rNum 1 ds with
  | none =>
    have HQ := Lib.hid (show (rFlag ds).map boolv = none by unfold rFlag; rw [hrn]; rfl)
    rw [hrn] at HN
    obtain ⟨R, hR⟩ : ∃ R, (rFlag ds).map boolv = R := ⟨_, rfl⟩
    rw [hR] at HQ ⊢
    clear hrn hr hR
    go_enter Try.func57, Try.ntmps57
    go_wp2_with fail
    refine (HN.out).mono ?_
    rintro e w1 ⟨hno, _⟩
    obtain ⟨rfl, hr1, ht1⟩ := hno rfl
    go_wp2
    go_ret
    exact Got.no HQ.out hr1 ht1
  | some p =>
    obtain ⟨n, rest⟩ := p
    have HQ := Lib.hid (show (rFlag ds).map boolv = some (.bool (n == 1), rest) by unfold rFlag; rw [hrn]; rfl)
    rw [hrn] at HN
    obtain ⟨R, hR⟩ : ∃ R, (rFlag ds).map boolv = R := ⟨_, rfl⟩
    rw [hR] at HQ ⊢
    clear hrn hr hR
    have hq : ((n : Int) == 1) = (n == 1) := by
      by_cases h : n = 1
      · subst h; rfl
      · have h2 : ¬ (n : Int) = 1 := by omega
        rw [show ((n : Int) == 1) = false by simpa using h2, show (n == 1) = false by simpa using h]
    go_enter Try.func57, Try.ntmps57
    go_wp2_with fail
    refine (HN.out).mono ?_
    rintro e w1 ⟨_, hyes⟩
    obtain ⟨rfl, hr1, ht1⟩ := hyes _ _ rfl
    clear hyes
    dsimp only
    go_wp2
    go_ret
    exact Got.yes HQ.out hr1 ht1

/-- Raw's reading. -/
def rRaw (n : Int) (ds : List Nat) : Option (List Nat × List Nat) := if n < 0 ∨ (ds.length : Int) < n then none else some (ds.take n.toNat, ds.drop n.toNat)
/-- What Raw hands back. -/
def GotRaw (b : Nat) (w : World) (r : Option (List Nat × List Nat)) (e : Ending) (w' : World) : Prop :=
  (r = none → e = .returned (.slice none 0 0) ∧ RR w' b [] true ∧ Rd b w w') ∧ ∀ xs rest, r = some (xs, rest) → ∃ v bad, e = .returned v ∧ RB w' v xs ∧ RR w' b rest bad ∧ Rd b w w' ∧ (bad = true → True)
theorem clone_none (w : World) : Calls Try.prog 53 #[.slice none 0 0] w fun e w' => e = .returned (.slice none 0 0) ∧ w = w' := by
  have hn := fun (w : World) (n c : Nat) => Lib.run_eql_slice_nil (P := Try.prog) w 35 5 none n c 0 0 Try.underlying35
  go_enter Try.func53, Try.ntmps53
  go_wp2
  go_ret
  exact ⟨rfl, rfl⟩
/-- What Raw hands back, if it reads. -/
def RawYes (b : Nat) (w : World) (xs rest : List Nat) (bad : Bool) (e : Ending) (w' : World) : Prop := ∃ v, e = .returned v ∧ RB w' v xs ∧ RR w' b rest bad ∧ Rd b w w'
/-- Text's reading. -/
def rText (most : Int) (ds : List Nat) : Option (List Nat × List Nat) :=
  if most < 0 then none else match rNum most.toNat ds with
  | some (n, rest) => if n ≤ rest.length then some (rest.take n, rest.drop n) else none
  | none => none
def textv (p : List Nat × List Nat) : Value × List Nat := (.string (str p.1), p.2)
theorem rText_pos (n : Nat) (ds : List Nat) : rText (n : Int) ds = match rNum n ds with
  | some (m, rest) => if m ≤ rest.length then some (rest.take m, rest.drop m) else none
  | none => none := by
  unfold rText
  rw [if_neg (by omega), Int.toNat_natCast]
/-! Nobody's reader. -/
theorem number_nil (w : World) : Calls Try.prog 82 #[.pointer none] w fun e w' => e = .returned (.tuple #[.int .u64 0, .bool false]) ∧ w = w' := by
  have H := Lib.hid (take_nil 1 w)
  go_enter Try.func82, Try.ntmps82
  go_wp2_with (go_at_call 90; refine (H.out).mono ?_; rintro e w' ⟨rfl, rfl⟩)
  go_ret2
  exact ⟨rfl, rfl⟩
theorem rnum_nil (most : Nat) (w : World) : Calls Try.prog 54 #[.pointer none, .int .u64 (most : Int)] w fun e w' => e = .returned (.int .u64 0) ∧ w = w' := by
  have hm : (0 : Int) ≤ (most : Int) := by omega
  go_enter Try.func54, Try.ntmps54
  go_wp2_with (go_at_call 82; refine (number_nil _).mono ?_; rintro e w' ⟨rfl, rfl⟩)
  go_ret
  exact ⟨rfl, rfl⟩
theorem rint_nil (w : World) : Calls Try.prog 56 #[.pointer none] w fun e w' => e = .returned (.int .i64 0) ∧ w = w' := by
  go_enter Try.func56, Try.ntmps56
  go_wp2_with (go_at_call 82; refine (number_nil _).mono ?_; rintro e w' ⟨rfl, rfl⟩)
  go_ret
  exact ⟨rfl, rfl⟩
theorem rflag_nil (w : World) : Calls Try.prog 57 #[.pointer none] w fun e w' => e = .returned (.bool false) ∧ w = w' := by
  have H := Lib.hid (rnum_nil 1 w)
  go_enter Try.func57, Try.ntmps57
  go_wp2_with (go_at_call 54; refine (H.out).mono ?_; rintro e w' ⟨rfl, rfl⟩)
  go_ret
  exact ⟨rfl, rfl⟩
end
end Go.Proofs.Ytnhaakdjijjinaa
