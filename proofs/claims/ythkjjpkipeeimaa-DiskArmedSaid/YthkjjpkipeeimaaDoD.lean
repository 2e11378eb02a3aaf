/- The law's Tears: a row of tears, as the reference has it. -/
import Derived.Test.YthkjjpkipeeimaaDoC
namespace Go.Proofs.Ythkjjpkipeeimaa
open Go.RowKit Go.Maps
theorem rt_info : (Try.prog.info? 178).map (fun i => (i.zero, i.size, i.bytes)) = some (some (.agg #[.int .u16 0, .int .u32 0]), 2, 8) := by kernel_rfl
def c1t (p : Nat × Nat) : List Value := [.int .u16 (p.1 : Int), .int .u32 (p.2 : Int)]
def ct_ : List (Nat × Nat) → List Value
  | [] => []
  | p :: r => c1t p ++ ct_ r
theorem ct_len : ∀ l : List (Nat × Nat), (ct_ l).length = l.length * 2
  | [] => rfl
  | p :: r => by
    show (c1t p ++ ct_ r).length = _
    rw [List.length_append, ct_len r, List.length_cons]
    show 2 + _ = _
    omega
theorem ct_append : ∀ l m : List (Nat × Nat), ct_ (l ++ m) = ct_ l ++ ct_ m
  | [], _ => rfl
  | p :: r, m => by
    show c1t p ++ ct_ (r ++ m) = (c1t p ++ ct_ r) ++ ct_ m
    rw [ct_append r m, List.append_assoc]
theorem ct_at : ∀ (l : List (Nat × Nat)) (k : Nat) (hk : k < l.length), (ct_ l)[k * 2]? = some (.int .u16 (l[k].1 : Int)) ∧ (ct_ l)[k * 2 + 1]? = some (.int .u32 (l[k].2 : Int))
  | [], _, h => by simp at h
  | p :: r, 0, _ => ⟨rfl, rfl⟩
  | p :: r, k + 1, h => by
    obtain ⟨h0, h1⟩ := ct_at r k (by simpa using h)
    have e : ∀ j, (ct_ (p :: r))[(k + 1) * 2 + j]? = (ct_ r)[k * 2 + j]? := fun j => by
      show (c1t p ++ ct_ r)[(k + 1) * 2 + j]? = _
      rw [List.getElem?_append_right (by show 2 ≤ _; omega)]
      congr 1
      show (k + 1) * 2 + j - 2 = _
      omega
    have e0 := e 0
    rw [Nat.add_zero, Nat.add_zero] at e0
    exact ⟨e0.trans h0, (e 1).trans h1⟩
def OTr (w : World) (base : Nat) (v : Value) (l : List (Nat × Nat)) : Prop := w.ownsRow base 178 2 v l.length (ct_ l)
theorem OTr.kept {w w' : World} {base : Nat} {v : Value} {l : List (Nat × Nat)} (h : OTr w base v l) (hb : Below w.heap.size w w') : OTr w' base v l := by
  obtain ⟨h1, h2⟩ := h
  refine ⟨h1, ?_⟩
  rcases h2 with h2 | ⟨g, cap, cur, hv, hg, hh, r⟩
  · exact .inl h2
  · exact .inr ⟨g, cap, cur, hv, hg, by rw [hb.block g (Array.getElem?_eq_some_iff.mp hh).1]; exact hh, r⟩
theorem OTr.nil (w : World) (base : Nat) : OTr w base (.slice none 0 0) [] := ⟨rfl, .inl ⟨rfl, rfl⟩⟩
theorem OTr.row {w : World} {base : Nat} {v : Value} {l : List (Nat × Nat)} (h : OTr w base v l) : ∃ a c, v = .slice a l.length c ∧ TRow (fun _ => False) w a l := by
  have h' := h
  rcases h'.2 with ⟨hv, h0⟩ | ⟨g, cap, cur, hv, hg, hh, hc, hm, _⟩
  · exact ⟨none, 0, by rw [hv, h0], fun i hi => by omega⟩
  · subst hv
    refine ⟨_, cap, rfl, fun k hk => ⟨g, 0, rfl, (Array.getElem?_eq_some_iff.mp hh).1, fun e => e, ?_⟩⟩
    have c0 := World.ownsRow.cellAt h (k * 2) (by omega)
    have c1 := World.ownsRow.cellAt h (k * 2 + 1) (by omega)
    have hs := ct_at l k hk
    rw [hs.1] at c0
    rw [hs.2] at c1
    rw [Nat.zero_add]
    exact ⟨c0, c1⟩
theorem append_tear {w : World} {ops : Array Oper} {rest : List Oper} {o : Oper} {a : Act} {Q : Exit → Act → World → Prop} (hgd : o.guard = none) (s x : Operand)
    (ho : o.op = .call { callee := .builtin .append, args := #[s, x], argTypes := #[119, 119] })
    (base : Nat) (v : Value) (l : List (Nat × Nat)) (p : Nat × Nat) (ad : Addr) (c : Nat) (hs : a.eval s = v) (hx : a.eval x = .slice (some ad) 1 c) (hown : OTr w base v l)
    (hc : ∀ j u, (c1t p)[j]? = some u → w.cell? (ad.add j) = some u)
    (hlen : l.length ≤ 100000) (hbase : base ≤ w.heap.size)
    (h : ∀ v' w', OTr w' base v' (l ++ [p]) → w.heap.size ≤ w'.heap.size → (∀ W, Below base W w → Below base W w') → wpList Try.prog ops Q rest (a.put o.dst v') w') : wpList Try.prog ops Q (o :: rest) a w := by
  obtain ⟨i0, hi, hz0, hz1, hz2⟩ := info_parts3 rt_info
  refine wpList_append_own w hgd s x 119 ho base 178 i0 (.agg #[.int .u16 0, .int .u32 0]) 2 8 Try.underlying119 hi hz0 hz1 hz2 rfl (by decide) v l.length (ct_ l) hs hown ad 1 c (c1t p) hx rfl hc
    (by intro u hu; simp only [c1t, List.mem_cons, List.not_mem_nil, or_false] at hu; rcases hu with rfl | rfl <;> rfl) (by unfold maxLen; omega) (by omega) hbase ?_
  intro v' w' h1 h2 _
  exact h v' w' (by unfold OTr; rw [List.length_append, ct_append]; exact h1) h2.size (fun W hW => hW.grown h2 hbase fun k hk => (World.ownsRow.lt hown k hk).1)
theorem TRow.blw {P : Nat → Prop} {w w' : World} {a : Option Addr} {ts : List (Nat × Nat)} (h : TRow P w a ts) (hb : Below w.heap.size w w') : TRow P w' a ts := fun i hi => by
  obtain ⟨b, o, e, h1, h2, h3, h4⟩ := h i hi
  exact ⟨b, o, e, Nat.lt_of_lt_of_le h1 hb.size, h2, (hb.cell (p := ⟨b, _, none⟩) h1).trans h3, (hb.cell (p := ⟨b, _, none⟩) h1).trans h4⟩
set_option maxRecDepth 100000 in
set_option maxHeartbeats 8000000 in
theorem ltears (P : Nat → Prop) (a : Option Addr) (c : Nat) (ts : List (Nat × Nat)) (w : World) (h : TRow P w a ts) (hl : ts.length ≤ 1000) : Calls Try.prog 67 #[.slice a ts.length c] w fun e w' => ∃ a' c', e = .returned (.slice a' ts.length c') ∧ TRow (fun _ => False) w' a' ts ∧ Below w.heap.size w w' := by
  have HR := Lib.hid h
  have HLEN := Lib.hid hl
  obtain ⟨ln, hln⟩ : ∃ ln, ts.length = ln := ⟨_, rfl⟩
  have HLN := Lib.hid hln
  rw [hln]
  clear h hl hln
  go_enter Try.func67, Try.ntmps67
  go_wp2_with fail
  go_loopg [3, 8] ln (fun kx s3 s8 wr => ∃ (i : Nat) (v : Value), s8 = .int .i64 (i : Int) ∧ v = s3 ∧ i ≤ ln ∧ ln - i ≤ kx ∧ Hid (OTr wr w.heap.size v (ts.take i)) ∧ Hid (Below w.heap.size w wr))
  case atStart => exact ⟨0, _, rfl, rfl, by omega, by omega, Lib.hid (OTr.nil _ _), Lib.hid (Below.refl _ _)⟩
  case round =>
    obtain ⟨i, v, rfl, rfl, hi, hk, HO, HB⟩ := hrel
    obtain ⟨w4, rfl⟩ : ∃ W, W = wr := ⟨_, rfl⟩
    obtain ⟨av, cv, hv, -⟩ := HO.out.row
    obtain ⟨lv, hlv⟩ : ∃ lv, (ts.take i).length = lv := ⟨_, rfl⟩
    rw [hlv] at hv
    subst hv
    clear hlv
    by_cases hlt : i < ln
    · have hltz : (i : Int) < (ln : Int) := by omega
      have hi0 : (0 : Int) ≤ (i : Int) := by omega
      have hiL : i < ts.length := by rw [HLN.out]; exact hlt
      have HWI : Hid (wrap64 ((i : Int) + 1) = (i : Int) + 1) := Lib.hid (IntWalk.wrap64_in _ (by have := HLEN.out; have := HLN.out; omega))
      obtain ⟨b, o, rfl, -, -, k0, k1⟩ := (HR.out.blw HB.out) i hiL
      have HTS0 := List.take_succ_eq_append_getElem hiL
      obtain ⟨p, hp⟩ : ∃ p, ts[i] = p := ⟨_, rfl⟩
      obtain ⟨t0, t1⟩ := p
      rw [hp] at k0 k1 HTS0
      dsimp only at k0 k1
      have HTS := Lib.hid HTS0
      clear hp hiL HTS0
      obtain ⟨hb5, hs5, -⟩ := box1 w4 #[.int .u16 (t0 : Int), .int .u32 (t1 : Int)] 109
      have HS5 := Lib.hid hs5
      have HO5 := Lib.hid (HO.out.kept hb5)
      have HB5 := Lib.hid (HB.out.trans (hb5.mono HB.out.size))
      obtain ⟨NF, hNF⟩ : ∃ NF, w4.heap.size = NF := ⟨_, rfl⟩
      rw [hNF] at HS5
      clear hb5 hs5 HO HB
      go_upto_region 5 with fail
      try rw [hNF]
      clear hNF k0 k1
      generalize w4.alloc (.cells #[.int .u16 (t0 : Int), .int .u32 (t1 : Int)] 109) = w5 at HS5 HO5 HB5 ⊢
      obtain ⟨x0, x1⟩ := two_rd HS5.out
      obtain ⟨hba, hsa, -⟩ := box1 w5 #[.int .u16 (t0 : Int), .int .u32 (t1 : Int)] 178
      have HOA := Lib.hid (HO5.out.kept hba)
      have HBA := Lib.hid (HB5.out.trans (hba.mono HB5.out.size))
      have HCA : Hid (∀ j u, (c1t (t0, t1))[j]? = some u → (w5.alloc (.cells #[.int .u16 (t0 : Int), .int .u32 (t1 : Int)] 178)).cell? ((⟨w5.heap.size, 0, none⟩ : Addr).add j) = some u) := Lib.hid (fun j u hj => by
        rw [add_at, Nat.zero_add]
        rcases j with _ | _ | j
        · injection hj with hj; subst hj; exact (two_rd hsa).1
        · injection hj with hj; subst hj; exact (two_rd hsa).2
        · cases hj)
      have HLV : Hid ((ts.take i).length ≤ 100000) := Lib.hid (by rw [List.length_take]; have := HLEN.out; omega)
      clear hba hsa HO5 HB5
      go_wp2_with (refine append_tear rfl (.tmp 12) (.tmp 14) rfl w.heap.size (.slice av lv cv) (ts.take i) (t0, t1) ⟨w5.heap.size, 0, none⟩ 1 rfl rfl HOA.out HCA.out HLV.out HBA.out.size ?_; intro v' w' h1 h2 h3; have HO3 := Lib.hid h1; have HB3 := Lib.hid (h3 _ HBA.out); clear h1 h2 h3)
      go_roundg (ln - (i + 1))
      case measure => omega
      case rel => exact ⟨i + 1, _, by rw [HWI.out]; rfl, rfl, by omega, by omega, Lib.hid (by rw [HTS.out]; exact HO3.out), HB3⟩
    · have hltz : ¬ (i : Int) < (ln : Int) := by omega
      obtain rfl : i = ln := by omega
      have HTK : Hid (ts.take i = ts) := Lib.hid (List.take_of_length_le (by rw [HLN.out]; exact Nat.le_refl _))
      clear hi hk
      go_wp2_with fail
      go_ret
      have ho := HO.out
      rw [HTK.out] at ho
      obtain ⟨a', c', e, hr⟩ := ho.row
      rw [HLN.out] at e
      exact ⟨a', ⟨c', by rw [← e]; rfl⟩, hr, HB.out⟩
end Go.Proofs.Ythkjjpkipeeimaa
