import Derived.Test.YthkjjpkipeeimaaMmF
import Derived.Laws.AppendOwnNone
import Derived.Laws.OwnMore
import Derived.OwnWalk
import Derived.Deep.RegionHeld
namespace Go.Proofs.Ythkjjpkipeeimaa
open Go.RowKit
/- The reference's disk: rows of its files of one's own; append of one file. -/
open Go.RowKit Go.Maps
theorem rfile_info : (Try.prog.info? 45).map (fun i => (i.zero, i.size, i.bytes)) = some (some (.agg #[.string ⟨#[]⟩, .string ⟨#[]⟩, .int .i64 0]), 3, 40) := by kernel_rfl
def c1f (p : Nm × Fl) : List Value := [encStr p.1, .string (str p.2.all), .int .i64 (p.2.kept : Int)]
def cf : Ft → List Value
  | [] => []
  | p :: r => c1f p ++ cf r
theorem cf_len : ∀ l : Ft, (cf l).length = l.length * 3
  | [] => rfl
  | p :: r => by
    show (c1f p ++ cf r).length = _
    rw [List.length_append, cf_len r, List.length_cons]
    show 3 + _ = _
    omega
theorem cf_append : ∀ l m : Ft, cf (l ++ m) = cf l ++ cf m
  | [], _ => rfl
  | p :: r, m => by
    show c1f p ++ cf (r ++ m) = (c1f p ++ cf r) ++ cf m
    rw [cf_append r m, List.append_assoc]
theorem cf_at : ∀ (l : Ft) (k : Nat) (hk : k < l.length), (cf l)[k * 3]? = some (encStr l[k].1) ∧ (cf l)[k * 3 + 1]? = some (.string (str l[k].2.all)) ∧ (cf l)[k * 3 + 2]? = some (.int .i64 (l[k].2.kept : Int))
  | [], _, h => by simp at h
  | p :: r, 0, _ => ⟨rfl, rfl, rfl⟩
  | p :: r, k + 1, h => by
    obtain ⟨h0, h1, h2⟩ := cf_at r k (by simpa using h)
    have e : ∀ j, (cf (p :: r))[(k + 1) * 3 + j]? = (cf r)[k * 3 + j]? := fun j => by
      show (c1f p ++ cf r)[(k + 1) * 3 + j]? = _
      rw [List.getElem?_append_right (by show 3 ≤ _; omega)]
      congr 1
      show (k + 1) * 3 + j - 3 = _
      omega
    have e0 := e 0
    rw [Nat.add_zero, Nat.add_zero] at e0
    exact ⟨e0.trans h0, (e 1).trans h1, (e 2).trans h2⟩
/-- The slice v, whose files are l, is the call's own. -/
def OF (w : World) (base : Nat) (v : Value) (l : Ft) : Prop := w.ownsRow base 45 3 v l.length (cf l)
theorem OF.kept {w w' : World} {base : Nat} {v : Value} {l : Ft} (h : OF w base v l) (hb : Below w.heap.size w w') : OF w' base v l := by
  obtain ⟨h1, h2⟩ := h
  refine ⟨h1, ?_⟩
  rcases h2 with h2 | ⟨g, cap, cur, hv, hg, hh, r⟩
  · exact .inl h2
  · exact .inr ⟨g, cap, cur, hv, hg, by rw [hb.block g (Array.getElem?_eq_some_iff.mp hh).1]; exact hh, r⟩
theorem OF.mono {w : World} {base base' : Nat} {v : Value} {l : Ft} (h : OF w base v l) (hb : base' ≤ base) : OF w base' v l := by
  obtain ⟨h1, h2⟩ := h
  refine ⟨h1, ?_⟩
  rcases h2 with h2 | ⟨g, cap, cur, hv, hg, r⟩
  · exact .inl h2
  · exact .inr ⟨g, cap, cur, hv, by omega, r⟩
theorem OF.nil (w : World) (base : Nat) : OF w base (.slice none 0 0) [] := ⟨rfl, .inl ⟨rfl, rfl⟩⟩
theorem OF.set {w : World} {base : Nat} {v : Value} {l : Ft} (h : OF w base v l) {p : Addr} (hp : p.block < base) (u : Value) : OF (w.setCell p u) base v l := ownsRow_setCell_below h hp u
/-- Its shape, and that it can be read. -/
theorem OF.row {w : World} {base : Nat} {v : Value} {l : Ft} (h : OF w base v l) : ∃ a c, v = .slice a l.length c ∧ FRow w a l := by
  have h' := h
  rcases h'.2 with ⟨hv, h0⟩ | ⟨g, cap, cur, hv, hg, hh, hc, hm, _⟩
  · exact ⟨none, 0, by rw [hv, h0], fun i hi => by omega⟩
  · subst hv
    refine ⟨_, cap, rfl, fun k hk => ⟨g, 0, rfl, (Array.getElem?_eq_some_iff.mp hh).1, ?_⟩⟩
    have c0 := World.ownsRow.cellAt h (k * 3) (by omega)
    have c1 := World.ownsRow.cellAt h (k * 3 + 1) (by omega)
    have c2 := World.ownsRow.cellAt h (k * 3 + 2) (by omega)
    have hs := cf_at l k hk
    rw [hs.1] at c0
    rw [hs.2.1] at c1
    rw [hs.2.2] at c2
    rw [Nat.zero_add]
    exact ⟨c0, c1, c2⟩
/-- append(files of one's own, one file), in a plain region. -/
theorem append_file {w : World} {ops : Array Oper} {rest : List Oper} {o : Oper} {a : Act} {Q : Exit → Act → World → Prop} (hgd : o.guard = none) (s x : Operand)
    (ho : o.op = .call { callee := .builtin .append, args := #[s, x], argTypes := #[27, 27] })
    (base : Nat) (v : Value) (l : Ft) (p : Nm × Fl) (ad : Addr) (c : Nat) (hs : a.eval s = v) (hx : a.eval x = .slice (some ad) 1 c) (hown : OF w base v l)
    (hc : ∀ j u, (c1f p)[j]? = some u → w.cell? (ad.add j) = some u)
    (hlen : l.length ≤ 100000) (hbase : base ≤ w.heap.size)
    (h : ∀ v' w', OF w' base v' (l ++ [p]) → w.heap.size ≤ w'.heap.size → (∀ W, Below base W w → Below base W w') → wpList Try.prog ops Q rest (a.put o.dst v') w') : wpList Try.prog ops Q (o :: rest) a w := by
  obtain ⟨i0, hi, hz0, hz1, hz2⟩ := info_parts3 rfile_info
  refine wpList_append_own w hgd s x 27 ho base 45 i0 (.agg #[.string ⟨#[]⟩, .string ⟨#[]⟩, .int .i64 0]) 3 40 Try.underlying27 hi hz0 hz1 hz2 rfl (by decide) v l.length (cf l) hs hown ad 1 c (c1f p) hx rfl hc
    (by intro u hu; simp only [c1f, List.mem_cons, List.not_mem_nil, or_false] at hu; rcases hu with rfl | rfl | rfl <;> rfl) (by unfold maxLen; omega) (by omega) hbase ?_
  intro v' w' h1 h2 _
  exact h v' w' (by unfold OF; rw [List.length_append, cf_append]; exact h1) h2.size (fun W hW => hW.grown h2 hbase fun k hk => (World.ownsRow.lt hown k hk).1)
/- The reference's disk: without a file. -/
open Go.RowKit Go.Maps
theorem three_rd {w : World} {N : Nat} {x0 x1 x2 : Value} {t : TypeId} (h : w.heap[N]? = some (.cells #[x0, x1, x2] t (0, 0))) : w.cell? ⟨N, 0, none⟩ = some x0 ∧ w.cell? ⟨N, 1, none⟩ = some x1 ∧ w.cell? ⟨N, 2, none⟩ = some x2 := by
  refine ⟨?_, ?_, ?_⟩ <;> simp [World.cell?, h]
def woF (L : Ft) (n : Nm) : Ft := L.filter (fun p => !(p.1 == n))
theorem woF_no {L : Ft} {i : Nat} {n : Nm} (hi : i < L.length) (h : (L[i].1 == n) = true) : woF (L.take (i + 1)) n = woF (L.take i) n := by
  unfold woF
  rw [List.take_succ_eq_append_getElem hi, List.filter_append]
  simp [h]
theorem woF_yes {L : Ft} {i : Nat} {n : Nm} (hi : i < L.length) (h : (L[i].1 == n) = false) : woF (L.take (i + 1)) n = woF (L.take i) n ++ [L[i]] := by
  unfold woF
  rw [List.take_succ_eq_append_getElem hi, List.filter_append]
  simp [h]
theorem woF_len (L : Ft) (n : Nm) : (woF L n).length ≤ L.length := List.length_filter_le _ _
set_option maxRecDepth 100000 in
set_option maxHeartbeats 8000000 in
theorem rwithout (room : Int) (a : Option Addr) (c : Nat) (down : Bool) (armed st : Int) (L : Ft) (n : Nm) (w : World) (h : FRow w a L) (hl : L.length ≤ 100000) : Calls Try.prog 111 #[.agg #[.int .i64 room, .slice a L.length c, .bool down, .int .i64 armed, .int .u64 st], encStr n] w fun e w' => ∃ v, e = .returned (.agg #[.int .i64 room, v, .bool down, .int .i64 armed, .int .u64 st]) ∧ OF w' w.heap.size v (woF L n) ∧ Below w.heap.size w w' := by
  obtain ⟨ln, hln⟩ : ∃ ln, L.length = ln := ⟨_, rfl⟩
  have HLN := Lib.hid hln
  obtain ⟨B1, s0, s1, hz⟩ := box2 w #[.int .i64 room, .slice a ln c, .bool down, .int .i64 armed, .int .u64 st] #[.int .i64 0, .slice none 0 0, .bool false, .int .i64 0, .int .u64 0] 30 30
  have HR1 := Lib.hid (h.below B1)
  have HB := Lib.hid B1
  have HS0 := Lib.hid s0
  have HS1 := Lib.hid s1
  have HZ := Lib.hid hz
  have HL := Lib.hid hl
  have c1 := (five_rd s0).2.1
  rw [hln]
  clear h B1 s0 s1 hz hl hln
  go_enter Try.func111, Try.ntmps111
  go_upto_region 1 with fail
  obtain ⟨N, hN⟩ : ∃ N, w.heap.size = N := ⟨_, rfl⟩
  have HN := Lib.hid hN
  rw [hN] at HS0 HS1 HZ c1
  try rw [hN]
  clear hN
  generalize (w.alloc (.cells #[.int .i64 room, .slice a ln c, .bool down, .int .i64 armed, .int .u64 st] 30)).alloc (.cells #[.int .i64 0, .slice none 0 0, .bool false, .int .i64 0, .int .u64 0] 30) = w1 at HS0 HS1 HB HZ HR1 c1 ⊢
  go_wp2_with fail
  clear c1
  go_loopg [5, 6] ln (fun kx s5 s6 wr => ∃ (i : Nat) (v : Value), s6 = .int .i64 i ∧ v = s5 ∧ i ≤ ln ∧ ln - i ≤ kx ∧ Hid (OF wr w1.heap.size v (woF (L.take i) n)) ∧ Hid (Below w1.heap.size w1 wr))
  case atStart => exact ⟨0, _, rfl, rfl, by omega, by omega, Lib.hid (OF.nil _ _), Lib.hid (Below.refl _ _)⟩
  case round =>
    obtain ⟨i, v, rfl, rfl, hi, hk, HO, HBR⟩ := hrel
    have s0' := ex_below HS0.out HBR.out
    obtain ⟨c0, c1, c2, c3, c4⟩ := five_rd s0'
    obtain ⟨av, cv, hv, -⟩ := HO.out.row
    obtain ⟨lv, hlv⟩ : ∃ lv, (woF (L.take i) n).length = lv := ⟨_, rfl⟩
    rw [hlv] at hv
    subst hv
    by_cases hlt : i < ln
    · have hltz : (i : Int) < (ln : Int) := by omega
      have hi0 : (0 : Int) ≤ (i : Int) := by omega
      have hiL : i < L.length := by rw [HLN.out]; exact hlt
      obtain ⟨b, o, rfl, hb, k0, k1, k2⟩ := (HR1.out.below HBR.out) i hiL
      have HC : ∀ j u, (c1f L[i])[j]? = some u → wr.cell? ⟨b, o + i * 3 + j, none⟩ = some u := fun j u hj => by
        rcases j with _ | _ | _ | j
        · injection hj with hj; subst hj; exact k0
        · injection hj with hj; subst hj; exact k1
        · injection hj with hj; subst hj; exact k2
        · cases hj
      obtain ⟨p, hp⟩ : ∃ p, L[i] = p := ⟨_, rfl⟩
      obtain ⟨q, f⟩ := p
      rw [hp] at k0 k1 k2
      dsimp only at k0 k1 k2
      have HWI : Hid (wrap64 ((i : Int) + 1) = (i : Int) + 1) := Lib.hid (IntWalk.wrap64_in _ (by have := HL.out; have := HLN.out; omega))
      by_cases he : q = n
      · subst he
        have HO2 : Hid (OF wr w1.heap.size (.slice av lv cv) (woF (L.take (i + 1)) q)) := Lib.hid (by rw [woF_no hiL (by rw [hp]; exact beq_self_eq_true q)]; exact HO.out)
        clear hp hb HC HO s0' hlv
        go_wp2_with fail
        go_roundg (ln - (i + 1))
        case measure => omega
        case rel => exact ⟨i + 1, _, by rw [HWI.out]; rfl, rfl, by omega, by omega, HO2, HBR⟩
      · have hb2 : (q == n) = false := beq_false_of_ne he
        have HE : Hid (woF (L.take (i + 1)) n = woF (L.take i) n ++ [(q, f)]) := Lib.hid (by rw [woF_yes hiL (by rw [hp]; exact hb2), hp])
        obtain ⟨bx, hbx⟩ : ∃ bx : World, wr.alloc (.cells #[encStr q, .string (str f.all), .int .i64 (f.kept : Int)] 45) = bx := ⟨_, rfl⟩
        obtain ⟨B2, s2, -⟩ := box1 wr #[encStr q, .string (str f.all), .int .i64 (f.kept : Int)] 45
        have HOA : Hid (OF (wr.alloc (.cells #[encStr q, .string (str f.all), .int .i64 (f.kept : Int)] 45)) w1.heap.size (.slice av lv cv) (woF (L.take i) n)) := Lib.hid (HO.out.kept B2)
        have HBA : Hid (Below w1.heap.size w1 (wr.alloc (.cells #[encStr q, .string (str f.all), .int .i64 (f.kept : Int)] 45))) := Lib.hid (HBR.out.trans (B2.mono HBR.out.size))
        have HCA : Hid (∀ j u, (c1f (q, f))[j]? = some u → (wr.alloc (.cells #[encStr q, .string (str f.all), .int .i64 (f.kept : Int)] 45)).cell? ((⟨wr.heap.size, 0, none⟩ : Addr).add j) = some u) := Lib.hid (fun j u hj => by
          rw [add_at, Nat.zero_add]
          rcases j with _ | _ | _ | j
          · injection hj with hj; subst hj; exact (three_rd s2).1
          · injection hj with hj; subst hj; exact (three_rd s2).2.1
          · injection hj with hj; subst hj; exact (three_rd s2).2.2
          · cases hj)
        have HLV : Hid ((woF (L.take i) n).length ≤ 100000) := Lib.hid (by have h1 := woF_len (L.take i) n; rw [List.length_take] at h1; have := HL.out; omega)
        clear he hp hb HC HO s0' hlv B2 s2 hbx HBR
        go_wp2_with (refine append_file rfl (.tmp 22) (.tmp 28) rfl w1.heap.size (.slice av lv cv) (woF (L.take i) n) (q, f) ⟨wr.heap.size, 0, none⟩ 1 rfl rfl HOA.out HCA.out HLV.out HBA.out.size ?_; intro v' w' h1 h2 h3; have HO3 := Lib.hid h1; have HB3 := Lib.hid (h3 _ HBA.out); clear h1 h2 h3)
        go_roundg (ln - (i + 1))
        case measure => omega
        case rel => exact ⟨i + 1, _, by rw [HWI.out]; rfl, rfl, by omega, by omega, Lib.hid (by rw [HE.out]; exact HO3.out), HB3⟩
    · have hltz : ¬ (i : Int) < (ln : Int) := by omega
      obtain rfl : i = ln := by omega
      have s1' := ex_below HS1.out HBR.out
      obtain ⟨p0, p1, p2, p3, p4⟩ := five_rd s1'
      have f0 : ∀ o, wr.frozen? ⟨N, o, none⟩ = false := fun o => by simp [World.frozen?, s0']
      have f1 : ∀ o, wr.frozen? ⟨N + 1, o, none⟩ = false := fun o => by simp [World.frozen?, s1']
      have HTK : Hid (L.take i = L) := Lib.hid (List.take_of_length_le (by rw [HLN.out]; exact Nat.le_refl _))
      clear s0' s1' hi hk hlv
      go_wp2_with fail
      refine bodyPost_ret (rd_res1 rfl _ _ (N + 1) (.int .i64 room) (.slice av lv cv) (.bool down) (.int .i64 armed) (.int .u64 st) rfl (by go_simp) (by go_simp) (by go_simp) (by go_simp) (by go_simp)) rfl ?_
      have hN := HN.out
      have hz := HZ.out
      have ho := HO.out
      rw [HTK.out] at ho
      refine ⟨_, rfl, ?_, ?_⟩
      · exact ((((((ho.set (by show N < _; omega) _).set (by show N + 1 < _; omega) _).set (by show N + 1 < _; omega) _).set (by show N + 1 < _; omega) _).set (by show N + 1 < _; omega) _).set (by show N + 1 < _; omega) _).mono HB.out.size
      · exact below_two (below_two (below_two (below_two (below_two (below_two (HB.out.trans (HBR.out.mono HB.out.size)) (by omega) _ _) (by omega) _ _) (by omega) _ _) (by omega) _ _) (by omega) _ _) (by omega) _ _
/- The reference's disk: with and without, as the tables of files have them. -/
open Go.RowKit Go.Maps
theorem delF_cons (m : Nm) (f : Fl) (r : Ft) (n : Nm) : delF ((m, f) :: r) n = if m = n then delF r n else (m, f) :: delF r n := rfl
theorem putF_cons (m : Nm) (g : Fl) (r : Ft) (n : Nm) (f : Fl) : putF ((m, g) :: r) n f = if n = m then (n, f) :: r else if n < m then (n, f) :: (m, g) :: r else (m, g) :: putF r n f := rfl
theorem woF_del : ∀ (L : Ft) (n : Nm), woF L n = delF L n
  | [], _ => rfl
  | (m, f) :: r, n => by
    have ih := woF_del r n
    unfold woF at ih ⊢
    rw [List.filter_cons, delF_cons]
    by_cases e : m = n
    · subst e
      rw [if_neg (by simp), if_pos rfl, ih]
    · rw [if_pos (by simp [e]), if_neg e, ih]
theorem delF_id : ∀ {L : Ft} {n : Nm}, (∀ p ∈ L, p.1 ≠ n) → delF L n = L
  | [], _, _ => rfl
  | (m, f) :: r, n, h => by
    rw [delF_cons, if_neg (h (m, f) List.mem_cons_self), delF_id (fun p hp => h p (List.mem_cons_of_mem _ hp))]
/-- What the reference's `with` makes of a row without the name: the file goes before the first that is greater. -/
def inF (x : Nm × Fl) : Ft → Ft
  | [] => [x]
  | p :: r => if x.1 < p.1 then x :: p :: r else p :: inF x r
theorem inF_cons (x p : Nm × Fl) (r : Ft) : inF x (p :: r) = if x.1 < p.1 then x :: p :: r else p :: inF x r := rfl
theorem inF_all : ∀ {L : Ft} {x : Nm × Fl}, (∀ p ∈ L, x.1 < p.1) → inF x L = x :: L
  | [], _, _ => rfl
  | p :: r, x, h => by rw [inF_cons, if_pos (h p List.mem_cons_self)]
theorem in_put : ∀ {L : Ft} (n : Nm) (f : Fl), SrtF L → inF (n, f) (delF L n) = putF L n f
  | [], _, _, _ => rfl
  | (m, g) :: r, n, f, hs => by
    obtain ⟨h1, h2⟩ := List.pairwise_cons.1 hs
    rw [delF_cons, putF_cons]
    by_cases e : m = n
    · subst e
      rw [if_pos rfl, if_pos rfl, delF_id (fun p hp e => by have h3 := h1 p hp; rw [e] at h3; exact nm_irrefl m h3)]
      exact inF_all (fun p hp => h1 p hp)
    · rw [if_neg e, if_neg (fun h => e h.symm), inF_cons]
      by_cases hl : n < m
      · rw [if_pos hl, if_pos hl, delF_id (fun p hp e2 => by have h3 := h1 p hp; rw [e2] at h3; exact nm_irrefl m (nm_trans h3 hl))]
      · rw [if_neg hl, if_neg hl, in_put n f h2]
end Go.Proofs.Ythkjjpkipeeimaa
