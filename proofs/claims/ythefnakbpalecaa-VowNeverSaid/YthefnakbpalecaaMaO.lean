import Derived.Test.YthefnakbpalecaaMaN
import Derived.Test.YthefnakbpalecaaDkS
import Derived.Shelf.Small.Bits
import Derived.Sort.OwnSorted
import Derived.Maps.AppendAt
import Derived.Deep.Slices
namespace Go.Proofs.Ythefnakbpalecaa
open Go.RowKit
/- The disk: the names of its files. -/
open Go.RowKit Go.Maps Go.Shelf
def sc (l : List Nm) : List Value := l.map encStr
theorem str_infoW : (Try.prog.info? 9).map (fun i => (i.zero, i.size, i.bytes)) = some (some (.string ⟨#[]⟩), 1, 16) := by kernel_rfl
theorem info_parts3 {t : TypeId} {z : Option Value} {n b : Nat} (h : (Try.prog.info? t).map (fun i => (i.zero, i.size, i.bytes)) = some (z, n, b)) : ∃ i, Try.prog.info? t = some i ∧ i.zero = z ∧ i.size = n ∧ i.bytes = b := by
  cases hi : Try.prog.info? t with
  | none => rw [hi] at h; cases h
  | some i =>
    rw [hi] at h
    simp only [Option.map_some, Option.some.injEq, Prod.mk.injEq] at h
    exact ⟨i, rfl, h.1, h.2.1, h.2.2⟩
/-- A row of strings of one's own. -/
def OZ (w : World) (base : Nat) (v : Value) (l : List Nm) : Prop := w.ownsRow base 9 1 v l.length (sc l)
theorem OZ.nil (w : World) (base : Nat) : OZ w base (.slice none 0 0) [] := ⟨rfl, .inl ⟨rfl, rfl⟩⟩
theorem OZ.lt {w : World} {base : Nat} {v : Value} {l : List Nm} (h : OZ w base v l) {g : Nat} (hg : v.ownBlock = some g) : base ≤ g ∧ g < w.heap.size := World.ownsRow.lt h g hg
theorem OZ.below {w w' : World} {base : Nat} {v : Value} {l : List Nm} (h : OZ w base v l) (hb : Below w.heap.size w w') : OZ w' base v l := by
  refine ⟨h.1, ?_⟩
  have hl := fun g => OZ.lt h (g := g)
  rcases h.2 with h2 | ⟨g, cap, cur, e, hg, hc, r⟩
  · exact .inl h2
  · exact .inr ⟨g, cap, cur, e, hg, (hb.block g (hl g (by rw [e]; rfl)).2).trans hc, r⟩
theorem OZ.cells {w : World} {base : Nat} {v : Value} {l : List Nm} (h : OZ w base v l) : ∃ a c, v = .slice a l.length c ∧ ∀ k (hk : k < l.length), ∃ g, a = some ⟨g, 0, none⟩ ∧ w.cell? ⟨g, k, none⟩ = some (encStr l[k]) := by
  have h' := h
  rcases h'.2 with ⟨rfl, h0⟩ | ⟨g, cap, cur, rfl, _, _, hc, _⟩
  · have e : l = [] := List.length_eq_zero_iff.1 h0
    subst e
    exact ⟨none, 0, rfl, fun k hk => (by simp at hk)⟩
  · refine ⟨_, _, rfl, fun k hk => ⟨g, rfl, ?_⟩⟩
    exact (World.ownsRow.cellAt h k (by omega)).trans (by unfold sc; rw [List.getElem?_map, List.getElem?_eq_getElem hk]; rfl)
/-- One place more. -/
theorem append_s {w : World} {ops : Array Oper} {rest : List Oper} {o : Oper} {a : Act} {Q : Exit → Act → World → Prop} (hgd : o.guard = none) (s x : Operand)
    (ho : o.op = .call { callee := .builtin .append, args := #[s, x], argTypes := #[140, 140] })
    (base : Nat) (v : Value) (l : List Nm) (z : Nm) (p : Addr) (c : Nat) (hs : a.eval s = v) (hx : a.eval x = .slice (some p) 1 c) (hown : OZ w base v l)
    (hR : w.cell? p = some (encStr z)) (hlen : l.length + 1 ≤ 100000) (hbase : base ≤ w.heap.size)
    (h : ∀ v' w', OZ w' base v' (l ++ [z]) → w.grownBy w' v.ownBlock → wpList Try.prog ops Q rest (a.put o.dst v') w') : wpList Try.prog ops Q (o :: rest) a w := by
  obtain ⟨i0, hi, hz0, hz1, hz2⟩ := info_parts3 str_infoW
  refine wpList_append_own_at w hgd s x 140 ho base 9 i0 (.string ⟨#[]⟩) 1 16 Try.underlying140 hi hz0 hz1 hz2 rfl (by decide) v l.length (sc l) hs hown p 1 c (sc [z]) hx (by simp [sc]) ?_
    (fun u hu => by obtain ⟨z, _, rfl⟩ := List.mem_map.1 hu; rfl) (by unfold maxLen; omega) (by omega) hbase ?_
  · intro j u hj
    have hlt := (List.getElem?_eq_some_iff.1 hj).1
    have h0 : j = 0 := by simpa [sc] using hlt
    subst h0
    simp [sc] at hj
    subst hj
    simpa [Addr.add] using hR
  · intro v' w' h1 h2 _ _
    exact h v' w' (by unfold OZ; rw [List.length_append, show sc (l ++ [z]) = sc l ++ sc [z] from List.map_append]; exact h1) h2

theorem insertion_nil (w : World) : Calls Try.prog 156 #[.slice none 0 0, .int .i64 0, .int .i64 0] w fun e w' => e = .returned (.tuple #[]) ∧ w = w' := by
  go_enter Try.func156, Try.ntmps156
  go_wp2_with fail
  go_loopw [6] (fun i wr => i = .int .i64 1 ∧ wr = w) (fun _ _ => 0)
  case atStart => exact ⟨rfl, rfl⟩
  case round =>
    obtain ⟨rfl, rfl⟩ := hrel
    go_wp2_with fail
    go_end0
    exact ⟨rfl, rfl⟩
theorem pdq_nil (lim : Int) (w : World) : Calls Try.prog 144 #[.slice none 0 0, .int .i64 0, .int .i64 0, .int .i64 lim] w fun e w' => e = .returned (.tuple #[]) ∧ w = w' := by
  have hi := fun W => insertion_nil W
  go_enter Try.func144, Try.ntmps144
  go_wp2_with fail
  go_loopw [1, 2] (fun a b wr => a = .int .i64 0 ∧ b = .int .i64 0 ∧ wr = w) (fun _ _ _ => 0)
  case atStart => exact ⟨rfl, rfl, rfl⟩
  case round =>
    obtain ⟨rfl, rfl, rfl⟩ := hrel
    go_wp2_with (go_at_call 156; refine (hi _).mono ?_; rintro e w' ⟨rfl, rfl⟩)
    (try simp only [Exit.inBlock, Exit.then]); refine bodyPost_ret (results_none rfl _ _ _) rfl ?_
    exact ⟨rfl, rfl⟩
theorem sort_nil (w : World) : Calls Try.prog 123 #[.slice none 0 0] w fun e w' => e = .returned (.tuple #[]) ∧ w = w' := by
  have hp := fun lim W => pdq_nil lim W
  have hl : ∀ W, Calls Try.prog 145 #[.int .u64 0] W fun e w' => e = .returned (.int .i64 (Lib.bitLen 0 : Nat)) ∧ w' = W := fun W =>
    Any.bits_Len (P := Try.prog) (ρ := sortStr_ren) { sortStr with } 0 W (by omega) (by omega)
  go_enter Try.func123, Try.ntmps123
  go_wp2_with (first
    | (go_at_call 145; refine (hl _).mono ?_; rintro e w' ⟨rfl, rfl⟩)
    | (go_at_call 144; refine (hp _ _).mono ?_; rintro e w' ⟨rfl, rfl⟩))
  go_end0
  exact ⟨rfl, rfl⟩
theorem sort_oz (base : Nat) (v : Value) (ss : List Nm) (w : World) (h : OZ w base v ss) (hl : ss.length ≤ 100000) : Calls Try.prog 123 #[v] w fun e w' => e = .returned (.tuple #[]) ∧ OZ w' base v (ss.mergeSort leB) ∧ w.grownBy w' v.ownBlock := by
  rcases h.2 with ⟨rfl, h0⟩ | ⟨g, cap, cur, rfl, hbase, hb, h1, h2, h3, h4⟩
  · obtain rfl : ss = [] := List.length_eq_zero_iff.1 h0
    refine (sort_nil w).mono ?_
    rintro e w' ⟨rfl, rfl⟩
    exact ⟨rfl, by simpa using OZ.nil w base, World.grownBy.refl _ _⟩
  · have hc := Any.slices_Sort_string sortStr g 0 cap ss w (holds_of_block hb (by simpa [sc] using h4)) (Array.getElem?_eq_some_iff.1 hb).1 (by omega)
    change Calls Try.prog 123 _ _ _ at hc
    refine hc.mono ?_
    rintro e w' ⟨rfl, n, os, rfl⟩
    have hln : (ss.mergeSort leB).length = ss.length := List.length_mergeSort ss
    refine ⟨rfl, ?_, grownBy_sorted _⟩
    have := ownsRow_sorted (n := n) (os := os) (ts := ss.mergeSort leB) hln hbase hb h1 h2 h3
    unfold OZ
    rw [hln]
    exact this
/- The disk: Names. -/
open Go.RowKit Go.Maps
def keysF (L : Ft) : List Nm := L.map (·.1)
theorem keysF_sorted {L : Ft} (h : SrtF L) : (keysF L).Pairwise (· < ·) := List.pairwise_map.2 h
theorem keysF_mem {L : Ft} {n : Nm} : n ∈ keysF L ↔ getF L n ≠ none := by
  constructor
  · intro h e
    obtain ⟨p, hp, rfl⟩ := List.mem_map.1 h
    exact getF_none e p hp rfl
  · intro h
    obtain ⟨f, hf⟩ := Option.ne_none_iff_exists'.1 h
    exact List.mem_map.2 ⟨_, getF_mem hf, rfl⟩
theorem merge_keys {L : Ft} (h : SrtF L) {ss : List Nm} (hnd : ss.Nodup) (hm : ∀ x, x ∈ ss ↔ x ∈ keysF L) : ss.mergeSort leB = keysF L := by
  have hs := keysF_sorted h
  have hn : (keysF L).Nodup := hs.imp (fun hab e => by subst e; exact nm_irrefl _ hab)
  have hp : ss.Perm (keysF L) := (List.perm_ext_iff_of_nodup hnd hn).2 hm
  rw [mergeSort_of_perm hp]
  have tr : ∀ a b c : Nm, leB a b = true → leB b c = true → leB a c = true := fun a b c h1 h2 => by simp only [leB, decide_eq_true_eq] at *; exact List.le_trans h1 h2
  have to : ∀ a b : Nm, (leB a b || leB b a) = true := fun a b => by simp only [leB, Bool.or_eq_true, decide_eq_true_eq]; exact List.le_total a b
  refine List.Perm.eq_of_pairwise (le := fun a b => leB a b = true) (fun a b _ _ h1 h2 => ?_) (List.pairwise_mergeSort tr to _) (hs.imp (fun hab => ?_)) (List.mergeSort_perm _ leB)
  · simp only [leB, decide_eq_true_eq] at h1 h2
    exact List.le_antisymm h1 h2
  · simp only [leB, decide_eq_true_eq]
    exact List.le_of_lt hab
section
variable {S : Nat → Prop} {w : World} {B m mt : Nat} {D : Dd} {M : Lit → Option Value} {V : Nm → Value}
set_option maxRecDepth 100000 in
set_option maxHeartbeats 8000000 in
theorem dnames (h : DKx S w B m mt D M V) : Calls Try.prog 91 #[.pointer (some ⟨B, 0, none⟩)] w fun e w' => ∃ v, e = .returned v ∧ OZ w' w.heap.size v (keysF D.fs) ∧ Below w.heap.size w w' := by
  have H := Lib.hid h
  obtain ⟨Dm, hown, hsz, hM, hMN⟩ := h.ranged
  have HOWN := Lib.hid hown
  have HM := Lib.hid hM
  have HMN := Lib.hid hMN
  have HSZ := Lib.hid hsz
  obtain ⟨-, c1, -⟩ := h.at
  have HML := Lib.hid h.lt.2.1
  clear hown hM hMN h hsz
  go_enter Try.func91, Try.ntmps91
  go_wp2_with fail
  refine (dcreated_yes H.out).mono ?_
  rintro e w1 ⟨rfl, rfl⟩
  go_wp2_with (at_range; refine wpList_range_own _ rfl _ 75 rfl 9 143 keyedS fm_und _ m _ _ rfl HOWN.out ?_; intro w2 hrg0 hg0 hs0)
  go_frame
  obtain ⟨r, hr⟩ : ∃ r, w.heap.size = r := ⟨_, rfl⟩
  have HR := Lib.hid hr
  rw [hr] at hrg0
  try rw [hr]
  clear hr
  have HRG := Lib.hid hrg0
  have HBW : Hid (Below w.heap.size w w2) := Lib.hid ⟨hg0.os, hg0.tape, hg0.output, hg0.size, fun k hk => hg0.block k hk (by simp)⟩
  have HLF0 : Hid (∀ kl, Maps.has Dm kl = true → M kl ≠ none) := Lib.hid (fun kl hl e => by rw [HMN.out kl e] at hl; cases hl)
  clear hrg0 hg0 hs0 c1
  go_loopg [3] (Maps.size Dm) (fun kx s3 wr => ∃ (left : Lit → Bool) (cnt : Nat) (ss : List Nm) (v : Value), cnt ≤ kx ∧ v = s3 ∧ ss.length + cnt ≤ Maps.size Dm ∧ Hid (OZ wr w.heap.size v ss) ∧ Hid (Collected Dm left ss) ∧ Hid (wr.ranges Try.prog 9 vR m r D.fs.length Dm left cnt) ∧ Hid (∀ kl, left kl = true → M kl ≠ none) ∧ Hid (Below w.heap.size w wr))
  case atStart => exact ⟨_, _, [], _, Nat.le_refl _, rfl, by simp, Lib.hid (OZ.nil _ _), Lib.hid (Collected.start Dm), HRG, HLF0, HBW⟩
  case round =>
    clear HRG HBW HLF0
    obtain ⟨left, cnt, ss, v, hcnt, rfl, hlen, HO, HC, HRG, HLF, HB⟩ := hrel
    go_wp2_with (at_next; refine wpList_next_ranges _ rfl _ rfl 9 keyedS vR encStr (fun v : Value => v) (fun key kl hkey => by obtain ⟨x, h1, -⟩ := Maps.keyOf_str Try.underlying9 hkey; exact ⟨x, h1⟩) (fun v y _ => ⟨v, rfl⟩) m r D.fs.length _ _ _ rfl HRG.out ?_ ?_)
    · intro hc0 hl0
      have HK : Hid (ss.mergeSort leB = keysF D.fs) := Lib.hid (merge_keys H.out.df.srt HC.out.1 (fun x => by
        rw [HC.out.2 x, hl0, keysF_mem]
        simp only [and_true]
        constructor
        · intro hx e
          have := H.out.df.spot x
          rw [e] at this
          rw [HMN.out _ this] at hx
          cases hx
        · intro hx
          obtain ⟨f, hf⟩ := Option.ne_none_iff_exists'.1 hx
          obtain ⟨a, c, -, e2⟩ := H.out.file hf
          exact (HM.out _ _ e2).1))
      have HLN : Hid (ss.length ≤ 100000) := Lib.hid (by have := HSZ.out; have := H.out.df.few; omega)
      clear hl0 hc0
      go_wp2_with fail
      refine (sort_oz w.heap.size _ ss _ HO.out HLN.out).mono ?_
      rintro e w5 ⟨rfl, ho, hg⟩
      rw [HK.out] at ho
      have HO5 := Lib.hid ho
      have HB5 := Lib.hid (HB.out.grown hg HB.out.size (fun k hk => (HO.out.lt hk).1))
      clear ho hg
      go_wp2_with fail
      go_ret
      exact ⟨_, rfl, HO5.out, HB5.out⟩
    · intro x v2 kl y ps w3 cnt1 hkey hlx hv hat hrg1 hlt hg1 hs1 hen
      obtain ⟨x', ex, rfl, -⟩ := Maps.keyOf_str Try.underlying9 hkey
      obtain rfl := encStr_inj ex
      have HC1 := Lib.hid (HC.out.step hlx hat)
      have HLF1 : Hid (∀ kl, (left kl && !kl.sameKey (.string x)) = true → M kl ≠ none) := Lib.hid (fun kl hk => HLF.out kl (strike_le hk))
      have HB3 : Hid (Below w.heap.size w w3) := Lib.hid (HB.out.trans ⟨hg1.os, hg1.tape, hg1.output, hg1.size, fun k hk => hg1.block k (Nat.lt_of_lt_of_le hk HB.out.size) (fun e => by injection e with e; have := HR.out; omega)⟩)
      have HO3 : Hid (OZ w3 w.heap.size v ss) := Lib.hid (World.ownsRow.kept HO.out hg1 (.inr (Ne.symm (row_ne_iter HO.out HRG.out))))
      obtain ⟨B4, s4, -⟩ := box1 w3 #[encStr x] 9
      have x0 : (w3.alloc (.cells #[encStr x] 9)).cell? ⟨w3.heap.size, 0, none⟩ = some (encStr x) := by simp only [World.cell?, s4]; rfl
      have X0 := Lib.hid x0
      have HO4 := Lib.hid (HO3.out.below B4)
      have HB4 := Lib.hid (HB3.out.trans (B4.mono HB3.out.size))
      have HRG4 := Lib.hid (hrg1.alloc (.cells #[encStr x] 9))
      have hm9 : cnt1 < gk := by omega
      have hl9 : (ss ++ [x]).length + cnt1 ≤ Maps.size Dm := by rw [List.length_append]; simp; omega
      have HLN : Hid (ss.length + 1 ≤ 100000) := Lib.hid (by have := HSZ.out; have := H.out.df.few; omega)
      have HB40 : Hid (w.heap.size ≤ (w3.alloc (.cells #[encStr x] 9)).heap.size) := Lib.hid HB4.out.size
      clear B4 s4 x0 hkey hlx hv hat hrg1 hg1 hs1 ex hlt hcnt hlen
      go_wp2_with (at_builtin; refine append_s rfl (.tmp 17) (.tmp 19) rfl w.heap.size _ ss x ⟨w3.heap.size, 0, none⟩ 1 rfl rfl HO4.out X0.out HLN.out HB40.out ?_; intro v4 w4 ho4 hg4; have HO5 := Lib.hid ho4; have HB5 := Lib.hid (HB4.out.grown hg4 HB40.out (fun k hk => (HO4.out.lt hk).1)); have HRG5 := Lib.hid (HRG4.out.kept hg4 (row_ne_low HO4.out HML.out) (row_ne_iter HO4.out HRG4.out)); clear ho4 hg4)
      go_roundg cnt1
      case measure => exact hm9
      case rel => exact ⟨_, cnt1, ss ++ [x], _, Nat.le_refl _, rfl, hl9, HO5, HC1, HRG5, HLF1, HB5⟩
end
/- The disk: what of a file is kept, what is loose. -/
open Go.RowKit Go.Maps
theorem RB.tail {w : World} {a : Option Addr} {c : Nat} {bs : List Nat} (h : RB w (.slice a bs.length c) bs) {k : Nat} (hk : k ≤ bs.length) : RB w (.slice (if c = k then a else a.map (·.add (k * 1))) (bs.length - k) (c - k)) (bs.drop k) := by
  have hl : (bs.drop k).length = bs.length - k := List.length_drop
  refine ⟨fun c hc => h.1 c (List.mem_of_mem_drop hc), by rw [hl]; have := h.2.1; omega, ?_⟩
  rcases h.2.2 with ⟨h2, h3⟩ | ⟨x, cap, e, h1, h2, h3⟩
  · injection h2 with e1 e2 e3
    subst e1 e3
    have hk0 : k = 0 := by omega
    subst hk0
    refine .inl ⟨?_, by rw [h3]; rfl⟩
    rw [if_pos rfl, h3]
    rfl
  · injection e with e1 e2 e3
    subst e1 e3
    by_cases hck : c = k
    · have hkl : k = bs.length := by omega
      refine .inr ⟨x, c - k, by rw [if_pos hck, hl], by rw [hl]; omega, by omega, fun i hi => ?_⟩
      rw [hl] at hi
      omega
    · refine .inr ⟨x.add k, c - k, by rw [if_neg hck, hl, Nat.mul_one]; rfl, by rw [hl]; omega, by omega, fun i hi => ?_⟩
      rw [hl] at hi
      have := h3 (k + i) (by omega)
      rw [show (x.add k).add i = x.add (k + i) from Go.Deep.add_add x k i, this]
      simp [List.getD_eq_getElem?_getD, List.getElem?_drop]
theorem RB.head {w : World} {a : Option Addr} {c : Nat} {bs : List Nat} (h : RB w (.slice a bs.length c) bs) {k : Nat} (hk : k ≤ bs.length) (c' : Nat) (hc' : k ≤ c') (hcc : c' ≤ c) : RB w (.slice a k c') (bs.take k) ∨ (k = 0 ∧ a = none) := by
  have hl : (bs.take k).length = k := by rw [List.length_take]; omega
  rcases h.2.2 with ⟨h2, h3⟩ | ⟨x, cap, e, h1, h2, h3⟩
  · injection h2 with e1 e2 e3
    exact .inr ⟨by omega, e1⟩
  · injection e with e1 e2 e3
    subst e1 e3
    refine .inl ⟨fun c hc => h.1 c (List.mem_of_mem_take hc), by rw [hl]; have := h.2.1; omega, .inr ⟨x, c', by rw [hl], by rw [hl]; exact hc', by omega, fun i hi => ?_⟩⟩
    rw [hl] at hi
    rw [h3 i (by omega)]
    congr 3
    simp only [List.getD_eq_getElem?_getD, List.getElem?_take]
    rw [if_pos hi]
theorem RB.nilc {w : World} {a : Option Addr} {c : Nat} {bs : List Nat} (h : RB w (.slice a bs.length c) bs) (ha : a = none) : bs = [] ∧ c = 0 := by
  rcases h.2.2 with ⟨h2, h3⟩ | ⟨x, cap, e, h1, h2, h3⟩
  · injection h2 with e1 e2 e3
    exact ⟨h3, e3⟩
  · injection e with e1 e2 e3
    rw [ha] at e1
    cases e1
set_option maxRecDepth 100000 in
theorem dloose (a : Option Addr) (c : Nat) (bs : List Nat) (k : Nat) (w : World) (h : RB w (.slice a bs.length c) bs) (hk : k ≤ bs.length) : Calls Try.prog 92 #[.agg #[.slice a bs.length c, .int .i64 (k : Int)]] w fun e w' => ∃ a2 c2, e = .returned (.slice a2 (bs.length - k) c2) ∧ RB w' (.slice a2 (bs.length - k) c2) (bs.drop k) ∧ Below w.heap.size w w' := by
  obtain ⟨B1, s1⟩ := boxF (w := w) (.slice a bs.length c) (.int .i64 (k : Int))
  obtain ⟨x0, x1, -⟩ := two_at s1
  have HB := Lib.hid B1
  have hk0 : (0 : Int) ≤ (k : Int) := by omega
  have hk1 : (k : Int) ≤ (bs.length : Int) := by omega
  by_cases hck : c = k
  · have hr := h.tail hk
    rw [if_pos hck, hck, Nat.sub_self] at hr
    rw [← hck] at hr
    have HR := Lib.hid (hr.kept B1)
    have d1 : decide (c = k) = true := decide_eq_true hck
    subst hck
    clear h B1 s1 hr
    go_enter Try.func92, Try.ntmps92
    go_wp2_with fail
    go_ret
    exact ⟨_, _, rfl, HR.out, HB.out⟩
  · have hr := h.tail hk
    rw [if_neg hck] at hr
    simp only [Nat.mul_one] at hr
    have HR := Lib.hid (hr.kept B1)
    have d1 : decide (c = k) = false := decide_eq_false hck
    
    clear h B1 s1 hr
    go_enter Try.func92, Try.ntmps92
    go_wp2_with fail
    go_ret
    exact ⟨_, _, rfl, HR.out, HB.out⟩
set_option maxRecDepth 100000 in
theorem dsafe (a : Option Addr) (c : Nat) (bs : List Nat) (k : Nat) (w : World) (h : RB w (.slice a bs.length c) bs) (hk : k ≤ bs.length) : Calls Try.prog 125 #[.agg #[.slice a bs.length c, .int .i64 (k : Int)]] w fun e w' => e = .returned (.slice a k k) ∧ RB w' (.slice a k k) (bs.take k) ∧ Below w.heap.size w w' := by
  obtain ⟨B1, s1⟩ := boxF (w := w) (.slice a bs.length c) (.int .i64 (k : Int))
  obtain ⟨x0, x1, -⟩ := two_at s1
  have hlc : bs.length ≤ c := by
    obtain ⟨a3, cap, e3, hcl, -⟩ := h.shape
    injection e3 with _ _ e3
    omega
  have hrb : RB w (.slice a k k) (bs.take k) := by
    rcases h.head hk k (Nat.le_refl _) (by omega) with h2 | ⟨rfl, h2⟩
    · exact h2
    · rw [h2]
      simpa using RB.nil w
  have HR := Lib.hid (hrb.kept B1)
  have HB := Lib.hid B1
  have hk0 : (0 : Int) ≤ (k : Int) := by omega
  have hk1 : (k : Int) ≤ (k : Int) := by omega
  have hk2 : (k : Int) ≤ (c : Int) := by omega
  have hsl := fun w => run_slice_hm (P := Try.prog) w 28 a bs.length c Try.underlying28 .i64 .i64 (k : Int) (k : Int) hk0 hk1 hk2
  clear h B1 s1 hrb
  go_enter Try.func125, Try.ntmps125
  go_wp2_with fail
  go_ret
  refine ⟨?_, HR.out, HB.out⟩
  first | rfl | simp
end Go.Proofs.Ythefnakbpalecaa
