/- Join of spans that are all right. -/
import Derived.Test.YthlmeppahcjlgaaJoC
import Derived.IntWalk
import Derived.StillTailTactics
namespace Go.Proofs.Ythlmeppahcjlgaa
open Go.RowKit Go.Shelf Go.Sort

/-- What Join hands back. -/
def JoinedOwn (l : List (Int × Int)) (w : World) (e : Ending) (w' : World) : Prop :=
  ∃ v j, e = .returned v ∧ OS w' w.heap.size v j ∧ Joined l j ∧ j.length ≤ l.length ∧ Below w.heap.size w w'
theorem rights_bounds {l : List (Int × Int)} (h : rights l) : ∀ s ∈ l, -9223372036854775808 ≤ s.1 ∧ s.1 ≤ 9223372036854775807 ∧ -9223372036854775808 ≤ s.2 ∧ s.2 ≤ 9223372036854775807 := fun s hs => by
  have := h s hs
  omega
theorem below_drewN' {B : Nat} {w w' : World} (h : Below B w w') (n : Nat) : Below B w (w'.drewN n) := ⟨h.os, h.tape, h.output, h.size, h.block⟩
theorem take_snoc {l : List (Int × Int)} {k : Nat} (hk : k < l.length) : l.take (k + 1) = l.take k ++ [l[k]] := by
  rw [List.take_add_one, List.getElem?_eq_getElem hk]; rfl
theorem spc_set (ini : List (Int × Int)) (x : Int × Int) (m : Int) : (spc (ini ++ [x])).set (ini.length * 2 + 1) (.int .i64 m) = spc (ini ++ [(x.1, m)]) := by
  rw [spc_append, spc_append, List.set_append, if_neg (by rw [spc_len]; omega), spc_len]
  have : ini.length * 2 + 1 - ini.length * 2 = 1 := by omega
  rw [this]
  rfl
theorem OS.raise {w : World} {base g cap : Nat} {ini : List (Int × Int)} {x : Int × Int} {n : Nat} (h : OS w base (.slice (some ⟨g, 0, none⟩) n cap) (ini ++ [x])) (m : Int) :
    OS (w.setCell ⟨g, ini.length * 2 + 1, none⟩ (.int .i64 m)) base (.slice (some ⟨g, 0, none⟩) n cap) (ini ++ [(x.1, m)]) := by
  obtain ⟨a', c', e, _⟩ := h.shape
  injection e with e1 e2 e3
  subst e2
  have h1 := (World.ownsRow.stored h (ini.length * 2 + 1) (.int .i64 m)).1
  rw [spc_set] at h1
  unfold OS
  have e : (ini ++ [(x.1, m)]).length = (ini ++ [x]).length := by simp
  rw [e]
  exact h1

/-- The merging loop's own facts: k of the sorted spans are joined. -/
structure Mid (l : List (Int × Int)) (k : Nat) (jn : List (Int × Int)) : Prop where
  j : Joined (l.take k) jn
  len : jn.length ≤ k
  low : ∀ x, x ∈ jn → ∀ i (hi : i < l.length), k ≤ i → x.1 ≤ (l[i]).1
theorem Mid.start (l : List (Int × Int)) : Mid l 0 [] := ⟨Joined.nil, Nat.le_refl _, fun x h => by cases h⟩
theorem Mid.snoc {l : List (Int × Int)} {k : Nat} {jn : List (Int × Int)} (M : Mid l k jn) (hs : ∀ i j (hi : i < l.length) (hj : j < l.length), i < j → (l[i]).1 ≤ (l[j]).1) (hr : rights l) (hk : k < l.length)
    (h : ∀ x, x ∈ jn → x.2 < (l[k]).1) : Mid l (k + 1) (jn ++ [l[k]]) := by
  refine ⟨by rw [take_snoc hk]; exact M.j.snoc h (hr _ (List.getElem_mem hk)), by have := M.len; simp; omega, fun x hx i hi hki => ?_⟩
  rcases List.mem_append.1 hx with h1 | h1
  · exact M.low x h1 i hi (by omega)
  · obtain rfl := List.mem_singleton.1 h1
    exact hs k i hk hi (by omega)
theorem Mid.merge {l : List (Int × Int)} {k : Nat} {ini : List (Int × Int)} {x : Int × Int} (M : Mid l k (ini ++ [x])) (hr : rights l) (hk : k < l.length) (h : (l[k]).1 ≤ x.2) (m : Int)
    (hm : (x.2 < (l[k]).2 ∧ m = (l[k]).2) ∨ ((l[k]).2 ≤ x.2 ∧ m = x.2)) : Mid l (k + 1) (ini ++ [(x.1, m)]) := by
  have hx := M.low x (List.mem_append.2 (.inr (List.mem_singleton.2 rfl))) k hk (Nat.le_refl _)
  refine ⟨by rw [take_snoc hk]; exact M.j.merge hx h (hr _ (List.getElem_mem hk)) m hm, by have := M.len; simp at this ⊢; omega, fun y hy i hi hki => ?_⟩
  rcases List.mem_append.1 hy with h1 | h1
  · exact M.low y (List.mem_append.2 (.inl h1)) i hi (by omega)
  · obtain rfl := List.mem_singleton.1 h1
    exact M.low x (List.mem_append.2 (.inr (List.mem_singleton.2 rfl))) i hi (by omega)

set_option maxRecDepth 100000 in
set_option maxHeartbeats 16000000 in
theorem join_ok (a : Option Addr) (n cap : Nat) (F T : Nat → Int) (w : World) (hS : Sps w a n F T) (hn : n ≤ 1000) (hr : rights (pairs F T n)) :
    Calls Try.prog 23 #[.slice a n cap] w (JoinedOwn (pairs F T n) w) := by
  have HC := Lib.hid hS
  have HR := Lib.hid hr
  have HN := Lib.hid hn
  clear hS hr
  go_enter Try.func23, Try.ntmps23
  go_wp2_with fail
  go_loopw [12] (fun i wr => ∃ k : Nat, k ≤ n ∧ i = .int .i64 k ∧ Below w.heap.size w wr) (fun i _ => n - (intOf i).toNat)
  case atStart => exact ⟨0, Nat.zero_le _, rfl, Below.refl _ _⟩
  case round =>
    obtain ⟨k, hk, rfl, hB⟩ := hrel
    by_cases hlt : k < n
    · obtain ⟨ab, ao, rfl, hab, c0, c1, b0, b1, b2, b3⟩ := HC.out.at hB k hlt
      have HB := Lib.hid hB
      have HS := Lib.hid hB.size
      have hrk : rightB (F k) (T k) = true := (rightB_iff _ _).2 (HR.out _ (pairs_mem.2 ⟨k, hlt, rfl⟩))
      obtain ⟨f, e0⟩ : ∃ x, F k = x := ⟨_, rfl⟩
      obtain ⟨t, e1⟩ : ∃ x, T k = x := ⟨_, rfl⟩
      rw [e0] at c0 b0 b1 hrk
      rw [e1] at c1 b2 b3 hrk
      clear hB e0 e1
      have i0 : (0 : Int) ≤ (k : Int) := by omega
      have kl : (k : Int) < (n : Int) := by omega
      have d4 : decide ((k : Int) < (n : Int)) = true := by simp [hlt]
      have hr' := right_any f t
      rw [hrk] at hr'
      clear hrk
      go_wp2_with (go_at_call 13; refine (hr' _).mono ?_; rintro e w' ⟨rfl, hb⟩)
      go_roundw
      case rel => exact ⟨k + 1, hlt, by go_num, below_call HB.out HS.out hb⟩
      case measure => simp [intOf]; omega
    · obtain rfl : k = n := by omega
      have HB := Lib.hid hB
      have hcl := clone_any a k cap F T wr (HC.out.kept hB) (by have := HN.out; omega)
      clear hB
      go_wp2_with fail
      refine hcl.mono ?_
      rintro e w1 ⟨v, rfl, hO1, hB1⟩
      clear hcl
      have hso := sort_own wr.heap.size v (pairs F T k) w1 hO1 (by rw [pairs_len]; have := HN.out; omega) (rights_bounds HR.out) hB1.size
      have HB1 := Lib.hid (HB.out.trans (hB1.mono HB.out.size))
      have HB1' := Lib.hid hB1
      clear hO1 hB1
      go_wp2_with fail
      refine hso.mono ?_
      rintro e w2 ⟨a', n', c', l, rfl, rfl, rfl, hp, hsort, hS2, hsz2, hW2⟩
      clear hso
      have hl : l.length = k := by rw [hp.length_eq, pairs_len]
      have hB2 : Below w.heap.size w w2 := HB.out.trans ((hW2 wr HB1'.out).mono HB.out.size)
      have HB2 := Lib.hid hB2
      have HP := Lib.hid hp
      have HSO := Lib.hid hsort
      have HS2 := Lib.hid hS2
      have hrl : rights l := fun s hs => HR.out s (hp.mem_iff.1 hs)
      have HRL := Lib.hid hrl
      have HL := Lib.hid hl
      clear hp hsort hS2 hsz2 hW2 hB2 hrl HB1 HB1'
      obtain ⟨N, hN⟩ : ∃ N, l.length = N := ⟨_, rfl⟩
      rw [hN] at HL HS2 ⊢
      have HNL := Lib.hid hN
      clear hN
      have hN1 : N ≤ 1000 := by have := HL.out; omega
      go_wp2_with fail
      go_loopw [6, 26] (fun v i wq => ∃ (q : Nat) (jn : List (Int × Int)), q ≤ N ∧ i = .int .i64 q ∧ OS wq w2.heap.size v jn ∧ Mid l q jn ∧ Below w2.heap.size w2 wq) (fun _ i _ => N - (intOf i).toNat)
      case atStart => exact ⟨0, [], Nat.zero_le _, rfl, OS.nil _ _, Mid.start l, Below.refl _ _⟩
      case round =>
        obtain ⟨q, jn, hq, rfl, hO, hM, hBq⟩ := hrel
        by_cases hlt2 : q < N
        · obtain ⟨ab, ao, rfl, hab, c0, c1, b0, b1, b2, b3⟩ := HS2.out.at hBq q hlt2
          have hql : q < l.length := by rw [HNL.out]; exact hlt2
          have hf : (l[q]).1 = fr l q := by simp [fr, hql]
          have ht : (l[q]).2 = til l q := by simp [til, hql]
          have hsn := fun h => hM.snoc HSO.out HRL.out hql h
          have hlen := hM.len
          have hpair : l[q] = (fr l q, til l q) := Prod.ext hf ht
          rw [hpair] at hsn
          obtain ⟨f, e0⟩ : ∃ x, fr l q = x := ⟨_, rfl⟩
          obtain ⟨t, e1⟩ : ∃ x, til l q = x := ⟨_, rfl⟩
          rw [e0] at c0 b0 b1 hf
          rw [e1] at c1 b2 b3 ht
          rw [e0, e1] at hsn
          clear e0 e1 hpair
          have HSN := Lib.hid hsn
          have i0 : (0 : Int) ≤ (q : Int) := by omega
          have kl : (q : Int) < (N : Int) := by omega
          have d4 : decide ((q : Int) < (N : Int)) = true := by simp [hlt2]
          have hal : ∀ nq, Below wr.heap.size wr (((wr.alloc (.cells #[.int .i64 f, .int .i64 t] 25)).drewN nq).alloc (.cells #[.int .i64 f, .int .i64 t] 25)) := fun nq => (below_drewN' ((Below.refl _ _).alloc (Nat.le_refl _) _) nq).alloc (by simp) _
          have hsp : ∀ nq, ∀ j u, [Value.int .i64 f, .int .i64 t][j]? = some u → (((wr.alloc (.cells #[.int .i64 f, .int .i64 t] 25)).drewN nq).alloc (.cells #[.int .i64 f, .int .i64 t] 25)).cell? ((⟨wr.heap.size + 1, 0, none⟩ : Addr).add j) = some u := fun nq => by
            have := new_span ((wr.alloc (.cells #[.int .i64 f, .int .i64 t] 25)).drewN nq) (.int .i64 f) (.int .i64 t) 25
            simpa using this
          have HAL := Lib.hid hal
          have HSP := Lib.hid hsp
          have HBQ := Lib.hid hBq
          have hbase : w2.heap.size ≤ wr.heap.size := hBq.size
          rcases List.eq_nil_or_concat jn with rfl | ⟨ini, x, rfl⟩
          · obtain ⟨va, vc, rfl, _, _⟩ := hO.shape
            have HO := Lib.hid hO
            have HM1 := Lib.hid (hsn (fun x hx => by cases hx))
            clear hsn hM hO hal hsp hBq hf ht HSN
            go_wp2_with fail
            go_quiet (fail)
            go_wp2_with (at_builtin; refine append_span rfl (.tmp 57) (.tmp 59) rfl w2.heap.size _ [] f t ⟨wr.heap.size + 1, 0, none⟩ 1 rfl rfl (HO.out.kept (HAL.out _)) (HSP.out _) (by simp) (by simp; omega) ?_; intro v' w' hO' hst; have HO' := Lib.hid hO'; have HST := Lib.hid hst; clear hO' hst)
            go_roundw
            case rel => exact ⟨q + 1, _, hlt2, by go_num, HO'.out, HM1.out, HST.out.2 _ (HBQ.out.trans ((HAL.out _).mono hbase))⟩
            case measure => simp [intOf]; omega
          · obtain ⟨va, vc, rfl, _, hcells⟩ := hO.shape
            have hll : (ini.concat x).length = ini.length + 1 := by simp
            rw [hll] at hcells ⊢
            obtain ⟨g, rfl, hg, hgl, hck⟩ := hcells (by omega)
            obtain ⟨_, d1, _, z1⟩ := hck ini.length (by omega)
            have hx2 : til (ini.concat x) ini.length = x.2 := by simp [til]
            rw [hx2] at d1
            rw [List.concat_eq_append] at hM hO
            obtain ⟨p, hp⟩ : ∃ p, ini.length = p := ⟨_, rfl⟩
            rw [hp] at d1 z1 ⊢
            have hO2 : OS wr w2.heap.size (.slice (some ⟨g, 0, none⟩) (p + 1) vc) (ini ++ [x]) := by
              have e : (ini ++ [x]).length = p + 1 := by simp [hp]
              rw [e] at hO
              exact hO
            have hlen2 : p + 1 ≤ q := by have := hM.len; simp at this; omega
            have hmg := fun h m hm => hM.merge HRL.out hql h m hm
            rw [hf, ht] at hmg
            have hraise : ∀ (u : World), OS u w2.heap.size (.slice (some ⟨g, 0, none⟩) (p + 1) vc) (ini ++ [x]) → ∀ m, OS (u.setCell ⟨g, p * 2 + 1, none⟩ (.int .i64 m)) w2.heap.size (.slice (some ⟨g, 0, none⟩) (p + 1) vc) (ini ++ [(x.1, m)]) := fun u h m => by
              have := h.raise m
              rwa [hp] at this
            obtain ⟨x1, x2⟩ := x
            have HO := Lib.hid hO2
            have HMG := Lib.hid hmg
            have HLJ := Lib.hid (show (ini ++ [(x1, x2)]).length ≤ 100000 by simp [hp]; omega)
            have HRS := Lib.hid hraise
            have hlast := fun h => HSN.out (fun y hy => Int.lt_of_le_of_lt (sep_last hM.j.sep hM.j.rights y (by rw [List.concat_eq_append] at hy; exact hy)) h)
            have HLA := Lib.hid hlast
            dsimp only at d1
            clear hsn hM hO hO2 hal hsp hBq hf ht HSN hck hmg hraise hp hlast hcells hll hx2
            have p0 : (0 : Int) ≤ (p : Int) := by omega
            have p1 : (p : Int) < (p : Int) + 1 := by omega
            have p2 : (p : Int) ≤ 1000 := by omega
            by_cases hle : f ≤ x2
            · have d5 : decide (f ≤ x2) = true := decide_eq_true hle
              go_wp2_with fail
              go_quiet (fail)
              go_wp2_with fail
              have hBW : Below wr.heap.size wr ((wr.alloc (.cells #[.int .i64 f, .int .i64 t] 25)).drewN nq) := below_drewN' ((Below.refl _ _).alloc (Nat.le_refl _) _) nq
              have e1 := (hBW.cell (p := ⟨g, p * 2 + 1, none⟩) hgl).trans d1
              have e2 := (hBW.frozen (p := ⟨g, p * 2 + 1, none⟩) hgl).trans z1
              have e3 : ((wr.alloc (.cells #[.int .i64 f, .int .i64 t] 25)).drewN nq).cell? ⟨wr.heap.size, 0, none⟩ = some (.int .i64 f) := by simp
              have e4 : ((wr.alloc (.cells #[.int .i64 f, .int .i64 t] 25)).drewN nq).cell? ⟨wr.heap.size, 1, none⟩ = some (.int .i64 t) := by simp
              have HBW := Lib.hid hBW
              clear hBW
              generalize ((wr.alloc (.cells #[.int .i64 f, .int .i64 t] 25)).drewN nq) = W1 at *
              go_still_tail 12, (by kernel_rfl)
              change wpList _ _ _ _ _ W1.drew
              have HO1 := Lib.hid (HRS.out W1 (HO.out.kept HBW.out) (max x2 t))
              have HMM := Lib.hid (HMG.out hle (max x2 t) (by show (x2 < t ∧ max x2 t = t) ∨ (t ≤ x2 ∧ max x2 t = x2); omega))
              have HBD := Lib.hid (HBQ.out.trans (HBW.out.mono hbase))
              go_wp2_with fail
              go_roundw
              case rel => exact ⟨q + 1, _, hlt2, by go_num, World.ownsRow.drew HO1.out, HMM.out, (HBD.out.setCell (by simpa using hg) _).drew⟩
              case measure => simp [intOf]; omega
            · have d5 : decide (f ≤ x2) = false := decide_eq_false hle
              have HM1 := Lib.hid (HLA.out (by show x2 < f; omega))
              rw [List.concat_eq_append] at HM1
              go_wp2_with fail
              go_quiet (fail)
              go_wp2_with (at_builtin; refine append_span rfl (.tmp 57) (.tmp 59) rfl w2.heap.size _ (ini ++ [(x1, x2)]) f t ⟨wr.heap.size + 1, 0, none⟩ 1 rfl rfl (HO.out.kept (HAL.out _)) (HSP.out _) HLJ.out (by simp; omega) ?_; intro v' w' hO' hst; have HO' := Lib.hid hO'; have HST := Lib.hid hst; clear hO' hst)
              go_roundw
              case rel => exact ⟨q + 1, _, hlt2, by go_num, HO'.out, HM1.out, HST.out.2 _ (HBQ.out.trans ((HAL.out _).mono hbase))⟩
              case measure => simp [intOf]; omega
        · obtain rfl : q = N := by omega
          have HO := Lib.hid hO
          have HM := Lib.hid hM
          have HBQ := Lib.hid hBq
          clear hO hM hBq
          go_wp2_with fail
          go_ret
          have hB3 : Below w.heap.size w wr := HB2.out.trans (HBQ.out.mono HB2.out.size)
          refine ⟨_, jn, rfl, HO.out.mono HB2.out.size, ?_, ?_, hB3⟩
          · have h := HM.out.j
            rw [List.take_of_length_le (by rw [HNL.out]; exact Nat.le_refl _)] at h
            exact h.perm HP.out
          · have h := HM.out.len
            have h2 := HL.out
            rw [pairs_len]; omega
end Go.Proofs.Ythlmeppahcjlgaa
