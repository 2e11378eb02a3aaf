import Derived.Test.YtnhaakdjijjinaaRyL
import Derived.Test.YtnhaakdjijjinaaMRc
import Derived.Test.YtnhaakdjijjinaaTbH
namespace Go.Proofs.Ytnhaakdjijjinaa
open Go.RowKit
/- Replies: what is read is its own encoding. -/
open Go.RowKit
theorem nB_step {m1 m2 : Nat} {ds : List Nat} (h : nB m2 (nR m1 ds) = false) : nB m1 ds = false := by
  cases h1 : nB m1 ds with
  | false => rfl
  | true => rw [nR_bad h1, (nB_none m2).2.2] at h; cases h
theorem iR_bad {ds : List Nat} (h : iB ds = true) : iR ds = [] := by
  unfold iB at h
  unfold iR
  cases hq : rInt ds with
  | none => rfl
  | some p => rw [hq] at h; cases h
theorem iB_nil : iB [] = true := by decide
theorem tkOk_nil : tkOk [] = false := by decide
theorem qR_nil (m : Nat) : ∀ k, qR m k [] = []
  | 0 => rfl
  | k + 1 => by rw [qR, (nB_none m).2.1]; exact qR_nil m k
theorem nums_cons (n : Nat) (l : List Nat) : nums (n :: l) = num 0 n ++ nums l := by simp [nums]
theorem q_enc (m : Nat) : ∀ (k : Nat) (ds : List Nat), nB m (qR m k ds) = false → (∀ c ∈ ds, c < 256) → ds = nums (qL m k ds) ++ qR m k ds ∧ ∀ c ∈ qR m k ds, c < 256
  | 0, ds, _, hlt => ⟨rfl, hlt⟩
  | k + 1, ds, h, hlt => by
    rw [qR] at h
    cases h1 : nB m ds with
    | true => rw [nR_bad h1, qR_nil, (nB_none m).2.2] at h; cases h
    | false =>
      obtain ⟨g1, g2⟩ := nB_enc h1 hlt
      obtain ⟨i1, i2⟩ := q_enc m k _ h g2
      refine ⟨?_, by rw [qR]; exact i2⟩
      rw [qL, qR, nums_cons, List.append_assoc, ← i1]
      exact g1
/-- What is read as a ticket is its own encoding. -/
theorem nine_enc (ds : List Nat) (h : nineB ds = false) (hlt : ∀ c ∈ ds, c < 256) : ds = nums [(nine ds).n1, (nine ds).n2, (nine ds).n3, (nine ds).n4, (nine ds).n5, (nine ds).n6, (nine ds).n7, (nine ds).n8, (nine ds).n9] ++ nineR ds ∧ ∀ c ∈ nineR ds, c < 256 := by
  unfold nineB at h
  have h8 := nB_step h
  have h7 := nB_step h8
  have h6 := nB_step h7
  have h5 := nB_step h6
  have h4 := nB_step h5
  have h3 := nB_step h4
  have h2 := nB_step h3
  have h1 := nB_step h2
  obtain ⟨e1, l1⟩ := nB_enc h1 hlt
  obtain ⟨e2, l2⟩ := nB_enc h2 l1
  obtain ⟨e3, l3⟩ := nB_enc h3 l2
  obtain ⟨e4, l4⟩ := nB_enc h4 l3
  obtain ⟨e5, l5⟩ := nB_enc h5 l4
  obtain ⟨e6, l6⟩ := nB_enc h6 l5
  obtain ⟨e7, l7⟩ := nB_enc h7 l6
  obtain ⟨e8, l8⟩ := nB_enc h8 l7
  obtain ⟨e9, l9⟩ := nB_enc h l8
  refine ⟨?_, l9⟩
  rw [nums_nine]
  unfold nine nineR
  simp only [List.append_assoc, List.nil_append]
  rw [← e9, ← e8, ← e7, ← e6, ← e5, ← e4, ← e3, ← e2, ← e1]
theorem zero_unsound {n1 n2 n3 n4 n5 n6 n7 n8 n9 : Nat} (h : soundB n2 n3 n4 n5 n6 n7 n8 n9 = true) : noT (n1 : Int) (n2 : Int) (n3 : Int) (n4 : Int) (n5 : Int) (n6 : Int) (n7 : Int) (n8 : Int) (n9 : Int) = false := by
  cases hz : noT (n1 : Int) (n2 : Int) (n3 : Int) (n4 : Int) (n5 : Int) (n6 : Int) (n7 : Int) (n8 : Int) (n9 : Int) with
  | false => rfl
  | true =>
    obtain ⟨-, e2, e3, e4, e5, e6, e7, e8, e9⟩ := (tEq_iff ..).1 hz
    rw [e2, e3, e4, e5, e6, e7, e8, e9] at h
    exact absurd h (by decide)
/-- The bytes of what is read. -/
def yW (ds : List Nat) : List Nat := repW (nN 99 ds) (iN (nR 99 ds)) (noT (yNine ds).n1 (yNine ds).n2 (yNine ds).n3 (yNine ds).n4 (yNine ds).n5 (yNine ds).n6 (yNine ds).n7 (yNine ds).n8 (yNine ds).n9) [(yNine ds).n1, (yNine ds).n2, (yNine ds).n3, (yNine ds).n4, (yNine ds).n5, (yNine ds).n6, (yNine ds).n7, (yNine ds).n8, (yNine ds).n9] (yXs ds) (nN 18446744073709551615 (y6 ds)) (nN 128 (y7 ds))
theorem y_tk (ds : List Nat) (hb : yBad ds = false) (h1 : nB 1 (y2 ds) = false) (hlt : ∀ c ∈ y3 ds, c < 256) : flagB (!noT (yNine ds).n1 (yNine ds).n2 (yNine ds).n3 (yNine ds).n4 (yNine ds).n5 (yNine ds).n6 (yNine ds).n7 (yNine ds).n8 (yNine ds).n9) = num 0 (nN 1 (y2 ds)) ∧
    y3 ds = tkW (noT (yNine ds).n1 (yNine ds).n2 (yNine ds).n3 (yNine ds).n4 (yNine ds).n5 (yNine ds).n6 (yNine ds).n7 (yNine ds).n8 (yNine ds).n9) [(yNine ds).n1, (yNine ds).n2, (yNine ds).n3, (yNine ds).n4, (yNine ds).n5, (yNine ds).n6, (yNine ds).n7, (yNine ds).n8, (yNine ds).n9] ++ y4 ds ∧ ∀ c ∈ y4 ds, c < 256 := by
  have hle := nN_le 1 (y2 ds)
  cases hf : fN (y2 ds) with
  | true =>
    have hk : tkOk (y3 ds) = true := by
      cases hk : tkOk (y3 ds) with
      | true => rfl
      | false => rw [yBad_of ds hf hk] at hb; cases hb
    have hn : yNine ds = nine (y3 ds) := by unfold yNine tkN; rw [hf, hk]; rfl
    have hr : y4 ds = nineR (y3 ds) := by unfold y4 tkRest; rw [hf, hk]; rfl
    have hk' := hk
    unfold tkOk at hk'
    simp only [Bool.and_eq_true, Bool.not_eq_true'] at hk'
    obtain ⟨e, l⟩ := nine_enc (y3 ds) hk'.1 hlt
    have hz := zero_unsound (n1 := (nine (y3 ds)).n1) hk'.2
    have h1' : nN 1 (y2 ds) = 1 := by unfold fN at hf; simpa using hf
    rw [hn, hr, hz, h1']
    exact ⟨rfl, e, l⟩
  | false =>
    have hn : yNine ds = zNine := by unfold yNine; rw [hf]; rfl
    have hr : y4 ds = y3 ds := by unfold y4; rw [hf]; rfl
    have h1' : nN 1 (y2 ds) = 0 := by unfold fN at hf; simp at hf; omega
    have hz : noT (zNine.n1 : Int) zNine.n2 zNine.n3 zNine.n4 zNine.n5 zNine.n6 zNine.n7 zNine.n8 zNine.n9 = true := by decide
    rw [hn, hr, hz, h1']
    exact ⟨rfl, rfl, hlt⟩
theorem y_enc (ds : List Nat) (hlt : ∀ c ∈ ds, c < 256) (hb : yBad ds = false) : ds = yW ds ++ yRest ds := by
  have h7 : nB 128 (y7 ds) = false := hb
  have h6 : nB 18446744073709551615 (y6 ds) = false := nB_step h7
  have h4 : nB 64 (y4 ds) = false := by
    cases h4 : nB 64 (y4 ds) with
    | false => rfl
    | true =>
      have e : y6 ds = [] := by unfold y6 y5; rw [nR_bad h4]; exact qR_nil _ _
      rw [e, (nB_none _).2.2] at h6
      cases h6
  have h1 : nB 1 (y2 ds) = false := by
    cases hf : fN (y2 ds) with
    | false =>
      have hr : y4 ds = nR 1 (y2 ds) := by unfold y4; rw [hf]; rfl
      rw [hr] at h4
      exact nB_step h4
    | true =>
      cases h1 : nB 1 (y2 ds) with
      | false => rfl
      | true =>
        have e : y3 ds = [] := nR_bad h1
        have := yBad_of ds hf (by rw [e]; exact tkOk_nil)
        rw [this] at hb
        cases hb
  have hi : iB (nR 99 ds) = false := by
    cases hi : iB (nR 99 ds) with
    | false => rfl
    | true =>
      have e : y2 ds = [] := iR_bad hi
      rw [e, (nB_none 1).2.2] at h1
      cases h1
  have h0 : nB 99 ds = false := by
    cases h0 : nB 99 ds with
    | false => rfl
    | true => rw [nR_bad h0, iB_nil] at hi; cases hi
  obtain ⟨e0, l0⟩ := nB_enc h0 hlt
  obtain ⟨e1, l1⟩ := iB_enc hi l0
  obtain ⟨e2, l2⟩ := nB_enc (ds := y2 ds) h1 l1
  obtain ⟨f1, e3, l3⟩ := y_tk ds hb h1 l2
  obtain ⟨e4, l4⟩ := nB_enc (ds := y4 ds) h4 l3
  obtain ⟨e5, l5⟩ := q_enc 18446744073709551615 (nN 64 (y4 ds)) (y5 ds) h6 l4
  obtain ⟨e6, l6⟩ := nB_enc (ds := y6 ds) h6 l5
  obtain ⟨e7, -⟩ := nB_enc (ds := y7 ds) h7 l6
  have hl : (yXs ds).length = nN 64 (y4 ds) := qL_len _ _ _
  unfold yW repW
  rw [hl, f1]
  simp only [List.append_assoc]
  have e7' : num 0 (nN 128 (y7 ds)) ++ yRest ds = y7 ds := e7.symm
  have e6' : num 0 (nN 18446744073709551615 (y6 ds)) ++ y7 ds = y6 ds := e6.symm
  have e5' : nums (yXs ds) ++ y6 ds = y5 ds := e5.symm
  have e4' : num 0 (nN 64 (y4 ds)) ++ y5 ds = y4 ds := e4.symm
  have e2' : num 0 (nN 1 (y2 ds)) ++ y3 ds = y2 ds := e2.symm
  have e1' : intB (iN (nR 99 ds)) ++ y2 ds = nR 99 ds := e1.symm
  rw [e7', e6', e5', e4', ← e3, e2', e1', ← e0]
/-- The bounds of what is read. -/
theorem yNine_le (ds : List Nat) : (yNine ds).n1 < 18446744073709551616 ∧ (yNine ds).n2 < 9223372036854775808 ∧ (yNine ds).n3 < 9223372036854775808 ∧ (yNine ds).n4 < 9223372036854775808 ∧ (yNine ds).n5 < 18446744073709551616 ∧ (yNine ds).n6 < 9223372036854775808 ∧ (yNine ds).n7 < 9223372036854775808 ∧ (yNine ds).n8 < 9223372036854775808 ∧ (yNine ds).n9 < 9223372036854775808 := by
  have key : ∀ es : List Nat, (nine es).n1 < 18446744073709551616 ∧ (nine es).n2 < 9223372036854775808 ∧ (nine es).n3 < 9223372036854775808 ∧ (nine es).n4 < 9223372036854775808 ∧ (nine es).n5 < 18446744073709551616 ∧ (nine es).n6 < 9223372036854775808 ∧ (nine es).n7 < 9223372036854775808 ∧ (nine es).n8 < 9223372036854775808 ∧ (nine es).n9 < 9223372036854775808 := by
    intro es
    unfold nine
    refine ⟨Nat.lt_succ_of_le (nN_le _ _), Nat.lt_of_le_of_lt (nN_le _ _) (by decide), Nat.lt_of_le_of_lt (nN_le _ _) (by decide), Nat.lt_of_le_of_lt (nN_le _ _) (by decide), Nat.lt_of_le_of_lt (nN_le _ _) (by decide), Nat.lt_of_le_of_lt (nN_le _ _) (by decide), Nat.lt_of_le_of_lt (nN_le _ _) (by decide), Nat.lt_of_le_of_lt (nN_le _ _) (by decide), Nat.lt_of_le_of_lt (nN_le _ _) (by decide)⟩
  unfold yNine tkN
  split
  · split
    · exact key _
    · decide
  · decide
/- Replies: any bytes are read as the reference's reply, or as none. -/
open Go.RowKit
set_option maxRecDepth 100000 in
set_option maxHeartbeats 8000000 in
theorem reads_big (a : Option Addr) (n cap : Nat) (w : World) (hn : 3000 < n) :
    Calls Try.prog 5 #[.slice a n cap] w fun e w' => e = .returned (.bool true) ∧ Below w.heap.size w w' := by
  have d1 : decide (3000 < (n : Int)) = true := decide_eq_true (by omega)
  go_enter Try.func5, Try.ntmps5
  go_wp2_with (go_at_call 11; refine (lives19 _).mono ?_; rintro e w1 ⟨rfl, hb⟩; have HB1 := Lib.hid hb; clear hb)
  go_ret
  exact ⟨rfl, HB1.out⟩
theorem zV_eq : zV = repV 0 0 0 0 0 0 0 0 0 0 0 none 0 0 0 0 := rfl
theorem yXs_lt (ds : List Nat) : ∀ x ∈ yXs ds, x < 18446744073709551616 := fun x hx => Nat.lt_succ_of_le (qL_le 18446744073709551615 _ _ x hx)
theorem yXs_len (ds : List Nat) : (yXs ds).length ≤ 64 := by
  have : (yXs ds).length = nN 64 (y4 ds) := qL_len _ _ _
  rw [this]
  exact nN_le _ _
theorem OU.fr {w : World} {base : Nat} {a : Option Addr} {n c : Nat} {l : List Nat} (h : OU w base (.slice a n c) l) : Fr w a := by
  intro g o ha
  rcases h.2 with ⟨hv, -⟩ | ⟨g', cap, cur, hv, hg, hh, -⟩
  · injection hv with h1 _ _
    rw [h1] at ha
    cases ha
  · injection hv with h1 _ _
    rw [h1] at ha
    injection ha with ha
    injection ha with ha _ _
    subst ha
    exact (Array.getElem?_eq_some_iff.mp hh).1
/-- What both readers give of the same bytes. -/
theorem both_read (bs : List Nat) (hlt : ∀ c ∈ bs, c < 256) : ∃ cd tm id cn st lv ge fr lf du tl nt de : Int, ∃ L : Nat, ∃ xs R X : List Nat,
    (∀ rb V, RR V rb bs false → Calls Try.prog 21 #[.pointer (some ⟨rb, 0, none⟩)] V fun e w' => ∃ a ca, e = .returned (.tuple #[repV cd tm id cn st lv ge fr lf du tl a L ca nt de, .bool (yOk bs)]) ∧ OU w' V.heap.size (.slice a L ca) xs ∧ RR w' rb R (!yOk bs) ∧ Rd rb V w') ∧
    (∀ rb V, RF V rb bs false → Calls Try.prog 25 #[.pointer (some ⟨rb, 0, none⟩)] V fun e w' => ∃ a ca, e = .returned (.tuple #[repV cd tm id cn st lv ge fr lf du tl a L ca nt de, .bool (yOk bs)]) ∧ OU w' V.heap.size (.slice a L ca) xs ∧ RF w' rb R (!yOk bs) ∧ Rd rb V w') ∧
    (∀ x ∈ xs, x < 18446744073709551616) ∧ R.length ≤ bs.length ∧
    (yOk bs = true → bs ≠ [] ∧ bs = X ++ R ∧ ∀ a ca W, Us W a L xs → Fr W a → Calls Try.prog 18 #[repV cd tm id cn st lv ge fr lf du tl a L ca nt de] W fun e w' => ∃ v, e = .returned (.tuple #[v, .int .i64 0]) ∧ OB w' W.heap.size v X ∧ Below W.heap.size W w') := by
  cases hok : yOk bs with
  | false =>
    refine ⟨0, 0, 0, 0, 0, 0, 0, 0, 0, 0, 0, 0, 0, 0, [], [], [], fun rb V h => (read19 rb bs false V h).mono fun e w' hh => ?_, fun rb V h => (rread19 rb bs false V h).mono fun e w' hh => ?_, by simp, by simp, fun h => by cases h⟩
    · obtain ⟨h1, h2, h3⟩ := hh.2 hok
      exact ⟨none, 0, h1, OU.nil _ _, h2, h3⟩
    · obtain ⟨h1, h2, h3⟩ := hh.2 hok
      exact ⟨none, 0, h1, OU.nil _ _, h2, h3⟩
  | true =>
    have hb : yBad bs = false ∧ yS bs = true := by
      have h := hok
      unfold yOk at h
      simpa using h
    have he := y_enc bs hlt hb.1
    obtain ⟨b1, b2, b3, b4, b5, b6, b7, b8, b9⟩ := yNine_le bs
    have hlr : (yRest bs).length ≤ bs.length := by
      have := congrArg List.length he
      rw [List.length_append] at this
      omega
    refine ⟨((nN 99 bs : Nat) : Int), iN (nR 99 bs), ((yNine bs).n1 : Int), ((yNine bs).n2 : Int), ((yNine bs).n3 : Int), ((yNine bs).n4 : Int), ((yNine bs).n5 : Int), ((yNine bs).n6 : Int), ((yNine bs).n7 : Int), ((yNine bs).n8 : Int), ((yNine bs).n9 : Int), ((nN 18446744073709551615 (y6 bs) : Nat) : Int), ((nN 128 (y7 bs) : Nat) : Int), (yXs bs).length, yXs bs, yRest bs, yW bs, fun rb V h => (read19 rb bs false V h).mono fun e w' hh => ?_, fun rb V h => (rread19 rb bs false V h).mono fun e w' hh => ?_, yXs_lt bs, hlr, fun _ => ⟨fun h => by rw [h] at hok; exact absurd hok (by decide), he, fun a ca W hU hF => ?_⟩⟩
    · obtain ⟨a', ca', h1, h2, h3, h4⟩ := hh.1 hok
      exact ⟨a', ca', h1, h2, h3, h4⟩
    · obtain ⟨a', ca', h1, h2, h3, h4⟩ := hh.1 hok
      exact ⟨a', ca', h1, h2, h3, h4⟩
    · exact bytes19_yes (nN 99 bs) (iN (nR 99 bs)) _ _ _ _ _ _ _ _ _ b1 b2 b3 b4 b5 b6 b7 b8 b9 a _ ca (yXs bs) (nN 18446744073709551615 (y6 bs)) (nN 128 (y7 bs)) (Nat.lt_of_le_of_lt (nN_le 99 bs) (by decide)) (iN_in _).1 (iN_in _).2 (Nat.lt_succ_of_le (nN_le _ _)) (Nat.lt_of_le_of_lt (nN_le 128 _) (by decide)) (Nat.le_trans (yXs_len bs) (by decide)) W hU hF hb.2
set_option maxRecDepth 100000 in
set_option maxHeartbeats 16000000 in
theorem reads_walk0 (a : Option Addr) (n cap : Nat) (bs : List Nat) (w : World) (hrb : RB w (.slice a n cap) bs) (hln : bs.length = n) (hown : ∀ k, w.heap.size ≤ k → (Value.slice a n cap).ownBlock ≠ some k) (hn : n ≤ 3000) :
    Calls Try.prog 5 #[.slice a n cap] w fun e w' => e = .returned (.bool true) ∧ Below w.heap.size w w' := by
  have HLN : Hid (bs.length ≤ 3000) := Lib.hid (by omega)
  have HBL := Lib.hid hln
  have HRB0 : Hid (∀ W', Below w.heap.size w W' → RB W' (.slice a n cap) bs) := Lib.hid (fun W' h => hrb.kept h)
  have HOWN := Lib.hid hown
  obtain ⟨cd, tm, id, cn, st, lv, ge, fr, lf, du, tl, nt, de, L, xs, R, X, hr1, hr2, hxs, hRl, hag⟩ := both_read bs hrb.1
  obtain ⟨ok, hok⟩ : ∃ x, yOk bs = x := ⟨_, rfl⟩
  rw [hok] at hr1 hr2 hag
  have HRD1 := Lib.hid hr1
  have HRD2 := Lib.hid hr2
  have HXS := Lib.hid hxs
  have HAG := Lib.hid hag
  have HRL := Lib.hid hRl
  have d1 : decide (3000 < (n : Int)) = false := decide_eq_false (by omega)
  clear hr1 hr2 hxs hag hok hRl hrb hown hn hln
  go_enter Try.func5, Try.ntmps5
  go_wp2_with fail
  refine (open_any (.slice a n cap) bs w (HRB0.out _ (Below.refl _ _)) (by have := HLN.out; omega)).mono ?_
  rintro e W1 ⟨rb, rfl, hle, hrr, hb1⟩
  have HB1 := Lib.hid hb1
  have HRR1 := Lib.hid hrr
  have HRLT : Hid (rb < W1.heap.size ∧ w.heap.size ≤ rb) := Lib.hid ⟨hrr.lt, hle⟩
  clear hle hrr hb1
  go_wp2_with fail
  obtain ⟨bx, bn, bz⟩ := box1 W1 #[.slice a n cap, .bool false] 52
  have HB2 := Lib.hid (HB1.out.trans (bx.mono HB1.out.size))
  have HRR2 := Lib.hid (HRR1.out.kept bx)
  obtain ⟨c, hce⟩ : ∃ c, W1.heap.size = c := ⟨_, rfl⟩
  have HNE : Hid (rb ≠ c ∧ c < (W1.alloc (.cells #[.slice a n cap, .bool false] 52)).heap.size ∧ w.heap.size ≤ c ∧ w.heap.size ≤ rb) := Lib.hid ⟨by have := HRLT.out.1; omega, by rw [bz]; omega, by rw [← hce]; exact HB1.out.size, HRLT.out.2⟩
  have HFA : Hid (Far c (.slice a n cap)) := Lib.hid (fun k hk => by
    have h1 := HOWN.out k
    have h2 := HNE.out.2.2.1
    rcases Nat.lt_or_ge k w.heap.size with h | h
    · omega
    · exact absurd hk (h1 h))
  have HRF2 : Hid (RF (W1.alloc (.cells #[.slice a n cap, .bool false] 52)) c bs false) := Lib.hid ⟨.slice a n cap, by rw [← hce]; exact bn, HRB0.out _ HB2.out, HFA.out, fun h => by cases h⟩
  clear bx bn bz HRR1 HB1 HRLT
  try rw [hce]
  generalize W1.alloc (.cells #[.slice a n cap, .bool false] 52) = V1 at HB2 HRR2 HRF2 HNE ⊢
  clear hce
  refine (HRD1.out rb V1 HRR2.out).mono ?_
  rintro e W2 ⟨a5, c5, rfl, ho2, hr2, ht2⟩
  have HB3 := Lib.hid (ht2.outside HB2.out HB2.out.size HNE.out.2.2.2)
  have HRR3 := Lib.hid hr2
  have HRF3 := Lib.hid (HRF2.out.besides HRR2.out ht2 (fun h => HNE.out.1 h.symm))
  have HCL : Hid (c < W2.heap.size) := Lib.hid (Nat.lt_of_lt_of_le HNE.out.2.1 ht2.size)
  have HU3 := Lib.hid (And.intro (ho2.us HXS.out).2 ho2.fr)
  have HO3 := Lib.hid ho2
  have HVC : Hid (c < V1.heap.size) := Lib.hid HNE.out.2.1
  clear hr2 ht2 HRR2 HRF2 HB2 ho2
  unfold repV
  go_wp2_with fail
  obtain ⟨bx, bn, bz⟩ := box1 W2 #[.int .i64 cd, .int .i64 tm, .int .u64 id, .int .i64 cn, .int .i64 st, .int .i64 lv, .int .u64 ge, .int .i64 fr, .int .i64 lf, .int .i64 du, .int .i64 tl, .slice a5 L c5, .int .u64 nt, .int .i64 de] 28
  have HB4 := Lib.hid (HB3.out.trans (bx.mono HB3.out.size))
  have HRR4 := Lib.hid (HRR3.out.kept bx)
  have HRF4 := Lib.hid (HRF3.out.kept bx)
  have HO4 := Lib.hid (HO3.out.kept bx)
  have HF4 := Lib.hid (HO4.out.fr)
  obtain ⟨T10, hTe⟩ : ∃ c, W2.heap.size = c := ⟨_, rfl⟩
  rw [hTe] at bn
  have HT10 := Lib.hid bn
  have HTC : Hid (T10 ≠ c) := Lib.hid (by have := HCL.out; omega)
  clear bx bn bz HRR3 HRF3 HB3 HU3 HO3
  try rw [hTe]
  generalize W2.alloc (.cells #[.int .i64 cd, .int .i64 tm, .int .u64 id, .int .i64 cn, .int .i64 st, .int .i64 lv, .int .u64 ge, .int .i64 fr, .int .i64 lf, .int .i64 du, .int .i64 tl, .slice a5 L c5, .int .u64 nt, .int .i64 de] 28) = V2 at HB4 HRR4 HRF4 HT10 HO4 HF4 ⊢
  clear hTe HCL
  refine (HRD2.out c V2 HRF4.out).mono ?_
  rintro e W3 ⟨a7, c7, rfl, ho3, hr3, ht3⟩
  have HB5 := Lib.hid (ht3.outside HB4.out HB4.out.size HNE.out.2.2.1)
  have HRF5 := Lib.hid hr3
  have HRR5 := Lib.hid (HRR4.out.besides HRF4.out ht3 HNE.out.1)
  have HT11 := Lib.hid (ht3.keep HT10.out HTC.out)
  have HO5 := Lib.hid (HO4.out.rd ht3 HVC.out)
  have HO7 := Lib.hid ho3
  clear hr3 ht3 HRR4 HRF4 HB4 HT10 ho3 HO4 HF4
  unfold repV
  go_wp2_with fail
  obtain ⟨bx, bn, bz⟩ := box1 W3 #[.int .i64 cd, .int .i64 tm, .int .u64 id, .int .i64 cn, .int .i64 st, .int .i64 lv, .int .u64 ge, .int .i64 fr, .int .i64 lf, .int .i64 du, .int .i64 tl, .slice a7 L c7, .int .u64 nt, .int .i64 de] 28
  have HB6 := HB5.out.trans (bx.mono HB5.out.size)
  obtain ⟨T12, hTe⟩ : ∃ c, W3.heap.size = c := ⟨_, rfl⟩
  rw [hTe] at bn
  obtain ⟨v, h1, h2, -, -⟩ := HRF5.out.kept bx
  obtain ⟨va, vc, rfl⟩ := h2.shapeN' (rfl : R.length = R.length)
  have hrr := HRR5.out.kept bx
  have c0 : (W3.alloc (.cells #[.int .i64 cd, .int .i64 tm, .int .u64 id, .int .i64 cn, .int .i64 st, .int .i64 lv, .int .u64 ge, .int .i64 fr, .int .i64 lf, .int .i64 du, .int .i64 tl, .slice a7 L c7, .int .u64 nt, .int .i64 de] 28)).cell? ⟨c, 0, none⟩ = some (.slice va R.length vc) := by simp [World.cell?, h1]
  have c1 : (W3.alloc (.cells #[.int .i64 cd, .int .i64 tm, .int .u64 id, .int .i64 cn, .int .i64 st, .int .i64 lv, .int .u64 ge, .int .i64 fr, .int .i64 lf, .int .i64 du, .int .i64 tl, .slice a7 L c7, .int .u64 nt, .int .i64 de] 28)).cell? ⟨c, 1, none⟩ = some (.bool (!ok)) := by simp [World.cell?, h1]
  have ho5 := HO5.out.kept bx
  have ho7 := HO7.out.kept bx
  have HS0 := Lib.hid (show (fun W => W.heap[T10]? = some (.cells #[.int .i64 cd, .int .i64 tm, .int .u64 id, .int .i64 cn, .int .i64 st, .int .i64 lv, .int .u64 ge, .int .i64 fr, .int .i64 lf, .int .i64 du, .int .i64 tl, .slice a5 L c5, .int .u64 nt, .int .i64 de] 28 (0, 0)) ∧ W.heap[T12]? = some (.cells #[.int .i64 cd, .int .i64 tm, .int .u64 id, .int .i64 cn, .int .i64 st, .int .i64 lv, .int .u64 ge, .int .i64 fr, .int .i64 lf, .int .i64 du, .int .i64 tl, .slice a7 L c7, .int .u64 nt, .int .i64 de] 28 (0, 0)) ∧ RR W rb R (!ok) ∧ W.cell? ⟨c, 0, none⟩ = some (.slice va R.length vc) ∧ W.cell? ⟨c, 1, none⟩ = some (.bool (!ok)) ∧ Below w.heap.size w W ∧ Us W a5 L xs ∧ Us W a7 L xs ∧ Fr W a5) (W3.alloc (.cells #[.int .i64 cd, .int .i64 tm, .int .u64 id, .int .i64 cn, .int .i64 st, .int .i64 lv, .int .u64 ge, .int .i64 fr, .int .i64 lf, .int .i64 du, .int .i64 tl, .slice a7 L c7, .int .u64 nt, .int .i64 de] 28)) from ⟨ex_below HT11.out bx, bn, hrr, c0, c1, HB6, (ho5.us HXS.out).2, (ho7.us HXS.out).2, ho5.fr⟩)
  try rw [hTe]
  clear h1 h2 bx bn bz HRR5 HRF5 HB5 HT11 HB6 hrr c0 c1 ho5 ho7 HO5 HO7 hTe
  generalize W3.alloc (.cells #[.int .i64 cd, .int .i64 tm, .int .u64 id, .int .i64 cn, .int .i64 st, .int .i64 lv, .int .u64 ge, .int .i64 fr, .int .i64 lf, .int .i64 du, .int .i64 tl, .slice a7 L c7, .int .u64 nt, .int .i64 de] 28) = V3 at HS0 ⊢
  obtain ⟨rl, hrl⟩ : ∃ x, R.length = x := ⟨_, rfl⟩
  rw [hrl] at HS0
  have HRE := Lib.hid hrl
  clear hrl
  have HSD : Hid (∀ W, (fun W => W.heap[T10]? = some (.cells #[.int .i64 cd, .int .i64 tm, .int .u64 id, .int .i64 cn, .int .i64 st, .int .i64 lv, .int .u64 ge, .int .i64 fr, .int .i64 lf, .int .i64 du, .int .i64 tl, .slice a5 L c5, .int .u64 nt, .int .i64 de] 28 (0, 0)) ∧ W.heap[T12]? = some (.cells #[.int .i64 cd, .int .i64 tm, .int .u64 id, .int .i64 cn, .int .i64 st, .int .i64 lv, .int .u64 ge, .int .i64 fr, .int .i64 lf, .int .i64 du, .int .i64 tl, .slice a7 L c7, .int .u64 nt, .int .i64 de] 28 (0, 0)) ∧ RR W rb R (!ok) ∧ W.cell? ⟨c, 0, none⟩ = some (.slice va rl vc) ∧ W.cell? ⟨c, 1, none⟩ = some (.bool (!ok)) ∧ Below w.heap.size w W ∧ Us W a5 L xs ∧ Us W a7 L xs ∧ Fr W a5) W → ∀ W', Below W.heap.size W W' → (fun W => W.heap[T10]? = some (.cells #[.int .i64 cd, .int .i64 tm, .int .u64 id, .int .i64 cn, .int .i64 st, .int .i64 lv, .int .u64 ge, .int .i64 fr, .int .i64 lf, .int .i64 du, .int .i64 tl, .slice a5 L c5, .int .u64 nt, .int .i64 de] 28 (0, 0)) ∧ W.heap[T12]? = some (.cells #[.int .i64 cd, .int .i64 tm, .int .u64 id, .int .i64 cn, .int .i64 st, .int .i64 lv, .int .u64 ge, .int .i64 fr, .int .i64 lf, .int .i64 du, .int .i64 tl, .slice a7 L c7, .int .u64 nt, .int .i64 de] 28 (0, 0)) ∧ RR W rb R (!ok) ∧ W.cell? ⟨c, 0, none⟩ = some (.slice va rl vc) ∧ W.cell? ⟨c, 1, none⟩ = some (.bool (!ok)) ∧ Below w.heap.size w W ∧ Us W a5 L xs ∧ Us W a7 L xs ∧ Fr W a5) W') := Lib.hid (fun W ⟨k1, k2, k3, k4, k5, k6, k7, k8, k9⟩ W' hb => ⟨ex_below k1 hb, ex_below k2 hb, k3.kept hb, (hb.cell (cell_spot k4).2).trans k4, (hb.cell (cell_spot k5).2).trans k5, k6.trans (hb.mono k6.size), k7.kept hb, k8.kept hb, fun g o h => Nat.lt_of_lt_of_le (k9 g o h) hb.size⟩)
  have HRS : Hid (∀ W, (fun W => W.heap[T10]? = some (.cells #[.int .i64 cd, .int .i64 tm, .int .u64 id, .int .i64 cn, .int .i64 st, .int .i64 lv, .int .u64 ge, .int .i64 fr, .int .i64 lf, .int .i64 du, .int .i64 tl, .slice a5 L c5, .int .u64 nt, .int .i64 de] 28 (0, 0)) ∧ W.heap[T12]? = some (.cells #[.int .i64 cd, .int .i64 tm, .int .u64 id, .int .i64 cn, .int .i64 st, .int .i64 lv, .int .u64 ge, .int .i64 fr, .int .i64 lf, .int .i64 du, .int .i64 tl, .slice a7 L c7, .int .u64 nt, .int .i64 de] 28 (0, 0)) ∧ RR W rb R (!ok) ∧ W.cell? ⟨c, 0, none⟩ = some (.slice va rl vc) ∧ W.cell? ⟨c, 1, none⟩ = some (.bool (!ok)) ∧ Below w.heap.size w W ∧ Us W a5 L xs ∧ Us W a7 L xs ∧ Fr W a5) W → Calls Try.prog 13 #[.agg #[.int .i64 cd, .int .i64 tm, .int .u64 id, .int .i64 cn, .int .i64 st, .int .i64 lv, .int .u64 ge, .int .i64 fr, .int .i64 lf, .int .i64 du, .int .i64 tl, .slice a5 L c5, .int .u64 nt, .int .i64 de], .agg #[.int .i64 cd, .int .i64 tm, .int .u64 id, .int .i64 cn, .int .i64 st, .int .i64 lv, .int .u64 ge, .int .i64 fr, .int .i64 lf, .int .i64 du, .int .i64 tl, .slice a7 L c7, .int .u64 nt, .int .i64 de]] W fun e w' => e = .returned (.bool true) ∧ Below W.heap.size W w') := Lib.hid (fun W ⟨k1, k2, k3, k4, k5, k6, k7, k8, k9⟩ => by
    have h := rrep_same cd tm id cn st lv ge fr lf du tl a5 L c5 nt de xs cd tm id cn st lv ge fr lf du tl a7 L c7 nt de xs W k7 k8
    rw [repEq_refl] at h
    exact h)
  cases ok
  case false =>
    have HS0' := Lib.hid (HSD.out _ HS0.out V3.drew (Below.refl _ _).drew)
    clear HS0
    have HS0 := HS0'
    clear HS0'
    refine wp_region_held_drew (S := fun W => W.heap[T10]? = some (.cells #[.int .i64 cd, .int .i64 tm, .int .u64 id, .int .i64 cn, .int .i64 st, .int .i64 lv, .int .u64 ge, .int .i64 fr, .int .i64 lf, .int .i64 du, .int .i64 tl, .slice a5 L c5, .int .u64 nt, .int .i64 de] 28 (0, 0)) ∧ W.heap[T12]? = some (.cells #[.int .i64 cd, .int .i64 tm, .int .u64 id, .int .i64 cn, .int .i64 st, .int .i64 lv, .int .u64 ge, .int .i64 fr, .int .i64 lf, .int .i64 du, .int .i64 tl, .slice a7 L c7, .int .u64 nt, .int .i64 de] 28 (0, 0)) ∧ RR W rb R (!false) ∧ W.cell? ⟨c, 0, none⟩ = some (.slice va rl vc) ∧ W.cell? ⟨c, 1, none⟩ = some (.bool (!false)) ∧ Below w.heap.size w W ∧ Us W a5 L xs ∧ Us W a7 L xs ∧ Fr W a5) (by kernel_rfl) HS0.out (fun hHeld => ?_)
    clear hHeld
    generalize V3.drew = V4 at HS0 ⊢
    refine wpAnyH_take (i := 0) (v := ?_) rfl (by kernel_rfl) (by kernel_rfl) (by kernel_rfl) (fun _ _ _ h => h) (Or.inl ⟨by rfl, ?_⟩) (HS0.out) ?_
    case refine_2 => (intro w1 hS1; clear hS1; go_simp; try with_reducible rfl)
    try simp only [List.getElem_toArray, List.getElem_cons_zero, List.getElem_cons_succ, Act.put, List.setIfInBounds_toArray, List.set_cons_zero, List.set_cons_succ]
    refine wpAnyH_take (i := 1) (v := ?_) rfl (by kernel_rfl) (by kernel_rfl) (by kernel_rfl) (fun _ _ _ h => h) (Or.inl ⟨by rfl, ?_⟩) (HS0.out) ?_
    case refine_2 => (intro w1 hS1; clear hS1; go_simp; try with_reducible rfl)
    try simp only [List.getElem_toArray, List.getElem_cons_zero, List.getElem_cons_succ, Act.put, List.setIfInBounds_toArray, List.set_cons_zero, List.set_cons_succ]
    refine wpAnyH_take (i := 2) (v := ?_) rfl (by kernel_rfl) (by kernel_rfl) (by kernel_rfl) (fun _ _ _ h => h) (Or.inl ⟨by rfl, ?_⟩) (HS0.out) ?_
    case refine_2 => (intro w1 hS1; clear hS1; go_simp; try with_reducible rfl)
    try simp only [List.getElem_toArray, List.getElem_cons_zero, List.getElem_cons_succ, Act.put, List.setIfInBounds_toArray, List.set_cons_zero, List.set_cons_succ]
    refine wpAnyH_take (i := 3) (v := ?_) rfl (by kernel_rfl) (by kernel_rfl) (by kernel_rfl) (fun _ _ _ h => h) (Or.inl ⟨by rfl, ?_⟩) (HS0.out) ?_
    case refine_2 => (intro w1 hS1; clear hS1; go_simp; try with_reducible rfl)
    try simp only [List.getElem_toArray, List.getElem_cons_zero, List.getElem_cons_succ, Act.put, List.setIfInBounds_toArray, List.set_cons_zero, List.set_cons_succ]
    refine wpAnyH_take (i := 4) (v := ?_) rfl (by kernel_rfl) (by kernel_rfl) (by kernel_rfl) (fun _ _ _ h => h) (Or.inl ⟨by rfl, ?_⟩) (HS0.out) ?_
    case refine_2 => (intro w1 hS1; obtain ⟨k1, k2, k3, k4, k5, -⟩ := hS1; obtain ⟨q0, q1, q2, q3, q4, q5, q6, q7, q8, q9, q10, q11, q12, q13⟩ := rep_at k1; obtain ⟨r0, r1, r2, r3, r4, r5, r6, r7, r8, r9, r10, r11, r12, r13⟩ := rep_at k2; clear k1 k2; go_simp; try with_reducible rfl)
    try simp only [List.getElem_toArray, List.getElem_cons_zero, List.getElem_cons_succ, Act.put, List.setIfInBounds_toArray, List.set_cons_zero, List.set_cons_succ]
    refine wpAnyH_take (i := 5) (v := ?_) rfl (by kernel_rfl) (by kernel_rfl) (by kernel_rfl) (fun _ _ _ h => h) (Or.inl ⟨by rfl, ?_⟩) (HS0.out) ?_
    case refine_2 => (intro w1 hS1; obtain ⟨k1, k2, k3, k4, k5, -⟩ := hS1; obtain ⟨q0, q1, q2, q3, q4, q5, q6, q7, q8, q9, q10, q11, q12, q13⟩ := rep_at k1; obtain ⟨r0, r1, r2, r3, r4, r5, r6, r7, r8, r9, r10, r11, r12, r13⟩ := rep_at k2; clear k1 k2; go_simp; try with_reducible rfl)
    try simp only [List.getElem_toArray, List.getElem_cons_zero, List.getElem_cons_succ, Act.put, List.setIfInBounds_toArray, List.set_cons_zero, List.set_cons_succ]
    refine wpAnyH_ready (rs := [6]) (by kernel_rfl) (by simp) ?_
    refine AllReadyH.cons rfl (fun K hK => ?_) AllReadyH.nil
    go_simp
    refine (HRS.out _ HS0.out).mono ?_
    rintro e V5 ⟨rfl, hb⟩
    have HS0' := Lib.hid (HSD.out _ HS0.out V5 hb)
    clear hb
    clear HS0
    have HS0 := HS0'
    clear HS0'
    refine hK.out _ _ HS0.out (fun hHeld => ?_)
    clear hK K hHeld
    try simp only [List.getElem_toArray, List.getElem_cons_zero, List.getElem_cons_succ, Act.put, List.setIfInBounds_toArray, List.set_cons_zero, List.set_cons_succ]
    refine wpAnyH_take (i := 7) (v := ?_) rfl (by kernel_rfl) (by kernel_rfl) (by kernel_rfl) (fun _ _ _ h => h) (Or.inl ⟨by rfl, ?_⟩) (HS0.out) ?_
    case refine_2 => (intro w1 hS1; clear hS1; go_simp; try with_reducible rfl)
    try simp only [List.getElem_toArray, List.getElem_cons_zero, List.getElem_cons_succ, Act.put, List.setIfInBounds_toArray, List.set_cons_zero, List.set_cons_succ]
    refine wpAnyH_take (i := 8) (v := ?_) rfl (by kernel_rfl) (by kernel_rfl) (by kernel_rfl) (fun _ _ _ h => h) (Or.inl ⟨by rfl, ?_⟩) (HS0.out) ?_
    case refine_2 => (intro w1 hS1; clear hS1; go_simp; try with_reducible rfl)
    try simp only [List.getElem_toArray, List.getElem_cons_zero, List.getElem_cons_succ, Act.put, List.setIfInBounds_toArray, List.set_cons_zero, List.set_cons_succ]
    refine wpAnyH_take (i := 9) (v := ?_) rfl (by kernel_rfl) (by kernel_rfl) (by kernel_rfl) (fun _ _ _ h => h) (Or.inl ⟨by rfl, ?_⟩) (HS0.out) ?_
    case refine_2 => (intro w1 hS1; clear hS1; go_simp; try with_reducible rfl)
    try simp only [List.getElem_toArray, List.getElem_cons_zero, List.getElem_cons_succ, Act.put, List.setIfInBounds_toArray, List.set_cons_zero, List.set_cons_succ]
    refine wpAnyH_take (i := 10) (v := ?_) rfl (by kernel_rfl) (by kernel_rfl) (by kernel_rfl) (fun _ _ _ h => h) (Or.inl ⟨by rfl, ?_⟩) (HS0.out) ?_
    case refine_2 => (intro w1 hS1; clear hS1; go_simp; try with_reducible rfl)
    try simp only [List.getElem_toArray, List.getElem_cons_zero, List.getElem_cons_succ, Act.put, List.setIfInBounds_toArray, List.set_cons_zero, List.set_cons_succ]
    refine wpAnyH_take (i := 12) (v := ?_) rfl (by kernel_rfl) (by kernel_rfl) (by kernel_rfl) (fun _ _ _ h => h) (Or.inl ⟨by rfl, ?_⟩) (HS0.out) ?_
    case refine_2 => (intro w1 hS1; clear hS1; go_simp; try with_reducible rfl)
    try simp only [List.getElem_toArray, List.getElem_cons_zero, List.getElem_cons_succ, Act.put, List.setIfInBounds_toArray, List.set_cons_zero, List.set_cons_succ]
    refine wpAnyH_take (i := 13) (v := ?_) rfl (by kernel_rfl) (by kernel_rfl) (by kernel_rfl) (fun _ _ _ h => h) (Or.inl ⟨by rfl, ?_⟩) (HS0.out) ?_
    case refine_2 => (intro w1 hS1; clear hS1; go_simp; try with_reducible rfl)
    try simp only [List.getElem_toArray, List.getElem_cons_zero, List.getElem_cons_succ, Act.put, List.setIfInBounds_toArray, List.set_cons_zero, List.set_cons_succ]
    refine wpAnyH_take (i := 14) (v := ?_) rfl (by kernel_rfl) (by kernel_rfl) (by kernel_rfl) (fun _ _ _ h => h) (Or.inl ⟨by rfl, ?_⟩) (HS0.out) ?_
    case refine_2 => (intro w1 hS1; clear hS1; go_simp; try with_reducible rfl)
    try simp only [List.getElem_toArray, List.getElem_cons_zero, List.getElem_cons_succ, Act.put, List.setIfInBounds_toArray, List.set_cons_zero, List.set_cons_succ]
    refine wpAnyH_take (i := 15) (v := ?_) rfl (by kernel_rfl) (by kernel_rfl) (by kernel_rfl) (fun _ _ _ h => h) (Or.inl ⟨by rfl, ?_⟩) (HS0.out) ?_
    case refine_2 => (intro w1 hS1; obtain ⟨k1, k2, k3, k4, k5, -⟩ := hS1; obtain ⟨q0, q1, q2, q3, q4, q5, q6, q7, q8, q9, q10, q11, q12, q13⟩ := rep_at k1; obtain ⟨r0, r1, r2, r3, r4, r5, r6, r7, r8, r9, r10, r11, r12, r13⟩ := rep_at k2; clear k1 k2; go_simp; try with_reducible rfl)
    try simp only [List.getElem_toArray, List.getElem_cons_zero, List.getElem_cons_succ, Act.put, List.setIfInBounds_toArray, List.set_cons_zero, List.set_cons_succ]
    refine wpAnyH_take (i := 16) (v := ?_) rfl (by kernel_rfl) (by kernel_rfl) (by kernel_rfl) (fun _ _ _ h => h) (Or.inl ⟨by rfl, ?_⟩) (HS0.out) ?_
    case refine_2 => (intro w1 hS1; clear hS1; go_simp; try with_reducible rfl)
    try simp only [List.getElem_toArray, List.getElem_cons_zero, List.getElem_cons_succ, Act.put, List.setIfInBounds_toArray, List.set_cons_zero, List.set_cons_succ]
    refine wpAnyH_ready (rs := [11]) (by kernel_rfl) (by simp) ?_
    refine AllReadyH.cons rfl (fun K hK => ?_) AllReadyH.nil
    go_simp
    refine (left_rd rb _ _ _ HS0.out.2.2.1).mono ?_
    rintro e V6 ⟨rfl, rfl⟩
    rw [HRE.out]
    refine hK.out _ _ HS0.out (fun hHeld => ?_)
    clear hK K hHeld
    try simp only [List.getElem_toArray, List.getElem_cons_zero, List.getElem_cons_succ, Act.put, List.setIfInBounds_toArray, List.set_cons_zero, List.set_cons_succ]
    refine wpAnyH_take (i := 17) (v := ?_) rfl (by kernel_rfl) (by kernel_rfl) (by kernel_rfl) (fun _ _ _ h => h) (Or.inl ⟨by rfl, ?_⟩) (HS0.out) ?_
    case refine_2 => (intro w1 hS1; clear hS1; go_simp; try with_reducible rfl)
    try simp only [List.getElem_toArray, List.getElem_cons_zero, List.getElem_cons_succ, Act.put, List.setIfInBounds_toArray, List.set_cons_zero, List.set_cons_succ]
    refine wpAnyH_take (i := 18) (v := ?_) rfl (by kernel_rfl) (by kernel_rfl) (by kernel_rfl) (fun _ _ _ h => h) (Or.inl ⟨by rfl, ?_⟩) (HS0.out) ?_
    case refine_2 => (intro w1 hS1; clear hS1; go_simp; try with_reducible rfl)
    try simp only [List.getElem_toArray, List.getElem_cons_zero, List.getElem_cons_succ, Act.put, List.setIfInBounds_toArray, List.set_cons_zero, List.set_cons_succ]
    refine wpAnyH_take (i := 19) (v := ?_) rfl (by kernel_rfl) (by kernel_rfl) (by kernel_rfl) (fun _ _ _ h => h) (Or.inl ⟨by rfl, ?_⟩) (HS0.out) ?_
    case refine_2 => (intro w1 hS1; clear hS1; go_simp; try with_reducible rfl)
    try simp only [List.getElem_toArray, List.getElem_cons_zero, List.getElem_cons_succ, Act.put, List.setIfInBounds_toArray, List.set_cons_zero, List.set_cons_succ]
    refine wpAnyH_take (i := 20) (v := ?_) rfl (by kernel_rfl) (by kernel_rfl) (by kernel_rfl) (fun _ _ _ h => h) (Or.inl ⟨by rfl, ?_⟩) (HS0.out) ?_
    case refine_2 => (intro w1 hS1; clear hS1; go_simp; try with_reducible rfl)
    try simp only [List.getElem_toArray, List.getElem_cons_zero, List.getElem_cons_succ, Act.put, List.setIfInBounds_toArray, List.set_cons_zero, List.set_cons_succ]
    refine wpAnyH_take (i := 22) (v := ?_) rfl (by kernel_rfl) (by kernel_rfl) (by kernel_rfl) (fun _ _ _ h => h) (Or.inl ⟨by rfl, ?_⟩) (HS0.out) ?_
    case refine_2 => (intro w1 hS1; clear hS1; go_simp; try with_reducible rfl)
    try simp only [List.getElem_toArray, List.getElem_cons_zero, List.getElem_cons_succ, Act.put, List.setIfInBounds_toArray, List.set_cons_zero, List.set_cons_succ]
    refine wpAnyH_take (i := 23) (v := ?_) rfl (by kernel_rfl) (by kernel_rfl) (by kernel_rfl) (fun _ _ _ h => h) (Or.inl ⟨by rfl, ?_⟩) (HS0.out) ?_
    case refine_2 => (intro w1 hS1; clear hS1; go_simp; try with_reducible rfl)
    try simp only [List.getElem_toArray, List.getElem_cons_zero, List.getElem_cons_succ, Act.put, List.setIfInBounds_toArray, List.set_cons_zero, List.set_cons_succ]
    refine wpAnyH_take (i := 24) (v := ?_) rfl (by kernel_rfl) (by kernel_rfl) (by kernel_rfl) (fun _ _ _ h => h) (Or.inl ⟨by rfl, ?_⟩) (HS0.out) ?_
    case refine_2 => (intro w1 hS1; clear hS1; go_simp; try with_reducible rfl)
    try simp only [List.getElem_toArray, List.getElem_cons_zero, List.getElem_cons_succ, Act.put, List.setIfInBounds_toArray, List.set_cons_zero, List.set_cons_succ]
    refine wpAnyH_take (i := 25) (v := ?_) rfl (by kernel_rfl) (by kernel_rfl) (by kernel_rfl) (fun _ _ _ h => h) (Or.inl ⟨by rfl, ?_⟩) (HS0.out) ?_
    case refine_2 => (intro w1 hS1; obtain ⟨k1, k2, k3, k4, k5, -⟩ := hS1; obtain ⟨q0, q1, q2, q3, q4, q5, q6, q7, q8, q9, q10, q11, q12, q13⟩ := rep_at k1; obtain ⟨r0, r1, r2, r3, r4, r5, r6, r7, r8, r9, r10, r11, r12, r13⟩ := rep_at k2; clear k1 k2; go_simp; try with_reducible rfl)
    try simp only [List.getElem_toArray, List.getElem_cons_zero, List.getElem_cons_succ, Act.put, List.setIfInBounds_toArray, List.set_cons_zero, List.set_cons_succ]
    refine wpAnyH_ready (rs := [21]) (by kernel_rfl) (by simp) ?_
    refine AllReadyH.cons rfl (fun K hK => ?_) AllReadyH.nil
    go_simp
    refine (bad_rd rb _ _ _ HS0.out.2.2.1).mono ?_
    rintro e V6 ⟨rfl, rfl⟩
    refine hK.out _ _ HS0.out (fun hHeld => ?_)
    clear hK K hHeld
    try simp only [List.getElem_toArray, List.getElem_cons_zero, List.getElem_cons_succ, Act.put, List.setIfInBounds_toArray, List.set_cons_zero, List.set_cons_succ]
    refine wpAnyH_take (i := 26) (v := ?_) rfl (by kernel_rfl) (by kernel_rfl) (by kernel_rfl) (fun _ _ _ h => h) (Or.inl ⟨by rfl, ?_⟩) (HS0.out) ?_
    case refine_2 => (intro w1 hS1; clear hS1; go_simp; try with_reducible rfl)
    try simp only [List.getElem_toArray, List.getElem_cons_zero, List.getElem_cons_succ, Act.put, List.setIfInBounds_toArray, List.set_cons_zero, List.set_cons_succ]
    refine wpAnyH_take (i := 27) (v := ?_) rfl (by kernel_rfl) (by kernel_rfl) (by kernel_rfl) (fun _ _ _ h => h) (Or.inl ⟨by rfl, ?_⟩) (HS0.out) ?_
    case refine_2 => (intro w1 hS1; clear hS1; go_simp; try with_reducible rfl)
    try simp only [List.getElem_toArray, List.getElem_cons_zero, List.getElem_cons_succ, Act.put, List.setIfInBounds_toArray, List.set_cons_zero, List.set_cons_succ]
    refine wpAnyH_done (by kernel_rfl) ?_ _
    go_wp2_with fail
    refine (lives19 _).mono ?_
    rintro e V8 ⟨rfl, hb⟩
    have HB8 := Lib.hid (HS0.out.2.2.2.2.2.1.trans (hb.mono HS0.out.2.2.2.2.2.1.size))
    clear hb
    go_wp2_with fail
    go_ret
    exact ⟨rfl, HB8.out⟩
  case true =>
    have HS0' := Lib.hid (HSD.out _ HS0.out V3.drew (Below.refl _ _).drew)
    clear HS0
    have HS0 := HS0'
    clear HS0'
    refine wp_region_held_drew (S := fun W => W.heap[T10]? = some (.cells #[.int .i64 cd, .int .i64 tm, .int .u64 id, .int .i64 cn, .int .i64 st, .int .i64 lv, .int .u64 ge, .int .i64 fr, .int .i64 lf, .int .i64 du, .int .i64 tl, .slice a5 L c5, .int .u64 nt, .int .i64 de] 28 (0, 0)) ∧ W.heap[T12]? = some (.cells #[.int .i64 cd, .int .i64 tm, .int .u64 id, .int .i64 cn, .int .i64 st, .int .i64 lv, .int .u64 ge, .int .i64 fr, .int .i64 lf, .int .i64 du, .int .i64 tl, .slice a7 L c7, .int .u64 nt, .int .i64 de] 28 (0, 0)) ∧ RR W rb R (!true) ∧ W.cell? ⟨c, 0, none⟩ = some (.slice va rl vc) ∧ W.cell? ⟨c, 1, none⟩ = some (.bool (!true)) ∧ Below w.heap.size w W ∧ Us W a5 L xs ∧ Us W a7 L xs ∧ Fr W a5) (by kernel_rfl) HS0.out (fun hHeld => ?_)
    clear hHeld
    generalize V3.drew = V4 at HS0 ⊢
    refine wpAnyH_take (i := 0) (v := ?_) rfl (by kernel_rfl) (by kernel_rfl) (by kernel_rfl) (fun _ _ _ h => h) (Or.inl ⟨by rfl, ?_⟩) (HS0.out) ?_
    case refine_2 => (intro w1 hS1; clear hS1; go_simp; try with_reducible rfl)
    try simp only [List.getElem_toArray, List.getElem_cons_zero, List.getElem_cons_succ, Act.put, List.setIfInBounds_toArray, List.set_cons_zero, List.set_cons_succ]
    refine wpAnyH_take (i := 1) (v := ?_) rfl (by kernel_rfl) (by kernel_rfl) (by kernel_rfl) (fun _ _ _ h => h) (Or.inl ⟨by rfl, ?_⟩) (HS0.out) ?_
    case refine_2 => (intro w1 hS1; clear hS1; go_simp; try with_reducible rfl)
    try simp only [List.getElem_toArray, List.getElem_cons_zero, List.getElem_cons_succ, Act.put, List.setIfInBounds_toArray, List.set_cons_zero, List.set_cons_succ]
    refine wpAnyH_take (i := 2) (v := ?_) rfl (by kernel_rfl) (by kernel_rfl) (by kernel_rfl) (fun _ _ _ h => h) (Or.inl ⟨by rfl, ?_⟩) (HS0.out) ?_
    case refine_2 => (intro w1 hS1; clear hS1; go_simp; try with_reducible rfl)
    try simp only [List.getElem_toArray, List.getElem_cons_zero, List.getElem_cons_succ, Act.put, List.setIfInBounds_toArray, List.set_cons_zero, List.set_cons_succ]
    refine wpAnyH_take (i := 3) (v := ?_) rfl (by kernel_rfl) (by kernel_rfl) (by kernel_rfl) (fun _ _ _ h => h) (Or.inl ⟨by rfl, ?_⟩) (HS0.out) ?_
    case refine_2 => (intro w1 hS1; clear hS1; go_simp; try with_reducible rfl)
    try simp only [List.getElem_toArray, List.getElem_cons_zero, List.getElem_cons_succ, Act.put, List.setIfInBounds_toArray, List.set_cons_zero, List.set_cons_succ]
    refine wpAnyH_take (i := 4) (v := ?_) rfl (by kernel_rfl) (by kernel_rfl) (by kernel_rfl) (fun _ _ _ h => h) (Or.inl ⟨by rfl, ?_⟩) (HS0.out) ?_
    case refine_2 => (intro w1 hS1; obtain ⟨k1, k2, k3, k4, k5, -⟩ := hS1; obtain ⟨q0, q1, q2, q3, q4, q5, q6, q7, q8, q9, q10, q11, q12, q13⟩ := rep_at k1; obtain ⟨r0, r1, r2, r3, r4, r5, r6, r7, r8, r9, r10, r11, r12, r13⟩ := rep_at k2; clear k1 k2; go_simp; try with_reducible rfl)
    try simp only [List.getElem_toArray, List.getElem_cons_zero, List.getElem_cons_succ, Act.put, List.setIfInBounds_toArray, List.set_cons_zero, List.set_cons_succ]
    refine wpAnyH_take (i := 5) (v := ?_) rfl (by kernel_rfl) (by kernel_rfl) (by kernel_rfl) (fun _ _ _ h => h) (Or.inl ⟨by rfl, ?_⟩) (HS0.out) ?_
    case refine_2 => (intro w1 hS1; obtain ⟨k1, k2, k3, k4, k5, -⟩ := hS1; obtain ⟨q0, q1, q2, q3, q4, q5, q6, q7, q8, q9, q10, q11, q12, q13⟩ := rep_at k1; obtain ⟨r0, r1, r2, r3, r4, r5, r6, r7, r8, r9, r10, r11, r12, r13⟩ := rep_at k2; clear k1 k2; go_simp; try with_reducible rfl)
    try simp only [List.getElem_toArray, List.getElem_cons_zero, List.getElem_cons_succ, Act.put, List.setIfInBounds_toArray, List.set_cons_zero, List.set_cons_succ]
    refine wpAnyH_ready (rs := [6]) (by kernel_rfl) (by simp) ?_
    refine AllReadyH.cons rfl (fun K hK => ?_) AllReadyH.nil
    go_simp
    refine (HRS.out _ HS0.out).mono ?_
    rintro e V5 ⟨rfl, hb⟩
    have HS0' := Lib.hid (HSD.out _ HS0.out V5 hb)
    clear hb
    clear HS0
    have HS0 := HS0'
    clear HS0'
    refine hK.out _ _ HS0.out (fun hHeld => ?_)
    clear hK K hHeld
    try simp only [List.getElem_toArray, List.getElem_cons_zero, List.getElem_cons_succ, Act.put, List.setIfInBounds_toArray, List.set_cons_zero, List.set_cons_succ]
    refine wpAnyH_take (i := 7) (v := ?_) rfl (by kernel_rfl) (by kernel_rfl) (by kernel_rfl) (fun _ _ _ h => h) (Or.inl ⟨by rfl, ?_⟩) (HS0.out) ?_
    case refine_2 => (intro w1 hS1; clear hS1; go_simp; try with_reducible rfl)
    try simp only [List.getElem_toArray, List.getElem_cons_zero, List.getElem_cons_succ, Act.put, List.setIfInBounds_toArray, List.set_cons_zero, List.set_cons_succ]
    refine wpAnyH_take (i := 8) (v := ?_) rfl (by kernel_rfl) (by kernel_rfl) (by kernel_rfl) (fun _ _ _ h => h) (Or.inl ⟨by rfl, ?_⟩) (HS0.out) ?_
    case refine_2 => (intro w1 hS1; clear hS1; go_simp; try with_reducible rfl)
    try simp only [List.getElem_toArray, List.getElem_cons_zero, List.getElem_cons_succ, Act.put, List.setIfInBounds_toArray, List.set_cons_zero, List.set_cons_succ]
    refine wpAnyH_take (i := 9) (v := ?_) rfl (by kernel_rfl) (by kernel_rfl) (by kernel_rfl) (fun _ _ _ h => h) (Or.inl ⟨by rfl, ?_⟩) (HS0.out) ?_
    case refine_2 => (intro w1 hS1; clear hS1; go_simp; try with_reducible rfl)
    try simp only [List.getElem_toArray, List.getElem_cons_zero, List.getElem_cons_succ, Act.put, List.setIfInBounds_toArray, List.set_cons_zero, List.set_cons_succ]
    refine wpAnyH_take (i := 10) (v := ?_) rfl (by kernel_rfl) (by kernel_rfl) (by kernel_rfl) (fun _ _ _ h => h) (Or.inl ⟨by rfl, ?_⟩) (HS0.out) ?_
    case refine_2 => (intro w1 hS1; clear hS1; go_simp; try with_reducible rfl)
    try simp only [List.getElem_toArray, List.getElem_cons_zero, List.getElem_cons_succ, Act.put, List.setIfInBounds_toArray, List.set_cons_zero, List.set_cons_succ]
    refine wpAnyH_take (i := 12) (v := ?_) rfl (by kernel_rfl) (by kernel_rfl) (by kernel_rfl) (fun _ _ _ h => h) (Or.inl ⟨by rfl, ?_⟩) (HS0.out) ?_
    case refine_2 => (intro w1 hS1; clear hS1; go_simp; try with_reducible rfl)
    try simp only [List.getElem_toArray, List.getElem_cons_zero, List.getElem_cons_succ, Act.put, List.setIfInBounds_toArray, List.set_cons_zero, List.set_cons_succ]
    refine wpAnyH_take (i := 13) (v := ?_) rfl (by kernel_rfl) (by kernel_rfl) (by kernel_rfl) (fun _ _ _ h => h) (Or.inl ⟨by rfl, ?_⟩) (HS0.out) ?_
    case refine_2 => (intro w1 hS1; clear hS1; go_simp; try with_reducible rfl)
    try simp only [List.getElem_toArray, List.getElem_cons_zero, List.getElem_cons_succ, Act.put, List.setIfInBounds_toArray, List.set_cons_zero, List.set_cons_succ]
    refine wpAnyH_take (i := 14) (v := ?_) rfl (by kernel_rfl) (by kernel_rfl) (by kernel_rfl) (fun _ _ _ h => h) (Or.inl ⟨by rfl, ?_⟩) (HS0.out) ?_
    case refine_2 => (intro w1 hS1; clear hS1; go_simp; try with_reducible rfl)
    try simp only [List.getElem_toArray, List.getElem_cons_zero, List.getElem_cons_succ, Act.put, List.setIfInBounds_toArray, List.set_cons_zero, List.set_cons_succ]
    refine wpAnyH_take (i := 15) (v := ?_) rfl (by kernel_rfl) (by kernel_rfl) (by kernel_rfl) (fun _ _ _ h => h) (Or.inl ⟨by rfl, ?_⟩) (HS0.out) ?_
    case refine_2 => (intro w1 hS1; obtain ⟨k1, k2, k3, k4, k5, -⟩ := hS1; obtain ⟨q0, q1, q2, q3, q4, q5, q6, q7, q8, q9, q10, q11, q12, q13⟩ := rep_at k1; obtain ⟨r0, r1, r2, r3, r4, r5, r6, r7, r8, r9, r10, r11, r12, r13⟩ := rep_at k2; clear k1 k2; go_simp; try with_reducible rfl)
    try simp only [List.getElem_toArray, List.getElem_cons_zero, List.getElem_cons_succ, Act.put, List.setIfInBounds_toArray, List.set_cons_zero, List.set_cons_succ]
    refine wpAnyH_take (i := 16) (v := ?_) rfl (by kernel_rfl) (by kernel_rfl) (by kernel_rfl) (fun _ _ _ h => h) (Or.inl ⟨by rfl, ?_⟩) (HS0.out) ?_
    case refine_2 => (intro w1 hS1; clear hS1; go_simp; try with_reducible rfl)
    try simp only [List.getElem_toArray, List.getElem_cons_zero, List.getElem_cons_succ, Act.put, List.setIfInBounds_toArray, List.set_cons_zero, List.set_cons_succ]
    refine wpAnyH_ready (rs := [11]) (by kernel_rfl) (by simp) ?_
    refine AllReadyH.cons rfl (fun K hK => ?_) AllReadyH.nil
    go_simp
    refine (left_rd rb _ _ _ HS0.out.2.2.1).mono ?_
    rintro e V6 ⟨rfl, rfl⟩
    rw [HRE.out]
    refine hK.out _ _ HS0.out (fun hHeld => ?_)
    clear hK K hHeld
    try simp only [List.getElem_toArray, List.getElem_cons_zero, List.getElem_cons_succ, Act.put, List.setIfInBounds_toArray, List.set_cons_zero, List.set_cons_succ]
    refine wpAnyH_take (i := 17) (v := ?_) rfl (by kernel_rfl) (by kernel_rfl) (by kernel_rfl) (fun _ _ _ h => h) (Or.inl ⟨by rfl, ?_⟩) (HS0.out) ?_
    case refine_2 => (intro w1 hS1; clear hS1; go_simp; try with_reducible rfl)
    try simp only [List.getElem_toArray, List.getElem_cons_zero, List.getElem_cons_succ, Act.put, List.setIfInBounds_toArray, List.set_cons_zero, List.set_cons_succ]
    refine wpAnyH_take (i := 18) (v := ?_) rfl (by kernel_rfl) (by kernel_rfl) (by kernel_rfl) (fun _ _ _ h => h) (Or.inl ⟨by rfl, ?_⟩) (HS0.out) ?_
    case refine_2 => (intro w1 hS1; clear hS1; go_simp; try with_reducible rfl)
    try simp only [List.getElem_toArray, List.getElem_cons_zero, List.getElem_cons_succ, Act.put, List.setIfInBounds_toArray, List.set_cons_zero, List.set_cons_succ]
    refine wpAnyH_take (i := 19) (v := ?_) rfl (by kernel_rfl) (by kernel_rfl) (by kernel_rfl) (fun _ _ _ h => h) (Or.inl ⟨by rfl, ?_⟩) (HS0.out) ?_
    case refine_2 => (intro w1 hS1; clear hS1; go_simp; try with_reducible rfl)
    try simp only [List.getElem_toArray, List.getElem_cons_zero, List.getElem_cons_succ, Act.put, List.setIfInBounds_toArray, List.set_cons_zero, List.set_cons_succ]
    refine wpAnyH_take (i := 20) (v := ?_) rfl (by kernel_rfl) (by kernel_rfl) (by kernel_rfl) (fun _ _ _ h => h) (Or.inl ⟨by rfl, ?_⟩) (HS0.out) ?_
    case refine_2 => (intro w1 hS1; clear hS1; go_simp; try with_reducible rfl)
    try simp only [List.getElem_toArray, List.getElem_cons_zero, List.getElem_cons_succ, Act.put, List.setIfInBounds_toArray, List.set_cons_zero, List.set_cons_succ]
    refine wpAnyH_take (i := 22) (v := ?_) rfl (by kernel_rfl) (by kernel_rfl) (by kernel_rfl) (fun _ _ _ h => h) (Or.inl ⟨by rfl, ?_⟩) (HS0.out) ?_
    case refine_2 => (intro w1 hS1; clear hS1; go_simp; try with_reducible rfl)
    try simp only [List.getElem_toArray, List.getElem_cons_zero, List.getElem_cons_succ, Act.put, List.setIfInBounds_toArray, List.set_cons_zero, List.set_cons_succ]
    refine wpAnyH_take (i := 23) (v := ?_) rfl (by kernel_rfl) (by kernel_rfl) (by kernel_rfl) (fun _ _ _ h => h) (Or.inl ⟨by rfl, ?_⟩) (HS0.out) ?_
    case refine_2 => (intro w1 hS1; clear hS1; go_simp; try with_reducible rfl)
    try simp only [List.getElem_toArray, List.getElem_cons_zero, List.getElem_cons_succ, Act.put, List.setIfInBounds_toArray, List.set_cons_zero, List.set_cons_succ]
    refine wpAnyH_take (i := 24) (v := ?_) rfl (by kernel_rfl) (by kernel_rfl) (by kernel_rfl) (fun _ _ _ h => h) (Or.inl ⟨by rfl, ?_⟩) (HS0.out) ?_
    case refine_2 => (intro w1 hS1; clear hS1; go_simp; try with_reducible rfl)
    try simp only [List.getElem_toArray, List.getElem_cons_zero, List.getElem_cons_succ, Act.put, List.setIfInBounds_toArray, List.set_cons_zero, List.set_cons_succ]
    refine wpAnyH_take (i := 25) (v := ?_) rfl (by kernel_rfl) (by kernel_rfl) (by kernel_rfl) (fun _ _ _ h => h) (Or.inl ⟨by rfl, ?_⟩) (HS0.out) ?_
    case refine_2 => (intro w1 hS1; obtain ⟨k1, k2, k3, k4, k5, -⟩ := hS1; obtain ⟨q0, q1, q2, q3, q4, q5, q6, q7, q8, q9, q10, q11, q12, q13⟩ := rep_at k1; obtain ⟨r0, r1, r2, r3, r4, r5, r6, r7, r8, r9, r10, r11, r12, r13⟩ := rep_at k2; clear k1 k2; go_simp; try with_reducible rfl)
    try simp only [List.getElem_toArray, List.getElem_cons_zero, List.getElem_cons_succ, Act.put, List.setIfInBounds_toArray, List.set_cons_zero, List.set_cons_succ]
    refine wpAnyH_ready (rs := [21]) (by kernel_rfl) (by simp) ?_
    refine AllReadyH.cons rfl (fun K hK => ?_) AllReadyH.nil
    go_simp
    refine (bad_rd rb _ _ _ HS0.out.2.2.1).mono ?_
    rintro e V6 ⟨rfl, rfl⟩
    refine hK.out _ _ HS0.out (fun hHeld => ?_)
    clear hK K hHeld
    try simp only [List.getElem_toArray, List.getElem_cons_zero, List.getElem_cons_succ, Act.put, List.setIfInBounds_toArray, List.set_cons_zero, List.set_cons_succ]
    refine wpAnyH_take (i := 26) (v := ?_) rfl (by kernel_rfl) (by kernel_rfl) (by kernel_rfl) (fun _ _ _ h => h) (Or.inl ⟨by rfl, ?_⟩) (HS0.out) ?_
    case refine_2 => (intro w1 hS1; clear hS1; go_simp; try with_reducible rfl)
    try simp only [List.getElem_toArray, List.getElem_cons_zero, List.getElem_cons_succ, Act.put, List.setIfInBounds_toArray, List.set_cons_zero, List.set_cons_succ]
    refine wpAnyH_take (i := 27) (v := ?_) rfl (by kernel_rfl) (by kernel_rfl) (by kernel_rfl) (fun _ _ _ h => h) (Or.inl ⟨by rfl, ?_⟩) (HS0.out) ?_
    case refine_2 => (intro w1 hS1; clear hS1; go_simp; try with_reducible rfl)
    try simp only [List.getElem_toArray, List.getElem_cons_zero, List.getElem_cons_succ, Act.put, List.setIfInBounds_toArray, List.set_cons_zero, List.set_cons_succ]
    refine wpAnyH_done (by kernel_rfl) ?_ _
    obtain ⟨q0, q1, q2, q3, q4, q5, q6, q7, q8, q9, q10, q11, q12, q13⟩ := rep_at HS0.out.1
    have hx0 := HRB0.out V5 HS0.out.2.2.2.2.2.1
    obtain ⟨hne, hbe, hby⟩ := HAG.out rfl
    rcases hx0.2.2 with ⟨hv, hd0⟩ | ⟨x, cap', hv, hcl, hcm, hcell⟩
    · exact absurd hd0 hne
    obtain ⟨rfl, hv2, rfl⟩ : a = some x ∧ n = bs.length ∧ cap = cap' := by
      injection hv with h1 h2 h3
      exact ⟨h1, h2, h3⟩
    obtain ⟨XL, hXL⟩ : ∃ y, X.length = y := ⟨_, rfl⟩
    have hlen : n = XL + rl := by
      rw [hv2, hbe, List.length_append, hXL, HRE.out]
    have hby1 := hby a5 c5 V5 HS0.out.2.2.2.2.2.2.1 HS0.out.2.2.2.2.2.2.2.2
    have HTK : Hid (∀ W, Below w.heap.size w W → RB W (.slice (some x) XL cap) X) := Lib.hid (fun W hb => by
      have h := rb_take (HRB0.out W hb) XL (by have := HBL.out; omega)
      have e : bs.take XL = X := by rw [hbe, ← hXL, List.take_left']; rfl
      rw [e] at h
      exact h)
    have HSB : Hid ((n : Int) - (rl : Int) = (XL : Int)) := Lib.hid (by omega)
    have HWX : Hid (IntKind.i64.wrap (XL : Int) = (XL : Int) ∧ wrap64 (XL : Int) = (XL : Int)) := Lib.hid ⟨IntWalk.i64_in _ ⟨by omega, by have := HLN.out; omega⟩, IntWalk.wrap64_in _ ⟨by omega, by have := HLN.out; omega⟩⟩
    have HXC : Hid (((XL : Int) ≤ (cap : Int)) ∧ XL ≤ cap ∧ (0 : Int) ≤ (XL : Int)) := Lib.hid ⟨by omega, by omega, by omega⟩
    have HX8 : Hid ((∀ y ∈ X, y < 256) ∧ X.length ≤ 3000) := Lib.hid ⟨fun y hy => hx0.1 y (by rw [hbe]; exact List.mem_append_left _ hy), by have := HLN.out; omega⟩
    have HXL := Lib.hid hXL
    clear hx0 hne hbe hby hv hcl hcm hcell hv2 hXL hlen
    unfold repV at hby1
    go_wp2_with fail
    refine hby1.mono ?_
    rintro e V8 ⟨v9, rfl, ho9, hb9⟩
    have hrb9 : RB V8 v9 X := ho9.rb HX8.out.1 (by have := HX8.out.2; omega)
    obtain ⟨xa, xc, rfl⟩ := hrb9.shapeN' HXL.out
    have HB8 := HS0.out.2.2.2.2.2.1.trans (hb9.mono HS0.out.2.2.2.2.2.1.size)
    have hd8 : Below V8.heap.size V8 V8.drew := (Below.refl _ _).drew
    have HS0' : Hid ((fun W => RB W (.slice xa XL xc) X ∧ RB W (.slice (some x) XL cap) X ∧ RR W rb R false ∧ Below w.heap.size w W) V8.drew) := Lib.hid ⟨hrb9.kept hd8, HTK.out _ (HB8.trans (hd8.mono HB8.size)), (HS0.out.2.2.1.kept hb9).kept hd8, HB8.trans (hd8.mono HB8.size)⟩
    clear hby1 q0 q1 q2 q3 q4 q5 q6 q7 q8 q9 q10 q11 q12 q13 ho9 hb9 hrb9 HB8 hd8
    clear HS0
    have HS0 := HS0'
    clear HS0'
    go_wp2_with fail
    refine wp_region_held_drew (S := fun W => RB W (.slice xa XL xc) X ∧ RB W (.slice (some x) XL cap) X ∧ RR W rb R false ∧ Below w.heap.size w W) (by kernel_rfl) HS0.out (fun hHeld => ?_)
    clear hHeld
    generalize V8.drew = V9 at HS0 ⊢
    refine wpAnyH_take (i := 0) (v := ?_) rfl (by kernel_rfl) (by kernel_rfl) (by kernel_rfl) (fun _ _ _ h => h) (Or.inl ⟨by rfl, ?_⟩) (HS0.out) ?_
    case refine_2 => (intro w1 hS1; clear hS1; go_simp; try with_reducible rfl)
    try simp only [List.getElem_toArray, List.getElem_cons_zero, List.getElem_cons_succ, Act.put, List.setIfInBounds_toArray, List.set_cons_zero, List.set_cons_succ]
    refine wpAnyH_take (i := 1) (v := ?_) rfl (by kernel_rfl) (by kernel_rfl) (by kernel_rfl) (fun _ _ _ h => h) (Or.inl ⟨by rfl, ?_⟩) (HS0.out) ?_
    case refine_2 => (intro w1 hS1; clear hS1; go_simp; try with_reducible rfl)
    try simp only [List.getElem_toArray, List.getElem_cons_zero, List.getElem_cons_succ, Act.put, List.setIfInBounds_toArray, List.set_cons_zero, List.set_cons_succ]
    refine wpAnyH_take (i := 2) (v := ?_) rfl (by kernel_rfl) (by kernel_rfl) (by kernel_rfl) (fun _ _ _ h => h) (Or.inl ⟨by rfl, ?_⟩) (HS0.out) ?_
    case refine_2 => (intro w1 hS1; clear hS1; go_simp; try with_reducible rfl)
    try simp only [List.getElem_toArray, List.getElem_cons_zero, List.getElem_cons_succ, Act.put, List.setIfInBounds_toArray, List.set_cons_zero, List.set_cons_succ]
    refine wpAnyH_take (i := 3) (v := ?_) rfl (by kernel_rfl) (by kernel_rfl) (by kernel_rfl) (fun _ _ _ h => h) (Or.inl ⟨by rfl, ?_⟩) (HS0.out) ?_
    case refine_2 => (intro w1 hS1; clear hS1; go_simp; try with_reducible rfl)
    try simp only [List.getElem_toArray, List.getElem_cons_zero, List.getElem_cons_succ, Act.put, List.setIfInBounds_toArray, List.set_cons_zero, List.set_cons_succ]
    refine wpAnyH_take (i := 4) (v := ?_) rfl (by kernel_rfl) (by kernel_rfl) (by kernel_rfl) (fun _ _ _ h => h) (Or.inl ⟨by rfl, ?_⟩) (HS0.out) ?_
    case refine_2 => (intro w1 hS1; have hcv := rb_string (P := Try.prog) hS1.1 35 9 5 Try.underlying35 Try.underlying5 Try.underlying9; clear hS1; go_simp; try with_reducible rfl)
    try simp only [List.getElem_toArray, List.getElem_cons_zero, List.getElem_cons_succ, Act.put, List.setIfInBounds_toArray, List.set_cons_zero, List.set_cons_succ]
    refine wpAnyH_take (i := 5) (v := ?_) rfl (by kernel_rfl) (by kernel_rfl) (by kernel_rfl) (fun _ _ _ h => h) (Or.inl ⟨by rfl, ?_⟩) (HS0.out) ?_
    case refine_2 => (intro w1 hS1; clear hS1; go_simp; try with_reducible rfl)
    try simp only [List.getElem_toArray, List.getElem_cons_zero, List.getElem_cons_succ, Act.put, List.setIfInBounds_toArray, List.set_cons_zero, List.set_cons_succ]
    refine wpAnyH_take (i := 6) (v := ?_) rfl (by kernel_rfl) (by kernel_rfl) (by kernel_rfl) (fun _ _ _ h => h) (Or.inl ⟨by rfl, ?_⟩) (HS0.out) ?_
    case refine_2 => (intro w1 hS1; clear hS1; go_simp; try with_reducible rfl)
    try simp only [List.getElem_toArray, List.getElem_cons_zero, List.getElem_cons_succ, Act.put, List.setIfInBounds_toArray, List.set_cons_zero, List.set_cons_succ]
    refine wpAnyH_take (i := 7) (v := ?_) rfl (by kernel_rfl) (by kernel_rfl) (by kernel_rfl) (fun _ _ _ h => h) (Or.inl ⟨by rfl, ?_⟩) (HS0.out) ?_
    case refine_2 => (intro w1 hS1; clear hS1; go_simp; try with_reducible rfl)
    try simp only [List.getElem_toArray, List.getElem_cons_zero, List.getElem_cons_succ, Act.put, List.setIfInBounds_toArray, List.set_cons_zero, List.set_cons_succ]
    refine wpAnyH_take (i := 8) (v := ?_) rfl (by kernel_rfl) (by kernel_rfl) (by kernel_rfl) (fun _ _ _ h => h) (Or.inl ⟨by rfl, ?_⟩) (HS0.out) ?_
    case refine_2 => (intro w1 hS1; clear hS1; go_simp; try with_reducible rfl)
    try simp only [List.getElem_toArray, List.getElem_cons_zero, List.getElem_cons_succ, Act.put, List.setIfInBounds_toArray, List.set_cons_zero, List.set_cons_succ]
    refine wpAnyH_ready (rs := [9]) (by kernel_rfl) (by simp) ?_
    refine AllReadyH.cons rfl (fun K hK => ?_) AllReadyH.nil
    go_simp
    refine (left_rd rb _ _ _ HS0.out.2.2.1).mono ?_
    rintro e V6 ⟨rfl, rfl⟩
    rw [HRE.out]
    refine hK.out _ _ HS0.out (fun hHeld => ?_)
    clear hK K hHeld
    try simp only [List.getElem_toArray, List.getElem_cons_zero, List.getElem_cons_succ, Act.put, List.setIfInBounds_toArray, List.set_cons_zero, List.set_cons_succ]
    refine wpAnyH_take (i := 10) (v := ?_) rfl (by kernel_rfl) (by kernel_rfl) (by kernel_rfl) (fun _ _ _ h => h) (Or.inl ⟨by rfl, ?_⟩) (HS0.out) ?_
    case refine_2 => (intro w1 hS1; have hsb := HSB.out; have hwx := HWX.out.1; have hwy := HWX.out.2; clear hS1; go_simp; try with_reducible rfl)
    try simp only [List.getElem_toArray, List.getElem_cons_zero, List.getElem_cons_succ, Act.put, List.setIfInBounds_toArray, List.set_cons_zero, List.set_cons_succ]
    refine wpAnyH_take (i := 11) (v := ?_) rfl (by kernel_rfl) (by kernel_rfl) (by kernel_rfl) (fun _ _ _ h => h) (Or.inl ⟨by rfl, ?_⟩) (HS0.out) ?_
    case refine_2 => (intro w1 hS1; have hx1 := HXC.out.1; have hx2 := HXC.out.2.1; have hx3 := HXC.out.2.2; clear hS1; go_simp; try with_reducible rfl)
    try simp only [List.getElem_toArray, List.getElem_cons_zero, List.getElem_cons_succ, Act.put, List.setIfInBounds_toArray, List.set_cons_zero, List.set_cons_succ]
    refine wpAnyH_take (i := 12) (v := ?_) rfl (by kernel_rfl) (by kernel_rfl) (by kernel_rfl) (fun _ _ _ h => h) (Or.inl ⟨by rfl, ?_⟩) (HS0.out) ?_
    case refine_2 => (intro w1 hS1; have hcv := rb_string (P := Try.prog) hS1.2.1 35 9 5 Try.underlying35 Try.underlying5 Try.underlying9; clear hS1; go_simp; try with_reducible rfl)
    try simp only [List.getElem_toArray, List.getElem_cons_zero, List.getElem_cons_succ, Act.put, List.setIfInBounds_toArray, List.set_cons_zero, List.set_cons_succ]
    refine wpAnyH_take (i := 13) (v := ?_) rfl (by kernel_rfl) (by kernel_rfl) (by kernel_rfl) (fun _ _ _ h => h) (Or.inl ⟨by rfl, ?_⟩) (HS0.out) ?_
    case refine_2 => (intro w1 hS1; clear hS1; go_simp; try with_reducible rfl)
    try simp only [List.getElem_toArray, List.getElem_cons_zero, List.getElem_cons_succ, Act.put, List.setIfInBounds_toArray, List.set_cons_zero, List.set_cons_succ]
    refine wpAnyH_take (i := 14) (v := ?_) rfl (by kernel_rfl) (by kernel_rfl) (by kernel_rfl) (fun _ _ _ h => h) (Or.inl ⟨by rfl, ?_⟩) (HS0.out) ?_
    case refine_2 => (intro w1 hS1; clear hS1; go_simp; try with_reducible rfl)
    try simp only [List.getElem_toArray, List.getElem_cons_zero, List.getElem_cons_succ, Act.put, List.setIfInBounds_toArray, List.set_cons_zero, List.set_cons_succ]
    refine wpAnyH_take (i := 15) (v := ?_) rfl (by kernel_rfl) (by kernel_rfl) (by kernel_rfl) (fun _ _ _ h => h) (Or.inl ⟨by rfl, ?_⟩) (HS0.out) ?_
    case refine_2 => (intro w1 hS1; clear hS1; go_simp; try with_reducible rfl)
    try simp only [List.getElem_toArray, List.getElem_cons_zero, List.getElem_cons_succ, Act.put, List.setIfInBounds_toArray, List.set_cons_zero, List.set_cons_succ]
    refine wpAnyH_ready (rs := [16]) (by kernel_rfl) (by simp) ?_
    refine AllReadyH.cons rfl (fun K hK => ?_) AllReadyH.nil
    go_simp
    refine (lives19 _).mono ?_
    rintro e V10 ⟨rfl, hb⟩
    have HS0' : Hid ((fun W => RB W (.slice xa XL xc) X ∧ RB W (.slice (some x) XL cap) X ∧ RR W rb R false ∧ Below w.heap.size w W) V10) := Lib.hid ⟨HS0.out.1.kept hb, HS0.out.2.1.kept hb, HS0.out.2.2.1.kept hb, HS0.out.2.2.2.trans (hb.mono HS0.out.2.2.2.size)⟩
    clear hb
    clear HS0
    have HS0 := HS0'
    clear HS0'
    refine hK.out _ _ HS0.out (fun hHeld => ?_)
    clear hK K hHeld
    try simp only [List.getElem_toArray, List.getElem_cons_zero, List.getElem_cons_succ, Act.put, List.setIfInBounds_toArray, List.set_cons_zero, List.set_cons_succ]
    refine wpAnyH_take (i := 17) (v := ?_) rfl (by kernel_rfl) (by kernel_rfl) (by kernel_rfl) (fun _ _ _ h => h) (Or.inl ⟨by rfl, ?_⟩) (HS0.out) ?_
    case refine_2 => (intro w1 hS1; clear hS1; go_simp; try with_reducible rfl)
    try simp only [List.getElem_toArray, List.getElem_cons_zero, List.getElem_cons_succ, Act.put, List.setIfInBounds_toArray, List.set_cons_zero, List.set_cons_succ]
    refine wpAnyH_take (i := 18) (v := ?_) rfl (by kernel_rfl) (by kernel_rfl) (by kernel_rfl) (fun _ _ _ h => h) (Or.inl ⟨by rfl, ?_⟩) (HS0.out) ?_
    case refine_2 => (intro w1 hS1; clear hS1; go_simp; try with_reducible rfl)
    try simp only [List.getElem_toArray, List.getElem_cons_zero, List.getElem_cons_succ, Act.put, List.setIfInBounds_toArray, List.set_cons_zero, List.set_cons_succ]
    refine wpAnyH_done (by kernel_rfl) ?_ _
    go_wp2_with fail
    go_ret
    exact ⟨rfl, HS0.out.2.2.2⟩
/- Replies: the law of reading for every input. -/
open Go.RowKit
set_option maxRecDepth 100000 in
theorem slice_thereB {w : World} {base : Nat} {a : Option Addr} {n c : Nat} (h : Value.okWide Try.prog w .any base 35 (.slice a n c)) : ∀ k, w.heap.size ≤ k → (Value.slice a n c).ownBlock ≠ some k := by
  intro k hk e
  cases a with
  | none => simp [Value.ownBlock] at e
  | some x =>
    simp only [Value.ownBlock, Option.map_some, Option.some.injEq] at e
    simp only [Value.okWide, Try.underlying35, Cell.okWide, Cell.ok] at h
    obtain ⟨_, _, _, _, row, cells, hs, _⟩ := h
    have hx : w.heap[x.block]? = none := Array.getElem?_eq_none (by omega)
    simp [World.shape?, hx] at hs
theorem reads_walk (a : Option Addr) (n cap : Nat) (bs : List Nat) (w : World) (h1 : BSc cap w a n bs) (hown : ∀ k, w.heap.size ≤ k → (Value.slice a n cap).ownBlock ≠ some k) :
    Calls Try.prog 5 #[.slice a n cap] w fun e w' => e = .returned (.bool true) ∧ Below w.heap.size w w' := by
  by_cases hn : 3000 < n
  · exact reads_big a n cap w hn
  · exact reads_walk0 a n cap bs w (h1.2 (by omega)) h1.1 hown (by omega)
end Go.Proofs.Ytnhaakdjijjinaa
