/- Advance: the walk. -/
import Derived.Test.YtfclmbneimbmnaaDoorWhN
namespace Go.Proofs.YtfclmbneimbmnaaDoor
open Go.RowKit

/-- What Next tells from slot 0. -/
def Nxt0 (D : WD) (k x : Nat) (ok : Bool) : Prop := (ok = false ∧ ∀ s, s < 64 → (D.R k).S s = []) ∨ (ok = true ∧ x < 64 ∧ (D.R k).S x ≠ [] ∧ ∀ s, s < x → (D.R k).S s = [])
theorem Adv.below {T a u k : Nat} {w wr w2 : World} {D D1 : WD} {dv : Value} {L : List Th} (h : Adv T a u k w wr D D1 dv L) (hb : Below wr.heap.size wr w2) : Adv T a u k w w2 D D1 dv L :=
  ⟨h.mv.below hb, h.onl.trans (Only.below hb), h.fpn, h.way, h.q, h.rr⟩
theorem Adv.ring {T a u k j : Nat} {w wr : World} {D D1 : WD} {dv : Value} {L : List Th} (h : Adv T a u k w wr D D1 dv L) (hj : j < 4) : Rn wr (D.R j).r (D1.R j).b (D1.R j).V (D1.R j).S (D1.R j).M := by
  have h1 := h.mv.wl.rg j hj
  unfold RD.has at h1
  rw [h.rr j] at h1
  exact h1

set_option maxRecDepth 100000 in
set_option maxHeartbeats 8000000 in
theorem wadvance (D : WD) (a u : Nat) (w : World) (h : Wl w D) (hT : Tab w) (hD0 : ¬ D.fp 0) (hn : D.now = (a : Int)) (hau : a ≤ u) (hu : u ≤ 1125899906842624) (hpos : ∀ k, k < 4 → PosR a D k) (hbl : ∀ t ∈ D.BL, ∃ d : Nat, t.2.2 = (d : Int) ∧ d ≤ 1125899906842624) (hid : ∀ t ∈ D.things, IdOk t.1) (hnd : (D.things.map (·.1)).Nodup) (hfew : D.all < 80000) :
    Calls Tryd.prog 39 #[.pointer (some ⟨D.q, 0, none⟩), .int .i64 u] w fun e w' => ∃ v D' L, e = .returned (.tuple #[v, .int .i64 0]) ∧ Wl w' D' ∧ OT w' w.heap.size v (srt ltT zT L) ∧ D'.q = D.q ∧ D'.now = (u : Int) ∧ (∀ k, k < 4 → PosR u D' k) ∧ (∀ t ∈ D'.BL, ∃ d : Nat, t.2.2 = (d : Int) ∧ d ≤ 1125899906842624 ∧ u < d ∧ lvN u d = 4) ∧ (∀ t ∈ L, t.2.2 ≤ (u : Int)) ∧ (D'.things ++ L).Perm D.things ∧ D'.all + L.length = D.all ∧ Only D.fp w w' ∧ (∀ g, D'.fp g → D.fp g ∨ w.heap.size ≤ g) ∧ (∀ g, v.ownBlock = some g → ¬ D'.fp g) := by
  have mixed := insTh.mixed
  have hin := fun w => winstant (u : Int) w (by omega)
  have hib : InsB (u : Int) = true := by unfold InsB; exact decide_eq_true (by omega)
  rw [hib] at hin
  have HH := Lib.hid h
  have HT := Lib.hid hT
  have HWay : Hid (Way a u 0 { D with now := (u : Int) } [] D.things) := Lib.hid ⟨fun j hj => by omega, fun j _ hj => hpos j hj, hbl, fun t ht => (by cases ht), by rw [List.append_nil]; exact List.Perm.refl _⟩
  have HID := Lib.hid hid
  have HND := Lib.hid hnd
  have HFEW := Lib.hid hfew
  have HD0 := Lib.hid hD0
  have hauz : ¬ (u : Int) < (a : Int) := by omega
  have hn0 := hn
  obtain ⟨T, hTs⟩ : ∃ T, w.heap.size = T := ⟨_, rfl⟩
  have hqT : D.q < T := by have := h.qlt; omega
  clear hib hpos hbl hid hnd hfew hD0 hT
  have HN := Lib.hid hn
  clear hn0 h hn
  go_enter Tryd.func39, Tryd.ntmps39
  go_wp2_with fail
  have hb1 : Below w.heap.size w ((w.alloc (.cells #[.pointer (some ⟨D.q, 0, none⟩)] 52)).alloc (.cells #[.int .i64 u] 2)) := ((Below.refl _ _).alloc (Nat.le_refl _) _).alloc (by simp) _
  have hs1 : ((w.alloc (.cells #[.pointer (some ⟨D.q, 0, none⟩)] 52)).alloc (.cells #[.int .i64 u] 2)).heap.size = T + 2 := by simp [hTs]
  have cw1 : ((w.alloc (.cells #[.pointer (some ⟨D.q, 0, none⟩)] 52)).alloc (.cells #[.int .i64 u] 2)).cell? ⟨T, 0, none⟩ = some (.pointer (some ⟨D.q, 0, none⟩)) := by
    rw [World.cell?_alloc_lt (h := by show T < _; simp [hTs]), World.cell?_alloc_at _ _ _ _ hTs.symm]; rfl
  have ct1 : ((w.alloc (.cells #[.pointer (some ⟨D.q, 0, none⟩)] 52)).alloc (.cells #[.int .i64 u] 2)).cell? ⟨T + 1, 0, none⟩ = some (.int .i64 u) := by
    rw [World.cell?_alloc_at _ _ _ _ (by simp [hTs])]; rfl
  generalize (w.alloc (.cells #[.pointer (some ⟨D.q, 0, none⟩)] 52)).alloc (.cells #[.int .i64 u] 2) = W1 at hb1 hs1 cw1 ct1 ⊢
  have hwl1 := HH.out.below hb1
  have hc1 := wcreated D W1 hwl1
  have c0 := hwl1.c0
  rw [HN.out] at c0
  have fz := hwl1.fro 0
  have H1 := Lib.hid (And.intro hb1 hwl1)
  clear hb1 hwl1
  refine hc1.mono ?_
  rintro e w1 ⟨rfl, rfl⟩
  go_wp2_with fail
  refine (hin _).mono ?_
  rintro e w1 ⟨rfl, rfl⟩
  clear hin hc1
  go_wp2_with fail
  go_quiet (fail)
  have hdec : decide (u < a) = false := decide_eq_false (by omega)
  rw [hdec]
  have hb2 : Below w1.heap.size w1 (w1.drewN nq) := ⟨rfl, rfl, rfl, Nat.le_refl _, fun _ _ => rfl⟩
  have cw2 := (hb2.cell (p := ⟨T, 0, none⟩) (cell_lt cw1)).trans cw1
  have ct2 := (hb2.cell (p := ⟨T + 1, 0, none⟩) (cell_lt ct1)).trans ct1
  have c02 := (hb2.cell (p := ⟨D.q, 0, none⟩) (cell_lt c0)).trans c0
  have hs2 : (w1.drewN nq).heap.size = T + 2 := hs1
  have hwl2 := H1.out.2.below hb2
  have fz2 := hwl2.fro 0
  have H2 := Lib.hid (H1.out.1.trans (hb2.mono H1.out.1.size))
  generalize w1.drewN nq = W2 at hb2 cw2 ct2 c02 hs2 hwl2 fz2 H2 ⊢
  clear hb2 cw1 ct1 c0 fz hs1
  have hwl3 := (hwl2.setNow (u : Int)).below ((Below.refl _ _).alloc (Nat.le_refl _) (.cells #[.slice none 0 0] 22))
  have hs3 : ((W2.setCell ⟨D.q, 0, none⟩ (.int .i64 u)).alloc (.cells #[.slice none 0 0] 22)).heap.size = T + 3 := by simp [hs2]
  have hsz : (W2.setCell ⟨D.q, 0, none⟩ (.int .i64 u)).heap.size = T + 2 := by simp [hs2]
  have ct3 : ((W2.setCell ⟨D.q, 0, none⟩ (.int .i64 u)).alloc (.cells #[.slice none 0 0] 22)).cell? ⟨T + 1, 0, none⟩ = some (.int .i64 u) := by
    rw [World.cell?_alloc_lt (h := by show T + 1 < _; omega), World.cell?_setCell_other _ _ _ _ (fun e => by injection e with e1; omega)]; exact ct2
  have cw3 : ((W2.setCell ⟨D.q, 0, none⟩ (.int .i64 u)).alloc (.cells #[.slice none 0 0] 22)).cell? ⟨T, 0, none⟩ = some (.pointer (some ⟨D.q, 0, none⟩)) := by
    rw [World.cell?_alloc_lt (h := by show T < _; omega), World.cell?_setCell_other _ _ _ _ (fun e => by injection e with e1; omega)]; exact cw2
  have cd3 : ((W2.setCell ⟨D.q, 0, none⟩ (.int .i64 u)).alloc (.cells #[.slice none 0 0] 22)).cell? ⟨T + 2, 0, none⟩ = some (.slice none 0 0) := World.cell?_alloc_at _ _ _ _ hsz.symm
  have fd3 : ((W2.setCell ⟨D.q, 0, none⟩ (.int .i64 u)).alloc (.cells #[.slice none 0 0] 22)).frozen? ⟨T + 2, 0, none⟩ = false := by
    have hfz : ∀ W : World, (W.alloc (.cells #[.slice none 0 0] 22)).frozen? ⟨W.heap.size, 0, none⟩ = false := fun W => by simp
    rw [← hsz]; exact hfz _
  have hmv : Mv ((W2.setCell ⟨D.q, 0, none⟩ (.int .i64 u)).alloc (.cells #[.slice none 0 0] 22)) T (T + 1) (T + 2) T u { D with now := (u : Int) } (.slice none 0 0) [] := by
    have hq : ∀ g, D.fp g → g < T := fun g hg => by have := HH.out.lt hg; omega
    exact ⟨hwl3, rfl, ct3, cd3, cw3, fd3, OT.nil _ _, fun g hg => by have := hq g hg; exact ⟨by omega, by omega, by omega, fun e => by cases e⟩, fun g e => (by cases e), ⟨by omega, by omega⟩, by omega⟩
  have honl : Only D.fp w ((W2.setCell ⟨D.q, 0, none⟩ (.int .i64 u)).alloc (.cells #[.slice none 0 0] 22)) := ((Only.below H2.out).setCell _ _ (.inl rfl)).trans (Only.below ((Below.refl _ _).alloc (Nat.le_refl _) _))
  have r0 := hmv.wl.cr 0 (by omega)
  have r1 := hmv.wl.cr 1 (by omega)
  have r2 := hmv.wl.cr 2 (by omega)
  have r3 := hmv.wl.cr 3 (by omega)
  simp only [Nat.add_zero, Nat.reduceAdd] at r0 r1 r2 r3
  have HMV := Lib.hid (And.intro hmv honl)
  clear hmv honl hwl2 hwl3 fd3 hs3 hsz
  obtain ⟨A, hAe⟩ : ∃ A : Array Value, #[Value.pointer (some ⟨(D.R 0).r, 0, none⟩), .pointer (some ⟨(D.R 1).r, 0, none⟩), .pointer (some ⟨(D.R 2).r, 0, none⟩), .pointer (some ⟨(D.R 3).r, 0, none⟩)] = A := ⟨_, rfl⟩
  have HIX : Hid (∀ k : Nat, k < 4 → ∀ w, Sem.run Tryd.prog (Instr.index 79 (.agg A) (.int .i64 k)) w = .ok (.pointer (some ⟨(D.R k).r, 0, none⟩)) w) := Lib.hid (fun k hk w => by
    subst hAe
    refine run_index_arr Tryd.underlying79 Tryd.sizeOf38 Tryd.isAgg38 k hk (by omega) ?_ w
    match k, hk with
    | 0, _ => rfl
    | 1, _ => rfl
    | 2, _ => rfl
    | 3, _ => rfl)
  go_wp2_with fail
  try rw [hAe]
  generalize ((W2.setCell ⟨D.q, 0, none⟩ (.int .i64 u)).alloc (.cells #[.slice none 0 0] 22)) = W3 at HMV ⊢
  have HA0 : Hid (∃ D1 dv L, Adv T a u 0 w W3 D D1 dv L) := Lib.hid ⟨_, _, _, ⟨HMV.out.1, HMV.out.2, fun g hg => (by
      rcases hg with h1 | h1 | h1
      · exact .inl h1
      · exact .inr (by omega)
      · cases h1), HWay.out, rfl, fun _ => rfl⟩⟩
  have HPS := Lib.hid (fun k w (hk : k < 4) => passed_any k a u w hk (by omega) hu)
  have HTAB : Hid (∀ W, Only D.fp w W → Tab W) := Lib.hid (fun W ho j hj => (ho.cell (p := ⟨0, j, none⟩) (cell_lt (HT.out j hj)) HD0.out).trans (HT.out j hj))
  clear r0 r1 r2 r3 ct3 cw3 cd3 cw2 ct2 c02 hs2 fz2
  go_loopg [44] 4 (fun kx s44 wr => ∃ k : Nat, s44 = .int .i64 k ∧ k ≤ 4 ∧ 4 - k ≤ kx ∧ Hid (∃ D1 dv L, Adv T a u k w wr D D1 dv L))
  case atStart => exact ⟨0, rfl, by omega, by omega, HA0.out⟩
  case round =>
    obtain ⟨k, rfl, hk, hkx, HI⟩ := hrel
    by_cases hk4 : k < 4
    · have hk4z : (k : Int) < 4 := by omega
      have hk0 : (0 : Int) ≤ (k : Int) := by omega
      have hix := HIX.out k hk4
      obtain ⟨D1, dv, L, hA⟩ := HI.out
      have ct := hA.mv.ct
      have hps := HPS.out k wr hk4
      rw [show (if a / 2 ^ (6 * (k + 1)) = u / 2 ^ (6 * (k + 1)) then slN k u else 63) = lstN k a u from rfl] at hps
      have HAD := Lib.hid hA
      clear hA
      go_wp2_with (go_at_call 87; (with_reducible refine hps.mono ?_); rintro e w2 ⟨rfl, nq2, rfl⟩; clear hps)
      have HAD2 : Hid (Adv T a u k w (wr.drewN nq2) D D1 dv L) := Lib.hid (HAD.out.below ⟨rfl, rfl, rfl, Nat.le_refl _, fun _ _ => rfl⟩)
      generalize wr.drewN nq2 = wd at HAD2 ⊢
      have hnx := rnext0 wd (HTAB.out _ HAD2.out.onl) (HAD2.out.ring hk4)
      refine hnx.mono ?_
      rintro e w3 ⟨x, y, ok, rfl, rfl, hcase⟩
      have HC := Lib.hid hcase
      clear hnx hcase ct
      go_wp2_with fail
      go_loopg [12, 14] (D1.n k) (fun kx s12 s14 wr => ∃ (x : Nat) (ok : Bool), s12 = .int .i64 x ∧ s14 = .bool ok ∧ Hid (∃ D1 dv L, Adv T a u k w wr D D1 dv L ∧ Nxt0 D1 k x ok ∧ D1.n k ≤ kx))
      case atStart => exact ⟨x, ok, rfl, rfl, D1, dv, L, HAD2.out, HC.out, Nat.le_refl _⟩
      case round =>
        obtain ⟨x, ok, rfl, rfl, HJ⟩ := hrel
        by_cases hin : ok = true ∧ x ≤ lstN k a u
        · obtain ⟨rfl, hxl⟩ := hin
          have hxz : (x : Int) ≤ (lstN k a u : Int) := by omega
          go_wp2_with fail
          obtain ⟨D1, dv, L, hA, hC1, hkx1⟩ := HJ.out
          obtain ⟨hx64, hne⟩ : x < 64 ∧ (D1.R k).S x ≠ [] := by
            rcases hC1 with ⟨h1, _⟩ | ⟨_, h1, h2, _⟩
            · cases h1
            · exact ⟨h1, h2⟩
          have err := hA.rr k
          have htk := take_any wr (hA.mv.wl.rg k hk4) hx64
          rw [err] at htk
          refine htk.mono ?_
          rintro e w2 ⟨v, rfl, hO2, V', M', hRn2, ho2, hf2⟩
          clear htk
          rw [← err] at hRn2 ho2 hf2
          obtain ⟨E, hEe⟩ : ∃ E : RD, (⟨(D1.R k).r, (D1.R k).b, V', upd (D1.R k).S x [], M'⟩ : RD) = E := ⟨_, rfl⟩
          have eE : E.has w2 := by subst hEe; exact hRn2
          have er : E.r = (D1.R k).r := by subst hEe; rfl
          have eS : E.S = upd (D1.R k).S x [] := by subst hEe; rfl
          have eF : ∀ g, E.fp g → (D1.R k).fp g := by subst hEe; exact hf2
          have eO : Only (D1.R k).fp wr w2 := ho2
          have hl := srt_perm ltT zT ((D1.R k).S x)
          have hrd := hA.ready hk4 hx64 HID.out HND.out HFEW.out hl eE er eS eO eF
          obtain ⟨a2, c2, hv, hTS⟩ := hO2.reads
          have hp : ∀ g o q, a2 = some ⟨g, o, q⟩ → ¬ MX (T + 2) (D1.ring k E) dv g := fun g o q e hg => by
            have h1 : wr.heap.size ≤ g := by
              rw [e] at hv
              rcases hO2.2 with ⟨h, _⟩ | ⟨g', cap, cur, h, hb, _⟩
              · rw [hv] at h; injection h with h; cases h
              · rw [hv] at h; injection h with h; injection h with h; injection h with h; omega
            have h2 := hA.mv.lt (g := g) (hg.imp_left (hrd.2.2.2.2.2 g))
            omega
          have hmv := wmove w2 a2 c2 _ hrd.1 hTS hp hu hrd.2.1 hrd.2.2.1 hrd.2.2.2.1 hrd.2.2.2.2.1
          rw [← hv] at hmv
          have HX := Lib.hid (And.intro hA (And.intro hkx1 (And.intro hne (And.intro hx64 (And.intro hl (And.intro er (And.intro eS (And.intro eO hrd.2.2.2.2.2))))))))
          clear hA hC1 hkx1 hne hRn2 ho2 hf2 hEe eE er eS eF eO hrd hp hTS hv hO2 hl err hx64
          go_wp2_with fail
          refine hmv.mono ?_
          rintro e w3 ⟨rfl, D2, dv2, L2, hM2, hMv2, ho3, hf3, hq3, hcnt⟩
          have hmd := HX.out.1.moved hTs hk4 HX.out.2.2.2.1 hau hxl HX.out.2.2.1 HX.out.2.2.2.2.1 HX.out.2.2.2.2.2.1 HX.out.2.2.2.2.2.2.1 HX.out.2.2.2.2.2.2.2.1 HX.out.2.2.2.2.2.2.2.2 hM2 hMv2 ho3 hf3 hq3
          have HMD := Lib.hid hmd
          clear hmv hM2 hMv2 ho3 hf3 hq3 hcnt hmd
          have hnx := rnext0 w3 (HTAB.out _ HMD.out.1.onl) (HMD.out.1.ring hk4)
          go_wp2_with fail
          refine hnx.mono ?_
          rintro e w4 ⟨x4, y4, ok4, rfl, rfl, hcase4⟩
          have HC4 := Lib.hid hcase4
          clear hnx hcase4
          go_wp2_with fail
          go_roundg (D2.n k)
          case measure => have := HMD.out.2; have := HX.out.2.1; omega
          case rel => exact ⟨x4, ok4, rfl, rfl, D2, dv2, L2, HMD.out.1, HC4.out, Nat.le_refl _⟩
        · have HNI := Lib.hid hin
          have hfin : Hid (∃ D1 dv L, Adv T a u (k + 1) w wr D D1 dv L) := by
            obtain ⟨D1, dv, L, hA, hC1, _⟩ := HJ.out
            have h63 : lstN k a u < 64 := by unfold lstN; split; exact slN_lt _ _; omega
            refine Lib.hid ⟨D1, dv, L, hA.mv, hA.onl, hA.fpn, hA.way.next hk4 hau (fun s hs => ?_), hA.q, hA.rr⟩
            rcases hC1 with ⟨_, h1⟩ | ⟨h0, _, _, h1⟩
            · exact h1 s (by omega)
            · have h2 : ¬ x ≤ lstN k a u := fun e => hin ⟨h0, e⟩
              exact h1 s (by omega)
          cases ok with
          | false =>
            clear hin
            go_wp2_with fail
            go_roundg (4 - (k + 1))
            case measure => omega
            case rel => exact ⟨k + 1, by go_num, by omega, by omega, hfin⟩
          | true =>
            have hxz : ¬ (x : Int) ≤ (lstN k a u : Int) := fun e => hin ⟨rfl, by omega⟩
            clear hin
            go_wp2_with fail
            go_roundg (4 - (k + 1))
            case measure => omega
            case rel => exact ⟨k + 1, by go_num, by omega, by omega, hfin⟩
    · have hk4z : ¬ (k : Int) < 4 := by omega
      obtain rfl : k = 4 := by omega
      obtain ⟨D1, dv, L, hA⟩ := HI.out
      obtain ⟨f1, ⟨b, c, hbv, hTS, hpb⟩, f3, f4, f5, f6, f7⟩ := hA.far HID.out HND.out HFEW.out
      have cw := hA.mv.cw
      have c5 := hA.mv.wl.c5
      have fz := hA.mv.wl.fro 5
      have hq := hA.q
      rw [hq] at cw c5 fz
      rw [hbv] at c5
      have hmv := wmove _ b c _ f1 hTS hpb hu f3 f4 f5 f6
      rw [hq] at hmv
      obtain ⟨n, hn⟩ : ∃ n, D1.BL.length = n := ⟨_, rfl⟩
      rw [hn] at c5
      rw [hn] at hmv
      have hmv2 := hmv
      have HAA := Lib.hid (And.intro hA f7)
      have HQ := Lib.hid hq
      clear hA f1 hTS hpb f3 f4 f5 f6 f7 hmv hn hbv hq
      go_wp2_with fail
      refine hmv2.mono ?_
      rintro e w3 ⟨rfl, D2, dv2, L2, hM2, hMv2, ho3, hf3, hq3, hcnt⟩
      rw [← HQ.out] at ho3 hf3
      have hfin := HAA.out.1.fin hTs hM2 hMv2 HAA.out.2 ho3 hf3 hq3
      have cd := hMv2.cd
      have hlen : L2.length < 80001 := by have := hfin.2.2.2.2.2.1; have := HFEW.out; omega
      have hso := sort_any w3 hMv2.own (by omega)
      have HF := Lib.hid (And.intro hfin (And.intro hMv2 hlen))
      clear hmv2 hM2 ho3 hf3 hq3 hcnt hfin hlen
      go_wp2_with fail
      refine hso.mono ?_
      rintro e w4 ⟨rfl, hO4, ho4⟩
      have cd4 := (ho4.cell (p := ⟨T + 2, 0, none⟩) (cell_lt cd) (fun e => (hMv2.da _ e).2.1 rfl)).trans cd
      have H4 := Lib.hid (And.intro hO4 ho4)
      clear hso hO4 ho4 cd hMv2
      go_wp2_with fail
      refine bodyPost_ret (results_tmp2 rfl _ _ _) rfl ?_
      obtain ⟨F, M, _⟩ := HF.out
      have G := H4.out
      refine ⟨_, D2, L2, rfl, M.wl.only G.2 (fun g hg e => (M.ap g hg).2.2.2 e), ?_, F.1, M.now, F.2.1, F.2.2.1, F.2.2.2.1, F.2.2.2.2.1, F.2.2.2.2.2.1, F.2.2.2.2.2.2.1.step G.2 (fun g hg => F.2.2.2.2.2.2.2 g (.inr (.inr hg))), fun g hg => F.2.2.2.2.2.2.2 g (.inl hg), fun g hg e => (M.ap g e).2.2.2 hg⟩
      rw [hTs]; exact G.1
end Go.Proofs.YtfclmbneimbmnaaDoor
