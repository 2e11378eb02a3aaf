import Derived.Test.YthefnakbpalecaaMaF
import Derived.Deep.RegionWith
namespace Go.Proofs.Ythefnakbpalecaa
open Go.RowKit
/- The other reader, by definition: its parts. -/
open Go.RowKit

/-- The other reader: what is left, and whether it is bad. -/
def RF (w : World) (b : Nat) (ds : List Nat) (bad : Bool) : Prop :=
  ∃ v, w.heap[b]? = some (.cells #[v, .bool bad] 122 (0, 0)) ∧ RB w v ds ∧ Far b v ∧ (bad = true → ds = [])
theorem RF.kept {w w' : World} {b : Nat} {ds : List Nat} {bad : Bool} (h : RF w b ds bad) (hb : Below w.heap.size w w') : RF w' b ds bad := by
  obtain ⟨v, h1, h2, h3, h4⟩ := h
  exact ⟨v, (hb.block b (lt_of_block h1)).trans h1, h2.kept hb, h3, h4⟩
theorem fail_rf (b : Nat) (ds : List Nat) (bad : Bool) (w : World) (hr : RF w b ds bad) :
    Calls Try.prog 115 #[.pointer (some ⟨b, 0, none⟩)] w fun e w' => e = .returned (.tuple #[]) ∧ RF w' b [] true ∧ Rd b w w' := by
  obtain ⟨v, h1, h2, h3, h4⟩ := hr
  obtain ⟨c0, c1, f0, f1⟩ := two_cells h1
  have HE := Lib.hid h1
  clear h1 h2 h3 h4
  go_enter Try.func115, Try.ntmps115
  go_wp2
  go_end0
  refine ⟨rfl, ⟨.slice none 0 0, ?_, RB.nil _, Far.nil _, fun _ => rfl⟩, Rd.set (Rd.set (Turn.refl _ _ _) 0 _) 1 _⟩
  exact heap_set (heap_set HE.out 0 _) 1 _
theorem first_no (b : Nat) (bad : Bool) (w : World) (hr : RF w b [] bad) :
    Calls Try.prog 113 #[.pointer (some ⟨b, 0, none⟩)] w fun e w' => e = .returned (.tuple #[.int .u8 0, .bool false]) ∧ w = w' := by
  obtain ⟨v, h1, h2, h3, h4⟩ := hr
  obtain ⟨a, cap, rfl⟩ := h2.shapeN' (n := 0) rfl
  obtain ⟨c0, c1, f0, f1⟩ := two_cells h1
  clear h1 h2 h3 h4
  go_enter Try.func113, Try.ntmps113
  go_wp2
  go_ret2
  exact ⟨rfl, rfl⟩
/-- What first hands back where there is one. -/
def First (b : Nat) (w : World) (c : Nat) (t : List Nat) (e : Ending) (w' : World) : Prop := e = .returned (.tuple #[.int .u8 (c : Int), .bool true]) ∧ RF w' b t false ∧ Rd b w w'
theorem firsts {w : World} {b L cap k c' c : Nat} {x y : Addr} {t : List Nat} (hh : w.heap[b]? = some (.cells #[.slice (some x) L cap, .bool false] 122 (0, 0))) (h : RB w (.slice (some x) L cap) (c :: t))
    (h3 : Far b (Value.slice (some x) L cap)) (hy : y = x.add 1 ∨ (1 = (c :: t).length ∧ y = x)) (hk : k = (c :: t).length - 1) (hkc : k ≤ c') (hcm : c' ≤ maxLen) :
    First b w c t (.returned (.tuple #[.int .u8 (c : Int), .bool true])) (w.setCell ⟨b, 0, none⟩ (.slice (some y) k c')) := by
  have ht : Rd b w (w.setCell ⟨b, 0, none⟩ (.slice (some y) k c')) := Rd.set (Turn.refl _ _ _) 0 _
  have hb2 := own_addr (n := k) (c := c') h3 (y := y) (hy.elim (fun h => .inr ⟨1, h⟩) (fun h => .inl h.2))
  have hd := rb_drop h 1 (by simp) (hy.elim .inl (fun h => .inr h.1)) hk hkc hcm
  exact ⟨rfl, ⟨_, heap_set hh 0 _, hd.turned ht hb2.ne, hb2, fun hb => by cases hb⟩, ht⟩
set_option maxHeartbeats 1000000 in
theorem first_yes (b c : Nat) (t : List Nat) (w : World) (hr : RF w b (c :: t) false) :
    Calls Try.prog 113 #[.pointer (some ⟨b, 0, none⟩)] w (First b w c t) := by
  obtain ⟨v, h1, h2, h3, h4⟩ := hr
  obtain ⟨c0, c1, f0, f1⟩ := two_cells h1
  obtain ⟨xb, off, cap, hv, hcl, hcm, hx, hcell⟩ := h2.at (by simp)
  subst hv
  have hc : w.cell? ⟨xb, off, none⟩ = some (.int .u8 (c : Int)) := hcell 0 (by simp)
  have hl : (c :: t).length = t.length + 1 := rfl
  obtain ⟨T, hT⟩ : ∃ T, t.length = T := ⟨_, rfl⟩
  rw [hl, hT] at h1 h2 h3 hcl c0
  have HE := Lib.hid h1
  have H2 := Lib.hid h2
  have H3 := Lib.hid h3
  clear h1 h2 h3 h4 hcell
  have HTT := Lib.hid hT
  by_cases hcn : cap = 1
  · obtain rfl : T = 0 := by omega
    subst hcn
    go_enter Try.func113, Try.ntmps113
    go_wp2
    go_ret2
    exact firsts HE.out H2.out H3.out (.inr ⟨by simp [HTT.out], rfl⟩) (by simp [HTT.out]) (by simp) (by simp)
  · go_enter Try.func113, Try.ntmps113
    go_wp2
    go_ret2
    exact firsts HE.out H2.out H3.out (.inl rfl) (by simp [HTT.out]) (by omega) (by omega)
/- The other reader: its number of so many bytes. -/
open Go.RowKit

/-- number fails: nothing has turned. -/
def NumF (w : World) (e : Ending) (w' : World) : Prop := e = .returned (.tuple #[.int .u64 0, .bool false]) ∧ w = w'
set_option maxHeartbeats 1000000 in
theorem rfnum_big8 (b n : Nat) (ds : List Nat) (bad : Bool) (w : World) (h : 8 < n) : Calls Try.prog 114 #[.pointer (some ⟨b, 0, none⟩), .int .i64 (n : Int)] w (NumF w) := by
  have hd : decide ((8 : Int) < (n : Int)) = true := by simp; omega
  clear h
  go_enter Try.func114, Try.ntmps114
  go_wp2
  go_ret2
  exact ⟨rfl, rfl⟩
set_option maxHeartbeats 1000000 in
theorem rfnum_short (b n : Nat) (ds : List Nat) (bad : Bool) (w : World) (hr : RF w b ds bad) (h8 : n ≤ 8) (h : ds.length < n) : Calls Try.prog 114 #[.pointer (some ⟨b, 0, none⟩), .int .i64 (n : Int)] w (NumF w) := by
  obtain ⟨v, h1, h2, h3, h4⟩ := hr
  obtain ⟨L, hL⟩ : ∃ L, ds.length = L := ⟨_, rfl⟩
  obtain ⟨a, cap, rfl⟩ := h2.shapeN' hL
  obtain ⟨c0, c1, f0, f1⟩ := two_cells h1
  rw [hL] at h
  have hd : decide ((8 : Int) < (n : Int)) = false := by simp; omega
  have he : decide ((L : Int) < (n : Int)) = true := by simp; omega
  clear h1 h2 h3 h4 hL
  go_enter Try.func114, Try.ntmps114
  go_wp2
  go_ret2
  exact ⟨rfl, rfl⟩
set_option maxHeartbeats 1000000 in
theorem rfnum_zero (b n : Nat) (ds : List Nat) (bad : Bool) (w : World) (hr : RF w b ds bad) (h8 : n ≤ 8) (hn : n ≤ ds.length) (hp : 0 < n) (h : ds.getD 0 0 = 0) : Calls Try.prog 114 #[.pointer (some ⟨b, 0, none⟩), .int .i64 (n : Int)] w (NumF w) := by
  obtain ⟨v, h1, h2, h3, h4⟩ := hr
  obtain ⟨c0, c1, f0, f1⟩ := two_cells h1
  obtain ⟨xb, off, cap, hv, hcl, hcm, hx, hcell⟩ := h2.at (by omega)
  subst hv
  have hc : w.cell? ⟨xb, off, none⟩ = some (.int .u8 0) := by
    have := hcell 0 (by omega)
    rwa [h] at this
  obtain ⟨L, hL⟩ : ∃ L, ds.length = L := ⟨_, rfl⟩
  rw [hL] at hn c0 hcl
  have hd : decide ((8 : Int) < (n : Int)) = false := by simp; omega
  have he : decide ((L : Int) < (n : Int)) = false := by simp; omega
  have hf : decide ((0 : Int) < (n : Int)) = true := by simp; omega
  clear h1 h2 h3 h4 hL h h8 hcell
  go_enter Try.func114, Try.ntmps114
  go_wp2
  go_ret2
  exact ⟨rfl, rfl⟩
/-- number answers. -/
def NumY (b : Nat) (w : World) (n : Nat) (ds : List Nat) (e : Ending) (w' : World) : Prop := e = .returned (.tuple #[.int .u64 ((val (ds.take n) : Nat) : Int), .bool true]) ∧ RF w' b (ds.drop n) false ∧ Rd b w w'
theorem rfnums {w : World} {b n L cap k c : Nat} {x y : Addr} {ds : List Nat} (hh : w.heap[b]? = some (.cells #[.slice (some x) L cap, .bool false] 122 (0, 0))) (h : RB w (.slice (some x) L cap) ds)
    (h3 : Far b (Value.slice (some x) L cap)) (hn : n ≤ ds.length) (hy : y = x.add n ∨ (n = ds.length ∧ y = x)) (hk : k = ds.length - n) (hkc : k ≤ c) (hcm : c ≤ maxLen) :
    RF (w.setCell ⟨b, 0, none⟩ (.slice (some y) k c)) b (ds.drop n) false ∧ Rd b w (w.setCell ⟨b, 0, none⟩ (.slice (some y) k c)) := by
  have ht : Rd b w (w.setCell ⟨b, 0, none⟩ (.slice (some y) k c)) := Rd.set (Turn.refl _ _ _) 0 _
  have hb2 := own_addr (n := k) (c := c) h3 (y := y) (hy.elim (fun h => .inr ⟨n, h⟩) (fun h => .inl h.2))
  have hd := rb_drop h n hn (hy.elim .inl (fun h => .inr h.1)) hk hkc hcm
  exact ⟨⟨_, heap_set hh 0 _, hd.turned ht hb2.ne, hb2, fun hb => by cases hb⟩, ht⟩
set_option maxHeartbeats 2000000 in
theorem rfnum_yes (b n : Nat) (ds : List Nat) (w : World) (hr : RF w b ds false) (h8 : n ≤ 8) (hn : n ≤ ds.length) (h0 : ¬ (0 < n ∧ ds.getD 0 0 = 0)) : Calls Try.prog 114 #[.pointer (some ⟨b, 0, none⟩), .int .i64 (n : Int)] w (NumY b w n ds) := by
  obtain ⟨v, h1, h2, h3, h4⟩ := hr
  obtain ⟨c0, c1, f0, f1⟩ := two_cells h1
  rcases h2.2.2 with ⟨hv, hd0⟩ | ⟨x, cap, hv, hcl, hcm, hcell⟩
  · subst hv
    subst hd0
    obtain rfl : n = 0 := by simpa using hn
    have HE := Lib.hid h1
    clear h1 h2 h3 h4 hn
    go_enter Try.func114, Try.ntmps114
    go_wp2
    go_loop [6, 7] (fun x i => x = .int .u64 0 ∧ i = .int .i64 0) (fun _ _ => 0)
    case atStart => exact ⟨rfl, rfl⟩
    case round =>
      obtain ⟨rfl, rfl⟩ := hrel
      go_wp2
      go_ret2
      exact ⟨rfl, ⟨_, heap_set HE.out 0 _, RB.nil _, Far.nil _, fun _ => rfl⟩, Rd.set (Turn.refl _ _ _) 0 _⟩
  · obtain ⟨L, hL⟩ : ∃ L, ds.length = L := ⟨_, rfl⟩
    rw [hL] at hv hcl hn
    subst hv
    have hL2 := h2.2.1
    rw [hL] at hL2
    have hd : decide ((8 : Int) < (n : Int)) = false := by simp; omega
    have he : decide ((L : Int) < (n : Int)) = false := by simp; omega
    have hcl2 : ∀ k, k < n → ∃ b2 o2, x = ⟨b2, o2, none⟩ ∧ w.cell? ⟨b2, o2 + k, none⟩ = some (.int .u8 ((ds.getD k 0 : Nat) : Int)) := by
      intro k hk
      obtain ⟨b2, o2, c3, hq, _, _, _, hcell⟩ := h2.at (by omega)
      simp only [Value.slice.injEq, Option.some.injEq] at hq
      exact ⟨b2, o2, hq.1, hcell k (by omega)⟩
    have HCL := Lib.hid hcl2
    have H256 := Lib.hid h2.1
    have H0 := Lib.hid h0
    have HE := Lib.hid h1
    have H2 := Lib.hid h2
    have H3 := Lib.hid h3
    have HM := Lib.hid hcm
    have HL := Lib.hid hL
    clear h1 h2 h3 h4 hcell hL hcm hcl2 h0
    by_cases hp : 0 < n
    · obtain ⟨b2, o2, rfl, hcf0⟩ := HCL.out 0 hp
      obtain ⟨c, hc⟩ : ∃ c, ds.getD 0 0 = c := ⟨_, rfl⟩
      have hcf : w.cell? ⟨b2, o2, none⟩ = some (.int .u8 ((c : Nat) : Int)) := by rw [← hc]; exact hcf0
      have hcz : ((c : Int) == 0) = false := by
        have : ¬ c = 0 := fun hq => H0.out ⟨hp, by rw [hc, hq]⟩
        simpa using this
      have hd0 : decide ((0 : Int) < (n : Int)) = true := by simp; omega
      clear hc hcf0 H0
      by_cases hcn : cap = n
      · obtain rfl : L = n := by omega
        subst hcn
        go_enter Try.func114, Try.ntmps114
        go_wp2
        go_loop [6, 7] (fun x i => ∃ k : Nat, k ≤ cap ∧ i = .int .i64 k ∧ x = .int .u64 ((val (ds.take k) : Nat) : Int)) (fun _ i => cap - (intOf i).toNat)
        case atStart => exact ⟨0, by omega, rfl, rfl⟩
        case round =>
          obtain ⟨k, hk, rfl, rfl⟩ := hrel
          by_cases hlt : k < cap
          · obtain ⟨b3, o3, ha3, hc3⟩ := HCL.out k hlt
            simp only [Addr.mk.injEq, and_true] at ha3
            obtain ⟨rfl, rfl⟩ := ha3
            have hkl : k < ds.length := by rw [HL.out]; omega
            have HV := Lib.hid (val_take_succ ds k hkl)
            have hx56 : val (ds.take k) < 72057594037927936 := by
              have h1 := val_take_lt ds (fun c hc => H256.out c hc) k (by omega)
              have h2 : 2 ^ (8 * k) ≤ 2 ^ 56 := Nat.pow_le_pow_right (by omega) (by omega)
              omega
            have hc256 : ds.getD k 0 < 256 := H256.out _ (getD_mem _ k hkl)
            obtain ⟨xx, hxx⟩ : ∃ xx, val (ds.take k) = xx := ⟨_, rfl⟩
            obtain ⟨c', hc'⟩ : ∃ c', ds.getD k 0 = c' := ⟨_, rfl⟩
            rw [hxx] at HV hx56 ⊢
            rw [hc'] at HV hc256 hc3
            have hsh : IntKind.u64.wrap ((xx : Int) * 256) = (xx : Int) * 256 := IntWalk.u64_in _ ⟨by omega, by omega⟩
            have hsa : IntKind.u64.wrap ((xx : Int) * 256 + (c' : Int)) = (xx : Int) * 256 + (c' : Int) := IntWalk.u64_in _ ⟨by omega, by omega⟩
            clear hxx hc' hkl hx56
            go_wp2
            go_round
            case rel => exact ⟨k + 1, by omega, by go_num, by rw [HV.out]; go_num⟩
            case measure => simp [intOf]; omega
          · obtain rfl : k = cap := by omega
            go_wp2
            go_ret2
            exact ⟨rfl, rfnums HE.out H2.out H3.out (by rw [HL.out]; exact Nat.le_refl _) (.inr ⟨HL.out.symm, rfl⟩) (by rw [HL.out]; simp) (by simp) (by simp)⟩
        
      · go_enter Try.func114, Try.ntmps114
        go_wp2
        go_loop [6, 7] (fun x i => ∃ k : Nat, k ≤ n ∧ i = .int .i64 k ∧ x = .int .u64 ((val (ds.take k) : Nat) : Int)) (fun _ i => n - (intOf i).toNat)
        case atStart => exact ⟨0, by omega, rfl, rfl⟩
        case round =>
          obtain ⟨k, hk, rfl, rfl⟩ := hrel
          by_cases hlt : k < n
          · obtain ⟨b3, o3, ha3, hc3⟩ := HCL.out k hlt
            simp only [Addr.mk.injEq, and_true] at ha3
            obtain ⟨rfl, rfl⟩ := ha3
            have hkl : k < ds.length := by rw [HL.out]; omega
            have HV := Lib.hid (val_take_succ ds k hkl)
            have hx56 : val (ds.take k) < 72057594037927936 := by
              have h1 := val_take_lt ds (fun c hc => H256.out c hc) k (by omega)
              have h2 : 2 ^ (8 * k) ≤ 2 ^ 56 := Nat.pow_le_pow_right (by omega) (by omega)
              omega
            have hc256 : ds.getD k 0 < 256 := H256.out _ (getD_mem _ k hkl)
            obtain ⟨xx, hxx⟩ : ∃ xx, val (ds.take k) = xx := ⟨_, rfl⟩
            obtain ⟨c', hc'⟩ : ∃ c', ds.getD k 0 = c' := ⟨_, rfl⟩
            rw [hxx] at HV hx56 ⊢
            rw [hc'] at HV hc256 hc3
            have hsh : IntKind.u64.wrap ((xx : Int) * 256) = (xx : Int) * 256 := IntWalk.u64_in _ ⟨by omega, by omega⟩
            have hsa : IntKind.u64.wrap ((xx : Int) * 256 + (c' : Int)) = (xx : Int) * 256 + (c' : Int) := IntWalk.u64_in _ ⟨by omega, by omega⟩
            clear hxx hc' hkl hx56
            go_wp2
            go_round
            case rel => exact ⟨k + 1, by omega, by go_num, by rw [HV.out]; go_num⟩
            case measure => simp [intOf]; omega
          · obtain rfl : k = n := by omega
            go_wp2
            go_ret2
            exact ⟨rfl, rfnums HE.out H2.out H3.out (by rw [HL.out]; exact hn) (.inl (add_at _ _ _).symm) (by rw [HL.out]) (by omega) (by have := HM.out; omega)⟩
        
    · obtain rfl : n = 0 := by omega
      by_cases hcn : cap = 0
      · obtain rfl : L = 0 := by omega
        subst hcn
        go_enter Try.func114, Try.ntmps114
        go_wp2
        go_loop [6, 7] (fun x i => x = .int .u64 0 ∧ i = .int .i64 0) (fun _ _ => 0)
        case atStart => exact ⟨rfl, rfl⟩
        case round =>
          obtain ⟨rfl, rfl⟩ := hrel
          go_wp2
          go_ret2
          exact ⟨rfl, rfnums HE.out H2.out H3.out (by omega) (.inr ⟨HL.out.symm, rfl⟩) (by rw [HL.out]) (by simp) (by simp)⟩
      · go_enter Try.func114, Try.ntmps114
        go_wp2
        go_loop [6, 7] (fun x i => x = .int .u64 0 ∧ i = .int .i64 0) (fun _ _ => 0)
        case atStart => exact ⟨rfl, rfl⟩
        case round =>
          obtain ⟨rfl, rfl⟩ := hrel
          go_wp2
          go_ret2
          exact ⟨rfl, rfnums HE.out H2.out H3.out (by omega) (.inl rfl) (by rw [HL.out]; rfl) (by omega) (by have := HM.out; omega)⟩
      
/- The other reader: Num and Flag. -/
open Go.RowKit

/-- What a method of the other reader hands back. -/
def GotF (b : Nat) (w : World) (z : Value) (r : Option (Value × List Nat)) (e : Ending) (w' : World) : Prop :=
  (r = none → e = .returned z ∧ RF w' b [] true ∧ Rd b w w') ∧ ∀ v rest, r = some (v, rest) → e = .returned v ∧ RF w' b rest false ∧ Rd b w w'
theorem GotF.no {b : Nat} {w w' : World} {z : Value} {r : Option (Value × List Nat)} (hr : r = none) (h1 : RF w' b [] true) (h2 : Rd b w w') : GotF b w z r (.returned z) w' :=
  ⟨(fun _ => ⟨rfl, h1, h2⟩), (fun v rest hx => by rw [hr] at hx; cases hx)⟩
theorem GotF.yes {b : Nat} {w w' : World} {z v : Value} {rest : List Nat} {r : Option (Value × List Nat)} (hr : r = some (v, rest)) (h1 : RF w' b rest false) (h2 : Rd b w w') : GotF b w z r (.returned v) w' :=
  ⟨(fun hx => by rw [hr] at hx; cases hx), (fun v' rest' hx => by rw [hr] at hx; simp only [Option.some.injEq, Prod.mk.injEq] at hx; obtain ⟨rfl, rfl⟩ := hx; exact ⟨rfl, h1, h2⟩)⟩

/-- number of the first byte, whatever it is. -/
def NumAny (b : Nat) (w : World) (r : Option (Nat × List Nat)) (e : Ending) (w' : World) : Prop :=
  (r = none ∧ e = .returned (.tuple #[.int .u64 0, .bool false]) ∧ w = w') ∨ ∃ n rest, r = some (n, rest) ∧ e = .returned (.tuple #[.int .u64 ((n : Nat) : Int), .bool true]) ∧ RF w' b rest false ∧ Rd b w w' ∧ n < 18446744073709551616
/-- The number of n bytes. -/
def ofN (n : Nat) (t : List Nat) : Option (Nat × List Nat) := if 8 < n ∨ t.length < n ∨ (0 < n ∧ t.getD 0 0 = 0) then none else some (val (t.take n), t.drop n)
theorem rfnum_any (b n : Nat) (t : List Nat) (w : World) (hr : RF w b t false) : Calls Try.prog 114 #[.pointer (some ⟨b, 0, none⟩), .int .i64 (n : Int)] w (NumAny b w (ofN n t)) := by
  have h256 : ∀ c ∈ t, c < 256 := by obtain ⟨v, _, h2, _⟩ := hr; exact h2.1
  by_cases h1 : 8 < n
  · exact (rfnum_big8 b n t false w h1).mono fun e w' h => .inl ⟨by unfold ofN; rw [if_pos (.inl h1)], h.1, h.2⟩
  by_cases h2 : t.length < n
  · exact (rfnum_short b n t false w hr (by omega) h2).mono fun e w' h => .inl ⟨by unfold ofN; rw [if_pos (.inr (.inl h2))], h.1, h.2⟩
  by_cases h3 : 0 < n ∧ t.getD 0 0 = 0
  · exact (rfnum_zero b n t false w hr (by omega) (by omega) h3.1 h3.2).mono fun e w' h => .inl ⟨by unfold ofN; rw [if_pos (.inr (.inr h3))], h.1, h.2⟩
  · refine (rfnum_yes b n t w hr (by omega) (by omega) h3).mono fun e w' h => .inr ⟨_, _, by unfold ofN; rw [if_neg (by rintro (h | h | h) <;> first | omega | exact h3 h)], h.1, h.2.1, h.2.2, ?_⟩
    have hv := val_take_lt t h256 n (by omega)
    have h4 : 2 ^ (8 * n) ≤ 2 ^ 64 := Nat.pow_le_pow_right (by omega) (by omega)
    omega
theorem rNum_first (most c : Nat) (t : List Nat) (hc : c < 256) : rNum most (c :: t) = match ofN c t with | some (n, rest) => if n ≤ most then some (n, rest) else none | none => none := by
  unfold rNum
  rw [rnum]
  by_cases h : c < 128
  · have e : c % 128 = c := Nat.mod_eq_of_lt h
    have hd : decide (128 ≤ c) = false := by simp; omega
    rw [e, hd]
    unfold ofN
    by_cases h1 : 8 < c
    · rw [if_pos h1, if_pos (.inl h1)]
    rw [if_neg h1]
    by_cases h2 : t.length < c
    · rw [if_pos h2, if_pos (.inr (.inl h2))]
    rw [if_neg h2]
    by_cases h3 : 0 < c ∧ t.getD 0 0 = 0
    · rw [if_pos h3, if_pos (.inr (.inr h3))]
    rw [if_neg h3, if_neg (by rintro (h | h | h) <;> first | omega | exact h3 h)]
  · have hd : decide (128 ≤ c) = true := by simp; omega
    have e : ofN c t = none := by unfold ofN; rw [if_pos (.inl (by omega))]
    rw [hd, e]
    split <;> simp_all
set_option maxHeartbeats 1000000 in
theorem num_rf (b most : Nat) (ds : List Nat) (bad : Bool) (w : World) (hr : RF w b ds bad) :
    Calls Try.prog 73 #[.pointer (some ⟨b, 0, none⟩), .int .u64 (most : Int)] w (GotF b w (.int .u64 0) ((rNum most ds).map u64v)) := by
  cases ds with
  | nil =>
    have HF := Lib.hid (first_no b bad w hr)
    have HX := Lib.hid (fail_rf b [] bad w hr)
    clear hr
    go_enter Try.func73, Try.ntmps73
    go_wp2_with (first
      | (go_at_call 113; refine HF.out.mono ?_; rintro e w1 ⟨rfl, rfl⟩)
      | (go_at_call 115; refine HX.out.mono ?_; rintro e w2 ⟨rfl, hr2, ht2⟩))
    go_ret
    exact GotF.no rfl hr2 ht2
  | cons c t =>
    have hb : bad = false := by
      obtain ⟨v, _, _, _, h4⟩ := hr
      cases bad
      · rfl
      · simp at h4
    subst hb
    have hc : c < 256 := by obtain ⟨v, _, h2, _⟩ := hr; exact h2.1 c (by simp)
    have HF := Lib.hid (first_yes b c t w hr)
    have HN := Lib.hid (rNum_first most c t hc)
    have hw : IntKind.i64.wrap (c : Int) = (c : Int) := IntWalk.i64_in _ ⟨by omega, by omega⟩
    clear hr
    cases hof : ofN c t with
    | none =>
      rw [hof] at HN
      have hnum : ∀ w1, RF w1 b t false → Calls Try.prog 114 #[.pointer (some ⟨b, 0, none⟩), .int .i64 (c : Int)] w1 fun e w2 => e = .returned (.tuple #[.int .u64 0, .bool false]) ∧ w1 = w2 := fun w1 h1 => (rfnum_any b c t w1 h1).mono fun e w2 hq => by
        rcases hq with ⟨_, h1, h2⟩ | ⟨n', rest', h, _⟩
        · exact ⟨h1, h2⟩
        · rw [hof] at h; cases h
      have HQ := Lib.hid hnum
      clear hnum hof
      go_enter Try.func73, Try.ntmps73
      go_wp2_with (first
        | (go_at_call 113; refine HF.out.mono ?_; rintro e w1 ⟨rfl, hr1, ht1⟩)
        | (go_at_call 114; refine (HQ.out w1 hr1).mono ?_; rintro e w2 ⟨rfl, rfl⟩)
        | (go_at_call 115; refine (fail_rf b _ _ _ hr1).mono ?_; rintro e w3 ⟨rfl, hr3, ht3⟩))
      go_ret
      exact GotF.no (by rw [HN.out]; rfl) hr3 (ht1.trans ht3)
    | some p =>
      obtain ⟨n, rest⟩ := p
      rw [hof] at HN
      have hnum : ∀ w1, RF w1 b t false → Calls Try.prog 114 #[.pointer (some ⟨b, 0, none⟩), .int .i64 (c : Int)] w1 fun e w2 => e = .returned (.tuple #[.int .u64 ((n : Nat) : Int), .bool true]) ∧ RF w2 b rest false ∧ Rd b w1 w2 := fun w1 h1 => (rfnum_any b c t w1 h1).mono fun e w2 hq => by
        rcases hq with ⟨h, _⟩ | ⟨n', rest', h, h2, h3, h4, _⟩
        · rw [hof] at h; cases h
        · rw [hof] at h
          simp only [Option.some.injEq, Prod.mk.injEq] at h
          obtain ⟨rfl, rfl⟩ := h
          exact ⟨h2, h3, h4⟩
      have HQ := Lib.hid hnum
      clear hnum hof
      by_cases hm : n ≤ most
      · have hd : decide ((n : Int) ≤ (most : Int)) = true := by simp; omega
        go_enter Try.func73, Try.ntmps73
        go_wp2_with (first
          | (go_at_call 113; refine HF.out.mono ?_; rintro e w1 ⟨rfl, hr1, ht1⟩)
          | (go_at_call 114; refine (HQ.out w1 hr1).mono ?_; rintro e w2 ⟨rfl, hr2, ht2⟩)
          | (go_at_call 115; refine (fail_rf b _ _ _ hr2).mono ?_; rintro e w3 ⟨rfl, hr3, ht3⟩))
        go_ret
        exact GotF.yes (by rw [HN.out, if_pos hm]; rfl) hr2 (ht1.trans ht2)
      · have hd : decide ((n : Int) ≤ (most : Int)) = false := by simp; omega
        go_enter Try.func73, Try.ntmps73
        go_wp2_with (first
          | (go_at_call 113; refine HF.out.mono ?_; rintro e w1 ⟨rfl, hr1, ht1⟩)
          | (go_at_call 114; refine (HQ.out w1 hr1).mono ?_; rintro e w2 ⟨rfl, hr2, ht2⟩)
          | (go_at_call 115; refine (fail_rf b _ _ _ hr2).mono ?_; rintro e w3 ⟨rfl, hr3, ht3⟩))
        go_ret
        exact GotF.no (by rw [HN.out, if_neg hm]; rfl) hr3 ((ht1.trans ht2).trans ht3)
/- The other reader: Flag, End and Int. -/
open Go.RowKit

set_option maxHeartbeats 1000000 in
theorem end_rf (b : Nat) (ds : List Nat) (bad : Bool) (w : World) (hr : RF w b ds bad) : Calls Try.prog 74 #[.pointer (some ⟨b, 0, none⟩)] w fun e w' => e = .returned (.int .i64 (endOf ds bad)) ∧ w = w' := by
  obtain ⟨v, h1, h2, h3, h4⟩ := hr
  obtain ⟨L, hL⟩ : ∃ L, ds.length = L := ⟨_, rfl⟩
  obtain ⟨a, cap, rfl⟩ := h2.shapeN' hL
  obtain ⟨c0, c1, f0, f1⟩ := two_cells h1
  have HE : endOf ds bad = if bad = true ∨ L ≠ 0 then 20 else 0 := by
    unfold endOf
    by_cases e : ds = []
    · subst e; simp at hL; subst hL; simp
    · have : L ≠ 0 := fun h => e (List.length_eq_zero_iff.mp (hL.trans h)); simp [e, this]
  rw [HE]
  clear h1 h2 h3 h4 hL HE
  cases bad with
  | true =>
    rw [if_pos (.inl rfl)]
    go_enter Try.func74, Try.ntmps74
    go_wp2
    go_ret
    exact ⟨rfl, rfl⟩
  | false =>
    by_cases h0 : L = 0
    · subst h0
      rw [if_neg (by simp)]
      go_enter Try.func74, Try.ntmps74
      go_wp2
      go_ret
      exact ⟨rfl, rfl⟩
    · have hd : 0 < L := by omega
      rw [if_pos (.inr h0)]
      clear h0
      go_enter Try.func74, Try.ntmps74
      go_wp2
      go_ret
      exact ⟨rfl, rfl⟩
theorem rnum_first (c : Nat) (t : List Nat) : rnum (c :: t) = match ofN (c % 128) t with | some (n, rest) => some (n, decide (128 ≤ c), rest) | none => none := by
  rw [rnum]
  unfold ofN
  by_cases h1 : 8 < c % 128
  · rw [if_pos h1, if_pos (.inl h1)]
  rw [if_neg h1]
  by_cases h2 : t.length < c % 128
  · rw [if_pos h2, if_pos (.inr (.inl h2))]
  rw [if_neg h2]
  by_cases h3 : 0 < c % 128 ∧ t.getD 0 0 = 0
  · rw [if_pos h3, if_pos (.inr (.inr h3))]
  rw [if_neg h3, if_neg (by rintro (h | h | h) <;> first | omega | exact h3 h)]
/- The other reader: Int. -/
open Go.RowKit

/- Both readers, one thing read. -/
open Go.RowKit

/-- Bytes don't lie in a block that holds a slice and a flag. -/
theorem RB.beyond {w w' : World} {b' : Nat} {v v' : Value} {ds es : List Nat} {bad' : Bool} {t : TypeId} (h2 : RB w v ds) (k1 : w.heap[b']? = some (.cells #[v', .bool bad'] t (0, 0))) (k2 : RB w v' es) (ht : Rd b' w w') : RB w' v ds := by
  obtain ⟨g1, g2, g3⟩ := h2
  refine ⟨g1, g2, ?_⟩
  rcases g3 with g3 | ⟨x, cap, hv, ha, hm, hc⟩
  · exact .inl g3
  · refine .inr ⟨x, cap, hv, ha, hm, fun i hi => ?_⟩
    have hb : (x.add i).block ≠ b' := by
      intro e
      have hci := hc i hi
      obtain ⟨e2, _⟩ := cell_spot hci
      rw [e2, e] at hci
      unfold World.cell? at hci
      simp only [k1] at hci
      have : (#[v', Value.bool bad'] : Array Value)[(x.add i).off]? = some (Value.int .u8 ((ds.getD i 0 : Nat) : Int)) := by simpa using hci
      rcases h0 : (x.add i).off with _ | _ | k
      · rw [h0] at this
        simp at this
        obtain ⟨a, n, c, hv'⟩ : ∃ a n c, v' = .slice a n c := by
          obtain ⟨a, cap, hq, _, _⟩ := k2.shape
          exact ⟨_, _, _, hq⟩
        rw [hv'] at this
        cases this
      · rw [h0] at this; simp at this
      · rw [h0] at this; simp at this
    rw [ht.cell (p := x.add i) (cell_spot (hc i hi)).2 hb (by simp [Value.ownBlock])]
    exact hc i hi
theorem RF.besides {w w' : World} {b c : Nat} {ds es : List Nat} {bad bad' : Bool} (h : RF w c ds bad) (h' : RR w b es bad') (ht : Rd b w w') (hne : c ≠ b) : RF w' c ds bad := by
  obtain ⟨v, h1, h2, h3, h4⟩ := h
  obtain ⟨v', k1, k2, _⟩ := h'
  exact ⟨v, (ht.block c (lt_of_block h1) hne (by simp [Value.ownBlock])).trans h1, h2.beyond k1 k2 ht, h3, h4⟩
theorem RR.besides {w w' : World} {b c : Nat} {ds es : List Nat} {bad bad' : Bool} (h : RR w b ds bad) (h' : RF w c es bad') (ht : Rd c w w') (hne : b ≠ c) : RR w' b ds bad := by
  obtain ⟨v, h1, h2, h3, h4⟩ := h
  obtain ⟨v', k1, k2, _⟩ := h'
  exact ⟨v, (ht.block b (lt_of_block h1) hne (by simp [Value.ownBlock])).trans h1, h2.beyond k1 k2 ht, h3, h4⟩
/-- Both readers, alike. -/
def Two (w : World) (b c : Nat) (ds : List Nat) (bad : Bool) : Prop := RR w b ds bad ∧ RF w c ds bad ∧ b ≠ c
theorem Two.kept {w w' : World} {b c : Nat} {ds : List Nat} {bad : Bool} (h : Two w b c ds bad) (hb : Below w.heap.size w w') : Two w' b c ds bad := ⟨h.1.kept hb, h.2.1.kept hb, h.2.2⟩
/-- The program's reader has read; the other follows. -/
theorem Two.both {w w1 : World} {b c : Nat} {ds : List Nat} {bad : Bool} {z : Value} {r : Option (Value × List Nat)} {e1 : Ending} (h : Two w b c ds bad) (h1 : Got b w z r e1 w1) :
    ∃ v ds' bad', e1 = .returned v ∧ (v = z ∨ ∃ rest, r = some (v, rest)) ∧ (r = none ∧ ds' = [] ∨ ∃ v', r = some (v', ds')) ∧ RF w1 c ds bad ∧ Rd b w w1 ∧ ∀ e2 w2, GotF c w1 z r e2 w2 → e2 = .returned v ∧ Two w2 b c ds' bad' ∧ Rd c w1 w2 := by
  obtain ⟨hr, hf, hne⟩ := h
  cases r with
  | none =>
    obtain ⟨he, hr1, ht1⟩ := h1.1 rfl
    have hf1 := hf.besides hr ht1 (fun e => hne e.symm)
    refine ⟨z, [], true, he, .inl rfl, .inl ⟨rfl, rfl⟩, hf1, ht1, fun e2 w2 h2 => ?_⟩
    obtain ⟨he2, hf2, ht2⟩ := h2.1 rfl
    exact ⟨he2, ⟨hr1.besides hf1 ht2 hne, hf2, hne⟩, ht2⟩
  | some p =>
    obtain ⟨v, rest⟩ := p
    obtain ⟨he, hr1, ht1⟩ := h1.2 v rest rfl
    have hf1 := hf.besides hr ht1 (fun e => hne e.symm)
    refine ⟨v, rest, false, he, .inr ⟨rest, rfl⟩, .inr ⟨v, rfl⟩, hf1, ht1, fun e2 w2 h2 => ?_⟩
    obtain ⟨he2, hf2, ht2⟩ := h2.2 v rest rfl
    exact ⟨he2, ⟨hr1.besides hf1 ht2 hne, hf2, hne⟩, ht2⟩
/-- What read hands back. -/
def ReadTwo (b c : Nat) (w : World) (ds : List Nat) (e : Ending) (w' : World) : Prop :=
  e = .returned (.bool true) ∧ ∃ ds' bad', Two w' b c ds' bad' ∧ ds'.length ≤ ds.length ∧ ∀ (B : Nat) (W : World), Below B W w → B ≤ w.heap.size → B ≤ b → B ≤ c → Below B W w'
end Go.Proofs.Ythefnakbpalecaa
