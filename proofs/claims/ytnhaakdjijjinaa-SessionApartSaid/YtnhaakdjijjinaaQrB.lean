/- The other reader: its number of so many bytes. -/
import Derived.Test.YtnhaakdjijjinaaQrA
namespace Go.Proofs.Ytnhaakdjijjinaa
open Go.RowKit

/-- number fails: nothing has turned. -/
def NumF (w : World) (e : Ending) (w' : World) : Prop := e = .returned (.tuple #[.int .u64 0, .bool false]) ∧ w = w'
set_option maxHeartbeats 1000000 in
theorem rfnum_big8 (b n : Nat) (ds : List Nat) (bad : Bool) (w : World) (h : 8 < n) : Calls Try.prog 86 #[.pointer (some ⟨b, 0, none⟩), .int .i64 (n : Int)] w (NumF w) := by
  have hd : decide ((8 : Int) < (n : Int)) = true := by simp; omega
  clear h
  go_enter Try.func86, Try.ntmps86
  go_wp2
  go_ret2
  exact ⟨rfl, rfl⟩
set_option maxHeartbeats 1000000 in
theorem rfnum_short (b n : Nat) (ds : List Nat) (bad : Bool) (w : World) (hr : RF w b ds bad) (h8 : n ≤ 8) (h : ds.length < n) : Calls Try.prog 86 #[.pointer (some ⟨b, 0, none⟩), .int .i64 (n : Int)] w (NumF w) := by
  obtain ⟨v, h1, h2, h3, h4⟩ := hr
  obtain ⟨L, hL⟩ : ∃ L, ds.length = L := ⟨_, rfl⟩
  obtain ⟨a, cap, rfl⟩ := h2.shapeN' hL
  obtain ⟨c0, c1, f0, f1⟩ := two_cells h1
  rw [hL] at h
  have hd : decide ((8 : Int) < (n : Int)) = false := by simp; omega
  have he : decide ((L : Int) < (n : Int)) = true := by simp; omega
  clear h1 h2 h3 h4 hL
  go_enter Try.func86, Try.ntmps86
  go_wp2
  go_ret2
  exact ⟨rfl, rfl⟩
set_option maxHeartbeats 1000000 in
theorem rfnum_zero (b n : Nat) (ds : List Nat) (bad : Bool) (w : World) (hr : RF w b ds bad) (h8 : n ≤ 8) (hn : n ≤ ds.length) (hp : 0 < n) (h : ds.getD 0 0 = 0) : Calls Try.prog 86 #[.pointer (some ⟨b, 0, none⟩), .int .i64 (n : Int)] w (NumF w) := by
  obtain ⟨v, h1, h2, h3, h4⟩ := hr
  obtain ⟨c0, c1, f0, f1⟩ := two_cells h1
  obtain ⟨xb, off, cap, hv, hcl, hcm, hx, hcell⟩ := h2.at (by omega)
  subst hv
  have hc : w.cell? ⟨xb, off, none⟩ = some (.int .u8 0) := by
    have := hcell 0 (by omega)
    rwa [h] at this
  obtain ⟨L, hL⟩ : ∃ L, ds.length = L := ⟨_, rfl⟩
  rw [hL] at hn c0 hcl
  have hd : decide ((8 : Int) < (n : Int)) = false := by simp; omega
  have he : decide ((L : Int) < (n : Int)) = false := by simp; omega
  have hf : decide ((0 : Int) < (n : Int)) = true := by simp; omega
  clear h1 h2 h3 h4 hL h h8 hcell
  go_enter Try.func86, Try.ntmps86
  go_wp2
  go_ret2
  exact ⟨rfl, rfl⟩
/-- number answers. -/
def NumY (b : Nat) (w : World) (n : Nat) (ds : List Nat) (e : Ending) (w' : World) : Prop := e = .returned (.tuple #[.int .u64 ((val (ds.take n) : Nat) : Int), .bool true]) ∧ RF w' b (ds.drop n) false ∧ Rd b w w'
theorem rfnums {w : World} {b n L cap k c : Nat} {x y : Addr} {ds : List Nat} (hh : w.heap[b]? = some (.cells #[.slice (some x) L cap, .bool false] 52 (0, 0))) (h : RB w (.slice (some x) L cap) ds)
    (h3 : Far b (Value.slice (some x) L cap)) (hn : n ≤ ds.length) (hy : y = x.add n ∨ (n = ds.length ∧ y = x)) (hk : k = ds.length - n) (hkc : k ≤ c) (hcm : c ≤ maxLen) :
    RF (w.setCell ⟨b, 0, none⟩ (.slice (some y) k c)) b (ds.drop n) false ∧ Rd b w (w.setCell ⟨b, 0, none⟩ (.slice (some y) k c)) := by
  have ht : Rd b w (w.setCell ⟨b, 0, none⟩ (.slice (some y) k c)) := Rd.set (Turn.refl _ _ _) 0 _
  have hb2 := own_addr (n := k) (c := c) h3 (y := y) (hy.elim (fun h => .inr ⟨n, h⟩) (fun h => .inl h.2))
  have hd := rb_drop h n hn (hy.elim .inl (fun h => .inr h.1)) hk hkc hcm
  exact ⟨⟨_, heap_set hh 0 _, hd.turned ht hb2.ne, hb2, fun hb => by cases hb⟩, ht⟩
set_option maxHeartbeats 2000000 in
theorem rfnum_yes (b n : Nat) (ds : List Nat) (w : World) (hr : RF w b ds false) (h8 : n ≤ 8) (hn : n ≤ ds.length) (h0 : ¬ (0 < n ∧ ds.getD 0 0 = 0)) : Calls Try.prog 86 #[.pointer (some ⟨b, 0, none⟩), .int .i64 (n : Int)] w (NumY b w n ds) := by
  obtain ⟨v, h1, h2, h3, h4⟩ := hr
  obtain ⟨c0, c1, f0, f1⟩ := two_cells h1
  rcases h2.2.2 with ⟨hv, hd0⟩ | ⟨x, cap, hv, hcl, hcm, hcell⟩
  · subst hv
    subst hd0
    obtain rfl : n = 0 := by simpa using hn
    have HE := Lib.hid h1
    clear h1 h2 h3 h4 hn
    go_enter Try.func86, Try.ntmps86
    go_wp2
    go_loop [6, 7] (fun x i => x = .int .u64 0 ∧ i = .int .i64 0) (fun _ _ => 0)
    case atStart => exact ⟨rfl, rfl⟩
    case round =>
      obtain ⟨rfl, rfl⟩ := hrel
      go_wp2
      go_ret2
      exact ⟨rfl, ⟨_, heap_set HE.out 0 _, RB.nil _, Far.nil _, fun _ => rfl⟩, Rd.set (Turn.refl _ _ _) 0 _⟩
  · obtain ⟨L, hL⟩ : ∃ L, ds.length = L := ⟨_, rfl⟩
    rw [hL] at hv hcl hn
    subst hv
    have hL2 := h2.2.1
    rw [hL] at hL2
    have hd : decide ((8 : Int) < (n : Int)) = false := by simp; omega
    have he : decide ((L : Int) < (n : Int)) = false := by simp; omega
    have hcl2 : ∀ k, k < n → ∃ b2 o2, x = ⟨b2, o2, none⟩ ∧ w.cell? ⟨b2, o2 + k, none⟩ = some (.int .u8 ((ds.getD k 0 : Nat) : Int)) := by
      intro k hk
      obtain ⟨b2, o2, c3, hq, _, _, _, hcell⟩ := h2.at (by omega)
      simp only [Value.slice.injEq, Option.some.injEq] at hq
      exact ⟨b2, o2, hq.1, hcell k (by omega)⟩
    have HCL := Lib.hid hcl2
    have H256 := Lib.hid h2.1
    have H0 := Lib.hid h0
    have HE := Lib.hid h1
    have H2 := Lib.hid h2
    have H3 := Lib.hid h3
    have HM := Lib.hid hcm
    have HL := Lib.hid hL
    clear h1 h2 h3 h4 hcell hL hcm hcl2 h0
    by_cases hp : 0 < n
    · obtain ⟨b2, o2, rfl, hcf0⟩ := HCL.out 0 hp
      obtain ⟨c, hc⟩ : ∃ c, ds.getD 0 0 = c := ⟨_, rfl⟩
      have hcf : w.cell? ⟨b2, o2, none⟩ = some (.int .u8 ((c : Nat) : Int)) := by rw [← hc]; exact hcf0
      have hcz : ((c : Int) == 0) = false := by
        have : ¬ c = 0 := fun hq => H0.out ⟨hp, by rw [hc, hq]⟩
        simpa using this
      have hd0 : decide ((0 : Int) < (n : Int)) = true := by simp; omega
      clear hc hcf0 H0
      by_cases hcn : cap = n
      · obtain rfl : L = n := by omega
        subst hcn
        go_enter Try.func86, Try.ntmps86
        go_wp2
        go_loop [6, 7] (fun x i => ∃ k : Nat, k ≤ cap ∧ i = .int .i64 k ∧ x = .int .u64 ((val (ds.take k) : Nat) : Int)) (fun _ i => cap - (intOf i).toNat)
        case atStart => exact ⟨0, by omega, rfl, rfl⟩
        case round =>
          obtain ⟨k, hk, rfl, rfl⟩ := hrel
          by_cases hlt : k < cap
          · obtain ⟨b3, o3, ha3, hc3⟩ := HCL.out k hlt
            simp only [Addr.mk.injEq, and_true] at ha3
            obtain ⟨rfl, rfl⟩ := ha3
            have hkl : k < ds.length := by rw [HL.out]; omega
            have HV := Lib.hid (val_take_succ ds k hkl)
            have hx56 : val (ds.take k) < 72057594037927936 := by
              have h1 := val_take_lt ds (fun c hc => H256.out c hc) k (by omega)
              have h2 : 2 ^ (8 * k) ≤ 2 ^ 56 := Nat.pow_le_pow_right (by omega) (by omega)
              omega
            have hc256 : ds.getD k 0 < 256 := H256.out _ (getD_mem _ k hkl)
            obtain ⟨xx, hxx⟩ : ∃ xx, val (ds.take k) = xx := ⟨_, rfl⟩
            obtain ⟨c', hc'⟩ : ∃ c', ds.getD k 0 = c' := ⟨_, rfl⟩
            rw [hxx] at HV hx56 ⊢
            rw [hc'] at HV hc256 hc3
            have hsh : IntKind.u64.wrap ((xx : Int) * 256) = (xx : Int) * 256 := IntWalk.u64_in _ ⟨by omega, by omega⟩
            have hsa : IntKind.u64.wrap ((xx : Int) * 256 + (c' : Int)) = (xx : Int) * 256 + (c' : Int) := IntWalk.u64_in _ ⟨by omega, by omega⟩
            clear hxx hc' hkl hx56
            go_wp2
            go_round
            case rel => exact ⟨k + 1, by omega, by go_num, by rw [HV.out]; go_num⟩
            case measure => simp [intOf]; omega
          · obtain rfl : k = cap := by omega
            go_wp2
            go_ret2
            exact ⟨rfl, rfnums HE.out H2.out H3.out (by rw [HL.out]; exact Nat.le_refl _) (.inr ⟨HL.out.symm, rfl⟩) (by rw [HL.out]; simp) (by simp) (by simp)⟩
        
      · go_enter Try.func86, Try.ntmps86
        go_wp2
        go_loop [6, 7] (fun x i => ∃ k : Nat, k ≤ n ∧ i = .int .i64 k ∧ x = .int .u64 ((val (ds.take k) : Nat) : Int)) (fun _ i => n - (intOf i).toNat)
        case atStart => exact ⟨0, by omega, rfl, rfl⟩
        case round =>
          obtain ⟨k, hk, rfl, rfl⟩ := hrel
          by_cases hlt : k < n
          · obtain ⟨b3, o3, ha3, hc3⟩ := HCL.out k hlt
            simp only [Addr.mk.injEq, and_true] at ha3
            obtain ⟨rfl, rfl⟩ := ha3
            have hkl : k < ds.length := by rw [HL.out]; omega
            have HV := Lib.hid (val_take_succ ds k hkl)
            have hx56 : val (ds.take k) < 72057594037927936 := by
              have h1 := val_take_lt ds (fun c hc => H256.out c hc) k (by omega)
              have h2 : 2 ^ (8 * k) ≤ 2 ^ 56 := Nat.pow_le_pow_right (by omega) (by omega)
              omega
            have hc256 : ds.getD k 0 < 256 := H256.out _ (getD_mem _ k hkl)
            obtain ⟨xx, hxx⟩ : ∃ xx, val (ds.take k) = xx := ⟨_, rfl⟩
            obtain ⟨c', hc'⟩ : ∃ c', ds.getD k 0 = c' := ⟨_, rfl⟩
            rw [hxx] at HV hx56 ⊢
            rw [hc'] at HV hc256 hc3
            have hsh : IntKind.u64.wrap ((xx : Int) * 256) = (xx : Int) * 256 := IntWalk.u64_in _ ⟨by omega, by omega⟩
            have hsa : IntKind.u64.wrap ((xx : Int) * 256 + (c' : Int)) = (xx : Int) * 256 + (c' : Int) := IntWalk.u64_in _ ⟨by omega, by omega⟩
            clear hxx hc' hkl hx56
            go_wp2
            go_round
            case rel => exact ⟨k + 1, by omega, by go_num, by rw [HV.out]; go_num⟩
            case measure => simp [intOf]; omega
          · obtain rfl : k = n := by omega
            go_wp2
            go_ret2
            exact ⟨rfl, rfnums HE.out H2.out H3.out (by rw [HL.out]; exact hn) (.inl (add_at _ _ _).symm) (by rw [HL.out]) (by omega) (by have := HM.out; omega)⟩
        
    · obtain rfl : n = 0 := by omega
      by_cases hcn : cap = 0
      · obtain rfl : L = 0 := by omega
        subst hcn
        go_enter Try.func86, Try.ntmps86
        go_wp2
        go_loop [6, 7] (fun x i => x = .int .u64 0 ∧ i = .int .i64 0) (fun _ _ => 0)
        case atStart => exact ⟨rfl, rfl⟩
        case round =>
          obtain ⟨rfl, rfl⟩ := hrel
          go_wp2
          go_ret2
          exact ⟨rfl, rfnums HE.out H2.out H3.out (by omega) (.inr ⟨HL.out.symm, rfl⟩) (by rw [HL.out]) (by simp) (by simp)⟩
      · go_enter Try.func86, Try.ntmps86
        go_wp2
        go_loop [6, 7] (fun x i => x = .int .u64 0 ∧ i = .int .i64 0) (fun _ _ => 0)
        case atStart => exact ⟨rfl, rfl⟩
        case round =>
          obtain ⟨rfl, rfl⟩ := hrel
          go_wp2
          go_ret2
          exact ⟨rfl, rfnums HE.out H2.out H3.out (by omega) (.inl rfl) (by rw [HL.out]; rfl) (by omega) (by have := HM.out; omega)⟩
      
end Go.Proofs.Ytnhaakdjijjinaa
