/- The walk of CrcBursts: the burst itself. -/
import Derived.Test.YtkeloeppploiaaaCrcH
namespace Go.Proofs.Ytkeloeppploiaaa
open Go.RowKit

/-- What the row of bytes is when the first k bits of the burst are turned. -/
def Turned (n p t k : Nat) (cur : List Nat) : Prop := cur.length = n + 3 ∧ (∀ c ∈ cur, c < 256) ∧ onN 11994318 cur = shi (8 * (n + 3) - p) (burst t k)

theorem and1 (t k : Nat) (ht : t < 4294967296) : bits .and .u32 ((t : Int) / 2 ^ k) 1 = ((t / 2 ^ k % 2 : Nat) : Int) := by
  have e : (t : Int) / 2 ^ k = ((t / 2 ^ k : Nat) : Int) := by rw [Int.natCast_ediv, Int.natCast_pow]; rfl
  rw [e, show (1 : Int) = ((1 : Nat) : Int) from rfl, u32_and_nat _ _ (Nat.lt_of_le_of_lt (Nat.div_le_self _ _) ht) (by omega), Nat.and_one_is_mod]
theorem bit_yes (t k : Nat) (ht : t < 4294967296) (h : t.testBit k = true) : (bits .and .u32 ((t : Int) / 2 ^ k) 1 == 1) = true := by
  rw [and1 t k ht]
  rw [Nat.testBit_eq_decide_div_mod_eq] at h
  have := of_decide_eq_true h
  rw [this]; rfl
theorem bit_no (t k : Nat) (ht : t < 4294967296) (h : ¬ t.testBit k = true) : (bits .and .u32 ((t : Int) / 2 ^ k) 1 == 1) = false := by
  rw [and1 t k ht]
  rw [Nat.testBit_eq_decide_div_mod_eq] at h
  have h2 : ¬ t / 2 ^ k % 2 = 1 := fun e => h (decide_eq_true e)
  have : t / 2 ^ k % 2 = 0 := by omega
  rw [this]; rfl
theorem mask128 (q : Nat) : (128 : Int) / 2 ^ q = ((128 / 2 ^ q : Nat) : Int) := by rw [Int.natCast_ediv, Int.natCast_pow]; rfl
theorem Turned.no {n p t k : Nat} {cur : List Nat} (h : Turned n p t k cur) (hb : ¬ t.testBit k = true) : Turned n p t (k + 1) cur := by
  obtain ⟨h1, h2, h3⟩ := h
  exact ⟨h1, h2, by rw [h3, burst, if_neg hb]⟩
theorem Turned.yes {n p t k : Nat} {cur : List Nat} (h : Turned n p t k cur) (hb : t.testBit k = true) (hk : k < 24) (hp : p ≤ 8 * n) :
    Turned n p t (k + 1) (cur.set ((p + k) / 8) (cur.getD ((p + k) / 8) 0 ^^^ (128 / 2 ^ ((p + k) % 8)))) := by
  obtain ⟨h1, h2, h3⟩ := h
  have hj : (p + k) / 8 < cur.length := by omega
  have hd : 128 / 2 ^ ((p + k) % 8) < 256 := Nat.lt_of_le_of_lt (Nat.div_le_self _ _) (by omega)
  have hc := h2 _ (show cur.getD ((p + k) / 8) 0 ∈ cur by simp [hj])
  refine ⟨by simpa using h1, ?_, ?_⟩
  · intro c hcm
    rcases List.mem_or_eq_of_mem_set hcm with h | rfl
    · exact h2 c h
    · have := Nat.xor_lt_two_pow (n := 8) (x := cur.getD ((p + k) / 8) 0) (y := 128 / 2 ^ ((p + k) % 8)) (by omega) (by omega)
      simpa using this
  · have hm := mask_shi ((p + k) % 8) (by omega) (n + 3) k (p + k) hk (by omega) (by omega) (by omega)
    have hs : p + k - k = p := by omega
    rw [hs] at hm
    rw [onN_set cur 11994318 _ _ (by omega) h2 hj hd, h3, h1, hm, burst, if_pos hb]
    have h2k : 2 ^ (23 - k) < 16777216 := by
      have : 2 ^ (23 - k) ≤ 2 ^ 23 := Nat.pow_le_pow_right (by omega) (by omega)
      omega
    rw [shi_xor _ _ _ (burst_lt t k (by omega)) h2k]
theorem OB.byte {w : World} {base : Nat} {a : Option Addr} {n cap k : Nat} {bs : List Nat} (h : OB w base (.slice a n cap) bs) (hn : bs.length = n) (hk : k < n) :
    ∃ g, a = some ⟨g, 0, none⟩ ∧ base ≤ g ∧ w.cell? ⟨g, k, none⟩ = some (.int .u8 ((bs.getD k 0 : Nat) : Int)) ∧ w.frozen? ⟨g, k, none⟩ = false := by
  have h' := h
  rcases h'.2 with ⟨hv, h0⟩ | ⟨g, cap', cur, hv, hg, hh, _⟩
  · omega
  · simp only [Value.slice.injEq] at hv
    obtain ⟨rfl, rfl, rfl⟩ := hv
    refine ⟨g, rfl, hg, ?_, World.ownsRow.frozenAt h k⟩
    rw [World.ownsRow.cellAt h k (by omega)]
    exact cb_get bs k (by omega)
theorem OB.drew {w : World} {base : Nat} {v : Value} {bs : List Nat} (h : OB w base v bs) : OB w.drew base v bs := h
theorem OB.put {w : World} {base g n cap : Nat} {bs : List Nat} (h : OB w base (.slice (some ⟨g, 0, none⟩) n cap) bs) (hn : bs.length = n) (k c : Nat) : OB (w.setCell ⟨g, k, none⟩ (.int .u8 (c : Int))) base (.slice (some ⟨g, 0, none⟩) n cap) (bs.set k c) := by
  subst hn
  unfold OB
  have := (World.ownsRow.stored h k (.int .u8 (c : Int))).1
  rw [List.length_set]
  simpa [cb, List.map_set] using this

set_option maxHeartbeats 400000 in
theorem bursts_in (v : Value) (bs : List Nat) (p t : Nat) (w : World) (hb : RB w v bs) (hl : bs.length ≤ 500) (ht : t < 4294967296) (h0 : t % 16777216 ≠ 0) (ho : p ≤ 8 * bs.length) :
    Calls Try.prog 10 #[v, .int .i64 (p : Int), .int .u32 (t : Int)] w fun e w' => e = .returned (.bool true) ∧ Below w.heap.size w w' := by
  have e : ((t : Int) % 16777216 == 0) = false := by simp; omega
  obtain ⟨a, cap, rfl, _, _⟩ := hb.shape
  obtain ⟨n, hn⟩ : ∃ n, bs.length = n := ⟨_, rfl⟩
  have HB := Lib.hid hb
  have HN := Lib.hid hn
  have H0 := Lib.hid h0
  rw [hn] at hl ho ⊢
  have hc : decide (500 < (n : Int)) = false := by simp; omega
  clear hb hn h0
  go_enter Try.func10, Try.ntmps10
  go_wp2_with (first
      | (go_at_call 38; refine (seal_any _ bs _ (by have := HB.out; rw [HN.out] at this; exact this) (by have := HN.out; omega)).mono ?_; rintro e w2 ⟨s, rfl, ho2, hb2⟩; obtain ⟨sa, sc, rfl⟩ := (ho2.rb (top_lt HB.out.1) (by have := HN.out; rw [top_len]; omega)).shapeN ((top_len bs).trans (by rw [HN.out]))))
  clear e hc
  go_loopw [33] (fun i wr => ∃ (k : Nat) (cur : List Nat), k ≤ 24 ∧ i = .int .i64 k ∧ Below w.heap.size w wr ∧ OB wr w.heap.size (.slice sa (n + 3) sc) cur ∧ Turned n p t k cur) (fun i _ => 24 - (intOf i).toNat)
  case atStart => exact ⟨0, _, Nat.zero_le _, rfl, hb2, ho2, by rw [top_len, HN.out], top_lt HB.out.1, by rw [onN_sealed bs HB.out.1, burst, shi_zero]⟩
  case round =>
    obtain ⟨k, cur, hk, rfl, hW, hob, hT⟩ := hrel
    clear hb2 ho2
    by_cases hlt : k < 24
    · by_cases hbit : t.testBit k = true
      · have hyes := bit_yes t k ht hbit
        have hjn : (p + k) / 8 < n + 3 := by omega
        obtain ⟨g, rfl, hg, hcell, hfr⟩ := hob.byte hT.1 hjn
        have hT2 := hT.yes hbit hlt ho
        have hcl := hT.2.1 _ (show cur.getD ((p + k) / 8) 0 ∈ cur by have := hT.1; simp [show (p + k) / 8 < cur.length by omega])
        have hput := fun c => hob.put hT.1 ((p + k) / 8) c
        have hi1 : IntKind.i64.wrap ((p : Int) + (k : Int)) = ((p + k : Nat) : Int) := by rw [IntWalk.i64_in _ (by omega)]; omega
        obtain ⟨j, hj⟩ : ∃ j, (p + k) / 8 = j := ⟨_, rfl⟩
        obtain ⟨q, hq⟩ : ∃ q, (p + k) % 8 = q := ⟨_, rfl⟩
        have hq8 : q < 8 := by omega
        rw [hj] at hcell hfr hjn hT2 hput hcl
        rw [hq] at hT2
        obtain ⟨c, hc⟩ : ∃ c, cur.getD j 0 = c := ⟨_, rfl⟩
        rw [hc] at hcell hT2 hcl
        have hm := mask128 q
        have hdl : 128 / 2 ^ q < 256 := Nat.lt_of_le_of_lt (Nat.div_le_self _ _) (by omega)
        obtain ⟨d, hd⟩ : ∃ d, 128 / 2 ^ q = d := ⟨_, rfl⟩
        rw [hd] at hm hdl hT2
        have hx := u8_xor_nat c d hcl hdl
        obtain ⟨y, hy⟩ : ∃ y, c ^^^ d = y := ⟨_, rfl⟩
        rw [hy] at hx hT2
        have hO := hput y
        have HT2 := Lib.hid hT2
        have HO := Lib.hid hO
        have hj' : ((p : Int) + (k : Int)) / 8 = (j : Int) := by omega
        have hq' : ((p : Int) + (k : Int)) % 8 = (q : Int) := by omega
        clear hT2 hO hput hc hd hy hj hq hi1 hT hob hbit
        go_wp2
        go_region
        go_wp2
        go_roundw
        case rel => exact ⟨k + 1, _, by omega, by go_num, (hW.setCell (by exact hg) _).drew, HO.out.drew, HT2.out⟩
        case measure => simp [intOf]; omega
      · have hno := bit_no t k ht hbit
        have HT := Lib.hid (hT.no hbit)
        clear hT hbit
        go_wp2
        go_roundw
        case rel => exact ⟨k + 1, cur, by omega, by go_num, hW, hob, HT.out⟩
        case measure => simp [intOf]; omega
    · obtain rfl : k = 24 := by omega
      have hne : onN 11994318 cur ≠ 0 := by rw [hT.2.2]; exact shi_ne _ _ (burst_ne t H0.out)
      have hnf := not_fits cur n hT.1 hT.2.1 hne
      have hrb := hob.rb hT.2.1 (by have := hT.1; omega)
      have HOB := Lib.hid (open_bad _ cur n _ hrb hT.1 (by omega) hnf)
      clear hne hnf hrb hT hob
      go_wp2_with (first
        | (go_at_call 39; refine (HOB.out).mono ?_; rintro e w3 ⟨rfl, hb3⟩)
        | (go_at_call 32; refine (lives2 _).mono ?_; rintro e w' ⟨rfl, hl4⟩))
      go_ret
      exact ⟨rfl, (hW.trans (hb3.mono hW.size)).trans (hl4.mono (Nat.le_trans hW.size hb3.size))⟩
end Go.Proofs.Ytkeloeppploiaaa
