/- A burst of bits in sealed bytes. -/
import Derived.Test.YteehglaadofidaaCrcP
import Derived.RegionTactic
import Derived.BigRegion
namespace Go.Proofs.Yteehglaadofidaa
open Go.RowKit

/-- What the row of bytes is when the first k bits of the burst are turned. -/
def Turned (n p t k : Nat) (cur : List Nat) : Prop := cur.length = n + 3 ∧ (∀ c ∈ cur, c < 256) ∧ onN 11994318 cur = shi (8 * (n + 3) - p) (burst t k)

theorem and1 (t k : Nat) (ht : t < 4294967296) : bits .and .u32 ((t : Int) / 2 ^ k) 1 = ((t / 2 ^ k % 2 : Nat) : Int) := by
  have e : (t : Int) / 2 ^ k = ((t / 2 ^ k : Nat) : Int) := by rw [Int.natCast_ediv, Int.natCast_pow]; rfl
  rw [e, show (1 : Int) = ((1 : Nat) : Int) from rfl, u32_and_nat _ _ (Nat.lt_of_le_of_lt (Nat.div_le_self _ _) ht) (by omega), Nat.and_one_is_mod]
theorem bit_yes (t k : Nat) (ht : t < 4294967296) (h : t.testBit k = true) : (bits .and .u32 ((t : Int) / 2 ^ k) 1 == 1) = true := by
  rw [and1 t k ht]
  rw [Nat.testBit_eq_decide_div_mod_eq] at h
  have := of_decide_eq_true h
  rw [this]; rfl
theorem bit_no (t k : Nat) (ht : t < 4294967296) (h : ¬ t.testBit k = true) : (bits .and .u32 ((t : Int) / 2 ^ k) 1 == 1) = false := by
  rw [and1 t k ht]
  rw [Nat.testBit_eq_decide_div_mod_eq] at h
  have h2 : ¬ t / 2 ^ k % 2 = 1 := fun e => h (decide_eq_true e)
  have : t / 2 ^ k % 2 = 0 := by omega
  rw [this]; rfl
theorem mask128 (q : Nat) : (128 : Int) / 2 ^ q = ((128 / 2 ^ q : Nat) : Int) := by rw [Int.natCast_ediv, Int.natCast_pow]; rfl
theorem Turned.no {n p t k : Nat} {cur : List Nat} (h : Turned n p t k cur) (hb : ¬ t.testBit k = true) : Turned n p t (k + 1) cur := by
  obtain ⟨h1, h2, h3⟩ := h
  exact ⟨h1, h2, by rw [h3, burst, if_neg hb]⟩
theorem Turned.yes {n p t k : Nat} {cur : List Nat} (h : Turned n p t k cur) (hb : t.testBit k = true) (hk : k < 24) (hp : p ≤ 8 * n) :
    Turned n p t (k + 1) (cur.set ((p + k) / 8) (cur.getD ((p + k) / 8) 0 ^^^ (128 / 2 ^ ((p + k) % 8)))) := by
  obtain ⟨h1, h2, h3⟩ := h
  have hj : (p + k) / 8 < cur.length := by omega
  have hd : 128 / 2 ^ ((p + k) % 8) < 256 := Nat.lt_of_le_of_lt (Nat.div_le_self _ _) (by omega)
  have hc := h2 _ (show cur.getD ((p + k) / 8) 0 ∈ cur by simp [hj])
  refine ⟨by simpa using h1, ?_, ?_⟩
  · intro c hcm
    rcases List.mem_or_eq_of_mem_set hcm with h | rfl
    · exact h2 c h
    · have := Nat.xor_lt_two_pow (n := 8) (x := cur.getD ((p + k) / 8) 0) (y := 128 / 2 ^ ((p + k) % 8)) (by omega) (by omega)
      simpa using this
  · have hm := mask_shi ((p + k) % 8) (by omega) (n + 3) k (p + k) hk (by omega) (by omega) (by omega)
    have hs : p + k - k = p := by omega
    rw [hs] at hm
    rw [onN_set cur 11994318 _ _ (by omega) h2 hj hd, h3, h1, hm, burst, if_pos hb]
    have h2k : 2 ^ (23 - k) < 16777216 := by
      have : 2 ^ (23 - k) ≤ 2 ^ 23 := Nat.pow_le_pow_right (by omega) (by omega)
      omega
    rw [shi_xor _ _ _ (burst_lt t k (by omega)) h2k]
theorem OB.byte {w : World} {base : Nat} {a : Option Addr} {n cap k : Nat} {bs : List Nat} (h : OB w base (.slice a n cap) bs) (hn : bs.length = n) (hk : k < n) :
    ∃ g, a = some ⟨g, 0, none⟩ ∧ base ≤ g ∧ w.cell? ⟨g, k, none⟩ = some (.int .u8 ((bs.getD k 0 : Nat) : Int)) ∧ w.frozen? ⟨g, k, none⟩ = false := by
  have h' := h
  rcases h'.2 with ⟨hv, h0⟩ | ⟨g, cap', cur, hv, hg, hh, _⟩
  · omega
  · simp only [Value.slice.injEq] at hv
    obtain ⟨rfl, rfl, rfl⟩ := hv
    refine ⟨g, rfl, hg, ?_, World.ownsRow.frozenAt h k⟩
    rw [World.ownsRow.cellAt h k (by omega)]
    exact cb_get bs k (by omega)
theorem OB.drew {w : World} {base : Nat} {v : Value} {bs : List Nat} (h : OB w base v bs) : OB w.drew base v bs := h
theorem OB.put {w : World} {base g n cap : Nat} {bs : List Nat} (h : OB w base (.slice (some ⟨g, 0, none⟩) n cap) bs) (hn : bs.length = n) (k c : Nat) : OB (w.setCell ⟨g, k, none⟩ (.int .u8 (c : Int))) base (.slice (some ⟨g, 0, none⟩) n cap) (bs.set k c) := by
  subst hn
  unfold OB
  have := (World.ownsRow.stored h k (.int .u8 (c : Int))).1
  rw [List.length_set]
  simpa [cb, List.map_set] using this

end Go.Proofs.Yteehglaadofidaa
