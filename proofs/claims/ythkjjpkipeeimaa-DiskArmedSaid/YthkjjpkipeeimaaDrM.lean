/- The reference's disk: what a tear leaves of loose bytes. -/
import Derived.Test.YthkjjpkipeeimaaDrL
import Derived.Laws.BitsAllLaws
import Derived.Laws.Shifts
namespace Go.Proofs.Ythkjjpkipeeimaa
open Go.RowKit Go.Maps
/-- A row of bytes in a block, whatever mark the block bears behind it. -/
def BR (w : World) (g : Nat) (bs : List Nat) : Prop := ∃ (C : Array Value) (mk : Nat × Nat), w.heap[g]? = some (.cells C 5 mk) ∧ bs.length ≤ mk.1 ∧ bs.length ≤ C.size ∧ ∀ i, i < bs.length → C[i]? = some (.int .u8 ((bs.getD i 0 : Nat) : Int))
theorem BR.cell {w : World} {g : Nat} {bs : List Nat} (h : BR w g bs) {k : Nat} (hk : k < bs.length) : w.cell? ⟨g, k, none⟩ = some (.int .u8 ((bs.getD k 0 : Nat) : Int)) ∧ w.frozen? ⟨g, k, none⟩ = false := by
  obtain ⟨C, mk, h1, h2, h3, h4⟩ := h
  refine ⟨by simp only [World.cell?, h1]; exact h4 k hk, ?_⟩
  simp only [World.frozen?, h1]
  simp
  omega
theorem BR.drew {w : World} {g : Nat} {bs : List Nat} (h : BR w g bs) : BR w.drew g bs := h
theorem BR.lt {w : World} {g : Nat} {bs : List Nat} (h : BR w g bs) : g < w.heap.size := by
  obtain ⟨C, mk, h1, -⟩ := h
  exact ex_lt h1
theorem BR.below {w w' : World} {g : Nat} {bs : List Nat} (h : BR w g bs) (hb : Below w.heap.size w w') : BR w' g bs := by
  obtain ⟨C, mk, h1, h2⟩ := h
  exact ⟨C, mk, ex_below h1 hb, h2⟩
theorem BR.put {w : World} {g : Nat} {bs : List Nat} (h : BR w g bs) {k : Nat} (hk : k < bs.length) (c : Nat) : BR (w.setCell ⟨g, k, none⟩ (.int .u8 (c : Int))) g (bs.set k c) := by
  obtain ⟨C, mk, h1, h2, h3, h4⟩ := h
  refine ⟨C.setIfInBounds k (.int .u8 (c : Int)), mk, by simp [World.setCell, Array.getElem?_modify, h1], by rw [List.length_set]; exact h2, by rw [List.length_set]; simpa using h3, fun i hi => ?_⟩
  rw [List.length_set] at hi
  rw [Array.getElem?_setIfInBounds, List.getD_eq_getElem?_getD, List.getElem?_set]
  by_cases e : k = i
  · subst e
    rw [if_pos rfl, if_pos (by omega), if_pos rfl, if_pos hi]
    rfl
  · rw [if_neg e, if_neg e, h4 i hi, List.getD_eq_getElem?_getD]
theorem BR.rb {w : World} {g : Nat} {bs : List Nat} (h : BR w g bs) (h1 : ∀ c ∈ bs, c < 256) (h2 : bs.length ≤ 140737488351232) {cap : Nat} (hc : bs.length ≤ cap) (hm : cap ≤ maxLen) : RB w (.slice (some ⟨g, 0, none⟩) bs.length cap) bs :=
  ⟨h1, h2, .inr ⟨_, cap, rfl, hc, hm, fun i hi => by rw [add_at, Nat.zero_add]; exact (h.cell hi).1⟩⟩
theorem str_at {bs : List Nat} (h1 : ∀ c ∈ bs, c < 256) {i : Nat} (hi : i < bs.length) (hs : i < (str bs).data.size) : ((str bs).data[i]).toNat = bs.getD i 0 := by
  have hb := h1 bs[i] (List.getElem_mem hi)
  simp [str, List.getD_eq_getElem?_getD, hi, UInt8.toNat_ofNat', Nat.mod_eq_of_lt hb]
theorem heap_mark_new (w : World) (C : Array Value) (ty : TypeId) (m : Nat × Nat) : (w.alloc (.cells C ty m)).heap[w.heap.size]? = some (.cells C ty m) := by
  show (w.heap.push (.cells C ty m))[w.heap.size]? = _
  simp
/-- []byte(s). -/
theorem bytes_new (w : World) (bs : List Nat) (h1 : ∀ c ∈ bs, c < 256) (h2 : bs.length ≤ 100000000) : ∃ g cap w', (convert 9 51 (.string (str bs))).run Try.prog w = .ok (.slice (some ⟨g, 0, none⟩) bs.length cap) w' ∧ BR w' g bs ∧ Below w.heap.size w w' ∧ bs.length ≤ cap ∧ cap ≤ maxLen ∧ w.heap.size ≤ g := by
  have hr := run_bytes_of_string (P := Try.prog) w 9 51 5 (str bs) Try.underlying9 Try.underlying51 Try.underlying5
  have hge := grownCap_ge w (str bs).size 0 5
  have hle := grownCap_le_maxLen w (str bs).size 0 5 (by unfold maxLen; rw [str_size]; omega)
  rw [str_size] at hr hge hle
  refine ⟨_, _, _, hr, ⟨_, _, heap_mark_new w.drew _ _ _, ?_, ?_, fun i hi => ?_⟩, ((Below.refl _ _).drew).alloc (by simp) _, hge, hle, Nat.le_refl _⟩
  · simp only [bytesRow, Array.size_append, Array.size_map, Array.size_replicate]
    have : (str bs).data.size = bs.length := str_size bs
    omega
  · simp only [bytesRow, Array.size_append, Array.size_map, Array.size_replicate]
    have : (str bs).data.size = bs.length := str_size bs
    omega
  · have hs : i < (str bs).data.size := by have : (str bs).data.size = bs.length := str_size bs; omega
    rw [bytesRow, Array.getElem?_append_left (by simpa using hs), Array.getElem?_map, Array.getElem?_eq_getElem hs]
    simp only [Option.map_some]
    rw [str_at h1 hi hs]
set_option maxRecDepth 100000 in
set_option maxHeartbeats 8000000 in
theorem rtorn_few (loose : List Nat) (kp tn : Nat) (w : World) (h1 : ∀ c ∈ loose, c < 256) (h2 : loose.length ≤ 1048576) (hkp : kp < 65536) (htn : tn < 4294967296) (hf : tearN loose kp < 3) : Calls Try.prog 113 #[.string (str loose), .agg #[.int .u16 (kp : Int), .int .u32 (tn : Int)]] w fun e w' => e = .returned (.string (str (tearB loose kp tn))) ∧ Below w.heap.size w w' := by
  obtain ⟨L, hL⟩ : ∃ L, loose.length = L := ⟨_, rfl⟩
  obtain ⟨n, hn⟩ : ∃ n, tearN loose kp = n := ⟨_, rfl⟩
  have hnL : n ≤ L := by rw [← hn, ← hL]; unfold tearN; have := Nat.mod_lt kp (show 0 < loose.length + 1 by omega); omega
  have hrm : Int.tmod (kp : Int) ((L : Int) + 1) = (n : Int) := by
    rw [← hn, ← hL]
    unfold tearN
    rw [show ((loose.length : Int) + 1) = ((loose.length + 1 : Nat) : Int) from by omega, ← Int.ofNat_tmod]
  have hLb : L ≤ 1048576 := by omega
  have hqs : (str loose).size = L := by rw [str_size, hL]
  have hw1 : IntKind.i64.wrap (kp : Int) = (kp : Int) := IntWalk.i64_in _ ⟨by omega, by omega⟩
  have hw2 : IntKind.i64.wrap ((L : Int) + 1) = (L : Int) + 1 := IntWalk.i64_in _ ⟨by omega, by omega⟩
  have hw3 : IntKind.i64.wrap (n : Int) = (n : Int) := IntWalk.i64_in _ ⟨by omega, by omega⟩
  have hz : decide ((L : Int) + 1 = 0) = false := decide_eq_false (by omega)
  have hz2 : ((L : Int) + 1 == 0) = false := by simp; omega
  have hz3 : ¬ ((L : Int) + 1 = 0) := by omega
  have hhd := run_head loose n (by omega)
  have HX : Hid ((∀ c ∈ loose.take n, c < 256) ∧ (loose.take n).length = n) := Lib.hid ⟨fun c hc => h1 c (List.mem_of_mem_take hc), by rw [List.length_take]; omega⟩
  have HTN : Hid (tn < 4294967296) := Lib.hid htn
  have HN := Lib.hid hn
  have HNB : Hid (n ≤ 1048576) := Lib.hid (by omega)
  obtain ⟨B1, s1, hz1⟩ := box1 w #[.int .u16 (kp : Int), .int .u32 (tn : Int)] 178
  have HB1 := Lib.hid B1
  have HS1 := Lib.hid s1
  obtain ⟨bs, hbs⟩ : ∃ bs, loose.take n = bs := ⟨_, rfl⟩
  rw [hbs] at hhd HX
  have HBS := Lib.hid hbs
  obtain ⟨g, cap, w2, hcv, hbr, hb2, hc1, hc2, hg⟩ := bytes_new (w.alloc (.cells #[.int .u16 (kp : Int), .int .u32 (tn : Int)] 178)) bs HX.out.1 (by rw [HX.out.2]; have := HNB.out; omega)
  rw [HX.out.2] at hcv hc1
  have HBR := Lib.hid hbr
  have HB2 := Lib.hid (B1.trans (hb2.mono B1.size))
  have HS2 := Lib.hid (ex_below s1 hb2)
  have HC := Lib.hid (And.intro hc1 hc2)
  rw [hz1] at hg
  have HG : Hid (w.heap.size < g) := Lib.hid (by omega)
  obtain ⟨z0, z1, -⟩ := two_at s1
  have hf3 : n < 3 := by rw [← hn]; exact hf
  clear hf
  clear h1 h2 hkp htn hL hn hnL hLb B1 s1 hbs hbr hb2 hc1 hc2 hg hz1
  go_enter Try.func113, Try.ntmps113
  have d1 : decide ((n : Int) ≥ 3) = false := decide_eq_false (by omega)
  have d2 : decide (3 ≤ (n : Int)) = false := decide_eq_false (by omega)
  have d3 : decide (3 ≤ n) = false := decide_eq_false (by omega)
  have hrb := HBR.out.rb HX.out.1 (by rw [HX.out.2]; have := HNB.out; omega) (cap := cap) (by rw [HX.out.2]; exact HC.out.1) HC.out.2
  rw [HX.out.2] at hrb
  have hst := rb_string (P := Try.prog) hrb 51 9 5 Try.underlying51 Try.underlying5 Try.underlying9
  have HTB : Hid (tearB loose kp tn = bs) := Lib.hid (by unfold tearB; rw [if_pos (by rw [HN.out]; omega), HN.out, HBS.out])
  clear hrb
  go_wp2_with fail
  go_ret
  exact ⟨by rw [HTB.out]; rfl, HB2.out⟩
set_option maxRecDepth 100000 in
set_option maxHeartbeats 8000000 in
theorem rtorn_many (loose : List Nat) (kp tn : Nat) (w : World) (h1 : ∀ c ∈ loose, c < 256) (h2 : loose.length ≤ 1048576) (hkp : kp < 65536) (htn : tn < 4294967296) (hf : ¬ tearN loose kp < 3) : Calls Try.prog 113 #[.string (str loose), .agg #[.int .u16 (kp : Int), .int .u32 (tn : Int)]] w fun e w' => e = .returned (.string (str (tearB loose kp tn))) ∧ Below w.heap.size w w' := by
  obtain ⟨L, hL⟩ : ∃ L, loose.length = L := ⟨_, rfl⟩
  obtain ⟨n, hn⟩ : ∃ n, tearN loose kp = n := ⟨_, rfl⟩
  have hnL : n ≤ L := by rw [← hn, ← hL]; unfold tearN; have := Nat.mod_lt kp (show 0 < loose.length + 1 by omega); omega
  have hrm : Int.tmod (kp : Int) ((L : Int) + 1) = (n : Int) := by
    rw [← hn, ← hL]
    unfold tearN
    rw [show ((loose.length : Int) + 1) = ((loose.length + 1 : Nat) : Int) from by omega, ← Int.ofNat_tmod]
  have hLb : L ≤ 1048576 := by omega
  have hqs : (str loose).size = L := by rw [str_size, hL]
  have hw1 : IntKind.i64.wrap (kp : Int) = (kp : Int) := IntWalk.i64_in _ ⟨by omega, by omega⟩
  have hw2 : IntKind.i64.wrap ((L : Int) + 1) = (L : Int) + 1 := IntWalk.i64_in _ ⟨by omega, by omega⟩
  have hw3 : IntKind.i64.wrap (n : Int) = (n : Int) := IntWalk.i64_in _ ⟨by omega, by omega⟩
  have hz : decide ((L : Int) + 1 = 0) = false := decide_eq_false (by omega)
  have hz2 : ((L : Int) + 1 == 0) = false := by simp; omega
  have hz3 : ¬ ((L : Int) + 1 = 0) := by omega
  have hhd := run_head loose n (by omega)
  have HX : Hid ((∀ c ∈ loose.take n, c < 256) ∧ (loose.take n).length = n) := Lib.hid ⟨fun c hc => h1 c (List.mem_of_mem_take hc), by rw [List.length_take]; omega⟩
  have HTN : Hid (tn < 4294967296) := Lib.hid htn
  have HN := Lib.hid hn
  have HNB : Hid (n ≤ 1048576) := Lib.hid (by omega)
  obtain ⟨B1, s1, hz1⟩ := box1 w #[.int .u16 (kp : Int), .int .u32 (tn : Int)] 178
  have HB1 := Lib.hid B1
  have HS1 := Lib.hid s1
  obtain ⟨bs, hbs⟩ : ∃ bs, loose.take n = bs := ⟨_, rfl⟩
  rw [hbs] at hhd HX
  have HBS := Lib.hid hbs
  obtain ⟨g, cap, w2, hcv, hbr, hb2, hc1, hc2, hg⟩ := bytes_new (w.alloc (.cells #[.int .u16 (kp : Int), .int .u32 (tn : Int)] 178)) bs HX.out.1 (by rw [HX.out.2]; have := HNB.out; omega)
  rw [HX.out.2] at hcv hc1
  have HBR := Lib.hid hbr
  have HB2 := Lib.hid (B1.trans (hb2.mono B1.size))
  have HS2 := Lib.hid (ex_below s1 hb2)
  have HC := Lib.hid (And.intro hc1 hc2)
  rw [hz1] at hg
  have HG : Hid (w.heap.size < g) := Lib.hid (by omega)
  obtain ⟨z0, z1, -⟩ := two_at s1
  have hf3 : 3 ≤ n := by rw [← hn]; omega
  clear hf
  clear h1 h2 hkp htn hL hn hnL hLb B1 s1 hbs hbr hb2 hc1 hc2 hg hz1
  go_enter Try.func113, Try.ntmps113
  have d1 : decide ((n : Int) ≥ 3) = true := decide_eq_true (by omega)
  have d2 : decide (3 ≤ (n : Int)) = true := decide_eq_true (by omega)
  have d3 : decide (3 ≤ n) = true := decide_eq_true (by omega)
  go_upto_region 4 with fail
  have HT0 := HS2
  have HBR0 := HBR
  clear HBR HS2 hcv hhd hqs hw1 hw2 hw3 hz hz2 hz3 hrm d1 d2 d3 z0 z1
  obtain ⟨b0, hb0⟩ : ∃ b0, bs = b0 := ⟨_, rfl⟩
  have HB0E := Lib.hid hb0
  have HLB0 : Hid (b0.length = n) := Lib.hid (by rw [← hb0]; exact HX.out.2)
  have HLT0 : Hid (∀ j, j < n → b0.getD j 0 < 256) := Lib.hid (fun j hj => by
    rw [← hb0, List.getD_eq_getElem?_getD, List.getElem?_eq_getElem (by rw [HX.out.2]; exact hj)]
    exact HX.out.1 _ (List.getElem_mem _))
  rw [hb0] at HBR0
  clear hb0
  obtain ⟨k0, hk0⟩ : ∃ k0 : Nat, (n : Int) - 3 = (k0 : Int) := ⟨n - 3, by omega⟩
  obtain ⟨k1, hk1⟩ : ∃ k1 : Nat, (n : Int) - 2 = (k1 : Int) := ⟨n - 2, by omega⟩
  obtain ⟨k2, hk2⟩ : ∃ k2 : Nat, (n : Int) - 1 = (k2 : Int) := ⟨n - 1, by omega⟩
  have HK0 : Hid (k0 < n) := Lib.hid (by omega)
  have HK1 : Hid (k1 < n) := Lib.hid (by omega)
  have HK2 : Hid (k2 < n) := Lib.hid (by omega)
  have HD0 := Lib.hid hk0
  have HD1 := Lib.hid hk1
  have HD2 := Lib.hid hk2
  clear hk0 hk1 hk2 hf3
  obtain ⟨hc, hfr⟩ := HBR0.out.cell (k := k0) (by rw [HLB0.out]; exact HK0.out)
  have hbm : b0.getD k0 0 < 256 := HLT0.out k0 HK0.out
  obtain ⟨b, hb⟩ : ∃ b, b0.getD k0 0 = b := ⟨_, rfl⟩
  obtain ⟨d, hd⟩ : ∃ d, tn / 65536 % 256 = d := ⟨_, rfl⟩
  rw [hb] at hc hbm
  have hdl : d < 256 := by omega
  have hwd : IntKind.u8.wrap ((tn : Int) / 65536) = (d : Int) := by
    rw [← hd]
    simp [IntKind.wrap, IntKind.signed, IntKind.bits]
  have hxr := u8_xor_nat b d hbm hdl
  obtain ⟨z, hz⟩ : ∃ z, b ^^^ d = z := ⟨_, rfl⟩
  rw [hz] at hxr
  have hO := HBR0.out.put (k := k0) (by rw [HLB0.out]; exact HK0.out) z
  obtain ⟨b1, hb1⟩ : ∃ x, b0.set k0 z = x := ⟨_, rfl⟩
  rw [hb1] at hO
  have HBE1 : Hid (b1 = b0.set k0 (b0.getD k0 0 ^^^ (tn / 65536 % 256))) := Lib.hid (by rw [← hb1, hb, hd, hz])
  have HLB1 : Hid (b1.length = n) := Lib.hid (by rw [← hb1, List.length_set]; exact HLB0.out)
  have HLT1 : Hid (∀ j, j < n → b1.getD j 0 < 256) := Lib.hid (fun j hj => by
    rw [← hb1, List.getD_eq_getElem?_getD, List.getElem?_set]
    split
    · split
      · show z < 256
        rw [← hz]
        exact xor_lt256 hbm hdl
      · decide
    · rw [← List.getD_eq_getElem?_getD]
      exact HLT0.out j hj)
  obtain ⟨z0, z1, -⟩ := two_at HT0.out
  have HBR1 := Lib.hid hO
  clear hO hb1 hb hd hz hbm hdl
  have hlt0 : (k0 : Int) < (n : Int) := by have := HK0.out; omega
  have hltn0 : k0 < n := HK0.out
  have hge0 : (0 : Int) ≤ (k0 : Int) := by omega
  have hwk0 : IntKind.i64.wrap (k0 : Int) = (k0 : Int) := IntWalk.i64_in _ ⟨by omega, by have := HNB.out; omega⟩
  have hdd0 := HD0.out
  go_region
  have HT1 : Hid ((w2.setCell ⟨g, k0, none⟩ (.int .u8 (z : Int))).drew.heap[w.heap.size]? = some (.cells #[.int .u16 (kp : Int), .int .u32 (tn : Int)] 178 (0, 0))) := Lib.hid ((Below.heap_setCell _ _ _ _ (show w.heap.size ≠ g by have := HG.out; omega)).trans HT0.out)
  have HB3 := Lib.hid ((HB2.out.setCell (p := ⟨g, k0, none⟩) (by have := HG.out; show w.heap.size ≤ g; omega) (.int .u8 (z : Int))).drew)
  have HBR1' := Lib.hid HBR1.out.drew
  clear HBR1
  have HBR1 := HBR1'
  clear HBR1' HT0 HBR0 HB2 hc hfr hwd hxr z0 z1 hlt0 hltn0 hge0 hwk0 hdd0
  generalize (w2.setCell ⟨g, k0, none⟩ (.int .u8 (z : Int))).drew = w3 at HT1 HB3 HBR1 ⊢
  go_wp2_with fail
  obtain ⟨hc, hfr⟩ := HBR1.out.cell (k := k1) (by rw [HLB1.out]; exact HK1.out)
  have hbm : b1.getD k1 0 < 256 := HLT1.out k1 HK1.out
  obtain ⟨b, hb⟩ : ∃ b, b1.getD k1 0 = b := ⟨_, rfl⟩
  obtain ⟨d, hd⟩ : ∃ d, tn / 256 % 256 = d := ⟨_, rfl⟩
  rw [hb] at hc hbm
  have hdl : d < 256 := by omega
  have hwd : IntKind.u8.wrap ((tn : Int) / 256) = (d : Int) := by
    rw [← hd]
    simp [IntKind.wrap, IntKind.signed, IntKind.bits]
  have hxr := u8_xor_nat b d hbm hdl
  obtain ⟨z, hz⟩ : ∃ z, b ^^^ d = z := ⟨_, rfl⟩
  rw [hz] at hxr
  have hO := HBR1.out.put (k := k1) (by rw [HLB1.out]; exact HK1.out) z
  obtain ⟨b2, hb2⟩ : ∃ x, b1.set k1 z = x := ⟨_, rfl⟩
  rw [hb2] at hO
  have HBE2 : Hid (b2 = b1.set k1 (b1.getD k1 0 ^^^ (tn / 256 % 256))) := Lib.hid (by rw [← hb2, hb, hd, hz])
  have HLB2 : Hid (b2.length = n) := Lib.hid (by rw [← hb2, List.length_set]; exact HLB1.out)
  have HLT2 : Hid (∀ j, j < n → b2.getD j 0 < 256) := Lib.hid (fun j hj => by
    rw [← hb2, List.getD_eq_getElem?_getD, List.getElem?_set]
    split
    · split
      · show z < 256
        rw [← hz]
        exact xor_lt256 hbm hdl
      · decide
    · rw [← List.getD_eq_getElem?_getD]
      exact HLT1.out j hj)
  obtain ⟨z0, z1, -⟩ := two_at HT1.out
  have HBR2 := Lib.hid hO
  clear hO hb2 hb hd hz hbm hdl
  have hlt1 : (k1 : Int) < (n : Int) := by have := HK1.out; omega
  have hltn1 : k1 < n := HK1.out
  have hge1 : (0 : Int) ≤ (k1 : Int) := by omega
  have hwk1 : IntKind.i64.wrap (k1 : Int) = (k1 : Int) := IntWalk.i64_in _ ⟨by omega, by have := HNB.out; omega⟩
  have hdd1 := HD1.out
  go_region
  have HT2 : Hid ((w3.setCell ⟨g, k1, none⟩ (.int .u8 (z : Int))).drew.heap[w.heap.size]? = some (.cells #[.int .u16 (kp : Int), .int .u32 (tn : Int)] 178 (0, 0))) := Lib.hid ((Below.heap_setCell _ _ _ _ (show w.heap.size ≠ g by have := HG.out; omega)).trans HT1.out)
  have HB4 := Lib.hid ((HB3.out.setCell (p := ⟨g, k1, none⟩) (by have := HG.out; show w.heap.size ≤ g; omega) (.int .u8 (z : Int))).drew)
  have HBR2' := Lib.hid HBR2.out.drew
  clear HBR2
  have HBR2 := HBR2'
  clear HBR2' HT1 HBR1 HB3 hc hfr hwd hxr z0 z1 hlt1 hltn1 hge1 hwk1 hdd1
  generalize (w3.setCell ⟨g, k1, none⟩ (.int .u8 (z : Int))).drew = w4 at HT2 HB4 HBR2 ⊢
  go_wp2_with fail
  obtain ⟨hc, hfr⟩ := HBR2.out.cell (k := k2) (by rw [HLB2.out]; exact HK2.out)
  have hbm : b2.getD k2 0 < 256 := HLT2.out k2 HK2.out
  obtain ⟨b, hb⟩ : ∃ b, b2.getD k2 0 = b := ⟨_, rfl⟩
  obtain ⟨d, hd⟩ : ∃ d, tn % 256 = d := ⟨_, rfl⟩
  rw [hb] at hc hbm
  have hdl : d < 256 := by omega
  have hwd : IntKind.u8.wrap (tn : Int) = (d : Int) := by
    rw [← hd]
    simp [IntKind.wrap, IntKind.signed, IntKind.bits]
  have hxr := u8_xor_nat b d hbm hdl
  obtain ⟨z, hz⟩ : ∃ z, b ^^^ d = z := ⟨_, rfl⟩
  rw [hz] at hxr
  have hO := HBR2.out.put (k := k2) (by rw [HLB2.out]; exact HK2.out) z
  obtain ⟨b3, hb3⟩ : ∃ x, b2.set k2 z = x := ⟨_, rfl⟩
  rw [hb3] at hO
  have HBE3 : Hid (b3 = b2.set k2 (b2.getD k2 0 ^^^ (tn % 256))) := Lib.hid (by rw [← hb3, hb, hd, hz])
  have HLB3 : Hid (b3.length = n) := Lib.hid (by rw [← hb3, List.length_set]; exact HLB2.out)
  have HLT3 : Hid (∀ j, j < n → b3.getD j 0 < 256) := Lib.hid (fun j hj => by
    rw [← hb3, List.getD_eq_getElem?_getD, List.getElem?_set]
    split
    · split
      · show z < 256
        rw [← hz]
        exact xor_lt256 hbm hdl
      · decide
    · rw [← List.getD_eq_getElem?_getD]
      exact HLT2.out j hj)
  obtain ⟨z0, z1, -⟩ := two_at HT2.out
  have HBR3 := Lib.hid hO
  clear hO hb3 hb hd hz hbm hdl
  have hlt2 : (k2 : Int) < (n : Int) := by have := HK2.out; omega
  have hltn2 : k2 < n := HK2.out
  have hge2 : (0 : Int) ≤ (k2 : Int) := by omega
  have hwk2 : IntKind.i64.wrap (k2 : Int) = (k2 : Int) := IntWalk.i64_in _ ⟨by omega, by have := HNB.out; omega⟩
  have hdd2 := HD2.out
  go_region
  have HT3 : Hid ((w4.setCell ⟨g, k2, none⟩ (.int .u8 (z : Int))).drew.heap[w.heap.size]? = some (.cells #[.int .u16 (kp : Int), .int .u32 (tn : Int)] 178 (0, 0))) := Lib.hid ((Below.heap_setCell _ _ _ _ (show w.heap.size ≠ g by have := HG.out; omega)).trans HT2.out)
  have HB5 := Lib.hid ((HB4.out.setCell (p := ⟨g, k2, none⟩) (by have := HG.out; show w.heap.size ≤ g; omega) (.int .u8 (z : Int))).drew)
  have HBR3' := Lib.hid HBR3.out.drew
  clear HBR3
  have HBR3 := HBR3'
  clear HBR3' HT2 HBR2 HB4 hc hfr hwd hxr z0 z1 hlt2 hltn2 hge2 hwk2 hdd2
  generalize (w4.setCell ⟨g, k2, none⟩ (.int .u8 (z : Int))).drew = w5 at HT3 HB5 HBR3 ⊢
  have hbb : ∀ c ∈ b3, c < 256 := fun c hc => by
    obtain ⟨j, hj, e⟩ := List.getElem_of_mem hc
    have := HLT3.out j (by rw [← HLB3.out]; exact hj)
    rw [List.getD_eq_getElem?_getD, List.getElem?_eq_getElem hj] at this
    rw [← e]
    exact this
  have hrb := HBR3.out.rb hbb (by rw [HLB3.out]; have := HNB.out; omega) (cap := cap) (by rw [HLB3.out]; exact HC.out.1) HC.out.2
  rw [HLB3.out] at hrb
  have hst := rb_string (P := Try.prog) hrb 51 9 5 Try.underlying51 Try.underlying5 Try.underlying9
  clear hrb hbb
  have HTB : Hid (tearB loose kp tn = b3) := Lib.hid (by
    have hk0 := HD0.out
    have hk1 := HD1.out
    have hk2 := HD2.out
    have hl := HLB0.out
    have hkk0 := HK0.out
    unfold tearB
    rw [if_neg (by rw [HN.out]; omega), HN.out, HBS.out, HB0E.out]
    unfold turn3
    rw [hl, HBE3.out, HBE2.out, HBE1.out]
    have e0 : n - 3 = k0 := by omega
    have e1 : n - 2 = k1 := by omega
    have e2 : n - 1 = k2 := by omega
    rw [e0, e1, e2]
    have g1 : ∀ x, (b0.set k0 x).getD k1 0 = b0.getD k1 0 := fun x => by rw [List.getD_eq_getElem?_getD, List.getElem?_set_ne (by omega), List.getD_eq_getElem?_getD]
    have g2 : ∀ x y, ((b0.set k0 x).set k1 y).getD k2 0 = b0.getD k2 0 := fun x y => by rw [List.getD_eq_getElem?_getD, List.getElem?_set_ne (by omega), List.getElem?_set_ne (by omega), List.getD_eq_getElem?_getD]
    rw [g1, g2])
  go_wp2_with fail
  go_ret
  exact ⟨by rw [HTB.out]; rfl, HB5.out⟩
theorem rtorn (loose : List Nat) (kp tn : Nat) (w : World) (h1 : ∀ c ∈ loose, c < 256) (h2 : loose.length ≤ 1048576) (hkp : kp < 65536) (htn : tn < 4294967296) : Calls Try.prog 113 #[.string (str loose), .agg #[.int .u16 (kp : Int), .int .u32 (tn : Int)]] w fun e w' => e = .returned (.string (str (tearB loose kp tn))) ∧ Below w.heap.size w w' := by
  by_cases hf : tearN loose kp < 3
  · exact rtorn_few loose kp tn w h1 h2 hkp htn hf
  · exact rtorn_many loose kp tn w h1 h2 hkp htn hf
end Go.Proofs.Ythkjjpkipeeimaa
