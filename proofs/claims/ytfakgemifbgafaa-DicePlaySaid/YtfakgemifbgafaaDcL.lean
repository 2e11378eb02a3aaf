/- The reference's dice: Split. -/
import Derived.Test.YtfakgemifbgafaaDcK
namespace Go.Proofs.Ytfakgemifbgafaa
open Go.RowKit

/-- The reference's dice out of Split. -/
def Rfresh (w : World) (bs : List Nat) (e : Ending) (w' : World) : Prop := ∃ r v, e = .returned (.pointer (some ⟨r, 0, none⟩)) ∧ w.heap.size ≤ r ∧ r < w'.heap.size ∧ w'.cell? ⟨r, 0, none⟩ = some v ∧ RB w' v bs ∧
  (∀ k, v.ownBlock = some k → w.heap.size ≤ k ∧ k < r) ∧ ∀ j, w'.frozen? ⟨r, j, none⟩ = false
def Rparted (X : Nat → Prop) (r : Nat) (bs cs : List Nat) (w : World) (e : Ending) (w' : World) : Prop := Rfresh w bs e w' ∧ Rdc X r cs w' ∧ Only (· = r) w w'
theorem alloc_bb (w : World) (o : Obj) : Below w.heap.size w (w.alloc o) := (Below.refl _ _).alloc (Nat.le_refl _) _
theorem ob_slice' {w : World} {base : Nat} {v : Value} {bs : List Nat} (h : OB w base v bs) : ∃ a c, v = .slice a bs.length c := by
  rcases h.2 with ⟨hv, hn⟩ | ⟨g, cap, cur, hv, r⟩
  · exact ⟨none, 0, by rw [hn]; exact hv⟩
  · exact ⟨_, cap, hv⟩
/-- The end of Split, over what the append has made. -/
theorem parted {X : Nat → Prop} {r : Nat} {bs cs ds : List Nat} {w w1 : World} {v1 v2 : Value} (D : Rdc X r ds w) (hO : OB w1 w.heap.size v1 bs) (h256 : ∀ c ∈ bs, c < 256) (hl : bs.length ≤ 140737488351232) (hB : Below w.heap.size w w1)
    (a1 : Option Addr) (c1 : Nat) (e1 : v1 = .slice a1 bs.length c1)
    (h2 : RB w v2 cs) (o2 : Out X v2) (l2 : Lies w v2) :
    Rparted X r bs cs w (.returned (.pointer (some ⟨w1.heap.size, 0, none⟩))) ((w1.alloc (.cells #[v1] 74)).setCell ⟨r, 0, none⟩ v2) := by
  have B2 : Below w.heap.size w (w1.alloc (.cells #[v1] 74)) := hB.alloc hB.size _
  have D2 := D.kept B2
  have o : Only (· = r) (w1.alloc (.cells #[v1] 74)) ((w1.alloc (.cells #[v1] 74)).setCell ⟨r, 0, none⟩ v2) := (Only.refl (fun k => k = r) _).setCell ⟨r, 0, none⟩ _ rfl
  have hr := D.lt
  have hrne : ¬ w1.heap.size = r := by have := hB.size; omega
  have R1 : RB (w1.alloc (.cells #[v1] 74)) v1 bs := (hO.rb h256 hl).kept (alloc_bb w1 _)
  have own1 : ∀ k, v1.ownBlock = some k → w.heap.size ≤ k ∧ k < w1.heap.size := fun k hk => World.ownsRow.lt hO k hk
  refine ⟨⟨w1.heap.size, v1, rfl, hB.size, by simp, ?_, ?_, own1, fun j => ?_⟩, D2.set (h2.kept B2) o2 (fun k hk => Nat.lt_of_lt_of_le (l2 k hk) B2.size), (Only.below B2).trans o⟩
  · exact (World.cell?_setCell_other _ ⟨r, 0, none⟩ ⟨w1.heap.size, 0, none⟩ _ (fun e => by injection e with e1 e2; omega)).trans (by simp)
  · exact rb_only (X := (· = r)) R1 (fun k hk e => by have := own1 k hk; omega) (fun k hk => hk) o
  · simp

set_option maxRecDepth 100000 in
set_option maxHeartbeats 4000000 in
theorem rsplit_neg {X : Nat → Prop} (r m : Nat) (n : Int) (ds : List Nat) (w : World) (D : Rdc X r ds w) (hm : m ≤ ds.length) (hn : n < 0 ∧ m = 0) :
    Calls Try.prog 42 #[.pointer (some ⟨r, 0, none⟩), .int .i64 n] w (Rparted X r (ds.take m) (ds.drop m) w) := by
  obtain ⟨v, h1, h2, h3, h4⟩ := D.rest
  obtain ⟨L, hL⟩ : ∃ L, ds.length = L := ⟨_, rfl⟩
  have hb := h2.2.1
  have h256 := h2.1
  have hz := D.free 0
  have htk : (ds.take m).length = m := by rw [List.length_take]; omega
  have hrl := D.lt
  rcases h2.2.2 with ⟨hv, hd0⟩ | ⟨x, cap, hv, hcl, hcm, hcell⟩
  · subst hv
    subst hd0
    obtain rfl : m = 0 := by simpa using hm
    rw [List.take_nil, List.drop_nil]
    have HF : Hid (∀ (w1 : World) (v1 : Value), OB w1 w.heap.size v1 [] → Below w.heap.size w w1 → Rparted X r [] [] w (.returned (.pointer (some ⟨w1.heap.size, 0, none⟩))) ((w1.alloc (.cells #[v1] 74)).setCell ⟨r, 0, none⟩ (.slice none 0 0))) := Lib.hid fun w1 v1 hO hB => by
      obtain ⟨a1, c1, e1⟩ := ob_slice' hO
      exact parted D hO (by simp) (by simp) hB a1 c1 e1 (RB.nil w) (out_nil X) (fun k hk => by simp [Value.ownBlock] at hk)
    have HC : Hid (∀ w1 : World, Below w.heap.size w w1 → w1.cell? ⟨r, 0, none⟩ = some (.slice none 0 0) ∧ w1.frozen? ⟨r, 0, none⟩ = false) := Lib.hid fun w1 hB => ⟨(hB.cell (p := ⟨r, 0, none⟩) hrl).trans h1, (hB.frozen (p := ⟨r, 0, none⟩) hrl).trans hz⟩
    clear h2 h3 h4 D hL hb h256 htk
    have d1 : decide (n < 0) = true := by simp [hn.1]
    go_enter Try.func42, Try.ntmps42
    go_wp2_with (at_builtin; refine append_rb rfl _ _ rfl w.heap.size _ _ [] [] rfl rfl (ob_empty _ _ rfl) (RB.nil _) (by simp) (by simp) ?_; intro v1 w1 ho1 hg1; have hb1 := (ob_empty w _ rfl).below hg1 ((Below.refl w.heap.size w).alloc (Nat.le_refl _) _) (by simp); clear hg1; rw [List.nil_append] at ho1; obtain ⟨a1, c1, e1⟩ := ob_slice' ho1; rw [List.length_nil] at e1; subst e1; obtain ⟨hc1, hz1⟩ := (HC.out _ (hb1.alloc hb1.size (.cells #[.slice a1 0 c1] 74))); have F := Lib.hid (HF.out _ _ ho1 hb1); clear ho1 hb1)
    go_ret
    exact F.out
  · rw [hL] at hv hcl hm hb
    have HF : Hid (∀ (w1 : World) (v1 : Value) (y : Addr) (k c : Nat), OB w1 w.heap.size v1 (ds.take m) → Below w.heap.size w w1 → (y = x.add m ∨ m = L) → (y = x ∨ ∃ q, y = x.add q) → k = L - m → k ≤ c → c ≤ maxLen → Rparted X r (ds.take m) (ds.drop m) w (.returned (.pointer (some ⟨w1.heap.size, 0, none⟩))) ((w1.alloc (.cells #[v1] 74)).setCell ⟨r, 0, none⟩ (.slice (some y) k c))) := Lib.hid fun w1 v1 y k c hO hB e1 e1' e2 e3 e4 => by
      obtain ⟨a1, c1, ee⟩ := ob_slice' hO
      subst hv
      exact parted D hO (fun c hc => h256 c (List.mem_of_mem_take hc)) (by rw [htk]; omega) hB a1 c1 ee (rb_drop h2 m (by omega) (by rw [hL]; exact e1) (by rw [hL]; exact e2) e3 e4) (out_addr h3 e1') (lies_addr h4 e1')
    have HT : Hid (∀ w1 : World, Below w.heap.size w w1 → RB w1 (.slice (some x) m cap) (ds.take m)) := Lib.hid fun w1 hB => by
      subst hv
      exact (rb_take h2 m (by omega)).kept hB
    have HTK := Lib.hid htk
    have HM := Lib.hid hcm
    subst hv
    have HC : Hid (∀ w1 : World, Below w.heap.size w w1 → w1.cell? ⟨r, 0, none⟩ = some (.slice (some x) L cap) ∧ w1.frozen? ⟨r, 0, none⟩ = false) := Lib.hid fun w1 hB => ⟨(hB.cell (p := ⟨r, 0, none⟩) hrl).trans h1, (hB.frozen (p := ⟨r, 0, none⟩) hrl).trans hz⟩
    have ha1 : (w.alloc (.cells #[] 5)).cell? ⟨r, 0, none⟩ = some (.slice (some x) L cap) := (HC.out _ (alloc_bb w _)).1
    clear h2 h3 h4 D hL h256 htk hcell hcm
    obtain ⟨hn0, rfl⟩ := hn
    have d1 : decide (n < 0) = true := by simp [hn0]
    have d2 : decide ((L : Int) < 0) = false := by simp

    by_cases hcn : cap = 0
    · obtain rfl : L = 0 := by omega
      subst hcn
      go_enter Try.func42, Try.ntmps42
      go_wp2_with (at_builtin; refine append_rb rfl _ _ rfl w.heap.size _ _ [] (ds.take 0) rfl rfl (ob_empty _ _ rfl) (HT.out _ (alloc_bb w (.cells #[] 5))) (by have := HTK.out; simp <;> omega) (by simp) ?_; intro v1 w1 ho1 hg1; have hb1 := (ob_empty w _ rfl).below hg1 ((Below.refl w.heap.size w).alloc (Nat.le_refl _) _) (by simp); clear hg1; rw [List.nil_append] at ho1; obtain ⟨a1, c1, e1⟩ := ob_slice' ho1; rw [HTK.out] at e1; subst e1; obtain ⟨hc1, hz1⟩ := (HC.out _ (hb1.alloc hb1.size (.cells #[.slice a1 0 c1] 74))); have F := Lib.hid (fun y k c => HF.out _ _ y k c ho1 hb1); clear ho1 hb1)
      go_ret
      exact F.out x 0 0 (.inr (by simp)) (.inl rfl) (by omega) (by omega) (by simp)
    · go_enter Try.func42, Try.ntmps42
      go_wp2_with (at_builtin; refine append_rb rfl _ _ rfl w.heap.size _ _ [] (ds.take 0) rfl rfl (ob_empty _ _ rfl) (HT.out _ (alloc_bb w (.cells #[] 5))) (by have := HTK.out; simp <;> omega) (by simp) ?_; intro v1 w1 ho1 hg1; have hb1 := (ob_empty w _ rfl).below hg1 ((Below.refl w.heap.size w).alloc (Nat.le_refl _) _) (by simp); clear hg1; rw [List.nil_append] at ho1; obtain ⟨a1, c1, e1⟩ := ob_slice' ho1; rw [HTK.out] at e1; subst e1; obtain ⟨hc1, hz1⟩ := (HC.out _ (hb1.alloc hb1.size (.cells #[.slice a1 0 c1] 74))); have F := Lib.hid (fun y k c => HF.out _ _ y k c ho1 hb1); clear ho1 hb1)
      go_ret
      exact F.out _ _ _ (.inl rfl) (.inr ⟨0, rfl⟩) (by first | rfl | omega) (by omega) (by have := HM.out; omega)

set_option maxRecDepth 100000 in
set_option maxHeartbeats 4000000 in
theorem rsplit_mid {X : Nat → Prop} (r m : Nat) (n : Int) (ds : List Nat) (w : World) (D : Rdc X r ds w) (hm : m ≤ ds.length) (hn : n = (m : Int)) :
    Calls Try.prog 42 #[.pointer (some ⟨r, 0, none⟩), .int .i64 n] w (Rparted X r (ds.take m) (ds.drop m) w) := by
  obtain ⟨v, h1, h2, h3, h4⟩ := D.rest
  obtain ⟨L, hL⟩ : ∃ L, ds.length = L := ⟨_, rfl⟩
  have hb := h2.2.1
  have h256 := h2.1
  have hz := D.free 0
  have htk : (ds.take m).length = m := by rw [List.length_take]; omega
  have hrl := D.lt
  rcases h2.2.2 with ⟨hv, hd0⟩ | ⟨x, cap, hv, hcl, hcm, hcell⟩
  · subst hv
    subst hd0
    obtain rfl : m = 0 := by simpa using hm
    rw [List.take_nil, List.drop_nil]
    have HF : Hid (∀ (w1 : World) (v1 : Value), OB w1 w.heap.size v1 [] → Below w.heap.size w w1 → Rparted X r [] [] w (.returned (.pointer (some ⟨w1.heap.size, 0, none⟩))) ((w1.alloc (.cells #[v1] 74)).setCell ⟨r, 0, none⟩ (.slice none 0 0))) := Lib.hid fun w1 v1 hO hB => by
      obtain ⟨a1, c1, e1⟩ := ob_slice' hO
      exact parted D hO (by simp) (by simp) hB a1 c1 e1 (RB.nil w) (out_nil X) (fun k hk => by simp [Value.ownBlock] at hk)
    have HC : Hid (∀ w1 : World, Below w.heap.size w w1 → w1.cell? ⟨r, 0, none⟩ = some (.slice none 0 0) ∧ w1.frozen? ⟨r, 0, none⟩ = false) := Lib.hid fun w1 hB => ⟨(hB.cell (p := ⟨r, 0, none⟩) hrl).trans h1, (hB.frozen (p := ⟨r, 0, none⟩) hrl).trans hz⟩
    clear h2 h3 h4 D hL hb h256 htk
    have hn' : n = 0 := by omega
    clear hn
    subst hn'
    go_enter Try.func42, Try.ntmps42
    go_wp2_with (at_builtin; refine append_rb rfl _ _ rfl w.heap.size _ _ [] [] rfl rfl (ob_empty _ _ rfl) (RB.nil _) (by simp) (by simp) ?_; intro v1 w1 ho1 hg1; have hb1 := (ob_empty w _ rfl).below hg1 ((Below.refl w.heap.size w).alloc (Nat.le_refl _) _) (by simp); clear hg1; rw [List.nil_append] at ho1; obtain ⟨a1, c1, e1⟩ := ob_slice' ho1; rw [List.length_nil] at e1; subst e1; obtain ⟨hc1, hz1⟩ := (HC.out _ (hb1.alloc hb1.size (.cells #[.slice a1 0 c1] 74))); have F := Lib.hid (HF.out _ _ ho1 hb1); clear ho1 hb1)
    go_ret
    exact F.out
  · rw [hL] at hv hcl hm hb
    have HF : Hid (∀ (w1 : World) (v1 : Value) (y : Addr) (k c : Nat), OB w1 w.heap.size v1 (ds.take m) → Below w.heap.size w w1 → (y = x.add m ∨ m = L) → (y = x ∨ ∃ q, y = x.add q) → k = L - m → k ≤ c → c ≤ maxLen → Rparted X r (ds.take m) (ds.drop m) w (.returned (.pointer (some ⟨w1.heap.size, 0, none⟩))) ((w1.alloc (.cells #[v1] 74)).setCell ⟨r, 0, none⟩ (.slice (some y) k c))) := Lib.hid fun w1 v1 y k c hO hB e1 e1' e2 e3 e4 => by
      obtain ⟨a1, c1, ee⟩ := ob_slice' hO
      subst hv
      exact parted D hO (fun c hc => h256 c (List.mem_of_mem_take hc)) (by rw [htk]; omega) hB a1 c1 ee (rb_drop h2 m (by omega) (by rw [hL]; exact e1) (by rw [hL]; exact e2) e3 e4) (out_addr h3 e1') (lies_addr h4 e1')
    have HT : Hid (∀ w1 : World, Below w.heap.size w w1 → RB w1 (.slice (some x) m cap) (ds.take m)) := Lib.hid fun w1 hB => by
      subst hv
      exact (rb_take h2 m (by omega)).kept hB
    have HTK := Lib.hid htk
    have HM := Lib.hid hcm
    subst hv
    have HC : Hid (∀ w1 : World, Below w.heap.size w w1 → w1.cell? ⟨r, 0, none⟩ = some (.slice (some x) L cap) ∧ w1.frozen? ⟨r, 0, none⟩ = false) := Lib.hid fun w1 hB => ⟨(hB.cell (p := ⟨r, 0, none⟩) hrl).trans h1, (hB.frozen (p := ⟨r, 0, none⟩) hrl).trans hz⟩
    have ha1 : (w.alloc (.cells #[] 5)).cell? ⟨r, 0, none⟩ = some (.slice (some x) L cap) := (HC.out _ (alloc_bb w _)).1
    clear h2 h3 h4 D hL h256 htk hcell hcm
    subst hn
    have d1 : decide ((m : Int) < 0) = false := by simp
    have d2 : decide ((L : Int) < (m : Int)) = false := by simp; omega
    have d3 : decide (L < m) = false := by simp; omega
    have m0 : (0 : Int) ≤ (m : Int) := by omega
    have m1 : (m : Int) ≤ (L : Int) := by omega

    by_cases hcn : cap = m
    · obtain rfl : L = m := by omega
      subst hcn
      go_enter Try.func42, Try.ntmps42
      go_wp2_with (at_builtin; refine append_rb rfl _ _ rfl w.heap.size _ _ [] (ds.take cap) rfl rfl (ob_empty _ _ rfl) (HT.out _ (alloc_bb w (.cells #[] 5))) (by have := HTK.out; simp <;> omega) (by simp) ?_; intro v1 w1 ho1 hg1; have hb1 := (ob_empty w _ rfl).below hg1 ((Below.refl w.heap.size w).alloc (Nat.le_refl _) _) (by simp); clear hg1; rw [List.nil_append] at ho1; obtain ⟨a1, c1, e1⟩ := ob_slice' ho1; rw [HTK.out] at e1; subst e1; obtain ⟨hc1, hz1⟩ := (HC.out _ (hb1.alloc hb1.size (.cells #[.slice a1 cap c1] 74))); have F := Lib.hid (fun y k c => HF.out _ _ y k c ho1 hb1); clear ho1 hb1)
      go_ret
      exact F.out x 0 0 (.inr (by simp)) (.inl rfl) (by omega) (by omega) (by simp)
    · go_enter Try.func42, Try.ntmps42
      go_wp2_with (at_builtin; refine append_rb rfl _ _ rfl w.heap.size _ _ [] (ds.take m) rfl rfl (ob_empty _ _ rfl) (HT.out _ (alloc_bb w (.cells #[] 5))) (by have := HTK.out; simp <;> omega) (by simp) ?_; intro v1 w1 ho1 hg1; have hb1 := (ob_empty w _ rfl).below hg1 ((Below.refl w.heap.size w).alloc (Nat.le_refl _) _) (by simp); clear hg1; rw [List.nil_append] at ho1; obtain ⟨a1, c1, e1⟩ := ob_slice' ho1; rw [HTK.out] at e1; subst e1; obtain ⟨hc1, hz1⟩ := (HC.out _ (hb1.alloc hb1.size (.cells #[.slice a1 m c1] 74))); have F := Lib.hid (fun y k c => HF.out _ _ y k c ho1 hb1); clear ho1 hb1)
      go_ret
      exact F.out _ _ _ (.inl rfl) (.inr ⟨m, rfl⟩) (by first | rfl | omega) (by omega) (by have := HM.out; omega)

set_option maxRecDepth 100000 in
set_option maxHeartbeats 4000000 in
theorem rsplit_over {X : Nat → Prop} (r m : Nat) (n : Int) (ds : List Nat) (w : World) (D : Rdc X r ds w) (hm : m ≤ ds.length) (hn : (ds.length : Int) < n ∧ m = ds.length) :
    Calls Try.prog 42 #[.pointer (some ⟨r, 0, none⟩), .int .i64 n] w (Rparted X r (ds.take m) (ds.drop m) w) := by
  obtain ⟨v, h1, h2, h3, h4⟩ := D.rest
  obtain ⟨L, hL⟩ : ∃ L, ds.length = L := ⟨_, rfl⟩
  have hnL : (L : Int) < n ∧ m = L := by omega
  have hb := h2.2.1
  have h256 := h2.1
  have hz := D.free 0
  have htk : (ds.take m).length = m := by rw [List.length_take]; omega
  have hrl := D.lt
  rcases h2.2.2 with ⟨hv, hd0⟩ | ⟨x, cap, hv, hcl, hcm, hcell⟩
  · subst hv
    subst hd0
    obtain rfl : m = 0 := by simpa using hm
    rw [List.take_nil, List.drop_nil]
    have HF : Hid (∀ (w1 : World) (v1 : Value), OB w1 w.heap.size v1 [] → Below w.heap.size w w1 → Rparted X r [] [] w (.returned (.pointer (some ⟨w1.heap.size, 0, none⟩))) ((w1.alloc (.cells #[v1] 74)).setCell ⟨r, 0, none⟩ (.slice none 0 0))) := Lib.hid fun w1 v1 hO hB => by
      obtain ⟨a1, c1, e1⟩ := ob_slice' hO
      exact parted D hO (by simp) (by simp) hB a1 c1 e1 (RB.nil w) (out_nil X) (fun k hk => by simp [Value.ownBlock] at hk)
    have HC : Hid (∀ w1 : World, Below w.heap.size w w1 → w1.cell? ⟨r, 0, none⟩ = some (.slice none 0 0) ∧ w1.frozen? ⟨r, 0, none⟩ = false) := Lib.hid fun w1 hB => ⟨(hB.cell (p := ⟨r, 0, none⟩) hrl).trans h1, (hB.frozen (p := ⟨r, 0, none⟩) hrl).trans hz⟩
    clear h2 h3 h4 D hL hb h256 htk
    have d1 : decide (n < 0) = false := by have := hn.1; simp at this ⊢; omega
    have d2 : decide (0 < n) = true := by have := hn.1; simp at this ⊢; omega
    clear hn hnL
    go_enter Try.func42, Try.ntmps42
    go_wp2_with (at_builtin; refine append_rb rfl _ _ rfl w.heap.size _ _ [] [] rfl rfl (ob_empty _ _ rfl) (RB.nil _) (by simp) (by simp) ?_; intro v1 w1 ho1 hg1; have hb1 := (ob_empty w _ rfl).below hg1 ((Below.refl w.heap.size w).alloc (Nat.le_refl _) _) (by simp); clear hg1; rw [List.nil_append] at ho1; obtain ⟨a1, c1, e1⟩ := ob_slice' ho1; rw [List.length_nil] at e1; subst e1; obtain ⟨hc1, hz1⟩ := (HC.out _ (hb1.alloc hb1.size (.cells #[.slice a1 0 c1] 74))); have F := Lib.hid (HF.out _ _ ho1 hb1); clear ho1 hb1)
    go_ret
    exact F.out
  · rw [hL] at hv hcl hm hb
    have HF : Hid (∀ (w1 : World) (v1 : Value) (y : Addr) (k c : Nat), OB w1 w.heap.size v1 (ds.take m) → Below w.heap.size w w1 → (y = x.add m ∨ m = L) → (y = x ∨ ∃ q, y = x.add q) → k = L - m → k ≤ c → c ≤ maxLen → Rparted X r (ds.take m) (ds.drop m) w (.returned (.pointer (some ⟨w1.heap.size, 0, none⟩))) ((w1.alloc (.cells #[v1] 74)).setCell ⟨r, 0, none⟩ (.slice (some y) k c))) := Lib.hid fun w1 v1 y k c hO hB e1 e1' e2 e3 e4 => by
      obtain ⟨a1, c1, ee⟩ := ob_slice' hO
      subst hv
      exact parted D hO (fun c hc => h256 c (List.mem_of_mem_take hc)) (by rw [htk]; omega) hB a1 c1 ee (rb_drop h2 m (by omega) (by rw [hL]; exact e1) (by rw [hL]; exact e2) e3 e4) (out_addr h3 e1') (lies_addr h4 e1')
    have HT : Hid (∀ w1 : World, Below w.heap.size w w1 → RB w1 (.slice (some x) m cap) (ds.take m)) := Lib.hid fun w1 hB => by
      subst hv
      exact (rb_take h2 m (by omega)).kept hB
    have HTK := Lib.hid htk
    have HM := Lib.hid hcm
    subst hv
    have HC : Hid (∀ w1 : World, Below w.heap.size w w1 → w1.cell? ⟨r, 0, none⟩ = some (.slice (some x) L cap) ∧ w1.frozen? ⟨r, 0, none⟩ = false) := Lib.hid fun w1 hB => ⟨(hB.cell (p := ⟨r, 0, none⟩) hrl).trans h1, (hB.frozen (p := ⟨r, 0, none⟩) hrl).trans hz⟩
    have ha1 : (w.alloc (.cells #[] 5)).cell? ⟨r, 0, none⟩ = some (.slice (some x) L cap) := (HC.out _ (alloc_bb w _)).1
    clear h2 h3 h4 D hL h256 htk hcell hcm
    clear hn
    obtain ⟨hnn, rfl⟩ := hnL
    have d1 : decide (n < 0) = false := by simp; omega
    have d2 : decide ((m : Int) < n) = true := by simp; omega
    have m0 : (0 : Int) ≤ (m : Int) := by omega

    by_cases hcn : cap = m
    · subst hcn
      go_enter Try.func42, Try.ntmps42
      go_wp2_with (at_builtin; refine append_rb rfl _ _ rfl w.heap.size _ _ [] (ds.take cap) rfl rfl (ob_empty _ _ rfl) (HT.out _ (alloc_bb w (.cells #[] 5))) (by have := HTK.out; simp <;> omega) (by simp) ?_; intro v1 w1 ho1 hg1; have hb1 := (ob_empty w _ rfl).below hg1 ((Below.refl w.heap.size w).alloc (Nat.le_refl _) _) (by simp); clear hg1; rw [List.nil_append] at ho1; obtain ⟨a1, c1, e1⟩ := ob_slice' ho1; rw [HTK.out] at e1; subst e1; obtain ⟨hc1, hz1⟩ := (HC.out _ (hb1.alloc hb1.size (.cells #[.slice a1 cap c1] 74))); have F := Lib.hid (fun y k c => HF.out _ _ y k c ho1 hb1); clear ho1 hb1)
      go_ret
      exact F.out x 0 0 (.inr (by simp)) (.inl rfl) (by omega) (by omega) (by simp)
    · go_enter Try.func42, Try.ntmps42
      go_wp2_with (at_builtin; refine append_rb rfl _ _ rfl w.heap.size _ _ [] (ds.take m) rfl rfl (ob_empty _ _ rfl) (HT.out _ (alloc_bb w (.cells #[] 5))) (by have := HTK.out; simp <;> omega) (by simp) ?_; intro v1 w1 ho1 hg1; have hb1 := (ob_empty w _ rfl).below hg1 ((Below.refl w.heap.size w).alloc (Nat.le_refl _) _) (by simp); clear hg1; rw [List.nil_append] at ho1; obtain ⟨a1, c1, e1⟩ := ob_slice' ho1; rw [HTK.out] at e1; subst e1; obtain ⟨hc1, hz1⟩ := (HC.out _ (hb1.alloc hb1.size (.cells #[.slice a1 m c1] 74))); have F := Lib.hid (fun y k c => HF.out _ _ y k c ho1 hb1); clear ho1 hb1)
      go_ret
      exact F.out _ _ _ (.inl rfl) (.inr ⟨m, rfl⟩) (by first | rfl | omega) (by omega) (by have := HM.out; omega)

theorem rsplit_any {X : Nat → Prop} (r : Nat) (n : Int) (ds : List Nat) (w : World) (D : Rdc X r ds w) :
    Calls Try.prog 42 #[.pointer (some ⟨r, 0, none⟩), .int .i64 n] w (Rparted X r (ds.take (clip n ds.length)) (ds.drop (clip n ds.length)) w) := by
  unfold clip
  by_cases h0 : n < 0
  · rw [if_pos (by omega)]
    exact rsplit_neg r 0 n ds w D (by omega) ⟨h0, rfl⟩
  · by_cases h00 : n = 0
    · rw [if_pos (by omega)]
      exact rsplit_mid r 0 n ds w D (by omega) (by omega)
    · rw [if_neg (by omega)]
      by_cases h1 : n ≤ (ds.length : Int)
      · rw [if_pos h1]
        exact rsplit_mid r n.toNat n ds w D (by omega) (by omega)
      · rw [if_neg h1]
        exact rsplit_over r ds.length n ds w D (by omega) ⟨by omega, rfl⟩
end Go.Proofs.Ytfakgemifbgafaa
