/- Walks of the law's own write: an item, both ways. -/
import Derived.Test.YtkeloeppploiaaaQuJ
namespace Go.Proofs.Ytkeloeppploiaaa
open Go.RowKit

/-- An item. -/
structure It where
  kind : Int
  num : Nat
  int : Int
  flag : Bool
  text : ByteArray
/-- Its value. -/
def It.v (x : It) : Value := .agg #[.int .i64 x.kind, .int .u64 ((x.num : Nat) : Int), .int .i64 x.int, .bool x.flag, .string x.text]
/-- Its numbers fit, and its text is short. -/
def It.ok (x : It) : Prop := x.num < 18446744073709551616 ∧ -9223372036854775808 ≤ x.int ∧ x.int ≤ 9223372036854775807 ∧ x.text.size ≤ 1000
/-- Its bytes. -/
def It.bytes (x : It) : List Nat :=
  if x.kind = 1 then intB x.int else if x.kind = 2 then flagB x.flag else if x.kind = 3 then Ytkeloeppploiaaa.num 0 x.text.size ++ sB x.text else if x.kind = 4 then sB x.text else Ytkeloeppploiaaa.num 0 x.num
theorem It.bytes_len (x : It) (h : x.ok) : x.bytes.length ≤ 1009 := by
  obtain ⟨h1, h2, h3, h4⟩ := h
  unfold It.bytes
  split
  · have := intB_len9 x.int h2 h3; omega
  split
  · have := flagB_len9 x.flag; omega
  split
  · have := num_len9 0 x.text.size (by omega); rw [List.length_append, sB_len]; omega
  split
  · rw [sB_len]; omega
  · have := num_len9 0 x.num h1; omega
theorem It.bytes_lt (x : It) (h : x.ok) : ∀ c ∈ x.bytes, c < 256 := by
  obtain ⟨h1, h2, h3, h4⟩ := h
  unfold It.bytes
  split
  · exact intB_lt x.int h2 h3
  split
  · exact flagB_lt x.flag
  split
  · intro c hc
    rw [List.mem_append] at hc
    exact hc.elim (num_lt' 0 x.text.size (by omega) (by omega) c) (sB_lt x.text c)
  split
  · exact sB_lt x.text
  · exact num_lt' 0 x.num (by omega) h1

theorem Turn.cell {b : Nat} {v : Value} {w w' : World} (h : Turn b v w w') {p : Addr} (hp : p.block < w.heap.size) (hb : p.block ≠ b) (hv : some p.block ≠ v.ownBlock) : w'.cell? p = w.cell? p :=
  World.cell?_of_block (h.block _ hp hb hv)
theorem WR.own_lt {w : World} {b base : Nat} {v : Value} {bs : List Nat} (h : WR w b base v bs) : ∀ k, v.ownBlock = some k → k < w.heap.size := fun k hk => (World.ownsRow.lt h.2.2.2.1 k hk).2

/-- What write hands back beside a writer. -/
def Put (b base : Nat) (v : Value) (w : World) (bs cs : List Nat) (e : Ending) (w' : World) : Prop := ∃ r, e = .returned r ∧ RB w' r cs ∧ Wrote b base v w (bs ++ cs) w'
/-- A box's cells, behind a call that wrote to a writer. -/
theorem box_after {w w1 : World} {b base : Nat} {v : Value} {bs : List Nat} {C : Array Value} {t : TypeId} (hw : WR w b base v bs) (ht : Turn b v (w.alloc (.cells C t)) w1) (j : Nat) : w1.cell? ⟨w.heap.size, j, none⟩ = C[j]? := by
  have h1 := hw.lt
  refine (ht.cell (p := ⟨w.heap.size, j, none⟩) (by simp) (by simp; omega) ?_).trans (by simp)
  intro e
  have := hw.own_lt _ e.symm
  simp at this
theorem Wrote.boxed {w w' : World} {b base : Nat} {v : Value} {bs : List Nat} {o : Obj} (h : Wrote b base v (w.alloc o) bs w') : Wrote b base v w bs w' := h.after ((Below.refl _ _).alloc (Nat.le_refl _) _)
theorem Wrote.kept {w w1 w' : World} {b base : Nat} {v : Value} {bs : List Nat} (h : Wrote b base v w bs w1) (hb : Below w1.heap.size w1 w') : Wrote b base v w bs w' := by
  obtain ⟨v', h1, h2, h3⟩ := h
  exact ⟨v', h1.kept hb, h2.trans h3 (Turn.below hb), h3⟩

/-- What write hands back beside no writer. -/
def PutNil (w : World) (cs : List Nat) (e : Ending) (w' : World) : Prop := ∃ r, e = .returned r ∧ RB w' r cs ∧ Below w.heap.size w w'
set_option maxHeartbeats 1000000 in
theorem write1_wr (b base : Nat) (v : Value) (x : It) (bs : List Nat) (w : World) (hw : WR w b base v bs) (hl : bs.length ≤ 8000000) (hx : x.ok) (hk : x.kind = 1) :
    Calls Try.prog 14 #[.pointer (some ⟨b, 0, none⟩), x.v] w (Put b base v w bs x.bytes) := by
  obtain ⟨h1, h2, h3, h4⟩ := hx
  have hB : x.bytes = intB x.int := by unfold It.bytes; rw [if_pos hk]
  rw [hB]
  unfold It.v
  rw [hk]
  have hkept := hw.kept ((Below.refl _ _).alloc (Nat.le_refl _) (.cells #[.int .i64 1, .int .u64 ((x.num : Nat) : Int), .int .i64 x.int, .bool x.flag, .string x.text] 32))
  have h := int_one b base v x.int bs (w.alloc (.cells #[.int .i64 1, .int .u64 ((x.num : Nat) : Int), .int .i64 x.int, .bool x.flag, .string x.text] 32)) hkept (by omega) h2 h3
  rw [World.size_alloc] at h
  have H := Lib.hid h
  have H1 := Lib.hid h1
  have H23 := Lib.hid (And.intro h2 h3)
  have H4 := Lib.hid h4
  have HW := Lib.hid hw
  clear hB h1 h2 h3 h4 h hk hw hkept hl
  go_enter Try.func14, Try.ntmps14
  go_wp2_with fail
  refine H.out.mono ?_
  rintro e w1 ⟨rfl, hwr⟩
  have hc : w1.cell? ⟨w.heap.size, 2, none⟩ = some (.int .i64 x.int) := box_after HW.out hwr.choose_spec.2.1 2
  go_wp2_with (go_at_call 20; refine (refint_any _ _ H23.out.1 H23.out.2).mono ?_; rintro e w2 ⟨r, rfl, ho, hB⟩)
  go_ret
  exact ⟨r, rfl, ho.rb (intB_lt x.int H23.out.1 H23.out.2) (by have := intB_len9 x.int H23.out.1 H23.out.2; omega), (hwr.boxed).kept hB⟩
set_option maxHeartbeats 1000000 in
theorem write2_wr (b base : Nat) (v : Value) (x : It) (bs : List Nat) (w : World) (hw : WR w b base v bs) (hl : bs.length ≤ 8000000) (hx : x.ok) (hk : x.kind = 2) :
    Calls Try.prog 14 #[.pointer (some ⟨b, 0, none⟩), x.v] w (Put b base v w bs x.bytes) := by
  obtain ⟨h1, h2, h3, h4⟩ := hx
  have hB : x.bytes = flagB x.flag := by unfold It.bytes; rw [if_neg (by omega), if_pos hk]
  rw [hB]
  unfold It.v
  rw [hk]
  have hkept := hw.kept ((Below.refl _ _).alloc (Nat.le_refl _) (.cells #[.int .i64 2, .int .u64 ((x.num : Nat) : Int), .int .i64 x.int, .bool x.flag, .string x.text] 32))
  have h := flag_one b base v x.flag bs (w.alloc (.cells #[.int .i64 2, .int .u64 ((x.num : Nat) : Int), .int .i64 x.int, .bool x.flag, .string x.text] 32)) hkept (by omega) 
  rw [World.size_alloc] at h
  have H := Lib.hid h
  have H1 := Lib.hid h1
  have H23 := Lib.hid (And.intro h2 h3)
  have H4 := Lib.hid h4
  have HW := Lib.hid hw
  clear hB h1 h2 h3 h4 h hk hw hkept hl
  go_enter Try.func14, Try.ntmps14
  go_wp2_with fail
  refine H.out.mono ?_
  rintro e w1 ⟨rfl, hwr⟩
  have hc : w1.cell? ⟨w.heap.size, 3, none⟩ = some (.bool x.flag) := box_after HW.out hwr.choose_spec.2.1 3
  go_wp2_with (go_at_call 43; refine (refflag_any _ _).mono ?_; rintro e w2 ⟨r, rfl, ho, hB⟩)
  go_ret
  exact ⟨r, rfl, ho.rb (flagB_lt x.flag) (by have := flagB_len9 x.flag; omega), (hwr.boxed).kept hB⟩
set_option maxHeartbeats 1000000 in
theorem write3_wr (b base : Nat) (v : Value) (x : It) (bs : List Nat) (w : World) (hw : WR w b base v bs) (hl : bs.length ≤ 8000000) (hx : x.ok) (hk : x.kind = 3) :
    Calls Try.prog 14 #[.pointer (some ⟨b, 0, none⟩), x.v] w (Put b base v w bs x.bytes) := by
  obtain ⟨h1, h2, h3, h4⟩ := hx
  have hB : x.bytes = num 0 x.text.size ++ sB x.text := by unfold It.bytes; rw [if_neg (by omega), if_neg (by omega), if_pos hk]
  rw [hB]
  unfold It.v
  rw [hk]
  have hkept := hw.kept ((Below.refl _ _).alloc (Nat.le_refl _) (.cells #[.int .i64 3, .int .u64 ((x.num : Nat) : Int), .int .i64 x.int, .bool x.flag, .string x.text] 32))
  have h := text_wr b base v x.text bs (w.alloc (.cells #[.int .i64 3, .int .u64 ((x.num : Nat) : Int), .int .i64 x.int, .bool x.flag, .string x.text] 32)) hkept (by omega) h4
  have H := Lib.hid h
  have H1 := Lib.hid h1
  have H23 := Lib.hid (And.intro h2 h3)
  have H4 := Lib.hid h4
  have HW := Lib.hid hw
  clear hB h1 h2 h3 h4 h hk hw hkept hl
  go_enter Try.func14, Try.ntmps14
  go_wp2_with fail
  refine H.out.mono ?_
  rintro e w1 ⟨rfl, hwr⟩
  have hc : w1.cell? ⟨w.heap.size, 4, none⟩ = some (.string x.text) := box_after HW.out hwr.choose_spec.2.1 4
  go_wp2_with (go_at_call 45; refine (reftext_any _ _ H4.out).mono ?_; rintro e w2 ⟨r, rfl, ho, hB⟩)
  go_ret
  exact ⟨r, rfl, ho.rb (fun c hc => (List.mem_append.mp hc).elim (num_lt' 0 x.text.size (by omega) (by have := H4.out; omega) c) (sB_lt x.text c)) (by have := num_len9 0 x.text.size (by have := H4.out; omega); have := H4.out; rw [List.length_append, sB_len]; omega), (hwr.boxed).kept hB⟩
set_option maxHeartbeats 1000000 in
theorem write4_wr (b base : Nat) (v : Value) (x : It) (bs : List Nat) (w : World) (hw : WR w b base v bs) (hl : bs.length ≤ 8000000) (hx : x.ok) (hk : x.kind = 4) :
    Calls Try.prog 14 #[.pointer (some ⟨b, 0, none⟩), x.v] w (Put b base v w bs x.bytes) := by
  obtain ⟨h1, h2, h3, h4⟩ := hx
  have hB : x.bytes = sB x.text := by unfold It.bytes; rw [if_neg (by omega), if_neg (by omega), if_neg (by omega), if_pos hk]
  rw [hB]
  unfold It.v
  rw [hk]
  have hkept := hw.kept ((Below.refl _ _).alloc (Nat.le_refl _) (.cells #[.int .i64 4, .int .u64 ((x.num : Nat) : Int), .int .i64 x.int, .bool x.flag, .string x.text] 32))
  obtain ⟨sv, ws, hrun, hrs, hbs⟩ := str_bytes (w.alloc (.cells #[.int .i64 4, .int .u64 ((x.num : Nat) : Int), .int .i64 x.int, .bool x.flag, .string x.text] 32)) x.text (by omega)
  have h := raw_wr b base v sv bs (sB x.text) ws (hkept.kept hbs) hrs (by rw [sB_len]; omega)
  have H := Lib.hid h
  have HBS := Lib.hid hbs
  have H1 := Lib.hid h1
  have H23 := Lib.hid (And.intro h2 h3)
  have H4 := Lib.hid h4
  have HW := Lib.hid hw
  clear hB h1 h2 h3 h4 h hk hw hkept hl hrs hbs
  go_enter Try.func14, Try.ntmps14
  go_wp2_with fail
  refine H.out.mono ?_
  rintro e w1 ⟨rfl, hwr⟩
  have hwr2 := hwr.after HBS.out
  have hc : w1.cell? ⟨w.heap.size, 4, none⟩ = some (.string x.text) := box_after HW.out hwr2.choose_spec.2.1 4
  obtain ⟨r, w2, hrun2, hrr, hB⟩ := str_bytes w1 x.text (by have := H4.out; omega)
  go_wp2
  go_ret
  exact ⟨r, rfl, hrr, (hwr2.boxed).kept hB⟩
set_option maxHeartbeats 1000000 in
theorem write0_wr (b base : Nat) (v : Value) (x : It) (bs : List Nat) (w : World) (hw : WR w b base v bs) (hl : bs.length ≤ 8000000) (hx : x.ok) (hk1 : x.kind ≠ 1) (hk2 : x.kind ≠ 2) (hk3 : x.kind ≠ 3) (hk4 : x.kind ≠ 4) :
    Calls Try.prog 14 #[.pointer (some ⟨b, 0, none⟩), x.v] w (Put b base v w bs x.bytes) := by
  obtain ⟨h1, h2, h3, h4⟩ := hx
  have hB : x.bytes = num 0 x.num := by unfold It.bytes; rw [if_neg hk1, if_neg hk2, if_neg hk3, if_neg hk4]
  rw [hB]
  unfold It.v
  have e1 : (x.kind == 1) = false := by simpa using hk1
  have e2 : (x.kind == 2) = false := by simpa using hk2
  have e3 : (x.kind == 3) = false := by simpa using hk3
  have e4 : (x.kind == 4) = false := by simpa using hk4
  have hkept := hw.kept ((Below.refl _ _).alloc (Nat.le_refl _) (.cells #[.int .i64 x.kind, .int .u64 ((x.num : Nat) : Int), .int .i64 x.int, .bool x.flag, .string x.text] 32))
  have h := num_one b base v x.num bs (w.alloc (.cells #[.int .i64 x.kind, .int .u64 ((x.num : Nat) : Int), .int .i64 x.int, .bool x.flag, .string x.text] 32)) hkept (by omega) h1
  rw [World.size_alloc] at h
  have H := Lib.hid h
  have H1 := Lib.hid h1
  have H23 := Lib.hid (And.intro h2 h3)
  have H4 := Lib.hid h4
  have HW := Lib.hid hw
  clear hB h1 h2 h3 h4 h hk1 hk2 hk3 hk4 hw hkept hl
  go_enter Try.func14, Try.ntmps14
  go_wp2_with fail
  refine H.out.mono ?_
  rintro e w1 ⟨rfl, hwr⟩
  have hc : w1.cell? ⟨w.heap.size, 1, none⟩ = some (.int .u64 ((x.num : Nat) : Int)) := box_after HW.out hwr.choose_spec.2.1 1
  go_wp2_with (go_at_call 19; refine (refnum_any _ _ H1.out).mono ?_; rintro e w2 ⟨r, rfl, ho, hB⟩)
  go_ret
  exact ⟨r, rfl, ho.rb (num_lt' 0 x.num (by omega) H1.out) (by have := num_len9 0 x.num H1.out; omega), (hwr.boxed).kept hB⟩
set_option maxHeartbeats 1000000 in
theorem write1_nil (x : It) (w : World) (hx : x.ok) (hk : x.kind = 1) :
    Calls Try.prog 14 #[.pointer none, x.v] w (PutNil w x.bytes) := by
  obtain ⟨h1, h2, h3, h4⟩ := hx
  have hB : x.bytes = intB x.int := by unfold It.bytes; rw [if_pos hk]
  rw [hB]
  unfold It.v
  rw [hk]
  have hbx : Below w.heap.size w (w.alloc (.cells #[.int .i64 1, .int .u64 ((x.num : Nat) : Int), .int .i64 x.int, .bool x.flag, .string x.text] 32)) := (Below.refl _ _).alloc (Nat.le_refl _) _
  have h := int_one_nil x.int (w.alloc (.cells #[.int .i64 1, .int .u64 ((x.num : Nat) : Int), .int .i64 x.int, .bool x.flag, .string x.text] 32)) h2 h3
  have hsz : (w.alloc (.cells #[.int .i64 1, .int .u64 ((x.num : Nat) : Int), .int .i64 x.int, .bool x.flag, .string x.text] 32)).heap.size = w.heap.size + 1 := World.size_alloc _ _
  rw [hsz] at h
  have H := Lib.hid h
  clear hsz
  have H1 := Lib.hid h1
  have H23 := Lib.hid (And.intro h2 h3)
  have H4 := Lib.hid h4
  clear hB h1 h2 h3 h4 h hk
  go_enter Try.func14, Try.ntmps14
  go_wp2_with fail
  refine H.out.mono ?_
  rintro e w1 ⟨rfl, hB1⟩
  have hc : w1.cell? ⟨w.heap.size, 2, none⟩ = some (.int .i64 x.int) := (hB1.cell (p := ⟨w.heap.size, 2, none⟩) (by simp)).trans (by simp)
  go_wp2_with (go_at_call 20; refine (refint_any _ _ H23.out.1 H23.out.2).mono ?_; rintro e w2 ⟨r, rfl, ho, hB⟩)
  go_ret
  have hb2 := hbx.trans (hB1.mono (by have := hbx.size; first | exact this | omega))
  exact ⟨r, rfl, ho.rb (intB_lt x.int H23.out.1 H23.out.2) (by have := intB_len9 x.int H23.out.1 H23.out.2; omega), hb2.trans (hB.mono hb2.size)⟩
set_option maxHeartbeats 1000000 in
theorem write2_nil (x : It) (w : World) (hx : x.ok) (hk : x.kind = 2) :
    Calls Try.prog 14 #[.pointer none, x.v] w (PutNil w x.bytes) := by
  obtain ⟨h1, h2, h3, h4⟩ := hx
  have hB : x.bytes = flagB x.flag := by unfold It.bytes; rw [if_neg (by omega), if_pos hk]
  rw [hB]
  unfold It.v
  rw [hk]
  have hbx : Below w.heap.size w (w.alloc (.cells #[.int .i64 2, .int .u64 ((x.num : Nat) : Int), .int .i64 x.int, .bool x.flag, .string x.text] 32)) := (Below.refl _ _).alloc (Nat.le_refl _) _
  have h := flag_one_nil x.flag (w.alloc (.cells #[.int .i64 2, .int .u64 ((x.num : Nat) : Int), .int .i64 x.int, .bool x.flag, .string x.text] 32)) 
  have hsz : (w.alloc (.cells #[.int .i64 2, .int .u64 ((x.num : Nat) : Int), .int .i64 x.int, .bool x.flag, .string x.text] 32)).heap.size = w.heap.size + 1 := World.size_alloc _ _
  rw [hsz] at h
  have H := Lib.hid h
  clear hsz
  have H1 := Lib.hid h1
  have H23 := Lib.hid (And.intro h2 h3)
  have H4 := Lib.hid h4
  clear hB h1 h2 h3 h4 h hk
  go_enter Try.func14, Try.ntmps14
  go_wp2_with fail
  refine H.out.mono ?_
  rintro e w1 ⟨rfl, hB1⟩
  have hc : w1.cell? ⟨w.heap.size, 3, none⟩ = some (.bool x.flag) := (hB1.cell (p := ⟨w.heap.size, 3, none⟩) (by simp)).trans (by simp)
  go_wp2_with (go_at_call 43; refine (refflag_any _ _).mono ?_; rintro e w2 ⟨r, rfl, ho, hB⟩)
  go_ret
  have hb2 := hbx.trans (hB1.mono (by have := hbx.size; first | exact this | omega))
  exact ⟨r, rfl, ho.rb (flagB_lt x.flag) (by have := flagB_len9 x.flag; omega), hb2.trans (hB.mono hb2.size)⟩
set_option maxHeartbeats 1000000 in
theorem write3_nil (x : It) (w : World) (hx : x.ok) (hk : x.kind = 3) :
    Calls Try.prog 14 #[.pointer none, x.v] w (PutNil w x.bytes) := by
  obtain ⟨h1, h2, h3, h4⟩ := hx
  have hB : x.bytes = num 0 x.text.size ++ sB x.text := by unfold It.bytes; rw [if_neg (by omega), if_neg (by omega), if_pos hk]
  rw [hB]
  unfold It.v
  rw [hk]
  have hbx : Below w.heap.size w (w.alloc (.cells #[.int .i64 3, .int .u64 ((x.num : Nat) : Int), .int .i64 x.int, .bool x.flag, .string x.text] 32)) := (Below.refl _ _).alloc (Nat.le_refl _) _
  have h := text_nil x.text (w.alloc (.cells #[.int .i64 3, .int .u64 ((x.num : Nat) : Int), .int .i64 x.int, .bool x.flag, .string x.text] 32)) h4
  have H := Lib.hid h
  have H1 := Lib.hid h1
  have H23 := Lib.hid (And.intro h2 h3)
  have H4 := Lib.hid h4
  clear hB h1 h2 h3 h4 h hk
  go_enter Try.func14, Try.ntmps14
  go_wp2_with fail
  refine H.out.mono ?_
  rintro e w1 ⟨rfl, hB1⟩
  have hc : w1.cell? ⟨w.heap.size, 4, none⟩ = some (.string x.text) := (hB1.cell (p := ⟨w.heap.size, 4, none⟩) (by simp)).trans (by simp)
  go_wp2_with (go_at_call 45; refine (reftext_any _ _ H4.out).mono ?_; rintro e w2 ⟨r, rfl, ho, hB⟩)
  go_ret
  have hb2 := hbx.trans (hB1.mono (by have := hbx.size; first | exact this | omega))
  exact ⟨r, rfl, ho.rb (fun c hc => (List.mem_append.mp hc).elim (num_lt' 0 x.text.size (by omega) (by have := H4.out; omega) c) (sB_lt x.text c)) (by have := num_len9 0 x.text.size (by have := H4.out; omega); have := H4.out; rw [List.length_append, sB_len]; omega), hb2.trans (hB.mono hb2.size)⟩
set_option maxHeartbeats 1000000 in
theorem write4_nil (x : It) (w : World) (hx : x.ok) (hk : x.kind = 4) :
    Calls Try.prog 14 #[.pointer none, x.v] w (PutNil w x.bytes) := by
  obtain ⟨h1, h2, h3, h4⟩ := hx
  have hB : x.bytes = sB x.text := by unfold It.bytes; rw [if_neg (by omega), if_neg (by omega), if_neg (by omega), if_pos hk]
  rw [hB]
  unfold It.v
  rw [hk]
  have hbx : Below w.heap.size w (w.alloc (.cells #[.int .i64 4, .int .u64 ((x.num : Nat) : Int), .int .i64 x.int, .bool x.flag, .string x.text] 32)) := (Below.refl _ _).alloc (Nat.le_refl _) _
  obtain ⟨sv, ws, hrun, hrs, hbs⟩ := str_bytes (w.alloc (.cells #[.int .i64 4, .int .u64 ((x.num : Nat) : Int), .int .i64 x.int, .bool x.flag, .string x.text] 32)) x.text (by omega)
  have h := raw_nil sv ws
  have H := Lib.hid h
  have H1 := Lib.hid h1
  have H23 := Lib.hid (And.intro h2 h3)
  have H4 := Lib.hid h4
  clear hB h1 h2 h3 h4 h hk hrs
  go_enter Try.func14, Try.ntmps14
  go_wp2_with fail
  refine H.out.mono ?_
  rintro e w1 ⟨rfl, rfl⟩
  have hc : ws.cell? ⟨w.heap.size, 4, none⟩ = some (.string x.text) := (hbs.cell (p := ⟨w.heap.size, 4, none⟩) (by simp)).trans (by simp)
  obtain ⟨r, w2, hrun2, hrr, hB⟩ := str_bytes ws x.text (by have := H4.out; omega)
  go_wp2
  go_ret
  have hb2 := hbx.trans (hbs.mono hbx.size)
  exact ⟨r, rfl, hrr, hb2.trans (hB.mono hb2.size)⟩
set_option maxHeartbeats 1000000 in
theorem write0_nil (x : It) (w : World) (hx : x.ok) (hk1 : x.kind ≠ 1) (hk2 : x.kind ≠ 2) (hk3 : x.kind ≠ 3) (hk4 : x.kind ≠ 4) :
    Calls Try.prog 14 #[.pointer none, x.v] w (PutNil w x.bytes) := by
  obtain ⟨h1, h2, h3, h4⟩ := hx
  have hB : x.bytes = num 0 x.num := by unfold It.bytes; rw [if_neg hk1, if_neg hk2, if_neg hk3, if_neg hk4]
  rw [hB]
  unfold It.v
  have e1 : (x.kind == 1) = false := by simpa using hk1
  have e2 : (x.kind == 2) = false := by simpa using hk2
  have e3 : (x.kind == 3) = false := by simpa using hk3
  have e4 : (x.kind == 4) = false := by simpa using hk4
  have hbx : Below w.heap.size w (w.alloc (.cells #[.int .i64 x.kind, .int .u64 ((x.num : Nat) : Int), .int .i64 x.int, .bool x.flag, .string x.text] 32)) := (Below.refl _ _).alloc (Nat.le_refl _) _
  have h := num_one_nil x.num (w.alloc (.cells #[.int .i64 x.kind, .int .u64 ((x.num : Nat) : Int), .int .i64 x.int, .bool x.flag, .string x.text] 32)) h1
  have hsz : (w.alloc (.cells #[.int .i64 x.kind, .int .u64 ((x.num : Nat) : Int), .int .i64 x.int, .bool x.flag, .string x.text] 32)).heap.size = w.heap.size + 1 := World.size_alloc _ _
  rw [hsz] at h
  have H := Lib.hid h
  clear hsz
  have H1 := Lib.hid h1
  have H23 := Lib.hid (And.intro h2 h3)
  have H4 := Lib.hid h4
  clear hB h1 h2 h3 h4 h hk1 hk2 hk3 hk4
  go_enter Try.func14, Try.ntmps14
  go_wp2_with fail
  refine H.out.mono ?_
  rintro e w1 ⟨rfl, hB1⟩
  have hc : w1.cell? ⟨w.heap.size, 1, none⟩ = some (.int .u64 ((x.num : Nat) : Int)) := (hB1.cell (p := ⟨w.heap.size, 1, none⟩) (by simp)).trans (by simp)
  go_wp2_with (go_at_call 19; refine (refnum_any _ _ H1.out).mono ?_; rintro e w2 ⟨r, rfl, ho, hB⟩)
  go_ret
  have hb2 := hbx.trans (hB1.mono (by have := hbx.size; first | exact this | omega))
  exact ⟨r, rfl, ho.rb (num_lt' 0 x.num (by omega) H1.out) (by have := num_len9 0 x.num H1.out; omega), hb2.trans (hB.mono hb2.size)⟩

theorem write_wr (b base : Nat) (v : Value) (x : It) (bs : List Nat) (w : World) (hw : WR w b base v bs) (hl : bs.length ≤ 8000000) (hx : x.ok) : Calls Try.prog 14 #[.pointer (some ⟨b, 0, none⟩), x.v] w (Put b base v w bs x.bytes) := by
  by_cases h1 : x.kind = 1
  · exact write1_wr b base v x bs w hw hl hx h1
  by_cases h2 : x.kind = 2
  · exact write2_wr b base v x bs w hw hl hx h2
  by_cases h3 : x.kind = 3
  · exact write3_wr b base v x bs w hw hl hx h3
  by_cases h4 : x.kind = 4
  · exact write4_wr b base v x bs w hw hl hx h4
  · exact write0_wr b base v x bs w hw hl hx h1 h2 h3 h4
theorem write_nil (x : It) (w : World) (hx : x.ok) : Calls Try.prog 14 #[.pointer none, x.v] w (PutNil w x.bytes) := by
  by_cases h1 : x.kind = 1
  · exact write1_nil x w hx h1
  by_cases h2 : x.kind = 2
  · exact write2_nil x w hx h2
  by_cases h3 : x.kind = 3
  · exact write3_nil x w hx h3
  by_cases h4 : x.kind = 4
  · exact write4_nil x w hx h4
  · exact write0_nil x w hx h1 h2 h3 h4
end Go.Proofs.Ytkeloeppploiaaa
