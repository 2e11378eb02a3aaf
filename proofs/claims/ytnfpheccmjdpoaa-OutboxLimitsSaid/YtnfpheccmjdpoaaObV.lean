/- The outbox: each call, whatever comes of it. -/
import Derived.Test.YtnfpheccmjdpoaaObN
import Derived.Test.YtnfpheccmjdpoaaObQ
import Derived.Test.YtnfpheccmjdpoaaObT
namespace Go.Proofs.Ytnfpheccmjdpoaa
open Go.RowKit
theorem first_end : ∀ (l : List Nt) (q : Nt → Bool), (∃ y ∈ l, q y = true) → ∃ (k : Nat) (hk : k < l.length), q l[k] = true ∧ ∀ y ∈ l.take k, q y = false
  | [], _, h => by obtain ⟨y, hy, -⟩ := h; simp at hy
  | x :: r, q, h => by
    cases hx : q x with
    | true => exact ⟨0, by simp, hx, fun y hy => by simp at hy⟩
    | false =>
      obtain ⟨y, hy, hq⟩ := h
      rcases List.mem_cons.1 hy with rfl | hy
      · rw [hx] at hq
        cases hq
      obtain ⟨k, hk, h1, h2⟩ := first_end r q ⟨y, hy, hq⟩
      refine ⟨k + 1, by simp; omega, by simpa using h1, fun z hz => ?_⟩
      rw [List.take_succ_cons] at hz
      rcases List.mem_cons.1 hz with rfl | hz
      · exact hx
      · exact h2 z hz
theorem seek (l : List Nt) (id : Int) : (∀ x ∈ l, x.id ≠ id) ∨ ∃ (k : Nat) (hk : k < l.length), l[k].id = id ∧ ∀ x ∈ l.take k, x.id ≠ id := by
  by_cases h : ∃ y ∈ l, (fun x : Nt => x.id == id) y = true
  · obtain ⟨k, hk, h1, h2⟩ := first_end l _ h
    exact .inr ⟨k, hk, by simpa using h1, fun x hx => by simpa using h2 x hx⟩
  · exact .inl (fun x hx e => h ⟨x, hx, by simpa using e⟩)
theorem try_all (b : Nat) (last : Int) (l : List Nt) (T O : Int → Int) (id now : Int) (w : World) (h : BX w b last l) (hI : Inv last l T O) : Calls Try.prog 20 #[.pointer (some ⟨b, 0, none⟩), .int .u64 id, .int .i64 now] w fun e w' =>
    (∃ code : Int, code ≠ 0 ∧ e = .returned (.tuple #[nz.V, .int .i64 code]) ∧ Below w.heap.size w w') ∨
    (∃ (k : Nat) (hk : k < l.length), endN l[k] = false ∧ exhN l[k] = false ∧ l[k].nx ≤ now ∧ e = .returned (.tuple #[(tried3 l[k] now).V, .int .i64 0]) ∧ BX w' b last (l.set k (tried3 l[k] now)) ∧ OnlyB b w w') := by
  rcases seek l id with hn | ⟨k, hk, h1, h2⟩
  · refine (try_none b last l id now w h hn).mono ?_
    rintro e w' ⟨rfl, hb⟩
    exact .inl ⟨31, by decide, rfl, hb⟩
  · have hB := hI.bnd _ (List.getElem_mem hk)
    cases he : endN l[k] with
    | true =>
      refine (try_ended b last l id now w h k hk h1 h2 he).mono ?_
      rintro e w' ⟨rfl, hb⟩
      exact .inl ⟨33, by decide, rfl, hb⟩
    | false =>
      cases hx : exhN l[k] with
      | true =>
        refine (try_exh b last l id now w h k hk h1 h2 he hx).mono ?_
        rintro e w' ⟨rfl, hb⟩
        exact .inl ⟨33, by decide, rfl, hb⟩
      | false =>
        by_cases hn : now < l[k].nx
        · refine (try_busy b last l id now w h k hk h1 h2 he hx hn).mono ?_
          rintro e w' ⟨rfl, hb⟩
          exact .inl ⟨52, by decide, rfl, hb⟩
        · refine (try_ok b last l id now w h k hk h1 h2 he hx (by omega) ⟨hB.1.1, hB.1.2.2⟩ hB.2.1 (by omega)).mono ?_
          rintro e w' ⟨rfl, hx', ho⟩
          exact .inr ⟨k, hk, he, hx, by omega, rfl, hx', ho⟩
theorem ack_all (b : Nat) (last : Int) (l : List Nt) (T O : Int → Int) (id : Int) (w : World) (h : BX w b last l) (hI : Inv last l T O) : Calls Try.prog 22 #[.pointer (some ⟨b, 0, none⟩), .int .u64 id] w fun e w' =>
    (∃ code : Int, code ≠ 0 ∧ e = .returned (.tuple #[nz.V, .int .i64 code]) ∧ Below w.heap.size w w') ∨
    (∃ (k : Nat) (hk : k < l.length), endN l[k] = false ∧ e = .returned (.tuple #[(ackN l[k]).V, .int .i64 0]) ∧ BX w' b last (l.set k (ackN l[k])) ∧ OnlyB b w w') := by
  rcases seek l id with hn | ⟨k, hk, h1, h2⟩
  · refine (ack_none b last l id w h hn).mono ?_
    rintro e w' ⟨rfl, hb⟩
    exact .inl ⟨31, by decide, rfl, hb⟩
  · have hB := hI.bnd _ (List.getElem_mem hk)
    cases he : endN l[k] with
    | true =>
      refine (ack_ended b last l id w h k hk h1 h2 he).mono ?_
      rintro e w' ⟨rfl, hb⟩
      exact .inl ⟨33, by decide, rfl, hb⟩
    | false =>
      by_cases hx : l[k].tr = 0
      · refine (ack_zero b last l id w h k hk h1 h2 he hx).mono ?_
        rintro e w' ⟨rfl, hb⟩
        exact .inl ⟨33, by decide, rfl, hb⟩
      · refine (ack_ok b last l id w h k hk h1 h2 he (by have := hB.1.1; omega)).mono ?_
        rintro e w' ⟨rfl, hx', ho⟩
        exact .inr ⟨k, hk, he, rfl, hx', ho⟩
theorem put_all (b : Nat) (last : Int) (l : List Nt) (T O : Int → Int) (x : Nt) (now : Int) (w : World) (h : BX w b last l) (hI : Inv last l T O) (hl : last < 1152921504606846976) : Calls Try.prog 24 #[.pointer (some ⟨b, 0, none⟩), .agg #[.int .u64 x.id, .int .u64 x.tk, .int .i64 x.lv, .int .i64 x.pa, .int .i64 x.st, .int .i64 x.tr, .int .i64 x.rt, .int .i64 x.wt, .int .i64 x.nx], .int .i64 now] w fun e w' =>
    (∃ code : Int, code ≠ 0 ∧ e = .returned (.tuple #[.int .u64 0, .int .i64 code]) ∧ Below w.heap.size w w') ∨
    (∃ l', e = .returned (.tuple #[.int .u64 (last + 1), .int .i64 0]) ∧ Inv (last + 1) l' T O ∧ BX w' b (last + 1) l' ∧ OnlyB b w w') := by
  by_cases hok : (insN now && adrN x) = false
  · refine (put_bad b last l x now w h hok).mono ?_
    rintro e w' ⟨rfl, hb⟩
    exact .inl ⟨2, by decide, rfl, hb⟩
  have hok2 : insN now = true ∧ adrN x = true := by
    cases h1 : insN now <;> cases h2 : adrN x <;> simp_all
  by_cases hc : 128 ≤ cntW l
  · refine (put_full b last l x now w h hok2 ⟨hI.pos, hl⟩ hc).mono ?_
    rintro e w' ⟨rfl, hb⟩
    exact .inl ⟨30, by decide, rfl, hb⟩
  by_cases h128 : l.length < 128
  · refine (put_ok b last l x now w h hok2 ⟨hI.pos, hl⟩ (by omega) h128).mono ?_
    rintro e w' ⟨rfl, hx', ho⟩
    exact .inr ⟨_, rfl, hI.put x now hok2, hx', ho⟩
  · have h8 : l.length = 128 := by have := h.len; omega
    have hex : ∃ y ∈ l, endN y = true := by
      apply Classical.byContradiction
      intro hno
      have := cnt_all (l := l) (fun y hy => by
        cases he : endN y with
        | false => rfl
        | true => exact absurd ⟨y, hy, he⟩ hno)
      omega
    obtain ⟨k, hk, h1, h2⟩ := first_end l endN hex
    refine (put_del b last l x now w h hok2 ⟨hI.pos, hl⟩ (by omega) h8 k hk h1 h2).mono ?_
    rintro e w' ⟨rfl, hx', ho⟩
    exact .inr ⟨_, rfl, (hI.sub (List.eraseIdx_sublist l k)).put x now hok2, hx', ho⟩
end Go.Proofs.Ytnfpheccmjdpoaa
