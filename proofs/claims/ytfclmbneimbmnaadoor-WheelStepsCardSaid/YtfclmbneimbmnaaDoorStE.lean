/- The stable sort's small parts: insertion over a part, two runs changed with each other, the rotation. -/
import Derived.Test.YtfclmbneimbmnaaDoorStA
import Derived.Test.YtfclmbneimbmnaaDoorStD
import Derived.Shelf.SlSortCmp.InsertionK
import Derived.Sort.WalkB2
import Derived.Sort.WalkB12
import Derived.Deep.LoopGhost
namespace Go.Proofs.YtfclmbneimbmnaaDoor
open Go.RowKit Go.Lib Go.Sort Go.Shelf

theorem enG_len (x : Th × Nat) : (enG x).length = 3 := rfl
theorem enG_one (x : Th × Nat) : ∀ v ∈ enG x, v.oneCell' = true := by
  intro v hv
  unfold enG enT at hv
  simp only [List.mem_cons, List.not_mem_nil, or_false] at hv
  rcases hv with rfl | rfl | rfl <;> rfl

theorem cmp_lays (w : World) (blk off size : Nat) : CmpLays Tryd.prog 68 #[] enG 3 cmpG blk off size w := by
  intro m os dk _ x y
  exact compare_any x.1 y.1 _

set_option maxRecDepth 100000 in
theorem enter_cmp : ∀ args w, (callFunc 68 args).run Tryd.prog w = .ok (.enter 68 args) w := fun _ _ => rfl

theorem agg_th : ∀ w, (isAgg 27).run Tryd.prog w = .ok true w := Tryd.isAgg27
theorem size_th : ∀ w, (Go.sizeOf 27).run Tryd.prog w = .ok 3 w := Tryd.sizeOf27

/-- What the family is told of the row, once. -/
abbrev RK (w0 : World) (blk off : Nat) (d0 : Array (Th × Nat)) : Prop := RowK enG 3 w0 blk off d0
abbrev SW3 (w0 : World) (blk off : Nat) (d : Array (Th × Nat)) (W : World) : Prop := SWK enG 3 w0 blk off d W

theorem insertion_any (blk off cap a b : Nat) (d0 d : Array (Th × Nat)) (w0 w : World) (R : RK w0 blk off d0) (hs : d0.size = d.size) (S : SW3 w0 blk off d w) (hab : a ≤ b) (hb : b ≤ d.size) (hsz : d.size < 4611686018427387904) :
    Calls Tryd.prog 128 #[.slice (some ⟨blk, off, none⟩) d.size cap, .int .i64 a, .int .i64 b, .func (.func 68) #[] #[]] w fun e w' =>
      e = .returned (.tuple #[]) ∧ SW3 w0 blk off (insertionSort (fstB ltT) d a b) w' := by
  have hs' : (insertionSort (fstB ltT) d a b).size = d.size := by
    have h : SWO (fstB ltT) := ⟨fun x => ltT_swo.irrefl _, fun x y z => ltT_swo.trans _ _ _, fun x y z => ltT_swo.ntrans _ _ _⟩
    exact (insertionSort_holds h d a b hab hb).1.1
  have h := AnyQ.insertionSortCmpFunc insTh 3 agg_th size_th enG enG_len enG_one cmpG 68 #[] blk off cap a b d w enter_cmp (cmp_lays w blk off d.size) (S.holds R.hblk R.hH hs.symm) (S.lt R.hblk) hab hb hsz
  rw [cmpG_lt] at h
  refine Calls.mono h ?_
  rintro e w' ⟨rfl, n, os, rfl⟩
  exact ⟨rfl, S.on R.hblk n _ os hs'⟩

/-- What a walk of the family asks of the program, said of a program by another name and of a size by another name: so that the walk takes a thing whole. -/
structure Hat (P : Program) (k : Nat) : Prop where
  mixed : P.follows .mixedOrders = true
  t0 : P.underlying 0 = some (.tuple #[])
  a0 : ∀ w, Sem.run P (isAgg 0) w = .ok false w
  z0 : ∀ w, Sem.run P (Go.sizeOf 0) w = .ok 1 w
  v0 : ∀ w, Sem.run P (Go.zeroValue 0) w = .ok (.tuple #[]) w
  t3 : P.underlying 3 = some (.int .i64)
  a3 : ∀ w, Sem.run P (isAgg 3) w = .ok false w
  z3 : ∀ w, Sem.run P (Go.sizeOf 3) w = .ok 1 w
  v3 : ∀ w, Sem.run P (Go.zeroValue 3) w = .ok (.int .i64 0) w
  t4 : P.underlying 4 = some (.bool)
  a4 : ∀ w, Sem.run P (isAgg 4) w = .ok false w
  z4 : ∀ w, Sem.run P (Go.sizeOf 4) w = .ok 1 w
  v4 : ∀ w, Sem.run P (Go.zeroValue 4) w = .ok (.bool false) w
  t22 : P.underlying 22 = some (.slice 27)
  a22 : ∀ w, Sem.run P (isAgg 22) w = .ok false w
  z22 : ∀ w, Sem.run P (Go.sizeOf 22) w = .ok 1 w
  v22 : ∀ w, Sem.run P (Go.zeroValue 22) w = .ok (.slice none 0 0) w
  t97 : P.underlying 136 = some (.func #[27, 27] #[3] false)
  a97 : ∀ w, Sem.run P (isAgg 136) w = .ok false w
  z97 : ∀ w, Sem.run P (Go.sizeOf 136) w = .ok 1 w
  v97 : ∀ w, Sem.run P (Go.zeroValue 136) w = .ok (.nilFunc) w
  t125 : P.underlying 203 = some (.int .u64)
  a125 : ∀ w, Sem.run P (isAgg 203) w = .ok false w
  z125 : ∀ w, Sem.run P (Go.sizeOf 203) w = .ok 1 w
  v125 : ∀ w, Sem.run P (Go.zeroValue 203) w = .ok (.int .u64 0) w
  aE : ∀ w, Sem.run P (isAgg 27) w = .ok true w
  zE : ∀ w, Sem.run P (Go.sizeOf 27) w = .ok k w
  e43 : ∀ args w, (callFunc 68 args).run P w = .ok (.enter 68 args) w
  cmp : ∀ w blk off size, CmpLays P 68 #[] enG k cmpG blk off size w
  f76 : P.funcs[128]? = some Tryd.f128
  f77 : P.funcs[129]? = some Tryd.f129
  f79 : P.funcs[134]? = some Tryd.f134
  f80 : P.funcs[135]? = some Tryd.f135
  f68 : P.funcs[115]? = some Tryd.f115

theorem hat : Hat Tryd.prog 3 where
  mixed := insTh.mixed
  t0 := Tryd.underlying0
  a0 := Tryd.isAgg0
  z0 := Tryd.sizeOf0
  v0 := Tryd.zeroValue0
  t3 := Tryd.underlying3
  a3 := Tryd.isAgg3
  z3 := Tryd.sizeOf3
  v3 := Tryd.zeroValue3
  t4 := Tryd.underlying4
  a4 := Tryd.isAgg4
  z4 := Tryd.sizeOf4
  v4 := Tryd.zeroValue4
  t22 := Tryd.underlying22
  a22 := Tryd.isAgg22
  z22 := Tryd.sizeOf22
  v22 := Tryd.zeroValue22
  t97 := Tryd.underlying136
  a97 := Tryd.isAgg136
  z97 := Tryd.sizeOf136
  v97 := Tryd.zeroValue136
  t125 := Tryd.underlying203
  a125 := Tryd.isAgg203
  z125 := Tryd.sizeOf203
  v125 := Tryd.zeroValue203
  aE := Tryd.isAgg27
  zE := Tryd.sizeOf27
  e43 := enter_cmp
  cmp := cmp_lays
  f76 := Tryd.func128
  f77 := Tryd.func129
  f79 := Tryd.func134
  f80 := Tryd.func135
  f68 := Tryd.func115

abbrev RKk (k : Nat) (w0 : World) (blk off : Nat) (d0 : Array (Th × Nat)) : Prop := RowK enG k w0 blk off d0
abbrev SWk (k : Nat) (w0 : World) (blk off : Nat) (d : Array (Th × Nat)) (W : World) : Prop := SWK enG k w0 blk off d W

set_option maxHeartbeats 4000000 in
set_option maxRecDepth 1000000 in
theorem swap_rangeP {P : Program} {k : Nat} (H : Hat P k) (blk off cap a b n lo hi : Nat) (d0 d : Array (Th × Nat)) (w0 w : World) (R : RKk k w0 blk off d0) (hs : d0.size = d.size) (S : SWk k w0 blk off d w)
    (ha : lo ≤ a) (hab : a + n ≤ b) (hb : b + n ≤ hi) (hh : hi ≤ d.size) (hsz : d.size < 4611686018427387904) :
    Calls P 135 #[.slice (some ⟨blk, off, none⟩) d.size cap, .int .i64 a, .int .i64 b, .int .i64 n, .func (.func 68) #[] #[]] w fun e w' =>
      e = .returned (.tuple #[]) ∧ ∃ X, SWk k w0 blk off X w' ∧ Changed lo hi a b n d X := by
  have S0 : Aside (SWk k w0 blk off d w) := S
  clear S
  obtain ⟨mixed, t0, a0, z0, v0, t3, a3, z3, v3, t4, a4, z4, v4, t22, a22, z22, v22, t97, a97, z97, v97, t125, a125, z125, v125, aE, zE, e43, cmp, f76, f77, f79, f80, f68⟩ := H
  clear f76 f77 f79 f68 e43 cmp
  go_enter f80, Tryd.ntmps135
  go_wp2
  go_loopg [10] n (fun kx s10 wr => ∃ (i : Nat) (dk : Array (Th × Nat)), s10 = .int .i64 i ∧ i ≤ n ∧ n - i ≤ kx ∧ Aside (SWk k w0 blk off dk wr) ∧ Hid (Changed lo hi a b i d dk))
  case atStart => exact ⟨0, d, rfl, Nat.zero_le _, by omega, S0, Changed.start lo hi a b d⟩
  case round =>
    clear S0
    obtain ⟨i, dk, rfl, hin, hkx, S1, HC⟩ := hrel
    have hds : dk.size = d.size := HC.out.perm.1
    by_cases hlt : i < n
    · have hltz : (i : Int) < (n : Int) := by omega
      go_wp2_with fail
      have ra : IntKind.i64.wrap ((a : Int) + (i : Int)) = ((a + i : Nat) : Int) := by rw [IntKind.wrap_i64]; omega
      have rb : IntKind.i64.wrap ((b : Int) + (i : Int)) = ((b + i : Nat) : Int) := by rw [IntKind.wrap_i64]; omega
      have ba : ((a + i : Nat) : Int) < (d.size : Int) := by omega
      have bb : ((b + i : Nat) : Int) < (d.size : Int) := by omega
      have pa : (0 : Int) ≤ ((a + i : Nat) : Int) := by omega
      have pb : (0 : Int) ≤ ((b + i : Nat) : Int) := by omega
      obtain ⟨u, hu⟩ : ∃ u, a + i = u := ⟨_, rfl⟩
      obtain ⟨v, hv⟩ : ∃ v, b + i = v := ⟨_, rfl⟩
      rw [hu] at ra ba pa
      rw [hv] at rb bb pb
      have S2 : Aside (SWk k w0 blk off (swp dk u v) ((wr.drew.setCells blk (off + u * k) (enG dk[v]!)).setCells blk (off + v * k) (enG dk[u]!))) := S1.out.swapped R u v (by omega) (by omega)
      have l44a := S1.out.ld1 R (by omega) P u (by omega)
      have l44b := S1.out.ld1 R (by omega) P v (by omega)
      have s44a := S1.out.st1 R (by omega) P u (by omega) dk[v]!
      have s44b := S1.out.st2 R (by omega) P u v (by omega) (by omega) dk[v]! dk[u]!
      have n44a : (enG dk[u]!).length = k := R.hk _
      have n44b : (enG dk[v]!).length = k := R.hk _
      have HX : Hid (Changed lo hi a b (i + 1) d (swp dk u v)) := by rw [← hu, ← hv]; exact (HC.out.step ha (by omega) (by omega) hh)
      generalize enG dk[u]! = cI44 at S2 l44a s44b n44a
      generalize enG dk[v]! = cJ44 at S2 l44b s44a s44b n44b
      generalize hdx : swp dk u v = dx at S2 HX
      clear S1 HC hdx
      go_big_region_o
      clear l44a l44b s44a s44b
      generalize (wr.drew.setCells blk (off + u * k) cJ44).setCells blk (off + v * k) cI44 = w2 at S2 ⊢
      go_wp2
      go_roundg (n - (i + 1))
      case measure => omega
      case rel => exact ⟨i + 1, dx, by go_num, by omega, Nat.le_refl _, S2, HX⟩
    · have hltz : ¬ (i : Int) < (n : Int) := by omega
      obtain rfl : i = n := by omega
      go_wp2
      go_end0
      exact ⟨rfl, dk, S1.out, HC.out⟩
end Go.Proofs.YtfclmbneimbmnaaDoor
