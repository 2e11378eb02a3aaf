/- The disk's calls, each in general: what it tells, and what it makes of the disk. -/
import Derived.Test.YthefnakbpalecaaDkRa
import Derived.Test.YthefnakbpalecaaMaN
namespace Go.Proofs.Ythefnakbpalecaa
open Go.RowKit Go.Maps
def appendD (D : Dd) (n : Nm) (bs : List Nat) : Dd × Int := if D.down then (D, 50) else if validN n = false then (D, 2) else match getF D.fs n with
  | none => if 128 ≤ D.fs.length then (D, 30) else if freeD D < (bs.length : Int) then (D, 30) else (stepD (D.files (putF D.fs n ⟨bs, 0⟩)), pw (stepD (D.files (putF D.fs n ⟨bs, 0⟩))).down)
  | some f => if freeD D < (bs.length : Int) then (D, 30) else (stepD (D.files (putF D.fs n ⟨f.all ++ bs, f.kept⟩)), pw (stepD (D.files (putF D.fs n ⟨f.all ++ bs, f.kept⟩))).down)
def armD (D : Dd) (r : Int) : Dd × Int := if D.down then (D, 50) else if r < 0 then (D, 2) else (⟨D.room, D.fs, D.st, D.down, true, (D.st : Int) + r⟩, 0)
def resizeD (D : Dd) (r : Int) : Dd × Int := if D.down then (D, 50) else if r < 0 ∨ 1048576 < r then (D, 2) else (⟨r, D.fs, D.st, D.down, D.armed, D.after⟩, 0)
def readD (D : Dd) (n : Nm) : List Nat × Int := if D.down then ([], 50) else match getF D.fs n with
  | none => ([], 31)
  | some f => (f.all, 0)
section
variable {S : Nat → Prop} {w w' : World} {B m mt : Nat} {D D' : Dd} {M : Lit → Option Value} {V : Nm → Value} {e : Ending} {k : Int}
theorem Did.same (h : DKx S w B m mt D M V) (he : e = .returned (.int .i64 k)) (hb : Below w.heap.size w w') : Did S w B e w' (D, k) := ⟨S, he, ⟨m, mt, M, V, h.below hb⟩, Fr.below hb⟩
theorem Did.eq (h : DKx S w B m mt D M V) (he : e = .returned (.int .i64 k)) (hb : w = w') : Did S w B e w' (D, k) := by
  subst hb
  exact ⟨S, he, ⟨m, mt, M, V, h⟩, Fr.below (Below.refl _ _)⟩
theorem Did.only (he : e = .returned (.int .i64 k)) (hd : DK S w' B D') (ho : Only S w w') : Did S w B e w' (D', k) := ⟨S, he, hd, Fr.same ho⟩
theorem dsync_any (h : DKx S w B m mt D M V) {n : Nm} (hl : n.length ≤ 100000) (hst : D.st < 1000000000) : Calls Try.prog 83 #[.pointer (some ⟨B, 0, none⟩), encStr n] w fun e w' => Did S w B e w' (syncD D n) := by
  cases hd : D.down with
  | true =>
    rw [show syncD D n = (D, 50) by simp [syncD, hd]]
    exact (dsync_down h hd n).mono (fun e w' ⟨he, hb⟩ => Did.same h he hb)
  | false =>
    cases hf : getF D.fs n with
    | none =>
      rw [show syncD D n = (D, 31) by simp [syncD, hd, hf]]
      exact (dsync_none h hd hl hf).mono (fun e w' ⟨he, hb⟩ => Did.same h he hb)
    | some f =>
      by_cases hs : (stepD D).down = true
      · rw [show syncD D n = (stepD D, 50) by simp [syncD, hd, hf, hs]]
        exact (dsync_sd h hd hl hf hst hs).mono (fun e w' ⟨he, hk, ho⟩ => Did.only he ⟨m, mt, M, V, hk⟩ ho)
      · rw [show syncD D n = ((stepD D).files (putF D.fs n ⟨f.all, f.all.length⟩), 0) by simp [syncD, hd, hf, hs]]
        exact (dsync_ok h hd hl hf hst (by simpa using hs)).mono (fun e w' ⟨he, hk, ho⟩ => Did.only he hk ho)
theorem dremove_any (h : DKx S w B m mt D M V) {n : Nm} (hl : n.length ≤ 100000) (hst : D.st < 1000000000) : Calls Try.prog 117 #[.pointer (some ⟨B, 0, none⟩), encStr n] w fun e w' => Did S w B e w' (removeD D n) := by
  cases hd : D.down with
  | true =>
    rw [show removeD D n = (D, 50) by simp [removeD, hd]]
    exact (dremove_down h hd n).mono (fun e w' ⟨he, hb⟩ => Did.same h he hb)
  | false =>
    cases hf : getF D.fs n with
    | none =>
      rw [show removeD D n = (D, 31) by simp [removeD, hd, hf]]
      exact (dremove_none h hd hl hf).mono (fun e w' ⟨he, hb⟩ => Did.same h he hb)
    | some f =>
      by_cases hs : (stepD D).down = true
      · rw [show removeD D n = (stepD D, 50) by simp [removeD, hd, hf, hs]]
        exact (dremove_sd h hd hl hf hst hs).mono (fun e w' ⟨he, hk, ho⟩ => Did.only he ⟨m, mt, M, V, hk⟩ ho)
      · rw [show removeD D n = ((stepD D).files (delF D.fs n), 0) by simp [removeD, hd, hf, hs]]
        exact (dremove_ok h hd hl hf hst (by simpa using hs)).mono (fun e w' ⟨he, hk, ho⟩ => Did.only he hk ho)
theorem dcut_any (h : DKx S w B m mt D M V) {n : Nm} (hl : n.length ≤ 100000) (hst : D.st < 1000000000) (r : Int) : Calls Try.prog 82 #[.pointer (some ⟨B, 0, none⟩), encStr n, .int .i64 r] w fun e w' => Did S w B e w' (cutD D n r) := by
  cases hd : D.down with
  | true =>
    rw [show cutD D n r = (D, 50) by simp [cutD, hd]]
    exact (dcut_down h hd n r).mono (fun e w' ⟨he, hb⟩ => Did.same h he hb)
  | false =>
    cases hf : getF D.fs n with
    | none =>
      rw [show cutD D n r = (D, 31) by simp [cutD, hd, hf]]
      exact (dcut_none h hd hl hf r).mono (fun e w' ⟨he, hb⟩ => Did.same h he hb)
    | some f =>
      by_cases h0 : r < 0
      · rw [show cutD D n r = (D, 2) by simp [cutD, hd, hf, h0]]
        exact (dcut_neg h hd hl hf hst r h0).mono (fun e w' ⟨he, hb⟩ => Did.same h he hb)
      · by_cases h1 : (f.all.length : Int) < r
        · rw [show cutD D n r = (D, 2) by simp [cutD, hd, hf, h1]]
          exact (dcut_big h hd hl hf hst r ⟨by omega, h1⟩).mono (fun e w' ⟨he, hb⟩ => Did.same h he hb)
        · obtain ⟨k, rfl⟩ : ∃ k : Nat, r = (k : Int) := ⟨r.toNat, by omega⟩
          by_cases hs : (stepD D).down = true
          · rw [show cutD D n (k : Int) = (stepD D, 50) by
              unfold cutD
              rw [hd, hf]
              simp only [Bool.false_eq_true, if_false]
              rw [if_neg (by omega), if_pos hs]]
            exact (dcut_sd h hd hl hf hst k (by omega) hs).mono (fun e w' ⟨he, hk, ho⟩ => Did.only he ⟨m, mt, M, V, hk⟩ ho)
          · rw [show cutD D n (k : Int) = ((stepD D).files (putF D.fs n ⟨f.all.take k, min f.kept k⟩), 0) by
              unfold cutD
              rw [hd, hf]
              simp only [Bool.false_eq_true, if_false]
              rw [if_neg (by omega), if_neg hs, Int.toNat_natCast]]
            exact (dcut_ok h hd hl hf hst k (by omega) (by simpa using hs)).mono (fun e w' ⟨he, hk, ho⟩ => Did.only he hk ho)
theorem dmove_any (h : DKx S w B m mt D M V) {n : Nm} (hl : n.length ≤ 100000) (hst : D.st < 1000000000) (n2 : Nm) : Calls Try.prog 122 #[.pointer (some ⟨B, 0, none⟩), encStr n, encStr n2] w fun e w' => Did S w B e w' (moveD D n n2) := by
  cases hd : D.down with
  | true =>
    rw [show moveD D n n2 = (D, 50) by simp [moveD, hd]]
    exact (dmove_down h hd n n2).mono (fun e w' ⟨he, hb⟩ => Did.same h he hb)
  | false =>
    cases hf : getF D.fs n with
    | none =>
      rw [show moveD D n n2 = (D, 31) by simp [moveD, hd, hf]]
      exact (dmove_none h hd hl hf n2).mono (fun e w' ⟨he, hb⟩ => Did.same h he hb)
    | some f =>
      cases hv : validN n2 with
      | false =>
        rw [show moveD D n n2 = (D, 2) by simp [moveD, hd, hf, hv]]
        exact (dmove_arg h hd hl hf hst n2 hv).mono (fun e w' ⟨he, hb⟩ => Did.same h he hb)
      | true =>
        by_cases hs : (stepD D).down = true
        · rw [show moveD D n n2 = (stepD D, 50) by simp [moveD, hd, hf, hs, hv]]
          exact (dmove_sd h hd hl hf hst n2 hv hs).mono (fun e w' ⟨he, hk, ho⟩ => Did.only he ⟨m, mt, M, V, hk⟩ ho)
        · rw [show moveD D n n2 = ((stepD D).files (putF (delF D.fs n) n2 f), 0) by simp [moveD, hd, hf, hs, hv]]
          exact (dmove_ok h hd hl hf hst n2 hv (by simpa using hs)).mono (fun e w' ⟨he, hk, ho⟩ => Did.only he hk ho)
theorem dappend_any (h : DKx S w B m mt D M V) (n : Nm) (hst : D.st < 1000000000) (ab : Option Addr) (cb : Nat) (bs : List Nat) (hrb : RB w (.slice ab bs.length cb) bs) : Calls Try.prog 142 #[.pointer (some ⟨B, 0, none⟩), encStr n, .slice ab bs.length cb] w fun e w' => Did S w B e w' (appendD D n bs) := by
  cases hd : D.down with
  | true =>
    rw [show appendD D n bs = (D, 50) by simp [appendD, hd]]
    exact (dappend_down h hd n _).mono (fun e w' ⟨he, hb⟩ => Did.eq h he hb)
  | false =>
    cases hv : validN n with
    | false =>
      rw [show appendD D n bs = (D, 2) by simp [appendD, hd, hv]]
      exact (dappend_arg h hd hv _).mono (fun e w' ⟨he, hb⟩ => Did.eq h he hb)
    | true =>
      cases hf : getF D.fs n with
      | none =>
        by_cases hm : 128 ≤ D.fs.length
        · rw [show appendD D n bs = (D, 30) by simp [appendD, hd, hf, hv, hm]]
          exact (dappend_many h hd hv hf ab cb bs hm).mono (fun e w' ⟨he, hb⟩ => Did.same h he hb)
        · by_cases hfr : freeD D < (bs.length : Int)
          · rw [show appendD D n bs = (D, 30) by simp [appendD, hd, hf, hv, hfr]]
            exact (dappend_full0 h hd hv hf ab cb bs (by omega) hfr).mono (fun e w' ⟨he, hb⟩ => Did.same h he hb)
          · rw [show appendD D n bs = (stepD (D.files (putF D.fs n ⟨bs, 0⟩)), pw (stepD (D.files (putF D.fs n ⟨bs, 0⟩))).down) by simp [appendD, hd, hf, hv, hm, hfr]]
            exact dappend_ok0 h hd hv hf ab cb bs (by omega) (by omega) hrb hst
      | some f =>
        by_cases hfr : freeD D < (bs.length : Int)
        · rw [show appendD D n bs = (D, 30) by simp [appendD, hd, hf, hv, hfr]]
          exact (dappend_full1 h hd hv hf ab cb bs hfr).mono (fun e w' ⟨he, hb⟩ => Did.same h he hb)
        · rw [show appendD D n bs = (stepD (D.files (putF D.fs n ⟨f.all ++ bs, f.kept⟩)), pw (stepD (D.files (putF D.fs n ⟨f.all ++ bs, f.kept⟩))).down) by simp [appendD, hd, hf, hv, hfr]]
          exact dappend_ok1 h hd hv hf ab cb bs (by omega) hrb hst
theorem darm_any (h : DKx S w B m mt D M V) (hst : D.st < 1000000000) (r : Int) (hr : r < 9223372036854775808) : Calls Try.prog 34 #[.pointer (some ⟨B, 0, none⟩), .int .i64 r] w fun e w' => Did S w B e w' (armD D r) := by
  cases hd : D.down with
  | true =>
    rw [show armD D r = (D, 50) by simp [armD, hd]]
    exact (darm_down h hd r).mono (fun e w' ⟨he, hb⟩ => Did.eq h he hb)
  | false =>
    by_cases h0 : r < 0
    · rw [show armD D r = (D, 2) by simp [armD, hd, h0]]
      exact (darm_arg h hd r h0).mono (fun e w' ⟨he, hb⟩ => Did.eq h he hb)
    · rw [show armD D r = (⟨D.room, D.fs, D.st, D.down, true, (D.st : Int) + r⟩, 0) by simp [armD, hd, h0]]
      exact (darm_ok h hd r ⟨by omega, hr⟩ hst).mono (fun e w' ⟨he, hk, ho⟩ => Did.only he ⟨m, mt, M, V, hk⟩ ho)
theorem dresize_any (h : DKx S w B m mt D M V) (r : Int) : Calls Try.prog 40 #[.pointer (some ⟨B, 0, none⟩), .int .i64 r] w fun e w' => Did S w B e w' (resizeD D r) := by
  cases hd : D.down with
  | true =>
    rw [show resizeD D r = (D, 50) by simp [resizeD, hd]]
    exact (dresize_down h hd r).mono (fun e w' ⟨he, hb⟩ => Did.eq h he hb)
  | false =>
    by_cases h0 : r < 0 ∨ 1048576 < r
    · rw [show resizeD D r = (D, 2) by simp [resizeD, hd, h0]]
      exact (dresize_arg h hd r h0).mono (fun e w' ⟨he, hb⟩ => Did.eq h he hb)
    · rw [show resizeD D r = (⟨r, D.fs, D.st, D.down, D.armed, D.after⟩, 0) by unfold resizeD; rw [if_neg (by simp [hd]), if_neg h0]]
      exact (dresize_ok h hd r (by omega)).mono (fun e w' ⟨he, hk, ho⟩ => Did.only he ⟨m, mt, M, V, hk⟩ ho)
theorem dboot_any (h : DKx S w B m mt D M V) : Calls Try.prog 38 #[.pointer (some ⟨B, 0, none⟩)] w fun e w' => Did S w B e w' (bootD D, 0) :=
  (dboot h).mono (fun e w' ⟨he, hk, ho⟩ => Did.only he ⟨m, mt, M, V, hk⟩ ho)
theorem dcrash_did (h : DKx S w B m mt D M V) (a0 : Option Addr) (c0 : Nat) (ts0 : List (Nat × Nat)) (htr : TRow S w a0 ts0) (hc0 : ts0.length ≤ c0) (hwf : ∀ t ∈ ts0, t.1 < 65536 ∧ t.2 < 4294967296) : Calls Try.prog 37 #[.pointer (some ⟨B, 0, none⟩), .slice a0 ts0.length c0] w fun e w' => Did S w B e w' (crashD D ts0, 0) :=
  (dcrash_any h a0 c0 ts0 htr hc0 hwf).mono (fun e w' ⟨he, S', hk, hf⟩ => ⟨S', he, hk, hf⟩)
theorem dread_any (h : DKx S w B m mt D M V) {n : Nm} (hl : n.length ≤ 100000) : Calls Try.prog 79 #[.pointer (some ⟨B, 0, none⟩), encStr n] w fun e w' => ∃ v', e = .returned (.tuple #[v', .int .i64 (readD D n).2]) ∧ RB w' v' (readD D n).1 ∧ Below w.heap.size w w' := by
  cases hd : D.down with
  | true =>
    rw [show readD D n = ([], 50) by simp [readD, hd]]
    exact (dread_down h hd n).mono (fun e w' ⟨he, hb⟩ => ⟨_, he, RB.nil _, hb⟩)
  | false =>
    cases hf : getF D.fs n with
    | none =>
      rw [show readD D n = ([], 31) by simp [readD, hd, hf]]
      exact (dread_none h hd hl hf).mono (fun e w' ⟨he, hb⟩ => ⟨_, he, RB.nil _, hb⟩)
    | some f =>
      rw [show readD D n = (f.all, 0) by simp [readD, hd, hf]]
      have hok := h.df.ok n f hf
      have hle := sum_le (getF_mem hf)
      have hsum := h.df.sum
      exact (dread_ok h hd hl hf).mono (fun e w' ⟨v', he, ho, hb⟩ => ⟨v', he, ho.rb hok.1 (by simp only at hle; omega), hb⟩)
/-- What of a disk's data a call may lean on. -/
structure FitD (D : Dd) : Prop where
  srt : SrtF D.fs
  few : D.fs.length ≤ 128
  sum : sumF D.fs ≤ 1048576
  ok : ∀ n f, getF D.fs n = some f → (∀ c ∈ f.all, c < 256) ∧ f.kept ≤ f.all.length ∧ n.length ≤ 100000
  rm : 0 ≤ D.room ∧ D.room ≤ 1048576
  af : 0 ≤ D.after ∧ D.after < 18446744073709551616
theorem DKx.fit (h : DKx S w B m mt D M V) : FitD D := ⟨h.df.srt, h.df.few, h.df.sum, h.df.ok, h.rm, h.af⟩
theorem DK.fit {S : Nat → Prop} {w : World} {B : Nat} {D : Dd} (h : DK S w B D) : FitD D := by
  obtain ⟨m, mt, M, V, h⟩ := h
  exact h.fit
end
end Go.Proofs.Ythefnakbpalecaa
