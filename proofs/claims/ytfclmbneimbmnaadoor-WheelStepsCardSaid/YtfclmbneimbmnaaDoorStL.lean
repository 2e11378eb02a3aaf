/- The merge, by induction; the stable sort of a row of things; the program's Sort. -/
import Derived.Test.YtfclmbneimbmnaaDoorStK
namespace Go.Proofs.YtfclmbneimbmnaaDoor
open Go.RowKit Go.Lib Go.Sort Go.Shelf

theorem symP {P : Program} {k : Nat} (H : Hat P k) (blk off cap sz : Nat) (d0 : Array (Th × Nat)) (w0 : World) (R : RKk k w0 blk off d0) (hs : d0.size = sz) (hsz : sz < 4611686018427387904) :
    ∀ (N a m b : Nat) (d : Array (Th × Nat)) (w : World), b - a ≤ N → d.size = sz → SWk k w0 blk off d w → a < m → m < b → b ≤ sz → Mergeable ltT a m b d →
    Calls P 129 #[.slice (some ⟨blk, off, none⟩) sz cap, .int .i64 a, .int .i64 m, .int .i64 b, .func (.func 68) #[] #[]] w fun e w' =>
      e = .returned (.tuple #[]) ∧ ∃ X, SWk k w0 blk off X w' ∧ Merged ltT a b d X := by
  intro N
  induction N with
  | zero => intro a m b d w h; intros; omega
  | succ N ih =>
    intro a m b d w hN hd S ham hmb hb hM
    subst hd
    by_cases e1 : m = a + 1
    · subst e1
      exact symOneP H blk off cap a b d0 d w0 w R hs S hmb hb hsz hM
    · by_cases e2 : b = m + 1
      · subst e2
        exact symLastP H blk off cap a m d0 d w0 w R hs S (by omega) hb hsz hM
      · exact symMoreP H blk off cap a m b d0 d w0 w R hs S (by omega) (by omega) hb hsz hM (fun a' m' b' d' w' h1 h2 h3 h4 h5 h6 h7 => ih a' m' b' d' w' (by omega) h2 h3 h4 h5 h6 h7)

/-- Insertion, for a program by another name. -/
theorem insertionP {P : Program} {k : Nat} (hP : P = Tryd.prog) (hk : k = 3) (blk off cap a b sz : Nat) (d0 d : Array (Th × Nat)) (w0 w : World) (R : RKk k w0 blk off d0) (hs : d0.size = sz) (hd : d.size = sz) (S : SWk k w0 blk off d w) (hab : a ≤ b) (hb : b ≤ sz) (hsz : sz < 4611686018427387904)
    (hown : ∀ p, a ≤ p → p < b → (d[p]!).2 = p) :
    Calls P 128 #[.slice (some ⟨blk, off, none⟩) sz cap, .int .i64 a, .int .i64 b, .func (.func 68) #[] #[]] w fun e w' =>
      e = .returned (.tuple #[]) ∧ ∃ X, SWk k w0 blk off X w' ∧ PermIn a b d X ∧ Seg ltT a b X := by
  subst hP hk hd
  have hh := insertion_seg ltT_swo d a b hab hb hown
  exact (insertion_any blk off cap a b d0 d w0 w R hs S hab hb hsz).mono fun e w' ⟨h1, h2⟩ => ⟨h1, _, h2, hh.1, hh.2⟩

set_option maxHeartbeats 8000000 in
set_option maxRecDepth 1000000 in
theorem stableP {P : Program} {k : Nat} (H : Hat P k) (hP : P = Tryd.prog) (hk : k = 3) (blk off cap n : Nat) (d0 : Array (Th × Nat)) (w0 w : World) (R : RKk k w0 blk off d0) (hs : d0.size = n) (S : SWk k w0 blk off d0 w) (hsz : n < 1152921504606846976)
    (hown : ∀ p, p < n → (d0[p]!).2 = p) :
    Calls P 115 #[.slice (some ⟨blk, off, none⟩) n cap, .int .i64 n, .func (.func 68) #[] #[]] w fun e w' =>
      e = .returned (.tuple #[]) ∧ ∃ X, SWk k w0 blk off X w' ∧ PermIn 0 n d0 X ∧ SortedIn (lexB ltT) 0 n X := by
  have S0 : Aside (SWk k w0 blk off d0 w) := S
  clear S
  have HSym : Hid (∀ (a m b : Nat) (d : Array (Th × Nat)) (w : World), d.size = n → SWk k w0 blk off d w → a < m → m < b → b ≤ n → Mergeable ltT a m b d →
    Calls P 129 #[.slice (some ⟨blk, off, none⟩) n cap, .int .i64 a, .int .i64 m, .int .i64 b, .func (.func 68) #[] #[]] w fun e w' =>
      e = .returned (.tuple #[]) ∧ ∃ X, SWk k w0 blk off X w' ∧ Merged ltT a b d X) := fun a m b d w h1 h2 h3 h4 h5 h6 => symP H blk off cap n d0 w0 R hs (by omega) _ a m b d w (Nat.le_refl _) h1 h2 h3 h4 h5 h6
  have HIns : Hid (∀ (a b : Nat) (d : Array (Th × Nat)) (w : World), d.size = n → SWk k w0 blk off d w → a ≤ b → b ≤ n → (∀ p, a ≤ p → p < b → (d[p]!).2 = p) →
    Calls P 128 #[.slice (some ⟨blk, off, none⟩) n cap, .int .i64 a, .int .i64 b, .func (.func 68) #[] #[]] w fun e w' =>
      e = .returned (.tuple #[]) ∧ ∃ X, SWk k w0 blk off X w' ∧ PermIn a b d X ∧ Seg ltT a b X) := fun a b d w h1 h2 h3 h4 h5 => insertionP hP hk blk off cap a b n d0 d w0 w R hs h1 h2 h3 h4 (by omega) h5
  have HOwn : Hid (∀ p, p < n → (d0[p]!).2 = p) := hown
  clear hown hP hk
  obtain ⟨mixed, t0, a0, z0, v0, t3, a3, z3, v3, t4, a4, z4, v4, t22, a22, z22, v22, t97, a97, z97, v97, t125, a125, z125, v125, aE, zE, e43, cmp, f76, f77, f79, f80, f68⟩ := H
  have e77 : ∀ args w, (callFunc 129 args).run P w = .ok (.enter 129 args) w := enters_of f77 (by kernel_rfl) rfl
  have e76 : ∀ args w, (callFunc 128 args).run P w = .ok (.enter 128 args) w := enters_of f76 (by kernel_rfl) rfl
  clear f76 f77 f79 f80 cmp
  go_enter f68, Tryd.ntmps115
  clear f68
  go_wp2
  go_loopg [7, 8] n (fun kx s7 s8 wr => ∃ (a : Nat) (dk : Array (Th × Nat)), s7 = .int .i64 a ∧ s8 = .int .i64 ((a : Int) + 20) ∧ a ≤ n ∧ n - a ≤ kx ∧ Aside (SWk k w0 blk off dk wr) ∧ Hid (First ltT 20 a n d0 dk))
  case atStart => exact ⟨0, d0, by first | rfl | go_num, by first | rfl | go_num, Nat.zero_le _, by omega, S0, First.start HOwn.out⟩
  case round =>
    clear S0
    obtain ⟨a, dk, rfl, rfl, han, hkx, S1, HF⟩ := hrel
    have hds : dk.size = n := HF.out.perm.1.trans hs
    by_cases hlt : a + 20 ≤ n
    · have hltz : (a : Int) + 20 ≤ (n : Int) := by omega
      obtain ⟨a2, ha2⟩ : ∃ a2, a + 20 = a2 := ⟨_, rfl⟩
      have hz2 : (a : Int) + 20 = (a2 : Int) := by omega
      rw [hz2] at hltz
      rw [hz2]
      have hr := HIns.out a a2 dk wr hds S1.out (by omega) (by omega) (fun p hp hpa => HF.out.hi p hp (by omega))
      go_wp2_with (go_at_fn 128; refine hr.mono ?_; rintro e w2 ⟨rfl, X, hX, hP1, hS1⟩)
      go_roundg (n - a2)
      case measure => omega
      case rel =>
        refine ⟨a2, X, rfl, by go_num, by omega, Nat.le_refl _, hX, (show Hid _ from ?_)⟩
        have := HF.out.step (by omega) (by omega) (by rw [ha2]; exact hP1) (by rw [ha2]; exact hS1)
        rwa [ha2] at this
    · have hltz : ¬ (a : Int) + 20 ≤ (n : Int) := by omega
      have hr := HIns.out a n dk wr hds S1.out (by omega) (Nat.le_refl _) (fun p hp hpa => HF.out.hi p hp (by omega))
      go_wp2_with (go_at_fn 128; refine hr.mono ?_; rintro e w2 ⟨rfl, X, hX, hP1, hS1⟩)
      have HB : Hid (Blk ltT 20 n X) := HF.out.done (by omega) hP1 hS1
      have HPX : Hid (PermIn 0 n d0 X) := permIn_trans _ _ _ _ _ HF.out.perm (permIn_mono dk X a n 0 n (Nat.zero_le _) (Nat.le_refl _) (by omega) hP1)
      have SX : Aside (SWk k w0 blk off X w2) := hX
      clear hX hP1 hS1 HF S1 hr
      go_loopg [6, 7, 8, 9] n (fun kx s6 s7 s8 s9 wr => ∃ (s : Nat) (z7 z8 : Int) (dk : Array (Th × Nat)), s6 = .int .i64 s ∧ s7 = .int .i64 z7 ∧ s8 = .int .i64 z8 ∧ 20 ≤ s ∧ s ≤ n + n + 20 ∧ n - s ≤ kx ∧ Aside (SWk k w0 blk off dk wr) ∧ Hid (Blk ltT s n dk) ∧ Hid (PermIn 0 n d0 dk))
      case atStart => exact ⟨20, _, _, X, by first | rfl | go_num, rfl, rfl, by omega, by omega, by omega, SX, HB, HPX⟩
      case round =>
        clear SX HB HPX
        obtain ⟨s, z7, z8, dj, rfl, rfl, rfl, h20, hsn, hkx2, S2, HB, HPX⟩ := hrel
        have hdj : dj.size = n := HPX.out.1.trans hs
        by_cases hlt2 : s < n
        · have hltz2 : (s : Int) < (n : Int) := by omega
          obtain ⟨t, ht⟩ : ∃ t, s + s = t := ⟨_, rfl⟩
          have wt : IntKind.i64.wrap (2 * (s : Int)) = (t : Int) := by rw [IntKind.wrap_i64]; omega
          have wt' : IntKind.i64.wrap ((s : Int) * 2) = (t : Int) := by rw [IntKind.wrap_i64]; omega
          go_wp2_with fail
          go_loopg [7, 8] n (fun kx s7 s8 wr => ∃ (x : Nat) (dk : Array (Th × Nat)), s7 = .int .i64 x ∧ s8 = .int .i64 ((x : Int) + (t : Int)) ∧ x ≤ n ∧ n - x ≤ kx ∧ Aside (SWk k w0 blk off dk wr) ∧ Hid (Half ltT s t x n dk) ∧ Hid (PermIn 0 n d0 dk))
          case atStart => exact ⟨0, dj, by first | rfl | go_num, by first | rfl | go_num, Nat.zero_le _, by omega, S2, Half.start HB.out, HPX⟩
          case round =>
            clear S2 HB HPX hdj
            obtain ⟨x, dk2, rfl, rfl, hxn, hkx3, S3, HH, HP3⟩ := hrel
            have hd3 : dk2.size = n := HP3.out.1.trans hs
            obtain ⟨x1, hx1⟩ : ∃ x1, x + s = x1 := ⟨_, rfl⟩
            obtain ⟨x2, hx2⟩ : ∃ x2, x + t = x2 := ⟨_, rfl⟩
            have hz2 : (x : Int) + (t : Int) = (x2 : Int) := by omega
            have wx1 : IntKind.i64.wrap ((x : Int) + (s : Int)) = (x1 : Int) := by rw [IntKind.wrap_i64]; omega
            rw [hz2]
            by_cases hlt3 : x2 ≤ n
            · have hltz3 : (x2 : Int) ≤ (n : Int) := by omega
              have hr := HSym.out x x1 x2 dk2 wr hd3 S3.out (by omega) (by omega) (by omega) (by rw [← hx1]; exact (HH.out.left ht.symm (by omega) (by omega)).mergeable (HH.out.right ht.symm (by omega) (by omega)))
              have wx2 : IntKind.i64.wrap ((x2 : Int) + (t : Int)) = (x2 : Int) + (t : Int) := by rw [IntKind.wrap_i64]; omega
              go_wp2_with (go_at_fn 129; refine hr.mono ?_; rintro e w3 ⟨rfl, X2, hX2, hM2⟩)
              go_roundg (n - x2)
              case measure => omega
              case rel =>
                refine ⟨x2, X2, rfl, rfl, hlt3, Nat.le_refl _, hX2, (show Hid _ from ?_), (show Hid _ from ?_)⟩
                · have := HH.out.step ht.symm (by omega) (by omega) (by omega) (by rw [hx2]; exact hM2)
                  rwa [hx2] at this
                · exact permIn_trans _ _ _ _ _ HP3.out (permIn_mono dk2 X2 x x2 0 n (Nat.zero_le _) hlt3 (by omega) hM2.perm)
            · have hltz3 : ¬ (x2 : Int) ≤ (n : Int) := by omega
              by_cases hlt4 : x1 < n
              · have hltz4 : (x1 : Int) < (n : Int) := by omega
                have hr := HSym.out x x1 n dk2 wr hd3 S3.out (by omega) hlt4 (Nat.le_refl _) (by rw [← hx1]; exact (HH.out.left ht.symm (by omega) (by omega)).mergeable (HH.out.right ht.symm (by omega) (by omega)))
                go_wp2_with (go_at_fn 129; refine hr.mono ?_; rintro e w3 ⟨rfl, X2, hX2, hM2⟩)
                go_roundg (n - t)
                case measure => omega
                case rel => exact ⟨t, _, _, X2, by go_num, rfl, rfl, by omega, by omega, Nat.le_refl _, hX2, HH.out.last ht.symm (by omega) (by omega) (by omega) (by omega) hM2, permIn_trans _ _ _ _ _ HP3.out (permIn_mono dk2 X2 x n 0 n (Nat.zero_le _) (Nat.le_refl _) (by omega) hM2.perm)⟩
              · have hltz4 : ¬ (x1 : Int) < (n : Int) := by omega
                go_wp2
                go_roundg (n - t)
                case measure => omega
                case rel => exact ⟨t, _, _, dk2, by go_num, rfl, rfl, by omega, by omega, Nat.le_refl _, S3, HH.out.none ht.symm (by omega) (by omega), HP3⟩
        · have hltz2 : ¬ (s : Int) < (n : Int) := by omega
          go_wp2
          go_end0
          refine ⟨rfl, dj, S2.out, HPX.out, ?_⟩
          by_cases h0 : 0 < n
          · have := (HB.out 0 ⟨0, rfl⟩ h0).up
            rwa [show min (0 + s) n = n by omega] at this
          · intro p q _ _ hq; omega
end Go.Proofs.YtfclmbneimbmnaaDoor
