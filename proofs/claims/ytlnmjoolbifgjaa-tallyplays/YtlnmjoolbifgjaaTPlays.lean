/-
  TallyPlays's walk.
-/
import Derived.Test.YtlnmjoolbifgjaaTlyQ
import Derived.Test.YtlnmjoolbifgjaaTlyA
import Derived.Test.YtlnmjoolbifgjaaTlyD
import Derived.Deep.RegionHeld3
import Derived.Deep.QuietTactic
import Derived.BigQuiet
namespace Go.Proofs.Ytlnmjoolbifgjaa
open Go.ChangeShapes Go.WideShapes Go.ChangeAt Go.RowKit

/-- Both tallies beside each other. -/
structure Two (w wr : World) (p q b : Nat) (t : Ta) : Prop where
  a : Tk w.heap.size wr p t
  r : Rt w.heap.size wr q b t
  ne : p ≠ q ∧ p ≠ b
  bel : Below w.heap.size w wr
theorem Two.on {w wr u : World} {p q b : Nat} {t : Ta} (h : Two w wr p q b t) (hb : Below wr.heap.size wr u) : Two w u p q b t := ⟨h.a.on hb, h.r.on hb, h.ne, bel_on' h.bel hb⟩
/-- Behind the one's step, and then the other's. -/
theorem Two.step {w wr V : World} {p q b : Nat} {t t' : Ta} (k : Two w wr p q b t) (k2 : Tk w.heap.size V p t') (o2 : Rg.Kept (Own1 p) wr V) : Rt w.heap.size V q b t ∧
    ∀ X, Rt w.heap.size X q b t' → Rg.Kept (Own2 q b) V X → Two w X p q b t' := by
  have r2 : Rt w.heap.size V q b t := k.r.kept o2 (fun _ h => k.ne.1 h.symm) (fun _ h => k.ne.2 h.symm)
  refine ⟨r2, fun X k3 o3 => ⟨k2.kept o3 (fun _ h => ?_), k3, k.ne, (k.bel.trans (k.a.bel o2)).trans (r2.bel o3)⟩⟩
  rcases h with h | h
  · exact k.ne.1 h
  · exact k.ne.2 h
def PRel (w : World) (p q b : Nat) (len : Nat) (i : Value) (wr : World) : Prop :=
  ∃ (j : Nat) (t : Ta), i = .int .i64 j ∧ j ≤ len ∧ Hid (Two w wr p q b t)
theorem kept_cell {X Y : World} {E : Nat → Obj → Prop} {B i : Nat} {v : Value} (hk : Rg.Kept E X Y) (hn : ∀ o, ¬ E B o) (hc : X.cell? ⟨B, i, none⟩ = some v) : Y.cell? ⟨B, i, none⟩ = some v := by
  have hlt : B < X.heap.size := World.block_lt_of_cell? _ _ hc
  have e : X.heap[B]? = some X.heap[B] := Array.getElem?_eq_getElem hlt
  rw [World.cell?_of_block (a := ⟨B, i, none⟩) ((hk.block _ _ e (hn _)).trans e.symm)]
  exact hc
theorem bel_drewN {w u : World} (h : Below w.heap.size w u) (n : Nat) : Below w.heap.size w (u.drewN n) := by
  induction n with
  | zero => exact h
  | succ n ih => exact ih.drew
theorem same_tell {u : World} {L : List Int} {a b : Option Addr} {c c' : Nat} (hL : L.length ≤ 64) (h1 : Ints u a L) (h2 : Ints u b L) :
    Calls Try.prog 15 #[.slice a L.length c, .slice b L.length c'] u fun e w' => e = .returned (.bool true) ∧ Below u.heap.size u w' := by
  refine (same_any a b L L c c' u (by omega) h1 h2).mono ?_
  rintro e w' ⟨rfl, n, rfl⟩
  exact ⟨by simp, bel_drewN (Below.refl _ _) n⟩

set_option maxRecDepth 100000 in
set_option maxHeartbeats 4000000 in
theorem tallyPlays_walk (a0 : Int) (l1 : List Cl) (a1 : Option Addr) (cap1 : Nat) (w : World) (_w0 : (Lit.int .i64 a0).wf = true) (w1 : ClsIn w l1 a1) :
    Calls Try.prog 3 #[.int .i64 a0, .slice a1 l1.length cap1] w fun e w' => e = .returned (.bool true) ∧ Below w.heap.size w w' := by
  obtain ⟨hlen, hcl⟩ := w1
  have HCL := hide hcl
  clear hcl _w0
  have HAW := hide tawake_any
  have N1 := tnew_any a0 w
  have HN2 := hide (rnew_any a0)
  obtain ⟨t0, ht0⟩ : ∃ t0, newT (cutN a0) = t0 := ⟨_, rfl⟩
  rw [ht0] at N1 HN2
  clear ht0
  go_enter Try.func3, Try.ntmps3
  go_wp2_with (first
    | (go_at_call 7; refine N1.mono ?_; clear N1; rintro e u1 ⟨p, rfl, k1, b1⟩; have HK1 := hide k1; have HB1 := hide b1; have N2 := HN2.out u1; clear k1 b1 HN2)
    | (go_at_call 8; refine N2.mono ?_; clear N2; rintro e u2 ⟨q, b, rfl, k2, b2⟩; have HK2 := hide k2; have HB2 := hide b2; clear k2 b2))
  have HST : Hid (Two w u2 p q b t0) := by
    have h1 := HK1.out.lt
    have h2 := HK2.out.low
    have h3 := HB1.out.size
    exact ⟨HK1.out.on HB2.out, HK2.out.mono h3, ⟨by omega, by omega⟩, bel_on' HB1.out HB2.out⟩
  clear HK1 HK2 HB1 HB2
  go_loopw [21] (fun i wr => PRel w p q b l1.length i wr) (fun i _ => l1.length - (intOf i).toNat)
  case atStart => exact ⟨0, t0, rfl, Nat.zero_le _, HST⟩
  case round =>
    obtain ⟨j, t, rfl, hj, HS⟩ := hrel
    clear HST
    by_cases hlt : j < l1.length
    · have ql : (j : Int) < (l1.length : Int) := by omega
      obtain ⟨cl, hc⟩ : ∃ cl, l1[j]? = some cl := ⟨l1[j], by simp [hlt]⟩
      rcases HCL.out.below HS.out.bel with h0 | ⟨bc, off, rfl, hca⟩
      · subst h0; simp at hlt
      obtain ⟨⟨c0, c1, c2⟩, -⟩ := hca j cl hc
      obtain ⟨cc, ci, cy⟩ := cl
      dsimp only at c0 c1 c2
      clear hca hc
      by_cases h200 : j < 200
      · have q200 : ¬ (j : Int) ≥ 200 := by omega
        cases cc
        · obtain ⟨U, hU⟩ : ∃ U, U = wr.alloc (.cells #[.bool false, .int .i64 ci, .bool cy] 28) := ⟨_, rfl⟩
          have hbU : Below wr.heap.size wr U := by rw [hU]; exact (Below.refl _ _).alloc (Nat.le_refl _) _
          have hbD : Below wr.heap.size wr U.drew := hbU.drew
          have HSD := hide (HS.out.on hbD)
          have A := tsay_any HSD.out.a ci cy
          have NR : Hid (∀ V, Rt w.heap.size V q b t → Calls Try.prog 12 #[.pointer (some ⟨q, 0, none⟩), .int .i64 ci, .bool cy] V fun e w' => e = .returned (.bool (t.sayB ci cy)) ∧ Rt w.heap.size w' q b (t.said ci cy) ∧ Rg.Kept (Own2 q b) V w') := fun V k => rsay_any k ci cy
          obtain ⟨e2, he2⟩ : ∃ e2, t.sayB ci cy = e2 := ⟨_, rfl⟩
          obtain ⟨T, hT⟩ : ∃ T, t.said ci cy = T := ⟨_, rfl⟩
          rw [he2, hT] at A NR
          have k0 : U.cell? ⟨wr.heap.size, 0, none⟩ = some (.bool false) := by rw [hU]; simp
          have k1 : U.cell? ⟨wr.heap.size, 1, none⟩ = some (.int .i64 ci) := by rw [hU]; simp
          have k2 : U.cell? ⟨wr.heap.size, 2, none⟩ = some (.bool cy) := by rw [hU]; simp
          have kd1 : U.drew.cell? ⟨wr.heap.size, 1, none⟩ = some (.int .i64 ci) := by simpa using k1
          have kd2 : U.drew.cell? ⟨wr.heap.size, 2, none⟩ = some (.bool cy) := by simpa using k2
          have NA : Hid (∀ V, Tk w.heap.size V p T → Rg.Kept (Own1 p) U.drew V →
              V.cell? ⟨wr.heap.size, 1, none⟩ = some (.int .i64 ci) ∧ V.cell? ⟨wr.heap.size, 2, none⟩ = some (.bool cy) ∧
              (Calls Try.prog 12 #[.pointer (some ⟨q, 0, none⟩), .int .i64 ci, .bool cy] V fun e w' => e = .returned (.bool e2) ∧ Rt w.heap.size w' q b T ∧ Rg.Kept (Own2 q b) V w') ∧
              ∀ X, Rt w.heap.size X q b T → Rg.Kept (Own2 q b) V X → Two w X p q b T ∧ X.cell? ⟨wr.heap.size, 1, none⟩ = some (.int .i64 ci) ∧ X.cell? ⟨wr.heap.size, 2, none⟩ = some (.bool cy)) := fun V K2 O2 => by
            have hp := HS.out.a.lt
            have hqb := HS.out.r.lts
            have hne : ∀ o, ¬ Own1 p wr.heap.size o := fun _ e => by unfold Own1 at e; omega
            have hnf : ∀ o, ¬ Own2 q b wr.heap.size o := fun _ e => by unfold Own2 at e; omega
            obtain ⟨s1, s2⟩ := HSD.out.step K2 O2
            have v1 := kept_cell O2 hne kd1
            have v2 := kept_cell O2 hne kd2
            exact ⟨v1, v2, NR.out V s1, fun X K3 O3 => ⟨s2 X K3 O3, kept_cell O3 hnf v1, kept_cell O3 hnf v2⟩⟩
          have qe : (e2 != e2) = false := by simp
          have HUW := hide hU
          clear hU hbU hbD HSD HS he2 hT kd1 kd2 NR
          go_wp2_with fail
          rw [← HUW.out]
          go_region_held3 (fun w' => w'.cell? ⟨wr.heap.size, 1, none⟩ = some (.int .i64 ci) ∧ w'.cell? ⟨wr.heap.size, 2, none⟩ = some (.bool cy)) (go_keep) (first
            | (go_at_call 11; refine A.mono ?_; clear A; rintro e V ⟨rfl, K2, O2⟩; clear k1 k2; obtain ⟨k1, k2, A2, hnx⟩ := NA.out V K2 O2; have HNX := hide hnx; clear K2 O2 hnx)
            | (go_at_call 12; refine A2.mono ?_; clear A2; rintro e X ⟨rfl, K3, O3⟩; clear k1 k2; obtain ⟨hs3, k1, k2⟩ := HNX.out X K3 O3; have HS3 := hide hs3; clear K3 O3 hs3))
          clear NA HNX HUW k0 k1 k2
          have hT64 : T.waits.length ≤ 64 := by have := T.waits_len; have := HS3.out.a.2.n64; omega
          have HNN : Hid (∀ u, Below X.heap.size X u → Two w u p q b T ∧
              (Calls Try.prog 13 #[.pointer (some ⟨p, 0, none⟩)] u fun e w' => e = .returned (.tuple #[.bool T.f, .bool T.d]) ∧ Below u.heap.size u w') ∧
              (Calls Try.prog 14 #[.pointer (some ⟨q, 0, none⟩)] u fun e w' => e = .returned (.tuple #[.bool T.f, .bool T.d]) ∧ Below u.heap.size u w') ∧
              (Calls Try.prog 16 #[.pointer (some ⟨p, 0, none⟩)] u (TellI u T.waits)) ∧
              (Calls Try.prog 17 #[.pointer (some ⟨q, 0, none⟩)] u (TellI u T.waits))) := fun u hu => by
            have hs := HS3.out.on hu
            exact ⟨hs, tout_any hs.a, rout_any hs.r, twaits_any hs.a, rwaits_any hs.r⟩
          obtain ⟨L, hL⟩ : ∃ L, T.waits = L := ⟨_, rfl⟩
          obtain ⟨Fo, hFo⟩ : ∃ F, T.f = F := ⟨_, rfl⟩
          obtain ⟨De, hDe⟩ : ∃ D, T.d = D := ⟨_, rfl⟩
          rw [hL] at HNN hT64
          rw [hFo, hDe] at HNN
          have qF : (Fo != Fo) = false := by simp
          have qD : (De != De) = false := by simp
          have O1 := (HNN.out X (Below.refl _ _)).2.1
          clear hL hFo hDe HS3
          go_wp2_with (first
            | (go_at_call 13; refine O1.mono ?_; clear O1; rintro e u5 ⟨rfl, b5⟩; have HB5 := hide b5; have O2 := (HNN.out u5 b5).2.2.1; clear b5)
            | (go_at_call 14; refine O2.mono ?_; clear O2; rintro e u6 ⟨rfl, b6⟩; have HB6 := hide (bel_on' HB5.out b6); have W1 := (HNN.out u6 HB6.out).2.2.2.1; clear b6 HB5)
            | (go_at_call 16; refine W1.mono ?_; clear W1; rintro e u7 ⟨a7, c7, rfl, i7, b7⟩; have HB7 := hide (bel_on' HB6.out b7); have HI7 := hide i7; have W2 := (HNN.out u7 HB7.out).2.2.2.2; clear b7 i7 HB6)
            | (go_at_call 17; refine W2.mono ?_; clear W2; rintro e u8 ⟨a8, c8, rfl, i8, b8⟩; have HB8 := hide (bel_on' HB7.out b8); have SM := same_tell (c := c7) (c' := c8) hT64 (HI7.out.below b8) i8; clear b8 i8 HB7)
            | (go_at_call 15; refine SM.mono ?_; clear SM; rintro e u9 ⟨rfl, b9⟩; have HS9 := hide (HNN.out u9 (bel_on' HB8.out b9)).1; clear b9 HB8))
          go_roundw
          case rel => exact ⟨j + 1, T, by go_num, by omega, HS9⟩
          case measure => simp [intOf]; omega
        · obtain ⟨U, hU⟩ : ∃ U, U = wr.alloc (.cells #[.bool true, .int .i64 ci, .bool cy] 28) := ⟨_, rfl⟩
          have hbU : Below wr.heap.size wr U := by rw [hU]; exact (Below.refl _ _).alloc (Nat.le_refl _) _
          have HSD := hide (HS.out.on hbU)
          have A := tclose_any HSD.out.a
          have k0 : U.cell? ⟨wr.heap.size, 0, none⟩ = some (.bool true) := by rw [hU]; simp
          have NA : Hid (∀ V, Tk w.heap.size V p t.close → Rg.Kept (Own1 p) U V →
              (Calls Try.prog 10 #[.pointer (some ⟨q, 0, none⟩)] V fun e w' => e = .returned (.tuple #[]) ∧ Rt w.heap.size w' q b t.close ∧ Rg.Kept (Own2 q b) V w') ∧
              ∀ X, Rt w.heap.size X q b t.close → Rg.Kept (Own2 q b) V X → Two w X p q b t.close) := fun V K2 O2 => by
            obtain ⟨s1, s2⟩ := HSD.out.step K2 O2
            exact ⟨rclose_any s1, s2⟩
          obtain ⟨T, hT⟩ : ∃ T, t.close = T := ⟨_, rfl⟩
          rw [hT] at A NA
          have HUW := hide hU
          clear hU hbU HSD HS hT
          go_wp2_with fail
          rw [← HUW.out]
          go_wp2_with (first
            | (go_at_call 9; refine A.mono ?_; clear A; rintro e V ⟨rfl, K2, O2⟩; obtain ⟨A2, hnx⟩ := NA.out V K2 O2; have HNX := hide hnx; clear K2 O2 hnx)
            | (go_at_call 10; refine A2.mono ?_; clear A2; rintro e X ⟨rfl, K3, O3⟩; have HS3 := hide (HNX.out X K3 O3); clear K3 O3))
          clear NA HNX HUW k0
          have hT64 : T.waits.length ≤ 64 := by have := T.waits_len; have := HS3.out.a.2.n64; omega
          have HNN : Hid (∀ u, Below X.heap.size X u → Two w u p q b T ∧
              (Calls Try.prog 13 #[.pointer (some ⟨p, 0, none⟩)] u fun e w' => e = .returned (.tuple #[.bool T.f, .bool T.d]) ∧ Below u.heap.size u w') ∧
              (Calls Try.prog 14 #[.pointer (some ⟨q, 0, none⟩)] u fun e w' => e = .returned (.tuple #[.bool T.f, .bool T.d]) ∧ Below u.heap.size u w') ∧
              (Calls Try.prog 16 #[.pointer (some ⟨p, 0, none⟩)] u (TellI u T.waits)) ∧
              (Calls Try.prog 17 #[.pointer (some ⟨q, 0, none⟩)] u (TellI u T.waits))) := fun u hu => by
            have hs := HS3.out.on hu
            exact ⟨hs, tout_any hs.a, rout_any hs.r, twaits_any hs.a, rwaits_any hs.r⟩
          obtain ⟨L, hL⟩ : ∃ L, T.waits = L := ⟨_, rfl⟩
          obtain ⟨Fo, hFo⟩ : ∃ F, T.f = F := ⟨_, rfl⟩
          obtain ⟨De, hDe⟩ : ∃ D, T.d = D := ⟨_, rfl⟩
          rw [hL] at HNN hT64
          rw [hFo, hDe] at HNN
          have qF : (Fo != Fo) = false := by simp
          have qD : (De != De) = false := by simp
          have O1 := (HNN.out X (Below.refl _ _)).2.1
          clear hL hFo hDe HS3
          go_wp2_with (first
            | (go_at_call 13; refine O1.mono ?_; clear O1; rintro e u5 ⟨rfl, b5⟩; have HB5 := hide b5; have O2 := (HNN.out u5 b5).2.2.1; clear b5)
            | (go_at_call 14; refine O2.mono ?_; clear O2; rintro e u6 ⟨rfl, b6⟩; have HB6 := hide (bel_on' HB5.out b6); have W1 := (HNN.out u6 HB6.out).2.2.2.1; clear b6 HB5)
            | (go_at_call 16; refine W1.mono ?_; clear W1; rintro e u7 ⟨a7, c7, rfl, i7, b7⟩; have HB7 := hide (bel_on' HB6.out b7); have HI7 := hide i7; have W2 := (HNN.out u7 HB7.out).2.2.2.2; clear b7 i7 HB6)
            | (go_at_call 17; refine W2.mono ?_; clear W2; rintro e u8 ⟨a8, c8, rfl, i8, b8⟩; have HB8 := hide (bel_on' HB7.out b8); have SM := same_tell (c := c7) (c' := c8) hT64 (HI7.out.below b8) i8; clear b8 i8 HB7)
            | (go_at_call 15; refine SM.mono ?_; clear SM; rintro e u9 ⟨rfl, b9⟩; have HS9 := hide (HNN.out u9 (bel_on' HB8.out b9)).1; clear b9 HB8))
          go_roundw
          case rel => exact ⟨j + 1, T, by go_num, by omega, HS9⟩
          case measure => simp [intOf]; omega
      · have q200 : (j : Int) ≥ 200 := by omega
        have HB := hide HS.out.bel
        clear HS HCL
        go_wp2_with (go_at_call 18; refine (HAW.out _).mono ?_; rintro e V5 ⟨rfl, b5⟩; have HB5 := hide b5; clear b5)
        go_ret
        exact ⟨rfl, bel_on' (by first | exact HB.out | exact HB.out.alloc HB.out.size _) HB5.out⟩
    · have ql : ¬ (j : Int) < (l1.length : Int) := by omega
      have HB := hide HS.out.bel
      clear HS HCL
      go_wp2_with (go_at_call 18; refine (HAW.out _).mono ?_; rintro e V5 ⟨rfl, b5⟩; have HB5 := hide b5; clear b5)
      go_ret
      exact ⟨rfl, bel_on' HB.out HB5.out⟩
end Go.Proofs.Ytlnmjoolbifgjaa
