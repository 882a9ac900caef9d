/-
  HoldPlays's walk.
-/
import Derived.Test.YtbdmphcmmilajaaHldA
import Derived.Test.YtbdmphcmmilajaaHldD
import Derived.Test.YtbdmphcmmilajaaHldQ
import Derived.Test.YtbdmphcmmilajaaHldV
import Derived.Test.YtbdmphcmmilajaaNum
import Derived.Deep.RegionHeld3
namespace Go.Proofs.Ytbdmphcmmilajaa
open Go.ChangeShapes Go.WideShapes Go.ChangeAt Go.RowKit Go.Maps

theorem typ_neB : 40 ≠ 51 := by decide
theorem two_apart {B : Nat} {w : World} {p b q : Nat} {left : Int} {h : Int → Int} {n : Nat} {left' : Int} {h' : Int → Int} (k : Bk B w p b left h n) (r : Rb B w q left' h') : q ≠ p ∧ q ≠ b := by
  refine ⟨fun e => ?_, fun e => ?_⟩
  · subst e
    have h1 := r.1
    rw [k.1] at h1
    simp only [Option.some.injEq, Obj.cells.injEq] at h1
    exact typ_neB h1.2.1.symm
  · subst e
    obtain ⟨_, _, _, _, D, ⟨es, c, hb, _⟩, _⟩ := k
    rw [r.1] at hb
    cases hb
theorem same_of {u : World} {B : Nat} {L : List Int} {a b : Option Addr} {c : Nat} (hL : L.length ≤ 1000) (h1 : u.ownsRow B 3 1 (.slice a L.length c) L.length (L.map (Value.int .i64))) (h2 : Ints u b L) (c' : Nat) :
    Calls Try.prog 18 #[.slice a L.length c, .slice b L.length c'] u fun e w' => e = .returned (.bool true) ∧ Below u.heap.size u w' := by
  obtain ⟨a', c'', e1, -, e2⟩ := owned_nums h1
  cases e1
  refine (same_any a b L L c c' u (by omega) e2 h2).mono ?_
  rintro e w' ⟨rfl, n, rfl⟩
  exact ⟨by simp, below_drewN (Below.refl _ _) n⟩
theorem back_more {B : Nat} {w : World} {p b : Nat} {left : Int} {h : Int → Int} {n : Nat} (k : Bk B w p b left h n) {id : Int} (hw : (Lit.int .i64 id).wf = true) :
    Calls Try.prog 10 #[.pointer (some ⟨p, 0, none⟩), .int .i64 id] w fun e w' => e = .returned (.int .i64 (backE h id)) ∧ Bk B w' p b (backL left h id) (backH h id) (n + 1) ∧ Rg.Kept (Own2 p b) w w' :=
  (back_any k hw).mono (fun _ _ ⟨h1, h2, h3⟩ => ⟨h1, h2.mono (Nat.le_succ _), h3⟩)
theorem kept_cell {X Y : World} {E : Nat → Obj → Prop} {B i : Nat} {v : Value} (hk : Rg.Kept E X Y) (hn : ∀ o, ¬ E B o) (hc : X.cell? ⟨B, i, none⟩ = some v) : Y.cell? ⟨B, i, none⟩ = some v := by
  have hlt : B < X.heap.size := World.block_lt_of_cell? _ _ hc
  have e : X.heap[B]? = some X.heap[B] := Array.getElem?_eq_getElem hlt
  rw [World.cell?_of_block (a := ⟨B, i, none⟩) ((hk.block _ _ e (hn _)).trans e.symm)]
  exact hc
def PRel (w : World) (p b q : Nat) (len : Nat) (i : Value) (wr : World) : Prop :=
  ∃ (j : Nat) (left : Int) (h : Int → Int), i = .int .i64 j ∧ j ≤ len ∧ j ≤ 100 ∧ Hid (Bk w.heap.size wr p b left h j) ∧ Hid (Rb w.heap.size wr q left h) ∧ Hid (Below w.heap.size w wr)

set_option maxRecDepth 100000 in
set_option maxHeartbeats 4000000 in
theorem holdPlays_walk (a0 : Int) (l1 : List Cl) (a1 : Option Addr) (cap1 : Nat) (a2 : Int) (w : World) (_w0 : (Lit.int .i64 a0).wf = true) (w1 : ClsIn w l1 a1) (_w2 : (Lit.int .i64 a2).wf = true) :
    Calls Try.prog 3 #[.int .i64 a0, .slice a1 l1.length cap1, .int .i64 a2] w fun e w' => e = .returned (.bool true) ∧ Below w.heap.size w w' := by
  obtain ⟨b0, b1⟩ := um_bd a2 5 (by omega) (by omega)
  obtain ⟨t, ht⟩ : ∃ t : Nat, um a2 5 = t := ⟨(um a2 5).toNat, by omega⟩
  have ht5 : t < 5 := by omega
  unfold um at ht
  clear b0 b1 _w0 _w2
  obtain ⟨hlen, hcl⟩ := w1
  have HCL := hide hcl
  clear hcl
  go_enter Try.func3, Try.ntmps3
  go_wp2_with (first
    | (go_at_call 8; refine (new_any _ w).mono ?_; rintro e u1 ⟨p, b, rfl, k1, hb1⟩; have HK1 := hide k1; have HB1 := hide hb1; clear k1 hb1)
    | (go_at_call 9; refine (rnew_any _ u1).mono ?_; rintro e u2 ⟨rfl, r1, hb2⟩; have HR1 := hide r1; have HB2 := hide hb2; clear r1 hb2))
  have HKS : Hid (Bk w.heap.size u2 p b (clampA a0) (fun _ => 0) 0) := HK1.out.on HB2.out
  have HRS : Hid (Rb w.heap.size u2 u1.heap.size (clampA a0) (fun _ => 0)) := ⟨HR1.out.1, HB1.out.size⟩
  have HBS : Hid (Below w.heap.size w u2) := bel_on' HB1.out HB2.out
  obtain ⟨q, hq⟩ : ∃ q, u1.heap.size = q := ⟨_, rfl⟩
  rw [hq] at HRS ⊢
  clear HK1 HB1 HR1 HB2 hq
  try rw [ht]
  clear ht
  go_loopw [29] (fun i wr => PRel w p b q l1.length i wr) (fun i _ => l1.length - (intOf i).toNat)
  case atStart => exact ⟨0, clampA a0, fun _ => 0, rfl, Nat.zero_le _, Nat.zero_le _, HKS, HRS, HBS⟩
  case round =>
    obtain ⟨j, left, h, rfl, hj, hj100, HK, HR, HB⟩ := hrel
    clear HKS HRS HBS
    by_cases hlt : j < l1.length
    · have ql : (j : Int) < (l1.length : Int) := by omega
      obtain ⟨c, hc⟩ : ∃ c, l1[j]? = some c := ⟨l1[j], by simp [hlt]⟩
      rcases HCL.out.below HB.out with h0 | ⟨bc, off, rfl, hca⟩
      · subst h0; simp at hlt
      obtain ⟨⟨c0, c1, c2⟩, hok⟩ := hca j c hc
      obtain ⟨bk, id, n⟩ := c
      dsimp only at c0 c1 c2 hok
      obtain ⟨U, hU⟩ : ∃ U, U = wr.alloc (.cells #[.bool bk, .int .i64 id, .int .i64 n] 29) := ⟨_, rfl⟩
      have hbU : Below wr.heap.size wr U := by rw [hU]; exact (Below.refl _ _).alloc (Nat.le_refl _) _
      have HKU := hide (HK.out.on hbU)
      have HRU := hide (HR.out.on hbU)
      have HBU := hide (bel_on' HB.out hbU)
      have hwi := hok.1
      have HNE : Hid (wr.heap.size ≠ p ∧ wr.heap.size ≠ b ∧ wr.heap.size ≠ q) := by
        have h1 := HK.out.lt
        have h2 := HK.out.ltb
        have h3 := HR.out.lt
        exact ⟨by omega, by omega, by omega⟩
      clear hca hc hbU HK HR hok
      by_cases h100 : j < 100
      · have q100 : ¬ (j : Int) ≥ 100 := by omega
        cases bk
        · have HG := hide HKU.out.good
          have G2 := (HG.out.take id n)
          have hbD : Below U.heap.size U U.drew := (Below.refl _ _).drew
          have HKD := hide (HKU.out.on hbD)
          have HRD := hide (HRU.out.on hbD)
          have HBD := hide (bel_on' HBU.out hbD)
          have A := (take_any HKD.out (x := n) hwi (by omega))
          have hap := two_apart HKD.out HRD.out
          have hUp : wr.heap.size ≠ p ∧ wr.heap.size ≠ b ∧ wr.heap.size ≠ q := HNE.out
          obtain ⟨E2, hE2⟩ : ∃ E2, takeE left h id n = E2 := ⟨_, rfl⟩
          obtain ⟨L2, hL2⟩ : ∃ L2, takeL left h id n = L2 := ⟨_, rfl⟩
          obtain ⟨h2, hh2⟩ : ∃ h2, takeH left h id n = h2 := ⟨_, rfl⟩
          rw [hE2, hL2, hh2] at A
          rw [hL2, hh2] at G2
          have HG2 := hide G2
          have k1 : U.cell? ⟨wr.heap.size, 1, none⟩ = some (.int .i64 id) := by rw [hU]; simp
          have k2 : U.cell? ⟨wr.heap.size, 2, none⟩ = some (.int .i64 n) := by rw [hU]; simp
          have NA : Hid (∀ u, Rg.Kept (Own2 p b) U.drew u → (u.cell? ⟨wr.heap.size, 1, none⟩ = some (.int .i64 id) ∧ u.cell? ⟨wr.heap.size, 2, none⟩ = some (.int .i64 n)) ∧ Rb w.heap.size u q left h ∧ Below w.heap.size w u ∧
              Calls Try.prog 13 #[.pointer (some ⟨q, 0, none⟩), .int .i64 id, .int .i64 n] u fun e w' => e = .returned (.int .i64 E2) ∧ Rb w.heap.size w' q L2 h2 ∧ Rg.Kept (Own1 q) u w') := fun u ho => by
            have h1 := HRD.out.kept ho (fun _ e => e.elim hap.1 hap.2)
            have h4 := rtake_any h1 HG.out id n
            rw [hE2, hL2, hh2] at h4
            have hn : ∀ o, ¬ Own2 p b wr.heap.size o := fun _ e => e.elim hUp.1 hUp.2.1
            exact ⟨⟨kept_cell ho hn (cellL k1 hbD), kept_cell ho hn (cellL k2 hbD)⟩, h1, HBD.out.trans (HKD.out.bel ho), h4⟩
          have NB : Hid (∀ u u', Bk w.heap.size u p b L2 h2 (j + 1) → Rb w.heap.size u q left h → (u.cell? ⟨wr.heap.size, 1, none⟩ = some (.int .i64 id) ∧ u.cell? ⟨wr.heap.size, 2, none⟩ = some (.int .i64 n)) → Rg.Kept (Own1 q) u u' → ((u'.cell? ⟨wr.heap.size, 1, none⟩ = some (.int .i64 id) ∧ u'.cell? ⟨wr.heap.size, 2, none⟩ = some (.int .i64 n)) ∧ Bk w.heap.size u' p b L2 h2 (j + 1) ∧ Below w.heap.size u u')) := fun u u' x1 x2 ⟨x3, x4⟩ ho => by
            have hn : ∀ o, ¬ Own1 q wr.heap.size o := fun _ e => hUp.2.2 e
            exact ⟨⟨kept_cell ho hn x3, kept_cell ho hn x4⟩, x1.kept ho (fun _ (e : p = q) => hap.1 e.symm) (fun _ (e : b = q) => hap.2 e.symm), x2.bel ho⟩
          have HUW := hide hU
          have HWI := hide hwi
          clear hE2 hL2 hh2 G2 hbD hU hap hUp hwi
          go_wp2_with fail
          rw [← HUW.out]
          go_region_held3 (fun w' => w'.cell? ⟨wr.heap.size, 1, none⟩ = some (.int .i64 id) ∧ w'.cell? ⟨wr.heap.size, 2, none⟩ = some (.int .i64 n)) (go_keep) (first
            | (go_at_call 12; refine A.mono ?_; clear A; rintro e u3 ⟨rfl, hk3, ho3⟩; clear k1 k2; obtain ⟨⟨k1, k2⟩, hr3, hb3, A4⟩ := NA.out u3 ho3; have HK3 := hide hk3; have HR3 := hide hr3; have HB3 := hide hb3; have K12 := hide (And.intro k1 k2); clear hk3 hr3 hb3 ho3)
            | (go_at_call 13; refine A4.mono ?_; clear A4; rintro e u4 ⟨rfl, hr4, ho4⟩; clear k1 k2; obtain ⟨⟨k1, k2⟩, hk4, hb4⟩ := NB.out u3 u4 HK3.out HR3.out K12.out ho4; have HK4 := hide hk4; have HR4 := hide hr4; have HB4 := hide (HB3.out.trans hb4); clear hk4 hr4 ho4 hb4))
          have qE : (E2 == E2) = true := by simp
          clear NA NB k2
          have HA := has_any HK4.out HWI.out
          have HRA := rhas_any HR4.out HG2.out id
          have RI := rids_any HR4.out HG2.out
          obtain ⟨x2, hx2⟩ : ∃ x2, h2 id = x2 := ⟨_, rfl⟩
          obtain ⟨p2, hp2⟩ : ∃ p2, decide (x2 ≠ 0) = p2 := ⟨_, rfl⟩
          rw [hx2, hp2] at HA HRA
          obtain ⟨L, hL⟩ : ∃ L, idsL h2 = L := ⟨_, rfl⟩
          have hLn : L.length ≤ 1000 := by rw [← hL]; exact idsTo_len h2 1000
          have HLQ := hide hL
          rw [hL] at RI
          have qx : (x2 != x2) = false := by simp
          have qp : (p2 != p2) = false := by simp
          clear hx2 hp2 hL
          go_wp2_with (first
            | (go_at_call 14; refine HA.mono ?_; rintro e u ⟨rfl, rfl⟩; clear HA)
            | (go_at_call 15; refine HRA.mono ?_; rintro e u ⟨rfl, rfl⟩; clear HRA)
            | (go_at_call 16; refine RI.mono ?_; rintro e u5 ⟨a5, c5, rfl, hrow5, hb5⟩; clear RI; have HRW5 := hide hrow5; have HB5 := hide hb5; clear hrow5 hb5))
          have HN5 : Hid (∀ u, Below u5.heap.size u5 u → u.cell? ⟨q, 0, none⟩ = some (.int .i64 L2) ∧ Bk w.heap.size u p b L2 h2 (j + 1) ∧ Rb w.heap.size u q L2 h2 ∧ Below w.heap.size w u ∧ Ints u a5 L) := fun u hu => by
            have h1 := HR4.out.on (bel_on' HB5.out hu)
            obtain ⟨a', c', e1, -, e2⟩ := owned_nums HRW5.out
            cases e1
            exact ⟨h1.cell0, HK4.out.on (bel_on' HB5.out hu), h1, bel_on' HB4.out (bel_on' HB5.out hu), e2.below hu⟩
          have HLI : Hid (∀ (m : Nat) (u : World), m ≤ 1000 → Below u5.heap.size u5 u → Calls Try.prog 19 #[.pointer (some ⟨p, 0, none⟩), .int .i64 m] u (OwnInts u (L.take m))) := fun m u hm hu =>
            lids_any (some ⟨p, 0, none⟩) L (by omega) u m hm (fun U2 h3 => by
              have := ids_any ((HN5.out U2 (bel_on' hu h3)).2.1) (by omega)
              rwa [HLQ.out] at this)
          have H5 := hide ((Below.refl u5.heap.size u5).drew)
          have L1 : Calls Try.prog 17 #[.pointer (some ⟨p, 0, none⟩)] u5.drew fun e w' => e = .returned (.int .i64 L2) ∧ Below u5.drew.heap.size u5.drew w' := (left_any (HN5.out _ H5.out).2.1).mono (fun _ _ ⟨h1, h3⟩ => ⟨h1, by rw [← h3]; exact Below.refl _ _⟩)
          have d1 := (HN5.out u5 (Below.refl _ _)).1
          have qL : (L2 != L2) = false := by simp
          clear k1
          go_wp2_with fail
          go_region_held3 (fun w' => w'.cell? ⟨q, 0, none⟩ = some (.int .i64 L2)) (go_keep) (first
            | (go_at_call 17; refine L1.mono ?_; clear L1; rintro e u7 ⟨rfl, hb7⟩; have HB7 := hide (bel_on' H5.out hb7); clear d1; obtain ⟨d1, -⟩ := HN5.out u7 HB7.out; have I7 := HLI.out 1000 u7 (by omega) HB7.out; rw [List.take_of_length_le hLn] at I7; clear hb7)
            | (go_at_call 19; refine I7.mono ?_; clear I7; rintro e u8 ⟨a8, c8, rfl, -, hrow8, hb8⟩; have HB8 := hide (bel_on' HB7.out hb8); clear d1; obtain ⟨d1, -, -, -, hi8⟩ := HN5.out u8 HB8.out; have S8 := same_of hLn hrow8 hi8 c5; clear hb8 hrow8 hi8)
            | (go_at_call 18; refine S8.mono ?_; clear S8; rintro e u9 ⟨rfl, hb9⟩; have HB9 := hide (bel_on' HB8.out hb9); clear d1; obtain ⟨d1, -⟩ := HN5.out u9 HB9.out; have I9 := HLI.out t u9 (by omega) HB9.out; clear hb9)
            | (go_at_call 19; refine I9.mono ?_; clear I9; rintro e u10 ⟨a10, c10, rfl, -, -, hb10⟩; have HB10 := hide (bel_on' HB9.out hb10); clear d1; obtain ⟨d1, -⟩ := HN5.out u10 HB10.out; have qz : (((L.take t).length : Int) == min (t : Int) (L.length : Int)) = true := (by simp; omega); have qy : (((L.take t).length : Int) != min (t : Int) (L.length : Int)) = false := (by simp; omega); clear hb10))
          go_wp2
          all_goals go_roundw
          all_goals (first | exact ⟨j + 1, L2, h2, by go_num, by omega, by omega, (HN5.out u10 HB10.out).2.1, (HN5.out u10 HB10.out).2.2.1, (HN5.out u10 HB10.out).2.2.2.1⟩ | (simp [intOf]; omega))
        · have HG := hide HKU.out.good
          have G2 := (HG.out.back id)
          have hbD : Below U.heap.size U U.drew := (Below.refl _ _).drew
          have HKD := hide (HKU.out.on hbD)
          have HRD := hide (HRU.out.on hbD)
          have HBD := hide (bel_on' HBU.out hbD)
          have A := (back_more HKD.out hwi)
          have hap := two_apart HKD.out HRD.out
          have hUp : wr.heap.size ≠ p ∧ wr.heap.size ≠ b ∧ wr.heap.size ≠ q := HNE.out
          obtain ⟨E2, hE2⟩ : ∃ E2, backE h id = E2 := ⟨_, rfl⟩
          obtain ⟨L2, hL2⟩ : ∃ L2, backL left h id = L2 := ⟨_, rfl⟩
          obtain ⟨h2, hh2⟩ : ∃ h2, backH h id = h2 := ⟨_, rfl⟩
          rw [hE2, hL2, hh2] at A
          rw [hL2, hh2] at G2
          have HG2 := hide G2
          have k1 : U.cell? ⟨wr.heap.size, 1, none⟩ = some (.int .i64 id) := by rw [hU]; simp
          have k2 : U.cell? ⟨wr.heap.size, 2, none⟩ = some (.int .i64 n) := by rw [hU]; simp
          have NA : Hid (∀ u, Rg.Kept (Own2 p b) U.drew u → (u.cell? ⟨wr.heap.size, 1, none⟩ = some (.int .i64 id) ∧ u.cell? ⟨wr.heap.size, 2, none⟩ = some (.int .i64 n)) ∧ Rb w.heap.size u q left h ∧ Below w.heap.size w u ∧
              Calls Try.prog 11 #[.pointer (some ⟨q, 0, none⟩), .int .i64 id] u fun e w' => e = .returned (.int .i64 E2) ∧ Rb w.heap.size w' q L2 h2 ∧ Rg.Kept (Own1 q) u w') := fun u ho => by
            have h1 := HRD.out.kept ho (fun _ e => e.elim hap.1 hap.2)
            have h4 := rback_any h1 HG.out id
            rw [hE2, hL2, hh2] at h4
            have hn : ∀ o, ¬ Own2 p b wr.heap.size o := fun _ e => e.elim hUp.1 hUp.2.1
            exact ⟨⟨kept_cell ho hn (cellL k1 hbD), kept_cell ho hn (cellL k2 hbD)⟩, h1, HBD.out.trans (HKD.out.bel ho), h4⟩
          have NB : Hid (∀ u u', Bk w.heap.size u p b L2 h2 (j + 1) → Rb w.heap.size u q left h → (u.cell? ⟨wr.heap.size, 1, none⟩ = some (.int .i64 id) ∧ u.cell? ⟨wr.heap.size, 2, none⟩ = some (.int .i64 n)) → Rg.Kept (Own1 q) u u' → ((u'.cell? ⟨wr.heap.size, 1, none⟩ = some (.int .i64 id) ∧ u'.cell? ⟨wr.heap.size, 2, none⟩ = some (.int .i64 n)) ∧ Bk w.heap.size u' p b L2 h2 (j + 1) ∧ Below w.heap.size u u')) := fun u u' x1 x2 ⟨x3, x4⟩ ho => by
            have hn : ∀ o, ¬ Own1 q wr.heap.size o := fun _ e => hUp.2.2 e
            exact ⟨⟨kept_cell ho hn x3, kept_cell ho hn x4⟩, x1.kept ho (fun _ (e : p = q) => hap.1 e.symm) (fun _ (e : b = q) => hap.2 e.symm), x2.bel ho⟩
          have HUW := hide hU
          have HWI := hide hwi
          clear hE2 hL2 hh2 G2 hbD hU hap hUp hwi
          go_wp2_with fail
          rw [← HUW.out]
          go_region_held3 (fun w' => w'.cell? ⟨wr.heap.size, 1, none⟩ = some (.int .i64 id) ∧ w'.cell? ⟨wr.heap.size, 2, none⟩ = some (.int .i64 n)) (go_keep) (first
            | (go_at_call 10; refine A.mono ?_; clear A; rintro e u3 ⟨rfl, hk3, ho3⟩; clear k1 k2; obtain ⟨⟨k1, k2⟩, hr3, hb3, A4⟩ := NA.out u3 ho3; have HK3 := hide hk3; have HR3 := hide hr3; have HB3 := hide hb3; have K12 := hide (And.intro k1 k2); clear hk3 hr3 hb3 ho3)
            | (go_at_call 11; refine A4.mono ?_; clear A4; rintro e u4 ⟨rfl, hr4, ho4⟩; clear k1 k2; obtain ⟨⟨k1, k2⟩, hk4, hb4⟩ := NB.out u3 u4 HK3.out HR3.out K12.out ho4; have HK4 := hide hk4; have HR4 := hide hr4; have HB4 := hide (HB3.out.trans hb4); clear hk4 hr4 ho4 hb4))
          have qE : (E2 == E2) = true := by simp
          clear NA NB k2
          have HA := has_any HK4.out HWI.out
          have HRA := rhas_any HR4.out HG2.out id
          have RI := rids_any HR4.out HG2.out
          obtain ⟨x2, hx2⟩ : ∃ x2, h2 id = x2 := ⟨_, rfl⟩
          obtain ⟨p2, hp2⟩ : ∃ p2, decide (x2 ≠ 0) = p2 := ⟨_, rfl⟩
          rw [hx2, hp2] at HA HRA
          obtain ⟨L, hL⟩ : ∃ L, idsL h2 = L := ⟨_, rfl⟩
          have hLn : L.length ≤ 1000 := by rw [← hL]; exact idsTo_len h2 1000
          have HLQ := hide hL
          rw [hL] at RI
          have qx : (x2 != x2) = false := by simp
          have qp : (p2 != p2) = false := by simp
          clear hx2 hp2 hL
          go_wp2_with (first
            | (go_at_call 14; refine HA.mono ?_; rintro e u ⟨rfl, rfl⟩; clear HA)
            | (go_at_call 15; refine HRA.mono ?_; rintro e u ⟨rfl, rfl⟩; clear HRA)
            | (go_at_call 16; refine RI.mono ?_; rintro e u5 ⟨a5, c5, rfl, hrow5, hb5⟩; clear RI; have HRW5 := hide hrow5; have HB5 := hide hb5; clear hrow5 hb5))
          have HN5 : Hid (∀ u, Below u5.heap.size u5 u → u.cell? ⟨q, 0, none⟩ = some (.int .i64 L2) ∧ Bk w.heap.size u p b L2 h2 (j + 1) ∧ Rb w.heap.size u q L2 h2 ∧ Below w.heap.size w u ∧ Ints u a5 L) := fun u hu => by
            have h1 := HR4.out.on (bel_on' HB5.out hu)
            obtain ⟨a', c', e1, -, e2⟩ := owned_nums HRW5.out
            cases e1
            exact ⟨h1.cell0, HK4.out.on (bel_on' HB5.out hu), h1, bel_on' HB4.out (bel_on' HB5.out hu), e2.below hu⟩
          have HLI : Hid (∀ (m : Nat) (u : World), m ≤ 1000 → Below u5.heap.size u5 u → Calls Try.prog 19 #[.pointer (some ⟨p, 0, none⟩), .int .i64 m] u (OwnInts u (L.take m))) := fun m u hm hu =>
            lids_any (some ⟨p, 0, none⟩) L (by omega) u m hm (fun U2 h3 => by
              have := ids_any ((HN5.out U2 (bel_on' hu h3)).2.1) (by omega)
              rwa [HLQ.out] at this)
          have H5 := hide ((Below.refl u5.heap.size u5).drew)
          have L1 : Calls Try.prog 17 #[.pointer (some ⟨p, 0, none⟩)] u5.drew fun e w' => e = .returned (.int .i64 L2) ∧ Below u5.drew.heap.size u5.drew w' := (left_any (HN5.out _ H5.out).2.1).mono (fun _ _ ⟨h1, h3⟩ => ⟨h1, by rw [← h3]; exact Below.refl _ _⟩)
          have d1 := (HN5.out u5 (Below.refl _ _)).1
          have qL : (L2 != L2) = false := by simp
          clear k1
          go_wp2_with fail
          go_region_held3 (fun w' => w'.cell? ⟨q, 0, none⟩ = some (.int .i64 L2)) (go_keep) (first
            | (go_at_call 17; refine L1.mono ?_; clear L1; rintro e u7 ⟨rfl, hb7⟩; have HB7 := hide (bel_on' H5.out hb7); clear d1; obtain ⟨d1, -⟩ := HN5.out u7 HB7.out; have I7 := HLI.out 1000 u7 (by omega) HB7.out; rw [List.take_of_length_le hLn] at I7; clear hb7)
            | (go_at_call 19; refine I7.mono ?_; clear I7; rintro e u8 ⟨a8, c8, rfl, -, hrow8, hb8⟩; have HB8 := hide (bel_on' HB7.out hb8); clear d1; obtain ⟨d1, -, -, -, hi8⟩ := HN5.out u8 HB8.out; have S8 := same_of hLn hrow8 hi8 c5; clear hb8 hrow8 hi8)
            | (go_at_call 18; refine S8.mono ?_; clear S8; rintro e u9 ⟨rfl, hb9⟩; have HB9 := hide (bel_on' HB8.out hb9); clear d1; obtain ⟨d1, -⟩ := HN5.out u9 HB9.out; have I9 := HLI.out t u9 (by omega) HB9.out; clear hb9)
            | (go_at_call 19; refine I9.mono ?_; clear I9; rintro e u10 ⟨a10, c10, rfl, -, -, hb10⟩; have HB10 := hide (bel_on' HB9.out hb10); clear d1; obtain ⟨d1, -⟩ := HN5.out u10 HB10.out; have qz : (((L.take t).length : Int) == min (t : Int) (L.length : Int)) = true := (by simp; omega); have qy : (((L.take t).length : Int) != min (t : Int) (L.length : Int)) = false := (by simp; omega); clear hb10))
          go_wp2
          all_goals go_roundw
          all_goals (first | exact ⟨j + 1, L2, h2, by go_num, by omega, by omega, (HN5.out u10 HB10.out).2.1, (HN5.out u10 HB10.out).2.2.1, (HN5.out u10 HB10.out).2.2.2.1⟩ | (simp [intOf]; omega))
      · have q100 : (j : Int) ≥ 100 := by omega
        have AW := hawake_any U
        rw [hU] at AW
        go_wp2_with (go_at_call 20; refine AW.mono ?_; rintro e u ⟨rfl, b3⟩)
        go_ret
        rw [← hU] at b3
        exact ⟨rfl, bel_on' HBU.out b3⟩
    · have ql : ¬ (j : Int) < (l1.length : Int) := by omega
      have AW := hawake_any wr
      go_wp2_with (go_at_call 20; refine AW.mono ?_; rintro e u ⟨rfl, b3⟩)
      go_ret
      exact ⟨rfl, bel_on' HB.out b3⟩
end Go.Proofs.Ytbdmphcmmilajaa
