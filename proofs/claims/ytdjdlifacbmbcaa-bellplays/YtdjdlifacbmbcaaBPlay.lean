/-
  BellPlays' walk.
-/
import Derived.Test.YtdjdlifacbmbcaaBelW
import Derived.Test.YtdjdlifacbmbcaaBelD
import Derived.Test.YtdjdlifacbmbcaaBelU
import Derived.Test.YtdjdlifacbmbcaaNum
import Derived.Deep.RegionHeld3
namespace Go.Proofs.Ytdjdlifacbmbcaa
open Go.ChangeShapes Go.WideShapes Go.ChangeAt Go.RowKit Go.Maps

theorem same_of {u : World} {B : Nat} {L : List Int} {a b : Option Addr} {c : Nat} (hL : L.length ≤ 1000) (h1 : u.ownsRow B 3 1 (.slice a L.length c) L.length (L.map (Value.int .i64))) (h2 : Ints u b L) (c' : Nat) :
    Calls Try.prog 18 #[.slice a L.length c, .slice b L.length c'] u fun e w' => e = .returned (.bool true) ∧ Below u.heap.size u w' := by
  obtain ⟨a', c'', e1, -, e2⟩ := owned_nums h1
  cases e1
  refine (same_any a b L L c c' u (by omega) e2 h2).mono ?_
  rintro e w' ⟨rfl, n, rfl⟩
  exact ⟨by simp, below_drewN (Below.refl _ _) n⟩
/-- Both towers beside each other. -/
def Two (w : World) (p q : Nat) (wr : World) (t : Int) (h : Int → Int) (n : Nat) : Prop :=
  ∃ E, Bt w.heap.size E wr p t h n ∧ Rt w.heap.size wr q t h ∧ ¬ E q ∧ Below w.heap.size w wr
section
variable {w : World} {p q N n : Nat} {wr V w1 U : World} {t : Int} {h h' : Int → Int}
theorem Two.bel (k : Two w p q wr t h n) : Below w.heap.size w wr := by obtain ⟨E, _, _, _, h4⟩ := k; exact h4
theorem Two.good (k : Two w p q wr t h n) : GoodT t h := by obtain ⟨E, h1, _⟩ := k; exact h1.good
theorem Two.to (k : Two w p q wr t h n) : To w wr p t h n := by obtain ⟨E, h1, _, _, h4⟩ := k; exact ⟨⟨E, h1⟩, h4⟩
theorem Two.rt (k : Two w p q wr t h n) : Rt w.heap.size wr q t h := by obtain ⟨E, _, h2, _⟩ := k; exact h2
theorem Two.on (k : Two w p q wr t h n) (hb : Below wr.heap.size wr U) : Two w p q U t h n := by
  obtain ⟨E, h1, h2, h3, h4⟩ := k
  exact ⟨E, h1.on hb, Rw.on h2 hb, h3, bel_on' h4 hb⟩
/-- The program's has gone its step, the reference's has not; V's blocks from N on lie as they lay. -/
def Mid (w : World) (p q N : Nat) (V w1 : World) (t : Int) (h h' : Int → Int) (n : Nat) : Prop :=
  ∃ E, Bt w.heap.size E w1 p t h' n ∧ Rt w.heap.size w1 q t h ∧ ¬ E q ∧ GoodT t h ∧ q < N ∧ Below w.heap.size w w1 ∧ ∀ (k : Nat) (o : Obj), N ≤ k → V.heap[k]? = some o → w1.heap[k]? = some o
theorem Mid.old (k : Mid w p q N V w1 t h h' n) : ∀ (k : Nat) (o : Obj), N ≤ k → V.heap[k]? = some o → w1.heap[k]? = some o := by
  obtain ⟨E, _, _, _, _, _, _, h7⟩ := k
  exact h7
theorem Two.stepP (k : Two w p q wr t h n) (hV : Below wr.heap.size wr V) {f : Nat} {args : Array Value} {r : Ending}
    (hc : ∀ E, Bt w.heap.size E V p t h n → Calls Try.prog f args V fun e w' => e = r ∧ (∃ E', Bt w.heap.size E' w' p t h' (n + 1) ∧ ∀ k, E' k → E k ∨ V.heap.size ≤ k) ∧ Rg.Kept (fun i _ => E i) V w') : Calls Try.prog f args V fun e w' => e = r ∧ Mid w p q wr.heap.size V w' t h h' (n + 1) := by
  obtain ⟨E, h1, h2, h3, h4⟩ := k
  refine (hc E (h1.on hV)).mono ?_
  rintro e w' ⟨rfl, ⟨E', k1, k2⟩, k3⟩
  have hq : q < wr.heap.size := Rw.lt h2
  refine ⟨rfl, E', k1, Rw.kept (Rw.on h2 hV) k3 (fun _ e => h3 e), fun e => ?_, h1.good, hq, (bel_on' h4 hV).trans ((h1.on hV).bel k3), fun k o hk ho => k3.block k o ho (fun e => ?_)⟩
  · rcases k2 _ e with e | e
    · exact h3 e
    · have h6 := hV.size
      omega
  · have := (h1.1 k e).2
    omega
theorem Mid.stepQ (k : Mid w p q N V w1 t h h' n) (hU : Below w1.heap.size w1 U) {f : Nat} {args : Array Value} {r : Ending}
    (hc : Rt w.heap.size U q t h → GoodT t h → Calls Try.prog f args U fun e w' => e = r ∧ Rt w.heap.size w' q t h' ∧ Rg.Kept (fun i _ => i = q) U w') : Calls Try.prog f args U fun e w' => e = r ∧ Two w p q w' t h' n ∧ ∀ (k : Nat) (o : Obj), N ≤ k → U.heap[k]? = some o → w'.heap[k]? = some o := by
  obtain ⟨E, h1, h2, h3, h4, h5, h6, h7⟩ := k
  refine (hc (Rw.on h2 hU) h4).mono ?_
  rintro e w' ⟨rfl, k1, k3⟩
  exact ⟨rfl, ⟨E, (h1.on hU).kept k3 (fun k _ e e2 => h3 (by rw [← e2]; exact e)), k1, h3, (bel_on' h6 hU).trans (Rw.bel (Rw.on h2 hU) k3)⟩, fun k o hk ho => k3.block k o ho (fun e => by omega)⟩
end
/-- What stands between two rounds. -/
def PRel (w : World) (p q : Nat) (t : Int) (len : Nat) (i : Value) (wr : World) : Prop :=
  ∃ (j : Nat) (h : Int → Int), i = .int .i64 j ∧ j ≤ len ∧ j ≤ 100 ∧ Hid (Two w p q wr t h j)

set_option maxRecDepth 100000 in
set_option maxHeartbeats 4000000 in
theorem bellPlays_walk (a0 : Int) (l1 : List Cl) (a1 : Option Addr) (cap1 : Nat) (a2 : Int) (w : World) (_w0 : (Lit.int .i64 a0).wf = true) (w1 : ClsIn w l1 a1) (_w2 : (Lit.int .i64 a2).wf = true) :
    Calls Try.prog 3 #[.int .i64 a0, .slice a1 l1.length cap1, .int .i64 a2] w fun e w' => e = .returned (.bool true) ∧ Below w.heap.size w w' := by
  obtain ⟨b0, b1⟩ := um_bd a2 5 (by omega) (by omega)
  obtain ⟨s, hs⟩ : ∃ s : Nat, um a2 5 = s := ⟨(um a2 5).toNat, by omega⟩
  have hs5 : s < 5 := by omega
  unfold um at hs
  clear b0 b1 _w0 _w2
  obtain ⟨hlen, hcl⟩ := w1
  have HCL := hide hcl
  clear hcl
  go_enter Try.func3, Try.ntmps3
  go_wp2_with (first
    | (go_at_call 7; refine (bnew_any _ w).mono ?_; rintro e u1 ⟨p, rfl, hp, k1, hb1⟩; have HK1 := hide k1; have HB1 := hide hb1; have HP := hide hp; clear k1 hb1 hp)
    | (go_at_call 8; refine (rtnew_any _ u1).mono ?_; rintro e u2 ⟨rfl, r1, hb2⟩; have HR1 := hide r1; have HB2 := hide hb2; clear r1 hb2))
  have HT0 : Hid (Two w p u1.heap.size u2 (clampT a0) (fun _ => 0) 0) := by
    have hp := HP.out
    have hz := (HK1.out.1 p HK1.out.2.1).2
    exact ⟨_, HK1.out.on HB2.out, ⟨HR1.out.1, HB1.out.size⟩, fun (e : u1.heap.size = p) => by omega, bel_on' HB1.out HB2.out⟩
  clear HK1 HR1 HB1 HB2 HP
  obtain ⟨q, hq⟩ : ∃ q, u1.heap.size = q := ⟨_, rfl⟩
  obtain ⟨t, ht⟩ : ∃ t, clampT a0 = t := ⟨_, rfl⟩
  rw [hq, ht] at HT0
  rw [hq, hs]
  clear hq ht hs
  go_loopw [29] (fun i wr => PRel w p q t l1.length i wr) (fun i _ => l1.length - (intOf i).toNat)
  case atStart => exact ⟨0, _, rfl, Nat.zero_le _, by omega, HT0⟩
  case round =>
    obtain ⟨j, h, rfl, hj, hj100, HT⟩ := hrel
    clear HT0
    by_cases hlt : j < l1.length
    rotate_left
    · have ql : ¬ (j : Int) < (l1.length : Int) := by omega
      go_wp2_with (go_at_call 20; refine (bawake_any _).mono ?_; rintro e u6 ⟨rfl, b6⟩; have HB6 := hide b6; clear b6)
      go_ret
      exact ⟨rfl, bel_on' HT.out.bel HB6.out⟩
    have ql : (j : Int) < (l1.length : Int) := by omega
    obtain ⟨c, hc⟩ : ∃ c, l1[j]? = some c := ⟨l1[j], by simp [hlt]⟩
    rcases HCL.out.below HT.out.bel with hh | ⟨b, off, rfl, hca⟩
    · subst hh; simp at hlt
    obtain ⟨⟨c0, c1⟩, hok⟩ := hca j c hc
    have HWI := hide hok.2
    obtain ⟨V, hV⟩ : ∃ V, wr.alloc (.cells #[.int .i64 c.d, .int .i64 c.id] 29) = V := ⟨_, rfl⟩
    have HBV : Hid (Below wr.heap.size wr V) := by show Below _ _ _; rw [← hV]; exact bel_al (Below.refl _ _) _
    have HXV : Hid (V.heap[wr.heap.size]? = some (.cells #[.int .i64 c.d, .int .i64 c.id] 29 (0, 0))) := by show _ = _; rw [← hV]; exact World.alloc_heap_new _ _
    clear hca hc hok
    have d0 : V.cell? ⟨wr.heap.size, 0, none⟩ = some (.int .i64 c.d) := by rw [cell_of HXV.out]; rfl
    have d1 : V.cell? ⟨wr.heap.size, 1, none⟩ = some (.int .i64 c.id) := by rw [cell_of HXV.out]; rfl
    by_cases h100 : j < 100
    rotate_left
    · have qj : (j : Int) ≥ 100 := by omega
      go_wp2_with (go_at_call 20; refine (bawake_any _).mono ?_; rintro e u6 ⟨rfl, b6⟩; have HB6 := hide b6; clear b6)
      go_ret
      exact ⟨rfl, bel_on' (bel_on' HT.out.bel HBV.out) HB6.out⟩
    have qj : ¬ (j : Int) ≥ 100 := by omega
    go_upto_block 2 with fail
    clear hV c0 c1
    go_cut [11, 12, 13, 14, 15] from 38 to 92 (fun k _ _ _ _ wx => ∃ h' : Int → Int, k = .bool true ∧ Hid (Two w p q wx t h' (j + 1)))
    case first =>
      by_cases h0 : c.d = 0
      · have e0 : (c.d == 0) = true := by simp [h0]
        clear h0
        have P1 := HT.out.stepP (h' := hangH t h c.id) (r := .returned (.bool (hangB h c.id))) (V := V.drew) (bel_on' HBV.out (Below.refl _ _).drew) (fun E k => (bhang_any k HWI.out (by omega)).mono (fun e w' hh => ⟨hh.1, ⟨_, hh.2.1, fun k e => e.imp id (fun e => e.1)⟩, hh.2.2⟩))
        have HP2 : Hid (∀ v1, Mid w p q wr.heap.size V.drew v1 t h (hangH t h c.id) (j + 1) → Calls Try.prog 10 #[.pointer (some ⟨q, 0, none⟩), .int .i64 c.id] v1 fun e w' => e = .returned (.bool (hangB h c.id)) ∧ Two w p q w' t (hangH t h c.id) (j + 1) ∧ ∀ (k : Nat) (o : Obj), wr.heap.size ≤ k → v1.heap[k]? = some o → w'.heap[k]? = some o) := fun v1 m1 => m1.stepQ (Below.refl _ _) (fun k g => rthang_any k g c.id)
        obtain ⟨y, hy⟩ : ∃ y, hangB h c.id = y := ⟨_, rfl⟩
        obtain ⟨h', hh'⟩ : ∃ h', hangH t h c.id = h' := ⟨_, rfl⟩
        rw [hy, hh'] at P1 HP2
        have hyy : (y == y) = true := by simp
        clear hy hh'
        go_wp2_with fail
        go_region_held3 (fun w' => w'.cell? ⟨wr.heap.size, 1, none⟩ = some (.int .i64 c.id)) (go_keep) (first
          | (go_at_call 9; refine P1.mono ?_; clear P1; rintro e v1 ⟨rfl, m1⟩; have P2 := HP2.out _ m1; have HX1 := hide (m1.old _ _ (Nat.le_refl _) HXV.out); clear m1 d0 d1; have d1 : v1.cell? ⟨wr.heap.size, 1, none⟩ = some (.int .i64 c.id) := (by rw [cell_of HX1.out]; rfl))
          | (go_at_call 10; refine P2.mono ?_; clear P2; rintro e v2 ⟨rfl, m2, o2⟩; have HM2 := hide m2; have HX2 := hide (o2 _ _ (Nat.le_refl _) HX1.out); clear m2 o2 d1; have d1 : v2.cell? ⟨wr.heap.size, 1, none⟩ = some (.int .i64 c.id) := (by rw [cell_of HX2.out]; rfl))
          | fail)
        all_goals (go_wp2_with fail; go_meet; exact ⟨_, rfl, HM2⟩)
      have e0 : (c.d == 0) = false := by simp [h0]
      by_cases h1 : c.d = 1
      · have e1 : (c.d == 1) = true := by simp [h1]
        clear h0 h1
        have P1 := HT.out.stepP (h' := cutH h c.id) (r := .returned (.bool (hasB h c.id))) (V := V.drew) (bel_on' HBV.out (Below.refl _ _).drew) (fun E k => (bcut_any k HWI.out).mono (fun e w' hh => ⟨hh.1, ⟨_, hh.2.1, fun k e => .inl e⟩, hh.2.2⟩))
        have HP2 : Hid (∀ v1, Mid w p q wr.heap.size V.drew v1 t h (cutH h c.id) (j + 1) → Calls Try.prog 12 #[.pointer (some ⟨q, 0, none⟩), .int .i64 c.id] v1 fun e w' => e = .returned (.bool (hasB h c.id)) ∧ Two w p q w' t (cutH h c.id) (j + 1) ∧ ∀ (k : Nat) (o : Obj), wr.heap.size ≤ k → v1.heap[k]? = some o → w'.heap[k]? = some o) := fun v1 m1 => m1.stepQ (Below.refl _ _) (fun k g => rtcut_any k g c.id)
        obtain ⟨y, hy⟩ : ∃ y, hasB h c.id = y := ⟨_, rfl⟩
        obtain ⟨h', hh'⟩ : ∃ h', cutH h c.id = h' := ⟨_, rfl⟩
        rw [hy, hh'] at P1 HP2
        have hyy : (y == y) = true := by simp
        clear hy hh'
        go_wp2_with fail
        go_region_held3 (fun w' => w'.cell? ⟨wr.heap.size, 1, none⟩ = some (.int .i64 c.id)) (go_keep) (first
          | (go_at_call 11; refine P1.mono ?_; clear P1; rintro e v1 ⟨rfl, m1⟩; have P2 := HP2.out _ m1; have HX1 := hide (m1.old _ _ (Nat.le_refl _) HXV.out); clear m1 d0 d1; have d1 : v1.cell? ⟨wr.heap.size, 1, none⟩ = some (.int .i64 c.id) := (by rw [cell_of HX1.out]; rfl))
          | (go_at_call 12; refine P2.mono ?_; clear P2; rintro e v2 ⟨rfl, m2, o2⟩; have HM2 := hide m2; have HX2 := hide (o2 _ _ (Nat.le_refl _) HX1.out); clear m2 o2 d1; have d1 : v2.cell? ⟨wr.heap.size, 1, none⟩ = some (.int .i64 c.id) := (by rw [cell_of HX2.out]; rfl))
          | fail)
        all_goals (go_wp2_with fail; go_meet; exact ⟨_, rfl, HM2⟩)
      have e1 : (c.d == 1) = false := by simp [h1]
      by_cases h2 : c.d = 2
      · have e2 : (c.d == 2) = true := by simp [h2]
        clear h0 h1 h2
        have P1 := HT.out.stepP (h' := agnH t h c.id) (r := .returned (.bool (hasB h c.id))) (V := V.drew) (bel_on' HBV.out (Below.refl _ _).drew) (fun E k => (bagn_any k HWI.out (by omega)).mono (fun e w' hh => ⟨hh.1, ⟨_, hh.2.1, fun k e => .inl e⟩, hh.2.2⟩))
        have HP2 : Hid (∀ v1, Mid w p q wr.heap.size V.drew v1 t h (agnH t h c.id) (j + 1) → Calls Try.prog 14 #[.pointer (some ⟨q, 0, none⟩), .int .i64 c.id] v1 fun e w' => e = .returned (.bool (hasB h c.id)) ∧ Two w p q w' t (agnH t h c.id) (j + 1) ∧ ∀ (k : Nat) (o : Obj), wr.heap.size ≤ k → v1.heap[k]? = some o → w'.heap[k]? = some o) := fun v1 m1 => m1.stepQ (Below.refl _ _) (fun k g => rtagn_any k g c.id)
        obtain ⟨y, hy⟩ : ∃ y, hasB h c.id = y := ⟨_, rfl⟩
        obtain ⟨h', hh'⟩ : ∃ h', agnH t h c.id = h' := ⟨_, rfl⟩
        rw [hy, hh'] at P1 HP2
        have hyy : (y == y) = true := by simp
        clear hy hh'
        go_wp2_with fail
        go_region_held3 (fun w' => w'.cell? ⟨wr.heap.size, 1, none⟩ = some (.int .i64 c.id)) (go_keep) (first
          | (go_at_call 13; refine P1.mono ?_; clear P1; rintro e v1 ⟨rfl, m1⟩; have P2 := HP2.out _ m1; have HX1 := hide (m1.old _ _ (Nat.le_refl _) HXV.out); clear m1 d0 d1; have d1 : v1.cell? ⟨wr.heap.size, 1, none⟩ = some (.int .i64 c.id) := (by rw [cell_of HX1.out]; rfl))
          | (go_at_call 14; refine P2.mono ?_; clear P2; rintro e v2 ⟨rfl, m2, o2⟩; have HM2 := hide m2; have HX2 := hide (o2 _ _ (Nat.le_refl _) HX1.out); clear m2 o2 d1; have d1 : v2.cell? ⟨wr.heap.size, 1, none⟩ = some (.int .i64 c.id) := (by rw [cell_of HX2.out]; rfl))
          | fail)
        all_goals (go_wp2_with fail; go_meet; exact ⟨_, rfl, HM2⟩)
      · have e2 : (c.d == 2) = false := by simp [h2]
        clear h0 h1 h2
        have P1 := HT.out.stepP (h' := ringH h c.id) (r := .returned (.tuple #[.bool (hasB h c.id), .bool (oftB h c.id)])) HBV.out (fun E k => (bring_any k HWI.out (by omega)).mono (fun e w' hh => ⟨hh.1, ⟨_, hh.2.1, fun k e => .inl e⟩, hh.2.2⟩))
        have HP2 : Hid (∀ v1, Mid w p q wr.heap.size V v1 t h (ringH h c.id) (j + 1) → Calls Try.prog 16 #[.pointer (some ⟨q, 0, none⟩), .int .i64 c.id] v1 fun e w' => e = .returned (.tuple #[.bool (hasB h c.id), .bool (oftB h c.id)]) ∧ Two w p q w' t (ringH h c.id) (j + 1) ∧ ∀ (k : Nat) (o : Obj), wr.heap.size ≤ k → v1.heap[k]? = some o → w'.heap[k]? = some o) := fun v1 m1 => m1.stepQ (Below.refl _ _) (fun k g => rtring_any k g c.id)
        obtain ⟨y, hy⟩ : ∃ y, hasB h c.id = y := ⟨_, rfl⟩
        obtain ⟨z, hz⟩ : ∃ z, oftB h c.id = z := ⟨_, rfl⟩
        obtain ⟨h', hh'⟩ : ∃ h', ringH h c.id = h' := ⟨_, rfl⟩
        rw [hy, hz, hh'] at P1 HP2
        have hyy : (y == y) = true := by simp
        have hzz : (z == z) = true := by simp
        clear hy hh' hz
        go_wp2_with (first
          | (go_at_call 15; refine P1.mono ?_; clear P1; rintro e v1 ⟨rfl, m1⟩; have P2 := HP2.out _ m1; have HX1 := hide (m1.old _ _ (Nat.le_refl _) HXV.out); clear m1 d0 d1; have d1 : v1.cell? ⟨wr.heap.size, 1, none⟩ = some (.int .i64 c.id) := (by rw [cell_of HX1.out]; rfl))
          | (go_at_call 16; refine P2.mono ?_; clear P2; rintro e v2 ⟨rfl, m2, o2⟩; have HM2 := hide m2; clear m2 o2 d1))
        go_meet
        exact ⟨_, rfl, HM2⟩
    case rest =>
      obtain ⟨h', rfl, HT2⟩ := hcut
      clear d0 d1 HXV HBV HT
      have RI := rtids_any HT2.out.rt HT2.out.good
      obtain ⟨L, hL⟩ : ∃ L, idsL h' = L := ⟨_, rfl⟩
      have hLn : L.length ≤ 1000 := by rw [← hL]; exact idsTo_len h' 1000
      have HLQ := hide hL
      rw [hL] at RI
      clear hL
      have HTW : Hid (∀ u, Below wc.heap.size wc u → Two w p q u t h' (j + 1)) := fun u hu => HT2.out.on hu
      have HI1 : Hid (∀ u, Below wc.heap.size wc u → Calls Try.prog 19 #[.pointer (some ⟨p, 0, none⟩), .int .i64 1000] u (OwnInts u L)) := fun u hu => by
        have := (HTW.out u hu).to.ids (by omega) HLQ.out (m := 1000) (by omega)
        rwa [List.take_of_length_le hLn] at this
      have HI2 : Hid (∀ u, Below wc.heap.size wc u → Calls Try.prog 19 #[.pointer (some ⟨p, 0, none⟩), .int .i64 s] u fun e w' => ∃ a c, e = .returned (.slice a (min s L.length) c) ∧ Below u.heap.size u w') := fun u hu => by
        refine ((HTW.out u hu).to.ids (by omega) HLQ.out (m := s) (by omega)).mono ?_
        rintro e w' ⟨a, c, rfl, -, -, bb⟩
        exact ⟨a, c, by rw [List.length_take], bb⟩
      have HLn := hide hLn
      clear HT2 hLn
      by_cases hmin : (L.length : Int) < (s : Int)
      all_goals
        first | rw [show min s L.length = L.length by omega] at HI2 | rw [show min s L.length = s by omega] at HI2
        go_wp2_with (first
          | (go_at_call 17; refine RI.mono ?_; rintro e u5 ⟨a5, c5, rfl, hrow5, hb5⟩; clear RI; have HRW5 := hide hrow5; have HB5 := hide hb5; have I5 := HI1.out u5 hb5; clear hrow5 hb5)
          | (go_at_call 19; refine I5.mono ?_; clear I5; rintro e u6 ⟨a6, c6, rfl, -, hrow6, hb6⟩; obtain ⟨a', c', e1, -, e2⟩ := owned_nums HRW5.out; cases e1; have S6 := same_of HLn.out hrow6 (e2.below hb6) c5; have HB6 := hide (bel_on' HB5.out hb6); clear hrow6 hb6 e2)
          | (go_at_call 18; refine S6.mono ?_; clear S6; rintro e u7 ⟨rfl, hb7⟩; have HB7 := hide (bel_on' HB6.out hb7); have I7 := HI2.out u7 HB7.out; clear hb7)
          | (go_at_call 19; refine I7.mono ?_; clear I7; rintro e u8 ⟨a8, c8, rfl, hb8⟩; have HB8 := hide (bel_on' HB7.out hb8); clear hb8))
        go_roundw
        case rel => exact ⟨j + 1, _, by go_num, by omega, by omega, HTW.out _ HB8.out⟩
        case measure => simp [intOf]; omega
end Go.Proofs.Ytdjdlifacbmbcaa
