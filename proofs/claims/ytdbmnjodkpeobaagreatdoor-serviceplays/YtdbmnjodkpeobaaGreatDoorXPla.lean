/-
  ServicePlays: the walk.
-/
import Derived.Test.YtdbmnjodkpeobaaGreatDoorBd21
import Derived.Deep.CutBlock
import Derived.Deep.CutRange
import Derived.Deep.RegionHeld3
namespace Go.Proofs.YtdbmnjodkpeobaaGreatDoor
open Go.ChangeShapes Go.WideShapes Go.ChangeAt Go.RowKit Go.Maps

def capN (v : Sv) (j : Nat) : Nat := if v.down = true then 3 * j else 10000 + 3 * j
theorem capN_le (v : Sv) {j : Nat} (h : j ≤ 80) : capN v j ≤ 20000 := by unfold capN; split <;> omega
theorem capN_hd (v : Sv) (m : Ms.Mg) {n j : Nat} (h : n ≤ capN v j) : n + 3 ≤ capN (hdS v m) (j + 1) := by
  unfold capN at h ⊢
  rw [hdS_down]
  cases hd : v.down
  · simp [hd] at h ⊢; omega
  · simp [hd] at h ⊢; omega
theorem capN_up (v : Sv) {n j : Nat} (h : n ≤ capN v j) : (if v.down = true then n + 10000 else n) ≤ capN (upS v) (j + 1) := by
  unfold capN at h ⊢
  unfold upS
  cases hd : v.down
  · simp [hd] at h ⊢; omega
  · simp [hd] at h ⊢; omega
theorem hdA_len (v : Sv) (m : Ms.Mg) : (hdA v m).length ≤ 1 := by unfold hdA; split <;> simp
def PlRel (w : World) (p q : Nat) (len : Nat) (i : Value) (wr : World) : Prop :=
  ∃ (j : Nat) (E F : Nat → Prop) (v : Sv) (n : Nat), i = .int .i64 j ∧ j ≤ len ∧ j ≤ 80 ∧ Hid (Tb w wr E F p q v v n) ∧ Hid (n ≤ capN v j)

set_option maxRecDepth 100000 in
set_option maxHeartbeats 8000000 in
theorem servicePlays_walk (a0 a1 a2 : Int) (l3 : List C19.Cl) (a3 : Option Addr) (cap3 : Nat) (w : World) (_w0 : (Lit.int .i64 a0).wf = true) (_w1 : (Lit.int .i64 a1).wf = true) (_w2 : (Lit.int .i64 a2).wf = true) (w3 : C19.ClsIn w l3 a3) (hg : Gl w) :
    Calls Tryz.prog 3 #[.int .i64 a0, .int .i64 a1, .int .i64 a2, .slice a3 l3.length cap3] w fun e w' => e = .returned (.bool true) ∧ Below w.heap.size w w' := by
  obtain ⟨hlen, hcl⟩ := w3
  have HCL := hide hcl
  clear _w0 _w1 _w2 hcl
  by_cases hnd : 4 ≤ a0 ∧ a0 ≤ 6
  rotate_left
  · have N1 := snew_no a0 a1 a2 hnd w
    have N2 := rsnew_no a0 a1 a2 hnd w
    clear hnd
    go_enter Tryz.func3, Tryz.ntmps3
    go_wp2_with (first
      | (go_at_call 7; refine N1.mono ?_; clear N1; rintro e w' ⟨rfl, rfl⟩)
      | (go_at_call 8; refine N2.mono ?_; clear N2; rintro e w' ⟨rfl, rfl⟩)
      | (go_at_call 9; refine (swake_any _ hg).mono ?_; rintro e u7 ⟨rfl, hb7⟩; have HB7 := hide hb7; clear hb7))
    go_ret
    exact ⟨rfl, HB7.out⟩
  have N1 := snew_any a0 a1 a2 hnd w
  have HN2 : Hid (∀ u, Calls Tryz.prog 8 #[.int .i64 a0, .int .i64 a1, .int .i64 a2] u fun e w' => ∃ p E, e = .returned (.pointer (some ⟨p, 0, none⟩)) ∧ Rs u.heap.size E w' p (newSv a0 a1 a2) ∧ Below u.heap.size u w') := fun u => rsnew_any a0 a1 a2 hnd u
  clear hnd
  go_enter Tryz.func3, Tryz.ntmps3
  go_wp2_with (first
    | (go_at_call 7; refine N1.mono ?_; clear N1; rintro e u1 ⟨p, E0, rfl, k1, hb1⟩; have K1 := hide k1; have HB1 := hide hb1; have N2 := HN2.out u1; clear k1 hb1 HN2)
    | (go_at_call 8; refine N2.mono ?_; clear N2; rintro e u2 ⟨q, F0, rfl, k2, hb2⟩; have K2 := hide k2; have HB2 := hide hb2; clear k2 hb2))
  have HT0 : Hid (Tb w u2 E0 F0 p q (newSv a0 a1 a2) (newSv a0 a1 a2) 0) := by
    obtain ⟨h1, h2, jq, r, pb, h3⟩ := K2.out
    have hs := HB1.out.size
    have lowJ : ∀ {B B' : Nat} {V : World} {P : Nat} {vv : Value} {room : Int} {L : List ByteArray} {su : Nat} {dn : Bool}, B' ≤ B → R.Jr B V P vv room L su dn → R.Jr B' V P vv room L su dn := fun hl h => by
      obtain ⟨h1, h2, ⟨h3, h4⟩, h5⟩ := h
      refine ⟨h1, Nat.le_trans hl h2, ⟨h3, ?_⟩, h5⟩
      rcases h4 with h4 | ⟨g, cp, cur, e, hg, rest⟩
      · exact .inl h4
      · exact .inr ⟨g, cp, cur, e, Nat.le_trans hl hg, rest⟩
    refine ⟨K1.out.on HB2.out, ⟨fun k e => ⟨by have := (h1 k e).1; omega, (h1 k e).2⟩, h2, jq, r, pb, ⟨h3.blk, lowJ hs h3.jr, ⟨h3.rb.1, Nat.le_trans hs h3.rb.2⟩, h3.gd, h3.ep, h3.eq, h3.er, h3.eb⟩⟩, fun k e hF => ?_, bel_on' HB1.out HB2.out⟩
    have := (K1.out.1 k e).2
    have := (h1 k hF).1
    omega
  clear K1 K2 HB1 HB2
  go_loopw [32] (fun i wr => PlRel w p q l3.length i wr) (fun i _ => l3.length - (intOf i).toNat)
  case atStart => exact ⟨0, E0, F0, _, 0, rfl, Nat.zero_le _, by omega, HT0, Nat.zero_le _⟩
  case round =>
    obtain ⟨j, E, F, v, n, rfl, hj, hj80, HT, HN⟩ := hrel
    clear HT0
    by_cases hlt : j < l3.length
    rotate_left
    · have ql : ¬ (j : Int) < (l3.length : Int) := by omega
      go_wp2_with (go_at_call 9; refine (swake_any _ (hg.on HT.out.bel)).mono ?_; rintro e u6 ⟨rfl, b6⟩; have HB6 := hide b6; clear b6)
      go_ret
      exact ⟨rfl, bel_on' HT.out.bel HB6.out⟩
    have ql : (j : Int) < (l3.length : Int) := by omega
    obtain ⟨⟨cd, sy, tn, m⟩, hc⟩ : ∃ c, l3[j]? = some c := ⟨l3[j], by simp [hlt]⟩
    rcases HCL.out.below HT.out.bel with hh | ⟨bb, off, rfl, hca⟩
    · subst hh; simp at hlt
    have hx := hca j _ hc
    dsimp only at hx
    obtain ⟨⟨c0, c1, c2, c3, c4, c5, c6, c7, c8, c9⟩, hok⟩ := hx
    have HWI : Hid ((Lit.int .i64 m.id).wf = true) := hok.2.2.2.2.2.2.1
    obtain ⟨V, hV⟩ : ∃ V, wr.alloc (.cells #[.int .i64 cd, .int .i64 sy, .int .i64 tn, .int .i64 m.k, .int .i64 m.fr, .int .i64 m.to, .int .i64 m.id, .int .i64 m.st, .int .i64 m.a, .int .i64 m.b] 31) = V := ⟨_, rfl⟩
    have hbV : Below wr.heap.size wr V := by rw [← hV]; exact (Below.refl _ _).alloc (Nat.le_refl _) _
    have HXV : Hid (Ac V E F wr.heap.size (.cells #[.int .i64 cd, .int .i64 sy, .int .i64 tn, .int .i64 m.k, .int .i64 m.fr, .int .i64 m.to, .int .i64 m.id, .int .i64 m.st, .int .i64 m.a, .int .i64 m.b] 31 (0, 0))) := ⟨by rw [← hV]; exact World.alloc_heap_new _ _, fun e => by have := (HT.out.a.1 _ e).2; omega, fun e => by have := (HT.out.b.1 _ e).2; omega⟩
    have KV := hide (HT.out.on hbV)
    obtain ⟨⟨d0, d1, d2⟩, d3, d4, d5, d6, d7, d8, d9⟩ := ten_of HXV.out.1
    clear hca hc hok hbV HT
    by_cases h80 : j < 80
    rotate_left
    · have qj : (j : Int) ≥ 80 := by omega
      go_wp2_with (go_at_call 9; refine (swake_any _ (hg.on KV.out.bel)).mono ?_; rintro e u6 ⟨rfl, b6⟩; have HB6 := hide b6; clear b6)
      go_ret
      exact ⟨rfl, bel_on' KV.out.bel HB6.out⟩
    have qj : ¬ (j : Int) ≥ 80 := by omega
    have hn2 : n < 500000 := by have := HN.out; have := capN_le v hj80; omega
    go_upto_block 2 with fail
    clear hV c0 c1 c2 c3 c4 c5 c6 c7 c8 c9
    go_cut [13] from 41 to 69 (fun k wx => ∃ (E' F' : Nat → Prop) (v' : Sv) (n' : Nat), k = .bool true ∧ Hid (Tb w wx E' F' p q v' v' n') ∧ Hid (n' ≤ capN v' (j + 1)) ∧ Hid (Ac wx E' F' wr.heap.size (.cells #[.int .i64 cd, .int .i64 sy, .int .i64 tn, .int .i64 m.k, .int .i64 m.fr, .int .i64 m.to, .int .i64 m.id, .int .i64 m.st, .int .i64 m.a, .int .i64 m.b] 31 (0, 0))))
    case first =>
      by_cases h0 : cd = 0
      · have e0 : (cd == 0) = true := by simp [h0]
        clear h0
        have C1 := KV.out.crashP HXV.out sy tn
        go_wp2_with (first
          | (go_at_call 10; refine C1.mono ?_; clear C1; rintro e u1 ⟨⟨z1, rfl⟩, E1, t1, x1⟩; clear d0 d1 d2 d3 d4 d5 d6 d7 d8 d9; obtain ⟨⟨d0, d1, d2⟩, d3, d4, d5, d6, d7, d8, d9⟩ := ten_of x1.1; have C2 := t1.crashQ x1 sy tn; clear t1 x1)
          | (go_at_call 11; refine C2.mono ?_; clear C2; rintro e u2 ⟨⟨z2, rfl⟩, F1, t2, x2⟩; have HT2 := hide t2; have HX2 := hide x2; clear t2 x2))
        go_meet
        exact ⟨_, _, _, _, rfl, HT2, Nat.zero_le _, HX2⟩
      have e0 : (cd == 0) = false := by simp [h0]
      by_cases h1 : cd = 1
      · have e1 : (cd == 1) = true := by simp [h1]
        clear h0 h1
        have C1 := KV.out.startP hg HXV.out (by omega)
        go_wp2_with (first
          | (go_at_call 12; refine C1.mono ?_; clear C1; rintro e u1 ⟨⟨z1, rfl⟩, E1, t1, x1⟩; have C2 := t1.startQ hg x1; clear t1 x1)
          | (go_at_call 13; refine C2.mono ?_; clear C2; rintro e u2 ⟨⟨z2, rfl⟩, F1, t2, x2⟩; have HT2 := hide t2; have HX2 := hide x2; clear t2 x2))
        go_meet
        exact ⟨_, _, _, _, rfl, HT2, capN_up v HN.out, HX2⟩
      have e1 : (cd == 1) = false := by simp [h1]
      clear h0 h1
      have hbD : Below V.heap.size V V.drew := (Below.refl _ _).drew
      have C1 := (KV.out.on hbD).handleP hg (HXV.out.on hbD) (by omega) m
      have hlx : Hid ((hdA v m).length ≤ 1) := hdA_len v m
      have HCP : Hid (n + 3 ≤ capN (hdS v m) (j + 1)) := capN_hd v m HN.out
      have HQ0 : ∀ u E1 a, Tb w u E1 F p q (hdS v m) v (n + 3) → Ac u E1 F wr.heap.size (.cells #[.int .i64 cd, .int .i64 sy, .int .i64 tn, .int .i64 m.k, .int .i64 m.fr, .int .i64 m.to, .int .i64 m.id, .int .i64 m.st, .int .i64 m.a, .int .i64 m.b] 31 (0, 0)) → Ms.Mgs u a (hdA v m) → (∀ ad, a = some ad → ¬ F ad.block) → _ := fun u E1 a h1 h2 h3 h4 => h1.handleQ hg h2 m h3 h4
      generalize hdA v m = xs at C1 hlx HQ0
      have HQ : Hid (∀ u E1 a, Tb w u E1 F p q (hdS v m) v (n + 3) → Ac u E1 F wr.heap.size (.cells #[.int .i64 cd, .int .i64 sy, .int .i64 tn, .int .i64 m.k, .int .i64 m.fr, .int .i64 m.to, .int .i64 m.id, .int .i64 m.st, .int .i64 m.a, .int .i64 m.b] 31 (0, 0)) → Ms.Mgs u a xs → (∀ ad, a = some ad → ¬ F ad.block) → Calls Tryz.prog 16 #[.pointer (some ⟨q, 0, none⟩), .agg #[.int .i64 m.k, .int .i64 m.fr, .int .i64 m.to, .int .i64 m.id, .int .i64 m.st, .int .i64 m.a, .int .i64 m.b]] u fun e u2 => ∃ b cb F', e = .returned (.slice b xs.length cb) ∧ Tb w u2 E1 F' p q (hdS v m) (hdS v m) (n + 3) ∧ Ac u2 E1 F' wr.heap.size (.cells #[.int .i64 cd, .int .i64 sy, .int .i64 tn, .int .i64 m.k, .int .i64 m.fr, .int .i64 m.to, .int .i64 m.id, .int .i64 m.st, .int .i64 m.a, .int .i64 m.b] 31 (0, 0)) ∧ Ms.Mgs u2 a xs ∧ Ms.Mgs u2 b xs) := HQ0
      clear hbD HQ0
      go_wp2_with fail
      go_region_held3 (fun w' => w'.cell? ⟨wr.heap.size, 3, none⟩ = some (.int .i64 m.k) ∧ w'.cell? ⟨wr.heap.size, 4, none⟩ = some (.int .i64 m.fr) ∧ w'.cell? ⟨wr.heap.size, 5, none⟩ = some (.int .i64 m.to) ∧ w'.cell? ⟨wr.heap.size, 6, none⟩ = some (.int .i64 m.id) ∧ w'.cell? ⟨wr.heap.size, 7, none⟩ = some (.int .i64 m.st) ∧ w'.cell? ⟨wr.heap.size, 8, none⟩ = some (.int .i64 m.a) ∧ w'.cell? ⟨wr.heap.size, 9, none⟩ = some (.int .i64 m.b)) (go_keep) (first
        | (go_at_call 15; refine C1.mono ?_; clear C1; rintro e u1 ⟨av, ca, E1, rfl, t1, x1, m1, h1⟩; clear d3 d4 d5 d6 d7 d8 d9; obtain ⟨-, d3, d4, d5, d6, d7, d8, d9⟩ := ten_of x1.1; have C2 := HQ.out u1 E1 av t1 x1 m1 h1; clear t1 x1 m1 h1)
        | (go_at_call 16; refine C2.mono ?_; clear C2; rintro e u2 ⟨bv, cb, F1, rfl, t2, x2, m2, n2⟩; clear d3 d4 d5 d6 d7 d8 d9; obtain ⟨-, d3, d4, d5, d6, d7, d8, d9⟩ := ten_of x2.1; have SM := Ms.same_msgs av bv xs ca cb u2 (by have := hlx.out; omega) m2 n2; have HT2 := hide t2; have HX2 := hide x2; clear t2 x2 m2 n2)
        | (go_at_call 14; refine SM.mono ?_; clear SM; rintro e u3 ⟨rfl, hb3⟩; have HT3 := hide (HT2.out.on hb3); have HX3 := hide (HX2.out.on hb3); clear d3 d4 d5 d6 d7 d8 d9; obtain ⟨-, d3, d4, d5, d6, d7, d8, d9⟩ := ten_of HX3.out.1; clear hb3))
      all_goals (go_wp2_with fail; go_meet; exact ⟨_, _, _, _, rfl, HT3, HCP, HX3⟩)
    case rest =>
      obtain ⟨E1, F1, v1, n1, rfl, HT1, HN1, HX1⟩ := hcut
      clear d0 d1 d2 d3 d4 d5 d6 d7 d8 d9 KV HXV HN
      obtain ⟨qb, jq, q3, q0, q2, j3⟩ := HT1.out.cellsQ
      obtain ⟨-, d3, d4, d5, d6, d7, d8, d9⟩ := ten_of HX1.out.1
      have SP : ∀ u : Later wc, Calls Tryz.prog 17 #[.pointer (some ⟨p, 0, none⟩), .int .i64 m.id] u.w fun e w' => e = .returned (.int .i64 (v1.st.s m.id)) ∧ ∃ u' : Later wc, w' = u'.w := fun u => calls_later u (by
        obtain ⟨_, _, q', r, pb, mb, sb, h⟩ := (HT1.out.on u.below).a
        exact (sstate_any h HWI.out).mono (fun _ _ ⟨h1, h2⟩ => ⟨h1, by rw [← h2]; exact Below.refl _ _⟩))
      have SQ : ∀ u : Later wc, Calls Tryz.prog 18 #[.pointer (some ⟨q, 0, none⟩), .int .i64 m.id] u.w fun e w' => e = .returned (.int .i64 (v1.st.s m.id)) ∧ ∃ u' : Later wc, w' = u'.w := fun u => calls_later u ((rsstate_any (HT1.out.on u.below).b m.id).mono (fun _ _ ⟨h1, h2⟩ => ⟨h1, by rw [← h2]; exact Below.refl _ _⟩))
      have LP : ∀ u : Later wc, Calls Tryz.prog 19 #[.pointer (some ⟨p, 0, none⟩)] u.w fun e w' => e = .returned (.int .i64 v1.st.left) ∧ ∃ u' : Later wc, w' = u'.w := fun u => calls_later u (by
        obtain ⟨_, _, q', r, pb, mb, sb, h⟩ := (HT1.out.on u.below).a
        exact (sleft_any h).mono (fun _ _ ⟨h1, h2⟩ => ⟨h1, by rw [← h2]; exact Below.refl _ _⟩))
      have DP : ∀ u : Later wc, Calls Tryz.prog 20 #[.pointer (some ⟨p, 0, none⟩)] u.w fun e w' => e = .returned (.bool v1.down) ∧ ∃ u' : Later wc, w' = u'.w := fun u => calls_later u (by
        obtain ⟨_, _, q', r, pb, mb, sb, h⟩ := (HT1.out.on u.below).a
        exact (sdown_any h).mono (fun _ _ ⟨h1, h2⟩ => ⟨h1, by rw [← h2]; exact Below.refl _ _⟩))
      have NX : Hid (∀ u : Later wc, Tb w u.w E1 F1 p q v1 v1 n1) := fun u => HT1.out.on u.below
      generalize v1.st.s m.id = x at SP SQ
      generalize v1.st.left = lf at LP q0
      generalize v1.down = dn at DP j3
      have z0 := Later.cell q3
      have z1 := Later.cell q0
      have z2 := Later.cell q2
      have z3 := Later.cell j3
      have z4 := Later.cell d6
      have hne : Nonempty (Later wc) := ⟨Later.now wc⟩
      have x1 : (x != x) = false := by simp
      have x2 : (lf != lf) = false := by simp
      have x3 : (dn != dn) = false := by simp
      clear HT1 HX1 d3 d4 d5 d6 d7 d8 d9 q3 q0 q2 j3
      go_wp2_with fail
      refine region_later (by kernel_rfl) (by kernel_rfl) ?_
      repeat (first | go_big_quiet_step (first | exact SP _ | exact SQ _ | exact LP _ | exact DP _) | quiet_step (first | exact SP _ | exact SQ _ | exact LP _ | exact DP _))
      refine wpQuiet_nil ?_
      intro u
      go_wp2
      go_roundw
      case rel => exact ⟨j + 1, E1, F1, v1, n1, by go_num, by omega, by omega, NX.out u, HN1⟩
      case measure => simp [intOf]; omega
end Go.Proofs.YtdbmnjodkpeobaaGreatDoor
