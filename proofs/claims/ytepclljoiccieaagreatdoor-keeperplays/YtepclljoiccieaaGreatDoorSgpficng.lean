/-
  KeeperPlays: the walk.
-/
import Derived.Test.YtepclljoiccieaaGreatDoorYPlaM
import Derived.Test.YtepclljoiccieaaGreatDoorYBok
import Derived.Test.YtepclljoiccieaaGreatDoorSggjnjid
import Derived.Deep.CutBlock
import Derived.Deep.CutRange
import Derived.Deep.RegionHeld3
namespace Go.Proofs.YtepclljoiccieaaGreatDoor
open Go.ChangeShapes Go.WideShapes Go.ChangeAt Go.RowKit Go.Maps

def capY (v : Kv) (j : Nat) : Nat := 5004 * j + if v.down = true then 0 else 5000
theorem capY_le (v : Kv) {j : Nat} (h : j ≤ 80) : capY v j ≤ 410000 := by unfold capY; split <;> omega
theorem capY_up (v : Kv) {n j : Nat} (h : n ≤ capY v j) : (if v.down = true then n + 10000 else n) ≤ capY (upK v) (j + 1) := by
  unfold capY at h ⊢
  unfold upK
  cases hd : v.down
  · simp [hd] at h ⊢; omega
  · simp [hd] at h ⊢; omega
theorem capY_cr (v : Kv) {n j : Nat} (h : n ≤ capY v j) : n ≤ capY (crK v) (j + 1) := by
  unfold capY at h ⊢
  have : (crK v).down = true := rfl
  rw [this, if_pos rfl]
  split at h <;> omega
theorem capY_4 {v v' : Kv} (hd : v'.down = v.down) {n j : Nat} (h : n ≤ capY v j) : n + 4 ≤ capY v' (j + 1) := by
  unfold capY at h ⊢
  rw [hd]
  omega
theorem hkS_down (v : Kv) (m : Ms.Mg) : (hkS v m).down = v.down := by
  unfold hkS noteK
  split
  · split
    · rfl
    · split <;> rfl
  · rfl
theorem fcS_down (v : Kv) (id : Int) (y : Bool) : (fcS v id y).down = v.down := by
  unfold fcS noteK
  split
  · split <;> rfl
  · rfl
theorem hkA_len (v : Kv) (m : Ms.Mg) : (hkA v m).length ≤ 2 := by unfold hkA; split <;> simp
theorem rgA_len2 (v : Kv) (id : Int) : (rgA v id).length ≤ 2 := by unfold rgA; split <;> simp
theorem idsL_le (h : Int → Int) : (Hd.idsL h).length ≤ 1000 := by
  have : ∀ n : Nat, (Hd.idsTo h n).length ≤ n := fun n => by
    induction n with
    | zero => exact Nat.le_refl _
    | succ n ih =>
      rw [Hd.idsTo_succ, List.length_append]
      split
      · simp; omega
      · simp; omega
  exact this 1000
theorem low_rk {B B' : Nat} {E : Nat → Prop} {V : World} {p : Nat} {v : Kv} {n : Nat} (hl : B' ≤ B) (k : Rk B E V p v n) : Rk B' E V p v n := by
  obtain ⟨h1, h2, a, l, lc, q, r, pb, mb, mc, h⟩ := k
  have lowJ : ∀ {P : Nat} {vv : Value} {room : Int} {L : List ByteArray} {su : Nat} {dn : Bool}, R.Jr B V P vv room L su dn → R.Jr B' V P vv room L su dn := fun h => by
    obtain ⟨h1, h2, ⟨h3, h4⟩, h5⟩ := h
    refine ⟨h1, Nat.le_trans hl h2, ⟨h3, ?_⟩, h5⟩
    rcases h4 with h4 | ⟨g, cp, cur, e, hg, rest⟩
    · exact .inl h4
    · exact .inr ⟨g, cp, cur, e, Nat.le_trans hl hg, rest⟩
  have hb : RbK B' V v.node pb mb mc v.st.o n := by
    rcases h.bk with ⟨e, ⟨g1, g2, g3, g4⟩, g5⟩ | ⟨e, ⟨g1, ⟨g2, g3, g4, g5⟩, g6⟩⟩
    · exact .inl ⟨e, ⟨g1, Nat.le_trans hl g2, Nat.le_trans hl g3, g4⟩, g5⟩
    · exact .inr ⟨e, ⟨g1, ⟨Nat.le_trans hl g2, Nat.le_trans hl g3, Nat.le_trans hl g4, g5⟩, g6⟩⟩
  exact ⟨fun k e => ⟨Nat.le_trans hl (h1 k e).1, (h1 k e).2⟩, h2, a, l, lc, q, r, pb, mb, mc, { h with jr := lowJ h.jr, bk := hb }⟩
def PyRel (w : World) (p q : Nat) (len : Nat) (i : Value) (wr : World) : Prop :=
  ∃ (j : Nat) (E F : Nat → Prop) (v : Kv) (n : Nat), i = .int .i64 j ∧ j ≤ len ∧ j ≤ 80 ∧ Hid (Ty w wr E F p q v v n) ∧ Hid (n ≤ capY v j)

set_option maxRecDepth 100000 in
set_option maxHeartbeats 16000000 in
theorem keeperPlays_walk (a0 : Int) (a1 : Option Addr) (len1 cap1 : Nat) (z1 : List Int) (a2 : Int) (l3 : List C20.Cl) (a3 : Option Addr) (cap3 : Nat) (a4 : Int) (w : World) (_w0 : (Lit.int .i64 a0).wf = true) (w1 : IsRow .i64 w a1 len1 cap1 z1) (_w2 : (Lit.int .i64 a2).wf = true) (w3 : C20.ClsIn w l3 a3) (_w4 : (Lit.int .i64 a4).wf = true) (hg : Gl w) :
    Calls Tryz.prog 3 #[.int .i64 a0, .slice a1 len1 cap1, .int .i64 a2, .slice a3 l3.length cap3, .int .i64 a4] w fun e w' => e = .returned (.bool true) ∧ Below w.heap.size w w' := by
  have hnil := w1.nils
  obtain ⟨gl, rfl, hgl, hin⟩ := w1.ints
  obtain ⟨hlen, hcl⟩ := w3
  have HCL := hide hcl
  clear _w0 _w2 _w4 hcl w1
  by_cases h50 : gl.length ≤ 50
  rotate_left
  · have q50 : (gl.length : Int) > 50 := by omega
    clear h50 hnil hin
    go_enter Tryz.func3, Tryz.ntmps3
    go_wp2_with (go_at_call 4; refine (kwake_any _ hg).mono ?_; rintro e u7 ⟨rfl, hb7⟩; have HB7 := hide hb7; clear hb7)
    go_ret
    exact ⟨rfl, HB7.out⟩
  have q50 : ¬ (gl.length : Int) > 50 := by omega
  by_cases hnd : a0 = 1 ∨ a0 = 2
  rotate_left
  · have N1 := knew_no hnd a2 a1 gl.length cap1 w
    have HN2 : Hid (∀ u, Calls Tryz.prog 6 #[.int .i64 a0, .slice a1 gl.length cap1, .int .i64 a2] u fun e w' => e = .returned (.pointer none) ∧ u = w') := fun u => rknew_no a0 hnd a2 a1 gl.length cap1 u
    clear hnd hnil hin
    go_enter Tryz.func3, Tryz.ntmps3
    go_wp2_with (first
      | (go_at_call 5; refine N1.mono ?_; clear N1; rintro e u1 ⟨rfl, hb1⟩; have HB1 := hide hb1; clear hb1)
      | (go_at_call 6; refine (HN2.out _).mono ?_; clear HN2; rintro e w' ⟨rfl, rfl⟩)
      | (go_at_call 4; refine (kwake_any _ (hg.on HB1.out)).mono ?_; rintro e u7 ⟨rfl, hb7⟩; have HB7 := hide (bel_on' HB1.out hb7); clear hb7))
    go_ret
    exact ⟨rfl, HB7.out⟩
  have N1 := knew_any hnd a2 (cap := cap1) hin
  have HN2 : Hid (∀ u, Below w.heap.size w u → Calls Tryz.prog 6 #[.int .i64 a0, .slice a1 gl.length cap1, .int .i64 a2] u fun e w' => ∃ p E, e = .returned (.pointer (some ⟨p, 0, none⟩)) ∧ Rk u.heap.size E w' p (newKv a0 (fL gl) a2) 0 ∧ Below u.heap.size u w') := fun u hu => rknew_any hnd a2 (hin.below hu) hnil (by omega)
  obtain ⟨bs1, bs2⟩ := um_bd a4 5 (by omega) (by omega)
  obtain ⟨S, hS⟩ : ∃ S : Nat, um a4 5 = S := ⟨(um a4 5).toNat, by omega⟩
  rw [hS] at bs1 bs2
  unfold um at hS
  have HSS : Hid (S ≤ 4) := by show S ≤ 4; omega
  clear hnd hnil hin h50 bs1
  go_enter Tryz.func3, Tryz.ntmps3
  go_wp2_with (first
    | (go_at_call 5; refine N1.mono ?_; clear N1; rintro e u1 ⟨p, E0, rfl, k1, hb1⟩; have K1 := hide k1; have HB1 := hide hb1; have N2 := HN2.out u1 hb1; clear k1 hb1 HN2)
    | (go_at_call 6; refine N2.mono ?_; clear N2; rintro e u2 ⟨q, F0, rfl, k2, hb2⟩; have K2 := hide k2; have HB2 := hide hb2; clear k2 hb2))
  have HT0 : Hid (Ty w u2 E0 F0 p q (newKv a0 (fL gl) a2) (newKv a0 (fL gl) a2) 0) := by
    refine ⟨K1.out.on HB2.out, low_rk HB1.out.size K2.out, fun k e hF => ?_, bel_on' HB1.out HB2.out⟩
    have := (K1.out.1 k e).2
    have := (K2.out.1 k hF).1
    omega
  clear K1 K2 HB1 HB2
  try rw [hS]
  clear hS
  go_loopw [43] (fun i wr => PyRel w p q l3.length i wr) (fun i _ => l3.length - (Go.RowKit.intOf i).toNat)
  case atStart => exact ⟨0, E0, F0, _, 0, rfl, Nat.zero_le _, by omega, HT0, Nat.zero_le _⟩
  case round =>
    obtain ⟨j, E, F, v, n, rfl, hj, hj80, HT, HN⟩ := hrel
    clear HT0
    by_cases hlt : j < l3.length
    rotate_left
    · have ql : ¬ (j : Int) < (l3.length : Int) := by omega
      go_wp2_with (go_at_call 4; refine (kwake_any _ (hg.on HT.out.bel)).mono ?_; rintro e u6 ⟨rfl, b6⟩; have HB6 := hide b6; clear b6)
      go_ret
      exact ⟨rfl, bel_on' HT.out.bel HB6.out⟩
    have ql : (j : Int) < (l3.length : Int) := by omega
    obtain ⟨⟨cd, sy, tn, yb, m⟩, hc⟩ : ∃ c, l3[j]? = some c := ⟨l3[j], by simp [hlt]⟩
    rcases HCL.out.below HT.out.bel with hh | ⟨bb, off, rfl, hca⟩
    · subst hh; simp at hlt
    have hx := hca j _ hc
    dsimp only at hx
    obtain ⟨⟨c0, c1, c2, c3, c4, c5, c6, c7, c8, c9, c10⟩, hok⟩ := hx
    have HWI : Hid ((Lit.int .i64 m.id).wf = true) := hok.2.2.2.2.2.2.1
    obtain ⟨V, hV⟩ : ∃ V, wr.alloc (.cells #[.int .i64 cd, .int .i64 sy, .int .i64 tn, .bool yb, .int .i64 m.k, .int .i64 m.fr, .int .i64 m.to, .int .i64 m.id, .int .i64 m.st, .int .i64 m.a, .int .i64 m.b] 33) = V := ⟨_, rfl⟩
    have hbV : Below wr.heap.size wr V := by rw [← hV]; exact (Below.refl _ _).alloc (Nat.le_refl _) _
    have HXV : Hid (Ay V E F wr.heap.size (.cells #[.int .i64 cd, .int .i64 sy, .int .i64 tn, .bool yb, .int .i64 m.k, .int .i64 m.fr, .int .i64 m.to, .int .i64 m.id, .int .i64 m.st, .int .i64 m.a, .int .i64 m.b] 33 (0, 0))) := ⟨by rw [← hV]; exact World.alloc_heap_new _ _, fun e => by have := (HT.out.a.1 _ e).2; omega, fun e => by have := (HT.out.b.1 _ e).2; omega⟩
    have KV := hide (HT.out.on hbV)
    obtain ⟨⟨d0, d1, d2, d3⟩, d4, d5, d6, d7, d8, d9, d10⟩ := eleven_of HXV.out.1
    clear hca hc hok hbV HT
    by_cases h80 : j < 80
    rotate_left
    · have qj : (j : Int) ≥ 80 := by omega
      go_wp2_with (go_at_call 4; refine (kwake_any _ (hg.on KV.out.bel)).mono ?_; rintro e u6 ⟨rfl, b6⟩; have HB6 := hide b6; clear b6)
      go_ret
      exact ⟨rfl, bel_on' KV.out.bel HB6.out⟩
    have qj : ¬ (j : Int) ≥ 80 := by omega
    have hn2 : n < 500000 := by have := HN.out; have := capY_le v hj80; omega
    go_upto_block 2 with fail
    clear hV c0 c1 c2 c3 c4 c5 c6 c7 c8 c9 c10
    go_cut [15] from 50 to 110 (fun k wx => ∃ (E' F' : Nat → Prop) (v' : Kv) (n' : Nat), k = .bool true ∧ Hid (Ty w wx E' F' p q v' v' n') ∧ Hid (n' ≤ capY v' (j + 1)) ∧ Hid (Ay wx E' F' wr.heap.size (.cells #[.int .i64 cd, .int .i64 sy, .int .i64 tn, .bool yb, .int .i64 m.k, .int .i64 m.fr, .int .i64 m.to, .int .i64 m.id, .int .i64 m.st, .int .i64 m.a, .int .i64 m.b] 33 (0, 0))))
    case first =>
      by_cases h0 : cd = 0
      · have e0 : (cd == 0) = true := by simp [h0]
        clear h0
        have C1 := KV.out.crashP HXV.out sy tn
        go_wp2_with (first
          | (go_at_call 7; refine C1.mono ?_; clear C1; rintro e u1 ⟨⟨z1, rfl⟩, E1, t1, x1⟩; clear d0 d1 d2 d3 d4 d5 d6 d7 d8 d9 d10; obtain ⟨⟨d0, d1, d2, d3⟩, d4, d5, d6, d7, d8, d9, d10⟩ := eleven_of x1.1; have C2 := t1.crashQ x1 sy tn; clear t1 x1)
          | (go_at_call 8; refine C2.mono ?_; clear C2; rintro e u2 ⟨⟨z2, rfl⟩, F1, t2, x2⟩; have HT2 := hide t2; have HX2 := hide x2; clear t2 x2))
        go_meet
        exact ⟨_, _, _, _, rfl, HT2, capY_cr v HN.out, HX2⟩
      have e0 : (cd == 0) = false := by simp [h0]
      by_cases h1 : cd = 1
      · have e1 : (cd == 1) = true := by simp [h1]
        clear h0 h1
        have C1 := KV.out.startP hg HXV.out (by omega)
        have HQ : Hid (∀ u E1, Ty w u E1 F p q (upK v) v (if v.down = true then n + 10000 else n) → Ay u E1 F wr.heap.size (.cells #[.int .i64 cd, .int .i64 sy, .int .i64 tn, .bool yb, .int .i64 m.k, .int .i64 m.fr, .int .i64 m.to, .int .i64 m.id, .int .i64 m.st, .int .i64 m.a, .int .i64 m.b] 33 (0, 0)) → Rk w.heap.size F u q v n → Calls Tryz.prog 10 #[.pointer (some ⟨q, 0, none⟩)] u fun e u2 => (∃ x, e = .returned x) ∧ ∃ F', Ty w u2 E1 F' p q (upK v) (upK v) (if v.down = true then n + 10000 else n) ∧ Ay u2 E1 F' wr.heap.size (.cells #[.int .i64 cd, .int .i64 sy, .int .i64 tn, .bool yb, .int .i64 m.k, .int .i64 m.fr, .int .i64 m.to, .int .i64 m.id, .int .i64 m.st, .int .i64 m.a, .int .i64 m.b] 33 (0, 0))) := fun u E1 t x hb => t.startQ hg x (n0 := n) (by omega) hb (Nat.le_refl _)
        go_wp2_with (first
          | (go_at_call 9; refine C1.mono ?_; clear C1; rintro e u1 ⟨⟨z1, rfl⟩, E1, t1, x1, b1⟩; have C2 := HQ.out u1 E1 t1 x1 b1; clear t1 x1 b1)
          | (go_at_call 10; refine C2.mono ?_; clear C2; rintro e u2 ⟨⟨z2, rfl⟩, F1, t2, x2⟩; have HT2 := hide t2; have HX2 := hide x2; clear t2 x2))
        go_meet
        exact ⟨_, _, _, _, rfl, HT2, capY_up v HN.out, HX2⟩
      have e1 : (cd == 1) = false := by simp [h1]
      by_cases h2 : cd = 2
      · have e2 : (cd == 2) = true := by simp [h2]
        clear h0 h1 h2
        have hbD : Below V.heap.size V V.drew := (Below.refl _ _).drew
        have C1 := (KV.out.on hbD).ringP HWI.out
        have hlx : Hid ((rgA v m.id).length ≤ 2) := rgA_len2 v m.id
        have HQ0 : ∀ u, Below V.heap.size V u → _ := fun u hu => (KV.out.on hu).ringQ m.id
        generalize rgA v m.id = xs at C1 hlx HQ0
        have HQ : Hid (∀ u, Below V.heap.size V u → (Ty w u E F p q v v n ∧ Ay u E F wr.heap.size (.cells #[.int .i64 cd, .int .i64 sy, .int .i64 tn, .bool yb, .int .i64 m.k, .int .i64 m.fr, .int .i64 m.to, .int .i64 m.id, .int .i64 m.st, .int .i64 m.a, .int .i64 m.b] 33 (0, 0))) ∧ Calls Tryz.prog 13 #[.pointer (some ⟨q, 0, none⟩), .int .i64 m.id] u (TellM u xs)) := fun u hu => ⟨⟨KV.out.on hu, HXV.out.on hu⟩, HQ0 u hu⟩
        have HCP : Hid (n ≤ capY v (j + 1)) := by have := HN.out; show n ≤ _; unfold capY at this ⊢; omega
        clear hbD HQ0 KV HXV
        go_wp2_with fail
        go_region_held3 (fun w' => w'.cell? ⟨wr.heap.size, 7, none⟩ = some (.int .i64 m.id)) (go_keep) (first
          | (go_at_call 12; refine C1.mono ?_; clear C1; rintro e u1 ⟨av, ca, rfl, m1, -, hb1⟩; replace hb1 := bel_dr hb1; have HB1 := hide hb1; have HM1 := hide m1; obtain ⟨⟨-, x1⟩, C2⟩ := HQ.out u1 hb1; clear d7; obtain ⟨-, -, -, -, d7, -⟩ := eleven_of x1.1; clear x1 m1 hb1)
          | (go_at_call 13; refine C2.mono ?_; clear C2; rintro e u2 ⟨bv, cb, rfl, m2, -, hb2⟩; have SM := Ms.same_msgs av bv xs ca cb u2 (by have := hlx.out; omega) (HM1.out.below hb2) m2; have HB2 := hide (bel_on' HB1.out hb2); clear d7; obtain ⟨-, -, -, -, d7, -⟩ := eleven_of (HQ.out u2 HB2.out).1.2.1; clear m2 hb2)
          | (go_at_call 11; refine SM.mono ?_; clear SM; rintro e u3 ⟨rfl, hb3⟩; have HB3 := hide (bel_on' HB2.out hb3); clear d7; obtain ⟨-, -, -, -, d7, -⟩ := eleven_of (HQ.out u3 HB3.out).1.2.1; clear hb3))
        all_goals (go_wp2_with fail; go_meet; exact ⟨_, _, _, _, rfl, (HQ.out u3 HB3.out).1.1, HCP, (HQ.out u3 HB3.out).1.2⟩)
      have e2 : (cd == 2) = false := by simp [h2]
      by_cases h3 : cd = 3
      · have e3 : (cd == 3) = true := by simp [h3]
        clear h0 h1 h2 h3
        have hbD : Below V.heap.size V V.drew := (Below.refl _ _).drew
        have C1 := (KV.out.on hbD).forceP hg (HXV.out.on hbD) (by omega) HWI.out yb
        have HQ0 : ∀ u E1, Ty w u E1 F p q (fcS v m.id yb) v (n + 4) → Ay u E1 F wr.heap.size (.cells #[.int .i64 cd, .int .i64 sy, .int .i64 tn, .bool yb, .int .i64 m.k, .int .i64 m.fr, .int .i64 m.to, .int .i64 m.id, .int .i64 m.st, .int .i64 m.a, .int .i64 m.b] 33 (0, 0)) → Rk w.heap.size F u q v n → _ := fun u E1 t x hb => t.forceQ hg x (by omega) hb m.id yb
        have HCP : Hid (n + 4 ≤ capY (fcS v m.id yb) (j + 1)) := capY_4 (fcS_down v m.id yb) HN.out
        generalize fcE v m.id = fe at C1 HQ0
        have HQ : Hid (∀ u E1, Ty w u E1 F p q (fcS v m.id yb) v (n + 4) → Ay u E1 F wr.heap.size (.cells #[.int .i64 cd, .int .i64 sy, .int .i64 tn, .bool yb, .int .i64 m.k, .int .i64 m.fr, .int .i64 m.to, .int .i64 m.id, .int .i64 m.st, .int .i64 m.a, .int .i64 m.b] 33 (0, 0)) → Rk w.heap.size F u q v n → Calls Tryz.prog 15 #[.pointer (some ⟨q, 0, none⟩), .int .i64 m.id, .bool yb] u fun e u2 => e = .returned (.int .i64 fe) ∧ ∃ F', Ty w u2 E1 F' p q (fcS v m.id yb) (fcS v m.id yb) (n + 4) ∧ Ay u2 E1 F' wr.heap.size (.cells #[.int .i64 cd, .int .i64 sy, .int .i64 tn, .bool yb, .int .i64 m.k, .int .i64 m.fr, .int .i64 m.to, .int .i64 m.id, .int .i64 m.st, .int .i64 m.a, .int .i64 m.b] 33 (0, 0))) := HQ0
        have qf : (fe == fe) = true := by simp
        clear hbD HQ0 KV HXV
        go_wp2_with fail
        go_region_held3 (fun w' => w'.cell? ⟨wr.heap.size, 7, none⟩ = some (.int .i64 m.id) ∧ w'.cell? ⟨wr.heap.size, 3, none⟩ = some (.bool yb)) (go_keep) (first
          | (go_at_call 14; refine C1.mono ?_; clear C1; rintro e u1 ⟨rfl, E1, t1, x1, b1⟩; have C2 := HQ.out u1 E1 t1 x1 b1; clear d7 d3; obtain ⟨⟨-, -, -, d3⟩, -, -, -, d7, -⟩ := eleven_of x1.1; clear t1 x1 b1)
          | (go_at_call 15; refine C2.mono ?_; clear C2; rintro e u2 ⟨rfl, F1, t2, x2⟩; have HT2 := hide t2; have HX2 := hide x2; clear d7 d3; obtain ⟨⟨-, -, -, d3⟩, -, -, -, d7, -⟩ := eleven_of x2.1; clear t2 x2))
        all_goals (go_wp2_with fail; go_meet; exact ⟨_, _, _, _, rfl, HT2, HCP, HX2⟩)
      have e3 : (cd == 3) = false := by simp [h3]
      clear h0 h1 h2 h3
      have hbD : Below V.heap.size V V.drew := (Below.refl _ _).drew
      have C1 := (KV.out.on hbD).handleP hg (HXV.out.on hbD) (by omega) (m := m) HWI.out
      have hlx : Hid ((hkA v m).length ≤ 2) := hkA_len v m
      have HCP : Hid (n + 4 ≤ capY (hkS v m) (j + 1)) := capY_4 (hkS_down v m) HN.out
      have HQ0 : ∀ u E1 a, Ty w u E1 F p q (hkS v m) v (n + 4) → Ay u E1 F wr.heap.size (.cells #[.int .i64 cd, .int .i64 sy, .int .i64 tn, .bool yb, .int .i64 m.k, .int .i64 m.fr, .int .i64 m.to, .int .i64 m.id, .int .i64 m.st, .int .i64 m.a, .int .i64 m.b] 33 (0, 0)) → Rk w.heap.size F u q v n → Ms.Mgs u a (hkA v m) → (∀ ad, a = some ad → ¬ F ad.block) → _ := fun u E1 a h1 h2 h5 h3 h4 => h1.handleQ hg h2 (by omega) h5 m h3 h4
      generalize hkA v m = xs at C1 hlx HQ0
      have HQ : Hid (∀ u E1 a, Ty w u E1 F p q (hkS v m) v (n + 4) → Ay u E1 F wr.heap.size (.cells #[.int .i64 cd, .int .i64 sy, .int .i64 tn, .bool yb, .int .i64 m.k, .int .i64 m.fr, .int .i64 m.to, .int .i64 m.id, .int .i64 m.st, .int .i64 m.a, .int .i64 m.b] 33 (0, 0)) → Rk w.heap.size F u q v n → Ms.Mgs u a xs → (∀ ad, a = some ad → ¬ F ad.block) → Calls Tryz.prog 17 #[.pointer (some ⟨q, 0, none⟩), .agg #[.int .i64 m.k, .int .i64 m.fr, .int .i64 m.to, .int .i64 m.id, .int .i64 m.st, .int .i64 m.a, .int .i64 m.b]] u fun e u2 => ∃ b cb F', e = .returned (.slice b xs.length cb) ∧ Ty w u2 E1 F' p q (hkS v m) (hkS v m) (n + 4) ∧ Ay u2 E1 F' wr.heap.size (.cells #[.int .i64 cd, .int .i64 sy, .int .i64 tn, .bool yb, .int .i64 m.k, .int .i64 m.fr, .int .i64 m.to, .int .i64 m.id, .int .i64 m.st, .int .i64 m.a, .int .i64 m.b] 33 (0, 0)) ∧ Ms.Mgs u2 a xs ∧ Ms.Mgs u2 b xs) := HQ0
      clear hbD HQ0 KV HXV
      go_wp2_with fail
      go_region_held3 (fun w' => w'.cell? ⟨wr.heap.size, 4, none⟩ = some (.int .i64 m.k) ∧ w'.cell? ⟨wr.heap.size, 5, none⟩ = some (.int .i64 m.fr) ∧ w'.cell? ⟨wr.heap.size, 6, none⟩ = some (.int .i64 m.to) ∧ w'.cell? ⟨wr.heap.size, 7, none⟩ = some (.int .i64 m.id) ∧ w'.cell? ⟨wr.heap.size, 8, none⟩ = some (.int .i64 m.st) ∧ w'.cell? ⟨wr.heap.size, 9, none⟩ = some (.int .i64 m.a) ∧ w'.cell? ⟨wr.heap.size, 10, none⟩ = some (.int .i64 m.b)) (go_keep) (first
        | (go_at_call 16; refine C1.mono ?_; clear C1; rintro e u1 ⟨av, ca, E1, rfl, t1, x1, m1, h1, b1⟩; clear d4 d5 d6 d7 d8 d9 d10; obtain ⟨-, d4, d5, d6, d7, d8, d9, d10⟩ := eleven_of x1.1; have C2 := HQ.out u1 E1 av t1 x1 b1 m1 h1; clear t1 x1 m1 h1 b1)
        | (go_at_call 17; refine C2.mono ?_; clear C2; rintro e u2 ⟨bv, cb, F1, rfl, t2, x2, m2, n2⟩; clear d4 d5 d6 d7 d8 d9 d10; obtain ⟨-, d4, d5, d6, d7, d8, d9, d10⟩ := eleven_of x2.1; have SM := Ms.same_msgs av bv xs ca cb u2 (by have := hlx.out; omega) m2 n2; have HT2 := hide t2; have HX2 := hide x2; clear t2 x2 m2 n2)
        | (go_at_call 11; refine SM.mono ?_; clear SM; rintro e u3 ⟨rfl, hb3⟩; have HT3 := hide (HT2.out.on hb3); have HX3 := hide (HX2.out.on hb3); clear d4 d5 d6 d7 d8 d9 d10; obtain ⟨-, d4, d5, d6, d7, d8, d9, d10⟩ := eleven_of HX3.out.1; clear hb3))
      all_goals (go_wp2_with fail; go_meet; exact ⟨_, _, _, _, rfl, HT3, HCP, HX3⟩)
    case rest =>
      obtain ⟨E1, F1, v1, n1, rfl, HT1, HN1, HX1⟩ := hcut
      clear d0 d1 d2 d3 d4 d5 d6 d7 d8 d9 d10 KV HXV HN
      have hn3 : n1 ≤ 500000 := by have := HN1.out; have := capY_le v1 (j := j + 1) (by omega); omega
      obtain ⟨L, hL⟩ : ∃ L, Hd.idsL v1.st.s = L := ⟨_, rfl⟩
      have hLn : L.length ≤ 1000 := by rw [← hL]; exact idsL_le _
      obtain ⟨jq, hjq⟩ : ∃ jq, ∀ u, Below wc.heap.size wc u → (u.cell? ⟨q, 2, none⟩ = some (.pointer (some ⟨jq, 0, none⟩)) ∧ u.cell? ⟨jq, 3, none⟩ = some (.bool v1.down)) := by
        obtain ⟨_, _, a, l, lc, q', r, pb, mb, mc, k0⟩ := HT1.out.b
        exact ⟨q', fun u hu => ⟨(k0.on hu).cells.2.2.1, (k0.on hu).jr.cells.1.2.2.2⟩⟩
      have HNN : Hid (∀ u, Below wc.heap.size wc u →
          ((u.cell? ⟨q, 2, none⟩ = some (.pointer (some ⟨jq, 0, none⟩)) ∧ u.cell? ⟨jq, 3, none⟩ = some (.bool v1.down)) ∧ u.cell? ⟨wr.heap.size, 7, none⟩ = some (.int .i64 m.id)) ∧
          Ty w u E1 F1 p q v1 v1 n1 ∧
          (Calls Tryz.prog 19 #[.pointer (some ⟨p, 0, none⟩), .int .i64 m.id] u fun e w' => e = .returned (.int .i64 (v1.st.s m.id)) ∧ u = w') ∧
          (Calls Tryz.prog 20 #[.pointer (some ⟨q, 0, none⟩), .int .i64 m.id] u fun e w' => e = .returned (.int .i64 (v1.st.s m.id)) ∧ u = w') ∧
          (Calls Tryz.prog 21 #[.pointer (some ⟨p, 0, none⟩)] u fun e w' => e = .returned (.bool v1.down) ∧ u = w') ∧
          (Calls Tryz.prog 22 #[.pointer (some ⟨p, 0, none⟩), .pointer (some ⟨q, 0, none⟩)] u fun e w' => e = .returned (.bool true) ∧ Below u.heap.size u w') ∧
          (∀ k : Nat, k ≤ 1000 → Calls Tryz.prog 24 #[.pointer (some ⟨p, 0, none⟩), .int .i64 k] u (Hd.OwnInts u (L.take k)))) := fun u hu => by
        have t := HT1.out.on hu
        have t' := t
        obtain ⟨⟨_, hG, q1, r1, pb1, mb1, mc1, sb1, k1⟩, ⟨_, _, a, l, lc, q2, r2, pb2, mb2, mc2, k2⟩, _, _⟩ := t'
        obtain ⟨-, -, -, -, d7, -⟩ := eleven_of (HX1.out.on hu).1
        refine ⟨⟨hjq u hu, d7⟩, t, kstate_any k1 HWI.out, rkstate_any k2 hG m.id, kdown_any k1, books_any k1 k2, fun k hk => ?_⟩
        have := Hd.lids_any (some ⟨p, 0, none⟩) L (by omega) u k hk (fun U hU => by
          have := kids_any (k1.on hU) hG.goodT (by omega)
          rw [hL] at this
          exact this)
        exact this
      have KI : Calls Tryz.prog 18 #[.pointer (some ⟨q, 0, none⟩)] wc fun e w' => ∃ a c, e = .returned (.slice a L.length c) ∧ w'.ownsRow wc.heap.size 3 1 (.slice a L.length c) L.length (L.map (Value.int .i64)) ∧ Below wc.heap.size wc w' := by
        obtain ⟨_, _, a, l, lc, q', r, pb, mb, mc, k0⟩ := HT1.out.b
        have := rkids_any k0
        rw [hL] at this
        exact this
      have hST : Hid (∀ u, Below wc.heap.size wc u → Ty w u E1 F1 p q v1 v1 n1) := fun u hu => HT1.out.on hu
      generalize v1.st.s m.id = sx at HNN
      generalize v1.down = dn at HNN hjq
      have qs : (sx != sx) = false := by simp
      have qd : (dn != dn) = false := by simp
      have hL8 : Hid (L.take 1000 = L) := List.take_of_length_le hLn
      have hL9 : Hid ((L.take S).length = min S L.length) := List.length_take
      clear hL HT1 HX1 hjq hn3
      go_wp2_with (go_at_call 18; refine KI.mono ?_; clear KI; rintro e ui ⟨aw, cw, rfl, hrow, hbi⟩; have HBI := hide hbi; have HRI := hide hrow; clear hrow hbi)
      --LAST
      obtain ⟨⟨⟨q2, j3⟩, d7⟩, -⟩ := HNN.out ui HBI.out
      have H6 := hide HBI.out.drew
      have HU := hide ((Below.refl ui.heap.size ui).drew)
      obtain ⟨-, -, S1, S2, D1, B1, -⟩ := HNN.out _ H6.out
      go_region_held3 (fun w' => w'.cell? ⟨q, 2, none⟩ = some (.pointer (some ⟨jq, 0, none⟩)) ∧ w'.cell? ⟨jq, 3, none⟩ = some (.bool dn) ∧ w'.cell? ⟨wr.heap.size, 7, none⟩ = some (.int .i64 m.id)) (go_keep) (first
        | (go_at_call 19; refine S1.mono ?_; rintro e w' ⟨rfl, rfl⟩)
        | (go_at_call 20; refine S2.mono ?_; rintro e w' ⟨rfl, rfl⟩)
        | (go_at_call 21; refine D1.mono ?_; rintro e w' ⟨rfl, rfl⟩)
        | (go_at_call 22; refine B1.mono ?_; clear B1 S1 S2 D1; rintro e u7 ⟨rfl, hb7⟩; have HB7 := hide (bel_on' H6.out hb7); have HU7 := hide (bel_on' HU.out hb7); clear q2 j3 d7; obtain ⟨⟨⟨q2, j3⟩, d7⟩, -, -, -, -, -, I7⟩ := HNN.out u7 HB7.out; have I1 := I7 1000 (Nat.le_refl _); rw [hL8.out] at I1; clear hb7 I7)
        | (go_at_call 24; refine I1.mono ?_; clear I1; rintro e u8 ⟨a8, c8, rfl, -, hrow8, hb8⟩; have HB8 := hide (bel_on' HB7.out hb8); have SM := same_ofY hLn hrow8 (owned_on HRI.out (bel_on' HU7.out hb8)); clear q2 j3 d7; obtain ⟨⟨⟨q2, j3⟩, d7⟩, -⟩ := HNN.out u8 HB8.out; clear hb8 hrow8)
        | (go_at_call 23; refine SM.mono ?_; clear SM; rintro e u9 ⟨rfl, hb9⟩; have HB9 := hide (bel_on' HB8.out hb9); clear q2 j3 d7; obtain ⟨⟨⟨q2, j3⟩, d7⟩, -, -, -, -, -, I9⟩ := HNN.out u9 HB9.out; have I2 := I9 S (by have := HSS.out; omega); clear hb9 I9)
        | (go_at_call 24; refine I2.mono ?_; clear I2; rintro e u10 ⟨a10, c10, rfl, -, -, hb10⟩; have HB10 := hide (bel_on' HB9.out hb10); rw [hL9.out]; clear q2 j3 d7; obtain ⟨⟨⟨q2, j3⟩, d7⟩, -⟩ := HNN.out u10 HB10.out; clear hb10))
      all_goals (clear HRI HNN)
      all_goals go_wp2
      all_goals go_roundw
      all_goals (first | exact ⟨j + 1, E1, F1, v1, n1, by go_num, by omega, by omega, hST.out u10 HB10.out, HN1⟩ | (simp [Go.RowKit.intOf]; omega))
end Go.Proofs.YtepclljoiccieaaGreatDoor
