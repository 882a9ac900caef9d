/-
  StockSums's walk.
-/
import Derived.Test.YtkdonlhdjgpjiaaSckA
import Derived.Test.YtkdonlhdjgpjiaaSckD
import Derived.Test.YtkdonlhdjgpjiaaNum
namespace Go.Proofs.Ytkdonlhdjgpjiaa
open Go.ChangeShapes Go.WideShapes Go.ChangeAt Go.RowKit Go.Maps

theorem ints_two (w : World) (x y : Int) : Ints (w.alloc (.cells #[.int .i64 x, .int .i64 y] 3)) (some ⟨w.heap.size, 0, none⟩) [x, y] :=
  .inr ⟨w.heap.size, 0, rfl, fun i hi => by
    rw [cell_of (World.alloc_heap_new _ _)]
    match i, hi with
    | 0, _ => rfl
    | 1, _ => rfl⟩
theorem sumTo_mono {h : Int → Int} (hp : ∀ x, 0 ≤ h x) {m n : Nat} (hmn : m ≤ n) : sumTo h m ≤ sumTo h n := by
  induction n with
  | zero => rw [show m = 0 by omega]; exact Int.le_refl _
  | succ n ih =>
    by_cases e : m = n + 1
    · subst e; exact Int.le_refl _
    · have := ih (by omega); have := hp n; rw [sumTo]; omega
theorem sumTo_from {h : Int → Int} {m n : Nat} (hmn : m ≤ n) (hz : ∀ k : Nat, m ≤ k → h k = 0) : sumTo h n = sumTo h m := by
  induction n with
  | zero => rw [show m = 0 by omega]
  | succ n ih =>
    by_cases e : m = n + 1
    · subst e; rfl
    · rw [sumTo, ih (by omega), hz n (by omega), Int.add_zero]
/-- How many x has reserved, of whatever. -/
def hsm (s : Sb) (x : Int) : Int := ((s.r x).getD (0, 0)).2
/-- What is kept between two calls. -/
def SumS (R g : Int) (s : Sb) : Prop := s.on 1 = R - g ∧ s.on 0 = 7 ∧ ∀ x c, s.r x = some c → c.1 = 1 ∧ x ≤ 12
theorem SumS.res {R g : Int} {s : Sb} (k : SumS R g s) (id q : Int) (h : id ≤ 12) : SumS R g (resS s id 1 q) := by
  by_cases e : resE s id 1 q = 0
  · rw [resS_ok e]
    refine ⟨k.1, k.2.1, fun x c hx => ?_⟩
    dsimp only at hx
    by_cases ex : x = id
    · subst ex; rw [updO_same] at hx; cases hx; exact ⟨rfl, h⟩
    · rw [updO_other _ _ ex] at hx; exact k.2.2 x c hx
  · rw [resS_no e]; exact k
theorem SumS.com {R g : Int} {s : Sb} (k : SumS R g s) {id x y : Int} (h : s.r id = some (x, y)) : SumS R (g + y) (comS s id) := by
  have hx : x = 1 := (k.2.2 id _ h).1
  subst hx
  rw [comS_some h]
  refine ⟨?_, ?_, fun x c hx => ?_⟩
  · show upd s.on 1 (s.on 1 - y) 1 = R - (g + y)
    rw [upd_same, k.1]; omega
  · show upd s.on 1 (s.on 1 - y) 0 = 7
    rw [upd_other _ _ (by decide)]; exact k.2.1
  · dsimp only at hx
    by_cases ex : x = id
    · subst ex; rw [updO_same] at hx; cases hx
    · rw [updO_other _ _ ex] at hx; exact k.2.2 x c hx
theorem SumS.rel {R g : Int} {s : Sb} (k : SumS R g s) {id x y : Int} (h : s.r id = some (x, y)) : SumS R g (relS s id) := by
  rw [relS_some h]
  refine ⟨k.1, k.2.1, fun x c hx => ?_⟩
  dsimp only at hx
  by_cases ex : x = id
  · subst ex; rw [updO_same] at hx; cases hx
  · rw [updO_other _ _ ex] at hx; exact k.2.2 x c hx
theorem hsm_pos {s : Sb} (g : GoodS s) (x : Int) : 0 ≤ hsm s x := by
  unfold hsm
  cases h : s.r x with
  | none => exact Int.le_refl _
  | some c => have := (g.at_ x c h).2.2; show 0 ≤ c.2; omega
theorem hsm_zero {s : Sb} (g : GoodS s) : hsm s 0 = 0 := by
  unfold hsm
  cases h : s.r 0 with
  | none => rfl
  | some c => have := (g.at_ 0 c h).1; omega
theorem held_eq {R g : Int} {s : Sb} (k : SumS R g s) (gd : GoodS s) : sumTo (hsm s) 13 = R - g - s.fr 1 := by
  have h1 := gd.tot 1 (by omega) (by omega)
  have e1 : sumTo (resv s.r 1) 1000 = sumTo (resv s.r 1) 13 := sumTo_from (by omega) (fun x hx => by
    unfold resv
    cases h : s.r x with
    | none => rfl
    | some c => have := (k.2.2 x c h).2; omega)
  have e2 : sumTo (hsm s) 13 = sumTo (resv s.r 1) 13 := sumTo_congr (fun x _ => by
    unfold hsm resv
    cases h : s.r x with
    | none => rfl
    | some c => show c.2 = if c.1 = 1 then c.2 else 0; rw [if_pos (k.2.2 x c h).1])
  have := k.1
  omega
theorem SumS.bd {R g : Int} {s : Sb} (k : SumS R g s) (gd : GoodS s) : (0 ≤ R - g ∧ R - g ≤ 1000000000) ∧ 0 ≤ s.fr 1 := by
  have h1 := gd.top 1 (by omega) (by omega)
  have h2 := gd.nn 1 (by omega) (by omega)
  have h3 := gd.frle (k := 1) (by omega) (by omega)
  have := k.1
  omega
def GSRel (w : World) (p b : Nat) (R : Int) (len : Nat) (gv i : Value) (wr : World) : Prop :=
  ∃ (j : Nat) (s : Sb) (g : Int), gv = .int .i64 g ∧ i = .int .i64 j ∧ j ≤ len ∧ j ≤ 80 ∧ Hid (Sk w.heap.size wr p b s j) ∧ Hid (SumS R g s) ∧ Hid (Below w.heap.size w wr)

set_option maxRecDepth 100000 in
set_option maxHeartbeats 4000000 in
theorem stockSums_walk (a0 : Int) (l1 : List Cl) (a1 : Option Addr) (cap1 : Nat) (w : World) (_w0 : (Lit.int .i64 a0).wf = true) (w1 : ClsIn w l1 a1) :
    Calls Try.prog 5 #[.int .i64 a0, .slice a1 l1.length cap1] w fun e w' => e = .returned (.bool true) ∧ Below w.heap.size w w' := by
  obtain ⟨bR1, bR2⟩ := um_bd a0 100000 (by omega) (by omega)
  obtain ⟨R, hR⟩ : ∃ R, um a0 100000 = R := ⟨_, rfl⟩
  rw [hR] at bR1 bR2
  unfold um at hR
  obtain ⟨hlen, hcl⟩ := w1
  have HCL := hide hcl
  clear hcl
  have HN := hide (snew_on w (w.alloc (.cells #[.int .i64 7, .int .i64 R] 3)) [7, R] (bel_al (Below.refl _ _) _) w.heap.size (ints_two w 7 R) (by simp))
  have HS1 : Hid (SumS R 0 (newS [7, R])) := ⟨by rw [Int.sub_zero]; exact clampA_id (a := R) bR1 (by omega), clampA_id (a := 7) (by omega) (by omega), fun x c h => by cases h⟩
  go_enter Try.func5, Try.ntmps5
  go_wp2_with (first
    | (go_at_call 10; refine HN.out.mono ?_; rintro e u1 ⟨p, b, rfl, k1, hb1⟩; have HK1 := hide k1; have HB1 := hide hb1; clear k1 hb1))
  clear hR HN
  obtain ⟨s0, hs0⟩ : ∃ s0, newS [7, R] = s0 := ⟨_, rfl⟩
  rw [hs0] at HK1 HS1
  clear hs0
  go_loopw [6, 27] (fun gv i wr => GSRel w p b R l1.length gv i wr) (fun _ i _ => l1.length - (Go.RowKit.intOf i).toNat)
  case atStart => exact ⟨0, s0, 0, rfl, rfl, Nat.zero_le _, Nat.zero_le _, HK1, HS1, HB1⟩
  case round =>
    obtain ⟨j, s, g, rfl, rfl, hj, hj80, HK, HS, HB⟩ := hrel
    clear HK1 HB1 HS1
    have HAW := hide (sawake_any wr)
    obtain ⟨⟨bg1, bg2⟩, -⟩ := HS.out.bd HK.out.good
    by_cases hlt : j < l1.length
    · have ql : (j : Int) < (l1.length : Int) := by omega
      obtain ⟨c, hc⟩ : ∃ c, l1[j]? = some c := ⟨l1[j], by simp [hlt]⟩
      rcases HCL.out.below HB.out with h0 | ⟨bc, off, rfl, hca⟩
      · subst h0; simp at hlt
      obtain ⟨⟨c0, c1, c2, c3⟩, hok⟩ := hca j c hc
      obtain ⟨d, id, it, q⟩ := c
      dsimp only at c0 c1 c2 c3 hok
      obtain ⟨U, hU⟩ : ∃ U, U = wr.alloc (.cells #[.int .i64 d, .int .i64 id, .int .i64 it, .int .i64 q] 30) := ⟨_, rfl⟩
      have hbU : Below wr.heap.size wr U := by rw [hU]; exact bel_al (Below.refl _ _) _
      have HKU := hide (HK.out.on hbU)
      have HBU := hide (bel_on' HB.out hbU)
      clear hca hc hbU HK hok
      by_cases h80 : j < 80
      · have q80 : ¬ (j : Int) ≥ 80 := by omega
        obtain ⟨bX1, bX2⟩ := um_bd id 12 (by omega) (by omega)
        obtain ⟨X, hX⟩ : ∃ X, um id 12 = X := ⟨_, rfl⟩
        rw [hX] at bX1 bX2
        unfold um at hX
        have hwX : (Lit.int .i64 (1 + X)).wf = true := wf_of (by omega) (by omega)
        have CC : Hid (∀ u, Below U.heap.size U u → u.cell? ⟨wr.heap.size, 0, none⟩ = some (.int .i64 d) ∧ u.cell? ⟨wr.heap.size, 3, none⟩ = some (.int .i64 q)) := fun u hu => ⟨cellL (by rw [hU]; simp) hu, cellL (by rw [hU]; simp) hu⟩
        have HH := shas_any HKU.out hwX
        have HGS := hide (HKU.out.good)
        by_cases d0 : d = 0
        · subst d0
          cases hr : s.r (1 + X) with
          | none =>
            rw [hr] at HH
            dsimp only [Option.getD, Option.isSome] at HH
            have AA : Hid (∀ u, Below U.heap.size U u → Calls Try.prog 12 #[.pointer (some ⟨p, 0, none⟩), .int .i64 (1 + X)] u fun e w' => e = .returned (.int .i64 6) ∧ Sk w.heap.size w' p b s j ∧ Below w.heap.size w w') := fun u hu => com_on (HKU.out.on hu) (bel_on' HBU.out hu) hwX (unE_none hr) (comS_none hr)
            have HS2 := HS
            have HSE : ∃ s2, s2 = s := ⟨_, rfl⟩
            obtain ⟨s2, hs2⟩ := HSE
            rw [← hs2] at AA HS2
            rw [hU] at HH AA CC
            clear hs2 hr HKU HS hwX HBU hU HGS
            go_wp2_with (first
              | (go_at_call 18; refine HH.mono ?_; clear HH; rintro e v1 ⟨rfl, hb1⟩; obtain ⟨k0, k3⟩ := CC.out v1 hb1; have A := AA.out v1 hb1; clear hb1)
              | (go_at_call 12; refine A.mono ?_; clear A; rintro e V ⟨rfl, K2, B2⟩; clear k0 k3; have HK2 := hide (K2.mono (Nat.le_succ _)); have HB2 := hide B2; clear K2 B2))
            clear AA CC
            have gd := HK2.out.good
            obtain ⟨⟨bh1, bh2⟩, hFn⟩ := HS2.out.bd gd
            have HSM := hide (held_eq HS2.out gd)
            have HPOS := hide (hsm_pos gd)
            have hz0 := hsm_zero gd
            have O1 : onV s2 1 = R - g := (if_pos (by decide)).trans HS2.out.1
            have O0 : onV s2 0 = 7 := (if_pos (by decide)).trans HS2.out.2.1
            obtain ⟨F, hF⟩ : ∃ F, s2.fr 1 = F := ⟨_, rfl⟩
            have F1 : frV s2 1 = F := (if_pos (by decide)).trans hF
            rw [hF] at hFn HSM
            have HO1 := hide O1
            have HO0 := hide O0
            have HF1 := hide F1
            clear gd hF O1 O0 F1
            go_loopw [13, 14] (fun sv kv vr => ∃ m : Nat, m ≤ 12 ∧ kv = .int .i64 ((m : Int) + 1) ∧ sv = .int .i64 (sumTo (hsm s2) (m + 1)) ∧ Hid (Below V.heap.size V vr)) (fun _ kv _ => (13 - Go.RowKit.intOf kv).toNat)
            case atStart =>
              refine ⟨0, Nat.zero_le _, rfl, ?_, Below.refl _ _⟩
              simp [sumTo, hz0]
            case round =>
              obtain ⟨m, hm, rfl, rfl, HBV⟩ := hrel
              clear hz0
              obtain ⟨sm, hsm'⟩ : ∃ sm, sumTo (hsm s2) (m + 1) = sm := ⟨_, rfl⟩
              have HSQ := hide hsm'
              have bs : 0 ≤ sm ∧ sm ≤ 1000000000 := by
                have h1 := sumTo_nonneg HPOS.out (m + 1)
                have h3 := sumTo_mono HPOS.out (show m + 1 ≤ 13 by omega)
                have := HSM.out
                omega
              obtain ⟨bs1, bs2⟩ := bs
              rw [hsm']
              clear hsm'
              by_cases hm12 : m < 12
              · have qk : (m : Int) + 1 ≤ 12 := by omega
                have HA := shas_any (HK2.out.on HBV.out) (id := (m : Int) + 1) (wf_of (by omega) (by omega))
                obtain ⟨v, hv⟩ : ∃ v, ((s2.r ((m : Int) + 1)).getD (0, 0)).2 = v := ⟨_, rfl⟩
                have HNX : Hid (sm + v = sumTo (hsm s2) (m + 1 + 1)) := by
                  show _ = _
                  rw [sumTo, ← HSQ.out, ← hv]
                  rfl
                have hv0 : 0 ≤ v := by rw [← hv]; exact HPOS.out _
                have hvle : sm + v ≤ 1000000000 := by
                  rw [HNX.out]
                  have h3 := sumTo_mono HPOS.out (show m + 1 + 1 ≤ 13 by omega)
                  have := HSM.out
                  omega
                rw [hv] at HA
                obtain ⟨x', hx'⟩ : ∃ x', ((s2.r ((m : Int) + 1)).getD (0, 0)).1 = x' := ⟨_, rfl⟩
                obtain ⟨o', ho'⟩ : ∃ o', (s2.r ((m : Int) + 1)).isSome = o' := ⟨_, rfl⟩
                rw [hx', ho'] at HA
                clear hv hx' ho'
                go_wp2_with (go_at_call 18; refine HA.mono ?_; rintro e u ⟨rfl, hbu⟩)
                go_roundw
                case rel => exact ⟨m + 1, by omega, by go_num, by rw [← HNX.out], bel_on' HBV.out hbu⟩
                case measure => simp [Go.RowKit.intOf]; omega
              · have qk : ¬ (m : Int) + 1 ≤ 12 := by omega
                have qs : sm = R - g - F := by
                  have := HSQ.out
                  rw [show m + 1 = 13 by omega] at this
                  have := HSM.out
                  omega
                have HKV := hide (HK2.out.on HBV.out)
                have o1 := on_on HKV.out HO1.out
                have o0 := on_on HKV.out HO0.out
                have f1 := fr_on HKV.out HF1.out
                have q2 : (F != R - g - sm) = false := by simp; omega
                have q3 : ¬ F < 0 := by omega
                have HQS := hide qs
                clear qs hm12 HO1 HO0 HF1 HPOS HSQ HSM
                go_wp2_with (first
                  | (go_at_call 19; refine o1.mono ?_; clear o1; rintro e u ⟨rfl, rfl⟩)
                  | (go_at_call 20; refine f1.mono ?_; rintro e u ⟨rfl, rfl⟩)
                  | (go_at_call 19; refine o0.mono ?_; clear o0; rintro e u ⟨rfl, rfl⟩))
                go_roundw
                case rel => exact ⟨j + 1, s2, g, by go_num, by go_num, by omega, by omega, HKV, HS2, bel_on' HB2.out HBV.out⟩
                case measure => simp [Go.RowKit.intOf]; omega
          | some c =>
            obtain ⟨x, y⟩ := c
            rw [hr] at HH
            dsimp only [Option.getD, Option.isSome] at HH
            obtain ⟨s2, hs2⟩ : ∃ s2, comS s (1 + X) = s2 := ⟨_, rfl⟩
            have AA : Hid (∀ u, Below U.heap.size U u → Calls Try.prog 12 #[.pointer (some ⟨p, 0, none⟩), .int .i64 (1 + X)] u fun e w' => e = .returned (.int .i64 0) ∧ Sk w.heap.size w' p b s2 j ∧ Below w.heap.size w w') := fun u hu => com_on (HKU.out.on hu) (bel_on' HBU.out hu) hwX (unE_some hr) hs2
            have HS2 := hide (HS.out.com hr)
            rw [hs2] at HS2
            have by0 := HGS.out.le hr
            have by1 := HS.out.1
            have by2 := (HGS.out.at_ _ _ hr).2.2
            have by3 := (HS.out.2.2 _ _ hr).1
            have by4 := (HS.out.bd HGS.out).2
            dsimp only at by0 by2 by3
            rw [by3] at by0
            have gy1 : g + y ≤ R := by omega
            have gy2 : R - 1000000000 ≤ g + y := by omega
            clear by0 by1 by2 by3 by4
            rw [hU] at HH AA CC
            clear hs2 hr HKU HS hwX HBU hU HGS
            go_wp2_with (first
              | (go_at_call 18; refine HH.mono ?_; clear HH; rintro e v1 ⟨rfl, hb1⟩; obtain ⟨k0, k3⟩ := CC.out v1 hb1; have A := AA.out v1 hb1; clear hb1)
              | (go_at_call 12; refine A.mono ?_; clear A; rintro e V ⟨rfl, K2, B2⟩; clear k0 k3; have HK2 := hide (K2.mono (Nat.le_succ _)); have HB2 := hide B2; clear K2 B2))
            clear AA CC
            have gd := HK2.out.good
            obtain ⟨⟨bh1, bh2⟩, hFn⟩ := HS2.out.bd gd
            have HSM := hide (held_eq HS2.out gd)
            have HPOS := hide (hsm_pos gd)
            have hz0 := hsm_zero gd
            have O1 : onV s2 1 = R - (g + y) := (if_pos (by decide)).trans HS2.out.1
            have O0 : onV s2 0 = 7 := (if_pos (by decide)).trans HS2.out.2.1
            obtain ⟨F, hF⟩ : ∃ F, s2.fr 1 = F := ⟨_, rfl⟩
            have F1 : frV s2 1 = F := (if_pos (by decide)).trans hF
            rw [hF] at hFn HSM
            have HO1 := hide O1
            have HO0 := hide O0
            have HF1 := hide F1
            clear gd hF O1 O0 F1
            go_loopw [13, 14] (fun sv kv vr => ∃ m : Nat, m ≤ 12 ∧ kv = .int .i64 ((m : Int) + 1) ∧ sv = .int .i64 (sumTo (hsm s2) (m + 1)) ∧ Hid (Below V.heap.size V vr)) (fun _ kv _ => (13 - Go.RowKit.intOf kv).toNat)
            case atStart =>
              refine ⟨0, Nat.zero_le _, rfl, ?_, Below.refl _ _⟩
              simp [sumTo, hz0]
            case round =>
              obtain ⟨m, hm, rfl, rfl, HBV⟩ := hrel
              clear hz0
              obtain ⟨sm, hsm'⟩ : ∃ sm, sumTo (hsm s2) (m + 1) = sm := ⟨_, rfl⟩
              have HSQ := hide hsm'
              have bs : 0 ≤ sm ∧ sm ≤ 1000000000 := by
                have h1 := sumTo_nonneg HPOS.out (m + 1)
                have h3 := sumTo_mono HPOS.out (show m + 1 ≤ 13 by omega)
                have := HSM.out
                omega
              obtain ⟨bs1, bs2⟩ := bs
              rw [hsm']
              clear hsm'
              by_cases hm12 : m < 12
              · have qk : (m : Int) + 1 ≤ 12 := by omega
                have HA := shas_any (HK2.out.on HBV.out) (id := (m : Int) + 1) (wf_of (by omega) (by omega))
                obtain ⟨v, hv⟩ : ∃ v, ((s2.r ((m : Int) + 1)).getD (0, 0)).2 = v := ⟨_, rfl⟩
                have HNX : Hid (sm + v = sumTo (hsm s2) (m + 1 + 1)) := by
                  show _ = _
                  rw [sumTo, ← HSQ.out, ← hv]
                  rfl
                have hv0 : 0 ≤ v := by rw [← hv]; exact HPOS.out _
                have hvle : sm + v ≤ 1000000000 := by
                  rw [HNX.out]
                  have h3 := sumTo_mono HPOS.out (show m + 1 + 1 ≤ 13 by omega)
                  have := HSM.out
                  omega
                rw [hv] at HA
                obtain ⟨x', hx'⟩ : ∃ x', ((s2.r ((m : Int) + 1)).getD (0, 0)).1 = x' := ⟨_, rfl⟩
                obtain ⟨o', ho'⟩ : ∃ o', (s2.r ((m : Int) + 1)).isSome = o' := ⟨_, rfl⟩
                rw [hx', ho'] at HA
                clear hv hx' ho'
                go_wp2_with (go_at_call 18; refine HA.mono ?_; rintro e u ⟨rfl, hbu⟩)
                go_roundw
                case rel => exact ⟨m + 1, by omega, by go_num, by rw [← HNX.out], bel_on' HBV.out hbu⟩
                case measure => simp [Go.RowKit.intOf]; omega
              · have qk : ¬ (m : Int) + 1 ≤ 12 := by omega
                have qs : sm = R - (g + y) - F := by
                  have := HSQ.out
                  rw [show m + 1 = 13 by omega] at this
                  have := HSM.out
                  omega
                have HKV := hide (HK2.out.on HBV.out)
                have o1 := on_on HKV.out HO1.out
                have o0 := on_on HKV.out HO0.out
                have f1 := fr_on HKV.out HF1.out
                have q2 : (F != R - (g + y) - sm) = false := by simp; omega
                have q3 : ¬ F < 0 := by omega
                have HQS := hide qs
                clear qs hm12 HO1 HO0 HF1 HPOS HSQ HSM
                go_wp2_with (first
                  | (go_at_call 19; refine o1.mono ?_; clear o1; rintro e u ⟨rfl, rfl⟩)
                  | (go_at_call 20; refine f1.mono ?_; rintro e u ⟨rfl, rfl⟩)
                  | (go_at_call 19; refine o0.mono ?_; clear o0; rintro e u ⟨rfl, rfl⟩))
                go_roundw
                case rel => exact ⟨j + 1, s2, (g + y), by go_num, by go_num, by omega, by omega, HKV, HS2, bel_on' HB2.out HBV.out⟩
                case measure => simp [Go.RowKit.intOf]; omega
        · by_cases d1 : d = 1
          · subst d1
            cases hr : s.r (1 + X) with
            | none =>
              rw [hr] at HH
              dsimp only [Option.getD, Option.isSome] at HH
              have AA : Hid (∀ u, Below U.heap.size U u → Calls Try.prog 14 #[.pointer (some ⟨p, 0, none⟩), .int .i64 (1 + X)] u fun e w' => e = .returned (.int .i64 6) ∧ Sk w.heap.size w' p b s j ∧ Below w.heap.size w w') := fun u hu => rel_on (HKU.out.on hu) (bel_on' HBU.out hu) hwX (unE_none hr) (relS_none hr)
              have HS2 := HS
              have HSE : ∃ s2, s2 = s := ⟨_, rfl⟩
              obtain ⟨s2, hs2⟩ := HSE
              rw [← hs2] at AA HS2
              rw [hU] at HH AA CC
              clear hs2 hr HKU HS hwX HBU hU HGS
              go_wp2_with (first
                | (go_at_call 18; refine HH.mono ?_; clear HH; rintro e v1 ⟨rfl, hb1⟩; obtain ⟨k0, k3⟩ := CC.out v1 hb1; have A := AA.out v1 hb1; clear hb1)
                | (go_at_call 14; refine A.mono ?_; clear A; rintro e V ⟨rfl, K2, B2⟩; clear k0 k3; have HK2 := hide (K2.mono (Nat.le_succ _)); have HB2 := hide B2; clear K2 B2))
              clear AA CC
              have gd := HK2.out.good
              obtain ⟨⟨bh1, bh2⟩, hFn⟩ := HS2.out.bd gd
              have HSM := hide (held_eq HS2.out gd)
              have HPOS := hide (hsm_pos gd)
              have hz0 := hsm_zero gd
              have O1 : onV s2 1 = R - g := (if_pos (by decide)).trans HS2.out.1
              have O0 : onV s2 0 = 7 := (if_pos (by decide)).trans HS2.out.2.1
              obtain ⟨F, hF⟩ : ∃ F, s2.fr 1 = F := ⟨_, rfl⟩
              have F1 : frV s2 1 = F := (if_pos (by decide)).trans hF
              rw [hF] at hFn HSM
              have HO1 := hide O1
              have HO0 := hide O0
              have HF1 := hide F1
              clear gd hF O1 O0 F1
              go_loopw [13, 14] (fun sv kv vr => ∃ m : Nat, m ≤ 12 ∧ kv = .int .i64 ((m : Int) + 1) ∧ sv = .int .i64 (sumTo (hsm s2) (m + 1)) ∧ Hid (Below V.heap.size V vr)) (fun _ kv _ => (13 - Go.RowKit.intOf kv).toNat)
              case atStart =>
                refine ⟨0, Nat.zero_le _, rfl, ?_, Below.refl _ _⟩
                simp [sumTo, hz0]
              case round =>
                obtain ⟨m, hm, rfl, rfl, HBV⟩ := hrel
                clear hz0
                obtain ⟨sm, hsm'⟩ : ∃ sm, sumTo (hsm s2) (m + 1) = sm := ⟨_, rfl⟩
                have HSQ := hide hsm'
                have bs : 0 ≤ sm ∧ sm ≤ 1000000000 := by
                  have h1 := sumTo_nonneg HPOS.out (m + 1)
                  have h3 := sumTo_mono HPOS.out (show m + 1 ≤ 13 by omega)
                  have := HSM.out
                  omega
                obtain ⟨bs1, bs2⟩ := bs
                rw [hsm']
                clear hsm'
                by_cases hm12 : m < 12
                · have qk : (m : Int) + 1 ≤ 12 := by omega
                  have HA := shas_any (HK2.out.on HBV.out) (id := (m : Int) + 1) (wf_of (by omega) (by omega))
                  obtain ⟨v, hv⟩ : ∃ v, ((s2.r ((m : Int) + 1)).getD (0, 0)).2 = v := ⟨_, rfl⟩
                  have HNX : Hid (sm + v = sumTo (hsm s2) (m + 1 + 1)) := by
                    show _ = _
                    rw [sumTo, ← HSQ.out, ← hv]
                    rfl
                  have hv0 : 0 ≤ v := by rw [← hv]; exact HPOS.out _
                  have hvle : sm + v ≤ 1000000000 := by
                    rw [HNX.out]
                    have h3 := sumTo_mono HPOS.out (show m + 1 + 1 ≤ 13 by omega)
                    have := HSM.out
                    omega
                  rw [hv] at HA
                  obtain ⟨x', hx'⟩ : ∃ x', ((s2.r ((m : Int) + 1)).getD (0, 0)).1 = x' := ⟨_, rfl⟩
                  obtain ⟨o', ho'⟩ : ∃ o', (s2.r ((m : Int) + 1)).isSome = o' := ⟨_, rfl⟩
                  rw [hx', ho'] at HA
                  clear hv hx' ho'
                  go_wp2_with (go_at_call 18; refine HA.mono ?_; rintro e u ⟨rfl, hbu⟩)
                  go_roundw
                  case rel => exact ⟨m + 1, by omega, by go_num, by rw [← HNX.out], bel_on' HBV.out hbu⟩
                  case measure => simp [Go.RowKit.intOf]; omega
                · have qk : ¬ (m : Int) + 1 ≤ 12 := by omega
                  have qs : sm = R - g - F := by
                    have := HSQ.out
                    rw [show m + 1 = 13 by omega] at this
                    have := HSM.out
                    omega
                  have HKV := hide (HK2.out.on HBV.out)
                  have o1 := on_on HKV.out HO1.out
                  have o0 := on_on HKV.out HO0.out
                  have f1 := fr_on HKV.out HF1.out
                  have q2 : (F != R - g - sm) = false := by simp; omega
                  have q3 : ¬ F < 0 := by omega
                  have HQS := hide qs
                  clear qs hm12 HO1 HO0 HF1 HPOS HSQ HSM
                  go_wp2_with (first
                    | (go_at_call 19; refine o1.mono ?_; clear o1; rintro e u ⟨rfl, rfl⟩)
                    | (go_at_call 20; refine f1.mono ?_; rintro e u ⟨rfl, rfl⟩)
                    | (go_at_call 19; refine o0.mono ?_; clear o0; rintro e u ⟨rfl, rfl⟩))
                  go_roundw
                  case rel => exact ⟨j + 1, s2, g, by go_num, by go_num, by omega, by omega, HKV, HS2, bel_on' HB2.out HBV.out⟩
                  case measure => simp [Go.RowKit.intOf]; omega
            | some c =>
              obtain ⟨x, y⟩ := c
              rw [hr] at HH
              dsimp only [Option.getD, Option.isSome] at HH
              obtain ⟨s2, hs2⟩ : ∃ s2, relS s (1 + X) = s2 := ⟨_, rfl⟩
              have AA : Hid (∀ u, Below U.heap.size U u → Calls Try.prog 14 #[.pointer (some ⟨p, 0, none⟩), .int .i64 (1 + X)] u fun e w' => e = .returned (.int .i64 0) ∧ Sk w.heap.size w' p b s2 j ∧ Below w.heap.size w w') := fun u hu => rel_on (HKU.out.on hu) (bel_on' HBU.out hu) hwX (unE_some hr) hs2
              have HS2 := hide (HS.out.rel hr)
              rw [hs2] at HS2
              rw [hU] at HH AA CC
              clear hs2 hr HKU HS hwX HBU hU HGS
              go_wp2_with (first
                | (go_at_call 18; refine HH.mono ?_; clear HH; rintro e v1 ⟨rfl, hb1⟩; obtain ⟨k0, k3⟩ := CC.out v1 hb1; have A := AA.out v1 hb1; clear hb1)
                | (go_at_call 14; refine A.mono ?_; clear A; rintro e V ⟨rfl, K2, B2⟩; clear k0 k3; have HK2 := hide (K2.mono (Nat.le_succ _)); have HB2 := hide B2; clear K2 B2))
              clear AA CC
              have gd := HK2.out.good
              obtain ⟨⟨bh1, bh2⟩, hFn⟩ := HS2.out.bd gd
              have HSM := hide (held_eq HS2.out gd)
              have HPOS := hide (hsm_pos gd)
              have hz0 := hsm_zero gd
              have O1 : onV s2 1 = R - g := (if_pos (by decide)).trans HS2.out.1
              have O0 : onV s2 0 = 7 := (if_pos (by decide)).trans HS2.out.2.1
              obtain ⟨F, hF⟩ : ∃ F, s2.fr 1 = F := ⟨_, rfl⟩
              have F1 : frV s2 1 = F := (if_pos (by decide)).trans hF
              rw [hF] at hFn HSM
              have HO1 := hide O1
              have HO0 := hide O0
              have HF1 := hide F1
              clear gd hF O1 O0 F1
              go_loopw [13, 14] (fun sv kv vr => ∃ m : Nat, m ≤ 12 ∧ kv = .int .i64 ((m : Int) + 1) ∧ sv = .int .i64 (sumTo (hsm s2) (m + 1)) ∧ Hid (Below V.heap.size V vr)) (fun _ kv _ => (13 - Go.RowKit.intOf kv).toNat)
              case atStart =>
                refine ⟨0, Nat.zero_le _, rfl, ?_, Below.refl _ _⟩
                simp [sumTo, hz0]
              case round =>
                obtain ⟨m, hm, rfl, rfl, HBV⟩ := hrel
                clear hz0
                obtain ⟨sm, hsm'⟩ : ∃ sm, sumTo (hsm s2) (m + 1) = sm := ⟨_, rfl⟩
                have HSQ := hide hsm'
                have bs : 0 ≤ sm ∧ sm ≤ 1000000000 := by
                  have h1 := sumTo_nonneg HPOS.out (m + 1)
                  have h3 := sumTo_mono HPOS.out (show m + 1 ≤ 13 by omega)
                  have := HSM.out
                  omega
                obtain ⟨bs1, bs2⟩ := bs
                rw [hsm']
                clear hsm'
                by_cases hm12 : m < 12
                · have qk : (m : Int) + 1 ≤ 12 := by omega
                  have HA := shas_any (HK2.out.on HBV.out) (id := (m : Int) + 1) (wf_of (by omega) (by omega))
                  obtain ⟨v, hv⟩ : ∃ v, ((s2.r ((m : Int) + 1)).getD (0, 0)).2 = v := ⟨_, rfl⟩
                  have HNX : Hid (sm + v = sumTo (hsm s2) (m + 1 + 1)) := by
                    show _ = _
                    rw [sumTo, ← HSQ.out, ← hv]
                    rfl
                  have hv0 : 0 ≤ v := by rw [← hv]; exact HPOS.out _
                  have hvle : sm + v ≤ 1000000000 := by
                    rw [HNX.out]
                    have h3 := sumTo_mono HPOS.out (show m + 1 + 1 ≤ 13 by omega)
                    have := HSM.out
                    omega
                  rw [hv] at HA
                  obtain ⟨x', hx'⟩ : ∃ x', ((s2.r ((m : Int) + 1)).getD (0, 0)).1 = x' := ⟨_, rfl⟩
                  obtain ⟨o', ho'⟩ : ∃ o', (s2.r ((m : Int) + 1)).isSome = o' := ⟨_, rfl⟩
                  rw [hx', ho'] at HA
                  clear hv hx' ho'
                  go_wp2_with (go_at_call 18; refine HA.mono ?_; rintro e u ⟨rfl, hbu⟩)
                  go_roundw
                  case rel => exact ⟨m + 1, by omega, by go_num, by rw [← HNX.out], bel_on' HBV.out hbu⟩
                  case measure => simp [Go.RowKit.intOf]; omega
                · have qk : ¬ (m : Int) + 1 ≤ 12 := by omega
                  have qs : sm = R - g - F := by
                    have := HSQ.out
                    rw [show m + 1 = 13 by omega] at this
                    have := HSM.out
                    omega
                  have HKV := hide (HK2.out.on HBV.out)
                  have o1 := on_on HKV.out HO1.out
                  have o0 := on_on HKV.out HO0.out
                  have f1 := fr_on HKV.out HF1.out
                  have q2 : (F != R - g - sm) = false := by simp; omega
                  have q3 : ¬ F < 0 := by omega
                  have HQS := hide qs
                  clear qs hm12 HO1 HO0 HF1 HPOS HSQ HSM
                  go_wp2_with (first
                    | (go_at_call 19; refine o1.mono ?_; clear o1; rintro e u ⟨rfl, rfl⟩)
                    | (go_at_call 20; refine f1.mono ?_; rintro e u ⟨rfl, rfl⟩)
                    | (go_at_call 19; refine o0.mono ?_; clear o0; rintro e u ⟨rfl, rfl⟩))
                  go_roundw
                  case rel => exact ⟨j + 1, s2, g, by go_num, by go_num, by omega, by omega, HKV, HS2, bel_on' HB2.out HBV.out⟩
                  case measure => simp [Go.RowKit.intOf]; omega
          · have e0 : (d == 0) = false := by simp [d0]
            have e1 : (d == 1) = false := by simp [d1]
            clear d0 d1
            obtain ⟨bQ1, bQ2⟩ := um_bd q 1000 (by omega) (by omega)
            obtain ⟨Q, hQ⟩ : ∃ Q, um q 1000 = Q := ⟨_, rfl⟩
            rw [hQ] at bQ1 bQ2
            unfold um at hQ
            obtain ⟨s2, hs2⟩ : ∃ s2, resS s (1 + X) 1 (1 + Q) = s2 := ⟨_, rfl⟩
            obtain ⟨E2, hE2⟩ : ∃ E2, resE s (1 + X) 1 (1 + Q) = E2 := ⟨_, rfl⟩
            have AA : Hid (∀ u, Below U.heap.size U u → Calls Try.prog 16 #[.pointer (some ⟨p, 0, none⟩), .int .i64 (1 + X), .int .i64 1, .int .i64 (1 + Q)] u fun e w' => e = .returned (.int .i64 E2) ∧ Sk w.heap.size w' p b s2 (j + 1) ∧ Below w.heap.size w w') := fun u hu => res_on (HKU.out.on hu) (bel_on' HBU.out hu) hwX (by omega) hE2 hs2
            have HS2 := hide (HS.out.res (1 + X) (1 + Q) (by omega))
            rw [hs2] at HS2
            obtain ⟨x', hx'⟩ : ∃ x', ((s.r (1 + X)).getD (0, 0)).1 = x' := ⟨_, rfl⟩
            obtain ⟨y', hy'⟩ : ∃ y', ((s.r (1 + X)).getD (0, 0)).2 = y' := ⟨_, rfl⟩
            obtain ⟨o', ho'⟩ : ∃ o', (s.r (1 + X)).isSome = o' := ⟨_, rfl⟩
            rw [hx', hy', ho'] at HH
            clear hx' hy' ho' hE2
            rw [hU] at HH AA CC
            clear hs2 HKU HS hwX HBU hU HGS
            go_wp2_with (first
              | (go_at_call 18; refine HH.mono ?_; clear HH; rintro e v1 ⟨rfl, hb1⟩; obtain ⟨k0, k3⟩ := CC.out v1 hb1; have A := AA.out v1 hb1; clear hb1)
              | (go_at_call 16; refine A.mono ?_; clear A; rintro e V ⟨rfl, K2, B2⟩; clear k0 k3; have HK2 := hide (K2); have HB2 := hide B2; clear K2 B2))
            clear AA CC
            have gd := HK2.out.good
            obtain ⟨⟨bh1, bh2⟩, hFn⟩ := HS2.out.bd gd
            have HSM := hide (held_eq HS2.out gd)
            have HPOS := hide (hsm_pos gd)
            have hz0 := hsm_zero gd
            have O1 : onV s2 1 = R - g := (if_pos (by decide)).trans HS2.out.1
            have O0 : onV s2 0 = 7 := (if_pos (by decide)).trans HS2.out.2.1
            obtain ⟨F, hF⟩ : ∃ F, s2.fr 1 = F := ⟨_, rfl⟩
            have F1 : frV s2 1 = F := (if_pos (by decide)).trans hF
            rw [hF] at hFn HSM
            have HO1 := hide O1
            have HO0 := hide O0
            have HF1 := hide F1
            clear gd hF O1 O0 F1
            go_loopw [13, 14] (fun sv kv vr => ∃ m : Nat, m ≤ 12 ∧ kv = .int .i64 ((m : Int) + 1) ∧ sv = .int .i64 (sumTo (hsm s2) (m + 1)) ∧ Hid (Below V.heap.size V vr)) (fun _ kv _ => (13 - Go.RowKit.intOf kv).toNat)
            case atStart =>
              refine ⟨0, Nat.zero_le _, rfl, ?_, Below.refl _ _⟩
              simp [sumTo, hz0]
            case round =>
              obtain ⟨m, hm, rfl, rfl, HBV⟩ := hrel
              clear hz0
              obtain ⟨sm, hsm'⟩ : ∃ sm, sumTo (hsm s2) (m + 1) = sm := ⟨_, rfl⟩
              have HSQ := hide hsm'
              have bs : 0 ≤ sm ∧ sm ≤ 1000000000 := by
                have h1 := sumTo_nonneg HPOS.out (m + 1)
                have h3 := sumTo_mono HPOS.out (show m + 1 ≤ 13 by omega)
                have := HSM.out
                omega
              obtain ⟨bs1, bs2⟩ := bs
              rw [hsm']
              clear hsm'
              by_cases hm12 : m < 12
              · have qk : (m : Int) + 1 ≤ 12 := by omega
                have HA := shas_any (HK2.out.on HBV.out) (id := (m : Int) + 1) (wf_of (by omega) (by omega))
                obtain ⟨v, hv⟩ : ∃ v, ((s2.r ((m : Int) + 1)).getD (0, 0)).2 = v := ⟨_, rfl⟩
                have HNX : Hid (sm + v = sumTo (hsm s2) (m + 1 + 1)) := by
                  show _ = _
                  rw [sumTo, ← HSQ.out, ← hv]
                  rfl
                have hv0 : 0 ≤ v := by rw [← hv]; exact HPOS.out _
                have hvle : sm + v ≤ 1000000000 := by
                  rw [HNX.out]
                  have h3 := sumTo_mono HPOS.out (show m + 1 + 1 ≤ 13 by omega)
                  have := HSM.out
                  omega
                rw [hv] at HA
                obtain ⟨x', hx'⟩ : ∃ x', ((s2.r ((m : Int) + 1)).getD (0, 0)).1 = x' := ⟨_, rfl⟩
                obtain ⟨o', ho'⟩ : ∃ o', (s2.r ((m : Int) + 1)).isSome = o' := ⟨_, rfl⟩
                rw [hx', ho'] at HA
                clear hv hx' ho'
                go_wp2_with (go_at_call 18; refine HA.mono ?_; rintro e u ⟨rfl, hbu⟩)
                go_roundw
                case rel => exact ⟨m + 1, by omega, by go_num, by rw [← HNX.out], bel_on' HBV.out hbu⟩
                case measure => simp [Go.RowKit.intOf]; omega
              · have qk : ¬ (m : Int) + 1 ≤ 12 := by omega
                have qs : sm = R - g - F := by
                  have := HSQ.out
                  rw [show m + 1 = 13 by omega] at this
                  have := HSM.out
                  omega
                have HKV := hide (HK2.out.on HBV.out)
                have o1 := on_on HKV.out HO1.out
                have o0 := on_on HKV.out HO0.out
                have f1 := fr_on HKV.out HF1.out
                have q2 : (F != R - g - sm) = false := by simp; omega
                have q3 : ¬ F < 0 := by omega
                have HQS := hide qs
                clear qs hm12 HO1 HO0 HF1 HPOS HSQ HSM
                go_wp2_with (first
                  | (go_at_call 19; refine o1.mono ?_; clear o1; rintro e u ⟨rfl, rfl⟩)
                  | (go_at_call 20; refine f1.mono ?_; rintro e u ⟨rfl, rfl⟩)
                  | (go_at_call 19; refine o0.mono ?_; clear o0; rintro e u ⟨rfl, rfl⟩))
                go_roundw
                case rel => exact ⟨j + 1, s2, g, by go_num, by go_num, by omega, by omega, HKV, HS2, bel_on' HB2.out HBV.out⟩
                case measure => simp [Go.RowKit.intOf]; omega
      · have q80 : (j : Int) ≥ 80 := by omega
        have AW := sawake_any U
        rw [hU] at AW
        go_wp2_with (go_at_call 9; refine AW.mono ?_; rintro e u ⟨rfl, b3⟩)
        go_ret
        rw [← hU] at b3
        exact ⟨rfl, bel_on' HBU.out b3⟩
    · have ql : ¬ (j : Int) < (l1.length : Int) := by omega
      go_wp2_with (go_at_call 9; refine HAW.out.mono ?_; rintro e u ⟨rfl, b3⟩)
      go_ret
      exact ⟨rfl, bel_on' HB.out b3⟩
end Go.Proofs.Ytkdonlhdjgpjiaa
