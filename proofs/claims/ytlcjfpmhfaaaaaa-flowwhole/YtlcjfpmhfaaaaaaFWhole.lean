/-
  FlowWhole: the plan, as it happens, may happen whole; so may any beginning of its steps, and the way back.
-/
import Derived.Test.YtlcjfpmhfaaaaaaFWhM
import Derived.Test.YtlcjfpmhfaaaaaaFRef
import Derived.Test.YtlcjfpmhfaaaaaaFlwD
import Derived.Test.YtlcjfpmhfaaaaaaNum
import Derived.Test.YtlcjfpmhfaaaaaaLater
import Derived.Test.YtlcjfpmhfaaaaaaFBegins
import Derived.Deep.RegionHeld3
namespace Go.Proofs.Ytlcjfpmhfaaaaaa
open Go.ChangeShapes Go.WideShapes Go.ChangeAt Go.RowKit

theorem own_rowR {w : World} {L : List (Int × Int)} {n : Nat} (hn : L.length = n) {e : Ending} {w' : World} (h : OwnActs w L e w') : ∃ a c, e = .returned (.slice a n c) ∧ OwnR w' w.heap.size (.slice a n c) n L ∧ Below w.heap.size w w' := by
  subst hn
  obtain ⟨a, c, h1, -, h3, h4⟩ := h
  exact ⟨a, c, h1, ⟨rfl, h3⟩, h4⟩
theorem plan_len9 {o : Od} (hm : mayO o = true) : (planL o).length ≤ 6 ∧ (backL o).length ≤ 6 := by
  have := may_three hm
  rw [planL_may hm, backL_may hm]
  simp [upL_len, dnL_len]
  omega
theorem acts_at1 (w : World) (X : Obj) (x1 x2 : Int) : Sts ((w.alloc X).alloc (.cells #[.int .i64 x1, .int .i64 x2] 34)) (some ⟨w.heap.size + 1, 0, none⟩) [(x1, x2)] := by
  have h := acts_one (w.alloc X) x1 x2
  rwa [World.size_alloc] at h
theorem OwnR.mid {w wr : World} {base n c : Nat} {a : Option Addr} {L : List (Int × Int)} (h : OwnR w base (.slice a n c) n L) (hm : ∀ k, base ≤ k → k < w.heap.size → wr.heap[k]? = w.heap[k]?) : OwnR wr base (.slice a n c) n L :=
  ⟨h.1, row_stays h.2 (fun k _ hk hc => hm k hk (Array.getElem?_eq_some_iff.1 hc).1)⟩
theorem whole_mid {w w9 : World} {lo hi : Nat} {X : Obj} (h : (∀ j, lo ≤ j → j < hi → w.heap[j]? = w9.heap[j]?) ∧ hi ≤ w.heap.size) : ∀ j, lo ≤ j → j < hi → (w.alloc X).heap[j]? = w9.heap[j]? := fun j h1 h2 => by
  rw [Below.heap_alloc _ _ _ (by omega)]
  exact h.1 j h1 h2
theorem below2 {B : Nat} {w wr w' : World} {X Y : Obj} {v : Value} {n : Nat} {L : List (Int × Int)} (h : Below B w wr) (hb : B ≤ wr.heap.size) (hr : OwnR wr B v n L) (hg : ((wr.alloc X).alloc Y).grownBy w' v.ownBlock) : Below B w w' := by
  have h1 := h.alloc hb X
  have h2 := h1.alloc (by simp; omega) Y
  exact h2.trans (grown_below (by simp; omega) ((hr.alloc X).alloc Y).2 hg)

set_option maxRecDepth 100000 in
set_option maxHeartbeats 4000000 in
theorem flowWhole_walk (o0 : Od) (a0 : Option Addr) (cap0 : Nat) (a1 : Int) (w : World) (w0 : OdIn w o0 a0 cap0) (_w1 : (Lit.int .i64 a1).wf = true) :
    Calls Try.prog 6 #[.agg #[.int .i64 o0.id, .int .i64 o0.item, .int .i64 o0.qty, .int .i64 o0.client, .int .i64 o0.price, .slice a0 o0.steps.length cap0], .int .i64 a1] w fun e w' => e = .returned (.bool true) ∧ Below w.heap.size w w' := by
  obtain ⟨hl, hst, -, hcp⟩ := w0
  obtain ⟨V, hV⟩ : ∃ V, V = w.alloc (.cells #[.int .i64 o0.id, .int .i64 o0.item, .int .i64 o0.qty, .int .i64 o0.client, .int .i64 o0.price, .slice a0 o0.steps.length cap0] 24) := ⟨_, rfl⟩
  have hbV : Below w.heap.size w V := by rw [hV]; exact (Below.refl _ _).alloc (Nat.le_refl _) _
  have hVb : V.heap[w.heap.size]? = some (.cells #[.int .i64 o0.id, .int .i64 o0.item, .int .i64 o0.qty, .int .i64 o0.client, .int .i64 o0.price, .slice a0 o0.steps.length cap0] 24 (0, 0)) := by rw [hV]; exact World.alloc_heap_new w _
  have HV := hide hV
  have HBV := hide hbV
  have HVB := hide hVb
  have HST := hide hst
  have HLN := hide hl
  have HCP := hide hcp
  have AWK : Hid (∀ u, Calls Try.prog 9 #[] u fun e w' => e = .returned (.bool true) ∧ Below u.heap.size u w') := fun u => fawake_any u
  clear hst hcp
  obtain ⟨d0, d1, d2, d3, d4, d5⟩ := order_of_six hVb
  have MY := ref_omay_any o0 a0 cap0 V (HST.out.below hbV) hl HCP.out
  rw [hV] at d0 d1 d2 d3 d4 d5 MY
  clear hV hbV hVb
  cases hm : mayO o0
  · rw [hm] at MY
    have CP : Hid (∀ u, Below w.heap.size w u → Calls Try.prog 13 #[.agg #[.int .i64 o0.id, .int .i64 o0.item, .int .i64 o0.qty, .int .i64 o0.client, .int .i64 o0.price, .slice a0 o0.steps.length cap0], .int .i64 9] u fun e w' => ∃ a c, e = .returned (.slice a 0 c) ∧ Below u.heap.size u w') := fun u hu => (plan_law o0 a0 cap0 u (HST.out.below hu) HLN.out 9 (by omega)).mono fun e w' h => by
      rw [planL_not hm] at h
      obtain ⟨a, c, h1, -, -, h2⟩ := h
      exact ⟨a, c, h1, h2⟩
    have CB : Hid (∀ u, Below w.heap.size w u → Calls Try.prog 14 #[.agg #[.int .i64 o0.id, .int .i64 o0.item, .int .i64 o0.qty, .int .i64 o0.client, .int .i64 o0.price, .slice a0 o0.steps.length cap0], .int .i64 9] u fun e w' => ∃ a c, e = .returned (.slice a 0 c) ∧ Below u.heap.size u w') := fun u hu => (back_law o0 a0 cap0 u (HST.out.below hu) HLN.out 9 (by omega)).mono fun e w' h => by
      rw [backL_not hm] at h
      obtain ⟨a, c, h1, -, -, h2⟩ := h
      exact ⟨a, c, h1, h2⟩
    have CL : Hid (∀ u, Below w.heap.size w u → Calls Try.prog 15 #[.agg #[.int .i64 o0.id, .int .i64 o0.item, .int .i64 o0.qty, .int .i64 o0.client, .int .i64 o0.price, .slice a0 o0.steps.length cap0], .slice (some ⟨u.heap.size, 0, none⟩) 1 1] (u.alloc (.cells #[.int .i64 14, .int .i64 0] 34)) fun e w' => e = .returned (.int .i64 0) ∧ Below u.heap.size u w') := fun u hu => by
      have hb : Below u.heap.size u (u.alloc (.cells #[.int .i64 14, .int .i64 0] 34)) := (Below.refl _ _).alloc (Nat.le_refl _) _
      have h := legal_any o0 a0 cap0 [(14, 0)] (some ⟨u.heap.size, 0, none⟩) 1 _ (HST.out.below (bel_on' hu hb)) HLN.out (acts_one u 14 0) (by decide)
      rw [legal_not _ hm] at h
      exact h.mono fun e w' hh => ⟨hh.1, bel_on' hb hh.2⟩
    clear hm
    go_enter Try.func6, Try.ntmps6
    go_wp2_with fail
    refine MY.mono ?_
    rintro e u1 ⟨rfl, hb⟩
    rw [← HV.out] at hb
    have HB1 := hide (bel_on' HBV.out hb)
    have HX1 := hide ((hb.block _ (Array.getElem?_eq_some_iff.1 HVB.out).1).trans HVB.out)
    clear hb MY d0 d1 d2 d3 d4 d5
    obtain ⟨d0, d1, d2, d3, d4, d5⟩ := order_of_six HX1.out
    have D2 := CP.out u1.drew HB1.out.drew
    go_wp2_with fail
    go_region_held3 (fun w' => w'.cell? ⟨w.heap.size, 0, none⟩ = some (.int .i64 o0.id) ∧ w'.cell? ⟨w.heap.size, 1, none⟩ = some (.int .i64 o0.item) ∧ w'.cell? ⟨w.heap.size, 2, none⟩ = some (.int .i64 o0.qty) ∧ w'.cell? ⟨w.heap.size, 3, none⟩ = some (.int .i64 o0.client) ∧ w'.cell? ⟨w.heap.size, 4, none⟩ = some (.int .i64 o0.price) ∧ w'.cell? ⟨w.heap.size, 5, none⟩ = some (.slice a0 o0.steps.length cap0)) (go_keep) (first
      | (go_at_call 13; refine D2.mono ?_; clear D2; rintro e u2 ⟨a2, c2, rfl, hb0⟩; have hb : Below u1.heap.size u1 u2 := bel_on' (Below.refl _ _).drew hb0; have HB2 := hide (bel_on' HB1.out hb); have HX2 := hide ((hb.block _ (Array.getElem?_eq_some_iff.1 HX1.out).1).trans HX1.out); clear d0 d1 d2 d3 d4 d5; obtain ⟨d0, d1, d2, d3, d4, d5⟩ := order_of_six HX2.out; have D3 := CB.out u2 HB2.out; clear hb hb0)
      | (go_at_call 14; refine D3.mono ?_; clear D3; rintro e u3 ⟨a3, c3, rfl, hb⟩; have HB3 := hide (bel_on' HB2.out hb); have HX3 := hide ((hb.block _ (Array.getElem?_eq_some_iff.1 HX2.out).1).trans HX2.out); clear d0 d1 d2 d3 d4 d5; obtain ⟨d0, d1, d2, d3, d4, d5⟩ := order_of_six HX3.out; have D4 := CL.out u3 HB3.out; clear hb)
      | (go_at_call 15; refine D4.mono ?_; clear D4; rintro e u4 ⟨rfl, hb⟩; have HB4 := hide (bel_on' HB3.out hb); have HX4 := hide ((hb.block _ (Array.getElem?_eq_some_iff.1 HX3.out).1).trans HX3.out); clear d0 d1 d2 d3 d4 d5; obtain ⟨d0, d1, d2, d3, d4, d5⟩ := order_of_six HX4.out; clear hb)
      | (go_at_call 9; refine (AWK.out _).mono ?_; rintro e u5 ⟨rfl, hb⟩; have HB5 := hide (bel_on' HB4.out hb); have HX5 := hide ((hb.block _ (Array.getElem?_eq_some_iff.1 HX4.out).1).trans HX4.out); clear d0 d1 d2 d3 d4 d5; obtain ⟨d0, d1, d2, d3, d4, d5⟩ := order_of_six HX5.out; clear hb)
      | fail)
    all_goals go_wp2
    all_goals go_ret
    all_goals exact ⟨rfl, HB5.out⟩
  have HM := hide hm
  have h3 := may_three hm
  rw [hm] at MY
  clear hm
  go_enter Try.func6, Try.ntmps6
  go_wp2_with fail
  refine MY.mono ?_
  rintro e u1 ⟨rfl, hb⟩
  rw [← HV.out] at hb
  have HB1 := hide (bel_on' HBV.out hb)
  have HX1 := hide ((hb.block _ (Array.getElem?_eq_some_iff.1 HVB.out).1).trans HVB.out)
  clear hb MY d0 d1 d2 d3 d4 d5
  have hmm := @run_makeMap Try.prog
  obtain ⟨W1, r1, g1, -, b1⟩ := put_kind (W := u1.alloc (.map #[] 0)) (B := u1.heap.size) (clock := 0) (es := #[]) 1 2 (World.alloc_heap_new u1 _) rfl
  obtain ⟨W2, r2, g2, -, b2⟩ := put_kind 9 13 g1 rfl
  obtain ⟨W3, r3, g3, -, b3⟩ := put_kind 15 16 g2 rfl
  obtain ⟨W4, r4, g4, -, b4⟩ := put_kind 10 14 g3 rfl
  obtain ⟨W5, r5, g5, -, b5⟩ := put_kind 4 5 g4 rfl
  have HMP : Hid (W5.heap[u1.heap.size]? = some (.map kindsES 5)) := g5
  have hb15 : Below u1.heap.size u1 W5 := ((((((Below.refl _ _).alloc (Nat.le_refl _) (.map #[] 0)).trans (b1 _ (Nat.le_refl _))).trans (b2 _ (Nat.le_refl _))).trans (b3 _ (Nat.le_refl _))).trans (b4 _ (Nat.le_refl _))).trans (b5 _ (Nat.le_refl _))
  have HB2 := hide (bel_on' HB1.out hb15)
  have HX2 := hide ((hb15.block _ (Array.getElem?_eq_some_iff.1 HX1.out).1).trans HX1.out)
  clear g1 g2 g3 g4 g5 b1 b2 b3 b4 b5 hb15
  obtain ⟨d0, d1, d2, d3, d4, d5⟩ := order_of_six HX2.out
  go_wp2_with fail
  obtain ⟨hnp6, hnb6⟩ := plan_len9 HM.out
  obtain ⟨np, hnp⟩ : ∃ np, (planL o0).length = np := ⟨_, rfl⟩
  obtain ⟨nb, hnb⟩ : ∃ nb, (backL o0).length = nb := ⟨_, rfl⟩
  have HNP := hide hnp
  have HNB := hide hnb
  rw [hnp] at hnp6
  rw [hnb] at hnb6
  clear hnp hnb
  have PL := plan_law o0 a0 cap0 W5 (HST.out.below HB2.out) HLN.out 99 (by omega)
  rw [List.take_of_length_le (by have := HNP.out; omega)] at PL
  refine PL.mono ?_
  intro e w6 h6
  obtain ⟨ap, cp, rfl, hrp, hb6⟩ := own_rowR HNP.out h6
  have HB6 := hide (bel_on' HB2.out hb6)
  have HX6 := hide ((hb6.block _ (Array.getElem?_eq_some_iff.1 HX2.out).1).trans HX2.out)
  have HM6 := hide ((hb6.block _ (Array.getElem?_eq_some_iff.1 HMP.out).1).trans HMP.out)
  have HSP := hide hrp.sts
  clear PL h6 hrp hb6 d0 d1 d2 d3 d4 d5
  go_wp2_with fail
  go_loopw [6, 40] (fun lv iv wr => ∃ (k m : Nat) (av : Option Addr) (cv : Nat), lv = .slice av m cv ∧ iv = .int .i64 k ∧ k ≤ np ∧ m ≤ k ∧ Hid (OwnR wr w6.heap.size (.slice av m cv) m (conv ((planL o0).take k))) ∧ Hid (Below w6.heap.size w6 wr)) (fun _ iv _ => np - (intOf iv).toNat)
  case atStart => exact ⟨0, 0, none, 0, rfl, rfl, Nat.zero_le _, Nat.le_refl _, OwnR.nil _ _, Below.refl _ _⟩
  case round =>
    obtain ⟨k, m, av, cv, rfl, rfl, hk, hmk, HR, HB⟩ := hrel
    have hbs : w6.heap.size ≤ wr.heap.size := HB.out.size
    by_cases hlt : k < np
    · have hkl : k < (planL o0).length := by have := HNP.out; omega
      obtain ⟨b, off, rfl, e0, e1⟩ := (HSP.out.below HB.out).at hkl
      have q1 : (k : Int) < (np : Int) := by omega
      have HCN := hide (conv_next hkl)
      obtain ⟨⟨x1, x2⟩, hx⟩ : ∃ x, x = stAt (planL o0) k := ⟨_, rfl⟩
      rw [← hx] at e0 e1 HCN
      simp only at e0 e1 HCN
      clear hx hkl
      have hMA : (wr.alloc (.cells #[.int .i64 x1, .int .i64 x2] 34)).heap[u1.heap.size]? = some (.map kindsES 5) := by
        have h := (HB.out.block _ (Array.getElem?_eq_some_iff.1 HM6.out).1).trans HM6.out
        rw [Below.heap_alloc _ _ _ (Array.getElem?_eq_some_iff.1 h).1]
        exact h
      have hlk := look_kind hMA x1
      obtain ⟨v, hv⟩ : ∃ v, v = kindOf x1 := ⟨_, rfl⟩
      rw [← hv] at hlk HCN
      clear hv hMA
      by_cases hv0 : 0 < v
      · have q2 : v > 0 := hv0
        rw [if_pos hv0] at HCN
        go_wp2_with (at_builtin; refine append_R rfl (.tmp 50) (.tmp 55) rfl w6.heap.size _ m (conv ((planL o0).take k)) rfl ((HR.out.alloc _).alloc _) ⟨wr.heap.size + 1, 0, none⟩ [(v, x2)] 1 1 rfl rfl (acts_at1 wr _ v x2) (by omega) (by simp; omega) ?_; intro a5 c5 w5 o5 b5; rw [← HCN.out] at o5; have O5 := hide o5; have B5 := hide (((HB.out.alloc hbs _).alloc (by simp; omega) _).trans b5); clear o5 b5)
        go_roundw
        case rel => exact ⟨k + 1, m + 1, a5, c5, rfl, by go_num, by omega, by omega, O5, B5⟩
        case measure => simp [intOf]; omega
      · have q2 : ¬ v > 0 := hv0
        rw [if_neg hv0, List.append_nil] at HCN
        have HRN : Hid (OwnR (wr.alloc (.cells #[.int .i64 x1, .int .i64 x2] 34)) w6.heap.size (.slice av m cv) m (conv ((planL o0).take (k + 1)))) := by
          have h := HR.out.alloc (.cells #[.int .i64 x1, .int .i64 x2] 34)
          rw [← HCN.out] at h
          exact h
        have HBN := hide (HB.out.alloc hbs (.cells #[.int .i64 x1, .int .i64 x2] 34))
        go_wp2
        go_roundw
        case rel => exact ⟨k + 1, m, av, cv, rfl, by go_num, by omega, by omega, HRN, HBN⟩
        case measure => simp [intOf]; omega
    have q1 : ¬ (k : Int) < (np : Int) := by omega
    have HKE : Hid (k = np) := by show _ = _; omega
    clear hlt
    have hR := HR.out
    rw [List.take_of_length_le (by have := HNP.out; have := HKE.out; omega)] at hR
    obtain ⟨w7, hw7⟩ : ∃ w7, w7 = wr := ⟨_, rfl⟩
    rw [← hw7] at hR HB ⊢
    clear hw7 HR hbs
    obtain ⟨c0, c1⟩ := um_bd a1 ((o0.steps.length : Int) + 1) (by omega) (by omega)
    obtain ⟨c, hc⟩ : ∃ c : Nat, um a1 ((o0.steps.length : Int) + 1) = c := ⟨(um a1 ((o0.steps.length : Int) + 1)).toNat, by omega⟩
    have hcn : c ≤ o0.steps.length := by omega
    unfold um at hc
    clear c0 c1
    have HWL := hide (whole_legal HM.out hcn)
    have hm2 : m = o0.steps.length + 2 := by rw [← hR.1]; exact HWL.out.2.1
    have hmi : (m : Int) = (o0.steps.length : Int) + 2 := by omega
    have HMI := hide hmi
    have hm1 : 2 ≤ m ∧ m ≤ 5 := by omega
    have hcm : c ≤ m := by omega
    clear hm2 hmi
    obtain ⟨b7, off7, rfl, -, -⟩ := hR.sts.at (i := 0) (by have := hR.1; omega)
    have HR7 := hide hR
    have HS7 := hide hR.sts
    have HC7 := hide hR.cap
    have HB7 := hide (bel_on' HB6.out HB.out)
    have HX7 := hide ((HB.out.block _ (Array.getElem?_eq_some_iff.1 HX6.out).1).trans HX6.out)
    have HM7 := hide ((HB.out.block _ (Array.getElem?_eq_some_iff.1 HM6.out).1).trans HM6.out)
    clear hR HB HSP
    obtain ⟨d0, d1, d2, d3, d4, d5⟩ := order_of_six HX7.out
    have hmin : ∀ (W : World) (ts : Array TypeId) (t : TypeId), (Builtin.min_ ts t #[.int .i64 (c : Int), .int .i64 (m : Int)]).run Try.prog W = .ok (.int .i64 (c : Int)) W := fun W ts t => by
      rw [run_min_int2, if_neg (by omega)]
    have hsl : ∀ W : World, (Instr.sliceAt 25 (.slice (some ⟨b7, off7, none⟩) m cv) none (some (.int .i64 (c : Int))) none).run Try.prog W = .ok (.slice (some ⟨b7, off7, none⟩) c cv) W := fun W => slice_to W _ m cv c (by have := HC7.out; omega)
    have HT7 : Hid (Sts w7 (some ⟨b7, off7, none⟩) ((conv (planL o0)).take c)) := HS7.out.cut c
    have HTL : Hid (((conv (planL o0)).take c).length = c) := by show _ = _; rw [List.length_take, HWL.out.2.1]; omega
    go_wp2_with (at_builtin; refine append_G rfl (.tmp 67) (.tmp 73) rfl w7.heap.size _ 0 [] rfl (OwnR.nil _ _) ⟨b7, off7, none⟩ ((conv (planL o0)).take c) c cv HTL.out rfl HT7.out (by omega) (Nat.le_refl _) ?_; intro a8 c8 w8 o8 g8 v8; rw [Nat.zero_add] at o8 ⊢; rw [List.nil_append] at o8; have O8 := hide o8; have B8 := hide (grown_below (Nat.le_refl _) (OwnR.nil w7 w7.heap.size).2 g8); clear o8 g8 v8; have HX8 := hide ((B8.out.block _ (Array.getElem?_eq_some_iff.1 HX7.out).1).trans HX7.out); clear d0 d1 d2 d3 d4 d5; obtain ⟨d0, d1, d2, d3, d4, d5⟩ := order_of_six HX8.out)
    have BK := back_law o0 a0 cap0 w8 (HST.out.below (bel_on' HB7.out B8.out)) HLN.out 99 (by omega)
    rw [List.take_of_length_le (by have := HNB.out; omega)] at BK
    refine BK.mono ?_
    intro e w9 h9
    obtain ⟨aq, cq, rfl, hrq, hb9⟩ := own_rowR HNB.out h9
    have HQ9 := hide hrq
    have HR9 : Hid (OwnR w9 w7.heap.size (.slice a8 c c8) c ((conv (planL o0)).take c ++ convB c ((backL o0).take 0))) := by
      have h := O8.out.below hb9
      rw [show convB (c : Int) ((backL o0).take 0) = [] from rfl, List.append_nil]
      exact h
    have HB9 := hide (bel_on' B8.out hb9)
    have HF9 : Hid (Far w8.heap.size w9.heap.size (.slice a8 c c8)) := fun g hg => .inl (O8.out.2.lt g hg).2
    have h89 : w8.heap.size ≤ w9.heap.size := hb9.size
    clear BK h9 hrq hb9 d0 d1 d2 d3 d4 d5
    go_wp2_with fail
    go_loopw [7, 78] (fun lv iv wr => ∃ (k2 m2 : Nat) (av : Option Addr) (cw : Nat), lv = .slice av m2 cw ∧ iv = .int .i64 k2 ∧ k2 ≤ nb ∧ m2 ≤ c + k2 ∧ Hid (OwnR wr w7.heap.size (.slice av m2 cw) m2 ((conv (planL o0)).take c ++ convB c ((backL o0).take k2))) ∧ Hid (Below w7.heap.size w7 wr) ∧ Hid ((∀ j, w8.heap.size ≤ j → j < w9.heap.size → wr.heap[j]? = w9.heap[j]?) ∧ w9.heap.size ≤ wr.heap.size) ∧ Hid (Far w8.heap.size w9.heap.size (.slice av m2 cw))) (fun _ iv _ => nb - (intOf iv).toNat)
    case atStart => exact ⟨0, c, a8, c8, rfl, rfl, Nat.zero_le _, by omega, HR9, HB9, ⟨fun _ _ _ => rfl, Nat.le_refl _⟩, HF9⟩
    case round =>
      obtain ⟨k2, m2, av, cw, rfl, rfl, hk2, hmk2, HR, HB, HMD, HFR⟩ := hrel
      have hbs : w7.heap.size ≤ wr.heap.size := HB.out.size
      have hmd2 : w9.heap.size ≤ wr.heap.size := HMD.out.2
      by_cases hlt : k2 < nb
      · have hkl : k2 < (backL o0).length := by have := HNB.out; omega
        obtain ⟨b, off, rfl, e0, e1⟩ := (HQ9.out.mid HMD.out.1).sts.at hkl
        have q1' : (k2 : Int) < (nb : Int) := by omega
        have HCN := hide (convB_next (c := (c : Int)) hkl)
        obtain ⟨⟨x1, x2⟩, hx⟩ : ∃ x, x = stAt (backL o0) k2 := ⟨_, rfl⟩
        rw [← hx] at e0 e1 HCN
        simp only at e0 e1 HCN
        clear hx hkl
        have hMA : (wr.alloc (.cells #[.int .i64 x1, .int .i64 x2] 34)).heap[u1.heap.size]? = some (.map kindsES 5) := by
          have h := (HB.out.block _ (Array.getElem?_eq_some_iff.1 HM7.out).1).trans HM7.out
          rw [Below.heap_alloc _ _ _ (Array.getElem?_eq_some_iff.1 h).1]
          exact h
        have hlk := look_kind hMA x1
        obtain ⟨v, hv⟩ : ∃ v, v = kindOf x1 := ⟨_, rfl⟩
        rw [← hv] at hlk HCN
        clear hv hMA
        by_cases hv14 : v = 14
        · rw [if_pos (.inl hv14)] at HCN
          have q2 : (v == 14) = true := by simpa using hv14
          clear hv14
          go_wp2_with (at_builtin; refine append_G rfl (.tmp 94) (.tmp 99) rfl w7.heap.size _ m2 ((conv (planL o0)).take c ++ convB c ((backL o0).take k2)) rfl ((HR.out.alloc _).alloc _) ⟨wr.heap.size + 1, 0, none⟩ [(v, x2)] 1 1 rfl rfl (acts_at1 wr _ v x2) (by omega) (by simp; omega) ?_; intro a5 c5 w5 o5 g5 v5; rw [List.append_assoc, ← HCN.out] at o5; have O5 := hide o5; have B5 := hide (below2 HB.out hbs HR.out g5); have F5 := hide (far_mid (w := w9) HFR.out (show w9.heap.size ≤ (wr.alloc (.cells #[.int .i64 x1, .int .i64 x2] 34)).heap.size by simp; omega) (whole_mid HMD.out) g5 v5); clear o5 g5 v5)
          go_roundw
          case rel => exact ⟨k2 + 1, m2 + 1, a5, c5, rfl, by go_num, by omega, by omega, O5, B5, ⟨F5.out.2.1, F5.out.2.2⟩, F5.out.1⟩
          case measure => simp [intOf]; omega
        · have q2 : (v == 14) = false := by simpa using hv14
          by_cases hxc : x2 < (c : Int)
          · rw [if_pos (.inr hxc)] at HCN
            clear hv14
            go_wp2_with (at_builtin; refine append_G rfl (.tmp 94) (.tmp 99) rfl w7.heap.size _ m2 ((conv (planL o0)).take c ++ convB c ((backL o0).take k2)) rfl ((HR.out.alloc _).alloc _) ⟨wr.heap.size + 1, 0, none⟩ [(v, x2)] 1 1 rfl rfl (acts_at1 wr _ v x2) (by omega) (by simp; omega) ?_; intro a5 c5 w5 o5 g5 v5; rw [List.append_assoc, ← HCN.out] at o5; have O5 := hide o5; have B5 := hide (below2 HB.out hbs HR.out g5); have F5 := hide (far_mid (w := w9) HFR.out (show w9.heap.size ≤ (wr.alloc (.cells #[.int .i64 x1, .int .i64 x2] 34)).heap.size by simp; omega) (whole_mid HMD.out) g5 v5); clear o5 g5 v5)
            go_roundw
            case rel => exact ⟨k2 + 1, m2 + 1, a5, c5, rfl, by go_num, by omega, by omega, O5, B5, ⟨F5.out.2.1, F5.out.2.2⟩, F5.out.1⟩
            case measure => simp [intOf]; omega
          · rw [if_neg (by rintro (h | h); exact hv14 h; exact hxc h), List.append_nil] at HCN
            clear hv14
            have HRN : Hid (OwnR (wr.alloc (.cells #[.int .i64 x1, .int .i64 x2] 34)) w7.heap.size (.slice av m2 cw) m2 ((conv (planL o0)).take c ++ convB c ((backL o0).take (k2 + 1)))) := by
              have h := HR.out.alloc (.cells #[.int .i64 x1, .int .i64 x2] 34)
              rw [← HCN.out] at h
              exact h
            have HBN := hide (HB.out.alloc hbs (.cells #[.int .i64 x1, .int .i64 x2] 34))
            have HMN : Hid ((∀ j, w8.heap.size ≤ j → j < w9.heap.size → (wr.alloc (.cells #[.int .i64 x1, .int .i64 x2] 34)).heap[j]? = w9.heap[j]?) ∧ w9.heap.size ≤ (wr.alloc (.cells #[.int .i64 x1, .int .i64 x2] 34)).heap.size) := ⟨whole_mid HMD.out, by simp; omega⟩
            go_wp2
            go_roundw
            case rel => exact ⟨k2 + 1, m2, av, cw, rfl, by go_num, by omega, by omega, HRN, HBN, HMN, HFR⟩
            case measure => simp [intOf]; omega
      have q1' : ¬ (k2 : Int) < (nb : Int) := by omega
      have HKE2 : Hid (k2 = nb) := by show _ = _; omega
      clear hlt
      have hR := HR.out
      rw [show (backL o0).take k2 = backL o0 from List.take_of_length_le (by have := HNB.out; have := HKE2.out; omega)] at hR
      obtain ⟨w10, hw10⟩ : ∃ w10, w10 = wr := ⟨_, rfl⟩
      rw [← hw10] at hR HB ⊢
      clear hw10 HR HMD HFR hbs hmd2
      have HB10 := hide (bel_on' HB7.out HB.out)
      have HX10 := hide ((HB.out.block _ (Array.getElem?_eq_some_iff.1 HX7.out).1).trans HX7.out)
      have HSA := hide (HS7.out.below HB.out)
      have HSW := hide hR.sts
      have HAL := hide HR7.out.1
      have HWLn := hide hR.1
      have hm2c : (m2 : Int) = 2 * (c : Int) + 1 := by have h1 := hR.1; have h2 := HWL.out.2.2.2; omega
      have qA : ((m : Int) == (o0.steps.length : Int) + 2) = true := by have := HMI.out; simpa using this
      have qB : ((m2 : Int) == (m2 : Int)) = true := by simp
      have qC : ((m2 : Int) == 2 * (c : Int) + 1) = true := by simpa using hm2c
      clear hm2c hR HB
      obtain ⟨d0, d1, d2, d3, d4, d5⟩ := order_of_six HX10.out
      have LA : ∀ u : Later w10, Calls Try.prog 15 #[.agg #[.int .i64 o0.id, .int .i64 o0.item, .int .i64 o0.qty, .int .i64 o0.client, .int .i64 o0.price, .slice a0 o0.steps.length cap0], .slice (some ⟨b7, off7, none⟩) m cv] u.w fun e w' => e = .returned (.int .i64 (m : Int)) ∧ ∃ u' : Later w10, w' = u'.w := fun u => calls_later u (by
        have hbu := bel_on' HB10.out u.below
        have h := legal_any o0 a0 cap0 (conv (planL o0)) (some ⟨b7, off7, none⟩) cv u.w (HST.out.below hbu) HLN.out (HSA.out.below u.below) (by have := HAL.out; omega)
        rw [HWL.out.1, HAL.out, show o0.steps.length + 2 = m by have := HMI.out; omega] at h
        exact h)
      have LW : ∀ u : Later w10, Calls Try.prog 15 #[.agg #[.int .i64 o0.id, .int .i64 o0.item, .int .i64 o0.qty, .int .i64 o0.client, .int .i64 o0.price, .slice a0 o0.steps.length cap0], .slice av m2 cw] u.w fun e w' => e = .returned (.int .i64 (m2 : Int)) ∧ ∃ u' : Later w10, w' = u'.w := fun u => calls_later u (by
        have hbu := bel_on' HB10.out u.below
        have h := legal_any o0 a0 cap0 ((conv (planL o0)).take c ++ convB c (backL o0)) av cw u.w (HST.out.below hbu) HLN.out (HSW.out.below u.below) (by have := HWLn.out; omega)
        rw [HWL.out.2.2.1, ← HWL.out.2.2.2, HWLn.out] at h
        exact h)
      have AW : ∀ u : Later w10, Calls Try.prog 9 #[] u.w fun e w' => e = .returned (.bool true) ∧ ∃ u' : Later w10, w' = u'.w := fun u => calls_later u (by
        exact AWK.out u.w)
      have hne : Nonempty (Later w10) := ⟨Later.now w10⟩
      have l0 := Later.cell d0
      have l1 := Later.cell d1
      have l2 := Later.cell d2
      have l3 := Later.cell d3
      have l4 := Later.cell d4
      have l5 := Later.cell d5
      clear d0 d1 d2 d3 d4 d5
      go_wp2_with fail
      refine region_later (by kernel_rfl) (by kernel_rfl) ?_
      repeat (first | go_big_quiet_step (first | (go_at_call 15; with_reducible exact LA _) | (go_at_call 15; with_reducible exact LW _) | (go_at_call 9; with_reducible exact AW _)) | quiet_step (first | (go_at_call 15; with_reducible exact LA _) | (go_at_call 15; with_reducible exact LW _) | (go_at_call 9; with_reducible exact AW _)))
      refine wpQuiet_nil ?_
      intro u
      have hbu := u.below
      generalize u.w = u11 at hbu ⊢
      have HB11 := hide (bel_on' HB10.out hbu)
      clear hbu hne l0 l1 l2 l3 l4 l5 LA LW AW
      go_wp2
      go_ret
      exact ⟨rfl, HB11.out⟩
end Go.Proofs.Ytlcjfpmhfaaaaaa
