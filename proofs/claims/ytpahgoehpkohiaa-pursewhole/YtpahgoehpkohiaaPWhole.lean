/-
  PurseWhole's walk.
-/
import Derived.Test.YtpahgoehpkohiaaPrsA
import Derived.Test.YtpahgoehpkohiaaPrsD
import Derived.Test.YtpahgoehpkohiaaNum
import Derived.Test.YtpahgoehpkohiaaPTill
import Derived.Test.YtpahgoehpkohiaaMapI
namespace Go.Proofs.Ytpahgoehpkohiaa
open Go.ChangeShapes Go.WideShapes Go.ChangeAt Go.RowKit Go.Maps

/-- What is kept between two calls. -/
structure WhS (T : Int) (s : Pb) : Prop where
  sum : s.m 0 + s.m 1 + s.till = T
  at_ : ∀ x c, s.a x = some c → c.1 = 0 ∨ c.1 = 1
theorem WhS.allow {T : Int} {s : Pb} (k : WhS T s) (id x q : Int) (h : x = 0 ∨ x = 1) : WhS T (alwS s id x q) := by
  by_cases e : alwE s id x q = 0
  · rw [alwS_ok e]
    refine ⟨k.sum, fun y c hy => ?_⟩
    dsimp only at hy
    by_cases ey : y = id
    · subst ey; rw [updO_same] at hy; cases hy; exact h
    · rw [updO_other _ _ ey] at hy; exact k.at_ y c hy
  · rw [alwS_no e]; exact k
theorem WhS.void {T : Int} {s : Pb} (k : WhS T s) (id : Int) : WhS T (voidS s id) := by
  cases h : s.a id with
  | none => rw [voidS_none h]; exact k
  | some c =>
    rw [voidS_some h]
    refine ⟨k.sum, fun y c hy => ?_⟩
    dsimp only at hy
    by_cases ey : y = id
    · subst ey; rw [updO_same] at hy; cases hy
    · rw [updO_other _ _ ey] at hy; exact k.at_ y c hy
theorem WhS.cap {T : Int} {s : Pb} (k : WhS T s) (id : Int) : WhS T (capS s id) := by
  cases h : s.a id with
  | none => rw [capS_none h]; exact k
  | some c =>
    have h1 := k.at_ id _ h
    have h2 := k.sum
    rw [capS_some h]
    refine ⟨?_, fun y c hy => ?_⟩
    · dsimp only
      rw [upd_at, upd_at]
      rcases h1 with h1 | h1
      · rw [h1, if_pos rfl, if_neg (by omega)]; omega
      · rw [h1, if_pos rfl, if_neg (by omega)]; omega
    · dsimp only at hy
      by_cases ey : y = id
      · subst ey; rw [updO_same] at hy; cases hy
      · rw [updO_other _ _ ey] at hy; exact k.at_ y c hy
theorem whS_new {A C : Int} (hA : 0 ≤ A ∧ A < 100000) (hC : 0 ≤ C ∧ C < 100000) : WhS (A + C) (toP (newQ [A, C])) := by
  rw [toP_new]
  obtain ⟨v1, v2, v3, v4, v5, v6⟩ := new_view [A, C]
  refine ⟨?_, fun x c h => ?_⟩
  · rw [v4, (v1 0).trans (clampA_id (a := A) (by omega) (by omega)), (v1 1).trans (clampA_id (a := C) (by omega) (by omega)), Int.add_zero]
  · rw [v6] at h; cases h
theorem void_pay (s : Pb) (id : Int) : (voidS s id).p = s.p := by unfold voidS; split <;> rfl
theorem alw_pay (s : Pb) (id k q : Int) : (alwS s id k q).p = s.p := by unfold alwS; split <;> rfl
section
variable {B : Nat} {w : World} {p b c : Nat} {s s' : Qb} {n : Nat} {id E : Int}
theorem alw_by (k : Pk B w p b c s n) (hw : (Lit.int .i64 id).wf = true) {x q : Int} (hn : n < 1000000) (hE : alwE (toP s) id x q = E) (hS : alwQ s id x q = s') :
    Calls Try.prog 16 #[.pointer (some ⟨p, 0, none⟩), .int .i64 id, .int .i64 x, .int .i64 q] w fun e w' => e = .returned (.int .i64 E) ∧ Pk B w' p b c s' (n + 1) ∧ Rg.Kept (Own2 b c) w w' := by
  subst hE hS
  exact pallow_any k hw x q hn
theorem cap_by (k : Pk B w p b c s n) (hw : (Lit.int .i64 id).wf = true) (hn : n < 1000000) (hE : capE (toP s) id = E) (hS : capQ s id = s') :
    Calls Try.prog 12 #[.pointer (some ⟨p, 0, none⟩), .int .i64 id] w fun e w' => e = .returned (.int .i64 E) ∧ Pk B w' p b c s' (n + 1) ∧ Rg.Kept (Own2 b c) w w' := by
  subst hE hS
  exact pcap_any k hw hn
theorem void_by (k : Pk B w p b c s n) (hw : (Lit.int .i64 id).wf = true) (hE : capE (toP s) id = E) (hS : voidQ s id = s') :
    Calls Try.prog 14 #[.pointer (some ⟨p, 0, none⟩), .int .i64 id] w fun e w' => e = .returned (.int .i64 E) ∧ Pk B w' p b c s' (n + 1) ∧ Rg.Kept (Own2 b c) w w' := by
  subst hE hS
  exact (pvoid_any k hw).mono (fun _ w' ⟨h1, h2, h3⟩ => ⟨h1, h2.mono (Nat.le_succ _), h3⟩)
end
/-- Where the law's own map lies. -/
def Apart (B m b c p : Nat) : Prop := B ≤ m ∧ m ≠ b ∧ m ≠ c ∧ m ≠ p
/-- What stands between two rounds. -/
def Stand (w wr : World) (p b c m : Nat) (T : Int) (s : Qb) (j : Nat) : Prop := Pk w.heap.size wr p b c s j ∧ Mi wr m j (toP s).p ∧ WhS T (toP s) ∧ Below w.heap.size w wr
theorem Stand.on {w wr W : World} {p b c m : Nat} {T : Int} {s : Qb} {j : Nat} (k : Stand w wr p b c m T s j) (hb : Below wr.heap.size wr W) : Stand w W p b c m T s j := ⟨k.1.on hb, k.2.1.on hb, k.2.2.1, bel_on' k.2.2.2 hb⟩
def WRel (w : World) (p b c m : Nat) (T : Int) (len : Nat) (i : Value) (wr : World) : Prop :=
  ∃ (j : Nat) (s : Qb), i = .int .i64 j ∧ j ≤ len ∧ j ≤ 80 ∧ Hid (Stand w wr p b c m T s j)
/-- The calls that a round ends with. -/
theorem Stand.calls {w wr : World} {p b c m : Nat} {T : Int} {s : Qb} {j : Nat} (k : Stand w wr p b c m T s j) :
    (0 ≤ (toP s).till ∧ (toP s).till ≤ 1000000000) ∧ (0 ≤ (toP s).m 0 ∧ (toP s).m 0 ≤ 1000000000) ∧ (0 ≤ (toP s).m 1 ∧ (toP s).m 1 ≤ 1000000000) ∧ alwK (toP s) 0 ≤ (toP s).m 0 ∧ alwK (toP s) 1 ≤ (toP s).m 1 ∧
    (Calls Try.prog 19 #[.pointer (some ⟨p, 0, none⟩)] wr fun e w' => e = .returned (.int .i64 (toP s).till) ∧ Below wr.heap.size wr w') ∧
    (∀ u, Below wr.heap.size wr u → Calls Try.prog 20 #[.pointer (some ⟨p, 0, none⟩), .int .i64 0] u fun e w' => e = .returned (.int .i64 ((toP s).m 0)) ∧ Below wr.heap.size wr w') ∧
    (∀ u, Below wr.heap.size wr u → Calls Try.prog 20 #[.pointer (some ⟨p, 0, none⟩), .int .i64 1] u fun e w' => e = .returned (.int .i64 ((toP s).m 1)) ∧ Below wr.heap.size wr w') ∧
    (∀ u, Below wr.heap.size wr u → Calls Try.prog 21 #[.pointer (some ⟨p, 0, none⟩), .int .i64 0] u fun e w' => e = .returned (.int .i64 (alwK (toP s) 0)) ∧ Below wr.heap.size wr w') ∧
    (∀ u, Below wr.heap.size wr u → Calls Try.prog 21 #[.pointer (some ⟨p, 0, none⟩), .int .i64 1] u fun e w' => e = .returned (.int .i64 (alwK (toP s) 1)) ∧ Below wr.heap.size wr w') := by
  obtain ⟨k1, k2, k3, k4⟩ := k
  have g := k1.good.gp
  have o1 := g.over
  have o2 := g.allA_nn
  refine ⟨⟨g.tnn, by omega⟩, ⟨g.mnn (by omega) (by omega), g.top 0 (by omega) (by omega)⟩, ⟨g.mnn (by omega) (by omega), g.top 1 (by omega) (by omega)⟩, g.low 0 (by omega) (by omega), g.low 1 (by omega) (by omega), ptill_any k1, fun u hu => ?_, fun u hu => ?_, fun u hu => ?_, fun u hu => ?_⟩
  · exact (pmoney_any (k1.on hu) 0).mono (fun e w' ⟨h1, h2⟩ => ⟨h1, bel_on' hu h2⟩)
  · exact (pmoney_any (k1.on hu) 1).mono (fun e w' ⟨h1, h2⟩ => ⟨h1, bel_on' hu h2⟩)
  · exact (pallowed_any (k1.on hu) 0).mono (fun e w' ⟨h1, h2⟩ => ⟨h1, bel_on' hu h2⟩)
  · exact (pallowed_any (k1.on hu) 1).mono (fun e w' ⟨h1, h2⟩ => ⟨h1, bel_on' hu h2⟩)

set_option maxRecDepth 100000 in
set_option maxHeartbeats 8000000 in
theorem purseWhole_walk (a0 a1 : Int) (l2 : List Cl) (a2 : Option Addr) (cap2 : Nat) (w : World) (_w0 : (Lit.int .i64 a0).wf = true) (_w1 : (Lit.int .i64 a1).wf = true) (w2 : ClsIn w l2 a2) :
    Calls Try.prog 5 #[.int .i64 a0, .int .i64 a1, .slice a2 l2.length cap2] w fun e w' => e = .returned (.bool true) ∧ Below w.heap.size w w' := by
  obtain ⟨bA1, bA2⟩ := um_bd a0 100000 (by omega) (by omega)
  obtain ⟨A, hA⟩ : ∃ A, um a0 100000 = A := ⟨_, rfl⟩
  rw [hA] at bA1 bA2
  obtain ⟨bC1, bC2⟩ := um_bd a1 100000 (by omega) (by omega)
  obtain ⟨C, hC⟩ : ∃ C, um a1 100000 = C := ⟨_, rfl⟩
  rw [hC] at bC1 bC2
  unfold um at hA hC
  obtain ⟨hlen, hcl⟩ := w2
  have HCL := hide hcl
  clear hcl
  have hmm := @run_makeMap Try.prog
  have HN := hide (pnew_on w (w.alloc (.cells #[.int .i64 A, .int .i64 C] 3)) [A, C] (bel_al (Below.refl _ _) _) w.heap.size (ints_two w A C) (by simp))
  have HS1 := hide (whS_new (A := A) (C := C) ⟨bA1, bA2⟩ ⟨bC1, bC2⟩)
  have HP1 : Hid ((toP (newQ [A, C])).p = fun _ => 0) := by show _ = _; rw [toP_new]; rfl
  go_enter Try.func5, Try.ntmps5
  go_wp2_with (first
    | (go_at_call 10; refine HN.out.mono ?_; rintro e u1 ⟨p, b, c, rfl, k1, hb1⟩; have HK1 := hide k1; have HB1 := hide hb1; clear k1 hb1))
  clear hA hC HN
  obtain ⟨s0, hs0⟩ : ∃ s0, newQ [A, C] = s0 := ⟨_, rfl⟩
  rw [hs0] at HK1 HS1 HP1
  clear hs0 hmm
  obtain ⟨m, hm⟩ : ∃ m, u1.heap.size = m := ⟨_, rfl⟩
  have HST : Hid (Stand w (u1.alloc (.map #[] 0)) p b c m (A + C) s0 0) := by
    have hb : Below u1.heap.size u1 (u1.alloc (.map #[] 0)) := bel_al (Below.refl _ _) _
    refine ⟨HK1.out.on hb, ?_, HS1.out, bel_on' HB1.out hb⟩
    rw [HP1.out, ← hm]
    exact Mi.new u1
  have HAP : Hid (Apart w.heap.size m b c p) := by
    have h1 := HK1.out.1.lt
    have h2 := HK1.out.1.2.2.1.lt
    have h3 := HK1.out.1.2.2.2.lt
    have h4 := HB1.out.size
    exact ⟨by omega, by omega, by omega, by omega⟩
  rw [hm]
  clear HK1 HB1 HS1 HP1 hm
  go_loopw [30] (fun i wr => WRel w p b c m (A + C) l2.length i wr) (fun i _ => l2.length - (Go.RowKit.intOf i).toNat)
  case atStart => exact ⟨0, s0, rfl, Nat.zero_le _, Nat.zero_le _, HST⟩
  case round =>
    obtain ⟨j, s, rfl, hj, hj80, HS⟩ := hrel
    clear HST
    by_cases hlt : j < l2.length
    · have ql : (j : Int) < (l2.length : Int) := by omega
      obtain ⟨cl, hc⟩ : ∃ cl, l2[j]? = some cl := ⟨l2[j], by simp [hlt]⟩
      rcases HCL.out.below HS.out.2.2.2 with h0 | ⟨bc, off, rfl, hca⟩
      · subst h0; simp at hlt
      obtain ⟨⟨c0, c1, c2, c3⟩, hok⟩ := hca j cl hc
      obtain ⟨d, id, it, q⟩ := cl
      dsimp only at c0 c1 c2 c3 hok
      obtain ⟨U, hU⟩ : ∃ U, U = wr.alloc (.cells #[.int .i64 d, .int .i64 id, .int .i64 it, .int .i64 q] 30) := ⟨_, rfl⟩
      have hbU : Below wr.heap.size wr U := by rw [hU]; exact bel_al (Below.refl _ _) _
      have HSU := hide (HS.out.on hbU)
      clear hca hc hbU HS hok
      by_cases h80 : j < 80
      · have q80 : ¬ (j : Int) ≥ 80 := by omega
        obtain ⟨bX1, bX2⟩ := um_bd id 12 (by omega) (by omega)
        obtain ⟨X, hX⟩ : ∃ X, um id 12 = X := ⟨_, rfl⟩
        rw [hX] at bX1 bX2
        unfold um at hX
        have hwX : (Lit.int .i64 (1 + X)).wf = true := wf_of (by omega) (by omega)
        have HPN := hide HSU.out.1.good.gp.pnn
        by_cases d0 : d = 0
        · subst d0
          cases hr : s.a (1 + X) with
          | none =>
            have A1 := cap_by HSU.out.1 hwX (by omega) (capE_none (s := toP s) hr) (capQ_none hr)
            obtain ⟨s2, hs2⟩ : ∃ s2, s = s2 := ⟨_, rfl⟩
            have NX : Hid (∀ V, Pk w.heap.size V p b c s (j + 1) → Rg.Kept (Own2 b c) U V → Stand w V p b c m (A + C) s (j + 1)) := fun V K1 O1 =>
              ⟨K1, (HSU.out.2.1.mono (Nat.le_succ _)).kept O1 (fun _ e => e.elim HAP.out.2.1 HAP.out.2.2.1), HSU.out.2.2.1, HSU.out.2.2.2.trans (HSU.out.1.bel O1)⟩
            rw [hs2] at A1 NX
            rw [hU] at A1 NX
            clear hs2 hr HSU hwX hU
            go_wp2_with (first
              | (go_at_call 12; refine A1.mono ?_; clear A1; rintro e V ⟨rfl, K1, O1⟩; have HSV := hide (NX.out V K1 O1); clear K1 O1; obtain ⟨D, hown, hfit⟩ := HSV.out.2.1; have HFT := hide hfit; clear hfit)
              | (at_range; refine wpList_range_own _ rfl _ 38 rfl 3 3 lawI Try.underlying38 _ m (j + 1) _ rfl hown ?_; intro w0 hrg0 hg0 hs0)
              | go_in)
            clear NX
            go_frame
            have HG := hide HSV.out.1.good.gp
            have HB0 : Hid (Below V.heap.size V w0) := (Below.refl _ _).grown hg0 (Nat.le_refl _) (fun k e => by cases e)
            clear hown hg0 hs0
            go_loopw [12] (fun nv vr => IRel V D m (j + 1) (toP s2).p nv vr) (fun _ vr => vr.rangeLeft m V.heap.size)
            case atStart => exact ⟨_, _, [], rfl, hrg0, CollectedI.start D, HB0⟩
            case round =>
              obtain ⟨left, cnt, ss, rfl, hrg, hC, HB⟩ := hrel
              clear hrg0 HB0
              have HC := hide hC
              obtain ⟨S, hS⟩ : ∃ S, (ss.map (toP s2).p).sum = S := ⟨_, rfl⟩
              have HMEM : Hid (∀ y ∈ ss, 0 ≤ y ∧ y < 1000) := fun y hy => by
                have h1 := ((hC.2 y).1 hy).1
                rw [(HFT.out.2 y).2] at h1
                have := HG.out.pat y (by simpa using h1)
                omega
              have bS : 0 ≤ S ∧ S ≤ 1000000000 := by
                rw [← hS]
                have h1 := sum_nonneg (l := ss) HG.out.pnn
                have h2 := sum_some hC.1 HMEM.out HG.out.pnn
                have h3 := HG.out.paid
                have h4 := HG.out.over
                have h5 := HG.out.allA_nn
                omega
              obtain ⟨bS1, bS2⟩ := bS
              have HSQ := hide hS
              rw [hS]
              clear hS
              go_wp2_with (first
                | (at_next; refine next_int rfl _ rfl Try.underlying3 rfl hrg HFT.out hC ?_ ?_)
                | go_in)
              · intro hall
                have HQ : Hid ((toP s2).till = S) := by
                  have h1 := sum_nodup (N := 1000) ss (toP s2).p HC.out.1 (fun x hx => by have := HMEM.out x hx; omega) (fun y hy => by
                    rcases Decidable.em ((toP s2).p y = 0) with h | h
                    · exact h
                    · exact absurd ((hall y).2 h) hy)
                  have h2 := HG.out.paid
                  have h3 := HSQ.out
                  show _ = _
                  omega
                clear hall hrg hC
                have HSW := hide (HSV.out.on HB.out)
                obtain ⟨-, hm0, hm1, hk0, hk1, t1, t2, t3, t4, t5⟩ := HSW.out.calls
                have hsum := HSW.out.2.2.1.sum
                rw [HQ.out] at t1 hsum
                have HT2 := hide t2
                have HT3 := hide t3
                have HT4 := hide t4
                have HT5 := hide t5
                clear t2 t3 t4 t5
                obtain ⟨M0, hM0⟩ : ∃ M0, (toP s2).m 0 = M0 := ⟨_, rfl⟩
                obtain ⟨M1, hM1⟩ : ∃ M1, (toP s2).m 1 = M1 := ⟨_, rfl⟩
                obtain ⟨K0, hK0⟩ : ∃ K0, alwK (toP s2) 0 = K0 := ⟨_, rfl⟩
                obtain ⟨K1, hK1⟩ : ∃ K1, alwK (toP s2) 1 = K1 := ⟨_, rfl⟩
                rw [hM0] at hm0 hk0 HT2
                rw [hM1] at hm1 hk1 HT3
                rw [hK0] at hk0 HT4
                rw [hK1] at hk1 HT5
                rw [hM0, hM1] at hsum
                obtain ⟨m01, m02⟩ := hm0
                obtain ⟨m11, m12⟩ := hm1
                have q1 : (M0 + M1 + S != A + C) = false := by simp; omega
                have q2 : ¬ M0 < K0 := by omega
                have q3 : ¬ M1 < K1 := by omega
                clear hsum hk0 hk1 hM0 hM1 hK0 hK1
                go_wp2_with (first
                  | (go_at_call 19; refine t1.mono ?_; clear t1; rintro e v1 ⟨rfl, b1⟩; have t2 := HT2.out v1 b1; clear b1)
                  | (go_at_call 20; refine t2.mono ?_; clear t2; rintro e v2 ⟨rfl, b2⟩; have t3 := HT3.out v2 b2; clear b2)
                  | (go_at_call 20; refine t3.mono ?_; clear t3; rintro e v3 ⟨rfl, b3⟩; have t4 := HT2.out v3 b3; clear b3)
                  | (go_at_call 20; refine t4.mono ?_; clear t4; rintro e v4 ⟨rfl, b4⟩; have t5 := HT4.out v4 b4; clear b4)
                  | (go_at_call 21; refine t5.mono ?_; clear t5; rintro e v5 ⟨rfl, b5⟩; have t6 := HT3.out v5 b5; clear b5)
                  | (go_at_call 20; refine t6.mono ?_; clear t6; rintro e v6 ⟨rfl, b6⟩; have t7 := HT5.out v6 b6; clear b6)
                  | (go_at_call 21; refine t7.mono ?_; clear t7; rintro e v7 ⟨rfl, b7⟩; have HB7 := hide b7; clear b7))
                go_roundw
                case rel => exact ⟨j + 1, s2, by go_num, by omega, by omega, HSW.out.on HB7.out⟩
                case measure => simp [Go.RowKit.intOf]; omega
              · intro y w1 left1 cnt1 hgy hny hrg1 hC1 hlt1 hg1 hs1 hen
                have HB1 : Hid (Below V.heap.size V w1) := HB.out.grown hg1 HB.out.size (fun k e => by cases e; exact Nat.le_refl _)
                have HR1 := hide hrg1
                have HC1 := hide hC1
                have HLT := hide hlt1
                have HSS : Hid (((ss ++ [y]).map (toP s2).p).sum = S + (toP s2).p y) := by
                  show _ = _
                  rw [List.map_append, List.sum_append, HSQ.out, List.map_singleton, List.sum_singleton]
                have bT : S + (toP s2).p y ≤ 1000000000 := by
                  rw [← HSS.out]
                  have h2 := sum_some (l := ss ++ [y]) hC1.1 (fun z hz => by
                    rcases List.mem_append.1 hz with h | h
                    · exact HMEM.out z h
                    · rw [List.mem_singleton] at h; subst h; have := HG.out.pat _ hgy; omega) HG.out.pnn
                  have h3 := HG.out.paid
                  have h4 := HG.out.over
                  have h5 := HG.out.allA_nn
                  omega
                have hpy := HG.out.pnn y
                obtain ⟨Y, hY⟩ : ∃ Y, (toP s2).p y = Y := ⟨_, rfl⟩
                rw [hY] at hen bT HSS hpy
                rw [hY]
                clear hrg hC hrg1 hC1 hlt1 hgy hny hg1 hs1 hY
                go_wp2
                go_roundw
                case rel => exact ⟨left1, cnt1, ss ++ [y], by rw [HSS.out], HR1.out, HC1.out, HB1⟩
                case measure => exact HLT.out
          | some cc =>
            obtain ⟨x, y⟩ := cc
            obtain ⟨s2, hs2⟩ : ∃ s2, capQ s (1 + X) = s2 := ⟨_, rfl⟩
            have A1 := cap_by HSU.out.1 hwX (by omega) (capE_some (s := toP s) hr) hs2
            have hat := HSU.out.1.good.gp.at_ (1 + X) (x, y) hr
            have hp0 : (toP s).p (1 + X) = 0 := hat.2.2.2
            have hy1 : 1 ≤ y := hat.2.2.1
            have hy2 : y ≤ 1000000000 := by
              have h1 := (HSU.out.1.good.gp.le (x := 1 + X) (c := (x, y)) hr).2
              have h2 := HSU.out.1.good.gp.over
              have h3 := HSU.out.1.good.gp.tnn
              dsimp only at h1
              omega
            have hps : (toP s2).p = upd (toP s).p (1 + X) y := by rw [← hs2, toP_cap HSU.out.1.good, (cap_view HSU.out.1.good.gp hr).2.2.1]
            have hpy : (toP s2).p (1 + X) = y := by rw [hps, upd_same]
            have HWH : Hid (WhS (A + C) (toP s2)) := by rw [← hs2, toP_cap HSU.out.1.good]; exact HSU.out.2.2.1.cap _
            have NX : Hid (∀ V, Pk w.heap.size V p b c s2 (j + 1) → Rg.Kept (Own2 b c) U V → (Instr.lookup 38 (.map (some m)) (.int .i64 (1 + X)) false).run Try.prog V = .ok (.int .i64 0) V ∧
                (Calls Try.prog 18 #[.pointer (some ⟨p, 0, none⟩), .int .i64 (1 + X)] V fun e w' => e = .returned (.tuple #[.int .i64 y, .bool true]) ∧ Below V.heap.size V w') ∧
                (∀ W, Below V.heap.size V W → ∃ W2, (Instr.mapUpdate 38 (.map (some m)) (.int .i64 (1 + X)) (.int .i64 y)).run Try.prog W = .ok () W2 ∧ Stand w W2 p b c m (A + C) s2 (j + 1))) := fun V K1 O1 => by
              have hm1 : Mi V m j (toP s).p := HSU.out.2.1.kept O1 (fun _ e => e.elim HAP.out.2.1 HAP.out.2.2.1)
              have hl := hm1.look hwX
              rw [hp0] at hl
              have P := ppaid_any K1 hwX
              have e1 : alw s2.d (1 + X) = y := hpy
              rw [K1.good.dd.isSome, e1, show decide (y ≠ 0) = true by simp; omega] at P
              refine ⟨hl, P, fun W hW => ?_⟩
              obtain ⟨W2, hr2, hm2, hk2⟩ := (hm1.on hW).put hwX (v := y) (wf_of (by omega) (by omega)) (by omega) (by omega)
              rw [← hps] at hm2
              have hb2 : Below w.heap.size W W2 := hk2.bel (by have := (bel_on' (HSU.out.2.2.2.trans (HSU.out.1.bel O1)) hW).size; omega) (fun i _ e => by have := HAP.out.1; omega)
              exact ⟨W2, hr2, (K1.on hW).kept hk2 (fun _ e => HAP.out.2.2.2 e.symm) (fun _ e => HAP.out.2.1 e.symm) (fun _ e => HAP.out.2.2.1 e.symm), hm2, HWH.out, (bel_on' (HSU.out.2.2.2.trans (HSU.out.1.bel O1)) hW).trans hb2⟩
            rw [hU] at A1 NX
            clear hs2 hr HSU hwX hU hat hp0 hps hpy HWH
            go_wp2_with (first
              | (go_at_call 12; refine A1.mono ?_; clear A1; rintro e V1 ⟨rfl, K1, O1⟩; obtain ⟨hl1, P1, Z1⟩ := NX.out V1 K1 O1; have HZ1 := hide Z1; clear K1 O1 Z1)
              | (go_at_call 18; refine P1.mono ?_; clear P1 hl1; rintro e V2 ⟨rfl, b2⟩; obtain ⟨V, hr2, hst⟩ := HZ1.out V2 b2; have HSV := hide hst; clear hst b2; obtain ⟨D, hown, hfit⟩ := HSV.out.2.1; have HFT := hide hfit; clear hfit)
              | (at_range; refine wpList_range_own _ rfl _ 38 rfl 3 3 lawI Try.underlying38 _ m (j + 1) _ rfl hown ?_; intro w0 hrg0 hg0 hs0)
              | go_in)
            go_frame
            have HG := hide HSV.out.1.good.gp
            have HB0 : Hid (Below V.heap.size V w0) := (Below.refl _ _).grown hg0 (Nat.le_refl _) (fun k e => by cases e)
            clear hown hg0 hs0
            go_loopw [12] (fun nv vr => IRel V D m (j + 1) (toP s2).p nv vr) (fun _ vr => vr.rangeLeft m V.heap.size)
            case atStart => exact ⟨_, _, [], rfl, hrg0, CollectedI.start D, HB0⟩
            case round =>
              obtain ⟨left, cnt, ss, rfl, hrg, hC, HB⟩ := hrel
              clear hrg0 HB0
              have HC := hide hC
              obtain ⟨S, hS⟩ : ∃ S, (ss.map (toP s2).p).sum = S := ⟨_, rfl⟩
              have HMEM : Hid (∀ y ∈ ss, 0 ≤ y ∧ y < 1000) := fun y hy => by
                have h1 := ((hC.2 y).1 hy).1
                rw [(HFT.out.2 y).2] at h1
                have := HG.out.pat y (by simpa using h1)
                omega
              have bS : 0 ≤ S ∧ S ≤ 1000000000 := by
                rw [← hS]
                have h1 := sum_nonneg (l := ss) HG.out.pnn
                have h2 := sum_some hC.1 HMEM.out HG.out.pnn
                have h3 := HG.out.paid
                have h4 := HG.out.over
                have h5 := HG.out.allA_nn
                omega
              obtain ⟨bS1, bS2⟩ := bS
              have HSQ := hide hS
              rw [hS]
              clear hS
              go_wp2_with (first
                | (at_next; refine next_int rfl _ rfl Try.underlying3 rfl hrg HFT.out hC ?_ ?_)
                | go_in)
              · intro hall
                have HQ : Hid ((toP s2).till = S) := by
                  have h1 := sum_nodup (N := 1000) ss (toP s2).p HC.out.1 (fun x hx => by have := HMEM.out x hx; omega) (fun y hy => by
                    rcases Decidable.em ((toP s2).p y = 0) with h | h
                    · exact h
                    · exact absurd ((hall y).2 h) hy)
                  have h2 := HG.out.paid
                  have h3 := HSQ.out
                  show _ = _
                  omega
                clear hall hrg hC
                have HSW := hide (HSV.out.on HB.out)
                obtain ⟨-, hm0, hm1, hk0, hk1, t1, t2, t3, t4, t5⟩ := HSW.out.calls
                have hsum := HSW.out.2.2.1.sum
                rw [HQ.out] at t1 hsum
                have HT2 := hide t2
                have HT3 := hide t3
                have HT4 := hide t4
                have HT5 := hide t5
                clear t2 t3 t4 t5
                obtain ⟨M0, hM0⟩ : ∃ M0, (toP s2).m 0 = M0 := ⟨_, rfl⟩
                obtain ⟨M1, hM1⟩ : ∃ M1, (toP s2).m 1 = M1 := ⟨_, rfl⟩
                obtain ⟨K0, hK0⟩ : ∃ K0, alwK (toP s2) 0 = K0 := ⟨_, rfl⟩
                obtain ⟨K1, hK1⟩ : ∃ K1, alwK (toP s2) 1 = K1 := ⟨_, rfl⟩
                rw [hM0] at hm0 hk0 HT2
                rw [hM1] at hm1 hk1 HT3
                rw [hK0] at hk0 HT4
                rw [hK1] at hk1 HT5
                rw [hM0, hM1] at hsum
                obtain ⟨m01, m02⟩ := hm0
                obtain ⟨m11, m12⟩ := hm1
                have q1 : (M0 + M1 + S != A + C) = false := by simp; omega
                have q2 : ¬ M0 < K0 := by omega
                have q3 : ¬ M1 < K1 := by omega
                clear hsum hk0 hk1 hM0 hM1 hK0 hK1
                go_wp2_with (first
                  | (go_at_call 19; refine t1.mono ?_; clear t1; rintro e v1 ⟨rfl, b1⟩; have t2 := HT2.out v1 b1; clear b1)
                  | (go_at_call 20; refine t2.mono ?_; clear t2; rintro e v2 ⟨rfl, b2⟩; have t3 := HT3.out v2 b2; clear b2)
                  | (go_at_call 20; refine t3.mono ?_; clear t3; rintro e v3 ⟨rfl, b3⟩; have t4 := HT2.out v3 b3; clear b3)
                  | (go_at_call 20; refine t4.mono ?_; clear t4; rintro e v4 ⟨rfl, b4⟩; have t5 := HT4.out v4 b4; clear b4)
                  | (go_at_call 21; refine t5.mono ?_; clear t5; rintro e v5 ⟨rfl, b5⟩; have t6 := HT3.out v5 b5; clear b5)
                  | (go_at_call 20; refine t6.mono ?_; clear t6; rintro e v6 ⟨rfl, b6⟩; have t7 := HT5.out v6 b6; clear b6)
                  | (go_at_call 21; refine t7.mono ?_; clear t7; rintro e v7 ⟨rfl, b7⟩; have HB7 := hide b7; clear b7))
                go_roundw
                case rel => exact ⟨j + 1, s2, by go_num, by omega, by omega, HSW.out.on HB7.out⟩
                case measure => simp [Go.RowKit.intOf]; omega
              · intro y w1 left1 cnt1 hgy hny hrg1 hC1 hlt1 hg1 hs1 hen
                have HB1 : Hid (Below V.heap.size V w1) := HB.out.grown hg1 HB.out.size (fun k e => by cases e; exact Nat.le_refl _)
                have HR1 := hide hrg1
                have HC1 := hide hC1
                have HLT := hide hlt1
                have HSS : Hid (((ss ++ [y]).map (toP s2).p).sum = S + (toP s2).p y) := by
                  show _ = _
                  rw [List.map_append, List.sum_append, HSQ.out, List.map_singleton, List.sum_singleton]
                have bT : S + (toP s2).p y ≤ 1000000000 := by
                  rw [← HSS.out]
                  have h2 := sum_some (l := ss ++ [y]) hC1.1 (fun z hz => by
                    rcases List.mem_append.1 hz with h | h
                    · exact HMEM.out z h
                    · rw [List.mem_singleton] at h; subst h; have := HG.out.pat _ hgy; omega) HG.out.pnn
                  have h3 := HG.out.paid
                  have h4 := HG.out.over
                  have h5 := HG.out.allA_nn
                  omega
                have hpy := HG.out.pnn y
                obtain ⟨Y, hY⟩ : ∃ Y, (toP s2).p y = Y := ⟨_, rfl⟩
                rw [hY] at hen bT HSS hpy
                rw [hY]
                clear hrg hC hrg1 hC1 hlt1 hgy hny hg1 hs1 hY
                go_wp2
                go_roundw
                case rel => exact ⟨left1, cnt1, ss ++ [y], by rw [HSS.out], HR1.out, HC1.out, HB1⟩
                case measure => exact HLT.out
        · by_cases d1 : d = 1
          · subst d1
            obtain ⟨s2, hs2⟩ : ∃ s2, voidQ s (1 + X) = s2 := ⟨_, rfl⟩
            obtain ⟨E2, hE2⟩ : ∃ E2, capE (toP s) (1 + X) = E2 := ⟨_, rfl⟩
            have A1 := void_by HSU.out.1 hwX hE2 hs2
            have NX : Hid (∀ V, Pk w.heap.size V p b c s2 (j + 1) → Rg.Kept (Own2 b c) U V → Stand w V p b c m (A + C) s2 (j + 1)) := fun V K1 O1 => by
              refine ⟨K1, ?_, ?_, HSU.out.2.2.2.trans (HSU.out.1.bel O1)⟩
              · have e : (toP s2).p = (toP s).p := by rw [← hs2, toP_void, void_pay]
                rw [e]
                exact (HSU.out.2.1.mono (Nat.le_succ _)).kept O1 (fun _ e => e.elim HAP.out.2.1 HAP.out.2.2.1)
              · rw [← hs2, toP_void]; exact HSU.out.2.2.1.void _
            rw [hU] at A1 NX
            clear hs2 hE2 HSU hwX hU
            go_wp2_with (first
              | (go_at_call 14; refine A1.mono ?_; clear A1; rintro e V ⟨rfl, K1, O1⟩; have HSV := hide (NX.out V K1 O1); clear K1 O1; obtain ⟨D, hown, hfit⟩ := HSV.out.2.1; have HFT := hide hfit; clear hfit)
              | (at_range; refine wpList_range_own _ rfl _ 38 rfl 3 3 lawI Try.underlying38 _ m (j + 1) _ rfl hown ?_; intro w0 hrg0 hg0 hs0)
              | go_in)
            clear NX
            go_frame
            have HG := hide HSV.out.1.good.gp
            have HB0 : Hid (Below V.heap.size V w0) := (Below.refl _ _).grown hg0 (Nat.le_refl _) (fun k e => by cases e)
            clear hown hg0 hs0
            go_loopw [12] (fun nv vr => IRel V D m (j + 1) (toP s2).p nv vr) (fun _ vr => vr.rangeLeft m V.heap.size)
            case atStart => exact ⟨_, _, [], rfl, hrg0, CollectedI.start D, HB0⟩
            case round =>
              obtain ⟨left, cnt, ss, rfl, hrg, hC, HB⟩ := hrel
              clear hrg0 HB0
              have HC := hide hC
              obtain ⟨S, hS⟩ : ∃ S, (ss.map (toP s2).p).sum = S := ⟨_, rfl⟩
              have HMEM : Hid (∀ y ∈ ss, 0 ≤ y ∧ y < 1000) := fun y hy => by
                have h1 := ((hC.2 y).1 hy).1
                rw [(HFT.out.2 y).2] at h1
                have := HG.out.pat y (by simpa using h1)
                omega
              have bS : 0 ≤ S ∧ S ≤ 1000000000 := by
                rw [← hS]
                have h1 := sum_nonneg (l := ss) HG.out.pnn
                have h2 := sum_some hC.1 HMEM.out HG.out.pnn
                have h3 := HG.out.paid
                have h4 := HG.out.over
                have h5 := HG.out.allA_nn
                omega
              obtain ⟨bS1, bS2⟩ := bS
              have HSQ := hide hS
              rw [hS]
              clear hS
              go_wp2_with (first
                | (at_next; refine next_int rfl _ rfl Try.underlying3 rfl hrg HFT.out hC ?_ ?_)
                | go_in)
              · intro hall
                have HQ : Hid ((toP s2).till = S) := by
                  have h1 := sum_nodup (N := 1000) ss (toP s2).p HC.out.1 (fun x hx => by have := HMEM.out x hx; omega) (fun y hy => by
                    rcases Decidable.em ((toP s2).p y = 0) with h | h
                    · exact h
                    · exact absurd ((hall y).2 h) hy)
                  have h2 := HG.out.paid
                  have h3 := HSQ.out
                  show _ = _
                  omega
                clear hall hrg hC
                have HSW := hide (HSV.out.on HB.out)
                obtain ⟨-, hm0, hm1, hk0, hk1, t1, t2, t3, t4, t5⟩ := HSW.out.calls
                have hsum := HSW.out.2.2.1.sum
                rw [HQ.out] at t1 hsum
                have HT2 := hide t2
                have HT3 := hide t3
                have HT4 := hide t4
                have HT5 := hide t5
                clear t2 t3 t4 t5
                obtain ⟨M0, hM0⟩ : ∃ M0, (toP s2).m 0 = M0 := ⟨_, rfl⟩
                obtain ⟨M1, hM1⟩ : ∃ M1, (toP s2).m 1 = M1 := ⟨_, rfl⟩
                obtain ⟨K0, hK0⟩ : ∃ K0, alwK (toP s2) 0 = K0 := ⟨_, rfl⟩
                obtain ⟨K1, hK1⟩ : ∃ K1, alwK (toP s2) 1 = K1 := ⟨_, rfl⟩
                rw [hM0] at hm0 hk0 HT2
                rw [hM1] at hm1 hk1 HT3
                rw [hK0] at hk0 HT4
                rw [hK1] at hk1 HT5
                rw [hM0, hM1] at hsum
                obtain ⟨m01, m02⟩ := hm0
                obtain ⟨m11, m12⟩ := hm1
                have q1 : (M0 + M1 + S != A + C) = false := by simp; omega
                have q2 : ¬ M0 < K0 := by omega
                have q3 : ¬ M1 < K1 := by omega
                clear hsum hk0 hk1 hM0 hM1 hK0 hK1
                go_wp2_with (first
                  | (go_at_call 19; refine t1.mono ?_; clear t1; rintro e v1 ⟨rfl, b1⟩; have t2 := HT2.out v1 b1; clear b1)
                  | (go_at_call 20; refine t2.mono ?_; clear t2; rintro e v2 ⟨rfl, b2⟩; have t3 := HT3.out v2 b2; clear b2)
                  | (go_at_call 20; refine t3.mono ?_; clear t3; rintro e v3 ⟨rfl, b3⟩; have t4 := HT2.out v3 b3; clear b3)
                  | (go_at_call 20; refine t4.mono ?_; clear t4; rintro e v4 ⟨rfl, b4⟩; have t5 := HT4.out v4 b4; clear b4)
                  | (go_at_call 21; refine t5.mono ?_; clear t5; rintro e v5 ⟨rfl, b5⟩; have t6 := HT3.out v5 b5; clear b5)
                  | (go_at_call 20; refine t6.mono ?_; clear t6; rintro e v6 ⟨rfl, b6⟩; have t7 := HT5.out v6 b6; clear b6)
                  | (go_at_call 21; refine t7.mono ?_; clear t7; rintro e v7 ⟨rfl, b7⟩; have HB7 := hide b7; clear b7))
                go_roundw
                case rel => exact ⟨j + 1, s2, by go_num, by omega, by omega, HSW.out.on HB7.out⟩
                case measure => simp [Go.RowKit.intOf]; omega
              · intro y w1 left1 cnt1 hgy hny hrg1 hC1 hlt1 hg1 hs1 hen
                have HB1 : Hid (Below V.heap.size V w1) := HB.out.grown hg1 HB.out.size (fun k e => by cases e; exact Nat.le_refl _)
                have HR1 := hide hrg1
                have HC1 := hide hC1
                have HLT := hide hlt1
                have HSS : Hid (((ss ++ [y]).map (toP s2).p).sum = S + (toP s2).p y) := by
                  show _ = _
                  rw [List.map_append, List.sum_append, HSQ.out, List.map_singleton, List.sum_singleton]
                have bT : S + (toP s2).p y ≤ 1000000000 := by
                  rw [← HSS.out]
                  have h2 := sum_some (l := ss ++ [y]) hC1.1 (fun z hz => by
                    rcases List.mem_append.1 hz with h | h
                    · exact HMEM.out z h
                    · rw [List.mem_singleton] at h; subst h; have := HG.out.pat _ hgy; omega) HG.out.pnn
                  have h3 := HG.out.paid
                  have h4 := HG.out.over
                  have h5 := HG.out.allA_nn
                  omega
                have hpy := HG.out.pnn y
                obtain ⟨Y, hY⟩ : ∃ Y, (toP s2).p y = Y := ⟨_, rfl⟩
                rw [hY] at hen bT HSS hpy
                rw [hY]
                clear hrg hC hrg1 hC1 hlt1 hgy hny hg1 hs1 hY
                go_wp2
                go_roundw
                case rel => exact ⟨left1, cnt1, ss ++ [y], by rw [HSS.out], HR1.out, HC1.out, HB1⟩
                case measure => exact HLT.out
          · have e0 : (d == 0) = false := by simp [d0]
            have e1 : (d == 1) = false := by simp [d1]
            clear d0 d1
            obtain ⟨bQ1, bQ2⟩ := um_bd q 2000 (by omega) (by omega)
            obtain ⟨Q, hQ⟩ : ∃ Q, um q 2000 = Q := ⟨_, rfl⟩
            rw [hQ] at bQ1 bQ2
            unfold um at hQ
            obtain ⟨bI1, bI2⟩ := um_bd it 2 (by omega) (by omega)
            obtain ⟨K, hK⟩ : ∃ K, um it 2 = K := ⟨_, rfl⟩
            rw [hK] at bI1 bI2
            unfold um at hK
            obtain ⟨s2, hs2⟩ : ∃ s2, alwQ s (1 + X) K (1 + Q) = s2 := ⟨_, rfl⟩
            have NX : Hid (∀ V, Pk w.heap.size V p b c s2 (j + 1) → Rg.Kept (Own2 b c) U V → Stand w V p b c m (A + C) s2 (j + 1) ∧ (Instr.lookup 38 (.map (some m)) (.int .i64 (1 + X)) false).run Try.prog V = .ok (.int .i64 ((toP s).p (1 + X))) V) := fun V K1 O1 => by
              have hm1 : Mi V m j (toP s).p := HSU.out.2.1.kept O1 (fun _ e => e.elim HAP.out.2.1 HAP.out.2.2.1)
              refine ⟨⟨K1, ?_, ?_, HSU.out.2.2.2.trans (HSU.out.1.bel O1)⟩, hm1.look hwX⟩
              · have e : (toP s2).p = (toP s).p := by rw [← hs2, toP_alw, alw_pay]
                rw [e]
                exact hm1.mono (Nat.le_succ _)
              · rw [← hs2, toP_alw]; exact HSU.out.2.2.1.allow _ _ _ (by omega)
            by_cases hE : alwE (toP s) (1 + X) K (1 + Q) = 0
            · have A1 := alw_by HSU.out.1 hwX (by omega) hE hs2
              have hp0 := (alwE_ok hE).2.2.2.2.1
              rw [hp0] at NX
              rw [hU] at A1 NX
              clear hs2 hE HSU hwX hU hp0
              go_wp2_with (first
                | (go_at_call 16; refine A1.mono ?_; clear A1; rintro e V ⟨rfl, K1, O1⟩; obtain ⟨hst, hl1⟩ := NX.out V K1 O1; have HSV := hide hst; clear hst K1 O1; obtain ⟨D, hown, hfit⟩ := HSV.out.2.1; have HFT := hide hfit; clear hfit)
                | (at_range; refine wpList_range_own _ rfl _ 38 rfl 3 3 lawI Try.underlying38 _ m (j + 1) _ rfl hown ?_; intro w0 hrg0 hg0 hs0)
                | go_in)
              clear NX hl1
              go_frame
              have HG := hide HSV.out.1.good.gp
              have HB0 : Hid (Below V.heap.size V w0) := (Below.refl _ _).grown hg0 (Nat.le_refl _) (fun k e => by cases e)
              clear hown hg0 hs0
              go_loopw [12] (fun nv vr => IRel V D m (j + 1) (toP s2).p nv vr) (fun _ vr => vr.rangeLeft m V.heap.size)
              case atStart => exact ⟨_, _, [], rfl, hrg0, CollectedI.start D, HB0⟩
              case round =>
                obtain ⟨left, cnt, ss, rfl, hrg, hC, HB⟩ := hrel
                clear hrg0 HB0
                have HC := hide hC
                obtain ⟨S, hS⟩ : ∃ S, (ss.map (toP s2).p).sum = S := ⟨_, rfl⟩
                have HMEM : Hid (∀ y ∈ ss, 0 ≤ y ∧ y < 1000) := fun y hy => by
                  have h1 := ((hC.2 y).1 hy).1
                  rw [(HFT.out.2 y).2] at h1
                  have := HG.out.pat y (by simpa using h1)
                  omega
                have bS : 0 ≤ S ∧ S ≤ 1000000000 := by
                  rw [← hS]
                  have h1 := sum_nonneg (l := ss) HG.out.pnn
                  have h2 := sum_some hC.1 HMEM.out HG.out.pnn
                  have h3 := HG.out.paid
                  have h4 := HG.out.over
                  have h5 := HG.out.allA_nn
                  omega
                obtain ⟨bS1, bS2⟩ := bS
                have HSQ := hide hS
                rw [hS]
                clear hS
                go_wp2_with (first
                  | (at_next; refine next_int rfl _ rfl Try.underlying3 rfl hrg HFT.out hC ?_ ?_)
                  | go_in)
                · intro hall
                  have HQ : Hid ((toP s2).till = S) := by
                    have h1 := sum_nodup (N := 1000) ss (toP s2).p HC.out.1 (fun x hx => by have := HMEM.out x hx; omega) (fun y hy => by
                      rcases Decidable.em ((toP s2).p y = 0) with h | h
                      · exact h
                      · exact absurd ((hall y).2 h) hy)
                    have h2 := HG.out.paid
                    have h3 := HSQ.out
                    show _ = _
                    omega
                  clear hall hrg hC
                  have HSW := hide (HSV.out.on HB.out)
                  obtain ⟨-, hm0, hm1, hk0, hk1, t1, t2, t3, t4, t5⟩ := HSW.out.calls
                  have hsum := HSW.out.2.2.1.sum
                  rw [HQ.out] at t1 hsum
                  have HT2 := hide t2
                  have HT3 := hide t3
                  have HT4 := hide t4
                  have HT5 := hide t5
                  clear t2 t3 t4 t5
                  obtain ⟨M0, hM0⟩ : ∃ M0, (toP s2).m 0 = M0 := ⟨_, rfl⟩
                  obtain ⟨M1, hM1⟩ : ∃ M1, (toP s2).m 1 = M1 := ⟨_, rfl⟩
                  obtain ⟨K0, hK0⟩ : ∃ K0, alwK (toP s2) 0 = K0 := ⟨_, rfl⟩
                  obtain ⟨K1, hK1⟩ : ∃ K1, alwK (toP s2) 1 = K1 := ⟨_, rfl⟩
                  rw [hM0] at hm0 hk0 HT2
                  rw [hM1] at hm1 hk1 HT3
                  rw [hK0] at hk0 HT4
                  rw [hK1] at hk1 HT5
                  rw [hM0, hM1] at hsum
                  obtain ⟨m01, m02⟩ := hm0
                  obtain ⟨m11, m12⟩ := hm1
                  have q1 : (M0 + M1 + S != A + C) = false := by simp; omega
                  have q2 : ¬ M0 < K0 := by omega
                  have q3 : ¬ M1 < K1 := by omega
                  clear hsum hk0 hk1 hM0 hM1 hK0 hK1
                  go_wp2_with (first
                    | (go_at_call 19; refine t1.mono ?_; clear t1; rintro e v1 ⟨rfl, b1⟩; have t2 := HT2.out v1 b1; clear b1)
                    | (go_at_call 20; refine t2.mono ?_; clear t2; rintro e v2 ⟨rfl, b2⟩; have t3 := HT3.out v2 b2; clear b2)
                    | (go_at_call 20; refine t3.mono ?_; clear t3; rintro e v3 ⟨rfl, b3⟩; have t4 := HT2.out v3 b3; clear b3)
                    | (go_at_call 20; refine t4.mono ?_; clear t4; rintro e v4 ⟨rfl, b4⟩; have t5 := HT4.out v4 b4; clear b4)
                    | (go_at_call 21; refine t5.mono ?_; clear t5; rintro e v5 ⟨rfl, b5⟩; have t6 := HT3.out v5 b5; clear b5)
                    | (go_at_call 20; refine t6.mono ?_; clear t6; rintro e v6 ⟨rfl, b6⟩; have t7 := HT5.out v6 b6; clear b6)
                    | (go_at_call 21; refine t7.mono ?_; clear t7; rintro e v7 ⟨rfl, b7⟩; have HB7 := hide b7; clear b7))
                  go_roundw
                  case rel => exact ⟨j + 1, s2, by go_num, by omega, by omega, HSW.out.on HB7.out⟩
                  case measure => simp [Go.RowKit.intOf]; omega
                · intro y w1 left1 cnt1 hgy hny hrg1 hC1 hlt1 hg1 hs1 hen
                  have HB1 : Hid (Below V.heap.size V w1) := HB.out.grown hg1 HB.out.size (fun k e => by cases e; exact Nat.le_refl _)
                  have HR1 := hide hrg1
                  have HC1 := hide hC1
                  have HLT := hide hlt1
                  have HSS : Hid (((ss ++ [y]).map (toP s2).p).sum = S + (toP s2).p y) := by
                    show _ = _
                    rw [List.map_append, List.sum_append, HSQ.out, List.map_singleton, List.sum_singleton]
                  have bT : S + (toP s2).p y ≤ 1000000000 := by
                    rw [← HSS.out]
                    have h2 := sum_some (l := ss ++ [y]) hC1.1 (fun z hz => by
                      rcases List.mem_append.1 hz with h | h
                      · exact HMEM.out z h
                      · rw [List.mem_singleton] at h; subst h; have := HG.out.pat _ hgy; omega) HG.out.pnn
                    have h3 := HG.out.paid
                    have h4 := HG.out.over
                    have h5 := HG.out.allA_nn
                    omega
                  have hpy := HG.out.pnn y
                  obtain ⟨Y, hY⟩ : ∃ Y, (toP s2).p y = Y := ⟨_, rfl⟩
                  rw [hY] at hen bT HSS hpy
                  rw [hY]
                  clear hrg hC hrg1 hC1 hlt1 hgy hny hg1 hs1 hY
                  go_wp2
                  go_roundw
                  case rel => exact ⟨left1, cnt1, ss ++ [y], by rw [HSS.out], HR1.out, HC1.out, HB1⟩
                  case measure => exact HLT.out
            · obtain ⟨E2, hE2⟩ : ∃ E2, alwE (toP s) (1 + X) K (1 + Q) = E2 := ⟨_, rfl⟩
              rw [hE2] at hE
              have A1 := alw_by HSU.out.1 hwX (by omega) hE2 hs2
              have qE : (E2 == 0) = false := by simp [hE]
              rw [hU] at A1 NX
              clear hs2 hE2 hE HSU hwX hU
              go_wp2_with (first
                | (go_at_call 16; refine A1.mono ?_; clear A1; rintro e V ⟨rfl, K1, O1⟩; obtain ⟨hst, -⟩ := NX.out V K1 O1; have HSV := hide hst; clear hst K1 O1; obtain ⟨D, hown, hfit⟩ := HSV.out.2.1; have HFT := hide hfit; clear hfit)
                | (at_range; refine wpList_range_own _ rfl _ 38 rfl 3 3 lawI Try.underlying38 _ m (j + 1) _ rfl hown ?_; intro w0 hrg0 hg0 hs0)
                | go_in)
              clear NX
              go_frame
              have HG := hide HSV.out.1.good.gp
              have HB0 : Hid (Below V.heap.size V w0) := (Below.refl _ _).grown hg0 (Nat.le_refl _) (fun k e => by cases e)
              clear hown hg0 hs0
              go_loopw [12] (fun nv vr => IRel V D m (j + 1) (toP s2).p nv vr) (fun _ vr => vr.rangeLeft m V.heap.size)
              case atStart => exact ⟨_, _, [], rfl, hrg0, CollectedI.start D, HB0⟩
              case round =>
                obtain ⟨left, cnt, ss, rfl, hrg, hC, HB⟩ := hrel
                clear hrg0 HB0
                have HC := hide hC
                obtain ⟨S, hS⟩ : ∃ S, (ss.map (toP s2).p).sum = S := ⟨_, rfl⟩
                have HMEM : Hid (∀ y ∈ ss, 0 ≤ y ∧ y < 1000) := fun y hy => by
                  have h1 := ((hC.2 y).1 hy).1
                  rw [(HFT.out.2 y).2] at h1
                  have := HG.out.pat y (by simpa using h1)
                  omega
                have bS : 0 ≤ S ∧ S ≤ 1000000000 := by
                  rw [← hS]
                  have h1 := sum_nonneg (l := ss) HG.out.pnn
                  have h2 := sum_some hC.1 HMEM.out HG.out.pnn
                  have h3 := HG.out.paid
                  have h4 := HG.out.over
                  have h5 := HG.out.allA_nn
                  omega
                obtain ⟨bS1, bS2⟩ := bS
                have HSQ := hide hS
                rw [hS]
                clear hS
                go_wp2_with (first
                  | (at_next; refine next_int rfl _ rfl Try.underlying3 rfl hrg HFT.out hC ?_ ?_)
                  | go_in)
                · intro hall
                  have HQ : Hid ((toP s2).till = S) := by
                    have h1 := sum_nodup (N := 1000) ss (toP s2).p HC.out.1 (fun x hx => by have := HMEM.out x hx; omega) (fun y hy => by
                      rcases Decidable.em ((toP s2).p y = 0) with h | h
                      · exact h
                      · exact absurd ((hall y).2 h) hy)
                    have h2 := HG.out.paid
                    have h3 := HSQ.out
                    show _ = _
                    omega
                  clear hall hrg hC
                  have HSW := hide (HSV.out.on HB.out)
                  obtain ⟨-, hm0, hm1, hk0, hk1, t1, t2, t3, t4, t5⟩ := HSW.out.calls
                  have hsum := HSW.out.2.2.1.sum
                  rw [HQ.out] at t1 hsum
                  have HT2 := hide t2
                  have HT3 := hide t3
                  have HT4 := hide t4
                  have HT5 := hide t5
                  clear t2 t3 t4 t5
                  obtain ⟨M0, hM0⟩ : ∃ M0, (toP s2).m 0 = M0 := ⟨_, rfl⟩
                  obtain ⟨M1, hM1⟩ : ∃ M1, (toP s2).m 1 = M1 := ⟨_, rfl⟩
                  obtain ⟨K0, hK0⟩ : ∃ K0, alwK (toP s2) 0 = K0 := ⟨_, rfl⟩
                  obtain ⟨K1, hK1⟩ : ∃ K1, alwK (toP s2) 1 = K1 := ⟨_, rfl⟩
                  rw [hM0] at hm0 hk0 HT2
                  rw [hM1] at hm1 hk1 HT3
                  rw [hK0] at hk0 HT4
                  rw [hK1] at hk1 HT5
                  rw [hM0, hM1] at hsum
                  obtain ⟨m01, m02⟩ := hm0
                  obtain ⟨m11, m12⟩ := hm1
                  have q1 : (M0 + M1 + S != A + C) = false := by simp; omega
                  have q2 : ¬ M0 < K0 := by omega
                  have q3 : ¬ M1 < K1 := by omega
                  clear hsum hk0 hk1 hM0 hM1 hK0 hK1
                  go_wp2_with (first
                    | (go_at_call 19; refine t1.mono ?_; clear t1; rintro e v1 ⟨rfl, b1⟩; have t2 := HT2.out v1 b1; clear b1)
                    | (go_at_call 20; refine t2.mono ?_; clear t2; rintro e v2 ⟨rfl, b2⟩; have t3 := HT3.out v2 b2; clear b2)
                    | (go_at_call 20; refine t3.mono ?_; clear t3; rintro e v3 ⟨rfl, b3⟩; have t4 := HT2.out v3 b3; clear b3)
                    | (go_at_call 20; refine t4.mono ?_; clear t4; rintro e v4 ⟨rfl, b4⟩; have t5 := HT4.out v4 b4; clear b4)
                    | (go_at_call 21; refine t5.mono ?_; clear t5; rintro e v5 ⟨rfl, b5⟩; have t6 := HT3.out v5 b5; clear b5)
                    | (go_at_call 20; refine t6.mono ?_; clear t6; rintro e v6 ⟨rfl, b6⟩; have t7 := HT5.out v6 b6; clear b6)
                    | (go_at_call 21; refine t7.mono ?_; clear t7; rintro e v7 ⟨rfl, b7⟩; have HB7 := hide b7; clear b7))
                  go_roundw
                  case rel => exact ⟨j + 1, s2, by go_num, by omega, by omega, HSW.out.on HB7.out⟩
                  case measure => simp [Go.RowKit.intOf]; omega
                · intro y w1 left1 cnt1 hgy hny hrg1 hC1 hlt1 hg1 hs1 hen
                  have HB1 : Hid (Below V.heap.size V w1) := HB.out.grown hg1 HB.out.size (fun k e => by cases e; exact Nat.le_refl _)
                  have HR1 := hide hrg1
                  have HC1 := hide hC1
                  have HLT := hide hlt1
                  have HSS : Hid (((ss ++ [y]).map (toP s2).p).sum = S + (toP s2).p y) := by
                    show _ = _
                    rw [List.map_append, List.sum_append, HSQ.out, List.map_singleton, List.sum_singleton]
                  have bT : S + (toP s2).p y ≤ 1000000000 := by
                    rw [← HSS.out]
                    have h2 := sum_some (l := ss ++ [y]) hC1.1 (fun z hz => by
                      rcases List.mem_append.1 hz with h | h
                      · exact HMEM.out z h
                      · rw [List.mem_singleton] at h; subst h; have := HG.out.pat _ hgy; omega) HG.out.pnn
                    have h3 := HG.out.paid
                    have h4 := HG.out.over
                    have h5 := HG.out.allA_nn
                    omega
                  have hpy := HG.out.pnn y
                  obtain ⟨Y, hY⟩ : ∃ Y, (toP s2).p y = Y := ⟨_, rfl⟩
                  rw [hY] at hen bT HSS hpy
                  rw [hY]
                  clear hrg hC hrg1 hC1 hlt1 hgy hny hg1 hs1 hY
                  go_wp2
                  go_roundw
                  case rel => exact ⟨left1, cnt1, ss ++ [y], by rw [HSS.out], HR1.out, HC1.out, HB1⟩
                  case measure => exact HLT.out
      · have q80 : (j : Int) ≥ 80 := by omega
        have AW := pawake_any U
        rw [hU] at AW
        go_wp2_with (go_at_call 9; refine AW.mono ?_; rintro e u ⟨rfl, b3⟩)
        go_ret
        rw [← hU] at b3
        exact ⟨rfl, bel_on' HSU.out.2.2.2 b3⟩
    · have ql : ¬ (j : Int) < (l2.length : Int) := by omega
      have AW := pawake_any wr
      go_wp2_with (go_at_call 9; refine AW.mono ?_; rintro e u ⟨rfl, b3⟩)
      go_ret
      exact ⟨rfl, bel_on' HS.out.2.2.2 b3⟩
end Go.Proofs.Ytpahgoehpkohiaa
