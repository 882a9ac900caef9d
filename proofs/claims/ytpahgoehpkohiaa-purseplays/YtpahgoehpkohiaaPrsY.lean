/-
  Contract of the reference's Allow.
-/
import Derived.Test.YtpahgoehpkohiaaPrsW
import Derived.Deep.RegionHeld3
namespace Go.Proofs.Ytpahgoehpkohiaa
open Go.ChangeShapes Go.WideShapes Go.ChangeAt Go.RowKit Go.Maps

set_option maxRecDepth 100000 in
set_option maxHeartbeats 2000000 in
theorem ralw_any {B : Nat} {w : World} {q b c : Nat} {s : Pb} {n : Nat} (k : Rp B w q b c s n) (g : GoodP s) {id : Int} (hw : (Lit.int .i64 id).wf = true) (x p : Int) (hn : n < 1000000) :
    Calls Try.prog 17 #[.pointer (some ⟨q, 0, none⟩), .int .i64 id, .int .i64 x, .int .i64 p] w fun e w' => e = .returned (.int .i64 (alwE s id x p)) ∧ Rp B w' q b c (alwS s id x p) (n + 1) ∧ Rg.Kept (Own3 q b c) w w' := by
  have no : ∀ c', alwE s id x p = c' → c' ≠ 0 → ∀ w', Below w.heap.size w w' → Rp B w' q b c (alwS s id x p) (n + 1) := fun c' e hc w' hb => by
    rw [alwS_no (by omega)]
    exact (k.on hb).mono (by omega)
  have hcn := claimN
  have gd : GoodD s.a := fun y d h => ⟨(g.at_ y d h).1, (g.at_ y d h).2.1, (g.at_ y d h).2.2.1⟩
  cases hi : isI id
  · have e0 : alwE s id x p = 1 := alwE_arg (fun h => by rw [hi] at h; cases h.1)
    have NO := hide (no 1 e0 (by omega))
    rw [e0]
    clear no e0 k
    go_enter Try.func17, Try.ntmps17
    go_wp2_with (first
        | (go_at_call 32; refine (rid_any _ _).mono ?_; rintro e w' ⟨rfl, rfl⟩)
        | (go_at_call 33; refine (rplace_any _ _).mono ?_; rintro e w' ⟨rfl, rfl⟩)
        | (go_at_call 34; refine (rabove_any _ _).mono ?_; rintro e w' ⟨rfl, rfl⟩))
    go_ret
    exact ⟨rfl, NO.out _ (Below.refl _ _), Rg.Kept.refl _ _⟩
  · cases hx : isIt x
    · have e0 : alwE s id x p = 1 := alwE_arg (fun h => by rw [hx] at h; cases h.2.1)
      have NO := hide (no 1 e0 (by omega))
      rw [e0]
      clear no e0 k
      go_enter Try.func17, Try.ntmps17
      go_wp2_with (first
        | (go_at_call 32; refine (rid_any _ _).mono ?_; rintro e w' ⟨rfl, rfl⟩)
        | (go_at_call 33; refine (rplace_any _ _).mono ?_; rintro e w' ⟨rfl, rfl⟩)
        | (go_at_call 34; refine (rabove_any _ _).mono ?_; rintro e w' ⟨rfl, rfl⟩))
      go_ret
      exact ⟨rfl, NO.out _ (Below.refl _ _), Rg.Kept.refl _ _⟩
    · cases hq : aboveB p
      · have e0 : alwE s id x p = 1 := alwE_arg (fun h => by unfold aboveB at hq; simp at hq; omega)
        have NO := hide (no 1 e0 (by omega))
        rw [e0]
        clear no e0 k
        go_enter Try.func17, Try.ntmps17
        go_wp2_with (first
        | (go_at_call 32; refine (rid_any _ _).mono ?_; rintro e w' ⟨rfl, rfl⟩)
        | (go_at_call 33; refine (rplace_any _ _).mono ?_; rintro e w' ⟨rfl, rfl⟩)
        | (go_at_call 34; refine (rabove_any _ _).mono ?_; rintro e w' ⟨rfl, rfl⟩))
        go_ret
        exact ⟨rfl, NO.out _ (Below.refl _ _), Rg.Kept.refl _ _⟩
      · have hq2 : 1 ≤ p ∧ p ≤ 1000000000 := by unfold aboveB at hq; simpa using hq
        have hall : isI id = true ∧ isIt x = true ∧ 1 ≤ p ∧ p ≤ 1000000000 := ⟨hi, hx, hq2⟩
        have c8 := k.cellA
        have c10 := k.cellP
        have hl := k.2.2.1.lookC hw
        have hl2 := k.2.2.2.look hw
        cases hz : s.a id with
        | some d =>
          obtain ⟨x1, y1⟩ := d
          rw [hz] at hl
          unfold pairV at hl
          dsimp only [Option.getD] at hl
          have hy : y1 > 0 := by have := (g.at_ _ _ hz).2.2.1; dsimp only at this; omega
          have hsome : (s.a id).isSome = true ∨ s.p id ≠ 0 := .inl (by rw [hz]; rfl)
          clear gd hl2
          have e0 : alwE s id x p = 8 := alwE_two hall hsome
          have NO := hide (no 8 e0 (by omega))
          rw [e0]
          clear no e0 k hz g hall hsome
          go_enter Try.func17, Try.ntmps17
          go_wp2_with (first
        | (go_at_call 32; refine (rid_any _ _).mono ?_; rintro e w' ⟨rfl, rfl⟩)
        | (go_at_call 33; refine (rplace_any _ _).mono ?_; rintro e w' ⟨rfl, rfl⟩)
        | (go_at_call 34; refine (rabove_any _ _).mono ?_; rintro e w' ⟨rfl, rfl⟩))
          go_ret
          exact ⟨rfl, NO.out _ (Below.refl _ _), Rg.Kept.refl _ _⟩
        | none =>
          rw [hz] at hl
          unfold pairV at hl
          dsimp only [Option.getD] at hl
          have hpn := g.pnn id
          by_cases hp : s.p id ≠ 0
          · have hp2 : s.p id > 0 := by omega
            obtain ⟨pv, hpv⟩ : ∃ pv, s.p id = pv := ⟨_, rfl⟩
            rw [hpv] at hl2 hp2
            clear gd
            have e0 : alwE s id x p = 8 := alwE_two hall (.inr hp)
            have NO := hide (no 8 e0 (by omega))
            rw [e0]
            clear no e0 k hz g hall hp hpv hpn
            go_enter Try.func17, Try.ntmps17
            go_wp2_with (first
        | (go_at_call 32; refine (rid_any _ _).mono ?_; rintro e w' ⟨rfl, rfl⟩)
        | (go_at_call 33; refine (rplace_any _ _).mono ?_; rintro e w' ⟨rfl, rfl⟩)
        | (go_at_call 34; refine (rabove_any _ _).mono ?_; rintro e w' ⟨rfl, rfl⟩))
            go_ret
            exact ⟨rfl, NO.out _ (Below.refl _ _), Rg.Kept.refl _ _⟩
          · have hp0 : s.p id = 0 := by omega
            rw [hp0] at hl2
            obtain ⟨g0, g1⟩ := isIt_iff.1 hx
            have b1 := g.low x g0 g1
            have b2 := g.alwK_nn x
            have b3 := g.top x g0 g1
            have b4 := g.over
            have b5 := g.allA_nn
            have b6 := g.tnn
            obtain ⟨i, rfl⟩ : ∃ i : Nat, x = i := ⟨x.toNat, by omega⟩
            have hi8 : i < 8 := by omega
            have hiI : (i : Int) < 8 := g1
            have kd := k.on (Below.refl w.heap.size w).drew
            have cm := k.cellM hi8
            have hta : sumTo (alw s.a) 1000 ≤ 1000000000 := by have h : allA s = sumTo (alw s.a) 1000 := rfl; omega
            have AL := rallowed_any kd.cellA kd.2.2.1 gd hta (i : Int)
            rw [show sumTo (resv s.a (i : Int)) 1000 = alwK s i from rfl] at AL
            have LAY : Hid (∀ u, Below w.drew.heap.size w.drew u → u.cell? ⟨q, i, none⟩ = some (.int .i64 (s.m i)) ∧ u.cell? ⟨q, 8, none⟩ = some (.map (some b)) ∧ u.cell? ⟨q, 9, none⟩ = some (.int .i64 s.till) ∧ Mp u b n s.a ∧ Below w.heap.size w u) := fun u hu => ⟨(kd.on hu).cellM hi8, (kd.on hu).cellA, (kd.on hu).cellT, (kd.on hu).2.2.1, bel_on' (Below.refl _ w).drew hu⟩
            obtain ⟨M, hM⟩ : ∃ M, s.m i = M := ⟨_, rfl⟩
            obtain ⟨V, hV⟩ : ∃ V, alwK s i = V := ⟨_, rfl⟩
            obtain ⟨Tl, hT⟩ : ∃ Tl, s.till = Tl := ⟨_, rfl⟩
            obtain ⟨Al, hA⟩ : ∃ Al, allA s = Al := ⟨_, rfl⟩
            rw [hM] at b1 b3 cm
            rw [hV] at b1 b2 AL
            rw [hT] at b4 b6
            rw [hA] at b4 b5
            rw [hM, hT] at LAY
            have qw : IntKind.i64.wrap (M - V) = M - V := by rw [IntKind.wrap_i64]; omega
            by_cases hle : p ≤ M - V
            · have NOV : ¬ Tl + Al + p ≤ 1000000000 → ∀ w', Below w.heap.size w w' → alwE s id i p = 4 ∧ Rp B w' q b c (alwS s id i p) (n + 1) ∧ Rg.Kept (Own3 q b c) w w' := fun h w' hb => by
                have e0 : alwE s id i p = 4 := alwE_over hall hz hp0 (by rw [hM, hV]; exact hle) (by rw [hT, hA]; exact h)
                exact ⟨e0, no 4 e0 (by omega) w' hb, Rg.Kept.of_below hb⟩
              have PUT : Tl + Al + p ≤ 1000000000 → ∀ u, Below w.heap.size w u → u.cell? ⟨q, 8, none⟩ = some (.map (some b)) ∧ ∃ w2, (Instr.mapUpdate 37 (.map (some b)) (.int .i64 id) (.agg #[.int .i64 i, .int .i64 p])).run Try.prog u = .ok () w2 ∧ alwE s id i p = 0 ∧ Rp B w2 q b c (alwS s id i p) (n + 1) ∧ Rg.Kept (Own3 q b c) w w2 := fun h u hu => by
                have e0 : alwE s id i p = 0 := alwE_well hall hz hp0 (by rw [hM, hV]; exact hle) (by rw [hT, hA]; exact h)
                have k2 := k.on hu
                have hnea := k2.nea
                obtain ⟨w2, hr, m2, kp⟩ := k2.2.2.1.putC hw hn (i : Int) p
                refine ⟨k2.cellA, w2, hr, e0, ?_, (Rg.Kept.of_below hu).trans (kp.mono (fun _ _ e => .inr (.inl e)))⟩
                rw [alwS_ok e0]
                exact ⟨kp.block _ _ k2.1 (fun e => hnea e.symm), k2.2.1, m2, (k2.2.2.2.mono (Nat.le_succ _)).kept kp (fun _ e => k2.2.1.2.2.2 e.symm)⟩
              have HNOV := hide NOV
              have HPUT := hide PUT
              have HPO : Hid (∀ y, 0 ≤ alw s.a y) := gd.pos
              have HSA : Hid (sumTo (alw s.a) 1000 = Al) := hA
              have HGD := hide gd
              have qle : ¬ p > M - V := by omega
              clear no NOV PUT k kd hz hp hp0 hall hpn g gd hta hM hV hT hA hi8 g0 hle
              go_enter Try.func17, Try.ntmps17
              go_wp2_with (first
        | (go_at_call 32; refine (rid_any _ _).mono ?_; rintro e w' ⟨rfl, rfl⟩)
        | (go_at_call 33; refine (rplace_any _ _).mono ?_; rintro e w' ⟨rfl, rfl⟩)
        | (go_at_call 34; refine (rabove_any _ _).mono ?_; rintro e w' ⟨rfl, rfl⟩))
              go_region_held3 (fun w' => w'.cell? ⟨q, i, none⟩ = some (.int .i64 M)) (go_keep) (first
                | (go_at_call 22; refine AL.mono ?_; clear AL; rintro e u ⟨rfl, hbu⟩; clear cm c8 c10; obtain ⟨cm, d8, d9, hmp, hbw⟩ := LAY.out u hbu; have HBW := hide hbw; have HMP := hide hmp; clear hbu hbw hmp))
              obtain ⟨D, hown, hfit⟩ := HMP.out
              have HFT := hide hfit
              clear hfit HMP hl hl2 cm
              go_wp2_with (first
                | (at_range; refine wpList_range_own _ rfl _ 37 rfl 3 60 lawI Try.underlying37 _ b n _ rfl hown ?_; intro w0 hrg0 hg0 hs0)
                | go_in)
              go_frame
              have HB0 : Hid (Below u.heap.size u w0) := (Below.refl _ _).grown hg0 (Nat.le_refl _) (fun k e => by cases e)
              clear hown hg0 hs0 d8 d9
              go_loopw [9] (fun nv wr => SRel u D b n (Tl + p) (alw s.a) nv wr) (fun _ wr => wr.rangeLeft b u.heap.size)
              case atStart => exact ⟨_, _, [], by simp, hrg0, CollectedI.start D, HB0⟩
              case round =>
                obtain ⟨left, cnt, ss, rfl, hrg, hC, HB⟩ := hrel
                clear hrg0 HB0
                have HC := hide hC
                have HRG := hide hrg
                obtain ⟨S, hS⟩ : ∃ S, (ss.map (alw s.a)).sum = S := ⟨_, rfl⟩
                have HMEM : Hid (∀ y ∈ ss, 0 ≤ y ∧ y < 1000) := fun y hy => by
                  have h1 := ((hC.2 y).1 hy).1
                  rw [(HFT.out.2 y).2] at h1
                  cases hr : s.a y with
                  | none => rw [hr] at h1; cases h1
                  | some d => have := (HGD.out y d hr).1; omega
                have bS : 0 ≤ S ∧ S ≤ 1000000000 := by
                  rw [← hS]
                  have h1 := sum_nonneg (l := ss) HPO.out
                  have h2 := sum_some hC.1 HMEM.out HPO.out
                  have h3 := HSA.out
                  omega
                obtain ⟨bS1, bS2⟩ := bS
                have HS := hide hS
                rw [hS]
                clear hS
                go_wp2_with (first
                  | (at_next; refine next_pair rfl _ rfl Try.underlying3 rfl hrg HFT.out hC ?_ ?_)
                  | go_in)
                · intro hallk
                  have HSU : Hid (S = Al) := by
                    have h1 := sum_nodup (N := 1000) ss (alw s.a) HC.out.1 (fun x hx => by have := HMEM.out x hx; omega) (fun y hx => by
                      unfold alw
                      cases hr : s.a y with
                      | none => rfl
                      | some d => exact absurd ((hallk y).2 (by rw [hr]; rfl)) hx)
                    have h2 := HS.out
                    have h3 := HSA.out
                    show _ = _
                    omega
                  clear hallk hrg hC
                  by_cases hov : Tl + p + S > 1000000000
                  · have FIN := HNOV.out (by have := HSU.out; omega) wr (bel_on' HBW.out HB.out)
                    have HFE := hide FIN.1
                    have HFIN := hide FIN.2
                    clear FIN HNOV HPUT
                    go_wp2
                    go_ret
                    exact ⟨ret_int HFE.out.symm, HFIN.out⟩
                  · obtain ⟨d8, w2, hr2, FIN⟩ := HPUT.out (by have := HSU.out; omega) wr (bel_on' HBW.out HB.out)
                    have HFE := hide FIN.1
                    have HFIN := hide FIN.2
                    clear FIN HNOV HPUT
                    go_wp2
                    go_ret
                    exact ⟨ret_int HFE.out.symm, HFIN.out⟩
                · intro y cx cy w1 left1 cnt1 hgy hny hrg1 hC1 hlt hg1 hs1 hen
                  unfold pairV at hen
                  have HB1 : Hid (Below u.heap.size u w1) := HB.out.grown hg1 HB.out.size (fun k e => by cases e; exact Nat.le_refl _)
                  have HR1 := hide hrg1
                  have HC1 := hide hC1
                  have HLT := hide hlt
                  have HSS : Hid (((ss ++ [y]).map (alw s.a)).sum = S + cy) := by
                    show _ = _
                    rw [List.map_append, List.sum_append, HS.out, List.map_singleton, List.sum_singleton]
                    have e : (alw s.a) y = cy := by unfold alw; rw [hgy]; rfl
                    rw [e]
                  have bT : S + cy ≤ 1000000000 := by
                    rw [← HSS.out]
                    have h2 := sum_some (l := ss ++ [y]) hC1.1 (fun z hz => by
                      rcases List.mem_append.1 hz with h | h
                      · exact HMEM.out z h
                      · rw [List.mem_singleton] at h; subst h; have := (HGD.out _ _ hgy).1; omega) HPO.out
                    have h3 := HSA.out
                    omega
                  have hcy : 1 ≤ cy := (HGD.out _ _ hgy).2.2
                  have NXT : Hid (∀ nv : Value, nv = .int .i64 (Tl + p + (S + cy)) → SRel u D b n (Tl + p) (alw s.a) nv (w1.alloc (.cells #[.int .i64 cx, .int .i64 cy] 60)) ∧ (w1.alloc (.cells #[.int .i64 cx, .int .i64 cy] 60)).rangeLeft b u.heap.size < wr.rangeLeft b u.heap.size) := fun nv hnv => by
                    refine ⟨⟨left1, cnt1, ss ++ [y], ?_, HR1.out.alloc _, HC1.out, bel_al HB1.out _⟩, ?_⟩
                    · rw [hnv, HSS.out]
                    · rw [(HR1.out.alloc _).left_eq, ← HR1.out.left_eq]
                      exact HLT.out
                  clear hrg hC hrg1 hC1 hlt hgy hny hg1 hs1 HNOV HPUT
                  go_wp2
                  go_roundw
                  case rel => exact (NXT.out _ (by rw [Int.add_assoc])).1
                  case measure => exact (NXT.out _ rfl).2
            · have e0 : alwE s id i p = 9 := alwE_less hall hz hp0 (by rw [hM, hV]; exact hle)
              have NO := hide (no 9 e0 (by omega))
              rw [e0]
              have qle : p > M - V := by omega
              clear no k kd hz hp hp0 hall hpn g gd hta hM hV hT hA hi8 g0 hle e0
              go_enter Try.func17, Try.ntmps17
              go_wp2_with (first
        | (go_at_call 32; refine (rid_any _ _).mono ?_; rintro e w' ⟨rfl, rfl⟩)
        | (go_at_call 33; refine (rplace_any _ _).mono ?_; rintro e w' ⟨rfl, rfl⟩)
        | (go_at_call 34; refine (rabove_any _ _).mono ?_; rintro e w' ⟨rfl, rfl⟩))
              go_region_held3 (fun w' => w'.cell? ⟨q, i, none⟩ = some (.int .i64 M)) (go_keep) (first
                | (go_at_call 22; refine AL.mono ?_; clear AL; rintro e u ⟨rfl, hbu⟩; clear cm c8 c10; obtain ⟨cm, d8, d9, -, hbw⟩ := LAY.out u hbu; have HBW := hide hbw; clear hbu hbw))
              all_goals go_wp2
              all_goals go_ret
              all_goals exact ⟨rfl, NO.out _ HBW.out, Rg.Kept.of_below HBW.out⟩
end Go.Proofs.Ytpahgoehpkohiaa
