/-
  FlowMore: behind all that may happen nothing more may.
-/
import Derived.Test.YtlcjfpmhfaaaaaaFlwW
import Derived.Test.YtlcjfpmhfaaaaaaFlwD
import Derived.Test.YtlcjfpmhfaaaaaaFlwB
import Derived.Test.YtlcjfpmhfaaaaaaOrdF
import Derived.Deep.RegionHeld3
namespace Go.Proofs.Ytlcjfpmhfaaaaaa
open Go.ChangeShapes Go.WideShapes Go.ChangeAt Go.RowKit

theorem doneL_next (i : Nat) : doneL 0 i ++ [(2, (i : Int))] = doneL 0 (i + 1) := by rw [doneL_snoc]; simp
theorem undoneL_dn : ∀ k, undoneL k = dnL 5 k
  | 0 => rfl
  | k + 1 => by rw [undoneL, dnL, undoneL_dn k]
/-- A copy, as one step of a region that draws. -/
theorem step_R0 {ops : Array Oper} {o : Oper} {a : Act} {w : World} {K : Act → World → Prop} {Q : Exit → Act → World → Prop} {E : Prop} (hw : Region.wanted o (yielded ops a.tmps) = true) (s x : Operand)
    (ho : o.op = .call { callee := .builtin .append, args := #[s, x], argTypes := #[25, 25] })
    (base : Nat) (v : Value) (hs : a.eval s = v) (hown : OwnR w base v 0 []) (ad : Addr) (m : List (Int × Int)) (k c : Nat) (hk : m.length = k) (hx : a.eval x = .slice (some ad) k c)
    (hm : Sts w (some ad) m) (hb : k ≤ 1000000) (hbase : base ≤ w.heap.size)
    (h : ∀ a' c' w', OwnR w' base (.slice a' k c') k m → w.grownBy w' v.ownBlock → K (a.put o.dst (.slice a' k c')) w') :
    if Region.wanted o (yielded ops a.tmps) = true then Oper.wp Try.prog o a w K Q else E := by
  rw [if_pos hw]
  subst hk
  obtain ⟨-, h2⟩ := hown
  obtain ⟨i0, hi, hz0, hz1, hz2⟩ := info_parts Try.infoAct
  obtain ⟨v', w', hr, h3, h4, -, -⟩ := run_append_own_at (P := Try.prog) w base 25 o.type 34 i0 _ 2 16 Try.underlying25 hi hz0 hz1 hz2 rfl (by decide) v 0 (stCells []) h2 ad m.length c (stCells m) (stCells_len m) (sts_news hm) (by
    intro u hu
    unfold stCells at hu
    rw [List.mem_flatMap] at hu
    obtain ⟨y', _, hy⟩ := hu
    simp at hy
    rcases hy with rfl | rfl <;> rfl) (by unfold maxLen; omega) (by omega) hbase
  rw [Nat.zero_add] at h3
  unfold Oper.wp execOp
  simp only [ho, resolve, invoke, builtin, Sem.run_bind, Sem.run_pure, Result.andThen_ok, List.map_toArray, List.map_cons, List.map_nil, hs, hx, hr]
  obtain ⟨a', c', rfl, _⟩ := row_slice h3
  exact h a' c' w' ⟨rfl, h3⟩ h4
/-- The three ways in which a copy's block and one act more may be laid. -/
theorem more_prep {u : World} {b off : Nat} {L : List (Int × Int)} (x y : Int) (hs : Sts u (some ⟨b, off, none⟩) L) :
    (OwnR (u.alloc (.cells #[] 34)) u.heap.size (.slice (some ⟨u.heap.size, 0, none⟩) 0 0) 0 [] ∧ Sts (u.alloc (.cells #[] 34)) (some ⟨b, off, none⟩) L) ∧
    (OwnR ((u.alloc (.cells #[] 34)).alloc (.cells #[.int .i64 x, .int .i64 y] 34)) u.heap.size (.slice (some ⟨u.heap.size, 0, none⟩) 0 0) 0 [] ∧ Sts ((u.alloc (.cells #[] 34)).alloc (.cells #[.int .i64 x, .int .i64 y] 34)) (some ⟨b, off, none⟩) L) ∧
    (OwnR ((u.alloc (.cells #[.int .i64 x, .int .i64 y] 34)).alloc (.cells #[] 34)) u.heap.size (.slice (some ⟨u.heap.size + 1, 0, none⟩) 0 0) 0 [] ∧ Sts ((u.alloc (.cells #[.int .i64 x, .int .i64 y] 34)).alloc (.cells #[] 34)) (some ⟨b, off, none⟩) L) := by
  have hb : ∀ (v : World) (o : Obj), Below v.heap.size v (v.alloc o) := fun v o => (Below.refl _ _).alloc (Nat.le_refl _) _
  refine ⟨⟨OwnR.fresh u _ (Nat.le_refl _), hs.below (hb _ _)⟩, ⟨(OwnR.fresh u _ (Nat.le_refl _)).alloc _, (hs.below (hb _ _)).below (hb _ _)⟩, ?_, (hs.below (hb _ _)).below (hb _ _)⟩
  have h := OwnR.fresh (u.alloc (.cells #[.int .i64 x, .int .i64 y] 34)) u.heap.size (by simp)
  rw [World.size_alloc] at h
  exact h
/-- Behind the copy: what lay lies; where the act was laid ahead of it, it still is. -/
theorem more_A {u w8 : World} (g : (u.alloc (.cells #[] 34)).grownBy w8 (Value.slice (some ⟨u.heap.size, 0, none⟩) 0 0).ownBlock) : Below u.heap.size u w8 := fresh_below g
theorem more_B {u w8 : World} {x y : Int} (g : ((u.alloc (.cells #[] 34)).alloc (.cells #[.int .i64 x, .int .i64 y] 34)).grownBy w8 (Value.slice (some ⟨u.heap.size, 0, none⟩) 0 0).ownBlock) : Below u.heap.size u w8 ∧ Sts w8 (some ⟨u.heap.size + 1, 0, none⟩) [(x, y)] := by
  have hb : ∀ (v : World) (o : Obj), Below v.heap.size v (v.alloc o) := fun v o => (Below.refl _ _).alloc (Nat.le_refl _) _
  refine ⟨(bel_on' (hb u _) (hb _ _)).trans (grown_below (by simp; omega) ((OwnR.fresh u _ (Nat.le_refl _)).alloc _).2 g), ?_⟩
  have h := acts_one (u.alloc (.cells #[] 34)) x y
  rw [World.size_alloc] at h
  rcases h with h | ⟨b, off, e, hc⟩
  · cases h
  · cases e
    exact .inr ⟨_, _, rfl, fun i hi => ⟨(World.cell?_of_block (g.block _ (by simp) (by simp [Value.ownBlock]))).trans (hc i hi).1, (World.cell?_of_block (g.block _ (by simp) (by simp [Value.ownBlock]))).trans (hc i hi).2⟩⟩
theorem more_C {u w8 : World} {x y : Int} (g : ((u.alloc (.cells #[.int .i64 x, .int .i64 y] 34)).alloc (.cells #[] 34)).grownBy w8 (Value.slice (some ⟨u.heap.size + 1, 0, none⟩) 0 0).ownBlock) : Below u.heap.size u w8 ∧ Sts w8 (some ⟨u.heap.size, 0, none⟩) [(x, y)] := by
  have h0 := acts_one u x y
  have hb : ∀ (v : World) (o : Obj), Below v.heap.size v (v.alloc o) := fun v o => (Below.refl _ _).alloc (Nat.le_refl _) _
  have g' : ((u.alloc (.cells #[.int .i64 x, .int .i64 y] 34)).alloc (.cells #[] 34)).grownBy w8 (Value.slice (some ⟨(u.alloc (.cells #[.int .i64 x, .int .i64 y] 34)).heap.size, 0, none⟩) 0 0).ownBlock := by rw [World.size_alloc]; exact g
  have h1 := fresh_below g'
  exact ⟨bel_on' (hb u _) h1, h0.below h1⟩
theorem dnL_len (k : Int) : ∀ m, (dnL k m).length = m
  | 0 => rfl
  | m + 1 => by rw [dnL]; simp [dnL_len k m]
theorem more_yes {o : Od} (hm : mayO o = true) (x : Int × Int) : legalO o (doneL 0 o.steps.length ++ [(13, 0), (16, 0)]) = o.steps.length + 2 ∧ legalO o (doneL 0 o.steps.length ++ [(13, 0), (16, 0)] ++ [x]) = o.steps.length + 2 := by
  have h := go_ahead o.steps.length
  have e : (doneL 0 o.steps.length ++ [(13, 0), (16, 0)]).length = o.steps.length + 2 := by simp [doneL_len]
  exact ⟨(legal_go hm h).trans e, (legal_more hm h (see_ship x)).trans e⟩
theorem more_no {o : Od} (hm : mayO o = true) (x : Int × Int) : legalO o (doneL 0 o.steps.length ++ [(14, 0)] ++ dnL 5 o.steps.length) = o.steps.length + 1 + o.steps.length ∧ legalO o (doneL 0 o.steps.length ++ [(14, 0)] ++ dnL 5 o.steps.length ++ [x]) = o.steps.length + 1 + o.steps.length := by
  have h := go_way o.steps.length o.steps.length (Nat.le_refl _)
  rw [undoneL_dn, ← List.singleton_append, ← List.append_assoc] at h
  have e : (doneL 0 o.steps.length ++ [(14, 0)] ++ dnL 5 o.steps.length).length = o.steps.length + 1 + o.steps.length := by simp [doneL_len, dnL_len]; omega
  exact ⟨(legal_go hm h).trans e, (legal_more hm h (see_back x)).trans e⟩

set_option maxRecDepth 100000 in
set_option maxHeartbeats 4000000 in
theorem flowMore_walk (o0 : Od) (a0 : Option Addr) (cap0 : Nat) (a1 : Bool) (x2 y2 : Int) (w : World) (w0 : OdIn w o0 a0 cap0) :
    Calls Try.prog 7 #[.agg #[.int .i64 o0.id, .int .i64 o0.item, .int .i64 o0.qty, .int .i64 o0.client, .int .i64 o0.price, .slice a0 o0.steps.length cap0], .bool a1, .agg #[.int .i64 x2, .int .i64 y2]] w fun e w' => e = .returned (.bool true) ∧ Below w.heap.size w w' := by
  obtain ⟨hl, hst, -, hcp⟩ := w0
  obtain ⟨V, hV⟩ : ∃ V, V = (w.alloc (.cells #[.int .i64 o0.id, .int .i64 o0.item, .int .i64 o0.qty, .int .i64 o0.client, .int .i64 o0.price, .slice a0 o0.steps.length cap0] 24)).alloc (.cells #[.int .i64 x2, .int .i64 y2] 34) := ⟨_, rfl⟩
  have hbV : Below w.heap.size w V := by rw [hV]; exact ((Below.refl _ _).alloc (Nat.le_refl _) _).alloc (by simp) _
  have hVb : V.heap[w.heap.size]? = some (.cells #[.int .i64 o0.id, .int .i64 o0.item, .int .i64 o0.qty, .int .i64 o0.client, .int .i64 o0.price, .slice a0 o0.steps.length cap0] 24 (0, 0)) := by rw [hV]; exact (Below.heap_alloc _ _ _ (by simp)).trans (World.alloc_heap_new w _)
  have HV := hide hV
  have HBV := hide hbV
  have HVB := hide hVb
  have HST := hide hst
  have HLN := hide hl
  have HCP := hide hcp
  have AWK : Hid (∀ u, Calls Try.prog 9 #[] u fun e w' => e = .returned (.bool true) ∧ Below u.heap.size u w') := fun u => fawake_any u
  clear hst hcp
  have hVa : V.heap[w.heap.size + 1]? = some (.cells #[.int .i64 x2, .int .i64 y2] 34 (0, 0)) := by
    have h := World.alloc_heap_new (w.alloc (.cells #[.int .i64 o0.id, .int .i64 o0.item, .int .i64 o0.qty, .int .i64 o0.client, .int .i64 o0.price, .slice a0 o0.steps.length cap0] 24)) (.cells #[.int .i64 x2, .int .i64 y2] 34)
    rw [World.size_alloc] at h
    rw [hV]
    exact h
  have HVA := hide hVa
  obtain ⟨d0, d1, d2, d3, d4, d5⟩ := order_of_six hVb
  have MY := ref_omay_any o0 a0 cap0 V (HST.out.below hbV) hl HCP.out
  rw [hV] at d0 d1 d2 d3 d4 d5 MY
  clear hV hbV hVb hVa
  by_cases h10 : (o0.steps.length : Int) > 10
  · go_enter Try.func7, Try.ntmps7
    rw [HV.out] at HBV
    go_wp2_with fail
    refine (AWK.out _).mono ?_
    rintro e ua ⟨rfl, hb⟩
    have HBE := hide (bel_on' HBV.out hb)
    clear hb
    go_wp2
    go_ret
    exact ⟨rfl, HBE.out⟩
  cases hm : mayO o0
  · rw [hm] at MY
    clear hm
    go_enter Try.func7, Try.ntmps7
    go_wp2_with fail
    refine MY.mono ?_
    rintro e u1 ⟨rfl, hb⟩
    rw [← HV.out] at hb
    have HB1 := hide (bel_on' HBV.out hb)
    clear hb MY d0 d1 d2 d3 d4 d5
    go_wp2_with fail
    refine (AWK.out _).mono ?_
    rintro e ua ⟨rfl, hb⟩
    have HBE := hide (bel_on' HB1.out hb)
    clear hb
    go_wp2
    go_ret
    exact ⟨rfl, HBE.out⟩
  rw [hm] at MY
  have HM := hide hm
  have h3 := may_three hm
  clear hm
  go_enter Try.func7, Try.ntmps7
  go_wp2_with fail
  refine MY.mono ?_
  rintro e u1 ⟨rfl, hb⟩
  rw [← HV.out] at hb
  have HB1 := hide (bel_on' HBV.out hb)
  have HX1 := hide ((hb.block _ (Array.getElem?_eq_some_iff.1 HVB.out).1).trans HVB.out)
  have HA1 := hide ((hb.block _ (Array.getElem?_eq_some_iff.1 HVA.out).1).trans HVA.out)
  clear hb MY d0 d1 d2 d3 d4 d5
  obtain ⟨d0, d1, d2, d3, d4, d5⟩ := order_of_six HX1.out
  go_wp2_with fail
  clear d0 d1 d2 d3 d4 d5
  go_loopw [7, 23] (fun lv iv wr => ∃ (i : Nat) (av : Option Addr) (cv : Nat), lv = .slice av i cv ∧ iv = .int .i64 i ∧ i ≤ o0.steps.length ∧ Hid (OwnR wr u1.heap.size (.slice av i cv) i (doneL 0 i)) ∧ Hid (Below u1.heap.size u1 wr)) (fun _ iv _ => o0.steps.length - (intOf iv).toNat)
  case atStart => exact ⟨0, none, 0, rfl, rfl, Nat.zero_le _, OwnR.nil _ _, Below.refl _ _⟩
  case round =>
    obtain ⟨i, av, cv, rfl, rfl, hi, HR, HB⟩ := hrel
    by_cases hlt : i < o0.steps.length
    · have q1 : (i : Int) < (o0.steps.length : Int) := by omega
      have hbs : u1.heap.size ≤ wr.heap.size := HB.out.size
      go_wp2_with (at_builtin; refine append_R rfl (.tmp 26) (.tmp 29) rfl u1.heap.size _ i (doneL 0 i) rfl (HR.out.alloc _) ⟨wr.heap.size, 0, none⟩ [(2, (i : Int))] 1 1 rfl rfl (acts_one wr 2 i) (by omega) (by simp; omega) ?_; intro a5 c5 w5 o5 b5; rw [doneL_next] at o5; have O5 := hide o5; have B5 := hide ((HB.out.alloc hbs _).trans b5); clear o5 b5)
      go_roundw
      case rel => exact ⟨i + 1, a5, c5, rfl, by go_num, by omega, O5, B5⟩
      case measure => simp [intOf]; omega
    have q1 : ¬ (i : Int) < (o0.steps.length : Int) := by omega
    obtain rfl : i = o0.steps.length := by omega
    have hbs : u1.heap.size ≤ wr.heap.size := HB.out.size
    cases a1
    · -- undone
      have HX2 := hide ((HB.out.block _ (Array.getElem?_eq_some_iff.1 HX1.out).1).trans HX1.out)
      go_wp2_with (at_builtin; refine append_R rfl (.tmp 38) (.tmp 40) rfl u1.heap.size _ o0.steps.length (doneL 0 o0.steps.length) rfl (HR.out.alloc _) ⟨wr.heap.size, 0, none⟩ [(14, 0)] 1 1 rfl rfl (acts_one wr 14 0) (by omega) (by simp; omega) ?_; intro a4 c4 w4 o4 b4; have O4 := hide o4; have B4 := hide ((HB.out.alloc hbs _).trans b4); clear o4 b4; obtain ⟨d0, d1, d2, d3, d4, d5⟩ := order_of_six ((B4.out.block _ (Array.getElem?_eq_some_iff.1 HX1.out).1).trans HX1.out))
      clear d0 d1 d2 d3 d4 d5
      go_loopw [7, 9] (fun lv iv w3 => ∃ (r : Nat) (z : Int) (av : Option Addr) (cv : Nat), lv = .slice av (o0.steps.length + 1 + r) cv ∧ iv = .int .i64 z ∧ Hid (z = (o0.steps.length : Int) - r - 1) ∧ r ≤ o0.steps.length ∧ -1 ≤ z ∧ z ≤ 10 ∧ Hid (OwnR w3 u1.heap.size (.slice av (o0.steps.length + 1 + r) cv) (o0.steps.length + 1 + r) (doneL 0 o0.steps.length ++ [(14, 0)] ++ dnTo 5 o0.steps.length r)) ∧ Hid (Below u1.heap.size u1 w3)) (fun _ iv _ => (intOf iv + 1).toNat)
      case atStart => exact ⟨0, (o0.steps.length : Int) - 1, a4, c4, rfl, by go_num, by show _ = _; simp, Nat.zero_le _, by omega, by omega, by have := O4.out; simpa [dnTo] using hide this, B4⟩
      case round =>
        clear HR HB hbs
        obtain ⟨r, z, a5, c5, rfl, rfl, HZ, hr, hz0, hz1, O5, B5⟩ := hrel
        have hbs : u1.heap.size ≤ wr.heap.size := B5.out.size
        by_cases hlt : 0 ≤ z
        · have q2 : z ≥ 0 := hlt
          have HDN : Hid (doneL 0 o0.steps.length ++ [(14, 0)] ++ dnTo 5 o0.steps.length r ++ [(5, z)] = doneL 0 o0.steps.length ++ [(14, 0)] ++ dnTo 5 o0.steps.length (r + 1) ∧ r + 1 ≤ o0.steps.length) := by
            have hz := HZ.out
            refine ⟨?_, by omega⟩
            rw [List.append_assoc _ (dnTo 5 o0.steps.length r), dnTo]
            congr 3
            simp
            omega
          go_wp2_with (at_builtin; refine append_R rfl (.tmp 50) (.tmp 53) rfl u1.heap.size _ (o0.steps.length + 1 + r) (doneL 0 o0.steps.length ++ [(14, 0)] ++ dnTo 5 o0.steps.length r) rfl (O5.out.alloc _) ⟨wr.heap.size, 0, none⟩ [(5, z)] 1 1 rfl rfl (acts_one wr 5 z) (by omega) (by simp; omega) ?_; intro a6 c6 w6 o6 b6; rw [HDN.out.1] at o6; have O6 := hide o6; have B6 := hide ((B5.out.alloc hbs _).trans b6); clear o6 b6)
          go_roundw
          case rel => exact ⟨r + 1, z - 1, a6, c6, rfl, by go_num, by show _ = _; have := HZ.out; push_cast; omega, HDN.out.2, by omega, by omega, O6, B6⟩
          case measure => simp [intOf]; omega
        · have q2 : ¬ z ≥ 0 := by omega
          obtain rfl : r = o0.steps.length := by have := HZ.out; omega
          rw [dnTo_end] at O5
          obtain ⟨w5, hw5⟩ : ∃ w5, w5 = wr := ⟨_, rfl⟩
          rw [← hw5] at O5 B5 ⊢
          clear hw5 hbs
          go_wp2_with fail
          have HBW := hide (bel_on' HB1.out B5.out)
          have HX5 := hide ((B5.out.block _ (Array.getElem?_eq_some_iff.1 HX1.out).1).trans HX1.out)
          have HA5 := hide ((B5.out.block _ (Array.getElem?_eq_some_iff.1 HA1.out).1).trans HA1.out)
          obtain ⟨m, hm⟩ : ∃ m, m = o0.steps.length + 1 + o0.steps.length := ⟨_, rfl⟩
          obtain ⟨L, hL⟩ : ∃ L, L = doneL 0 o0.steps.length ++ [(14, 0)] ++ dnL 5 o0.steps.length := ⟨_, rfl⟩
          have hLL := more_no HM.out (x2, y2)
          rw [← hm] at O5 hLL ⊢
          rw [← hL] at O5 hLL
          have hm10 : m ≤ 10 := by omega
          have hm1 : 1 ≤ m := by omega
          clear hm hL
          have HLL := hide hLL
          have HLm := hide O5.out.1
          obtain ⟨b5, off5, rfl, -, -⟩ := O5.out.sts.at (i := 0) (by have := HLm.out; omega)
          have HS5 := hide O5.out.sts
          have LG := legal_any o0 a0 cap0 L (some ⟨b5, off5, none⟩) c5 w5.drew (HST.out.below HBW.out.drew) HLN.out (HS5.out.below (Below.refl _ _).drew) (by have := HLm.out; omega)
          rw [HLL.out.1, HLm.out] at LG
          have LG2 : Hid (∀ (u : World) (a c : _), Below w.heap.size w u → Sts u a (L ++ [(x2, y2)]) → Calls Try.prog 15 #[.agg #[.int .i64 o0.id, .int .i64 o0.item, .int .i64 o0.qty, .int .i64 o0.client, .int .i64 o0.price, .slice a0 o0.steps.length cap0], .slice a (m + 1) c] u fun e w' => e = .returned (.int .i64 (m : Int)) ∧ Below u.heap.size u w') := fun u a c hu hs => by
            have h := legal_any o0 a0 cap0 (L ++ [(x2, y2)]) a c u (HST.out.below hu) HLN.out hs (by have := HLm.out; simp; omega)
            rw [HLL.out.2, List.length_append, HLm.out] at h
            exact h
          obtain ⟨d0, d1, d2, d3, d4, d5⟩ := order_of_six HX5.out
          obtain ⟨e0, e1⟩ := two_of HA5.out
          have qmm : ((m : Int) == (m : Int)) = true := by simp
          clear hLL
          go_region_held3 (fun w' => (w'.cell? ⟨w.heap.size, 0, none⟩ = some (.int .i64 o0.id) ∧ w'.cell? ⟨w.heap.size, 1, none⟩ = some (.int .i64 o0.item) ∧ w'.cell? ⟨w.heap.size, 2, none⟩ = some (.int .i64 o0.qty) ∧ w'.cell? ⟨w.heap.size, 3, none⟩ = some (.int .i64 o0.client) ∧ w'.cell? ⟨w.heap.size, 4, none⟩ = some (.int .i64 o0.price) ∧ w'.cell? ⟨w.heap.size, 5, none⟩ = some (.slice a0 o0.steps.length cap0)) ∧ w'.cell? ⟨w.heap.size + 1, 0, none⟩ = some (.int .i64 x2) ∧ w'.cell? ⟨w.heap.size + 1, 1, none⟩ = some (.int .i64 y2)) (go_keep) (first
            | (go_at_call 15; refine LG.mono ?_; clear LG; rintro e u7 ⟨rfl, hb⟩; have HB7 := hide (bel_on' HBW.out (bel_on' (Below.refl _ _).drew hb)); have HX7 := hide ((hb.block _ (Array.getElem?_eq_some_iff.1 HX5.out).1).trans HX5.out); have HA7 := hide ((hb.block _ (Array.getElem?_eq_some_iff.1 HA5.out).1).trans HA5.out); have P7 := hide (more_prep x2 y2 (HS5.out.below (bel_on' (Below.refl _ _).drew hb))); clear hb d0 d1 d2 d3 d4 d5 e0 e1; obtain ⟨d0, d1, d2, d3, d4, d5⟩ := order_of_six HX7.out; obtain ⟨e0, e1⟩ := two_of HA7.out)
            | (refine step_R0 rfl (.tmp 63) (.tmp 64) rfl u7.heap.size _ rfl P7.out.1.1 ⟨b5, off5, none⟩ L m c5 HLm.out rfl P7.out.1.2 (by omega) (by simp) ?_; intro a8 c8 w8 o8 g8; have O8 := hide o8; have B8 := hide (more_A g8); clear o8 g8; have HX8 := hide ((B8.out.block _ (Array.getElem?_eq_some_iff.1 HX7.out).1).trans HX7.out); have HA8 := hide ((B8.out.block _ (Array.getElem?_eq_some_iff.1 HA7.out).1).trans HA7.out); clear d0 d1 d2 d3 d4 d5 e0 e1; obtain ⟨d0, d1, d2, d3, d4, d5⟩ := order_of_six HX8.out; obtain ⟨e0, e1⟩ := two_of HA8.out)
            | (refine step_R0 rfl (.tmp 63) (.tmp 64) rfl u7.heap.size _ rfl P7.out.2.1.1 ⟨b5, off5, none⟩ L m c5 HLm.out rfl P7.out.2.1.2 (by omega) (by simp; omega) ?_; intro a8 c8 w8 o8 g8; have O8 := hide o8; have B8 := hide (more_B g8).1; have T8 := hide (more_B g8).2; clear o8 g8; have HX8 := hide ((B8.out.block _ (Array.getElem?_eq_some_iff.1 HX7.out).1).trans HX7.out); have HA8 := hide ((B8.out.block _ (Array.getElem?_eq_some_iff.1 HA7.out).1).trans HA7.out); clear d0 d1 d2 d3 d4 d5 e0 e1; obtain ⟨d0, d1, d2, d3, d4, d5⟩ := order_of_six HX8.out; obtain ⟨e0, e1⟩ := two_of HA8.out)
            | (refine step_R0 rfl (.tmp 63) (.tmp 64) rfl u7.heap.size _ rfl P7.out.2.2.1 ⟨b5, off5, none⟩ L m c5 HLm.out rfl P7.out.2.2.2 (by omega) (by simp; omega) ?_; intro a8 c8 w8 o8 g8; have O8 := hide o8; have B8 := hide (more_C g8).1; have T8 := hide (more_C g8).2; clear o8 g8; have HX8 := hide ((B8.out.block _ (Array.getElem?_eq_some_iff.1 HX7.out).1).trans HX7.out); have HA8 := hide ((B8.out.block _ (Array.getElem?_eq_some_iff.1 HA7.out).1).trans HA7.out); clear d0 d1 d2 d3 d4 d5 e0 e1; obtain ⟨d0, d1, d2, d3, d4, d5⟩ := order_of_six HX8.out; obtain ⟨e0, e1⟩ := two_of HA8.out)
            | (refine step_R rfl (.tmp 65) (.tmp 67) rfl u7.heap.size _ m L rfl (O8.out.alloc _) ⟨w8.heap.size, 0, none⟩ [(x2, y2)] 1 1 rfl rfl (acts_one w8 x2 y2) (by omega) (by have := B8.out.size; simp; omega) ?_; intro a9 c9 w9 o9 b9; have B9 := hide ((B8.out.alloc B8.out.size _).trans b9); have HB9 := hide (bel_on' HB7.out B9.out); have LG3 := LG2.out w9 a9 c9 HB9.out o9.sts; clear o9 b9; have HX9 := hide ((B9.out.block _ (Array.getElem?_eq_some_iff.1 HX7.out).1).trans HX7.out); have HA9 := hide ((B9.out.block _ (Array.getElem?_eq_some_iff.1 HA7.out).1).trans HA7.out); clear d0 d1 d2 d3 d4 d5 e0 e1; obtain ⟨d0, d1, d2, d3, d4, d5⟩ := order_of_six HX9.out; obtain ⟨e0, e1⟩ := two_of HA9.out)
            | (refine step_R rfl (.tmp 65) (.tmp 67) rfl u7.heap.size _ m L rfl O8.out ⟨u7.heap.size + 1, 0, none⟩ [(x2, y2)] 1 1 rfl rfl T8.out (by omega) B8.out.size ?_; intro a9 c9 w9 o9 b9; have B9 := hide (B8.out.trans b9); have HB9 := hide (bel_on' HB7.out B9.out); have LG3 := LG2.out w9 a9 c9 HB9.out o9.sts; clear o9 b9; have HX9 := hide ((B9.out.block _ (Array.getElem?_eq_some_iff.1 HX7.out).1).trans HX7.out); have HA9 := hide ((B9.out.block _ (Array.getElem?_eq_some_iff.1 HA7.out).1).trans HA7.out); clear d0 d1 d2 d3 d4 d5 e0 e1; obtain ⟨d0, d1, d2, d3, d4, d5⟩ := order_of_six HX9.out; obtain ⟨e0, e1⟩ := two_of HA9.out)
            | (refine step_R rfl (.tmp 65) (.tmp 67) rfl u7.heap.size _ m L rfl O8.out ⟨u7.heap.size, 0, none⟩ [(x2, y2)] 1 1 rfl rfl T8.out (by omega) B8.out.size ?_; intro a9 c9 w9 o9 b9; have B9 := hide (B8.out.trans b9); have HB9 := hide (bel_on' HB7.out B9.out); have LG3 := LG2.out w9 a9 c9 HB9.out o9.sts; clear o9 b9; have HX9 := hide ((B9.out.block _ (Array.getElem?_eq_some_iff.1 HX7.out).1).trans HX7.out); have HA9 := hide ((B9.out.block _ (Array.getElem?_eq_some_iff.1 HA7.out).1).trans HA7.out); clear d0 d1 d2 d3 d4 d5 e0 e1; obtain ⟨d0, d1, d2, d3, d4, d5⟩ := order_of_six HX9.out; obtain ⟨e0, e1⟩ := two_of HA9.out)
            | (go_at_call 15; refine LG3.mono ?_; clear LG3; rintro e u10 ⟨rfl, hb⟩; have HB10 := hide (bel_on' HB9.out hb); have HX10 := hide ((hb.block _ (Array.getElem?_eq_some_iff.1 HX9.out).1).trans HX9.out); have HA10 := hide ((hb.block _ (Array.getElem?_eq_some_iff.1 HA9.out).1).trans HA9.out); clear hb d0 d1 d2 d3 d4 d5 e0 e1; obtain ⟨d0, d1, d2, d3, d4, d5⟩ := order_of_six HX10.out; obtain ⟨e0, e1⟩ := two_of HA10.out)
            | (go_at_call 9; refine (AWK.out _).mono ?_; rintro e u11 ⟨rfl, hb⟩; have HB11 := hide (bel_on' HB10.out hb); have HX11 := hide ((hb.block _ (Array.getElem?_eq_some_iff.1 HX10.out).1).trans HX10.out); have HA11 := hide ((hb.block _ (Array.getElem?_eq_some_iff.1 HA10.out).1).trans HA10.out); clear hb d0 d1 d2 d3 d4 d5 e0 e1; obtain ⟨d0, d1, d2, d3, d4, d5⟩ := order_of_six HX11.out; obtain ⟨e0, e1⟩ := two_of HA11.out)
            | fail)
          all_goals go_wp2
          all_goals go_ret
          all_goals exact ⟨rfl, HB11.out⟩
    · -- shipped
      go_wp2_with (at_builtin; refine append_R rfl (.tmp 33) (.tmp 36) rfl u1.heap.size _ o0.steps.length (doneL 0 o0.steps.length) rfl (HR.out.alloc _) ⟨wr.heap.size, 0, none⟩ [(13, 0), (16, 0)] 2 2 rfl rfl (sts_new wr [(13, 0), (16, 0)] #[.int .i64 13, .int .i64 0, .int .i64 16, .int .i64 0] rfl) (by omega) (by simp; omega) ?_; intro a5 c5 w5 o5 b5; have O5 := hide o5; have B5 := hide ((HB.out.alloc hbs _).trans b5); clear o5 b5)
      have HBW := hide (bel_on' HB1.out B5.out)
      have HX5 := hide ((B5.out.block _ (Array.getElem?_eq_some_iff.1 HX1.out).1).trans HX1.out)
      have HA5 := hide ((B5.out.block _ (Array.getElem?_eq_some_iff.1 HA1.out).1).trans HA1.out)
      obtain ⟨m, hm⟩ : ∃ m, m = o0.steps.length + 2 := ⟨_, rfl⟩
      obtain ⟨L, hL⟩ : ∃ L, L = doneL 0 o0.steps.length ++ [(13, 0), (16, 0)] := ⟨_, rfl⟩
      have hLL := more_yes HM.out (x2, y2)
      rw [← hm] at O5 hLL ⊢
      rw [← hL] at O5 hLL
      have hm10 : m ≤ 10 := by omega
      have hm1 : 1 ≤ m := by omega
      clear hm hL
      have HLL := hide hLL
      have HLm := hide O5.out.1
      obtain ⟨b5, off5, rfl, -, -⟩ := O5.out.sts.at (i := 0) (by have := HLm.out; omega)
      have HS5 := hide O5.out.sts
      have LG := legal_any o0 a0 cap0 L (some ⟨b5, off5, none⟩) c5 w5.drew (HST.out.below HBW.out.drew) HLN.out (HS5.out.below (Below.refl _ _).drew) (by have := HLm.out; omega)
      rw [HLL.out.1, HLm.out] at LG
      have LG2 : Hid (∀ (u : World) (a c : _), Below w.heap.size w u → Sts u a (L ++ [(x2, y2)]) → Calls Try.prog 15 #[.agg #[.int .i64 o0.id, .int .i64 o0.item, .int .i64 o0.qty, .int .i64 o0.client, .int .i64 o0.price, .slice a0 o0.steps.length cap0], .slice a (m + 1) c] u fun e w' => e = .returned (.int .i64 (m : Int)) ∧ Below u.heap.size u w') := fun u a c hu hs => by
        have h := legal_any o0 a0 cap0 (L ++ [(x2, y2)]) a c u (HST.out.below hu) HLN.out hs (by have := HLm.out; simp; omega)
        rw [HLL.out.2, List.length_append, HLm.out] at h
        exact h
      obtain ⟨d0, d1, d2, d3, d4, d5⟩ := order_of_six HX5.out
      obtain ⟨e0, e1⟩ := two_of HA5.out
      have qmm : ((m : Int) == (m : Int)) = true := by simp
      clear hLL
      go_region_held3 (fun w' => (w'.cell? ⟨w.heap.size, 0, none⟩ = some (.int .i64 o0.id) ∧ w'.cell? ⟨w.heap.size, 1, none⟩ = some (.int .i64 o0.item) ∧ w'.cell? ⟨w.heap.size, 2, none⟩ = some (.int .i64 o0.qty) ∧ w'.cell? ⟨w.heap.size, 3, none⟩ = some (.int .i64 o0.client) ∧ w'.cell? ⟨w.heap.size, 4, none⟩ = some (.int .i64 o0.price) ∧ w'.cell? ⟨w.heap.size, 5, none⟩ = some (.slice a0 o0.steps.length cap0)) ∧ w'.cell? ⟨w.heap.size + 1, 0, none⟩ = some (.int .i64 x2) ∧ w'.cell? ⟨w.heap.size + 1, 1, none⟩ = some (.int .i64 y2)) (go_keep) (first
        | (go_at_call 15; refine LG.mono ?_; clear LG; rintro e u7 ⟨rfl, hb⟩; have HB7 := hide (bel_on' HBW.out (bel_on' (Below.refl _ _).drew hb)); have HX7 := hide ((hb.block _ (Array.getElem?_eq_some_iff.1 HX5.out).1).trans HX5.out); have HA7 := hide ((hb.block _ (Array.getElem?_eq_some_iff.1 HA5.out).1).trans HA5.out); have P7 := hide (more_prep x2 y2 (HS5.out.below (bel_on' (Below.refl _ _).drew hb))); clear hb d0 d1 d2 d3 d4 d5 e0 e1; obtain ⟨d0, d1, d2, d3, d4, d5⟩ := order_of_six HX7.out; obtain ⟨e0, e1⟩ := two_of HA7.out)
        | (refine step_R0 rfl (.tmp 63) (.tmp 64) rfl u7.heap.size _ rfl P7.out.1.1 ⟨b5, off5, none⟩ L m c5 HLm.out rfl P7.out.1.2 (by omega) (by simp) ?_; intro a8 c8 w8 o8 g8; have O8 := hide o8; have B8 := hide (more_A g8); clear o8 g8; have HX8 := hide ((B8.out.block _ (Array.getElem?_eq_some_iff.1 HX7.out).1).trans HX7.out); have HA8 := hide ((B8.out.block _ (Array.getElem?_eq_some_iff.1 HA7.out).1).trans HA7.out); clear d0 d1 d2 d3 d4 d5 e0 e1; obtain ⟨d0, d1, d2, d3, d4, d5⟩ := order_of_six HX8.out; obtain ⟨e0, e1⟩ := two_of HA8.out)
        | (refine step_R0 rfl (.tmp 63) (.tmp 64) rfl u7.heap.size _ rfl P7.out.2.1.1 ⟨b5, off5, none⟩ L m c5 HLm.out rfl P7.out.2.1.2 (by omega) (by simp; omega) ?_; intro a8 c8 w8 o8 g8; have O8 := hide o8; have B8 := hide (more_B g8).1; have T8 := hide (more_B g8).2; clear o8 g8; have HX8 := hide ((B8.out.block _ (Array.getElem?_eq_some_iff.1 HX7.out).1).trans HX7.out); have HA8 := hide ((B8.out.block _ (Array.getElem?_eq_some_iff.1 HA7.out).1).trans HA7.out); clear d0 d1 d2 d3 d4 d5 e0 e1; obtain ⟨d0, d1, d2, d3, d4, d5⟩ := order_of_six HX8.out; obtain ⟨e0, e1⟩ := two_of HA8.out)
        | (refine step_R0 rfl (.tmp 63) (.tmp 64) rfl u7.heap.size _ rfl P7.out.2.2.1 ⟨b5, off5, none⟩ L m c5 HLm.out rfl P7.out.2.2.2 (by omega) (by simp; omega) ?_; intro a8 c8 w8 o8 g8; have O8 := hide o8; have B8 := hide (more_C g8).1; have T8 := hide (more_C g8).2; clear o8 g8; have HX8 := hide ((B8.out.block _ (Array.getElem?_eq_some_iff.1 HX7.out).1).trans HX7.out); have HA8 := hide ((B8.out.block _ (Array.getElem?_eq_some_iff.1 HA7.out).1).trans HA7.out); clear d0 d1 d2 d3 d4 d5 e0 e1; obtain ⟨d0, d1, d2, d3, d4, d5⟩ := order_of_six HX8.out; obtain ⟨e0, e1⟩ := two_of HA8.out)
        | (refine step_R rfl (.tmp 65) (.tmp 67) rfl u7.heap.size _ m L rfl (O8.out.alloc _) ⟨w8.heap.size, 0, none⟩ [(x2, y2)] 1 1 rfl rfl (acts_one w8 x2 y2) (by omega) (by have := B8.out.size; simp; omega) ?_; intro a9 c9 w9 o9 b9; have B9 := hide ((B8.out.alloc B8.out.size _).trans b9); have HB9 := hide (bel_on' HB7.out B9.out); have LG3 := LG2.out w9 a9 c9 HB9.out o9.sts; clear o9 b9; have HX9 := hide ((B9.out.block _ (Array.getElem?_eq_some_iff.1 HX7.out).1).trans HX7.out); have HA9 := hide ((B9.out.block _ (Array.getElem?_eq_some_iff.1 HA7.out).1).trans HA7.out); clear d0 d1 d2 d3 d4 d5 e0 e1; obtain ⟨d0, d1, d2, d3, d4, d5⟩ := order_of_six HX9.out; obtain ⟨e0, e1⟩ := two_of HA9.out)
        | (refine step_R rfl (.tmp 65) (.tmp 67) rfl u7.heap.size _ m L rfl O8.out ⟨u7.heap.size + 1, 0, none⟩ [(x2, y2)] 1 1 rfl rfl T8.out (by omega) B8.out.size ?_; intro a9 c9 w9 o9 b9; have B9 := hide (B8.out.trans b9); have HB9 := hide (bel_on' HB7.out B9.out); have LG3 := LG2.out w9 a9 c9 HB9.out o9.sts; clear o9 b9; have HX9 := hide ((B9.out.block _ (Array.getElem?_eq_some_iff.1 HX7.out).1).trans HX7.out); have HA9 := hide ((B9.out.block _ (Array.getElem?_eq_some_iff.1 HA7.out).1).trans HA7.out); clear d0 d1 d2 d3 d4 d5 e0 e1; obtain ⟨d0, d1, d2, d3, d4, d5⟩ := order_of_six HX9.out; obtain ⟨e0, e1⟩ := two_of HA9.out)
        | (refine step_R rfl (.tmp 65) (.tmp 67) rfl u7.heap.size _ m L rfl O8.out ⟨u7.heap.size, 0, none⟩ [(x2, y2)] 1 1 rfl rfl T8.out (by omega) B8.out.size ?_; intro a9 c9 w9 o9 b9; have B9 := hide (B8.out.trans b9); have HB9 := hide (bel_on' HB7.out B9.out); have LG3 := LG2.out w9 a9 c9 HB9.out o9.sts; clear o9 b9; have HX9 := hide ((B9.out.block _ (Array.getElem?_eq_some_iff.1 HX7.out).1).trans HX7.out); have HA9 := hide ((B9.out.block _ (Array.getElem?_eq_some_iff.1 HA7.out).1).trans HA7.out); clear d0 d1 d2 d3 d4 d5 e0 e1; obtain ⟨d0, d1, d2, d3, d4, d5⟩ := order_of_six HX9.out; obtain ⟨e0, e1⟩ := two_of HA9.out)
        | (go_at_call 15; refine LG3.mono ?_; clear LG3; rintro e u10 ⟨rfl, hb⟩; have HB10 := hide (bel_on' HB9.out hb); have HX10 := hide ((hb.block _ (Array.getElem?_eq_some_iff.1 HX9.out).1).trans HX9.out); have HA10 := hide ((hb.block _ (Array.getElem?_eq_some_iff.1 HA9.out).1).trans HA9.out); clear hb d0 d1 d2 d3 d4 d5 e0 e1; obtain ⟨d0, d1, d2, d3, d4, d5⟩ := order_of_six HX10.out; obtain ⟨e0, e1⟩ := two_of HA10.out)
        | (go_at_call 9; refine (AWK.out _).mono ?_; rintro e u11 ⟨rfl, hb⟩; have HB11 := hide (bel_on' HB10.out hb); have HX11 := hide ((hb.block _ (Array.getElem?_eq_some_iff.1 HX10.out).1).trans HX10.out); have HA11 := hide ((hb.block _ (Array.getElem?_eq_some_iff.1 HA10.out).1).trans HA10.out); clear hb d0 d1 d2 d3 d4 d5 e0 e1; obtain ⟨d0, d1, d2, d3, d4, d5⟩ := order_of_six HX11.out; obtain ⟨e0, e1⟩ := two_of HA11.out)
        | fail)
      all_goals go_wp2
      all_goals go_ret
      all_goals exact ⟨rfl, HB11.out⟩
end Go.Proofs.Ytlcjfpmhfaaaaaa
