/-
  FlowBegins: of what may happen each beginning may; nothing happens twice.
-/
import Derived.Test.YtlcjfpmhfaaaaaaFlwW
import Derived.Test.YtlcjfpmhfaaaaaaFlwD
import Derived.Test.YtlcjfpmhfaaaaaaNum
import Derived.Test.YtlcjfpmhfaaaaaaLater
namespace Go.Proofs.Ytlcjfpmhfaaaaaa
open Go.ChangeShapes Go.WideShapes Go.ChangeAt Go.RowKit

theorem slice_to (W : World) (a : Option Addr) (n cap k : Nat) (hk : k ≤ cap) : (Instr.sliceAt 25 (.slice a n cap) none (some (.int .i64 (k : Int))) none).run Try.prog W = .ok (.slice a k cap) W := by
  have hu : Try.prog.underlying 25 = some (.slice (Try.prog.elem 25)) := by kernel_rfl
  have hz : (sizeOf (Try.prog.elem 25)).run Try.prog W = .ok 2 W := by kernel_rfl
  rw [run_sliceAt_slice _ _ _ _ _ _ hu, run_slice_h _ _ _ _ _ hu _ _ (by omega) (by omega), hz]
  show Result.ok (sliced a 0 (k : Int).toNat cap 2) W = _
  unfold sliced
  cases a with
  | none => simp
  | some y => cases h : decide (cap = 0) <;> simp_all [Addr.add]
theorem Sts.take' {w : World} {a : Option Addr} {l : List (Int × Int)} (h : Sts w a l) (n : Nat) : Sts w a (l.take n) := by
  cases a with
  | none =>
    rcases h with h | ⟨b, off, ha, _⟩
    · exact .inl (by rw [h]; simp)
    · cases ha
  | some y =>
    rcases id h with h' | ⟨b, off, ha, _⟩
    · exact .inl (by rw [h']; simp)
    · cases ha
      exact h.cut n

set_option maxRecDepth 100000 in
set_option maxHeartbeats 4000000 in
theorem flowBegins_walk (o0 : Od) (a0 : Option Addr) (cap0 : Nat) (l1 : List (Int × Int)) (a1 : Option Addr) (cap1 : Nat) (a2 : Int) (w : World) (w0 : OdIn w o0 a0 cap0) (w1 : ActsIn w l1 a1 cap1) (_w2 : (Lit.int .i64 a2).wf = true) :
    Calls Try.prog 4 #[.agg #[.int .i64 o0.id, .int .i64 o0.item, .int .i64 o0.qty, .int .i64 o0.client, .int .i64 o0.price, .slice a0 o0.steps.length cap0], .slice a1 l1.length cap1, .int .i64 a2] w fun e w' => e = .returned (.bool true) ∧ Below w.heap.size w w' := by
  obtain ⟨hl, hst, -, hcp⟩ := w0
  obtain ⟨V, hV⟩ : ∃ V, V = w.alloc (.cells #[.int .i64 o0.id, .int .i64 o0.item, .int .i64 o0.qty, .int .i64 o0.client, .int .i64 o0.price, .slice a0 o0.steps.length cap0] 24) := ⟨_, rfl⟩
  have hbV : Below w.heap.size w V := by rw [hV]; exact (Below.refl _ _).alloc (Nat.le_refl _) _
  have hVb : V.heap[w.heap.size]? = some (.cells #[.int .i64 o0.id, .int .i64 o0.item, .int .i64 o0.qty, .int .i64 o0.client, .int .i64 o0.price, .slice a0 o0.steps.length cap0] 24 (0, 0)) := by rw [hV]; exact World.alloc_heap_new w _
  have HV := hide hV
  have HBV := hide hbV
  have HVB := hide hVb
  have HST := hide hst
  have HLN := hide hl
  have HCP := hide hcp
  have AWK : Hid (∀ u, Calls Try.prog 9 #[] u fun e w' => e = .returned (.bool true) ∧ Below u.heap.size u w') := fun u => fawake_any u
  clear hst hcp
  obtain ⟨hl1, hs1, -, hc1⟩ := w1
  have HS1 := hide hs1
  have HL1 := hide hl1
  have HC1 := hide hc1
  obtain ⟨d0, d1, d2, d3, d4, d5⟩ := order_of_six hVb
  have LG := legal_any o0 a0 cap0 l1 a1 cap1 V (HST.out.below hbV) hl (hs1.below hbV) hl1
  obtain ⟨N, hN⟩ : ∃ N, N = legalO o0 l1 := ⟨_, rfl⟩
  have hNl : N ≤ l1.length := by rw [hN]; exact legalO_le _ _
  have HN := hide hN
  rw [← hN] at LG
  rw [hV] at d0 d1 d2 d3 d4 d5 LG
  clear hV hbV hVb hs1 hN
  by_cases h20 : (o0.steps.length : Int) > 20
  · go_enter Try.func4, Try.ntmps4
    rw [HV.out] at HBV
    go_wp2_with fail
    refine (AWK.out _).mono ?_
    rintro e ua ⟨rfl, hb⟩
    have HBE := hide (bel_on' HBV.out hb)
    clear hb
    go_wp2
    go_ret
    exact ⟨rfl, HBE.out⟩
  by_cases h60 : (l1.length : Int) > 60
  · go_enter Try.func4, Try.ntmps4
    rw [HV.out] at HBV
    go_wp2_with fail
    refine (AWK.out _).mono ?_
    rintro e ua ⟨rfl, hb⟩
    have HBE := hide (bel_on' HBV.out hb)
    clear hb
    go_wp2
    go_ret
    exact ⟨rfl, HBE.out⟩
  go_enter Try.func4, Try.ntmps4
  go_wp2_with fail
  refine LG.mono ?_
  rintro e u1 ⟨rfl, hb⟩
  rw [← HV.out] at hb
  have HB1 := hide (bel_on' HBV.out hb)
  have HX1 := hide ((hb.block _ (Array.getElem?_eq_some_iff.1 HVB.out).1).trans HVB.out)
  clear hb LG d0 d1 d2 d3 d4 d5
  obtain ⟨d0, d1, d2, d3, d4, d5⟩ := order_of_six HX1.out
  have qn : ¬ (N : Int) < 0 := by omega
  have qm : ¬ (N : Int) > (l1.length : Int) := by omega
  obtain ⟨c0, c1⟩ := um_bd a2 ((l1.length : Int) + 1) (by omega) (by omega)
  obtain ⟨c, hc⟩ : ∃ c : Nat, um a2 ((l1.length : Int) + 1) = c := ⟨(um a2 ((l1.length : Int) + 1)).toNat, by omega⟩
  have hcl : c ≤ l1.length := by omega
  unfold um at hc
  clear c0 c1
  have hsl : ∀ (W : World) (k : Nat), (k : Int) ≤ (l1.length : Int) → (Instr.sliceAt 25 (.slice a1 l1.length cap1) none (some (.int .i64 (k : Int))) none).run Try.prog W = .ok (.slice a1 k cap1) W := fun W k hk => slice_to W a1 l1.length cap1 k (by have := HC1.out; omega)
  have hs1 := fun W => hsl W c (by omega)
  have HSL := hide hsl
  clear hsl
  go_wp2_with fail
  rw [hc]
  have HCC := hide hc
  clear hc
  obtain ⟨m, hm⟩ : ∃ m, m = min c N := ⟨_, rfl⟩
  have LG : ∀ u : Later u1, Calls Try.prog 15 #[.agg #[.int .i64 o0.id, .int .i64 o0.item, .int .i64 o0.qty, .int .i64 o0.client, .int .i64 o0.price, .slice a0 o0.steps.length cap0], .slice a1 c cap1] u.w fun e w' => e = .returned (.int .i64 (m : Int)) ∧ ∃ u' : Later u1, w' = u'.w := fun u => calls_later u (by
    have hbu := bel_on' HB1.out u.below
    have h := legal_any o0 a0 cap0 (l1.take c) a1 cap1 u.w (HST.out.below hbu) HLN.out ((HS1.out.below hbu).take' c) (by simp; omega)
    rw [legalO_take, ← HN.out, List.length_take, Nat.min_eq_left hcl, ← hm] at h
    exact h)
  have hmin : ∀ (W : World) (ts : Array TypeId) (t : TypeId), (Builtin.min_ ts t #[.int .i64 (c : Int), .int .i64 (N : Int)]).run Try.prog W = .ok (.int .i64 (m : Int)) W := fun W ts t => by
    rw [run_min_int2]
    congr 2
    split <;> omega
  have HMM := hide hm
  clear hm
  have hne : Nonempty (Later u1) := ⟨Later.now u1⟩
  have l0 := Later.cell d0
  have l1' := Later.cell d1
  have l2 := Later.cell d2
  have l3 := Later.cell d3
  have l4 := Later.cell d4
  have l5 := Later.cell d5
  clear d0 d1 d2 d3 d4 d5
  refine region_later (by kernel_rfl) (by kernel_rfl) ?_
  repeat (first | go_big_quiet_step ((go_at_call 15; with_reducible exact LG _)) | quiet_step ((go_at_call 15; with_reducible exact LG _)))
  refine wpQuiet_nil ?_
  intro u
  have hbu := u.below
  generalize u.w = u2 at hbu ⊢
  have HB2 := hide (bel_on' HB1.out hbu)
  clear hbu hne l0 l1' l2 l3 l4 l5 LG
  have qmm : ((m : Int) != (m : Int)) = false := by simp
  have hs2 := fun W => HSL.out W N (by omega)
  have hne := eql_act
  have hgd := guard_act
  go_wp2_with fail
  go_loopw [54] (fun iv wr => ∃ i : Nat, iv = .int .i64 i ∧ i ≤ N ∧ Hid (Below w.heap.size w wr)) (fun iv _ => N - (intOf iv).toNat)
  case atStart => exact ⟨0, rfl, Nat.zero_le _, HB2⟩
  case round =>
    obtain ⟨i, rfl, hi, HB⟩ := hrel
    by_cases hlt : i < N
    rotate_left
    · have q1 : ¬ (i : Int) < (N : Int) := by omega
      go_wp2_with fail
      refine (AWK.out _).mono ?_
      rintro e ua ⟨rfl, hb⟩
      have HBE := hide (bel_on' HB.out hb)
      clear hb
      go_wp2
      go_ret
      exact ⟨rfl, HBE.out⟩
    obtain ⟨b, off, rfl, e0, e1⟩ := (HS1.out.below HB.out).at (show i < l1.length by omega)
    have q1 : (i : Int) < (N : Int) := by omega
    have hs3 := fun W => HSL.out W i (by omega)
    obtain ⟨⟨x1, x2⟩, hx⟩ : ∃ x, x = stAt l1 i := ⟨_, rfl⟩
    rw [← hx] at e0 e1
    simp only at e0 e1
    have HX := hide hx
    clear hx
    obtain ⟨wa, hwa⟩ : ∃ wa, wa = wr := ⟨_, rfl⟩
    rw [← hwa] at HB e0 e1 ⊢
    clear hwa
    obtain ⟨A, hA⟩ : ∃ A, A = wa.alloc (.cells #[.int .i64 x1, .int .i64 x2] 34) := ⟨_, rfl⟩
    have HBA : Hid (Below w.heap.size w A) := by show Below _ _ _; rw [hA]; exact HB.out.alloc HB.out.size _
    have HAA : Hid (A.heap[wa.heap.size]? = some (.cells #[.int .i64 x1, .int .i64 x2] 34 (0, 0))) := by show _ = _; rw [hA]; exact World.alloc_heap_new wa _
    go_wp2_with fail
    rw [← hA]
    clear hA e0 e1
    go_loopw [63] (fun kv w3 => ∃ k : Nat, kv = .int .i64 k ∧ k ≤ i ∧ Hid (Below w.heap.size w w3) ∧ Hid (w3.heap[wa.heap.size]? = some (.cells #[.int .i64 x1, .int .i64 x2] 34 (0, 0)))) (fun kv _ => i - (intOf kv).toNat)
    case atStart => exact ⟨0, rfl, Nat.zero_le _, HBA, HAA⟩
    case round =>
      obtain ⟨k, rfl, hk, HB3, HA3⟩ := hrel
      by_cases hkl : k < i
      rotate_left
      · have q2 : ¬ (k : Int) < (i : Int) := by omega
        go_wp2
        go_roundw
        case rel => exact ⟨i + 1, by go_num, by omega, HB3⟩
        case measure => simp [intOf]; omega
      have q2 : (k : Int) < (i : Int) := by omega
      obtain ⟨b', off', eq', e0, e1⟩ := (HS1.out.below HB3.out).at (show k < l1.length by omega)
      cases eq'
      obtain ⟨⟨y1, y2⟩, hy⟩ : ∃ y, y = stAt l1 k := ⟨_, rfl⟩
      rw [← hy] at e0 e1
      simp only at e0 e1
      have HNE : Hid ((x1, x2) ≠ (y1, y2)) := by
        rw [HX.out, hy, stAt_get (by omega), stAt_get (by omega)]
        exact fun e => legal_once (o := o0) hkl (by rw [← HN.out]; exact hlt) (by omega) e.symm
      have qe : (x1 == y1 && x2 == y2) = false := by
        rw [Bool.and_eq_false_iff]
        by_cases e : x1 = y1
        · exact .inr (by simpa using fun e2 => HNE.out (by rw [e, e2]))
        · exact .inl (by simpa using e)
      clear hy
      have hlt3 : wa.heap.size < wr.heap.size := (Array.getElem?_eq_some_iff.1 HA3.out).1
      obtain ⟨A2, hA2⟩ : ∃ A2, A2 = wr.alloc (.cells #[.int .i64 y1, .int .i64 y2] 34) := ⟨_, rfl⟩
      have HBA2 : Hid (Below w.heap.size w A2) := by show Below _ _ _; rw [hA2]; exact HB3.out.alloc HB3.out.size _
      have HAA2 : Hid (A2.heap[wa.heap.size]? = some (.cells #[.int .i64 x1, .int .i64 x2] 34 (0, 0))) := by show _ = _; rw [hA2, Below.heap_alloc _ _ _ hlt3]; exact HA3.out
      obtain ⟨p0, p1⟩ := two_of HAA2.out
      rw [hA2] at p0 p1
      have HAE := hide hA2
      clear hA2
      go_wp2
      rw [← HAE.out]
      go_roundw
      case rel => exact ⟨k + 1, by go_num, by omega, HBA2, HAA2⟩
      case measure => simp [intOf]; omega
end Go.Proofs.Ytlcjfpmhfaaaaaa
