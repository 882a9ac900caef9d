/-
  FlowTwo: of what may happen nothing is committed that is aborted, nothing undone that was not done, the last step first, nothing shipped that is not committed.
-/
import Derived.Test.YtlcjfpmhfaaaaaaFlwW
import Derived.Test.YtlcjfpmhfaaaaaaFlwD
import Derived.Test.YtlcjfpmhfaaaaaaFBegins
namespace Go.Proofs.Ytlcjfpmhfaaaaaa
open Go.ChangeShapes Go.WideShapes Go.ChangeAt Go.RowKit

/-- What the law has written down of a state. -/
def Tw (s : Fs) (Y Z D0 D1 D2 D3 U0 U1 U2 U3 : Int) : Prop :=
  (0 ≤ Y ↔ s.yes = true) ∧ (0 ≤ Z ↔ s.no = true) ∧ (0 ≤ D0 ↔ 0 < s.d) ∧ (0 ≤ D1 ↔ 1 < s.d) ∧ (0 ≤ D2 ↔ 2 < s.d) ∧ D3 < 0 ∧ (0 ≤ U0 ↔ s.u ≤ 0 ∧ 0 < s.d) ∧ (0 ≤ U1 ↔ s.u ≤ 1 ∧ 1 < s.d) ∧ (0 ≤ U2 ↔ s.u ≤ 2 ∧ 2 < s.d) ∧ U3 < 0
theorem tw_start : Tw fs0 (-1) (-1) (-1) (-1) (-1) (-1) (-1) (-1) (-1) (-1) := by unfold Tw fs0; simp
theorem four_of {u : World} {n : Nat} {t : TypeId} {v0 v1 v2 v3 : Value} (h : u.heap[n]? = some (.cells #[v0, v1, v2, v3] t (0, 0))) : (u.cell? ⟨n, 0, none⟩ = some v0 ∧ u.cell? ⟨n, 1, none⟩ = some v1 ∧ u.cell? ⟨n, 2, none⟩ = some v2 ∧ u.cell? ⟨n, 3, none⟩ = some v3) ∧ (u.frozen? ⟨n, 0, none⟩ = false ∧ u.frozen? ⟨n, 1, none⟩ = false ∧ u.frozen? ⟨n, 2, none⟩ = false ∧ u.frozen? ⟨n, 3, none⟩ = false) := by
  refine ⟨⟨?_, ?_, ?_, ?_⟩, frozen_of_row _ _ _ _ _ h, frozen_of_row _ _ _ _ _ h, frozen_of_row _ _ _ _ _ h, frozen_of_row _ _ _ _ _ h⟩
  all_goals (rw [cell_of h]; rfl)
theorem sa_same {wr : World} {g i : Nat} {v : Value} {cs : Array Value} {t : TypeId} (o : Obj) (h : wr.heap[g]? = some (.cells cs t (0, 0))) : ((wr.setCell ⟨g, i, none⟩ v).alloc o).heap[g]? = some (.cells (cs.setIfInBounds i v) t (0, 0)) := by
  have h1 := heap_setCell_same wr g i cs t v h
  rw [Below.heap_alloc _ _ _ (Array.getElem?_eq_some_iff.1 h1).1]
  exact h1
theorem sa_other {wr : World} {g i k : Nat} {v : Value} {x : Obj} (o : Obj) (h : wr.heap[k]? = some x) (hk : k ≠ g) : ((wr.setCell ⟨g, i, none⟩ v).alloc o).heap[k]? = some x := by
  have h1 := (Below.heap_setCell wr ⟨g, i, none⟩ v k hk).trans h
  rw [Below.heap_alloc _ _ _ (Array.getElem?_eq_some_iff.1 h1).1]
  exact h1
theorem sa_below {w wr : World} {g i : Nat} {v : Value} (o : Obj) (h : Below w.heap.size w wr) (hg : w.heap.size ≤ g) : Below w.heap.size w ((wr.setCell ⟨g, i, none⟩ v).alloc o) := by
  have h1 := h.setCell (p := ⟨g, i, none⟩) hg v
  exact h1.alloc h1.size _
theorem two_next {o : Od} {l : List (Int × Int)} {i : Nat} {s : Fs} (hi : i < legalO o l) (hl : i < l.length) (h : goF o.steps.length fs0 (l.take i) = some s) :
    mayO o = true ∧ ∃ s', seeF o.steps.length s (stAt l i) = some s' ∧ goF o.steps.length fs0 (l.take (i + 1)) = some s' := by
  unfold legalO at hi
  split at hi
  · rename_i hm
    refine ⟨hm, ?_⟩
    obtain ⟨s', hs'⟩ := goF_take o.steps.length l fs0 (i + 1) (by omega)
    refine ⟨s', ?_, hs'⟩
    rw [goF_next hl h, ← stAt_get hl] at hs'
    exact hs'
  · omega

set_option maxRecDepth 100000 in
set_option maxHeartbeats 4000000 in
theorem flowTwo_walk (o0 : Od) (a0 : Option Addr) (cap0 : Nat) (l1 : List (Int × Int)) (a1 : Option Addr) (cap1 : Nat) (w : World) (w0 : OdIn w o0 a0 cap0) (w1 : ActsIn w l1 a1 cap1) :
    Calls Try.prog 5 #[.agg #[.int .i64 o0.id, .int .i64 o0.item, .int .i64 o0.qty, .int .i64 o0.client, .int .i64 o0.price, .slice a0 o0.steps.length cap0], .slice a1 l1.length cap1] w fun e w' => e = .returned (.bool true) ∧ Below w.heap.size w w' := by
  obtain ⟨hl, hst, -, hcp⟩ := w0
  obtain ⟨V, hV⟩ : ∃ V, V = w.alloc (.cells #[.int .i64 o0.id, .int .i64 o0.item, .int .i64 o0.qty, .int .i64 o0.client, .int .i64 o0.price, .slice a0 o0.steps.length cap0] 24) := ⟨_, rfl⟩
  have hbV : Below w.heap.size w V := by rw [hV]; exact (Below.refl _ _).alloc (Nat.le_refl _) _
  have hVb : V.heap[w.heap.size]? = some (.cells #[.int .i64 o0.id, .int .i64 o0.item, .int .i64 o0.qty, .int .i64 o0.client, .int .i64 o0.price, .slice a0 o0.steps.length cap0] 24 (0, 0)) := by rw [hV]; exact World.alloc_heap_new w _
  have HV := hide hV
  have HBV := hide hbV
  have HVB := hide hVb
  have HST := hide hst
  have HLN := hide hl
  have HCP := hide hcp
  have AWK : Hid (∀ u, Calls Try.prog 9 #[] u fun e w' => e = .returned (.bool true) ∧ Below u.heap.size u w') := fun u => fawake_any u
  clear hst hcp
  obtain ⟨hl1, hs1, -, hc1⟩ := w1
  have HS1 := hide hs1
  have HL1 := hide hl1
  have HC1 := hide hc1
  obtain ⟨d0, d1, d2, d3, d4, d5⟩ := order_of_six hVb
  have LG := legal_any o0 a0 cap0 l1 a1 cap1 V (HST.out.below hbV) hl (hs1.below hbV) hl1
  obtain ⟨N, hN⟩ : ∃ N, N = legalO o0 l1 := ⟨_, rfl⟩
  have hNl : N ≤ l1.length := by rw [hN]; exact legalO_le _ _
  have HN := hide hN
  rw [← hN] at LG
  rw [hV] at d0 d1 d2 d3 d4 d5 LG
  clear hV hbV hVb hs1 hN
  by_cases h20 : (o0.steps.length : Int) > 20
  · go_enter Try.func5, Try.ntmps5
    rw [HV.out] at HBV
    go_wp2_with fail
    refine (AWK.out _).mono ?_
    rintro e ua ⟨rfl, hb⟩
    have HBE := hide (bel_on' HBV.out hb)
    clear hb
    go_wp2
    go_ret
    exact ⟨rfl, HBE.out⟩
  by_cases h60 : (l1.length : Int) > 60
  · go_enter Try.func5, Try.ntmps5
    rw [HV.out] at HBV
    go_wp2_with fail
    refine (AWK.out _).mono ?_
    rintro e ua ⟨rfl, hb⟩
    have HBE := hide (bel_on' HBV.out hb)
    clear hb
    go_wp2
    go_ret
    exact ⟨rfl, HBE.out⟩
  go_enter Try.func5, Try.ntmps5
  go_wp2_with fail
  refine LG.mono ?_
  rintro e u1 ⟨rfl, hb⟩
  rw [← HV.out] at hb
  have HB1 := hide (bel_on' HBV.out hb)
  clear hb LG d0 d1 d2 d3 d4 d5
  have qn : ¬ (N : Int) < 0 := by omega
  have qm : ¬ (N : Int) > (l1.length : Int) := by omega
  have hsl : ∀ (W : World) (k : Nat), (k : Int) ≤ (l1.length : Int) → (Instr.sliceAt 25 (.slice a1 l1.length cap1) none (some (.int .i64 (k : Int))) none).run Try.prog W = .ok (.slice a1 k cap1) W := fun W k hk => slice_to W a1 l1.length cap1 k (by have := HC1.out; omega)
  have hs2 := fun W => hsl W N (by omega)
  clear hsl
  go_wp2_with fail
  have HGO0 : Hid (goF o0.steps.length fs0 (l1.take 0) = some fs0) := rfl
  obtain ⟨W2, hW2⟩ : ∃ W2, W2 = (u1.alloc (.cells #[.int .i64 (-1), .int .i64 (-1), .int .i64 (-1), .int .i64 (-1)] 35)).alloc (.cells #[.int .i64 (-1), .int .i64 (-1), .int .i64 (-1), .int .i64 (-1)] 35) := ⟨_, rfl⟩
  have HBW : Hid (Below w.heap.size w W2) := by show Below _ _ _; rw [hW2]; exact (HB1.out.alloc HB1.out.size _).alloc (by have := HB1.out.size; simp; omega) _
  have HWD : Hid (W2.heap[u1.heap.size]? = some (.cells #[.int .i64 (-1), .int .i64 (-1), .int .i64 (-1), .int .i64 (-1)] 35 (0, 0))) := by show _ = _; rw [hW2]; exact (Below.heap_alloc _ _ _ (by simp)).trans (World.alloc_heap_new u1 _)
  have HWU : Hid (W2.heap[u1.heap.size + 1]? = some (.cells #[.int .i64 (-1), .int .i64 (-1), .int .i64 (-1), .int .i64 (-1)] 35 (0, 0))) := by
    show _ = _
    have h := World.alloc_heap_new (u1.alloc (.cells #[.int .i64 (-1), .int .i64 (-1), .int .i64 (-1), .int .i64 (-1)] 35)) (.cells #[.int .i64 (-1), .int .i64 (-1), .int .i64 (-1), .int .i64 (-1)] 35)
    rw [World.size_alloc] at h
    rw [hW2]
    exact h
  have hwu : w.heap.size ≤ u1.heap.size := HB1.out.size
  rw [← hW2]
  clear hW2
  go_loopw [6, 7, 39] (fun yv zv iv wr => ∃ (i : Nat) (s : Fs) (Y Z D0 D1 D2 D3 U0 U1 U2 U3 : Int), yv = .int .i64 Y ∧ zv = .int .i64 Z ∧ iv = .int .i64 i ∧ i ≤ N ∧ Hid (goF o0.steps.length fs0 (l1.take i) = some s) ∧ Hid (Below w.heap.size w wr) ∧ Hid (wr.heap[u1.heap.size]? = some (.cells #[.int .i64 D0, .int .i64 D1, .int .i64 D2, .int .i64 D3] 35 (0, 0))) ∧ Hid (wr.heap[u1.heap.size + 1]? = some (.cells #[.int .i64 U0, .int .i64 U1, .int .i64 U2, .int .i64 U3] 35 (0, 0))) ∧ Hid (Tw s Y Z D0 D1 D2 D3 U0 U1 U2 U3)) (fun _ _ iv _ => N - (intOf iv).toNat)
  case atStart => exact ⟨0, fs0, -1, -1, -1, -1, -1, -1, -1, -1, -1, -1, rfl, rfl, rfl, Nat.zero_le _, HGO0, HBW, HWD, HWU, tw_start⟩
  case round =>
    obtain ⟨i, s, Y, Z, D0, D1, D2, D3, U0, U1, U2, U3, rfl, rfl, rfl, hi, HGO, HB, HD, HU, HTW⟩ := hrel
    by_cases hlt : i < N
    rotate_left
    · have q1 : ¬ (i : Int) < (N : Int) := by omega
      have hok := goF_ok _ _ _ _ (fok0 _) HGO.out
      by_cases hY : Y < 0
      · go_wp2_with fail
        refine (AWK.out _).mono ?_
        rintro e ua ⟨rfl, hb⟩
        have HBE := hide (bel_on' HB.out hb)
        clear hb
        go_wp2
        go_ret
        exact ⟨rfl, HBE.out⟩
      · have hZ : Z < 0 := by
          have h1 := HTW.out.1.1 (by omega)
          have h2 := (hok.2.2.2.1 h1).1
          by_cases e : 0 ≤ Z
          · have := HTW.out.2.1.1 e
            rw [h2] at this
            cases this
          · omega
        clear hok
        go_wp2_with fail
        refine (AWK.out _).mono ?_
        rintro e ua ⟨rfl, hb⟩
        have HBE := hide (bel_on' HB.out hb)
        clear hb
        go_wp2
        go_ret
        exact ⟨rfl, HBE.out⟩
    obtain ⟨hmay, s', hse, hgn⟩ := two_next (o := o0) (l := l1) (by rw [← HN.out]; exact hlt) (by omega) HGO.out
    have h3 := may_three hmay
    have hok := goF_ok _ _ _ _ (fok0 _) HGO.out
    have HGN := hide hgn
    obtain ⟨b, off, rfl, e0, e1⟩ := (HS1.out.below HB.out).at (show i < l1.length by omega)
    have q1 : (i : Int) < (N : Int) := by omega
    have hi0 : (i : Int) ≥ 0 := by omega
    have hc := see_cases hse
    obtain ⟨⟨x1, x2⟩, hx⟩ : ∃ x, x = stAt l1 i := ⟨_, rfl⟩
    rw [← hx] at e0 e1 hc
    simp only at e0 e1
    clear hx hse hgn hmay
    obtain ⟨t1, t2, t3, t4, t5, t6, t7, t8, t9, t10⟩ := id HTW.out
    obtain ⟨k1, k2, k3, k4, k5⟩ := hok
    obtain ⟨A, hA⟩ : ∃ A, A = wr.alloc (.cells #[.int .i64 x1, .int .i64 x2] 34) := ⟨_, rfl⟩
    have HBA : Hid (Below w.heap.size w A) := by show Below _ _ _; rw [hA]; exact HB.out.alloc HB.out.size _
    have hlD : u1.heap.size < wr.heap.size := (Array.getElem?_eq_some_iff.1 HD.out).1
    have hlU : u1.heap.size + 1 < wr.heap.size := (Array.getElem?_eq_some_iff.1 HU.out).1
    have HAD : Hid (A.heap[u1.heap.size]? = some (.cells #[.int .i64 D0, .int .i64 D1, .int .i64 D2, .int .i64 D3] 35 (0, 0))) := by show _ = _; rw [hA, Below.heap_alloc _ _ _ hlD]; exact HD.out
    have HAU : Hid (A.heap[u1.heap.size + 1]? = some (.cells #[.int .i64 U0, .int .i64 U1, .int .i64 U2, .int .i64 U3] 35 (0, 0))) := by show _ = _; rw [hA, Below.heap_alloc _ _ _ hlU]; exact HU.out
    obtain ⟨⟨c0, c1, c2, c3⟩, f0, f1, f2, f3⟩ := four_of HAD.out
    obtain ⟨⟨v0, v1, v2, v3⟩, g0, g1, g2, g3⟩ := four_of HAU.out
    rw [hA] at c0 c1 c2 c3 f0 f1 f2 f3 v0 v1 v2 v3 g0 g1 g2 g3
    have HAE := hide hA
    clear hA
    rcases hc with ⟨hxe, z1, z2, z3, rfl⟩ | ⟨hxe, z1, z2, rfl⟩ | ⟨hxe, z1, z2, z3, z4, rfl⟩ | ⟨hxe, z1, z2, rfl⟩ | ⟨hxe, z1, z2, rfl⟩
    · obtain hd | hd | hd : s.d = 0 ∨ s.d = 1 ∨ s.d = 2 := by omega
      · have qy : ¬ Y ≥ 0 := fun h => (by rw [t1.1 h] at z2; cases z2)
        have HTN : Hid (Tw ⟨s.d + 1, s.u + 1, s.yes, s.no, s.ship⟩ Y Z (i : Int) D1 D2 D3 U0 U1 U2 U3) := by
          unfold Tw
          simp only
          exact ⟨t1, t2, by omega, by omega, by omega, by omega, by omega, by omega, by omega, by omega⟩
        obtain ⟨rfl, rfl⟩ : x1 = 2 ∧ x2 = 0 := by cases hxe; exact ⟨rfl, by rw [hd]; rfl⟩
        have HDN : Hid (((wr.setCell ⟨u1.heap.size, 0, none⟩ (.int .i64 i)).alloc (.cells #[.int .i64 2, .int .i64 0] 34)).heap[u1.heap.size]? = some (.cells #[.int .i64 (i : Int), .int .i64 D1, .int .i64 D2, .int .i64 D3] 35 (0, 0))) := sa_same _ HD.out
        have HUN : Hid (((wr.setCell ⟨u1.heap.size, 0, none⟩ (.int .i64 i)).alloc (.cells #[.int .i64 2, .int .i64 0] 34)).heap[u1.heap.size + 1]? = some (.cells #[.int .i64 U0, .int .i64 U1, .int .i64 U2, .int .i64 U3] 35 (0, 0))) := sa_other _ HU.out (by omega)
        have HBN : Hid (Below w.heap.size w ((wr.setCell ⟨u1.heap.size, 0, none⟩ (.int .i64 i)).alloc (.cells #[.int .i64 2, .int .i64 0] 34))) := sa_below _ HB.out hwu
        clear t1 t2 t3 t4 t5 t6 t7 t8 t9 t10 k1 k2 k3 k4 k5 hxe hd z1 z2 z3
        go_wp2
        go_roundw
        case rel => exact ⟨i + 1, _, Y, Z, (i : Int), D1, D2, D3, U0, U1, U2, U3, by go_num, by go_num, by go_num, by omega, HGN, HBN, HDN, HUN, HTN⟩
        case measure => simp [intOf]; omega
      · have qd : ¬ D0 < 0 := by omega
        have qy : ¬ Y ≥ 0 := fun h => (by rw [t1.1 h] at z2; cases z2)
        have HTN : Hid (Tw ⟨s.d + 1, s.u + 1, s.yes, s.no, s.ship⟩ Y Z D0 (i : Int) D2 D3 U0 U1 U2 U3) := by
          unfold Tw
          simp only
          exact ⟨t1, t2, by omega, by omega, by omega, by omega, by omega, by omega, by omega, by omega⟩
        obtain ⟨rfl, rfl⟩ : x1 = 2 ∧ x2 = 1 := by cases hxe; exact ⟨rfl, by rw [hd]; rfl⟩
        have HDN : Hid (((wr.setCell ⟨u1.heap.size, 1, none⟩ (.int .i64 i)).alloc (.cells #[.int .i64 2, .int .i64 1] 34)).heap[u1.heap.size]? = some (.cells #[.int .i64 D0, .int .i64 (i : Int), .int .i64 D2, .int .i64 D3] 35 (0, 0))) := sa_same _ HD.out
        have HUN : Hid (((wr.setCell ⟨u1.heap.size, 1, none⟩ (.int .i64 i)).alloc (.cells #[.int .i64 2, .int .i64 1] 34)).heap[u1.heap.size + 1]? = some (.cells #[.int .i64 U0, .int .i64 U1, .int .i64 U2, .int .i64 U3] 35 (0, 0))) := sa_other _ HU.out (by omega)
        have HBN : Hid (Below w.heap.size w ((wr.setCell ⟨u1.heap.size, 1, none⟩ (.int .i64 i)).alloc (.cells #[.int .i64 2, .int .i64 1] 34))) := sa_below _ HB.out hwu
        clear t1 t2 t3 t4 t5 t6 t7 t8 t9 t10 k1 k2 k3 k4 k5 hxe hd z1 z2 z3
        go_wp2
        go_roundw
        case rel => exact ⟨i + 1, _, Y, Z, D0, (i : Int), D2, D3, U0, U1, U2, U3, by go_num, by go_num, by go_num, by omega, HGN, HBN, HDN, HUN, HTN⟩
        case measure => simp [intOf]; omega
      · have qd : ¬ D1 < 0 := by omega
        have qy : ¬ Y ≥ 0 := fun h => (by rw [t1.1 h] at z2; cases z2)
        have HTN : Hid (Tw ⟨s.d + 1, s.u + 1, s.yes, s.no, s.ship⟩ Y Z D0 D1 (i : Int) D3 U0 U1 U2 U3) := by
          unfold Tw
          simp only
          exact ⟨t1, t2, by omega, by omega, by omega, by omega, by omega, by omega, by omega, by omega⟩
        obtain ⟨rfl, rfl⟩ : x1 = 2 ∧ x2 = 2 := by cases hxe; exact ⟨rfl, by rw [hd]; rfl⟩
        have HDN : Hid (((wr.setCell ⟨u1.heap.size, 2, none⟩ (.int .i64 i)).alloc (.cells #[.int .i64 2, .int .i64 2] 34)).heap[u1.heap.size]? = some (.cells #[.int .i64 D0, .int .i64 D1, .int .i64 (i : Int), .int .i64 D3] 35 (0, 0))) := sa_same _ HD.out
        have HUN : Hid (((wr.setCell ⟨u1.heap.size, 2, none⟩ (.int .i64 i)).alloc (.cells #[.int .i64 2, .int .i64 2] 34)).heap[u1.heap.size + 1]? = some (.cells #[.int .i64 U0, .int .i64 U1, .int .i64 U2, .int .i64 U3] 35 (0, 0))) := sa_other _ HU.out (by omega)
        have HBN : Hid (Below w.heap.size w ((wr.setCell ⟨u1.heap.size, 2, none⟩ (.int .i64 i)).alloc (.cells #[.int .i64 2, .int .i64 2] 34))) := sa_below _ HB.out hwu
        clear t1 t2 t3 t4 t5 t6 t7 t8 t9 t10 k1 k2 k3 k4 k5 hxe hd z1 z2 z3
        go_wp2
        go_roundw
        case rel => exact ⟨i + 1, _, Y, Z, D0, D1, (i : Int), D3, U0, U1, U2, U3, by go_num, by go_num, by go_num, by omega, HGN, HBN, HDN, HUN, HTN⟩
        case measure => simp [intOf]; omega
    · obtain hu | hu | hu : s.u = 1 ∨ s.u = 2 ∨ s.u = 3 := by omega
      · by_cases hdd : s.d = 1
        · have qd : ¬ D0 < 0 := by omega
          have qz : ¬ Z < 0 := by have := t2.2 z1; omega
          have qu : U1 < 0 := by omega
          have qe : ¬ D1 ≥ 0 := by omega
          have HTN : Hid (Tw ⟨s.d, s.u - 1, s.yes, s.no, s.ship⟩ Y Z D0 D1 D2 D3 (i : Int) U1 U2 U3) := by
            unfold Tw
            simp only
            exact ⟨t1, t2, by omega, by omega, by omega, by omega, by omega, by omega, by omega, by omega⟩
          obtain ⟨rfl, rfl⟩ : x1 = 5 ∧ x2 = 0 := by cases hxe; exact ⟨rfl, by rw [hu]; rfl⟩
          have HUN : Hid (((wr.setCell ⟨u1.heap.size + 1, 0, none⟩ (.int .i64 i)).alloc (.cells #[.int .i64 5, .int .i64 0] 34)).heap[u1.heap.size + 1]? = some (.cells #[.int .i64 (i : Int), .int .i64 U1, .int .i64 U2, .int .i64 U3] 35 (0, 0))) := sa_same _ HU.out
          have HDN : Hid (((wr.setCell ⟨u1.heap.size + 1, 0, none⟩ (.int .i64 i)).alloc (.cells #[.int .i64 5, .int .i64 0] 34)).heap[u1.heap.size]? = some (.cells #[.int .i64 D0, .int .i64 D1, .int .i64 D2, .int .i64 D3] 35 (0, 0))) := sa_other _ HD.out (by omega)
          have HBN : Hid (Below w.heap.size w ((wr.setCell ⟨u1.heap.size + 1, 0, none⟩ (.int .i64 i)).alloc (.cells #[.int .i64 5, .int .i64 0] 34))) := sa_below _ HB.out (by omega)
          clear t1 t2 t3 t4 t5 t6 t7 t8 t9 t10 k1 k2 k3 k4 k5 hxe hu hdd z1 z2
          go_wp2
          go_roundw
          case rel => exact ⟨i + 1, _, Y, Z, D0, D1, D2, D3, (i : Int), U1, U2, U3, by go_num, by go_num, by go_num, by omega, HGN, HBN, HDN, HUN, HTN⟩
          case measure => simp [intOf]; omega
        · have qd : ¬ D0 < 0 := by omega
          have qz : ¬ Z < 0 := by have := t2.2 z1; omega
          have qu : ¬ U1 < 0 := by omega
          have HTN : Hid (Tw ⟨s.d, s.u - 1, s.yes, s.no, s.ship⟩ Y Z D0 D1 D2 D3 (i : Int) U1 U2 U3) := by
            unfold Tw
            simp only
            exact ⟨t1, t2, by omega, by omega, by omega, by omega, by omega, by omega, by omega, by omega⟩
          obtain ⟨rfl, rfl⟩ : x1 = 5 ∧ x2 = 0 := by cases hxe; exact ⟨rfl, by rw [hu]; rfl⟩
          have HUN : Hid (((wr.setCell ⟨u1.heap.size + 1, 0, none⟩ (.int .i64 i)).alloc (.cells #[.int .i64 5, .int .i64 0] 34)).heap[u1.heap.size + 1]? = some (.cells #[.int .i64 (i : Int), .int .i64 U1, .int .i64 U2, .int .i64 U3] 35 (0, 0))) := sa_same _ HU.out
          have HDN : Hid (((wr.setCell ⟨u1.heap.size + 1, 0, none⟩ (.int .i64 i)).alloc (.cells #[.int .i64 5, .int .i64 0] 34)).heap[u1.heap.size]? = some (.cells #[.int .i64 D0, .int .i64 D1, .int .i64 D2, .int .i64 D3] 35 (0, 0))) := sa_other _ HD.out (by omega)
          have HBN : Hid (Below w.heap.size w ((wr.setCell ⟨u1.heap.size + 1, 0, none⟩ (.int .i64 i)).alloc (.cells #[.int .i64 5, .int .i64 0] 34))) := sa_below _ HB.out (by omega)
          clear t1 t2 t3 t4 t5 t6 t7 t8 t9 t10 k1 k2 k3 k4 k5 hxe hu hdd z1 z2
          go_wp2
          go_roundw
          case rel => exact ⟨i + 1, _, Y, Z, D0, D1, D2, D3, (i : Int), U1, U2, U3, by go_num, by go_num, by go_num, by omega, HGN, HBN, HDN, HUN, HTN⟩
          case measure => simp [intOf]; omega
      · by_cases hdd : s.d = 2
        · have qd : ¬ D1 < 0 := by omega
          have qz : ¬ Z < 0 := by have := t2.2 z1; omega
          have qu : U2 < 0 := by omega
          have qe : ¬ D2 ≥ 0 := by omega
          have HTN : Hid (Tw ⟨s.d, s.u - 1, s.yes, s.no, s.ship⟩ Y Z D0 D1 D2 D3 U0 (i : Int) U2 U3) := by
            unfold Tw
            simp only
            exact ⟨t1, t2, by omega, by omega, by omega, by omega, by omega, by omega, by omega, by omega⟩
          obtain ⟨rfl, rfl⟩ : x1 = 5 ∧ x2 = 1 := by cases hxe; exact ⟨rfl, by rw [hu]; rfl⟩
          have HUN : Hid (((wr.setCell ⟨u1.heap.size + 1, 1, none⟩ (.int .i64 i)).alloc (.cells #[.int .i64 5, .int .i64 1] 34)).heap[u1.heap.size + 1]? = some (.cells #[.int .i64 U0, .int .i64 (i : Int), .int .i64 U2, .int .i64 U3] 35 (0, 0))) := sa_same _ HU.out
          have HDN : Hid (((wr.setCell ⟨u1.heap.size + 1, 1, none⟩ (.int .i64 i)).alloc (.cells #[.int .i64 5, .int .i64 1] 34)).heap[u1.heap.size]? = some (.cells #[.int .i64 D0, .int .i64 D1, .int .i64 D2, .int .i64 D3] 35 (0, 0))) := sa_other _ HD.out (by omega)
          have HBN : Hid (Below w.heap.size w ((wr.setCell ⟨u1.heap.size + 1, 1, none⟩ (.int .i64 i)).alloc (.cells #[.int .i64 5, .int .i64 1] 34))) := sa_below _ HB.out (by omega)
          clear t1 t2 t3 t4 t5 t6 t7 t8 t9 t10 k1 k2 k3 k4 k5 hxe hu hdd z1 z2
          go_wp2
          go_roundw
          case rel => exact ⟨i + 1, _, Y, Z, D0, D1, D2, D3, U0, (i : Int), U2, U3, by go_num, by go_num, by go_num, by omega, HGN, HBN, HDN, HUN, HTN⟩
          case measure => simp [intOf]; omega
        · have qd : ¬ D1 < 0 := by omega
          have qz : ¬ Z < 0 := by have := t2.2 z1; omega
          have qu : ¬ U2 < 0 := by omega
          have HTN : Hid (Tw ⟨s.d, s.u - 1, s.yes, s.no, s.ship⟩ Y Z D0 D1 D2 D3 U0 (i : Int) U2 U3) := by
            unfold Tw
            simp only
            exact ⟨t1, t2, by omega, by omega, by omega, by omega, by omega, by omega, by omega, by omega⟩
          obtain ⟨rfl, rfl⟩ : x1 = 5 ∧ x2 = 1 := by cases hxe; exact ⟨rfl, by rw [hu]; rfl⟩
          have HUN : Hid (((wr.setCell ⟨u1.heap.size + 1, 1, none⟩ (.int .i64 i)).alloc (.cells #[.int .i64 5, .int .i64 1] 34)).heap[u1.heap.size + 1]? = some (.cells #[.int .i64 U0, .int .i64 (i : Int), .int .i64 U2, .int .i64 U3] 35 (0, 0))) := sa_same _ HU.out
          have HDN : Hid (((wr.setCell ⟨u1.heap.size + 1, 1, none⟩ (.int .i64 i)).alloc (.cells #[.int .i64 5, .int .i64 1] 34)).heap[u1.heap.size]? = some (.cells #[.int .i64 D0, .int .i64 D1, .int .i64 D2, .int .i64 D3] 35 (0, 0))) := sa_other _ HD.out (by omega)
          have HBN : Hid (Below w.heap.size w ((wr.setCell ⟨u1.heap.size + 1, 1, none⟩ (.int .i64 i)).alloc (.cells #[.int .i64 5, .int .i64 1] 34))) := sa_below _ HB.out (by omega)
          clear t1 t2 t3 t4 t5 t6 t7 t8 t9 t10 k1 k2 k3 k4 k5 hxe hu hdd z1 z2
          go_wp2
          go_roundw
          case rel => exact ⟨i + 1, _, Y, Z, D0, D1, D2, D3, U0, (i : Int), U2, U3, by go_num, by go_num, by go_num, by omega, HGN, HBN, HDN, HUN, HTN⟩
          case measure => simp [intOf]; omega
      · have hdd : s.d = 3 := by omega
        have qd : ¬ D2 < 0 := by omega
        have qz : ¬ Z < 0 := by have := t2.2 z1; omega
        have qu : U3 < 0 := by omega
        have qe : ¬ D3 ≥ 0 := by omega
        have HTN : Hid (Tw ⟨s.d, s.u - 1, s.yes, s.no, s.ship⟩ Y Z D0 D1 D2 D3 U0 U1 (i : Int) U3) := by
          unfold Tw
          simp only
          exact ⟨t1, t2, by omega, by omega, by omega, by omega, by omega, by omega, by omega, by omega⟩
        obtain ⟨rfl, rfl⟩ : x1 = 5 ∧ x2 = 2 := by cases hxe; exact ⟨rfl, by rw [hu]; rfl⟩
        have HUN : Hid (((wr.setCell ⟨u1.heap.size + 1, 2, none⟩ (.int .i64 i)).alloc (.cells #[.int .i64 5, .int .i64 2] 34)).heap[u1.heap.size + 1]? = some (.cells #[.int .i64 U0, .int .i64 U1, .int .i64 (i : Int), .int .i64 U3] 35 (0, 0))) := sa_same _ HU.out
        have HDN : Hid (((wr.setCell ⟨u1.heap.size + 1, 2, none⟩ (.int .i64 i)).alloc (.cells #[.int .i64 5, .int .i64 2] 34)).heap[u1.heap.size]? = some (.cells #[.int .i64 D0, .int .i64 D1, .int .i64 D2, .int .i64 D3] 35 (0, 0))) := sa_other _ HD.out (by omega)
        have HBN : Hid (Below w.heap.size w ((wr.setCell ⟨u1.heap.size + 1, 2, none⟩ (.int .i64 i)).alloc (.cells #[.int .i64 5, .int .i64 2] 34))) := sa_below _ HB.out (by omega)
        clear t1 t2 t3 t4 t5 t6 t7 t8 t9 t10 k1 k2 k3 k4 k5 hxe hu hdd z1 z2
        go_wp2
        go_roundw
        case rel => exact ⟨i + 1, _, Y, Z, D0, D1, D2, D3, U0, U1, (i : Int), U3, by go_num, by go_num, by go_num, by omega, HGN, HBN, HDN, HUN, HTN⟩
        case measure => simp [intOf]; omega
    · have HTN : Hid (Tw ⟨s.d, s.u, true, s.no, s.ship⟩ (i : Int) Z D0 D1 D2 D3 U0 U1 U2 U3) := by
        unfold Tw
        simp only
        exact ⟨⟨fun _ => trivial, fun _ => by omega⟩, t2, t3, t4, t5, t6, t7, t8, t9, t10⟩
      obtain ⟨rfl, rfl⟩ : x1 = 13 ∧ x2 = 0 := by cases hxe; exact ⟨rfl, rfl⟩
      rw [HAE.out] at HAD HAU HBA
      clear t1 t2 t3 t4 t5 t6 t7 t8 t9 t10 k1 k2 k3 k4 k5 hxe z1 z2 z3 z4
      go_wp2
      go_roundw
      case rel => exact ⟨i + 1, _, (i : Int), Z, D0, D1, D2, D3, U0, U1, U2, U3, by go_num, by go_num, by go_num, by omega, HGN, HBA, HAD, HAU, HTN⟩
      case measure => simp [intOf]; omega
    · have HTN : Hid (Tw ⟨s.d, s.u, s.yes, true, s.ship⟩ Y (i : Int) D0 D1 D2 D3 U0 U1 U2 U3) := by
        unfold Tw
        simp only
        exact ⟨t1, ⟨fun _ => trivial, fun _ => by omega⟩, t3, t4, t5, t6, t7, t8, t9, t10⟩
      obtain ⟨rfl, rfl⟩ : x1 = 14 ∧ x2 = 0 := by cases hxe; exact ⟨rfl, rfl⟩
      rw [HAE.out] at HAD HAU HBA
      clear t1 t2 t3 t4 t5 t6 t7 t8 t9 t10 k1 k2 k3 k4 k5 hxe z1 z2
      go_wp2
      go_roundw
      case rel => exact ⟨i + 1, _, Y, (i : Int), D0, D1, D2, D3, U0, U1, U2, U3, by go_num, by go_num, by go_num, by omega, HGN, HBA, HAD, HAU, HTN⟩
      case measure => simp [intOf]; omega
    · have qy : ¬ Y < 0 := by have := t1.2 z1; omega
      have HTN : Hid (Tw ⟨s.d, s.u, s.yes, s.no, true⟩ Y Z D0 D1 D2 D3 U0 U1 U2 U3) := by
        unfold Tw
        simp only
        exact ⟨t1, t2, t3, t4, t5, t6, t7, t8, t9, t10⟩
      obtain ⟨rfl, rfl⟩ : x1 = 16 ∧ x2 = 0 := by cases hxe; exact ⟨rfl, rfl⟩
      rw [HAE.out] at HAD HAU HBA
      clear t1 t2 t3 t4 t5 t6 t7 t8 t9 t10 k1 k2 k3 k4 k5 hxe z1 z2
      go_wp2
      go_roundw
      case rel => exact ⟨i + 1, _, Y, Z, D0, D1, D2, D3, U0, U1, U2, U3, by go_num, by go_num, by go_num, by omega, HGN, HBA, HAD, HAU, HTN⟩
      case measure => simp [intOf]; omega
end Go.Proofs.Ytlcjfpmhfaaaaaa
