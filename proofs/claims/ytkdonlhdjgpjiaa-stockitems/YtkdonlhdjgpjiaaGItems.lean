/-
  StockItems's walk.
-/
import Derived.Test.YtkdonlhdjgpjiaaSckA
import Derived.Test.YtkdonlhdjgpjiaaSckD
import Derived.Test.YtkdonlhdjgpjiaaNum
namespace Go.Proofs.Ytkdonlhdjgpjiaa
open Go.ChangeShapes Go.WideShapes Go.ChangeAt Go.RowKit Go.Maps

theorem ints_50 (w : World) : Ints (w.alloc (.cells #[.int .i64 50, .int .i64 50, .int .i64 50, .int .i64 50, .int .i64 50, .int .i64 50, .int .i64 50, .int .i64 50] 3)) (some ⟨w.heap.size, 0, none⟩) [50, 50, 50, 50, 50, 50, 50, 50] :=
  .inr ⟨w.heap.size, 0, rfl, fun i hi => by
    rw [cell_of (World.alloc_heap_new _ _)]
    match i, hi with
    | 0, _ => rfl
    | 1, _ => rfl
    | 2, _ => rfl
    | 3, _ => rfl
    | 4, _ => rfl
    | 5, _ => rfl
    | 6, _ => rfl
    | 7, _ => rfl⟩
theorem new_50 {k : Int} (h0 : 0 ≤ k) (h1 : k < 8) : (newS [50, 50, 50, 50, 50, 50, 50, 50]).on k = 50 := by
  obtain ⟨i, rfl⟩ : ∃ i : Nat, k = i := ⟨k.toNat, by omega⟩
  have hi : i < 8 := by omega
  match i, hi with
  | 0, _ => rfl
  | 1, _ => rfl
  | 2, _ => rfl
  | 3, _ => rfl
  | 4, _ => rfl
  | 5, _ => rfl
  | 6, _ => rfl
  | 7, _ => rfl
/-- Of the item t both books say the same; the second has nothing of others. -/
structure It (t : Int) (sa sb : Sb) : Prop where
  on : sa.on t = sb.on t
  fr : sa.fr t = sb.fr t
  r : ∀ x, x % 8 = t → sa.r x = sb.r x
  at_ : ∀ x c, sa.r x = some c → c.1 = x % 8
  fifty : ∀ k, 0 ≤ k → k < 8 → k ≠ t → sb.on k = 50
theorem updO_none {r : Int → Option (Int × Int)} {id x : Int} {c : Int × Int} (h : updO r id none x = some c) : r x = some c := by
  by_cases e : x = id
  · subst e; rw [updO_same] at h; cases h
  · rwa [updO_other _ _ e] at h
theorem It.com1 {t : Int} {sa sb : Sb} (h : It t sa sb) {id : Int} (hne : id % 8 ≠ t) : It t (comS sa id) sb := by
  cases hr : sa.r id with
  | none => rw [comS_none hr]; exact h
  | some c =>
    rw [comS_some hr]
    have hc := h.at_ id c hr
    refine ⟨?_, h.fr, fun x hx => ?_, fun x d hd => h.at_ x d (updO_none hd), h.fifty⟩
    · dsimp only; rw [upd_other _ _ (by omega)]; exact h.on
    · dsimp only; rw [updO_other _ _ (show x ≠ id from fun e => hne (by rw [← e]; exact hx))]; exact h.r x hx
theorem It.rel1 {t : Int} {sa sb : Sb} (h : It t sa sb) {id : Int} (hne : id % 8 ≠ t) : It t (relS sa id) sb := by
  cases hr : sa.r id with
  | none => rw [relS_none hr]; exact h
  | some c =>
    rw [relS_some hr]
    have hc := h.at_ id c hr
    refine ⟨h.on, ?_, fun x hx => ?_, fun x d hd => h.at_ x d (updO_none hd), h.fifty⟩
    · dsimp only; rw [upd_other _ _ (by omega)]; exact h.fr
    · dsimp only; rw [updO_other _ _ (show x ≠ id from fun e => hne (by rw [← e]; exact hx))]; exact h.r x hx
theorem It.res1 {t : Int} {sa sb : Sb} (h : It t sa sb) {id q : Int} (hne : id % 8 ≠ t) : It t (resS sa id (id % 8) q) sb := by
  by_cases e : resE sa id (id % 8) q = 0
  · rw [resS_ok e]
    refine ⟨h.on, ?_, fun x hx => ?_, fun x d hd => ?_, h.fifty⟩
    · dsimp only; rw [upd_other _ _ (fun e => hne e.symm)]; exact h.fr
    · dsimp only; rw [updO_other _ _ (show x ≠ id from fun e => hne (by rw [← e]; exact hx))]; exact h.r x hx
    · dsimp only at hd
      by_cases ex : x = id
      · subst ex; rw [updO_same] at hd; cases hd; rfl
      · rw [updO_other _ _ ex] at hd; exact h.at_ x d hd
  · rw [resS_no e]; exact h
theorem It.com2 {t : Int} {sa sb : Sb} (h : It t sa sb) {id : Int} (he : id % 8 = t) : It t (comS sa id) (comS sb id) := by
  have e := h.r id he
  cases hr : sa.r id with
  | none => rw [comS_none hr, comS_none (e ▸ hr)]; exact h
  | some c =>
    rw [comS_some hr, comS_some (e ▸ hr)]
    have hc := h.at_ id c hr
    refine ⟨?_, h.fr, fun x hx => ?_, fun x d hd => h.at_ x d (updO_none hd), fun k k0 k1 k2 => ?_⟩
    · dsimp only; rw [show c.1 = t by omega, upd_same, upd_same, h.on]
    · dsimp only
      by_cases ex : x = id
      · subst ex; rw [updO_same, updO_same]
      · rw [updO_other _ _ ex, updO_other _ _ ex]; exact h.r x hx
    · dsimp only; rw [upd_other _ _ (by omega)]; exact h.fifty k k0 k1 k2
theorem It.rel2 {t : Int} {sa sb : Sb} (h : It t sa sb) {id : Int} (he : id % 8 = t) : It t (relS sa id) (relS sb id) := by
  have e := h.r id he
  cases hr : sa.r id with
  | none => rw [relS_none hr, relS_none (e ▸ hr)]; exact h
  | some c =>
    rw [relS_some hr, relS_some (e ▸ hr)]
    have hc := h.at_ id c hr
    refine ⟨h.on, ?_, fun x hx => ?_, fun x d hd => h.at_ x d (updO_none hd), h.fifty⟩
    · dsimp only; rw [show c.1 = t by omega, upd_same, upd_same, h.fr]
    · dsimp only
      by_cases ex : x = id
      · subst ex; rw [updO_same, updO_same]
      · rw [updO_other _ _ ex, updO_other _ _ ex]; exact h.r x hx
theorem It.res2 {t : Int} {sa sb : Sb} (h : It t sa sb) {id q : Int} (he : id % 8 = t) : It t (resS sa id (id % 8) q) (resS sb id (id % 8) q) := by
  have e := h.r id he
  have eE : resE sa id (id % 8) q = resE sb id (id % 8) q := by unfold resE; rw [e, he, h.fr]
  by_cases e0 : resE sa id (id % 8) q = 0
  · rw [resS_ok e0, resS_ok (eE ▸ e0)]
    refine ⟨h.on, ?_, fun x hx => ?_, fun x d hd => ?_, h.fifty⟩
    · dsimp only; rw [he, upd_same, upd_same, h.fr]
    · dsimp only
      by_cases ex : x = id
      · subst ex; rw [updO_same, updO_same]
      · rw [updO_other _ _ ex, updO_other _ _ ex]; exact h.r x hx
    · dsimp only at hd
      by_cases ex : x = id
      · subst ex; rw [updO_same] at hd; cases hd; rfl
      · rw [updO_other _ _ ex] at hd; exact h.at_ x d hd
  · rw [resS_no e0, resS_no (eE ▸ e0)]; exact h
theorem kept_cell {X Y : World} {E : Nat → Obj → Prop} {B i : Nat} {v : Value} (hk : Rg.Kept E X Y) (hn : ∀ o, ¬ E B o) (hc : X.cell? ⟨B, i, none⟩ = some v) : Y.cell? ⟨B, i, none⟩ = some v := by
  have hlt : B < X.heap.size := World.block_lt_of_cell? _ _ hc
  have e : X.heap[B]? = some X.heap[B] := Array.getElem?_eq_getElem hlt
  rw [World.cell?_of_block (a := ⟨B, i, none⟩) ((hk.block _ _ e (hn _)).trans e.symm)]
  exact hc
theorem idx0 (x y : Addr) (W : World) : (Instr.index 48 (.agg #[.pointer (some x), .pointer (some y)]) (.int .i64 0)).run Try.prog W = .ok (.pointer (some x)) W := by kernel_rfl
theorem idx1 (x y : Addr) (W : World) : (Instr.index 48 (.agg #[.pointer (some x), .pointer (some y)]) (.int .i64 1)).run Try.prog W = .ok (.pointer (some y)) W := by kernel_rfl
/-- Four blocks, two books. -/
def Far4 (pa ba pb bb : Nat) : Prop := (pb ≠ pa ∧ pb ≠ ba) ∧ (bb ≠ pa ∧ bb ≠ ba)
theorem Far4.sym {pa ba pb bb : Nat} (h : Far4 pa ba pb bb) : Far4 pb bb pa ba := ⟨⟨h.1.1.symm, h.2.1.symm⟩, ⟨h.1.2.symm, h.2.2.symm⟩⟩
/-- A step on the one book keeps the other one. -/
theorem Sk.far {B n m : Nat} {w w' : World} {pa ba pb bb : Nat} {s : Sb} (k : Sk B w pb bb s n) (hk : Rg.Kept (Own2 pa ba) w w') (h : Far4 pa ba pb bb) (hn : n ≤ m) : Sk B w' pb bb s m :=
  (k.kept hk (fun _ e => e.elim h.1.1 h.1.2) (fun _ e => e.elim h.2.1 h.2.2)).mono hn
def IRel (w : World) (pa ba pb bb : Nat) (t : Int) (len : Nat) (i : Value) (wr : World) : Prop :=
  ∃ (j : Nat) (sa sb : Sb), i = .int .i64 j ∧ j ≤ len ∧ j ≤ 60 ∧ Hid (Sk w.heap.size wr pa ba sa (2 * j)) ∧ Hid (Sk w.heap.size wr pb bb sb (2 * j)) ∧ Hid (It t sa sb) ∧ Hid (Below w.heap.size w wr)
def JRel (w : World) (pa ba pb bb : Nat) (sa sa2 sb sb2 : Sb) (j N : Nat) (d : Int) (i : Value) (vr : World) : Prop :=
  (i = .int .i64 0 ∧ Hid (Sk w.heap.size vr pa ba sa (2 * j) ∧ Sk w.heap.size vr pb bb sb (2 * j) ∧ vr.cell? ⟨N, 0, none⟩ = some (.int .i64 d) ∧ Below w.heap.size w vr)) ∨
  (i = .int .i64 1 ∧ Hid (Sk w.heap.size vr pa ba sa2 (2 * j + 1) ∧ Sk w.heap.size vr pb bb sb (2 * j + 1) ∧ vr.cell? ⟨N, 0, none⟩ = some (.int .i64 d) ∧ Below w.heap.size w vr)) ∨
  (i = .int .i64 2 ∧ Hid (Sk w.heap.size vr pa ba sa2 (2 * j + 2) ∧ Sk w.heap.size vr pb bb sb2 (2 * j + 2) ∧ vr.cell? ⟨N, 0, none⟩ = some (.int .i64 d) ∧ Below w.heap.size w vr))

set_option maxRecDepth 100000 in
set_option maxHeartbeats 4000000 in
theorem stockItems_walk (l0 : List Cl) (a0 : Option Addr) (cap0 : Nat) (a1 : Int) (w : World) (w0 : ClsIn w l0 a0) (_w1 : (Lit.int .i64 a1).wf = true) :
    Calls Try.prog 7 #[.slice a0 l0.length cap0, .int .i64 a1] w fun e w' => e = .returned (.bool true) ∧ Below w.heap.size w w' := by
  obtain ⟨bT1, bT2⟩ := um_bd a1 8 (by omega) (by omega)
  obtain ⟨t, hT⟩ : ∃ t, um a1 8 = t := ⟨_, rfl⟩
  rw [hT] at bT1 bT2
  unfold um at hT
  obtain ⟨hlen, hcl⟩ := w0
  have HCL := hide hcl
  clear hcl
  have HN : Hid (∀ u, Below w.heap.size w u → Calls Try.prog 10 #[.slice (some ⟨u.heap.size, 0, none⟩) 8 8] (u.alloc (.cells #[.int .i64 50, .int .i64 50, .int .i64 50, .int .i64 50, .int .i64 50, .int .i64 50, .int .i64 50, .int .i64 50] 3)) fun e w' => ∃ p b, e = .returned (.pointer (some ⟨p, 0, none⟩)) ∧ Sk u.heap.size w' p b (newS [50, 50, 50, 50, 50, 50, 50, 50]) 0 ∧ Below u.heap.size u w') := fun u hu => snew_on u _ _ (bel_al (Below.refl _ _) _) u.heap.size (ints_50 u) (by simp)
  have HI1 : Hid (It t (newS [50, 50, 50, 50, 50, 50, 50, 50]) (newS [50, 50, 50, 50, 50, 50, 50, 50])) := ⟨rfl, rfl, fun _ _ => rfl, fun x c h => (by cases h), fun k k0 k1 _ => new_50 k0 k1⟩
  obtain ⟨s0, hs0⟩ : ∃ s0, newS [50, 50, 50, 50, 50, 50, 50, 50] = s0 := ⟨_, rfl⟩
  rw [hs0] at HN HI1
  clear hs0
  have N1 := HN.out w (Below.refl _ _)
  go_enter Try.func7, Try.ntmps7
  go_wp2_with (first
    | (go_at_call 10; refine N1.mono ?_; clear N1; rintro e u1 ⟨pa, ba, rfl, k1, hb1⟩; have N2 := HN.out u1 hb1; have HK1 := hide k1; have HB1 := hide hb1; clear k1 hb1)
    | (go_at_call 10; refine N2.mono ?_; clear N2; rintro e u2 ⟨pb, bb, rfl, k2, hb2⟩; have HK2 := hide k2; have HB2 := hide hb2; clear k2 hb2))
  have HF4 : Hid (Far4 pa ba pb bb) := by
    have h1 := HK1.out.1.lt
    have h2 := HK1.out.1.ltb
    have h3 := HK2.out.1.2.1
    have h4 := HK2.out.1.2.2.1
    exact ⟨⟨by omega, by omega⟩, ⟨by omega, by omega⟩⟩
  have HKA : Hid (Sk w.heap.size u2 pa ba s0 0) := HK1.out.on HB2.out
  have HKB : Hid (Sk w.heap.size u2 pb bb s0 0) := by
    obtain ⟨⟨g1, g2, g3, g4⟩, g5⟩ := HK2.out
    have := HB1.out.size
    exact ⟨⟨g1, by omega, by omega, g4⟩, g5⟩
  have HBS : Hid (Below w.heap.size w u2) := bel_on' HB1.out HB2.out
  try rw [hT]
  clear HK1 HK2 HB1 HB2 HN hT
  go_loopw [24] (fun i wr => IRel w pa ba pb bb t l0.length i wr) (fun i _ => l0.length - (Go.RowKit.intOf i).toNat)
  case atStart => exact ⟨0, s0, s0, rfl, Nat.zero_le _, Nat.zero_le _, HKA, HKB, HI1, HBS⟩
  case round =>
    obtain ⟨j, sa, sb, rfl, hj, hj60, HA, HBk, HI, HB⟩ := hrel
    clear HKA HKB HI1 HBS
    have END : Hid (∀ u, Below wr.heap.size wr u → ∃ vO vF, (Calls Try.prog 19 #[.pointer (some ⟨pa, 0, none⟩), .int .i64 t] u fun e w' => e = .returned (.int .i64 vO) ∧ u = w') ∧ (Calls Try.prog 19 #[.pointer (some ⟨pb, 0, none⟩), .int .i64 t] u fun e w' => e = .returned (.int .i64 vO) ∧ u = w') ∧
        (Calls Try.prog 20 #[.pointer (some ⟨pa, 0, none⟩), .int .i64 t] u fun e w' => e = .returned (.int .i64 vF) ∧ u = w') ∧ (Calls Try.prog 20 #[.pointer (some ⟨pb, 0, none⟩), .int .i64 t] u fun e w' => e = .returned (.int .i64 vF) ∧ u = w') ∧
        (Calls Try.prog 19 #[.pointer (some ⟨pb, 0, none⟩), .int .i64 ((t + 1) % 8)] u fun e w' => e = .returned (.int .i64 50) ∧ u = w')) := fun u hu => by
      have ht : isIt t = true := isIt_iff.2 ⟨bT1, bT2⟩
      have ht2 : isIt ((t + 1) % 8) = true := isIt_iff.2 (by omega)
      refine ⟨sa.on t, sa.fr t, on_on (HA.out.on hu) (if_pos ht), on_on (HBk.out.on hu) ((if_pos ht).trans HI.out.on.symm), fr_on (HA.out.on hu) (if_pos ht), fr_on (HBk.out.on hu) ((if_pos ht).trans HI.out.fr.symm), on_on (HBk.out.on hu) ((if_pos ht2).trans (HI.out.fifty _ (by omega) (by omega) (by omega)))⟩
    by_cases hlt : j < l0.length
    · have ql : (j : Int) < (l0.length : Int) := by omega
      obtain ⟨c, hc⟩ : ∃ c, l0[j]? = some c := ⟨l0[j], by simp [hlt]⟩
      rcases HCL.out.below HB.out with h0 | ⟨bc, off, rfl, hca⟩
      · subst h0; simp at hlt
      obtain ⟨⟨c0, c1, c2, c3⟩, hok⟩ := hca j c hc
      obtain ⟨d, id, it, q⟩ := c
      dsimp only at c0 c1 c2 c3 hok
      obtain ⟨U, hU⟩ : ∃ U, U = wr.alloc (.cells #[.int .i64 d, .int .i64 id, .int .i64 it, .int .i64 q] 30) := ⟨_, rfl⟩
      have hbU : Below wr.heap.size wr U := by rw [hU]; exact bel_al (Below.refl _ _) _
      by_cases h60 : j < 60
      · have q60 : ¬ (j : Int) ≥ 60 := by omega
        have HKU := hide (HA.out.on hbU)
        have HKV := hide (HBk.out.on hbU)
        have HBU := hide (bel_on' HB.out hbU)
        have hcu : U.cell? ⟨wr.heap.size, 0, none⟩ = some (.int .i64 d) := by rw [hU]; simp
        have HCU := hide hcu
        clear hcu
        have HNE : Hid ((wr.heap.size ≠ pa ∧ wr.heap.size ≠ ba) ∧ (wr.heap.size ≠ pb ∧ wr.heap.size ≠ bb)) := by
          have h1 := HA.out.1.lt
          have h2 := HA.out.1.ltb
          have h3 := HBk.out.1.lt
          have h4 := HBk.out.1.ltb
          exact ⟨⟨by omega, by omega⟩, ⟨by omega, by omega⟩⟩
        clear hca hc hbU HA HBk hok END
        obtain ⟨bX1, bX2⟩ := um_bd id 20 (by omega) (by omega)
        obtain ⟨X, hX⟩ : ∃ X, um id 20 = X := ⟨_, rfl⟩
        rw [hX] at bX1 bX2
        unfold um at hX
        obtain ⟨bQ1, bQ2⟩ := um_bd q 20 (by omega) (by omega)
        obtain ⟨Q, hQ⟩ : ∃ Q, um q 20 = Q := ⟨_, rfl⟩
        rw [hQ] at bQ1 bQ2
        unfold um at hQ
        have HWX : Hid ((Lit.int .i64 (1 + X)).wf = true) := wf_of (by omega) (by omega)
        by_cases d0 : d = 0
        · subst d0
          by_cases hY : (1 + X) % 8 = t
          · obtain ⟨sa2, hsa2⟩ : ∃ sa2, comS sa (1 + X) = sa2 := ⟨_, rfl⟩
            obtain ⟨sb2, hsb2⟩ : ∃ sb2, comS sb (1 + X) = sb2 := ⟨_, rfl⟩
            have HI2 : Hid (It t sa2 sb2) := by
              rw [← hsa2, ← hsb2]
              exact HI.out.com2 hY
            have q7 : (((1 + X) % 8) != t) = false := by simp [hY]
            have HJ : Hid (JRel w pa ba pb bb sa sa2 sb sb2 j wr.heap.size 0 (.int .i64 0) U) := .inl ⟨rfl, HKU.out, HKV.out, HCU.out, HBU.out⟩
            rw [hU] at HJ
            have HEA := hide hsa2
            have HEB := hide hsb2
            clear HI hY HKU HKV HBU HCU hU hsa2 hsb2
            go_wp2
            obtain ⟨N, hN⟩ : ∃ N, wr.heap.size = N := ⟨_, rfl⟩
            rw [hN] at HJ HNE
            try rw [hN]
            clear hN
            go_loopw [50] (fun i wr => JRel w pa ba pb bb sa sa2 sb sb2 j N 0 i wr) (fun i _ => 2 - (Go.RowKit.intOf i).toNat)
            case atStart => exact HJ.out
            case round =>
              clear HJ
              rcases hrel with ⟨rfl, H0⟩ | ⟨rfl, H1⟩ | ⟨rfl, H2⟩
              · have k0 := H0.out.2.2.1
                have ix := idx0 ⟨pa, 0, none⟩ ⟨pb, 0, none⟩ wr
                have A := (com_any H0.out.1 HWX.out)
                go_wp2_with (go_at_call 12; refine A.mono ?_; clear A; rintro e V ⟨rfl, K2, B2⟩; have HK2 := hide K2; have HB2 := hide B2; clear K2 B2)
                go_roundw
                case rel =>
                  refine .inr (.inl ⟨rfl, ?_⟩)
                  rw [HEA.out] at HK2
                  exact ⟨HK2.out.mono (by omega), H0.out.2.1.far HB2.out HF4.out (by omega), kept_cell HB2.out (fun _ e => e.elim HNE.out.1.1 HNE.out.1.2) H0.out.2.2.1, H0.out.2.2.2.trans (H0.out.1.bel HB2.out)⟩
                case measure => simp [Go.RowKit.intOf]
              · have k0 := H1.out.2.2.1
                have ix := idx1 ⟨pa, 0, none⟩ ⟨pb, 0, none⟩ wr
                have A := (com_any H1.out.2.1 HWX.out)
                go_wp2_with (go_at_call 12; refine A.mono ?_; clear A; rintro e V ⟨rfl, K2, B2⟩; have HK2 := hide K2; have HB2 := hide B2; clear K2 B2)
                go_roundw
                case rel =>
                  refine .inr (.inr ⟨rfl, ?_⟩)
                  rw [HEB.out] at HK2
                  exact ⟨H1.out.1.far HB2.out HF4.out.sym (by omega), HK2.out.mono (by omega), kept_cell HB2.out (fun _ e => e.elim HNE.out.2.1 HNE.out.2.2) H1.out.2.2.1, H1.out.2.2.2.trans (H1.out.2.1.bel HB2.out)⟩
                case measure => simp [Go.RowKit.intOf]
              · go_wp2
                go_roundw
                case rel => exact ⟨j + 1, sa2, sb2, by go_num, by omega, by omega, H2.out.1.mono (by omega), H2.out.2.1.mono (by omega), HI2, H2.out.2.2.2⟩
                case measure => simp [Go.RowKit.intOf]; omega
          · obtain ⟨sa2, hsa2⟩ : ∃ sa2, comS sa (1 + X) = sa2 := ⟨_, rfl⟩
            obtain ⟨sb2, hsb2⟩ : ∃ sb2, sb = sb2 := ⟨_, rfl⟩
            have HI2 : Hid (It t sa2 sb2) := by
              rw [← hsa2, ← hsb2]
              exact HI.out.com1 hY
            have q7 : (((1 + X) % 8) != t) = true := by simp [hY]
            have HJ : Hid (JRel w pa ba pb bb sa sa2 sb sb2 j wr.heap.size 0 (.int .i64 0) U) := .inl ⟨rfl, HKU.out, HKV.out, HCU.out, HBU.out⟩
            rw [hU] at HJ
            have HEA := hide hsa2
            have HEB := hide hsb2
            clear HI hY HKU HKV HBU HCU hU hsa2 hsb2
            go_wp2
            obtain ⟨N, hN⟩ : ∃ N, wr.heap.size = N := ⟨_, rfl⟩
            rw [hN] at HJ HNE
            try rw [hN]
            clear hN
            go_loopw [50] (fun i wr => JRel w pa ba pb bb sa sa2 sb sb2 j N 0 i wr) (fun i _ => 2 - (Go.RowKit.intOf i).toNat)
            case atStart => exact HJ.out
            case round =>
              clear HJ
              rcases hrel with ⟨rfl, H0⟩ | ⟨rfl, H1⟩ | ⟨rfl, H2⟩
              · have k0 := H0.out.2.2.1
                have ix := idx0 ⟨pa, 0, none⟩ ⟨pb, 0, none⟩ wr
                have A := (com_any H0.out.1 HWX.out)
                go_wp2_with (go_at_call 12; refine A.mono ?_; clear A; rintro e V ⟨rfl, K2, B2⟩; have HK2 := hide K2; have HB2 := hide B2; clear K2 B2)
                go_roundw
                case rel =>
                  refine .inr (.inl ⟨rfl, ?_⟩)
                  rw [HEA.out] at HK2
                  exact ⟨HK2.out.mono (by omega), H0.out.2.1.far HB2.out HF4.out (by omega), kept_cell HB2.out (fun _ e => e.elim HNE.out.1.1 HNE.out.1.2) H0.out.2.2.1, H0.out.2.2.2.trans (H0.out.1.bel HB2.out)⟩
                case measure => simp [Go.RowKit.intOf]
              · have ix := idx1 ⟨pa, 0, none⟩ ⟨pb, 0, none⟩ wr
                go_wp2
                go_roundw
                case rel =>
                  refine .inr (.inr ⟨rfl, ?_⟩)
                  rw [← HEB.out]
                  exact ⟨H1.out.1.mono (by omega), H1.out.2.1.mono (by omega), H1.out.2.2.1, H1.out.2.2.2⟩
                case measure => simp [Go.RowKit.intOf]
              · go_wp2
                go_roundw
                case rel => exact ⟨j + 1, sa2, sb2, by go_num, by omega, by omega, H2.out.1.mono (by omega), H2.out.2.1.mono (by omega), HI2, H2.out.2.2.2⟩
                case measure => simp [Go.RowKit.intOf]; omega
        · by_cases d1 : d = 1
          · subst d1
            by_cases hY : (1 + X) % 8 = t
            · obtain ⟨sa2, hsa2⟩ : ∃ sa2, relS sa (1 + X) = sa2 := ⟨_, rfl⟩
              obtain ⟨sb2, hsb2⟩ : ∃ sb2, relS sb (1 + X) = sb2 := ⟨_, rfl⟩
              have HI2 : Hid (It t sa2 sb2) := by
                rw [← hsa2, ← hsb2]
                exact HI.out.rel2 hY
              have q7 : (((1 + X) % 8) != t) = false := by simp [hY]
              have HJ : Hid (JRel w pa ba pb bb sa sa2 sb sb2 j wr.heap.size 1 (.int .i64 0) U) := .inl ⟨rfl, HKU.out, HKV.out, HCU.out, HBU.out⟩
              rw [hU] at HJ
              have HEA := hide hsa2
              have HEB := hide hsb2
              clear HI hY HKU HKV HBU HCU hU hsa2 hsb2
              go_wp2
              obtain ⟨N, hN⟩ : ∃ N, wr.heap.size = N := ⟨_, rfl⟩
              rw [hN] at HJ HNE
              try rw [hN]
              clear hN
              go_loopw [50] (fun i wr => JRel w pa ba pb bb sa sa2 sb sb2 j N 1 i wr) (fun i _ => 2 - (Go.RowKit.intOf i).toNat)
              case atStart => exact HJ.out
              case round =>
                clear HJ
                rcases hrel with ⟨rfl, H0⟩ | ⟨rfl, H1⟩ | ⟨rfl, H2⟩
                · have k0 := H0.out.2.2.1
                  have ix := idx0 ⟨pa, 0, none⟩ ⟨pb, 0, none⟩ wr
                  have A := (rel_any H0.out.1 HWX.out)
                  go_wp2_with (go_at_call 14; refine A.mono ?_; clear A; rintro e V ⟨rfl, K2, B2⟩; have HK2 := hide K2; have HB2 := hide B2; clear K2 B2)
                  go_roundw
                  case rel =>
                    refine .inr (.inl ⟨rfl, ?_⟩)
                    rw [HEA.out] at HK2
                    exact ⟨HK2.out.mono (by omega), H0.out.2.1.far HB2.out HF4.out (by omega), kept_cell HB2.out (fun _ e => e.elim HNE.out.1.1 HNE.out.1.2) H0.out.2.2.1, H0.out.2.2.2.trans (H0.out.1.bel HB2.out)⟩
                  case measure => simp [Go.RowKit.intOf]
                · have k0 := H1.out.2.2.1
                  have ix := idx1 ⟨pa, 0, none⟩ ⟨pb, 0, none⟩ wr
                  have A := (rel_any H1.out.2.1 HWX.out)
                  go_wp2_with (go_at_call 14; refine A.mono ?_; clear A; rintro e V ⟨rfl, K2, B2⟩; have HK2 := hide K2; have HB2 := hide B2; clear K2 B2)
                  go_roundw
                  case rel =>
                    refine .inr (.inr ⟨rfl, ?_⟩)
                    rw [HEB.out] at HK2
                    exact ⟨H1.out.1.far HB2.out HF4.out.sym (by omega), HK2.out.mono (by omega), kept_cell HB2.out (fun _ e => e.elim HNE.out.2.1 HNE.out.2.2) H1.out.2.2.1, H1.out.2.2.2.trans (H1.out.2.1.bel HB2.out)⟩
                  case measure => simp [Go.RowKit.intOf]
                · go_wp2
                  go_roundw
                  case rel => exact ⟨j + 1, sa2, sb2, by go_num, by omega, by omega, H2.out.1.mono (by omega), H2.out.2.1.mono (by omega), HI2, H2.out.2.2.2⟩
                  case measure => simp [Go.RowKit.intOf]; omega
            · obtain ⟨sa2, hsa2⟩ : ∃ sa2, relS sa (1 + X) = sa2 := ⟨_, rfl⟩
              obtain ⟨sb2, hsb2⟩ : ∃ sb2, sb = sb2 := ⟨_, rfl⟩
              have HI2 : Hid (It t sa2 sb2) := by
                rw [← hsa2, ← hsb2]
                exact HI.out.rel1 hY
              have q7 : (((1 + X) % 8) != t) = true := by simp [hY]
              have HJ : Hid (JRel w pa ba pb bb sa sa2 sb sb2 j wr.heap.size 1 (.int .i64 0) U) := .inl ⟨rfl, HKU.out, HKV.out, HCU.out, HBU.out⟩
              rw [hU] at HJ
              have HEA := hide hsa2
              have HEB := hide hsb2
              clear HI hY HKU HKV HBU HCU hU hsa2 hsb2
              go_wp2
              obtain ⟨N, hN⟩ : ∃ N, wr.heap.size = N := ⟨_, rfl⟩
              rw [hN] at HJ HNE
              try rw [hN]
              clear hN
              go_loopw [50] (fun i wr => JRel w pa ba pb bb sa sa2 sb sb2 j N 1 i wr) (fun i _ => 2 - (Go.RowKit.intOf i).toNat)
              case atStart => exact HJ.out
              case round =>
                clear HJ
                rcases hrel with ⟨rfl, H0⟩ | ⟨rfl, H1⟩ | ⟨rfl, H2⟩
                · have k0 := H0.out.2.2.1
                  have ix := idx0 ⟨pa, 0, none⟩ ⟨pb, 0, none⟩ wr
                  have A := (rel_any H0.out.1 HWX.out)
                  go_wp2_with (go_at_call 14; refine A.mono ?_; clear A; rintro e V ⟨rfl, K2, B2⟩; have HK2 := hide K2; have HB2 := hide B2; clear K2 B2)
                  go_roundw
                  case rel =>
                    refine .inr (.inl ⟨rfl, ?_⟩)
                    rw [HEA.out] at HK2
                    exact ⟨HK2.out.mono (by omega), H0.out.2.1.far HB2.out HF4.out (by omega), kept_cell HB2.out (fun _ e => e.elim HNE.out.1.1 HNE.out.1.2) H0.out.2.2.1, H0.out.2.2.2.trans (H0.out.1.bel HB2.out)⟩
                  case measure => simp [Go.RowKit.intOf]
                · have ix := idx1 ⟨pa, 0, none⟩ ⟨pb, 0, none⟩ wr
                  go_wp2
                  go_roundw
                  case rel =>
                    refine .inr (.inr ⟨rfl, ?_⟩)
                    rw [← HEB.out]
                    exact ⟨H1.out.1.mono (by omega), H1.out.2.1.mono (by omega), H1.out.2.2.1, H1.out.2.2.2⟩
                  case measure => simp [Go.RowKit.intOf]
                · go_wp2
                  go_roundw
                  case rel => exact ⟨j + 1, sa2, sb2, by go_num, by omega, by omega, H2.out.1.mono (by omega), H2.out.2.1.mono (by omega), HI2, H2.out.2.2.2⟩
                  case measure => simp [Go.RowKit.intOf]; omega
          · have e0 : (d == 0) = false := by simp [d0]
            have e1 : (d == 1) = false := by simp [d1]
            clear d0 d1
            by_cases hY : (1 + X) % 8 = t
            · obtain ⟨sa2, hsa2⟩ : ∃ sa2, resS sa (1 + X) ((1 + X) % 8) (1 + Q) = sa2 := ⟨_, rfl⟩
              obtain ⟨sb2, hsb2⟩ : ∃ sb2, resS sb (1 + X) ((1 + X) % 8) (1 + Q) = sb2 := ⟨_, rfl⟩
              have HI2 : Hid (It t sa2 sb2) := by
                rw [← hsa2, ← hsb2]
                exact HI.out.res2 hY
              have q7 : (((1 + X) % 8) != t) = false := by simp [hY]
              have HJ : Hid (JRel w pa ba pb bb sa sa2 sb sb2 j wr.heap.size d (.int .i64 0) U) := .inl ⟨rfl, HKU.out, HKV.out, HCU.out, HBU.out⟩
              rw [hU] at HJ
              have HEA := hide hsa2
              have HEB := hide hsb2
              clear HI hY HKU HKV HBU HCU hU hsa2 hsb2
              go_wp2
              obtain ⟨N, hN⟩ : ∃ N, wr.heap.size = N := ⟨_, rfl⟩
              rw [hN] at HJ HNE
              try rw [hN]
              clear hN
              go_loopw [50] (fun i wr => JRel w pa ba pb bb sa sa2 sb sb2 j N d i wr) (fun i _ => 2 - (Go.RowKit.intOf i).toNat)
              case atStart => exact HJ.out
              case round =>
                clear HJ
                rcases hrel with ⟨rfl, H0⟩ | ⟨rfl, H1⟩ | ⟨rfl, H2⟩
                · have k0 := H0.out.2.2.1
                  have ix := idx0 ⟨pa, 0, none⟩ ⟨pb, 0, none⟩ wr
                  have A := (res_any H0.out.1 HWX.out ((1 + X) % 8) (1 + Q) (by omega))
                  go_wp2_with (go_at_call 16; refine A.mono ?_; clear A; rintro e V ⟨rfl, K2, B2⟩; have HK2 := hide K2; have HB2 := hide B2; clear K2 B2)
                  go_roundw
                  case rel =>
                    refine .inr (.inl ⟨rfl, ?_⟩)
                    rw [HEA.out] at HK2
                    exact ⟨HK2.out.mono (by omega), H0.out.2.1.far HB2.out HF4.out (by omega), kept_cell HB2.out (fun _ e => e.elim HNE.out.1.1 HNE.out.1.2) H0.out.2.2.1, H0.out.2.2.2.trans (H0.out.1.bel HB2.out)⟩
                  case measure => simp [Go.RowKit.intOf]
                · have k0 := H1.out.2.2.1
                  have ix := idx1 ⟨pa, 0, none⟩ ⟨pb, 0, none⟩ wr
                  have A := (res_any H1.out.2.1 HWX.out ((1 + X) % 8) (1 + Q) (by omega))
                  go_wp2_with (go_at_call 16; refine A.mono ?_; clear A; rintro e V ⟨rfl, K2, B2⟩; have HK2 := hide K2; have HB2 := hide B2; clear K2 B2)
                  go_roundw
                  case rel =>
                    refine .inr (.inr ⟨rfl, ?_⟩)
                    rw [HEB.out] at HK2
                    exact ⟨H1.out.1.far HB2.out HF4.out.sym (by omega), HK2.out.mono (by omega), kept_cell HB2.out (fun _ e => e.elim HNE.out.2.1 HNE.out.2.2) H1.out.2.2.1, H1.out.2.2.2.trans (H1.out.2.1.bel HB2.out)⟩
                  case measure => simp [Go.RowKit.intOf]
                · go_wp2
                  go_roundw
                  case rel => exact ⟨j + 1, sa2, sb2, by go_num, by omega, by omega, H2.out.1.mono (by omega), H2.out.2.1.mono (by omega), HI2, H2.out.2.2.2⟩
                  case measure => simp [Go.RowKit.intOf]; omega
            · obtain ⟨sa2, hsa2⟩ : ∃ sa2, resS sa (1 + X) ((1 + X) % 8) (1 + Q) = sa2 := ⟨_, rfl⟩
              obtain ⟨sb2, hsb2⟩ : ∃ sb2, sb = sb2 := ⟨_, rfl⟩
              have HI2 : Hid (It t sa2 sb2) := by
                rw [← hsa2, ← hsb2]
                exact HI.out.res1 hY
              have q7 : (((1 + X) % 8) != t) = true := by simp [hY]
              have HJ : Hid (JRel w pa ba pb bb sa sa2 sb sb2 j wr.heap.size d (.int .i64 0) U) := .inl ⟨rfl, HKU.out, HKV.out, HCU.out, HBU.out⟩
              rw [hU] at HJ
              have HEA := hide hsa2
              have HEB := hide hsb2
              clear HI hY HKU HKV HBU HCU hU hsa2 hsb2
              go_wp2
              obtain ⟨N, hN⟩ : ∃ N, wr.heap.size = N := ⟨_, rfl⟩
              rw [hN] at HJ HNE
              try rw [hN]
              clear hN
              go_loopw [50] (fun i wr => JRel w pa ba pb bb sa sa2 sb sb2 j N d i wr) (fun i _ => 2 - (Go.RowKit.intOf i).toNat)
              case atStart => exact HJ.out
              case round =>
                clear HJ
                rcases hrel with ⟨rfl, H0⟩ | ⟨rfl, H1⟩ | ⟨rfl, H2⟩
                · have k0 := H0.out.2.2.1
                  have ix := idx0 ⟨pa, 0, none⟩ ⟨pb, 0, none⟩ wr
                  have A := (res_any H0.out.1 HWX.out ((1 + X) % 8) (1 + Q) (by omega))
                  go_wp2_with (go_at_call 16; refine A.mono ?_; clear A; rintro e V ⟨rfl, K2, B2⟩; have HK2 := hide K2; have HB2 := hide B2; clear K2 B2)
                  go_roundw
                  case rel =>
                    refine .inr (.inl ⟨rfl, ?_⟩)
                    rw [HEA.out] at HK2
                    exact ⟨HK2.out.mono (by omega), H0.out.2.1.far HB2.out HF4.out (by omega), kept_cell HB2.out (fun _ e => e.elim HNE.out.1.1 HNE.out.1.2) H0.out.2.2.1, H0.out.2.2.2.trans (H0.out.1.bel HB2.out)⟩
                  case measure => simp [Go.RowKit.intOf]
                · have ix := idx1 ⟨pa, 0, none⟩ ⟨pb, 0, none⟩ wr
                  go_wp2
                  go_roundw
                  case rel =>
                    refine .inr (.inr ⟨rfl, ?_⟩)
                    rw [← HEB.out]
                    exact ⟨H1.out.1.mono (by omega), H1.out.2.1.mono (by omega), H1.out.2.2.1, H1.out.2.2.2⟩
                  case measure => simp [Go.RowKit.intOf]
                · go_wp2
                  go_roundw
                  case rel => exact ⟨j + 1, sa2, sb2, by go_num, by omega, by omega, H2.out.1.mono (by omega), H2.out.2.1.mono (by omega), HI2, H2.out.2.2.2⟩
                  case measure => simp [Go.RowKit.intOf]; omega
      · have q60 : (j : Int) ≥ 60 := by omega
        have HBU := hide (bel_on' HB.out hbU)
        obtain ⟨vO, vF, oa, ob, fa, fb, oc⟩ := END.out U hbU
        have HAW := hide (sawake_any U)
        rw [hU] at oa ob fa fb oc HAW HBU
        clear hca hc hok END hU hbU
        go_wp2_with (first
          | (go_at_call 19; refine oa.mono ?_; clear oa; rintro e u ⟨rfl, rfl⟩)
          | (go_at_call 19; refine ob.mono ?_; clear ob; rintro e u ⟨rfl, rfl⟩)
          | (go_at_call 20; refine fa.mono ?_; clear fa; rintro e u ⟨rfl, rfl⟩)
          | (go_at_call 20; refine fb.mono ?_; clear fb; rintro e u ⟨rfl, rfl⟩)
          | (go_at_call 19; refine oc.mono ?_; clear oc; rintro e u ⟨rfl, rfl⟩)
          | (go_at_call 9; refine HAW.out.mono ?_; rintro e u ⟨rfl, b3⟩))
        go_ret
        exact ⟨rfl, bel_on' HBU.out b3⟩
    · have ql : ¬ (j : Int) < (l0.length : Int) := by omega
      obtain ⟨vO, vF, oa, ob, fa, fb, oc⟩ := END.out wr (Below.refl _ _)
      have HAW := hide (sawake_any wr)
      clear END
      go_wp2_with (first
        | (go_at_call 19; refine oa.mono ?_; clear oa; rintro e u ⟨rfl, rfl⟩)
        | (go_at_call 19; refine ob.mono ?_; clear ob; rintro e u ⟨rfl, rfl⟩)
        | (go_at_call 20; refine fa.mono ?_; clear fa; rintro e u ⟨rfl, rfl⟩)
        | (go_at_call 20; refine fb.mono ?_; clear fb; rintro e u ⟨rfl, rfl⟩)
        | (go_at_call 19; refine oc.mono ?_; clear oc; rintro e u ⟨rfl, rfl⟩)
        | (go_at_call 9; refine HAW.out.mono ?_; rintro e u ⟨rfl, b3⟩))
      go_ret
      exact ⟨rfl, bel_on' HB.out b3⟩
end Go.Proofs.Ytkdonlhdjgpjiaa
