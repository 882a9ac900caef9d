/-
  StockPlays's walk.
-/
import Derived.Test.YtkdonlhdjgpjiaaSckA
import Derived.Test.YtkdonlhdjgpjiaaSckD
import Derived.Test.YtkdonlhdjgpjiaaSckQ
import Derived.Test.YtkdonlhdjgpjiaaSckP
import Derived.Deep.RegionHeld3
import Derived.Deep.QuietTactic
import Derived.BigQuiet
namespace Go.Proofs.Ytkdonlhdjgpjiaa
open Go.ChangeShapes Go.WideShapes Go.ChangeAt Go.RowKit Go.Maps

theorem IsRow.caps {w : World} {a : Option Addr} {len cap : Nat} {zs : List Int} (h : IsRow .i64 w a len cap zs) : len ≤ cap := by
  rcases h with ⟨_, h1, h2, _⟩ | ⟨x, rfl, h1, _⟩
  · omega
  · omega
theorem kept_cell {X Y : World} {E : Nat → Obj → Prop} {B i : Nat} {v : Value} (hk : Rg.Kept E X Y) (hn : ∀ o, ¬ E B o) (hc : X.cell? ⟨B, i, none⟩ = some v) : Y.cell? ⟨B, i, none⟩ = some v := by
  have hlt : B < X.heap.size := World.block_lt_of_cell? _ _ hc
  have e : X.heap[B]? = some X.heap[B] := Array.getElem?_eq_getElem hlt
  rw [World.cell?_of_block (a := ⟨B, i, none⟩) ((hk.block _ _ e (hn _)).trans e.symm)]
  exact hc
/-- Four blocks, two books. -/
def Far4 (pa ba pb bb : Nat) : Prop := (pb ≠ pa ∧ pb ≠ ba) ∧ (bb ≠ pa ∧ bb ≠ ba)
/-- A step on the reference's book keeps the book. -/
theorem Sk.far {B n : Nat} {w w' : World} {p b q c : Nat} {s : Sb} (k : Sk B w p b s n) (hk : Rg.Kept (Own2 q c) w w') (h : Far4 p b q c) : Sk B w' p b s n :=
  k.kept hk (fun _ e => e.elim (fun e => h.1.1 e.symm) (fun e => h.2.1 e.symm)) (fun _ e => e.elim (fun e => h.1.2 e.symm) (fun e => h.2.2 e.symm))
theorem Rs.far {B n : Nat} {w w' : World} {p b q c : Nat} {on : Int → Int} {r : Int → Option (Int × Int)} (k : Rs B w q c on r n) (hk : Rg.Kept (Own2 p b) w w') (h : Far4 p b q c) : Rs B w' q c on r n :=
  k.kept hk (fun _ e => e.elim h.1.1 h.1.2) (fun _ e => e.elim h.2.1 h.2.2)
section
variable {B : Nat} {w : World} {p b : Nat} {s : Sb} {n : Nat} {id : Int}
theorem com_more (k : Sk B w p b s n) (hw : (Lit.int .i64 id).wf = true) :
    Calls Try.prog 12 #[.pointer (some ⟨p, 0, none⟩), .int .i64 id] w fun e w' => e = .returned (.int .i64 (unE s id)) ∧ Sk B w' p b (comS s id) (n + 1) ∧ Rg.Kept (Own2 p b) w w' :=
  (com_any k hw).mono (fun _ _ ⟨h1, h2, h3⟩ => ⟨h1, h2.mono (Nat.le_succ _), h3⟩)
theorem rel_more (k : Sk B w p b s n) (hw : (Lit.int .i64 id).wf = true) :
    Calls Try.prog 14 #[.pointer (some ⟨p, 0, none⟩), .int .i64 id] w fun e w' => e = .returned (.int .i64 (unE s id)) ∧ Sk B w' p b (relS s id) (n + 1) ∧ Rg.Kept (Own2 p b) w w' :=
  (rel_any k hw).mono (fun _ _ ⟨h1, h2, h3⟩ => ⟨h1, h2.mono (Nat.le_succ _), h3⟩)
theorem rcom_more (k : Rs B w p b s.on s.r n) (g : GoodS s) (hw : (Lit.int .i64 id).wf = true) :
    Calls Try.prog 13 #[.pointer (some ⟨p, 0, none⟩), .int .i64 id] w fun e w' => e = .returned (.int .i64 (unE s id)) ∧ Rs B w' p b (comS s id).on (comS s id).r (n + 1) ∧ Rg.Kept (Own2 p b) w w' :=
  (rcom_any k g hw).mono (fun _ _ ⟨h1, h2, h3⟩ => ⟨h1, h2.mono (Nat.le_succ _), h3⟩)
theorem rrel_more (k : Rs B w p b s.on s.r n) (g : GoodS s) (hw : (Lit.int .i64 id).wf = true) :
    Calls Try.prog 15 #[.pointer (some ⟨p, 0, none⟩), .int .i64 id] w fun e w' => e = .returned (.int .i64 (unE s id)) ∧ Rs B w' p b (relS s id).on (relS s id).r (n + 1) ∧ Rg.Kept (Own2 p b) w w' :=
  (rrel_any k g hw).mono (fun _ _ ⟨h1, h2, h3⟩ => ⟨h1, h2.mono (Nat.le_succ _), h3⟩)
end
def PRel (w : World) (p b q c : Nat) (len : Nat) (i : Value) (wr : World) : Prop :=
  ∃ (j : Nat) (s : Sb), i = .int .i64 j ∧ j ≤ len ∧ j ≤ 100 ∧ Hid (Sk w.heap.size wr p b s j) ∧ Hid (Rs w.heap.size wr q c s.on s.r j) ∧ Hid (Below w.heap.size w wr)

set_option maxRecDepth 100000 in
set_option maxHeartbeats 8000000 in
theorem stockPlays_walk (a0 : Option Addr) (len0 cap0 : Nat) (z0 : List Int) (l1 : List Cl) (a1 : Option Addr) (cap1 : Nat) (w : World) (w0 : IsRow .i64 w a0 len0 cap0 z0) (w1 : ClsIn w l1 a1) :
    Calls Try.prog 3 #[.slice a0 len0 cap0, .slice a1 l1.length cap1] w fun e w' => e = .returned (.bool true) ∧ Below w.heap.size w w' := by
  have hcap := w0.caps
  have hnil := fun e => (w0.nils e).2
  obtain ⟨l0, rfl, hmx, hI⟩ := w0.ints
  clear w0
  by_cases h50 : ¬ (l0.length : Int) > 50
  · obtain ⟨hlen, hcl⟩ := w1
    have HCL := hide hcl
    clear hcl
    have N1 := snew_any a0 l0 cap0 w hI hcap hmx hnil
    have HN2 : Hid (∀ u, Below w.heap.size w u → Calls Try.prog 11 #[.slice a0 l0.length cap0] u fun e w' => ∃ p b, e = .returned (.pointer (some ⟨p, 0, none⟩)) ∧ Rs u.heap.size w' p b (newS l0).on (newS l0).r 0 ∧ Below u.heap.size u w') := fun u hu => rnews_any a0 l0 cap0 u (hI.below hu) hmx
    obtain ⟨s0, hs0⟩ : ∃ s0, newS l0 = s0 := ⟨_, rfl⟩
    rw [hs0] at N1 HN2
    clear hs0 hI hcap hnil
    go_enter Try.func3, Try.ntmps3
    go_wp2_with (first
      | (go_at_call 10; refine N1.mono ?_; clear N1; rintro e u1 ⟨p, b, rfl, k1, hb1⟩; have N2 := HN2.out u1 hb1; have HK1 := hide k1; have HB1 := hide hb1; clear k1 hb1)
      | (go_at_call 11; refine N2.mono ?_; clear N2; rintro e u2 ⟨q, cc, rfl, k2, hb2⟩; have HR1 := hide k2; have HB2 := hide hb2; clear k2 hb2))
    have HF4 : Hid (Far4 p b q cc) := by
      have h1 := HK1.out.1.lt
      have h2 := HK1.out.1.ltb
      have h3 := HR1.out.2.1
      have h4 := HR1.out.2.2.1
      exact ⟨⟨by omega, by omega⟩, ⟨by omega, by omega⟩⟩
    have HKS : Hid (Sk w.heap.size u2 p b s0 0) := HK1.out.on HB2.out
    have HRS : Hid (Rs w.heap.size u2 q cc s0.on s0.r 0) := by
      obtain ⟨g1, g2, g3, g4⟩ := HR1.out
      have := HB1.out.size
      exact ⟨g1, by omega, by omega, g4⟩
    have HBS : Hid (Below w.heap.size w u2) := bel_on' HB1.out HB2.out
    clear HK1 HB1 HR1 HB2 HN2
    go_loopw [27] (fun i wr => PRel w p b q cc l1.length i wr) (fun i _ => l1.length - (Go.RowKit.intOf i).toNat)
    case atStart => exact ⟨0, s0, rfl, Nat.zero_le _, Nat.zero_le _, HKS, HRS, HBS⟩
    case round =>
      obtain ⟨j, s, rfl, hj, hj100, HK, HR, HB⟩ := hrel
      clear HKS HRS HBS
      by_cases hlt : j < l1.length
      · have ql : (j : Int) < (l1.length : Int) := by omega
        obtain ⟨c, hc⟩ : ∃ c, l1[j]? = some c := ⟨l1[j], by simp [hlt]⟩
        rcases HCL.out.below HB.out with h0 | ⟨bc, off, rfl, hca⟩
        · subst h0; simp at hlt
        obtain ⟨⟨c0, c1, c2, c3⟩, hok⟩ := hca j c hc
        obtain ⟨d, id, it, qt⟩ := c
        dsimp only at c0 c1 c2 c3 hok
        obtain ⟨U, hU⟩ : ∃ U, U = wr.alloc (.cells #[.int .i64 d, .int .i64 id, .int .i64 it, .int .i64 qt] 30) := ⟨_, rfl⟩
        have hbU : Below wr.heap.size wr U := by rw [hU]; exact bel_al (Below.refl _ _) _
        have HBU := hide (bel_on' HB.out hbU)
        by_cases h100 : j < 100
        · have q100 : ¬ (j : Int) ≥ 100 := by omega
          have HKU := hide (HK.out.on hbU)
          have HRU := hide (HR.out.on_ hbU)
          have hwi := hok.2.1
          have HNE : Hid ((wr.heap.size ≠ p ∧ wr.heap.size ≠ b) ∧ (wr.heap.size ≠ q ∧ wr.heap.size ≠ cc)) := by
            have h1 := HK.out.1.lt
            have h2 := HK.out.1.ltb
            have h3 := HR.out.lt
            have h4 := HR.out.ltb
            exact ⟨⟨by omega, by omega⟩, ⟨by omega, by omega⟩⟩
          clear hca hc hbU HK HR hok
          have HG := hide HKU.out.good
          have hbD : Below U.heap.size U U.drew := (Below.refl _ _).drew
          have HKD := hide (HKU.out.on hbD)
          have HRD := hide (HRU.out.on_ hbD)
          have HBD := hide (bel_on' HBU.out hbD)
          have k1 : U.cell? ⟨wr.heap.size, 1, none⟩ = some (.int .i64 id) := by rw [hU]; simp
          have k2 : U.cell? ⟨wr.heap.size, 2, none⟩ = some (.int .i64 it) := by rw [hU]; simp
          have k3 : U.cell? ⟨wr.heap.size, 3, none⟩ = some (.int .i64 qt) := by rw [hU]; simp
          have HUW := hide hU
          have HWI := hide hwi
          clear HKU HRU hU hwi
          by_cases d0 : d = 0
          · subst d0
            clear k2 k3
            have A := (com_more HKD.out HWI.out)
            obtain ⟨E2, hE2⟩ : ∃ E2, unE s id = E2 := ⟨_, rfl⟩
            obtain ⟨s2, hs2⟩ : ∃ s2, comS s id = s2 := ⟨_, rfl⟩
            rw [hE2, hs2] at A
            have NA : Hid (∀ u, Rg.Kept (Own2 p b) U.drew u → u.cell? ⟨wr.heap.size, 1, none⟩ = some (.int .i64 id) ∧ Rs w.heap.size u q cc s.on s.r j ∧ Below w.heap.size w u ∧
                Calls Try.prog 13 #[.pointer (some ⟨q, 0, none⟩), .int .i64 id] u fun e w' => e = .returned (.int .i64 E2) ∧ Rs w.heap.size w' q cc s2.on s2.r (j + 1) ∧ Rg.Kept (Own2 q cc) u w') := fun u ho => by
              have h1 := HRD.out.far ho HF4.out
              have h4 := rcom_more h1 HG.out HWI.out
              rw [hE2, hs2] at h4
              have hn : ∀ o, ¬ Own2 p b wr.heap.size o := fun _ e => e.elim HNE.out.1.1 HNE.out.1.2
              exact ⟨kept_cell ho hn (cellL k1 hbD), h1, HBD.out.trans (HKD.out.bel ho), h4⟩
            have NB : Hid (∀ u u', Sk w.heap.size u p b s2 (j + 1) → Rs w.heap.size u q cc s.on s.r j → u.cell? ⟨wr.heap.size, 1, none⟩ = some (.int .i64 id) → Rg.Kept (Own2 q cc) u u' → (u'.cell? ⟨wr.heap.size, 1, none⟩ = some (.int .i64 id) ∧ Sk w.heap.size u' p b s2 (j + 1) ∧ Below w.heap.size u u')) := fun u u' x1 x2 x3 ho => by
              have hn : ∀ o, ¬ Own2 q cc wr.heap.size o := fun _ e => e.elim HNE.out.2.1 HNE.out.2.2
              exact ⟨kept_cell ho hn x3, x1.far ho HF4.out, x2.bel ho⟩
            clear hE2 hs2 hbD
            go_wp2_with fail
            rw [← HUW.out]
            go_region_held3 (fun w' => w'.cell? ⟨wr.heap.size, 1, none⟩ = some (.int .i64 id)) (go_keep) (first
              | (go_at_call 12; refine A.mono ?_; clear A; rintro e u3 ⟨rfl, hk3, ho3⟩; clear k1; obtain ⟨k1, hr3, hb3, A4⟩ := NA.out u3 ho3; have HK3 := hide hk3; have HR3 := hide hr3; have HB3 := hide hb3; have K12 := hide k1; clear hk3 hr3 hb3 ho3)
              | (go_at_call 13; refine A4.mono ?_; clear A4; rintro e u4 ⟨rfl, hr4, ho4⟩; clear k1; obtain ⟨k1, hk4, hb4⟩ := NB.out u3 u4 HK3.out HR3.out K12.out ho4; have HK4 := hide hk4; have HR4 := hide hr4; have HB4 := hide (HB3.out.trans hb4); clear hk4 hr4 ho4 hb4))
            have qE : (E2 == E2) = true := by simp
            clear NA NB

            have K1 := hide k1
            have HA := shas_any HK4.out HWI.out
            clear HKD HRD HBD HG HR3 HK3 HB3 K12 HBU
            cases hr : s2.r id with
            | none =>
              have hcAt := claimAt
              have hcN := claimN
              rw [hr] at HA
              dsimp only [Option.getD, Option.isSome] at HA
              have H5 : Hid (∀ u, Below u4.heap.size u4 u → u.cell? ⟨wr.heap.size, 1, none⟩ = some (.int .i64 id) ∧ u.cell? ⟨q, 8, none⟩ = some (.map (some cc)) ∧ ∀ n, (Instr.lookup 39 (.map (some cc)) (.int .i64 id) false).run Try.prog (u.drewN n) = .ok (.agg #[.int .i64 0, .int .i64 0]) (u.drewN n)) := fun u hu => by
                refine ⟨cellL K1.out hu, (HR4.out.on_ hu).cellM, fun n => ?_⟩
                have := (HR4.out.on_ (below_drewN hu n)).look HWI.out
                rw [hr] at this
                exact this
              clear hr
              go_wp2_with (first
                | (go_at_call 18; refine HA.mono ?_; clear HA; rintro e u5 ⟨rfl, hb5⟩; obtain ⟨g1, g8, hl5⟩ := H5.out u5 hb5; have HB5 := hide hb5; clear hb5))
              go_quiet (fail)
              go_wp2
              clear hl5 hcAt hcN g1 g8
              have HG4 := hide HK4.out.good
              go_loopw [13] (fun kv vr => ∃ m : Nat, m ≤ 10 ∧ kv = .int .i64 ((m : Int) - 1) ∧ Hid (Below u4.heap.size u4 vr)) (fun kv _ => (9 - Go.RowKit.intOf kv).toNat)
              case atStart => exact ⟨0, Nat.zero_le _, rfl, by first | exact HB5.out | exact HB5.out.drew | exact below_drewN HB5.out _⟩
              case round =>
                obtain ⟨m, hm, rfl, HBV⟩ := hrel
                clear HB5 H5
                obtain ⟨K, hK⟩ : ∃ K : Int, (m : Int) - 1 = K := ⟨_, rfl⟩
                have bK1 : -1 ≤ K := by omega
                have bK2 : K ≤ 9 := by omega
                have HM : Hid ((m : Int) = K + 1) := by show _ = _; omega
                rw [hK]
                clear hK
                have O := onhand_any (HK4.out.on HBV.out) K
                have F := free_any (HK4.out.on HBV.out) K
                have RF := rfree_any (HR4.out.on_ HBV.out) HG4.out K
                by_cases h9 : K ≤ 8
                · obtain ⟨v, hv⟩ : ∃ v, onV s2 K = v := ⟨_, rfl⟩
                  obtain ⟨f, hf⟩ : ∃ f, frV s2 K = f := ⟨_, rfl⟩
                  rw [hv] at O
                  rw [hf] at F RF
                  have qv : (v != v) = false := by simp
                  have qf : (f != f) = false := by simp
                  by_cases hin : isIt K = true
                  · obtain ⟨g1, g2⟩ := isIt_iff.1 hin
                    obtain ⟨i, rfl⟩ : ∃ i : Nat, K = i := ⟨K.toNat, by omega⟩
                    have ci := (HR4.out.on_ HBV.out).cellOn (i := i) (by omega)
                    have hv2 : s2.on i = v := (if_pos hin).symm.trans hv
                    rw [hv2] at ci
                    clear hv hv2 hf hin
                    go_wp2_with (first
                      | (go_at_call 19; refine O.mono ?_; clear O; rintro e u ⟨rfl, rfl⟩)
                      | (go_at_call 20; refine F.mono ?_; clear F; rintro e u ⟨rfl, rfl⟩)
                      | (go_at_call 21; refine RF.mono ?_; clear RF; rintro e u6 ⟨rfl, hb6⟩))
                    go_roundw
                    case rel => exact ⟨m + 1, by have := HM.out; omega, by congr 1; have := HM.out; omega, bel_on' HBV.out hb6⟩
                    case measure => simp [Go.RowKit.intOf]; omega
                  · have hv2 : 0 = v := (if_neg hin).symm.trans hv
                    subst hv2
                    clear hv hf
                    by_cases hneg : 0 ≤ K
                    · have q8 : ¬ K < 8 := fun h => hin (isIt_iff.2 ⟨hneg, h⟩)
                      clear hin
                      go_wp2_with (first
                        | (go_at_call 19; refine O.mono ?_; clear O; rintro e u ⟨rfl, rfl⟩)
                        | (go_at_call 20; refine F.mono ?_; clear F; rintro e u ⟨rfl, rfl⟩)
                        | (go_at_call 21; refine RF.mono ?_; clear RF; rintro e u6 ⟨rfl, hb6⟩))
                      go_roundw
                      case rel => exact ⟨m + 1, by have := HM.out; omega, by congr 1; have := HM.out; omega, bel_on' HBV.out hb6⟩
                      case measure => simp [Go.RowKit.intOf]; omega
                    · clear hin
                      go_wp2_with (first
                        | (go_at_call 19; refine O.mono ?_; clear O; rintro e u ⟨rfl, rfl⟩)
                        | (go_at_call 20; refine F.mono ?_; clear F; rintro e u ⟨rfl, rfl⟩)
                        | (go_at_call 21; refine RF.mono ?_; clear RF; rintro e u6 ⟨rfl, hb6⟩))
                      go_roundw
                      case rel => exact ⟨m + 1, by have := HM.out; omega, by congr 1; have := HM.out; omega, bel_on' HBV.out hb6⟩
                      case measure => simp [Go.RowKit.intOf]; omega
                · clear O F RF
                  go_wp2
                  go_roundw
                  case rel => exact ⟨j + 1, s2, by go_num, by omega, by omega, HK4.out.on HBV.out, HR4.out.on_ HBV.out, bel_on' HB4.out HBV.out⟩
                  case measure => simp [Go.RowKit.intOf]; omega
            | some c =>
              have hcAt := claimAt
              have hcN := claimN
              obtain ⟨x, y⟩ := c
              rw [hr] at HA
              dsimp only [Option.getD, Option.isSome] at HA
              have hy : 1 ≤ y := (HK4.out.good.at_ _ _ hr).2.2
              have qx : (x != x) = false := by simp
              have qy : (y != y) = false := by simp
              have qy2 : y > 0 := by omega
              have H5 : Hid (∀ u, Below u4.heap.size u4 u → u.cell? ⟨wr.heap.size, 1, none⟩ = some (.int .i64 id) ∧ u.cell? ⟨q, 8, none⟩ = some (.map (some cc)) ∧ ∀ n, (Instr.lookup 39 (.map (some cc)) (.int .i64 id) false).run Try.prog (u.drewN n) = .ok (.agg #[.int .i64 x, .int .i64 y]) (u.drewN n)) := fun u hu => by
                refine ⟨cellL K1.out hu, (HR4.out.on_ hu).cellM, fun n => ?_⟩
                have := (HR4.out.on_ (below_drewN hu n)).look HWI.out
                rw [hr] at this
                exact this
              clear hr
              go_wp2_with (first
                | (go_at_call 18; refine HA.mono ?_; clear HA; rintro e u5 ⟨rfl, hb5⟩; obtain ⟨g1, g8, hl5⟩ := H5.out u5 hb5; have HB5 := hide hb5; clear hb5))
              go_quiet (fail)
              go_wp2
              clear hl5 hcAt hcN g1 g8
              have HG4 := hide HK4.out.good
              go_loopw [13] (fun kv vr => ∃ m : Nat, m ≤ 10 ∧ kv = .int .i64 ((m : Int) - 1) ∧ Hid (Below u4.heap.size u4 vr)) (fun kv _ => (9 - Go.RowKit.intOf kv).toNat)
              case atStart => exact ⟨0, Nat.zero_le _, rfl, by first | exact HB5.out | exact HB5.out.drew | exact below_drewN HB5.out _⟩
              case round =>
                obtain ⟨m, hm, rfl, HBV⟩ := hrel
                clear HB5 H5
                obtain ⟨K, hK⟩ : ∃ K : Int, (m : Int) - 1 = K := ⟨_, rfl⟩
                have bK1 : -1 ≤ K := by omega
                have bK2 : K ≤ 9 := by omega
                have HM : Hid ((m : Int) = K + 1) := by show _ = _; omega
                rw [hK]
                clear hK
                have O := onhand_any (HK4.out.on HBV.out) K
                have F := free_any (HK4.out.on HBV.out) K
                have RF := rfree_any (HR4.out.on_ HBV.out) HG4.out K
                by_cases h9 : K ≤ 8
                · obtain ⟨v, hv⟩ : ∃ v, onV s2 K = v := ⟨_, rfl⟩
                  obtain ⟨f, hf⟩ : ∃ f, frV s2 K = f := ⟨_, rfl⟩
                  rw [hv] at O
                  rw [hf] at F RF
                  have qv : (v != v) = false := by simp
                  have qf : (f != f) = false := by simp
                  by_cases hin : isIt K = true
                  · obtain ⟨g1, g2⟩ := isIt_iff.1 hin
                    obtain ⟨i, rfl⟩ : ∃ i : Nat, K = i := ⟨K.toNat, by omega⟩
                    have ci := (HR4.out.on_ HBV.out).cellOn (i := i) (by omega)
                    have hv2 : s2.on i = v := (if_pos hin).symm.trans hv
                    rw [hv2] at ci
                    clear hv hv2 hf hin
                    go_wp2_with (first
                      | (go_at_call 19; refine O.mono ?_; clear O; rintro e u ⟨rfl, rfl⟩)
                      | (go_at_call 20; refine F.mono ?_; clear F; rintro e u ⟨rfl, rfl⟩)
                      | (go_at_call 21; refine RF.mono ?_; clear RF; rintro e u6 ⟨rfl, hb6⟩))
                    go_roundw
                    case rel => exact ⟨m + 1, by have := HM.out; omega, by congr 1; have := HM.out; omega, bel_on' HBV.out hb6⟩
                    case measure => simp [Go.RowKit.intOf]; omega
                  · have hv2 : 0 = v := (if_neg hin).symm.trans hv
                    subst hv2
                    clear hv hf
                    by_cases hneg : 0 ≤ K
                    · have q8 : ¬ K < 8 := fun h => hin (isIt_iff.2 ⟨hneg, h⟩)
                      clear hin
                      go_wp2_with (first
                        | (go_at_call 19; refine O.mono ?_; clear O; rintro e u ⟨rfl, rfl⟩)
                        | (go_at_call 20; refine F.mono ?_; clear F; rintro e u ⟨rfl, rfl⟩)
                        | (go_at_call 21; refine RF.mono ?_; clear RF; rintro e u6 ⟨rfl, hb6⟩))
                      go_roundw
                      case rel => exact ⟨m + 1, by have := HM.out; omega, by congr 1; have := HM.out; omega, bel_on' HBV.out hb6⟩
                      case measure => simp [Go.RowKit.intOf]; omega
                    · clear hin
                      go_wp2_with (first
                        | (go_at_call 19; refine O.mono ?_; clear O; rintro e u ⟨rfl, rfl⟩)
                        | (go_at_call 20; refine F.mono ?_; clear F; rintro e u ⟨rfl, rfl⟩)
                        | (go_at_call 21; refine RF.mono ?_; clear RF; rintro e u6 ⟨rfl, hb6⟩))
                      go_roundw
                      case rel => exact ⟨m + 1, by have := HM.out; omega, by congr 1; have := HM.out; omega, bel_on' HBV.out hb6⟩
                      case measure => simp [Go.RowKit.intOf]; omega
                · clear O F RF
                  go_wp2
                  go_roundw
                  case rel => exact ⟨j + 1, s2, by go_num, by omega, by omega, HK4.out.on HBV.out, HR4.out.on_ HBV.out, bel_on' HB4.out HBV.out⟩
                  case measure => simp [Go.RowKit.intOf]; omega
          · by_cases d1 : d = 1
            · subst d1
              clear k2 k3
              have A := (rel_more HKD.out HWI.out)
              obtain ⟨E2, hE2⟩ : ∃ E2, unE s id = E2 := ⟨_, rfl⟩
              obtain ⟨s2, hs2⟩ : ∃ s2, relS s id = s2 := ⟨_, rfl⟩
              rw [hE2, hs2] at A
              have NA : Hid (∀ u, Rg.Kept (Own2 p b) U.drew u → u.cell? ⟨wr.heap.size, 1, none⟩ = some (.int .i64 id) ∧ Rs w.heap.size u q cc s.on s.r j ∧ Below w.heap.size w u ∧
                  Calls Try.prog 15 #[.pointer (some ⟨q, 0, none⟩), .int .i64 id] u fun e w' => e = .returned (.int .i64 E2) ∧ Rs w.heap.size w' q cc s2.on s2.r (j + 1) ∧ Rg.Kept (Own2 q cc) u w') := fun u ho => by
                have h1 := HRD.out.far ho HF4.out
                have h4 := rrel_more h1 HG.out HWI.out
                rw [hE2, hs2] at h4
                have hn : ∀ o, ¬ Own2 p b wr.heap.size o := fun _ e => e.elim HNE.out.1.1 HNE.out.1.2
                exact ⟨kept_cell ho hn (cellL k1 hbD), h1, HBD.out.trans (HKD.out.bel ho), h4⟩
              have NB : Hid (∀ u u', Sk w.heap.size u p b s2 (j + 1) → Rs w.heap.size u q cc s.on s.r j → u.cell? ⟨wr.heap.size, 1, none⟩ = some (.int .i64 id) → Rg.Kept (Own2 q cc) u u' → (u'.cell? ⟨wr.heap.size, 1, none⟩ = some (.int .i64 id) ∧ Sk w.heap.size u' p b s2 (j + 1) ∧ Below w.heap.size u u')) := fun u u' x1 x2 x3 ho => by
                have hn : ∀ o, ¬ Own2 q cc wr.heap.size o := fun _ e => e.elim HNE.out.2.1 HNE.out.2.2
                exact ⟨kept_cell ho hn x3, x1.far ho HF4.out, x2.bel ho⟩
              clear hE2 hs2 hbD
              go_wp2_with fail
              rw [← HUW.out]
              go_region_held3 (fun w' => w'.cell? ⟨wr.heap.size, 1, none⟩ = some (.int .i64 id)) (go_keep) (first
                | (go_at_call 14; refine A.mono ?_; clear A; rintro e u3 ⟨rfl, hk3, ho3⟩; clear k1; obtain ⟨k1, hr3, hb3, A4⟩ := NA.out u3 ho3; have HK3 := hide hk3; have HR3 := hide hr3; have HB3 := hide hb3; have K12 := hide k1; clear hk3 hr3 hb3 ho3)
                | (go_at_call 15; refine A4.mono ?_; clear A4; rintro e u4 ⟨rfl, hr4, ho4⟩; clear k1; obtain ⟨k1, hk4, hb4⟩ := NB.out u3 u4 HK3.out HR3.out K12.out ho4; have HK4 := hide hk4; have HR4 := hide hr4; have HB4 := hide (HB3.out.trans hb4); clear hk4 hr4 ho4 hb4))
              have qE : (E2 == E2) = true := by simp
              clear NA NB

              have K1 := hide k1
              have HA := shas_any HK4.out HWI.out
              clear HKD HRD HBD HG HR3 HK3 HB3 K12 HBU
              cases hr : s2.r id with
              | none =>
                have hcAt := claimAt
                have hcN := claimN
                rw [hr] at HA
                dsimp only [Option.getD, Option.isSome] at HA
                have H5 : Hid (∀ u, Below u4.heap.size u4 u → u.cell? ⟨wr.heap.size, 1, none⟩ = some (.int .i64 id) ∧ u.cell? ⟨q, 8, none⟩ = some (.map (some cc)) ∧ ∀ n, (Instr.lookup 39 (.map (some cc)) (.int .i64 id) false).run Try.prog (u.drewN n) = .ok (.agg #[.int .i64 0, .int .i64 0]) (u.drewN n)) := fun u hu => by
                  refine ⟨cellL K1.out hu, (HR4.out.on_ hu).cellM, fun n => ?_⟩
                  have := (HR4.out.on_ (below_drewN hu n)).look HWI.out
                  rw [hr] at this
                  exact this
                clear hr
                go_wp2_with (first
                  | (go_at_call 18; refine HA.mono ?_; clear HA; rintro e u5 ⟨rfl, hb5⟩; obtain ⟨g1, g8, hl5⟩ := H5.out u5 hb5; have HB5 := hide hb5; clear hb5))
                go_quiet (fail)
                go_wp2
                clear hl5 hcAt hcN g1 g8
                have HG4 := hide HK4.out.good
                go_loopw [13] (fun kv vr => ∃ m : Nat, m ≤ 10 ∧ kv = .int .i64 ((m : Int) - 1) ∧ Hid (Below u4.heap.size u4 vr)) (fun kv _ => (9 - Go.RowKit.intOf kv).toNat)
                case atStart => exact ⟨0, Nat.zero_le _, rfl, by first | exact HB5.out | exact HB5.out.drew | exact below_drewN HB5.out _⟩
                case round =>
                  obtain ⟨m, hm, rfl, HBV⟩ := hrel
                  clear HB5 H5
                  obtain ⟨K, hK⟩ : ∃ K : Int, (m : Int) - 1 = K := ⟨_, rfl⟩
                  have bK1 : -1 ≤ K := by omega
                  have bK2 : K ≤ 9 := by omega
                  have HM : Hid ((m : Int) = K + 1) := by show _ = _; omega
                  rw [hK]
                  clear hK
                  have O := onhand_any (HK4.out.on HBV.out) K
                  have F := free_any (HK4.out.on HBV.out) K
                  have RF := rfree_any (HR4.out.on_ HBV.out) HG4.out K
                  by_cases h9 : K ≤ 8
                  · obtain ⟨v, hv⟩ : ∃ v, onV s2 K = v := ⟨_, rfl⟩
                    obtain ⟨f, hf⟩ : ∃ f, frV s2 K = f := ⟨_, rfl⟩
                    rw [hv] at O
                    rw [hf] at F RF
                    have qv : (v != v) = false := by simp
                    have qf : (f != f) = false := by simp
                    by_cases hin : isIt K = true
                    · obtain ⟨g1, g2⟩ := isIt_iff.1 hin
                      obtain ⟨i, rfl⟩ : ∃ i : Nat, K = i := ⟨K.toNat, by omega⟩
                      have ci := (HR4.out.on_ HBV.out).cellOn (i := i) (by omega)
                      have hv2 : s2.on i = v := (if_pos hin).symm.trans hv
                      rw [hv2] at ci
                      clear hv hv2 hf hin
                      go_wp2_with (first
                        | (go_at_call 19; refine O.mono ?_; clear O; rintro e u ⟨rfl, rfl⟩)
                        | (go_at_call 20; refine F.mono ?_; clear F; rintro e u ⟨rfl, rfl⟩)
                        | (go_at_call 21; refine RF.mono ?_; clear RF; rintro e u6 ⟨rfl, hb6⟩))
                      go_roundw
                      case rel => exact ⟨m + 1, by have := HM.out; omega, by congr 1; have := HM.out; omega, bel_on' HBV.out hb6⟩
                      case measure => simp [Go.RowKit.intOf]; omega
                    · have hv2 : 0 = v := (if_neg hin).symm.trans hv
                      subst hv2
                      clear hv hf
                      by_cases hneg : 0 ≤ K
                      · have q8 : ¬ K < 8 := fun h => hin (isIt_iff.2 ⟨hneg, h⟩)
                        clear hin
                        go_wp2_with (first
                          | (go_at_call 19; refine O.mono ?_; clear O; rintro e u ⟨rfl, rfl⟩)
                          | (go_at_call 20; refine F.mono ?_; clear F; rintro e u ⟨rfl, rfl⟩)
                          | (go_at_call 21; refine RF.mono ?_; clear RF; rintro e u6 ⟨rfl, hb6⟩))
                        go_roundw
                        case rel => exact ⟨m + 1, by have := HM.out; omega, by congr 1; have := HM.out; omega, bel_on' HBV.out hb6⟩
                        case measure => simp [Go.RowKit.intOf]; omega
                      · clear hin
                        go_wp2_with (first
                          | (go_at_call 19; refine O.mono ?_; clear O; rintro e u ⟨rfl, rfl⟩)
                          | (go_at_call 20; refine F.mono ?_; clear F; rintro e u ⟨rfl, rfl⟩)
                          | (go_at_call 21; refine RF.mono ?_; clear RF; rintro e u6 ⟨rfl, hb6⟩))
                        go_roundw
                        case rel => exact ⟨m + 1, by have := HM.out; omega, by congr 1; have := HM.out; omega, bel_on' HBV.out hb6⟩
                        case measure => simp [Go.RowKit.intOf]; omega
                  · clear O F RF
                    go_wp2
                    go_roundw
                    case rel => exact ⟨j + 1, s2, by go_num, by omega, by omega, HK4.out.on HBV.out, HR4.out.on_ HBV.out, bel_on' HB4.out HBV.out⟩
                    case measure => simp [Go.RowKit.intOf]; omega
              | some c =>
                have hcAt := claimAt
                have hcN := claimN
                obtain ⟨x, y⟩ := c
                rw [hr] at HA
                dsimp only [Option.getD, Option.isSome] at HA
                have hy : 1 ≤ y := (HK4.out.good.at_ _ _ hr).2.2
                have qx : (x != x) = false := by simp
                have qy : (y != y) = false := by simp
                have qy2 : y > 0 := by omega
                have H5 : Hid (∀ u, Below u4.heap.size u4 u → u.cell? ⟨wr.heap.size, 1, none⟩ = some (.int .i64 id) ∧ u.cell? ⟨q, 8, none⟩ = some (.map (some cc)) ∧ ∀ n, (Instr.lookup 39 (.map (some cc)) (.int .i64 id) false).run Try.prog (u.drewN n) = .ok (.agg #[.int .i64 x, .int .i64 y]) (u.drewN n)) := fun u hu => by
                  refine ⟨cellL K1.out hu, (HR4.out.on_ hu).cellM, fun n => ?_⟩
                  have := (HR4.out.on_ (below_drewN hu n)).look HWI.out
                  rw [hr] at this
                  exact this
                clear hr
                go_wp2_with (first
                  | (go_at_call 18; refine HA.mono ?_; clear HA; rintro e u5 ⟨rfl, hb5⟩; obtain ⟨g1, g8, hl5⟩ := H5.out u5 hb5; have HB5 := hide hb5; clear hb5))
                go_quiet (fail)
                go_wp2
                clear hl5 hcAt hcN g1 g8
                have HG4 := hide HK4.out.good
                go_loopw [13] (fun kv vr => ∃ m : Nat, m ≤ 10 ∧ kv = .int .i64 ((m : Int) - 1) ∧ Hid (Below u4.heap.size u4 vr)) (fun kv _ => (9 - Go.RowKit.intOf kv).toNat)
                case atStart => exact ⟨0, Nat.zero_le _, rfl, by first | exact HB5.out | exact HB5.out.drew | exact below_drewN HB5.out _⟩
                case round =>
                  obtain ⟨m, hm, rfl, HBV⟩ := hrel
                  clear HB5 H5
                  obtain ⟨K, hK⟩ : ∃ K : Int, (m : Int) - 1 = K := ⟨_, rfl⟩
                  have bK1 : -1 ≤ K := by omega
                  have bK2 : K ≤ 9 := by omega
                  have HM : Hid ((m : Int) = K + 1) := by show _ = _; omega
                  rw [hK]
                  clear hK
                  have O := onhand_any (HK4.out.on HBV.out) K
                  have F := free_any (HK4.out.on HBV.out) K
                  have RF := rfree_any (HR4.out.on_ HBV.out) HG4.out K
                  by_cases h9 : K ≤ 8
                  · obtain ⟨v, hv⟩ : ∃ v, onV s2 K = v := ⟨_, rfl⟩
                    obtain ⟨f, hf⟩ : ∃ f, frV s2 K = f := ⟨_, rfl⟩
                    rw [hv] at O
                    rw [hf] at F RF
                    have qv : (v != v) = false := by simp
                    have qf : (f != f) = false := by simp
                    by_cases hin : isIt K = true
                    · obtain ⟨g1, g2⟩ := isIt_iff.1 hin
                      obtain ⟨i, rfl⟩ : ∃ i : Nat, K = i := ⟨K.toNat, by omega⟩
                      have ci := (HR4.out.on_ HBV.out).cellOn (i := i) (by omega)
                      have hv2 : s2.on i = v := (if_pos hin).symm.trans hv
                      rw [hv2] at ci
                      clear hv hv2 hf hin
                      go_wp2_with (first
                        | (go_at_call 19; refine O.mono ?_; clear O; rintro e u ⟨rfl, rfl⟩)
                        | (go_at_call 20; refine F.mono ?_; clear F; rintro e u ⟨rfl, rfl⟩)
                        | (go_at_call 21; refine RF.mono ?_; clear RF; rintro e u6 ⟨rfl, hb6⟩))
                      go_roundw
                      case rel => exact ⟨m + 1, by have := HM.out; omega, by congr 1; have := HM.out; omega, bel_on' HBV.out hb6⟩
                      case measure => simp [Go.RowKit.intOf]; omega
                    · have hv2 : 0 = v := (if_neg hin).symm.trans hv
                      subst hv2
                      clear hv hf
                      by_cases hneg : 0 ≤ K
                      · have q8 : ¬ K < 8 := fun h => hin (isIt_iff.2 ⟨hneg, h⟩)
                        clear hin
                        go_wp2_with (first
                          | (go_at_call 19; refine O.mono ?_; clear O; rintro e u ⟨rfl, rfl⟩)
                          | (go_at_call 20; refine F.mono ?_; clear F; rintro e u ⟨rfl, rfl⟩)
                          | (go_at_call 21; refine RF.mono ?_; clear RF; rintro e u6 ⟨rfl, hb6⟩))
                        go_roundw
                        case rel => exact ⟨m + 1, by have := HM.out; omega, by congr 1; have := HM.out; omega, bel_on' HBV.out hb6⟩
                        case measure => simp [Go.RowKit.intOf]; omega
                      · clear hin
                        go_wp2_with (first
                          | (go_at_call 19; refine O.mono ?_; clear O; rintro e u ⟨rfl, rfl⟩)
                          | (go_at_call 20; refine F.mono ?_; clear F; rintro e u ⟨rfl, rfl⟩)
                          | (go_at_call 21; refine RF.mono ?_; clear RF; rintro e u6 ⟨rfl, hb6⟩))
                        go_roundw
                        case rel => exact ⟨m + 1, by have := HM.out; omega, by congr 1; have := HM.out; omega, bel_on' HBV.out hb6⟩
                        case measure => simp [Go.RowKit.intOf]; omega
                  · clear O F RF
                    go_wp2
                    go_roundw
                    case rel => exact ⟨j + 1, s2, by go_num, by omega, by omega, HK4.out.on HBV.out, HR4.out.on_ HBV.out, bel_on' HB4.out HBV.out⟩
                    case measure => simp [Go.RowKit.intOf]; omega
            · have e0 : (d == 0) = false := by simp [d0]
              have e1 : (d == 1) = false := by simp [d1]
              clear d0 d1
              have A := (res_any HKD.out HWI.out it qt (by omega))
              obtain ⟨E2, hE2⟩ : ∃ E2, resE s id it qt = E2 := ⟨_, rfl⟩
              obtain ⟨s2, hs2⟩ : ∃ s2, resS s id it qt = s2 := ⟨_, rfl⟩
              rw [hE2, hs2] at A
              have NA : Hid (∀ u, Rg.Kept (Own2 p b) U.drew u → (u.cell? ⟨wr.heap.size, 1, none⟩ = some (.int .i64 id) ∧ u.cell? ⟨wr.heap.size, 2, none⟩ = some (.int .i64 it) ∧ u.cell? ⟨wr.heap.size, 3, none⟩ = some (.int .i64 qt)) ∧ Rs w.heap.size u q cc s.on s.r j ∧ Below w.heap.size w u ∧
                  Calls Try.prog 17 #[.pointer (some ⟨q, 0, none⟩), .int .i64 id, .int .i64 it, .int .i64 qt] u fun e w' => e = .returned (.int .i64 E2) ∧ Rs w.heap.size w' q cc s2.on s2.r (j + 1) ∧ Rg.Kept (Own2 q cc) u w') := fun u ho => by
                have h1 := HRD.out.far ho HF4.out
                have h4 := rres_any h1 HG.out HWI.out it qt (by omega)
                rw [hE2, hs2] at h4
                have hn : ∀ o, ¬ Own2 p b wr.heap.size o := fun _ e => e.elim HNE.out.1.1 HNE.out.1.2
                exact ⟨⟨kept_cell ho hn (cellL k1 hbD), kept_cell ho hn (cellL k2 hbD), kept_cell ho hn (cellL k3 hbD)⟩, h1, HBD.out.trans (HKD.out.bel ho), h4⟩
              have NB : Hid (∀ u u', Sk w.heap.size u p b s2 (j + 1) → Rs w.heap.size u q cc s.on s.r j → (u.cell? ⟨wr.heap.size, 1, none⟩ = some (.int .i64 id) ∧ u.cell? ⟨wr.heap.size, 2, none⟩ = some (.int .i64 it) ∧ u.cell? ⟨wr.heap.size, 3, none⟩ = some (.int .i64 qt)) → Rg.Kept (Own2 q cc) u u' → ((u'.cell? ⟨wr.heap.size, 1, none⟩ = some (.int .i64 id) ∧ u'.cell? ⟨wr.heap.size, 2, none⟩ = some (.int .i64 it) ∧ u'.cell? ⟨wr.heap.size, 3, none⟩ = some (.int .i64 qt)) ∧ Sk w.heap.size u' p b s2 (j + 1) ∧ Below w.heap.size u u')) := fun u u' x1 x2 x3 ho => by
                have hn : ∀ o, ¬ Own2 q cc wr.heap.size o := fun _ e => e.elim HNE.out.2.1 HNE.out.2.2
                exact ⟨⟨kept_cell ho hn x3.1, kept_cell ho hn x3.2.1, kept_cell ho hn x3.2.2⟩, x1.far ho HF4.out, x2.bel ho⟩
              clear hE2 hs2 hbD
              go_wp2_with fail
              rw [← HUW.out]
              go_region_held3 (fun w' => (w'.cell? ⟨wr.heap.size, 1, none⟩ = some (.int .i64 id) ∧ w'.cell? ⟨wr.heap.size, 2, none⟩ = some (.int .i64 it) ∧ w'.cell? ⟨wr.heap.size, 3, none⟩ = some (.int .i64 qt))) (go_keep) (first
                | (go_at_call 16; refine A.mono ?_; clear A; rintro e u3 ⟨rfl, hk3, ho3⟩; clear k1 k2 k3; obtain ⟨⟨k1, k2, k3⟩, hr3, hb3, A4⟩ := NA.out u3 ho3; have HK3 := hide hk3; have HR3 := hide hr3; have HB3 := hide hb3; have K12 := hide (And.intro k1 (And.intro k2 k3)); clear hk3 hr3 hb3 ho3)
                | (go_at_call 17; refine A4.mono ?_; clear A4; rintro e u4 ⟨rfl, hr4, ho4⟩; clear k1 k2 k3; obtain ⟨⟨k1, k2, k3⟩, hk4, hb4⟩ := NB.out u3 u4 HK3.out HR3.out K12.out ho4; have HK4 := hide hk4; have HR4 := hide hr4; have HB4 := hide (HB3.out.trans hb4); clear hk4 hr4 ho4 hb4))
              have qE : (E2 == E2) = true := by simp
              clear NA NB
              clear k2 k3
              have K1 := hide k1
              have HA := shas_any HK4.out HWI.out
              clear HKD HRD HBD HG HR3 HK3 HB3 K12 HBU
              cases hr : s2.r id with
              | none =>
                have hcAt := claimAt
                have hcN := claimN
                rw [hr] at HA
                dsimp only [Option.getD, Option.isSome] at HA
                have H5 : Hid (∀ u, Below u4.heap.size u4 u → u.cell? ⟨wr.heap.size, 1, none⟩ = some (.int .i64 id) ∧ u.cell? ⟨q, 8, none⟩ = some (.map (some cc)) ∧ ∀ n, (Instr.lookup 39 (.map (some cc)) (.int .i64 id) false).run Try.prog (u.drewN n) = .ok (.agg #[.int .i64 0, .int .i64 0]) (u.drewN n)) := fun u hu => by
                  refine ⟨cellL K1.out hu, (HR4.out.on_ hu).cellM, fun n => ?_⟩
                  have := (HR4.out.on_ (below_drewN hu n)).look HWI.out
                  rw [hr] at this
                  exact this
                clear hr
                go_wp2_with (first
                  | (go_at_call 18; refine HA.mono ?_; clear HA; rintro e u5 ⟨rfl, hb5⟩; obtain ⟨g1, g8, hl5⟩ := H5.out u5 hb5; have HB5 := hide hb5; clear hb5))
                go_quiet (fail)
                go_wp2
                clear hl5 hcAt hcN g1 g8
                have HG4 := hide HK4.out.good
                go_loopw [13] (fun kv vr => ∃ m : Nat, m ≤ 10 ∧ kv = .int .i64 ((m : Int) - 1) ∧ Hid (Below u4.heap.size u4 vr)) (fun kv _ => (9 - Go.RowKit.intOf kv).toNat)
                case atStart => exact ⟨0, Nat.zero_le _, rfl, by first | exact HB5.out | exact HB5.out.drew | exact below_drewN HB5.out _⟩
                case round =>
                  obtain ⟨m, hm, rfl, HBV⟩ := hrel
                  clear HB5 H5
                  obtain ⟨K, hK⟩ : ∃ K : Int, (m : Int) - 1 = K := ⟨_, rfl⟩
                  have bK1 : -1 ≤ K := by omega
                  have bK2 : K ≤ 9 := by omega
                  have HM : Hid ((m : Int) = K + 1) := by show _ = _; omega
                  rw [hK]
                  clear hK
                  have O := onhand_any (HK4.out.on HBV.out) K
                  have F := free_any (HK4.out.on HBV.out) K
                  have RF := rfree_any (HR4.out.on_ HBV.out) HG4.out K
                  by_cases h9 : K ≤ 8
                  · obtain ⟨v, hv⟩ : ∃ v, onV s2 K = v := ⟨_, rfl⟩
                    obtain ⟨f, hf⟩ : ∃ f, frV s2 K = f := ⟨_, rfl⟩
                    rw [hv] at O
                    rw [hf] at F RF
                    have qv : (v != v) = false := by simp
                    have qf : (f != f) = false := by simp
                    by_cases hin : isIt K = true
                    · obtain ⟨g1, g2⟩ := isIt_iff.1 hin
                      obtain ⟨i, rfl⟩ : ∃ i : Nat, K = i := ⟨K.toNat, by omega⟩
                      have ci := (HR4.out.on_ HBV.out).cellOn (i := i) (by omega)
                      have hv2 : s2.on i = v := (if_pos hin).symm.trans hv
                      rw [hv2] at ci
                      clear hv hv2 hf hin
                      go_wp2_with (first
                        | (go_at_call 19; refine O.mono ?_; clear O; rintro e u ⟨rfl, rfl⟩)
                        | (go_at_call 20; refine F.mono ?_; clear F; rintro e u ⟨rfl, rfl⟩)
                        | (go_at_call 21; refine RF.mono ?_; clear RF; rintro e u6 ⟨rfl, hb6⟩))
                      go_roundw
                      case rel => exact ⟨m + 1, by have := HM.out; omega, by congr 1; have := HM.out; omega, bel_on' HBV.out hb6⟩
                      case measure => simp [Go.RowKit.intOf]; omega
                    · have hv2 : 0 = v := (if_neg hin).symm.trans hv
                      subst hv2
                      clear hv hf
                      by_cases hneg : 0 ≤ K
                      · have q8 : ¬ K < 8 := fun h => hin (isIt_iff.2 ⟨hneg, h⟩)
                        clear hin
                        go_wp2_with (first
                          | (go_at_call 19; refine O.mono ?_; clear O; rintro e u ⟨rfl, rfl⟩)
                          | (go_at_call 20; refine F.mono ?_; clear F; rintro e u ⟨rfl, rfl⟩)
                          | (go_at_call 21; refine RF.mono ?_; clear RF; rintro e u6 ⟨rfl, hb6⟩))
                        go_roundw
                        case rel => exact ⟨m + 1, by have := HM.out; omega, by congr 1; have := HM.out; omega, bel_on' HBV.out hb6⟩
                        case measure => simp [Go.RowKit.intOf]; omega
                      · clear hin
                        go_wp2_with (first
                          | (go_at_call 19; refine O.mono ?_; clear O; rintro e u ⟨rfl, rfl⟩)
                          | (go_at_call 20; refine F.mono ?_; clear F; rintro e u ⟨rfl, rfl⟩)
                          | (go_at_call 21; refine RF.mono ?_; clear RF; rintro e u6 ⟨rfl, hb6⟩))
                        go_roundw
                        case rel => exact ⟨m + 1, by have := HM.out; omega, by congr 1; have := HM.out; omega, bel_on' HBV.out hb6⟩
                        case measure => simp [Go.RowKit.intOf]; omega
                  · clear O F RF
                    go_wp2
                    go_roundw
                    case rel => exact ⟨j + 1, s2, by go_num, by omega, by omega, HK4.out.on HBV.out, HR4.out.on_ HBV.out, bel_on' HB4.out HBV.out⟩
                    case measure => simp [Go.RowKit.intOf]; omega
              | some c =>
                have hcAt := claimAt
                have hcN := claimN
                obtain ⟨x, y⟩ := c
                rw [hr] at HA
                dsimp only [Option.getD, Option.isSome] at HA
                have hy : 1 ≤ y := (HK4.out.good.at_ _ _ hr).2.2
                have qx : (x != x) = false := by simp
                have qy : (y != y) = false := by simp
                have qy2 : y > 0 := by omega
                have H5 : Hid (∀ u, Below u4.heap.size u4 u → u.cell? ⟨wr.heap.size, 1, none⟩ = some (.int .i64 id) ∧ u.cell? ⟨q, 8, none⟩ = some (.map (some cc)) ∧ ∀ n, (Instr.lookup 39 (.map (some cc)) (.int .i64 id) false).run Try.prog (u.drewN n) = .ok (.agg #[.int .i64 x, .int .i64 y]) (u.drewN n)) := fun u hu => by
                  refine ⟨cellL K1.out hu, (HR4.out.on_ hu).cellM, fun n => ?_⟩
                  have := (HR4.out.on_ (below_drewN hu n)).look HWI.out
                  rw [hr] at this
                  exact this
                clear hr
                go_wp2_with (first
                  | (go_at_call 18; refine HA.mono ?_; clear HA; rintro e u5 ⟨rfl, hb5⟩; obtain ⟨g1, g8, hl5⟩ := H5.out u5 hb5; have HB5 := hide hb5; clear hb5))
                go_quiet (fail)
                go_wp2
                clear hl5 hcAt hcN g1 g8
                have HG4 := hide HK4.out.good
                go_loopw [13] (fun kv vr => ∃ m : Nat, m ≤ 10 ∧ kv = .int .i64 ((m : Int) - 1) ∧ Hid (Below u4.heap.size u4 vr)) (fun kv _ => (9 - Go.RowKit.intOf kv).toNat)
                case atStart => exact ⟨0, Nat.zero_le _, rfl, by first | exact HB5.out | exact HB5.out.drew | exact below_drewN HB5.out _⟩
                case round =>
                  obtain ⟨m, hm, rfl, HBV⟩ := hrel
                  clear HB5 H5
                  obtain ⟨K, hK⟩ : ∃ K : Int, (m : Int) - 1 = K := ⟨_, rfl⟩
                  have bK1 : -1 ≤ K := by omega
                  have bK2 : K ≤ 9 := by omega
                  have HM : Hid ((m : Int) = K + 1) := by show _ = _; omega
                  rw [hK]
                  clear hK
                  have O := onhand_any (HK4.out.on HBV.out) K
                  have F := free_any (HK4.out.on HBV.out) K
                  have RF := rfree_any (HR4.out.on_ HBV.out) HG4.out K
                  by_cases h9 : K ≤ 8
                  · obtain ⟨v, hv⟩ : ∃ v, onV s2 K = v := ⟨_, rfl⟩
                    obtain ⟨f, hf⟩ : ∃ f, frV s2 K = f := ⟨_, rfl⟩
                    rw [hv] at O
                    rw [hf] at F RF
                    have qv : (v != v) = false := by simp
                    have qf : (f != f) = false := by simp
                    by_cases hin : isIt K = true
                    · obtain ⟨g1, g2⟩ := isIt_iff.1 hin
                      obtain ⟨i, rfl⟩ : ∃ i : Nat, K = i := ⟨K.toNat, by omega⟩
                      have ci := (HR4.out.on_ HBV.out).cellOn (i := i) (by omega)
                      have hv2 : s2.on i = v := (if_pos hin).symm.trans hv
                      rw [hv2] at ci
                      clear hv hv2 hf hin
                      go_wp2_with (first
                        | (go_at_call 19; refine O.mono ?_; clear O; rintro e u ⟨rfl, rfl⟩)
                        | (go_at_call 20; refine F.mono ?_; clear F; rintro e u ⟨rfl, rfl⟩)
                        | (go_at_call 21; refine RF.mono ?_; clear RF; rintro e u6 ⟨rfl, hb6⟩))
                      go_roundw
                      case rel => exact ⟨m + 1, by have := HM.out; omega, by congr 1; have := HM.out; omega, bel_on' HBV.out hb6⟩
                      case measure => simp [Go.RowKit.intOf]; omega
                    · have hv2 : 0 = v := (if_neg hin).symm.trans hv
                      subst hv2
                      clear hv hf
                      by_cases hneg : 0 ≤ K
                      · have q8 : ¬ K < 8 := fun h => hin (isIt_iff.2 ⟨hneg, h⟩)
                        clear hin
                        go_wp2_with (first
                          | (go_at_call 19; refine O.mono ?_; clear O; rintro e u ⟨rfl, rfl⟩)
                          | (go_at_call 20; refine F.mono ?_; clear F; rintro e u ⟨rfl, rfl⟩)
                          | (go_at_call 21; refine RF.mono ?_; clear RF; rintro e u6 ⟨rfl, hb6⟩))
                        go_roundw
                        case rel => exact ⟨m + 1, by have := HM.out; omega, by congr 1; have := HM.out; omega, bel_on' HBV.out hb6⟩
                        case measure => simp [Go.RowKit.intOf]; omega
                      · clear hin
                        go_wp2_with (first
                          | (go_at_call 19; refine O.mono ?_; clear O; rintro e u ⟨rfl, rfl⟩)
                          | (go_at_call 20; refine F.mono ?_; clear F; rintro e u ⟨rfl, rfl⟩)
                          | (go_at_call 21; refine RF.mono ?_; clear RF; rintro e u6 ⟨rfl, hb6⟩))
                        go_roundw
                        case rel => exact ⟨m + 1, by have := HM.out; omega, by congr 1; have := HM.out; omega, bel_on' HBV.out hb6⟩
                        case measure => simp [Go.RowKit.intOf]; omega
                  · clear O F RF
                    go_wp2
                    go_roundw
                    case rel => exact ⟨j + 1, s2, by go_num, by omega, by omega, HK4.out.on HBV.out, HR4.out.on_ HBV.out, bel_on' HB4.out HBV.out⟩
                    case measure => simp [Go.RowKit.intOf]; omega
        · have q100 : (j : Int) ≥ 100 := by omega
          have AW := sawake_any U
          rw [hU] at AW
          clear hca hc hok
          go_wp2_with (go_at_call 9; refine AW.mono ?_; rintro e u ⟨rfl, b3⟩)
          go_ret
          rw [← hU] at b3
          exact ⟨rfl, bel_on' HBU.out b3⟩
      · have ql : ¬ (j : Int) < (l1.length : Int) := by omega
        have AW := sawake_any wr
        go_wp2_with (go_at_call 9; refine AW.mono ?_; rintro e u ⟨rfl, b3⟩)
        go_ret
        exact ⟨rfl, bel_on' HB.out b3⟩
  · have q50 : (l0.length : Int) > 50 := by omega
    clear h50
    go_enter Try.func3, Try.ntmps3
    go_wp2_with (go_at_call 9; refine (sawake_any _).mono ?_; rintro e u7 ⟨rfl, b7⟩; have HB7 := hide b7; clear b7)
    go_ret
    exact ⟨rfl, HB7.out⟩
end Go.Proofs.Ytkdonlhdjgpjiaa
