/-
  PursePlays's walk.
-/
import Derived.Test.YtpahgoehpkohiaaPrsA
import Derived.Test.YtpahgoehpkohiaaPrsD
import Derived.Test.YtpahgoehpkohiaaPrsY
import Derived.Test.YtpahgoehpkohiaaLater
import Derived.Deep.RegionHeld3
import Derived.Deep.QuietTactic
import Derived.BigQuiet
namespace Go.Proofs.Ytpahgoehpkohiaa
open Go.ChangeShapes Go.WideShapes Go.ChangeAt Go.RowKit Go.Maps

theorem IsRow.caps {w : World} {a : Option Addr} {len cap : Nat} {zs : List Int} (h : IsRow .i64 w a len cap zs) : len ≤ cap := by
  rcases h with ⟨_, h1, h2, _⟩ | ⟨x, rfl, h1, _⟩
  · omega
  · omega
theorem kept_cell {X Y : World} {E : Nat → Obj → Prop} {B i : Nat} {v : Value} (hk : Rg.Kept E X Y) (hn : ∀ o, ¬ E B o) (hc : X.cell? ⟨B, i, none⟩ = some v) : Y.cell? ⟨B, i, none⟩ = some v := by
  have hlt : B < X.heap.size := World.block_lt_of_cell? _ _ hc
  have e : X.heap[B]? = some X.heap[B] := Array.getElem?_eq_getElem hlt
  rw [World.cell?_of_block (a := ⟨B, i, none⟩) ((hk.block _ _ e (hn _)).trans e.symm)]
  exact hc
/-- Six blocks, two books. -/
def Far6 (p b c q x y : Nat) : Prop := (q ≠ b ∧ q ≠ c) ∧ (x ≠ b ∧ x ≠ c) ∧ (y ≠ b ∧ y ≠ c) ∧ (p ≠ q ∧ p ≠ x ∧ p ≠ y)
/-- A step on the reference's book keeps the book; and the other way round. -/
theorem Pk.far {B n : Nat} {w w' : World} {p b c q x y : Nat} {s : Qb} (k : Pk B w p b c s n) (hk : Rg.Kept (Own3 q x y) w w') (h : Far6 p b c q x y) : Pk B w' p b c s n := by
  obtain ⟨⟨h1, h2⟩, ⟨h3, h4⟩, ⟨h5, h6⟩, ⟨h7, h8, h9⟩⟩ := h
  refine k.kept hk ?_ ?_ ?_ <;> (rintro _ (e | e | e) <;> omega)
theorem Rp.far {B n : Nat} {w w' : World} {p b c q x y : Nat} {s : Pb} (k : Rp B w q x y s n) (hk : Rg.Kept (Own2 b c) w w') (h : Far6 p b c q x y) : Rp B w' q x y s n := by
  obtain ⟨⟨h1, h2⟩, ⟨h3, h4⟩, ⟨h5, h6⟩, _⟩ := h
  refine k.kept hk ?_ ?_ ?_ <;> (rintro _ (e | e) <;> omega)
section
variable {B : Nat} {w : World} {p b c : Nat} {s s' : Qb} {n : Nat} {id E : Int}
theorem alw_both (k : Pk B w p b c s n) (hw : (Lit.int .i64 id).wf = true) {x q : Int} (hn : n < 1000000) (hE : alwE (toP s) id x q = E) (hS : alwQ s id x q = s') :
    Calls Try.prog 16 #[.pointer (some ⟨p, 0, none⟩), .int .i64 id, .int .i64 x, .int .i64 q] w fun e w' => e = .returned (.int .i64 E) ∧ Pk B w' p b c s' (n + 1) ∧ Rg.Kept (Own2 b c) w w' := by
  subst hE hS
  exact pallow_any k hw x q hn
theorem cap_both (k : Pk B w p b c s n) (hw : (Lit.int .i64 id).wf = true) (hn : n < 1000000) (hE : capE (toP s) id = E) (hS : capQ s id = s') :
    Calls Try.prog 12 #[.pointer (some ⟨p, 0, none⟩), .int .i64 id] w fun e w' => e = .returned (.int .i64 E) ∧ Pk B w' p b c s' (n + 1) ∧ Rg.Kept (Own2 b c) w w' := by
  subst hE hS
  exact pcap_any k hw hn
theorem void_both (k : Pk B w p b c s n) (hw : (Lit.int .i64 id).wf = true) (hE : capE (toP s) id = E) (hS : voidQ s id = s') :
    Calls Try.prog 14 #[.pointer (some ⟨p, 0, none⟩), .int .i64 id] w fun e w' => e = .returned (.int .i64 E) ∧ Pk B w' p b c s' (n + 1) ∧ Rg.Kept (Own2 b c) w w' := by
  subst hE hS
  exact (pvoid_any k hw).mono (fun _ w' ⟨h1, h2, h3⟩ => ⟨h1, h2.mono (Nat.le_succ _), h3⟩)
theorem ralw_both (k : Rp B w p b c (toP s) n) (g : GoodQ s) (hw : (Lit.int .i64 id).wf = true) {x q : Int} (hn : n < 1000000) (hE : alwE (toP s) id x q = E) (hS : alwQ s id x q = s') :
    Calls Try.prog 17 #[.pointer (some ⟨p, 0, none⟩), .int .i64 id, .int .i64 x, .int .i64 q] w fun e w' => e = .returned (.int .i64 E) ∧ Rp B w' p b c (toP s') (n + 1) ∧ Rg.Kept (Own3 p b c) w w' := by
  subst hE hS
  rw [toP_alw]
  exact ralw_any k g.gp hw x q hn
theorem rcap_both (k : Rp B w p b c (toP s) n) (g : GoodQ s) (hw : (Lit.int .i64 id).wf = true) (hn : n < 1000000) (hE : capE (toP s) id = E) (hS : capQ s id = s') :
    Calls Try.prog 13 #[.pointer (some ⟨p, 0, none⟩), .int .i64 id] w fun e w' => e = .returned (.int .i64 E) ∧ Rp B w' p b c (toP s') (n + 1) ∧ Rg.Kept (Own3 p b c) w w' := by
  subst hE hS
  rw [toP_cap g]
  exact rcap_any k g.gp hw hn
theorem rvoid_both (k : Rp B w p b c (toP s) n) (g : GoodQ s) (hw : (Lit.int .i64 id).wf = true) (hE : capE (toP s) id = E) (hS : voidQ s id = s') :
    Calls Try.prog 15 #[.pointer (some ⟨p, 0, none⟩), .int .i64 id] w fun e w' => e = .returned (.int .i64 E) ∧ Rp B w' p b c (toP s') (n + 1) ∧ Rg.Kept (Own3 p b c) w w' := by
  subst hE hS
  rw [toP_void]
  exact (rvoid_any k g.gp hw).mono (fun _ w' ⟨h1, h2, h3⟩ => ⟨h1, h2.mono (Nat.le_succ _), h3⟩)
end
/-- What the reference's Allowed tells. -/
theorem rallow_on {B : Nat} {w : World} {p b c : Nat} {s : Qb} {n : Nat} (k : Rp B w p b c (toP s) n) (g : GoodQ s) (x : Int) :
    Calls Try.prog 22 #[.pointer (some ⟨p, 0, none⟩), .int .i64 x] w fun e w' => e = .returned (.int .i64 (alwV s x)) ∧ Below w.heap.size w w' :=
  rallowed_any k.cellA k.2.2.1 g.da (show sumTo (alw s.a) 1000 ≤ 1000000000 by have := g.sumA; omega) x
def PRel (w : World) (p b c q x y : Nat) (len : Nat) (i : Value) (wr : World) : Prop :=
  ∃ (j : Nat) (s : Qb), i = .int .i64 j ∧ j ≤ len ∧ j ≤ 100 ∧ Hid (Pk w.heap.size wr p b c s j) ∧ Hid (Rp w.heap.size wr q x y (toP s) j) ∧ Hid (Below w.heap.size w wr)

set_option maxRecDepth 100000 in
set_option maxHeartbeats 8000000 in
theorem pursePlays_walk (a0 : Option Addr) (len0 cap0 : Nat) (z0 : List Int) (l1 : List Cl) (a1 : Option Addr) (cap1 : Nat) (w : World) (w0 : IsRow .i64 w a0 len0 cap0 z0) (w1 : ClsIn w l1 a1) :
    Calls Try.prog 3 #[.slice a0 len0 cap0, .slice a1 l1.length cap1] w fun e w' => e = .returned (.bool true) ∧ Below w.heap.size w w' := by
  have hcap := w0.caps
  have hnil := fun e => (w0.nils e).2
  obtain ⟨l0, rfl, hmx, hI⟩ := w0.ints
  clear w0
  by_cases h50 : ¬ (l0.length : Int) > 50
  · obtain ⟨hlen, hcl⟩ := w1
    have HCL := hide hcl
    clear hcl
    have N1 := pnew_any a0 l0 cap0 w hI hcap hmx hnil
    have HN2 : Hid (∀ u, Below w.heap.size w u → Calls Try.prog 11 #[.slice a0 l0.length cap0] u fun e w' => ∃ q x y, e = .returned (.pointer (some ⟨q, 0, none⟩)) ∧ Rp u.heap.size w' q x y (toP (newQ l0)) 0 ∧ Below u.heap.size u w') := fun u hu => by rw [toP_new]; exact rnewp_any a0 l0 cap0 u (hI.below hu) hmx
    obtain ⟨s0, hs0⟩ : ∃ s0, newQ l0 = s0 := ⟨_, rfl⟩
    rw [hs0] at N1 HN2
    clear hs0 hI hcap hnil
    go_enter Try.func3, Try.ntmps3
    go_wp2_with (first
      | (go_at_call 10; refine N1.mono ?_; clear N1; rintro e u1 ⟨p, b, c, rfl, k1, hb1⟩; have N2 := HN2.out u1 hb1; have HK1 := hide k1; have HB1 := hide hb1; clear k1 hb1)
      | (go_at_call 11; refine N2.mono ?_; clear N2; rintro e u2 ⟨q, x, y, rfl, k2, hb2⟩; have HR1 := hide k2; have HB2 := hide hb2; clear k2 hb2))
    have HF6 : Hid (Far6 p b c q x y) := by
      have h1 := HK1.out.1.lt
      have h2 := HK1.out.1.2.2.1.lt
      have h3 := HK1.out.1.2.2.2.lt
      obtain ⟨h4, h5, h6, -⟩ := HR1.out.2.1
      exact ⟨⟨by omega, by omega⟩, ⟨by omega, by omega⟩, ⟨by omega, by omega⟩, ⟨by omega, by omega, by omega⟩⟩
    have HKS : Hid (Pk w.heap.size u2 p b c s0 0) := HK1.out.on HB2.out
    have HRS : Hid (Rp w.heap.size u2 q x y (toP s0) 0) := by
      obtain ⟨g1, ⟨g2, g3, g4, g5⟩, g6⟩ := HR1.out
      have := HB1.out.size
      exact ⟨g1, ⟨by omega, by omega, by omega, g5⟩, g6⟩
    have HBS : Hid (Below w.heap.size w u2) := bel_on' HB1.out HB2.out
    clear HK1 HB1 HR1 HB2 HN2
    go_loopw [25] (fun i wr => PRel w p b c q x y l1.length i wr) (fun i _ => l1.length - (Go.RowKit.intOf i).toNat)
    case atStart => exact ⟨0, s0, rfl, Nat.zero_le _, Nat.zero_le _, HKS, HRS, HBS⟩
    case round =>
      obtain ⟨j, s, rfl, hj, hj100, HK, HR, HB⟩ := hrel
      clear HKS HRS HBS
      by_cases hlt : j < l1.length
      · have ql : (j : Int) < (l1.length : Int) := by omega
        obtain ⟨cl, hc⟩ : ∃ cl, l1[j]? = some cl := ⟨l1[j], by simp [hlt]⟩
        rcases HCL.out.below HB.out with h0 | ⟨bc, off, rfl, hca⟩
        · subst h0; simp at hlt
        obtain ⟨⟨c0, c1, c2, c3⟩, hok⟩ := hca j cl hc
        obtain ⟨d, id, it, qt⟩ := cl
        dsimp only at c0 c1 c2 c3 hok
        obtain ⟨U, hU⟩ : ∃ U, U = wr.alloc (.cells #[.int .i64 d, .int .i64 id, .int .i64 it, .int .i64 qt] 30) := ⟨_, rfl⟩
        have hbU : Below wr.heap.size wr U := by rw [hU]; exact bel_al (Below.refl _ _) _
        have HBU := hide (bel_on' HB.out hbU)
        by_cases h100 : j < 100
        · have q100 : ¬ (j : Int) ≥ 100 := by omega
          have HKU := hide (HK.out.on hbU)
          have HRU := hide (HR.out.on hbU)
          have hwi := hok.2.1
          have HNE : Hid ((wr.heap.size ≠ b ∧ wr.heap.size ≠ c) ∧ (wr.heap.size ≠ q ∧ wr.heap.size ≠ x ∧ wr.heap.size ≠ y)) := by
            have h1 := HK.out.1.2.2.1.lt
            have h2 := HK.out.1.2.2.2.lt
            have h3 := HR.out.lt
            have h4 := HR.out.2.2.1.lt
            have h5 := HR.out.2.2.2.lt
            exact ⟨⟨by omega, by omega⟩, ⟨by omega, by omega, by omega⟩⟩
          clear hca hc hbU HK HR hok
          have HG := hide HKU.out.good
          have hbD : Below U.heap.size U U.drew := (Below.refl _ _).drew
          have HKD := hide (HKU.out.on hbD)
          have HRD := hide (HRU.out.on hbD)
          have HBD := hide (bel_on' HBU.out hbD)
          have k1 : U.cell? ⟨wr.heap.size, 1, none⟩ = some (.int .i64 id) := by rw [hU]; simp
          have k2 : U.cell? ⟨wr.heap.size, 2, none⟩ = some (.int .i64 it) := by rw [hU]; simp
          have k3 : U.cell? ⟨wr.heap.size, 3, none⟩ = some (.int .i64 qt) := by rw [hU]; simp
          have HUW := hide hU
          have HWI := hide hwi
          clear HKU HRU hU hwi
          by_cases d0 : d = 0
          · subst d0
            clear k2 k3
            obtain ⟨E2, hE2⟩ : ∃ E2, capE (toP s) id = E2 := ⟨_, rfl⟩
            obtain ⟨s2, hs2⟩ : ∃ s2, capQ s id = s2 := ⟨_, rfl⟩
            have A := cap_both HKD.out HWI.out (by omega) hE2 hs2
            have NA : Hid (∀ u, Rg.Kept (Own2 b c) U.drew u → u.cell? ⟨wr.heap.size, 1, none⟩ = some (.int .i64 id) ∧ Rp w.heap.size u q x y (toP s) j ∧ Below w.heap.size w u ∧
                Calls Try.prog 13 #[.pointer (some ⟨q, 0, none⟩), .int .i64 id] u fun e w' => e = .returned (.int .i64 E2) ∧ Rp w.heap.size w' q x y (toP s2) (j + 1) ∧ Rg.Kept (Own3 q x y) u w') := fun u ho => by
              have h1 := HRD.out.far ho HF6.out
              have h4 := rcap_both h1 HG.out HWI.out (by omega) hE2 hs2
              have hn : ∀ o, ¬ Own2 b c wr.heap.size o := fun _ e => e.elim HNE.out.1.1 HNE.out.1.2
              exact ⟨kept_cell ho hn (cellL k1 hbD), h1, HBD.out.trans (HKD.out.bel ho), h4⟩
            have NB : Hid (∀ u u', Pk w.heap.size u p b c s2 (j + 1) → Rp w.heap.size u q x y (toP s) j → u.cell? ⟨wr.heap.size, 1, none⟩ = some (.int .i64 id) → Rg.Kept (Own3 q x y) u u' → (u'.cell? ⟨wr.heap.size, 1, none⟩ = some (.int .i64 id) ∧ Pk w.heap.size u' p b c s2 (j + 1) ∧ Below w.heap.size u u')) := fun u u' x1 x2 x3 ho => by
              have hn : ∀ o, ¬ Own3 q x y wr.heap.size o := fun _ e => e.elim HNE.out.2.1 (fun e => e.elim HNE.out.2.2.1 HNE.out.2.2.2)
              exact ⟨kept_cell ho hn x3, x1.far ho HF6.out, x2.bel ho⟩
            clear hE2 hs2 hbD
            go_wp2_with fail
            rw [← HUW.out]
            go_region_held3 (fun w' => w'.cell? ⟨wr.heap.size, 1, none⟩ = some (.int .i64 id)) (go_keep) (first
              | (go_at_call 12; refine A.mono ?_; clear A; rintro e u3 ⟨rfl, hk3, ho3⟩; clear k1; obtain ⟨k1, hr3, hb3, A4⟩ := NA.out u3 ho3; have HK3 := hide hk3; have HR3 := hide hr3; have HB3 := hide hb3; have K12 := hide k1; clear hk3 hr3 hb3 ho3)
              | (go_at_call 13; refine A4.mono ?_; clear A4; rintro e u4 ⟨rfl, hr4, ho4⟩; clear k1; obtain ⟨k1, hk4, hb4⟩ := NB.out u3 u4 HK3.out HR3.out K12.out ho4; have HK4 := hide hk4; have HR4 := hide hr4; have HB4 := hide (HB3.out.trans hb4); clear hk4 hr4 ho4 hb4))
            have qE : (E2 == E2) = true := by simp
            clear NA NB

            have K1 := hide k1
            clear HKD HRD HBD HG HR3 HK3 HB3 K12 HBU
            have HG4 := hide HK4.out.good
            have hpn := HG4.out.gp.pnn id
            have P := ppaid_any HK4.out HWI.out
            obtain ⟨pv, hpv⟩ : ∃ pv, (toP s2).p id = pv := ⟨_, rfl⟩
            have hpo : (s2.d id).isSome = decide (pv ≠ 0) := by rw [HG4.out.dd.isSome, ← hpv]; rfl
            rw [hpo, show alw s2.d id = pv from hpv] at P
            rw [hpv] at hpn
            have hp0 : decide (pv ≠ 0) = decide (pv > 0) := by by_cases h : pv = 0 <;> simp [h]; omega
            rw [hp0] at P
            have H5 : Hid (∀ u, Below u4.heap.size u4 u → u.cell? ⟨wr.heap.size, 1, none⟩ = some (.int .i64 id) ∧ u.cell? ⟨q, 9, none⟩ = some (.int .i64 (tillQ s2)) ∧ u.cell? ⟨q, 10, none⟩ = some (.map (some y)) ∧ (Instr.lookup 38 (.map (some y)) (.int .i64 id) false).run Try.prog u = .ok (.int .i64 pv) u ∧
                Calls Try.prog 19 #[.pointer (some ⟨p, 0, none⟩)] u fun e w' => e = .returned (.int .i64 (tillQ s2)) ∧ Below u.heap.size u w') := fun u hu => by
              have h1 := (HR4.out.on hu).2.2.2.look HWI.out
              rw [hpv] at h1
              exact ⟨cellL K1.out hu, (HR4.out.on hu).cellT, (HR4.out.on hu).cellP, h1, ptill_any (HK4.out.on hu)⟩
            obtain ⟨tl, htl⟩ : ∃ tl, tillQ s2 = tl := ⟨_, rfl⟩
            rw [htl] at H5
            clear hpo hpv hp0 htl
            go_wp2_with (first
              | (go_at_call 18; refine P.mono ?_; clear P; rintro e u5 ⟨rfl, hb5⟩; have HB5 := hide hb5; clear hb5))
            have qpv : (pv != pv) = false := by simp
            have qpb : (decide (pv > 0) != decide (pv > 0)) = false := by simp
            have qtl : (tl != tl) = false := by simp
            have hne : Nonempty (Later u5) := ⟨Later.now u5⟩
            have LT : ∀ u : Later u5, Below u4.heap.size u4 u.w := fun u => bel_on' HB5.out u.below
            have g1 : ∀ u : Later u5, u.w.cell? ⟨wr.heap.size, 1, none⟩ = some (.int .i64 id) := fun u => (H5.out u.w (LT u)).1
            have g9 : ∀ u : Later u5, u.w.cell? ⟨q, 9, none⟩ = some (.int .i64 tl) := fun u => (H5.out u.w (LT u)).2.1
            have g10 : ∀ u : Later u5, u.w.cell? ⟨q, 10, none⟩ = some (.map (some y)) := fun u => (H5.out u.w (LT u)).2.2.1
            have gl : ∀ u : Later u5, (Instr.lookup 38 (.map (some y)) (.int .i64 id) false).run Try.prog u.w = .ok (.int .i64 pv) u.w := fun u => (H5.out u.w (LT u)).2.2.2.1
            have gt : ∀ u : Later u5, Calls Try.prog 19 #[.pointer (some ⟨p, 0, none⟩)] u.w fun e w' => e = .returned (.int .i64 tl) ∧ ∃ u' : Later u5, w' = u'.w := fun u => calls_later u (H5.out u.w (LT u)).2.2.2.2
            clear LT
            refine region_later (by kernel_rfl) (by kernel_rfl) ?_
            repeat (first | go_big_quiet_step ((go_at_call 19; with_reducible exact gt _)) | quiet_step ((go_at_call 19; with_reducible exact gt _)))
            refine wpQuiet_nil ?_
            intro u
            have hbu := bel_on' HB5.out u.below
            generalize u.w = u6 at hbu ⊢
            have HB6 := hide hbu
            clear hbu g1 g9 g10 gl gt u hne
            go_wp2
            go_loopw [114] (fun kv vr => ∃ m : Nat, m ≤ 8 ∧ kv = .int .i64 (m : Int) ∧ Hid (Below u4.heap.size u4 vr)) (fun kv _ => (8 - Go.RowKit.intOf kv).toNat)
            case atStart => exact ⟨0, Nat.zero_le _, rfl, HB6⟩
            case round =>
              obtain ⟨m, hm, rfl, HBV⟩ := hrel
              clear HB6 H5
              have HKV := hide (HK4.out.on HBV.out)
              have HRV := hide (HR4.out.on HBV.out)
              by_cases h8 : m < 8
              · have qm : (m : Int) < 8 := by omega
                have cm := HRV.out.cellM h8
                have HNM : Hid (∀ u, Below wr.heap.size wr u → u.cell? ⟨q, m, none⟩ = some (.int .i64 ((toP s2).m m)) ∧ (Calls Try.prog 21 #[.pointer (some ⟨p, 0, none⟩), .int .i64 (m : Int)] u fun e w' => e = .returned (.int .i64 (alwV s2 m)) ∧ Below u.heap.size u w') ∧ (Calls Try.prog 22 #[.pointer (some ⟨q, 0, none⟩), .int .i64 (m : Int)] u fun e w' => e = .returned (.int .i64 (alwV s2 m)) ∧ Below u.heap.size u w') ∧ (Calls Try.prog 20 #[.pointer (some ⟨p, 0, none⟩), .int .i64 (m : Int)] u fun e w' => e = .returned (.int .i64 ((toP s2).m m)) ∧ Below u.heap.size u w')) := fun u hu => by
                  have h1 := pmoney_any (HKV.out.on hu) (m : Int)
                  rw [show monV s2 (m : Int) = (toP s2).m m from if_pos (isIt_iff.2 ⟨by omega, by omega⟩)] at h1
                  exact ⟨(HRV.out.on hu).cellM h8, pallowed_any (HKV.out.on hu) m, rallow_on (HRV.out.on hu) HG4.out m, h1⟩
                obtain ⟨M, hM⟩ : ∃ M, (toP s2).m m = M := ⟨_, rfl⟩
                obtain ⟨V, hV⟩ : ∃ V, alwV s2 m = V := ⟨_, rfl⟩
                rw [hM] at HNM cm
                rw [hV] at HNM
                have qM : (M != M) = false := by simp
                have qV : (V != V) = false := by simp
                clear hM hV
                have hne : Nonempty (Later wr) := ⟨Later.now wr⟩
                have g1 : ∀ u : Later wr, u.w.cell? ⟨q, m, none⟩ = some (.int .i64 M) := fun u => (HNM.out u.w u.below).1
                have g2 : ∀ u : Later wr, Calls Try.prog 21 #[.pointer (some ⟨p, 0, none⟩), .int .i64 (m : Int)] u.w fun e w' => e = .returned (.int .i64 V) ∧ ∃ u' : Later wr, w' = u'.w := fun u => calls_later u (HNM.out u.w u.below).2.1
                have g3 : ∀ u : Later wr, Calls Try.prog 22 #[.pointer (some ⟨q, 0, none⟩), .int .i64 (m : Int)] u.w fun e w' => e = .returned (.int .i64 V) ∧ ∃ u' : Later wr, w' = u'.w := fun u => calls_later u (HNM.out u.w u.below).2.2.1
                have g4 : ∀ u : Later wr, Calls Try.prog 20 #[.pointer (some ⟨p, 0, none⟩), .int .i64 (m : Int)] u.w fun e w' => e = .returned (.int .i64 M) ∧ ∃ u' : Later wr, w' = u'.w := fun u => calls_later u (HNM.out u.w u.below).2.2.2
                clear cm
                go_wp2_with fail
                refine region_later (by kernel_rfl) (by kernel_rfl) ?_
                repeat (first | go_big_quiet_step (first | (go_at_call 21; with_reducible exact g2 _) | (go_at_call 22; with_reducible exact g3 _) | (go_at_call 20; with_reducible exact g4 _)) | quiet_step (first | (go_at_call 21; with_reducible exact g2 _) | (go_at_call 22; with_reducible exact g3 _) | (go_at_call 20; with_reducible exact g4 _)))
                refine wpQuiet_nil ?_
                intro u
                have hbu := bel_on' HBV.out u.below
                generalize u.w = u7 at hbu ⊢
                have HB7 := hide hbu
                clear hbu g1 g2 g3 g4 u hne HNM
                go_wp2
                go_roundw
                case rel => exact ⟨m + 1, by omega, by go_num, HB7⟩
                case measure => simp [Go.RowKit.intOf]; omega
              · have qm : ¬ (m : Int) < 8 := by omega
                have O := pmoney_any HKV.out (-1)
                rw [show monV s2 (-1) = 0 from if_neg (by decide)] at O
                have HF : Hid (∀ u, Below wr.heap.size wr u → Calls Try.prog 21 #[.pointer (some ⟨p, 0, none⟩), .int .i64 8] u fun e w' => e = .returned (.int .i64 0) ∧ Below u.heap.size u w') := fun u hu => by
                  have h1 := pallowed_any (HKV.out.on hu) 8
                  rw [show alwV s2 8 = 0 from HG4.out.da.out (by omega)] at h1
                  exact h1
                go_wp2_with (first
                  | (go_at_call 20; refine O.mono ?_; clear O; rintro e u7 ⟨rfl, hb7⟩; have F := HF.out u7 hb7; have HB7 := hide hb7; clear hb7)
                  | (go_at_call 21; refine F.mono ?_; clear F; rintro e u8 ⟨rfl, hb8⟩; have HB8 := hide (bel_on' HBV.out (bel_on' HB7.out hb8)); clear hb8))
                go_roundw
                case rel => exact ⟨j + 1, s2, by go_num, by omega, by omega, HK4.out.on HB8.out, HR4.out.on HB8.out, bel_on' HB4.out HB8.out⟩
                case measure => simp [Go.RowKit.intOf]; omega
          · by_cases d1 : d = 1
            · subst d1
              clear k2 k3
              obtain ⟨E2, hE2⟩ : ∃ E2, capE (toP s) id = E2 := ⟨_, rfl⟩
              obtain ⟨s2, hs2⟩ : ∃ s2, voidQ s id = s2 := ⟨_, rfl⟩
              have A := void_both HKD.out HWI.out hE2 hs2
              have NA : Hid (∀ u, Rg.Kept (Own2 b c) U.drew u → u.cell? ⟨wr.heap.size, 1, none⟩ = some (.int .i64 id) ∧ Rp w.heap.size u q x y (toP s) j ∧ Below w.heap.size w u ∧
                  Calls Try.prog 15 #[.pointer (some ⟨q, 0, none⟩), .int .i64 id] u fun e w' => e = .returned (.int .i64 E2) ∧ Rp w.heap.size w' q x y (toP s2) (j + 1) ∧ Rg.Kept (Own3 q x y) u w') := fun u ho => by
                have h1 := HRD.out.far ho HF6.out
                have h4 := rvoid_both h1 HG.out HWI.out hE2 hs2
                have hn : ∀ o, ¬ Own2 b c wr.heap.size o := fun _ e => e.elim HNE.out.1.1 HNE.out.1.2
                exact ⟨kept_cell ho hn (cellL k1 hbD), h1, HBD.out.trans (HKD.out.bel ho), h4⟩
              have NB : Hid (∀ u u', Pk w.heap.size u p b c s2 (j + 1) → Rp w.heap.size u q x y (toP s) j → u.cell? ⟨wr.heap.size, 1, none⟩ = some (.int .i64 id) → Rg.Kept (Own3 q x y) u u' → (u'.cell? ⟨wr.heap.size, 1, none⟩ = some (.int .i64 id) ∧ Pk w.heap.size u' p b c s2 (j + 1) ∧ Below w.heap.size u u')) := fun u u' x1 x2 x3 ho => by
                have hn : ∀ o, ¬ Own3 q x y wr.heap.size o := fun _ e => e.elim HNE.out.2.1 (fun e => e.elim HNE.out.2.2.1 HNE.out.2.2.2)
                exact ⟨kept_cell ho hn x3, x1.far ho HF6.out, x2.bel ho⟩
              clear hE2 hs2 hbD
              go_wp2_with fail
              rw [← HUW.out]
              go_region_held3 (fun w' => w'.cell? ⟨wr.heap.size, 1, none⟩ = some (.int .i64 id)) (go_keep) (first
                | (go_at_call 14; refine A.mono ?_; clear A; rintro e u3 ⟨rfl, hk3, ho3⟩; clear k1; obtain ⟨k1, hr3, hb3, A4⟩ := NA.out u3 ho3; have HK3 := hide hk3; have HR3 := hide hr3; have HB3 := hide hb3; have K12 := hide k1; clear hk3 hr3 hb3 ho3)
                | (go_at_call 15; refine A4.mono ?_; clear A4; rintro e u4 ⟨rfl, hr4, ho4⟩; clear k1; obtain ⟨k1, hk4, hb4⟩ := NB.out u3 u4 HK3.out HR3.out K12.out ho4; have HK4 := hide hk4; have HR4 := hide hr4; have HB4 := hide (HB3.out.trans hb4); clear hk4 hr4 ho4 hb4))
              have qE : (E2 == E2) = true := by simp
              clear NA NB

              have K1 := hide k1
              clear HKD HRD HBD HG HR3 HK3 HB3 K12 HBU
              have HG4 := hide HK4.out.good
              have hpn := HG4.out.gp.pnn id
              have P := ppaid_any HK4.out HWI.out
              obtain ⟨pv, hpv⟩ : ∃ pv, (toP s2).p id = pv := ⟨_, rfl⟩
              have hpo : (s2.d id).isSome = decide (pv ≠ 0) := by rw [HG4.out.dd.isSome, ← hpv]; rfl
              rw [hpo, show alw s2.d id = pv from hpv] at P
              rw [hpv] at hpn
              have hp0 : decide (pv ≠ 0) = decide (pv > 0) := by by_cases h : pv = 0 <;> simp [h]; omega
              rw [hp0] at P
              have H5 : Hid (∀ u, Below u4.heap.size u4 u → u.cell? ⟨wr.heap.size, 1, none⟩ = some (.int .i64 id) ∧ u.cell? ⟨q, 9, none⟩ = some (.int .i64 (tillQ s2)) ∧ u.cell? ⟨q, 10, none⟩ = some (.map (some y)) ∧ (Instr.lookup 38 (.map (some y)) (.int .i64 id) false).run Try.prog u = .ok (.int .i64 pv) u ∧
                  Calls Try.prog 19 #[.pointer (some ⟨p, 0, none⟩)] u fun e w' => e = .returned (.int .i64 (tillQ s2)) ∧ Below u.heap.size u w') := fun u hu => by
                have h1 := (HR4.out.on hu).2.2.2.look HWI.out
                rw [hpv] at h1
                exact ⟨cellL K1.out hu, (HR4.out.on hu).cellT, (HR4.out.on hu).cellP, h1, ptill_any (HK4.out.on hu)⟩
              obtain ⟨tl, htl⟩ : ∃ tl, tillQ s2 = tl := ⟨_, rfl⟩
              rw [htl] at H5
              clear hpo hpv hp0 htl
              go_wp2_with (first
                | (go_at_call 18; refine P.mono ?_; clear P; rintro e u5 ⟨rfl, hb5⟩; have HB5 := hide hb5; clear hb5))
              have qpv : (pv != pv) = false := by simp
              have qpb : (decide (pv > 0) != decide (pv > 0)) = false := by simp
              have qtl : (tl != tl) = false := by simp
              have hne : Nonempty (Later u5) := ⟨Later.now u5⟩
              have LT : ∀ u : Later u5, Below u4.heap.size u4 u.w := fun u => bel_on' HB5.out u.below
              have g1 : ∀ u : Later u5, u.w.cell? ⟨wr.heap.size, 1, none⟩ = some (.int .i64 id) := fun u => (H5.out u.w (LT u)).1
              have g9 : ∀ u : Later u5, u.w.cell? ⟨q, 9, none⟩ = some (.int .i64 tl) := fun u => (H5.out u.w (LT u)).2.1
              have g10 : ∀ u : Later u5, u.w.cell? ⟨q, 10, none⟩ = some (.map (some y)) := fun u => (H5.out u.w (LT u)).2.2.1
              have gl : ∀ u : Later u5, (Instr.lookup 38 (.map (some y)) (.int .i64 id) false).run Try.prog u.w = .ok (.int .i64 pv) u.w := fun u => (H5.out u.w (LT u)).2.2.2.1
              have gt : ∀ u : Later u5, Calls Try.prog 19 #[.pointer (some ⟨p, 0, none⟩)] u.w fun e w' => e = .returned (.int .i64 tl) ∧ ∃ u' : Later u5, w' = u'.w := fun u => calls_later u (H5.out u.w (LT u)).2.2.2.2
              clear LT
              refine region_later (by kernel_rfl) (by kernel_rfl) ?_
              repeat (first | go_big_quiet_step ((go_at_call 19; with_reducible exact gt _)) | quiet_step ((go_at_call 19; with_reducible exact gt _)))
              refine wpQuiet_nil ?_
              intro u
              have hbu := bel_on' HB5.out u.below
              generalize u.w = u6 at hbu ⊢
              have HB6 := hide hbu
              clear hbu g1 g9 g10 gl gt u hne
              go_wp2
              go_loopw [114] (fun kv vr => ∃ m : Nat, m ≤ 8 ∧ kv = .int .i64 (m : Int) ∧ Hid (Below u4.heap.size u4 vr)) (fun kv _ => (8 - Go.RowKit.intOf kv).toNat)
              case atStart => exact ⟨0, Nat.zero_le _, rfl, HB6⟩
              case round =>
                obtain ⟨m, hm, rfl, HBV⟩ := hrel
                clear HB6 H5
                have HKV := hide (HK4.out.on HBV.out)
                have HRV := hide (HR4.out.on HBV.out)
                by_cases h8 : m < 8
                · have qm : (m : Int) < 8 := by omega
                  have cm := HRV.out.cellM h8
                  have HNM : Hid (∀ u, Below wr.heap.size wr u → u.cell? ⟨q, m, none⟩ = some (.int .i64 ((toP s2).m m)) ∧ (Calls Try.prog 21 #[.pointer (some ⟨p, 0, none⟩), .int .i64 (m : Int)] u fun e w' => e = .returned (.int .i64 (alwV s2 m)) ∧ Below u.heap.size u w') ∧ (Calls Try.prog 22 #[.pointer (some ⟨q, 0, none⟩), .int .i64 (m : Int)] u fun e w' => e = .returned (.int .i64 (alwV s2 m)) ∧ Below u.heap.size u w') ∧ (Calls Try.prog 20 #[.pointer (some ⟨p, 0, none⟩), .int .i64 (m : Int)] u fun e w' => e = .returned (.int .i64 ((toP s2).m m)) ∧ Below u.heap.size u w')) := fun u hu => by
                    have h1 := pmoney_any (HKV.out.on hu) (m : Int)
                    rw [show monV s2 (m : Int) = (toP s2).m m from if_pos (isIt_iff.2 ⟨by omega, by omega⟩)] at h1
                    exact ⟨(HRV.out.on hu).cellM h8, pallowed_any (HKV.out.on hu) m, rallow_on (HRV.out.on hu) HG4.out m, h1⟩
                  obtain ⟨M, hM⟩ : ∃ M, (toP s2).m m = M := ⟨_, rfl⟩
                  obtain ⟨V, hV⟩ : ∃ V, alwV s2 m = V := ⟨_, rfl⟩
                  rw [hM] at HNM cm
                  rw [hV] at HNM
                  have qM : (M != M) = false := by simp
                  have qV : (V != V) = false := by simp
                  clear hM hV
                  have hne : Nonempty (Later wr) := ⟨Later.now wr⟩
                  have g1 : ∀ u : Later wr, u.w.cell? ⟨q, m, none⟩ = some (.int .i64 M) := fun u => (HNM.out u.w u.below).1
                  have g2 : ∀ u : Later wr, Calls Try.prog 21 #[.pointer (some ⟨p, 0, none⟩), .int .i64 (m : Int)] u.w fun e w' => e = .returned (.int .i64 V) ∧ ∃ u' : Later wr, w' = u'.w := fun u => calls_later u (HNM.out u.w u.below).2.1
                  have g3 : ∀ u : Later wr, Calls Try.prog 22 #[.pointer (some ⟨q, 0, none⟩), .int .i64 (m : Int)] u.w fun e w' => e = .returned (.int .i64 V) ∧ ∃ u' : Later wr, w' = u'.w := fun u => calls_later u (HNM.out u.w u.below).2.2.1
                  have g4 : ∀ u : Later wr, Calls Try.prog 20 #[.pointer (some ⟨p, 0, none⟩), .int .i64 (m : Int)] u.w fun e w' => e = .returned (.int .i64 M) ∧ ∃ u' : Later wr, w' = u'.w := fun u => calls_later u (HNM.out u.w u.below).2.2.2
                  clear cm
                  go_wp2_with fail
                  refine region_later (by kernel_rfl) (by kernel_rfl) ?_
                  repeat (first | go_big_quiet_step (first | (go_at_call 21; with_reducible exact g2 _) | (go_at_call 22; with_reducible exact g3 _) | (go_at_call 20; with_reducible exact g4 _)) | quiet_step (first | (go_at_call 21; with_reducible exact g2 _) | (go_at_call 22; with_reducible exact g3 _) | (go_at_call 20; with_reducible exact g4 _)))
                  refine wpQuiet_nil ?_
                  intro u
                  have hbu := bel_on' HBV.out u.below
                  generalize u.w = u7 at hbu ⊢
                  have HB7 := hide hbu
                  clear hbu g1 g2 g3 g4 u hne HNM
                  go_wp2
                  go_roundw
                  case rel => exact ⟨m + 1, by omega, by go_num, HB7⟩
                  case measure => simp [Go.RowKit.intOf]; omega
                · have qm : ¬ (m : Int) < 8 := by omega
                  have O := pmoney_any HKV.out (-1)
                  rw [show monV s2 (-1) = 0 from if_neg (by decide)] at O
                  have HF : Hid (∀ u, Below wr.heap.size wr u → Calls Try.prog 21 #[.pointer (some ⟨p, 0, none⟩), .int .i64 8] u fun e w' => e = .returned (.int .i64 0) ∧ Below u.heap.size u w') := fun u hu => by
                    have h1 := pallowed_any (HKV.out.on hu) 8
                    rw [show alwV s2 8 = 0 from HG4.out.da.out (by omega)] at h1
                    exact h1
                  go_wp2_with (first
                    | (go_at_call 20; refine O.mono ?_; clear O; rintro e u7 ⟨rfl, hb7⟩; have F := HF.out u7 hb7; have HB7 := hide hb7; clear hb7)
                    | (go_at_call 21; refine F.mono ?_; clear F; rintro e u8 ⟨rfl, hb8⟩; have HB8 := hide (bel_on' HBV.out (bel_on' HB7.out hb8)); clear hb8))
                  go_roundw
                  case rel => exact ⟨j + 1, s2, by go_num, by omega, by omega, HK4.out.on HB8.out, HR4.out.on HB8.out, bel_on' HB4.out HB8.out⟩
                  case measure => simp [Go.RowKit.intOf]; omega
            · have e0 : (d == 0) = false := by simp [d0]
              have e1 : (d == 1) = false := by simp [d1]
              clear d0 d1
              obtain ⟨E2, hE2⟩ : ∃ E2, alwE (toP s) id it qt = E2 := ⟨_, rfl⟩
              obtain ⟨s2, hs2⟩ : ∃ s2, alwQ s id it qt = s2 := ⟨_, rfl⟩
              have A := alw_both HKD.out HWI.out (by omega) hE2 hs2
              have NA : Hid (∀ u, Rg.Kept (Own2 b c) U.drew u → (u.cell? ⟨wr.heap.size, 1, none⟩ = some (.int .i64 id) ∧ u.cell? ⟨wr.heap.size, 2, none⟩ = some (.int .i64 it) ∧ u.cell? ⟨wr.heap.size, 3, none⟩ = some (.int .i64 qt)) ∧ Rp w.heap.size u q x y (toP s) j ∧ Below w.heap.size w u ∧
                  Calls Try.prog 17 #[.pointer (some ⟨q, 0, none⟩), .int .i64 id, .int .i64 it, .int .i64 qt] u fun e w' => e = .returned (.int .i64 E2) ∧ Rp w.heap.size w' q x y (toP s2) (j + 1) ∧ Rg.Kept (Own3 q x y) u w') := fun u ho => by
                have h1 := HRD.out.far ho HF6.out
                have h4 := ralw_both h1 HG.out HWI.out (by omega) hE2 hs2
                have hn : ∀ o, ¬ Own2 b c wr.heap.size o := fun _ e => e.elim HNE.out.1.1 HNE.out.1.2
                exact ⟨⟨kept_cell ho hn (cellL k1 hbD), kept_cell ho hn (cellL k2 hbD), kept_cell ho hn (cellL k3 hbD)⟩, h1, HBD.out.trans (HKD.out.bel ho), h4⟩
              have NB : Hid (∀ u u', Pk w.heap.size u p b c s2 (j + 1) → Rp w.heap.size u q x y (toP s) j → (u.cell? ⟨wr.heap.size, 1, none⟩ = some (.int .i64 id) ∧ u.cell? ⟨wr.heap.size, 2, none⟩ = some (.int .i64 it) ∧ u.cell? ⟨wr.heap.size, 3, none⟩ = some (.int .i64 qt)) → Rg.Kept (Own3 q x y) u u' → ((u'.cell? ⟨wr.heap.size, 1, none⟩ = some (.int .i64 id) ∧ u'.cell? ⟨wr.heap.size, 2, none⟩ = some (.int .i64 it) ∧ u'.cell? ⟨wr.heap.size, 3, none⟩ = some (.int .i64 qt)) ∧ Pk w.heap.size u' p b c s2 (j + 1) ∧ Below w.heap.size u u')) := fun u u' x1 x2 x3 ho => by
                have hn : ∀ o, ¬ Own3 q x y wr.heap.size o := fun _ e => e.elim HNE.out.2.1 (fun e => e.elim HNE.out.2.2.1 HNE.out.2.2.2)
                exact ⟨⟨kept_cell ho hn x3.1, kept_cell ho hn x3.2.1, kept_cell ho hn x3.2.2⟩, x1.far ho HF6.out, x2.bel ho⟩
              clear hE2 hs2 hbD
              go_wp2_with fail
              rw [← HUW.out]
              go_region_held3 (fun w' => (w'.cell? ⟨wr.heap.size, 1, none⟩ = some (.int .i64 id) ∧ w'.cell? ⟨wr.heap.size, 2, none⟩ = some (.int .i64 it) ∧ w'.cell? ⟨wr.heap.size, 3, none⟩ = some (.int .i64 qt))) (go_keep) (first
                | (go_at_call 16; refine A.mono ?_; clear A; rintro e u3 ⟨rfl, hk3, ho3⟩; clear k1 k2 k3; obtain ⟨⟨k1, k2, k3⟩, hr3, hb3, A4⟩ := NA.out u3 ho3; have HK3 := hide hk3; have HR3 := hide hr3; have HB3 := hide hb3; have K12 := hide (And.intro k1 (And.intro k2 k3)); clear hk3 hr3 hb3 ho3)
                | (go_at_call 17; refine A4.mono ?_; clear A4; rintro e u4 ⟨rfl, hr4, ho4⟩; clear k1 k2 k3; obtain ⟨⟨k1, k2, k3⟩, hk4, hb4⟩ := NB.out u3 u4 HK3.out HR3.out K12.out ho4; have HK4 := hide hk4; have HR4 := hide hr4; have HB4 := hide (HB3.out.trans hb4); clear hk4 hr4 ho4 hb4))
              have qE : (E2 == E2) = true := by simp
              clear NA NB
              clear k2 k3
              have K1 := hide k1
              clear HKD HRD HBD HG HR3 HK3 HB3 K12 HBU
              have HG4 := hide HK4.out.good
              have hpn := HG4.out.gp.pnn id
              have P := ppaid_any HK4.out HWI.out
              obtain ⟨pv, hpv⟩ : ∃ pv, (toP s2).p id = pv := ⟨_, rfl⟩
              have hpo : (s2.d id).isSome = decide (pv ≠ 0) := by rw [HG4.out.dd.isSome, ← hpv]; rfl
              rw [hpo, show alw s2.d id = pv from hpv] at P
              rw [hpv] at hpn
              have hp0 : decide (pv ≠ 0) = decide (pv > 0) := by by_cases h : pv = 0 <;> simp [h]; omega
              rw [hp0] at P
              have H5 : Hid (∀ u, Below u4.heap.size u4 u → u.cell? ⟨wr.heap.size, 1, none⟩ = some (.int .i64 id) ∧ u.cell? ⟨q, 9, none⟩ = some (.int .i64 (tillQ s2)) ∧ u.cell? ⟨q, 10, none⟩ = some (.map (some y)) ∧ (Instr.lookup 38 (.map (some y)) (.int .i64 id) false).run Try.prog u = .ok (.int .i64 pv) u ∧
                  Calls Try.prog 19 #[.pointer (some ⟨p, 0, none⟩)] u fun e w' => e = .returned (.int .i64 (tillQ s2)) ∧ Below u.heap.size u w') := fun u hu => by
                have h1 := (HR4.out.on hu).2.2.2.look HWI.out
                rw [hpv] at h1
                exact ⟨cellL K1.out hu, (HR4.out.on hu).cellT, (HR4.out.on hu).cellP, h1, ptill_any (HK4.out.on hu)⟩
              obtain ⟨tl, htl⟩ : ∃ tl, tillQ s2 = tl := ⟨_, rfl⟩
              rw [htl] at H5
              clear hpo hpv hp0 htl
              go_wp2_with (first
                | (go_at_call 18; refine P.mono ?_; clear P; rintro e u5 ⟨rfl, hb5⟩; have HB5 := hide hb5; clear hb5))
              have qpv : (pv != pv) = false := by simp
              have qpb : (decide (pv > 0) != decide (pv > 0)) = false := by simp
              have qtl : (tl != tl) = false := by simp
              have hne : Nonempty (Later u5) := ⟨Later.now u5⟩
              have LT : ∀ u : Later u5, Below u4.heap.size u4 u.w := fun u => bel_on' HB5.out u.below
              have g1 : ∀ u : Later u5, u.w.cell? ⟨wr.heap.size, 1, none⟩ = some (.int .i64 id) := fun u => (H5.out u.w (LT u)).1
              have g9 : ∀ u : Later u5, u.w.cell? ⟨q, 9, none⟩ = some (.int .i64 tl) := fun u => (H5.out u.w (LT u)).2.1
              have g10 : ∀ u : Later u5, u.w.cell? ⟨q, 10, none⟩ = some (.map (some y)) := fun u => (H5.out u.w (LT u)).2.2.1
              have gl : ∀ u : Later u5, (Instr.lookup 38 (.map (some y)) (.int .i64 id) false).run Try.prog u.w = .ok (.int .i64 pv) u.w := fun u => (H5.out u.w (LT u)).2.2.2.1
              have gt : ∀ u : Later u5, Calls Try.prog 19 #[.pointer (some ⟨p, 0, none⟩)] u.w fun e w' => e = .returned (.int .i64 tl) ∧ ∃ u' : Later u5, w' = u'.w := fun u => calls_later u (H5.out u.w (LT u)).2.2.2.2
              clear LT
              refine region_later (by kernel_rfl) (by kernel_rfl) ?_
              repeat (first | go_big_quiet_step ((go_at_call 19; with_reducible exact gt _)) | quiet_step ((go_at_call 19; with_reducible exact gt _)))
              refine wpQuiet_nil ?_
              intro u
              have hbu := bel_on' HB5.out u.below
              generalize u.w = u6 at hbu ⊢
              have HB6 := hide hbu
              clear hbu g1 g9 g10 gl gt u hne
              go_wp2
              go_loopw [114] (fun kv vr => ∃ m : Nat, m ≤ 8 ∧ kv = .int .i64 (m : Int) ∧ Hid (Below u4.heap.size u4 vr)) (fun kv _ => (8 - Go.RowKit.intOf kv).toNat)
              case atStart => exact ⟨0, Nat.zero_le _, rfl, HB6⟩
              case round =>
                obtain ⟨m, hm, rfl, HBV⟩ := hrel
                clear HB6 H5
                have HKV := hide (HK4.out.on HBV.out)
                have HRV := hide (HR4.out.on HBV.out)
                by_cases h8 : m < 8
                · have qm : (m : Int) < 8 := by omega
                  have cm := HRV.out.cellM h8
                  have HNM : Hid (∀ u, Below wr.heap.size wr u → u.cell? ⟨q, m, none⟩ = some (.int .i64 ((toP s2).m m)) ∧ (Calls Try.prog 21 #[.pointer (some ⟨p, 0, none⟩), .int .i64 (m : Int)] u fun e w' => e = .returned (.int .i64 (alwV s2 m)) ∧ Below u.heap.size u w') ∧ (Calls Try.prog 22 #[.pointer (some ⟨q, 0, none⟩), .int .i64 (m : Int)] u fun e w' => e = .returned (.int .i64 (alwV s2 m)) ∧ Below u.heap.size u w') ∧ (Calls Try.prog 20 #[.pointer (some ⟨p, 0, none⟩), .int .i64 (m : Int)] u fun e w' => e = .returned (.int .i64 ((toP s2).m m)) ∧ Below u.heap.size u w')) := fun u hu => by
                    have h1 := pmoney_any (HKV.out.on hu) (m : Int)
                    rw [show monV s2 (m : Int) = (toP s2).m m from if_pos (isIt_iff.2 ⟨by omega, by omega⟩)] at h1
                    exact ⟨(HRV.out.on hu).cellM h8, pallowed_any (HKV.out.on hu) m, rallow_on (HRV.out.on hu) HG4.out m, h1⟩
                  obtain ⟨M, hM⟩ : ∃ M, (toP s2).m m = M := ⟨_, rfl⟩
                  obtain ⟨V, hV⟩ : ∃ V, alwV s2 m = V := ⟨_, rfl⟩
                  rw [hM] at HNM cm
                  rw [hV] at HNM
                  have qM : (M != M) = false := by simp
                  have qV : (V != V) = false := by simp
                  clear hM hV
                  have hne : Nonempty (Later wr) := ⟨Later.now wr⟩
                  have g1 : ∀ u : Later wr, u.w.cell? ⟨q, m, none⟩ = some (.int .i64 M) := fun u => (HNM.out u.w u.below).1
                  have g2 : ∀ u : Later wr, Calls Try.prog 21 #[.pointer (some ⟨p, 0, none⟩), .int .i64 (m : Int)] u.w fun e w' => e = .returned (.int .i64 V) ∧ ∃ u' : Later wr, w' = u'.w := fun u => calls_later u (HNM.out u.w u.below).2.1
                  have g3 : ∀ u : Later wr, Calls Try.prog 22 #[.pointer (some ⟨q, 0, none⟩), .int .i64 (m : Int)] u.w fun e w' => e = .returned (.int .i64 V) ∧ ∃ u' : Later wr, w' = u'.w := fun u => calls_later u (HNM.out u.w u.below).2.2.1
                  have g4 : ∀ u : Later wr, Calls Try.prog 20 #[.pointer (some ⟨p, 0, none⟩), .int .i64 (m : Int)] u.w fun e w' => e = .returned (.int .i64 M) ∧ ∃ u' : Later wr, w' = u'.w := fun u => calls_later u (HNM.out u.w u.below).2.2.2
                  clear cm
                  go_wp2_with fail
                  refine region_later (by kernel_rfl) (by kernel_rfl) ?_
                  repeat (first | go_big_quiet_step (first | (go_at_call 21; with_reducible exact g2 _) | (go_at_call 22; with_reducible exact g3 _) | (go_at_call 20; with_reducible exact g4 _)) | quiet_step (first | (go_at_call 21; with_reducible exact g2 _) | (go_at_call 22; with_reducible exact g3 _) | (go_at_call 20; with_reducible exact g4 _)))
                  refine wpQuiet_nil ?_
                  intro u
                  have hbu := bel_on' HBV.out u.below
                  generalize u.w = u7 at hbu ⊢
                  have HB7 := hide hbu
                  clear hbu g1 g2 g3 g4 u hne HNM
                  go_wp2
                  go_roundw
                  case rel => exact ⟨m + 1, by omega, by go_num, HB7⟩
                  case measure => simp [Go.RowKit.intOf]; omega
                · have qm : ¬ (m : Int) < 8 := by omega
                  have O := pmoney_any HKV.out (-1)
                  rw [show monV s2 (-1) = 0 from if_neg (by decide)] at O
                  have HF : Hid (∀ u, Below wr.heap.size wr u → Calls Try.prog 21 #[.pointer (some ⟨p, 0, none⟩), .int .i64 8] u fun e w' => e = .returned (.int .i64 0) ∧ Below u.heap.size u w') := fun u hu => by
                    have h1 := pallowed_any (HKV.out.on hu) 8
                    rw [show alwV s2 8 = 0 from HG4.out.da.out (by omega)] at h1
                    exact h1
                  go_wp2_with (first
                    | (go_at_call 20; refine O.mono ?_; clear O; rintro e u7 ⟨rfl, hb7⟩; have F := HF.out u7 hb7; have HB7 := hide hb7; clear hb7)
                    | (go_at_call 21; refine F.mono ?_; clear F; rintro e u8 ⟨rfl, hb8⟩; have HB8 := hide (bel_on' HBV.out (bel_on' HB7.out hb8)); clear hb8))
                  go_roundw
                  case rel => exact ⟨j + 1, s2, by go_num, by omega, by omega, HK4.out.on HB8.out, HR4.out.on HB8.out, bel_on' HB4.out HB8.out⟩
                  case measure => simp [Go.RowKit.intOf]; omega
        · have q100 : (j : Int) ≥ 100 := by omega
          have AW := pawake_any U
          rw [hU] at AW
          clear hca hc hok
          go_wp2_with (go_at_call 9; refine AW.mono ?_; rintro e u ⟨rfl, b3⟩)
          go_ret
          rw [← hU] at b3
          exact ⟨rfl, bel_on' HBU.out b3⟩
      · have ql : ¬ (j : Int) < (l1.length : Int) := by omega
        have AW := pawake_any wr
        go_wp2_with (go_at_call 9; refine AW.mono ?_; rintro e u ⟨rfl, b3⟩)
        go_ret
        exact ⟨rfl, bel_on' HB.out b3⟩
  · have q50 : (l0.length : Int) > 50 := by omega
    clear h50
    go_enter Try.func3, Try.ntmps3
    go_wp2_with (go_at_call 9; refine (pawake_any _).mono ?_; rintro e u7 ⟨rfl, b7⟩; have HB7 := hide b7; clear b7)
    go_ret
    exact ⟨rfl, HB7.out⟩
end Go.Proofs.Ytpahgoehpkohiaa
