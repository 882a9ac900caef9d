/-
  Contract: the reference's Text.
-/
import Derived.Test.YteefmibnkfojiaaDoorOrdF
import Derived.Test.YteefmibnkfojiaaDoorOrdQ
import Derived.Test.YteefmibnkfojiaaDoorGlobO
import Derived.Test.YteefmibnkfojiaaDoorLater
namespace Go.Proofs.YteefmibnkfojiaaDoor
open Go.ChangeShapes Go.WideShapes Go.ChangeAt Go.RowKit

theorem byB_itoa (n : Int) : (⟨(Lib.itoa n).toArray⟩ : ByteArray) = byB (Lib.itoa n) := rfl
theorem head_bytes (o : Od) (y1 y2 y3 y4 y5 : ByteArray) (h1 : y1 = byB (Lib.itoa o.id)) (h2 : y2 = byB (Lib.itoa o.qty)) (h3 : y3 = byB (Lib.itoa o.item)) (h4 : y4 = byB (Lib.itoa o.price)) (h5 : y5 = byB (Lib.itoa o.client)) :
    (⟨#[35]⟩ : ByteArray) ++ y1 ++ ((⟨#[58, 32]⟩ : ByteArray)) ++ y2 ++ ((⟨#[120]⟩ : ByteArray)) ++ y3 ++ ((⟨#[32, 102, 111, 114, 32]⟩ : ByteArray)) ++ y4 ++ ((⟨#[32, 98, 121, 32]⟩ : ByteArray)) ++ y5 = byB (headL o) := by
  subst h1 h2 h3 h4 h5
  show byB kId ++ byB (Lib.itoa o.id) ++ byB kQty ++ byB (Lib.itoa o.qty) ++ byB kItem ++ byB (Lib.itoa o.item) ++ byB kPrice ++ byB (Lib.itoa o.price) ++ byB kClient ++ byB (Lib.itoa o.client) = _
  simp only [byB_append]
  congr 1
  simp [headL]
theorem step_bytes (L : List UInt8) (x1 x2 : Int) (y1 y2 : ByteArray) (h1 : y1 = byB (Lib.itoa x1)) (h2 : y2 = byB (Lib.itoa x2)) :
    byB L ++ ((⟨#[59, 32]⟩ : ByteArray) ++ y1 ++ (⟨#[42]⟩ : ByteArray) ++ y2) = byB (L ++ stepL (x1, x2)) := by
  subst h1 h2
  show byB L ++ (byB kSvc ++ byB (Lib.itoa x1) ++ byB kN ++ byB (Lib.itoa x2)) = _
  simp only [byB_append]
  congr 1
  simp [stepL]
theorem itoaS {n : Int} (h0 : 0 ≤ n) (h1 : n ≤ 1000000000) : (byB (Lib.itoa n)).size ≤ 11 := by rw [byB_size]; exact itoa_len10 h0 h1

set_option maxRecDepth 100000 in
set_option maxHeartbeats 4000000 in
theorem ref_text_any (o : Od) (a : Option Addr) (c : Nat) (w : World) (ha : Sts w a o.steps) (hl : o.steps.length ≤ 9223372036854775807) (hcap : o.steps.length ≤ c) (hg : Gl w) :
    Calls Tryd.prog 19 #[.agg #[.int .i64 o.id, .int .i64 o.item, .int .i64 o.qty, .int .i64 o.client, .int .i64 o.price, .slice a o.steps.length c]] w fun e w' => e = .returned (.string (byB (textV o))) ∧ Below w.heap.size w w' := by
  obtain ⟨V, hV⟩ : ∃ V, V = w.alloc (.cells #[.int .i64 o.id, .int .i64 o.item, .int .i64 o.qty, .int .i64 o.client, .int .i64 o.price, .slice a o.steps.length c] 24) := ⟨_, rfl⟩
  have hbV : Below w.heap.size w V := by rw [hV]; exact (Below.refl _ _).alloc (Nat.le_refl _) _
  have hVb : V.heap[w.heap.size]? = some (.cells #[.int .i64 o.id, .int .i64 o.item, .int .i64 o.qty, .int .i64 o.client, .int .i64 o.price, .slice a o.steps.length c] 24 (0, 0)) := by
    rw [hV]
    show (w.heap.push _)[w.heap.size]? = _
    simp
  have HM := ref_omay_any o a c V (ha.below hbV) hl hcap
  rw [hV] at HM
  have HV := hide hV
  have HBV := hide hbV
  have HVB := hide hVb
  have HI := hide ha
  have HG := hide hg
  clear hV hbV ha hg hVb
  unfold textV
  cases hm : mayO o
  · rw [hm] at HM
    have HE : Hid (byB [] = ⟨#[]⟩) := rfl
    go_enter Tryd.func19, Tryd.ntmps19
    go_wp2_with fail
    refine HM.mono ?_
    rintro e w1 ⟨rfl, hb1⟩
    rw [← HV.out] at hb1
    go_wp2
    go_ret
    exact ⟨rfl, bel_on' HBV.out hb1⟩
  rw [hm] at HM
  have HMB := hide hm
  obtain ⟨p1, p2, p3, p4, p5, p6, p7⟩ := mayO_parts hm
  have HP7 := hide p7
  clear p7 hm
  go_enter Tryd.func19, Tryd.ntmps19
  go_wp2_with fail
  refine HM.mono ?_
  rintro e w1 ⟨rfl, hb1⟩
  rw [← HV.out] at hb1
  have HC1 := hide (bel_on' HBV.out hb1)
  have HA1 := hide ((hb1.block _ (Array.getElem?_eq_some_iff.1 HVB.out).1).trans HVB.out)
  clear hb1 HM
  go_wp2_with fail
  obtain ⟨y1, hy1⟩ : ∃ y, y = byB (Lib.itoa o.id) := ⟨_, rfl⟩
  have hs1 : y1.size ≤ 11 := by rw [hy1]; exact itoaS (by omega) (by omega)
  have CI1 : ∀ u : Later w1, Calls Tryd.prog 31 #[.int .i64 o.id] u.w fun e w' => e = .returned (.string y1) ∧ ∃ u' : Later w1, w' = u'.w := fun u => calls_later u (by
    rw [hy1]; exact itoa_any o.id u.w (by omega) (by omega) (HG.out.on (bel_on' HC1.out u.below)))
  obtain ⟨y2, hy2⟩ : ∃ y, y = byB (Lib.itoa o.qty) := ⟨_, rfl⟩
  have hs2 : y2.size ≤ 11 := by rw [hy2]; exact itoaS (by omega) (by omega)
  have CI2 : ∀ u : Later w1, Calls Tryd.prog 31 #[.int .i64 o.qty] u.w fun e w' => e = .returned (.string y2) ∧ ∃ u' : Later w1, w' = u'.w := fun u => calls_later u (by
    rw [hy2]; exact itoa_any o.qty u.w (by omega) (by omega) (HG.out.on (bel_on' HC1.out u.below)))
  obtain ⟨y3, hy3⟩ : ∃ y, y = byB (Lib.itoa o.item) := ⟨_, rfl⟩
  have hs3 : y3.size ≤ 11 := by rw [hy3]; exact itoaS (by omega) (by omega)
  have CI3 : ∀ u : Later w1, Calls Tryd.prog 31 #[.int .i64 o.item] u.w fun e w' => e = .returned (.string y3) ∧ ∃ u' : Later w1, w' = u'.w := fun u => calls_later u (by
    rw [hy3]; exact itoa_any o.item u.w (by omega) (by omega) (HG.out.on (bel_on' HC1.out u.below)))
  obtain ⟨y4, hy4⟩ : ∃ y, y = byB (Lib.itoa o.price) := ⟨_, rfl⟩
  have hs4 : y4.size ≤ 11 := by rw [hy4]; exact itoaS (by omega) (by omega)
  have CI4 : ∀ u : Later w1, Calls Tryd.prog 31 #[.int .i64 o.price] u.w fun e w' => e = .returned (.string y4) ∧ ∃ u' : Later w1, w' = u'.w := fun u => calls_later u (by
    rw [hy4]; exact itoa_any o.price u.w (by omega) (by omega) (HG.out.on (bel_on' HC1.out u.below)))
  obtain ⟨y5, hy5⟩ : ∃ y, y = byB (Lib.itoa o.client) := ⟨_, rfl⟩
  have hs5 : y5.size ≤ 11 := by rw [hy5]; exact itoaS (by omega) (by omega)
  have CI5 : ∀ u : Later w1, Calls Tryd.prog 31 #[.int .i64 o.client] u.w fun e w' => e = .returned (.string y5) ∧ ∃ u' : Later w1, w' = u'.w := fun u => calls_later u (by
    rw [hy5]; exact itoa_any o.client u.w (by omega) (by omega) (HG.out.on (bel_on' HC1.out u.below)))
  have HHD := hide (head_bytes o y1 y2 y3 y4 y5 hy1 hy2 hy3 hy4 hy5)
  clear hy1 hy2 hy3 hy4 hy5
  have hne : Nonempty (Later w1) := ⟨Later.now w1⟩
  obtain ⟨⟨a0', a1', a2', a3', a4', a5'⟩, -⟩ := six_of HA1.out
  have lA0 := Later.cell a0'
  have lA1 := Later.cell a1'
  have lA2 := Later.cell a2'
  have lA3 := Later.cell a3'
  have lA4 := Later.cell a4'
  have lA5 := Later.cell a5'
  clear a0' a1' a2' a3' a4' a5'
  refine region_later (by kernel_rfl) (by kernel_rfl) ?_
  repeat (first | go_big_quiet_step (first | (go_at_call 31; with_reducible exact CI1 _) | (go_at_call 31; with_reducible exact CI2 _) | (go_at_call 31; with_reducible exact CI3 _) | (go_at_call 31; with_reducible exact CI4 _) | (go_at_call 31; with_reducible exact CI5 _)) | quiet_step (first | (go_at_call 31; with_reducible exact CI1 _) | (go_at_call 31; with_reducible exact CI2 _) | (go_at_call 31; with_reducible exact CI3 _) | (go_at_call 31; with_reducible exact CI4 _) | (go_at_call 31; with_reducible exact CI5 _)))
  refine wpQuiet_nil ?_
  intro u
  have hbu := u.below
  generalize u.w = w2 at hbu ⊢
  have HC2 := hide (bel_on' HC1.out hbu)
  have HA2 := hide ((hbu.block _ (Array.getElem?_eq_some_iff.1 HA1.out).1).trans HA1.out)
  clear hbu hne lA0 lA1 lA2 lA3 lA4 lA5
  clear CI1 CI2 CI3 CI4 CI5 hs1 hs2 hs3 hs4 hs5
  rw [HHD.out]
  obtain ⟨⟨d0, d1, d2, d3, d4, d5⟩, -⟩ := six_of HA2.out
  go_wp2_with fail
  clear d0 d1 d2 d3 d4 d5
  have HHL : Hid ((headL o).length ≤ 68) := by
    show _ ≤ _
    have b1 := itoa_len10 (n := o.id) (by omega) (by omega)
    have b2 := itoa_len10 (n := o.item) (by omega) (by omega)
    have b3 := itoa_len10 (n := o.qty) (by omega) (by omega)
    have b4 := itoa_len10 (n := o.client) (by omega) (by omega)
    have b5 := itoa_len10 (n := o.price) (by omega) (by omega)
    unfold headL kId kQty kItem kPrice kClient
    simp
    omega
  have H3 := hide p6
  clear HHD
  go_loopw [3, 36] (fun sv i wr => ∃ j : Nat, i = .int .i64 j ∧ j ≤ o.steps.length ∧ sv = .string (byB (headL o ++ stepsL (o.steps.take j))) ∧ Hid (Below w.heap.size w wr)) (fun _ i _ => o.steps.length - (intOf i).toNat)
  case atStart => exact ⟨0, rfl, Nat.zero_le _, by simp [stepsL], HC2⟩
  case round =>
    obtain ⟨j, rfl, hj, rfl, HR⟩ := hrel
    by_cases hlt : j < o.steps.length
    · obtain ⟨b, off, rfl, h0, h1⟩ := (HI.out.below HR.out).at hlt
      obtain ⟨hx1, hx2⟩ := HP7.out _ (stAt_mem hlt)
      obtain ⟨x1, e1⟩ : ∃ x, x = (stAt o.steps j).1 := ⟨_, rfl⟩
      obtain ⟨x2, e2⟩ : ∃ x, x = (stAt o.steps j).2 := ⟨_, rfl⟩
      rw [← e1] at h0 hx1
      rw [← e2] at h1 hx2
      obtain ⟨z1, hz1⟩ : ∃ y, y = byB (Lib.itoa x1) := ⟨_, rfl⟩
      have hq1 : z1.size ≤ 11 := by rw [hz1]; exact itoaS (by omega) (by omega)
      obtain ⟨z2, hz2⟩ : ∃ y, y = byB (Lib.itoa x2) := ⟨_, rfl⟩
      have hq2 : z2.size ≤ 11 := by rw [hz2]; exact itoaS (by omega) (by omega)
      obtain ⟨L, hL⟩ : ∃ L, L = headL o ++ stepsL (o.steps.take j) := ⟨_, rfl⟩
      have HNX : Hid (byB L ++ ((⟨#[59, 32]⟩ : ByteArray) ++ z1 ++ (⟨#[42]⟩ : ByteArray) ++ z2) = byB (headL o ++ stepsL (o.steps.take (j + 1)))) := by
        show _ = _
        rw [step_bytes L x1 x2 z1 z2 hz1 hz2]
        congr 1
        rw [List.take_succ_eq_append_getElem hlt, stepsL_append, ← stAt_get hlt, hL]
        simp [stepsL, e1, e2]
      have hLs : L.length ≤ 200 := by
        have h6 := stepsL_len (o.steps.take j) (fun x hx => by have := HP7.out x (List.mem_of_mem_take hx); omega)
        rw [hL]
        simp at h6 ⊢
        have := H3.out
        have := HHL.out
        omega
      rw [← hL]
      obtain ⟨S, hS⟩ : ∃ S, S = byB L := ⟨_, rfl⟩
      have hSs : S.size ≤ 200 := by rw [hS, byB_size]; exact hLs
      rw [← hS] at HNX ⊢
      clear e1 e2 hL hS hLs
      obtain ⟨U, hU⟩ : ∃ U, U = wr.alloc (.cells #[.int .i64 x1, .int .i64 x2] 37) := ⟨_, rfl⟩
      have HCU : Hid (Below w.heap.size w U) := by show Below w.heap.size w U; rw [hU]; exact HR.out.alloc HR.out.size _
      have y0' : U.cell? ⟨wr.heap.size, 0, none⟩ = some (.int .i64 x1) := by rw [hU]; simp
      have y1' : U.cell? ⟨wr.heap.size, 1, none⟩ = some (.int .i64 x2) := by rw [hU]; simp
      have HU := hide hU
      clear hU
      have hne : Nonempty (Later U) := ⟨Later.now U⟩
      have la0 := Later.cell y0'
      have la1 := Later.cell y1'
      clear y0' y1'
      have CI1 : ∀ u : Later U, Calls Tryd.prog 31 #[.int .i64 x1] u.w fun e w' => e = .returned (.string z1) ∧ ∃ u' : Later U, w' = u'.w := fun u => calls_later u (by
        rw [hz1]; exact itoa_any x1 u.w (by omega) (by omega) (HG.out.on (bel_on' HCU.out u.below)))
      have CI2 : ∀ u : Later U, Calls Tryd.prog 31 #[.int .i64 x2] u.w fun e w' => e = .returned (.string z2) ∧ ∃ u' : Later U, w' = u'.w := fun u => calls_later u (by
        rw [hz2]; exact itoa_any x2 u.w (by omega) (by omega) (HG.out.on (bel_on' HCU.out u.below)))
      clear hz1 hz2
      go_wp2_with fail
      rw [← HU.out]
      refine region_later (by kernel_rfl) (by kernel_rfl) ?_
      repeat (first | go_big_quiet_step (first | (go_at_call 31; with_reducible exact CI1 _) | (go_at_call 31; with_reducible exact CI2 _)) | quiet_step (first | (go_at_call 31; with_reducible exact CI1 _) | (go_at_call 31; with_reducible exact CI2 _)))
      refine wpQuiet_nil ?_
      intro u
      have HBu := hide (bel_on' HCU.out u.below)
      generalize u.w = wu at HBu ⊢
      rw [HNX.out]
      go_wp2
      go_roundw
      case rel => exact ⟨j + 1, by go_num, by omega, rfl, HBu⟩
      case measure => simp [intOf]; omega
    · have HE : Hid (byB (headL o ++ stepsL (o.steps.take j)) = byB (textL o)) := by show _ = _; rw [List.take_of_length_le (by omega)]; rfl
      rw [HE.out]
      go_wp2
      go_ret
      exact ⟨rfl, HR.out⟩
end Go.Proofs.YteefmibnkfojiaaDoor
