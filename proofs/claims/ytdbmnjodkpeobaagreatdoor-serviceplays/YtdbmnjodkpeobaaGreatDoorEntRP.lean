/-
  Contract: the reference's Parse: the same relation as the program's Parse.
-/
import Derived.Test.YtdbmnjodkpeobaaGreatDoorEntNum
namespace Go.Proofs.YtdbmnjodkpeobaaGreatDoor
open Go.ChangeShapes Go.WideShapes Go.ChangeAt Go.RowKit

/-- The result's block and the block of 'none' lie as they were laid. -/
def NSt (w u : World) : Prop :=
  Below w.heap.size w u ∧
  u.heap[w.heap.size]? = some (.cells #[.string ⟨#[]⟩, .int .i64 0, .slice none 0 0] 70 (0, 0)) ∧
  u.heap[w.heap.size + 1]? = some (.cells #[.string ⟨#[]⟩, .int .i64 0, .slice none 0 0] 70 (0, 0))

theorem NSt.start (w : World) : NSt w ((w.alloc (.cells #[.string ⟨#[]⟩, .int .i64 0, .slice none 0 0] 70)).alloc (.cells #[.string ⟨#[]⟩, .int .i64 0, .slice none 0 0] 70)) := by
  refine ⟨((Below.refl _ _).alloc (Nat.le_refl _) _).alloc (by simp) _, ?_, ?_⟩
  · show ((w.heap.push _).push _)[w.heap.size]? = _
    simp [Array.getElem?_push]
  · show ((w.heap.push _).push _)[w.heap.size + 1]? = _
    rw [Array.getElem?_push]
    simp
theorem NSt.lt {w u : World} (h : NSt w u) : w.heap.size + 2 ≤ u.heap.size := by
  obtain ⟨_, _, h3⟩ := h
  by_cases hlt : w.heap.size + 1 < u.heap.size
  · omega
  · rw [Array.getElem?_eq_none (by omega)] at h3; cases h3
theorem NSt.on {w u v : World} (h : NSt w u) (hb : Below u.heap.size u v) : NSt w v := by
  have hl := h.lt
  obtain ⟨h1, h2, h3⟩ := h
  exact ⟨bel_on' h1 hb, (hb.block _ (by omega)).trans h2, (hb.block _ (by omega)).trans h3⟩
theorem NSt.cells {w u : World} (h : NSt w u) :
    (u.cell? ⟨w.heap.size + 1, 0, none⟩ = some (.string ⟨#[]⟩) ∧ u.cell? ⟨w.heap.size + 1, 1, none⟩ = some (.int .i64 0) ∧ u.cell? ⟨w.heap.size + 1, 2, none⟩ = some (.slice none 0 0)) ∧
    (u.cell? ⟨w.heap.size, 0, none⟩ = some (.string ⟨#[]⟩) ∧ u.cell? ⟨w.heap.size, 1, none⟩ = some (.int .i64 0) ∧ u.cell? ⟨w.heap.size, 2, none⟩ = some (.slice none 0 0)) ∧
    u.frozen? ⟨w.heap.size, 0, none⟩ = false ∧ u.frozen? ⟨w.heap.size, 1, none⟩ = false ∧ u.frozen? ⟨w.heap.size, 2, none⟩ = false := by
  obtain ⟨_, h2, h3⟩ := h
  refine ⟨⟨?_, ?_, ?_⟩, ⟨?_, ?_, ?_⟩, frozen_of_row _ _ _ _ _ h2, frozen_of_row _ _ _ _ _ h2, frozen_of_row _ _ _ _ _ h2⟩
  all_goals first | (rw [cell_of h2]; rfl) | (rw [cell_of h3]; rfl)

/-- The entry that is being read, in the block behind v. -/
def GSt (v u : World) (k : ByteArray) (id : Int) (l : List Int) (nv : Value) : Prop :=
  Below v.heap.size v u ∧ v.heap.size + 1 ≤ u.heap.size ∧
  u.heap[v.heap.size]? = some (.cells #[.string k, .int .i64 id, nv] 70 (0, 0)) ∧
  u.ownsRow (v.heap.size + 1) 3 1 nv l.length (l.map (Value.int .i64))
theorem GSt.start (v : World) (k : ByteArray) : GSt v (v.alloc (.cells #[.string k, .int .i64 0, .slice none 0 0] 70)) k 0 [] (.slice none 0 0) := by
  refine ⟨(Below.refl _ _).alloc (Nat.le_refl _) _, by simp, ?_, rfl, .inl ⟨rfl, rfl⟩⟩
  show (v.heap.push _)[v.heap.size]? = _
  simp
theorem GSt.on {v u u' : World} {k : ByteArray} {id : Int} {l : List Int} {nv : Value} (h : GSt v u k id l nv) (hb : Below u.heap.size u u') : GSt v u' k id l nv := by
  obtain ⟨h1, h2, h3, h4⟩ := h
  exact ⟨bel_on' h1 hb, Nat.le_trans h2 hb.size, (hb.block _ (by omega)).trans h3, owned_on h4 hb⟩
theorem GSt.set1 {v u : World} {k : ByteArray} {id : Int} {l : List Int} {nv : Value} (h : GSt v u k id l nv) (id' : Int) : GSt v (u.setCell ⟨v.heap.size, 1, none⟩ (.int .i64 id')) k id' l nv := by
  obtain ⟨h1, h2, h3, h4⟩ := h
  refine ⟨h1.setCell (by simp) _, by simpa using h2, ?_, owned_set h4 _ _ (by simp)⟩
  rw [heap_setCell_same _ _ _ _ _ _ h3]; simp
theorem GSt.bel {v u u' : World} {k : ByteArray} {id : Int} {l : List Int} {nv : Value} (h : GSt v u k id l nv) (g : u.grownBy u' nv.ownBlock) : Below (v.heap.size + 1) u u' := by
  obtain ⟨h1, h2, h3, h4⟩ := h
  exact (Below.refl _ _).grown g h2 (fun j hj => (h4.lt j hj).1)
theorem GSt.app {v u u' : World} {k : ByteArray} {id : Int} {l l' : List Int} {nv nv' : Value} (h : GSt v u k id l nv) (g : u.grownBy u' nv.ownBlock) (o : u'.ownsRow (v.heap.size + 1) 3 1 nv' l'.length (l'.map (Value.int .i64))) :
    GSt v (u'.setCell ⟨v.heap.size, 2, none⟩ nv') k id l' nv' := by
  have hb := h.bel g
  obtain ⟨h1, h2, h3, h4⟩ := h
  have hs := hb.size
  refine ⟨(h1.trans (hb.mono (by omega))).setCell (by simp) _, by simp; omega, ?_, owned_set o _ _ (by simp)⟩
  rw [heap_setCell_same _ _ _ _ _ _ ((hb.block _ (by omega)).trans h3)]; simp
theorem GSt.still {v u u' : World} {k : ByteArray} {id : Int} {l : List Int} {nv : Value} (h : GSt v u k id l nv) (g : u.grownBy u' nv.ownBlock) : u'.cell? ⟨v.heap.size, 2, none⟩ = some nv ∧ u'.frozen? ⟨v.heap.size, 2, none⟩ = false := by
  have hb := h.bel g
  obtain ⟨h1, h2, h3, h4⟩ := h
  have e := (hb.block v.heap.size (by omega)).trans h3
  exact ⟨by rw [cell_of e]; rfl, frozen_of_row _ _ _ _ _ e⟩
theorem GSt.cells {v u : World} {k : ByteArray} {id : Int} {l : List Int} {nv : Value} (h : GSt v u k id l nv) :
    u.cell? ⟨v.heap.size, 0, none⟩ = some (.string k) ∧ u.cell? ⟨v.heap.size, 1, none⟩ = some (.int .i64 id) ∧ u.cell? ⟨v.heap.size, 2, none⟩ = some nv ∧ u.frozen? ⟨v.heap.size, 1, none⟩ = false := by
  obtain ⟨h1, h2, h3, h4⟩ := h
  refine ⟨?_, ?_, ?_, frozen_of_row _ _ _ _ _ h3⟩
  all_goals (rw [cell_of h3]; rfl)

theorem from_cut {ws : List ByteArray} {t k : ByteArray} {id : Int} {l : List Int} {b : Bool} (e : ws.map (·.data.toList) = cutW t.data.toList) (h : FromR ws k id l b) : FromR (cutB t) k id l b := by
  unfold FromR at h ⊢
  rw [e] at h
  rw [cutB_data]
  exact h
theorem words_small {ws : List ByteArray} {t : ByteArray} (ht : t.size ≤ 80) (e : ws.map (·.data.toList) = cutW t.data.toList) : ∀ x ∈ ws, x.size ≤ 80 := by
  intro x hx
  have hm : x.data.toList ∈ cutW t.data.toList := by rw [← e]; exact List.mem_map.2 ⟨x, hx, rfl⟩
  have hl : ∀ (n : Nat) (l : List UInt8), l.length ≤ n → ∀ y ∈ cutW l, y.length ≤ n := by
    intro n
    induction n with
    | zero => intro l h y hy; have := List.eq_nil_of_length_eq_zero (Nat.le_zero.1 h); subst this; simp [cutW] at hy; subst hy; simp
    | succ n ih =>
      intro l h y hy
      rcases cut_or l with hp | ⟨q, r, rfl, hp⟩
      · rw [cutW_plain hp] at hy; simp at hy; subst hy; exact h
      · rw [cutW_at hp] at hy
        rcases List.mem_cons.1 hy with rfl | hy
        · simp at h; omega
        · have := ih r (by simp at h; omega) y hy; omega
  have h1 := hl _ _ (Nat.le_refl _) _ hm
  have h2 : x.data.toList.length = x.size := Array.length_toList
  have h3 : t.data.toList.length = t.size := Array.length_toList
  omega
theorem from_many (ws : List ByteArray) (h6 : 6 < ws.length) (k : ByteArray) (id : Int) (l : List Int) : FromR ws k id l false := by
  refine ⟨(fun h => by cases h), fun k' id' l' hm e => ?_⟩
  have := congrArg List.length e
  have h4 := (may_parts hm).2.2.2.2.2.1
  simp [wordsL] at this
  omega

set_option maxRecDepth 100000 in
set_option maxHeartbeats 4000000 in
theorem ref_parse_anyF (s : ByteArray) (w : World) (hs : s.size ≤ 140737488355328) (hg : Gl w) :
    Calls Tryz.prog 50 #[.string s] w fun e w' => ∃ k id l av cv er, e = .returned (.tuple #[.agg #[.string k, .int .i64 id, .slice av l.length cv], .int .i64 er]) ∧ IntsF w.heap.size w' av l ∧ (l.length ≤ 1000 ∧ l.length ≤ cv) ∧ ParseR s k id l er ∧ Below w.heap.size w w' := by
  have HG : Hid (Gl w) := hg
  have HS : Hid (s.size ≤ 140737488355328) := hs
  obtain ⟨U, hU⟩ : ∃ U, U = (w.alloc (.cells #[.string ⟨#[]⟩, .int .i64 0, .slice none 0 0] 70)).alloc (.cells #[.string ⟨#[]⟩, .int .i64 0, .slice none 0 0] 70) := ⟨_, rfl⟩
  have HU : Hid (NSt w U) := by show NSt w U; rw [hU]; exact NSt.start w
  have HUW : Hid (U = (w.alloc (.cells #[.string ⟨#[]⟩, .int .i64 0, .slice none 0 0] 70)).alloc (.cells #[.string ⟨#[]⟩, .int .i64 0, .slice none 0 0] 70)) := hU
  clear hg hs hU
  by_cases h80 : (s.size : Int) > 80
  · have HP : Hid (ParseR s ⟨#[]⟩ 0 [] 2) := parse_long h80
    go_enter Tryz.func50, Tryz.ntmps50
    go_wp2
    refine bodyPost_ret (v := .tuple #[.agg #[.string ⟨#[]⟩, .int .i64 0, .slice none 0 0], .int .i64 2]) ?_ rfl ?_
    · rw [results_cell_tmp Tryz.results50]
      simp [go_sem]
    · exact ⟨⟨#[]⟩, 0, [], none, 0, 2, rfl, .inl rfl, by simp, HP.out, by have := HU.out.1; rw [HUW.out] at this; exact this⟩
  have h80' : s.size ≤ 80 := by omega
  have HR := ref_read_any s U HS.out
  rw [HUW.out] at HR
  have fin : ∀ (u : World) (er : Int), NSt w u → ∃ W, W = ((u.setCell ⟨w.heap.size, 0, none⟩ (.string ⟨#[]⟩)).setCell ⟨w.heap.size, 1, none⟩ (.int .i64 0)).setCell ⟨w.heap.size, 2, none⟩ (.slice none 0 0) ∧ W.cell? ⟨w.heap.size, 0, none⟩ = some (.string ⟨#[]⟩) ∧ W.cell? ⟨w.heap.size, 1, none⟩ = some (.int .i64 0) ∧ W.cell? ⟨w.heap.size, 2, none⟩ = some (.slice none 0 0) ∧ Below w.heap.size w W := fun u er hu => by
    obtain ⟨z0, z1, z2, hb⟩ := set3 u w.heap.size _ _ _ (.string ⟨#[]⟩) (.int .i64 0) (.slice none 0 0) hu.2.1 _ rfl
    exact ⟨_, rfl, z0, z1, z2, hu.1.trans hb⟩
  have FIN : Hid _ := fin
  clear fin
  cases hr : readB s
  · rw [hr] at HR
    have HP : Hid (ParseR s ⟨#[]⟩ 0 [] 3) := parse_wrong h80 hr
    go_enter Tryz.func50, Tryz.ntmps50
    go_wp2_with fail
    refine HR.mono ?_
    rintro e u1 ⟨rfl, hb1⟩
    have N1 : Hid (NSt w u1) := HU.out.on (by rw [HUW.out]; exact hb1)
    clear hb1 HR
    obtain ⟨⟨d0, d1, d2⟩, ⟨z0, z1, z2⟩, f0, f1, f2⟩ := N1.out.cells
    go_wp2
    obtain ⟨W, hW, y0, y1, y2, hbW⟩ := FIN.out u1 3 N1.out
    rw [← hW]
    refine bodyPost_ret (v := .tuple #[.agg #[.string ⟨#[]⟩, .int .i64 0, .slice none 0 0], .int .i64 3]) ?_ rfl ?_
    · rw [results_cell_tmp Tryz.results50]
      simp [go_sem, y0, y1, y2]
    · exact ⟨⟨#[]⟩, 0, [], none, 0, 3, rfl, .inl rfl, by simp, HP.out, hbW⟩
  rw [hr] at HR
  have HRB : Hid (readB s = true) := hr
  have H80 : Hid (¬ (s.size : Int) > 80) := h80
  have HV : Hid ((readV s).size ≤ 80) := readV_small h80'
  clear hr h80'
  obtain ⟨t, ht⟩ : ∃ t, readV s = t := ⟨_, rfl⟩
  rw [ht] at HR HV
  have HT : Hid (readV s = t) := ht
  clear ht
  go_enter Tryz.func50, Tryz.ntmps50
  go_wp2_with fail
  refine HR.mono ?_
  rintro e u1 ⟨rfl, hb1⟩
  have N1 : Hid (NSt w u1) := HU.out.on (by rw [HUW.out]; exact hb1)
  clear hb1 HR
  go_wp2_with fail
  refine (cuts_any t u1 (by have := HV.out; omega)).mono ?_
  rintro e u2 ⟨aw, cw, ws, rfl, hst, hmap, hcap, hlen, hb2⟩
  have N2 : Hid (NSt w u2) := N1.out.on hb2
  have HST : Hid (Strs u2 aw ws) := hst
  have HMP : Hid (ws.map (·.data.toList) = cutW t.data.toList) := hmap
  have HCP : Hid (ws.length ≤ cw) := hcap
  have HSM : Hid (∀ x ∈ ws, x.size ≤ 80) := words_small HV.out hmap
  have HNO : Hid (∀ k id l, FromR ws k id l false → ParseR s ⟨#[]⟩ 0 [] 2) := fun k id l h => parse_no (by have := H80.out; omega) HRB.out (by rw [HT.out]; exact from_cut HMP.out h)
  clear hb2 hst hmap hcap hlen N1
  obtain ⟨⟨d0, d1, d2⟩, ⟨z0, z1, z2⟩, f0, f1, f2⟩ := N2.out.cells
  by_cases c1 : (ws.length : Int) < 2
  · have HP : Hid (ParseR s ⟨#[]⟩ 0 [] 2) := HNO.out ⟨#[]⟩ 0 [] (from_few ws (by omega) _ _ _)
    go_wp2
    obtain ⟨W, hW, y0, y1, y2, hbW⟩ := FIN.out u2 2 N2.out
    rw [← hW]
    refine bodyPost_ret (v := .tuple #[.agg #[.string ⟨#[]⟩, .int .i64 0, .slice none 0 0], .int .i64 2]) ?_ rfl ?_
    · rw [results_cell_tmp Tryz.results50]
      simp [go_sem, y0, y1, y2]
    · exact ⟨⟨#[]⟩, 0, [], none, 0, 2, rfl, .inl rfl, by simp, HP.out, hbW⟩
  by_cases c2 : (ws.length : Int) > 6
  · have HP : Hid (ParseR s ⟨#[]⟩ 0 [] 2) := HNO.out ⟨#[]⟩ 0 [] (from_many ws (by omega) _ _ _)
    go_wp2
    obtain ⟨W, hW, y0, y1, y2, hbW⟩ := FIN.out u2 2 N2.out
    rw [← hW]
    refine bodyPost_ret (v := .tuple #[.agg #[.string ⟨#[]⟩, .int .i64 0, .slice none 0 0], .int .i64 2]) ?_ rfl ?_
    · rw [results_cell_tmp Tryz.results50]
      simp [go_sem, y0, y1, y2]
    · exact ⟨⟨#[]⟩, 0, [], none, 0, 2, rfl, .inl rfl, by simp, HP.out, hbW⟩
  obtain ⟨bw, ow, rfl, hwc⟩ : ∃ b o, aw = some ⟨b, o, none⟩ ∧ ∀ i, i < ws.length → u2.cell? ⟨b, o + i, none⟩ = some (.string (ws.getD i ByteArray.empty)) := by
    rcases HST.out with h | ⟨b, o, h1, h2⟩
    · subst h; simp at c1
    · exact ⟨b, o, h1, h2⟩
  have HWC : Hid _ := hwc
  have c0 : u2.cell? ⟨bw, ow, none⟩ = some (.string (ws.getD 0 ByteArray.empty)) := hwc 0 (by omega)
  obtain ⟨K, hK⟩ : ∃ K, ws.getD 0 ByteArray.empty = K := ⟨_, rfl⟩
  rw [hK] at c0
  have HK : Hid (ws.getD 0 ByteArray.empty = K) := hK
  clear hwc hK
  have c3 : (1 : Int) ≤ (ws.length : Int) := by omega
  have c4 : (ws.length : Int) ≤ (cw : Int) := by have := HCP.out; omega
  have c5 : (0 : Int) < (ws.length : Int) := by omega
  have HG0 : Hid _ := GSt.start u2 K
  have HP0 : Hid (Pre ws 1 K 0 []) := by
    show Pre ws 1 K 0 []
    have h1 : 0 < ws.length := by omega
    have h2 := pre_kind ws h1 0 (by have := HSM.out _ (List.getElem_mem h1); omega)
    have h3 : ws[0] = K := by rw [← HK.out]; simp [List.getD, h1]
    rwa [h3] at h2
  have HK8 : Hid (K.size ≤ maxLen) := by
    show K.size ≤ maxLen
    have h1 : 0 < ws.length := by omega
    have h3 : ws[0] = K := by rw [← HK.out]; simp [List.getD, h1]
    have := HSM.out _ (List.getElem_mem h1)
    rw [h3] at this
    unfold maxLen; omega
  clear d0 d1 d2 z0 z1 z2 f0 f1 f2
  go_wp2
  clear c0
  go_loopw [44] (fun i wr => ∃ (p : Nat) (id : Int) (l : List Int) (nv : Value), i = .int .i64 p ∧ p ≤ ws.length - 1 ∧ Hid (GSt u2 wr K id l nv) ∧ Hid (Pre ws (p + 1) K id l)) (fun i _ => ws.length - (intOf i).toNat)
  case atStart => exact ⟨0, 0, [], .slice none 0 0, rfl, Nat.zero_le _, HG0.out, HP0.out⟩
  case round =>
    obtain ⟨p, id, l, nv, rfl, hp, HF, HP⟩ := hrel
    by_cases hlt : p < ws.length - 1
    · have hlt1 : p + 1 < ws.length := by omega
      have ql : (p : Int) < ((ws.length - 1 : Nat) : Int) := by omega
      obtain ⟨x, ex⟩ : ∃ x, x = ws.getD (p + 1) ByteArray.empty := ⟨_, rfl⟩
      have hx : wr.cell? ⟨bw, ow + 1 + p, none⟩ = some (.string x) := by
        have h1 := HWC.out (p + 1) hlt1
        rw [← ex, show ow + (p + 1) = ow + 1 + p by omega] at h1
        exact cellL h1 HF.out.1
      have HX : Hid (ws[p + 1] = x) := by show _ = _; rw [ex]; simp [List.getD, hlt1]
      have HXS : Hid (x.size ≤ 1000) := by show _ ≤ _; have := HSM.out _ (List.getElem_mem hlt1); rw [HX.out] at this; omega
      clear ex
      go_wp2_with fail
      refine (ref_number_any x _ HXS.out (HG.out.on (bel_on' N2.out.1 HF.out.1))).mono ?_
      rintro e w4 ⟨v, bb, rfl, hnum, hb4⟩
      have HF4 : Hid (GSt u2 w4 K id l nv) := HF.out.on hb4
      have HNU : Hid (NumR x v bb) := hnum
      clear hnum hb4 hx
      cases bb
      · have HPR : Hid (ParseR s ⟨#[]⟩ 0 [] 2) := HNO.out ⟨#[]⟩ 0 [] (from_stop ws (by omega) hlt1 (by rw [HX.out]; exact HNU.out) _ _ _)
        have N4 : Hid (NSt w w4) := N2.out.on HF4.out.1
        obtain ⟨⟨d0, d1, d2⟩, ⟨z0, z1, z2⟩, f0, f1, f2⟩ := N4.out.cells
        go_wp2
        obtain ⟨W, hW, y0, y1, y2, hbW⟩ := FIN.out w4 2 N4.out
        rw [← hW]
        refine bodyPost_ret (v := .tuple #[.agg #[.string ⟨#[]⟩, .int .i64 0, .slice none 0 0], .int .i64 2]) ?_ rfl ?_
        · rw [results_cell_tmp Tryz.results50]
          simp [go_sem, y0, y1, y2]
        · exact ⟨⟨#[]⟩, 0, [], none, 0, 2, rfl, .inl rfl, by simp, HPR.out, hbW⟩
      · have HV2 : Hid (ws[p + 1].data.toList = Lib.itoa v) := by show _ = _; rw [HX.out]; exact (HNU.out.1 rfl).1
        obtain ⟨d0, d1, d2, f1⟩ := HF4.out.cells
        by_cases h1 : p = 0
        · have q1 : ((p : Int) == 0) = true := by simp; omega
          have HP2 : Hid (Pre ws (p + 1 + 1) K v l) := by
            show Pre ws (p + 1 + 1) K v l
            have e1 := HP.out
            have e2 := HV2.out
            subst h1
            exact pre_id ws hlt1 e1 e2
          have HF5 : Hid _ := HF4.out.set1 v
          clear h1
          go_wp2
          go_roundw
          case rel => exact ⟨p + 1, v, l, nv, by go_num, by omega, HF5, HP2⟩
          case measure => simp [intOf]; omega
        · have q1 : ((p : Int) == 0) = false := by simp; omega
          have HP2 : Hid _ := pre_num ws (by omega) hlt1 HP.out HV2.out
          have HLL : Hid (l.length ≤ 1000) := by show _ ≤ _; have := HP.out.2.1; omega
          have HF5 : Hid (GSt u2 (w4.alloc (.cells #[.int .i64 v] 3)) K id l nv) := HF4.out.on ((Below.refl _ _).alloc (Nat.le_refl _) _)
          go_wp2_with (first
            | (at_builtin; refine append_nums rfl (.tmp 62) (.tmp 64) rfl (u2.heap.size + 1) nv l.length l rfl HF5.out.2.2.2 ⟨w4.heap.size, 0, none⟩ 1 1 [v] rfl rfl (ints_one w4 v) ?hnn ?hba ?_; (case hnn => have := HLL.out; omega); (case hba => exact HF5.out.2.1); intro v6 w6 o6 g6; obtain ⟨a6, c6, rfl, -, -⟩ := owned_nums o6; obtain ⟨d6, f6⟩ := HF5.out.still g6; have HF6 : Hid _ := HF5.out.app (l' := l ++ [v]) g6 (by simpa using o6); clear o6 g6))
          go_roundw
          case rel => exact ⟨p + 1, id, l ++ [v], _, by go_num, by omega, HF6, HP2⟩
          case measure => simp [intOf]; omega
    · have en : p + 1 = ws.length := by omega
      have ql : ¬ (p : Int) < ((ws.length - 1 : Nat) : Int) := by omega
      have HFE : Hid (FromR ws K id l (mayB K id l)) := by
        show FromR ws K id l (mayB K id l)
        have h1 := HP.out
        rw [en] at h1
        exact from_end ws h1 (by omega)
      obtain ⟨av, cv, rfl, hll, hin⟩ := owned_numsF HF.out.2.2.2
      have HIN : Hid (IntsF (u2.heap.size + 1) wr av l) := hin
      have HLL : Hid (l.length ≤ 1000 ∧ l.length ≤ cv) := ⟨by have := HP.out.2.1; omega, hll.2⟩
      obtain ⟨d0, d1, d2, f1⟩ := HF.out.cells
      have TM := ref_may_any K id av l cv wr HK8.out HIN.out.ints (by have := HLL.out.1; omega)
      clear hin hll HP en
      cases hm : mayB K id l
      · rw [hm] at TM HFE
        have HPR : Hid (ParseR s ⟨#[]⟩ 0 [] 2) := HNO.out _ _ _ HFE.out
        go_wp2_with fail
        refine TM.mono ?_
        rintro e w4 ⟨rfl, hb4⟩
        have N4 : Hid (NSt w w4) := N2.out.on (bel_on' HF.out.1 hb4)
        clear hb4 TM d0 d1 d2 f1
        obtain ⟨⟨d0, d1, d2⟩, ⟨z0, z1, z2⟩, f0, f1, f2⟩ := N4.out.cells
        go_wp2
        obtain ⟨W, hW, y0, y1, y2, hbW⟩ := FIN.out w4 2 N4.out
        rw [← hW]
        refine bodyPost_ret (v := .tuple #[.agg #[.string ⟨#[]⟩, .int .i64 0, .slice none 0 0], .int .i64 2]) ?_ rfl ?_
        · rw [results_cell_tmp Tryz.results50]
          simp [go_sem, y0, y1, y2]
        · exact ⟨⟨#[]⟩, 0, [], none, 0, 2, rfl, .inl rfl, by simp, HPR.out, hbW⟩
      · rw [hm] at TM HFE
        have HPR : Hid (ParseR s K id l 0) := parse_yes (by have := H80.out; omega) HRB.out (by rw [HT.out]; exact from_cut HMP.out HFE.out)
        go_wp2_with fail
        refine TM.mono ?_
        rintro e w4 ⟨rfl, hb4⟩
        have N4 : Hid (NSt w w4) := N2.out.on (bel_on' HF.out.1 hb4)
        have HF4 : Hid (GSt u2 w4 K id l (.slice av l.length cv)) := HF.out.on hb4
        clear hb4 TM d0 d1 d2 f1
        obtain ⟨d0, d1, d2, -⟩ := HF4.out.cells
        obtain ⟨-, ⟨z0, z1, z2⟩, f0, f1, f2⟩ := N4.out.cells
        go_wp2
        obtain ⟨W, hW⟩ : ∃ W, W = ((w4.setCell ⟨w.heap.size, 0, none⟩ (.string K)).setCell ⟨w.heap.size, 1, none⟩ (.int .i64 id)).setCell ⟨w.heap.size, 2, none⟩ (.slice av l.length cv) := ⟨_, rfl⟩
        rw [← hW]
        obtain ⟨y0, y1, y2, hbW⟩ := set3 w4 w.heap.size _ _ _ _ _ _ N4.out.2.1 W hW
        obtain ⟨av', cv', e', hll4, hin4⟩ := owned_numsF HF4.out.2.2.2
        cases e'
        refine bodyPost_ret (v := .tuple #[.agg #[.string K, .int .i64 id, .slice av l.length cv], .int .i64 0]) ?_ rfl ?_
        · rw [results_cell_tmp Tryz.results50]
          simp [go_sem, y0, y1, y2]
        · refine ⟨K, id, l, av, cv, 0, rfl, (hin4.moveF (fun kk hkk _ => ?_)).lower (by have := N2.out.lt; omega), HLL.out, HPR.out, N4.out.1.trans hbW⟩
          have := N2.out.lt
          subst hW
          rw [Below.heap_setCell _ _ _ _ (by simp; omega), Below.heap_setCell _ _ _ _ (by simp; omega), Below.heap_setCell _ _ _ _ (by simp; omega)]
theorem ref_parse_any (s : ByteArray) (w : World) (hs : s.size ≤ 140737488355328) (hg : Gl w) :
    Calls Tryz.prog 50 #[.string s] w fun e w' => ∃ k id l av cv er, e = .returned (.tuple #[.agg #[.string k, .int .i64 id, .slice av l.length cv], .int .i64 er]) ∧ Ints w' av l ∧ (l.length ≤ 1000 ∧ l.length ≤ cv) ∧ ParseR s k id l er ∧ Below w.heap.size w w' :=
  (ref_parse_anyF s w hs hg).mono fun _ _ ⟨k, id, l, av, cv, er, h1, h2, h3, h4, h5⟩ => ⟨k, id, l, av, cv, er, h1, h2.ints, h3, h4, h5⟩
end Go.Proofs.YtdbmnjodkpeobaaGreatDoor
