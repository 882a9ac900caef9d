/-
  Contract: entry.Parse: the entry whose line was signed, or the refusal that the document names.
-/
import Derived.Test.YtdbmnjodkpeobaaGreatDoorEntF
namespace Go.Proofs.YtdbmnjodkpeobaaGreatDoor
open Go.ChangeShapes Go.WideShapes Go.ChangeAt Go.RowKit

def ParseR (s k : ByteArray) (id : Int) (l : List Int) (er : Int) : Prop :=
  (er = 0 ∧ mayB k id l = true ∧ s.size ≤ 80 ∧ readB s = true ∧ readV s = txt k id l) ∨
  (er ≠ 0 ∧ k = ⟨#[]⟩ ∧ id = 0 ∧ l = [] ∧ (er = if 80 < s.size then 2 else if readB s = true then 2 else 3) ∧
    (s.size ≤ 80 → readB s = true → ∀ k' id' l', mayB k' id' l' = true → readV s ≠ txt k' id' l'))

theorem ParseR.uniq {s k k' : ByteArray} {id id' : Int} {l l' : List Int} {er er' : Int} (h : ParseR s k id l er) (h' : ParseR s k' id' l' er') : k = k' ∧ id = id' ∧ l = l' ∧ er = er' := by
  rcases h with ⟨a1, a2, a3, a4, a5⟩ | ⟨a1, a2, a3, a4, a5, a6⟩ <;> rcases h' with ⟨b1, b2, b3, b4, b5⟩ | ⟨b1, b2, b3, b4, b5, b6⟩
  · obtain ⟨c1, c2, c3⟩ := txt_inj a2 b2 (a5.symm.trans b5)
    exact ⟨c1, c2, c3, a1.trans b1.symm⟩
  · exact absurd a5 (b6 a3 a4 _ _ _ a2)
  · exact absurd b5 (a6 b3 b4 _ _ _ b2)
  · subst a2 a3 a4 b2 b3 b4
    exact ⟨rfl, rfl, rfl, a5.trans b5.symm⟩

theorem parse_long {s : ByteArray} (h : (s.size : Int) > 80) : ParseR s ⟨#[]⟩ 0 [] 2 :=
  .inr ⟨by decide, rfl, rfl, rfl, by rw [if_pos (by omega)], fun h' => by omega⟩
theorem parse_wrong {s : ByteArray} (h : ¬ (s.size : Int) > 80) (hr : readB s = false) : ParseR s ⟨#[]⟩ 0 [] 3 :=
  .inr ⟨by decide, rfl, rfl, rfl, by rw [if_neg (by omega), if_neg (by rw [hr]; decide)], fun _ h' => by rw [hr] at h'; cases h'⟩
theorem parse_no {s k : ByteArray} {id : Int} {l : List Int} (h : ¬ (s.size : Int) > 80) (hr : readB s = true) (hf : FromR (cutB (readV s)) k id l false) : ParseR s ⟨#[]⟩ 0 [] 2 := by
  refine .inr ⟨by decide, rfl, rfl, rfl, by rw [if_neg (by omega), if_pos hr], fun _ _ k' id' l' hm e => ?_⟩
  have := hf.2 k' id' l' hm (by rw [cutB_data, e, cut_txt hm])
  cases this
theorem parse_yes {s k : ByteArray} {id : Int} {l : List Int} (h : ¬ (s.size : Int) > 80) (hr : readB s = true) (hf : FromR (cutB (readV s)) k id l true) : ParseR s k id l 0 := by
  obtain ⟨h1, h2⟩ := hf.1 rfl
  rw [cutB_data] at h2
  exact .inl ⟨rfl, h1, by omega, hr, txt_of_words h2⟩

theorem zero_block (w : World) : (w.alloc (.cells #[.string ⟨#[]⟩, .int .i64 0, .slice none 0 0] 70)).heap[w.heap.size]? = some (.cells #[.string ⟨#[]⟩, .int .i64 0, .slice none 0 0] 70 (0, 0)) := by
  show (w.heap.push _)[w.heap.size]? = _
  simp

theorem cut_small {s : ByteArray} (h : s.size ≤ 80) : (cutB s).length ≤ 1000 ∧ ∀ x ∈ cutB s, x.size ≤ 281474976710656 := by
  constructor
  · rw [cutB_len]
    have := Lib.countB_le ⟨#[32]⟩ (by decide) s.size s (Nat.le_refl _)
    omega
  · intro x hx
    have e := cutB_data s
    have hm : x.data.toList ∈ cutW s.data.toList := by rw [← e]; exact List.mem_map.2 ⟨x, hx, rfl⟩
    have hl : ∀ (n : Nat) (l : List UInt8), l.length ≤ n → ∀ y ∈ cutW l, y.length ≤ n := by
      intro n
      induction n with
      | zero => intro l h y hy; have := List.eq_nil_of_length_eq_zero (Nat.le_zero.1 h); subst this; simp [cutW] at hy; subst hy; simp
      | succ n ih =>
        intro l h y hy
        rcases cut_or l with hp | ⟨q, r, rfl, hp⟩
        · rw [cutW_plain hp] at hy; simp at hy; subst hy; exact h
        · rw [cutW_at hp] at hy
          rcases List.mem_cons.1 hy with rfl | hy
          · simp at h; omega
          · have := ih r (by simp at h; omega) y hy; omega
    have h1 := hl _ _ (Nat.le_refl _) _ hm
    have h2 : x.data.toList.length = x.size := Array.length_toList
    have h3 : s.data.toList.length = s.size := Array.length_toList
    omega

theorem readV_small {s : ByteArray} (h : s.size ≤ 80) : (readV s).size ≤ 80 := by
  unfold readV
  split
  · unfold head; simp; omega
  · show 0 ≤ 80; omega

theorem strs_cut (w : World) (ws : List ByteArray) : Strs (w.alloc (.cells (ws.map Value.string).toArray 9)) (some ⟨w.heap.size, 0, none⟩) ws := by
  by_cases h : ws = []
  · exact .inl h
  · refine .inr ⟨w.heap.size, 0, rfl, fun i hi => ?_⟩
    have e : (w.alloc (.cells (ws.map Value.string).toArray 9)).heap[w.heap.size]? = some (.cells (ws.map Value.string).toArray 9 (0, 0)) := by
      show (w.heap.push _)[w.heap.size]? = _
      simp
    rw [cell_of e]
    simp [List.getD, hi]

theorem set3 (u : World) (r : Nat) (x0 x1 x2 y0 y1 y2 : Value) (h : u.heap[r]? = some (.cells #[x0, x1, x2] 70 (0, 0))) (W : World) (hW : W = ((u.setCell ⟨r, 0, none⟩ y0).setCell ⟨r, 1, none⟩ y1).setCell ⟨r, 2, none⟩ y2) :
    W.cell? ⟨r, 0, none⟩ = some y0 ∧ W.cell? ⟨r, 1, none⟩ = some y1 ∧ W.cell? ⟨r, 2, none⟩ = some y2 ∧ Below r u W := by
  have e : W.heap[r]? = some (.cells #[y0, y1, y2] 70 (0, 0)) := by
    subst hW
    rw [heap_setCell_same _ _ _ _ _ _ (heap_setCell_same _ _ _ _ _ _ (heap_setCell_same _ _ _ _ _ _ h))]
    simp
  refine ⟨by rw [cell_of e]; rfl, by rw [cell_of e]; rfl, by rw [cell_of e]; rfl, ?_⟩
  subst hW
  have h1 := (Below.refl r u).setCell (p := ⟨r, 0, none⟩) (Nat.le_refl r) y0
  have h2 := h1.setCell (p := ⟨r, 1, none⟩) (Nat.le_refl r) y1
  exact h2.setCell (p := ⟨r, 2, none⟩) (Nat.le_refl r) y2

theorem zeros_of {u : World} {r : Nat} (h : u.heap[r]? = some (.cells #[.string ⟨#[]⟩, .int .i64 0, .slice none 0 0] 70 (0, 0))) :
    u.cell? ⟨r, 0, none⟩ = some (.string ⟨#[]⟩) ∧ u.cell? ⟨r, 1, none⟩ = some (.int .i64 0) ∧ u.cell? ⟨r, 2, none⟩ = some (.slice none 0 0) ∧
    u.frozen? ⟨r, 0, none⟩ = false ∧ u.frozen? ⟨r, 1, none⟩ = false ∧ u.frozen? ⟨r, 2, none⟩ = false := by
  refine ⟨?_, ?_, ?_, frozen_of_row _ _ _ _ _ h, frozen_of_row _ _ _ _ _ h, frozen_of_row _ _ _ _ _ h⟩
  all_goals (rw [cell_of h]; rfl)

set_option maxRecDepth 100000 in
set_option maxHeartbeats 4000000 in
theorem parse_anyF (s : ByteArray) (w : World) (hs : s.size ≤ 140737488355328) (hg : Gl w) :
    Calls Tryz.prog 60 #[.string s] w fun e w' => ∃ k id l av cv er, e = .returned (.tuple #[.agg #[.string k, .int .i64 id, .slice av l.length cv], .int .i64 er]) ∧ IntsF w.heap.size w' av l ∧ (l.length ≤ 1000 ∧ l.length ≤ cv) ∧ ParseR s k id l er ∧ Below w.heap.size w w' := by
  have HG : Hid (Gl w) := hg
  have HS : Hid (s.size ≤ 140737488355328) := hs
  have h0 := zero_block w
  have HB : Hid (Below w.heap.size w (w.alloc (.cells #[.string ⟨#[]⟩, .int .i64 0, .slice none 0 0] 70))) := (Below.refl _ _).alloc (Nat.le_refl _) _
  have H0 : Hid _ := h0
  clear hg hs h0
  by_cases h80 : (s.size : Int) > 80
  · have HP : Hid (ParseR s ⟨#[]⟩ 0 [] 2) := parse_long h80
    go_enter Tryz.func60, Tryz.ntmps60
    go_wp2
    refine bodyPost_ret (v := .tuple #[.agg #[.string ⟨#[]⟩, .int .i64 0, .slice none 0 0], .int .i64 2]) ?_ rfl ?_
    · rw [results_cell_tmp Tryz.results60]
      simp [go_sem]
    · exact ⟨⟨#[]⟩, 0, [], none, 0, 2, rfl, .inl rfl, by simp, HP.out, HB.out⟩
  · have h80' : s.size ≤ 80 := by omega
    have HR := read_any s (w.alloc (.cells #[.string ⟨#[]⟩, .int .i64 0, .slice none 0 0] 70)) HS.out
    cases hr : readB s
    · rw [hr] at HR
      have HP : Hid (ParseR s ⟨#[]⟩ 0 [] 3) := parse_wrong h80 hr
      go_enter Tryz.func60, Tryz.ntmps60
      go_wp2_with (first
        | (go_at_call 75; refine HR.mono ?_; rintro e w1 ⟨rfl, hb1⟩; have k1 := (hb1.block w.heap.size (by simp)).trans H0.out; obtain ⟨d0, d1, d2, f0, f1, f2⟩ := zeros_of k1))
      obtain ⟨W, hW⟩ : ∃ W, W = ((w1.setCell ⟨w.heap.size, 0, none⟩ (.string ⟨#[]⟩)).setCell ⟨w.heap.size, 1, none⟩ (.int .i64 0)).setCell ⟨w.heap.size, 2, none⟩ (.slice none 0 0) := ⟨_, rfl⟩
      rw [← hW]
      obtain ⟨z0, z1, z2, hbW⟩ := set3 w1 w.heap.size _ _ _ _ _ _ k1 W hW
      refine bodyPost_ret (v := .tuple #[.agg #[.string ⟨#[]⟩, .int .i64 0, .slice none 0 0], .int .i64 3]) ?_ rfl ?_
      · rw [results_cell_tmp Tryz.results60]
        simp [go_sem, z0, z1, z2]
      · exact ⟨⟨#[]⟩, 0, [], none, 0, 3, rfl, .inl rfl, by simp, HP.out, (bel_on' HB.out hb1).trans hbW⟩
    · rw [hr] at HR
      have HRB : Hid (readB s = true) := hr
      have H80 : Hid (¬ (s.size : Int) > 80) := h80
      have HV : Hid ((readV s).size ≤ 80) := readV_small h80'
      have HC : Hid _ := cut_small HV.out
      clear hr h80'
      obtain ⟨t, ht⟩ : ∃ t, readV s = t := ⟨_, rfl⟩
      rw [ht] at HR HV HC
      have HT : Hid (readV s = t) := ht
      clear ht
      go_enter Tryz.func60, Tryz.ntmps60
      go_wp2_with (first
        | (go_at_call 75; refine HR.mono ?_; rintro e w1 ⟨rfl, hb1⟩; have H1 : Hid (Below w.heap.size w w1) := bel_on' HB.out hb1; have k1 := (hb1.block w.heap.size (by simp)).trans H0.out; have K1 : Hid _ := k1; clear k1 hb1)
        | (go_at_call 77; refine (split_any t _ ?h1 ?h2).mono ?_; (case h1 => have := HV.out; omega); (case h2 => exact HG.out.on H1.out); rintro e w2 ⟨rfl, rfl⟩; have H2 : Hid _ := (Below.refl w1.heap.size w1).alloc (Nat.le_refl _) (.cells ((cutB t).map Value.string).toArray 9)))
      refine (from_any (cutB t) _ _ _ (strs_cut w1 (cutB t)) HC.out.1 HC.out.2 (HG.out.on (bel_on' H1.out H2.out))).mono ?_
      rintro e w3 ⟨k, id, l, av, cv, b, rfl, hin, hll, hfr, hb3⟩
      have HIn : Hid (IntsF (w1.heap.size + 1 + 2) w3 av l) := by (show IntsF (w1.heap.size + 1 + 2) w3 av l; simpa using hin)
      have HFR : Hid (FromR (cutB (readV s)) k id l b) := by show FromR (cutB (readV s)) k id l b; rw [HT.out]; exact hfr
      have HB3 : Hid (Below w.heap.size w w3) := bel_on' (bel_on' H1.out H2.out) hb3
      have hlt : w.heap.size < w3.heap.size := by
        have h1 := hb3.size
        have h2 := cell_lt (zeros_of K1.out).1
        simp at h1
        omega
      have k3 : w3.heap[w.heap.size]? = some (.cells #[.string ⟨#[]⟩, .int .i64 0, .slice none 0 0] 70 (0, 0)) := by
        rw [hb3.block w.heap.size (by have h2 := cell_lt (zeros_of K1.out).1; simp; omega), H2.out.block w.heap.size (cell_lt (zeros_of K1.out).1)]
        exact K1.out
      have HLL : Hid (l.length ≤ 1000 ∧ l.length ≤ cv) := hll
      clear hin hfr hb3 hll HC HV HT HR
      have HW1 : Hid (w.heap.size < w1.heap.size) := cell_lt (zeros_of K1.out).1
      have HLT : Hid (w.heap.size < w3.heap.size) := hlt
      obtain ⟨d0, d1, d2, f0, f1, f2⟩ := zeros_of k3
      have K3 : Hid _ := k3
      clear k3
      cases b
      · have HP : Hid (ParseR s ⟨#[]⟩ 0 [] 2) := parse_no (by have := H80.out; omega) HRB.out HFR.out
        go_wp2
        obtain ⟨W, hW⟩ : ∃ W, W = ((w3.setCell ⟨w.heap.size, 0, none⟩ (.string ⟨#[]⟩)).setCell ⟨w.heap.size, 1, none⟩ (.int .i64 0)).setCell ⟨w.heap.size, 2, none⟩ (.slice none 0 0) := ⟨_, rfl⟩
        rw [← hW]
        obtain ⟨z0, z1, z2, hbW⟩ := set3 w3 w.heap.size _ _ _ _ _ _ K3.out W hW
        have hbA : Below w.heap.size w (W.alloc (.cells #[.string k, .int .i64 id, .slice av l.length cv] 70)) := (HB3.out.trans hbW).alloc (HB3.out.trans hbW).size _
        have hWl : w.heap.size < W.heap.size := Nat.lt_of_lt_of_le HLT.out hbW.size
        refine bodyPost_ret (v := .tuple #[.agg #[.string ⟨#[]⟩, .int .i64 0, .slice none 0 0], .int .i64 2]) ?_ rfl ?_
        · rw [results_cell_tmp Tryz.results60]
          simp [go_sem, z0, z1, z2, hWl]
        · exact ⟨⟨#[]⟩, 0, [], none, 0, 2, rfl, .inl rfl, by simp, HP.out, hbA⟩
      · have HP : Hid (ParseR s k id l 0) := parse_yes (by have := H80.out; omega) HRB.out HFR.out
        go_wp2
        obtain ⟨W, hW⟩ : ∃ W, W = ((w3.setCell ⟨w.heap.size, 0, none⟩ (.string k)).setCell ⟨w.heap.size, 1, none⟩ (.int .i64 id)).setCell ⟨w.heap.size, 2, none⟩ (.slice av l.length cv) := ⟨_, rfl⟩
        rw [← hW]
        obtain ⟨z0, z1, z2, hbW⟩ := set3 w3 w.heap.size _ _ _ _ _ _ K3.out W hW
        have hbA : Below w.heap.size w (W.alloc (.cells #[.string k, .int .i64 id, .slice av l.length cv] 70)) := (HB3.out.trans hbW).alloc (HB3.out.trans hbW).size _
        have hWl : w.heap.size < W.heap.size := Nat.lt_of_lt_of_le HLT.out hbW.size
        refine bodyPost_ret (v := .tuple #[.agg #[.string k, .int .i64 id, .slice av l.length cv], .int .i64 0]) ?_ rfl ?_
        · rw [results_cell_tmp Tryz.results60]
          simp [go_sem, z0, z1, z2, hWl]
        · exact ⟨k, id, l, av, cv, 0, rfl, by
            have hI : IntsF (w1.heap.size + 1 + 2) W av l := HIn.out.moveF (fun kk hkk _ => by subst hW; have := HW1.out; rw [Below.heap_setCell _ _ _ _ (by simp; omega), Below.heap_setCell _ _ _ _ (by simp; omega), Below.heap_setCell _ _ _ _ (by simp; omega)])
            exact (hI.lower (by have := HW1.out; omega)).below ((Below.refl _ _).alloc (Nat.le_refl _) _), HLL.out, HP.out, hbA⟩
theorem parse_any (s : ByteArray) (w : World) (hs : s.size ≤ 140737488355328) (hg : Gl w) :
    Calls Tryz.prog 60 #[.string s] w fun e w' => ∃ k id l av cv er, e = .returned (.tuple #[.agg #[.string k, .int .i64 id, .slice av l.length cv], .int .i64 er]) ∧ Ints w' av l ∧ (l.length ≤ 1000 ∧ l.length ≤ cv) ∧ ParseR s k id l er ∧ Below w.heap.size w w' :=
  (parse_anyF s w hs hg).mono fun _ _ ⟨k, id, l, av, cv, er, h1, h2, h3⟩ => ⟨k, id, l, av, cv, er, h1, h2.ints, h3⟩
end Go.Proofs.YtdbmnjodkpeobaaGreatDoor
