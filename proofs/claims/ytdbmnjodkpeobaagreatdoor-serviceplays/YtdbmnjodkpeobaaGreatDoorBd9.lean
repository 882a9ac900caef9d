/-
  Own texts put together: JrnC, JrnD.
-/
import Derived.Test.YtdbmnjodkpeobaaGreatDoorBd8
import Derived.BigRegion
/-
  Contracts: journal.tear, cut, Crash.
-/
namespace Go.Proofs.YtdbmnjodkpeobaaGreatDoor
open Go.ChangeShapes Go.WideShapes Go.ChangeAt Go.RowKit

/-- So many bytes are left of a torn line. -/
def tearN (s : ByteArray) (n : Int) : Nat := (min (max n 0) ((s.size : Int) - 1)).toNat

set_option maxRecDepth 100000 in
theorem tear_any (s : ByteArray) (n : Int) (w : World) (hs : 1 ≤ s.size ∧ s.size ≤ 63) :
    Calls Tryz.prog 44 #[.string s, .int .i64 n] w fun e w' => e = .returned (.string (s.extract 0 (tearN s n))) ∧ Below w.heap.size w w' := by
  obtain ⟨m, hm⟩ : ∃ m : Nat, min (max n 0) ((s.size : Int) - 1) = m := ⟨tearN s n, by unfold tearN; omega⟩
  have hml : m ≤ s.size - 1 := by omega
  have HT : Hid (tearN s n = m) := by show tearN s n = m; unfold tearN; rw [hm]; rfl
  go_enter Tryz.func44, Tryz.ntmps44
  go_wp2_with (first
    | (go_at_call 57; refine (clone_any _ _ ?_).mono ?_; (· simp; omega); rintro e w1 ⟨rfl, hb1⟩))
  go_ret
  rw [HT.out]
  exact ⟨rfl, hb1⟩

/-- A row whose end is cut off: the cells ahead lie as they lay. -/
theorem heap_setCells (g : Nat) (t : TypeId) : ∀ (vs : List Value) (o : Nat) (w : World) (cs : Array Value), w.heap[g]? = some (.cells cs t (0, 0)) → o + vs.length ≤ cs.size →
    ∃ cs', (w.setCells g o vs).heap[g]? = some (.cells cs' t (0, 0)) ∧ cs'.size = cs.size ∧ ∀ j, cs'[j]? = if o ≤ j ∧ j < o + vs.length then vs[j - o]? else cs[j]?
  | [], o, w, cs, h, _ => ⟨cs, h, rfl, fun j => by rw [if_neg (by simp)]⟩
  | v :: r, o, w, cs, h, hl => by
    obtain ⟨cs', h1, h2, h3⟩ := heap_setCells g t r (o + 1) (w.setCell ⟨g, o, none⟩ v) (cs.setIfInBounds o v) (heap_setCell_same _ _ _ _ _ _ h) (by simp at hl ⊢; omega)
    refine ⟨cs', h1, by simpa using h2, fun j => ?_⟩
    rw [h3 j]
    by_cases hj : j = o
    · subst hj
      rw [if_neg (by omega), if_pos (by simp)]
      simp at hl
      simp [show j < cs.size by omega]
    · by_cases hin : o + 1 ≤ j ∧ j < o + 1 + r.length
      · rw [if_pos hin, if_pos (by simp; omega)]
        rw [show j - o = (j - (o + 1)) + 1 by omega]
        simp
      · rw [if_neg hin, if_neg (by simp; omega)]
        rw [Array.getElem?_setIfInBounds_ne (by omega)]

theorem setCells_rest (g : Nat) : ∀ (vs : List Value) (o : Nat) (w : World), ((w.setCells g o vs).os = w.os ∧ (w.setCells g o vs).tape = w.tape ∧ (w.setCells g o vs).output = w.output ∧ (w.setCells g o vs).heap.size = w.heap.size) ∧ ∀ k, k ≠ g → (w.setCells g o vs).heap[k]? = w.heap[k]?
  | [], _, _ => ⟨⟨rfl, rfl, rfl, rfl⟩, fun _ _ => rfl⟩
  | v :: r, o, w => by
    obtain ⟨⟨h1, h2, h3, h4⟩, h5⟩ := setCells_rest g r (o + 1) (w.setCell ⟨g, o, none⟩ v)
    exact ⟨⟨h1, h2, h3, h4.trans (by simp)⟩, fun k hk => (h5 k hk).trans (Below.heap_setCell _ _ _ _ (show k ≠ (⟨g, o, none⟩ : Addr).block from hk))⟩

theorem delete_row {w : World} {B : Nat} {v : Value} {L : List ByteArray} (h : w.ownsRow B 9 1 v L.length (L.map Value.string)) (hl : L.length ≤ 4096) (n : Nat) (hn : n ≤ L.length) :
    Calls Tryz.prog 58 #[v, .int .i64 n, .int .i64 L.length] w fun e w' => ∃ a c, e = .returned (.slice a n c) ∧ w'.ownsRow B 9 1 (.slice a n c) (L.take n).length ((L.take n).map Value.string) ∧ w.grownBy w' v.ownBlock ∧ (Value.slice a n c).ownBlock = v.ownBlock := by
  rcases h with ⟨hlen, ⟨rfl, h0⟩ | ⟨g, cap, cur, rfl, hB, hg, hnc, hcm, hsz, htk⟩⟩
  · have hL : L = [] := List.eq_nil_of_length_eq_zero h0
    subst hL
    obtain rfl : n = 0 := by simpa using hn
    refine (Tryz.slices_Delete_string_empty none 0 w).mono ?_
    rintro e w' ⟨rfl, rfl⟩
    exact ⟨none, 0, rfl, ⟨rfl, .inl ⟨rfl, rfl⟩⟩, ⟨rfl, rfl, rfl, Nat.le_refl _, fun _ _ _ => rfl⟩, rfl⟩
  · rw [Nat.mul_one] at hsz htk
    have hcur : ∀ i, i < L.length → cur[i]? = some (.string (L.getD i ByteArray.empty)) := fun i hi => by
      have h1 : (cur.toList.take L.length)[i]? = some (.string (L.getD i ByteArray.empty)) := by rw [htk]; simp [List.getD, hi]
      rw [List.getElem?_take_of_lt hi, Array.getElem?_toList] at h1
      exact h1
    have hcell : ∀ i, i < L.length → w.cell? ⟨g, 0 + i, none⟩ = some (.string (L.getD i ByteArray.empty)) := fun i hi => by rw [cell_of hg, Nat.zero_add]; exact hcur i hi
    refine (Tryz.slices_Delete_string_cells g 0 L.length cap n L.length (fun i => L.getD i ByteArray.empty) w hnc (by unfold maxLen at hcm; omega) hn (Nat.le_refl _) hcell (fun j _ => frozen_of_row _ _ _ _ _ hg)).mono ?_
    rintro e w' ⟨rfl, q, rfl⟩
    obtain ⟨vs, hvs⟩ : ∃ vs : List Value, ((Lib.strsOf (fun i => L.getD i ByteArray.empty) L.length).take n ++ (Lib.strsOf (fun i => L.getD i ByteArray.empty) L.length).drop L.length ++ List.replicate (L.length - n) []).map encStr = vs := ⟨_, rfl⟩
    rw [hvs]
    have hvl : vs.length = L.length := by rw [← hvs]; simp [Lib.strsOf]; omega
    have hvg : ∀ i, i < n → vs[i]? = some (.string (L.getD i ByteArray.empty)) := fun i hi => by
      rw [← hvs, List.getElem?_map, List.getElem?_append_left (by simp [Lib.strsOf]; omega), List.getElem?_append_left (by simp [Lib.strsOf]; omega), List.getElem?_take_of_lt hi]
      simp [Lib.strsOf, show i < L.length by omega]
    obtain ⟨cs', h1, h2, h3⟩ := heap_setCells g 9 vs 0 (w.drewN q) cur (by simpa using hg) (by rw [hvl]; omega)
    refine ⟨some ⟨g, 0, none⟩, cap, by rw [show L.length - (L.length - n) = n by omega], ⟨by simp, .inr ⟨g, cap, cs', by simp [hn], hB, h1, by simp; omega, hcm, by rw [h2, hsz]; simp, ?_⟩⟩, ?_, rfl⟩
    · rw [Nat.mul_one]
      apply List.ext_getElem?
      intro i
      simp only [List.length_take, Nat.min_eq_left hn]
      by_cases hi : i < n
      · rw [List.getElem?_take_of_lt hi, Array.getElem?_toList, h3 i, if_pos (by omega), Nat.sub_zero, hvg i hi, List.getElem?_map, List.getElem?_take_of_lt hi]
        simp [List.getD, show i < L.length by omega]
      · rw [List.getElem?_eq_none (by simp; omega), List.getElem?_eq_none (by simp; omega)]
    · obtain ⟨⟨s1, s2, s3, s4⟩, s5⟩ := setCells_rest g vs 0 (w.drewN q)
      exact ⟨s1, s2, s3, by rw [s4]; simp, fun k hk hne => (s5 k (fun e => hne (by simp [Value.ownBlock, e]))).trans (by simp)⟩

theorem Jr.deleted {B : Nat} {u : World} {p : Nat} {v : Value} {room : Int} {L : List ByteArray} {sure : Nat} {down : Bool} (h : Jr B u p v room L sure down) {n : Nat} {a1 : Option Addr} {c1 : Nat} {w1 : World}
    (ho : w1.ownsRow B 9 1 (.slice a1 n c1) (L.take n).length ((L.take n).map Value.string)) (hg : u.grownBy w1 v.ownBlock) (hat : (Value.slice a1 n c1).ownBlock = v.ownBlock) :
    Jr B (w1.setCell ⟨p, 1, none⟩ (.slice a1 n c1)) p (.slice a1 n c1) room (L.take n) sure down ∧ Off p v (.slice a1 n c1) u (w1.setCell ⟨p, 1, none⟩ (.slice a1 n c1)) ∧ w1.cell? ⟨p, 1, none⟩ = some v ∧ w1.frozen? ⟨p, 1, none⟩ = false := by
  have hp1 : w1.heap[p]? = u.heap[p]? := hg.block p h.lt (fun e => h.apart e.symm)
  refine ⟨h.setRow (L' := L.take n) hp1 ho (by have := h.2.2.2.2.1; simp; omega) (fun x hx => h.2.2.2.2.2 x (List.mem_of_mem_take hx)), (Off.grown hg (.inl hat)).setCell 1 _, ?_, frozen_of_row _ _ _ _ _ (hp1.trans h.1)⟩
  rw [cell_of (hp1.trans h.1)]; rfl

/-- cut leaves the first n lines. -/
theorem cut_any {B : Nat} {w : World} {p : Nat} {v : Value} {room : Int} {L : List ByteArray} {sure : Nat} {down : Bool} (h : Jr B w p v room L sure down) (n : Nat) (hn : n ≤ L.length) :
    Calls Tryz.prog 45 #[.pointer (some ⟨p, 0, none⟩), .int .i64 n] w fun e w' => (∃ x, e = .returned x) ∧ ∃ v', Jr B w' p v' room (L.take n) sure down ∧ Off p v v' w w' := by
  obtain ⟨⟨c0, c1, c2, c3⟩, f1, f2, f3⟩ := h.cells
  obtain ⟨a, c, rfl, hc, -⟩ := h.row
  have HD := delete_row (w := w.drew) (owned_on h.2.2.1 ((Below.refl _ _).drew)) h.2.2.2.2.1 n hn
  have HJ : Hid (Jr B w.drew p (.slice a L.length c) room L sure down) := h.on ((Below.refl _ _).drew)
  have HN : Hid (n ≤ L.length) := hn
  clear h hc hn
  go_enter Tryz.func45, Tryz.ntmps45
  go_wp2_with fail
  go_region_with (first
    | (go_at_call 58; refine HD.mono ?_; rintro e w1 ⟨a1, c1', rfl, ho, hg, hat⟩; obtain ⟨hj1, ho1, d1, e1⟩ := HJ.out.deleted ho hg hat; have HJ1 : Hid _ := hj1; have HO1 : Hid _ := (Off.of_below (Below.refl w.heap.size w).drew).trans ho1; clear hj1 ho1 ho hg hat))
  all_goals (go_end0; exact ⟨⟨_, rfl⟩, _, HJ1.out, HO1.out⟩)
end Go.Proofs.YtdbmnjodkpeobaaGreatDoor
/-
  Contract: journal.Crash.
-/
namespace Go.Proofs.YtdbmnjodkpeobaaGreatDoor
open Go.ChangeShapes Go.WideShapes Go.ChangeAt Go.RowKit

theorem crash_nil (stay torn : Int) (w : World) : Calls Tryz.prog 25 #[.pointer none, .int .i64 stay, .int .i64 torn] w fun e w' => (∃ x, e = .returned x) ∧ Below w.heap.size w w' := by
  go_enter Tryz.func25, Tryz.ntmps25
  go_wp2
  refine bodyPost_ret (results_none rfl _ _ _) rfl ?_
  exact ⟨⟨_, rfl⟩, Below.refl _ _⟩
theorem crash_down {B : Nat} {w : World} {p : Nat} {v : Value} {room : Int} {L : List ByteArray} {sure : Nat} (h : Jr B w p v room L sure true) (stay torn : Int) :
    Calls Tryz.prog 25 #[.pointer (some ⟨p, 0, none⟩), .int .i64 stay, .int .i64 torn] w fun e w' => (∃ x, e = .returned x) ∧ Below w.heap.size w w' := by
  obtain ⟨⟨c0, c1, c2, c3⟩, f1, f2, f3⟩ := h.cells
  go_enter Tryz.func25, Tryz.ntmps25
  go_wp2
  refine bodyPost_ret (results_none rfl _ _ _) rfl ?_
  exact ⟨⟨_, rfl⟩, Below.refl _ _⟩

/-- So many lines a crash leaves whole. -/
def keptN (L : List ByteArray) (sure : Nat) (stay : Int) : Nat := sure + min stay.toNat (L.length - sure)
/-- What a crash leaves. -/
def crashL (L : List ByteArray) (sure : Nat) (stay torn : Int) : List ByteArray :=
  if keptN L sure stay = L.length then L else
    L.take (keptN L sure stay) ++ (if tearN (L.getD (keptN L sure stay) ByteArray.empty) torn = 0 then [] else [(L.getD (keptN L sure stay) ByteArray.empty).extract 0 (tearN (L.getD (keptN L sure stay) ByteArray.empty) torn)])

set_option maxRecDepth 100000 in
set_option maxHeartbeats 2000000 in
theorem crash_up {B : Nat} {w : World} {p : Nat} {v : Value} {room : Int} {L : List ByteArray} {sure : Nat} (h : Jr B w p v room L sure false) (hsu : sure ≤ L.length) (stay torn : Int) :
    Calls Tryz.prog 25 #[.pointer (some ⟨p, 0, none⟩), .int .i64 stay, .int .i64 torn] w fun e w' => (∃ x, e = .returned x) ∧ ∃ v', Jr B w' p v' room (crashL L sure stay torn) sure true ∧ Off p v v' w w' := by
  obtain ⟨⟨c0, c1, c2, c3⟩, f1, f2, f3⟩ := h.cells
  obtain ⟨a, c, rfl, hc, hst⟩ := h.row
  obtain ⟨K, hK⟩ : ∃ K, keptN L sure stay = K := ⟨_, rfl⟩
  have hKl : K ≤ L.length := by rw [← hK]; unfold keptN; omega
  have hKi : (sure : Int) + min (max stay 0) ((L.length : Int) - (sure : Int)) = (K : Int) := by rw [← hK]; unfold keptN; omega
  have HJ1 : Hid (Jr B (w.setCell ⟨p, 3, none⟩ (.bool true)) p (.slice a L.length c) room L sure true) := h.setDown true
  have HO1 : Hid (Off p (.slice a L.length c) (.slice a L.length c) w (w.setCell ⟨p, 3, none⟩ (.bool true))) := (Off.refl p (.slice a L.length c) w).setCell 3 (.bool true)
  have hL4 : L.length ≤ 4096 := h.2.2.2.2.1
  obtain ⟨M, hM⟩ : ∃ M, crashL L sure stay torn = M := ⟨_, rfl⟩
  rw [hM]
  unfold crashL at hM
  rw [hK] at hM
  have HM : Hid _ := hM
  clear hK hM
  go_enter Tryz.func25, Tryz.ntmps25
  go_wp2_with fail
  obtain ⟨u1, hu1⟩ : ∃ u1, u1 = w.setCell ⟨p, 3, none⟩ (.bool true) := ⟨_, rfl⟩
  rw [← hu1] at HJ1 HO1 ⊢
  clear c0 c1 c2 c3 f1 f2 f3 hu1
  obtain ⟨⟨c0, c1, c2, c3⟩, f1, f2, f3⟩ := HJ1.out.cells
  go_quiet (fail)
  have HBD : Hid (Below u1.heap.size u1 (u1.drewN nq)) := belowN (Below.refl _ _) nq
  generalize u1.drewN nq = u2 at HBD ⊢
  have HJ2 : Hid (Jr B u2 p (.slice a L.length c) room L sure true) := HJ1.out.on HBD.out
  have HO2 : Hid (Off p (.slice a L.length c) (.slice a L.length c) w u2) := HO1.out.trans (Off.of_below HBD.out)
  clear c0 c1 c2 c3 f1 f2 f3 HBD HJ1 HO1
  obtain ⟨⟨c0, c1, c2, c3⟩, f1, f2, f3⟩ := HJ2.out.cells
  by_cases hKe : K = L.length
  · have q1 : ((K : Int) == (L.length : Int)) = true := by simp; omega
    have HML : Hid (M = L) := by show M = L; rw [← HM.out, if_pos hKe]
    go_wp2
    refine bodyPost_ret (results_none rfl _ _ _) rfl ?_
    exact ⟨⟨_, rfl⟩, _, by rw [HML.out]; exact HJ2.out, HO2.out⟩
  · have q1 : ((K : Int) == (L.length : Int)) = false := by simp; omega
    have hlt : K < L.length := by omega
    obtain ⟨X, hX⟩ : ∃ X, L.getD K ByteArray.empty = X := ⟨_, rfl⟩
    have HML : Hid (M = L.take K ++ (if tearN X torn = 0 then [] else [X.extract 0 (tearN X torn)])) := by show M = _; rw [← HM.out, if_neg hKe, hX]
    have HXS : Hid (1 ≤ X.size ∧ X.size ≤ 63) := h.2.2.2.2.2 X (by rw [← hX]; simp [List.getD, hlt])
    obtain ⟨b, off, rfl, hcc⟩ : ∃ b off, a = some ⟨b, off, none⟩ ∧ u2.cell? ⟨b, off + K, none⟩ = some (.string X) := by
      rcases owned_strs HJ2.out.2.2.1 with ⟨a', c', e', -, -, hst'⟩
      cases e'
      rcases hst' with hn | ⟨b, off, rfl, hcl⟩
      · subst hn; simp at hlt
      · exact ⟨b, off, rfl, by rw [hcl K hlt, hX]⟩
    go_wp2_with fail
    refine (tear_any X torn u2 HXS.out).mono ?_
    rintro e u3 ⟨rfl, hb3⟩
    have HJ3 : Hid (Jr B u3 p (.slice (some ⟨b, off, none⟩) L.length c) room L sure true) := HJ2.out.on hb3
    have HO3 : Hid (Off p (.slice (some ⟨b, off, none⟩) L.length c) (.slice (some ⟨b, off, none⟩) L.length c) w u3) := HO2.out.trans (Off.of_below hb3)
    have htn : tearN X torn ≤ X.size - 1 := by unfold tearN; omega
    obtain ⟨Y, hY⟩ : ∃ Y, X.extract 0 (tearN X torn) = Y := ⟨_, rfl⟩
    have hYs : Y.size = tearN X torn := by rw [← hY]; simp; omega
    have HMY : Hid (M = L.take K ++ (if Y.size = 0 then [] else [Y])) := by show M = _; rw [HML.out, hY, hYs]
    have HYS : Hid (Y.size ≤ 63) := by show _ ≤ _; have := HXS.out; omega
    rw [hY]
    clear hb3 hY hYs htn HML HM hcc c0 c1 c2 c3 f1 f2 f3 HJ2 HO2 h
    go_wp2_with fail
    refine (cut_any HJ3.out K hKl).mono ?_
    rintro e u4 ⟨⟨x4, rfl⟩, v4, hj4, ho4⟩
    have HJ4 : Hid (Jr B u4 p v4 room (L.take K) sure true) := hj4
    have HO4 : Hid (Off p (.slice (some ⟨b, off, none⟩) L.length c) v4 w u4) := HO3.out.trans ho4
    clear hj4 ho4 HJ3 HO3
    obtain ⟨⟨c0, c1, c2, c3⟩, f1, f2, f3⟩ := HJ4.out.cells
    obtain ⟨a4, c4, rfl, -, -⟩ := HJ4.out.row
    by_cases hy0 : Y.size = 0
    · have qy : (Y.toList == []) = true := by
        rw [ByteArray.toList_eq]
        have h1 : Y.data.toList.length = Y.size := Array.length_toList
        rw [List.eq_nil_of_length_eq_zero (h1.trans hy0)]
        rfl
      have qn : (Y.toList != []) = false := by unfold bne; rw [qy]; rfl
      have HML : Hid (M = L.take K) := by show M = _; rw [HMY.out, if_pos hy0, List.append_nil]
      go_wp2
      go_end0
      exact ⟨⟨_, rfl⟩, _, by rw [HML.out]; exact HJ4.out, HO4.out⟩
    · have qy : (Y.toList == []) = false := by
        rw [ByteArray.toList_eq]
        have h1 : Y.data.toList.length = Y.size := Array.length_toList
        cases hc' : Y.data.toList with
        | nil => rw [hc'] at h1; simp at h1; omega
        | cons => rfl
      have qn : (Y.toList != []) = true := by unfold bne; rw [qy]; rfl
      have HML : Hid (M = L.take K ++ [Y]) := by show M = _; rw [HMY.out, if_neg hy0]
      have HY1 : Hid (1 ≤ Y.size ∧ Y.size ≤ 63) := ⟨by omega, HYS.out⟩
      have hTK : (L.take K).length < 4096 := by simp; omega
      generalize L.take K = T at HJ4 HO4 HML hTK c1 ⊢
      have HJ5 : Hid (Jr B (u4.alloc (.cells #[.string Y] 9)) p (.slice a4 T.length c4) room T sure true) := HJ4.out.on ((Below.refl _ _).alloc (Nat.le_refl _) _)
      have HO5 : Hid (Off p (.slice (some ⟨b, off, none⟩) L.length c) (.slice a4 T.length c4) w (u4.alloc (.cells #[.string Y] 9))) := HO4.out.trans (Off.of_below ((Below.refl _ _).alloc (Nat.le_refl _) _))
      go_wp2_with (first
        | (at_builtin; refine append_strs_at rfl (.tmp 62) (.tmp 64) rfl B (.slice a4 T.length c4) T.length T rfl HJ5.out.2.2.1 ⟨u4.heap.size, 0, none⟩ 1 1 [Y] rfl rfl (strs_one u4 Y) ?hnn ?hba ?_; (case hnn => omega); (case hba => exact HJ5.out.low); intro v6 w6 o6 g6 at6; obtain ⟨a6, c6, rfl, hj6, ho6, d1, e1⟩ := HJ5.out.appended HY1.out hTK o6 g6 at6; have HJ6 : Hid _ := hj6; have HO6 : Hid _ := HO5.out.trans ho6; clear o6 g6 at6 hj6 ho6))
      go_end0
      exact ⟨⟨_, rfl⟩, _, by rw [HML.out]; exact HJ6.out, HO6.out⟩
end Go.Proofs.YtdbmnjodkpeobaaGreatDoor
