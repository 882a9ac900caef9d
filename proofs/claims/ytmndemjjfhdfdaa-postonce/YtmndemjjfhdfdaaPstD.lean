/-
  slices.Delete and slices.Clone at rows of messages.
-/
import Derived.Test.YtmndemjjfhdfdaaMsgV
import Derived.Deep.RegionLaw
import Derived.Lib.SliceRun
import Derived.Laws.Rows
namespace Go.Proofs.Ytmndemjjfhdfdaa
open Go.ChangeShapes Go.WideShapes Go.ChangeAt Go.RowKit

theorem heap_setCells (g : Nat) (t : TypeId) : ∀ (vs : List Value) (o : Nat) (w : World) (cs : Array Value), w.heap[g]? = some (.cells cs t (0, 0)) → o + vs.length ≤ cs.size →
    ∃ cs', (w.setCells g o vs).heap[g]? = some (.cells cs' t (0, 0)) ∧ cs'.size = cs.size ∧ ∀ j, cs'[j]? = if o ≤ j ∧ j < o + vs.length then vs[j - o]? else cs[j]?
  | [], o, w, cs, h, _ => ⟨cs, h, rfl, fun j => by rw [if_neg (by simp)]⟩
  | v :: r, o, w, cs, h, hl => by
    obtain ⟨cs', h1, h2, h3⟩ := heap_setCells g t r (o + 1) (w.setCell ⟨g, o, none⟩ v) (cs.setIfInBounds o v) (heap_setCell_same _ _ _ _ _ _ h) (by simp at hl ⊢; omega)
    refine ⟨cs', h1, by simpa using h2, fun j => ?_⟩
    rw [h3 j]
    by_cases hj : j = o
    · subst hj
      rw [if_neg (by omega), if_pos (by simp)]
      simp at hl
      simp [show j < cs.size by omega]
    · by_cases hin : o + 1 ≤ j ∧ j < o + 1 + r.length
      · rw [if_pos hin, if_pos (by simp; omega)]
        rw [show j - o = (j - (o + 1)) + 1 by omega]
        simp
      · rw [if_neg hin, if_neg (by simp; omega)]
        rw [Array.getElem?_setIfInBounds_ne (by omega)]
theorem setCells_rest (g : Nat) : ∀ (vs : List Value) (o : Nat) (w : World), ((w.setCells g o vs).os = w.os ∧ (w.setCells g o vs).tape = w.tape ∧ (w.setCells g o vs).output = w.output ∧ (w.setCells g o vs).heap.size = w.heap.size) ∧ ∀ k, k ≠ g → (w.setCells g o vs).heap[k]? = w.heap[k]?
  | [], _, _ => ⟨⟨rfl, rfl, rfl, rfl⟩, fun _ _ => rfl⟩
  | v :: r, o, w => by
    obtain ⟨⟨h1, h2, h3, h4⟩, h5⟩ := setCells_rest g r (o + 1) (w.setCell ⟨g, o, none⟩ v)
    exact ⟨⟨h1, h2, h3, h4.trans (by simp)⟩, fun k hk => (h5 k hk).trans (Below.heap_setCell _ _ _ _ (show k ≠ (⟨g, o, none⟩ : Addr).block from hk))⟩
theorem mgCells_take : ∀ (l : List Mg) (i : Nat), mgCells (l.take i) = (mgCells l).take (i * 7)
  | [], i => by simp [mgCells]
  | x :: l, 0 => by simp [mgCells]
  | x :: l, i + 1 => by
    rw [List.take_succ_cons, show mgCells (x :: l.take i) = mgC x ++ mgCells (l.take i) by simp [mgCells], show mgCells (x :: l) = mgC x ++ mgCells l by simp [mgCells], mgCells_take l i, show (i + 1) * 7 = (mgC x).length + i * 7 by simp [mgC]; omega, List.take_length_add_append]
theorem mgCells_drop : ∀ (l : List Mg) (i : Nat), mgCells (l.drop i) = (mgCells l).drop (i * 7)
  | [], i => by simp [mgCells]
  | x :: l, 0 => by simp [mgCells]
  | x :: l, i + 1 => by
    rw [List.drop_succ_cons, show mgCells (x :: l) = mgC x ++ mgCells l by simp [mgCells], mgCells_drop l i, show (i + 1) * 7 = (mgC x).length + i * 7 by simp [mgC]; omega, List.drop_length_add_append]
theorem app_get (X : List Value) {n i : Nat} (j k : Nat) (hX : X.length = n) (hi : i ≤ n) : (X.take i ++ X.drop j)[k]? = if k < i then X[k]? else X[j + (k - i)]? := by
  have h1 : (X.take i).length = i := by rw [List.length_take]; omega
  by_cases h : k < i
  · rw [if_pos h, List.getElem?_append_left (by omega), List.getElem?_take_of_lt h]
  · rw [if_neg h, List.getElem?_append_right (by omega), h1, List.getElem?_drop]
/-- 'clear' of one message. -/
theorem clear_msg (w : World) (ty : TypeId) (b o c : Nat) (hc : ∀ j, j < 7 → (w.cell? ⟨b, o + j, none⟩).isSome = true) (hf : ∀ j, j < 7 → w.frozen? ⟨b, o + j, none⟩ = false) :
    (Builtin.clear_ #[30] ty #[.slice (some ⟨b, o, none⟩) 1 c]).run Try.prog w = .ok (.tuple #[]) (w.setCells b o (List.replicate 7 (.int .i64 0))) := by
  have hst := run_storeCells_cells (P := Try.prog) b o (List.replicate 7 (Value.int .i64 0)) 0 w (by simpa using hc) (by simpa using hf) (by intro v hv'; rw [List.eq_of_mem_replicate hv']; rfl)
  simp only [Nat.add_zero] at hst
  have hv : ∀ w, (zeroValue 35).run Try.prog w = .ok (.agg #[.int .i64 0, .int .i64 0, .int .i64 0, .int .i64 0, .int .i64 0, .int .i64 0, .int .i64 0]) w := fun _ => by kernel_rfl
  have hzc : (Builtin.zeroCells (Value.agg #[.int .i64 0, .int .i64 0, .int .i64 0, .int .i64 0, .int .i64 0, .int .i64 0, .int .i64 0]).cells 1).toList = List.replicate 7 (.int .i64 0) := by kernel_rfl
  simp only [List.replicate] at hst hzc ⊢
  simp [Builtin.clear_, run_underlying Try.underlying30, hv, hzc, hst]

set_option maxHeartbeats 4000000 in
set_option maxRecDepth 1000000 in
/-- One message cut out of a row of one's own. -/
theorem del_any {w : World} {B g cap : Nat} {l : List Mg} (hown : w.ownsRow B 35 7 (.slice (some ⟨g, 0, none⟩) l.length cap) l.length (mgCells l)) {i : Nat} (hi : i < l.length) :
    Calls Try.prog 25 #[.slice (some ⟨g, 0, none⟩) l.length cap, .int .i64 i, .int .i64 ((i : Int) + 1)] w fun e w' => e = .returned (.slice (some ⟨g, 0, none⟩) (l.length - 1) cap) ∧ w'.ownsRow B 35 7 (.slice (some ⟨g, 0, none⟩) (l.length - 1) cap) (l.length - 1) (mgCells (l.eraseIdx i)) ∧ w.grownBy w' (some g) := by
  obtain ⟨i0, hi0, hz0, hz1, hz2⟩ := info_parts Try.infoMsg
  obtain ⟨hlen, ⟨e, -⟩ | ⟨g', cap', cur, e, hB, hg, hnc, hcm, hsz, htk⟩⟩ := hown
  · cases e
  cases e
  obtain ⟨j, hj⟩ : ∃ j : Nat, j = i + 1 := ⟨_, rfl⟩
  rw [show ((i : Int) + 1) = (j : Int) by omega]
  obtain ⟨n, hn⟩ : ∃ n, l.length = n := ⟨_, rfl⟩
  rw [hn] at hi hnc hlen htk ⊢
  have hcell : ∀ k, k < n * 7 → w.cell? ⟨g, k, none⟩ = (mgCells l)[k]? := fun k hk => by
    rw [cell_of hg, ← htk, List.getElem?_take_of_lt hk, Array.getElem?_toList]
  have hfz : ∀ k, w.frozen? ⟨g, k, none⟩ = false := fun k => frozen_of_row _ _ _ _ _ hg
  have hsome : ∀ k, k < n * 7 → (w.cell? ⟨g, k, none⟩).isSome = true := fun k hk => by rw [hcell k hk]; simp [hlen, hk]
  obtain ⟨news, hnews⟩ : ∃ news, news = mgCells (l.drop j) := ⟨_, rfl⟩
  have hnl : news.length = (n - j) * 7 := by rw [hnews, mgCells_len]; simp [hn]
  obtain ⟨A, hA, hsrc⟩ : ∃ A : Addr, (if cap = j then some (⟨g, 0, none⟩ : Addr) else some ⟨g, j * 7, none⟩) = some A ∧ Hid (∀ t u, news[t]? = some u → w.drew.cell? (A.add t) = some u) := by
    by_cases h : cap = j
    · refine ⟨⟨g, 0, none⟩, by simp [h], fun t u hu => ?_⟩
      have h0 : news.length = 0 := by rw [hnl]; omega
      rw [List.length_eq_zero_iff.1 h0] at hu
      simp at hu
    · refine ⟨⟨g, j * 7, none⟩, by simp [h], fun t u hu => ?_⟩
      have ht : t < (n - j) * 7 := by
        have := (List.getElem?_eq_some_iff.1 hu).1
        rwa [hnl] at this
      rw [st_add']
      show w.cell? _ = _
      rw [hcell _ (by omega), ← hu, hnews, mgCells_drop, List.getElem?_drop]
  have s1 : Hid (news.length = (n - j) * 7) := hnl
  have s2 : Hid (∀ u ∈ news, u.oneCell' = true) := fun u hu => mgCells_one (by rw [← hnews]; exact hu)
  have s3 : Hid (∀ t, t < news.length → (w.drew.cell? ⟨g, 0 + i * 7 + t, none⟩).isSome = true ∧ w.drew.frozen? ⟨g, 0 + i * 7 + t, none⟩ = false) := fun t ht => by
    rw [hnl] at ht
    exact ⟨hsome _ (by omega), hfz _⟩
  obtain ⟨W1, hW1⟩ : ∃ W1, W1 = w.drew.setCells g (0 + i * 7) news := ⟨_, rfl⟩
  obtain ⟨cs1, c1, c2, c3⟩ := heap_setCells g 35 news (i * 7) w.drew cur hg (by rw [hnl, hsz]; omega)
  obtain ⟨⟨r1, r2, r3, r4⟩, r5⟩ := setCells_rest g news (i * 7) w.drew
  rw [Nat.zero_add] at hW1
  rw [← hW1] at c1 r1 r2 r3 r4 r5
  obtain ⟨m, hm⟩ : ∃ m : Nat, m = i + (n - j) := ⟨_, rfl⟩
  have hcl : ∀ ty, (Builtin.clear_ #[30] ty #[.slice (some ⟨g, (i + (n - j)) * 7, none⟩) (n - (i + (n - j))) (cap - (i + (n - j)))]).run Try.prog W1 = .ok (.tuple #[]) (W1.setCells g (m * 7) (List.replicate 7 (.int .i64 0))) := by
    intro ty
    rw [← hm, show n - m = 1 by omega]
    exact clear_msg W1 ty g (m * 7) _ (fun t ht => by rw [cell_of c1]; simp [c2, hsz]; omega) (fun t ht => frozen_of_row _ _ _ _ _ c1)
  have HW : Hid (W1 = w.drew.setCells g (0 + i * 7) news) := by show W1 = _; rw [Nat.zero_add]; exact hW1
  have HFIN : Hid ((W1.setCells g (m * 7) (List.replicate 7 (.int .i64 0))).ownsRow B 35 7 (.slice (some ⟨g, 0, none⟩) (n - 1) cap) (n - 1) (mgCells (l.eraseIdx i)) ∧ w.grownBy (W1.setCells g (m * 7) (List.replicate 7 (.int .i64 0))) (some g)) := by
    obtain ⟨cs2, d1, d2, d3⟩ := heap_setCells g 35 (List.replicate 7 (.int .i64 0)) (m * 7) W1 cs1 c1 (by rw [c2, hsz]; simp; omega)
    obtain ⟨⟨q1, q2, q3, q4⟩, q5⟩ := setCells_rest g (List.replicate 7 (.int .i64 0)) (m * 7) W1
    have he : mgCells (l.eraseIdx i) = (mgCells l).take (i * 7) ++ (mgCells l).drop (j * 7) := by
      rw [List.eraseIdx_eq_take_drop_succ, mgCells_append, mgCells_take, mgCells_drop, hj]
    refine ⟨⟨by rw [mgCells_len, List.length_eraseIdx]; simp [hn, hi], .inr ⟨g, cap, cs2, rfl, hB, d1, by omega, hcm, by rw [d2, c2, hsz], ?_⟩⟩, ⟨?_, ?_, ?_, ?_, fun k hk hne => ?_⟩⟩
    · rw [he]
      apply List.ext_getElem?
      intro k
      rw [app_get _ _ _ hlen (by omega)]
      by_cases hk : k < (n - 1) * 7
      · rw [List.getElem?_take_of_lt hk, Array.getElem?_toList, d3 k, if_neg (by rw [List.length_replicate]; omega), c3 k]
        by_cases hk2 : k < i * 7
        · rw [if_neg (by omega), if_pos hk2, ← htk, List.getElem?_take_of_lt (by omega), Array.getElem?_toList]
        · rw [if_pos (by rw [hnl]; omega), if_neg hk2, hnews, mgCells_drop, List.getElem?_drop]
      · rw [List.getElem?_eq_none (by rw [List.length_take]; omega), if_neg (by omega), List.getElem?_eq_none (by rw [hlen]; omega)]
    · exact q1.trans r1
    · exact q2.trans r2
    · exact q3.trans r3
    · rw [q4, r4]; exact Nat.le_refl _
    · have hne' : k ≠ g := fun e => hne (by rw [e])
      rw [q5 k hne', r5 k hne']
      rfl
  have hlt : i < j := by omega
  have hic : i ≤ cap := by omega
  have hjc : j ≤ cap := by omega
  have hjn : j ≤ n := by omega
  have hmax : cap ≤ 9223372036854775807 := by unfold maxLen at hcm; omega
  have HM : Hid (m = i + (n - j)) := hm
  have HJ : Hid (j = i + 1) := hj
  clear c1 c2 c3 r1 r2 r3 r4 r5 hW1 hsome hfz hcell hnews hnl hlen htk hsz hg hB hcm hn hj hm
  go_enter Try.func25, Try.ntmps25
  go_wp2_with fail
  go_region_law (refine step_append_room rfl (.tmp 22) (.tmp 25) 30 rfl 35 i0 7 Try.underlying30 hi0 hz1 g 0 i cap (by simp [Act.eval, Act.put]) A (n - j) (cap - j) news (by simp [Act.eval, Act.put]) s1.out hsrc.out s2.out (by omega) s3.out ?_; rw [← HW.out])
  go_wp2
  go_ret
  refine ⟨?_, HFIN.out⟩
  have e1 := HM.out
  have e2 := HJ.out
  rw [show n - 1 = i + (n - j) by omega]
  rfl

/-- A copy of a row of messages. -/
theorem cln_nil (c : Nat) (w : World) : Calls Try.prog 27 #[.slice none 0 c] w fun e w' => e = .returned (.slice none 0 0) ∧ w = w' := by
  have q : ∀ (w : World) (a : Option Addr) (n c n' c' : Nat), (binOp .eql 30 (.slice a n c) (.slice none n' c')).run Try.prog w = .ok (.bool a.isNone) w := fun w a n c n' c' => Lib.run_eql_slice_nil w _ _ a n c n' c' Try.underlying30
  go_enter Try.func27, Try.ntmps27
  go_wp2
  go_ret
  exact ⟨rfl, rfl⟩
set_option maxHeartbeats 1000000 in
theorem cln_any {w : World} {a : Option Addr} {c : Nat} {l : List Mg} (hl : l.length ≤ 1000000) (ha : Mgs w a l) (hn : a = none → l = [] ∧ c = 0) :
    Calls Try.prog 27 #[.slice a l.length c] w (OwnM w l) := by
  cases a with
  | none =>
    obtain ⟨rfl, rfl⟩ := hn rfl
    refine (cln_nil 0 w).mono ?_
    rintro e w' ⟨rfl, rfl⟩
    exact ⟨none, 0, rfl, Nat.le_refl _, fun _ => ⟨rfl, rfl⟩, row_nil _ _ _ _, Below.refl _ _⟩
  | some ad =>
    have q : ∀ (w : World) (a : Option Addr) (n c n' c' : Nat), (binOp .eql 30 (.slice a n c) (.slice none n' c')).run Try.prog w = .ok (.bool a.isNone) w := fun w a n c n' c' => Lib.run_eql_slice_nil w _ _ a n c n' c' Try.underlying30
    have hb0 : Below w.heap.size w (w.alloc (.cells #[] 35)) := bel_al (Below.refl _ _) _
    have hrow : (w.alloc (.cells #[] 35)).ownsRow w.heap.size 35 7 (.slice (some ⟨w.heap.size, 0, none⟩) ([] : List Mg).length 0) ([] : List Mg).length (mgCells []) := World.ownsRow_made w #[] 0 (Nat.le_refl _) (Nat.zero_le _) (by simp)
    have HA := hide (ha.below hb0)
    clear ha hn
    have HL := hide hl
    obtain ⟨n, hn⟩ : ∃ n, l.length = n := ⟨_, rfl⟩
    have HN := hide hn
    rw [hn] at hl ⊢
    clear hn
    go_enter Try.func27, Try.ntmps27
    go_wp2_with (at_builtin; refine append_mgs rfl _ _ rfl w.heap.size (.slice (some ⟨w.heap.size, 0, none⟩) 0 0) [] rfl hrow (some ad) l c (by rw [HN.out]; rfl) (by simp) HA.out (by simpa using HL.out) (by simp) ?_; intro a' c' w' hown hg)
    go_ret
    simp only [List.nil_append, List.length_nil, Nat.zero_add] at hown ⊢
    obtain ⟨a2, c2, e2, hc2⟩ := row_slice hown
    cases e2
    refine ⟨a', c', rfl, hc2, fun e => ?_, hown, hb0.grown hg (by simp) (fun k e => ?_)⟩
    · subst e
      obtain ⟨h1, h2⟩ := row_none hown
      exact ⟨List.eq_nil_of_length_eq_zero h1, h2⟩
    · simp [Value.ownBlock] at e
      omega
end Go.Proofs.Ytmndemjjfhdfdaa
