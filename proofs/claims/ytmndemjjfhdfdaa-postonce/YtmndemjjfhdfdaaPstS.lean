/-
  A post in memory: its block, its row. Contracts of post's New, Len, Lost, cut; those of a nil post.
-/
import Derived.Test.YtmndemjjfhdfdaaPstM
import Derived.Test.YtmndemjjfhdfdaaPstD
namespace Go.Proofs.Ytmndemjjfhdfdaa
open Go.ChangeShapes Go.WideShapes Go.ChangeAt Go.RowKit

/-- A set of blocks, and what has come behind all that lay there. -/
def growE (E : Nat → Prop) (w w' : World) : Nat → Prop := fun k => E k ∨ (w.heap.size ≤ k ∧ k < w'.heap.size)
/-- The post's block, its row v. -/
def PsV (B : Nat) (E : Nat → Prop) (w : World) (p : Nat) (s : Ps) (v : Value) : Prop :=
  w.heap[p]? = some (.cells #[.int .i64 s.most, v, .int .i64 s.lost] 52 (0, 0)) ∧
  w.ownsRow B 35 7 v s.l.length (mgCells s.l) ∧ (∀ k, v.ownBlock = some k → E k)
/-- The post at p; all its blocks are of E. -/
def Pt (B : Nat) (E : Nat → Prop) (w : World) (p : Nat) (s : Ps) : Prop :=
  (∀ k, E k → B ≤ k ∧ k < w.heap.size) ∧ E p ∧ GoodPs s ∧ ∃ v, PsV B E w p s v
section
variable {B : Nat} {E E' : Nat → Prop} {w w' : World} {p : Nat} {s : Ps} {v : Value}
theorem PsV.kept {F : Nat → Obj → Prop} (k : PsV B E w p s v) (hp : E p) (hk : Rg.Kept F w w') (hE : ∀ k o, E k → ¬ F k o) : PsV B E w' p s v := by
  obtain ⟨h1, h2, h3⟩ := k
  refine ⟨hk.block _ _ h1 (hE _ _ hp), ⟨h2.1, ?_⟩, h3⟩
  rcases h2.2 with h | ⟨g, cap, cur, rfl, hg, hc, rest⟩
  · exact .inl h
  · exact .inr ⟨g, cap, cur, rfl, hg, hk.block _ _ hc (hE _ _ (h3 g rfl)), rest⟩
theorem PsV.mono (k : PsV B E w p s v) (hE : ∀ k, E k → E' k) : PsV B E' w p s v := ⟨k.1, k.2.1, fun k' e => hE _ (k.2.2 k' e)⟩
theorem Pt.good (k : Pt B E w p s) : GoodPs s := k.2.2.1
theorem Pt.low (k : Pt B E w p s) : B ≤ w.heap.size := by have := k.1 p k.2.1; omega
theorem Pt.kept {F : Nat → Obj → Prop} (k : Pt B E w p s) (hk : Rg.Kept F w w') (hE : ∀ k o, E k → ¬ F k o) : Pt B E w' p s := by
  obtain ⟨h1, h2, h3, v, h4⟩ := k
  exact ⟨fun k e => ⟨(h1 k e).1, Nat.lt_of_lt_of_le (h1 k e).2 hk.size⟩, h2, h3, v, h4.kept h2 hk hE⟩
theorem Pt.on (k : Pt B E w p s) (hb : Below w.heap.size w w') : Pt B E w' p s := k.kept (F := fun _ _ => False) (Rg.Kept.of_below hb) (fun _ _ _ h => h)
theorem Pt.wide (k : Pt B E w p s) (h : ∀ k, E k → E' k) (h' : ∀ k, E' k → B ≤ k ∧ k < w.heap.size) : Pt B E' w p s := by
  obtain ⟨_, h2, h3, v, h4⟩ := k
  exact ⟨h', h _ h2, h3, v, h4.mono h⟩
theorem Pt.grow {W : World} (k : Pt B E w p s) (hB : B ≤ W.heap.size) : Pt B (growE E W w) w p s :=
  k.wide (fun _ e => .inl e) (fun i e => e.elim (k.1 i) (fun e => ⟨by omega, e.2⟩))
theorem Pt.bel (k : Pt B E w p s) (hk : Rg.Kept (fun i _ => E i) w w') : Below B w w' := hk.bel k.low (fun i _ e => (k.1 i e).1)
theorem PsV.cell0 (k : PsV B E w p s v) : w.cell? ⟨p, 0, none⟩ = some (.int .i64 s.most) := by rw [cell_of k.1]; rfl
theorem PsV.cell1 (k : PsV B E w p s v) : w.cell? ⟨p, 1, none⟩ = some v := by rw [cell_of k.1]; rfl
theorem PsV.cell2 (k : PsV B E w p s v) : w.cell? ⟨p, 2, none⟩ = some (.int .i64 s.lost) := by rw [cell_of k.1]; rfl
theorem PsV.frozen (k : PsV B E w p s v) (i : Nat) : w.frozen? ⟨p, i, none⟩ = false := frozen_of_row _ _ _ _ _ k.1
theorem PsV.lt (k : PsV B E w p s v) : p < w.heap.size := (Array.getElem?_eq_some_iff.1 k.1).1
end
theorem typ_neP : 52 ≠ 35 := by decide
/-- What has turned where the row alone may turn. -/
theorem row_kept {B : Nat} {E : Nat → Prop} {w w1 : World} {v : Value} {n : Nat} {xs : List Value} (hr : w.ownsRow B 35 7 v n xs) (hE : ∀ k, v.ownBlock = some k → E k) (hg : w.grownBy w1 v.ownBlock) :
    Rg.Kept (fun i o => E i ∧ ∃ cs, o = .cells cs 35 (0, 0)) w w1 := by
  refine ⟨hg.os, hg.tape, hg.output, hg.size, fun k o hk hx => ?_⟩
  rw [hg.block k (Array.getElem?_eq_some_iff.1 hk).1 (fun e => ?_)]
  · exact hk
  · rcases hr.2 with ⟨rfl, _⟩ | ⟨g, cap, cur, rfl, _, hc, _⟩
    · simp [Value.ownBlock] at e
    · simp [Value.ownBlock] at e
      subst e
      rw [hk] at hc
      cases hc
      exact hx ⟨hE k rfl, cur, rfl⟩
/-- The row has turned; its value is stored. -/
theorem PsV.turn {B : Nat} {E E' : Nat → Prop} {w w1 : World} {p : Nat} {s : Ps} {v v' : Value} {l' : List Mg} (hv : PsV B E w p s v) (hp : E p) (hk : Rg.Kept (fun i o => E i ∧ ∃ cs, o = .cells cs 35 (0, 0)) w w1)
    (hown : w1.ownsRow B 35 7 v' l'.length (mgCells l')) (hE : ∀ k, v'.ownBlock = some k → E' k) :
    w1.heap[p]? = some (.cells #[.int .i64 s.most, v, .int .i64 s.lost] 52 (0, 0)) ∧ PsV B E' (w1.setCell ⟨p, 1, none⟩ v') p ⟨s.most, l', s.lost⟩ v' ∧ Rg.Kept (fun i _ => E i) w (w1.setCell ⟨p, 1, none⟩ v') := by
  have hnp : ¬ (E p ∧ ∃ cs, Obj.cells #[.int .i64 s.most, v, .int .i64 s.lost] 52 (0, 0) = .cells cs 35 (0, 0)) := by
    rintro ⟨_, cs, e⟩
    simp only [Obj.cells.injEq] at e
    exact typ_neP e.2.1
  have h4 := hk.block _ _ hv.1 hnp
  refine ⟨h4, ⟨?_, row_stays hown (fun k cs _ hc => Below.heap_setCell _ _ _ _ (fun e => ?_)), hE⟩, (hk.mono (fun _ _ e => e.1)).trans (Rg.Kept.setCell _ (fun _ => hp))⟩
  · rw [heap_setCell_same _ _ _ _ _ _ h4]
    rfl
  · subst e
    have hc' := h4.symm.trans hc
    simp only [Option.some.injEq, Obj.cells.injEq] at hc'
    exact typ_neP hc'.2.1
/-- How many were lost is stored. -/
theorem PsV.lost {B : Nat} {E : Nat → Prop} {w : World} {p : Nat} {s : Ps} {v : Value} (hv : PsV B E w p s v) (n : Nat) : PsV B E (w.setCell ⟨p, 2, none⟩ (.int .i64 n)) p ⟨s.most, s.l, n⟩ v := by
  refine ⟨?_, row_stays hv.2.1 (fun k cs _ hc => Below.heap_setCell _ _ _ _ (fun e => ?_)), hv.2.2⟩
  · rw [heap_setCell_same _ _ _ _ _ _ hv.1]
    rfl
  · subst e
    have hc' := hv.1.symm.trans hc
    simp only [Option.some.injEq, Obj.cells.injEq] at hc'
    exact typ_neP hc'.2.1

theorem tnew_any (most : Int) (w : World) : Calls Try.prog 10 #[.int .i64 most] w fun e w' => e = .returned (.pointer (some ⟨w.heap.size, 0, none⟩)) ∧ Pt w.heap.size (fun k => k = w.heap.size) w' w.heap.size (newPs most) ∧ Below w.heap.size w w' := by
  have HF : Hid (∀ n : Nat, clampP most = n → Pt w.heap.size (fun k => k = w.heap.size) (w.alloc (.cells #[.int .i64 n, .slice none 0 0, .int .i64 0] 52)) w.heap.size (newPs most)) := fun n hn => by
    refine ⟨fun k e => ?_, rfl, GoodPs.new most, .slice none 0 0, ?_, World.ownsRow_nil _ _ _ _, fun k e => by simp [Value.ownBlock] at e⟩
    · subst e
      exact ⟨Nat.le_refl _, by simp⟩
    · unfold newPs
      rw [hn]
      exact World.alloc_heap_new _ _
  by_cases h1 : most < 1
  · have hc : clampP most = 1 := by unfold clampP; rw [if_pos h1]
    have HP := hide (HF.out 1 hc)
    clear HF hc
    go_enter Try.func10, Try.ntmps10
    go_wp2
    go_ret
    exact ⟨rfl, HP.out, bel_al (Below.refl _ _) _⟩
  · by_cases h2 : 256 < most
    · have hc : clampP most = 256 := by unfold clampP; rw [if_neg h1, if_pos h2]
      have HP := hide (HF.out 256 hc)
      clear HF hc
      go_enter Try.func10, Try.ntmps10
      go_wp2
      go_ret
      exact ⟨rfl, HP.out, bel_al (Below.refl _ _) _⟩
    · obtain ⟨n, rfl⟩ : ∃ n : Nat, most = n := ⟨most.toNat, by omega⟩
      have hc : clampP n = n := by unfold clampP; rw [if_neg h1, if_neg h2]; rfl
      have HP := hide (HF.out n hc)
      clear HF hc
      go_enter Try.func10, Try.ntmps10
      go_wp2
      go_ret
      exact ⟨rfl, HP.out, bel_al (Below.refl _ _) _⟩
theorem tlen_any {B : Nat} {E : Nat → Prop} {w : World} {p : Nat} {s : Ps} (k : Pt B E w p s) : Calls Try.prog 20 #[.pointer (some ⟨p, 0, none⟩)] w fun e w' => e = .returned (.int .i64 s.l.length) ∧ w = w' := by
  obtain ⟨-, -, -, v, hv⟩ := k
  obtain ⟨a, c, rfl, -⟩ := row_slice hv.2.1
  have c1 := hv.cell1
  clear hv
  go_enter Try.func20, Try.ntmps20
  go_wp2
  go_ret
  exact ⟨rfl, rfl⟩
theorem tlost_any {B : Nat} {E : Nat → Prop} {w : World} {p : Nat} {s : Ps} (k : Pt B E w p s) : Calls Try.prog 21 #[.pointer (some ⟨p, 0, none⟩)] w fun e w' => e = .returned (.int .i64 s.lost) ∧ w = w' := by
  obtain ⟨-, -, -, v, hv⟩ := k
  have c1 := hv.cell2
  clear hv
  go_enter Try.func21, Try.ntmps21
  go_wp2
  go_ret
  exact ⟨rfl, rfl⟩
theorem tlennil_any (w : World) : Calls Try.prog 20 #[.pointer none] w fun e w' => e = .returned (.int .i64 0) ∧ w = w' := by
  go_enter Try.func20, Try.ntmps20
  go_wp2
  go_ret
  exact ⟨rfl, rfl⟩
theorem tlostnil_any (w : World) : Calls Try.prog 21 #[.pointer none] w fun e w' => e = .returned (.int .i64 0) ∧ w = w' := by
  go_enter Try.func21, Try.ntmps21
  go_wp2
  go_ret
  exact ⟨rfl, rfl⟩
theorem tputnil_any (a : Option Addr) (n c : Nat) (w : World) : Calls Try.prog 12 #[.pointer none, .slice a n c] w fun e w' => e = .returned (.tuple #[]) ∧ w = w' := by
  go_enter Try.func12, Try.ntmps12
  go_wp2
  refine bodyPost_ret (results_none rfl _ _ _) rfl ?_
  exact ⟨rfl, rfl⟩
set_option maxHeartbeats 1000000 in
/-- cut, over the block and the row alone (how many there are is no matter). -/
theorem tcut_any {B : Nat} {E : Nat → Prop} {w : World} {p : Nat} {s : Ps} {v : Value} (hp : E p) (hv : PsV B E w p s v) {i : Nat} (hi : i < s.l.length) :
    Calls Try.prog 22 #[.pointer (some ⟨p, 0, none⟩), .int .i64 i] w fun e w' => e = .returned (.tuple #[]) ∧ (∃ v', PsV B E w' p ⟨s.most, s.l.eraseIdx i, s.lost⟩ v') ∧ Rg.Kept (fun i _ => E i) w w' := by
  have hn : s.l.length ≤ 9223372036854775807 := by
    rcases hv.2.1.2 with ⟨_, h0⟩ | ⟨g, cap, cur, e, _, _, h1, h2, _⟩
    · omega
    · unfold maxLen at h2; omega
  obtain ⟨g, cap, rfl⟩ : ∃ g cap, v = .slice (some ⟨g, 0, none⟩) s.l.length cap := by
    rcases hv.2.1.2 with ⟨_, h0⟩ | ⟨g, cap, cur, e, _⟩
    · omega
    · exact ⟨g, cap, e⟩
  have D := del_any hv.2.1 hi
  have c1 := hv.cell1
  have hL : (s.l.eraseIdx i).length = s.l.length - 1 := by rw [List.length_eraseIdx, if_pos hi]
  have HFIN : Hid (∀ w1, w1.ownsRow B 35 7 (.slice (some ⟨g, 0, none⟩) (s.l.length - 1) cap) (s.l.length - 1) (mgCells (s.l.eraseIdx i)) → w.grownBy w1 (some g) → _) := fun w1 h1 h2 => hv.turn (v' := .slice (some ⟨g, 0, none⟩) (s.l.length - 1) cap) (l' := s.l.eraseIdx i) (E' := E) hp (row_kept hv.2.1 hv.2.2 h2) (by rw [hL]; exact h1) hv.2.2
  obtain ⟨n, hN⟩ : ∃ n, s.l.length = n := ⟨_, rfl⟩
  rw [hN] at D c1 HFIN hi hn
  have hs : p < w.heap.size := hv.lt
  clear hv hN hL
  go_enter Try.func22, Try.ntmps22
  go_wp2_with fail
  refine D.mono ?_
  rintro e w1 ⟨rfl, h1, h2⟩
  obtain ⟨b1, k1, o1⟩ := HFIN.out w1 h1 h2
  have d1 := (cell_of (i := 1) b1)
  have f1 : w1.frozen? ⟨p, 1, none⟩ = false := frozen_of_row _ _ _ _ _ b1
  simp at d1
  have HK1 := hide k1
  have HO1 := hide o1
  clear h1 h2 k1 o1 b1 D HFIN
  go_wp2
  go_end0
  exact ⟨rfl, ⟨_, HK1.out⟩, HO1.out⟩
end Go.Proofs.Ytmndemjjfhdfdaa
