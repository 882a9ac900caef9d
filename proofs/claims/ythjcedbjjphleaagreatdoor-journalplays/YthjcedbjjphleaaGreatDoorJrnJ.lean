/-
  Contract: the law's same, of rows that say the same.
-/
import Derived.Test.YthjcedbjjphleaaGreatDoorJrnI
import Derived.Test.YthjcedbjjphleaaGreatDoorLater
namespace Go.Proofs.YthjcedbjjphleaaGreatDoor
open Go.ChangeShapes Go.WideShapes Go.ChangeAt Go.RowKit

/-- A row of entries: its cells, and where the numbers lie. -/
def Ents (w : World) (a : Option Addr) (xs : List Ev) : Prop :=
  xs = [] ∨ ∃ g off, a = some ⟨g, off, none⟩ ∧ ∀ i x, xs[i]? = some x → (w.cell? ⟨g, off + i * 3, none⟩ = some (.string x.k) ∧ w.cell? ⟨g, off + i * 3 + 1, none⟩ = some (.int .i64 x.id) ∧ w.cell? ⟨g, off + i * 3 + 2, none⟩ = some (.slice x.av x.l.length x.cv)) ∧ Ints w x.av x.l ∧ x.l.length ≤ 4611686018427387904
theorem Ents.below {w w' : World} {a : Option Addr} {xs : List Ev} (h : Ents w a xs) (hb : Below w.heap.size w w') : Ents w' a xs := by
  rcases h with h | ⟨g, off, ha, hc⟩
  · exact .inl h
  · refine .inr ⟨g, off, ha, fun i x hx => ?_⟩
    obtain ⟨⟨h1, h2, h3⟩, h4, h5⟩ := hc i x hx
    exact ⟨⟨cellL h1 hb, cellL h2 hb, cellL h3 hb⟩, h4.below hb, h5⟩
def Alike (xs ys : List Ev) : Prop := xs.length = ys.length ∧ ∀ (i : Nat) (x y : Ev), xs[i]? = some x → ys[i]? = some y → x.k = y.k ∧ x.id = y.id ∧ x.l = y.l

theorem evCells_at : ∀ (xs : List Ev) (i : Nat) (x : Ev), xs[i]? = some x → (evCells xs)[i * 3]? = some (.string x.k) ∧ (evCells xs)[i * 3 + 1]? = some (.int .i64 x.id) ∧ (evCells xs)[i * 3 + 2]? = some (.slice x.av x.l.length x.cv)
  | [], i, x, h => by simp at h
  | y :: r, 0, x, h => by
    simp at h
    subst h
    simp [evCells]
  | y :: r, i + 1, x, h => by
    have ih := evCells_at r i x (by simpa using h)
    have e : evCells (y :: r) = [.string y.k, .int .i64 y.id, .slice y.av y.l.length y.cv] ++ evCells r := by simp [evCells]
    rw [e, show (i + 1) * 3 = i * 3 + 3 by omega]
    refine ⟨?_, ?_, ?_⟩
    · rw [List.getElem?_append_right (by simp)]; simpa using ih.1
    · rw [List.getElem?_append_right (by simp)]; simpa using ih.2.1
    · rw [List.getElem?_append_right (by simp)]; simpa using ih.2.2
theorem ev_cells {W : World} {base : Nat} {a : Option Addr} {c : Nat} {xs : List Ev} (h : W.ownsRow base 32 3 (.slice a xs.length c) xs.length (evCells xs)) (h0 : xs ≠ []) :
    ∃ g, a = some ⟨g, 0, none⟩ ∧ base ≤ g ∧ (∃ cs, W.heap[g]? = some (.cells cs 32 (0, 0))) ∧ ∀ i x, xs[i]? = some x → W.cell? ⟨g, 0 + i * 3, none⟩ = some (.string x.k) ∧ W.cell? ⟨g, 0 + i * 3 + 1, none⟩ = some (.int .i64 x.id) ∧ W.cell? ⟨g, 0 + i * 3 + 2, none⟩ = some (.slice x.av x.l.length x.cv) := by
  have hc := fun g hg => h.cells (g := g) hg
  rcases h.2 with ⟨_, h1⟩ | ⟨g, cap, cur, e, hb, hcur, _⟩
  · exact absurd (List.eq_nil_of_length_eq_zero h1) h0
  · cases e
    refine ⟨g, rfl, hb, ⟨cur, hcur⟩, fun i x hx => ?_⟩
    obtain ⟨e1, e2, e3⟩ := evCells_at xs i x hx
    have c1 := hc g rfl _ _ e1
    have c2 := hc g rfl _ _ e2
    have c3 := hc g rfl _ _ e3
    rw [st_add] at c1 c2 c3
    exact ⟨c1, c2, c3⟩
theorem ents_of {W : World} {base : Nat} {a : Option Addr} {c : Nat} {xs : List Ev} (h : W.ownsRow base 32 3 (.slice a xs.length c) xs.length (evCells xs)) {B : Nat} (hg : ∀ x ∈ xs, Good B x W) : Ents W a xs := by
  by_cases h0 : xs = []
  · exact .inl h0
  · obtain ⟨g, ha, _, _, hc⟩ := ev_cells h h0
    refine .inr ⟨g, 0, ha, fun i x hx => ⟨hc i x hx, ?_, ?_⟩⟩
    · exact (hg x (List.mem_of_getElem? hx)).1.ints
    · have := (hg x (List.mem_of_getElem? hx)).2.1; omega

set_option maxRecDepth 100000 in
set_option maxHeartbeats 4000000 in
theorem jsame_any (a b : Option Addr) (xs ys : List Ev) (ca cb : Nat) (w : World) (hl : xs.length ≤ 100000) (ha : Ents w a xs) (hb : Ents w b ys) (hs : Alike xs ys) :
    Calls Tryz.prog 21 #[.slice a xs.length ca, .slice b ys.length cb] w fun e w' => e = .returned (.bool true) ∧ Below w.heap.size w w' := by
  have HA : Hid (Ents w a xs) := ha
  have HB : Hid (Ents w b ys) := hb
  have HS : Hid (Alike xs ys) := hs
  obtain ⟨n, hn⟩ : ∃ n, xs.length = n := ⟨_, rfl⟩
  have hm : ys.length = n := hs.1.symm.trans hn
  rw [hn] at hl ⊢
  rw [hm]
  have HN : Hid (xs.length = n) := hn
  have HM : Hid (ys.length = n) := hm
  clear ha hb hs hn hm
  go_enter Tryz.func21, Tryz.ntmps21
  go_wp2_with fail
  go_loopw [13] (fun i wr => ∃ j : Nat, i = .int .i64 j ∧ j ≤ n ∧ Hid (Below w.heap.size w wr)) (fun i _ => n - (intOf i).toNat)
  case atStart => exact ⟨0, rfl, Nat.zero_le _, Below.refl _ _⟩
  case round =>
    obtain ⟨j, rfl, hj, HBw⟩ := hrel
    by_cases hlt : j < n
    · have ql : (j : Int) < (n : Int) := by omega
      have hxl := HN.out
      have hyl := HM.out
      obtain ⟨x, hx⟩ : ∃ x, xs[j]? = some x := ⟨xs[j]'(by omega), by simp [hxl, hlt]⟩
      obtain ⟨y, hy⟩ : ∃ y, ys[j]? = some y := ⟨ys[j]'(by omega), by simp [hyl, hlt]⟩
      obtain ⟨ek, ei, el⟩ := HS.out.2 j x y hx hy
      rcases HA.out.below HBw.out with h | ⟨g, off, rfl, hca⟩
      · subst h; simp at hxl; omega
      rcases HB.out.below HBw.out with h | ⟨g', off', rfl, hcb⟩
      · subst h; simp at hyl; omega
      obtain ⟨⟨p0, p1, p2⟩, pi, pl⟩ := hca j x hx
      obtain ⟨⟨q0, q1, q2⟩, qi, -⟩ := hcb j y hy
      clear hca hcb hx hy hxl hyl
      have HPI := hide pi
      have HQI := hide qi
      have HPL := hide pl
      have HSM : Hid (sameB x.k x.id x.l y.k y.id y.l = true) := (same_iff _ _ _ _ _ _).2 ⟨ek, ei, el⟩
      clear pi qi pl ek ei el
      have hne : Nonempty (Later wr) := ⟨Later.now wr⟩
      have la0 := Later.cell p0
      have la1 := Later.cell p1
      have la2 := Later.cell p2
      have la3 := Later.cell q0
      have la4 := Later.cell q1
      have la5 := Later.cell q2
      have CS : ∀ u : Later wr, Calls Tryz.prog 30 #[.agg #[.string x.k, .int .i64 x.id, .slice x.av x.l.length x.cv], .agg #[.string y.k, .int .i64 y.id, .slice y.av y.l.length y.cv]] u.w fun e w' => e = .returned (.bool true) ∧ ∃ u' : Later wr, w' = u'.w := fun u => calls_later u (by
        have h := ref_same_entry x.k x.id x.av x.l x.cv y.k y.id y.av y.l y.cv u.w (HPI.out.below u.below) (HQI.out.below u.below) HPL.out
        rwa [HSM.out] at h)
      go_wp2_with fail
      refine region_later (by kernel_rfl) (by kernel_rfl) ?_
      repeat (first | go_big_quiet_step (first | (go_at_call 30; exact CS _)) | quiet_step (first | (go_at_call 30; exact CS _)))
      refine wpQuiet_nil ?_
      intro u
      have HBu := hide (bel_on' HBw.out u.below)
      generalize u.w = wu at HBu
      go_wp2
      go_roundw
      case rel => exact ⟨j + 1, by go_num, by omega, HBu⟩
      case measure => simp [intOf]; omega
    · have ql : ¬ (j : Int) < (n : Int) := by omega
      go_wp2
      go_ret
      exact ⟨rfl, HBw.out⟩
end Go.Proofs.YthjcedbjjphleaaGreatDoor
