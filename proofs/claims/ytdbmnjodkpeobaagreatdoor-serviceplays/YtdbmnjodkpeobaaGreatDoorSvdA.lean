/-
  Contracts of service's New, Crash; of Handle, Crash, Start where there is no service.
-/
import Derived.Test.YtdbmnjodkpeobaaGreatDoorSvcZ
namespace Go.Proofs.YtdbmnjodkpeobaaGreatDoor
open Go.ChangeShapes Go.WideShapes Go.ChangeAt Go.RowKit Go.Maps

theorem snew_no (node hold room : Int) (h : ¬ (4 ≤ node ∧ node ≤ 6)) (w : World) :
    Calls Tryz.prog 7 #[.int .i64 node, .int .i64 hold, .int .i64 room] w fun e w' => e = .returned (.pointer none) ∧ w = w' := by
  by_cases h1 : node < 4
  · clear h
    go_enter Tryz.func7, Tryz.ntmps7
    go_wp2
    go_ret
    exact ⟨rfl, rfl⟩
  · have h2 : node > 6 := by omega
    clear h
    go_enter Tryz.func7, Tryz.ntmps7
    go_wp2
    go_ret
    exact ⟨rfl, rfl⟩
/-- A service that was just made. -/
def Made (w : World) (v : Sv) (e : Ending) (w' : World) : Prop :=
  ∃ p E, e = .returned (.pointer (some ⟨p, 0, none⟩)) ∧ Nd w.heap.size E w' p v 0 ∧ Below w.heap.size w w'
theorem made_of {w w1 : World} {node hold room : Int} (hnd : 4 ≤ node ∧ node ≤ 6) {u : World}
    (hu : u = (w.alloc (.cells #[.int .i64 (roomV room), .slice none 0 0, .int .i64 0, .bool false] 83)).alloc (.cells #[.int .i64 node, .int .i64 hold, .pointer (some ⟨w.heap.size, 0, none⟩), .pointer none, .map none] 62))
    (h : ∃ pb mb sb, w1.heap[w.heap.size + 1]? = some (.cells #[.int .i64 node, .int .i64 hold, .pointer (some ⟨w.heap.size, 0, none⟩), .pointer (some ⟨pb, 0, none⟩), .map (some sb)] 62 (0, 0)) ∧ Hd.Bk u.heap.size w1 pb mb (Hd.clampA hold) (fun _ => 0) 0 ∧ Mp w1 sb 0 (fun _ => 0) ∧ mb ≠ sb ∧ u.heap.size ≤ sb ∧ Rg.Kept (fun k _ => k = w.heap.size + 1) u w1) :
    Made w (newSv node hold room) (.returned (.pointer (some ⟨w.heap.size + 1, 0, none⟩))) w1 := by
  obtain ⟨pb, mb, sb, h1, h2, h3, h4, h5, h6⟩ := h
  have hus : u.heap.size = w.heap.size + 2 := by rw [hu]; simp
  have hbu : Below w.heap.size w u := by rw [hu]; exact ((Below.refl _ _).alloc (Nat.le_refl _) _).alloc (by simp) _
  have j0 : Jr w.heap.size u w.heap.size (.slice none 0 0) (roomV room) [] 0 false := by
    rw [hu]
    exact (Jr.new w w.heap.size (Nat.le_refl _) (roomV room) (roomV_in room).1 (roomV_in room).2).on ((Below.refl _ _).alloc (Nat.le_refl _) _)
  have j1 : Jr w.heap.size w1 w.heap.size (.slice none 0 0) (roomV room) [] 0 false := j0.kept h6 (fun _ e => by omega) (fun k _ e => by simp [Value.ownBlock] at e)
  have hs := h6.size
  refine ⟨w.heap.size + 1, fun k => w.heap.size ≤ k ∧ k < w1.heap.size, rfl, ⟨fun k e => e, newSv_good hnd, w.heap.size, .slice none 0 0, pb, mb, sb, h1, j1, h2.base (by omega), h3, h4, ⟨by omega, by omega⟩, ⟨by omega, by omega⟩, (fun k e => by simp [Value.ownBlock] at e), ⟨by have := h2.2.1; omega, h2.lt⟩, ⟨by have := h2.2.2.1; omega, h2.ltb⟩, ⟨by omega, h3.lt⟩⟩, ?_⟩
  exact hbu.trans (h6.bel (by omega) (fun k _ e => by omega))
theorem snew_any (node hold room : Int) (h : 4 ≤ node ∧ node ≤ 6) (w : World) :
    Calls Tryz.prog 7 #[.int .i64 node, .int .i64 hold, .int .i64 room] w (Made w (newSv node hold room)) := by
  have h1 : ¬ node < 4 := by omega
  have h2 : ¬ node > 6 := by omega
  obtain ⟨u, hu⟩ : ∃ u, u = (w.alloc (.cells #[.int .i64 (roomV room), .slice none 0 0, .int .i64 0, .bool false] 83)).alloc (.cells #[.int .i64 node, .int .i64 hold, .pointer (some ⟨w.heap.size, 0, none⟩), .pointer none, .map none] 62) := ⟨_, rfl⟩
  have e1 : u.heap[w.heap.size + 1]? = some (.cells #[.int .i64 node, .int .i64 hold, .pointer (some ⟨w.heap.size, 0, none⟩), .pointer none, .map none] 62 (0, 0)) := by
    rw [hu]
    have := World.alloc_heap_new (w.alloc (.cells #[.int .i64 (roomV room), .slice none 0 0, .int .i64 0, .bool false] 83)) (.cells #[.int .i64 node, .int .i64 hold, .pointer (some ⟨w.heap.size, 0, none⟩), .pointer none, .map none] 62)
    rwa [World.size_alloc] at this
  have F := sforget_any e1
  have MK := hide (fun w1 => made_of (w1 := w1) h hu)
  have N := new_any room w
  generalize roomV room = rm at hu MK N ⊢
  have HU := hide hu
  clear h e1
  rw [hu] at F
  clear hu
  go_enter Tryz.func7, Tryz.ntmps7
  go_wp2_with (first
    | (go_at_call 21; refine N.mono ?_; clear N; rintro e w1 ⟨rfl, rfl⟩)
    | (go_at_call 22; refine F.mono ?_; clear F; rintro e w2 ⟨⟨x, rfl⟩, hx⟩; rw [← HU.out] at hx; have HX := hide (MK.out w2 hx); clear hx))
  go_ret
  exact HX.out

section
variable {B : Nat} {E : Nat → Prop} {w : World} {p : Nat} {v : Sv} {n : Nat}
/-- All is forgotten but the journal. -/
theorem forgot_of {E : Nat → Prop} {w w1 w2 : World} {v : Sv} {q : Nat} {r : Value} {pb mb sb : Nat} (hE : ∀ k, E k → B ≤ k ∧ k < w.heap.size) (hG : GoodSv v) (hB : B ≤ w.heap.size) (k : NdV B (growE E w w1) w1 p ⟨v.node, v.hold, v.room, v.T, true, v.st⟩ n q r pb mb sb) (hk : Rg.Kept (fun k _ => E k) w w1) (hp : E p)
    (h : ∃ pb mb sb, w2.heap[p]? = some (.cells #[.int .i64 v.node, .int .i64 v.hold, .pointer (some ⟨q, 0, none⟩), .pointer (some ⟨pb, 0, none⟩), .map (some sb)] 62 (0, 0)) ∧ Hd.Bk w1.heap.size w2 pb mb (Hd.clampA v.hold) (fun _ => 0) 0 ∧ Mp w2 sb 0 (fun _ => 0) ∧ mb ≠ sb ∧ w1.heap.size ≤ sb ∧ Rg.Kept (fun k _ => k = p) w1 w2) :
    Nd B (growE E w w2) w2 p (crS v) 0 ∧ Rg.Kept (fun k _ => E k) w w2 := by
  obtain ⟨pb', mb', sb', h1, h2, h3, h4, h5, h6⟩ := h
  obtain ⟨⟨a1, _⟩, _, _, d1⟩ := k.apart
  have s1 := hk.size
  have s2 := h6.size
  have j := k.jr.kept h6 (fun _ e => a1 e.symm) (fun i _ e => (d1 i e).1)
  have up : ∀ i, growE E w w1 i → growE E w w2 i := fun i e => e.imp (fun e => e) (fun e => ⟨e.1, by omega⟩)
  refine ⟨⟨grow_in hE hB (by omega), crS_good hG, q, r, pb', mb', sb', h1, j, h2.base (by omega), h3, h4, .inl hp, up _ k.eq, fun i e => up _ (k.er i e), .inr ⟨by have := h2.2.1; omega, h2.lt⟩, .inr ⟨by have := h2.2.2.1; omega, h2.ltb⟩, .inr ⟨by omega, h3.lt⟩⟩, hk.trans (h6.mono (fun i _ e => by subst e; exact hp))⟩
theorem scrash_any (k : Nd B E w p v n) (stay torn : Int) :
    Calls Tryz.prog 10 #[.pointer (some ⟨p, 0, none⟩), .int .i64 stay, .int .i64 torn] w fun e w' => (∃ x, e = .returned x) ∧ Nd B (growE E w w') w' p (crS v) 0 ∧ Rg.Kept (fun k _ => E k) w w' := by
  obtain ⟨hE, hG, q, r, pb, mb, sb, k0⟩ := id k
  have hB := k.low
  have hln : (v.T.map lnE).length = v.T.length := List.length_map _
  have C : Calls Tryz.prog 25 #[.pointer (some ⟨q, 0, none⟩), .int .i64 stay, .int .i64 torn] w fun e w' => (∃ x, e = .returned x) ∧ ∃ r', NdV B (growE E w w') w' p ⟨v.node, v.hold, v.room, v.T, true, v.st⟩ n q r' pb mb sb ∧ Rg.Kept (fun k _ => E k) w w' := by
    cases hd : v.down
    · have j := k0.jr
      rw [hd] at j
      have cs := crash_sure (v.T.map lnE) stay torn
      rw [hln] at cs
      refine (crash_up j (by rw [hln]; exact Nat.le_refl _) stay torn).mono ?_
      rintro e w' ⟨h1, r', h2, h3⟩
      rw [cs] at h2
      exact ⟨h1, r', k0.jstep h2 h3⟩
    · have j := k0.jr
      rw [hd] at j
      refine (crash_down j stay torn).mono ?_
      rintro e w' ⟨h1, h2⟩
      have k1 := (k0.on h2).wide (E' := growE E w w') (fun i e => .inl e)
      have e1 : (⟨v.node, v.hold, v.room, v.T, true, v.st⟩ : Sv) = v := by rw [← hd]
      rw [e1]
      exact ⟨h1, r, k1, Rg.Kept.of_below h2⟩
  have FX : Hid (∀ w1 r', NdV B (growE E w w1) w1 p ⟨v.node, v.hold, v.room, v.T, true, v.st⟩ n q r' pb mb sb → Rg.Kept (fun k _ => E k) w w1 → Calls Tryz.prog 22 #[.pointer (some ⟨p, 0, none⟩)] w1 fun e w' => (∃ x, e = .returned x) ∧ Nd B (growE E w w') w' p (crS v) 0 ∧ Rg.Kept (fun k _ => E k) w w') := fun w1 r' h1 h2 =>
    (sforget_any h1.blk).mono (fun _ w2 ⟨h3, h4⟩ => ⟨h3, forgot_of hE hG hB h1 h2 k0.ep h4⟩)
  obtain ⟨-, -, c2, -, -⟩ := k0.cells
  clear k0 hE hG hB hln k
  go_enter Tryz.func10, Tryz.ntmps10
  go_wp2_with (first
    | (go_at_call 25; refine C.mono ?_; clear C; rintro e w1 ⟨⟨x, rfl⟩, r', h1, h2⟩; have F := FX.out w1 r' h1 h2; clear h1 h2 FX)
    | (go_at_call 22; refine F.mono ?_; clear F; rintro e w2 ⟨⟨x, rfl⟩, hx⟩; have HX := hide hx; clear hx))
  go_end0
  exact ⟨⟨_, rfl⟩, HX.out⟩
end
theorem scrash_nil (stay torn : Int) (w : World) : Calls Tryz.prog 10 #[.pointer none, .int .i64 stay, .int .i64 torn] w fun e w' => (∃ x, e = .returned x) ∧ w = w' := by
  go_enter Tryz.func10, Tryz.ntmps10
  go_wp2
  refine bodyPost_ret (results_none rfl _ _ _) rfl ?_
  exact ⟨⟨_, rfl⟩, rfl⟩
theorem sstart_nil (w : World) : Calls Tryz.prog 12 #[.pointer none] w fun e w' => (∃ x, e = .returned x) ∧ Below w.heap.size w w' := by
  have D := sdown_nil (w.alloc (.cells #[.pointer none] 23))
  have hb0 : Below w.heap.size w (w.alloc (.cells #[.pointer none] 23)) := (Below.refl _ _).alloc (Nat.le_refl _) _
  have HB := hide hb0
  clear hb0
  go_enter Tryz.func12, Tryz.ntmps12
  go_wp2_with (go_at_call 20; refine D.mono ?_; clear D; rintro e w' ⟨rfl, rfl⟩)
  refine bodyPost_ret (results_none rfl _ _ _) rfl ?_
  exact ⟨⟨_, rfl⟩, HB.out⟩
theorem shandle_nil (m : Ms.Mg) (w : World) : Calls Tryz.prog 15 #[.pointer none, .agg #[.int .i64 m.k, .int .i64 m.fr, .int .i64 m.to, .int .i64 m.id, .int .i64 m.st, .int .i64 m.a, .int .i64 m.b]] w fun e w' => e = .returned (.slice none 0 0) ∧ Below w.heap.size w w' := by
  have H := shears_nil m (w.alloc (.cells #[.int .i64 m.k, .int .i64 m.fr, .int .i64 m.to, .int .i64 m.id, .int .i64 m.st, .int .i64 m.a, .int .i64 m.b] 29))
  have hb0 : Below w.heap.size w (w.alloc (.cells #[.int .i64 m.k, .int .i64 m.fr, .int .i64 m.to, .int .i64 m.id, .int .i64 m.st, .int .i64 m.a, .int .i64 m.b] 29)) := (Below.refl _ _).alloc (Nat.le_refl _) _
  have HB := hide hb0
  clear hb0
  go_enter Tryz.func15, Tryz.ntmps15
  go_wp2_with (go_at_call 34; refine H.mono ?_; clear H; rintro e w' ⟨rfl, hb⟩; have HX := hide (bel_on' HB.out hb); clear hb)
  go_ret
  exact ⟨rfl, HX.out⟩
end Go.Proofs.YtdbmnjodkpeobaaGreatDoor
