/-
  Steps of the reference's Trace: what See leaves.
-/
import Derived.Test.YtdoejppnifoebaaFTrc
import Derived.Test.YtdoejppnifoebaaFTwo
import Derived.Test.YtdoejppnifoebaaRg
namespace Go.Proofs.Ytdoejppnifoebaa
open Go.ChangeShapes Go.WideShapes Go.ChangeAt Go.RowKit

/-- Nothing but the trace's own three blocks is turned. -/
def SeeK (B : Nat) (w : World) (p bd bu : Nat) (w' : World) : Prop := Below B w w' ∧ Rg.Kept (fun i _ => i = p ∨ i = bd ∨ i = bu) w w'
theorem SeeK.new {B : Nat} {w : World} {p bd bu : Nat} (hB : B ≤ w.heap.size) (X : Obj) : SeeK B w p bd bu (w.alloc X) := ⟨(Below.refl _ _).alloc hB X, Rg.Kept.of_below ((Below.refl _ _).alloc (Nat.le_refl _) X)⟩
theorem SeeK.set {B : Nat} {w : World} {p bd bu : Nat} {W : World} (h : SeeK B w p bd bu W) (q k : Nat) (v : Value) (hq : B ≤ q) (hr : q = p ∨ q = bd ∨ q = bu) : SeeK B w p bd bu (W.setCell ⟨q, k, none⟩ v) :=
  ⟨h.1.setCell (p := ⟨q, k, none⟩) hq v, h.2.trans ⟨rfl, rfl, rfl, by simp, fun j o hj hx => (Below.heap_setCell _ _ _ _ (show j ≠ (⟨q, k, none⟩ : Addr).block from fun e => hx (by have e2 : j = q := e; rw [e2]; exact hr))).trans hj⟩⟩
/-- What See tells, and leaves. -/
def SeeR (B : Nat) (w : World) (p bd bu : Nat) (o : Od) (a : Option Addr) (c n : Nat) (s : Fs) (x : Int × Int) (e : Ending) (w' : World) : Prop :=
  e = .returned (.bool (seeF n s x).isSome) ∧ Below B w w' ∧ (∀ s', seeF n s x = some s' → Tr B w' p bd bu o a c n s') ∧ (seeF n s x = none → Below w.heap.size w w') ∧ Rg.Kept (fun i _ => i = p ∨ i = bd ∨ i = bu) w w'
theorem see_no {B : Nat} {w : World} {p bd bu : Nat} {o : Od} {a : Option Addr} {c n : Nat} {s : Fs} {x : Int × Int} (X : Obj) (hB : B ≤ w.heap.size) (h : seeF n s x = none) : SeeR B w p bd bu o a c n s x (.returned (.bool false)) (w.alloc X) := by
  refine ⟨by rw [h]; rfl, (Below.refl _ _).alloc hB _, fun s' hs => ?_, fun _ => (Below.refl _ _).alloc (Nat.le_refl _) _, (SeeK.new hB X).2⟩
  rw [h] at hs
  cases hs
theorem see_yes {B : Nat} {w : World} {p bd bu : Nat} {o : Od} {a : Option Addr} {c n : Nat} {s : Fs} {x : Int × Int} {s' : Fs} {W : World} (h : seeF n s x = some s') (hb : SeeK B w p bd bu W) (ht : Tr B W p bd bu o a c n s') : SeeR B w p bd bu o a c n s x (.returned (.bool true)) W := by
  refine ⟨by rw [h]; rfl, hb.1, fun s'' hs => ?_, fun hn => ?_, hb.2⟩
  · rw [h] at hs
    cases hs
    exact ht
  · rw [h] at hn
    cases hn
theorem below_set {B : Nat} {w W : World} (h : Below B w W) (q k : Nat) (v : Value) (hq : B ≤ q) : Below B w (W.setCell ⟨q, k, none⟩ v) := h.setCell (p := ⟨q, k, none⟩) hq v
theorem tr_done {B : Nat} {w : World} {p bd bu : Nat} {o : Od} {a : Option Addr} {c n : Nat} {s : Fs} (h0 : Tr B w p bd bu o a c n s) (hB : B ≤ w.heap.size) (hu : s.u = s.d) (X : Obj) :
    SeeK B w p bd bu ((w.alloc X).setCell ⟨bd, s.d, none⟩ (.bool true)) ∧ Tr B ((w.alloc X).setCell ⟨bd, s.d, none⟩ (.bool true)) p bd bu o a c n ⟨s.d + 1, s.u + 1, s.yes, s.no, s.ship⟩ := by
  have h := h0.below ((Below.refl _ _).alloc (Nat.le_refl _) X)
  obtain ⟨o1, o2, o3, o4, o5, o6⟩ := h.own
  refine ⟨(SeeK.new hB X).set _ _ _ o2 (.inr (.inl rfl)), h.own, ?_, ?_, ?_⟩
  · have h1 := (Below.heap_setCell (w.alloc X) ⟨bd, s.d, none⟩ (.bool true) p o4).trans h.at_
    simpa using h1
  · rw [heap_setCell_same _ _ _ _ _ _ h.done, rowA_set, dB_set]
  · rw [← uB_done hu]
    exact (Below.heap_setCell (w.alloc X) ⟨bd, s.d, none⟩ (.bool true) bu (fun e => o6 e.symm)).trans h.undone
theorem tr_undone {B : Nat} {w : World} {p bd bu : Nat} {o : Od} {a : Option Addr} {c n : Nat} {s : Fs} (hh : Tr B w p bd bu o a c n s) (hB : B ≤ w.heap.size) (hu : s.u ≤ s.d) (h0 : 0 < s.u) (X : Obj) :
    SeeK B w p bd bu (((w.alloc X).setCell ⟨bu, s.u - 1, none⟩ (.bool true)).setCell ⟨p, 11, none⟩ (.bool true)) ∧ Tr B (((w.alloc X).setCell ⟨bu, s.u - 1, none⟩ (.bool true)).setCell ⟨p, 11, none⟩ (.bool true)) p bd bu o a c n ⟨s.d, s.u - 1, s.yes, s.no, s.ship⟩ := by
  have h := hh.below ((Below.refl _ _).alloc (Nat.le_refl _) X)
  obtain ⟨o1, o2, o3, o4, o5, o6⟩ := h.own
  have h1 : ((w.alloc X).setCell ⟨bu, s.u - 1, none⟩ (.bool true)).heap[p]? = _ := (Below.heap_setCell (w.alloc X) ⟨bu, s.u - 1, none⟩ _ p o5).trans h.at_
  have h2 : ((w.alloc X).setCell ⟨bu, s.u - 1, none⟩ (.bool true)).heap[bd]? = _ := (Below.heap_setCell (w.alloc X) ⟨bu, s.u - 1, none⟩ _ bd o6).trans h.done
  have h3 := heap_setCell_same (w.alloc X) bu (s.u - 1) _ _ (.bool true) h.undone
  rw [rowA_set, uB_set hu h0 s.yes s.no s.ship] at h3
  refine ⟨((SeeK.new hB X).set _ _ _ o3 (.inr (.inr rfl))).set _ _ _ o1 (.inl rfl), h.own, ?_, (Below.heap_setCell _ ⟨p, 11, none⟩ _ bd (fun e => o4 e.symm)).trans h2, (Below.heap_setCell _ ⟨p, 11, none⟩ _ bu (fun e => o5 e.symm)).trans h3⟩
  rw [heap_setCell_same _ _ _ _ _ _ h1]
  have e : decide (s.u - 1 < s.d) = true := by simp; omega
  simp [e]
theorem tr_yes {B : Nat} {w : World} {p bd bu : Nat} {o : Od} {a : Option Addr} {c n : Nat} {s : Fs} (hh : Tr B w p bd bu o a c n s) (hB : B ≤ w.heap.size) (X : Obj) :
    SeeK B w p bd bu ((w.alloc X).setCell ⟨p, 8, none⟩ (.bool true)) ∧ Tr B ((w.alloc X).setCell ⟨p, 8, none⟩ (.bool true)) p bd bu o a c n ⟨s.d, s.u, true, s.no, s.ship⟩ := by
  have h := hh.below ((Below.refl _ _).alloc (Nat.le_refl _) X)
  obtain ⟨o1, o2, o3, o4, o5, o6⟩ := h.own
  refine ⟨(SeeK.new hB X).set _ _ _ o1 (.inl rfl), h.own, ?_, (Below.heap_setCell _ ⟨p, 8, none⟩ _ bd (fun e => o4 e.symm)).trans h.done, (Below.heap_setCell _ ⟨p, 8, none⟩ _ bu (fun e => o5 e.symm)).trans h.undone⟩
  rw [heap_setCell_same _ _ _ _ _ _ h.at_]
  simp
theorem tr_no {B : Nat} {w : World} {p bd bu : Nat} {o : Od} {a : Option Addr} {c n : Nat} {s : Fs} (hh : Tr B w p bd bu o a c n s) (hB : B ≤ w.heap.size) (X : Obj) :
    SeeK B w p bd bu ((w.alloc X).setCell ⟨p, 9, none⟩ (.bool true)) ∧ Tr B ((w.alloc X).setCell ⟨p, 9, none⟩ (.bool true)) p bd bu o a c n ⟨s.d, s.u, s.yes, true, s.ship⟩ := by
  have h := hh.below ((Below.refl _ _).alloc (Nat.le_refl _) X)
  obtain ⟨o1, o2, o3, o4, o5, o6⟩ := h.own
  refine ⟨(SeeK.new hB X).set _ _ _ o1 (.inl rfl), h.own, ?_, (Below.heap_setCell _ ⟨p, 9, none⟩ _ bd (fun e => o4 e.symm)).trans h.done, (Below.heap_setCell _ ⟨p, 9, none⟩ _ bu (fun e => o5 e.symm)).trans h.undone⟩
  rw [heap_setCell_same _ _ _ _ _ _ h.at_]
  simp
theorem tr_ship {B : Nat} {w : World} {p bd bu : Nat} {o : Od} {a : Option Addr} {c n : Nat} {s : Fs} (hh : Tr B w p bd bu o a c n s) (hB : B ≤ w.heap.size) (X : Obj) :
    SeeK B w p bd bu ((w.alloc X).setCell ⟨p, 10, none⟩ (.bool true)) ∧ Tr B ((w.alloc X).setCell ⟨p, 10, none⟩ (.bool true)) p bd bu o a c n ⟨s.d, s.u, s.yes, s.no, true⟩ := by
  have h := hh.below ((Below.refl _ _).alloc (Nat.le_refl _) X)
  obtain ⟨o1, o2, o3, o4, o5, o6⟩ := h.own
  refine ⟨(SeeK.new hB X).set _ _ _ o1 (.inl rfl), h.own, ?_, (Below.heap_setCell _ ⟨p, 10, none⟩ _ bd (fun e => o4 e.symm)).trans h.done, (Below.heap_setCell _ ⟨p, 10, none⟩ _ bu (fun e => o5 e.symm)).trans h.undone⟩
  rw [heap_setCell_same _ _ _ _ _ _ h.at_]
  simp
theorem Tr.frozen {B : Nat} {w : World} {p bd bu : Nat} {o : Od} {a : Option Addr} {c n : Nat} {s : Fs} (h : Tr B w p bd bu o a c n s) (k : Nat) : w.frozen? ⟨p, k, none⟩ = false ∧ w.frozen? ⟨bd, k, none⟩ = false ∧ w.frozen? ⟨bu, k, none⟩ = false :=
  ⟨frozen_of_row _ _ _ _ _ h.at_, frozen_of_row _ _ _ _ _ h.done, frozen_of_row _ _ _ _ _ h.undone⟩
end Go.Proofs.Ytdoejppnifoebaa
