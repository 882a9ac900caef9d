/-
  The reference's book of money: its block of eleven cells, its maps. Contracts of NewPurse, Allowed, Void, Capture.
-/
import Derived.Test.YtpahgoehpkohiaaPrsU
import Derived.Test.YtpahgoehpkohiaaMapI
namespace Go.Proofs.Ytpahgoehpkohiaa
open Go.ChangeShapes Go.WideShapes Go.ChangeAt Go.RowKit Go.Maps

theorem zeroC (w : World) : (zeroValue 60).run Try.prog w = .ok (pairV (0, 0)) w := by kernel_rfl
theorem claimAt (x y : Int) (W : World) : (Instr.field 60 (.agg #[.int .i64 x, .int .i64 y]) 0).run Try.prog W = .ok (.int .i64 x) W := by kernel_rfl
theorem claimN (x y : Int) (W : World) : (Instr.field 60 (.agg #[.int .i64 x, .int .i64 y]) 1).run Try.prog W = .ok (.int .i64 y) W := by kernel_rfl
def pcs (m : Int → Int) (b : Nat) (t : Int) (c : Nat) : List Value := rowc m ++ [.map (some b), .int .i64 t, .map (some c)]
section
variable (m : Int → Int) (b : Nat) (t : Int) (c : Nat)
theorem pcs_m {i : Nat} (hi : i < 8) : (pcs m b t c)[i]? = some (.int .i64 (m i)) := by
  unfold pcs
  rw [List.getElem?_append_left (by rw [rowc_len]; exact hi), rowc_at _ hi]
theorem pcs_8 : (pcs m b t c)[8]? = some (.map (some b)) := by
  unfold pcs
  rw [List.getElem?_append_right (by rw [rowc_len]; omega), rowc_len]
  rfl
theorem pcs_9 : (pcs m b t c)[9]? = some (.int .i64 t) := by
  unfold pcs
  rw [List.getElem?_append_right (by rw [rowc_len]; omega), rowc_len]
  rfl
theorem pcs_10 : (pcs m b t c)[10]? = some (.map (some c)) := by
  unfold pcs
  rw [List.getElem?_append_right (by rw [rowc_len]; omega), rowc_len]
  rfl
theorem pcs_setm {i : Nat} (hi : i < 8) (v : Int) : (pcs m b t c).set i (.int .i64 v) = pcs (upd m i v) b t c := by
  unfold pcs
  rw [List.set_append_left _ _ (by rw [rowc_len]; exact hi), rowc_put _ hi]
theorem pcs_sett (v : Int) : (pcs m b t c).set 9 (.int .i64 v) = pcs m b v c := by
  unfold pcs
  rw [List.set_append_right _ _ (by rw [rowc_len]; omega), rowc_len]
  rfl
end
/-- The reference's book at q, its maps at b and c. -/
def Rp (B : Nat) (w : World) (q b c : Nat) (s : Pb) (n : Nat) : Prop :=
  w.heap[q]? = some (.cells (pcs s.m b s.till c).toArray 40 (0, 0)) ∧ (B ≤ q ∧ B ≤ b ∧ B ≤ c ∧ b ≠ c) ∧ Mp w b n s.a ∧ Mi w c n s.p
/-- The blocks that a step on it may turn. -/
def Own3 (q b c : Nat) (k : Nat) (_ : Obj) : Prop := k = q ∨ k = b ∨ k = c
section
variable {B : Nat} {w w' : World} {q b c : Nat} {s : Pb} {n : Nat}
theorem Rp.lt (k : Rp B w q b c s n) : q < w.heap.size := (Array.getElem?_eq_some_iff.1 k.1).1
theorem Rp.low (k : Rp B w q b c s n) : B ≤ w.heap.size := by have := k.lt; have := k.2.1.1; omega
theorem Rp.nea (k : Rp B w q b c s n) : b ≠ q := k.2.2.1.ne k.1
theorem Rp.ned (k : Rp B w q b c s n) : c ≠ q := k.2.2.2.ne k.1
theorem Rp.mono {n' : Nat} (k : Rp B w q b c s n) (hn : n ≤ n') : Rp B w q b c s n' := ⟨k.1, k.2.1, k.2.2.1.mono hn, k.2.2.2.mono hn⟩
theorem Rp.kept {E : Nat → Obj → Prop} (k : Rp B w q b c s n) (hk : Rg.Kept E w w') (hp : ∀ o, ¬ E q o) (hb : ∀ o, ¬ E b o) (hc : ∀ o, ¬ E c o) : Rp B w' q b c s n :=
  ⟨hk.block _ _ k.1 (hp _), k.2.1, k.2.2.1.kept hk hb, k.2.2.2.kept hk hc⟩
theorem Rp.on (k : Rp B w q b c s n) (hb : Below w.heap.size w w') : Rp B w' q b c s n :=
  k.kept (E := fun _ _ => False) (Rg.Kept.of_below hb) (fun _ h => h) (fun _ h => h) (fun _ h => h)
theorem Rp.bel (k : Rp B w q b c s n) (hk : Rg.Kept (Own3 q b c) w w') : Below B w w' :=
  hk.bel k.low (fun i _ e => by have := k.2.1; rcases e with e | e | e <;> omega)
theorem Rp.cellM (k : Rp B w q b c s n) {i : Nat} (hi : i < 8) : w.cell? ⟨q, i, none⟩ = some (.int .i64 (s.m i)) := by
  rw [cell_of k.1, List.getElem?_toArray]; exact pcs_m _ _ _ _ hi
theorem Rp.cellA (k : Rp B w q b c s n) : w.cell? ⟨q, 8, none⟩ = some (.map (some b)) := by
  rw [cell_of k.1, List.getElem?_toArray]; exact pcs_8 _ _ _ _
theorem Rp.cellT (k : Rp B w q b c s n) : w.cell? ⟨q, 9, none⟩ = some (.int .i64 s.till) := by
  rw [cell_of k.1, List.getElem?_toArray]; exact pcs_9 _ _ _ _
theorem Rp.cellP (k : Rp B w q b c s n) : w.cell? ⟨q, 10, none⟩ = some (.map (some c)) := by
  rw [cell_of k.1, List.getElem?_toArray]; exact pcs_10 _ _ _ _
theorem Rp.frozen (k : Rp B w q b c s n) (i : Nat) : w.frozen? ⟨q, i, none⟩ = false := frozen_of_row _ _ _ _ _ k.1
theorem Mp.set {r : Int → Option (Int × Int)} {a : Addr} (k : Mp w b n r) (h : b ≠ a.block) (v : Value) : Mp (w.setCell a v) b n r := by obtain ⟨D, h1, h2⟩ := k; exact ⟨D, h1.setCell h _, h2⟩
theorem Mi.set {r : Int → Int} {a : Addr} (k : Mi w b n r) (h : b ≠ a.block) (v : Value) : Mi (w.setCell a v) b n r := by obtain ⟨D, h1, h2⟩ := k; exact ⟨D, h1.setCell h _, h2⟩
theorem Rp.setM (k : Rp B w q b c s n) {i : Nat} (hi : i < 8) (v : Int) : Rp B (w.setCell ⟨q, i, none⟩ (.int .i64 v)) q b c ⟨upd s.m i v, s.a, s.till, s.p⟩ n := by
  have hnea := k.nea
  have hned := k.ned
  obtain ⟨h1, h2, h3, h4⟩ := k
  refine ⟨?_, h2, h3.set hnea _, h4.set hned _⟩
  rw [heap_setCell_same _ _ _ _ _ _ h1, ← pcs_setm s.m b s.till c hi v, List.setIfInBounds_toArray]
theorem Rp.setT (k : Rp B w q b c s n) (v : Int) : Rp B (w.setCell ⟨q, 9, none⟩ (.int .i64 v)) q b c ⟨s.m, s.a, v, s.p⟩ n := by
  have hnea := k.nea
  have hned := k.ned
  obtain ⟨h1, h2, h3, h4⟩ := k
  refine ⟨?_, h2, h3.set hnea _, h4.set hned _⟩
  rw [heap_setCell_same _ _ _ _ _ _ h1, ← pcs_sett s.m b s.till c v, List.setIfInBounds_toArray]
end
/-- A look-up in a map of claims. -/
theorem Mp.lookC {w : World} {b n : Nat} {r : Int → Option (Int × Int)} (k : Mp w b n r) {id : Int} (hw : (Lit.int .i64 id).wf = true) :
    (Instr.lookup 37 (.map (some b)) (.int .i64 id) false).run Try.prog w = .ok (pairV ((r id).getD (0, 0))) w := by
  obtain ⟨D, h5, h6⟩ := k
  exact look_pair h5 Try.underlying3 Try.underlying37 (zeroC _) h6 hw
/-- m[id] = Claim{x, y} -/
theorem Mp.putC {w : World} {b n : Nat} {r : Int → Option (Int × Int)} (k : Mp w b n r) {id : Int} (hw : (Lit.int .i64 id).wf = true) (hn : n < 1000000) (x y : Int) :
    ∃ w1, (Instr.mapUpdate 37 (.map (some b)) (.int .i64 id) (.agg #[.int .i64 x, .int .i64 y])).run Try.prog w = .ok () w1 ∧ Mp w1 b (n + 1) (updO r id (some (x, y))) ∧ Rg.Kept (fun i _ => i = b) w w1 := by
  obtain ⟨D, h5, h6⟩ := k
  obtain ⟨w1, hrun, o1, t1⟩ := h5.store lawI Try.underlying37 (by unfold maxLen; omega) (keyOf_int_mk Try.underlying3 hw) (pairElem_mk (x, y))
  exact ⟨w1, hrun, ⟨_, o1, h6.put id (x, y)⟩, Rg.Kept.grown t1.grown (fun i _ e => (by cases e; rfl))⟩
/-- delete(m, id) -/
theorem Rp.gone {B : Nat} {w0 w w1 : World} {q b c : Nat} {s : Pb} {n : Nat} {id : Int} (k : Rp B w q b c s n) (kk : Rg.Kept (Own3 q b c) w0 w) {D : DataW Unit} (hf : FitsG encP D s.a) (o1 : w1.ownsMap Try.prog 3 pairElem b n (D.del (.int .i64 id))) (t1 : w.mapTurned w1 b) :
    Rp B w1 q b c ⟨s.m, updO s.a id none, s.till, s.p⟩ n ∧ Rg.Kept (Own3 q b c) w0 w1 := by
  have hnea := k.nea
  have kp : Rg.Kept (fun i _ => i = b) w w1 := Rg.Kept.grown t1.grown (fun i _ e => (by cases e; rfl))
  exact ⟨⟨kp.block _ _ k.1 (fun e => hnea e.symm), k.2.1, ⟨_, o1, hf.del id⟩, k.2.2.2.kept kp (fun _ e => k.2.1.2.2.2 e.symm)⟩, kk.trans (kp.mono (fun _ _ e => .inr (.inl e)))⟩

theorem rp_start (u : World) (l : List Int) : Rp u.heap.size (((u.alloc (.map #[] 0)).alloc (.map #[] 0)).alloc (.cells #[.int .i64 ((newS l).on 0), .int .i64 ((newS l).on 1), .int .i64 ((newS l).on 2), .int .i64 ((newS l).on 3), .int .i64 ((newS l).on 4), .int .i64 ((newS l).on 5), .int .i64 ((newS l).on 6), .int .i64 ((newS l).on 7), .map (some u.heap.size), .int .i64 0, .map (some (u.heap.size + 1))] 40)) (u.heap.size + 2) u.heap.size (u.heap.size + 1) (newP l) 0 := by
  generalize hO : (Obj.cells #[.int .i64 ((newS l).on 0), .int .i64 ((newS l).on 1), .int .i64 ((newS l).on 2), .int .i64 ((newS l).on 3), .int .i64 ((newS l).on 4), .int .i64 ((newS l).on 5), .int .i64 ((newS l).on 6), .int .i64 ((newS l).on 7), .map (some u.heap.size), .int .i64 0, .map (some (u.heap.size + 1))] 40) = O
  have h2 := World.alloc_heap_new ((u.alloc (.map #[] 0)).alloc (.map #[] 0)) O
  rw [World.size_alloc, World.size_alloc] at h2
  have m1 : Mp (((u.alloc (.map #[] 0)).alloc (.map #[] 0)).alloc O) u.heap.size 0 (fun _ => none) := ⟨.map [], ((World.ownsMap_made _ _ _ _).alloc _).alloc _, FitsG.new _⟩
  have m2 : Mi (((u.alloc (.map #[] 0)).alloc (.map #[] 0)).alloc O) (u.heap.size + 1) 0 (fun _ => 0) := by
    have := (Mi.new (u.alloc (.map #[] 0))).on (bel_al (Below.refl _ _) O)
    rw [World.size_alloc] at this
    exact this
  refine ⟨?_, ⟨by omega, by omega, by omega, by omega⟩, m1, m2⟩
  rw [h2, ← hO]
  rfl
set_option maxHeartbeats 1000000 in
theorem rnewp_any (a : Option Addr) (l : List Int) (cap : Nat) (w : World) (ha : Ints w a l) (hl : l.length ≤ 9223372036854775807) :
    Calls Try.prog 11 #[.slice a l.length cap] w fun e w' => ∃ q b c, e = .returned (.pointer (some ⟨q, 0, none⟩)) ∧ Rp w.heap.size w' q b c (newP l) 0 ∧ Below w.heap.size w w' := by
  have hmm := @run_makeMap Try.prog
  have R := rrow_any a l cap w ha hl
  go_enter Try.func11, Try.ntmps11
  go_wp2_with (go_at_call 23; refine R.mono ?_; rintro e u ⟨rfl, hb⟩; have HB := hide hb; clear hb)
  go_ret
  obtain ⟨h1, h2, h3⟩ := rp_start u l
  have hs := HB.out.size
  exact ⟨_, _, _, rfl, ⟨h1, ⟨by omega, by omega, by omega, by omega⟩, h3⟩, bel_al (bel_al (bel_al HB.out _) _) _⟩

set_option maxRecDepth 100000 in
set_option maxHeartbeats 1000000 in
theorem rallowed_any {w : World} {b n : Nat} {r : Int → Option (Int × Int)} {q : Nat} (c8 : w.cell? ⟨q, 8, none⟩ = some (.map (some b))) (k : Mp w b n r) (g : GoodD r) (ht : sumTo (alw r) 1000 ≤ 1000000000) (x : Int) :
    Calls Try.prog 22 #[.pointer (some ⟨q, 0, none⟩), .int .i64 x] w fun e w' => e = .returned (.int .i64 (sumTo (resv r x) 1000)) ∧ Below w.heap.size w w' := by
  have HP : Hid (∀ y, 0 ≤ (resv r x) y) := g.posK x
  have HT : Hid (sumTo (resv r x) 1000 ≤ 1000000000) := Int.le_trans (sumTo_le (g.le x) 1000) ht
  have HG := hide g
  obtain ⟨D, hown, hfit⟩ := k
  have HFT := hide hfit
  clear hfit g ht
  go_enter Try.func22, Try.ntmps22
  go_wp2_with (first
    | (at_range; refine wpList_range_own _ rfl _ 37 rfl 3 60 lawI Try.underlying37 _ b n _ rfl hown ?_; intro w0 hrg0 hg0 hs0)
    | go_in)
  go_frame
  have HB0 : Hid (Below w.heap.size w w0) := (Below.refl _ _).grown hg0 (Nat.le_refl _) (fun k e => by cases e)
  clear hown hg0 hs0 c8
  go_loopw [5] (fun nv wr => SRel w D b n 0 (resv r x) nv wr) (fun _ wr => wr.rangeLeft b w.heap.size)
  case atStart => exact ⟨_, _, [], by simp, hrg0, CollectedI.start D, HB0⟩
  case round =>
    obtain ⟨left, cnt, ss, rfl, hrg, hC, HB⟩ := hrel
    clear hrg0 HB0
    have HC := hide hC
    have HRG := hide hrg
    obtain ⟨S, hS⟩ : ∃ S, (ss.map (resv r x)).sum = S := ⟨_, rfl⟩
    have HMEM : Hid (∀ y ∈ ss, 0 ≤ y ∧ y < 1000) := fun y hy => by
      have h1 := ((hC.2 y).1 hy).1
      rw [(HFT.out.2 y).2] at h1
      cases hr : r y with
      | none => rw [hr] at h1; cases h1
      | some c => have := (HG.out y c hr).1; omega
    have bS : 0 ≤ S ∧ S ≤ 1000000000 := by
      rw [← hS]
      have h1 := sum_nonneg (l := ss) HP.out
      have h2 := sum_some hC.1 HMEM.out HP.out
      have h3 := HT.out
      omega
    obtain ⟨bS1, bS2⟩ := bS
    have HS := hide hS
    rw [hS, Int.zero_add]
    clear hS
    go_wp2_with (first
      | (at_next; refine next_pair rfl _ rfl Try.underlying3 rfl hrg HFT.out hC ?_ ?_)
      | go_in)
    · intro hall
      have HALL := hide hall
      clear hall hrg hC
      go_wp2
      go_ret
      refine ⟨ret_int ?_, HB.out⟩
      have h1 := sum_nodup (N := 1000) ss (resv r x) HC.out.1 (fun x hx => by have := HMEM.out x hx; omega) (fun y hx => by
        unfold resv
        cases hr : r y with
        | none => rfl
        | some c => exact absurd ((HALL.out y).2 (by rw [hr]; rfl)) hx)
      have h3 := HS.out
      omega
    · intro y cx cy w1 left1 cnt1 hgy hny hrg1 hC1 hlt hg1 hs1 hen
      unfold pairV at hen
      have HB1 : Hid (Below w.heap.size w w1) := HB.out.grown hg1 HB.out.size (fun k e => by cases e; exact Nat.le_refl _)
      have HR1 := hide hrg1
      have HC1 := hide hC1
      have HLT := hide hlt
      have HSS : Hid (((ss ++ [y]).map (resv r x)).sum = S + (if cx = x then cy else 0)) := by
        show _ = _
        rw [List.map_append, List.sum_append, HS.out, List.map_singleton, List.sum_singleton]
        have e : (resv r x) y = if cx = x then cy else 0 := by unfold resv; rw [hgy]; rfl
        rw [e]
      have bT : S + (if cx = x then cy else 0) ≤ 1000000000 := by
        rw [← HSS.out]
        have h2 := sum_some (l := ss ++ [y]) hC1.1 (fun z hz => by
          rcases List.mem_append.1 hz with h | h
          · exact HMEM.out z h
          · rw [List.mem_singleton] at h; subst h; have := (HG.out _ _ hgy).1; omega) HP.out
        have h3 := HT.out
        omega
      have hcy : 1 ≤ cy := (HG.out _ _ hgy).2.2
      have NXT : Hid (∀ nv : Value, nv = .int .i64 (S + (if cx = x then cy else 0)) → SRel w D b n 0 (resv r x) nv (w1.alloc (.cells #[.int .i64 cx, .int .i64 cy] 60)) ∧ (w1.alloc (.cells #[.int .i64 cx, .int .i64 cy] 60)).rangeLeft b w.heap.size < wr.rangeLeft b w.heap.size) := fun nv hnv => by
        refine ⟨⟨left1, cnt1, ss ++ [y], ?_, HR1.out.alloc _, HC1.out, bel_al HB1.out _⟩, ?_⟩
        · rw [hnv, HSS.out, Int.zero_add]
        · rw [(HR1.out.alloc _).left_eq, ← HR1.out.left_eq]
          exact HLT.out
      clear hrg hC hrg1 hC1 hlt hgy hny hg1 hs1
      by_cases hcx : cx = x
      · rw [if_pos hcx] at bT NXT
        subst hcx
        go_wp2
        go_roundw
        case rel => exact (NXT.out _ rfl).1
        case measure => exact (NXT.out _ rfl).2
      · rw [if_neg hcx] at bT NXT
        have qc : (cx == x) = false := by simp [hcx]
        clear hcx
        go_wp2
        go_roundw
        case rel => exact (NXT.out _ (by rw [Int.add_zero])).1
        case measure => exact (NXT.out _ rfl).2
end Go.Proofs.Ytpahgoehpkohiaa
