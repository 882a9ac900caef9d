/-
  The reference's book of goods: its block of nine cells, its map. Contract of Free.
-/
import Derived.Test.YtkdonlhdjgpjiaaSckN
import Derived.Test.YtkdonlhdjgpjiaaRf7
namespace Go.Proofs.Ytkdonlhdjgpjiaa
open Go.ChangeShapes Go.WideShapes Go.ChangeAt Go.RowKit Go.Maps

theorem zeroC (w : World) : (zeroValue 37).run Try.prog w = .ok (pairV (0, 0)) w := by kernel_rfl
def rcs (on : Int → Int) (b : Nat) : List Value := rowc on ++ [.map (some b)]
theorem rcs_on (on : Int → Int) (b : Nat) {i : Nat} (hi : i < 8) : (rcs on b)[i]? = some (.int .i64 (on i)) := by
  unfold rcs
  rw [List.getElem?_append_left (by rw [rowc_len]; exact hi), rowc_at _ hi]
theorem rcs_map (on : Int → Int) (b : Nat) : (rcs on b)[8]? = some (.map (some b)) := by
  unfold rcs
  rw [List.getElem?_append_right (by rw [rowc_len]; omega), rowc_len]
  rfl
theorem rcs_seton (on : Int → Int) (b : Nat) {i : Nat} (hi : i < 8) (v : Int) : (rcs on b).set i (.int .i64 v) = rcs (upd on i v) b := by
  unfold rcs
  rw [List.set_append_left _ _ (by rw [rowc_len]; exact hi), rowc_put _ hi]
/-- The reference's book at p, its map at b. -/
def Rs (B : Nat) (w : World) (p b : Nat) (on : Int → Int) (r : Int → Option (Int × Int)) (n : Nat) : Prop :=
  w.heap[p]? = some (.cells (rcs on b).toArray 41 (0, 0)) ∧ B ≤ p ∧ B ≤ b ∧ ∃ D : DataW Unit, w.ownsMap Try.prog 3 pairElem b n D ∧ FitsG encP D r
section
variable {B : Nat} {w w' : World} {p b : Nat} {on : Int → Int} {r : Int → Option (Int × Int)} {n : Nat}
theorem Rs.lt (k : Rs B w p b on r n) : p < w.heap.size := (Array.getElem?_eq_some_iff.1 k.1).1
theorem Rs.ltb (k : Rs B w p b on r n) : b < w.heap.size := by obtain ⟨_, _, _, D, hD, _⟩ := k; exact hD.lt
theorem Rs.low (k : Rs B w p b on r n) : B ≤ w.heap.size := by have := k.lt; have := k.2.1; omega
theorem Rs.ne (k : Rs B w p b on r n) : b ≠ p := by
  rintro rfl
  obtain ⟨h1, _, _, D, ⟨es, c, hb, _⟩, _⟩ := k
  rw [h1] at hb
  cases hb
theorem Rs.mono {n' : Nat} (k : Rs B w p b on r n) (hn : n ≤ n') : Rs B w p b on r n' := by
  obtain ⟨h1, h2, h3, D, h5, h6⟩ := k
  exact ⟨h1, h2, h3, D, h5.mono hn, h6⟩
theorem Rs.kept {E : Nat → Obj → Prop} (k : Rs B w p b on r n) (hk : Rg.Kept E w w') (hp : ∀ o, ¬ E p o) (hb : ∀ o, ¬ E b o) : Rs B w' p b on r n := by
  obtain ⟨h1, h2, h3, D, h5, h6⟩ := k
  exact ⟨hk.block _ _ h1 (hp _), h2, h3, D, own_keptG h5 hk (fun _ _ => hb _), h6⟩
theorem Rs.on_ (k : Rs B w p b on r n) (hb : Below w.heap.size w w') : Rs B w' p b on r n :=
  k.kept (E := fun _ _ => False) (Rg.Kept.of_below hb) (fun _ h => h) (fun _ h => h)
theorem Rs.bel (k : Rs B w p b on r n) (hk : Rg.Kept (Own2 p b) w w') : Below B w w' :=
  hk.bel k.low (fun i _ e => by have := k.2.1; have := k.2.2.1; rcases e with e | e <;> omega)
theorem Rs.cellOn (k : Rs B w p b on r n) {i : Nat} (hi : i < 8) : w.cell? ⟨p, i, none⟩ = some (.int .i64 (on i)) := by
  rw [cell_of k.1, List.getElem?_toArray]; exact rcs_on _ _ hi
theorem Rs.cellM (k : Rs B w p b on r n) : w.cell? ⟨p, 8, none⟩ = some (.map (some b)) := by
  rw [cell_of k.1, List.getElem?_toArray]; exact rcs_map _ _
theorem Rs.frozen (k : Rs B w p b on r n) (i : Nat) : w.frozen? ⟨p, i, none⟩ = false := frozen_of_row _ _ _ _ _ k.1
theorem Rs.setOn (k : Rs B w p b on r n) {i : Nat} (hi : i < 8) (v : Int) : Rs B (w.setCell ⟨p, i, none⟩ (.int .i64 v)) p b (upd on i v) r n := by
  have hne := k.ne
  obtain ⟨h1, h2, h3, D, h5, h6⟩ := k
  refine ⟨?_, h2, h3, D, h5.setCell (a := ⟨p, i, none⟩) hne _, h6⟩
  rw [heap_setCell_same _ _ _ _ _ _ h1, ← rcs_seton on b hi v, List.setIfInBounds_toArray]
/-- A look-up in it. -/
theorem Rs.look (k : Rs B w p b on r n) {id : Int} (hw : (Lit.int .i64 id).wf = true) :
    (Instr.lookup 39 (.map (some b)) (.int .i64 id) false).run Try.prog w = .ok (pairV ((r id).getD (0, 0))) w := by
  obtain ⟨_, _, _, D, h5, h6⟩ := k
  exact look_pair h5 Try.underlying3 Try.underlying39 (zeroC _) h6 hw
end

theorem sumTo_le {h g : Int → Int} (hg : ∀ x, h x ≤ g x) : ∀ n, sumTo h n ≤ sumTo g n
  | 0 => Int.le_refl _
  | n + 1 => by have := sumTo_le hg n; have := hg n; rw [sumTo, sumTo]; omega
/-- Of some of the keys the sum is no more than of all. -/
theorem sum_some {l : List Int} {v : Int → Int} (hn : l.Nodup) (hb : ∀ x ∈ l, 0 ≤ x ∧ x < 1000) (hp : ∀ x, 0 ≤ v x) : (l.map v).sum ≤ sumTo v 1000 := by
  have e : l.map v = l.map (fun x => if x ∈ l then v x else 0) := List.map_congr_left (fun x hx => (if_pos hx).symm)
  rw [e, sum_nodup (N := 1000) l _ hn (fun x hx => by have := hb x hx; omega) (fun x hx => if_neg hx)]
  refine sumTo_le (fun x => ?_) 1000
  split
  · exact Int.le_refl _
  · exact hp x
theorem sum_nonneg {l : List Int} {v : Int → Int} (hp : ∀ x, 0 ≤ v x) : 0 ≤ (l.map v).sum := by
  induction l with
  | nil => exact Int.le_refl _
  | cons a l ih => rw [List.map_cons, List.sum_cons]; have := hp a; omega
/-- What is left behind some rounds. -/
def FRel (w : World) (D : DataW Unit) (b n : Nat) (s : Sb) (x : Int) (nv : Value) (wr : World) : Prop :=
  ∃ (left : Lit → Bool) (cnt : Nat) (ss : List Int), nv = .int .i64 (s.on x - (ss.map (resv s.r x)).sum) ∧ wr.ranges Try.prog 3 pairElem b w.heap.size n D left cnt ∧ CollectedI D left ss ∧ Hid (Below w.heap.size w wr)

set_option maxRecDepth 100000 in
set_option maxHeartbeats 1000000 in
theorem rfree_any {B : Nat} {w : World} {p b : Nat} {s : Sb} {n : Nat} (k : Rs B w p b s.on s.r n) (g : GoodS s) (x : Int) :
    Calls Try.prog 21 #[.pointer (some ⟨p, 0, none⟩), .int .i64 x] w fun e w' => e = .returned (.int .i64 (frV s x)) ∧ Below w.heap.size w w' := by
  have hi := rplace_any x w
  by_cases h : isIt x = true
  · have e : frV s x = s.fr x := if_pos h
    rw [e]
    rw [h] at hi
    obtain ⟨h0, h1⟩ := isIt_iff.1 h
    obtain ⟨i, rfl⟩ : ∃ i : Nat, x = i := ⟨x.toNat, by omega⟩
    have c := k.cellOn (i := i) (by omega)
    have c8 := k.cellM
    have HT := hide (g.tot i h0 h1)
    have htop := g.top i h0 h1
    have hfn := g.nn i h0 h1
    have HP := hide (g.pos i)
    have HAT := hide g.at_
    obtain ⟨-, -, -, D, hown, hfit⟩ := k
    have HFT := hide hfit
    clear e h hfit h0 g
    go_enter Try.func21, Try.ntmps21
    go_wp2_with (first
      | (go_at_call 29; refine hi.mono ?_; rintro e w' ⟨rfl, rfl⟩)
      | (at_range; refine wpList_range_own _ rfl _ 39 rfl 3 37 lawI Try.underlying39 _ b n _ rfl hown ?_; intro w0 hrg0 hg0 hs0)
      | go_in)
    go_frame
    have HB0 : Hid (Below w.heap.size w w0) := (Below.refl _ _).grown hg0 (Nat.le_refl _) (fun k e => by cases e)
    clear hown hg0 hs0 c8 hi c
    go_loopw [5] (fun nv wr => FRel w D b n s i nv wr) (fun _ wr => wr.rangeLeft b w.heap.size)
    case atStart => exact ⟨_, _, [], by simp, hrg0, CollectedI.start D, HB0⟩
    case round =>
      obtain ⟨left, cnt, ss, rfl, hrg, hC, HB⟩ := hrel
      clear hrg0 HB0
      have HC := hide hC
      have HRG := hide hrg
      obtain ⟨S, hS⟩ : ∃ S, (ss.map (resv s.r i)).sum = S := ⟨_, rfl⟩
      have HMEM : Hid (∀ x ∈ ss, 0 ≤ x ∧ x < 1000) := fun x hx => by
        have h1 := ((hC.2 x).1 hx).1
        rw [(HFT.out.2 x).2] at h1
        cases hr : s.r x with
        | none => rw [hr] at h1; cases h1
        | some c => have := (HAT.out x c hr).1; omega
      have bS : 0 ≤ S ∧ S ≤ s.on i := by
        rw [← hS]
        have h1 := sum_nonneg (l := ss) HP.out
        have h2 := sum_some hC.1 HMEM.out HP.out
        have h3 := HT.out
        omega
      obtain ⟨bS1, bS2⟩ := bS
      obtain ⟨V, hV⟩ : ∃ V, s.on i = V := ⟨_, rfl⟩
      have HV := hide hV
      have HS := hide hS
      rw [hS, hV]
      rw [hV] at bS2 htop
      clear hS hV
      go_wp2_with (first
        | (at_next; refine next_pair rfl _ rfl Try.underlying3 rfl hrg HFT.out hC ?_ ?_)
        | go_in)
      · intro hall
        have HALL := hide hall
        clear hall hrg hC
        go_wp2
        go_ret
        refine ⟨ret_int ?_, HB.out⟩
        have h1 := sum_nodup (N := 1000) ss (resv s.r i) HC.out.1 (fun x hx => by have := HMEM.out x hx; omega) (fun x hx => by
          unfold resv
          cases hr : s.r x with
          | none => rfl
          | some c => exact absurd ((HALL.out x).2 (by rw [hr]; rfl)) hx)
        have h2 := HT.out
        have h3 := HS.out
        have h4 := HV.out
        omega
      · intro y cx cy w1 left1 cnt1 hgy hny hrg1 hC1 hlt hg1 hs1 hen
        unfold pairV at hen
        have HB1 : Hid (Below w.heap.size w w1) := HB.out.grown hg1 HB.out.size (fun k e => by cases e; exact Nat.le_refl _)
        have HR1 := hide hrg1
        have HC1 := hide hC1
        have HLT := hide hlt
        have HGY : Hid (resv s.r i y = if cx = i then cy else 0) := by show _ = _; unfold resv; rw [hgy]; rfl
        have HSS : Hid (((ss ++ [y]).map (resv s.r i)).sum = S + if cx = i then cy else 0) := by
          show _ = _
          rw [List.map_append, List.sum_append, HS.out, List.map_singleton, List.sum_singleton, HGY.out]
        have bT : S + (if cx = i then cy else 0) ≤ V := by
          rw [← HSS.out, ← HV.out]
          have h2 := sum_some (l := ss ++ [y]) hC1.1 (fun x hx => by
            rcases List.mem_append.1 hx with h | h
            · exact HMEM.out x h
            · rw [List.mem_singleton] at h; subst h; have := (HAT.out _ _ hgy).1; omega) HP.out
          have h3 := HT.out
          omega
        have hcy : 1 ≤ cy := (HAT.out _ _ hgy).2.2
        have NXT : Hid (∀ nv : Value, nv = .int .i64 (V - (S + if cx = i then cy else 0)) → FRel w D b n s i nv (w1.alloc (.cells #[.int .i64 cx, .int .i64 cy] 37)) ∧ (w1.alloc (.cells #[.int .i64 cx, .int .i64 cy] 37)).rangeLeft b w.heap.size < wr.rangeLeft b w.heap.size) := fun nv hnv => by
          refine ⟨⟨left1, cnt1, ss ++ [y], ?_, HR1.out.alloc _, HC1.out, bel_al HB1.out _⟩, ?_⟩
          · rw [hnv, HSS.out, HV.out]
          · rw [(HR1.out.alloc _).left_eq, ← HR1.out.left_eq]
            exact HLT.out
        clear hrg hC hrg1 hC1 hlt hgy hny hg1 hs1
        by_cases hcx : cx = i
        · rw [if_pos hcx] at bT NXT
          subst hcx
          go_wp2
          go_roundw
          case rel => exact (NXT.out _ (by rw [show V - S - cy = V - (S + cy) by omega])).1
          case measure => exact (NXT.out _ rfl).2
        · rw [if_neg hcx] at bT NXT
          have qc : (cx == (i : Int)) = false := by simp [hcx]
          clear hcx
          go_wp2
          go_roundw
          case rel => exact (NXT.out _ (by rw [Int.add_zero])).1
          case measure => exact (NXT.out _ rfl).2
  · have e : frV s x = 0 := if_neg h
    rw [e]
    rw [show isIt x = false by simpa using h] at hi
    clear e h k
    go_enter Try.func21, Try.ntmps21
    go_wp2_with (go_at_call 29; refine hi.mono ?_; rintro e w' ⟨rfl, rfl⟩)
    go_ret
    exact ⟨rfl, Below.refl _ _⟩
end Go.Proofs.Ytkdonlhdjgpjiaa
