/-
  Sums over a map of pairs, in whatever order; a book of money in memory: its block of ten cells, its two maps. Contracts of purse's isId, isClient, has, sum, sumOf.
-/
import Derived.Test.YtpahgoehpkohiaaPrsQ
import Derived.Test.YtpahgoehpkohiaaRw8
namespace Go.Proofs.Ytpahgoehpkohiaa
open Go.ChangeShapes Go.WideShapes Go.ChangeAt Go.RowKit Go.Maps

theorem zeroD (w : World) : (zeroValue 56).run Try.prog w = .ok (pairV (0, 0)) w := by kernel_rfl
theorem pisid_any (id : Int) (w : World) : Calls Try.prog 25 #[.int .i64 id] w fun e w' => e = .returned (.bool (isI id)) ∧ w = w' := by
  by_cases h0 : 1 ≤ id
  · by_cases h1 : id ≤ 999
    · have hm : true = isI id := (isI_iff.2 ⟨h0, h1⟩).symm
      rw [← hm]
      clear hm
      go_enter Try.func25, Try.ntmps25
      go_wp2
      go_ret
      exact ⟨rfl, rfl⟩
    · have hm : false = isI id := by unfold isI; simp; omega
      rw [← hm]
      clear hm
      go_enter Try.func25, Try.ntmps25
      go_wp2
      go_ret
      exact ⟨rfl, rfl⟩
  · have hm : false = isI id := by unfold isI; simp; omega
    rw [← hm]
    clear hm
    go_enter Try.func25, Try.ntmps25
    go_wp2
    go_ret
    exact ⟨rfl, rfl⟩
theorem piscl_any (id : Int) (w : World) : Calls Try.prog 26 #[.int .i64 id] w fun e w' => e = .returned (.bool (isIt id)) ∧ w = w' := by
  by_cases h0 : 0 ≤ id
  · by_cases h1 : id < 8
    · have hm : true = isIt id := (isIt_iff.2 ⟨h0, h1⟩).symm
      rw [← hm]
      clear hm
      go_enter Try.func26, Try.ntmps26
      go_wp2
      go_ret
      exact ⟨rfl, rfl⟩
    · have hm : false = isIt id := by unfold isIt; simp; omega
      rw [← hm]
      clear hm
      go_enter Try.func26, Try.ntmps26
      go_wp2
      go_ret
      exact ⟨rfl, rfl⟩
  · have hm : false = isIt id := by unfold isIt; simp; omega
    rw [← hm]
    clear hm
    go_enter Try.func26, Try.ntmps26
    go_wp2
    go_ret
    exact ⟨rfl, rfl⟩

/-- What is summed behind some rounds, from z on. -/
def SRel (w : World) (D : DataW Unit) (b n : Nat) (z : Int) (v : Int → Int) (nv : Value) (wr : World) : Prop :=
  ∃ (left : Lit → Bool) (cnt : Nat) (ss : List Int), nv = .int .i64 (z + (ss.map v).sum) ∧ wr.ranges Try.prog 3 pairElem b w.heap.size n D left cnt ∧ CollectedI D left ss ∧ Hid (Below w.heap.size w wr)
/-- A map at b that reads as r. -/
def Mp (w : World) (b n : Nat) (r : Int → Option (Int × Int)) : Prop := ∃ D : DataW Unit, w.ownsMap Try.prog 3 pairElem b n D ∧ FitsG encP D r
theorem Mp.lt {w : World} {b n : Nat} {r : Int → Option (Int × Int)} (h : Mp w b n r) : b < w.heap.size := by obtain ⟨D, hD, _⟩ := h; exact hD.lt
theorem Mp.mono {w : World} {b n n' : Nat} {r : Int → Option (Int × Int)} (h : Mp w b n r) (hn : n ≤ n') : Mp w b n' r := by obtain ⟨D, hD, hf⟩ := h; exact ⟨D, hD.mono hn, hf⟩
theorem Mp.kept {w w' : World} {b n : Nat} {r : Int → Option (Int × Int)} {E : Nat → Obj → Prop} (h : Mp w b n r) (hk : Rg.Kept E w w') (hb : ∀ o, ¬ E b o) : Mp w' b n r := by obtain ⟨D, hD, hf⟩ := h; exact ⟨D, own_keptG hD hk (fun _ _ => hb _), hf⟩
theorem Mp.on {w w' : World} {b n : Nat} {r : Int → Option (Int × Int)} (h : Mp w b n r) (hb : Below w.heap.size w w') : Mp w' b n r := h.kept (E := fun _ _ => False) (Rg.Kept.of_below hb) (fun _ h => h)
theorem Mp.ne {w : World} {b n p : Nat} {r : Int → Option (Int × Int)} {cs : Array Value} {t : TypeId} {z : Nat × Nat} (h : Mp w b n r) (hp : w.heap[p]? = some (.cells cs t z)) : b ≠ p := by
  rintro rfl
  obtain ⟨D, ⟨es, c, hb, _⟩, _⟩ := h
  rw [hp] at hb
  cases hb

set_option maxRecDepth 100000 in
set_option maxHeartbeats 1000000 in
theorem psum_any {w : World} {b n : Nat} {r : Int → Option (Int × Int)} (k : Mp w b n r) (g : GoodD r) (ht : sumTo (alw r) 1000 ≤ 1000000000) :
    Calls Try.prog 31 #[.map (some b)] w fun e w' => e = .returned (.int .i64 (sumTo (alw r) 1000)) ∧ Below w.heap.size w w' := by
  have HP : Hid (∀ y, 0 ≤ (alw r) y) := g.pos
  have HT : Hid (sumTo (alw r) 1000 ≤ 1000000000) := ht
  have HG := hide g
  obtain ⟨D, hown, hfit⟩ := k
  have HFT := hide hfit
  clear hfit g ht
  go_enter Try.func31, Try.ntmps31
  go_wp2_with (first
    | (at_range; refine wpList_range_own _ rfl _ 51 rfl 3 56 lawI Try.underlying51 _ b n _ rfl hown ?_; intro w0 hrg0 hg0 hs0)
    | go_in)
  go_frame
  have HB0 : Hid (Below w.heap.size w w0) := (Below.refl _ _).grown hg0 (Nat.le_refl _) (fun k e => by cases e)
  clear hown hg0 hs0
  go_loopw [3] (fun nv wr => SRel w D b n 0 (alw r) nv wr) (fun _ wr => wr.rangeLeft b w.heap.size)
  case atStart => exact ⟨_, _, [], by simp, hrg0, CollectedI.start D, HB0⟩
  case round =>
    obtain ⟨left, cnt, ss, rfl, hrg, hC, HB⟩ := hrel
    clear hrg0 HB0
    have HC := hide hC
    have HRG := hide hrg
    obtain ⟨S, hS⟩ : ∃ S, (ss.map (alw r)).sum = S := ⟨_, rfl⟩
    have HMEM : Hid (∀ y ∈ ss, 0 ≤ y ∧ y < 1000) := fun y hy => by
      have h1 := ((hC.2 y).1 hy).1
      rw [(HFT.out.2 y).2] at h1
      cases hr : r y with
      | none => rw [hr] at h1; cases h1
      | some c => have := (HG.out y c hr).1; omega
    have bS : 0 ≤ S ∧ S ≤ 1000000000 := by
      rw [← hS]
      have h1 := sum_nonneg (l := ss) HP.out
      have h2 := sum_some hC.1 HMEM.out HP.out
      have h3 := HT.out
      omega
    obtain ⟨bS1, bS2⟩ := bS
    have HS := hide hS
    rw [hS, Int.zero_add]
    clear hS
    go_wp2_with (first
      | (at_next; refine next_pair rfl _ rfl Try.underlying3 rfl hrg HFT.out hC ?_ ?_)
      | go_in)
    · intro hall
      have HALL := hide hall
      clear hall hrg hC
      go_wp2
      go_ret
      refine ⟨ret_int ?_, HB.out⟩
      have h1 := sum_nodup (N := 1000) ss (alw r) HC.out.1 (fun x hx => by have := HMEM.out x hx; omega) (fun y hx => by
        unfold alw
        cases hr : r y with
        | none => rfl
        | some c => exact absurd ((HALL.out y).2 (by rw [hr]; rfl)) hx)
      have h3 := HS.out
      omega
    · intro y cx cy w1 left1 cnt1 hgy hny hrg1 hC1 hlt hg1 hs1 hen
      unfold pairV at hen
      have HB1 : Hid (Below w.heap.size w w1) := HB.out.grown hg1 HB.out.size (fun k e => by cases e; exact Nat.le_refl _)
      have HR1 := hide hrg1
      have HC1 := hide hC1
      have HLT := hide hlt
      have HSS : Hid (((ss ++ [y]).map (alw r)).sum = S + cy) := by
        show _ = _
        rw [List.map_append, List.sum_append, HS.out, List.map_singleton, List.sum_singleton]
        have e : (alw r) y = cy := by unfold alw; rw [hgy]; rfl
        rw [e]
      have bT : S + cy ≤ 1000000000 := by
        rw [← HSS.out]
        have h2 := sum_some (l := ss ++ [y]) hC1.1 (fun z hz => by
          rcases List.mem_append.1 hz with h | h
          · exact HMEM.out z h
          · rw [List.mem_singleton] at h; subst h; have := (HG.out _ _ hgy).1; omega) HP.out
        have h3 := HT.out
        omega
      have hcy : 1 ≤ cy := (HG.out _ _ hgy).2.2
      have NXT : Hid (∀ nv : Value, nv = .int .i64 (S + cy) → SRel w D b n 0 (alw r) nv (w1.alloc (.cells #[.int .i64 cx, .int .i64 cy] 56)) ∧ (w1.alloc (.cells #[.int .i64 cx, .int .i64 cy] 56)).rangeLeft b w.heap.size < wr.rangeLeft b w.heap.size) := fun nv hnv => by
        refine ⟨⟨left1, cnt1, ss ++ [y], ?_, HR1.out.alloc _, HC1.out, bel_al HB1.out _⟩, ?_⟩
        · rw [hnv, HSS.out, Int.zero_add]
        · rw [(HR1.out.alloc _).left_eq, ← HR1.out.left_eq]
          exact HLT.out
      clear hrg hC hrg1 hC1 hlt hgy hny hg1 hs1
      go_wp2
      go_roundw
      case rel => exact (NXT.out _ rfl).1
      case measure => exact (NXT.out _ rfl).2

set_option maxRecDepth 100000 in
set_option maxHeartbeats 1000000 in
theorem psumof_any {w : World} {b n : Nat} {r : Int → Option (Int × Int)} (k : Mp w b n r) (g : GoodD r) (ht : sumTo (alw r) 1000 ≤ 1000000000) (x : Int) :
    Calls Try.prog 35 #[.map (some b), .int .i64 x] w fun e w' => e = .returned (.int .i64 (sumTo (resv r x) 1000)) ∧ Below w.heap.size w w' := by
  have HP : Hid (∀ y, 0 ≤ (resv r x) y) := g.posK x
  have HT : Hid (sumTo (resv r x) 1000 ≤ 1000000000) := Int.le_trans (sumTo_le (g.le x) 1000) ht
  have HG := hide g
  obtain ⟨D, hown, hfit⟩ := k
  have HFT := hide hfit
  clear hfit g ht
  go_enter Try.func35, Try.ntmps35
  go_wp2_with (first
    | (at_range; refine wpList_range_own _ rfl _ 51 rfl 3 56 lawI Try.underlying51 _ b n _ rfl hown ?_; intro w0 hrg0 hg0 hs0)
    | go_in)
  go_frame
  have HB0 : Hid (Below w.heap.size w w0) := (Below.refl _ _).grown hg0 (Nat.le_refl _) (fun k e => by cases e)
  clear hown hg0 hs0
  go_loopw [5] (fun nv wr => SRel w D b n 0 (resv r x) nv wr) (fun _ wr => wr.rangeLeft b w.heap.size)
  case atStart => exact ⟨_, _, [], by simp, hrg0, CollectedI.start D, HB0⟩
  case round =>
    obtain ⟨left, cnt, ss, rfl, hrg, hC, HB⟩ := hrel
    clear hrg0 HB0
    have HC := hide hC
    have HRG := hide hrg
    obtain ⟨S, hS⟩ : ∃ S, (ss.map (resv r x)).sum = S := ⟨_, rfl⟩
    have HMEM : Hid (∀ y ∈ ss, 0 ≤ y ∧ y < 1000) := fun y hy => by
      have h1 := ((hC.2 y).1 hy).1
      rw [(HFT.out.2 y).2] at h1
      cases hr : r y with
      | none => rw [hr] at h1; cases h1
      | some c => have := (HG.out y c hr).1; omega
    have bS : 0 ≤ S ∧ S ≤ 1000000000 := by
      rw [← hS]
      have h1 := sum_nonneg (l := ss) HP.out
      have h2 := sum_some hC.1 HMEM.out HP.out
      have h3 := HT.out
      omega
    obtain ⟨bS1, bS2⟩ := bS
    have HS := hide hS
    rw [hS, Int.zero_add]
    clear hS
    go_wp2_with (first
      | (at_next; refine next_pair rfl _ rfl Try.underlying3 rfl hrg HFT.out hC ?_ ?_)
      | go_in)
    · intro hall
      have HALL := hide hall
      clear hall hrg hC
      go_wp2
      go_ret
      refine ⟨ret_int ?_, HB.out⟩
      have h1 := sum_nodup (N := 1000) ss (resv r x) HC.out.1 (fun x hx => by have := HMEM.out x hx; omega) (fun y hx => by
        unfold resv
        cases hr : r y with
        | none => rfl
        | some c => exact absurd ((HALL.out y).2 (by rw [hr]; rfl)) hx)
      have h3 := HS.out
      omega
    · intro y cx cy w1 left1 cnt1 hgy hny hrg1 hC1 hlt hg1 hs1 hen
      unfold pairV at hen
      have HB1 : Hid (Below w.heap.size w w1) := HB.out.grown hg1 HB.out.size (fun k e => by cases e; exact Nat.le_refl _)
      have HR1 := hide hrg1
      have HC1 := hide hC1
      have HLT := hide hlt
      have HSS : Hid (((ss ++ [y]).map (resv r x)).sum = S + (if cx = x then cy else 0)) := by
        show _ = _
        rw [List.map_append, List.sum_append, HS.out, List.map_singleton, List.sum_singleton]
        have e : (resv r x) y = if cx = x then cy else 0 := by unfold resv; rw [hgy]; rfl
        rw [e]
      have bT : S + (if cx = x then cy else 0) ≤ 1000000000 := by
        rw [← HSS.out]
        have h2 := sum_some (l := ss ++ [y]) hC1.1 (fun z hz => by
          rcases List.mem_append.1 hz with h | h
          · exact HMEM.out z h
          · rw [List.mem_singleton] at h; subst h; have := (HG.out _ _ hgy).1; omega) HP.out
        have h3 := HT.out
        omega
      have hcy : 1 ≤ cy := (HG.out _ _ hgy).2.2
      have NXT : Hid (∀ nv : Value, nv = .int .i64 (S + (if cx = x then cy else 0)) → SRel w D b n 0 (resv r x) nv (w1.alloc (.cells #[.int .i64 cx, .int .i64 cy] 56)) ∧ (w1.alloc (.cells #[.int .i64 cx, .int .i64 cy] 56)).rangeLeft b w.heap.size < wr.rangeLeft b w.heap.size) := fun nv hnv => by
        refine ⟨⟨left1, cnt1, ss ++ [y], ?_, HR1.out.alloc _, HC1.out, bel_al HB1.out _⟩, ?_⟩
        · rw [hnv, HSS.out, Int.zero_add]
        · rw [(HR1.out.alloc _).left_eq, ← HR1.out.left_eq]
          exact HLT.out
      clear hrg hC hrg1 hC1 hlt hgy hny hg1 hs1
      by_cases hcx : cx = x
      · rw [if_pos hcx] at bT NXT
        subst hcx
        go_wp2
        go_roundw
        case rel => exact (NXT.out _ rfl).1
        case measure => exact (NXT.out _ rfl).2
      · rw [if_neg hcx] at bT NXT
        have qc : (cx == x) = false := by simp [hcx]
        clear hcx
        go_wp2
        go_roundw
        case rel => exact (NXT.out _ (by rw [Int.add_zero])).1
        case measure => exact (NXT.out _ rfl).2
end Go.Proofs.Ytpahgoehpkohiaa
