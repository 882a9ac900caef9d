/-
  What an iterator of hold's tells; the law's ids: what it tells, at most n of it.
-/
import Derived.Test.YtbdmphcmmilajaaHldI
namespace Go.Proofs.Ytbdmphcmmilajaa
open Go.ChangeShapes Go.WideShapes Go.ChangeAt Go.RowKit Go.Shelf Go.Maps

def encI (x : Int) : Value := .int .i64 x
theorem take_pre {L : List Int} {j : Nat} (h : j < L.length) : L.take j ++ [L.getD j 0] = L.take (j + 1) := by
  rw [List.take_succ_eq_append_getElem h]
  simp [List.getD, h]
theorem EachV.kept {B N : Nat} {w w' : World} {Bi : Nat} {L : List Int} {v : Value} {E : Nat → Obj → Prop} (h : EachV B N w Bi L v) (hk : Rg.Kept E w w') (hE : ∀ k o, B ≤ k → k < N → o.isCells = true → ¬ E k o) : EachV B N w' Bi L v := by
  obtain ⟨h1, h2, h3, h4⟩ := h
  refine ⟨h1, hk.block _ _ h2 (hE _ _ h1.1 h1.2 rfl), ⟨h3.1, ?_⟩, h4⟩
  rcases h3.2 with h5 | ⟨g, cap, cur, rfl, hg, hc, rest⟩
  · exact .inl h5
  · exact .inr ⟨g, cap, cur, rfl, hg, hk.block _ _ hc (hE _ _ hg (h4 g rfl) rfl), rest⟩
theorem EachAt.kept {B N : Nat} {w w' : World} {Bi : Nat} {L : List Int} {E : Nat → Obj → Prop} (h : EachAt B N w Bi L) (hk : Rg.Kept E w w') (hE : ∀ k o, B ≤ k → k < N → o.isCells = true → ¬ E k o) : EachAt B N w' Bi L :=
  let ⟨v, hv⟩ := h
  ⟨v, hv.kept hk hE⟩
theorem EachV.row {B N : Nat} {w : World} {Bi : Nat} {L : List Int} {v : Value} (h : EachV B N w Bi L v) : ∃ a c, v = .slice a L.length c ∧ w.cell? ⟨Bi, 0, none⟩ = some (.slice a L.length c) ∧ Ints w a L := by
  obtain ⟨h1, h2, h3, -⟩ := h
  obtain ⟨a, c, rfl, -, h4⟩ := owned_nums h3
  exact ⟨a, c, rfl, by rw [cell_of h2]; rfl, h4⟩

set_option maxRecDepth 100000 in
set_option maxHeartbeats 2000000 in
theorem each_seq {E : Nat → Obj → Prop} {B N Bi : Nat} {L : List Int} (hL : L.length ≤ 1000000) {w : World} (h : EachAt B N w Bi L) (hN : N ≤ w.heap.size) (hE : ∀ k o, B ≤ k → k < N → o.isCells = true → ¬ E k o) :
    Rg.SeqA Try.prog E 31 #[.pointer (some ⟨Bi, 0, none⟩)] encI L w := by
  intro l J Jx W hW hwl hlW hJ hJx hY h0
  obtain ⟨v, hv⟩ := h.kept (E := fun _ _ => False) (Rg.Kept.of_below hW) (fun _ _ _ _ _ h => h)
  obtain ⟨a, c, rfl, hc0, hi0⟩ := hv.row
  have HEA := hide hv
  have HKE : Hid (∀ k o, B ≤ k → k < N → o.isCells = true → ¬ (E k o ∨ k = l)) := fun k o h1 h2 h3 h4 => h4.elim (hE k o h1 h2 h3) (fun e => by omega)
  have hnf : ∀ u : World, (binOp BinOp.eql 53 (.func (.yield l) #[] #[]) .nilFunc).run Try.prog u = .ok (.bool false) u := fun _ => by kernel_rfl
  refine callsIn_wide.2 ((callsIn_wide (n := 5)).1 ?_)
  have HY : Hid (∀ pre x W1, J pre W1 → pre ++ [x] <+: L → YieldAt Fence.wide 4 Try.prog l #[encI x] W1 fun e W' => Rg.Kept (fun k o => E k o ∨ k = l) W1 W' ∧ ((e = .returned (.bool true) ∧ J (pre ++ [x]) W') ∨ (e = .returned (.bool false) ∧ Jx (pre ++ [x]) W'))) := fun pre x W1 h1 h2 => Rg.yield_any0 (hY pre x W1 h1 h2)
  have HJ0 := hide h0
  clear hY hJ hJx h0 h hN hE hW hi0 hv
  refine callsIn_of_wp Try.func31 rfl trivial ?_ rfl
  simp only [Try.ntmps31, List.size_toArray, List.length_cons, List.length_nil, Nat.reduceAdd, Nat.reduceSub, Array.replicate_succ, Array.replicate_zero, List.push_toArray, List.append_toArray, List.nil_append, List.cons_append]
  gi_wp2
  gi_loopw [9] (fun i wr => ∃ j : Nat, i = .int .i64 j ∧ j ≤ L.length ∧ Hid (J (L.take j) wr) ∧ Hid (EachV B N wr Bi L (.slice a L.length c))) (fun i _ => L.length - (intOf i).toNat)
  case atStart => exact ⟨0, rfl, Nat.zero_le _, HJ0, HEA⟩
  case round =>
    obtain ⟨j, rfl, hj, HJ, HV⟩ := hrel
    by_cases hlt : j < L.length
    · obtain ⟨a', c', ev, -, hi⟩ := HV.out.row
      cases ev
      rcases hi with hi | ⟨ba, oa, rfl, hca⟩
      · exfalso; rw [hi] at hlt; simp at hlt
      have h1 := hca j hlt
      obtain ⟨x, hx⟩ : ∃ x, x = L.getD j 0 := ⟨_, rfl⟩
      rw [← hx] at h1
      have hpre : L.take j ++ [x] = L.take (j + 1) := by rw [hx]; exact take_pre hlt
      obtain ⟨fn, tmps, assign, body, hy, hR⟩ := HY.out (L.take j) x wr HJ.out (by rw [hpre]; exact List.take_prefix _ _)
      rw [hpre] at hR
      have HPE := hide hpre
      clear hpre hx hca
      dsimp only [encI] at hy
      have q1 : (j : Int) < (L.length : Int) := by omega
      gi_wp2
      refine hR.mono ?_
      rintro e W3 ⟨hk3, (⟨rfl, hJ3⟩ | ⟨rfl, hJ3⟩)⟩
      · have HJ3 := hide hJ3
        have HV3 := hide (HV.out.kept hk3 HKE.out)
        clear hJ3 hk3 hR h1
        gi_wp2
        go_roundw
        case rel => exact ⟨j + 1, by go_num, by omega, HJ3, HV3⟩
        case measure => simp [intOf]; omega
      · have HJ3 := hide hJ3
        clear hJ3 hk3 hR h1
        gi_wp2
        refine bodyPost_ret (results_none rfl _ _ _) rfl ?_
        exact ⟨⟨_, rfl⟩, .inr ⟨_, by rw [← HPE.out]; simp, List.take_prefix _ _, HJ3.out⟩⟩
    · have q1 : ¬ (j : Int) < (L.length : Int) := by omega
      have HJ3 : Hid (J L wr) := by
        have := HJ.out
        rwa [List.take_of_length_le (by omega)] at this
      gi_wp2
      go_end0
      exact ⟨⟨_, rfl⟩, .inl HJ3.out⟩
end Go.Proofs.Ytbdmphcmmilajaa
