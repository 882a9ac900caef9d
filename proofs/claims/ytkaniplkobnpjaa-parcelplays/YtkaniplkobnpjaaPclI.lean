/-
  Contracts of parcel's all: an iterator over what went, in order.
-/
import Derived.Test.YtkaniplkobnpjaaPclT
namespace Go.Proofs.Ytkaniplkobnpjaa
open Go.ChangeShapes Go.WideShapes Go.ChangeAt Go.RowKit Go.Shelf Go.Maps

theorem findP_get {l : List (Int × Int × Int)} (hn : (idsP l).Nodup) {j : Nat} {x : Int × Int × Int} (h : l[j]? = some x) : findP l x.1 = some x.2 := by
  induction l generalizing j with
  | nil => simp at h
  | cons p l ih =>
    unfold idsP at hn
    rw [List.map_cons, List.nodup_cons] at hn
    rw [findP]
    cases j with
    | zero =>
      simp at h
      subst h
      rw [if_pos rfl]
    | succ j =>
      simp at h
      rw [if_neg (fun e => hn.1 (by rw [e]; exact List.mem_map.2 ⟨x, List.mem_of_getElem? h, rfl⟩))]
      exact ih hn.2 h
def encA (x : Int × Int × Int) : Array Value := #[.int .i64 x.1, pairV x.2]
theorem all_any (pv : Option Addr) (w : World) :
    Calls Try.prog 24 #[.pointer pv] w fun e w' => e = .returned (.func (.func 25) #[] #[.pointer (some ⟨w.heap.size, 0, none⟩)]) ∧ w' = w.alloc (.cells #[.pointer pv] 23) := by
  go_enter Try.func24, Try.ntmps24
  go_wp2
  go_ret
  exact ⟨rfl, rfl⟩
theorem take_preA {L : List (Int × Int × Int)} {j : Nat} {x : Int × Int × Int} (h : L[j]? = some x) : L.take j ++ [x] = L.take (j + 1) := by
  obtain ⟨hlt, e⟩ := List.getElem?_eq_some_iff.1 h
  rw [List.take_succ_eq_append_getElem hlt, e]
/-- A look-up in the book's map, without ok. -/
theorem PcV.look1 {B : Nat} {E : Nat → Prop} {w : World} {p : Nat} {l : List (Int × Int × Int)} {v mv : Value} (k : PcV B E w p l v mv) {id : Int} (hw : (Lit.int .i64 id).wf = true) :
    (Instr.lookup 49 mv (.int .i64 id) false).run Try.prog w = .ok (pairV ((findP l id).getD (0, 0))) w := by
  rcases k.2.2.2 with ⟨rfl, rfl⟩ | ⟨b, rfl, _, h⟩
  · show _ = Result.ok (pairV (0, 0)) w
    kernel_rfl
  · exact h.look Try.underlying3 Try.underlying49 (zeroL _) hw

set_option maxHeartbeats 1000000 in
theorem allnil_seq {F : Nat → Obj → Prop} {w : World} {Bi : Nat} (hbi : w.heap[Bi]? = some (.cells #[.pointer none] 23 (0, 0))) : Rg2.SeqA Try.prog F 25 #[.pointer (some ⟨Bi, 0, none⟩)] encA [] w := by
  intro l J Jx W hW hwl hlW hJ hJx hY h0
  have hb : W.heap[Bi]? = some (.cells #[.pointer none] 23 (0, 0)) := (hW.block _ (Array.getElem?_eq_some_iff.1 hbi).1).trans hbi
  have c0 : W.cell? ⟨Bi, 0, none⟩ = some (.pointer none) := by rw [cell_of hb]; rfl
  refine callsIn_wide.2 ((callsIn_wide (n := 5)).1 ?_)
  have HJ0 := hide h0
  clear hY hJ hJx h0 hW hbi hb
  refine callsIn_of_wp Try.func25 rfl trivial ?_ rfl
  simp only [Try.ntmps25, List.size_toArray, List.length_cons, List.length_nil, Nat.reduceAdd, Nat.reduceSub, Array.replicate_succ, Array.replicate_zero, List.push_toArray, List.append_toArray, List.nil_append, List.cons_append]
  gi_wp2
  refine bodyPost_ret (results_none rfl _ _ _) rfl ?_
  exact ⟨⟨_, rfl⟩, .inl HJ0.out⟩

set_option maxRecDepth 100000 in
set_option maxHeartbeats 2000000 in
theorem all_seq {F : Nat → Obj → Prop} {B : Nat} {E : Nat → Prop} {w : World} {p Bi : Nat} {L : List (Int × Int × Int)} (k : Pc B E w p L) (hbi : w.heap[Bi]? = some (.cells #[.pointer (some ⟨p, 0, none⟩)] 23 (0, 0))) (hF : ∀ k o, E k → ¬ F k o) (hFi : ∀ o, ¬ F Bi o) :
    Rg2.SeqA Try.prog F 25 #[.pointer (some ⟨Bi, 0, none⟩)] encA L w := by
  intro l J Jx W hW hwl hlW hJ hJx hY h0
  have kW := k.on hW
  have hlow := k.1
  obtain ⟨-, hp, hG, v, mv, hv⟩ := kW
  have hb : W.heap[Bi]? = some (.cells #[.pointer (some ⟨p, 0, none⟩)] 23 (0, 0)) := (hW.block _ (Array.getElem?_eq_some_iff.1 hbi).1).trans hbi
  have hBl : Bi < w.heap.size := (Array.getElem?_eq_some_iff.1 hbi).1
  have c0 : W.cell? ⟨Bi, 0, none⟩ = some (.pointer (some ⟨p, 0, none⟩)) := by rw [cell_of hb]; rfl
  have HEA := hide hv
  have HBX := hide hb
  have hlen := hG.len
  have HG := hide hG
  have HP := hide hp
  have HKE : Hid (∀ k o, E k → ¬ (F k o ∨ k = l)) := fun k o h1 h4 => h4.elim (hF k o h1) (fun e => by have := (hlow k h1).2; omega)
  have HKB : Hid (∀ o, ¬ (F Bi o ∨ Bi = l)) := fun o h4 => h4.elim (hFi o) (fun e => by omega)
  obtain ⟨a, c, rfl, -, hi0⟩ := owned_nums hv.2.1
  have c1 := hv.cellI
  refine callsIn_wide.2 ((callsIn_wide (n := 5)).1 ?_)
  have HY : Hid (∀ pre x W1, J pre W1 → pre ++ [x] <+: L → YieldAt Fence.wide 4 Try.prog l (encA x) W1 fun e W' => Rg.Kept (fun k o => F k o ∨ k = l) W1 W' ∧ ((e = .returned (.bool true) ∧ J (pre ++ [x]) W') ∨ (e = .returned (.bool false) ∧ Jx (pre ++ [x]) W'))) := fun pre x W1 h1 h2 => Rg.yield_any0 (hY pre x W1 h1 h2)
  have HJ0 := hide h0
  clear hY hJ hJx h0 hW hi0 hv hb hbi k hF hFi hG hp hlow
  refine callsIn_of_wp Try.func25 rfl trivial ?_ rfl
  simp only [Try.ntmps25, List.size_toArray, List.length_cons, List.length_nil, Nat.reduceAdd, Nat.reduceSub, Array.replicate_succ, Array.replicate_zero, List.push_toArray, List.append_toArray, List.nil_append, List.cons_append]
  gi_wp2
  gi_loopw [12] (fun i wr => ∃ j : Nat, i = .int .i64 j ∧ j ≤ L.length ∧ Hid (J (L.take j) wr) ∧ Hid (PcV B E wr p L (.slice a L.length c) mv) ∧ Hid (wr.heap[Bi]? = some (.cells #[.pointer (some ⟨p, 0, none⟩)] 23 (0, 0)))) (fun i _ => L.length - (Go.RowKit.intOf i).toNat)
  case atStart => exact ⟨0, rfl, Nat.zero_le _, HJ0, HEA, HBX⟩
  case round =>
    obtain ⟨j, rfl, hj, HJ, HV, HB⟩ := hrel
    clear c0 c1 HJ0 HEA HBX
    by_cases hlt : j < L.length
    · obtain ⟨x, hx⟩ : ∃ x, L[j]? = some x := ⟨L[j], by simp [hlt]⟩
      have hfx := findP_get HG.out.nd hx
      have hat := (HG.out.at_ x (List.mem_of_getElem? hx)).1
      have hl := HV.out.look1 (id := x.1) (wf_of (by omega) (by omega))
      rw [hfx] at hl
      obtain ⟨a', c', ev, -, hi⟩ := owned_nums HV.out.2.1
      cases ev
      rcases hi with hi | ⟨ba, oa, rfl, hca⟩
      · exfalso; rw [← List.length_eq_zero_iff, idsP_len] at hi; omega
      have h1 := hca j (by rw [idsP_len]; exact hlt)
      have hxd : (idsP L).getD j 0 = x.1 := by simp [idsP, List.getD, hx]
      rw [hxd] at h1
      have hpre : L.take j ++ [x] = L.take (j + 1) := take_preA hx
      obtain ⟨fn, tmps, assign, body, hy, hR⟩ := HY.out (L.take j) x wr HJ.out (by rw [hpre]; exact List.take_prefix _ _)
      rw [hpre] at hR
      have HPE := hide hpre
      have c0 : wr.cell? ⟨Bi, 0, none⟩ = some (.pointer (some ⟨p, 0, none⟩)) := by rw [cell_of HB.out]; rfl
      have c1 := HV.out.cellM
      obtain ⟨x0, x1, x2⟩ := x
      clear hpre hx hca hxd hfx hat
      unfold pairV at hl
      dsimp only [encA, pairV, Option.getD] at hy hl h1
      have q1 : (j : Int) < (L.length : Int) := by omega
      gi_wp2
      refine hR.mono ?_
      rintro e W3 ⟨hk3, (⟨rfl, hJ3⟩ | ⟨rfl, hJ3⟩)⟩
      · have HJ3 := hide hJ3
        have HV3 := hide (HV.out.kept HP.out hk3 HKE.out)
        have HB3 := hide (hk3.block _ _ HB.out (HKB.out _))
        clear hJ3 hk3 hR h1
        gi_wp2
        go_roundw
        case rel => exact ⟨j + 1, by go_num, by omega, HJ3, HV3, HB3⟩
        case measure => simp [Go.RowKit.intOf]; omega
      · have HJ3 := hide hJ3
        clear hJ3 hk3 hR h1
        gi_wp2
        refine bodyPost_ret (results_none rfl _ _ _) rfl ?_
        exact ⟨⟨_, rfl⟩, .inr ⟨_, by rw [← HPE.out]; simp, List.take_prefix _ _, HJ3.out⟩⟩
    · have q1 : ¬ (j : Int) < (L.length : Int) := by omega
      have HJ3 : Hid (J L wr) := by
        have := HJ.out
        rwa [List.take_of_length_le (by omega)] at this
      gi_wp2
      go_end0
      exact ⟨⟨_, rfl⟩, .inl HJ3.out⟩
end Go.Proofs.Ytkaniplkobnpjaa
