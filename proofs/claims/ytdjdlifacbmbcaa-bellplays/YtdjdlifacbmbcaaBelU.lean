/-
  Contracts of the reference's Cut, Again, Ring, Hang, Ids.
-/
import Derived.Test.YtdjdlifacbmbcaaBelR
import Derived.Test.YtdjdlifacbmbcaaStrs
namespace Go.Proofs.Ytdjdlifacbmbcaa
open Go.ChangeShapes Go.WideShapes Go.ChangeAt Go.RowKit Go.Maps

section
variable {B : Nat} {w : World} {q : Nat} {t : Int} {h : Int → Int}
set_option maxHeartbeats 1000000 in
theorem rtcut_any (k : Rt B w q t h) (g : GoodT t h) (id : Int) :
    Calls Try.prog 12 #[.pointer (some ⟨q, 0, none⟩), .int .i64 id] w fun e w' => e = .returned (.bool (hasB h id)) ∧ Rt B w' q t (cutH h id) ∧ Rg.Kept (fun i _ => i = q) w w' := by
  have H := rthas_any k g id
  by_cases hz : h id = 0
  · have hd : hasB h id = false := by simp [hasB, hz]
    rw [hd] at H ⊢
    rw [cutH_no hz]
    have HK := hide k
    clear k hd hz g
    go_enter Try.func12, Try.ntmps12
    go_wp2_with (go_at_call 24; refine H.mono ?_; rintro e w' ⟨rfl, rfl⟩)
    go_ret
    exact ⟨rfl, HK.out, Rg.Kept.refl _ _⟩
  · have hd : hasB h id = true := by simp [hasB, hz]
    rw [hd] at H ⊢
    have hi2 := g.at_ id hz
    obtain ⟨i, rfl⟩ : ∃ i : Nat, id = i := ⟨id.toNat, by omega⟩
    have c := Rw.cellI k (i := i) (by omega)
    have f := Rw.frozen k (1 + i)
    have HK := hide (k.setI (i := i) (by omega) (-1))
    have HKK := hide (kept_setQ w q (1 + i) (.int .i64 (-1)))
    obtain ⟨v, hv⟩ : ∃ v, h i - 1 = v := ⟨_, rfl⟩
    rw [hv] at c
    clear k hd hz g hv
    go_enter Try.func12, Try.ntmps12
    go_wp2_with (go_at_call 24; refine H.mono ?_; rintro e w' ⟨rfl, rfl⟩)
    go_ret
    exact ⟨rfl, HK.out, HKK.out⟩
set_option maxHeartbeats 1000000 in
theorem rtagn_any (k : Rt B w q t h) (g : GoodT t h) (id : Int) :
    Calls Try.prog 14 #[.pointer (some ⟨q, 0, none⟩), .int .i64 id] w fun e w' => e = .returned (.bool (hasB h id)) ∧ Rt B w' q t (agnH t h id) ∧ Rg.Kept (fun i _ => i = q) w w' := by
  have H := rthas_any k g id
  by_cases hz : h id = 0
  · have hd : hasB h id = false := by simp [hasB, hz]
    have e2 : agnH t h id = h := if_pos hz
    rw [hd] at H ⊢
    rw [e2]
    have HK := hide k
    clear k hd hz g e2
    go_enter Try.func14, Try.ntmps14
    go_wp2_with (go_at_call 24; refine H.mono ?_; rintro e w' ⟨rfl, rfl⟩)
    go_ret
    exact ⟨rfl, HK.out, Rg.Kept.refl _ _⟩
  · have hd : hasB h id = true := by simp [hasB, hz]
    have e2 : agnH t h id = upd h id (t + 1) := if_neg hz
    rw [hd] at H ⊢
    rw [e2]
    have hi2 := g.at_ id hz
    obtain ⟨i, rfl⟩ : ∃ i : Nat, id = i := ⟨id.toNat, by omega⟩
    have c := Rw.cellI k (i := i) (by omega)
    have c0 := Rw.cell0 k
    have f := Rw.frozen k (1 + i)
    have HK := hide (k.setI (i := i) (by omega) t)
    have HKK := hide (kept_setQ w q (1 + i) (.int .i64 t))
    obtain ⟨v, hv⟩ : ∃ v, h i - 1 = v := ⟨_, rfl⟩
    rw [hv] at c
    clear k hd hz g hv e2
    go_enter Try.func14, Try.ntmps14
    go_wp2_with (go_at_call 24; refine H.mono ?_; rintro e w' ⟨rfl, rfl⟩)
    go_region
    go_wp2
    go_ret
    exact ⟨rfl, HK.out, ⟨HKK.out.os, HKK.out.tape, HKK.out.output, HKK.out.size, HKK.out.block⟩⟩
set_option maxHeartbeats 1000000 in
theorem rtring_any (k : Rt B w q t h) (g : GoodT t h) (id : Int) :
    Calls Try.prog 16 #[.pointer (some ⟨q, 0, none⟩), .int .i64 id] w fun e w' => e = .returned (.tuple #[.bool (hasB h id), .bool (oftB h id)]) ∧ Rt B w' q t (ringH h id) ∧ Rg.Kept (fun i _ => i = q) w w' := by
  have H := rthas_any k g id
  by_cases hz : h id = 0
  · have hd : hasB h id = false := by simp [hasB, hz]
    have ho : oftB h id = false := by simp [oftB, hz]
    have e2 : ringH h id = h := if_pos (by omega)
    rw [hd] at H ⊢
    rw [e2, ho]
    have HK := hide k
    clear k hd hz g e2 ho
    go_enter Try.func16, Try.ntmps16
    go_wp2_with (go_at_call 24; refine H.mono ?_; rintro e w' ⟨rfl, rfl⟩)
    go_ret2
    exact ⟨rfl, HK.out, Rg.Kept.refl _ _⟩
  · have hd : hasB h id = true := by simp [hasB, hz]
    rw [hd] at H ⊢
    have hi2 := g.at_ id hz
    have hps := g.pos id
    have htp := g.top id
    have hth := g.hi
    obtain ⟨i, rfl⟩ : ∃ i : Nat, id = i := ⟨id.toNat, by omega⟩
    have c := Rw.cellI k (i := i) (by omega)
    by_cases h1 : h i = 1
    · have ho : oftB h i = true := by simp [oftB, h1]
      have e2 : ringH h i = h := if_pos (by omega)
      rw [e2, ho]
      have c' : w.cell? ⟨q, 1 + i, none⟩ = some (.int .i64 0) := by rw [c, h1]; rfl
      have HK := hide k
      clear k hd hz g e2 ho c h1 hps htp
      go_enter Try.func16, Try.ntmps16
      go_wp2_with (go_at_call 24; refine H.mono ?_; rintro e w' ⟨rfl, rfl⟩)
      go_ret2
      exact ⟨rfl, HK.out, Rg.Kept.refl _ _⟩
    · have ho : oftB h i = false := by simp [oftB, h1]
      have e2 : ringH h i = upd h i (h i - 1) := if_neg (by omega)
      rw [e2, ho]
      have f := Rw.frozen k (1 + i)
      obtain ⟨v, hv⟩ : ∃ v, h i = v + 1 := ⟨h i - 1, by omega⟩
      have HK := hide (k.setI (i := i) (by omega) (v - 1))
      have HKK := hide (kept_setQ w q (1 + i) (.int .i64 (v - 1)))
      rw [hv, show v + 1 - 1 = v - 1 + 1 by omega]
      rw [hv, show v + 1 - 1 = v by omega] at c
      have q0 : (v == 0) = false := by simp; omega
      have q1 : -9223372036854775808 ≤ v - 1 := by omega
      have q2 : v - 1 ≤ 9223372036854775807 := by omega
      clear k hd hz g e2 ho h1 hv hps htp hth
      go_enter Try.func16, Try.ntmps16
      go_wp2_with (go_at_call 24; refine H.mono ?_; rintro e w' ⟨rfl, rfl⟩)
      go_region
      all_goals go_wp2
      all_goals go_ret2
      all_goals exact ⟨rfl, HK.out, ⟨HKK.out.os, HKK.out.tape, HKK.out.output, HKK.out.size, HKK.out.block⟩⟩
set_option maxHeartbeats 1000000 in
theorem rthang_any (k : Rt B w q t h) (g : GoodT t h) (id : Int) :
    Calls Try.prog 10 #[.pointer (some ⟨q, 0, none⟩), .int .i64 id] w fun e w' => e = .returned (.bool (hangB h id)) ∧ Rt B w' q t (hangH t h id) ∧ Rg.Kept (fun i _ => i = q) w w' := by
  have H := rthas_any k g id
  have I := rid_any id w
  cases hi : isI id
  · rw [hi] at I
    have hB : hangB h id = false := by simp [hangB, hi]
    have e2 : hangH t h id = h := if_neg (by rw [hB]; simp)
    rw [hB, e2]
    have HK := hide k
    clear k hB e2 H hi g
    go_enter Try.func10, Try.ntmps10
    go_wp2_with (go_at_call 23; refine I.mono ?_; rintro e w' ⟨rfl, rfl⟩)
    go_ret
    exact ⟨rfl, HK.out, Rg.Kept.refl _ _⟩
  · rw [hi] at I
    by_cases hz : h id = 0
    · have hB : hangB h id = true := by simp [hangB, hi, hz]
      have e2 : hangH t h id = upd h id (t + 1) := if_pos hB
      have hd : hasB h id = false := by simp [hasB, hz]
      rw [hd] at H
      rw [hB, e2]
      have hi2 := isI_iff.1 hi
      obtain ⟨i, rfl⟩ : ∃ i : Nat, id = i := ⟨id.toNat, by omega⟩
      have c := Rw.cellI k (i := i) (by omega)
      have c0 := Rw.cell0 k
      have f := Rw.frozen k (1 + i)
      have HK := hide (k.setI (i := i) (by omega) t)
      have HKK := hide (kept_setQ w q (1 + i) (.int .i64 t))
      obtain ⟨v, hv⟩ : ∃ v, h i - 1 = v := ⟨_, rfl⟩
      rw [hv] at c
      clear k hd hz g hv e2 hB hi
      go_enter Try.func10, Try.ntmps10
      go_wp2_with (first
        | (go_at_call 23; refine I.mono ?_; rintro e w' ⟨rfl, rfl⟩)
        | (go_at_call 24; refine H.mono ?_; rintro e w' ⟨rfl, rfl⟩))
      go_region
      go_wp2
      go_ret
      exact ⟨rfl, HK.out, ⟨HKK.out.os, HKK.out.tape, HKK.out.output, HKK.out.size, HKK.out.block⟩⟩
    · have hB : hangB h id = false := by simp [hangB, hz]
      have e2 : hangH t h id = h := if_neg (by rw [hB]; simp)
      have hd : hasB h id = true := by simp [hasB, hz]
      rw [hd] at H
      rw [hB, e2]
      have HK := hide k
      clear k hB e2 hi hz hd g
      go_enter Try.func10, Try.ntmps10
      go_wp2_with (first
        | (go_at_call 23; refine I.mono ?_; rintro e w' ⟨rfl, rfl⟩)
        | (go_at_call 24; refine H.mono ?_; rintro e w' ⟨rfl, rfl⟩))
      go_ret
      exact ⟨rfl, HK.out, Rg.Kept.refl _ _⟩
set_option maxHeartbeats 1000000 in
theorem rtids_any (k : Rt B w q t h) (g : GoodT t h) :
    Calls Try.prog 17 #[.pointer (some ⟨q, 0, none⟩)] w fun e w' => ∃ a c, e = .returned (.slice a (idsL h).length c) ∧ w'.ownsRow w.heap.size 3 1 (.slice a (idsL h).length c) (idsL h).length ((idsL h).map (Value.int .i64)) ∧ Below w.heap.size w w' := by
  have HH : Hid (∀ u (j : Nat), Below w.heap.size w u → Calls Try.prog 24 #[.pointer (some ⟨q, 0, none⟩), .int .i64 (j : Int)] u fun e w' => e = .returned (.bool (hasB h j)) ∧ u = w') := fun u j hb => rthas_any (Rw.on k hb) g j
  clear k g
  go_enter Try.func17, Try.ntmps17
  go_wp2
  go_loopw [3, 5] (fun v i wr => ∃ (j : Nat) (av : Option Addr) (cv : Nat), i = .int .i64 j ∧ v = .slice av (idsTo h j).length cv ∧ j ≤ 1000 ∧ Hid (wr.ownsRow w.heap.size 3 1 (.slice av (idsTo h j).length cv) (idsTo h j).length ((idsTo h j).map (Value.int .i64))) ∧ Hid (Below w.heap.size w wr)) (fun _ i _ => 1000 - (intOf i).toNat)
  case atStart => exact ⟨0, none, 0, rfl, rfl, Nat.zero_le _, World.ownsRow_nil _ _ _ _, Below.refl _ _⟩
  case round =>
    obtain ⟨j, av, cv, rfl, rfl, hj, HR, HB⟩ := hrel
    by_cases hlt : j < 1000
    · have ql : (j : Int) < 1000 := by omega
      have H := HH.out wr j HB.out
      by_cases hz : h j = 0
      · have e : idsTo h (j + 1) = idsTo h j := by rw [idsTo_succ, if_neg (by simp [hz])]; simp
        have hd : hasB h j = false := by simp [hasB, hz]
        rw [hd] at H
        have HE := hide e
        clear e hz hd
        go_wp2_with (go_at_call 24; refine H.mono ?_; rintro e w' ⟨rfl, rfl⟩)
        go_roundw
        case rel => exact ⟨j + 1, av, cv, by go_num, by rw [HE.out], by omega, by rw [HE.out]; exact HR, HB⟩
        case measure => simp [intOf]; omega
      · have e : idsTo h (j + 1) = idsTo h j ++ [(j : Int)] := by rw [idsTo_succ, if_pos hz]
        have hd : hasB h j = true := by simp [hasB, hz]
        rw [hd] at H
        have HE := hide e
        have hlen := idsTo_len h j
        have hbb := HB.out.size
        clear e hz hd
        go_wp2_with (first
          | (go_at_call 24; refine H.mono ?_; rintro e w' ⟨rfl, rfl⟩)
          | (at_builtin; refine append_nums rfl _ _ rfl w.heap.size (.slice av (idsTo h j).length cv) (idsTo h j).length (idsTo h j) rfl (HR.out.alloc _) ⟨wr.heap.size, 0, none⟩ 1 1 [(j : Int)] rfl rfl (ints_one _ _) (by omega) (by simp; omega) ?_; intro v' w4 hown' hgrow; obtain ⟨a4, c4, rfl, -⟩ := row_slice hown'; have HR4 := hide hown'; have HB4 : Hid (Below w.heap.size w w4) := (HB.out.alloc HB.out.size _).grown hgrow (by simp; omega) (fun i e => (HR.out.lt i e).1); clear hown' hgrow))
        go_roundw
        case rel => exact ⟨j + 1, a4, c4, by go_num, by rw [HE.out]; simp, by omega, by rw [HE.out, List.length_append]; exact HR4, HB4⟩
        case measure => simp [intOf]; omega
    · have ql : ¬ (j : Int) < 1000 := by omega
      go_wp2
      go_ret
      have e : j = 1000 := by omega
      subst e
      exact ⟨av, cv, rfl, HR.out, HB.out⟩
end
end Go.Proofs.Ytdjdlifacbmbcaa
