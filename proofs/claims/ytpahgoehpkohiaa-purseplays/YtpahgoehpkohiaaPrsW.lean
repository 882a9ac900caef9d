/-
  Contracts of the reference's Void, Capture, Allow.
-/
import Derived.Test.YtpahgoehpkohiaaPrsR
namespace Go.Proofs.Ytpahgoehpkohiaa
open Go.ChangeShapes Go.WideShapes Go.ChangeAt Go.RowKit Go.Maps

set_option maxHeartbeats 1000000 in
theorem rvoid_any {B : Nat} {w : World} {q b c : Nat} {s : Pb} {n : Nat} (k : Rp B w q b c s n) (g : GoodP s) {id : Int} (hw : (Lit.int .i64 id).wf = true) :
    Calls Try.prog 15 #[.pointer (some ⟨q, 0, none⟩), .int .i64 id] w fun e w' => e = .returned (.int .i64 (capE s id)) ∧ Rp B w' q b c (voidS s id) n ∧ Rg.Kept (Own3 q b c) w w' := by
  have c8 := k.cellA
  have hcn := claimN
  have hl := k.2.2.1.lookC hw
  cases hz : s.a id with
  | none =>
    rw [capE_none hz, voidS_none hz]
    rw [hz] at hl
    unfold pairV at hl
    dsimp only [Option.getD] at hl
    have HK := hide k
    clear k hz g
    go_enter Try.func15, Try.ntmps15
    go_wp2
    go_ret
    exact ⟨rfl, HK.out, Rg.Kept.refl _ _⟩
  | some d =>
    obtain ⟨x, y⟩ := d
    rw [capE_some hz, voidS_some hz]
    rw [hz] at hl
    unfold pairV at hl
    dsimp only [Option.getD] at hl ⊢
    have hy : 1 ≤ y := (g.at_ _ _ hz).2.2.1
    have qy : (y == 0) = false := by simp; omega
    have hkey := keyOf_int_mk Try.underlying3 hw
    have HK := hide k
    obtain ⟨-, -, ⟨D, hown, hfit⟩, -⟩ := k
    have HF := hide hfit
    clear hz g hfit
    go_enter Try.func15, Try.ntmps15
    go_wp2_with (first
      | (at_delete; refine wpList_delete_own _ rfl _ _ 37 3 rfl 60 lawI Try.underlying37 _ b n D rfl hown _ _ rfl hkey ?_; intro w1 hown1 hturn1; have H1 := hide (HK.out.gone (Rg.Kept.refl _ _) HF.out hown1 hturn1); clear hown hown1 hturn1)
      | go_in)
    go_ret
    exact ⟨rfl, H1.out⟩

set_option maxHeartbeats 1000000 in
theorem rcap_any {B : Nat} {w : World} {q b c : Nat} {s : Pb} {n : Nat} (k : Rp B w q b c s n) (g : GoodP s) {id : Int} (hw : (Lit.int .i64 id).wf = true) (hn : n < 1000000) :
    Calls Try.prog 13 #[.pointer (some ⟨q, 0, none⟩), .int .i64 id] w fun e w' => e = .returned (.int .i64 (capE s id)) ∧ Rp B w' q b c (capS s id) (n + 1) ∧ Rg.Kept (Own3 q b c) w w' := by
  have c8 := k.cellA
  have hl := k.2.2.1.lookC hw
  cases hz : s.a id with
  | none =>
    rw [capE_none hz, capS_none hz]
    rw [hz] at hl
    unfold pairV at hl
    dsimp only [Option.getD] at hl
    have HK := hide (k.mono (Nat.le_succ _))
    clear k hz g
    go_enter Try.func13, Try.ntmps13
    go_wp2
    go_ret
    exact ⟨rfl, HK.out.on (bel_al (Below.refl _ _) _), Rg.Kept.of_below (bel_al (Below.refl _ _) _)⟩
  | some d =>
    obtain ⟨x, y⟩ := d
    rw [capE_some hz, capS_some hz]
    rw [hz] at hl
    unfold pairV at hl
    dsimp only [Option.getD] at hl ⊢
    obtain ⟨a1, a2, a3, a4⟩ := g.at_ id _ hz
    have a5 := g.le hz
    dsimp only at a2 a3 a5
    have a6 := g.low x a2.1 a2.2
    have a7 := g.top x a2.1 a2.2
    have a8 := g.over
    have a9 := g.tnn
    have qy : (y == 0) = false := by simp; omega
    obtain ⟨i, rfl⟩ : ∃ i : Nat, x = i := ⟨x.toNat, by omega⟩
    have hi : (i : Int) < 8 := a2.2
    have hi8 : i < 8 := by omega
    have c0 := k.cellM hi8
    have f0 := k.frozen i
    have hlt := k.lt
    have hkey := keyOf_int_mk Try.underlying3 hw
    obtain ⟨v, hv⟩ : ∃ v, s.m i = v := ⟨_, rfl⟩
    obtain ⟨t, ht⟩ : ∃ t, s.till = t := ⟨_, rfl⟩
    rw [hv] at c0 a6 a7
    rw [ht] at a8 a9
    have bv1 : 1 ≤ v := by omega
    have bv2 : y ≤ v := by omega
    have bt2 : t + y ≤ 1000000000 := by omega
    -- behind the first store
    have k1 : Rp B (((w.setCell ⟨q, i, none⟩ (.int .i64 (v - y))).alloc (.cells #[.int .i64 i, .int .i64 y] 60)).drew) q b c ⟨upd s.m i (v - y), s.a, s.till, s.p⟩ n := (k.setM hi8 (v - y)).on (bel_al (Below.refl _ _) _).drew
    have kk1 : Rg.Kept (Own3 q b c) w (((w.setCell ⟨q, i, none⟩ (.int .i64 (v - y))).alloc (.cells #[.int .i64 i, .int .i64 y] 60)).drew) := (Rg.Kept.setCell _ (fun _ => .inl rfl)).trans (Rg.Kept.of_below (bel_al (Below.refl _ _) _).drew)
    have hx1 : (((w.setCell ⟨q, i, none⟩ (.int .i64 (v - y))).alloc (.cells #[.int .i64 i, .int .i64 y] 60)).drew).cell? ⟨w.heap.size, 1, none⟩ = some (.int .i64 y) := by
      have := World.alloc_heap_new (w.setCell ⟨q, i, none⟩ (.int .i64 (v - y))) (.cells #[.int .i64 i, .int .i64 y] 60)
      rw [show (w.setCell ⟨q, i, none⟩ (.int .i64 (v - y))).heap.size = w.heap.size by simp] at this
      exact (cell_of this).trans rfl
    obtain ⟨W1, hW1⟩ : ∃ W1, ((w.setCell ⟨q, i, none⟩ (.int .i64 (v - y))).alloc (.cells #[.int .i64 i, .int .i64 y] 60)).drew = W1 := ⟨_, rfl⟩
    rw [hW1] at k1 kk1 hx1
    have hsz : w.heap.size < W1.heap.size := World.block_lt_of_cell? _ _ hx1
    have d9 := k1.cellT
    have e9 := k1.frozen 9
    have hltq := k1.lt
    rw [show (⟨upd s.m i (v - y), s.a, s.till, s.p⟩ : Pb).till = t from ht] at d9
    -- behind the second one, and what was paid
    have hqw : q ≠ w.heap.size := by omega
    have k2 : Rp B ((W1.setCell ⟨q, 9, none⟩ (.int .i64 (t + y))).drew) q b c ⟨upd s.m i (v - y), s.a, t + y, s.p⟩ n := (k1.setT (t + y)).on (Below.refl _ _).drew
    have kk2 : Rg.Kept (Own3 q b c) w ((W1.setCell ⟨q, 9, none⟩ (.int .i64 (t + y))).drew) := kk1.trans ((Rg.Kept.setCell _ (fun _ => .inl rfl)).trans (Rg.Kept.of_below (Below.refl _ _).drew))
    have hx2 : ((W1.setCell ⟨q, 9, none⟩ (.int .i64 (t + y))).drew).cell? ⟨w.heap.size, 1, none⟩ = some (.int .i64 y) := by
      have e : ((W1.setCell ⟨q, 9, none⟩ (.int .i64 (t + y))).drew).heap[w.heap.size]? = W1.heap[w.heap.size]? := Below.heap_setCell _ _ _ _ (fun e => hqw e.symm)
      rw [World.cell?_of_block (a := ⟨w.heap.size, 1, none⟩) e]
      exact hx1
    obtain ⟨W2, hW2⟩ : ∃ W2, (W1.setCell ⟨q, 9, none⟩ (.int .i64 (t + y))).drew = W2 := ⟨_, rfl⟩
    rw [hW2] at k2 kk2 hx2
    have d10 := k2.cellP
    have k2d : Rp B W2.drew q b c ⟨upd s.m i (v - y), s.a, t + y, s.p⟩ n := k2.on (Below.refl _ _).drew
    have kk2d : Rg.Kept (Own3 q b c) w W2.drew := kk2.trans (Rg.Kept.of_below (Below.refl _ _).drew)
    obtain ⟨W3, hr3, hm3, hk3⟩ := k2d.2.2.2.put hw (v := y) (wf_of (by omega) (by omega)) (by omega) hn
    have hned := k2d.ned
    have k3 : Rp B W3 q b c ⟨upd s.m i (v - y), s.a, t + y, upd s.p id y⟩ (n + 1) := ⟨hk3.block _ _ k2d.1 (fun e => hned e.symm), k2d.2.1, (k2d.2.2.1.mono (Nat.le_succ _)).kept hk3 (fun _ e => k2d.2.1.2.2.2 e), hm3⟩
    have kk3 : Rg.Kept (Own3 q b c) w W3 := kk2d.trans (hk3.mono (fun _ _ e => .inr (.inr e)))
    have d8 := k3.cellA
    have HK3 := hide k3
    have HKK3 := hide kk3
    obtain ⟨-, -, ⟨D, hown, hfit⟩, -⟩ := k3
    have HF := hide hfit
    rw [show s.m i - y = v - y by rw [hv], show s.till + y = t + y by rw [ht]]
    clear k hz g kk1 k1 a1 a2 a5 a6 a8 hv k2 kk2 k2d kk2d hm3 hk3 hned hfit kk3 ht
    go_enter Try.func13, Try.ntmps13
    go_wp2
    go_region
    clear c8 hl c0 f0 hW1
    go_wp2
    go_region
    clear hW2
    go_wp2
    go_region
    go_wp2_with (first
      | (at_delete; refine wpList_delete_own _ rfl _ _ 37 3 rfl 60 lawI Try.underlying37 _ b (n + 1) D rfl hown _ _ rfl hkey ?_; intro w1 hown1 hturn1; have H1 := hide (HK3.out.gone HKK3.out HF.out hown1 hturn1); clear hown hown1 hturn1)
      | go_in)
    go_ret
    exact ⟨rfl, H1.out⟩
end Go.Proofs.Ytpahgoehpkohiaa
