/-
  Contracts of the reference's Commit, Release, Reserve.
-/
import Derived.Test.YtkdonlhdjgpjiaaSckR
namespace Go.Proofs.Ytkdonlhdjgpjiaa
open Go.ChangeShapes Go.WideShapes Go.ChangeAt Go.RowKit Go.Maps

theorem claimAt (x y : Int) (W : World) : (Instr.field 37 (.agg #[.int .i64 x, .int .i64 y]) 0).run Try.prog W = .ok (.int .i64 x) W := by kernel_rfl
theorem claimN (x y : Int) (W : World) : (Instr.field 37 (.agg #[.int .i64 x, .int .i64 y]) 1).run Try.prog W = .ok (.int .i64 y) W := by kernel_rfl
section
variable {B : Nat} {w0 w : World} {p b : Nat} {on : Int → Int} {r : Int → Option (Int × Int)} {n : Nat} {id : Int}
/-- delete(b.R, id) -/
theorem Rs.gone (k : Rs B w p b on r n) (kk : Rg.Kept (Own2 p b) w0 w) (D : DataW Unit) (hf : FitsG encP D r) {w1 : World} (o1 : w1.ownsMap Try.prog 3 pairElem b n (D.del (.int .i64 id))) (t1 : w.mapTurned w1 b) :
    Rs B w1 p b on (updO r id none) n ∧ Rg.Kept (Own2 p b) w0 w1 := by
  have hne := k.ne
  have kp : Rg.Kept (fun i _ => i = b) w w1 := Rg.Kept.grown t1.grown (fun i _ e => (by cases e; rfl))
  exact ⟨⟨kp.block _ _ k.1 (fun e => hne e.symm), k.2.1, k.2.2.1, _, o1, hf.del id⟩, kk.trans (kp.mono (fun _ _ e => .inr e))⟩
/-- b.R[id] = Claim{x, y} -/
theorem Rs.put (k : Rs B w p b on r n) (kk : Rg.Kept (Own2 p b) w0 w) (hw : (Lit.int .i64 id).wf = true) (hn : n < 1000000) (x y : Int) :
    ∃ w1, (Instr.mapUpdate 39 (.map (some b)) (.int .i64 id) (.agg #[.int .i64 x, .int .i64 y])).run Try.prog w = .ok () w1 ∧ Rs B w1 p b on (updO r id (some (x, y))) (n + 1) ∧ Rg.Kept (Own2 p b) w0 w1 := by
  have hne := k.ne
  obtain ⟨h1, h2, h3, D, h5, h6⟩ := k
  obtain ⟨w1, hrun, o1, t1⟩ := h5.store lawI Try.underlying39 (by unfold maxLen; omega) (keyOf_int_mk Try.underlying3 hw) (pairElem_mk (x, y))
  have kp : Rg.Kept (fun i _ => i = b) w w1 := Rg.Kept.grown t1.grown (fun i _ e => (by cases e; rfl))
  exact ⟨w1, hrun, ⟨kp.block _ _ h1 (fun e => hne e.symm), h2, h3, _, o1, h6.put id (x, y)⟩, kk.trans (kp.mono (fun _ _ e => .inr e))⟩
end

set_option maxHeartbeats 1000000 in
theorem rrel_any {B : Nat} {w : World} {p b : Nat} {s : Sb} {n : Nat} (k : Rs B w p b s.on s.r n) (g : GoodS s) {id : Int} (hw : (Lit.int .i64 id).wf = true) :
    Calls Try.prog 15 #[.pointer (some ⟨p, 0, none⟩), .int .i64 id] w fun e w' => e = .returned (.int .i64 (unE s id)) ∧ Rs B w' p b (relS s id).on (relS s id).r n ∧ Rg.Kept (Own2 p b) w w' := by
  have c8 := k.cellM
  have hcn := claimN
  have hl := k.look hw
  cases hz : s.r id with
  | none =>
    rw [unE_none hz, relS_none hz]
    rw [hz] at hl
    unfold pairV at hl
    dsimp only [Option.getD] at hl
    have HK := hide k
    clear k hz g
    go_enter Try.func15, Try.ntmps15
    go_wp2
    go_ret
    exact ⟨rfl, HK.out, Rg.Kept.refl _ _⟩
  | some c =>
    obtain ⟨x, y⟩ := c
    rw [unE_some hz, relS_some hz]
    rw [hz] at hl
    unfold pairV at hl
    dsimp only [Option.getD] at hl ⊢
    have hy : 1 ≤ y := (g.at_ _ _ hz).2.2
    have qy : (y == 0) = false := by simp; omega
    have hkey := keyOf_int_mk Try.underlying3 hw
    have HK := hide k
    obtain ⟨-, -, -, D, hown, hfit⟩ := k
    have HF := hide hfit
    clear hz g hfit
    go_enter Try.func15, Try.ntmps15
    go_wp2_with (first
      | (at_delete; refine wpList_delete_own _ rfl _ _ 39 3 rfl 37 lawI Try.underlying39 _ b n D rfl hown _ _ rfl hkey ?_; intro w1 hown1 hturn1; have H1 := hide (HK.out.gone (Rg.Kept.refl _ _) D HF.out hown1 hturn1); clear hown hown1 hturn1)
      | go_in)
    go_ret
    exact ⟨rfl, H1.out⟩

set_option maxHeartbeats 1000000 in
theorem rcom_any {B : Nat} {w : World} {p b : Nat} {s : Sb} {n : Nat} (k : Rs B w p b s.on s.r n) (g : GoodS s) {id : Int} (hw : (Lit.int .i64 id).wf = true) :
    Calls Try.prog 13 #[.pointer (some ⟨p, 0, none⟩), .int .i64 id] w fun e w' => e = .returned (.int .i64 (unE s id)) ∧ Rs B w' p b (comS s id).on (comS s id).r n ∧ Rg.Kept (Own2 p b) w w' := by
  have c8 := k.cellM
  have hl := k.look hw
  cases hz : s.r id with
  | none =>
    rw [unE_none hz, comS_none hz]
    rw [hz] at hl
    unfold pairV at hl
    dsimp only [Option.getD] at hl
    have HK := hide k
    clear k hz g
    go_enter Try.func13, Try.ntmps13
    go_wp2
    go_ret
    exact ⟨rfl, HK.out.on_ (bel_al (Below.refl _ _) _), Rg.Kept.of_below (bel_al (Below.refl _ _) _)⟩
  | some c =>
    obtain ⟨x, y⟩ := c
    rw [unE_some hz, comS_some hz]
    rw [hz] at hl
    unfold pairV at hl
    dsimp only [Option.getD] at hl ⊢
    obtain ⟨a1, a2, a3⟩ := g.at_ id _ hz
    have a4 := g.le hz
    dsimp only at a2 a3 a4
    have a5 := g.top x a2.1 a2.2
    have a6 := g.nn x a2.1 a2.2
    have qy : (y == 0) = false := by simp; omega
    obtain ⟨i, rfl⟩ : ∃ i : Nat, x = i := ⟨x.toNat, by omega⟩
    have hi : (i : Int) < 8 := a2.2
    have hi8 : i < 8 := by omega
    have c := k.cellOn hi8
    have f := k.frozen i
    have hlt := k.lt
    have hkey := keyOf_int_mk Try.underlying3 hw
    obtain ⟨v, hv⟩ : ∃ v, s.on i = v := ⟨_, rfl⟩
    obtain ⟨v2, hv2⟩ : ∃ v2, s.fr i = v2 := ⟨_, rfl⟩
    have k2 : Rs B (((w.setCell ⟨p, i, none⟩ (.int .i64 (v - y))).alloc (.cells #[.int .i64 i, .int .i64 y] 37)).drew) p b (upd s.on i (v - y)) s.r n := (k.setOn hi8 (v - y)).on_ (bel_al (Below.refl _ _) _).drew
    have kk : Rg.Kept (Own2 p b) w (((w.setCell ⟨p, i, none⟩ (.int .i64 (v - y))).alloc (.cells #[.int .i64 i, .int .i64 y] 37)).drew) := (Rg.Kept.setCell _ (fun _ => .inl rfl)).trans (Rg.Kept.of_below (bel_al (Below.refl _ _) _).drew)
    have HK2 := hide k2
    have HKK := hide kk
    have c82 := k2.cellM
    obtain ⟨-, -, -, D, hown, hfit⟩ := k2
    have HF := hide hfit
    rw [hv] at c a4 a5 ⊢
    rw [hv2] at a4 a6
    clear k hz g hfit kk a1 a2 hv hv2 hi8
    go_enter Try.func13, Try.ntmps13
    go_wp2
    go_region
    go_wp2_with (first
      | (at_delete; refine wpList_delete_own _ rfl _ _ 39 3 rfl 37 lawI Try.underlying39 _ b n D rfl hown _ _ rfl hkey ?_; intro w1 hown1 hturn1; have H1 := hide (HK2.out.gone HKK.out D HF.out hown1 hturn1); clear hown hown1 hturn1)
      | go_in)
    go_ret
    exact ⟨rfl, H1.out⟩

set_option maxHeartbeats 1000000 in
theorem rres_any {B : Nat} {w : World} {p b : Nat} {s : Sb} {n : Nat} (k : Rs B w p b s.on s.r n) (g : GoodS s) {id : Int} (hw : (Lit.int .i64 id).wf = true) (it q : Int) (hn : n < 1000000) :
    Calls Try.prog 17 #[.pointer (some ⟨p, 0, none⟩), .int .i64 id, .int .i64 it, .int .i64 q] w fun e w' => e = .returned (.int .i64 (resE s id it q)) ∧ Rs B w' p b (resS s id it q).on (resS s id it q).r (n + 1) ∧ Rg.Kept (Own2 p b) w w' := by
  have no : ∀ c, resE s id it q = c → c ≠ 0 → ∀ w', Below w.heap.size w w' → Rs B w' p b (resS s id it q).on (resS s id it q).r (n + 1) := fun c e hc w' hb => by
    rw [resS_no (by omega)]
    exact (k.on_ hb).mono (by omega)
  have hcn := claimN
  cases hi : isI id
  · have e0 : resE s id it q = 1 := by unfold resE; rw [if_neg (by simp [hi])]
    have NO := hide (no 1 e0 (by omega))
    rw [e0]
    clear no e0 k
    go_enter Try.func17, Try.ntmps17
    go_wp2_with (first
        | (go_at_call 28; refine (rid_any _ _).mono ?_; rintro e w' ⟨rfl, rfl⟩)
        | (go_at_call 29; refine (rplace_any _ _).mono ?_; rintro e w' ⟨rfl, rfl⟩)
        | (go_at_call 30; refine (rabove_any _ _).mono ?_; rintro e w' ⟨rfl, rfl⟩))
    go_ret
    exact ⟨rfl, NO.out _ (Below.refl _ _), Rg.Kept.refl _ _⟩
  · cases hx : isIt it
    · have e0 : resE s id it q = 1 := by unfold resE; rw [if_neg (by simp [hx])]
      have NO := hide (no 1 e0 (by omega))
      rw [e0]
      clear no e0 k
      go_enter Try.func17, Try.ntmps17
      go_wp2_with (first
        | (go_at_call 28; refine (rid_any _ _).mono ?_; rintro e w' ⟨rfl, rfl⟩)
        | (go_at_call 29; refine (rplace_any _ _).mono ?_; rintro e w' ⟨rfl, rfl⟩)
        | (go_at_call 30; refine (rabove_any _ _).mono ?_; rintro e w' ⟨rfl, rfl⟩))
      go_ret
      exact ⟨rfl, NO.out _ (Below.refl _ _), Rg.Kept.refl _ _⟩
    · cases hq : aboveB q
      · have e0 : resE s id it q = 1 := by unfold resE; rw [if_neg (fun e => by unfold aboveB at hq; simp at hq; omega)]
        have NO := hide (no 1 e0 (by omega))
        rw [e0]
        clear no e0 k
        go_enter Try.func17, Try.ntmps17
        go_wp2_with (first
        | (go_at_call 28; refine (rid_any _ _).mono ?_; rintro e w' ⟨rfl, rfl⟩)
        | (go_at_call 29; refine (rplace_any _ _).mono ?_; rintro e w' ⟨rfl, rfl⟩)
        | (go_at_call 30; refine (rabove_any _ _).mono ?_; rintro e w' ⟨rfl, rfl⟩))
        go_ret
        exact ⟨rfl, NO.out _ (Below.refl _ _), Rg.Kept.refl _ _⟩
      · have hq2 : 1 ≤ q ∧ q ≤ 1000000000 := by unfold aboveB at hq; simpa using hq
        have c8 := k.cellM
        have hl := k.look hw
        cases hz : s.r id with
        | some c =>
          have e0 : resE s id it q = 8 := by unfold resE; rw [if_pos ⟨hi, hx, hq2⟩, hz]; rfl
          obtain ⟨x, y⟩ := c
          rw [hz] at hl
          unfold pairV at hl
          dsimp only [Option.getD] at hl
          have hy : y > 0 := by have := (g.at_ _ _ hz).2.2; dsimp only at this; omega
          have NO := hide (no 8 e0 (by omega))
          rw [e0]
          clear no e0 k hz g
          go_enter Try.func17, Try.ntmps17
          go_wp2_with (first
        | (go_at_call 28; refine (rid_any _ _).mono ?_; rintro e w' ⟨rfl, rfl⟩)
        | (go_at_call 29; refine (rplace_any _ _).mono ?_; rintro e w' ⟨rfl, rfl⟩)
        | (go_at_call 30; refine (rabove_any _ _).mono ?_; rintro e w' ⟨rfl, rfl⟩))
          go_ret
          exact ⟨rfl, NO.out _ (Below.refl _ _), Rg.Kept.refl _ _⟩
        | none =>
          rw [hz] at hl
          unfold pairV at hl
          dsimp only [Option.getD] at hl
          have FR := rfree_any k g it
          have ef : frV s it = s.fr it := if_pos hx
          rw [ef] at FR
          by_cases hle : q ≤ s.fr it
          · have e0 : resE s id it q = 0 := by unfold resE; rw [if_pos ⟨hi, hx, hq2⟩, hz, if_neg (by simp), if_pos hle]
            have q1 : ¬ q > s.fr it := by omega
            have PUT : Hid (∀ u, Below w.heap.size w u → u.cell? ⟨p, 8, none⟩ = some (.map (some b)) ∧ ∃ w1, (Instr.mapUpdate 39 (.map (some b)) (.int .i64 id) (.agg #[.int .i64 it, .int .i64 q])).run Try.prog u = .ok () w1 ∧ Rs B w1 p b s.on (updO s.r id (some (it, q))) (n + 1) ∧ Rg.Kept (Own2 p b) w w1) := fun u hu => ⟨(k.on_ hu).cellM, (k.on_ hu).put (Rg.Kept.of_below hu) hw hn it q⟩
            rw [e0, resS_ok e0]
            obtain ⟨v, hv⟩ : ∃ v, s.fr it = v := ⟨_, rfl⟩
            rw [hv] at FR q1
            clear no e0 k hz g ef hle hv
            go_enter Try.func17, Try.ntmps17
            go_wp2_with (first
        | (go_at_call 28; refine (rid_any _ _).mono ?_; rintro e w' ⟨rfl, rfl⟩)
        | (go_at_call 29; refine (rplace_any _ _).mono ?_; rintro e w' ⟨rfl, rfl⟩)
        | (go_at_call 30; refine (rabove_any _ _).mono ?_; rintro e w' ⟨rfl, rfl⟩)
        | (go_at_call 21; refine FR.mono ?_; rintro e u ⟨rfl, hbu⟩; clear c8; obtain ⟨c8, w1, hr1, hp1⟩ := PUT.out u hbu; have HP1 := hide hp1; clear hp1 hbu))
            go_ret
            exact ⟨rfl, HP1.out⟩
          · have e0 : resE s id it q = 9 := by unfold resE; rw [if_pos ⟨hi, hx, hq2⟩, hz, if_neg (by simp), if_neg hle]
            have q1 : q > s.fr it := by omega
            have NO := hide (no 9 e0 (by omega))
            rw [e0]
            obtain ⟨v, hv⟩ : ∃ v, s.fr it = v := ⟨_, rfl⟩
            rw [hv] at FR q1
            clear no e0 k hz g ef hle hv
            go_enter Try.func17, Try.ntmps17
            go_wp2_with (first
        | (go_at_call 28; refine (rid_any _ _).mono ?_; rintro e w' ⟨rfl, rfl⟩)
        | (go_at_call 29; refine (rplace_any _ _).mono ?_; rintro e w' ⟨rfl, rfl⟩)
        | (go_at_call 30; refine (rabove_any _ _).mono ?_; rintro e w' ⟨rfl, rfl⟩)
        | (go_at_call 21; refine FR.mono ?_; rintro e u ⟨rfl, hbu⟩; have HBU := hide hbu; clear hbu))
            go_ret
            exact ⟨rfl, NO.out _ HBU.out, Rg.Kept.of_below HBU.out⟩
end Go.Proofs.Ytkdonlhdjgpjiaa
