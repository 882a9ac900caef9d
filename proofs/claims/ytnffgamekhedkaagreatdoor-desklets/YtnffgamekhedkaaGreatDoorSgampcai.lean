/-
  Own texts put together: CgI, CgO, CgU, DkF, DkS, DkU, DkW, DkT, DkA, DkO, DkQ, DkV, DkP, ZdLet.
-/
import Derived.Test.YtnffgamekhedkaaGreatDoorSgaeghgk
import Derived.Test.YtnffgamekhedkaaGreatDoorSgapabdi
import Derived.Test.YtnffgamekhedkaaGreatDoorSgmbaoea
import Derived.Lib.ItoaLen
import Derived.Test.YtnffgamekhedkaaGreatDoorSgeoepgh
import Derived.OwnWalkIn
import Derived.Test.YtnffgamekhedkaaGreatDoorSgiomkcg
import Derived.Test.YtnffgamekhedkaaGreatDoorSgjbdcpc
import Derived.Test.YtnffgamekhedkaaGreatDoorSggjnjid
/-
  Contracts of the chief's forget and New.
-/
namespace Go.Proofs.YtnffgamekhedkaaGreatDoor
open Go.ChangeShapes Go.WideShapes Go.ChangeAt Go.RowKit Go.Shelf Go.Maps Sg Bl

attribute [local go_sem] Oper.semAt_some

/-- All bells of L are cut. -/
def cutsH (h : Int → Int) (L : List Int) : Int → Int := L.foldl cutH h
theorem cuts_at : ∀ (L : List Int) (h : Int → Int) (x : Int), cutsH h L x = if x ∈ L then 0 else h x
  | [], h, x => by simp [cutsH]
  | y :: L, h, x => by
    show cutsH (cutH h y) L x = _
    rw [cuts_at L]
    by_cases h1 : x ∈ L
    · rw [if_pos h1, if_pos (by simp [h1])]
    · rw [if_neg h1]
      by_cases h2 : x = y
      · subst h2
        rw [if_pos (by simp)]
        exact Bl.upd_same _ _ _
      · rw [if_neg (by simp [h1, h2])]
        exact Bl.upd_other _ _ h2
theorem cuts_snoc (h : Int → Int) (L : List Int) (x : Int) : cutsH h (L ++ [x]) = cutH (cutsH h L) x := by unfold cutsH; rw [List.foldl_append]; rfl
theorem cuts_all {t : Int} {h : Int → Int} (g : GoodT t h) : cutsH h (idsL h) = fun _ => 0 := by
  funext x
  rw [cuts_at]
  split
  · rfl
  · rename_i h1
    cases e : decide (h x = 0) with
    | true => exact of_decide_eq_true e
    | false => exact absurd ((mem_idsL g.at_ x).2 (of_decide_eq_false e)) h1
/-- What forget's loop has, pre being cut. -/
def FgI (B : Nat) (E : Nat → Prop) (w w1 : World) (p bt b' : Nat) (t : Int) (h : Int → Int) (m r : Int) (qv : Value) (pre : List Int) (W : World) : Prop :=
  Bt B E W bt t (cutsH h pre) 999 ∧ W.heap[p]? = some (.cells #[.int .i64 m, .int .i64 r, qv, .map (some b'), .pointer (some ⟨bt, 0, none⟩)] 72 (0, 0)) ∧ Gd.Pu.Pa.Mx ptX Tryz.prog 3 W b' 999 (fun _ => none) ∧ Boxed W w.heap.size 36 (.pointer (some ⟨p, 0, none⟩)) ∧ Rg.Kept (fun i _ => E i) w1 W
theorem FgI.kept {B : Nat} {E : Nat → Prop} {w w1 W W' : World} {p bt b' : Nat} {t : Int} {h : Int → Int} {m r : Int} {qv : Value} {pre : List Int} {F : Nat → Obj → Prop} (hE : ∀ k, E k → k < w.heap.size) (hp : p < w.heap.size) (hs : w.heap.size < w1.heap.size) (hb : b' < w1.heap.size) (k : FgI B E w w1 p bt b' t h m r qv pre W) (hk : Rg.Kept F W W') (hF : ∀ k o, F k o → w1.heap.size ≤ k) : FgI B E w w1 p bt b' t h m r qv pre W' := by
  obtain ⟨k1, k2, k3, k4, k5⟩ := k
  have far : ∀ k o, k < w1.heap.size → ¬ F k o := fun k o hl e => by have := hF k o e; omega
  exact ⟨k1.kept hk (fun k o e => far k o (by have := hE k e; omega)), hk.block _ _ k2 (far p _ (by omega)), k3.kept hk (fun o => far b' o hb), hk.block _ _ k4 (far _ _ hs), ⟨hk.os.trans k5.os, hk.tape.trans k5.tape, hk.output.trans k5.output, Nat.le_trans k5.size hk.size, fun k o ho hx => hk.block k o (k5.block k o ho hx) (far k o (Array.getElem?_eq_some_iff.1 ho).1)⟩⟩
theorem FgI.own {B : Nat} {E : Nat → Prop} {w w1 : World} {p bt b' : Nat} {t : Int} {h : Int → Int} {m r : Int} {qv : Value} (hE : ∀ k, E k → k < w.heap.size) (hp : p < w.heap.size) (hs : w.heap.size < w1.heap.size) (hb : b' < w1.heap.size) : OwnFrom w1.heap.size (FgI B E w w1 p bt b' t h m r qv) := fun _ _ _ row hs' hg hr =>
  hs'.kept hE hp hs hb (F := fun i _ => row = some i) (Rg.Kept.grown hg (fun _ _ e => e)) (fun k _ e => (hr k e).1)
set_option maxRecDepth 100000 in
set_option maxHeartbeats 1000000 in
theorem cforget_any {B : Nat} {E : Nat → Prop} {w : World} {p bt : Nat} {t : Int} {h : Int → Int} {m r : Int} {qv x3 : Value} (hb : w.heap[p]? = some (.cells #[.int .i64 m, .int .i64 r, qv, x3, .pointer (some ⟨bt, 0, none⟩)] 72 (0, 0))) (kb : Bt B E w bt t h 999) (hp : ¬ E p) :
    Calls Tryz.prog 55 #[.pointer (some ⟨p, 0, none⟩)] w fun e w' => (∃ x, e = .returned x) ∧ ∃ b', (w.heap.size ≤ b' ∧ b' < w'.heap.size) ∧ w'.heap[p]? = some (.cells #[.int .i64 m, .int .i64 r, qv, .map (some b'), .pointer (some ⟨bt, 0, none⟩)] 72 (0, 0)) ∧ Gd.Pu.Pa.Mx ptX Tryz.prog 3 w' b' 999 (fun _ => none) ∧ Bt B E w' bt t (fun _ => 0) 999 ∧ Rg.Kept (fun i _ => i = p ∨ E i) w w' := by
  refine (callsIn_wide (n := 5)).1 ?_
  have hpl : p < w.heap.size := (Array.getElem?_eq_some_iff.1 hb).1
  have hEl : ∀ k, E k → k < w.heap.size := fun k e => (kb.1 k e).2
  obtain ⟨W0, hW0⟩ : ∃ W0, W0 = w.setCell ⟨p, 3, none⟩ (.map (some (w.heap.size + 1))) := ⟨_, rfl⟩
  obtain ⟨W1, hW1⟩ : ∃ W1, W1 = W0.alloc (.cells #[.pointer (some ⟨p, 0, none⟩)] 36) := ⟨_, rfl⟩
  obtain ⟨U, hU⟩ : ∃ U, U = W1.alloc (.map #[] 0) := ⟨_, rfl⟩
  have z0 : W0.heap.size = w.heap.size := by rw [hW0]; simp
  have z1 : W1.heap.size = w.heap.size + 1 := by rw [hW1]; simp [z0]
  have zU : U.heap.size = w.heap.size + 2 := by rw [hU]; simp [z1]
  have k0 : Rg.Kept (fun i _ => i = p) w W0 := by rw [hW0]; exact Rg.Kept.setCell (a := ⟨p, 3, none⟩) _ (fun _ => rfl)
  have hb2 : Below W0.heap.size W0 U := by rw [hU, hW1]; exact ((Below.refl _ _).alloc (Nat.le_refl _) _).alloc (by simp) _
  have hp0 : W0.heap[p]? = some (.cells #[.int .i64 m, .int .i64 r, qv, .map (some (w.heap.size + 1)), .pointer (some ⟨bt, 0, none⟩)] 72 (0, 0)) := by
    rw [hW0, heap_setCell_same _ _ _ _ _ _ hb]
    rfl
  have hpU := (hb2.block p (by omega)).trans hp0
  have hbxU : Boxed U w.heap.size 36 (.pointer (some ⟨p, 0, none⟩)) := by
    show U.heap[w.heap.size]? = _
    rw [hU, hW1, ← z0]
    exact (Below.heap_alloc _ _ _ (by simp)).trans (World.alloc_heap_new W0 _)
  have kU : Rg.Kept (fun i _ => i = p ∨ E i) w U := (k0.mono (fun _ _ e => .inl e)).trans (Rg.Kept.of_below hb2)
  have kbU : Bt B E U bt t h 999 := (kb.kept k0 (fun k _ e e2 => hp (e2 ▸ e))).on hb2
  have mU : Gd.Pu.Pa.Mx ptX Tryz.prog 3 U (w.heap.size + 1) 999 (fun _ => none) := by
    have h1 := (Gd.Pu.Pa.Mx.new ptX Tryz.prog 3 W1).mono (show 0 ≤ 999 by decide)
    rw [← hU, z1] at h1
    exact h1
  have f3 : w.frozen? ⟨p, 3, none⟩ = false := frozen_of_row _ _ _ _ _ hb
  have c3 : w.cell? ⟨p, 3, none⟩ = some x3 := by rw [cell_of hb]; rfl
  have c4 : w.cell? ⟨p, 4, none⟩ = some (.pointer (some ⟨bt, 0, none⟩)) := by rw [cell_of hb]; rfl
  have hne : w.heap.size ≠ p := by omega
  have IDS := (callsIn_wide (n := 4)).2 (bids_any kbU (by decide))
  have GT := kb.2.2.1
  have HL : Hid ((idsL h).length ≤ 1000000) := by
    have : (idsL h).length ≤ 1000 := idsTo_len h 1000
    show (idsL h).length ≤ 1000000
    omega
  rw [hW1, hW0] at hU
  have HU := hide hU
  rw [hU] at IDS
  have HF := hide (And.intro kbU (And.intro hpU (And.intro mU hbxU)))
  have HK := hide kU
  clear hb kb hb2 hp0 k0 hbxU hpU kU kbU mU hU z0 z1 hW0 hW1
  have hmm := @run_makeMap Tryz.prog
  have hnf : ∀ (u : World) (b : Nat), (binOp BinOp.eql 109 (.func (.func 122) #[] #[.pointer (some ⟨b, 0, none⟩)]) .nilFunc).run Tryz.prog u = .ok (.bool false) u := fun _ _ => by kernel_rfl
  refine callsIn_of_wp_marks Tryz.func55 rfl trivial ?_ rfl
  simp only [Tryz.ntmps55, List.size_toArray, List.length_cons, List.length_nil, Nat.reduceAdd, Nat.reduceSub, Array.replicate_succ, Array.replicate_zero, List.push_toArray, List.append_toArray, List.nil_append, List.cons_append]
  gi_wp2_with fail
  refine ⟨trivial, IDS.mono ?_⟩
  rintro e w1 ⟨Bi, v0, rfl, hb1, hit, hbi, hvr⟩
  rw [← HU.out] at hb1 hbi hvr
  clear IDS
  have hs1 := hb1.size
  obtain ⟨kbU, hpU, mU, hbxU⟩ := HF.out
  have i0 : FgI B E w w1 p bt (w.heap.size + 1) t h m r qv [] w1 := ⟨kbU.on hb1, (hb1.block _ (by omega)).trans hpU, mU.on hb1, (hb1.block _ (by omega)).trans hbxU, Rg.Kept.refl _ _⟩
  have hno : NoE (fun k _ => E k) Bi v0 := ⟨fun cs f e => by have := hEl _ e; omega, fun k hk o e => by have := hvr k hk; have := hEl _ e; omega⟩
  have ES := bell_seq (E := fun k _ => E k) HL.out hit hno (fun k o h1 e => by have := hEl _ e; omega)
  have HK1 : Hid (Rg.Kept (fun i _ => i = p ∨ E i) w w1) := HK.out.trans (Rg.Kept.of_below hb1)
  have HI := hide i0
  clear hb1 hit hno hbi hvr kbU hpU mU hbxU i0 HF HK f3 c3 c4
  gi_wp2_with fail
  refine Rg.range_acts (E := fun k _ => E k) (enc := encI) (L := idsL h) (I := FgI B E w w1 p bt (w.heap.size + 1) t h m r qv) (Ix := fun _ _ _ => False)
    (Ax := fun x a' _ => a' = { tmps := #[.pointer (some ⟨p, 0, none⟩), .pointer (some ⟨w.heap.size, 0, none⟩), .int .i64 x, .pointer (some ⟨p, 0, none⟩), .map (some (w.heap.size + 1)), .pointer (some ⟨p, 0, none⟩), .pointer (some ⟨p, 3, none⟩), .pointer (some ⟨p, 0, none⟩), .pointer (some ⟨p, 0, none⟩), .pointer (some ⟨p, 4, none⟩), .pointer (some ⟨bt, 0, none⟩), .func (.func 122) #[] #[.pointer (some ⟨Bi, 0, none⟩)], .int .i64 x, undef, undef, undef, undef, undef, undef], defers := [] })
    (gf := 122) (lb := #[.pointer (some ⟨Bi, 0, none⟩)]) rfl (enters_of Tryz.func122 (by kernel_rfl) rfl) ES (fun k o h1 h2 h3 => by have := hEl _ h3; omega) rfl
    (FgI.own hEl hpl (by omega) (by omega)) (fun c' W0 W W' row hs hg hr => hs.elim) (fun x a' => ?ax) HI.out ?assign ?body ?done ?stop
  case ax =>
    intro _ W W' row hs hg hr
    exact hs
  case assign =>
    intro l pre x W K hI hK
    have HK := hK { tmps := #[.pointer (some ⟨p, 0, none⟩), .pointer (some ⟨w.heap.size, 0, none⟩), .int .i64 x, .pointer (some ⟨p, 0, none⟩), .map (some (w.heap.size + 1)), .pointer (some ⟨p, 0, none⟩), .pointer (some ⟨p, 3, none⟩), .pointer (some ⟨p, 0, none⟩), .pointer (some ⟨p, 0, none⟩), .pointer (some ⟨p, 4, none⟩), .pointer (some ⟨bt, 0, none⟩), .func (.func 122) #[] #[.pointer (some ⟨Bi, 0, none⟩)], .int .i64 x, undef, undef, undef, undef, undef, undef], defers := [] } _ (Rg.Kept.refl _ _) hI rfl
    clear hK
    unfold encI at HK ⊢
    gi_wp2
    exact HK
  case body =>
    rintro l pre x a' W hI rfl hpq
    obtain ⟨k1, k2, k3, k4, k5⟩ := hI
    have hx : 1 ≤ x ∧ x ≤ 999 := by
      obtain ⟨q, hq⟩ := hpq
      have : x ∈ idsL h := by rw [← hq]; simp
      exact GT.at_ x ((mem_idsL GT.at_ x).1 this)
    have CU := (bcut_any k1 (wf_id hx.1 hx.2)).mono (R' := fun e w' => (∃ y, e = .returned y) ∧ Rg.Kept (fun k _ => E k) W w' ∧ FgI B E w w1 p bt (w.heap.size + 1) t h m r qv (pre ++ [x]) w') (fun e w' ⟨g1, g2, g3⟩ => by
      refine ⟨⟨_, g1⟩, g3, ?_, g3.block _ _ k2 hp, k3.kept g3 (fun _ e => by have := hEl _ e; omega), g3.block _ _ k4 (fun e => by have := hEl _ e; omega), k5.trans g3⟩
      rw [cuts_snoc]
      exact bt_tight g2)
    have c1 := k4.cell
    have c4 : W.cell? ⟨p, 4, none⟩ = some (.pointer (some ⟨bt, 0, none⟩)) := by rw [cell_of k2]; rfl
    clear k1 k2 k3 k4 k5 hpq hx
    gi_wp2_with fail
    refine ⟨trivial, rfl, (CallsIn.inRound l (callsIn_wide.2 CU)).mono ?_⟩
    rintro y w3 ⟨⟨z, rfl⟩, hz1, hz2⟩
    clear CU
    gi_wp2
    exact ⟨hz1, hz2⟩
  case done =>
    rintro D W hD hI hK
    obtain ⟨k1, k2, k3, k4, k5⟩ := hI.kept hEl hpl (by omega) (by omega) (F := fun i _ => i = D) (Rg.Kept.putObj (W := W) (.deferred none) (fun _ => rfl)) (fun k _ e => by omega)
    have FIN : Hid (∃ b', (w.heap.size ≤ b' ∧ b' < (W.putObj D (.deferred none)).heap.size) ∧ (W.putObj D (.deferred none)).heap[p]? = some (.cells #[.int .i64 m, .int .i64 r, qv, .map (some b'), .pointer (some ⟨bt, 0, none⟩)] 72 (0, 0)) ∧ Gd.Pu.Pa.Mx ptX Tryz.prog 3 (W.putObj D (.deferred none)) b' 999 (fun _ => none) ∧ Bt B E (W.putObj D (.deferred none)) bt t (fun _ => 0) 999 ∧ Rg.Kept (fun i _ => i = p ∨ E i) w (W.putObj D (.deferred none))) :=
      ⟨w.heap.size + 1, ⟨by omega, k3.lt⟩, k2, k3, by rw [cuts_all GT] at k1; exact k1, HK1.out.trans (k5.mono (fun _ _ e => .inr e))⟩
    clear k1 k2 k3 k4 k5
    gi_wp2
    refine ⟨by simp, .inl ⟨_, _, rfl, run_takeDeferred hK, ?_⟩⟩
    exact ⟨_, results_none rfl _ _ _, ⟨_, rfl⟩, FIN.out⟩
  case stop => exact fun D c pre W _ _ _ h _ => h.elim
theorem bt_low {B B' : Nat} {E : Nat → Prop} {w : World} {p : Nat} {t : Int} {h : Int → Int} {n : Nat} (k : Bt B E w p t h n) (hB : B' ≤ B) : Bt B' E w p t h n := ⟨fun i e => ⟨Nat.le_trans hB (k.1 i e).1, (k.1 i e).2⟩, k.2⟩
/-- A chief that was just made. -/
def MadeC (w : World) (v : Ch) (e : Ending) (w' : World) : Prop :=
  ∃ O p q r b bt loc, e = .returned (.pointer (some ⟨p, 0, none⟩)) ∧ Up w.heap.size O w' p v q r b bt loc ∧ Below w.heap.size w w'
theorem madec_of {w w1 w2 w3 w4 : World} {orders room tries : Int} {x3 : Value} {b' : Nat} (h1 : w1 = w.alloc (.cells #[.int .i64 (roomV room), .slice none 0 0, .int .i64 0, .bool false] 107))
    (hb2 : Below w1.heap.size w1 w2) (hz2 : w1.heap.size < w2.heap.size) (h3 : w3 = w2.alloc (.cells #[.int .i64 (mostC orders), .int .i64 (roomV room), .pointer (some ⟨w.heap.size, 0, none⟩), x3, .pointer (some ⟨w1.heap.size, 0, none⟩)] 72))
    (hb' : w3.heap.size ≤ b' ∧ b' < w4.heap.size) (hp : w4.heap[w2.heap.size]? = some (.cells #[.int .i64 (mostC orders), .int .i64 (roomV room), .pointer (some ⟨w.heap.size, 0, none⟩), .map (some b'), .pointer (some ⟨w1.heap.size, 0, none⟩)] 72 (0, 0)))
    (hm : Gd.Pu.Pa.Mx ptX Tryz.prog 3 w4 b' 999 (fun _ => none)) (hbt : Bt w1.heap.size (fun k => k = w1.heap.size) w4 w1.heap.size (clampT tries) (fun _ => 0) 999) (hk : Rg.Kept (fun i _ => i = w2.heap.size ∨ i = w1.heap.size) w3 w4) :
    MadeC w (newCh orders room tries) (.returned (.pointer (some ⟨w2.heap.size, 0, none⟩))) w4 := by
  have z1 : w1.heap.size = w.heap.size + 1 := by rw [h1]; simp
  have z3 : w3.heap.size = w2.heap.size + 1 := by rw [h3]; simp
  have hb1 : Below w.heap.size w w1 := by rw [h1]; exact (Below.refl _ _).alloc (Nat.le_refl _) _
  have hb3 : Below w2.heap.size w2 w3 := by rw [h3]; exact (Below.refl _ _).alloc (Nat.le_refl _) _
  have j0 : Jr w.heap.size w1 w.heap.size (.slice none 0 0) (roomV room) [] 0 false := by
    rw [h1]
    exact Jr.new w w.heap.size (Nat.le_refl _) (roomV room) (roomV_in room).1 (roomV_in room).2
  have j4 := (j0.on (bel_on' hb2 hb3)).kept hk (fun _ e => by omega) (fun k _ e => by simp [Value.ownBlock] at e)
  have s4 := hk.size
  refine ⟨fun x k => match x with
    | .inl 0 => k = w2.heap.size
    | .inl 1 => k = w.heap.size
    | .inl 2 => k = w1.heap.size
    | .inl 3 => k = b'
    | .inl _ => False
    | .inr _ => False, w2.heap.size, w.heap.size, .slice none 0 0, b', w1.heap.size, fun _ => none, rfl, ⟨⟨fun x k e => ?_, fun x y k e1 e2 => ?_, rfl, hp, j4, rfl, (fun k e => by simp [Value.ownBlock] at e), bt_low hbt (by omega), hm, rfl, (fun id l e => by cases e), fun _ _ => rfl⟩, newCh_good _ _ _, rfl⟩, ?_⟩
  · rcases x with (_ | _ | _ | _ | x) | x
    all_goals first | exact False.elim e | (have e : k = _ := e; omega)
  · rcases x with (_ | _ | _ | _ | x) | x
    all_goals rcases y with (_ | _ | _ | _ | y) | y
    all_goals first | rfl | exact False.elim e1 | exact False.elim e2 | (have e1 : k = _ := e1; have e2 : k = _ := e2; omega)
  · refine (bel_on' hb1 (bel_on' hb2 hb3)).trans (hk.bel ?_ (fun k _ e => ?_))
    · omega
    · omega
set_option maxHeartbeats 1000000 in
theorem cnew_any (orders room tries : Int) (w : World) :
    Calls Tryz.prog 29 #[.int .i64 orders, .int .i64 room, .int .i64 tries] w (MadeC w (newCh orders room tries)) := by
  have N := new_any room w
  have FX : Hid (∀ w1 w2, w1 = w.alloc (.cells #[.int .i64 (roomV room), .slice none 0 0, .int .i64 0, .bool false] 107) → Below w1.heap.size w1 w2 → Bt w1.heap.size (fun k => k = w1.heap.size) w2 w1.heap.size (clampT tries) (fun _ => 0) 0 → ∀ x3 w3, w3 = w2.alloc (.cells #[.int .i64 (mostC orders), .int .i64 (roomV room), .pointer (some ⟨w.heap.size, 0, none⟩), x3, .pointer (some ⟨w1.heap.size, 0, none⟩)] 72) → Calls Tryz.prog 55 #[.pointer (some ⟨w2.heap.size, 0, none⟩)] w3 fun e w' => (∃ x, e = .returned x) ∧ MadeC w (newCh orders room tries) (.returned (.pointer (some ⟨w2.heap.size, 0, none⟩))) w') := fun w1 w2 h1 h2 hbt x3 w3 h3 => by
    have hz := (hbt.1 w1.heap.size rfl).2
    have hb3 : Below w2.heap.size w2 w3 := by rw [h3]; exact (Below.refl _ _).alloc (Nat.le_refl _) _
    have hp3 : w3.heap[w2.heap.size]? = some (.cells #[.int .i64 (mostC orders), .int .i64 (roomV room), .pointer (some ⟨w.heap.size, 0, none⟩), x3, .pointer (some ⟨w1.heap.size, 0, none⟩)] 72 (0, 0)) := by rw [h3]; exact World.alloc_heap_new w2 _
    refine (cforget_any hp3 (bt_tight (hbt.on hb3)) (fun e => by omega)).mono ?_
    rintro e w4 ⟨g1, b', g2, g3, g4, g5, g6⟩
    exact ⟨g1, madec_of h1 h2 hz h3 g2 g3 g4 g5 g6⟩
  have BN := fun W => bnew_any tries W
  unfold mostC roomV at FX
  unfold roomV at N
  generalize newCh orders room tries = v0 at *
  generalize clampT tries = ct at *
  go_enter Tryz.func29, Tryz.ntmps29
  go_wp2_with (first
    | (go_at_call 53; refine N.mono ?_; clear N; rintro e w1 ⟨rfl, h1⟩; have HW1 := hide h1; clear h1)
    | (go_at_call 54; refine (BN _).mono ?_; clear BN; rintro e w2 ⟨pb, rfl, rfl, hbt, hb2⟩; have FY := FX.out _ w2 HW1.out hb2 hbt; clear hbt hb2 FX)
    | (go_at_call 55; refine (FY _ _ rfl).mono ?_; clear FY; rintro e w4 ⟨⟨y, rfl⟩, hm⟩; have HX := hide hm; clear hm))
  go_ret
  exact HX.out
end Go.Proofs.YtnffgamekhedkaaGreatDoor
/-
  A chief that is up, above a world w0, with answers named; the law's awake.
-/
namespace Go.Proofs.YtnffgamekhedkaaGreatDoor
open Go.ChangeShapes Go.WideShapes Go.ChangeAt Go.RowKit Go.Maps Sg Bl

theorem jr_low {B B' : Nat} {w : World} {p : Nat} {v : Value} {room : Int} {L : List ByteArray} {sure : Nat} {down : Bool} (h : Jr B w p v room L sure down) (hB : B' ≤ B) : Jr B' w p v room L sure down := ⟨h.1, Nat.le_trans hB h.2.1, own_low h.2.2.1 hB, h.2.2.2⟩
/-- The chief at p, above w0; its blocks are O's. -/
def Cu (w0 : World) (O : Pt → Nat → Prop) (w : World) (p : Nat) (v : Ch) : Prop := (∃ q r b bt loc, Up w0.heap.size O w p v q r b bt loc) ∧ Below w0.heap.size w0 w
/-- An answer, beside the chief. -/
def AnC (w : World) (O : Pt → Nat → Prop) (a : Option Addr) (c : Nat) (xs : List Mg) : Prop := (∃ B0, w.ownsRow B0 44 7 (.slice a xs.length c) xs.length (mgCells xs)) ∧ ∀ ad, a = some ad → ¬ Eo O ad.block
/-- The block k has the object o; it is none of the chief's. -/
def Abc (w : World) (O : Pt → Nat → Prop) (k : Nat) (o : Obj) : Prop := w.heap[k]? = some o ∧ ¬ Eo O k
/-- What a step leaves of the rest. -/
def Go_ (O : Pt → Nat → Prop) (w : World) (O' : Pt → Nat → Prop) (w' : World) : Prop := (∀ i, Eo O' i → growE (Eo O) w w' i) ∧ Rg.Kept (fun i _ => Eo O i) w w'
section
variable {w0 w w' : World} {O O' : Pt → Nat → Prop} {p : Nat} {v v' : Ch}
theorem Go_.of_below (hb : Below w.heap.size w w') : Go_ O w O w' := ⟨fun _ e => .inl e, Rg.Kept.of_below hb⟩
theorem Cu.on (k : Cu w0 O w p v) (hb : Below w.heap.size w w') : Cu w0 O w' p v := by
  obtain ⟨⟨q, r, b, bt, loc, h⟩, h2⟩ := k
  exact ⟨⟨q, r, b, bt, loc, h.on hb⟩, bel_on' h2 hb⟩
theorem Cu.good (k : Cu w0 O w p v) : GoodCh v := by
  obtain ⟨⟨q, r, b, bt, loc, h⟩, _⟩ := k
  exact h.g
theorem Cu.lt (k : Cu w0 O w p v) {i : Nat} (e : Eo O i) : w0.heap.size ≤ i ∧ i < w.heap.size := by
  obtain ⟨⟨q, r, b, bt, loc, h⟩, _⟩ := k
  obtain ⟨y, e⟩ := e
  exact h.k.bd y i e
theorem Cu.gl (hg : Gl w0) (k : Cu w0 O w p v) : ∀ u, Rg.Kept (fun i _ => Eo O i) w u → Gl u := fun _ h => hg.on (k.2.trans (h.bel (by obtain ⟨⟨q, r, b, bt, loc, h1⟩, _⟩ := k; exact h1.k.low) (fun i _ e => (k.lt e).1)))
theorem Abc.step {k : Nat} {o : Obj} (h : Abc w O k o) (g : Go_ O w O' w') : Abc w' O' k o :=
  ⟨g.2.block _ _ h.1 h.2, fun e => (g.1 k e).elim h.2 (fun e => by have := (Array.getElem?_eq_some_iff.1 h.1).1; omega)⟩
theorem Abc.on {k : Nat} {o : Obj} (h : Abc w O k o) (hb : Below w.heap.size w w') : Abc w' O k o := h.step (Go_.of_below hb)
theorem AnC.step {a : Option Addr} {c : Nat} {xs : List Mg} (h : AnC w O a c xs) (g : Go_ O w O' w') : AnC w' O' a c xs := by
  obtain ⟨⟨B0, h1⟩, h2⟩ := h
  refine ⟨⟨B0, own_keptR h1 g.2 (fun k _ e => by obtain ⟨x, e3, rfl⟩ := own_some e; exact h2 x e3)⟩, fun ad e e2 => ?_⟩
  rcases g.1 _ e2 with e3 | e3
  · exact h2 ad e e3
  · have := (h1.lt ad.block (by rw [e]; rfl)).2
    omega
theorem AnC.on {a : Option Addr} {c : Nat} {xs : List Mg} (h : AnC w O a c xs) (hb : Below w.heap.size w w') : AnC w' O a c xs := h.step (Go_.of_below hb)
theorem AnC.mgs {a : Option Addr} {c : Nat} {xs : List Mg} (h : AnC w O a c xs) : Mgs w a xs := by
  obtain ⟨⟨B0, h1⟩, _⟩ := h
  exact row_mgs h1
/-- Out of a step's word. -/
theorem SendR.cu {q b bt : Nat} {loc : Int → Option Nat} (k : Cu w0 O w p v) {v2 : Ch} {xs : List Mg} {e : Ending} (h : SendR w0.heap.size O w p v2 q b bt loc xs e w') : ∃ a c O', e = .returned (.slice a xs.length c) ∧ AnC w' O' a c xs ∧ Cu w0 O' w' p v2 ∧ Go_ O w O' w' := by
  obtain ⟨ra, rc, O1, r1, loc1, h1, h2, h3, h4, h5, h6, h7⟩ := h
  exact ⟨ra, rc, O1, h1, ⟨⟨_, h2⟩, h3⟩, ⟨⟨q, r1, b, bt, loc1, h4⟩, k.2.trans (h6.bel (by obtain ⟨⟨q, r, b, bt, loc, h1⟩, _⟩ := k; exact h1.k.low) (fun i _ e => (k.lt e).1))⟩, h5, h6⟩
theorem UStp.cu {q b bt : Nat} {loc : Int → Option Nat} (k : Cu w0 O w p v) {v2 : Ch} (h : UStp w0.heap.size O w p v2 q b bt loc w') : ∃ O', Cu w0 O' w' p v2 ∧ Go_ O w O' w' := by
  obtain ⟨O1, r1, loc1, h4, h5, h6, h7⟩ := h
  exact ⟨O1, ⟨⟨q, r1, b, bt, loc1, h4⟩, k.2.trans (h6.bel (by obtain ⟨⟨q, r, b, bt, loc, h1⟩, _⟩ := k; exact h1.k.low) (fun i _ e => (k.lt e).1))⟩, h5, h6⟩
theorem Cu.new (hb : Below w0.heap.size w0 w) (orders room tries : Int) :
    Calls Tryz.prog 29 #[.int .i64 orders, .int .i64 room, .int .i64 tries] w fun e w' => ∃ p O, e = .returned (.pointer (some ⟨p, 0, none⟩)) ∧ Cu w0 O w' p (newCh orders room tries) ∧ Below w.heap.size w w' ∧ ∀ i, Eo O i → w.heap.size ≤ i := by
  refine (cnew_any orders room tries w).mono ?_
  rintro e w' ⟨O, p, q, r, b, bt, loc, h1, h2, h3⟩
  have hB := hb.size
  have k2 : CkV w0.heap.size O w' p (newCh orders room tries) q r b bt loc ((newCh orders room tries).T.map lnC) :=
    ⟨fun x i e => ⟨Nat.le_trans hB (h2.k.bd x i e).1, (h2.k.bd x i e).2⟩, h2.k.dj, h2.k.op, h2.k.blk, jr_low h2.k.jr hB, h2.k.oq, h2.k.or, bt_low h2.k.bl hB, h2.k.mp, h2.k.ob, (fun id l e => by cases e), h2.k.no⟩
  exact ⟨p, O, h1, ⟨⟨q, r, b, bt, loc, k2, h2.g, h2.d⟩, bel_on' hb h3⟩, h3, fun i ⟨y, e⟩ => (h2.k.bd y i e).1⟩
theorem Cu.begin (hg : Gl w0) (k : Cu w0 O w p v) (o : Od) {sa : Option Addr} {sc : Nat} (hs : Sts w sa o.steps) (hsl : o.steps.length ≤ 9223372036854775807) (hw : (Lit.int .i64 o.id).wf = true) {n : Int} (hn : begE v o = n) (hv : begS v o = v') {xs : List Mg} (hx : begA v o = xs) :
    Calls Tryz.prog 19 #[.pointer (some ⟨p, 0, none⟩), .agg #[.int .i64 o.id, .int .i64 o.item, .int .i64 o.qty, .int .i64 o.client, .int .i64 o.price, .slice sa o.steps.length sc]] w fun e w' => ∃ a c O', e = .returned (.tuple #[.slice a xs.length c, .int .i64 n]) ∧ AnC w' O' a c xs ∧ Cu w0 O' w' p v' ∧ Go_ O w O' w' := by
  subst hn hv hx
  obtain ⟨⟨q, r, b, bt, loc, h⟩, _⟩ := id k
  refine (cbeg_any h (k.gl hg) o hs hsl hw).mono ?_
  rintro e w' ⟨x, h1, h2⟩
  obtain ⟨a, c, O', h3, h4, h5, h6⟩ := h2.cu k
  cases h3
  exact ⟨a, c, O', h1, h4, h5, h6⟩
theorem Cu.handle (hg : Gl w0) (k : Cu w0 O w p v) (m : Mg) (hw : (Lit.int .i64 m.id).wf = true) (hv : (hdSA v m).1 = v') {xs : List Mg} (hx : (hdSA v m).2 = xs) :
    Calls Tryz.prog 15 #[.pointer (some ⟨p, 0, none⟩), .agg #[.int .i64 m.k, .int .i64 m.fr, .int .i64 m.to, .int .i64 m.id, .int .i64 m.st, .int .i64 m.a, .int .i64 m.b]] w fun e w' => ∃ a c O', e = .returned (.slice a xs.length c) ∧ AnC w' O' a c xs ∧ Cu w0 O' w' p v' ∧ Go_ O w O' w' := by
  subst hv hx
  obtain ⟨⟨q, r, b, bt, loc, h⟩, _⟩ := _root_.id k
  exact (chandle_any h (k.gl hg) m hw).mono (fun _ _ h2 => h2.cu k)
theorem Cu.state (k : Cu w0 O w p v) {id : Int} (hw : (Lit.int .i64 id).wf = true) {n : Int} (hn : stC v id = n) :
    Calls Tryz.prog 23 #[.pointer (some ⟨p, 0, none⟩), .int .i64 id] w fun e w' => e = .returned (.int .i64 n) ∧ Below w.heap.size w w' := by
  subst hn
  obtain ⟨⟨q, r, b, bt, loc, h⟩, _⟩ := _root_.id k
  exact h.k.state hw
end
end Go.Proofs.YtnffgamekhedkaaGreatDoor
/-
  A chief that there isn't.
-/
namespace Go.Proofs.YtnffgamekhedkaaGreatDoor
open Go.ChangeShapes Go.WideShapes Go.ChangeAt Go.RowKit Go.Maps Sg Bl

theorem cbegin_nil (x0 x1 x2 x3 x4 x5 : Value) (w : World) : Calls Tryz.prog 19 #[.pointer none, .agg #[x0, x1, x2, x3, x4, x5]] w fun e w' => e = .returned (.tuple #[.slice none 0 0, .int .i64 1]) ∧ Below w.heap.size w w' := by
  have HB : Hid (Below w.heap.size w (w.alloc (.cells #[x0, x1, x2, x3, x4, x5] 24))) := (Below.refl _ _).alloc (Nat.le_refl _) _
  go_enter Tryz.func19, Tryz.ntmps19
  go_wp2
  go_ret2
  exact ⟨rfl, HB.out⟩
theorem cstate_nil (x : Value) (w : World) : Calls Tryz.prog 23 #[.pointer none, x] w fun e w' => e = .returned (.int .i64 0) ∧ w = w' := by
  go_enter Tryz.func23, Tryz.ntmps23
  go_wp2
  go_ret
  exact ⟨rfl, rfl⟩
theorem chandle_nil (x0 x1 x2 x3 x4 x5 x6 : Value) (w : World) : Calls Tryz.prog 15 #[.pointer none, .agg #[x0, x1, x2, x3, x4, x5, x6]] w fun e w' => e = .returned (.slice none 0 0) ∧ Below w.heap.size w w' := by
  have hb0 : Below w.heap.size w (w.alloc (.cells #[x0, x1, x2, x3, x4, x5, x6] 44)) := (Below.refl _ _).alloc (Nat.le_refl _) _
  have HB := hide hb0
  clear hb0
  go_enter Tryz.func15, Tryz.ntmps15
  go_wp2
  go_ret
  exact ⟨rfl, HB.out⟩
theorem results_cct {P : Program} {fn : Func} {p q r : Tmp} {ty ty2 : TypeId} (h : fn.results = #[.cell p ty, .cell q ty2, .tmp r]) (tmps : Array Value) (w : World) (g g2 : Nat) (t t2 : TypeId) (cs cs2 : Array Value) (fr fr2 : Nat × Nat) (d d2 : TypeDesc)
    (hp : tmps.getD p undef = .pointer (some ⟨g, 0, none⟩)) (hg : w.heap[g]? = some (.cells cs t fr)) (hu : P.underlying ty = some d) (hd : (match d with | .struct _ | .array _ _ => true | _ => false) = true) (hi : (P.info? ty).map (·.size) = some cs.size)
    (hp2 : tmps.getD q undef = .pointer (some ⟨g2, 0, none⟩)) (hg2 : w.heap[g2]? = some (.cells cs2 t2 fr2)) (hu2 : P.underlying ty2 = some d2) (hd2 : (match d2 with | .struct _ | .array _ _ => true | _ => false) = true) (hi2 : (P.info? ty2).map (·.size) = some cs2.size) :
    (results fn tmps).run P w = .ok (.tuple #[.agg cs, .agg cs2, tmps.getD r undef]) w := by
  have hp' : tmps[p]?.getD undef = .pointer (some ⟨g, 0, none⟩) := by simpa using hp
  have hq' : tmps[q]?.getD undef = .pointer (some ⟨g2, 0, none⟩) := by simpa using hp2
  simp [results, h, hp', hq', asAddr, run_loadVar_row w g t ty cs fr d hg hu hd hi, run_loadVar_row w g2 t2 ty2 cs2 fr2 d2 hg2 hu2 hd2 hi2]
def zO : Array Value := #[.int .i64 0, .int .i64 0, .int .i64 0, .int .i64 0, .int .i64 0, .slice none 0 0]
def zF : Array Value := #[.slice none 0 0, .slice none 0 0, .bool false, .bool false, .bool false, .bool false, .bool false, .bool false, .bool false, .bool false, .bool false]
theorem cfacts_nil (x : Value) (w : World) : Calls Tryz.prog 27 #[.pointer none, x] w fun e w' => e = .returned (.tuple #[.agg zO, .agg zF, .bool false]) ∧ Below w.heap.size w w' := by
  have h1 := World.alloc_heap_new (w.alloc (.cells zO 24)) (.cells zF 62)
  have h0 : ((w.alloc (.cells zO 24)).alloc (.cells zF 62)).heap[w.heap.size]? = some (.cells zO 24 (0, 0)) := (Below.heap_alloc _ _ _ (by simp)).trans (World.alloc_heap_new w _)
  rw [World.size_alloc] at h1
  have HB : Hid (Below w.heap.size w ((w.alloc (.cells zO 24)).alloc (.cells zF 62))) := ((Below.refl _ _).alloc (Nat.le_refl _) _).alloc (by simp) _
  have H0 := hide h0
  have H1 := hide h1
  clear h0 h1
  go_enter Tryz.func27, Tryz.ntmps27
  go_wp2
  refine bodyPost_ret (results_cct Tryz.results27 _ _ _ _ _ _ _ _ _ _ _ _ rfl H0.out Tryz.underlying24 rfl (by kernel_rfl) rfl H1.out Tryz.underlying62 rfl (by kernel_rfl)) rfl ?_
  exact ⟨rfl, HB.out⟩
end Go.Proofs.YtnffgamekhedkaaGreatDoor
/-
  A chief that is up or down, to be read: how an order stands, what is known of it, also where there is none.
-/
namespace Go.Proofs.YtnffgamekhedkaaGreatDoor
open Go.ChangeShapes Go.WideShapes Go.ChangeAt Go.RowKit Go.Maps Sg Bl

section
variable {B : Nat} {O : Pt → Nat → Prop} {w : World} {p : Nat} {v : Ch} {q : Nat} {r : Value} {b bt : Nat} {loc : Int → Option Nat} {Lq : List ByteArray}
theorem CkV.facts_no (k : CkV B O w p v q r b bt loc Lq) {id : Int} (hw : (Lit.int .i64 id).wf = true) (hl : v.L id = none) :
    Calls Tryz.prog 27 #[.pointer (some ⟨p, 0, none⟩), .int .i64 id] w fun e w' => e = .returned (.tuple #[.agg zO, .agg zF, .bool false]) ∧ Below w.heap.size w w' := by
  have h1 := World.alloc_heap_new (w.alloc (.cells zO 24)) (.cells zF 62)
  have h0 : ((w.alloc (.cells zO 24)).alloc (.cells zF 62)).heap[w.heap.size]? = some (.cells zO 24 (0, 0)) := (Below.heap_alloc _ _ _ (by simp)).trans (World.alloc_heap_new w _)
  rw [World.size_alloc] at h1
  have hB : Below w.heap.size w ((w.alloc (.cells zO 24)).alloc (.cells zF 62)) := ((Below.refl _ _).alloc (Nat.le_refl _) _).alloc (by simp) _
  have kW := k.on hB
  have hL := kW.look hw
  obtain ⟨-, -, -, c3, -⟩ := kW.cell3
  rw [k.no id hl, show ptV none = Value.pointer none from rfl] at hL
  have HB := hide hB
  have H0 := hide h0
  have H1 := hide h1
  clear h0 h1 kW k hl hB
  unfold zO zF at hL c3
  go_enter Tryz.func27, Tryz.ntmps27
  go_wp2
  refine bodyPost_ret (results_cct Tryz.results27 _ _ _ _ _ _ _ _ _ _ _ _ rfl H0.out Tryz.underlying24 rfl (by kernel_rfl) rfl H1.out Tryz.underlying62 rfl (by kernel_rfl)) rfl ?_
  exact ⟨rfl, HB.out⟩
end
/-- The chief at p, up or down, above w0; its blocks are O's. -/
def Cx (w0 : World) (O : Pt → Nat → Prop) (w : World) (p : Nat) (v : Ch) : Prop := (∃ q r b bt loc Lq, CkV w0.heap.size O w p v q r b bt loc Lq) ∧ GoodCh v ∧ Below w0.heap.size w0 w
/-- What is known of an order: facts in rows of their own. -/
def FactR (l : Lk) (is : Bool) (w : World) (e : Ending) (w' : World) : Prop := ∃ sa sc da dc ua uc, e = .returned (.tuple #[.agg #[.int .i64 l.o.id, .int .i64 l.o.item, .int .i64 l.o.qty, .int .i64 l.o.client, .int .i64 l.o.price, .slice sa l.o.steps.length sc], .agg #[.slice da l.f.dn.length dc, .slice ua l.f.un.length uc, .bool l.f.asked, .bool l.f.yes, .bool l.f.turned, .bool l.f.k0, .bool l.f.k1, .bool l.f.ship, .bool l.f.d0, .bool l.f.d1, .bool l.f.acc], .bool is]) ∧ Sts w' sa l.o.steps ∧ FaIn w' l.f da dc ua uc ∧ Below w.heap.size w w'
section
variable {w0 w w' : World} {O : Pt → Nat → Prop} {p : Nat} {v : Ch}
theorem Cu.cx (k : Cu w0 O w p v) : Cx w0 O w p v := by
  obtain ⟨⟨q, r, b, bt, loc, h⟩, h2⟩ := k
  exact ⟨⟨q, r, b, bt, loc, _, h.k⟩, h.g, h2⟩
theorem Cx.on (k : Cx w0 O w p v) (hb : Below w.heap.size w w') : Cx w0 O w' p v := by
  obtain ⟨⟨q, r, b, bt, loc, Lq, h1⟩, h3, h5⟩ := k
  exact ⟨⟨q, r, b, bt, loc, Lq, h1.on hb⟩, h3, bel_on' h5 hb⟩
theorem Cx.lt (k : Cx w0 O w p v) {i : Nat} (e : Eo O i) : w0.heap.size ≤ i ∧ i < w.heap.size := by
  obtain ⟨⟨q, r, b, bt, loc, Lq, h1⟩, h3, h5⟩ := k
  obtain ⟨y, e⟩ := e
  exact h1.bd y i e
theorem Cx.state (k : Cx w0 O w p v) {id : Int} (hw : (Lit.int .i64 id).wf = true) :
    Calls Tryz.prog 23 #[.pointer (some ⟨p, 0, none⟩), .int .i64 id] w fun e w' => e = .returned (.int .i64 (stC v id)) ∧ Below w.heap.size w w' := by
  obtain ⟨⟨q, r, b, bt, loc, Lq, h1⟩, h3, h5⟩ := k
  exact h1.state hw
theorem Cx.facts (k : Cx w0 O w p v) {id : Int} (hw : (Lit.int .i64 id).wf = true) :
    Calls Tryz.prog 27 #[.pointer (some ⟨p, 0, none⟩), .int .i64 id] w (FactR (lkD v id) (v.L id).isSome w) := by
  obtain ⟨⟨q, r, b, bt, loc, Lq, h1⟩, h3, h5⟩ := k
  unfold lkD
  cases hl : v.L id with
  | none =>
    refine (h1.facts_no hw hl).mono ?_
    rintro e w' ⟨e1, e2⟩
    exact ⟨none, 0, none, 0, none, 0, e1, .inl rfl, ⟨.inl rfl, .inl rfl, Nat.le_refl _, Nat.le_refl _, (by decide), (by decide)⟩, e2⟩
  | some l =>
    refine (h1.facts hw hl (h3.gm _ _ hl)).mono ?_
    rintro e w' ⟨⟨sa, sc, da, dc, ua, uc, e1, e2, e3⟩, e4⟩
    exact ⟨sa, sc, da, dc, ua, uc, e1, e2, e3, e4⟩
/-- Of no more steps than three. -/
theorem Cx.three (k : Cx w0 O w p v) (id : Int) : (lkD v id).o.steps.length ≤ 3 ∧ (lkD v id).f.dn.length ≤ 3 ∧ (lkD v id).f.un.length ≤ 3 := by
  unfold lkD
  cases hl : v.L id with
  | none => exact ⟨by decide, by decide, by decide⟩
  | some l =>
    have h := k.2.1.gm _ _ hl
    have e1 := h.dl
    have e2 := h.ul
    have e3 := h.st
    refine ⟨h.st, ?_, ?_⟩
    · show l.f.dn.length ≤ 3; omega
    · show l.f.un.length ≤ 3; omega
end
end Go.Proofs.YtnffgamekhedkaaGreatDoor
/-
  A desk in memory: its block, its chief, the map of who is rejected; contracts of Chief, isRejected, Status.
-/
namespace Go.Proofs.YtnffgamekhedkaaGreatDoor
open Go.ChangeShapes Go.WideShapes Go.ChangeAt Go.RowKit Go.Maps Sg Bl

/-! Elements of nothing. -/
def unElem (v : Value) : Option (DataW Unit × List MemPlace) :=
  match v with
  | .agg cs => if cs.size = 0 then some (.agg [], []) else none
  | _ => none
theorem unElem_inv {v : Value} {y : DataW Unit × List MemPlace} (h : unElem v = some y) : ∃ c : Unit, v = (fun _ : Unit => Value.agg #[]) c ∧ y = ((fun _ : Unit => DataW.agg []) c, []) := by
  cases v <;> simp only [unElem, reduceCtorEq] at h
  rename_i cs
  split at h
  · rename_i e
    refine ⟨(), ?_, by simpa using h.symm⟩
    rw [Array.eq_empty_of_size_eq_zero e]
  · cases h
def unX : Gd.Pu.Pa.ElemOf Unit := ⟨fun _ => .agg #[], fun _ => .agg [], unElem, fun _ => rfl, fun _ _ h => unElem_inv h, fun _ _ _ => rfl, fun _ _ _ => rfl⟩
def inR (R : Int → Bool) : Int → Option Unit := fun x => if R x = true then some () else none
theorem inR_some (R : Int → Bool) (x : Int) : (inR R x).isSome = R x := by unfold inR; cases R x <;> rfl
theorem inR_up (R : Int → Bool) (i : Int) : Gd.updO (inR R) i (some ()) = inR (upR R i true) := by
  funext x
  by_cases h : x = i
  · subst h; rw [Gd.updO_same]; unfold inR; rw [upR_same, if_pos rfl]
  · rw [Gd.updO_other _ _ h]; unfold inR; rw [upR_other _ _ h]
theorem inR_dn (R : Int → Bool) (i : Int) : Gd.updO (inR R) i none = inR (upR R i false) := by
  funext x
  by_cases h : x = i
  · subst h; rw [Gd.updO_same]; unfold inR; rw [upR_same, if_neg (by decide)]
  · rw [Gd.updO_other _ _ h]; unfold inR; rw [upR_other _ _ h]
theorem zeroU (w : World) : (zeroValue 55).run Tryz.prog w = .ok (unX.val ()) w := by kernel_rfl

/-- The desk at d, its chief at p, its map at m, beside the chief's blocks. -/
structure DkS (w0 : World) (O : Pt → Nat → Prop) (w : World) (d p m n : Nat) (R : Int → Bool) : Prop where
  blk : w.heap[d]? = some (.cells #[.pointer (some ⟨p, 0, none⟩), .map (some m)] 53 (0, 0))
  mp : Gd.Pu.Pa.Mx unX Tryz.prog 3 w m n (inR R)
  nd : ¬ Eo O d
  nm : ¬ Eo O m
  ld : w0.heap.size ≤ d
  lm : w0.heap.size ≤ m
  id : IdR R
/-- .. and the chief. -/
def Dk (w0 : World) (O : Pt → Nat → Prop) (w : World) (d p m n : Nat) (v : Ch) (R : Int → Bool) : Prop := Cx w0 O w p v ∧ DkS w0 O w d p m n R
section
variable {w0 w w' : World} {O O' : Pt → Nat → Prop} {d p m n : Nat} {v v' : Ch} {R : Int → Bool}
theorem DkS.ne (k : DkS w0 O w d p m n R) : m ≠ d := k.mp.ne k.blk
theorem DkS.lt (k : DkS w0 O w d p m n R) : d < w.heap.size ∧ m < w.heap.size := ⟨(Array.getElem?_eq_some_iff.1 k.blk).1, k.mp.lt⟩
theorem DkS.on (k : DkS w0 O w d p m n R) (hb : Below w.heap.size w w') : DkS w0 O w' d p m n R := ⟨Sg.keepB k.blk hb, k.mp.on hb, k.nd, k.nm, k.ld, k.lm, k.id⟩
/-- The chief's step lets it be. -/
theorem DkS.step (k : DkS w0 O w d p m n R) (g : Go_ O w O' w') : DkS w0 O' w' d p m n R := by
  have h1 := k.lt
  refine ⟨g.2.block _ _ k.blk k.nd, k.mp.kept g.2 (fun _ => k.nm), fun e => ?_, fun e => ?_, k.ld, k.lm, k.id⟩
  · exact (g.1 _ e).elim k.nd (fun e => by omega)
  · exact (g.1 _ e).elim k.nm (fun e => by omega)
theorem Dk.on (k : Dk w0 O w d p m n v R) (hb : Below w.heap.size w w') : Dk w0 O w' d p m n v R := ⟨k.1.on hb, k.2.on hb⟩
theorem DkS.c0 (k : DkS w0 O w d p m n R) : w.cell? ⟨d, 0, none⟩ = some (.pointer (some ⟨p, 0, none⟩)) ∧ w.cell? ⟨d, 1, none⟩ = some (.map (some m)) := by
  constructor <;> (rw [cell_of k.blk]; rfl)
theorem DkS.look (k : DkS w0 O w d p m n R) {id : Int} (hw : (Lit.int .i64 id).wf = true) : (Instr.lookup 51 (.map (some m)) (.int .i64 id) true).run Tryz.prog w = .ok (.tuple #[.agg #[], .bool (R id)]) w := by
  have h := k.mp.look_ok Tryz.underlying3 Tryz.underlying51 (zeroU w) hw
  rw [inR_some] at h
  exact h
theorem dchief_any (k : DkS w0 O w d p m n R) : Calls Tryz.prog 12 #[.pointer (some ⟨d, 0, none⟩)] w fun e w' => e = .returned (.pointer (some ⟨p, 0, none⟩)) ∧ w = w' := by
  obtain ⟨c0, -⟩ := k.c0
  clear k
  go_enter Tryz.func12, Tryz.ntmps12
  go_wp2
  go_ret
  exact ⟨rfl, rfl⟩
theorem drej_any (k : DkS w0 O w d p m n R) {id : Int} (hw : (Lit.int .i64 id).wf = true) : Calls Tryz.prog 24 #[.pointer (some ⟨d, 0, none⟩), .int .i64 id] w fun e w' => e = .returned (.bool (R id)) ∧ Below w.heap.size w w' := by
  obtain ⟨-, c1⟩ := k.c0
  have hL := k.look hw
  have HB : Hid (Below w.heap.size w (w.alloc (.cells #[] 55))) := (Below.refl _ _).alloc (Nat.le_refl _) _
  clear k hw
  go_enter Tryz.func24, Tryz.ntmps24
  go_wp2
  go_ret
  exact ⟨rfl, HB.out⟩
theorem dstatus_any (k : Dk w0 O w d p m n v R) {id : Int} (hw : (Lit.int .i64 id).wf = true) : Calls Tryz.prog 9 #[.pointer (some ⟨d, 0, none⟩), .int .i64 id] w fun e w' => e = .returned (.int .i64 (stD v R id)) ∧ Below w.heap.size w w' := by
  have C0 := dchief_any k.2
  have S0 := k.1.state hw
  have J0 : Hid (∀ u, Below w.heap.size w u → Calls Tryz.prog 24 #[.pointer (some ⟨d, 0, none⟩), .int .i64 id] u fun e w' => e = .returned (.bool (R id)) ∧ Below w.heap.size w w') := fun u hu => (drej_any (k.2.on hu) hw).mono (fun _ _ ⟨e1, e2⟩ => ⟨e1, bel_on' hu e2⟩)
  unfold stD
  generalize stC v id = s at *
  clear k hw
  by_cases h0 : s = 0
  · subst h0
    cases hr : R id
    all_goals rw [hr] at J0
    all_goals simp only [true_and, Bool.false_eq_true, and_false, if_false, if_true]
    all_goals go_enter Tryz.func9, Tryz.ntmps9
    all_goals go_wp2_with (first
      | (go_at_call 12; refine C0.mono ?_; rintro e w1 ⟨rfl, rfl⟩)
      | (go_at_call 23; refine S0.mono ?_; rintro e w2 ⟨rfl, hb⟩; have J2 := J0.out _ hb; clear J0 hb)
      | (go_at_call 24; refine J2.mono ?_; clear J2; rintro e w3 ⟨rfl, hb⟩; have HB := hide hb; clear hb))
    all_goals go_ret
    all_goals exact ⟨rfl, HB.out⟩
  · rw [if_neg (fun e => h0 e.1)]
    have hb0 : (s == 0) = false := by simpa using h0
    clear J0
    go_enter Tryz.func9, Tryz.ntmps9
    go_wp2_with (first
      | (go_at_call 12; refine C0.mono ?_; rintro e w1 ⟨rfl, rfl⟩)
      | (go_at_call 23; refine S0.mono ?_; rintro e w2 ⟨rfl, hb⟩; have HB := hide hb; clear hb))
    go_ret
    exact ⟨rfl, HB.out⟩
end
end Go.Proofs.YtnffgamekhedkaaGreatDoor
/-
  Contracts of the desk's New and Submit.
-/
namespace Go.Proofs.YtnffgamekhedkaaGreatDoor
open Go.ChangeShapes Go.WideShapes Go.ChangeAt Go.RowKit Go.Maps Sg Bl

section
variable {α : Type} {X : Gd.Pu.Pa.ElemOf α} {P : Program} {k t e : TypeId} {w w' : World} {b n : Nat} {r : Int → Option α}
/-- delete(m, id) -/
theorem mx_del (h : Gd.Pu.Pa.Mx X P k w b n r) (hk : P.underlying k = some (.int .i64)) (ht : P.underlying t = some (.map k e)) {id : Int} (hw : (Lit.int .i64 id).wf = true) :
    ∃ w1, (∀ ty, (Builtin.delete_ #[t, k] ty #[.map (some b), .int .i64 id]).run P w = .ok (.tuple #[]) w1) ∧ Gd.Pu.Pa.Mx X P k w1 b n (Gd.updO r id none) ∧ Rg.Kept (fun i _ => i = b) w w1 := by
  obtain ⟨D, hD, f⟩ := h
  obtain ⟨w1, hrun, o1, t1⟩ := hD.drop (int_keyed hk) ht (keyOf_int_mk hk hw) 0
  exact ⟨w1, fun ty => hrun, ⟨_, o1, f.del id⟩, Rg.Kept.grown t1.grown (fun i _ e => (by cases e; rfl))⟩
end
/-- What Submit leaves of the rest. -/
def GoD (O : Pt → Nat → Prop) (m : Nat) (w : World) (O' : Pt → Nat → Prop) (w' : World) : Prop := (∀ i, Eo O' i → growE (Eo O) w w' i) ∧ Rg.Kept (fun i _ => Eo O i ∨ i = m) w w'
section
variable {w0 w w1 w2 w' : World} {O O' : Pt → Nat → Prop} {d p m n : Nat} {v v' : Ch} {R R' : Int → Bool}
theorem GoD.of_go (g : Go_ O w O' w') (m : Nat) : GoD O m w O' w' := ⟨g.1, g.2.mono (fun _ _ e => .inl e)⟩
theorem Cu.other {F : Nat → Obj → Prop} (k : Cu w0 O w p v) (hk : Rg.Kept F w w') (hF : ∀ i o, Eo O i → ¬ F i o) (hl : ∀ i o, F i o → w0.heap.size ≤ i) : Cu w0 O w' p v := by
  obtain ⟨⟨q, r, b, bt, loc, h⟩, h2⟩ := k
  exact ⟨⟨q, r, b, bt, loc, h.k.kept hk (fun x k o e => hF k o ⟨x, e⟩), h.g, h.d⟩, h2.trans (hk.bel h2.size (fun i o e => hl i o e))⟩
/-- The map is turned. -/
theorem DkS.turn (k : DkS w0 O w d p m n R) {n' : Nat} (hk : Rg.Kept (fun i _ => i = m) w w') (hm : Gd.Pu.Pa.Mx unX Tryz.prog 3 w' m n' (inR R')) (hi : IdR R') : DkS w0 O w' d p m n' R' :=
  ⟨hk.block _ _ k.blk (fun e => k.ne e.symm), hm, k.nd, k.nm, k.ld, k.lm, hi⟩
theorem AnC.turn {a : Option Addr} {c : Nat} {xs : List Mg} (h : AnC w O a c xs) (k : DkS w0 O w d p m n R) (hk : Rg.Kept (fun i _ => i = m) w w') : AnC w' O a c xs := by
  obtain ⟨⟨B0, h1⟩, h2⟩ := h
  refine ⟨⟨B0, row_stays h1 (fun j cs _ hc => (hk.block _ _ hc (fun e => ?_)).trans hc.symm)⟩, h2⟩
  subst e
  exact k.mp.ne hc rfl
theorem GoD.turn (g : Go_ O w O' w1) (hk : Rg.Kept (fun i _ => i = m) w1 w') : GoD O m w O' w' :=
  ⟨fun i e => (g.1 i e).elim .inl (fun e => .inr ⟨e.1, Nat.lt_of_lt_of_le e.2 hk.size⟩), ⟨hk.os.trans g.2.os, hk.tape.trans g.2.tape, hk.output.trans g.2.output, Nat.le_trans g.2.size hk.size, fun _ _ h hn => hk.block _ _ (g.2.block _ _ h (fun e => hn (.inl e))) (fun e => hn (.inr e))⟩⟩
set_option maxHeartbeats 1000000 in
theorem dnew_any (hb : Below w0.heap.size w0 w) (x y z : Int) :
    Calls Tryz.prog 14 #[.int .i64 x, .int .i64 y, .int .i64 z] w fun e w' => ∃ d p m O, e = .returned (.pointer (some ⟨d, 0, none⟩)) ∧ Cu w0 O w' p (newCh x y z) ∧ DkS w0 O w' d p m 0 (fun _ => false) ∧ Below w.heap.size w w' ∧ (∀ i, Eo O i → w.heap.size ≤ i) ∧ w.heap.size ≤ d ∧ w.heap.size ≤ m := by
  have C0 := Cu.new hb x y z
  have hB := hide hb
  have hmm := @run_makeMap Tryz.prog
  clear hb
  go_enter Tryz.func14, Tryz.ntmps14
  go_wp2_with (go_at_call 29; refine C0.mono ?_; clear C0; rintro e w1 ⟨p, O, rfl, hk, hb1, hO⟩; have HK := hide hk; have HB1 := hide hb1; have HO := hide hO; clear hk hb1 hO)
  go_ret
  have h1 : Below w1.heap.size w1 ((w1.alloc (.map #[] 0)).alloc (.cells #[.pointer (some ⟨p, 0, none⟩), .map (some w1.heap.size)] 53)) := ((Below.refl _ _).alloc (Nat.le_refl _) _).alloc (by simp) _
  have hs := HB1.out.size
  have hs0 := hB.out.size
  have e2 := World.alloc_heap_new (w1.alloc (.map #[] 0)) (.cells #[.pointer (some ⟨p, 0, none⟩), .map (some w1.heap.size)] 53)
  have e3 : (w1.alloc (.map #[] 0)).heap.size = w1.heap.size + 1 := by simp
  rw [e3] at e2
  refine ⟨w1.heap.size + 1, p, w1.heap.size, O, by simp, HK.out.on h1, ⟨e2, ?_, ?_, ?_, by omega, by omega, IdR.none⟩, bel_on' HB1.out h1, HO.out, by omega, by omega⟩
  · exact (Gd.Pu.Pa.Mx.new unX Tryz.prog 3 w1).on ((Below.refl _ _).alloc (Nat.le_refl _) _)
  · exact fun e => by have := (HK.out.lt e).2; omega
  · exact fun e => by have := (HK.out.lt e).2; omega
theorem drejects_any (e : Int) (w : World) : Calls Tryz.prog 20 #[.int .i64 e] w fun r w' => r = .returned (.bool (decide (e ≠ 10) && decide (e ≠ 8))) ∧ w = w' := by
  by_cases h1 : e = 10
  · subst h1
    go_enter Tryz.func20, Tryz.ntmps20
    go_wp2
    go_ret
    exact ⟨rfl, rfl⟩
  · by_cases h2 : e = 8
    · subst h2
      go_enter Tryz.func20, Tryz.ntmps20
      go_wp2
      go_ret
      exact ⟨rfl, rfl⟩
    · have q1 : (e != 10) = true := by simpa using h1
      have q2 : (e != 8) = true := by simpa using h2
      have HE : Hid ((decide (e ≠ 10) && decide (e ≠ 8)) = true) := by show _ = _; simp [h1, h2]
      go_enter Tryz.func20, Tryz.ntmps20
      go_wp2
      go_ret
      rw [HE.out]
      exact ⟨rfl, rfl⟩
theorem disid_any (e : Int) (w : World) : Calls Tryz.prog 21 #[.int .i64 e] w fun r w' => r = .returned (.bool (decide (1 ≤ e ∧ e ≤ 999))) ∧ w = w' := by
  by_cases h1 : 1 ≤ e
  · by_cases h2 : e ≤ 999
    · rw [decide_eq_true (show 1 ≤ e ∧ e ≤ 999 from ⟨h1, h2⟩)]
      go_enter Tryz.func21, Tryz.ntmps21
      go_wp2
      go_ret
      exact ⟨rfl, rfl⟩
    · rw [decide_eq_false (show ¬ (1 ≤ e ∧ e ≤ 999) from fun h => h2 h.2)]
      go_enter Tryz.func21, Tryz.ntmps21
      go_wp2
      go_ret
      exact ⟨rfl, rfl⟩
  · rw [decide_eq_false (show ¬ (1 ≤ e ∧ e ≤ 999) from fun h => h1 h.1)]
    go_enter Tryz.func21, Tryz.ntmps21
    go_wp2
    go_ret
    exact ⟨rfl, rfl⟩
/-- What Submit leaves. -/
def SubR (w0 : World) (O : Pt → Nat → Prop) (w : World) (d p m n : Nat) (v : Ch) (R : Int → Bool) (o : Od) (e : Ending) (w' : World) : Prop :=
  ∃ a c O', e = .returned (.tuple #[.slice a (begA v o).length c, .int .i64 (begE v o)]) ∧ AnC w' O' a c (begA v o) ∧ Cu w0 O' w' p (begS v o) ∧ DkS w0 O' w' d p m (n + 1) (subR R (begE v o) o.id) ∧ GoD O m w O' w'
/-- Behind Begin. -/
def MidD (w0 : World) (O : Pt → Nat → Prop) (w : World) (d p m n : Nat) (v : Ch) (R : Int → Bool) (o : Od) (a : Option Addr) (c : Nat) (w1 : World) : Prop :=
  ∃ O', AnC w1 O' a c (begA v o) ∧ Cu w0 O' w1 p (begS v o) ∧ DkS w0 O' w1 d p m n R ∧ Go_ O w O' w1
theorem MidD.on {o : Od} {a : Option Addr} {c : Nat} (h : MidD w0 O w d p m n v R o a c w1) (hb : Below w1.heap.size w1 w2) : MidD w0 O w d p m n v R o a c w2 := by
  obtain ⟨O', h1, h2, h3, h4⟩ := h
  exact ⟨O', h1.on hb, h2.on hb, h3.on hb, fun i e => (h4.1 i e).elim .inl (fun e => .inr ⟨e.1, Nat.lt_of_lt_of_le e.2 hb.size⟩), h4.2.trans (Rg.Kept.of_below hb)⟩
theorem MidD.end_ {o : Od} {a : Option Addr} {c : Nat} (h : MidD w0 O w d p m n v R o a c w1) {n' : Nat} (hR : subR R (begE v o) o.id = R') (hk : Rg.Kept (fun i _ => i = m) w1 w2) (hx : Gd.Pu.Pa.Mx unX Tryz.prog 3 w2 m n' (inR R')) (hn : n' ≤ n + 1) :
    SubR w0 O w d p m n v R o (.returned (.tuple #[.slice a (begA v o).length c, .int .i64 (begE v o)])) w2 := by
  subst hR
  obtain ⟨O', h1, h2, h3, h4⟩ := h
  exact ⟨a, c, O', rfl, h1.turn h3 hk, h2.other hk (fun i _ e e2 => h3.nm (e2 ▸ e)) (fun i _ e => e ▸ h3.lm), h3.turn hk (hx.mono hn) (h3.id.sub _ _), GoD.turn h4 hk⟩
theorem MidD.no {o : Od} {a : Option Addr} {c : Nat} (h : MidD w0 O w d p m n v R o a c w1) (hR : subR R (begE v o) o.id = R) : SubR w0 O w d p m n v R o (.returned (.tuple #[.slice a (begA v o).length c, .int .i64 (begE v o)])) w1 := by
  obtain ⟨O', -, -, h3, -⟩ := id h
  exact h.end_ hR (Rg.Kept.refl _ _) h3.mp (Nat.le_succ n)
theorem MidD.del {o : Od} {a : Option Addr} {c : Nat} (h : MidD w0 O w d p m n v R o a c w1) (hw : (Lit.int .i64 o.id).wf = true) (hR : subR R (begE v o) o.id = upR R o.id false) :
    ∃ w2, (∀ ty, (Builtin.delete_ #[51, 3] ty #[.map (some m), .int .i64 o.id]).run Tryz.prog w1.drew = .ok (.tuple #[]) w2) ∧ SubR w0 O w d p m n v R o (.returned (.tuple #[.slice a (begA v o).length c, .int .i64 (begE v o)])) w2 := by
  have h' := h.on (Below.refl _ _).drew
  obtain ⟨O', -, -, h3, -⟩ := id h'
  obtain ⟨w2, r1, r2, r3⟩ := mx_del h3.mp Tryz.underlying3 Tryz.underlying51 hw
  rw [inR_dn] at r2
  exact ⟨w2, r1, h'.end_ hR r3 r2 (Nat.le_succ n)⟩
theorem MidD.put {o : Od} {a : Option Addr} {c : Nat} (h : MidD w0 O w d p m n v R o a c w1) (hn : n < 1000000) (hw : (Lit.int .i64 o.id).wf = true) (hR : subR R (begE v o) o.id = upR R o.id true) :
    ∃ w2, (Instr.mapUpdate 51 (.map (some m)) (.int .i64 o.id) (.agg #[])).run Tryz.prog w1.drew = .ok () w2 ∧ SubR w0 O w d p m n v R o (.returned (.tuple #[.slice a (begA v o).length c, .int .i64 (begE v o)])) w2 := by
  have h' := h.on (Below.refl _ _).drew
  obtain ⟨O', -, -, h3, -⟩ := id h'
  obtain ⟨w2, r1, r2, r3⟩ := h3.mp.put Tryz.underlying3 Tryz.underlying51 hw hn ()
  rw [inR_up] at r2
  exact ⟨w2, r1, h'.end_ hR r3 r2 (Nat.le_refl _)⟩
set_option maxRecDepth 100000 in
set_option maxHeartbeats 4000000 in
theorem dsub_any (hg : Gl w0) (c : Cu w0 O w p v) (k : DkS w0 O w d p m n R) (hn : n < 1000000) (o : Od) {sa : Option Addr} {sc : Nat} (hs : Sts w sa o.steps) (hsl : o.steps.length ≤ 9223372036854775807) (hw : (Lit.int .i64 o.id).wf = true) :
    Calls Tryz.prog 7 #[.pointer (some ⟨d, 0, none⟩), .agg #[.int .i64 o.id, .int .i64 o.item, .int .i64 o.qty, .int .i64 o.client, .int .i64 o.price, .slice sa o.steps.length sc]] w (SubR w0 O w d p m n v R o) := by
  obtain ⟨U, hU⟩ : ∃ U, U = w.alloc (.cells #[.int .i64 o.id, .int .i64 o.item, .int .i64 o.qty, .int .i64 o.client, .int .i64 o.price, .slice sa o.steps.length sc] 24) := ⟨_, rfl⟩
  have hbU : Below w.heap.size w U := by rw [hU]; exact (Below.refl _ _).alloc (Nat.le_refl _) _
  have hx : U.heap[w.heap.size]? = some (.cells #[.int .i64 o.id, .int .i64 o.item, .int .i64 o.qty, .int .i64 o.client, .int .i64 o.price, .slice sa o.steps.length sc] 24 (0, 0)) := by rw [hU]; exact World.alloc_heap_new w _
  have CH := dchief_any (k.on hbU)
  have c0 := (k.on hbU).c0.1
  have z0 : U.cell? ⟨w.heap.size, 0, none⟩ = some (.int .i64 o.id) := by rw [cell_of hx]; rfl
  have z1 : U.cell? ⟨w.heap.size, 1, none⟩ = some (.int .i64 o.item) := by rw [cell_of hx]; rfl
  have z2 : U.cell? ⟨w.heap.size, 2, none⟩ = some (.int .i64 o.qty) := by rw [cell_of hx]; rfl
  have z3 : U.cell? ⟨w.heap.size, 3, none⟩ = some (.int .i64 o.client) := by rw [cell_of hx]; rfl
  have z4 : U.cell? ⟨w.heap.size, 4, none⟩ = some (.int .i64 o.price) := by rw [cell_of hx]; rfl
  have z5 : U.cell? ⟨w.heap.size, 5, none⟩ = some (.slice sa o.steps.length sc) := by rw [cell_of hx]; rfl
  have hlt : w.heap.size < U.heap.size := (Array.getElem?_eq_some_iff.1 hx).1
  have BEG : Hid (∀ u, Below U.heap.size U u → Calls Tryz.prog 19 #[.pointer (some ⟨p, 0, none⟩), .agg #[.int .i64 o.id, .int .i64 o.item, .int .i64 o.qty, .int .i64 o.client, .int .i64 o.price, .slice sa o.steps.length sc]] u fun x w1 => ∃ a c, x = .returned (.tuple #[.slice a (begA v o).length c, .int .i64 (begE v o)]) ∧ MidD w0 O w d p m n v R o a c w1 ∧ w1.cell? ⟨d, 0, none⟩ = some (.pointer (some ⟨p, 0, none⟩)) ∧ w1.cell? ⟨d, 1, none⟩ = some (.map (some m)) ∧ w1.heap[w.heap.size]? = some (.cells #[.int .i64 o.id, .int .i64 o.item, .int .i64 o.qty, .int .i64 o.client, .int .i64 o.price, .slice sa o.steps.length sc] 24 (0, 0))) := fun u hu => by
    have hb := bel_on' hbU hu
    refine (Cu.begin hg (c.on hb) o (hs.below hb) hsl hw rfl rfl rfl).mono ?_
    rintro x w1 ⟨a, c', O', h1, h2, h3, h4⟩
    have k1 := (k.on hb).step h4
    have ha : Abc u O w.heap.size (.cells #[.int .i64 o.id, .int .i64 o.item, .int .i64 o.qty, .int .i64 o.client, .int .i64 o.price, .slice sa o.steps.length sc] 24) := ⟨Sg.keepB hx hu, fun e => by have := (c.lt e).2; omega⟩
    refine ⟨a, c', h1, ⟨O', h2, h3, k1, fun i e => (h4.1 i e).elim .inl (fun e => .inr ⟨Nat.le_trans hb.size e.1, e.2⟩), (Rg.Kept.of_below hb).trans h4.2⟩, k1.c0.1, k1.c0.2, (ha.step h4).1⟩
  have DEL : Hid (∀ a c w1, begE v o = 0 → MidD w0 O w d p m n v R o a c w1 → ∃ w2, (∀ ty, (Builtin.delete_ #[51, 3] ty #[.map (some m), .int .i64 o.id]).run Tryz.prog w1.drew = .ok (.tuple #[]) w2) ∧ SubR w0 O w d p m n v R o (.returned (.tuple #[.slice a (begA v o).length c, .int .i64 (begE v o)])) w2) := fun a c w1 e h => h.del hw (by rw [e]; rfl)
  have PUT : Hid (∀ a c w1, begE v o ≠ 0 → (begE v o ≠ 10 ∧ begE v o ≠ 8) ∧ (1 ≤ o.id ∧ o.id ≤ 999) → MidD w0 O w d p m n v R o a c w1 → ∃ w2, (Instr.mapUpdate 51 (.map (some m)) (.int .i64 o.id) (.agg #[])).run Tryz.prog w1.drew = .ok () w2 ∧ SubR w0 O w d p m n v R o (.returned (.tuple #[.slice a (begA v o).length c, .int .i64 (begE v o)])) w2) := fun a c w1 e e2 h => h.put hn hw (by unfold subR; rw [if_neg e, if_pos e2])
  have NON : Hid (∀ a c w1, begE v o ≠ 0 → ¬ ((begE v o ≠ 10 ∧ begE v o ≠ 8) ∧ (1 ≤ o.id ∧ o.id ≤ 999)) → MidD w0 O w d p m n v R o a c w1 → SubR w0 O w d p m n v R o (.returned (.tuple #[.slice a (begA v o).length c, .int .i64 (begE v o)])) w1) := fun a c w1 e e2 h => h.no (by unfold subR; rw [if_neg e, if_neg e2])
  generalize hSU : SubR w0 O w d p m n v R o = SU at *
  generalize MidD w0 O w d p m n v R o = MD at *
  generalize begE v o = e at *
  generalize (begA v o).length = al at *
  have HU := hide hU
  have HLT := hide hlt
  rw [hU] at CH
  clear hSU hU hbU hx hlt hg c k hn hs hsl hw
  go_enter Tryz.func7, Tryz.ntmps7
  go_wp2_with (go_at_call 12; refine CH.mono ?_; clear CH; rintro r w' ⟨rfl, rfl⟩)
  rw [← HU.out]
  go_region_held3 (fun w' => w'.cell? ⟨d, 0, none⟩ = some (.pointer (some ⟨p, 0, none⟩)) ∧ w'.cell? ⟨w.heap.size, 0, none⟩ = some (.int .i64 o.id) ∧ w'.cell? ⟨w.heap.size, 1, none⟩ = some (.int .i64 o.item) ∧ w'.cell? ⟨w.heap.size, 2, none⟩ = some (.int .i64 o.qty) ∧ w'.cell? ⟨w.heap.size, 3, none⟩ = some (.int .i64 o.client) ∧ w'.cell? ⟨w.heap.size, 4, none⟩ = some (.int .i64 o.price) ∧ w'.cell? ⟨w.heap.size, 5, none⟩ = some (.slice sa o.steps.length sc)) (go_keep) (first
    | (go_at_call 19; refine (BEG.out _ (by first | exact Below.refl _ _ | exact (Below.refl _ _).drew)).mono ?_; clear BEG; rintro x w1 ⟨a, ac, rfl, hm, h0, h1, hx⟩; clear c0 z0 z1 z2 z3 z4 z5; have c0 := h0; have c1 := h1; have HM := hide hm
       have z0 : w1.cell? ⟨w.heap.size, 0, none⟩ = some (.int .i64 o.id) := (by rw [cell_of hx]; rfl)
       have z1 : w1.cell? ⟨w.heap.size, 1, none⟩ = some (.int .i64 o.item) := (by rw [cell_of hx]; rfl)
       have z2 : w1.cell? ⟨w.heap.size, 2, none⟩ = some (.int .i64 o.qty) := (by rw [cell_of hx]; rfl)
       have z3 : w1.cell? ⟨w.heap.size, 3, none⟩ = some (.int .i64 o.client) := (by rw [cell_of hx]; rfl)
       have z4 : w1.cell? ⟨w.heap.size, 4, none⟩ = some (.int .i64 o.price) := (by rw [cell_of hx]; rfl)
       have z5 : w1.cell? ⟨w.heap.size, 5, none⟩ = some (.slice sa o.steps.length sc) := (by rw [cell_of hx]; rfl)
       clear hm h0 h1 hx))
  by_cases he : e = 0
  · obtain ⟨w2, r1, r2⟩ := DEL.out _ _ _ he HM.out
    have R2 := hide r2
    subst he
    clear r2 DEL PUT NON HM
    go_wp2_with fail
    go_region
    all_goals go_wp2
    all_goals exact R2.out
  · have q0 : (e == 0) = false := by simpa using he
    have RJ := drejects_any e w1
    have IJ := disid_any o.id w1
    by_cases hr : e ≠ 10 ∧ e ≠ 8
    · have e1 : (decide (e ≠ 10) && decide (e ≠ 8)) = true := by simp [hr.1, hr.2]
      rw [e1] at RJ
      by_cases hi : 1 ≤ o.id ∧ o.id ≤ 999
      · rw [decide_eq_true hi] at IJ
        obtain ⟨w2, r1, r2⟩ := PUT.out _ _ _ he ⟨hr, hi⟩ HM.out
        have R2 := hide r2
        clear r2 DEL PUT NON HM hi hr e1 he
        go_wp2_with (first
          | (go_at_call 20; refine RJ.mono ?_; clear RJ; rintro x w' ⟨rfl, rfl⟩)
          | (go_at_call 21; refine IJ.mono ?_; clear IJ; rintro x w' ⟨rfl, rfl⟩))
        go_region
        all_goals go_wp2
        all_goals exact R2.out
      · rw [decide_eq_false hi] at IJ
        have R2 := hide (NON.out _ _ _ he (fun h => hi h.2) HM.out)
        clear DEL PUT NON HM hi hr e1 he
        go_wp2_with (first
          | (go_at_call 20; refine RJ.mono ?_; clear RJ; rintro x w' ⟨rfl, rfl⟩)
          | (go_at_call 21; refine IJ.mono ?_; clear IJ; rintro x w' ⟨rfl, rfl⟩))
        exact R2.out
    · have e1 : (decide (e ≠ 10) && decide (e ≠ 8)) = false := by
        by_cases h1 : e = 10
        · simp [h1]
        · by_cases h2 : e = 8
          · simp [h2]
          · exact absurd ⟨h1, h2⟩ hr
      rw [e1] at RJ
      have R2 := hide (NON.out _ _ _ he (fun h => hr h.1) HM.out)
      clear DEL PUT NON HM hr e1 he IJ
      go_wp2_with (go_at_call 20; refine RJ.mono ?_; clear RJ; rintro x w' ⟨rfl, rfl⟩)
      exact R2.out
end
end Go.Proofs.YtnffgamekhedkaaGreatDoor
/-
  Contracts of the desk's share, whose.
-/
namespace Go.Proofs.YtnffgamekhedkaaGreatDoor
open Go.ChangeShapes Go.WideShapes Go.ChangeAt Go.RowKit Go.Maps Sg Bl

theorem txB_emp (a : List UInt8) : (txB a).toList.isEmpty = decide (a = []) := by
  rw [ByteArray.toList_eq]
  show a.isEmpty = _
  cases a <;> rfl
theorem itoa_txt (n : Int) : (⟨(Lib.itoa n).toArray⟩ : ByteArray) = txB (Lib.itoa n) := rfl
theorem dk_itoa {n : Int} (h0 : 0 ≤ n) (h1 : n < 10) : (txB (Lib.itoa n)).size ≤ 11 := by
  rw [txB_len, itoa_one h0 h1]
  show 1 ≤ 11
  decide
set_option maxHeartbeats 1000000 in
theorem dshare_any (l : List Bool) (a : Option Addr) (c : Nat) (w : World) (ha : Bls w a l) (hl : l.length ≤ 3) (hg : Gl w) :
    Calls Tryz.prog 47 #[.slice a l.length c] w fun e w' => e = .returned (.string (txB (shrL l))) ∧ Below w.heap.size w w' := by
  have hn3 : truN l ≤ 3 := Nat.le_trans (truN_le l) hl
  obtain ⟨n, hn⟩ : ∃ n, truN l = n := ⟨_, rfl⟩
  rw [hn] at hn3
  have I1 : Hid (Calls Tryz.prog 26 #[.int .i64 (n : Int)] w fun e w' => e = .returned (.string (txB (Lib.itoa n))) ∧ Below w.heap.size w w') := itoa_any _ w (by omega) (by omega) hg
  have I2 : Hid (∀ u, Below w.heap.size w u → Calls Tryz.prog 26 #[.int .i64 (l.length : Int)] u fun e w' => e = .returned (.string (txB (Lib.itoa l.length))) ∧ Below w.heap.size w w') := fun u hu => (itoa_any _ u (by omega) (by omega) (hg.on hu)).mono (fun _ _ ⟨e1, e2⟩ => ⟨e1, bel_on' hu e2⟩)
  have HS : Hid (txB (Lib.itoa n) ++ (⟨#[47]⟩ : ByteArray) ++ txB (Lib.itoa l.length) = txB (shrL l)) := by
    show txB (Lib.itoa n) ++ txB [47] ++ txB (Lib.itoa l.length) = _
    rw [txB_app, txB_app]
    unfold shrL
    rw [hn]
  have hys := dk_itoa (n := (n : Int)) (by omega) (by omega)
  have hzs := dk_itoa (n := (l.length : Int)) (by omega) (by omega)
  generalize txB (Lib.itoa n) = y at *
  generalize txB (Lib.itoa l.length) = z at *
  have HI := hide ha
  have HN := hide hn
  clear ha hg hn
  go_enter Tryz.func47, Tryz.ntmps47
  go_wp2
  go_loopw [3, 8] (fun ct i wr => ∃ j m : Nat, i = .int .i64 j ∧ ct = .int .i64 m ∧ j ≤ l.length ∧ wr = w ∧ Hid (m = truN (l.take j)) ∧ m ≤ j) (fun _ i _ => l.length - (Go.RowKit.intOf i).toNat)
  case atStart => exact ⟨0, 0, rfl, rfl, Nat.zero_le _, rfl, rfl, Nat.le_refl _⟩
  case round =>
    obtain ⟨j, m, rfl, rfl, hj, rfl, HM, hm⟩ := hrel
    by_cases hlt : j < l.length
    · obtain ⟨bb, off, x, rfl, hx, hc⟩ := HI.out.get hlt
      have hT : truN (l.take (j + 1)) = truN (l.take j) + (if x = true then 1 else 0) := by
        obtain ⟨hlt', e⟩ := List.getElem?_eq_some_iff.1 hx
        rw [List.take_succ_eq_append_getElem hlt, truN_snoc, e]
      rw [← HM.out] at hT
      have HT := hide hT
      have ql : (j : Int) < (l.length : Int) := by omega
      clear hx hT
      cases x
      · go_wp2
        go_roundw
        case rel => exact ⟨j + 1, m, by go_num, rfl, by omega, by simp, by show m = _; rw [HT.out]; rfl, by omega⟩
        case measure => simp [Go.RowKit.intOf]; omega
      · go_wp2
        go_roundw
        case rel => exact ⟨j + 1, m + 1, by go_num, by go_num, by omega, by simp, by show m + 1 = _; rw [HT.out]; rfl, by omega⟩
        case measure => simp [Go.RowKit.intOf]; omega
    · have ql : ¬ (j : Int) < (l.length : Int) := by omega
      have e : m = n := by
        have h3 := HM.out
        rw [List.take_of_length_le (show l.length ≤ j by omega)] at h3
        exact h3.trans HN.out
      subst e
      go_wp2_with (first
        | (go_at_call 26; refine I1.out.mono ?_; rintro e w1 ⟨rfl, hb⟩; have J2 := I2.out _ hb; clear hb I1 I2)
        | (go_at_call 26; refine J2.mono ?_; clear J2; rintro e w2 ⟨rfl, hb⟩; have HB := hide hb; clear hb))
      go_ret
      exact ⟨congrArg (fun t => Ending.returned (.string t)) HS.out, HB.out⟩
def whoT (a b : Bool) : Nat → List UInt8
  | 0 => []
  | 1 => if a = true then [32, 115, 116, 111, 99, 107] else []
  | _ => whoL a b
theorem whoT_size (a b : Bool) (n : Nat) : (txB (whoT a b n)).size ≤ 12 := by
  rw [txB_len]
  unfold whoT whoL
  split <;> cases a <;> cases b <;> decide
set_option maxRecDepth 100000 in
set_option maxHeartbeats 1000000 in
theorem dwhose_any (x y : Bool) (w : World) : Calls Tryz.prog 48 #[.agg #[.bool x, .bool y]] w fun e w' => e = .returned (.string (txB (whoL x y))) ∧ Below w.heap.size w w' := by
  have hb0 : Below w.heap.size w (w.alloc (.cells #[.bool x, .bool y] 60)) := (Below.refl _ _).alloc (Nat.le_refl _) _
  have hx0 := World.alloc_heap_new w (.cells #[.bool x, .bool y] 60)
  have c0 : (w.alloc (.cells #[.bool x, .bool y] 60)).cell? ⟨w.heap.size, 0, none⟩ = some (.bool x) := by rw [cell_of hx0]; rfl
  have c1 : (w.alloc (.cells #[.bool x, .bool y] 60)).cell? ⟨w.heap.size, 1, none⟩ = some (.bool y) := by rw [cell_of hx0]; rfl
  have HB := hide hb0
  clear hb0 hx0
  have E0 : Hid (txB [] ++ ((⟨#[32]⟩ : ByteArray) ++ (⟨#[115, 116, 111, 99, 107]⟩ : ByteArray)) = txB (whoT true y 1)) := by
    show txB [] ++ (txB [32] ++ txB [115, 116, 111, 99, 107]) = _
    rw [txB_app, txB_app]
    rfl
  have E1 : Hid (∀ t, t = whoT x true 1 → txB t ++ ((⟨#[32]⟩ : ByteArray) ++ (⟨#[112, 117, 114, 115, 101]⟩ : ByteArray)) = txB (whoL x true)) := by
    rintro t rfl
    show txB _ ++ (txB [32] ++ txB [112, 117, 114, 115, 101]) = _
    rw [txB_app, txB_app]
    cases x <;> rfl
  have hi0 : ∀ U : World, (Instr.index 101 (.agg #[.string ⟨#[115, 116, 111, 99, 107]⟩, .string ⟨#[112, 117, 114, 115, 101]⟩]) (.int .i64 0)).run Tryz.prog U = .ok (.string ⟨#[115, 116, 111, 99, 107]⟩) U := fun _ => by kernel_rfl
  have hi1 : ∀ U : World, (Instr.index 101 (.agg #[.string ⟨#[115, 116, 111, 99, 107]⟩, .string ⟨#[112, 117, 114, 115, 101]⟩]) (.int .i64 1)).run Tryz.prog U = .ok (.string ⟨#[112, 117, 114, 115, 101]⟩) U := fun _ => by kernel_rfl
  have SZ : Hid (∀ (t : ByteArray) (j : Nat), t = txB (whoT x y j) → t.size ≤ 12) := by
    rintro t j rfl
    exact whoT_size x y j
  go_enter Tryz.func48, Tryz.ntmps48
  go_wp2
  go_loopw [3, 7] (fun n i wr => ∃ (j : Nat) (z : Int) (t : ByteArray), i = .int .i64 z ∧ Hid (z = (j : Int)) ∧ n = .string t ∧ j ≤ 2 ∧ wr = w.alloc (.cells #[.bool x, .bool y] 60) ∧ Hid (t = txB (whoT x y j)) ∧ t.size ≤ 12) (fun _ i _ => 2 - (Go.RowKit.intOf i).toNat)
  case atStart => exact ⟨0, 0, _, rfl, rfl, rfl, by omega, rfl, rfl, by decide⟩
  case round =>
    obtain ⟨j, z, t, rfl, HZ, rfl, hj, rfl, HT, ht⟩ := hrel
    have h3 : j = 0 ∨ j = 1 ∨ j = 2 := by omega
    rcases h3 with rfl | rfl | rfl
    · obtain rfl : z = 0 := HZ.out
      cases x
      · have HE : Hid (t = txB (whoT false y 1)) := HT.out
        clear SZ E0 E1 HT
        go_wp2
        go_roundw
        case rel => exact ⟨1, 1, t, by go_num, rfl, rfl, by omega, by simp, HE, ht⟩
        case measure => simp [Go.RowKit.intOf]
      · have HE : Hid (t ++ ((⟨#[32]⟩ : ByteArray) ++ (⟨#[115, 116, 111, 99, 107]⟩ : ByteArray)) = txB (whoT true y 1)) := by
          have h := E0.out
          rw [show txB [] = t from HT.out.symm] at h
          exact h
        have HS := hide (SZ.out _ 1 HE.out)
        clear SZ E0 E1 HT
        go_wp2
        go_roundw
        case rel => exact ⟨1, 1, _, by go_num, rfl, rfl, by omega, by simp, HE, HS.out⟩
        case measure => simp [Go.RowKit.intOf]
    · obtain rfl : z = 1 := HZ.out
      cases y
      · have HE : Hid (t = txB (whoT x false 2)) := by
          show t = _
          rw [HT.out]
          cases x <;> rfl
        clear SZ E0 E1 HT
        go_wp2
        go_roundw
        case rel => exact ⟨2, 2, t, by go_num, rfl, rfl, by omega, by simp, HE, ht⟩
        case measure => simp [Go.RowKit.intOf]
      · have HE : Hid (t ++ ((⟨#[32]⟩ : ByteArray) ++ (⟨#[112, 117, 114, 115, 101]⟩ : ByteArray)) = txB (whoT x true 2)) := by
          have h := E1.out _ rfl
          rw [show txB (whoT x true 1) = t from HT.out.symm] at h
          exact h
        have HS := hide (SZ.out _ 2 HE.out)
        clear SZ E0 E1 HT
        go_wp2
        go_roundw
        case rel => exact ⟨2, 2, _, by go_num, rfl, rfl, by omega, by simp, HE, HS.out⟩
        case measure => simp [Go.RowKit.intOf]
    · obtain rfl : z = 2 := HZ.out
      have HE : Hid (t = txB (whoL x y)) := HT.out
      clear SZ E0 E1 HT
      go_wp2
      go_ret
      exact ⟨congrArg (fun t => Ending.returned (.string t)) HE.out, HB.out⟩
end Go.Proofs.YtnffgamekhedkaaGreatDoor
/-
  Contracts of the desk's words and Tell.
-/
namespace Go.Proofs.YtnffgamekhedkaaGreatDoor
open Go.ChangeShapes Go.WideShapes Go.ChangeAt Go.RowKit Go.Maps Sg Bl

theorem shr_size {l : List Bool} (h : l.length ≤ 3) : (txB (shrL l)).size ≤ 3 := by
  rw [txB_len]
  unfold shrL
  have := truN_le l
  rw [itoa_one (by omega) (by omega), itoa_one (by omega) (by omega)]
  exact Nat.le_refl 3
theorem who_size (a b : Bool) : (txB (whoL a b)).size ≤ 12 := by
  rw [txB_len]
  unfold whoL
  cases a <;> cases b <;> decide
section
variable {w0 w : World} {O : Pt → Nat → Prop} {d p m n : Nat} {v : Ch} {R : Int → Bool}
theorem ret_txt {a b : ByteArray} (h : a = b) : Ending.returned (.string a) = .returned (.string b) := by rw [h]
set_option maxRecDepth 100000 in
set_option maxHeartbeats 4000000 in
theorem dwords_any (hg : Gl w0) (k : Dk w0 O w d p m n v R) {id : Int} (hw : (Lit.int .i64 id).wf = true) :
    Calls Tryz.prog 25 #[.pointer (some ⟨d, 0, none⟩), .int .i64 id] w fun e w' => e = .returned (.string (txB (wrdL (stD v R id) (lkD v id).f))) ∧ Below w.heap.size w w' := by
  have C0 := dchief_any k.2
  have F0 := k.1.facts hw
  have S0 : Hid (∀ u, Below w.heap.size w u → Calls Tryz.prog 9 #[.pointer (some ⟨d, 0, none⟩), .int .i64 id] u fun e w' => e = .returned (.int .i64 (stD v R id)) ∧ Below u.heap.size u w') := fun u hu => dstatus_any (k.on hu) hw
  have G0 : Hid (∀ u, Below w.heap.size w u → Gl u) := fun u hu => hg.on (bel_on' k.1.2.2 hu)
  have HT := hide (k.1.three id)
  generalize stD v R id = s at *
  generalize lkD v id = l at *
  generalize (v.L id).isSome = is at *
  clear k hw hg
  unfold FactR at F0
  go_enter Tryz.func25, Tryz.ntmps25
  go_wp2_with (go_at_call 12; refine C0.mono ?_; rintro e w1 ⟨rfl, rfl⟩)
  refine F0.mono ?_
  rintro e u1 ⟨sa, sc, da, dc, ua, uc, rfl, -, hF, hb⟩
  have HF := hide hF
  have HB := hide hb
  clear hF hb F0 C0
  go_wp2_with fail
  obtain ⟨U, hU⟩ : ∃ U, U = (u1.alloc (.cells #[.int .i64 l.o.id, .int .i64 l.o.item, .int .i64 l.o.qty, .int .i64 l.o.client, .int .i64 l.o.price, .slice sa l.o.steps.length sc] 24)).alloc (.cells #[.slice da l.f.dn.length dc, .slice ua l.f.un.length uc, .bool l.f.asked, .bool l.f.yes, .bool l.f.turned, .bool l.f.k0, .bool l.f.k1, .bool l.f.ship, .bool l.f.d0, .bool l.f.d1, .bool l.f.acc] 62) := ⟨_, rfl⟩
  have h4 : Below u1.heap.size u1 U := by rw [hU]; exact ((Below.refl _ _).alloc (Nat.le_refl _) _).alloc (by simp) _
  have hf : U.heap[u1.heap.size + 1]? = some (.cells #[.slice da l.f.dn.length dc, .slice ua l.f.un.length uc, .bool l.f.asked, .bool l.f.yes, .bool l.f.turned, .bool l.f.k0, .bool l.f.k1, .bool l.f.ship, .bool l.f.d0, .bool l.f.d1, .bool l.f.acc] 62 (0, 0)) := by
    have h1 := World.alloc_heap_new (u1.alloc (.cells #[.int .i64 l.o.id, .int .i64 l.o.item, .int .i64 l.o.qty, .int .i64 l.o.client, .int .i64 l.o.price, .slice sa l.o.steps.length sc] 24)) (.cells #[.slice da l.f.dn.length dc, .slice ua l.f.un.length uc, .bool l.f.asked, .bool l.f.yes, .bool l.f.turned, .bool l.f.k0, .bool l.f.k1, .bool l.f.ship, .bool l.f.d0, .bool l.f.d1, .bool l.f.acc] 62)
    rw [World.size_alloc] at h1
    rw [hU]; exact h1
  rw [← hU]
  clear hU
  refine (S0.out U (bel_on' HB.out h4)).mono ?_
  rintro e u2 ⟨rfl, hb2⟩
  have h5 := bel_on' HB.out (bel_on' h4 hb2)
  have hf2 := Sg.keepB hf hb2
  have hF2 : FaIn u2 l.f da dc ua uc := HF.out.below (bel_on' h4 hb2)
  have SD := dshare_any l.f.dn da dc u2 hF2.dn HT.out.2.1 (G0.out _ h5)
  have SU := dshare_any l.f.un ua uc u2 hF2.un HT.out.2.2 (G0.out _ h5)
  have SW := dwhose_any l.f.d0 l.f.d1 u2
  have y0 : u2.cell? ⟨u1.heap.size + 1, 0, none⟩ = some (.slice da l.f.dn.length dc) := by rw [cell_of hf2]; rfl
  have y1 : u2.cell? ⟨u1.heap.size + 1, 1, none⟩ = some (.slice ua l.f.un.length uc) := by rw [cell_of hf2]; rfl
  have y8 : u2.cell? ⟨u1.heap.size + 1, 8, none⟩ = some (.bool l.f.d0) := by rw [cell_of hf2]; rfl
  have y9 : u2.cell? ⟨u1.heap.size + 1, 9, none⟩ = some (.bool l.f.d1) := by rw [cell_of hf2]; rfl
  have z0 := shr_size HT.out.2.1
  have z1 := shr_size HT.out.2.2
  have z2 := who_size l.f.d0 l.f.d1
  have H5 := hide h5
  have E1 : Hid ((⟨#[102, 111, 114, 119, 97, 114, 100, 32]⟩ : ByteArray) ++ txB (shrL l.f.dn) = txB (wrdL 1 l.f)) := by
    show txB [102, 111, 114, 119, 97, 114, 100, 32] ++ _ = _
    rw [txB_app]
    rfl
  have E4 : Hid ((⟨#[117, 110, 100, 111, 105, 110, 103, 32]⟩ : ByteArray) ++ txB (shrL l.f.un) = txB (wrdL 4 l.f)) := by
    show txB [117, 110, 100, 111, 105, 110, 103, 32] ++ _ = _
    rw [txB_app]
    rfl
  have E7 : Hid ((⟨#[100, 97, 109, 97, 103, 101, 100]⟩ : ByteArray) ++ txB (whoL l.f.d0 l.f.d1) = txB (wrdL 7 l.f)) := by
    show txB [100, 97, 109, 97, 103, 101, 100] ++ _ = _
    rw [txB_app]
    rfl
  have EE : Hid (txB (wrdL 2 l.f) = txB [112, 114, 101, 112, 97, 114, 105, 110, 103] ∧ txB (wrdL 3 l.f) = txB [99, 111, 109, 109, 105, 116, 116, 101, 100] ∧ txB (wrdL 5 l.f) = txB [115, 104, 105, 112, 112, 101, 100] ∧ txB (wrdL 6 l.f) = txB [97, 98, 111, 114, 116, 101, 100] ∧ txB (wrdL 8 l.f) = txB [114, 101, 106, 101, 99, 116, 101, 100]) := ⟨rfl, rfl, rfl, rfl, rfl⟩
  generalize txB (shrL l.f.dn) = X0 at *
  generalize txB (shrL l.f.un) = X1 at *
  generalize txB (whoL l.f.d0 l.f.d1) = X2 at *
  clear S0 G0 HT HF HB h4 hf hb2 h5 hf2 hF2
  by_cases e1 : s = 1
  · subst e1
    go_wp2_with (go_at_call 47; refine SD.mono ?_; rintro e u3 ⟨rfl, hb3⟩; have HB3 := hide (bel_on' H5.out hb3); clear hb3)
    go_ret
    exact ⟨ret_txt E1.out, HB3.out⟩
  by_cases e2 : s = 2
  · subst e2
    go_wp2
    go_ret
    exact ⟨ret_txt EE.out.1.symm, H5.out⟩
  by_cases e3 : s = 3
  · subst e3
    go_wp2
    go_ret
    exact ⟨ret_txt EE.out.2.1.symm, H5.out⟩
  by_cases e4 : s = 4
  · subst e4
    go_wp2_with (go_at_call 47; refine SU.mono ?_; rintro e u3 ⟨rfl, hb3⟩; have HB3 := hide (bel_on' H5.out hb3); clear hb3)
    go_ret
    exact ⟨ret_txt E4.out, HB3.out⟩
  by_cases e5 : s = 5
  · subst e5
    go_wp2
    go_ret
    exact ⟨ret_txt EE.out.2.2.1.symm, H5.out⟩
  by_cases e6 : s = 6
  · subst e6
    go_wp2
    go_ret
    exact ⟨ret_txt EE.out.2.2.2.1.symm, H5.out⟩
  by_cases e7 : s = 7
  · subst e7
    go_wp2_with (go_at_call 48; refine SW.mono ?_; rintro e u3 ⟨rfl, hb3⟩; have HB3 := hide (bel_on' H5.out hb3); clear hb3)
    go_ret
    exact ⟨ret_txt E7.out, HB3.out⟩
  by_cases e8 : s = 8
  · subst e8
    go_wp2
    go_ret
    exact ⟨ret_txt EE.out.2.2.2.2.symm, H5.out⟩
  have EN : Hid ((⟨#[]⟩ : ByteArray) = txB (wrdL s l.f)) := by
    show _ = _
    unfold wrdL
    rw [if_neg e1, if_neg e2, if_neg e3, if_neg e4, if_neg e5, if_neg e6, if_neg e7, if_neg e8]
    rfl
  go_wp2
  go_ret
  exact ⟨ret_txt EN.out, H5.out⟩
theorem wrd_size (s : Int) {l : Lk} (h1 : l.f.dn.length ≤ 3) (h2 : l.f.un.length ≤ 3) : (txB (wrdL s l.f)).size ≤ 24 := by
  rw [txB_len]
  have a := shr_size h1
  have b := shr_size h2
  have c := who_size l.f.d0 l.f.d1
  rw [txB_len] at a b c
  unfold wrdL
  split <;> (try split) <;> (try split) <;> (try split) <;> (try split) <;> (try split) <;> (try split) <;> (try split) <;> simp <;> omega
set_option maxHeartbeats 1000000 in
theorem dtell_any (hg : Gl w0) (k : Dk w0 O w d p m n v R) {id : Int} (hw : (Lit.int .i64 id).wf = true) :
    Calls Tryz.prog 10 #[.pointer (some ⟨d, 0, none⟩), .int .i64 id] w fun e w' => e = .returned (.string (txB (telL v R id))) ∧ Below w.heap.size w w' := by
  have W0 := dwords_any hg k hw
  have hwf := hw
  simp only [Lit.wf, Bool.and_eq_true, decide_eq_true_eq] at hwf
  obtain ⟨hw1, hw2⟩ := hwf
  change -9223372036854775808 ≤ id at hw1
  change id ≤ 9223372036854775807 at hw2
  have I0 : Hid (∀ u, Below w.heap.size w u → Calls Tryz.prog 26 #[.int .i64 id] u fun e w' => e = .returned (.string (txB (Lib.itoa id))) ∧ Below w.heap.size w w') := fun u hu => (itoa_any id u (by omega) (by omega) (hg.on (bel_on' k.1.2.2 hu))).mono (fun _ _ ⟨e1, e2⟩ => ⟨e1, bel_on' hu e2⟩)
  have z0 : (txB (Lib.itoa id)).size ≤ 32 := by rw [txB_len]; exact Nat.le_trans (Lib.itoa_length_le id (by omega) (by omega)) (by decide)
  have z1 := wrd_size (stD v R id) (k.1.three id).2.1 (k.1.three id).2.2
  have HE : Hid (telL v R id = if wrdL (stD v R id) (lkD v id).f = [] then [] else Lib.itoa id ++ [58, 32] ++ wrdL (stD v R id) (lkD v id).f) := rfl
  generalize wrdL (stD v R id) (lkD v id).f = W at *
  clear k hw hg hw1 hw2
  have hq : (txB W).toList.isEmpty = decide (W = []) := txB_emp W
  by_cases hW : W = []
  · subst hW
    rw [if_pos rfl] at HE
    go_enter Tryz.func10, Tryz.ntmps10
    go_wp2_with (go_at_call 25; refine W0.mono ?_; clear W0; rintro e u ⟨rfl, hb⟩; have HB := hide hb; clear hb)
    go_ret
    exact ⟨ret_txt (by rw [HE.out]; rfl), HB.out⟩
  · rw [if_neg hW] at HE
    rw [decide_eq_false hW] at hq
    have HS : Hid (txB (Lib.itoa id) ++ (⟨#[58, 32]⟩ : ByteArray) ++ txB W = txB (telL v R id)) := by
      show txB _ ++ txB [58, 32] ++ txB _ = _
      rw [txB_app, txB_app, HE.out]
    generalize txB W = X at *
    generalize txB (Lib.itoa id) = Y at *
    clear hW HE
    go_enter Tryz.func10, Tryz.ntmps10
    go_wp2_with (first
      | (go_at_call 25; refine W0.mono ?_; clear W0; rintro e u ⟨rfl, hb⟩; have I2 := I0.out _ hb; clear hb I0)
      | (go_at_call 26; refine I2.mono ?_; clear I2; rintro e u2 ⟨rfl, hb⟩; have HB := hide hb; clear hb))
    go_ret
    exact ⟨ret_txt HS.out, HB.out⟩
end
end Go.Proofs.YtnffgamekhedkaaGreatDoor
/-
  Contracts of the desk's All: an iterator over ids and how each stands, rising.
-/
namespace Go.Proofs.YtnffgamekhedkaaGreatDoor
open Go.ChangeShapes Go.WideShapes Go.ChangeAt Go.RowKit Go.Shelf Go.Maps Sg Bl

def dkv (N : Nat) (f : Int → Int) : List Value := (List.range N).map (fun k : Nat => .int .i64 (f k))
theorem dkv_len (N : Nat) (f : Int → Int) : (dkv N f).length = N := by simp [dkv]
theorem dkv_at {N : Nat} (f : Int → Int) {i : Nat} (hi : i < N) : (dkv N f)[i]? = some (.int .i64 (f i)) := by simp [dkv, hi]
/-- Filled so far as j. -/
def fillT (f : Int → Int) (j : Nat) : Int → Int := fun x => if x < (j : Int) then f x else 0
theorem dkv_new (N : Nat) (f : Int → Int) : List.replicate N (.int .i64 0) = dkv N (fillT f 0) := by
  unfold dkv
  apply List.ext_getElem?
  intro k
  by_cases hk : k < N
  · have h : ¬ ((k : Int) < ((0 : Nat) : Int)) := by omega
    simp [hk, fillT]
    omega
  · simp [hk]
theorem dkv_put {N : Nat} (f : Int → Int) {i : Nat} (hi : i < N) : (dkv N (fillT f i)).set i (.int .i64 (f i)) = dkv N (fillT f (i + 1)) := by
  unfold dkv
  apply List.ext_getElem?
  intro k
  rw [List.getElem?_set]
  by_cases e : i = k
  · subst e
    have h : (i : Int) < ((i + 1 : Nat) : Int) := by omega
    simp only [List.length_map, List.length_range, hi, if_true, List.getElem?_map, List.getElem?_range, Option.map_some, fillT, h]
  · rw [if_neg e]
    by_cases hk : k < N
    · simp [hk, fillT]
      by_cases h1 : k < i
      · rw [if_pos h1, if_pos (by omega)]
      · rw [if_neg h1, if_neg (by omega)]
    · simp [hk]
theorem dkv_all (N : Nat) (f : Int → Int) : dkv N (fillT f N) = dkv N f := by
  unfold dkv
  apply List.ext_getElem?
  intro k
  by_cases hk : k < N
  · simp [hk, fillT]
  · simp [hk]
theorem alloc_thousand (w : World) {Z : List Value} (hZ : List.replicate 1000 (.int .i64 0) = Z) : (Instr.alloc 79 true (.tuple #[])).run Tryz.prog w = .ok (.pointer (some ⟨w.heap.size, 0, none⟩)) (w.alloc (.cells Z.toArray 79)) := by
  subst hZ
  rw [List.toArray_replicate]
  have hz : (zeroValue 79).run Tryz.prog w = .ok (.agg (Array.replicate 1000 (.int .i64 0))) w := by kernel_rfl
  generalize Array.replicate 1000 _ = cs at *
  simp [Instr.alloc, newVar, newRow, hz, Value.cells, Result.andThen]
theorem wpList_alloc_thousand {w : World} {ops : Array Oper} {rest : List Oper} {o : Oper} {a : Act} {Q : Exit → Act → World → Prop} (hg : o.guard = none) (hop : o.op = Op.alloc 79) {Z : List Value} (hZ : List.replicate 1000 (.int .i64 0) = Z)
    (hK : wpList Tryz.prog ops Q rest (a.put o.dst (.pointer (some ⟨w.heap.size, 0, none⟩))) (w.alloc (.cells Z.toArray 79))) : wpList Tryz.prog ops Q (o :: rest) a w := by
  refine wpList_plain hg fun K' hK' => ?_
  have hrun := alloc_thousand w hZ
  generalize Z.toArray = cs at hrun hK
  unfold Oper.wp
  simp only [execOp, hop]
  simp [hrun, Result.andThen]
  exact hK' _ _ hK
/-- The box that is filled. -/
def FlB (w : World) (b : Nat) (f : Int → Int) (u : World) : Prop := u.heap[b]? = some (.cells (dkv 1000 f).toArray 79 (0, 0)) ∧ Below w.heap.size w u
theorem FlB.cell {w u : World} {b : Nat} {f : Int → Int} (h : FlB w b f u) {j : Nat} (hj : j < 1000) : u.cell? ⟨b, j, none⟩ = some (.int .i64 (f j)) := by
  rw [cell_of h.1, List.getElem?_toArray]
  exact dkv_at f hj
theorem FlB.frozen {w u : World} {b : Nat} {f : Int → Int} (h : FlB w b f u) (j : Nat) : u.frozen? ⟨b, j, none⟩ = false := frozen_of_row _ _ _ _ _ h.1
theorem FlB.on {w u u' : World} {b : Nat} {f : Int → Int} (h : FlB w b f u) (hb : Below u.heap.size u u') : FlB w b f u' := ⟨Sg.keepB h.1 hb, bel_on' h.2 hb⟩
theorem FlB.put {w u : World} {b : Nat} {f : Int → Int} {j : Nat} (h : FlB w b (fillT f j) u) (hj : j < 1000) (hb : w.heap.size ≤ b) : FlB w b (fillT f (j + 1)) (u.setCell ⟨b, j, none⟩ (.int .i64 (f j))) := by
  refine ⟨?_, h.2.setCell hb _⟩
  rw [heap_setCell_same _ _ _ _ _ _ h.1, ← dkv_put f hj, List.setIfInBounds_toArray]
set_option maxHeartbeats 1000000 in
theorem dall_gen (w : World) (pv : Option Addr) (f : Int → Int) (ST : Hid (∀ (u : World) (j : Nat), j < 1000 → Below w.heap.size w u → Calls Tryz.prog 9 #[.pointer pv, .int .i64 (j : Int)] u fun e w' => e = .returned (.int .i64 (f j)) ∧ Below u.heap.size u w')) :
    Calls Tryz.prog 22 #[.pointer pv] w fun e w' => e = .returned (.func (.func 45) #[] #[.pointer (some ⟨w.heap.size, 0, none⟩)]) ∧ FlB w w.heap.size f w' := by
  have h0 : FlB w w.heap.size (fillT f 0) (w.alloc (.cells (dkv 1000 (fillT f 0)).toArray 79)) := ⟨World.alloc_heap_new _ _, (Below.refl _ _).alloc (Nat.le_refl _) _⟩
  have HE := hide (dkv_all 1000 f)
  have hz := dkv_new 1000 f
  have PU : Hid (∀ (u : World) (j : Nat), FlB w w.heap.size (fillT f j) u → j < 1000 → FlB w w.heap.size (fillT f (j + 1)) (u.setCell ⟨w.heap.size, j, none⟩ (.int .i64 (f j)))) := fun u j h hj => h.put hj (Nat.le_refl _)
  have H0 := hide h0
  clear h0
  go_enter Tryz.func22, Tryz.ntmps22
  go_wp2_with (refine wpList_alloc_thousand rfl rfl hz ?_)
  generalize w.alloc (.cells (dkv 1000 (fillT f 0)).toArray 79) = W0 at H0 ⊢
  clear hz
  go_loopw [5] (fun i wr => ∃ j : Nat, i = .int .i64 j ∧ j ≤ 1000 ∧ Hid (FlB w w.heap.size (fillT f j) wr)) (fun i _ => 1000 - (Go.RowKit.intOf i).toNat)
  case atStart => exact ⟨0, rfl, Nat.zero_le _, H0⟩
  case round =>
    obtain ⟨j, rfl, hj, HF⟩ := hrel
    clear H0
    by_cases hlt : j < 1000
    · have ql : (j : Int) < 1000 := by omega
      have SJ := ST.out wr j hlt HF.out.2
      obtain ⟨s, hs⟩ : ∃ s, f j = s := ⟨_, rfl⟩
      have HS := hide hs
      rw [hs] at SJ
      clear hs
      go_wp2_with (go_at_call 9; refine SJ.mono ?_; clear SJ; rintro e u ⟨rfl, hb⟩; have hF2 := HF.out.on hb; have c0 := hF2.cell hlt; have f0 := hF2.frozen j; have HF2 := hide hF2; clear hF2 hb HF)
      have HF3 := hide (PU.out _ _ HF2.out hlt)
      rw [HS.out] at HF3
      go_roundw
      case rel => exact ⟨j + 1, by go_num, by omega, HF3⟩
      case measure => simp [Go.RowKit.intOf]; omega
    · have ql : ¬ (j : Int) < 1000 := by omega
      obtain rfl : j = 1000 := by omega
      go_wp2
      go_ret
      refine ⟨rfl, ?_, HF.out.2⟩
      rw [← HE.out]
      exact HF.out.1
section
variable {w0 w : World} {O : Pt → Nat → Prop} {d p m n : Nat} {v : Ch} {R : Int → Bool}
theorem dall_any (k : Dk w0 O w d p m n v R) : Calls Tryz.prog 22 #[.pointer (some ⟨d, 0, none⟩)] w fun e w' => e = .returned (.func (.func 45) #[] #[.pointer (some ⟨w.heap.size, 0, none⟩)]) ∧ FlB w w.heap.size (stD v R) w' :=
  dall_gen w _ _ (fun u j hj hu => dstatus_any (k.on hu) (wf_of (by omega) (by omega)))
end
/-! The iterator. -/
def encD (x : Int × Int) : Array Value := #[.int .i64 x.1, .int .i64 x.2]
theorem load_stand {w : World} {b : Nat} {f : Int → Int} (hb : w.heap[b]? = some (.cells (dkv 1000 f).toArray 79 (0, 0))) : (Instr.loadAt 79 (.pointer (some ⟨b, 0, none⟩))).run Tryz.prog w = .ok (.agg (dkv 1000 f).toArray) w := by
  have hl : (loadCells ⟨b, 0, none⟩ 1000).run Tryz.prog w = .ok (dkv 1000 f).toArray w := by
    have := run_loadCells_list (P := Tryz.prog) (w := w) ⟨b, 0, none⟩ (dkv 1000 f) (fun j v hj => by
      rw [st_add', cell_of hb, List.getElem?_toArray, Nat.zero_add]
      exact hj)
    rwa [dkv_len] at this
  generalize (dkv 1000 f).toArray = cs at hl
  have e : ∀ n : Nat, (loadCells ⟨b, 0, none⟩ n).run Tryz.prog w = .ok cs w → (sizeOf 79).run Tryz.prog w = .ok n w → (loadVar 79 ⟨b, 0, none⟩).run Tryz.prog w = .ok (.agg cs) w := fun n h1 h2 => by
    simp [loadVar, Tryz.isAgg79, h2, h1, Result.andThen]
  have e2 := e 1000 hl (Tryz.sizeOf79 w)
  simp [Instr.loadAt, Instr.sureAddr, e2]
theorem index_stand (f : Int → Int) {i : Nat} (hi : i < 1000) (w : World) : (Instr.index 79 (.agg (dkv 1000 f).toArray) (.int .i64 i)).run Tryz.prog w = .ok (.int .i64 (f i)) w := by
  have hc : (dkv 1000 f).toArray[i]? = some (.int .i64 (f i)) := by rw [List.getElem?_toArray]; exact dkv_at f hi
  generalize (dkv 1000 f).toArray = cs at hc
  simp [Instr.index, asIntOf, run_underlying Tryz.underlying79, part, Tryz.isAgg3, Tryz.sizeOf3, hc, Result.andThen]
  intro h3
  omega
theorem wpListIn_load_thousand {F : Fence} {nF : Nat} {w : World} {ops : Array Oper} {rest : List Oper} {o : Oper} {a : Act} {Q : Exit → Act → World → Prop} (hg : o.guard = none) (x : Operand) (hop : o.op = Op.load 79 x) (b : Nat) (hx : a.eval x = .pointer (some ⟨b, 0, none⟩)) {cs : Array Value}
    (hrun : (Instr.loadAt 79 (.pointer (some ⟨b, 0, none⟩))).run Tryz.prog w = .ok (.agg cs) w) (hK : wpListIn F nF Tryz.prog ops Q rest (a.put o.dst (.agg cs)) w) : wpListIn F nF Tryz.prog ops Q (o :: rest) a w := by
  refine wpListIn_plain hg fun K' hK' => ?_
  unfold Oper.wpIn
  refine ⟨by simp [Oper.about, hop], ?_⟩
  rw [Oper.semAt_plain F _ _ (by rw [hop]; intro c hc'; cases hc')]
  simp [execOp, hop, hx, hrun, Result.andThen]
  exact hK' _ _ hK
set_option maxRecDepth 100000 in
set_option maxHeartbeats 2000000 in
theorem dall_seq {F : Nat → Obj → Prop} {w : World} {Bi : Nat} {f : Int → Int} (hbi : w.heap[Bi]? = some (.cells (dkv 1000 f).toArray 79 (0, 0))) :
    Rg2.SeqA Tryz.prog F 45 #[.pointer (some ⟨Bi, 0, none⟩)] encD (allF f 1000) w := by
  intro l J Jx W hW hwl hlW hJ hJx hY h0
  have hb := (hW.block _ (Array.getElem?_eq_some_iff.1 hbi).1).trans hbi
  have hld := load_stand hb
  have HIX : Hid (∀ (i : Nat), i < 1000 → ∀ U : World, (Instr.index 79 (.agg (dkv 1000 f).toArray) (.int .i64 i)).run Tryz.prog U = .ok (.int .i64 (f i)) U) := fun i hi U => index_stand f hi U
  generalize (dkv 1000 f).toArray = cs at hld HIX
  refine callsIn_wide.2 ((callsIn_wide (n := 5)).1 ?_)
  have HY : Hid (∀ pre x W1, J pre W1 → pre ++ [x] <+: allF f 1000 → YieldAt Fence.wide 4 Tryz.prog l (encD x) W1 fun e W' => Rg.Kept (fun k o => F k o ∨ k = l) W1 W' ∧ ((e = .returned (.bool true) ∧ J (pre ++ [x]) W') ∨ (e = .returned (.bool false) ∧ Jx (pre ++ [x]) W'))) := fun pre x W1 h1 h2 => Rg.yield_any0 (hY pre x W1 h1 h2)
  have HJ0 := hide h0
  clear hY hJ hJx h0 hW hb hbi
  have hnf : ∀ u : World, (binOp BinOp.eql 45 (.func (.yield l) #[] #[]) .nilFunc).run Tryz.prog u = .ok (.bool false) u := fun _ => by kernel_rfl
  refine callsIn_of_wp Tryz.func45 rfl trivial ?_ rfl
  simp only [Tryz.ntmps45, List.size_toArray, List.length_cons, List.length_nil, Nat.reduceAdd, Nat.reduceSub, Array.replicate_succ, Array.replicate_zero, List.push_toArray, List.append_toArray, List.nil_append, List.cons_append]
  gi_wp2_with (refine wpListIn_load_thousand rfl _ rfl Bi rfl hld ?_)
  clear hld
  gi_loopw [8] (fun i wr => ∃ j : Nat, i = .int .i64 j ∧ j ≤ 1000 ∧ Hid (J (allF f j) wr)) (fun i _ => 1000 - (Go.RowKit.intOf i).toNat)
  case atStart => exact ⟨0, rfl, Nat.zero_le _, HJ0⟩
  case round =>
    obtain ⟨j, rfl, hj, HJ⟩ := hrel
    clear HJ0
    by_cases hlt : j < 1000
    · have hx := HIX.out j hlt wr
      have ql : (j : Int) < 1000 := by omega
      have hS := allF_succ f j
      by_cases hz : f j = 0
      · rw [if_pos hz, List.append_nil] at hS
        have HS := hide hS
        rw [hz] at hx
        clear hS hz
        gi_wp2
        refine ⟨fun f hf => (by cases hf), ?_⟩
        gi_wp2
        go_roundw
        case rel => exact ⟨j + 1, by go_num, by omega, by rw [HS.out]; exact HJ⟩
        case measure => simp [Go.RowKit.intOf]; omega
      · rw [if_neg hz] at hS
        have hpre : allF f j ++ [((j : Int), f j)] <+: allF f 1000 := by rw [← hS]; exact allF_pre f (by omega)
        obtain ⟨fn, tmps, assign, body, hy, hR⟩ := HY.out (allF f j) ((j : Int), f j) wr HJ.out hpre
        rw [← hS] at hR
        have HPR : Hid (allF f (j + 1) ≠ [] ∧ allF f (j + 1) <+: allF f 1000) := ⟨by rw [hS]; simp, allF_pre f (by omega)⟩
        obtain ⟨s, hs⟩ : ∃ s, f j = s := ⟨_, rfl⟩
        rw [hs] at hx hz hy
        have hzb : (s != 0) = true := by simpa using hz
        clear hpre hS hs hz
        dsimp only [encD] at hy
        gi_wp2
        refine hR.mono ?_
        rintro e W3 ⟨hk3, (⟨rfl, hJ3⟩ | ⟨rfl, hJ3⟩)⟩
        · have HJ3 := hide hJ3
          clear hJ3 hk3 hR
          gi_wp2
          go_roundw
          case rel => exact ⟨j + 1, by go_num, by omega, HJ3⟩
          case measure => simp [Go.RowKit.intOf]; omega
        · have HJ3 := hide hJ3
          clear hJ3 hk3 hR
          gi_wp2
          refine bodyPost_ret (results_none rfl _ _ _) rfl ?_
          exact ⟨⟨_, rfl⟩, .inr ⟨_, HPR.out.1, HPR.out.2, HJ3.out⟩⟩
    · have ql : ¬ (j : Int) < 1000 := by omega
      obtain rfl : j = 1000 := by omega
      gi_wp2
      go_end0
      exact ⟨⟨_, rfl⟩, .inl HJ.out⟩
end Go.Proofs.YtnffgamekhedkaaGreatDoor
/-
  Contract of the desk's Open.
-/
namespace Go.Proofs.YtnffgamekhedkaaGreatDoor
open Go.ChangeShapes Go.WideShapes Go.ChangeAt Go.RowKit Go.Shelf Go.Maps Sg Bl

attribute [local go_sem] Oper.semAt_some

theorem dk_stay {W W' : World} {row : Option Nat} {X : Nat} (hg : W.grownBy W' row) (hr : ∀ r, row = some r → X ≤ r ∧ ∃ o : Obj, W.heap[r]? = some o ∧ o.isCells = false) {k : Nat} {cs : Array Value} {t : TypeId} {f : Nat × Nat} (h : W.heap[k]? = some (.cells cs t f)) : W'.heap[k]? = W.heap[k]? :=
  hg.block k (Array.getElem?_eq_some_iff.1 h).1 (fun e => by
    obtain ⟨_, o, ho, hc⟩ := hr k e.symm
    rw [h] at ho
    cases ho
    cases hc)
theorem opn_len (v : Ch) (l : List (Int × Int)) : opnD v l ≤ l.length := List.length_filter_le _ _
/-- What Open's loop has, pre having come: the boxes of the desk and of how many. -/
def OI (v : Ch) (w : World) (d : Option Addr) (pre : List (Int × Int)) (W : World) : Prop :=
  Boxed W w.heap.size 25 (.pointer d) ∧ Boxed W (w.heap.size + 1) 3 (.int .i64 (opnD v pre : Nat)) ∧ Below w.heap.size w W ∧ w.heap.size + 2 ≤ W.heap.size
theorem OI.own {v : Ch} {w : World} {d : Option Addr} {X : Nat} (hX : w.heap.size ≤ X) : OwnFrom X (OI v w d) := fun pre W W' row hs hg hr => by
  obtain ⟨h1, h3, h6, h7⟩ := hs
  refine ⟨(dk_stay hg hr h1).trans h1, (dk_stay hg hr h3).trans h3, ?_, Nat.le_trans h7 hg.size⟩
  exact h6.grown hg h6.size (fun k e => Nat.le_trans hX (hr k e).1)
theorem OI.on {v : Ch} {w W W' : World} {d : Option Addr} {pre : List (Int × Int)} (h : OI v w d pre W) (hb : Below W.heap.size W W') : OI v w d pre W' :=
  ⟨Sg.keepB h.1 hb, Sg.keepB h.2.1 hb, bel_on' h.2.2.1 hb, Nat.le_trans h.2.2.2 hb.size⟩
theorem OI.no {v : Ch} {w W : World} {d : Option Addr} {pre : List (Int × Int)} {x : Int × Int} (h : OI v w d pre W) (hx : opn1 v x = false) : OI v w d (pre ++ [x]) W := by
  refine ⟨h.1, ?_, h.2.2⟩
  rw [opnD_snoc, hx]
  exact h.2.1
theorem OI.yes {v : Ch} {w W : World} {d : Option Addr} {pre : List (Int × Int)} {x : Int × Int} (h : OI v w d pre W) (hx : opn1 v x = true) {n : Int} (hn : n = ((opnD v pre : Nat) : Int) + 1) : OI v w d (pre ++ [x]) (W.setCell ⟨w.heap.size + 1, 0, none⟩ (.int .i64 n)) := by
  subst hn
  refine ⟨?_, ?_, h.2.2.1.setCell (by show w.heap.size ≤ w.heap.size + 1; omega) _, by simpa using h.2.2.2⟩
  · exact (Below.heap_setCell _ _ _ _ (show w.heap.size ≠ w.heap.size + 1 by omega)).trans h.1
  · rw [opnD_snoc, hx]
    exact h.2.1.set _
/-- A round's frame. -/
def OF (w : World) (d : Option Addr) (Bi : Nat) (x : Int × Int) : Act :=
  { tmps := #[.pointer d, .pointer (some ⟨w.heap.size, 0, none⟩), .int .i64 0, .pointer (some ⟨w.heap.size + 1, 0, none⟩), .int .i64 x.1, .int .i64 x.2, undef, undef, undef, .pointer d, .func (.func 45) #[] #[.pointer (some ⟨Bi, 0, none⟩)], .int .i64 x.1, .int .i64 x.2, undef, undef, undef, undef, undef, undef, undef, undef, undef, undef, undef, undef, undef, undef, undef, undef, undef, undef, undef, undef, undef], defers := [] }
set_option maxRecDepth 100000 in
set_option maxHeartbeats 4000000 in
theorem dopen_gen (w : World) (pv : Option Addr) (v : Ch) (f : Int → Int)
    (HA : Hid (∀ U : World, Below w.heap.size w U → Calls Tryz.prog 22 #[.pointer pv] U fun e w' => e = .returned (.func (.func 45) #[] #[.pointer (some ⟨U.heap.size, 0, none⟩)]) ∧ FlB U U.heap.size f w'))
    (HX : Hid (∀ x ∈ allF f 1000, ∃ d p, pv = some ⟨d, 0, none⟩ ∧ ((lkD v x.1).o.steps.length ≤ 3) ∧ ∀ W : World, Below w.heap.size w W → W.cell? ⟨d, 0, none⟩ = some (.pointer (some ⟨p, 0, none⟩)) ∧ Calls Tryz.prog 27 #[.pointer (some ⟨p, 0, none⟩), .int .i64 x.1] W (FactR (lkD v x.1) (v.L x.1).isSome W))) :
    Calls Tryz.prog 11 #[.pointer pv] w fun e w' => e = .returned (.int .i64 (opnD v (allF f 1000) : Nat)) ∧ Below w.heap.size w w' := by
  refine (callsIn_wide (n := 5)).1 ?_
  obtain ⟨U, hU⟩ : ∃ U, U = (w.alloc (.cells #[.pointer pv] 25)).alloc (.cells #[.int .i64 0] 3) := ⟨_, rfl⟩
  have hbU : Below w.heap.size w U := by rw [hU]; exact ((Below.refl _ _).alloc (Nat.le_refl _) _).alloc (by simp) _
  have hsz : U.heap.size = w.heap.size + 2 := by rw [hU]; simp
  have hbn : Boxed U w.heap.size 25 (.pointer pv) := by rw [hU]; exact (Below.heap_alloc _ _ _ (by simp)).trans (World.alloc_heap_new w _)
  have hbl : Boxed U (w.heap.size + 1) 3 (.int .i64 0) := by
    have h2 := World.alloc_heap_new (w.alloc (.cells #[.pointer pv] 25)) (.cells #[.int .i64 0] 3)
    rw [World.size_alloc] at h2
    rw [hU]; exact h2
  have HAU := (callsIn_wide (n := 4)).2 (HA.out U hbU)
  have HUW := hide hU
  rw [hU] at HAU
  clear hU HA
  have hnf : ∀ (u : World) (b : Nat), (binOp BinOp.eql 57 (.func (.func 45) #[] #[.pointer (some ⟨b, 0, none⟩)]) .nilFunc).run Tryz.prog u = .ok (.bool false) u := fun _ _ => by kernel_rfl
  refine callsIn_of_wp_marks Tryz.func11 rfl trivial ?_ rfl
  simp only [Tryz.ntmps11, List.size_toArray, List.length_cons, List.length_nil, Nat.reduceAdd, Nat.reduceSub, Array.replicate_succ, Array.replicate_zero, List.push_toArray, List.append_toArray, List.nil_append, List.cons_append]
  gi_wp2_with fail
  refine ⟨trivial, HAU.mono ?_⟩
  rintro e w1 ⟨rfl, hFl⟩
  rw [← HUW.out] at hFl
  clear HAU
  obtain ⟨hbx, hb⟩ := hFl
  have hB1 : Below w.heap.size w w1 := bel_on' hbU hb
  have hN1 : w.heap.size + 2 ≤ w1.heap.size := by have := hb.size; omega
  have h0 : OI v w pv [] w1 := ⟨Sg.keepB hbn hb, Sg.keepB hbl hb, hB1, hN1⟩
  have ES := dall_seq (F := fun k _ => k = w.heap.size + 1) hbx
  rw [← HUW.out]
  obtain ⟨Bi, hBi⟩ : ∃ Bi, U.heap.size = Bi := ⟨_, rfl⟩
  rw [hBi] at ES ⊢
  clear hbl hbn hb hbU hbx hsz hBi
  gi_wp2_with fail
  refine Rg2.range_acts (E := fun k _ => k = w.heap.size + 1) (enc := encD) (L := allF f 1000) (I := OI v w pv) (Ix := fun _ _ _ => False) (Ax := fun x a' _ => a' = OF w pv Bi x)
    (gf := 45) (lb := #[.pointer (some ⟨Bi, 0, none⟩)]) rfl (enters_of Tryz.func45 (by kernel_rfl) rfl) ES (fun k o h1 h2 h3 => by omega) (fun _ => rfl)
    (OI.own (by omega)) (fun c' W0 W W' row hs hg hr => hs) (fun x a' => ?ax) h0 ?assign ?body ?done ?stop
  case ax =>
    rintro _ W W' row hs hg hr
    exact hs
  case assign =>
    intro l pre x W K hI hK
    obtain ⟨x0, x1⟩ := x
    have HK := hK (OF w pv Bi (x0, x1)) _ (Rg.Kept.refl _ _) hI rfl
    clear hK
    unfold OF at HK
    unfold encD
    dsimp only at HK ⊢
    gi_wp2
    exact HK
  case body =>
    rintro l pre ⟨x0, x1⟩ a' W hI rfl hpq
    have hx : (x0, x1) ∈ allF f 1000 := by
      obtain ⟨r, hr⟩ := hpq
      rw [← hr]; simp
    obtain ⟨d, p, rfl, hL3, hW⟩ := HX.out _ hx
    have hlen : opnD v pre ≤ 1000 := by
      have h1 := opn_len v pre
      have h2 := allF_len f 1000
      have h3 : pre.length ≤ (allF f 1000).length := ((List.prefix_append pre [(x0, x1)]).trans hpq).length_le
      omega
    obtain ⟨c0, FX⟩ := hW W hI.2.2.1
    dsimp only at FX hL3
    have c1 := hI.1.cell
    have HI := hide hI
    have HL3 := hide hL3
    clear hL3 hW
    obtain ⟨l0, hl0⟩ : ∃ l0, lkD v x0 = l0 := ⟨_, rfl⟩
    have HOP : Hid (opn1 v (x0, x1) = (x1 != 8 && !overF l0.o l0.f)) := by rw [← hl0]; rfl
    rw [hl0] at FX HL3
    clear hl0 hI hpq hx
    generalize (v.L x0).isSome = is at *
    unfold OF
    dsimp only
    gi_wp2_with fail
    refine ⟨trivial, rfl, (CallsIn.inRound l (callsIn_wide.2 FX)).mono ?_⟩
    rintro e u1 ⟨sa, sc, da, dc, ua, uc, rfl, hS, hF, hb⟩
    clear FX c0 c1
    have h4 : Below u1.heap.size u1 ((u1.alloc (.cells #[.int .i64 l0.o.id, .int .i64 l0.o.item, .int .i64 l0.o.qty, .int .i64 l0.o.client, .int .i64 l0.o.price, .slice sa l0.o.steps.length sc] 24)).alloc (.cells #[.slice da l0.f.dn.length dc, .slice ua l0.f.un.length uc, .bool l0.f.asked, .bool l0.f.yes, .bool l0.f.turned, .bool l0.f.k0, .bool l0.f.k1, .bool l0.f.ship, .bool l0.f.d0, .bool l0.f.d1, .bool l0.f.acc] 62)) := ((Below.refl _ _).alloc (Nat.le_refl _) _).alloc (by simp) _
    have OV := sover_any l0.o sa sc l0.f da dc ua uc _ (hS.below h4) (by have := HL3.out; omega) (hF.below h4)
    have HI2 := hide (HI.out.on (bel_on' hb h4))
    have HKP := hide ((Rg.Kept.of_below (E := fun k _ => k = w.heap.size + 1) hb).trans (Rg.Kept.of_below h4))
    clear hb h4 hS hF
    by_cases h8 : x1 = 8
    · subst h8
      gi_wp2
      refine ⟨trivial, ?_⟩
      gi_wp2
      exact ⟨HKP.out, HI2.out.no (by rw [HOP.out]; rfl)⟩
    · have q8 : (x1 != 8) = true := by simpa using h8
      have HQ := hide q8
      cases hov : overF l0.o l0.f
      all_goals rw [hov] at OV
      all_goals rw [hov, q8] at HOP
      · gi_wp2_with fail
        refine ⟨trivial, rfl, (CallsIn.inRound l (callsIn_wide.2 OV)).mono ?_⟩
        rintro e u2 ⟨rfl, hb2⟩
        have hI3 := HI2.out.on hb2
        have HK3 := hide (HKP.out.trans (Rg.Kept.of_below hb2))
        have c3 := hI3.2.1.cell
        have f3 := hI3.2.1.frozen
        have HI3 := hide hI3
        clear hI3 hb2
        gi_wp2
        exact ⟨HK3.out.trans (Rg.Kept.setCell _ (fun _ => rfl)), HI3.out.yes HOP.out (by go_num)⟩
      · gi_wp2_with fail
        refine ⟨trivial, rfl, (CallsIn.inRound l (callsIn_wide.2 OV)).mono ?_⟩
        rintro e u2 ⟨rfl, hb2⟩
        have HI3 := hide (HI2.out.on hb2)
        have HK3 := hide (HKP.out.trans (Rg.Kept.of_below hb2))
        clear hb2
        gi_wp2
        exact ⟨HK3.out, HI3.out.no HOP.out⟩
  case done =>
    rintro D W hD hI hK
    have c3 := hI.2.1.cell
    have HBW := hide hI.2.2.1
    gi_wp2
    refine ⟨by simp, .inl ⟨_, _, rfl, run_takeDeferred hK, ?_⟩⟩
    refine ⟨_, results_tmp rfl _ _ _, rfl, ?_⟩
    exact HBW.out.trans ⟨rfl, rfl, rfl, by simp, fun k hk => World.putObj_heap_other (by omega)⟩
  case stop => exact fun D c pre W _ _ _ h _ => h.elim
section
variable {w0 w : World} {O : Pt → Nat → Prop} {d p m n : Nat} {v : Ch} {R : Int → Bool}
theorem dopen_any (k : Dk w0 O w d p m n v R) : Calls Tryz.prog 11 #[.pointer (some ⟨d, 0, none⟩)] w fun e w' => e = .returned (.int .i64 (opnD v (allF (stD v R) 1000) : Nat)) ∧ Below w.heap.size w w' := by
  refine dopen_gen w _ v _ (fun U hU => dall_any (k.on hU)) (fun x hx => ⟨d, p, rfl, (k.1.three _).1, fun W hW => ⟨(k.2.on hW).c0.1, (k.1.on hW).facts ?_⟩⟩)
  obtain ⟨i, hi, rfl, -⟩ := allF_mem hx
  exact wf_of (by omega) (by omega)
end
end Go.Proofs.YtnffgamekhedkaaGreatDoor
/-
  Contract of the law's all: what the desk's All tells, at most n of it.
-/
namespace Go.Proofs.YtnffgamekhedkaaGreatDoor.Dq
open Go.ChangeShapes Go.WideShapes Go.ChangeAt Go.RowKit Go.Shelf Go.Maps Sg Bl

attribute [local go_sem] Oper.semAt_some

theorem cells_stay {W W' : World} {row : Option Nat} {X : Nat} (hg : W.grownBy W' row) (hr : ∀ r, row = some r → X ≤ r ∧ ∃ o : Obj, W.heap[r]? = some o ∧ o.isCells = false) {k : Nat} {cs : Array Value} {t : TypeId} {f : Nat × Nat} (h : W.heap[k]? = some (.cells cs t f)) : W'.heap[k]? = W.heap[k]? :=
  hg.block k (Array.getElem?_eq_some_iff.1 h).1 (fun e => by
    obtain ⟨_, o, ho, hc⟩ := hr k e.symm
    rw [h] at ho
    cases ho
    cases hc)
theorem results_cells {P : Program} {fn : Func} {p q : Tmp} {ty ty2 : TypeId} (h : fn.results = #[.cell p ty, .cell q ty2]) (tmps : Array Value) (w : World) (g g2 : Nat) (u v : Value)
    (hp : tmps.getD p undef = .pointer (some ⟨g, 0, none⟩)) (ha1 : ∀ w, (isAgg ty).run P w = .ok false w) (hc1 : w.cell? ⟨g, 0, none⟩ = some u)
    (hq : tmps.getD q undef = .pointer (some ⟨g2, 0, none⟩)) (ha2 : ∀ w, (isAgg ty2).run P w = .ok false w) (hc2 : w.cell? ⟨g2, 0, none⟩ = some v) :
    (results fn tmps).run P w = .ok (.tuple #[u, v]) w := by
  have hp' : tmps[p]?.getD undef = .pointer (some ⟨g, 0, none⟩) := by simpa using hp
  have hq' : tmps[q]?.getD undef = .pointer (some ⟨g2, 0, none⟩) := by simpa using hq
  have hl1 : (loadVar ty ⟨g, 0, none⟩).run P w = .ok u w := by
    unfold loadVar
    rw [Sem.run_bind, ha1 w]
    simp [go_sem, hc1]
  have hl2 : (loadVar ty2 ⟨g2, 0, none⟩).run P w = .ok v w := by
    unfold loadVar
    rw [Sem.run_bind, ha2 w]
    simp [go_sem, hc2]
  simp [results, h, hp', hq', asAddr, hl1, hl2]
/-- The boxes that the loop does not turn. -/
def Rest (w : World) (d : Option Addr) (n : Nat) (W : World) : Prop :=
  Boxed W w.heap.size 25 (.pointer d) ∧ Boxed W (w.heap.size + 1) 3 (.int .i64 (n : Int)) ∧ Boxed W (w.heap.size + 2) 30 (.slice none 0 0) ∧ Boxed W (w.heap.size + 3) 4 (.bool false) ∧ Below w.heap.size w W
/-- What the loop has, pre having come. -/
def TI (w : World) (d : Option Addr) (n N1 : Nat) (pre : List (Int × Int)) (W : World) : Prop :=
  (∃ v, Boxed W (w.heap.size + 4) 30 v ∧ W.ownsRow N1 3 1 v pre.length (pre.map (fun x => Value.int .i64 x.1))) ∧ Rest w d n W ∧ pre.length ≤ n ∧ N1 ≤ W.heap.size
theorem Rest.kept {w W W' : World} {d : Option Addr} {n : Nat} (h : Rest w d n W) (hk : ∀ k, k < w.heap.size + 4 → W'.heap[k]? = W.heap[k]?) (hb : Below w.heap.size w W') : Rest w d n W' :=
  ⟨(hk _ (by omega)).trans h.1, (hk _ (by omega)).trans h.2.1, (hk _ (by omega)).trans h.2.2.1, (hk _ (by omega)).trans h.2.2.2.1, hb⟩
theorem TI.own {w : World} {d : Option Addr} {n N1 X : Nat} (hX : w.heap.size ≤ X) : OwnFrom X (TI w d n N1) := fun pre W W' row hs hg hr => by
  obtain ⟨⟨v, h1, h2⟩, ⟨a1, a2, a3, a4, a5⟩, h4, h7⟩ := hs
  refine ⟨⟨v, (cells_stay hg hr h1).trans h1, row_stays h2 (fun k cs _ hc => cells_stay hg hr hc)⟩, ⟨(cells_stay hg hr a1).trans a1, (cells_stay hg hr a2).trans a2, (cells_stay hg hr a3).trans a3, (cells_stay hg hr a4).trans a4, ?_⟩, h4, Nat.le_trans h7 hg.size⟩
  exact a5.grown hg a5.size (fun k e => Nat.le_trans hX (hr k e).1)
theorem TI.on {w W W' : World} {d : Option Addr} {n N1 : Nat} {pre : List (Int × Int)} (h : TI w d n N1 pre W) (hb : Below W.heap.size W W') : TI w d n N1 pre W' := by
  obtain ⟨⟨v, h1, h2⟩, ⟨a1, a2, a3, a4, a5⟩, h4, h7⟩ := h
  exact ⟨⟨v, Sg.keepB h1 hb, row_stays h2 (fun k cs _ hc => hb.block k (Array.getElem?_eq_some_iff.1 hc).1)⟩, ⟨Sg.keepB a1 hb, Sg.keepB a2 hb, Sg.keepB a3 hb, Sg.keepB a4 hb, bel_on' a5 hb⟩, h4, Nat.le_trans h7 hb.size⟩
theorem typ_neI : 30 ≠ 3 := by decide
theorem cell_one_newI (w : World) (x : Value) (t : TypeId) : ∀ j u, [x][j]? = some u → (w.alloc (.cells #[x] t)).cell? ((⟨w.heap.size, 0, none⟩ : Addr).add j) = some u := by
  intro j u hj
  rw [st_add', Nat.zero_add]
  have e : (w.alloc (.cells #[x] t)).heap[w.heap.size]? = some (.cells #[x] t (0, 0)) := World.alloc_heap_new w _
  rw [cell_of e]
  simpa using hj
/-- What a round may turn. -/
def EI (w : World) (N1 : Nat) (k : Nat) (o : Obj) : Prop := k = w.heap.size + 4 ∨ (N1 ≤ k ∧ o.isCells = true)
/-- A number appended. -/
theorem step {w W w4 : World} {d : Option Addr} {n N1 : Nat} {pre : List (Int × Int)} {x : Int × Int} {v v' : Value} (hN1 : w.heap.size + 5 ≤ N1) (hNW : N1 ≤ W.heap.size)
    (hbx : Boxed W (w.heap.size + 4) 30 v) (hrow : W.ownsRow N1 3 1 v pre.length (pre.map (fun x => Value.int .i64 x.1))) (hR : Rest w d n W) (hlt : pre.length < n)
    {o : Obj} (hg : (W.alloc o).grownBy w4 v.ownBlock) (hown : w4.ownsRow N1 3 1 v' (pre.length + 1) (pre.map (fun x => Value.int .i64 x.1) ++ [.int .i64 x.1])) :
    Boxed w4 (w.heap.size + 4) 30 v ∧ TI w d n N1 (pre ++ [x]) (w4.setCell ⟨w.heap.size + 4, 0, none⟩ v') ∧ Rg.Kept (EI w N1) W (w4.setCell ⟨w.heap.size + 4, 0, none⟩ v') := by
  have hB := hR.2.2.2.2
  have hvb : ∀ k, v.ownBlock = some k → N1 ≤ k ∧ ∃ cs, W.heap[k]? = some (Obj.cells cs 3 (0, 0)) := fun k e => by
    refine ⟨(hrow.lt k e).1, ?_⟩
    rcases hrow.2 with ⟨rfl, _⟩ | ⟨g, cap, cur, rfl, _, hc, _⟩
    · simp [Value.ownBlock] at e
    · simp [Value.ownBlock] at e; subst e; exact ⟨cur, hc⟩
  have k4 : ∀ k, k < W.heap.size → v.ownBlock ≠ some k → w4.heap[k]? = W.heap[k]? := fun k hk hne => by
    rw [hg.block k (by simp; omega) (fun e => hne e.symm)]
    exact Below.heap_alloc _ _ _ hk
  have hbx4 : Boxed w4 (w.heap.size + 4) 30 v := (k4 _ hbx.lt (fun e => by have := (hvb _ e).1; omega)).trans hbx
  have k5 : ∀ k, k < W.heap.size → v.ownBlock ≠ some k → k ≠ w.heap.size + 4 → (w4.setCell ⟨w.heap.size + 4, 0, none⟩ v').heap[k]? = W.heap[k]? := fun k hk hne hk1 => by
    rw [Below.heap_setCell _ _ _ _ (show k ≠ (⟨w.heap.size + 4, 0, none⟩ : Addr).block from hk1)]
    exact k4 k hk hne
  have hsz : W.heap.size ≤ w4.heap.size := by have := hg.size; simp at this; omega
  have hsm : ∀ k, k < w.heap.size + 4 → (w4.setCell ⟨w.heap.size + 4, 0, none⟩ v').heap[k]? = W.heap[k]? := fun k hk => k5 k (by omega) (fun e => by have := (hvb _ e).1; omega) (by omega)
  refine ⟨hbx4, ⟨⟨v', hbx4.set v', ?_⟩, hR.kept hsm ?_, by simp; omega, by simp; omega⟩, ⟨hg.os, hg.tape, hg.output, by simpa using hsz, fun k o hk hx => ?_⟩⟩
  · rw [List.map_append, List.length_append, List.length_singleton]
    refine row_stays hown (fun k cs _ hc => Below.heap_setCell _ _ _ _ (fun e => ?_))
    subst e
    rw [show w4.heap[w.heap.size + 4]? = _ from hbx4] at hc
    simp only [Option.some.injEq, Obj.cells.injEq] at hc
    exact typ_neI hc.2.1
  · exact ⟨hg.os.trans hB.os, hg.tape.trans hB.tape, hg.output.trans hB.output, by have := hB.size; simp; omega, fun k hk => (hsm k (by omega)).trans (hB.block k hk)⟩
  · refine (k5 k (Array.getElem?_eq_some_iff.1 hk).1 (fun e => ?_) (fun e => hx (.inl e))).trans hk
    obtain ⟨h1, cs, hcs⟩ := hvb k e
    rw [hk] at hcs
    cases hcs
    exact hx (.inr ⟨h1, rfl⟩)
/-- What is handed back: the row of xs, the call's own. -/
def OwnAll (w : World) (xs : List Int) (e : Ending) (w' : World) : Prop :=
  ∃ a c, e = .returned (.tuple #[.slice a xs.length c, .bool true]) ∧ w'.ownsRow w.heap.size 3 1 (.slice a xs.length c) xs.length (xs.map (Value.int .i64)) ∧ Below w.heap.size w w'
theorem fin {w W V : World} {d : Option Addr} {n N1 D : Nat} {pre : List (Int × Int)} {ys : List Int} {a : Option Addr} {c : Nat} (hN : w.heap.size + 5 ≤ N1) (hD : N1 ≤ D) (hK : W.heap[D]? = some (.deferred (some []))) (hrow : W.ownsRow N1 3 1 (.slice a pre.length c) pre.length (pre.map (fun x => Value.int .i64 x.1))) (hR : Rest w d n W) (he : pre.map Prod.fst = ys)
    (hV : V = (W.setCell ⟨w.heap.size + 2, 0, none⟩ (.slice a pre.length c)).setCell ⟨w.heap.size + 3, 0, none⟩ (.bool true)) :
    V.heap[D]? = some (.deferred (some [])) ∧ (V.putObj D (.deferred none)).cell? ⟨w.heap.size + 2, 0, none⟩ = some (.slice a pre.length c) ∧ (V.putObj D (.deferred none)).cell? ⟨w.heap.size + 3, 0, none⟩ = some (.bool true) ∧ OwnAll w ys (.returned (.tuple #[.slice a pre.length c, .bool true])) (V.putObj D (.deferred none)) := by
  subst he hV
  have hlt : W.heap.size = ((W.setCell ⟨w.heap.size + 2, 0, none⟩ (.slice a pre.length c)).setCell ⟨w.heap.size + 3, 0, none⟩ (.bool true)).heap.size := by simp
  have kk : ∀ k, k ≠ w.heap.size + 2 → k ≠ w.heap.size + 3 → ((W.setCell ⟨w.heap.size + 2, 0, none⟩ (.slice a pre.length c)).setCell ⟨w.heap.size + 3, 0, none⟩ (.bool true)).heap[k]? = W.heap[k]? := fun k h1 h2 =>
    (Below.heap_setCell _ _ _ _ (show k ≠ (⟨w.heap.size + 3, 0, none⟩ : Addr).block from h2)).trans (Below.heap_setCell _ _ _ _ (show k ≠ (⟨w.heap.size + 2, 0, none⟩ : Addr).block from h1))
  have b2 : Boxed ((W.setCell ⟨w.heap.size + 2, 0, none⟩ (.slice a pre.length c)).setCell ⟨w.heap.size + 3, 0, none⟩ (.bool true)) (w.heap.size + 2) 30 (.slice a pre.length c) :=
    (Below.heap_setCell _ _ _ _ (show w.heap.size + 2 ≠ w.heap.size + 3 by omega)).trans (hR.2.2.1.set _)
  have b3 : Boxed ((W.setCell ⟨w.heap.size + 2, 0, none⟩ (.slice a pre.length c)).setCell ⟨w.heap.size + 3, 0, none⟩ (.bool true)) (w.heap.size + 3) 4 (.bool true) := by
    have h : Boxed (W.setCell ⟨w.heap.size + 2, 0, none⟩ (.slice a pre.length c)) (w.heap.size + 3) 4 (.bool false) := (Below.heap_setCell _ _ _ _ (show w.heap.size + 3 ≠ w.heap.size + 2 by omega)).trans hR.2.2.2.1
    exact h.set _
  have hKV := (kk D (by omega) (by omega)).trans hK
  have hB := hR.2.2.2.2
  have hrV := row_stays hrow (fun k cs hN1 hc => kk k (by omega) (by omega))
  have hBV : Below w.heap.size w ((W.setCell ⟨w.heap.size + 2, 0, none⟩ (.slice a pre.length c)).setCell ⟨w.heap.size + 3, 0, none⟩ (.bool true)) := (hB.setCell (show w.heap.size ≤ w.heap.size + 2 by omega) _).setCell (show w.heap.size ≤ w.heap.size + 3 by omega) _
  have h8 := ownsRow_putObj hrV (.deferred none) hKV rfl
  generalize (W.setCell ⟨w.heap.size + 2, 0, none⟩ (.slice a pre.length c)).setCell ⟨w.heap.size + 3, 0, none⟩ (.bool true) = V at *
  have b2' : Boxed (V.putObj D (.deferred none)) (w.heap.size + 2) 30 (.slice a pre.length c) := (World.putObj_heap_other (by omega)).trans b2
  have b3' : Boxed (V.putObj D (.deferred none)) (w.heap.size + 3) 4 (.bool true) := (World.putObj_heap_other (by omega)).trans b3
  refine ⟨hKV, b2'.cell, b3'.cell, a, c, by simp, ?_, ?_⟩
  · rw [List.length_map, List.map_map]
    refine ⟨h8.1, ?_⟩
    rcases h8.2 with h | ⟨g, cap, cur, h1, h2, h3⟩
    · exact .inl h
    · exact .inr ⟨g, cap, cur, h1, by omega, h3⟩
  · exact hBV.trans ⟨rfl, rfl, rfl, by simp, fun k hk => World.putObj_heap_other (by omega)⟩
/-- A round's frame. -/
def AF (w : World) (d : Option Addr) (n Bi : Nat) (x : Int × Int) : Act :=
  { tmps := #[.pointer d, .int .i64 (n : Int), .pointer (some ⟨w.heap.size, 0, none⟩), .pointer (some ⟨w.heap.size + 1, 0, none⟩), .pointer (some ⟨w.heap.size + 2, 0, none⟩), .pointer (some ⟨w.heap.size + 3, 0, none⟩), .pointer (some ⟨w.heap.size + 4, 0, none⟩), .func (.func 45) #[] #[.pointer (some ⟨Bi, 0, none⟩)], .int .i64 x.1, .int .i64 x.2, .pointer d, .func (.func 45) #[] #[.pointer (some ⟨Bi, 0, none⟩)], .func (.func 45) #[] #[.pointer (some ⟨Bi, 0, none⟩)], .bool false, .func (.func 45) #[] #[.pointer (some ⟨Bi, 0, none⟩)], .int .i64 x.1, .int .i64 x.2, undef, undef, undef, undef, undef, undef, undef, undef, undef, undef, undef, undef, undef, undef], defers := [] }
/-- The boxes at first. -/
def UW (w : World) (d : Option Addr) (n : Nat) : World := ((((w.alloc (.cells #[.pointer d] 25)).alloc (.cells #[.int .i64 (n : Int)] 3)).alloc (.cells #[.slice none 0 0] 30)).alloc (.cells #[.bool false] 4)).alloc (.cells #[.slice none 0 0] 30)
theorem UW.size (w : World) (d : Option Addr) (n : Nat) : (UW w d n).heap.size = w.heap.size + 5 := by unfold UW; simp
theorem UW.rest (w : World) (d : Option Addr) (n : Nat) : Rest w d n (UW w d n) ∧ Boxed (UW w d n) (w.heap.size + 4) 30 (.slice none 0 0) := by
  obtain ⟨w1, h1⟩ : ∃ w1, w1 = w.alloc (.cells #[.pointer d] 25) := ⟨_, rfl⟩
  obtain ⟨w2, h2⟩ : ∃ w2, w2 = w1.alloc (.cells #[.int .i64 (n : Int)] 3) := ⟨_, rfl⟩
  obtain ⟨w3, h3⟩ : ∃ w3, w3 = w2.alloc (.cells #[.slice none 0 0] 30) := ⟨_, rfl⟩
  obtain ⟨w4, h4⟩ : ∃ w4, w4 = w3.alloc (.cells #[.bool false] 4) := ⟨_, rfl⟩
  have e : UW w d n = w4.alloc (.cells #[.slice none 0 0] 30) := by rw [h4, h3, h2, h1]; rfl
  have s1 : w1.heap.size = w.heap.size + 1 := by rw [h1]; simp
  have s2 : w2.heap.size = w.heap.size + 2 := by rw [h2]; simp [s1]
  have s3 : w3.heap.size = w.heap.size + 3 := by rw [h3]; simp [s2]
  have s4 : w4.heap.size = w.heap.size + 4 := by rw [h4]; simp [s3]
  have b1 : Boxed w1 w.heap.size 25 (.pointer d) := by rw [h1]; exact World.alloc_heap_new w _
  have b2 : Boxed w2 (w.heap.size + 1) 3 (.int .i64 (n : Int)) := by have := World.alloc_heap_new w1 (.cells #[.int .i64 (n : Int)] 3); rw [s1] at this; rw [h2]; exact this
  have b3 : Boxed w3 (w.heap.size + 2) 30 (.slice none 0 0) := by have := World.alloc_heap_new w2 (.cells #[.slice none 0 0] 30); rw [s2] at this; rw [h3]; exact this
  have b4 : Boxed w4 (w.heap.size + 3) 4 (.bool false) := by have := World.alloc_heap_new w3 (.cells #[.bool false] 4); rw [s3] at this; rw [h4]; exact this
  have b5 : Boxed (UW w d n) (w.heap.size + 4) 30 (.slice none 0 0) := by have := World.alloc_heap_new w4 (.cells #[.slice none 0 0] 30); rw [s4] at this; rw [e]; exact this
  have g1 : Below w1.heap.size w1 w2 := by rw [h2]; exact (Below.refl _ _).alloc (Nat.le_refl _) _
  have g2 : Below w2.heap.size w2 w3 := by rw [h3]; exact (Below.refl _ _).alloc (Nat.le_refl _) _
  have g3 : Below w3.heap.size w3 w4 := by rw [h4]; exact (Below.refl _ _).alloc (Nat.le_refl _) _
  have g4 : Below w4.heap.size w4 (UW w d n) := by rw [e]; exact (Below.refl _ _).alloc (Nat.le_refl _) _
  have g0 : Below w.heap.size w w1 := by rw [h1]; exact (Below.refl _ _).alloc (Nat.le_refl _) _
  have g34 := bel_on' g3 g4
  have g24 := bel_on' g2 g34
  have g14 := bel_on' g1 g24
  exact ⟨⟨Sg.keepB b1 g14, Sg.keepB b2 g24, Sg.keepB b3 g34, Sg.keepB b4 g4, bel_on' g0 g14⟩, b5⟩
set_option maxRecDepth 100000 in
set_option maxHeartbeats 4000000 in
theorem all_gen (w : World) (pv : Option Addr) (n : Nat) (hn : n ≤ 1000) (f : Int → Int)
    (HA : Hid (∀ U : World, Below w.heap.size w U → Calls Tryz.prog 22 #[.pointer pv] U fun e w' => e = .returned (.func (.func 45) #[] #[.pointer (some ⟨U.heap.size, 0, none⟩)]) ∧ FlB U U.heap.size f w'))
    (HX : Hid (∀ x ∈ allF f 1000, ∀ W : World, Below w.heap.size w W → Calls Tryz.prog 9 #[.pointer pv, .int .i64 x.1] W fun e w' => e = .returned (.int .i64 x.2) ∧ Below W.heap.size W w')) :
    Calls Tryz.prog 8 #[.pointer pv, .int .i64 n] w (OwnAll w (((allF f 1000).map Prod.fst).take n)) := by
  refine (callsIn_wide (n := 5)).1 ?_
  obtain ⟨hR0, hb0⟩ := UW.rest w pv n
  have hsz := UW.size w pv n
  have HAU := (callsIn_wide (n := 4)).2 (HA.out (UW w pv n) hR0.2.2.2.2)
  have HUW : Hid (UW w pv n = UW w pv n) := rfl
  unfold UW at HAU
  clear HA
  have hnf : ∀ (u : World) (b : Nat), (binOp BinOp.eql 57 (.func (.func 45) #[] #[.pointer (some ⟨b, 0, none⟩)]) .nilFunc).run Tryz.prog u = .ok (.bool false) u := fun _ _ => by kernel_rfl
  have c0 := hR0.1.cell
  unfold UW at c0
  have HR0 := hide hR0
  have HB0 := hide hb0
  have HSZ := hide hsz
  clear hR0 hb0 hsz
  refine callsIn_of_wp_marks Tryz.func8 rfl trivial ?_ rfl
  simp only [Tryz.ntmps8, List.size_toArray, List.length_cons, List.length_nil, Nat.reduceAdd, Nat.reduceSub, Array.replicate_succ, Array.replicate_zero, List.push_toArray, List.append_toArray, List.nil_append, List.cons_append]
  gi_wp2_with fail
  refine ⟨trivial, HAU.mono ?_⟩
  rintro e w1 ⟨rfl, hFl⟩
  clear HAU c0
  change FlB (UW w pv n) (UW w pv n).heap.size f w1 at hFl
  obtain ⟨hbx, hb⟩ := hFl
  have hT0 : TI w pv n w1.heap.size [] w1 := ⟨⟨_, Sg.keepB HB0.out hb, World.ownsRow_nil _ _ _ _⟩, ⟨Sg.keepB HR0.out.1 hb, Sg.keepB HR0.out.2.1 hb, Sg.keepB HR0.out.2.2.1 hb, Sg.keepB HR0.out.2.2.2.1 hb, bel_on' HR0.out.2.2.2.2 hb⟩, Nat.zero_le _, Nat.le_refl _⟩
  have hN1 : w.heap.size + 5 ≤ w1.heap.size := by have := hb.size; rw [HSZ.out] at this; exact this
  have hbl : (UW w pv n).heap.size < w1.heap.size := (Array.getElem?_eq_some_iff.1 hbx).1
  have ES := dall_seq (F := EI w w1.heap.size) hbx
  rw [HSZ.out] at ES hbl
  obtain ⟨i0, hi, hz0, hz1, hz2⟩ := info_parts Tryz.infoNum
  have e5 : ((((w.heap.size + 1) + 1) + 1) + 1) + 1 = w.heap.size + 5 := rfl
  clear hbx hb
  gi_wp2_with fail
  refine Rg2.range_acts (E := EI w w1.heap.size) (enc := encD) (L := allF f 1000) (I := TI w pv n w1.heap.size) (Ix := fun c' pre W => c' = .exit 0 ∧ ∃ ys x, pre = ys ++ [x] ∧ ys.length = n ∧ TI w pv n w1.heap.size ys W)
    (Ax := fun x a' _ => a' = AF w pv n (w.heap.size + 5) x)
    (gf := 45) (lb := #[.pointer (some ⟨w.heap.size + 5, 0, none⟩)]) rfl (enters_of Tryz.func45 (by kernel_rfl) rfl) ES (fun k o h1 h2 h3 => ?he) (fun _ => rfl)
    (TI.own (by omega)) (fun c' W0 W W' row hs hg hr => ?ix) (fun x a' => ?ax) hT0 ?assign ?body ?done ?stop
  case he =>
    rcases h3 with h3 | ⟨_, h3⟩
    · omega
    · rw [h2] at h3; cases h3
  case ix =>
    obtain ⟨e1, ys, x, e2, e3, hT⟩ := hs
    exact ⟨e1, ys, x, e2, e3, TI.own (by omega) ys W W' row hT hg hr⟩
  case ax =>
    rintro _ W W' row hs hg hr
    exact hs
  case assign =>
    intro l pre x W K hI hK
    obtain ⟨x0, x1⟩ := x
    have HK := hK (AF w pv n (w.heap.size + 5) (x0, x1)) _ (Rg.Kept.refl _ _) hI rfl
    clear hK
    unfold AF at HK
    unfold encD
    dsimp only at HK ⊢
    gi_wp2
    exact HK
  case body =>
    rintro l pre ⟨x0, x1⟩ a' W hT rfl hpq
    have hx : (x0, x1) ∈ allF f 1000 := by
      obtain ⟨r, hr⟩ := hpq
      rw [← hr]; simp
    have SX := HX.out _ hx W hT.2.1.2.2.2.2
    dsimp only at SX
    obtain ⟨⟨v, hbl, hrow⟩, hR, hle, hNW⟩ := id hT
    obtain ⟨av, cv, rfl, -⟩ := row_slice hrow
    have hcl := hbl.cell
    have hcn := hR.2.1.cell
    have hcd := hR.1.cell
    have HT := hide hT
    clear hpq hx hT hR hbl hrow
    unfold AF
    dsimp only
    by_cases hge : pre.length < n
    · have q1 : ¬ (pre.length : Int) ≥ (n : Int) := by omega
      gi_wp2_with fail
      refine ⟨trivial, rfl, (CallsIn.inRound l (callsIn_wide.2 SX)).mono ?_⟩
      rintro e u ⟨rfl, hb⟩
      have HKP := hide (Rg.Kept.of_below (E := EI w w1.heap.size) hb)
      obtain ⟨⟨v, hbl, hrow⟩, hR, -, hNu⟩ := HT.out.on hb
      obtain ⟨av, cv, rfl, -⟩ := row_slice hrow
      have hcl2 := hbl.cell
      clear SX HT hb hNW hcl hcn hcd
      gi_wp2_with (gi_at_builtin; refine wpListIn_append_own_at _ rfl (.tmp 26) (.tmp 28) 30 rfl w1.heap.size 3 i0 _ 1 8 Tryz.underlying30 hi hz0 hz1 hz2 rfl (by decide) (.slice av pre.length cv) pre.length (pre.map (fun x => Value.int .i64 x.1)) rfl (hrow.alloc _) ⟨u.heap.size, 0, none⟩ 1 1 [.int .i64 x0] rfl rfl (cell_one_newI _ _ _) (by simp [Value.oneCell']) (by unfold maxLen; omega) (by omega) (by simp; omega) ?_; intro v' w4 hown' hgrow _ _; obtain ⟨a4, c4, rfl, -⟩ := row_slice hown'; obtain ⟨hb4, hT4, hp4⟩ := step (x := (x0, x1)) hN1 hNu hbl hrow hR hge hgrow hown'; have hc4 := hb4.cell; have hf4 := hb4.frozen)
      exact ⟨HKP.out.trans hp4, hT4⟩
    · have q1 : (pre.length : Int) ≥ (n : Int) := by omega
      gi_wp2
      exact ⟨Rg.Kept.refl _ _, rfl, pre, (x0, x1), rfl, by omega, HT.out⟩
  case done =>
    rintro D W hD hT hK
    obtain ⟨⟨v, hbl, hrow⟩, hR, hle, hNW⟩ := id hT
    obtain ⟨av, cv, rfl, -⟩ := row_slice hrow
    have hcl := hbl.cell
    have z2 := hR.2.2.1.cell
    have f2 := hR.2.2.1.frozen
    have z3 := hR.2.2.2.1.cell
    have f3 := hR.2.2.2.1.frozen
    have FI := hide (fin hN1 hD hK hrow hR (ys := ((allF f 1000).map Prod.fst).take n) (by rw [List.take_of_length_le (by simpa using hle)]) rfl)
    clear hT hbl hrow hR hle hNW hK
    gi_wp2
    obtain ⟨r0, r1, r2, r3⟩ := FI.out
    refine ⟨by simp, .inl ⟨_, _, rfl, run_takeDeferred r0, ?_⟩⟩
    exact ⟨_, results_cells Tryz.results8 _ _ _ _ _ _ rfl Tryz.isAgg30 r1 rfl Tryz.isAgg4 r2, r3⟩
  case stop =>
    rintro D c' pre W hD - hpr ⟨rfl, ys, x, rfl, hyn, hT⟩ hK
    obtain ⟨⟨v, hbl, hrow⟩, hR, hle, hNW⟩ := id hT
    obtain ⟨av, cv, rfl, -⟩ := row_slice hrow
    have hcl := hbl.cell
    have z2 := hR.2.2.1.cell
    have f2 := hR.2.2.1.frozen
    have z3 := hR.2.2.2.1.cell
    have f3 := hR.2.2.2.1.frozen
    have HYS : ys.map Prod.fst = ((allF f 1000).map Prod.fst).take n := by
      obtain ⟨r, hr⟩ := hpr
      rw [← hr, ← hyn, List.append_assoc, List.map_append, List.take_append_of_le_length (by simp), List.take_of_length_le (by simp)]
    have FI := hide (fin hN1 hD hK hrow hR HYS rfl)
    clear hT hbl hrow hR hle hNW hK HYS hyn hpr
    gi_wp2
    obtain ⟨r0, r1, r2, r3⟩ := FI.out
    refine ⟨by simp, .inl ⟨_, _, rfl, run_takeDeferred r0, ?_⟩⟩
    exact ⟨_, results_cells Tryz.results8 _ _ _ _ _ _ rfl Tryz.isAgg30 r1 rfl Tryz.isAgg4 r2, r3⟩
section
variable {w0 w : World} {O : Pt → Nat → Prop} {d p m n : Nat} {v : Ch} {R : Int → Bool}
theorem all_any (k : Dk w0 O w d p m n v R) (n : Nat) (hn : n ≤ 1000) : Calls Tryz.prog 8 #[.pointer (some ⟨d, 0, none⟩), .int .i64 n] w (OwnAll w (((allF (stD v R) 1000).map Prod.fst).take n)) := by
  refine all_gen w _ n hn _ (fun U hU => dall_any (k.on hU)) (fun x hx W hW => ?_)
  obtain ⟨i, hi, rfl, -⟩ := allF_mem hx
  exact dstatus_any (k.on hW) (wf_of (by omega) (by omega))
end
end Go.Proofs.YtnffgamekhedkaaGreatDoor.Dq
/-
  A desk at hand, its chief up: each answer named.
-/
namespace Go.Proofs.YtnffgamekhedkaaGreatDoor
open Go.ChangeShapes Go.WideShapes Go.ChangeAt Go.RowKit Go.Maps Sg Bl

/-- A desk at hand. -/
def Da (w0 : World) (O : Pt → Nat → Prop) (w : World) (d p m n : Nat) (v : Ch) (R : Int → Bool) : Prop := Cu w0 O w p v ∧ DkS w0 O w d p m n R
/-- A text against a literal one. -/
theorem txB_lit (a b : List UInt8) : ((txB a).toList == b) = decide (a = b) := by
  have h := txB_eq a b
  rw [ByteArray.toList_eq (txB b)] at h
  exact h
section
variable {w0 w w' : World} {O O' : Pt → Nat → Prop} {d p m n : Nat} {v v' : Ch} {R R' : Int → Bool}
theorem Da.dk (k : Da w0 O w d p m n v R) : Dk w0 O w d p m n v R := ⟨k.1.cx, k.2⟩
theorem Da.on (k : Da w0 O w d p m n v R) (hb : Below w.heap.size w w') : Da w0 O w' d p m n v R := ⟨k.1.on hb, k.2.on hb⟩
theorem Da.chief (k : Da w0 O w d p m n v R) : Calls Tryz.prog 12 #[.pointer (some ⟨d, 0, none⟩)] w fun e w' => e = .returned (.pointer (some ⟨p, 0, none⟩)) ∧ w = w' := dchief_any k.2
theorem Da.status (k : Da w0 O w d p m n v R) {id : Int} (hw : (Lit.int .i64 id).wf = true) {s : Int} (hs : stD v R id = s) :
    Calls Tryz.prog 9 #[.pointer (some ⟨d, 0, none⟩), .int .i64 id] w fun e w' => e = .returned (.int .i64 s) ∧ Below w.heap.size w w' := by
  subst hs
  exact dstatus_any k.dk hw
theorem Da.tell (hg : Gl w0) (k : Da w0 O w d p m n v R) {id : Int} (hw : (Lit.int .i64 id).wf = true) {s : List UInt8} (hs : telL v R id = s) :
    Calls Tryz.prog 10 #[.pointer (some ⟨d, 0, none⟩), .int .i64 id] w fun e w' => e = .returned (.string (txB s)) ∧ Below w.heap.size w w' := by
  subst hs
  exact dtell_any hg k.dk hw
theorem Da.openN (k : Da w0 O w d p m n v R) {b : Nat} (hs : opnD v (allF (stD v R) 1000) = b) :
    Calls Tryz.prog 11 #[.pointer (some ⟨d, 0, none⟩)] w fun e w' => e = .returned (.int .i64 (b : Nat)) ∧ Below w.heap.size w w' := by
  subst hs
  exact dopen_any k.dk
theorem Da.handle (hg : Gl w0) (k : Da w0 O w d p m n v R) (x : Mg) (hw : (Lit.int .i64 x.id).wf = true) (hv : (hdSA v x).1 = v') :
    Calls Tryz.prog 15 #[.pointer (some ⟨p, 0, none⟩), .agg #[.int .i64 x.k, .int .i64 x.fr, .int .i64 x.to, .int .i64 x.id, .int .i64 x.st, .int .i64 x.a, .int .i64 x.b]] w fun e w' => ∃ a c O', e = .returned (.slice a (hdSA v x).2.length c) ∧ AnC w' O' a c (hdSA v x).2 ∧ Da w0 O' w' d p m n v' R ∧ Go_ O w O' w' := by
  refine (k.1.handle hg x hw hv rfl).mono ?_
  rintro e w' ⟨a, c, O', h1, h2, h3, h4⟩
  exact ⟨a, c, O', h1, h2, ⟨h3, k.2.step h4⟩, h4⟩
theorem Da.new (hb : Below w0.heap.size w0 w) (x y z : Int) :
    Calls Tryz.prog 14 #[.int .i64 x, .int .i64 y, .int .i64 z] w fun e w' => ∃ d p m O, e = .returned (.pointer (some ⟨d, 0, none⟩)) ∧ Da w0 O w' d p m 0 (newCh x y z) (fun _ => false) ∧ Below w.heap.size w w' ∧ (∀ i, Eo O i → w.heap.size ≤ i) ∧ w.heap.size ≤ m := by
  refine (dnew_any hb x y z).mono ?_
  rintro e w' ⟨d, p, m, O, h1, h2, h3, h4, h5, h6, h7⟩
  exact ⟨d, p, m, O, h1, ⟨h2, h3⟩, h4, h5, h7⟩
theorem Da.submit (hg : Gl w0) (k : Da w0 O w d p m n v R) (hn : n < 1000000) (o : Od) {sa : Option Addr} {sc : Nat} (hs : Sts w sa o.steps) (hsl : o.steps.length ≤ 9223372036854775807) (hw : (Lit.int .i64 o.id).wf = true) {e0 : Int} (he : begE v o = e0) (hv : begS v o = v') (hR : subR R e0 o.id = R') {xs : List Mg} (hx : begA v o = xs) :
    Calls Tryz.prog 7 #[.pointer (some ⟨d, 0, none⟩), .agg #[.int .i64 o.id, .int .i64 o.item, .int .i64 o.qty, .int .i64 o.client, .int .i64 o.price, .slice sa o.steps.length sc]] w fun e w' => ∃ a c O', e = .returned (.tuple #[.slice a xs.length c, .int .i64 e0]) ∧ AnC w' O' a c xs ∧ Da w0 O' w' d p m (n + 1) v' R' ∧ GoD O m w O' w' := by
  subst he hv hR hx
  refine (dsub_any hg k.1 k.2 hn o hs hsl hw).mono ?_
  rintro e w' ⟨a, c, O', h1, h2, h3, h4, h5⟩
  exact ⟨a, c, O', h1, h2, ⟨h3, h4⟩, h5⟩
/-- A block beside the desk. -/
theorem Abc.sub {k : Nat} {o : Obj} (h : Abc w O k o) (hm : k ≠ m) (g : GoD O m w O' w') : Abc w' O' k o :=
  ⟨g.2.block _ _ h.1 (fun e => e.elim h.2 hm), fun e => (g.1 k e).elim h.2 (fun e => by have := (Array.getElem?_eq_some_iff.1 h.1).1; omega)⟩
end
end Go.Proofs.YtnffgamekhedkaaGreatDoor
/-
  The law's awake, of a desk.
-/
namespace Go.Proofs.YtnffgamekhedkaaGreatDoor
open Go.ChangeShapes Go.WideShapes Go.ChangeAt Go.RowKit Go.Maps Sg Bl

def dwA : Od := ⟨7, 0, 1, 0, 1, [(6, 1)]⟩
def dwB : Od := ⟨8, 0, 0, 0, 0, []⟩
def dwV : Ch := begS (newCh 5 50 3) dwA
def dwR : Int → Bool := subR (subR (fun _ => false) 0 7) 1 8
theorem dw_1 : begE (newCh 5 50 3) dwA = 0 := by kernel_rfl
theorem dw_2 : begE dwV dwB = 1 := by kernel_rfl
theorem dw_3 : begS dwV dwB = dwV := by unfold begS; rw [dw_2, if_neg (by decide)]
theorem dw_4 : begA dwV dwB = [] := by unfold begA; rw [dw_2, if_neg (by decide)]
theorem dw_t : telL dwV dwR 7 = [55, 58, 32, 102, 111, 114, 119, 97, 114, 100, 32, 48, 47, 49] := by kernel_rfl
theorem dw_s : stD dwV dwR 8 = 8 := by kernel_rfl
theorem dw_o : opnD dwV (allF (stD dwV dwR) 1000) = 1 := by kernel_rfl
set_option maxRecDepth 100000 in
set_option maxHeartbeats 2000000 in
theorem dwake_any (w : World) (hg : Gl w) : Calls Tryz.prog 13 #[] w fun e w' => e = .returned (.bool true) ∧ Below w.heap.size w w' := by
  have N := Da.new (w0 := w) (Below.refl _ _) 5 50 3
  have A1 := dw_1
  have A2 := dw_2
  have A3 := dw_3
  have A4 := dw_4
  have A5 := dw_t
  have A6 := dw_s
  have A7 := dw_o
  have hq : ((txB [55, 58, 32, 102, 111, 114, 119, 97, 114, 100, 32, 48, 47, 49]).toList == [55, 58, 32, 102, 111, 114, 119, 97, 114, 100, 32, 48, 47, 49]) = true := by rw [txB_lit]; rfl
  have hV : begS (newCh 5 50 3) dwA = dwV := rfl
  have S1 : Hid (∀ u d p m O, Da w O u d p m 0 (newCh 5 50 3) (fun _ => false) → Calls Tryz.prog 7 #[.pointer (some ⟨d, 0, none⟩), .agg #[.int .i64 7, .int .i64 0, .int .i64 1, .int .i64 0, .int .i64 1, .slice (some ⟨u.heap.size, 0, none⟩) 1 1]] (u.alloc (.cells #[.int .i64 6, .int .i64 1] 47)) fun e w' => ∃ y O', e = .returned (.tuple #[y, .int .i64 0]) ∧ Da w O' w' d p m 1 dwV (subR (fun _ => false) 0 7)) := fun u d p m O k => by
    have hr : (u.alloc (.cells #[.int .i64 6, .int .i64 1] 47)).heap[u.heap.size]? = some (.cells #[.int .i64 6, .int .i64 1] 47 (0, 0)) := World.alloc_heap_new u _
    have hst : Sts (u.alloc (.cells #[.int .i64 6, .int .i64 1] 47)) (some ⟨u.heap.size, 0, none⟩) dwA.steps := .inr ⟨_, _, rfl, fun i hi => by
      have e : i = 0 := by simp [dwA] at hi; omega
      subst e
      exact ⟨by rw [cell_of hr]; rfl, by rw [cell_of hr]; rfl⟩⟩
    refine ((k.on ((Below.refl _ _).alloc (Nat.le_refl _) _)).submit hg (by decide) dwA (sc := 1) hst (by decide) (by decide) A1 hV rfl rfl).mono ?_
    rintro e w' ⟨a, c, O', h1, h2, h3, h4⟩
    exact ⟨_, O', h1, h3⟩
  have S2 : Hid (∀ u d p m O, Da w O u d p m 1 dwV (subR (fun _ => false) 0 7) → Calls Tryz.prog 7 #[.pointer (some ⟨d, 0, none⟩), .agg #[.int .i64 8, .int .i64 0, .int .i64 0, .int .i64 0, .int .i64 0, .slice none 0 0]] u fun e w' => ∃ y O', e = .returned (.tuple #[y, .int .i64 1]) ∧ Da w O' w' d p m 2 dwV dwR) := fun u d p m O k => by
    refine (k.submit hg (by decide) dwB (sa := none) (sc := 0) (.inl rfl) (by decide) (by decide) A2 A3 rfl A4).mono ?_
    rintro e w' ⟨a, c, O', h1, h2, h3, h4⟩
    exact ⟨_, O', h1, h3⟩
  have S3 : Hid (∀ u d p m O, Da w O u d p m 2 dwV dwR → Below w.heap.size w u ∧ (∀ u', Below u.heap.size u u' → Calls Tryz.prog 10 #[.pointer (some ⟨d, 0, none⟩), .int .i64 7] u' fun e w' => e = .returned (.string (txB [55, 58, 32, 102, 111, 114, 119, 97, 114, 100, 32, 48, 47, 49])) ∧ Below u.heap.size u w') ∧ (∀ u', Below u.heap.size u u' → Calls Tryz.prog 9 #[.pointer (some ⟨d, 0, none⟩), .int .i64 8] u' fun e w' => e = .returned (.int .i64 8) ∧ Below u.heap.size u w') ∧ (∀ u', Below u.heap.size u u' → Calls Tryz.prog 11 #[.pointer (some ⟨d, 0, none⟩)] u' fun e w' => e = .returned (.int .i64 1) ∧ Below u.heap.size u w')) := fun u d p m O k =>
    ⟨k.1.2, fun u' h => ((k.on h).tell hg (by decide) A5).mono (fun _ _ ⟨e1, e2⟩ => ⟨e1, bel_on' h e2⟩), fun u' h => ((k.on h).status (by decide) A6).mono (fun _ _ ⟨e1, e2⟩ => ⟨e1, bel_on' h e2⟩), fun u' h => ((k.on h).openN A7).mono (fun _ _ ⟨e1, e2⟩ => ⟨e1, bel_on' h e2⟩)⟩
  clear A1 A2 A3 A4 A5 A6 A7 hg hV
  generalize newCh 5 50 3 = v0 at *
  generalize dwV = v1 at *
  generalize subR (fun _ => false) 0 7 = R1 at *
  generalize dwR = R2 at *
  generalize txB [55, 58, 32, 102, 111, 114, 119, 97, 114, 100, 32, 48, 47, 49] = T at *
  go_enter Tryz.func13, Tryz.ntmps13
  go_wp2_with (first
    | (go_at_call 14; refine N.mono ?_; clear N; rintro e u1 ⟨d, p, m, O, rfl, h1, -, -, -⟩; have B1 := S1.out u1 d p m O h1; clear h1 S1)
    | (go_at_call 7; refine B1.mono ?_; clear B1; rintro e u2 ⟨y1, O1, rfl, h1⟩; have B2 := S2.out u2 d p m O1 h1; clear h1 S2)
    | (go_at_call 7; refine B2.mono ?_; clear B2; rintro e u3 ⟨y2, O2, rfl, h1⟩; obtain ⟨b0, b1, b2, b3⟩ := S3.out u3 d p m O2 h1; have C1 := b1 _ (Below.refl _ _); have C2 := hide b2; have C3 := hide b3; have HB := hide b0; clear h1 S3 b0 b1 b2 b3)
    | (go_at_call 10; refine C1.mono ?_; clear C1; rintro e u4 ⟨rfl, h1⟩; have D2 := C2.out _ h1; clear h1 C2)
    | (go_at_call 9; refine D2.mono ?_; clear D2; rintro e u5 ⟨rfl, h1⟩; have D3 := C3.out _ h1; clear h1 C3)
    | (go_at_call 11; refine D3.mono ?_; clear D3; rintro e u6 ⟨rfl, h1⟩; have HX := hide (bel_on' HB.out h1); clear h1))
  go_ret
  exact ⟨rfl, HX.out⟩
end Go.Proofs.YtnffgamekhedkaaGreatDoor
/-
  DeskLets: the walk.
-/
namespace Go.Proofs.YtnffgamekhedkaaGreatDoor
open Go.ChangeShapes Go.WideShapes Go.ChangeAt Go.RowKit Go.Maps Sg Bl

/-- The desk, whosoever its blocks. -/
def DX (w u : World) (d p m c : Nat) (v : Ch) (R : Int → Bool) : Prop := ∃ O, Da w O u d p m c v R
section
variable {w u u' : World} {d p m c k : Nat} {v v' : Ch} {R R' : Int → Bool}
theorem DX.bel (h : DX w u d p m c v R) : Below w.heap.size w u := by
  obtain ⟨O, h⟩ := h
  exact h.1.2
theorem DX.on (h : DX w u d p m c v R) (hb : Below u.heap.size u u') : DX w u' d p m c v R := by
  obtain ⟨O, h⟩ := h
  exact ⟨O, h.on hb⟩
theorem DX.status (h : DX w u d p m c v R) {x : Int} (hw : (Lit.int .i64 x).wf = true) {s : Int} (hs : stD v R x = s) : Calls Tryz.prog 9 #[.pointer (some ⟨d, 0, none⟩), .int .i64 x] u fun e u' => e = .returned (.int .i64 s) ∧ DX w u' d p m c v R := by
  obtain ⟨O, h1⟩ := id h
  exact (h1.status hw hs).mono (fun _ _ ⟨e1, e2⟩ => ⟨e1, h.on e2⟩)
theorem DX.openN (h : DX w u d p m c v R) {b : Nat} (hs : opnD v (allF (stD v R) 1000) = b) {z : Int} (hz : z = (b : Int)) : Calls Tryz.prog 11 #[.pointer (some ⟨d, 0, none⟩)] u fun e u' => e = .returned (.int .i64 z) ∧ DX w u' d p m c v R := by
  subst hz
  obtain ⟨O, h1⟩ := id h
  exact (h1.openN hs).mono (fun _ _ ⟨e1, e2⟩ => ⟨e1, h.on e2⟩)
theorem DX.chief (h : DX w u d p m c v R) : Calls Tryz.prog 12 #[.pointer (some ⟨d, 0, none⟩)] u fun e u' => e = .returned (.pointer (some ⟨p, 0, none⟩)) ∧ u = u' := by
  obtain ⟨O, h1⟩ := h
  exact h1.chief
theorem DX.hd (hg : Gl w) (h : DX w u d p m c v R) (kk f : Int) : Calls Tryz.prog 15 #[.pointer (some ⟨p, 0, none⟩), .agg #[.int .i64 kk, .int .i64 f, .int .i64 0, .int .i64 1, .int .i64 0, .int .i64 0, .int .i64 0]] u fun e u' => (∃ y, e = .returned y) ∧ DX w u' d p m c (hdSA v ⟨kk, f, 0, 1, 0, 0, 0⟩).1 R := by
  obtain ⟨O, h1⟩ := h
  refine (h1.handle hg ⟨kk, f, 0, 1, 0, 0, 0⟩ (show (Lit.int .i64 1).wf = true by decide) rfl).mono ?_
  rintro e u' ⟨a, c, O', e1, e2, e3, e4⟩
  exact ⟨⟨_, e1⟩, O', e3⟩
theorem DX.sub (hg : Gl w) (h : DX w u d p m c v R) (hc : c < 1000000) {x : Int} (hw : (Lit.int .i64 x).wf = true) {e0 : Int} (he : begE v (ltO x) = e0) (hv : begS v (ltO x) = v') (hR : subR R e0 x = R') :
    Calls Tryz.prog 7 #[.pointer (some ⟨d, 0, none⟩), .agg #[.int .i64 x, .int .i64 0, .int .i64 1, .int .i64 0, .int .i64 1, .slice none 0 0]] u fun e u' => (∃ y, e = .returned (.tuple #[y, .int .i64 e0])) ∧ DX w u' d p m (c + 1) v' R' := by
  obtain ⟨O, h1⟩ := h
  refine (h1.submit hg hc (ltO x) (sa := none) (sc := 0) (.inl rfl) (by simp [ltO]) hw he hv hR rfl).mono ?_
  rintro e u' ⟨a, c2, O', e1, e2, e3, e4⟩
  exact ⟨⟨_, e1⟩, O', e3⟩
end
/-- .. and the law's order, in its box. -/
def LS (w u : World) (x : Int) (k d p m c : Nat) (v : Ch) (R : Int → Bool) : Prop := ∃ O, Da w O u d p m c v R ∧ Abc u O k (.cells #[.int .i64 x, .int .i64 0, .int .i64 1, .int .i64 0, .int .i64 1, .slice none 0 0] 24 (0, 0)) ∧ k ≠ m
section
variable {w u u' : World} {x : Int} {d p m c k : Nat} {v v' : Ch} {R R' : Int → Bool}
theorem LS.on (h : LS w u x k d p m c v R) (hb : Below u.heap.size u u') : LS w u' x k d p m c v R := by
  obtain ⟨O, h1, h2, h3⟩ := h
  exact ⟨O, h1.on hb, h2.on hb, h3⟩
theorem LS.dx (h : LS w u x k d p m c v R) : DX w u d p m c v R := by
  obtain ⟨O, h1, h2, h3⟩ := h
  exact ⟨O, h1⟩
theorem LS.blk (h : LS w u x k d p m c v R) : u.heap[k]? = some (.cells #[.int .i64 x, .int .i64 0, .int .i64 1, .int .i64 0, .int .i64 1, .slice none 0 0] 24 (0, 0)) := by
  obtain ⟨O, h1, h2, h3⟩ := h
  exact h2.1
theorem LS.new (h : DX w u d p m c v R) : LS w (u.alloc (.cells #[.int .i64 x, .int .i64 0, .int .i64 1, .int .i64 0, .int .i64 1, .slice none 0 0] 24)) x u.heap.size d p m c v R := by
  obtain ⟨O, h1⟩ := h
  have hm := h1.2.lt.2
  exact ⟨O, h1.on ((Below.refl _ _).alloc (Nat.le_refl _) _), ⟨World.alloc_heap_new u _, fun e => by have := (h1.1.lt e).2; omega⟩, by omega⟩
theorem LS.sub (hg : Gl w) (h : LS w u x k d p m c v R) (hc : c < 1000000) (hw : (Lit.int .i64 x).wf = true) {e0 : Int} (he : begE v (ltO x) = e0) (hv : begS v (ltO x) = v') (hR : subR R e0 x = R') {n0 : Nat} (hl : (begA v (ltO x)).length = n0) :
    Calls Tryz.prog 7 #[.pointer (some ⟨d, 0, none⟩), .agg #[.int .i64 x, .int .i64 0, .int .i64 1, .int .i64 0, .int .i64 1, .slice none 0 0]] u fun e u' => (∃ a c2, e = .returned (.tuple #[.slice a n0 c2, .int .i64 e0])) ∧ LS w u' x k d p m (c + 1) v' R' := by
  subst hl
  obtain ⟨O, h1, h2, h3⟩ := h
  refine (h1.submit hg hc (ltO x) (sa := none) (sc := 0) (.inl rfl) (by simp [ltO]) hw he hv hR rfl).mono ?_
  rintro e u' ⟨a, c2, O', e1, e2, e3, e4⟩
  exact ⟨⟨a, c2, e1⟩, O', e3, h2.sub h3 e4, h3⟩
theorem LS.status (h : LS w u x k d p m c v R) (hw : (Lit.int .i64 x).wf = true) {s : Int} (hs : stD v R x = s) : Calls Tryz.prog 9 #[.pointer (some ⟨d, 0, none⟩), .int .i64 x] u fun e u' => e = .returned (.int .i64 s) ∧ LS w u' x k d p m c v R := by
  obtain ⟨O, h1, h2, h3⟩ := id h
  exact (h1.status hw hs).mono (fun _ _ ⟨e1, e2⟩ => ⟨e1, h.on e2⟩)
end
/-- A box's six cells. -/
def Six (u : World) (k : Nat) (x : Int) : Prop := u.cell? ⟨k, 0, none⟩ = some (.int .i64 x) ∧ u.cell? ⟨k, 1, none⟩ = some (.int .i64 0) ∧ u.cell? ⟨k, 2, none⟩ = some (.int .i64 1) ∧ u.cell? ⟨k, 3, none⟩ = some (.int .i64 0) ∧ u.cell? ⟨k, 4, none⟩ = some (.int .i64 1) ∧ u.cell? ⟨k, 5, none⟩ = some (.slice none 0 0)
theorem LS.six {w u : World} {x : Int} {d p m c k : Nat} {v : Ch} {R : Int → Bool} (h : LS w u x k d p m c v R) : Six u k x := by
  have hx := h.blk
  refine ⟨?_, ?_, ?_, ?_, ?_, ?_⟩ <;> (rw [cell_of hx]; rfl)
/-- A round's calls. -/
def RoundC (w U : World) (x : Int) (k d p m c : Nat) (v' : Ch) (R' : Int → Bool) (n0 : Nat) (e0 e1 s : Int) : Prop :=
  Calls Tryz.prog 7 #[.pointer (some ⟨d, 0, none⟩), .agg #[.int .i64 x, .int .i64 0, .int .i64 1, .int .i64 0, .int .i64 1, .slice none 0 0]] U fun e u1 => (∃ a c2, e = .returned (.tuple #[.slice a n0 c2, .int .i64 e0])) ∧ u1.cell? ⟨k, 0, none⟩ = some (.int .i64 x) ∧
  Calls Tryz.prog 9 #[.pointer (some ⟨d, 0, none⟩), .int .i64 x] u1 fun e u2 => e = .returned (.int .i64 s) ∧ Six u2 k x ∧
  Calls Tryz.prog 7 #[.pointer (some ⟨d, 0, none⟩), .agg #[.int .i64 x, .int .i64 0, .int .i64 1, .int .i64 0, .int .i64 1, .slice none 0 0]] u2 fun e u3 => (∃ y, e = .returned (.tuple #[y, .int .i64 e1])) ∧ u3.cell? ⟨k, 0, none⟩ = some (.int .i64 x) ∧
  Calls Tryz.prog 9 #[.pointer (some ⟨d, 0, none⟩), .int .i64 x] u3 fun e u4 => e = .returned (.int .i64 s) ∧ DX w u4 d p m (c + 2) v' R'
theorem round_c {w U : World} {x : Int} {k d p m c : Nat} {v v' : Ch} {R R' : Int → Bool} {n0 : Nat} {e0 e1 s : Int} (hg : Gl w) (h : LS w U x k d p m c v R) (hc : c < 100000) (hw : (Lit.int .i64 x).wf = true)
    (he : begE v (ltO x) = e0) (hv : begS v (ltO x) = v') (hR : subR R e0 x = R') (hl : (begA v (ltO x)).length = n0) (hs : stD v' R' x = s) (he1 : begE v' (ltO x) = e1) (hv1 : begS v' (ltO x) = v') (hR1 : subR R' e1 x = R') :
    RoundC w U x k d p m c v' R' n0 e0 e1 s := by
  refine (h.sub hg (by omega) hw he hv hR hl).mono ?_
  rintro e u1 ⟨g1, h1⟩
  refine ⟨g1, h1.six.1, (h1.status hw hs).mono ?_⟩
  rintro e u2 ⟨g2, h2⟩
  refine ⟨g2, h2.six, (h2.sub hg (by omega) hw he1 hv1 hR1 rfl).mono ?_⟩
  rintro e u3 ⟨⟨a, c2, g3⟩, h3⟩
  refine ⟨⟨_, g3⟩, h3.six.1, (h3.status hw hs).mono ?_⟩
  rintro e u4 ⟨g4, h4⟩
  exact ⟨g4, h4.dx⟩
/-- The calls behind the loop, where there were too many. -/
def EndC (w u : World) (x M : Int) (d p : Nat) : Prop :=
  Calls Tryz.prog 15 #[.pointer (some ⟨p, 0, none⟩), .agg #[.int .i64 8, .int .i64 1, .int .i64 0, .int .i64 1, .int .i64 0, .int .i64 0, .int .i64 0]] u fun e u1 => (∃ y, e = .returned y) ∧
  Calls Tryz.prog 15 #[.pointer (some ⟨p, 0, none⟩), .agg #[.int .i64 11, .int .i64 1, .int .i64 0, .int .i64 1, .int .i64 0, .int .i64 0, .int .i64 0]] u1 fun e u2 => (∃ y, e = .returned y) ∧
  Calls Tryz.prog 15 #[.pointer (some ⟨p, 0, none⟩), .agg #[.int .i64 11, .int .i64 2, .int .i64 0, .int .i64 1, .int .i64 0, .int .i64 0, .int .i64 0]] u2 fun e u3 => (∃ y, e = .returned y) ∧
  Calls Tryz.prog 7 #[.pointer (some ⟨d, 0, none⟩), .agg #[.int .i64 x, .int .i64 0, .int .i64 1, .int .i64 0, .int .i64 1, .slice none 0 0]] u3 fun e u4 => (∃ y, e = .returned (.tuple #[y, .int .i64 0])) ∧
  Calls Tryz.prog 9 #[.pointer (some ⟨d, 0, none⟩), .int .i64 1] u4 fun e u5 => e = .returned (.int .i64 6) ∧
  Calls Tryz.prog 9 #[.pointer (some ⟨d, 0, none⟩), .int .i64 x] u5 fun e u6 => e = .returned (.int .i64 2) ∧
  Calls Tryz.prog 11 #[.pointer (some ⟨d, 0, none⟩)] u6 fun e u7 => e = .returned (.int .i64 M) ∧ Below w.heap.size w u7
theorem end_c {w u : World} {d p m c b n x : Nat} {v : Ch} {R : Int → Bool} {M : Int} (hg : Gl w) (h : DX w u d p m c v R) (hc : c < 100000) (hr : RG M (Lt b) n v) (hM : (b : Int) = M) (hb : 1 ≤ b) (hb2 : b ≤ 64) (hn : n ≤ 200) (hx : b < x) (hx2 : x ≤ 80) : EndC w u x M d p := by
  obtain ⟨g1, g2, g3, g4⟩ := lets_end hr hM hb hb2 hn hx hx2 (subR R 0 x)
  have hw : (Lit.int .i64 (x : Int)).wf = true := wf_of (by omega) (by omega)
  refine (h.hd hg 8 1).mono ?_
  rintro e u1 ⟨y1, h1⟩
  refine ⟨y1, (h1.hd hg 11 1).mono ?_⟩
  rintro e u2 ⟨y2, h2⟩
  refine ⟨y2, (h2.hd hg 11 2).mono ?_⟩
  rintro e u3 ⟨y3, h3⟩
  refine ⟨y3, (DX.sub hg h3 (by omega) hw g1 rfl rfl).mono ?_⟩
  rintro e u4 ⟨y4, h4⟩
  refine ⟨y4, (h4.status (x := 1) (by decide) g2).mono ?_⟩
  rintro e u5 ⟨y5, h5⟩
  refine ⟨y5, (h5.status hw g3).mono ?_⟩
  rintro e u6 ⟨y6, h6⟩
  refine ⟨y6, (h6.openN g4 hM.symm).mono ?_⟩
  rintro e u7 ⟨y7, h7⟩
  exact ⟨y7, h7.bel⟩
set_option maxRecDepth 100000 in
set_option maxHeartbeats 4000000 in
theorem deskLets_walk (a b : Int) (w : World) (_h0 : (Lit.int .i64 a).wf = true) (_h1 : (Lit.int .i64 b).wf = true) (hg : Gl w) :
    Calls Tryz.prog 4 #[.int .i64 a, .int .i64 b] w fun e w' => e = .returned (.bool true) ∧ Below w.heap.size w w' := by
  obtain ⟨ba1, ba2⟩ := um_bd a 64 (by omega) (by omega)
  obtain ⟨A, hA⟩ : ∃ A, um a 64 = A := ⟨_, rfl⟩
  rw [hA] at ba1 ba2
  unfold um at hA
  obtain ⟨bb1, bb2⟩ := um_bd b 80 (by omega) (by omega)
  obtain ⟨B, hB⟩ : ∃ B, um b 80 = B := ⟨_, rfl⟩
  rw [hB] at bb1 bb2
  unfold um at hB
  have N := Da.new (Below.refl w.heap.size w) (1 + A) 4096 3
  have R0 : Hid (RG (1 + A) (Lt 0) 0 (newCh (1 + A) 4096 3)) := RG.new (by omega) (by omega)
  have RJ := Rj_new (M := 1 + A) (by omega)
  rw [← RJ] at N
  generalize newCh (1 + A) 4096 3 = v0 at *
  clear _h0 _h1 RJ
  go_enter Tryz.func4, Tryz.ntmps4
  go_wp2_with fail
  refine N.mono ?_
  clear N
  rintro e w1 ⟨d, p, m, O0, rfl, k0, -, -, -⟩
  have K0 := hide k0
  clear k0
  go_wp2_with fail
  go_loopw [29] (fun i wr => ∃ (j c q : Nat) (v : Ch), i = .int .i64 j ∧ (j : Int) ≤ 1 + B ∧ c ≤ 2 * j ∧ q ≤ j ∧ (q : Int) ≤ 1 + A ∧ (q = j ∨ (q : Int) = 1 + A) ∧ Hid (DX w wr d p m c v (Rj (1 + A) j)) ∧ Hid (RG (1 + A) (Lt q) (2 * q) v)) (fun i _ => 80 - (Go.RowKit.intOf i).toNat)
  case atStart => exact ⟨0, 0, 0, _, rfl, by omega, by omega, by omega, by omega, .inl rfl, ⟨_, K0.out⟩, R0⟩
  case round =>
    obtain ⟨j, c, q, v, rfl, hj, hc, hqj, hqA, hor, HK, HF⟩ := hrel
    clear K0 R0
    by_cases hlt : (j : Int) < 1 + B
    · have LN := LS.new (x := 1 + (j : Int)) HK.out
      have hw : (Lit.int .i64 (1 + (j : Int))).wf = true := wf_of (by omega) (by omega)
      by_cases hin : (j : Int) < 1 + A
      · obtain rfl : q = j := by omega
        obtain ⟨e1, e2, e3⟩ := HF.out.begin (x := 1 + (q : Int)) (by omega) (by omega) (Lt_no (by omega)) (by rw [way_Lt (by omega)]; exact hin) (by omega)
        rw [Lt_step] at e2
        have hl : Lt (q + 1) (1 + (q : Int)) = some (ltL (1 + (q : Int))) := Lt_in (by omega) (by omega)
        obtain ⟨f1, f2, -⟩ := e2.twice (by omega) (by omega) hl
        obtain ⟨r1, r2⟩ := Rj_in hin
        have hs : stD (begS v (ltO (1 + (q : Int)))) (Rj (1 + A) (q + 1)) (1 + (q : Int)) = 2 := by
          unfold stD
          rw [(e2.st hl).1, lt_st (by omega) (by omega), if_neg (fun e => by cases e.1)]
        have RC := round_c hg LN (by omega) hw e1 rfl r1 e3 hs f1 f2 r2
        have HF' := hide (show RG (1 + A) (Lt (q + 1)) (2 * (q + 1)) (begS v (ltO (1 + (q : Int)))) from e2)
        generalize begS v (ltO (1 + (q : Int))) = v' at *
        unfold RoundC at RC
        clear LN e1 e2 e3 f1 f2 hl r1 r2 hs hw HK HF
        go_wp2_with (first
          | (go_at_call 7; refine RC.mono ?_; clear RC; rintro e u1 ⟨⟨a1, c1, rfl⟩, z0, h1⟩; have T1 := h1; clear h1)
          | (go_at_call 9; refine T1.mono ?_; clear T1 z0; rintro e u2 ⟨rfl, ⟨z0, z1, z2, z3, z4, z5⟩, h1⟩; have S2 := h1; clear h1)
          | (go_at_call 7; refine S2.mono ?_; clear S2 z0 z1 z2 z3 z4 z5; rintro e u3 ⟨⟨y3, rfl⟩, z0, h1⟩; have T2 := h1; clear h1)
          | (go_at_call 9; refine T2.mono ?_; clear T2 z0; rintro e u4 ⟨rfl, h1⟩; have HX := hide h1; clear h1))
        go_roundw
        case rel => exact ⟨q + 1, c + 2, q + 1, v', by go_num, by omega, by omega, by omega, by omega, .inl rfl, HX, HF'⟩
        case measure => simp [Go.RowKit.intOf]; omega
      · have hqe : (q : Int) = 1 + A := by omega
        have hl : Lt q (1 + (j : Int)) = none := Lt_no (by omega)
        obtain ⟨e1, e2, e3⟩ := HF.out.full (x := 1 + (j : Int)) (by omega) (by omega) hl (by rw [way_Lt (by omega)]; omega)
        obtain ⟨r1, r2⟩ := Rj_out (M := 1 + A) (j := j) (by omega) (by omega)
        have hs : stD v (Rj (1 + A) (j + 1)) (1 + (j : Int)) = 8 := by
          unfold stD
          rw [HF.out.st0 hl, if_pos ⟨rfl, by unfold Rj; rw [decide_eq_true_eq]; omega⟩]
        have RC := round_c hg LN (by omega) hw e1 e2 r1 (n0 := 0) (by rw [e3]; rfl) hs e1 e2 r2
        unfold RoundC at RC
        clear LN e1 e2 e3 hl r1 r2 hs hw HK
        go_wp2_with (first
          | (go_at_call 7; refine RC.mono ?_; clear RC; rintro e u1 ⟨⟨a1, c1, rfl⟩, z0, h1⟩; have T1 := h1; clear h1)
          | (go_at_call 9; refine T1.mono ?_; clear T1 z0; rintro e u2 ⟨rfl, ⟨z0, z1, z2, z3, z4, z5⟩, h1⟩; have S2 := h1; clear h1)
          | (go_at_call 7; refine S2.mono ?_; clear S2 z0 z1 z2 z3 z4 z5; rintro e u3 ⟨⟨y3, rfl⟩, z0, h1⟩; have T2 := h1; clear h1)
          | (go_at_call 9; refine T2.mono ?_; clear T2 z0; rintro e u4 ⟨rfl, h1⟩; have HX := hide h1; clear h1))
        go_roundw
        case rel => exact ⟨j + 1, c + 2, q, v, by go_num, by omega, by omega, by omega, by omega, .inr hqe, HX, HF⟩
        case measure => simp [Go.RowKit.intOf]; omega
    · have hjB : 1 + B = (j : Int) := by omega
      have AW : Hid (∀ u, Below w.heap.size w u → Calls Tryz.prog 13 #[] u fun e w' => e = .returned (.bool true) ∧ Below w.heap.size w w') := fun u hu => (dwake_any u (hg.on hu)).mono (fun _ _ ⟨e1, e2⟩ => ⟨e1, bel_on' hu e2⟩)
      by_cases hle : 1 + B ≤ 1 + A
      · have OP := HK.out.openN (lets_open (R := Rj (1 + A) j) HF.out (by omega)) (z := 1 + B) (by omega)
        clear HK HF hg hjB
        go_wp2_with (first
          | (go_at_call 11; refine OP.mono ?_; clear OP; rintro e u1 ⟨rfl, h1⟩; have A1 := AW.out _ h1.bel; clear h1 AW)
          | (go_at_call 13; refine A1.mono ?_; clear A1; rintro e u2 ⟨rfl, hb⟩; have HX := hide hb; clear hb))
        go_ret
        exact ⟨rfl, HX.out⟩
      · have OP := HK.out.openN (lets_open (R := Rj (1 + A) j) HF.out (by omega)) (z := 1 + A) (by omega)
        have CE : Hid (∀ u, DX w u d p m c v (Rj (1 + A) j) → Calls Tryz.prog 12 #[.pointer (some ⟨d, 0, none⟩)] u (fun e u' => e = .returned (.pointer (some ⟨p, 0, none⟩)) ∧ u = u') ∧ EndC w u (1 + B) (1 + A) d p) := fun u h => ⟨h.chief, by rw [hjB]; exact end_c hg h (by omega) HF.out (by omega) (by omega) (by omega) (by omega) (by omega) (by omega)⟩
        unfold EndC at CE
        clear HK HF hg hjB
        go_wp2_with (first
          | (go_at_call 11; refine OP.mono ?_; clear OP; rintro e u1 ⟨rfl, h1⟩; obtain ⟨C1, H1⟩ := CE.out _ h1; clear h1 CE)
          | (go_at_call 12; refine C1.mono ?_; clear C1; rintro e u2 ⟨rfl, rfl⟩)
          | (go_at_call 15; refine H1.mono ?_; clear H1; rintro e u3 ⟨⟨y3, rfl⟩, h1⟩; have H2 := h1; clear h1)
          | (go_at_call 15; refine H2.mono ?_; clear H2; rintro e u4 ⟨⟨y4, rfl⟩, h1⟩; have H3 := h1; clear h1)
          | (go_at_call 15; refine H3.mono ?_; clear H3; rintro e u5 ⟨⟨y5, rfl⟩, h1⟩; have S1 := h1; clear h1)
          | (go_at_call 7; refine S1.mono ?_; clear S1; rintro e u6 ⟨⟨y6, rfl⟩, h1⟩; have T1 := h1; clear h1)
          | (go_at_call 9; refine T1.mono ?_; clear T1; rintro e u7 ⟨rfl, h1⟩; have T2 := h1; clear h1)
          | (go_at_call 9; refine T2.mono ?_; clear T2; rintro e u8 ⟨rfl, h1⟩; have O2 := h1; clear h1)
          | (go_at_call 11; refine O2.mono ?_; clear O2; rintro e u9 ⟨rfl, h1⟩; have A1 := AW.out _ h1; clear h1 AW)
          | (go_at_call 13; refine A1.mono ?_; clear A1; rintro e u10 ⟨rfl, hb⟩; have HX := hide hb; clear hb))
        go_ret
        exact ⟨rfl, HX.out⟩
end Go.Proofs.YtnffgamekhedkaaGreatDoor
