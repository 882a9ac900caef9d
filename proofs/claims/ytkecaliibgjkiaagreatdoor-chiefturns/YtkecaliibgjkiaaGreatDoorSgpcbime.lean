/-
  Own texts put together: CgI, CgO, CgP, CgS, CgZ, CiF, ZcTur.
-/
import Derived.Test.YtkecaliibgjkiaaGreatDoorSgbcjool
import Derived.Test.YtkecaliibgjkiaaGreatDoorSgnlagja
import Derived.Test.YtkecaliibgjkiaaGreatDoorSgdinpkf
import Derived.Test.YtkecaliibgjkiaaGreatDoorSghagpla
import Derived.Test.YtkecaliibgjkiaaGreatDoorSggjnjid
/-
  Contracts of the chief's forget and New.
-/
namespace Go.Proofs.YtkecaliibgjkiaaGreatDoor
open Go.ChangeShapes Go.WideShapes Go.ChangeAt Go.RowKit Go.Shelf Go.Maps Sg Bl

attribute [local go_sem] Oper.semAt_some

/-- All bells of L are cut. -/
def cutsH (h : Int → Int) (L : List Int) : Int → Int := L.foldl cutH h
theorem cuts_at : ∀ (L : List Int) (h : Int → Int) (x : Int), cutsH h L x = if x ∈ L then 0 else h x
  | [], h, x => by simp [cutsH]
  | y :: L, h, x => by
    show cutsH (cutH h y) L x = _
    rw [cuts_at L]
    by_cases h1 : x ∈ L
    · rw [if_pos h1, if_pos (by simp [h1])]
    · rw [if_neg h1]
      by_cases h2 : x = y
      · subst h2
        rw [if_pos (by simp)]
        exact Bl.upd_same _ _ _
      · rw [if_neg (by simp [h1, h2])]
        exact Bl.upd_other _ _ h2
theorem cuts_snoc (h : Int → Int) (L : List Int) (x : Int) : cutsH h (L ++ [x]) = cutH (cutsH h L) x := by unfold cutsH; rw [List.foldl_append]; rfl
theorem cuts_all {t : Int} {h : Int → Int} (g : GoodT t h) : cutsH h (idsL h) = fun _ => 0 := by
  funext x
  rw [cuts_at]
  split
  · rfl
  · rename_i h1
    cases e : decide (h x = 0) with
    | true => exact of_decide_eq_true e
    | false => exact absurd ((mem_idsL g.at_ x).2 (of_decide_eq_false e)) h1
/-- What forget's loop has, pre being cut. -/
def FgI (B : Nat) (E : Nat → Prop) (w w1 : World) (p bt b' : Nat) (t : Int) (h : Int → Int) (m r : Int) (qv : Value) (pre : List Int) (W : World) : Prop :=
  Bt B E W bt t (cutsH h pre) 999 ∧ W.heap[p]? = some (.cells #[.int .i64 m, .int .i64 r, qv, .map (some b'), .pointer (some ⟨bt, 0, none⟩)] 50 (0, 0)) ∧ Gd.Pu.Pa.Mx ptX Tryz.prog 3 W b' 999 (fun _ => none) ∧ Boxed W w.heap.size 28 (.pointer (some ⟨p, 0, none⟩)) ∧ Rg.Kept (fun i _ => E i) w1 W
theorem FgI.kept {B : Nat} {E : Nat → Prop} {w w1 W W' : World} {p bt b' : Nat} {t : Int} {h : Int → Int} {m r : Int} {qv : Value} {pre : List Int} {F : Nat → Obj → Prop} (hE : ∀ k, E k → k < w.heap.size) (hp : p < w.heap.size) (hs : w.heap.size < w1.heap.size) (hb : b' < w1.heap.size) (k : FgI B E w w1 p bt b' t h m r qv pre W) (hk : Rg.Kept F W W') (hF : ∀ k o, F k o → w1.heap.size ≤ k) : FgI B E w w1 p bt b' t h m r qv pre W' := by
  obtain ⟨k1, k2, k3, k4, k5⟩ := k
  have far : ∀ k o, k < w1.heap.size → ¬ F k o := fun k o hl e => by have := hF k o e; omega
  exact ⟨k1.kept hk (fun k o e => far k o (by have := hE k e; omega)), hk.block _ _ k2 (far p _ (by omega)), k3.kept hk (fun o => far b' o hb), hk.block _ _ k4 (far _ _ hs), ⟨hk.os.trans k5.os, hk.tape.trans k5.tape, hk.output.trans k5.output, Nat.le_trans k5.size hk.size, fun k o ho hx => hk.block k o (k5.block k o ho hx) (far k o (Array.getElem?_eq_some_iff.1 ho).1)⟩⟩
theorem FgI.own {B : Nat} {E : Nat → Prop} {w w1 : World} {p bt b' : Nat} {t : Int} {h : Int → Int} {m r : Int} {qv : Value} (hE : ∀ k, E k → k < w.heap.size) (hp : p < w.heap.size) (hs : w.heap.size < w1.heap.size) (hb : b' < w1.heap.size) : OwnFrom w1.heap.size (FgI B E w w1 p bt b' t h m r qv) := fun _ _ _ row hs' hg hr =>
  hs'.kept hE hp hs hb (F := fun i _ => row = some i) (Rg.Kept.grown hg (fun _ _ e => e)) (fun k _ e => (hr k e).1)
set_option maxRecDepth 100000 in
set_option maxHeartbeats 1000000 in
theorem cforget_any {B : Nat} {E : Nat → Prop} {w : World} {p bt : Nat} {t : Int} {h : Int → Int} {m r : Int} {qv x3 : Value} (hb : w.heap[p]? = some (.cells #[.int .i64 m, .int .i64 r, qv, x3, .pointer (some ⟨bt, 0, none⟩)] 50 (0, 0))) (kb : Bt B E w bt t h 999) (hp : ¬ E p) :
    Calls Tryz.prog 17 #[.pointer (some ⟨p, 0, none⟩)] w fun e w' => (∃ x, e = .returned x) ∧ ∃ b', (w.heap.size ≤ b' ∧ b' < w'.heap.size) ∧ w'.heap[p]? = some (.cells #[.int .i64 m, .int .i64 r, qv, .map (some b'), .pointer (some ⟨bt, 0, none⟩)] 50 (0, 0)) ∧ Gd.Pu.Pa.Mx ptX Tryz.prog 3 w' b' 999 (fun _ => none) ∧ Bt B E w' bt t (fun _ => 0) 999 ∧ Rg.Kept (fun i _ => i = p ∨ E i) w w' := by
  refine (callsIn_wide (n := 5)).1 ?_
  have hpl : p < w.heap.size := (Array.getElem?_eq_some_iff.1 hb).1
  have hEl : ∀ k, E k → k < w.heap.size := fun k e => (kb.1 k e).2
  obtain ⟨W0, hW0⟩ : ∃ W0, W0 = w.setCell ⟨p, 3, none⟩ (.map (some (w.heap.size + 1))) := ⟨_, rfl⟩
  obtain ⟨W1, hW1⟩ : ∃ W1, W1 = W0.alloc (.cells #[.pointer (some ⟨p, 0, none⟩)] 28) := ⟨_, rfl⟩
  obtain ⟨U, hU⟩ : ∃ U, U = W1.alloc (.map #[] 0) := ⟨_, rfl⟩
  have z0 : W0.heap.size = w.heap.size := by rw [hW0]; simp
  have z1 : W1.heap.size = w.heap.size + 1 := by rw [hW1]; simp [z0]
  have zU : U.heap.size = w.heap.size + 2 := by rw [hU]; simp [z1]
  have k0 : Rg.Kept (fun i _ => i = p) w W0 := by rw [hW0]; exact Rg.Kept.setCell (a := ⟨p, 3, none⟩) _ (fun _ => rfl)
  have hb2 : Below W0.heap.size W0 U := by rw [hU, hW1]; exact ((Below.refl _ _).alloc (Nat.le_refl _) _).alloc (by simp) _
  have hp0 : W0.heap[p]? = some (.cells #[.int .i64 m, .int .i64 r, qv, .map (some (w.heap.size + 1)), .pointer (some ⟨bt, 0, none⟩)] 50 (0, 0)) := by
    rw [hW0, heap_setCell_same _ _ _ _ _ _ hb]
    rfl
  have hpU := (hb2.block p (by omega)).trans hp0
  have hbxU : Boxed U w.heap.size 28 (.pointer (some ⟨p, 0, none⟩)) := by
    show U.heap[w.heap.size]? = _
    rw [hU, hW1, ← z0]
    exact (Below.heap_alloc _ _ _ (by simp)).trans (World.alloc_heap_new W0 _)
  have kU : Rg.Kept (fun i _ => i = p ∨ E i) w U := (k0.mono (fun _ _ e => .inl e)).trans (Rg.Kept.of_below hb2)
  have kbU : Bt B E U bt t h 999 := (kb.kept k0 (fun k _ e e2 => hp (e2 ▸ e))).on hb2
  have mU : Gd.Pu.Pa.Mx ptX Tryz.prog 3 U (w.heap.size + 1) 999 (fun _ => none) := by
    have h1 := (Gd.Pu.Pa.Mx.new ptX Tryz.prog 3 W1).mono (show 0 ≤ 999 by decide)
    rw [← hU, z1] at h1
    exact h1
  have f3 : w.frozen? ⟨p, 3, none⟩ = false := frozen_of_row _ _ _ _ _ hb
  have c3 : w.cell? ⟨p, 3, none⟩ = some x3 := by rw [cell_of hb]; rfl
  have c4 : w.cell? ⟨p, 4, none⟩ = some (.pointer (some ⟨bt, 0, none⟩)) := by rw [cell_of hb]; rfl
  have hne : w.heap.size ≠ p := by omega
  have IDS := (callsIn_wide (n := 4)).2 (bids_any kbU (by decide))
  have GT := kb.2.2.1
  have HL : Hid ((idsL h).length ≤ 1000000) := by
    have : (idsL h).length ≤ 1000 := idsTo_len h 1000
    show (idsL h).length ≤ 1000000
    omega
  rw [hW1, hW0] at hU
  have HU := hide hU
  rw [hU] at IDS
  have HF := hide (And.intro kbU (And.intro hpU (And.intro mU hbxU)))
  have HK := hide kU
  clear hb kb hb2 hp0 k0 hbxU hpU kU kbU mU hU z0 z1 hW0 hW1
  have hmm := @run_makeMap Tryz.prog
  have hnf : ∀ (u : World) (b : Nat), (binOp BinOp.eql 68 (.func (.func 80) #[] #[.pointer (some ⟨b, 0, none⟩)]) .nilFunc).run Tryz.prog u = .ok (.bool false) u := fun _ _ => by kernel_rfl
  refine callsIn_of_wp_marks Tryz.func17 rfl trivial ?_ rfl
  simp only [Tryz.ntmps17, List.size_toArray, List.length_cons, List.length_nil, Nat.reduceAdd, Nat.reduceSub, Array.replicate_succ, Array.replicate_zero, List.push_toArray, List.append_toArray, List.nil_append, List.cons_append]
  gi_wp2_with fail
  refine ⟨trivial, IDS.mono ?_⟩
  rintro e w1 ⟨Bi, v0, rfl, hb1, hit, hbi, hvr⟩
  rw [← HU.out] at hb1 hbi hvr
  clear IDS
  have hs1 := hb1.size
  obtain ⟨kbU, hpU, mU, hbxU⟩ := HF.out
  have i0 : FgI B E w w1 p bt (w.heap.size + 1) t h m r qv [] w1 := ⟨kbU.on hb1, (hb1.block _ (by omega)).trans hpU, mU.on hb1, (hb1.block _ (by omega)).trans hbxU, Rg.Kept.refl _ _⟩
  have hno : NoE (fun k _ => E k) Bi v0 := ⟨fun cs f e => by have := hEl _ e; omega, fun k hk o e => by have := hvr k hk; have := hEl _ e; omega⟩
  have ES := bell_seq (E := fun k _ => E k) HL.out hit hno (fun k o h1 e => by have := hEl _ e; omega)
  have HK1 : Hid (Rg.Kept (fun i _ => i = p ∨ E i) w w1) := HK.out.trans (Rg.Kept.of_below hb1)
  have HI := hide i0
  clear hb1 hit hno hbi hvr kbU hpU mU hbxU i0 HF HK f3 c3 c4
  gi_wp2_with fail
  refine Rg.range_acts (E := fun k _ => E k) (enc := encI) (L := idsL h) (I := FgI B E w w1 p bt (w.heap.size + 1) t h m r qv) (Ix := fun _ _ _ => False)
    (Ax := fun x a' _ => a' = { tmps := #[.pointer (some ⟨p, 0, none⟩), .pointer (some ⟨w.heap.size, 0, none⟩), .int .i64 x, .pointer (some ⟨p, 0, none⟩), .map (some (w.heap.size + 1)), .pointer (some ⟨p, 0, none⟩), .pointer (some ⟨p, 3, none⟩), .pointer (some ⟨p, 0, none⟩), .pointer (some ⟨p, 0, none⟩), .pointer (some ⟨p, 4, none⟩), .pointer (some ⟨bt, 0, none⟩), .func (.func 80) #[] #[.pointer (some ⟨Bi, 0, none⟩)], .int .i64 x, undef, undef, undef, undef, undef, undef], defers := [] })
    (gf := 80) (lb := #[.pointer (some ⟨Bi, 0, none⟩)]) rfl (enters_of Tryz.func80 (by kernel_rfl) rfl) ES (fun k o h1 h2 h3 => by have := hEl _ h3; omega) rfl
    (FgI.own hEl hpl (by omega) (by omega)) (fun c' W0 W W' row hs hg hr => hs.elim) (fun x a' => ?ax) HI.out ?assign ?body ?done ?stop
  case ax =>
    intro _ W W' row hs hg hr
    exact hs
  case assign =>
    intro l pre x W K hI hK
    have HK := hK { tmps := #[.pointer (some ⟨p, 0, none⟩), .pointer (some ⟨w.heap.size, 0, none⟩), .int .i64 x, .pointer (some ⟨p, 0, none⟩), .map (some (w.heap.size + 1)), .pointer (some ⟨p, 0, none⟩), .pointer (some ⟨p, 3, none⟩), .pointer (some ⟨p, 0, none⟩), .pointer (some ⟨p, 0, none⟩), .pointer (some ⟨p, 4, none⟩), .pointer (some ⟨bt, 0, none⟩), .func (.func 80) #[] #[.pointer (some ⟨Bi, 0, none⟩)], .int .i64 x, undef, undef, undef, undef, undef, undef], defers := [] } _ (Rg.Kept.refl _ _) hI rfl
    clear hK
    unfold encI at HK ⊢
    gi_wp2
    exact HK
  case body =>
    rintro l pre x a' W hI rfl hpq
    obtain ⟨k1, k2, k3, k4, k5⟩ := hI
    have hx : 1 ≤ x ∧ x ≤ 999 := by
      obtain ⟨q, hq⟩ := hpq
      have : x ∈ idsL h := by rw [← hq]; simp
      exact GT.at_ x ((mem_idsL GT.at_ x).1 this)
    have CU := (bcut_any k1 (wf_id hx.1 hx.2)).mono (R' := fun e w' => (∃ y, e = .returned y) ∧ Rg.Kept (fun k _ => E k) W w' ∧ FgI B E w w1 p bt (w.heap.size + 1) t h m r qv (pre ++ [x]) w') (fun e w' ⟨g1, g2, g3⟩ => by
      refine ⟨⟨_, g1⟩, g3, ?_, g3.block _ _ k2 hp, k3.kept g3 (fun _ e => by have := hEl _ e; omega), g3.block _ _ k4 (fun e => by have := hEl _ e; omega), k5.trans g3⟩
      rw [cuts_snoc]
      exact bt_tight g2)
    have c1 := k4.cell
    have c4 : W.cell? ⟨p, 4, none⟩ = some (.pointer (some ⟨bt, 0, none⟩)) := by rw [cell_of k2]; rfl
    clear k1 k2 k3 k4 k5 hpq hx
    gi_wp2_with fail
    refine ⟨trivial, rfl, (CallsIn.inRound l (callsIn_wide.2 CU)).mono ?_⟩
    rintro y w3 ⟨⟨z, rfl⟩, hz1, hz2⟩
    clear CU
    gi_wp2
    exact ⟨hz1, hz2⟩
  case done =>
    rintro D W hD hI hK
    obtain ⟨k1, k2, k3, k4, k5⟩ := hI.kept hEl hpl (by omega) (by omega) (F := fun i _ => i = D) (Rg.Kept.putObj (W := W) (.deferred none) (fun _ => rfl)) (fun k _ e => by omega)
    have FIN : Hid (∃ b', (w.heap.size ≤ b' ∧ b' < (W.putObj D (.deferred none)).heap.size) ∧ (W.putObj D (.deferred none)).heap[p]? = some (.cells #[.int .i64 m, .int .i64 r, qv, .map (some b'), .pointer (some ⟨bt, 0, none⟩)] 50 (0, 0)) ∧ Gd.Pu.Pa.Mx ptX Tryz.prog 3 (W.putObj D (.deferred none)) b' 999 (fun _ => none) ∧ Bt B E (W.putObj D (.deferred none)) bt t (fun _ => 0) 999 ∧ Rg.Kept (fun i _ => i = p ∨ E i) w (W.putObj D (.deferred none))) :=
      ⟨w.heap.size + 1, ⟨by omega, k3.lt⟩, k2, k3, by rw [cuts_all GT] at k1; exact k1, HK1.out.trans (k5.mono (fun _ _ e => .inr e))⟩
    clear k1 k2 k3 k4 k5
    gi_wp2
    refine ⟨by simp, .inl ⟨_, _, rfl, run_takeDeferred hK, ?_⟩⟩
    exact ⟨_, results_none rfl _ _ _, ⟨_, rfl⟩, FIN.out⟩
  case stop => exact fun D c pre W _ _ _ h _ => h.elim
theorem bt_low {B B' : Nat} {E : Nat → Prop} {w : World} {p : Nat} {t : Int} {h : Int → Int} {n : Nat} (k : Bt B E w p t h n) (hB : B' ≤ B) : Bt B' E w p t h n := ⟨fun i e => ⟨Nat.le_trans hB (k.1 i e).1, (k.1 i e).2⟩, k.2⟩
/-- A chief that was just made. -/
def MadeC (w : World) (v : Ch) (e : Ending) (w' : World) : Prop :=
  ∃ O p q r b bt loc, e = .returned (.pointer (some ⟨p, 0, none⟩)) ∧ Up w.heap.size O w' p v q r b bt loc ∧ Below w.heap.size w w'
theorem madec_of {w w1 w2 w3 w4 : World} {orders room tries : Int} {x3 : Value} {b' : Nat} (h1 : w1 = w.alloc (.cells #[.int .i64 (roomV room), .slice none 0 0, .int .i64 0, .bool false] 63))
    (hb2 : Below w1.heap.size w1 w2) (hz2 : w1.heap.size < w2.heap.size) (h3 : w3 = w2.alloc (.cells #[.int .i64 (mostC orders), .int .i64 (roomV room), .pointer (some ⟨w.heap.size, 0, none⟩), x3, .pointer (some ⟨w1.heap.size, 0, none⟩)] 50))
    (hb' : w3.heap.size ≤ b' ∧ b' < w4.heap.size) (hp : w4.heap[w2.heap.size]? = some (.cells #[.int .i64 (mostC orders), .int .i64 (roomV room), .pointer (some ⟨w.heap.size, 0, none⟩), .map (some b'), .pointer (some ⟨w1.heap.size, 0, none⟩)] 50 (0, 0)))
    (hm : Gd.Pu.Pa.Mx ptX Tryz.prog 3 w4 b' 999 (fun _ => none)) (hbt : Bt w1.heap.size (fun k => k = w1.heap.size) w4 w1.heap.size (clampT tries) (fun _ => 0) 999) (hk : Rg.Kept (fun i _ => i = w2.heap.size ∨ i = w1.heap.size) w3 w4) :
    MadeC w (newCh orders room tries) (.returned (.pointer (some ⟨w2.heap.size, 0, none⟩))) w4 := by
  have z1 : w1.heap.size = w.heap.size + 1 := by rw [h1]; simp
  have z3 : w3.heap.size = w2.heap.size + 1 := by rw [h3]; simp
  have hb1 : Below w.heap.size w w1 := by rw [h1]; exact (Below.refl _ _).alloc (Nat.le_refl _) _
  have hb3 : Below w2.heap.size w2 w3 := by rw [h3]; exact (Below.refl _ _).alloc (Nat.le_refl _) _
  have j0 : Jr w.heap.size w1 w.heap.size (.slice none 0 0) (roomV room) [] 0 false := by
    rw [h1]
    exact Jr.new w w.heap.size (Nat.le_refl _) (roomV room) (roomV_in room).1 (roomV_in room).2
  have j4 := (j0.on (bel_on' hb2 hb3)).kept hk (fun _ e => by omega) (fun k _ e => by simp [Value.ownBlock] at e)
  have s4 := hk.size
  refine ⟨fun x k => match x with
    | .inl 0 => k = w2.heap.size
    | .inl 1 => k = w.heap.size
    | .inl 2 => k = w1.heap.size
    | .inl 3 => k = b'
    | .inl _ => False
    | .inr _ => False, w2.heap.size, w.heap.size, .slice none 0 0, b', w1.heap.size, fun _ => none, rfl, ⟨⟨fun x k e => ?_, fun x y k e1 e2 => ?_, rfl, hp, j4, rfl, (fun k e => by simp [Value.ownBlock] at e), bt_low hbt (by omega), hm, rfl, (fun id l e => by cases e), fun _ _ => rfl⟩, newCh_good _ _ _, rfl⟩, ?_⟩
  · rcases x with (_ | _ | _ | _ | x) | x
    all_goals first | exact False.elim e | (have e : k = _ := e; omega)
  · rcases x with (_ | _ | _ | _ | x) | x
    all_goals rcases y with (_ | _ | _ | _ | y) | y
    all_goals first | rfl | exact False.elim e1 | exact False.elim e2 | (have e1 : k = _ := e1; have e2 : k = _ := e2; omega)
  · refine (bel_on' hb1 (bel_on' hb2 hb3)).trans (hk.bel ?_ (fun k _ e => ?_))
    · omega
    · omega
set_option maxHeartbeats 1000000 in
theorem cnew_any (orders room tries : Int) (w : World) :
    Calls Tryz.prog 6 #[.int .i64 orders, .int .i64 room, .int .i64 tries] w (MadeC w (newCh orders room tries)) := by
  have N := new_any room w
  have FX : Hid (∀ w1 w2, w1 = w.alloc (.cells #[.int .i64 (roomV room), .slice none 0 0, .int .i64 0, .bool false] 63) → Below w1.heap.size w1 w2 → Bt w1.heap.size (fun k => k = w1.heap.size) w2 w1.heap.size (clampT tries) (fun _ => 0) 0 → ∀ x3 w3, w3 = w2.alloc (.cells #[.int .i64 (mostC orders), .int .i64 (roomV room), .pointer (some ⟨w.heap.size, 0, none⟩), x3, .pointer (some ⟨w1.heap.size, 0, none⟩)] 50) → Calls Tryz.prog 17 #[.pointer (some ⟨w2.heap.size, 0, none⟩)] w3 fun e w' => (∃ x, e = .returned x) ∧ MadeC w (newCh orders room tries) (.returned (.pointer (some ⟨w2.heap.size, 0, none⟩))) w') := fun w1 w2 h1 h2 hbt x3 w3 h3 => by
    have hz := (hbt.1 w1.heap.size rfl).2
    have hb3 : Below w2.heap.size w2 w3 := by rw [h3]; exact (Below.refl _ _).alloc (Nat.le_refl _) _
    have hp3 : w3.heap[w2.heap.size]? = some (.cells #[.int .i64 (mostC orders), .int .i64 (roomV room), .pointer (some ⟨w.heap.size, 0, none⟩), x3, .pointer (some ⟨w1.heap.size, 0, none⟩)] 50 (0, 0)) := by rw [h3]; exact World.alloc_heap_new w2 _
    refine (cforget_any hp3 (bt_tight (hbt.on hb3)) (fun e => by omega)).mono ?_
    rintro e w4 ⟨g1, b', g2, g3, g4, g5, g6⟩
    exact ⟨g1, madec_of h1 h2 hz h3 g2 g3 g4 g5 g6⟩
  have BN := fun W => bnew_any tries W
  unfold mostC roomV at FX
  unfold roomV at N
  generalize newCh orders room tries = v0 at *
  generalize clampT tries = ct at *
  go_enter Tryz.func6, Tryz.ntmps6
  go_wp2_with (first
    | (go_at_call 15; refine N.mono ?_; clear N; rintro e w1 ⟨rfl, h1⟩; have HW1 := hide h1; clear h1)
    | (go_at_call 16; refine (BN _).mono ?_; clear BN; rintro e w2 ⟨pb, rfl, rfl, hbt, hb2⟩; have FY := FX.out _ w2 HW1.out hb2 hbt; clear hbt hb2 FX)
    | (go_at_call 17; refine (FY _ _ rfl).mono ?_; clear FY; rintro e w4 ⟨⟨y, rfl⟩, hm⟩; have HX := hide hm; clear hm))
  go_ret
  exact HX.out
end Go.Proofs.YtkecaliibgjkiaaGreatDoor
/-
  A chief that is up, above a world w0, with answers named; the law's awake.
-/
namespace Go.Proofs.YtkecaliibgjkiaaGreatDoor
open Go.ChangeShapes Go.WideShapes Go.ChangeAt Go.RowKit Go.Maps Sg Bl

theorem jr_low {B B' : Nat} {w : World} {p : Nat} {v : Value} {room : Int} {L : List ByteArray} {sure : Nat} {down : Bool} (h : Jr B w p v room L sure down) (hB : B' ≤ B) : Jr B' w p v room L sure down := ⟨h.1, Nat.le_trans hB h.2.1, own_low h.2.2.1 hB, h.2.2.2⟩
/-- The chief at p, above w0; its blocks are O's. -/
def Cu (w0 : World) (O : Pt → Nat → Prop) (w : World) (p : Nat) (v : Ch) : Prop := (∃ q r b bt loc, Up w0.heap.size O w p v q r b bt loc) ∧ Below w0.heap.size w0 w
/-- An answer, beside the chief. -/
def AnC (w : World) (O : Pt → Nat → Prop) (a : Option Addr) (c : Nat) (xs : List Mg) : Prop := (∃ B0, w.ownsRow B0 35 7 (.slice a xs.length c) xs.length (mgCells xs)) ∧ ∀ ad, a = some ad → ¬ Eo O ad.block
/-- The block k has the object o; it is none of the chief's. -/
def Abc (w : World) (O : Pt → Nat → Prop) (k : Nat) (o : Obj) : Prop := w.heap[k]? = some o ∧ ¬ Eo O k
/-- What a step leaves of the rest. -/
def Go_ (O : Pt → Nat → Prop) (w : World) (O' : Pt → Nat → Prop) (w' : World) : Prop := (∀ i, Eo O' i → growE (Eo O) w w' i) ∧ Rg.Kept (fun i _ => Eo O i) w w'
section
variable {w0 w w' : World} {O O' : Pt → Nat → Prop} {p : Nat} {v v' : Ch}
theorem Go_.of_below (hb : Below w.heap.size w w') : Go_ O w O w' := ⟨fun _ e => .inl e, Rg.Kept.of_below hb⟩
theorem Cu.on (k : Cu w0 O w p v) (hb : Below w.heap.size w w') : Cu w0 O w' p v := by
  obtain ⟨⟨q, r, b, bt, loc, h⟩, h2⟩ := k
  exact ⟨⟨q, r, b, bt, loc, h.on hb⟩, bel_on' h2 hb⟩
theorem Cu.good (k : Cu w0 O w p v) : GoodCh v := by
  obtain ⟨⟨q, r, b, bt, loc, h⟩, _⟩ := k
  exact h.g
theorem Cu.lt (k : Cu w0 O w p v) {i : Nat} (e : Eo O i) : w0.heap.size ≤ i ∧ i < w.heap.size := by
  obtain ⟨⟨q, r, b, bt, loc, h⟩, _⟩ := k
  obtain ⟨y, e⟩ := e
  exact h.k.bd y i e
theorem Cu.gl (hg : Gl w0) (k : Cu w0 O w p v) : ∀ u, Rg.Kept (fun i _ => Eo O i) w u → Gl u := fun _ h => hg.on (k.2.trans (h.bel (by obtain ⟨⟨q, r, b, bt, loc, h1⟩, _⟩ := k; exact h1.k.low) (fun i _ e => (k.lt e).1)))
theorem Abc.step {k : Nat} {o : Obj} (h : Abc w O k o) (g : Go_ O w O' w') : Abc w' O' k o :=
  ⟨g.2.block _ _ h.1 h.2, fun e => (g.1 k e).elim h.2 (fun e => by have := (Array.getElem?_eq_some_iff.1 h.1).1; omega)⟩
theorem Abc.on {k : Nat} {o : Obj} (h : Abc w O k o) (hb : Below w.heap.size w w') : Abc w' O k o := h.step (Go_.of_below hb)
theorem AnC.step {a : Option Addr} {c : Nat} {xs : List Mg} (h : AnC w O a c xs) (g : Go_ O w O' w') : AnC w' O' a c xs := by
  obtain ⟨⟨B0, h1⟩, h2⟩ := h
  refine ⟨⟨B0, own_keptR h1 g.2 (fun k _ e => by obtain ⟨x, e3, rfl⟩ := own_some e; exact h2 x e3)⟩, fun ad e e2 => ?_⟩
  rcases g.1 _ e2 with e3 | e3
  · exact h2 ad e e3
  · have := (h1.lt ad.block (by rw [e]; rfl)).2
    omega
theorem AnC.on {a : Option Addr} {c : Nat} {xs : List Mg} (h : AnC w O a c xs) (hb : Below w.heap.size w w') : AnC w' O a c xs := h.step (Go_.of_below hb)
theorem AnC.mgs {a : Option Addr} {c : Nat} {xs : List Mg} (h : AnC w O a c xs) : Mgs w a xs := by
  obtain ⟨⟨B0, h1⟩, _⟩ := h
  exact row_mgs h1
/-- Out of a step's word. -/
theorem SendR.cu {q b bt : Nat} {loc : Int → Option Nat} (k : Cu w0 O w p v) {v2 : Ch} {xs : List Mg} {e : Ending} (h : SendR w0.heap.size O w p v2 q b bt loc xs e w') : ∃ a c O', e = .returned (.slice a xs.length c) ∧ AnC w' O' a c xs ∧ Cu w0 O' w' p v2 ∧ Go_ O w O' w' := by
  obtain ⟨ra, rc, O1, r1, loc1, h1, h2, h3, h4, h5, h6, h7⟩ := h
  exact ⟨ra, rc, O1, h1, ⟨⟨_, h2⟩, h3⟩, ⟨⟨q, r1, b, bt, loc1, h4⟩, k.2.trans (h6.bel (by obtain ⟨⟨q, r, b, bt, loc, h1⟩, _⟩ := k; exact h1.k.low) (fun i _ e => (k.lt e).1))⟩, h5, h6⟩
theorem UStp.cu {q b bt : Nat} {loc : Int → Option Nat} (k : Cu w0 O w p v) {v2 : Ch} (h : UStp w0.heap.size O w p v2 q b bt loc w') : ∃ O', Cu w0 O' w' p v2 ∧ Go_ O w O' w' := by
  obtain ⟨O1, r1, loc1, h4, h5, h6, h7⟩ := h
  exact ⟨O1, ⟨⟨q, r1, b, bt, loc1, h4⟩, k.2.trans (h6.bel (by obtain ⟨⟨q, r, b, bt, loc, h1⟩, _⟩ := k; exact h1.k.low) (fun i _ e => (k.lt e).1))⟩, h5, h6⟩
theorem Cu.new (hb : Below w0.heap.size w0 w) (orders room tries : Int) :
    Calls Tryz.prog 6 #[.int .i64 orders, .int .i64 room, .int .i64 tries] w fun e w' => ∃ p O, e = .returned (.pointer (some ⟨p, 0, none⟩)) ∧ Cu w0 O w' p (newCh orders room tries) ∧ Below w.heap.size w w' ∧ ∀ i, Eo O i → w.heap.size ≤ i := by
  refine (cnew_any orders room tries w).mono ?_
  rintro e w' ⟨O, p, q, r, b, bt, loc, h1, h2, h3⟩
  have hB := hb.size
  have k2 : CkV w0.heap.size O w' p (newCh orders room tries) q r b bt loc ((newCh orders room tries).T.map lnC) :=
    ⟨fun x i e => ⟨Nat.le_trans hB (h2.k.bd x i e).1, (h2.k.bd x i e).2⟩, h2.k.dj, h2.k.op, h2.k.blk, jr_low h2.k.jr hB, h2.k.oq, h2.k.or, bt_low h2.k.bl hB, h2.k.mp, h2.k.ob, (fun id l e => by cases e), h2.k.no⟩
  exact ⟨p, O, h1, ⟨⟨q, r, b, bt, loc, k2, h2.g, h2.d⟩, bel_on' hb h3⟩, h3, fun i ⟨y, e⟩ => (h2.k.bd y i e).1⟩
theorem Cu.begin (hg : Gl w0) (k : Cu w0 O w p v) (o : Od) {sa : Option Addr} {sc : Nat} (hs : Sts w sa o.steps) (hsl : o.steps.length ≤ 9223372036854775807) (hw : (Lit.int .i64 o.id).wf = true) {n : Int} (hn : begE v o = n) (hv : begS v o = v') {xs : List Mg} (hx : begA v o = xs) :
    Calls Tryz.prog 7 #[.pointer (some ⟨p, 0, none⟩), .agg #[.int .i64 o.id, .int .i64 o.item, .int .i64 o.qty, .int .i64 o.client, .int .i64 o.price, .slice sa o.steps.length sc]] w fun e w' => ∃ a c O', e = .returned (.tuple #[.slice a xs.length c, .int .i64 n]) ∧ AnC w' O' a c xs ∧ Cu w0 O' w' p v' ∧ Go_ O w O' w' := by
  subst hn hv hx
  obtain ⟨⟨q, r, b, bt, loc, h⟩, _⟩ := id k
  refine (cbeg_any h (k.gl hg) o hs hsl hw).mono ?_
  rintro e w' ⟨x, h1, h2⟩
  obtain ⟨a, c, O', h3, h4, h5, h6⟩ := h2.cu k
  cases h3
  exact ⟨a, c, O', h1, h4, h5, h6⟩
theorem Cu.ring (hg : Gl w0) (k : Cu w0 O w p v) {id : Int} (hw : (Lit.int .i64 id).wf = true) (hv : rngS v id = v') {xs : List Mg} (hx : rngA v id = xs) :
    Calls Tryz.prog 11 #[.pointer (some ⟨p, 0, none⟩), .int .i64 id] w fun e w' => ∃ a c O', e = .returned (.slice a xs.length c) ∧ AnC w' O' a c xs ∧ Cu w0 O' w' p v' ∧ Go_ O w O' w' := by
  subst hv hx
  obtain ⟨⟨q, r, b, bt, loc, h⟩, _⟩ := _root_.id k
  exact (crng_any h (k.gl hg) hw).mono (fun _ _ h2 => h2.cu k)
theorem Cu.handle (hg : Gl w0) (k : Cu w0 O w p v) (m : Mg) (hw : (Lit.int .i64 m.id).wf = true) (hv : (hdSA v m).1 = v') {xs : List Mg} (hx : (hdSA v m).2 = xs) :
    Calls Tryz.prog 8 #[.pointer (some ⟨p, 0, none⟩), .agg #[.int .i64 m.k, .int .i64 m.fr, .int .i64 m.to, .int .i64 m.id, .int .i64 m.st, .int .i64 m.a, .int .i64 m.b]] w fun e w' => ∃ a c O', e = .returned (.slice a xs.length c) ∧ AnC w' O' a c xs ∧ Cu w0 O' w' p v' ∧ Go_ O w O' w' := by
  subst hv hx
  obtain ⟨⟨q, r, b, bt, loc, h⟩, _⟩ := _root_.id k
  exact (chandle_any h (k.gl hg) m hw).mono (fun _ _ h2 => h2.cu k)
theorem Cu.state (k : Cu w0 O w p v) {id : Int} (hw : (Lit.int .i64 id).wf = true) {n : Int} (hn : stC v id = n) :
    Calls Tryz.prog 10 #[.pointer (some ⟨p, 0, none⟩), .int .i64 id] w fun e w' => e = .returned (.int .i64 n) ∧ Below w.heap.size w w' := by
  subst hn
  obtain ⟨⟨q, r, b, bt, loc, h⟩, _⟩ := _root_.id k
  exact h.k.state hw
end
end Go.Proofs.YtkecaliibgjkiaaGreatDoor
/-
  The law's awake, of a chief.
-/
namespace Go.Proofs.YtkecaliibgjkiaaGreatDoor
open Go.ChangeShapes Go.WideShapes Go.ChangeAt Go.RowKit Go.Maps Sg Bl

theorem AnC.two {w : World} {O : Pt → Nat → Prop} {a : Option Addr} {c : Nat} {m0 m1 : Mg} (h : AnC w O a c [m0, m1]) : ∃ b off, a = some ⟨b, off, none⟩ ∧ w.cell? ⟨b, off, none⟩ = some (.int .i64 m0.k) ∧ w.cell? ⟨b, off + 7, none⟩ = some (.int .i64 m1.k) := by
  rcases h.mgs with h1 | ⟨b, off, h1, h2⟩
  · cases h1
  · exact ⟨b, off, h1, h2 0 _ rfl, h2 7 _ rfl⟩
def oA : Od := ⟨7, 0, 1, 0, 1, []⟩
def mA : Mg := ⟨8, 2, 0, 7, 0, 0, 0⟩
theorem aw_e : begE (newCh 5 50 3) oA = 0 := by kernel_rfl
theorem aw_a : begA (newCh 5 50 3) oA = [⟨6, 0, 1, 7, 0, 0, 1⟩, ⟨6, 0, 2, 7, 0, 0, 1⟩] := by kernel_rfl
theorem aw_h : (hdSA (begS (newCh 5 50 3) oA) mA).2 = [⟨10, 0, 1, 7, 0, 0, 0⟩, ⟨10, 0, 2, 7, 0, 0, 0⟩] := by kernel_rfl
theorem aw_s : stC (hdSA (begS (newCh 5 50 3) oA) mA).1 7 = 4 := by kernel_rfl
set_option maxRecDepth 100000 in
set_option maxHeartbeats 1000000 in
theorem cwake_any (w : World) (hg : Gl w) : Calls Tryz.prog 5 #[] w fun e w' => e = .returned (.bool true) ∧ Below w.heap.size w w' := by
  have N := Cu.new (w0 := w) (Below.refl _ _) 5 50 3
  have A1 := aw_e
  have A2 := aw_a
  have A3 := aw_h
  have A4 := aw_s
  generalize newCh 5 50 3 = v0 at *
  obtain ⟨v1, hv1⟩ : ∃ v1, begS v0 oA = v1 := ⟨_, rfl⟩
  rw [hv1] at A3 A4
  obtain ⟨v2, hv2⟩ : ∃ v2, (hdSA v1 mA).1 = v2 := ⟨_, rfl⟩
  rw [hv2] at A4
  have HB : Hid (∀ u p O, Cu w O u p v0 → Calls Tryz.prog 7 #[.pointer (some ⟨p, 0, none⟩), .agg #[.int .i64 7, .int .i64 0, .int .i64 1, .int .i64 0, .int .i64 1, .slice none 0 0]] u fun e w' => ∃ a c O', e = .returned (.tuple #[.slice a 2 c, .int .i64 0]) ∧ AnC w' O' a c [⟨6, 0, 1, 7, 0, 0, 1⟩, ⟨6, 0, 2, 7, 0, 0, 1⟩] ∧ Cu w O' w' p v1) := fun u p O k =>
    (k.begin hg oA (sa := none) (sc := 0) (.inl rfl) (by decide) (by decide) A1 hv1 A2).mono (fun _ _ ⟨a, c, O', e1, e2, e3, _⟩ => ⟨a, c, O', e1, e2, e3⟩)
  have HH : Hid (∀ u p O a c, Cu w O u p v1 → AnC u O a c [⟨6, 0, 1, 7, 0, 0, 1⟩, ⟨6, 0, 2, 7, 0, 0, 1⟩] → Calls Tryz.prog 8 #[.pointer (some ⟨p, 0, none⟩), .agg #[.int .i64 8, .int .i64 2, .int .i64 0, .int .i64 7, .int .i64 0, .int .i64 0, .int .i64 0]] u fun e w' => ∃ a2 c2, e = .returned (.slice a2 2 c2) ∧ (∃ b off, a2 = some ⟨b, off, none⟩ ∧ w'.cell? ⟨b, off + 7, none⟩ = some (.int .i64 10)) ∧ (∃ b off, a = some ⟨b, off, none⟩ ∧ w'.cell? ⟨b, off, none⟩ = some (.int .i64 6)) ∧ Calls Tryz.prog 10 #[.pointer (some ⟨p, 0, none⟩), .int .i64 7] w' fun e w'' => e = .returned (.int .i64 4) ∧ Below w.heap.size w w'') := fun u p O a c k h => by
    refine (k.handle hg mA (by decide) hv2 A3).mono ?_
    rintro e w' ⟨a2, c2, O2, e1, e2, e3, e4⟩
    obtain ⟨b, off, g1, g2, -⟩ := (h.step e4).two
    obtain ⟨b2, off2, g3, -, g4⟩ := e2.two
    exact ⟨a2, c2, e1, ⟨b2, off2, g3, g4⟩, ⟨b, off, g1, g2⟩, (e3.state (id := 7) (by decide) A4).mono (fun _ _ ⟨z1, z2⟩ => ⟨z1, bel_on' e3.2 z2⟩)⟩
  clear A1 A2 A3 A4 hv1 hv2 hg
  go_enter Tryz.func5, Tryz.ntmps5
  go_wp2_with (first
    | (go_at_call 6; refine N.mono ?_; clear N; rintro e u1 ⟨p, O, rfl, h1, -, -⟩; have B2 := HB.out u1 p O h1; clear h1 HB)
    | (go_at_call 7; refine B2.mono ?_; clear B2; rintro e u2 ⟨a, c, O1, rfl, h1, h2⟩; have H2 := HH.out u2 p O1 a c h2 h1; clear h1 h2 HH)
    | (go_at_call 8; refine H2.mono ?_; clear H2; rintro e u3 ⟨a2, c2, rfl, ⟨b2, o2, rfl, d2⟩, ⟨b1, o1, rfl, d1⟩, h3⟩; have S2 := h3; clear h3)
    | (go_at_call 10; refine S2.mono ?_; clear S2; rintro e u4 ⟨rfl, hb⟩; have HX := hide hb; clear hb))
  go_ret
  exact ⟨rfl, HX.out⟩
end Go.Proofs.YtkecaliibgjkiaaGreatDoor
/-
  An order that is cancelled, as a chief leads it alone; the law's order in its box, beside the chief.
-/
namespace Go.Proofs.YtkecaliibgjkiaaGreatDoor
open Go.RowKit Sg Bl

theorem can_new (x y z id : Int) : canE (newCh x y z) id = 6 ∧ canS (newCh x y z) id = newCh x y z ∧ canA (newCh x y z) id = [] := ⟨rfl, rfl, rfl⟩
theorem One.can {v : Ch} {o : Od} {a : Bool} {n : Nat} (hm : mayO o = true) (h : One v o a false n) (hr : ((n + 1 : Nat) : Int) ≤ v.room) : canE v o.id = 0 ∧ One (canS v o.id) o a true (n + 1) := by
  obtain ⟨y, hy⟩ := h.l
  have h2 := h.turn hm hy hr
  unfold canE canS
  rw [h.d, hy]
  have hd : (frL o a false y).dec = false := rfl
  simp only [hd, Bool.false_eq_true, if_false]
  refine ⟨?_, h2.1⟩
  unfold noE
  rw [room_of h.len hr]
  rfl
theorem One.can2 {v : Ch} {o : Od} {a : Bool} {n : Nat} (h : One v o a true n) : canE v o.id = 7 ∧ canS v o.id = v ∧ canA v o.id = [] := by
  obtain ⟨y, hy⟩ := h.l
  have hd : (frL o a true y).dec = true := rfl
  unfold canE canS canA
  rw [h.d, hy]
  simp only [hd, Bool.false_eq_true, if_false, if_true, and_self]
theorem One.yes {v : Ch} {o : Od} {a : Bool} {n : Nat} (h : One v o a true n) {fr : Int} (hf : keepB fr = true) : hdSA v ⟨7, fr, 0, o.id, 0, 0, 0⟩ = (v, []) := by
  obtain ⟨y, hy⟩ := h.l
  have hw : (frL o a true y).wt = false := by cases a <;> rfl
  unfold hdSA
  rw [h.d, show (⟨7, fr, 0, o.id, 0, 0, 0⟩ : Mg).id = o.id from rfl, hy]
  rw [if_neg (by rintro (e | e); · cases e
                 · exact e rfl), if_neg (by rintro ⟨e, -⟩; cases e)]
  dsimp only
  rw [if_pos hf]
  unfold keepSA
  rw [hw]
  rw [if_neg (by rintro ⟨-, e⟩; cases e), if_neg (by rintro ⟨-, e⟩; cases e), if_neg (by rintro ⟨e, -⟩; cases e), if_neg (by rintro ⟨e, -⟩; cases e)]
theorem One.acc {v : Ch} {o : Od} {a : Bool} {n : Nat} (hm : mayO o = true) (h : One v o a true n) : accE v o.id = 7 ∧ accS v o.id = v := by
  obtain ⟨y, hy⟩ := h.l
  have hs : stF (frL o a true y).o (frL o a true y).f = 4 := by
    show stF o (frF o.steps.length a true) = 4
    rw [st_fr hm]; rfl
  unfold accE accS
  rw [h.d, hy]
  simp only [hs]
  exact ⟨rfl, rfl⟩

/-- The law's order in its box, the chief beside it. -/
def OSt (w : World) (o : Od) (a : Option Addr) (c : Nat) (u : World) (p : Nat) (O : Pt → Nat → Prop) (v : Ch) : Prop := Cu w O u p v ∧ Abc u O w.heap.size (.cells #[.int .i64 o.id, .int .i64 o.item, .int .i64 o.qty, .int .i64 o.client, .int .i64 o.price, .slice a o.steps.length c] 24)
section
variable {w u u' : World} {o : Od} {a : Option Addr} {c p : Nat} {O O' : Pt → Nat → Prop} {v v' : Ch}
theorem OSt.step (h : OSt w o a c u p O v) (k : Cu w O' u' p v') (g : Go_ O u O' u') : OSt w o a c u' p O' v' := ⟨k, h.2.step g⟩
theorem OSt.on (h : OSt w o a c u p O v) (hb : Below u.heap.size u u') : OSt w o a c u' p O v := ⟨h.1.on hb, h.2.on hb⟩
theorem OSt.new (hb : Below w.heap.size w u) (hx : u.heap[w.heap.size]? = some (.cells #[.int .i64 o.id, .int .i64 o.item, .int .i64 o.qty, .int .i64 o.client, .int .i64 o.price, .slice a o.steps.length c] 24)) (x y z : Int) :
    Calls Tryz.prog 6 #[.int .i64 x, .int .i64 y, .int .i64 z] u fun e w' => ∃ p O, e = .returned (.pointer (some ⟨p, 0, none⟩)) ∧ OSt w o a c w' p O (newCh x y z) := by
  refine (Cu.new hb x y z).mono ?_
  rintro e w' ⟨p, O, h1, h2, h3, h4⟩
  have hlt := (Array.getElem?_eq_some_iff.1 hx).1
  exact ⟨p, O, h1, h2, (h3.block _ hlt).trans hx, fun e => by have := h4 _ e; omega⟩
theorem OSt.begin (hg : Gl w) (w0 : OdIn w o a c) (hm : mayO o = true) (k : OSt w o a c u p O v) {n : Int} (hn : begE v o = n) (hv : begS v o = v') :
    Calls Tryz.prog 7 #[.pointer (some ⟨p, 0, none⟩), .agg #[.int .i64 o.id, .int .i64 o.item, .int .i64 o.qty, .int .i64 o.client, .int .i64 o.price, .slice a o.steps.length c]] u fun e w' => ∃ x O', e = .returned (.tuple #[x, .int .i64 n]) ∧ OSt w o a c w' p O' v' :=
  (k.1.begin hg o (w0.below k.1.2).2.1 w0.1 (wf_id (mayO_of hm).1.1 (mayO_of hm).1.2) hn hv rfl).mono (fun _ _ ⟨_, _, O', e1, _, e3, e4⟩ => ⟨_, O', e1, k.step e3 e4⟩)
theorem OSt.handle (hg : Gl w) (k : OSt w o a c u p O v) (m : Mg) (hw : (Lit.int .i64 m.id).wf = true) {xs : List Mg} (hv : hdSA v m = (v', xs)) :
    Calls Tryz.prog 8 #[.pointer (some ⟨p, 0, none⟩), .agg #[.int .i64 m.k, .int .i64 m.fr, .int .i64 m.to, .int .i64 m.id, .int .i64 m.st, .int .i64 m.a, .int .i64 m.b]] u fun e w' => ∃ x O', e = .returned x ∧ OSt w o a c w' p O' v' :=
  (k.1.handle hg m hw (by rw [hv]) (xs := xs) (by rw [hv])).mono (fun _ _ ⟨_, _, O', e1, _, e3, e4⟩ => ⟨_, O', e1, k.step e3 e4⟩)
theorem OSt.state (hm : mayO o = true) (k : OSt w o a c u p O v) {n : Int} (hn : stC v o.id = n) :
    Calls Tryz.prog 10 #[.pointer (some ⟨p, 0, none⟩), .int .i64 o.id] u fun e w' => e = .returned (.int .i64 n) ∧ OSt w o a c w' p O v :=
  (k.1.state (wf_id (mayO_of hm).1.1 (mayO_of hm).1.2) hn).mono (fun _ _ ⟨e1, e2⟩ => ⟨e1, k.on e2⟩)
theorem OSt.at0 (k : OSt w o a c u p O v) : u.heap[w.heap.size]? = some (.cells #[.int .i64 o.id, .int .i64 o.item, .int .i64 o.qty, .int .i64 o.client, .int .i64 o.price, .slice a o.steps.length c] 24) := k.2.1
theorem OSt.c06 (k : OSt w o a c u p O v) : u.cell? ⟨w.heap.size, 0, none⟩ = some (.int .i64 o.id) ∧ u.cell? ⟨w.heap.size, 1, none⟩ = some (.int .i64 o.item) ∧ u.cell? ⟨w.heap.size, 2, none⟩ = some (.int .i64 o.qty) ∧ u.cell? ⟨w.heap.size, 3, none⟩ = some (.int .i64 o.client) ∧ u.cell? ⟨w.heap.size, 4, none⟩ = some (.int .i64 o.price) ∧ u.cell? ⟨w.heap.size, 5, none⟩ = some (.slice a o.steps.length c) := by
  refine ⟨?_, ?_, ?_, ?_, ?_, ?_⟩ <;> rw [cell_of k.at0] <;> rfl
theorem OSt.below (k : OSt w o a c u p O v) : Below w.heap.size w u := k.1.2
end
end Go.Proofs.YtkecaliibgjkiaaGreatDoor
/-
  What a chief sent is answered, message by message; contracts beside the law's order.
-/
namespace Go.Proofs.YtkecaliibgjkiaaGreatDoor
open Go.ChangeShapes Go.WideShapes Go.ChangeAt Go.RowKit Go.Maps Sg Bl

/-- The row of phase k. -/
def XsOf (o : Od) (k : Nat) (xs : List Mg) : Prop :=
  (k < o.steps.length ∧ xs = [doM o k]) ∨ (k = o.steps.length ∧ xs = prepL o) ∨ (k = o.steps.length + 1 ∧ xs = [msgM o 9 1, msgM o 9 2, shipM o])
/-- Behind m messages of it: the chief, what it has sent last. -/
def InR (T : Int) (o : Od) (xs : List Mg) (k m : Nat) (v : Ch) (ys : List Mg) : Prop :=
  (m = 0 ∧ Phs T o v ys k) ∨ (m = xs.length ∧ k ≤ o.steps.length ∧ Phs T o v ys (k + 1)) ∨
  (k = o.steps.length ∧ m = 1 ∧ ys = [] ∧ ∃ n, n ≤ 10 + 2 * k ∧ Ph0 T (T + 1) v o (fwF o.steps.length o.steps.length true false) (some (true, false)) n) ∨
  (k = o.steps.length + 1 ∧ m ≤ 3 ∧ Phs T o v ys k)
theorem phs_xs {T : Int} {o : Od} {v : Ch} {xs : List Mg} {k : Nat} (h : Phs T o v xs k) : XsOf o k xs := by
  rcases h with ⟨h1, -, h2⟩ | ⟨h1, -, h2⟩ | ⟨h1, -, h2⟩
  · exact .inl ⟨h1, h2⟩
  · exact .inr (.inl ⟨h1, h2⟩)
  · exact .inr (.inr ⟨h1, h2⟩)
theorem inr_step {T : Int} {o : Od} {xs : List Mg} {k m : Nat} {v : Ch} {ys : List Mg} (hm : mayO o = true) (hT : 1 ≤ T) (hx : XsOf o k xs) (h : InR T o xs k m v ys) (hlt : m < xs.length) :
    ∃ mm, xs[m]? = some mm ∧ mm.id = o.id ∧
      ((mm.k ≠ 1 ∧ mm.k ≠ 6 ∧ InR T o xs k (m + 1) v ys) ∨
       (mm.k = 1 ∧ ∃ v' zs, hdSA v ⟨2, mm.to, 0, mm.id, mm.st, 0, 0⟩ = (v', zs) ∧ InR T o xs k (m + 1) v' zs) ∨
       (mm.k = 6 ∧ ∃ v' zs, hdSA v ⟨7, mm.to, 0, mm.id, mm.st, 0, 0⟩ = (v', zs) ∧ InR T o xs k (m + 1) v' zs)) := by
  rcases hx with ⟨h1, rfl⟩ | ⟨h1, rfl⟩ | ⟨h1, rfl⟩
  · obtain rfl : m = 0 := by simp at hlt; exact hlt
    rcases h with ⟨-, h⟩ | ⟨h, -⟩ | ⟨h, -⟩ | ⟨h, -⟩
    · rcases h with ⟨-, ⟨y, n, hn, hp⟩, -⟩ | ⟨h, -⟩ | ⟨h, -⟩
      · obtain ⟨v', zs, e1, e2⟩ := phs_done hm hT h1 hp hn
        exact ⟨_, rfl, rfl, .inr (.inl ⟨rfl, v', zs, e1, .inr (.inl ⟨rfl, by omega, e2⟩)⟩)⟩
      · omega
      · omega
    · simp at h
    · omega
    · omega
  · have hlt2 : m < 2 := hlt
    rcases h with ⟨rfl, h⟩ | ⟨h, -⟩ | ⟨-, rfl, rfl, n, hn, hp⟩ | ⟨h, -⟩
    · rcases h with ⟨h, -⟩ | ⟨-, ⟨n, hn, hp⟩, -⟩ | ⟨h, -⟩
      · omega
      · obtain ⟨v', e1, e2⟩ := phs_yes1 hp
        exact ⟨_, rfl, rfl, .inr (.inr ⟨rfl, v', [], e1, .inr (.inr (.inl ⟨h1, rfl, rfl, n, hn, e2⟩))⟩)⟩
      · omega
    · have : m = 2 := h
      omega
    · obtain ⟨v', e1, e2⟩ := phs_yes2 hm hT hp (by omega)
      exact ⟨_, rfl, rfl, .inr (.inr ⟨rfl, v', _, e1, .inr (.inl ⟨rfl, by omega, by rw [h1]; exact e2⟩)⟩)⟩
    · omega
  · have hlt2 : m < 3 := hlt
    have hv : Phs T o v ys k := by
      rcases h with ⟨-, h⟩ | ⟨-, h, -⟩ | ⟨h, -⟩ | ⟨-, -, h⟩
      · exact h
      · omega
      · omega
      · exact h
    have : m = 0 ∨ m = 1 ∨ m = 2 := by omega
    rcases this with rfl | rfl | rfl
    · exact ⟨_, rfl, rfl, .inl ⟨(show (9 : Int) ≠ 1 by decide), (show (9 : Int) ≠ 6 by decide), .inr (.inr (.inr ⟨h1, by omega, hv⟩))⟩⟩
    · exact ⟨_, rfl, rfl, .inl ⟨(show (9 : Int) ≠ 1 by decide), (show (9 : Int) ≠ 6 by decide), .inr (.inr (.inr ⟨h1, by omega, hv⟩))⟩⟩
    · exact ⟨_, rfl, rfl, .inl ⟨(show (15 : Int) ≠ 1 by decide), (show (15 : Int) ≠ 6 by decide), .inr (.inr (.inr ⟨h1, by omega, hv⟩))⟩⟩
theorem inr_end {T : Int} {o : Od} {xs : List Mg} {k : Nat} {v : Ch} {ys : List Mg} (hx : XsOf o k xs) (h : InR T o xs k xs.length v ys) : Phs T o v ys (min (k + 1) (o.steps.length + 1)) := by
  rcases hx with ⟨h1, rfl⟩ | ⟨h1, rfl⟩ | ⟨h1, rfl⟩
  · rcases h with ⟨h, -⟩ | ⟨-, h2, h⟩ | ⟨h, -⟩ | ⟨h, -⟩
    · simp at h
    · rw [Nat.min_eq_left (by omega)]; exact h
    · omega
    · omega
  · rcases h with ⟨h, -⟩ | ⟨-, h2, h⟩ | ⟨-, h, -⟩ | ⟨h, -⟩
    · have : (2 : Nat) = 0 := h
      omega
    · rw [Nat.min_eq_left (by omega)]; exact h
    · have : (2 : Nat) = 1 := h
      omega
    · omega
  · rcases h with ⟨h, -⟩ | ⟨-, h2, h⟩ | ⟨-, h, -⟩ | ⟨-, -, h⟩
    · have : (3 : Nat) = 0 := h
      omega
    · omega
    · have : (3 : Nat) = 1 := h
      omega
    · rw [Nat.min_eq_right (by omega), ← h1]; exact h
section
variable {w u : World} {o : Od} {a : Option Addr} {c p : Nat} {O : Pt → Nat → Prop} {v v' : Ch}
theorem OSt.ring (hg : Gl w) (hm : mayO o = true) (k : OSt w o a c u p O v) (hv : rngS v o.id = v') {xs : List Mg} (hx : rngA v o.id = xs) :
    Calls Tryz.prog 11 #[.pointer (some ⟨p, 0, none⟩), .int .i64 o.id] u fun e w' => ∃ x y O', e = .returned (.slice x xs.length y) ∧ OSt w o a c w' p O' v' :=
  (k.1.ring hg (wf_id (mayO_of hm).1.1 (mayO_of hm).1.2) hv hx).mono (fun _ _ ⟨x, y, O', e1, _, e3, e4⟩ => ⟨x, y, O', e1, k.step e3 e4⟩)
theorem OSt.beginA (hg : Gl w) (w0 : OdIn w o a c) (hm : mayO o = true) (k : OSt w o a c u p O v) {n : Int} (hn : begE v o = n) (hv : begS v o = v') {xs : List Mg} (hx : begA v o = xs) :
    Calls Tryz.prog 7 #[.pointer (some ⟨p, 0, none⟩), .agg #[.int .i64 o.id, .int .i64 o.item, .int .i64 o.qty, .int .i64 o.client, .int .i64 o.price, .slice a o.steps.length c]] u fun e w' => ∃ x y O', e = .returned (.tuple #[.slice x xs.length y, .int .i64 n]) ∧ AnC w' O' x y xs ∧ OSt w o a c w' p O' v' :=
  (k.1.begin hg o (w0.below k.1.2).2.1 w0.1 (wf_id (mayO_of hm).1.1 (mayO_of hm).1.2) hn hv hx).mono (fun _ _ ⟨x, y, O', e1, e2, e3, e4⟩ => ⟨x, y, O', e1, e2, k.step e3 e4⟩)
theorem OSt.handleA (hg : Gl w) (k : OSt w o a c u p O v) (m : Mg) (hw : (Lit.int .i64 m.id).wf = true) {xs : List Mg} (hv : hdSA v m = (v', xs)) {ra : Option Addr} {rc : Nat} {ys : List Mg} (hy : AnC u O ra rc ys) :
    Calls Tryz.prog 8 #[.pointer (some ⟨p, 0, none⟩), .agg #[.int .i64 m.k, .int .i64 m.fr, .int .i64 m.to, .int .i64 m.id, .int .i64 m.st, .int .i64 m.a, .int .i64 m.b]] u fun e w' => ∃ x y O', e = .returned (.slice x xs.length y) ∧ AnC w' O' x y xs ∧ AnC w' O' ra rc ys ∧ OSt w o a c w' p O' v' :=
  (k.1.handle hg m hw (by rw [hv]) (xs := xs) (by rw [hv])).mono (fun _ _ ⟨x, y, O', e1, e2, e3, e4⟩ => ⟨x, y, O', e1, e2, hy.step e4, k.step e3 e4⟩)
end
end Go.Proofs.YtkecaliibgjkiaaGreatDoor
/-
  The law's fits: the answer to what a chief asks for.
-/
namespace Go.Proofs.YtkecaliibgjkiaaGreatDoor
open Go.ChangeShapes Go.WideShapes Go.ChangeAt Go.RowKit Go.Maps Sg Bl

theorem mid3 (w : World) (b0 b1 b2 : Obj) : (((w.alloc b0).alloc b1).alloc b2).heap[w.heap.size + 1]? = some b1 ∧ Below w.heap.size w (((w.alloc b0).alloc b1).alloc b2) := by
  refine ⟨?_, (((Below.refl _ _).alloc (Nat.le_refl _) _).alloc (by simp) _).alloc (by simp; omega) _⟩
  have h := World.alloc_heap_new (w.alloc b0) b1
  rw [World.size_alloc] at h
  exact (Below.heap_alloc _ _ _ (by simp)).trans h
theorem cfits_do (m : Mg) (hk : m.k = 1) (w : World) : Calls Tryz.prog 9 #[.agg #[.int .i64 m.k, .int .i64 m.fr, .int .i64 m.to, .int .i64 m.id, .int .i64 m.st, .int .i64 m.a, .int .i64 m.b], .int .i64 1] w fun e w' => e = .returned (.agg #[.int .i64 2, .int .i64 m.to, .int .i64 0, .int .i64 m.id, .int .i64 m.st, .int .i64 0, .int .i64 0]) ∧ Below w.heap.size w w' := by
  obtain ⟨k, fr, tt, id, st, a, b⟩ := m
  dsimp only at hk ⊢
  subst hk
  have HM := hide (mid3 w (.cells #[.int .i64 1, .int .i64 fr, .int .i64 tt, .int .i64 id, .int .i64 st, .int .i64 a, .int .i64 b] 35) (.cells #[.int .i64 2, .int .i64 tt, .int .i64 0, .int .i64 id, .int .i64 st, .int .i64 0, .int .i64 0] 35) (.cells #[.int .i64 2, .int .i64 tt, .int .i64 0, .int .i64 id, .int .i64 st, .int .i64 0, .int .i64 0] 35))
  go_enter Tryz.func9, Tryz.ntmps9
  go_wp2
  refine bodyPost_ret (results_cell_row Tryz.results9 _ _ (w.heap.size + 1) 35 _ (0, 0) _ rfl HM.out.1 Tryz.underlying35 rfl (by kernel_rfl)) rfl ?_
  exact ⟨rfl, HM.out.2⟩
theorem cfits_prep (m : Mg) (hk : m.k = 6) (w : World) : Calls Tryz.prog 9 #[.agg #[.int .i64 m.k, .int .i64 m.fr, .int .i64 m.to, .int .i64 m.id, .int .i64 m.st, .int .i64 m.a, .int .i64 m.b], .int .i64 1] w fun e w' => e = .returned (.agg #[.int .i64 7, .int .i64 m.to, .int .i64 0, .int .i64 m.id, .int .i64 m.st, .int .i64 0, .int .i64 0]) ∧ Below w.heap.size w w' := by
  obtain ⟨k, fr, tt, id, st, a, b⟩ := m
  dsimp only at hk ⊢
  subst hk
  have HM := hide (mid3 w (.cells #[.int .i64 6, .int .i64 fr, .int .i64 tt, .int .i64 id, .int .i64 st, .int .i64 a, .int .i64 b] 35) (.cells #[.int .i64 7, .int .i64 tt, .int .i64 0, .int .i64 id, .int .i64 st, .int .i64 0, .int .i64 0] 35) (.cells #[.int .i64 7, .int .i64 tt, .int .i64 0, .int .i64 id, .int .i64 st, .int .i64 0, .int .i64 0] 35))
  go_enter Tryz.func9, Tryz.ntmps9
  go_wp2
  refine bodyPost_ret (results_cell_row Tryz.results9 _ _ (w.heap.size + 1) 35 _ (0, 0) _ rfl HM.out.1 Tryz.underlying35 rfl (by kernel_rfl)) rfl ?_
  exact ⟨rfl, HM.out.2⟩
end Go.Proofs.YtkecaliibgjkiaaGreatDoor
/-
  ChiefTurns: the walk.
-/
namespace Go.Proofs.YtkecaliibgjkiaaGreatDoor
open Go.ChangeShapes Go.WideShapes Go.ChangeAt Go.RowKit Go.Maps Sg Bl

/-- Where it may not be. -/
theorem turns_low (o : Od) (a : Option Addr) (c : Nat) (b : Int) (cm : Bool) (w : World) (w0 : OdIn w o a c) (hg : Gl w) (hno : ¬ ((o.steps.length : Int) ≤ 10 ∧ mayO o = true)) :
    Calls Tryz.prog 3 #[.agg #[.int .i64 o.id, .int .i64 o.item, .int .i64 o.qty, .int .i64 o.client, .int .i64 o.price, .slice a o.steps.length c], .int .i64 b, .bool cm] w fun e w' => e = .returned (.bool true) ∧ Below w.heap.size w w' := by
  have hb0 : Below w.heap.size w (w.alloc (.cells #[.int .i64 o.id, .int .i64 o.item, .int .i64 o.qty, .int .i64 o.client, .int .i64 o.price, .slice a o.steps.length c] 24)) := (Below.refl _ _).alloc (Nat.le_refl _) _
  by_cases hs : (10 : Int) < o.steps.length
  · have AW := hide (cwake_any (w.alloc (.cells #[.int .i64 o.id, .int .i64 o.item, .int .i64 o.qty, .int .i64 o.client, .int .i64 o.price, .slice a o.steps.length c] 24)) (hg.on hb0))
    have HB := hide hb0
    clear hb0 hg w0 hno
    go_enter Tryz.func3, Tryz.ntmps3
    go_wp2_with (first
      | (go_at_call 5; refine AW.out.mono ?_; clear AW; rintro e u1 ⟨rfl, h1⟩; have H1 := hide h1; clear h1))
    go_ret
    exact ⟨rfl, bel_on' HB.out H1.out⟩
  have RM := hide (ref_omay_any o a c (w.alloc (.cells #[.int .i64 o.id, .int .i64 o.item, .int .i64 o.qty, .int .i64 o.client, .int .i64 o.price, .slice a o.steps.length c] 24)) (w0.below hb0).2.1 w0.1 w0.2.2.2)
  cases hm : mayO o
  · rw [hm] at RM
    have AW : Hid (∀ u, Below (w.heap.size + 1) (w.alloc (.cells #[.int .i64 o.id, .int .i64 o.item, .int .i64 o.qty, .int .i64 o.client, .int .i64 o.price, .slice a o.steps.length c] 24)) u → Calls Tryz.prog 5 #[] u fun e w' => e = .returned (.bool true) ∧ Below w.heap.size w w') := fun u hu =>
      (cwake_any u (hg.on (bel_on' hb0 (by simpa using hu)))).mono (fun _ _ ⟨e1, e2⟩ => ⟨e1, bel_on' (bel_on' hb0 (by simpa using hu)) e2⟩)
    clear hb0 hg w0 hm hno
    go_enter Tryz.func3, Tryz.ntmps3
    go_wp2_with (first
      | (go_at_call 4; refine RM.out.mono ?_; clear RM; rintro e u1 ⟨rfl, h1⟩; have A2 := hide (AW.out u1 (by simpa using h1)); clear h1 AW)
      | (go_at_call 5; refine A2.out.mono ?_; clear A2; rintro e u1 ⟨rfl, h1⟩; have H1 := hide h1; clear h1))
    go_ret
    exact ⟨rfl, H1.out⟩
  · exact absurd ⟨by omega, hm⟩ hno
set_option maxRecDepth 100000 in
set_option maxHeartbeats 4000000 in
theorem turns_not (o : Od) (a : Option Addr) (c : Nat) (b : Int) (w : World) (w0 : OdIn w o a c) (hg : Gl w) (hs : ¬ (10 : Int) < o.steps.length) (hm : mayO o = true) :
    Calls Tryz.prog 3 #[.agg #[.int .i64 o.id, .int .i64 o.item, .int .i64 o.qty, .int .i64 o.client, .int .i64 o.price, .slice a o.steps.length c], .int .i64 b, .bool false] w fun e w' => e = .returned (.bool true) ∧ Below w.heap.size w w' := by
  have hb0 : Below w.heap.size w (w.alloc (.cells #[.int .i64 o.id, .int .i64 o.item, .int .i64 o.qty, .int .i64 o.client, .int .i64 o.price, .slice a o.steps.length c] 24)) := (Below.refl _ _).alloc (Nat.le_refl _) _
  have hx0 := World.alloc_heap_new w (.cells #[.int .i64 o.id, .int .i64 o.item, .int .i64 o.qty, .int .i64 o.client, .int .i64 o.price, .slice a o.steps.length c] 24)
  obtain ⟨ba1, ba2⟩ := um_bd b 20 (by omega) (by omega)
  obtain ⟨A, hA⟩ : ∃ A, um b 20 = A := ⟨_, rfl⟩
  rw [hA] at ba1 ba2
  unfold um at hA
  have HR : Hid (1 ≤ 1 + A ∧ 1 + A ≤ 20) := by show (1 : Int) ≤ _ ∧ _ ≤ (20 : Int); omega
  have HM : Hid (mayO o = true) := hm
  have RM := hide (ref_omay_any o a c (w.alloc (.cells #[.int .i64 o.id, .int .i64 o.item, .int .i64 o.qty, .int .i64 o.client, .int .i64 o.price, .slice a o.steps.length c] 24)) (w0.below hb0).2.1 w0.1 w0.2.2.2)
  rw [hm] at RM
  obtain ⟨n1, n2⟩ := phs_new hm HR.out.1 HR.out.2
  have HN : Hid (∀ u, Below (w.heap.size + 1) (w.alloc (.cells #[.int .i64 o.id, .int .i64 o.item, .int .i64 o.qty, .int .i64 o.client, .int .i64 o.price, .slice a o.steps.length c] 24)) u → Calls Tryz.prog 6 #[.int .i64 3, .int .i64 4096, .int .i64 (1 + A)] u fun e w' => ∃ p O, e = .returned (.pointer (some ⟨p, 0, none⟩)) ∧ OSt w o a c w' p O (newCh 3 4096 (1 + A))) := fun u hu =>
    OSt.new (bel_on' hb0 (by simpa using hu)) ((hu.block _ (by simp)).trans hx0) 3 4096 (1 + A)
  generalize newCh 3 4096 (1 + A) = v0 at *
  obtain ⟨v1, hv1⟩ : ∃ v1, begS v0 o = v1 := ⟨_, rfl⟩
  obtain ⟨xs, hx1⟩ : ∃ xs, begA v0 o = xs := ⟨_, rfl⟩
  rw [hv1, hx1] at n2
  have B0 : Hid (∀ u p O, OSt w o a c u p O v0 → Calls Tryz.prog 7 #[.pointer (some ⟨p, 0, none⟩), .agg #[.int .i64 o.id, .int .i64 o.item, .int .i64 o.qty, .int .i64 o.client, .int .i64 o.price, .slice a o.steps.length c]] u fun e w' => ∃ x y O', e = .returned (.tuple #[.slice x xs.length y, .int .i64 0]) ∧ AnC w' O' x y xs ∧ OSt w o a c w' p O' v1) := fun u p O k => k.beginA hg w0 hm n1 hv1 hx1
  have PH := hide n2
  clear n1 n2 hv1 hx1 hb0 hx0 w0 hm
  go_enter Tryz.func3, Tryz.ntmps3
  go_wp2_with (first
    | (go_at_call 4; refine RM.out.mono ?_; clear RM; rintro e u0 ⟨rfl, h1⟩; have N2 := hide (HN.out u0 (by simpa using h1)); clear h1 HN)
    | (go_at_call 6; (refine N2.out.mono ?_; clear N2; rintro e u1 ⟨p, O1, rfl, h⟩; obtain ⟨x0, x1, x2, x3, x4, x5⟩ := h.c06; have B2 := B0.out _ _ _ h; clear B0 h))
    | (go_at_call 7; refine B2.mono ?_; clear B2; rintro e u2 ⟨r1, r2, O2, rfl, hAn, h⟩; clear x0 x1 x2 x3 x4 x5; obtain ⟨x0, x1, x2, x3, x4, x5⟩ := h.c06; have KX := hide h; have AN := hide hAn; clear h hAn))
  obtain ⟨st, hst, hrg⟩ := rgp_begun HM.out PH.out
  have RG : Hid (Rgp (1 + A) o st false v1 (1 + A + 1 - ((0 : Nat) : Int))) := by
    show Rgp _ _ _ _ _ _
    rw [show (1 + A + 1 - ((0 : Nat) : Int)) = 1 + A + 1 by omega]
    exact hrg
  have q4 : (st == 4) = false := by simpa using hst
  clear hst hrg PH AN
  have FIN : Hid (∀ u O v, OSt w o a c u p O v → stC v o.id = 4 → Calls Tryz.prog 10 #[.pointer (some ⟨p, 0, none⟩), .int .i64 o.id] u (fun e w' => e = .returned (.int .i64 4) ∧ OSt w o a c w' p O v) ∧ Calls Tryz.prog 5 #[] u fun e w' => e = .returned (.bool true) ∧ Below w.heap.size w w') := fun u O v k hs => ⟨k.state HM.out hs, (cwake_any u (hg.on k.below)).mono (fun _ _ ⟨e1, e2⟩ => ⟨e1, bel_on' k.below e2⟩)⟩
  go_loopw [66] (fun i wr => ∃ (j : Nat) (v : Ch) (O : Pt → Nat → Prop), i = .int .i64 j ∧ (j : Int) ≤ 1 + A ∧ Hid (OSt w o a c wr p O v) ∧ Hid (Rgp (1 + A) o st false v (1 + A + 1 - j))) (fun i _ => (1 + A).toNat - (Go.RowKit.intOf i).toNat)
  case atStart => exact ⟨0, _, _, rfl, by have := HR.out; omega, KX, RG⟩
  case round =>
    obtain ⟨j, v, O, rfl, hj, HK, HF⟩ := hrel
    clear KX RG x0 x1 x2 x3 x4 x5
    obtain ⟨x0, x1, x2, x3, x4, x5⟩ := HK.out.c06
    by_cases hlt : (j : Int) < 1 + A
    · obtain ⟨v', xs, e1, e2, e3, e4, e5⟩ := rgp_ring HF.out (by omega)
      have RI := HK.out.ring hg HM.out e1 e2
      have SS : Hid (∀ u O, OSt w o a c u p O v' → Calls Tryz.prog 10 #[.pointer (some ⟨p, 0, none⟩), .int .i64 o.id] u fun e w' => e = .returned (.int .i64 st) ∧ OSt w o a c w' p O v') := fun u O k => k.state HM.out e5
      have HF' : Hid (Rgp (1 + A) o st false v' (1 + A + 1 - ((j + 1 : Nat) : Int))) := by
        have e6 : (1 + A + 1 - ((j + 1 : Nat) : Int)) = 1 + A + 1 - j - 1 := by omega
        show Rgp _ _ _ _ _ _
        rw [e6]; exact e4
      have hne : ((xs.length : Int) == 0) = false := by
        cases xs with
        | nil => exact absurd rfl e3
        | cons _ _ => simp; omega
      obtain ⟨L, hL⟩ : ∃ L, xs.length = L := ⟨_, rfl⟩
      rw [hL] at hne
      simp only [hL] at RI
      clear e1 e2 e3 e4 e5 HK HF hL
      go_wp2_with (first
        | (go_at_call 11; refine RI.mono ?_; clear RI; rintro e u2 ⟨y1, y2, O2, rfl, h⟩; clear x0 x1 x2 x3 x4 x5; obtain ⟨x0, x1, x2, x3, x4, x5⟩ := h.c06; have S2 := SS.out _ _ h; clear h SS)
        | (go_at_call 10; refine S2.mono ?_; clear S2; rintro e u3 ⟨rfl, h⟩; have HK3 := hide h; clear h x0 x1 x2 x3 x4 x5))
      go_roundw
      case rel => exact ⟨j + 1, v', _, by go_num, by omega, HK3, HF'⟩
      case measure => simp [Go.RowKit.intOf]; omega
    · obtain ⟨v', xs, e1, e2, e3, e5⟩ := rgp_last HM.out (by have h := HF.out; rwa [show 1 + A + 1 - (j : Int) = 1 by omega] at h)
      have RI := HK.out.ring hg HM.out e1 e2
      have SS : Hid (∀ u O, OSt w o a c u p O v' → _) := fun u O k => FIN.out u O v' k e5
      have hne : ((xs.length : Int) == 0) = false := by
        cases xs with
        | nil => exact absurd rfl e3
        | cons _ _ => simp; omega
      obtain ⟨L, hL⟩ : ∃ L, xs.length = L := ⟨_, rfl⟩
      rw [hL] at hne
      simp only [hL] at RI
      clear e1 e2 e3 e5 HK HF FIN hL
      go_wp2_with (first
        | (go_at_call 11; refine RI.mono ?_; clear RI; rintro e u2 ⟨y1, y2, O2, rfl, h⟩; clear x0 x1 x2 x3 x4 x5; obtain ⟨x0, x1, x2, x3, x4, x5⟩ := h.c06; have S2 := (SS.out _ _ h).1; clear h)
        | (go_at_call 10; refine S2.mono ?_; clear S2; rintro e u3 ⟨rfl, h⟩; have W2 := (SS.out _ _ h).2; clear h SS x0 x1 x2 x3 x4 x5)
        | (go_at_call 5; refine W2.mono ?_; clear W2; rintro e u4 ⟨rfl, h⟩; have H9 := hide h; clear h))
      go_ret
      exact ⟨rfl, H9.out⟩
set_option maxRecDepth 100000 in
set_option maxHeartbeats 4000000 in
theorem turns_yes (o : Od) (a : Option Addr) (c : Nat) (b : Int) (w : World) (w0 : OdIn w o a c) (hg : Gl w) (hs : ¬ (10 : Int) < o.steps.length) (hm : mayO o = true) :
    Calls Tryz.prog 3 #[.agg #[.int .i64 o.id, .int .i64 o.item, .int .i64 o.qty, .int .i64 o.client, .int .i64 o.price, .slice a o.steps.length c], .int .i64 b, .bool true] w fun e w' => e = .returned (.bool true) ∧ Below w.heap.size w w' := by
  have hb0 : Below w.heap.size w (w.alloc (.cells #[.int .i64 o.id, .int .i64 o.item, .int .i64 o.qty, .int .i64 o.client, .int .i64 o.price, .slice a o.steps.length c] 24)) := (Below.refl _ _).alloc (Nat.le_refl _) _
  have hx0 := World.alloc_heap_new w (.cells #[.int .i64 o.id, .int .i64 o.item, .int .i64 o.qty, .int .i64 o.client, .int .i64 o.price, .slice a o.steps.length c] 24)
  obtain ⟨ba1, ba2⟩ := um_bd b 20 (by omega) (by omega)
  obtain ⟨A, hA⟩ : ∃ A, um b 20 = A := ⟨_, rfl⟩
  rw [hA] at ba1 ba2
  unfold um at hA
  have HR : Hid (1 ≤ 1 + A ∧ 1 + A ≤ 20) := by show (1 : Int) ≤ _ ∧ _ ≤ (20 : Int); omega
  have HM : Hid (mayO o = true) := hm
  have RM := hide (ref_omay_any o a c (w.alloc (.cells #[.int .i64 o.id, .int .i64 o.item, .int .i64 o.qty, .int .i64 o.client, .int .i64 o.price, .slice a o.steps.length c] 24)) (w0.below hb0).2.1 w0.1 w0.2.2.2)
  rw [hm] at RM
  obtain ⟨n1, n2⟩ := phs_new hm HR.out.1 HR.out.2
  have HN : Hid (∀ u, Below (w.heap.size + 1) (w.alloc (.cells #[.int .i64 o.id, .int .i64 o.item, .int .i64 o.qty, .int .i64 o.client, .int .i64 o.price, .slice a o.steps.length c] 24)) u → Calls Tryz.prog 6 #[.int .i64 3, .int .i64 4096, .int .i64 (1 + A)] u fun e w' => ∃ p O, e = .returned (.pointer (some ⟨p, 0, none⟩)) ∧ OSt w o a c w' p O (newCh 3 4096 (1 + A))) := fun u hu =>
    OSt.new (bel_on' hb0 (by simpa using hu)) ((hu.block _ (by simp)).trans hx0) 3 4096 (1 + A)
  generalize newCh 3 4096 (1 + A) = v0 at *
  obtain ⟨v1, hv1⟩ : ∃ v1, begS v0 o = v1 := ⟨_, rfl⟩
  obtain ⟨xs, hx1⟩ : ∃ xs, begA v0 o = xs := ⟨_, rfl⟩
  rw [hv1, hx1] at n2
  have B0 : Hid (∀ u p O, OSt w o a c u p O v0 → Calls Tryz.prog 7 #[.pointer (some ⟨p, 0, none⟩), .agg #[.int .i64 o.id, .int .i64 o.item, .int .i64 o.qty, .int .i64 o.client, .int .i64 o.price, .slice a o.steps.length c]] u fun e w' => ∃ x y O', e = .returned (.tuple #[.slice x xs.length y, .int .i64 0]) ∧ AnC w' O' x y xs ∧ OSt w o a c w' p O' v1) := fun u p O k => k.beginA hg w0 hm n1 hv1 hx1
  have PH := hide n2
  clear n1 n2 hv1 hx1 hb0 hx0 w0 hm
  go_enter Tryz.func3, Tryz.ntmps3
  go_wp2_with (first
    | (go_at_call 4; refine RM.out.mono ?_; clear RM; rintro e u0 ⟨rfl, h1⟩; have N2 := hide (HN.out u0 (by simpa using h1)); clear h1 HN)
    | (go_at_call 6; (refine N2.out.mono ?_; clear N2; rintro e u1 ⟨p, O1, rfl, h⟩; obtain ⟨x0, x1, x2, x3, x4, x5⟩ := h.c06; have B2 := B0.out _ _ _ h; clear B0 h))
    | (go_at_call 7; refine B2.mono ?_; clear B2; rintro e u2 ⟨r1, r2, O2, rfl, hAn, h⟩; clear x0 x1 x2 x3 x4 x5; obtain ⟨x0, x1, x2, x3, x4, x5⟩ := h.c06; have KX := hide h; have AN := hide hAn; clear h hAn))
  clear x0 x1 x2 x3 x4 x5
  have H3 : Hid (o.steps.length ≤ 3) := (mayO_of HM.out).2.2.2.2.2.1
  have HWF : Hid ((Lit.int .i64 o.id).wf = true) := wf_id (mayO_of HM.out).1.1 (mayO_of HM.out).1.2
  go_loopw [8, 38] (fun l i wr => ∃ (j k : Nat) (v : Ch) (ys : List Mg) (O : Pt → Nat → Prop) (ra : Option Addr) (rc : Nat), i = .int .i64 j ∧ j ≤ 10 ∧ l = .slice ra ys.length rc ∧ k = min j (o.steps.length + 1) ∧ Hid (OSt w o a c wr p O v) ∧ Hid (AnC wr O ra rc ys) ∧ Hid (Phs (1 + A) o v ys k)) (fun _ i _ => 10 - (Go.RowKit.intOf i).toNat)
  case atStart => exact ⟨0, 0, _, _, _, _, _, rfl, by omega, rfl, by simp, KX, AN, PH⟩
  case round =>
    obtain ⟨j, k, v, ys, O, ra, rc, rfl, hj, rfl, hk, HK, HA, HP⟩ := hrel
    clear KX AN PH
    by_cases hlt : j < 10
    · have hji : (j : Int) < 10 := by omega
      have HKJ := hide hk
      have HX := hide (phs_xs HP.out)
      have hyl : (ys.length : Int) ≤ 3 := by
        rcases HX.out with ⟨-, h⟩ | ⟨-, h⟩ | ⟨-, h⟩ <;> rw [h] <;> simp [prepL]
      clear hk
      go_wp2_with fail
      go_loopw [8, 42] (fun l i wr => ∃ (m : Nat) (v' : Ch) (zs : List Mg) (O' : Pt → Nat → Prop) (ra' : Option Addr) (rc' : Nat), i = .int .i64 m ∧ m ≤ ys.length ∧ l = .slice ra' zs.length rc' ∧ Hid (OSt w o a c wr p O' v') ∧ Hid (AnC wr O' ra rc ys) ∧ Hid (AnC wr O' ra' rc' zs) ∧ Hid (InR (1 + A) o ys k m v' zs)) (fun _ i _ => ys.length - (Go.RowKit.intOf i).toNat)
      case atStart => exact ⟨0, _, _, _, _, _, rfl, Nat.zero_le _, rfl, HK, HA, HA, .inl ⟨rfl, HP.out⟩⟩
      case round =>
        obtain ⟨m, v', zs, O', ra', rc', rfl, hm, rfl, HK2, HS2, HA2, HI2⟩ := hrel
        clear HK HA HP
        by_cases hml : m < ys.length
        · have hmi : (m : Int) < (ys.length : Int) := by omega
          obtain ⟨mm, hget, hid, hcs⟩ := inr_step HM.out HR.out.1 HX.out HI2.out hml
          obtain ⟨mk, mf, mt, mi, ms, ma, mb⟩ := mm
          obtain ⟨bb, off, rfl, c0, c1, c2, c3, c4, c5, c6⟩ := HS2.out.mgs.get hget
          dsimp only at hid hcs c0 c1 c2 c3 c4 c5 c6
          obtain rfl := hid
          have HON : Hid (∀ u, Below wr.heap.size wr u → OSt w o a c u p O' v' ∧ AnC u O' (some ⟨bb, off, none⟩) rc ys ∧ AnC u O' ra' rc' zs) := fun u hu => ⟨HK2.out.on hu, HS2.out.on hu, HA2.out.on hu⟩
          have HBX : Hid (Below wr.heap.size wr (wr.alloc (.cells #[.int .i64 mk, .int .i64 mf, .int .i64 mt, .int .i64 o.id, .int .i64 ms, .int .i64 ma, .int .i64 mb] 35))) := (Below.refl _ _).alloc (Nat.le_refl _) _
          rcases hcs with ⟨g1, g6, g3⟩ | ⟨rfl, v'', us, g2, g3⟩ | ⟨rfl, v'', us, g2, g3⟩
          · have HI3 := hide g3
            have q1 : (mk == 1) = false := by simpa using g1
            have q6 : (mk == 6) = false := by simpa using g6
            have HN3 := hide (HON.out _ HBX.out)
            clear g1 g6 g3 HON HBX hget HI2 HK2 HS2 HA2
            go_wp2
            go_roundw
            case rel => exact ⟨m + 1, v', zs, O', ra', rc', by go_num, by omega, rfl, HN3.out.1, HN3.out.2.1, HN3.out.2.2, HI3⟩
            case measure => simp [Go.RowKit.intOf]; omega
          · have HI3 := hide g3
            have FI := cfits_do ⟨1, mf, mt, o.id, ms, ma, mb⟩ rfl (wr.alloc (.cells #[.int .i64 1, .int .i64 mf, .int .i64 mt, .int .i64 o.id, .int .i64 ms, .int .i64 ma, .int .i64 mb] 35))
            have HH : Hid (∀ u, Below wr.heap.size wr u → Calls Tryz.prog 8 #[.pointer (some ⟨p, 0, none⟩), .agg #[.int .i64 2, .int .i64 mt, .int .i64 0, .int .i64 o.id, .int .i64 ms, .int .i64 0, .int .i64 0]] u fun e w' => ∃ x y O', e = .returned (.slice x us.length y) ∧ AnC w' O' x y us ∧ AnC w' O' (some ⟨bb, off, none⟩) rc ys ∧ OSt w o a c w' p O' v'') := fun u hu =>
              (HON.out u hu).1.handleA hg ⟨2, mt, 0, o.id, ms, 0, 0⟩ HWF.out g2 (HON.out u hu).2.1
            clear g2 g3 HON hget HI2 HK2 HS2 HA2
            go_wp2_with (first
              | (go_at_call 9; refine FI.mono ?_; clear FI; rintro e f1 ⟨rfl, hbf⟩; have H2 := HH.out f1 (bel_on' HBX.out hbf); clear hbf HH)
              | (go_at_call 8; refine H2.mono ?_; clear H2; rintro e f2 ⟨y1, y2, O3, rfl, h1, h2, h3⟩; have K1 := hide h1; have K2 := hide h2; have K3 := hide h3; clear h1 h2 h3))
            go_roundw
            case rel => exact ⟨m + 1, v'', us, O3, y1, y2, by go_num, by omega, rfl, K3, K2, K1, HI3⟩
            case measure => simp [Go.RowKit.intOf]; omega
          · have HI3 := hide g3
            have FI := cfits_prep ⟨6, mf, mt, o.id, ms, ma, mb⟩ rfl (wr.alloc (.cells #[.int .i64 6, .int .i64 mf, .int .i64 mt, .int .i64 o.id, .int .i64 ms, .int .i64 ma, .int .i64 mb] 35))
            have HH : Hid (∀ u, Below wr.heap.size wr u → Calls Tryz.prog 8 #[.pointer (some ⟨p, 0, none⟩), .agg #[.int .i64 7, .int .i64 mt, .int .i64 0, .int .i64 o.id, .int .i64 ms, .int .i64 0, .int .i64 0]] u fun e w' => ∃ x y O', e = .returned (.slice x us.length y) ∧ AnC w' O' x y us ∧ AnC w' O' (some ⟨bb, off, none⟩) rc ys ∧ OSt w o a c w' p O' v'') := fun u hu =>
              (HON.out u hu).1.handleA hg ⟨7, mt, 0, o.id, ms, 0, 0⟩ HWF.out g2 (HON.out u hu).2.1
            clear g2 g3 HON hget HI2 HK2 HS2 HA2
            go_wp2_with (first
              | (go_at_call 9; refine FI.mono ?_; clear FI; rintro e f1 ⟨rfl, hbf⟩; have H2 := HH.out f1 (bel_on' HBX.out hbf); clear hbf HH)
              | (go_at_call 8; refine H2.mono ?_; clear H2; rintro e f2 ⟨y1, y2, O3, rfl, h1, h2, h3⟩; have K1 := hide h1; have K2 := hide h2; have K3 := hide h3; clear h1 h2 h3))
            go_roundw
            case rel => exact ⟨m + 1, v'', us, O3, y1, y2, by go_num, by omega, rfl, K3, K2, K1, HI3⟩
            case measure => simp [Go.RowKit.intOf]; omega
        · have hmi : ¬ (m : Int) < (ys.length : Int) := by omega
          have hme : m = ys.length := by omega
          have HP3 := hide (inr_end HX.out (by have h := HI2.out; rwa [hme] at h))
          clear hme HI2 HS2
          go_wp2
          go_roundw
          case rel => exact ⟨j + 1, _, v', zs, O', ra', rc', by go_num, by omega, rfl, by have := HKJ.out; omega, HK2, HA2, HP3⟩
          case measure => simp [Go.RowKit.intOf]; omega
    · have hji : ¬ (j : Int) < 10 := by omega
      have hke : k = o.steps.length + 1 := by have := H3.out; omega
      obtain ⟨hrg, hst⟩ := rgp_dec HM.out (by have h := HP.out; rwa [hke] at h)
      have RG : Hid (Rgp (1 + A) o 3 true v (1 + A + 1 - ((0 : Nat) : Int))) := by
        show Rgp _ _ _ _ _ _
        rw [show (1 + A + 1 - ((0 : Nat) : Int)) = 1 + A + 1 by omega]
        exact hrg
      have SS := HK.out.state HM.out hst
      obtain ⟨x0, x1, x2, x3, x4, x5⟩ := HK.out.c06
      clear hrg hst hke hk HP HA HK
      go_wp2_with (first
        | (go_at_call 10; refine SS.mono ?_; clear SS; rintro e u3 ⟨rfl, h⟩; clear x0 x1 x2 x3 x4 x5; obtain ⟨x0, x1, x2, x3, x4, x5⟩ := h.c06; have KX := hide h; clear h))
      have FIN : Hid (∀ u O v, OSt w o a c u p O v → stC v o.id = 3 → Calls Tryz.prog 10 #[.pointer (some ⟨p, 0, none⟩), .int .i64 o.id] u (fun e w' => e = .returned (.int .i64 3) ∧ OSt w o a c w' p O v) ∧ Calls Tryz.prog 5 #[] u fun e w' => e = .returned (.bool true) ∧ Below w.heap.size w w') := fun u O v k hs => ⟨k.state HM.out hs, (cwake_any u (hg.on k.below)).mono (fun _ _ ⟨e1, e2⟩ => ⟨e1, bel_on' k.below e2⟩)⟩
      go_loopw [66] (fun i wr => ∃ (j : Nat) (v : Ch) (O : Pt → Nat → Prop), i = .int .i64 j ∧ (j : Int) ≤ 1 + A ∧ Hid (OSt w o a c wr p O v) ∧ Hid (Rgp (1 + A) o 3 true v (1 + A + 1 - j))) (fun i _ => (1 + A).toNat - (Go.RowKit.intOf i).toNat)
      case atStart => exact ⟨0, _, _, rfl, by have := HR.out; omega, KX, RG⟩
      case round =>
        obtain ⟨j, v, O, rfl, hj, HK, HF⟩ := hrel
        clear KX RG x0 x1 x2 x3 x4 x5
        obtain ⟨x0, x1, x2, x3, x4, x5⟩ := HK.out.c06
        by_cases hlt : (j : Int) < 1 + A
        · obtain ⟨v', xs, e1, e2, e3, e4, e5⟩ := rgp_ring HF.out (by omega)
          have RI := HK.out.ring hg HM.out e1 e2
          have SS : Hid (∀ u O, OSt w o a c u p O v' → Calls Tryz.prog 10 #[.pointer (some ⟨p, 0, none⟩), .int .i64 o.id] u fun e w' => e = .returned (.int .i64 3) ∧ OSt w o a c w' p O v') := fun u O k => k.state HM.out e5
          have HF' : Hid (Rgp (1 + A) o 3 true v' (1 + A + 1 - ((j + 1 : Nat) : Int))) := by
            have e6 : (1 + A + 1 - ((j + 1 : Nat) : Int)) = 1 + A + 1 - j - 1 := by omega
            show Rgp _ _ _ _ _ _
            rw [e6]; exact e4
          have hne : ((xs.length : Int) == 0) = false := by
            cases xs with
            | nil => exact absurd rfl e3
            | cons _ _ => simp; omega
          obtain ⟨L, hL⟩ : ∃ L, xs.length = L := ⟨_, rfl⟩
          rw [hL] at hne
          simp only [hL] at RI
          clear e1 e2 e3 e4 e5 HK HF hL
          go_wp2_with (first
            | (go_at_call 11; refine RI.mono ?_; clear RI; rintro e u2 ⟨y1, y2, O2, rfl, h⟩; clear x0 x1 x2 x3 x4 x5; obtain ⟨x0, x1, x2, x3, x4, x5⟩ := h.c06; have S2 := SS.out _ _ h; clear h SS)
            | (go_at_call 10; refine S2.mono ?_; clear S2; rintro e u3 ⟨rfl, h⟩; have HK3 := hide h; clear h x0 x1 x2 x3 x4 x5))
          go_roundw
          case rel => exact ⟨j + 1, v', _, by go_num, by omega, HK3, HF'⟩
          case measure => simp [Go.RowKit.intOf]; omega
        · obtain ⟨v', xs, e1, e2, e3, e5⟩ := rgp_last HM.out (by have h := HF.out; rwa [show 1 + A + 1 - (j : Int) = 1 by omega] at h)
          have RI := HK.out.ring hg HM.out e1 e2
          have SS : Hid (∀ u O, OSt w o a c u p O v' → _) := fun u O k => FIN.out u O v' k e5
          have hne : ((xs.length : Int) == 0) = false := by
            cases xs with
            | nil => exact absurd rfl e3
            | cons _ _ => simp; omega
          obtain ⟨L, hL⟩ : ∃ L, xs.length = L := ⟨_, rfl⟩
          rw [hL] at hne
          simp only [hL] at RI
          clear e1 e2 e3 e5 HK HF FIN hL
          go_wp2_with (first
            | (go_at_call 11; refine RI.mono ?_; clear RI; rintro e u2 ⟨y1, y2, O2, rfl, h⟩; clear x0 x1 x2 x3 x4 x5; obtain ⟨x0, x1, x2, x3, x4, x5⟩ := h.c06; have S2 := (SS.out _ _ h).1; clear h)
            | (go_at_call 10; refine S2.mono ?_; clear S2; rintro e u3 ⟨rfl, h⟩; have W2 := (SS.out _ _ h).2; clear h SS x0 x1 x2 x3 x4 x5)
            | (go_at_call 5; refine W2.mono ?_; clear W2; rintro e u4 ⟨rfl, h⟩; have H9 := hide h; clear h))
          go_ret
          exact ⟨rfl, H9.out⟩
theorem chiefTurns_walk (o : Od) (a : Option Addr) (c : Nat) (b : Int) (cm : Bool) (w : World) (w0 : OdIn w o a c) (_w1 : (Lit.int .i64 b).wf = true) (hg : Gl w) :
    Calls Tryz.prog 3 #[.agg #[.int .i64 o.id, .int .i64 o.item, .int .i64 o.qty, .int .i64 o.client, .int .i64 o.price, .slice a o.steps.length c], .int .i64 b, .bool cm] w fun e w' => e = .returned (.bool true) ∧ Below w.heap.size w w' := by
  by_cases h : (o.steps.length : Int) ≤ 10 ∧ mayO o = true
  · cases cm
    · exact turns_not o a c b w w0 hg (by omega) h.2
    · exact turns_yes o a c b w w0 hg (by omega) h.2
  · exact turns_low o a c b cm w w0 hg h
end Go.Proofs.YtkecaliibgjkiaaGreatDoor
