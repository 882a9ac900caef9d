/-
  Own texts put together: CgI, CgO, CgP, CiK, CiR, ZcRoom.
-/
import Derived.Test.YtdnpgfdlmacfkabGreatDoorSgcnmcfd
import Derived.Test.YtdnpgfdlmacfkabGreatDoorSgapabdi
import Derived.Test.YtdnpgfdlmacfkabGreatDoorSgppalid
import Derived.Test.YtdnpgfdlmacfkabGreatDoorSggjnjid
/-
  Contracts of the chief's forget and New.
-/
namespace Go.Proofs.YtdnpgfdlmacfkabGreatDoor
open Go.ChangeShapes Go.WideShapes Go.ChangeAt Go.RowKit Go.Shelf Go.Maps Sg Bl

attribute [local go_sem] Oper.semAt_some

/-- All bells of L are cut. -/
def cutsH (h : Int → Int) (L : List Int) : Int → Int := L.foldl cutH h
theorem cuts_at : ∀ (L : List Int) (h : Int → Int) (x : Int), cutsH h L x = if x ∈ L then 0 else h x
  | [], h, x => by simp [cutsH]
  | y :: L, h, x => by
    show cutsH (cutH h y) L x = _
    rw [cuts_at L]
    by_cases h1 : x ∈ L
    · rw [if_pos h1, if_pos (by simp [h1])]
    · rw [if_neg h1]
      by_cases h2 : x = y
      · subst h2
        rw [if_pos (by simp)]
        exact Bl.upd_same _ _ _
      · rw [if_neg (by simp [h1, h2])]
        exact Bl.upd_other _ _ h2
theorem cuts_snoc (h : Int → Int) (L : List Int) (x : Int) : cutsH h (L ++ [x]) = cutH (cutsH h L) x := by unfold cutsH; rw [List.foldl_append]; rfl
theorem cuts_all {t : Int} {h : Int → Int} (g : GoodT t h) : cutsH h (idsL h) = fun _ => 0 := by
  funext x
  rw [cuts_at]
  split
  · rfl
  · rename_i h1
    cases e : decide (h x = 0) with
    | true => exact of_decide_eq_true e
    | false => exact absurd ((mem_idsL g.at_ x).2 (of_decide_eq_false e)) h1
/-- What forget's loop has, pre being cut. -/
def FgI (B : Nat) (E : Nat → Prop) (w w1 : World) (p bt b' : Nat) (t : Int) (h : Int → Int) (m r : Int) (qv : Value) (pre : List Int) (W : World) : Prop :=
  Bt B E W bt t (cutsH h pre) 999 ∧ W.heap[p]? = some (.cells #[.int .i64 m, .int .i64 r, qv, .map (some b'), .pointer (some ⟨bt, 0, none⟩)] 53 (0, 0)) ∧ Gd.Pu.Pa.Mx ptX Tryz.prog 3 W b' 999 (fun _ => none) ∧ Boxed W w.heap.size 27 (.pointer (some ⟨p, 0, none⟩)) ∧ Rg.Kept (fun i _ => E i) w1 W
theorem FgI.kept {B : Nat} {E : Nat → Prop} {w w1 W W' : World} {p bt b' : Nat} {t : Int} {h : Int → Int} {m r : Int} {qv : Value} {pre : List Int} {F : Nat → Obj → Prop} (hE : ∀ k, E k → k < w.heap.size) (hp : p < w.heap.size) (hs : w.heap.size < w1.heap.size) (hb : b' < w1.heap.size) (k : FgI B E w w1 p bt b' t h m r qv pre W) (hk : Rg.Kept F W W') (hF : ∀ k o, F k o → w1.heap.size ≤ k) : FgI B E w w1 p bt b' t h m r qv pre W' := by
  obtain ⟨k1, k2, k3, k4, k5⟩ := k
  have far : ∀ k o, k < w1.heap.size → ¬ F k o := fun k o hl e => by have := hF k o e; omega
  exact ⟨k1.kept hk (fun k o e => far k o (by have := hE k e; omega)), hk.block _ _ k2 (far p _ (by omega)), k3.kept hk (fun o => far b' o hb), hk.block _ _ k4 (far _ _ hs), ⟨hk.os.trans k5.os, hk.tape.trans k5.tape, hk.output.trans k5.output, Nat.le_trans k5.size hk.size, fun k o ho hx => hk.block k o (k5.block k o ho hx) (far k o (Array.getElem?_eq_some_iff.1 ho).1)⟩⟩
theorem FgI.own {B : Nat} {E : Nat → Prop} {w w1 : World} {p bt b' : Nat} {t : Int} {h : Int → Int} {m r : Int} {qv : Value} (hE : ∀ k, E k → k < w.heap.size) (hp : p < w.heap.size) (hs : w.heap.size < w1.heap.size) (hb : b' < w1.heap.size) : OwnFrom w1.heap.size (FgI B E w w1 p bt b' t h m r qv) := fun _ _ _ row hs' hg hr =>
  hs'.kept hE hp hs hb (F := fun i _ => row = some i) (Rg.Kept.grown hg (fun _ _ e => e)) (fun k _ e => (hr k e).1)
set_option maxRecDepth 100000 in
set_option maxHeartbeats 1000000 in
theorem cforget_any {B : Nat} {E : Nat → Prop} {w : World} {p bt : Nat} {t : Int} {h : Int → Int} {m r : Int} {qv x3 : Value} (hb : w.heap[p]? = some (.cells #[.int .i64 m, .int .i64 r, qv, x3, .pointer (some ⟨bt, 0, none⟩)] 53 (0, 0))) (kb : Bt B E w bt t h 999) (hp : ¬ E p) :
    Calls Tryz.prog 19 #[.pointer (some ⟨p, 0, none⟩)] w fun e w' => (∃ x, e = .returned x) ∧ ∃ b', (w.heap.size ≤ b' ∧ b' < w'.heap.size) ∧ w'.heap[p]? = some (.cells #[.int .i64 m, .int .i64 r, qv, .map (some b'), .pointer (some ⟨bt, 0, none⟩)] 53 (0, 0)) ∧ Gd.Pu.Pa.Mx ptX Tryz.prog 3 w' b' 999 (fun _ => none) ∧ Bt B E w' bt t (fun _ => 0) 999 ∧ Rg.Kept (fun i _ => i = p ∨ E i) w w' := by
  refine (callsIn_wide (n := 5)).1 ?_
  have hpl : p < w.heap.size := (Array.getElem?_eq_some_iff.1 hb).1
  have hEl : ∀ k, E k → k < w.heap.size := fun k e => (kb.1 k e).2
  obtain ⟨W0, hW0⟩ : ∃ W0, W0 = w.setCell ⟨p, 3, none⟩ (.map (some (w.heap.size + 1))) := ⟨_, rfl⟩
  obtain ⟨W1, hW1⟩ : ∃ W1, W1 = W0.alloc (.cells #[.pointer (some ⟨p, 0, none⟩)] 27) := ⟨_, rfl⟩
  obtain ⟨U, hU⟩ : ∃ U, U = W1.alloc (.map #[] 0) := ⟨_, rfl⟩
  have z0 : W0.heap.size = w.heap.size := by rw [hW0]; simp
  have z1 : W1.heap.size = w.heap.size + 1 := by rw [hW1]; simp [z0]
  have zU : U.heap.size = w.heap.size + 2 := by rw [hU]; simp [z1]
  have k0 : Rg.Kept (fun i _ => i = p) w W0 := by rw [hW0]; exact Rg.Kept.setCell (a := ⟨p, 3, none⟩) _ (fun _ => rfl)
  have hb2 : Below W0.heap.size W0 U := by rw [hU, hW1]; exact ((Below.refl _ _).alloc (Nat.le_refl _) _).alloc (by simp) _
  have hp0 : W0.heap[p]? = some (.cells #[.int .i64 m, .int .i64 r, qv, .map (some (w.heap.size + 1)), .pointer (some ⟨bt, 0, none⟩)] 53 (0, 0)) := by
    rw [hW0, heap_setCell_same _ _ _ _ _ _ hb]
    rfl
  have hpU := (hb2.block p (by omega)).trans hp0
  have hbxU : Boxed U w.heap.size 27 (.pointer (some ⟨p, 0, none⟩)) := by
    show U.heap[w.heap.size]? = _
    rw [hU, hW1, ← z0]
    exact (Below.heap_alloc _ _ _ (by simp)).trans (World.alloc_heap_new W0 _)
  have kU : Rg.Kept (fun i _ => i = p ∨ E i) w U := (k0.mono (fun _ _ e => .inl e)).trans (Rg.Kept.of_below hb2)
  have kbU : Bt B E U bt t h 999 := (kb.kept k0 (fun k _ e e2 => hp (e2 ▸ e))).on hb2
  have mU : Gd.Pu.Pa.Mx ptX Tryz.prog 3 U (w.heap.size + 1) 999 (fun _ => none) := by
    have h1 := (Gd.Pu.Pa.Mx.new ptX Tryz.prog 3 W1).mono (show 0 ≤ 999 by decide)
    rw [← hU, z1] at h1
    exact h1
  have f3 : w.frozen? ⟨p, 3, none⟩ = false := frozen_of_row _ _ _ _ _ hb
  have c3 : w.cell? ⟨p, 3, none⟩ = some x3 := by rw [cell_of hb]; rfl
  have c4 : w.cell? ⟨p, 4, none⟩ = some (.pointer (some ⟨bt, 0, none⟩)) := by rw [cell_of hb]; rfl
  have hne : w.heap.size ≠ p := by omega
  have IDS := (callsIn_wide (n := 4)).2 (bids_any kbU (by decide))
  have GT := kb.2.2.1
  have HL : Hid ((idsL h).length ≤ 1000000) := by
    have : (idsL h).length ≤ 1000 := idsTo_len h 1000
    show (idsL h).length ≤ 1000000
    omega
  rw [hW1, hW0] at hU
  have HU := hide hU
  rw [hU] at IDS
  have HF := hide (And.intro kbU (And.intro hpU (And.intro mU hbxU)))
  have HK := hide kU
  clear hb kb hb2 hp0 k0 hbxU hpU kU kbU mU hU z0 z1 hW0 hW1
  have hmm := @run_makeMap Tryz.prog
  have hnf : ∀ (u : World) (b : Nat), (binOp BinOp.eql 69 (.func (.func 87) #[] #[.pointer (some ⟨b, 0, none⟩)]) .nilFunc).run Tryz.prog u = .ok (.bool false) u := fun _ _ => by kernel_rfl
  refine callsIn_of_wp_marks Tryz.func19 rfl trivial ?_ rfl
  simp only [Tryz.ntmps19, List.size_toArray, List.length_cons, List.length_nil, Nat.reduceAdd, Nat.reduceSub, Array.replicate_succ, Array.replicate_zero, List.push_toArray, List.append_toArray, List.nil_append, List.cons_append]
  gi_wp2_with fail
  refine ⟨trivial, IDS.mono ?_⟩
  rintro e w1 ⟨Bi, v0, rfl, hb1, hit, hbi, hvr⟩
  rw [← HU.out] at hb1 hbi hvr
  clear IDS
  have hs1 := hb1.size
  obtain ⟨kbU, hpU, mU, hbxU⟩ := HF.out
  have i0 : FgI B E w w1 p bt (w.heap.size + 1) t h m r qv [] w1 := ⟨kbU.on hb1, (hb1.block _ (by omega)).trans hpU, mU.on hb1, (hb1.block _ (by omega)).trans hbxU, Rg.Kept.refl _ _⟩
  have hno : NoE (fun k _ => E k) Bi v0 := ⟨fun cs f e => by have := hEl _ e; omega, fun k hk o e => by have := hvr k hk; have := hEl _ e; omega⟩
  have ES := bell_seq (E := fun k _ => E k) HL.out hit hno (fun k o h1 e => by have := hEl _ e; omega)
  have HK1 : Hid (Rg.Kept (fun i _ => i = p ∨ E i) w w1) := HK.out.trans (Rg.Kept.of_below hb1)
  have HI := hide i0
  clear hb1 hit hno hbi hvr kbU hpU mU hbxU i0 HF HK f3 c3 c4
  gi_wp2_with fail
  refine Rg.range_acts (E := fun k _ => E k) (enc := encI) (L := idsL h) (I := FgI B E w w1 p bt (w.heap.size + 1) t h m r qv) (Ix := fun _ _ _ => False)
    (Ax := fun x a' _ => a' = { tmps := #[.pointer (some ⟨p, 0, none⟩), .pointer (some ⟨w.heap.size, 0, none⟩), .int .i64 x, .pointer (some ⟨p, 0, none⟩), .map (some (w.heap.size + 1)), .pointer (some ⟨p, 0, none⟩), .pointer (some ⟨p, 3, none⟩), .pointer (some ⟨p, 0, none⟩), .pointer (some ⟨p, 0, none⟩), .pointer (some ⟨p, 4, none⟩), .pointer (some ⟨bt, 0, none⟩), .func (.func 87) #[] #[.pointer (some ⟨Bi, 0, none⟩)], .int .i64 x, undef, undef, undef, undef, undef, undef], defers := [] })
    (gf := 87) (lb := #[.pointer (some ⟨Bi, 0, none⟩)]) rfl (enters_of Tryz.func87 (by kernel_rfl) rfl) ES (fun k o h1 h2 h3 => by have := hEl _ h3; omega) rfl
    (FgI.own hEl hpl (by omega) (by omega)) (fun c' W0 W W' row hs hg hr => hs.elim) (fun x a' => ?ax) HI.out ?assign ?body ?done ?stop
  case ax =>
    intro _ W W' row hs hg hr
    exact hs
  case assign =>
    intro l pre x W K hI hK
    have HK := hK { tmps := #[.pointer (some ⟨p, 0, none⟩), .pointer (some ⟨w.heap.size, 0, none⟩), .int .i64 x, .pointer (some ⟨p, 0, none⟩), .map (some (w.heap.size + 1)), .pointer (some ⟨p, 0, none⟩), .pointer (some ⟨p, 3, none⟩), .pointer (some ⟨p, 0, none⟩), .pointer (some ⟨p, 0, none⟩), .pointer (some ⟨p, 4, none⟩), .pointer (some ⟨bt, 0, none⟩), .func (.func 87) #[] #[.pointer (some ⟨Bi, 0, none⟩)], .int .i64 x, undef, undef, undef, undef, undef, undef], defers := [] } _ (Rg.Kept.refl _ _) hI rfl
    clear hK
    unfold encI at HK ⊢
    gi_wp2
    exact HK
  case body =>
    rintro l pre x a' W hI rfl hpq
    obtain ⟨k1, k2, k3, k4, k5⟩ := hI
    have hx : 1 ≤ x ∧ x ≤ 999 := by
      obtain ⟨q, hq⟩ := hpq
      have : x ∈ idsL h := by rw [← hq]; simp
      exact GT.at_ x ((mem_idsL GT.at_ x).1 this)
    have CU := (bcut_any k1 (wf_id hx.1 hx.2)).mono (R' := fun e w' => (∃ y, e = .returned y) ∧ Rg.Kept (fun k _ => E k) W w' ∧ FgI B E w w1 p bt (w.heap.size + 1) t h m r qv (pre ++ [x]) w') (fun e w' ⟨g1, g2, g3⟩ => by
      refine ⟨⟨_, g1⟩, g3, ?_, g3.block _ _ k2 hp, k3.kept g3 (fun _ e => by have := hEl _ e; omega), g3.block _ _ k4 (fun e => by have := hEl _ e; omega), k5.trans g3⟩
      rw [cuts_snoc]
      exact bt_tight g2)
    have c1 := k4.cell
    have c4 : W.cell? ⟨p, 4, none⟩ = some (.pointer (some ⟨bt, 0, none⟩)) := by rw [cell_of k2]; rfl
    clear k1 k2 k3 k4 k5 hpq hx
    gi_wp2_with fail
    refine ⟨trivial, rfl, (CallsIn.inRound l (callsIn_wide.2 CU)).mono ?_⟩
    rintro y w3 ⟨⟨z, rfl⟩, hz1, hz2⟩
    clear CU
    gi_wp2
    exact ⟨hz1, hz2⟩
  case done =>
    rintro D W hD hI hK
    obtain ⟨k1, k2, k3, k4, k5⟩ := hI.kept hEl hpl (by omega) (by omega) (F := fun i _ => i = D) (Rg.Kept.putObj (W := W) (.deferred none) (fun _ => rfl)) (fun k _ e => by omega)
    have FIN : Hid (∃ b', (w.heap.size ≤ b' ∧ b' < (W.putObj D (.deferred none)).heap.size) ∧ (W.putObj D (.deferred none)).heap[p]? = some (.cells #[.int .i64 m, .int .i64 r, qv, .map (some b'), .pointer (some ⟨bt, 0, none⟩)] 53 (0, 0)) ∧ Gd.Pu.Pa.Mx ptX Tryz.prog 3 (W.putObj D (.deferred none)) b' 999 (fun _ => none) ∧ Bt B E (W.putObj D (.deferred none)) bt t (fun _ => 0) 999 ∧ Rg.Kept (fun i _ => i = p ∨ E i) w (W.putObj D (.deferred none))) :=
      ⟨w.heap.size + 1, ⟨by omega, k3.lt⟩, k2, k3, by rw [cuts_all GT] at k1; exact k1, HK1.out.trans (k5.mono (fun _ _ e => .inr e))⟩
    clear k1 k2 k3 k4 k5
    gi_wp2
    refine ⟨by simp, .inl ⟨_, _, rfl, run_takeDeferred hK, ?_⟩⟩
    exact ⟨_, results_none rfl _ _ _, ⟨_, rfl⟩, FIN.out⟩
  case stop => exact fun D c pre W _ _ _ h _ => h.elim
theorem bt_low {B B' : Nat} {E : Nat → Prop} {w : World} {p : Nat} {t : Int} {h : Int → Int} {n : Nat} (k : Bt B E w p t h n) (hB : B' ≤ B) : Bt B' E w p t h n := ⟨fun i e => ⟨Nat.le_trans hB (k.1 i e).1, (k.1 i e).2⟩, k.2⟩
/-- A chief that was just made. -/
def MadeC (w : World) (v : Ch) (e : Ending) (w' : World) : Prop :=
  ∃ O p q r b bt loc, e = .returned (.pointer (some ⟨p, 0, none⟩)) ∧ Up w.heap.size O w' p v q r b bt loc ∧ Below w.heap.size w w'
theorem madec_of {w w1 w2 w3 w4 : World} {orders room tries : Int} {x3 : Value} {b' : Nat} (h1 : w1 = w.alloc (.cells #[.int .i64 (roomV room), .slice none 0 0, .int .i64 0, .bool false] 73))
    (hb2 : Below w1.heap.size w1 w2) (hz2 : w1.heap.size < w2.heap.size) (h3 : w3 = w2.alloc (.cells #[.int .i64 (mostC orders), .int .i64 (roomV room), .pointer (some ⟨w.heap.size, 0, none⟩), x3, .pointer (some ⟨w1.heap.size, 0, none⟩)] 53))
    (hb' : w3.heap.size ≤ b' ∧ b' < w4.heap.size) (hp : w4.heap[w2.heap.size]? = some (.cells #[.int .i64 (mostC orders), .int .i64 (roomV room), .pointer (some ⟨w.heap.size, 0, none⟩), .map (some b'), .pointer (some ⟨w1.heap.size, 0, none⟩)] 53 (0, 0)))
    (hm : Gd.Pu.Pa.Mx ptX Tryz.prog 3 w4 b' 999 (fun _ => none)) (hbt : Bt w1.heap.size (fun k => k = w1.heap.size) w4 w1.heap.size (clampT tries) (fun _ => 0) 999) (hk : Rg.Kept (fun i _ => i = w2.heap.size ∨ i = w1.heap.size) w3 w4) :
    MadeC w (newCh orders room tries) (.returned (.pointer (some ⟨w2.heap.size, 0, none⟩))) w4 := by
  have z1 : w1.heap.size = w.heap.size + 1 := by rw [h1]; simp
  have z3 : w3.heap.size = w2.heap.size + 1 := by rw [h3]; simp
  have hb1 : Below w.heap.size w w1 := by rw [h1]; exact (Below.refl _ _).alloc (Nat.le_refl _) _
  have hb3 : Below w2.heap.size w2 w3 := by rw [h3]; exact (Below.refl _ _).alloc (Nat.le_refl _) _
  have j0 : Jr w.heap.size w1 w.heap.size (.slice none 0 0) (roomV room) [] 0 false := by
    rw [h1]
    exact Jr.new w w.heap.size (Nat.le_refl _) (roomV room) (roomV_in room).1 (roomV_in room).2
  have j4 := (j0.on (bel_on' hb2 hb3)).kept hk (fun _ e => by omega) (fun k _ e => by simp [Value.ownBlock] at e)
  have s4 := hk.size
  refine ⟨fun x k => match x with
    | .inl 0 => k = w2.heap.size
    | .inl 1 => k = w.heap.size
    | .inl 2 => k = w1.heap.size
    | .inl 3 => k = b'
    | .inl _ => False
    | .inr _ => False, w2.heap.size, w.heap.size, .slice none 0 0, b', w1.heap.size, fun _ => none, rfl, ⟨⟨fun x k e => ?_, fun x y k e1 e2 => ?_, rfl, hp, j4, rfl, (fun k e => by simp [Value.ownBlock] at e), bt_low hbt (by omega), hm, rfl, (fun id l e => by cases e), fun _ _ => rfl⟩, newCh_good _ _ _, rfl⟩, ?_⟩
  · rcases x with (_ | _ | _ | _ | x) | x
    all_goals first | exact False.elim e | (have e : k = _ := e; omega)
  · rcases x with (_ | _ | _ | _ | x) | x
    all_goals rcases y with (_ | _ | _ | _ | y) | y
    all_goals first | rfl | exact False.elim e1 | exact False.elim e2 | (have e1 : k = _ := e1; have e2 : k = _ := e2; omega)
  · refine (bel_on' hb1 (bel_on' hb2 hb3)).trans (hk.bel ?_ (fun k _ e => ?_))
    · omega
    · omega
set_option maxHeartbeats 1000000 in
theorem cnew_any (orders room tries : Int) (w : World) :
    Calls Tryz.prog 7 #[.int .i64 orders, .int .i64 room, .int .i64 tries] w (MadeC w (newCh orders room tries)) := by
  have N := new_any room w
  have FX : Hid (∀ w1 w2, w1 = w.alloc (.cells #[.int .i64 (roomV room), .slice none 0 0, .int .i64 0, .bool false] 73) → Below w1.heap.size w1 w2 → Bt w1.heap.size (fun k => k = w1.heap.size) w2 w1.heap.size (clampT tries) (fun _ => 0) 0 → ∀ x3 w3, w3 = w2.alloc (.cells #[.int .i64 (mostC orders), .int .i64 (roomV room), .pointer (some ⟨w.heap.size, 0, none⟩), x3, .pointer (some ⟨w1.heap.size, 0, none⟩)] 53) → Calls Tryz.prog 19 #[.pointer (some ⟨w2.heap.size, 0, none⟩)] w3 fun e w' => (∃ x, e = .returned x) ∧ MadeC w (newCh orders room tries) (.returned (.pointer (some ⟨w2.heap.size, 0, none⟩))) w') := fun w1 w2 h1 h2 hbt x3 w3 h3 => by
    have hz := (hbt.1 w1.heap.size rfl).2
    have hb3 : Below w2.heap.size w2 w3 := by rw [h3]; exact (Below.refl _ _).alloc (Nat.le_refl _) _
    have hp3 : w3.heap[w2.heap.size]? = some (.cells #[.int .i64 (mostC orders), .int .i64 (roomV room), .pointer (some ⟨w.heap.size, 0, none⟩), x3, .pointer (some ⟨w1.heap.size, 0, none⟩)] 53 (0, 0)) := by rw [h3]; exact World.alloc_heap_new w2 _
    refine (cforget_any hp3 (bt_tight (hbt.on hb3)) (fun e => by omega)).mono ?_
    rintro e w4 ⟨g1, b', g2, g3, g4, g5, g6⟩
    exact ⟨g1, madec_of h1 h2 hz h3 g2 g3 g4 g5 g6⟩
  have BN := fun W => bnew_any tries W
  unfold mostC roomV at FX
  unfold roomV at N
  generalize newCh orders room tries = v0 at *
  generalize clampT tries = ct at *
  go_enter Tryz.func7, Tryz.ntmps7
  go_wp2_with (first
    | (go_at_call 17; refine N.mono ?_; clear N; rintro e w1 ⟨rfl, h1⟩; have HW1 := hide h1; clear h1)
    | (go_at_call 18; refine (BN _).mono ?_; clear BN; rintro e w2 ⟨pb, rfl, rfl, hbt, hb2⟩; have FY := FX.out _ w2 HW1.out hb2 hbt; clear hbt hb2 FX)
    | (go_at_call 19; refine (FY _ _ rfl).mono ?_; clear FY; rintro e w4 ⟨⟨y, rfl⟩, hm⟩; have HX := hide hm; clear hm))
  go_ret
  exact HX.out
end Go.Proofs.YtdnpgfdlmacfkabGreatDoor
/-
  A chief that is up, above a world w0, with answers named; the law's awake.
-/
namespace Go.Proofs.YtdnpgfdlmacfkabGreatDoor
open Go.ChangeShapes Go.WideShapes Go.ChangeAt Go.RowKit Go.Maps Sg Bl

theorem jr_low {B B' : Nat} {w : World} {p : Nat} {v : Value} {room : Int} {L : List ByteArray} {sure : Nat} {down : Bool} (h : Jr B w p v room L sure down) (hB : B' ≤ B) : Jr B' w p v room L sure down := ⟨h.1, Nat.le_trans hB h.2.1, own_low h.2.2.1 hB, h.2.2.2⟩
/-- The chief at p, above w0; its blocks are O's. -/
def Cu (w0 : World) (O : Pt → Nat → Prop) (w : World) (p : Nat) (v : Ch) : Prop := (∃ q r b bt loc, Up w0.heap.size O w p v q r b bt loc) ∧ Below w0.heap.size w0 w
/-- An answer, beside the chief. -/
def AnC (w : World) (O : Pt → Nat → Prop) (a : Option Addr) (c : Nat) (xs : List Mg) : Prop := (∃ B0, w.ownsRow B0 36 7 (.slice a xs.length c) xs.length (mgCells xs)) ∧ ∀ ad, a = some ad → ¬ Eo O ad.block
/-- The block k has the object o; it is none of the chief's. -/
def Abc (w : World) (O : Pt → Nat → Prop) (k : Nat) (o : Obj) : Prop := w.heap[k]? = some o ∧ ¬ Eo O k
/-- What a step leaves of the rest. -/
def Go_ (O : Pt → Nat → Prop) (w : World) (O' : Pt → Nat → Prop) (w' : World) : Prop := (∀ i, Eo O' i → growE (Eo O) w w' i) ∧ Rg.Kept (fun i _ => Eo O i) w w'
section
variable {w0 w w' : World} {O O' : Pt → Nat → Prop} {p : Nat} {v v' : Ch}
theorem Go_.of_below (hb : Below w.heap.size w w') : Go_ O w O w' := ⟨fun _ e => .inl e, Rg.Kept.of_below hb⟩
theorem Cu.on (k : Cu w0 O w p v) (hb : Below w.heap.size w w') : Cu w0 O w' p v := by
  obtain ⟨⟨q, r, b, bt, loc, h⟩, h2⟩ := k
  exact ⟨⟨q, r, b, bt, loc, h.on hb⟩, bel_on' h2 hb⟩
theorem Cu.good (k : Cu w0 O w p v) : GoodCh v := by
  obtain ⟨⟨q, r, b, bt, loc, h⟩, _⟩ := k
  exact h.g
theorem Cu.lt (k : Cu w0 O w p v) {i : Nat} (e : Eo O i) : w0.heap.size ≤ i ∧ i < w.heap.size := by
  obtain ⟨⟨q, r, b, bt, loc, h⟩, _⟩ := k
  obtain ⟨y, e⟩ := e
  exact h.k.bd y i e
theorem Cu.gl (hg : Gl w0) (k : Cu w0 O w p v) : ∀ u, Rg.Kept (fun i _ => Eo O i) w u → Gl u := fun _ h => hg.on (k.2.trans (h.bel (by obtain ⟨⟨q, r, b, bt, loc, h1⟩, _⟩ := k; exact h1.k.low) (fun i _ e => (k.lt e).1)))
theorem Abc.step {k : Nat} {o : Obj} (h : Abc w O k o) (g : Go_ O w O' w') : Abc w' O' k o :=
  ⟨g.2.block _ _ h.1 h.2, fun e => (g.1 k e).elim h.2 (fun e => by have := (Array.getElem?_eq_some_iff.1 h.1).1; omega)⟩
theorem Abc.on {k : Nat} {o : Obj} (h : Abc w O k o) (hb : Below w.heap.size w w') : Abc w' O k o := h.step (Go_.of_below hb)
theorem AnC.step {a : Option Addr} {c : Nat} {xs : List Mg} (h : AnC w O a c xs) (g : Go_ O w O' w') : AnC w' O' a c xs := by
  obtain ⟨⟨B0, h1⟩, h2⟩ := h
  refine ⟨⟨B0, own_keptR h1 g.2 (fun k _ e => by obtain ⟨x, e3, rfl⟩ := own_some e; exact h2 x e3)⟩, fun ad e e2 => ?_⟩
  rcases g.1 _ e2 with e3 | e3
  · exact h2 ad e e3
  · have := (h1.lt ad.block (by rw [e]; rfl)).2
    omega
theorem AnC.on {a : Option Addr} {c : Nat} {xs : List Mg} (h : AnC w O a c xs) (hb : Below w.heap.size w w') : AnC w' O a c xs := h.step (Go_.of_below hb)
theorem AnC.mgs {a : Option Addr} {c : Nat} {xs : List Mg} (h : AnC w O a c xs) : Mgs w a xs := by
  obtain ⟨⟨B0, h1⟩, _⟩ := h
  exact row_mgs h1
/-- Out of a step's word. -/
theorem SendR.cu {q b bt : Nat} {loc : Int → Option Nat} (k : Cu w0 O w p v) {v2 : Ch} {xs : List Mg} {e : Ending} (h : SendR w0.heap.size O w p v2 q b bt loc xs e w') : ∃ a c O', e = .returned (.slice a xs.length c) ∧ AnC w' O' a c xs ∧ Cu w0 O' w' p v2 ∧ Go_ O w O' w' := by
  obtain ⟨ra, rc, O1, r1, loc1, h1, h2, h3, h4, h5, h6, h7⟩ := h
  exact ⟨ra, rc, O1, h1, ⟨⟨_, h2⟩, h3⟩, ⟨⟨q, r1, b, bt, loc1, h4⟩, k.2.trans (h6.bel (by obtain ⟨⟨q, r, b, bt, loc, h1⟩, _⟩ := k; exact h1.k.low) (fun i _ e => (k.lt e).1))⟩, h5, h6⟩
theorem UStp.cu {q b bt : Nat} {loc : Int → Option Nat} (k : Cu w0 O w p v) {v2 : Ch} (h : UStp w0.heap.size O w p v2 q b bt loc w') : ∃ O', Cu w0 O' w' p v2 ∧ Go_ O w O' w' := by
  obtain ⟨O1, r1, loc1, h4, h5, h6, h7⟩ := h
  exact ⟨O1, ⟨⟨q, r1, b, bt, loc1, h4⟩, k.2.trans (h6.bel (by obtain ⟨⟨q, r, b, bt, loc, h1⟩, _⟩ := k; exact h1.k.low) (fun i _ e => (k.lt e).1))⟩, h5, h6⟩
theorem Cu.new (hb : Below w0.heap.size w0 w) (orders room tries : Int) :
    Calls Tryz.prog 7 #[.int .i64 orders, .int .i64 room, .int .i64 tries] w fun e w' => ∃ p O, e = .returned (.pointer (some ⟨p, 0, none⟩)) ∧ Cu w0 O w' p (newCh orders room tries) ∧ Below w.heap.size w w' ∧ ∀ i, Eo O i → w.heap.size ≤ i := by
  refine (cnew_any orders room tries w).mono ?_
  rintro e w' ⟨O, p, q, r, b, bt, loc, h1, h2, h3⟩
  have hB := hb.size
  have k2 : CkV w0.heap.size O w' p (newCh orders room tries) q r b bt loc ((newCh orders room tries).T.map lnC) :=
    ⟨fun x i e => ⟨Nat.le_trans hB (h2.k.bd x i e).1, (h2.k.bd x i e).2⟩, h2.k.dj, h2.k.op, h2.k.blk, jr_low h2.k.jr hB, h2.k.oq, h2.k.or, bt_low h2.k.bl hB, h2.k.mp, h2.k.ob, (fun id l e => by cases e), h2.k.no⟩
  exact ⟨p, O, h1, ⟨⟨q, r, b, bt, loc, k2, h2.g, h2.d⟩, bel_on' hb h3⟩, h3, fun i ⟨y, e⟩ => (h2.k.bd y i e).1⟩
theorem Cu.begin (hg : Gl w0) (k : Cu w0 O w p v) (o : Od) {sa : Option Addr} {sc : Nat} (hs : Sts w sa o.steps) (hsl : o.steps.length ≤ 9223372036854775807) (hw : (Lit.int .i64 o.id).wf = true) {n : Int} (hn : begE v o = n) (hv : begS v o = v') {xs : List Mg} (hx : begA v o = xs) :
    Calls Tryz.prog 9 #[.pointer (some ⟨p, 0, none⟩), .agg #[.int .i64 o.id, .int .i64 o.item, .int .i64 o.qty, .int .i64 o.client, .int .i64 o.price, .slice sa o.steps.length sc]] w fun e w' => ∃ a c O', e = .returned (.tuple #[.slice a xs.length c, .int .i64 n]) ∧ AnC w' O' a c xs ∧ Cu w0 O' w' p v' ∧ Go_ O w O' w' := by
  subst hn hv hx
  obtain ⟨⟨q, r, b, bt, loc, h⟩, _⟩ := id k
  refine (cbeg_any h (k.gl hg) o hs hsl hw).mono ?_
  rintro e w' ⟨x, h1, h2⟩
  obtain ⟨a, c, O', h3, h4, h5, h6⟩ := h2.cu k
  cases h3
  exact ⟨a, c, O', h1, h4, h5, h6⟩
theorem Cu.cancel (hg : Gl w0) (k : Cu w0 O w p v) {id : Int} (hw : (Lit.int .i64 id).wf = true) {n : Int} (hn : canE v id = n) (hv : canS v id = v') {xs : List Mg} (hx : canA v id = xs) :
    Calls Tryz.prog 8 #[.pointer (some ⟨p, 0, none⟩), .int .i64 id] w fun e w' => ∃ a c O', e = .returned (.tuple #[.slice a xs.length c, .int .i64 n]) ∧ AnC w' O' a c xs ∧ Cu w0 O' w' p v' ∧ Go_ O w O' w' := by
  subst hn hv hx
  obtain ⟨⟨q, r, b, bt, loc, h⟩, _⟩ := _root_.id k
  refine (ccan_any h (k.gl hg) hw).mono ?_
  rintro e w' ⟨x, h1, h2⟩
  obtain ⟨a, c, O', h3, h4, h5, h6⟩ := h2.cu k
  cases h3
  exact ⟨a, c, O', h1, h4, h5, h6⟩
theorem Cu.accept (hg : Gl w0) (k : Cu w0 O w p v) {id : Int} (hw : (Lit.int .i64 id).wf = true) {n : Int} (hn : accE v id = n) (hv : accS v id = v') :
    Calls Tryz.prog 12 #[.pointer (some ⟨p, 0, none⟩), .int .i64 id] w fun e w' => ∃ O', e = .returned (.int .i64 n) ∧ Cu w0 O' w' p v' ∧ Go_ O w O' w' := by
  subst hn hv
  obtain ⟨⟨q, r, b, bt, loc, h⟩, _⟩ := _root_.id k
  refine (cacc_any h (k.gl hg) hw).mono ?_
  rintro e w' ⟨h1, h2⟩
  obtain ⟨O', h3, h4⟩ := h2.cu k
  exact ⟨O', h1, h3, h4⟩
theorem Cu.handle (hg : Gl w0) (k : Cu w0 O w p v) (m : Mg) (hw : (Lit.int .i64 m.id).wf = true) (hv : (hdSA v m).1 = v') {xs : List Mg} (hx : (hdSA v m).2 = xs) :
    Calls Tryz.prog 10 #[.pointer (some ⟨p, 0, none⟩), .agg #[.int .i64 m.k, .int .i64 m.fr, .int .i64 m.to, .int .i64 m.id, .int .i64 m.st, .int .i64 m.a, .int .i64 m.b]] w fun e w' => ∃ a c O', e = .returned (.slice a xs.length c) ∧ AnC w' O' a c xs ∧ Cu w0 O' w' p v' ∧ Go_ O w O' w' := by
  subst hv hx
  obtain ⟨⟨q, r, b, bt, loc, h⟩, _⟩ := _root_.id k
  exact (chandle_any h (k.gl hg) m hw).mono (fun _ _ h2 => h2.cu k)
theorem Cu.state (k : Cu w0 O w p v) {id : Int} (hw : (Lit.int .i64 id).wf = true) {n : Int} (hn : stC v id = n) :
    Calls Tryz.prog 11 #[.pointer (some ⟨p, 0, none⟩), .int .i64 id] w fun e w' => e = .returned (.int .i64 n) ∧ Below w.heap.size w w' := by
  subst hn
  obtain ⟨⟨q, r, b, bt, loc, h⟩, _⟩ := _root_.id k
  exact h.k.state hw
end
end Go.Proofs.YtdnpgfdlmacfkabGreatDoor
/-
  The law's awake, of a chief.
-/
namespace Go.Proofs.YtdnpgfdlmacfkabGreatDoor
open Go.ChangeShapes Go.WideShapes Go.ChangeAt Go.RowKit Go.Maps Sg Bl

theorem AnC.two {w : World} {O : Pt → Nat → Prop} {a : Option Addr} {c : Nat} {m0 m1 : Mg} (h : AnC w O a c [m0, m1]) : ∃ b off, a = some ⟨b, off, none⟩ ∧ w.cell? ⟨b, off, none⟩ = some (.int .i64 m0.k) ∧ w.cell? ⟨b, off + 7, none⟩ = some (.int .i64 m1.k) := by
  rcases h.mgs with h1 | ⟨b, off, h1, h2⟩
  · cases h1
  · exact ⟨b, off, h1, h2 0 _ rfl, h2 7 _ rfl⟩
def oA : Od := ⟨7, 0, 1, 0, 1, []⟩
def mA : Mg := ⟨8, 2, 0, 7, 0, 0, 0⟩
theorem aw_e : begE (newCh 5 50 3) oA = 0 := by kernel_rfl
theorem aw_a : begA (newCh 5 50 3) oA = [⟨6, 0, 1, 7, 0, 0, 1⟩, ⟨6, 0, 2, 7, 0, 0, 1⟩] := by kernel_rfl
theorem aw_h : (hdSA (begS (newCh 5 50 3) oA) mA).2 = [⟨10, 0, 1, 7, 0, 0, 0⟩, ⟨10, 0, 2, 7, 0, 0, 0⟩] := by kernel_rfl
theorem aw_s : stC (hdSA (begS (newCh 5 50 3) oA) mA).1 7 = 4 := by kernel_rfl
set_option maxRecDepth 100000 in
set_option maxHeartbeats 1000000 in
theorem cwake_any (w : World) (hg : Gl w) : Calls Tryz.prog 6 #[] w fun e w' => e = .returned (.bool true) ∧ Below w.heap.size w w' := by
  have N := Cu.new (w0 := w) (Below.refl _ _) 5 50 3
  have A1 := aw_e
  have A2 := aw_a
  have A3 := aw_h
  have A4 := aw_s
  generalize newCh 5 50 3 = v0 at *
  obtain ⟨v1, hv1⟩ : ∃ v1, begS v0 oA = v1 := ⟨_, rfl⟩
  rw [hv1] at A3 A4
  obtain ⟨v2, hv2⟩ : ∃ v2, (hdSA v1 mA).1 = v2 := ⟨_, rfl⟩
  rw [hv2] at A4
  have HB : Hid (∀ u p O, Cu w O u p v0 → Calls Tryz.prog 9 #[.pointer (some ⟨p, 0, none⟩), .agg #[.int .i64 7, .int .i64 0, .int .i64 1, .int .i64 0, .int .i64 1, .slice none 0 0]] u fun e w' => ∃ a c O', e = .returned (.tuple #[.slice a 2 c, .int .i64 0]) ∧ AnC w' O' a c [⟨6, 0, 1, 7, 0, 0, 1⟩, ⟨6, 0, 2, 7, 0, 0, 1⟩] ∧ Cu w O' w' p v1) := fun u p O k =>
    (k.begin hg oA (sa := none) (sc := 0) (.inl rfl) (by decide) (by decide) A1 hv1 A2).mono (fun _ _ ⟨a, c, O', e1, e2, e3, _⟩ => ⟨a, c, O', e1, e2, e3⟩)
  have HH : Hid (∀ u p O a c, Cu w O u p v1 → AnC u O a c [⟨6, 0, 1, 7, 0, 0, 1⟩, ⟨6, 0, 2, 7, 0, 0, 1⟩] → Calls Tryz.prog 10 #[.pointer (some ⟨p, 0, none⟩), .agg #[.int .i64 8, .int .i64 2, .int .i64 0, .int .i64 7, .int .i64 0, .int .i64 0, .int .i64 0]] u fun e w' => ∃ a2 c2, e = .returned (.slice a2 2 c2) ∧ (∃ b off, a2 = some ⟨b, off, none⟩ ∧ w'.cell? ⟨b, off + 7, none⟩ = some (.int .i64 10)) ∧ (∃ b off, a = some ⟨b, off, none⟩ ∧ w'.cell? ⟨b, off, none⟩ = some (.int .i64 6)) ∧ Calls Tryz.prog 11 #[.pointer (some ⟨p, 0, none⟩), .int .i64 7] w' fun e w'' => e = .returned (.int .i64 4) ∧ Below w.heap.size w w'') := fun u p O a c k h => by
    refine (k.handle hg mA (by decide) hv2 A3).mono ?_
    rintro e w' ⟨a2, c2, O2, e1, e2, e3, e4⟩
    obtain ⟨b, off, g1, g2, -⟩ := (h.step e4).two
    obtain ⟨b2, off2, g3, -, g4⟩ := e2.two
    exact ⟨a2, c2, e1, ⟨b2, off2, g3, g4⟩, ⟨b, off, g1, g2⟩, (e3.state (id := 7) (by decide) A4).mono (fun _ _ ⟨z1, z2⟩ => ⟨z1, bel_on' e3.2 z2⟩)⟩
  clear A1 A2 A3 A4 hv1 hv2 hg
  go_enter Tryz.func6, Tryz.ntmps6
  go_wp2_with (first
    | (go_at_call 7; refine N.mono ?_; clear N; rintro e u1 ⟨p, O, rfl, h1, -, -⟩; have B2 := HB.out u1 p O h1; clear h1 HB)
    | (go_at_call 9; refine B2.mono ?_; clear B2; rintro e u2 ⟨a, c, O1, rfl, h1, h2⟩; have H2 := HH.out u2 p O1 a c h2 h1; clear h1 h2 HH)
    | (go_at_call 10; refine H2.mono ?_; clear H2; rintro e u3 ⟨a2, c2, rfl, ⟨b2, o2, rfl, d2⟩, ⟨b1, o1, rfl, d1⟩, h3⟩; have S2 := h3; clear h3)
    | (go_at_call 11; refine S2.mono ?_; clear S2; rintro e u4 ⟨rfl, hb⟩; have HX := hide hb; clear hb))
  go_ret
  exact ⟨rfl, HX.out⟩
end Go.Proofs.YtdnpgfdlmacfkabGreatDoor
/-
  Contract of the chief's Ids: an iterator over the orders that it leads, rising.
-/
namespace Go.Proofs.YtdnpgfdlmacfkabGreatDoor.Ci
open Go.ChangeShapes Go.WideShapes Go.ChangeAt Go.RowKit Go.Shelf Go.Maps Go.Sort Sg Bl

theorem keyscall (mb : Option Nat) (W : World) : CallsIn Fence.wide 5 Tryz.prog 65 #[.map mb] W fun e w' => e = .returned (.func (.func 86) #[] #[.pointer (some ⟨W.heap.size, 0, none⟩)]) ∧ w' = W.alloc (.cells #[.map mb] 51) :=
  AnyZI.keys_in Tryz.keysB Fence.wide 5 trivial rfl mb W
/-- What slices.Sorted tells of them. -/
theorem sortedcall {R : Value → Option (DataW Unit × List MemPlace)} {b n : Nat} {D : DataW Unit} {w : World} (hown : w.ownsMap Tryz.prog 3 R b n D) (hn : n ≤ 1000000) :
    CallsIn Fence.wide 5 Tryz.prog 64 #[.func (.func 86) #[] #[.pointer (some ⟨w.heap.size, 0, none⟩)]] (w.alloc (.cells #[.map (some b)] 51)) fun e w' => ∃ (v : Value) (ss : List Int), e = .returned v ∧ ss.Perm (intKeys D) ∧
      w'.ownsRow (w.alloc (.cells #[.map (some b)] 51)).heap.size 3 1 v ss.length ((ss.mergeSort (fun x y => decide (x ≤ y))).map encZ) ∧ (v = .slice none 0 0 ↔ ss = []) ∧ Below (w.alloc (.cells #[.map (some b)] 51)).heap.size (w.alloc (.cells #[.map (some b)] 51)) w' := by
  have hsz := hown.size_le
  have hseq : SeqGives Fence.wide 2 Tryz.prog 86 #[.pointer (some ⟨w.heap.size, 0, none⟩)] encZ (fun ss => ss.Perm (intKeys D)) (Maps.size D) (w.alloc (.cells #[.map (some b)] 51)) :=
    AnyZI.keys_gives (ρ := Tryz.keysB_ren) { Tryz.keysB with } Fence.wide _ trivial rfl (by omega) w.heap.size b n D _ (by simp) (by simp) (hown.alloc _)
  exact AnyZI.sorted_in Tryz.sortedA Fence.wide 5 trivial trivial trivial trivial rfl (by omega) (sortsA _) (enters_of Tryz.func85 (by kernel_rfl) rfl) 86 #[.pointer (some ⟨w.heap.size, 0, none⟩)] trivial (enters_of Tryz.func86 (by kernel_rfl) rfl) _ _ (by unfold maxLen; omega) (by omega) _ hseq
theorem ids9_rise : ids9.Pairwise (· < ·) := by
  unfold ids9
  rw [List.pairwise_map]
  exact List.pairwise_lt_range.imp (fun h => by omega)
theorem idsC_rise (L : Int → Option Lk) : (idsC L).Pairwise (· < ·) := ids9_rise.filter _
theorem keys_ids {R : Value → Option (DataW Unit × List MemPlace)} {b n : Nat} {D : DataW Unit} {w : World} {L : Int → Option Lk} (gm : GoodM L) (hown : w.ownsMap Tryz.prog 3 R b n D) (hD : ∀ x : Int, Maps.has D (.int .i64 x) = (L x).isSome) {ss : List Int} (hp : ss.Perm (intKeys D)) :
    ss.mergeSort (fun x y => decide (x ≤ y)) = idsC L ∧ ss.length = (idsC L).length := by
  have hC : CollectedI D (fun _ => false) (idsC L) := ⟨idsC_nodup L, fun x => by rw [idsC_mem gm, hD]; simp⟩
  have hq : ss.Perm (idsC L) := hp.trans (hC.perm hown lawI Tryz.underlying3 (fun _ => rfl)).symm
  refine ⟨?_, hq.length_eq⟩
  refine (mergeSort_of_perm_i hq).trans (List.mergeSort_of_pairwise ?_)
  exact (idsC_rise L).imp (fun h => by simp; omega)
set_option maxHeartbeats 1000000 in
theorem cids_any {B : Nat} {O : Pt → Nat → Prop} {w : World} {p : Nat} {v : Ch} {q : Nat} {r : Value} {b bt : Nat} {loc : Int → Option Nat} {Lq : List ByteArray} (k : CkV B O w p v q r b bt loc Lq) (gm : GoodM v.L) :
    Calls Tryz.prog 40 #[.pointer (some ⟨p, 0, none⟩)] w fun e w' => ∃ Bi, e = .returned (.func (.func 83) #[] #[.pointer (some ⟨Bi, 0, none⟩)]) ∧ Below w.heap.size w w' ∧ EachAt w.heap.size w'.heap.size w' Bi (idsC v.L) := by
  obtain ⟨-, -, -, c3, -⟩ := k.cell3
  obtain ⟨D, hown, hfit⟩ := k.mp
  have hLD : ∀ x : Int, Maps.has D (.int .i64 x) = (v.L x).isSome := fun x => by
    rw [(hfit.2 x).2]
    rcases k.at_ x with ⟨h1, h2⟩ | ⟨l, a, h1, h2, -⟩ <;> simp only [h1, h2] <;> rfl
  have cS := sortedcall hown (show 999 ≤ 1000000 by decide)
  have KI := fun ss => keys_ids (ss := ss) gm hown hLD
  clear k hown hfit hLD
  refine (callsIn_wide (n := 6)).1 ?_
  have hfK : Fence.wide.fn 65 := trivial
  have hfS : Fence.wide.fn 64 := trivial
  have hfE : Fence.wide.fn 63 := trivial
  have cE : ∀ (a : Option Addr) (l c : Nat) (W : World), CallsIn Fence.wide 5 Tryz.prog 63 #[.slice a l c] W _ := fun a l c W => callsIn_wide.2 (each_any a l c W)
  refine callsIn_of_wp Tryz.func40 rfl trivial ?_ rfl
  simp only [Tryz.ntmps40, List.size_toArray, List.length_cons, List.length_nil, Nat.reduceAdd, Nat.reduceSub, Array.replicate_succ, Array.replicate_zero, List.push_toArray, List.append_toArray, List.nil_append, List.cons_append]
  gi_wp2_with (first
    | (gi_at_call 65; refine (keyscall _ _).mono ?_; rintro e w' ⟨rfl, rfl⟩)
    | (gi_at_call 64; refine cS.mono ?_; rintro e w1 ⟨sv, ss, rfl, hp, hrow, -, hb⟩; obtain ⟨e1, e2⟩ := KI ss hp; rw [e1, e2] at hrow; obtain ⟨a1, n1, rfl, -⟩ := row_slice hrow; clear cS KI)
    | (gi_at_call 63; refine (cE _ _ _ _).mono ?_; rintro e w2 ⟨rfl, rfl⟩))
  go_ret
  have hsz : w.heap.size ≤ w1.heap.size := by have := hb.size; simp at this; omega
  have hr2 := hrow.alloc (.cells #[.slice a1 (idsC v.L).length n1] 43)
  refine ⟨_, rfl, ((Below.refl _ w).alloc (Nat.le_refl _) _).trans ((hb.mono (by simp)).alloc hsz _), _, ⟨hsz, by simp⟩, World.alloc_heap_new _ _, own_low hr2 (by simp), fun k e => (hr2.lt k e).2⟩
end Go.Proofs.YtdnpgfdlmacfkabGreatDoor.Ci
/-
  The law's ids, of a chief above a world.
-/
namespace Go.Proofs.YtdnpgfdlmacfkabGreatDoor
open Go.ChangeShapes Go.WideShapes Go.ChangeAt Go.RowKit Go.Maps Sg Bl

theorem Cu.ids {w0 w : World} {O : Pt → Nat → Prop} {p : Nat} {v : Ch} (k : Cu w0 O w p v) {n : Nat} (hn : n ≤ 1000) :
    Calls Tryz.prog 13 #[.pointer (some ⟨p, 0, none⟩), .int .i64 n] w (Ci.OwnInts w ((idsC v.L).take n)) := by
  obtain ⟨⟨q, r, b, bt, loc, h⟩, _⟩ := k
  exact Ci.lids_any (some ⟨p, 0, none⟩) (idsC v.L) (by have := idsC_len v.L; omega) w n hn (fun U hU => Ci.cids_any (h.k.on hU) h.g.gm)
theorem Cu.ids_len {w0 w : World} {O : Pt → Nat → Prop} {p : Nat} {v : Ch} (k : Cu w0 O w p v) {b : Nat} (hb : (idsC v.L).length = b) (h : b ≤ 100) :
    Calls Tryz.prog 13 #[.pointer (some ⟨p, 0, none⟩), .int .i64 100] w fun e w' => ∃ a c, e = .returned (.slice a b c) ∧ Below w.heap.size w w' := by
  refine (k.ids (n := 100) (by decide)).mono ?_
  rintro e w' ⟨a, c, h1, -, -, h2⟩
  rw [List.length_take, hb, Nat.min_eq_right h] at h1
  exact ⟨a, c, h1, h2⟩
end Go.Proofs.YtdnpgfdlmacfkabGreatDoor
/-
  ChiefRoom: the walk.
-/
namespace Go.Proofs.YtdnpgfdlmacfkabGreatDoor
open Go.ChangeShapes Go.WideShapes Go.ChangeAt Go.RowKit Go.Maps Sg Bl

/-- One begins, and is asked for. -/
def BegAt (w : World) (p : Nat) (v' : Ch) (x : Int) (k : Nat) (n s : Int) (e : Ending) (u : World) : Prop :=
  ∃ y O', e = .returned (.tuple #[y, .int .i64 n]) ∧ u.cell? ⟨k, 0, none⟩ = some (.int .i64 x) ∧ Cu w O' u p v' ∧ Calls Tryz.prog 11 #[.pointer (some ⟨p, 0, none⟩), .int .i64 x] u fun e w' => e = .returned (.int .i64 s) ∧ Cu w O' w' p v'
theorem beg_at {w wr : World} {O : Pt → Nat → Prop} {p : Nat} {v v' : Ch} (hg : Gl w) (k : Cu w O wr p v) {j : Nat} (hj : j < 12) {n s : Int} (hn : begE v (rmO j) = n) (hv : begS v (rmO j) = v') (hs : stC v' (1 + j) = s) {U : World} (hb : Below wr.heap.size wr U)
    (hr : U.heap[wr.heap.size]? = some (.cells #[.int .i64 5, .int .i64 1] 42 (0, 0))) (hx : U.heap[wr.heap.size + 1]? = some (.cells #[.int .i64 (1 + j), .int .i64 0, .int .i64 1, .int .i64 0, .int .i64 1, .slice (some ⟨wr.heap.size, 0, none⟩) 1 1] 24 (0, 0))) :
    Calls Tryz.prog 9 #[.pointer (some ⟨p, 0, none⟩), .agg #[.int .i64 (1 + j), .int .i64 0, .int .i64 1, .int .i64 0, .int .i64 1, .slice (some ⟨wr.heap.size, 0, none⟩) 1 1]] U (BegAt w p v' (1 + j) (wr.heap.size + 1) n s) := by
  have hw : (Lit.int .i64 (rmO j).id).wf = true := wf_id (show 1 ≤ 1 + (j : Int) by omega) (show 1 + (j : Int) ≤ 999 by omega)
  have hst : Sts U (some ⟨wr.heap.size, 0, none⟩) (rmO j).steps := .inr ⟨_, _, rfl, fun i hi => by
    have e : i = 0 := by simp [rmO] at hi; omega
    subst e
    exact ⟨by rw [cell_of hr]; rfl, by rw [cell_of hr]; rfl⟩⟩
  refine ((k.on hb).begin hg (rmO j) hst (by simp [rmO]) hw hn hv rfl).mono ?_
  rintro e u ⟨a, c, O', h1, -, h3, h4⟩
  have hA : Abc u O' (wr.heap.size + 1) _ := Abc.step ⟨hx, fun e => by have := (k.lt e).2; omega⟩ h4
  refine ⟨_, O', h1, by rw [cell_of hA.1]; rfl, h3, (h3.state hw hs).mono (fun _ _ ⟨g1, g2⟩ => ⟨g1, h3.on g2⟩)⟩

set_option maxHeartbeats 4000000 in
theorem chiefRoom_walk (a b : Int) (w : World) (_h0 : (Lit.int .i64 a).wf = true) (_h1 : (Lit.int .i64 b).wf = true) (hg : Gl w) :
    Calls Tryz.prog 4 #[.int .i64 a, .int .i64 b] w fun e w' => e = .returned (.bool true) ∧ Below w.heap.size w w' := by
  obtain ⟨ba1, ba2⟩ := um_bd a 10 (by omega) (by omega)
  obtain ⟨A, hA⟩ : ∃ A, um a 10 = A := ⟨_, rfl⟩
  rw [hA] at ba1 ba2
  unfold um at hA
  obtain ⟨bb1, bb2⟩ := um_bd b 12 (by omega) (by omega)
  obtain ⟨B, hB⟩ : ∃ B, um b 12 = B := ⟨_, rfl⟩
  rw [hB] at bb1 bb2
  unfold um at hB
  have N := Cu.new (Below.refl w.heap.size w) (1 + A) (1 + B) 3
  have R0 : Hid (Rm (1 + A) (1 + B) 0 (newCh (1 + A) (1 + B) 3)) := Rm.new (by omega) (by omega) (by unfold roomV; omega)
  generalize newCh (1 + A) (1 + B) 3 = v0 at *
  clear _h0 _h1
  go_enter Tryz.func4, Tryz.ntmps4
  go_wp2_with fail
  refine N.mono ?_
  clear N
  rintro e w1 ⟨p, O0, rfl, k0, -, -⟩
  have K0 := hide k0
  clear k0
  go_wp2_with fail
  go_loopw [6, 7, 27] (fun l c i wr => ∃ (j m : Nat) (v : Ch) (O : Pt → Nat → Prop), i = .int .i64 j ∧ l = .int .i64 (1 + B - 2 * m) ∧ c = .int .i64 m ∧ j ≤ 12 ∧ m ≤ j ∧ (2 * m : Int) ≤ 1 + B ∧ (m = j ∨ ¬ ((m : Int) < 1 + A ∧ (2 * m + 2 : Int) ≤ 1 + B)) ∧ Hid (Cu w O wr p v) ∧ Hid (Rm (1 + A) (1 + B) m v)) (fun _ _ i _ => 12 - (Go.RowKit.intOf i).toNat)
  case atStart => exact ⟨0, 0, _, _, rfl, by simp, rfl, by omega, Nat.le_refl 0, by omega, .inl rfl, K0, R0⟩
  case round =>
    obtain ⟨j, m, v, O, rfl, rfl, rfl, hj, hmj, hmB, hor, HK, HF⟩ := hrel
    clear K0 R0
    by_cases hlt : j < 12
    · have hji : (j : Int) < 12 := by omega
      obtain ⟨U, hU⟩ : ∃ U, U = (wr.alloc (.cells #[.int .i64 5, .int .i64 1] 42)).alloc (.cells #[.int .i64 (1 + j), .int .i64 0, .int .i64 1, .int .i64 0, .int .i64 1, .slice (some ⟨wr.heap.size, 0, none⟩) 1 1] 24) := ⟨_, rfl⟩
      have hb1 : Below wr.heap.size wr U := by rw [hU]; exact ((Below.refl _ _).alloc (Nat.le_refl _) _).alloc (by simp) _
      have hr : U.heap[wr.heap.size]? = some (.cells #[.int .i64 5, .int .i64 1] 42 (0, 0)) := by rw [hU]; exact (Below.heap_alloc _ _ _ (by simp)).trans (World.alloc_heap_new wr _)
      have hx : U.heap[wr.heap.size + 1]? = some (.cells #[.int .i64 (1 + j), .int .i64 0, .int .i64 1, .int .i64 0, .int .i64 1, .slice (some ⟨wr.heap.size, 0, none⟩) 1 1] 24 (0, 0)) := by
        have h1 := World.alloc_heap_new (wr.alloc (.cells #[.int .i64 5, .int .i64 1] 42)) (.cells #[.int .i64 (1 + j), .int .i64 0, .int .i64 1, .int .i64 0, .int .i64 1, .slice (some ⟨wr.heap.size, 0, none⟩) 1 1] 24)
        rw [World.size_alloc] at h1
        rw [hU]; exact h1
      have HVV := hide hU
      by_cases hc : (m : Int) < 1 + A ∧ (2 * m + 2 : Int) ≤ 1 + B
      · obtain rfl : m = j := hor.resolve_right (fun h => h hc)
        obtain ⟨e1, e2, e3⟩ := HF.out.yes (by omega) hc.1 hc.2
        have BG := beg_at hg HK.out hlt e1 rfl e3 hb1 hr hx
        have HF' := hide e2
        obtain ⟨q1, q2⟩ := hc
        have q3 : 2 ≤ 1 + B - 2 * (m : Int) := by omega
        clear hU hb1 hr hx e1 e2 e3 HF HK
        go_wp2_with (first
          | (go_at_call 9; rw [← HVV.out]; refine BG.mono ?_; clear BG; rintro e u2 ⟨y2, O2, rfl, x0, h2, S2⟩; have HK2 := hide h2; clear h2)
          | (go_at_call 11; refine S2.mono ?_; clear S2; rintro e u3 ⟨rfl, h3⟩; have HK3 := hide h3; clear h3 x0 HK2))
        go_roundw
        case rel => exact ⟨m + 1, m + 1, _, _, by go_num, by go_num, by go_num, by omega, Nat.le_refl _, by omega, .inl rfl, HK3, HF'⟩
        case measure => simp [Go.RowKit.intOf]; omega
      · obtain ⟨e1, e2, e3⟩ := HF.out.no (by omega) hmj hlt hc
        have BG := beg_at hg HK.out hlt e1 e2 e3 hb1 hr hx
        have HC := hide hc
        clear hU hb1 hr hx e1 e2 e3 HK hc hor
        by_cases q1 : (m : Int) < 1 + A
        · have q3 : ¬ 2 ≤ 1 + B - 2 * (m : Int) := by have := HC.out; omega
          go_wp2_with (first
            | (go_at_call 9; rw [← HVV.out]; refine BG.mono ?_; clear BG; rintro e u2 ⟨y2, O2, rfl, x0, h2, S2⟩; have HK2 := hide h2; clear h2)
            | (go_at_call 11; refine S2.mono ?_; clear S2; rintro e u3 ⟨rfl, h3⟩; have HK3 := hide h3; clear h3 x0 HK2))
          go_roundw
          case rel => exact ⟨j + 1, m, _, _, by go_num, rfl, rfl, by omega, by omega, hmB, .inr HC.out, HK3, HF⟩
          case measure => simp [Go.RowKit.intOf]; omega
        · go_wp2_with (first
            | (go_at_call 9; rw [← HVV.out]; refine BG.mono ?_; clear BG; rintro e u2 ⟨y2, O2, rfl, x0, h2, S2⟩; have HK2 := hide h2; clear h2)
            | (go_at_call 11; refine S2.mono ?_; clear S2; rintro e u3 ⟨rfl, h3⟩; have HK3 := hide h3; clear h3 x0 HK2))
          go_roundw
          case rel => exact ⟨j + 1, m, _, _, by go_num, rfl, rfl, by omega, by omega, hmB, .inr HC.out, HK3, HF⟩
          case measure => simp [Go.RowKit.intOf]; omega
    · have hji : ¬ (j : Int) < 12 := by omega
      have ID := HK.out.ids_len (b := m) (by rw [HF.out.l]; exact (ids_Lb (by omega)).1) (by omega)
      have HW := hide HK.out.2
      clear HF HK hor
      go_wp2_with (first
        | (go_at_call 13; refine ID.mono ?_; clear ID; rintro e u5 ⟨a5, c5, rfl, hb5⟩; have W5 := hide (bel_on' HW.out hb5); clear hb5)
        | (go_at_call 6; refine (cwake_any _ (hg.on W5.out)).mono ?_; rintro e u7 ⟨rfl, hb7⟩; have HB7 := hide (bel_on' W5.out hb7); clear hb7))
      go_ret
      exact ⟨rfl, HB7.out⟩
end Go.Proofs.YtdnpgfdlmacfkabGreatDoor
