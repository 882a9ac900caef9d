/-
  Own texts put together: CgI, CgO, CgP, CgS, ZcCan.
-/
import Derived.Test.YtdnpgfdlmacfkabGreatDoorSghfcgdn
import Derived.Test.YtdnpgfdlmacfkabGreatDoorSgnlagja
import Derived.Test.YtdnpgfdlmacfkabGreatDoorSgdinpkf
import Derived.Test.YtdnpgfdlmacfkabGreatDoorSghagpla
/-
  Contracts of the chief's forget and New.
-/
namespace Go.Proofs.YtdnpgfdlmacfkabGreatDoor
open Go.ChangeShapes Go.WideShapes Go.ChangeAt Go.RowKit Go.Shelf Go.Maps Sg Bl

attribute [local go_sem] Oper.semAt_some

/-- All bells of L are cut. -/
def cutsH (h : Int → Int) (L : List Int) : Int → Int := L.foldl cutH h
theorem cuts_at : ∀ (L : List Int) (h : Int → Int) (x : Int), cutsH h L x = if x ∈ L then 0 else h x
  | [], h, x => by simp [cutsH]
  | y :: L, h, x => by
    show cutsH (cutH h y) L x = _
    rw [cuts_at L]
    by_cases h1 : x ∈ L
    · rw [if_pos h1, if_pos (by simp [h1])]
    · rw [if_neg h1]
      by_cases h2 : x = y
      · subst h2
        rw [if_pos (by simp)]
        exact Bl.upd_same _ _ _
      · rw [if_neg (by simp [h1, h2])]
        exact Bl.upd_other _ _ h2
theorem cuts_snoc (h : Int → Int) (L : List Int) (x : Int) : cutsH h (L ++ [x]) = cutH (cutsH h L) x := by unfold cutsH; rw [List.foldl_append]; rfl
theorem cuts_all {t : Int} {h : Int → Int} (g : GoodT t h) : cutsH h (idsL h) = fun _ => 0 := by
  funext x
  rw [cuts_at]
  split
  · rfl
  · rename_i h1
    cases e : decide (h x = 0) with
    | true => exact of_decide_eq_true e
    | false => exact absurd ((mem_idsL g.at_ x).2 (of_decide_eq_false e)) h1
/-- What forget's loop has, pre being cut. -/
def FgI (B : Nat) (E : Nat → Prop) (w w1 : World) (p bt b' : Nat) (t : Int) (h : Int → Int) (m r : Int) (qv : Value) (pre : List Int) (W : World) : Prop :=
  Bt B E W bt t (cutsH h pre) 999 ∧ W.heap[p]? = some (.cells #[.int .i64 m, .int .i64 r, qv, .map (some b'), .pointer (some ⟨bt, 0, none⟩)] 53 (0, 0)) ∧ Gd.Pu.Pa.Mx ptX Tryz.prog 3 W b' 999 (fun _ => none) ∧ Boxed W w.heap.size 27 (.pointer (some ⟨p, 0, none⟩)) ∧ Rg.Kept (fun i _ => E i) w1 W
theorem FgI.kept {B : Nat} {E : Nat → Prop} {w w1 W W' : World} {p bt b' : Nat} {t : Int} {h : Int → Int} {m r : Int} {qv : Value} {pre : List Int} {F : Nat → Obj → Prop} (hE : ∀ k, E k → k < w.heap.size) (hp : p < w.heap.size) (hs : w.heap.size < w1.heap.size) (hb : b' < w1.heap.size) (k : FgI B E w w1 p bt b' t h m r qv pre W) (hk : Rg.Kept F W W') (hF : ∀ k o, F k o → w1.heap.size ≤ k) : FgI B E w w1 p bt b' t h m r qv pre W' := by
  obtain ⟨k1, k2, k3, k4, k5⟩ := k
  have far : ∀ k o, k < w1.heap.size → ¬ F k o := fun k o hl e => by have := hF k o e; omega
  exact ⟨k1.kept hk (fun k o e => far k o (by have := hE k e; omega)), hk.block _ _ k2 (far p _ (by omega)), k3.kept hk (fun o => far b' o hb), hk.block _ _ k4 (far _ _ hs), ⟨hk.os.trans k5.os, hk.tape.trans k5.tape, hk.output.trans k5.output, Nat.le_trans k5.size hk.size, fun k o ho hx => hk.block k o (k5.block k o ho hx) (far k o (Array.getElem?_eq_some_iff.1 ho).1)⟩⟩
theorem FgI.own {B : Nat} {E : Nat → Prop} {w w1 : World} {p bt b' : Nat} {t : Int} {h : Int → Int} {m r : Int} {qv : Value} (hE : ∀ k, E k → k < w.heap.size) (hp : p < w.heap.size) (hs : w.heap.size < w1.heap.size) (hb : b' < w1.heap.size) : OwnFrom w1.heap.size (FgI B E w w1 p bt b' t h m r qv) := fun _ _ _ row hs' hg hr =>
  hs'.kept hE hp hs hb (F := fun i _ => row = some i) (Rg.Kept.grown hg (fun _ _ e => e)) (fun k _ e => (hr k e).1)
set_option maxRecDepth 100000 in
set_option maxHeartbeats 1000000 in
theorem cforget_any {B : Nat} {E : Nat → Prop} {w : World} {p bt : Nat} {t : Int} {h : Int → Int} {m r : Int} {qv x3 : Value} (hb : w.heap[p]? = some (.cells #[.int .i64 m, .int .i64 r, qv, x3, .pointer (some ⟨bt, 0, none⟩)] 53 (0, 0))) (kb : Bt B E w bt t h 999) (hp : ¬ E p) :
    Calls Tryz.prog 19 #[.pointer (some ⟨p, 0, none⟩)] w fun e w' => (∃ x, e = .returned x) ∧ ∃ b', (w.heap.size ≤ b' ∧ b' < w'.heap.size) ∧ w'.heap[p]? = some (.cells #[.int .i64 m, .int .i64 r, qv, .map (some b'), .pointer (some ⟨bt, 0, none⟩)] 53 (0, 0)) ∧ Gd.Pu.Pa.Mx ptX Tryz.prog 3 w' b' 999 (fun _ => none) ∧ Bt B E w' bt t (fun _ => 0) 999 ∧ Rg.Kept (fun i _ => i = p ∨ E i) w w' := by
  refine (callsIn_wide (n := 5)).1 ?_
  have hpl : p < w.heap.size := (Array.getElem?_eq_some_iff.1 hb).1
  have hEl : ∀ k, E k → k < w.heap.size := fun k e => (kb.1 k e).2
  obtain ⟨W0, hW0⟩ : ∃ W0, W0 = w.setCell ⟨p, 3, none⟩ (.map (some (w.heap.size + 1))) := ⟨_, rfl⟩
  obtain ⟨W1, hW1⟩ : ∃ W1, W1 = W0.alloc (.cells #[.pointer (some ⟨p, 0, none⟩)] 27) := ⟨_, rfl⟩
  obtain ⟨U, hU⟩ : ∃ U, U = W1.alloc (.map #[] 0) := ⟨_, rfl⟩
  have z0 : W0.heap.size = w.heap.size := by rw [hW0]; simp
  have z1 : W1.heap.size = w.heap.size + 1 := by rw [hW1]; simp [z0]
  have zU : U.heap.size = w.heap.size + 2 := by rw [hU]; simp [z1]
  have k0 : Rg.Kept (fun i _ => i = p) w W0 := by rw [hW0]; exact Rg.Kept.setCell (a := ⟨p, 3, none⟩) _ (fun _ => rfl)
  have hb2 : Below W0.heap.size W0 U := by rw [hU, hW1]; exact ((Below.refl _ _).alloc (Nat.le_refl _) _).alloc (by simp) _
  have hp0 : W0.heap[p]? = some (.cells #[.int .i64 m, .int .i64 r, qv, .map (some (w.heap.size + 1)), .pointer (some ⟨bt, 0, none⟩)] 53 (0, 0)) := by
    rw [hW0, heap_setCell_same _ _ _ _ _ _ hb]
    rfl
  have hpU := (hb2.block p (by omega)).trans hp0
  have hbxU : Boxed U w.heap.size 27 (.pointer (some ⟨p, 0, none⟩)) := by
    show U.heap[w.heap.size]? = _
    rw [hU, hW1, ← z0]
    exact (Below.heap_alloc _ _ _ (by simp)).trans (World.alloc_heap_new W0 _)
  have kU : Rg.Kept (fun i _ => i = p ∨ E i) w U := (k0.mono (fun _ _ e => .inl e)).trans (Rg.Kept.of_below hb2)
  have kbU : Bt B E U bt t h 999 := (kb.kept k0 (fun k _ e e2 => hp (e2 ▸ e))).on hb2
  have mU : Gd.Pu.Pa.Mx ptX Tryz.prog 3 U (w.heap.size + 1) 999 (fun _ => none) := by
    have h1 := (Gd.Pu.Pa.Mx.new ptX Tryz.prog 3 W1).mono (show 0 ≤ 999 by decide)
    rw [← hU, z1] at h1
    exact h1
  have f3 : w.frozen? ⟨p, 3, none⟩ = false := frozen_of_row _ _ _ _ _ hb
  have c3 : w.cell? ⟨p, 3, none⟩ = some x3 := by rw [cell_of hb]; rfl
  have c4 : w.cell? ⟨p, 4, none⟩ = some (.pointer (some ⟨bt, 0, none⟩)) := by rw [cell_of hb]; rfl
  have hne : w.heap.size ≠ p := by omega
  have IDS := (callsIn_wide (n := 4)).2 (bids_any kbU (by decide))
  have GT := kb.2.2.1
  have HL : Hid ((idsL h).length ≤ 1000000) := by
    have : (idsL h).length ≤ 1000 := idsTo_len h 1000
    show (idsL h).length ≤ 1000000
    omega
  rw [hW1, hW0] at hU
  have HU := hide hU
  rw [hU] at IDS
  have HF := hide (And.intro kbU (And.intro hpU (And.intro mU hbxU)))
  have HK := hide kU
  clear hb kb hb2 hp0 k0 hbxU hpU kU kbU mU hU z0 z1 hW0 hW1
  have hmm := @run_makeMap Tryz.prog
  have hnf : ∀ (u : World) (b : Nat), (binOp BinOp.eql 69 (.func (.func 87) #[] #[.pointer (some ⟨b, 0, none⟩)]) .nilFunc).run Tryz.prog u = .ok (.bool false) u := fun _ _ => by kernel_rfl
  refine callsIn_of_wp_marks Tryz.func19 rfl trivial ?_ rfl
  simp only [Tryz.ntmps19, List.size_toArray, List.length_cons, List.length_nil, Nat.reduceAdd, Nat.reduceSub, Array.replicate_succ, Array.replicate_zero, List.push_toArray, List.append_toArray, List.nil_append, List.cons_append]
  gi_wp2_with fail
  refine ⟨trivial, IDS.mono ?_⟩
  rintro e w1 ⟨Bi, v0, rfl, hb1, hit, hbi, hvr⟩
  rw [← HU.out] at hb1 hbi hvr
  clear IDS
  have hs1 := hb1.size
  obtain ⟨kbU, hpU, mU, hbxU⟩ := HF.out
  have i0 : FgI B E w w1 p bt (w.heap.size + 1) t h m r qv [] w1 := ⟨kbU.on hb1, (hb1.block _ (by omega)).trans hpU, mU.on hb1, (hb1.block _ (by omega)).trans hbxU, Rg.Kept.refl _ _⟩
  have hno : NoE (fun k _ => E k) Bi v0 := ⟨fun cs f e => by have := hEl _ e; omega, fun k hk o e => by have := hvr k hk; have := hEl _ e; omega⟩
  have ES := bell_seq (E := fun k _ => E k) HL.out hit hno (fun k o h1 e => by have := hEl _ e; omega)
  have HK1 : Hid (Rg.Kept (fun i _ => i = p ∨ E i) w w1) := HK.out.trans (Rg.Kept.of_below hb1)
  have HI := hide i0
  clear hb1 hit hno hbi hvr kbU hpU mU hbxU i0 HF HK f3 c3 c4
  gi_wp2_with fail
  refine Rg.range_acts (E := fun k _ => E k) (enc := encI) (L := idsL h) (I := FgI B E w w1 p bt (w.heap.size + 1) t h m r qv) (Ix := fun _ _ _ => False)
    (Ax := fun x a' _ => a' = { tmps := #[.pointer (some ⟨p, 0, none⟩), .pointer (some ⟨w.heap.size, 0, none⟩), .int .i64 x, .pointer (some ⟨p, 0, none⟩), .map (some (w.heap.size + 1)), .pointer (some ⟨p, 0, none⟩), .pointer (some ⟨p, 3, none⟩), .pointer (some ⟨p, 0, none⟩), .pointer (some ⟨p, 0, none⟩), .pointer (some ⟨p, 4, none⟩), .pointer (some ⟨bt, 0, none⟩), .func (.func 87) #[] #[.pointer (some ⟨Bi, 0, none⟩)], .int .i64 x, undef, undef, undef, undef, undef, undef], defers := [] })
    (gf := 87) (lb := #[.pointer (some ⟨Bi, 0, none⟩)]) rfl (enters_of Tryz.func87 (by kernel_rfl) rfl) ES (fun k o h1 h2 h3 => by have := hEl _ h3; omega) rfl
    (FgI.own hEl hpl (by omega) (by omega)) (fun c' W0 W W' row hs hg hr => hs.elim) (fun x a' => ?ax) HI.out ?assign ?body ?done ?stop
  case ax =>
    intro _ W W' row hs hg hr
    exact hs
  case assign =>
    intro l pre x W K hI hK
    have HK := hK { tmps := #[.pointer (some ⟨p, 0, none⟩), .pointer (some ⟨w.heap.size, 0, none⟩), .int .i64 x, .pointer (some ⟨p, 0, none⟩), .map (some (w.heap.size + 1)), .pointer (some ⟨p, 0, none⟩), .pointer (some ⟨p, 3, none⟩), .pointer (some ⟨p, 0, none⟩), .pointer (some ⟨p, 0, none⟩), .pointer (some ⟨p, 4, none⟩), .pointer (some ⟨bt, 0, none⟩), .func (.func 87) #[] #[.pointer (some ⟨Bi, 0, none⟩)], .int .i64 x, undef, undef, undef, undef, undef, undef], defers := [] } _ (Rg.Kept.refl _ _) hI rfl
    clear hK
    unfold encI at HK ⊢
    gi_wp2
    exact HK
  case body =>
    rintro l pre x a' W hI rfl hpq
    obtain ⟨k1, k2, k3, k4, k5⟩ := hI
    have hx : 1 ≤ x ∧ x ≤ 999 := by
      obtain ⟨q, hq⟩ := hpq
      have : x ∈ idsL h := by rw [← hq]; simp
      exact GT.at_ x ((mem_idsL GT.at_ x).1 this)
    have CU := (bcut_any k1 (wf_id hx.1 hx.2)).mono (R' := fun e w' => (∃ y, e = .returned y) ∧ Rg.Kept (fun k _ => E k) W w' ∧ FgI B E w w1 p bt (w.heap.size + 1) t h m r qv (pre ++ [x]) w') (fun e w' ⟨g1, g2, g3⟩ => by
      refine ⟨⟨_, g1⟩, g3, ?_, g3.block _ _ k2 hp, k3.kept g3 (fun _ e => by have := hEl _ e; omega), g3.block _ _ k4 (fun e => by have := hEl _ e; omega), k5.trans g3⟩
      rw [cuts_snoc]
      exact bt_tight g2)
    have c1 := k4.cell
    have c4 : W.cell? ⟨p, 4, none⟩ = some (.pointer (some ⟨bt, 0, none⟩)) := by rw [cell_of k2]; rfl
    clear k1 k2 k3 k4 k5 hpq hx
    gi_wp2_with fail
    refine ⟨trivial, rfl, (CallsIn.inRound l (callsIn_wide.2 CU)).mono ?_⟩
    rintro y w3 ⟨⟨z, rfl⟩, hz1, hz2⟩
    clear CU
    gi_wp2
    exact ⟨hz1, hz2⟩
  case done =>
    rintro D W hD hI hK
    obtain ⟨k1, k2, k3, k4, k5⟩ := hI.kept hEl hpl (by omega) (by omega) (F := fun i _ => i = D) (Rg.Kept.putObj (W := W) (.deferred none) (fun _ => rfl)) (fun k _ e => by omega)
    have FIN : Hid (∃ b', (w.heap.size ≤ b' ∧ b' < (W.putObj D (.deferred none)).heap.size) ∧ (W.putObj D (.deferred none)).heap[p]? = some (.cells #[.int .i64 m, .int .i64 r, qv, .map (some b'), .pointer (some ⟨bt, 0, none⟩)] 53 (0, 0)) ∧ Gd.Pu.Pa.Mx ptX Tryz.prog 3 (W.putObj D (.deferred none)) b' 999 (fun _ => none) ∧ Bt B E (W.putObj D (.deferred none)) bt t (fun _ => 0) 999 ∧ Rg.Kept (fun i _ => i = p ∨ E i) w (W.putObj D (.deferred none))) :=
      ⟨w.heap.size + 1, ⟨by omega, k3.lt⟩, k2, k3, by rw [cuts_all GT] at k1; exact k1, HK1.out.trans (k5.mono (fun _ _ e => .inr e))⟩
    clear k1 k2 k3 k4 k5
    gi_wp2
    refine ⟨by simp, .inl ⟨_, _, rfl, run_takeDeferred hK, ?_⟩⟩
    exact ⟨_, results_none rfl _ _ _, ⟨_, rfl⟩, FIN.out⟩
  case stop => exact fun D c pre W _ _ _ h _ => h.elim
theorem bt_low {B B' : Nat} {E : Nat → Prop} {w : World} {p : Nat} {t : Int} {h : Int → Int} {n : Nat} (k : Bt B E w p t h n) (hB : B' ≤ B) : Bt B' E w p t h n := ⟨fun i e => ⟨Nat.le_trans hB (k.1 i e).1, (k.1 i e).2⟩, k.2⟩
/-- A chief that was just made. -/
def MadeC (w : World) (v : Ch) (e : Ending) (w' : World) : Prop :=
  ∃ O p q r b bt loc, e = .returned (.pointer (some ⟨p, 0, none⟩)) ∧ Up w.heap.size O w' p v q r b bt loc ∧ Below w.heap.size w w'
theorem madec_of {w w1 w2 w3 w4 : World} {orders room tries : Int} {x3 : Value} {b' : Nat} (h1 : w1 = w.alloc (.cells #[.int .i64 (roomV room), .slice none 0 0, .int .i64 0, .bool false] 73))
    (hb2 : Below w1.heap.size w1 w2) (hz2 : w1.heap.size < w2.heap.size) (h3 : w3 = w2.alloc (.cells #[.int .i64 (mostC orders), .int .i64 (roomV room), .pointer (some ⟨w.heap.size, 0, none⟩), x3, .pointer (some ⟨w1.heap.size, 0, none⟩)] 53))
    (hb' : w3.heap.size ≤ b' ∧ b' < w4.heap.size) (hp : w4.heap[w2.heap.size]? = some (.cells #[.int .i64 (mostC orders), .int .i64 (roomV room), .pointer (some ⟨w.heap.size, 0, none⟩), .map (some b'), .pointer (some ⟨w1.heap.size, 0, none⟩)] 53 (0, 0)))
    (hm : Gd.Pu.Pa.Mx ptX Tryz.prog 3 w4 b' 999 (fun _ => none)) (hbt : Bt w1.heap.size (fun k => k = w1.heap.size) w4 w1.heap.size (clampT tries) (fun _ => 0) 999) (hk : Rg.Kept (fun i _ => i = w2.heap.size ∨ i = w1.heap.size) w3 w4) :
    MadeC w (newCh orders room tries) (.returned (.pointer (some ⟨w2.heap.size, 0, none⟩))) w4 := by
  have z1 : w1.heap.size = w.heap.size + 1 := by rw [h1]; simp
  have z3 : w3.heap.size = w2.heap.size + 1 := by rw [h3]; simp
  have hb1 : Below w.heap.size w w1 := by rw [h1]; exact (Below.refl _ _).alloc (Nat.le_refl _) _
  have hb3 : Below w2.heap.size w2 w3 := by rw [h3]; exact (Below.refl _ _).alloc (Nat.le_refl _) _
  have j0 : Jr w.heap.size w1 w.heap.size (.slice none 0 0) (roomV room) [] 0 false := by
    rw [h1]
    exact Jr.new w w.heap.size (Nat.le_refl _) (roomV room) (roomV_in room).1 (roomV_in room).2
  have j4 := (j0.on (bel_on' hb2 hb3)).kept hk (fun _ e => by omega) (fun k _ e => by simp [Value.ownBlock] at e)
  have s4 := hk.size
  refine ⟨fun x k => match x with
    | .inl 0 => k = w2.heap.size
    | .inl 1 => k = w.heap.size
    | .inl 2 => k = w1.heap.size
    | .inl 3 => k = b'
    | .inl _ => False
    | .inr _ => False, w2.heap.size, w.heap.size, .slice none 0 0, b', w1.heap.size, fun _ => none, rfl, ⟨⟨fun x k e => ?_, fun x y k e1 e2 => ?_, rfl, hp, j4, rfl, (fun k e => by simp [Value.ownBlock] at e), bt_low hbt (by omega), hm, rfl, (fun id l e => by cases e), fun _ _ => rfl⟩, newCh_good _ _ _, rfl⟩, ?_⟩
  · rcases x with (_ | _ | _ | _ | x) | x
    all_goals first | exact False.elim e | (have e : k = _ := e; omega)
  · rcases x with (_ | _ | _ | _ | x) | x
    all_goals rcases y with (_ | _ | _ | _ | y) | y
    all_goals first | rfl | exact False.elim e1 | exact False.elim e2 | (have e1 : k = _ := e1; have e2 : k = _ := e2; omega)
  · refine (bel_on' hb1 (bel_on' hb2 hb3)).trans (hk.bel ?_ (fun k _ e => ?_))
    · omega
    · omega
set_option maxHeartbeats 1000000 in
theorem cnew_any (orders room tries : Int) (w : World) :
    Calls Tryz.prog 7 #[.int .i64 orders, .int .i64 room, .int .i64 tries] w (MadeC w (newCh orders room tries)) := by
  have N := new_any room w
  have FX : Hid (∀ w1 w2, w1 = w.alloc (.cells #[.int .i64 (roomV room), .slice none 0 0, .int .i64 0, .bool false] 73) → Below w1.heap.size w1 w2 → Bt w1.heap.size (fun k => k = w1.heap.size) w2 w1.heap.size (clampT tries) (fun _ => 0) 0 → ∀ x3 w3, w3 = w2.alloc (.cells #[.int .i64 (mostC orders), .int .i64 (roomV room), .pointer (some ⟨w.heap.size, 0, none⟩), x3, .pointer (some ⟨w1.heap.size, 0, none⟩)] 53) → Calls Tryz.prog 19 #[.pointer (some ⟨w2.heap.size, 0, none⟩)] w3 fun e w' => (∃ x, e = .returned x) ∧ MadeC w (newCh orders room tries) (.returned (.pointer (some ⟨w2.heap.size, 0, none⟩))) w') := fun w1 w2 h1 h2 hbt x3 w3 h3 => by
    have hz := (hbt.1 w1.heap.size rfl).2
    have hb3 : Below w2.heap.size w2 w3 := by rw [h3]; exact (Below.refl _ _).alloc (Nat.le_refl _) _
    have hp3 : w3.heap[w2.heap.size]? = some (.cells #[.int .i64 (mostC orders), .int .i64 (roomV room), .pointer (some ⟨w.heap.size, 0, none⟩), x3, .pointer (some ⟨w1.heap.size, 0, none⟩)] 53 (0, 0)) := by rw [h3]; exact World.alloc_heap_new w2 _
    refine (cforget_any hp3 (bt_tight (hbt.on hb3)) (fun e => by omega)).mono ?_
    rintro e w4 ⟨g1, b', g2, g3, g4, g5, g6⟩
    exact ⟨g1, madec_of h1 h2 hz h3 g2 g3 g4 g5 g6⟩
  have BN := fun W => bnew_any tries W
  unfold mostC roomV at FX
  unfold roomV at N
  generalize newCh orders room tries = v0 at *
  generalize clampT tries = ct at *
  go_enter Tryz.func7, Tryz.ntmps7
  go_wp2_with (first
    | (go_at_call 17; refine N.mono ?_; clear N; rintro e w1 ⟨rfl, h1⟩; have HW1 := hide h1; clear h1)
    | (go_at_call 18; refine (BN _).mono ?_; clear BN; rintro e w2 ⟨pb, rfl, rfl, hbt, hb2⟩; have FY := FX.out _ w2 HW1.out hb2 hbt; clear hbt hb2 FX)
    | (go_at_call 19; refine (FY _ _ rfl).mono ?_; clear FY; rintro e w4 ⟨⟨y, rfl⟩, hm⟩; have HX := hide hm; clear hm))
  go_ret
  exact HX.out
end Go.Proofs.YtdnpgfdlmacfkabGreatDoor
/-
  A chief that is up, above a world w0, with answers named; the law's awake.
-/
namespace Go.Proofs.YtdnpgfdlmacfkabGreatDoor
open Go.ChangeShapes Go.WideShapes Go.ChangeAt Go.RowKit Go.Maps Sg Bl

theorem jr_low {B B' : Nat} {w : World} {p : Nat} {v : Value} {room : Int} {L : List ByteArray} {sure : Nat} {down : Bool} (h : Jr B w p v room L sure down) (hB : B' ≤ B) : Jr B' w p v room L sure down := ⟨h.1, Nat.le_trans hB h.2.1, own_low h.2.2.1 hB, h.2.2.2⟩
/-- The chief at p, above w0; its blocks are O's. -/
def Cu (w0 : World) (O : Pt → Nat → Prop) (w : World) (p : Nat) (v : Ch) : Prop := (∃ q r b bt loc, Up w0.heap.size O w p v q r b bt loc) ∧ Below w0.heap.size w0 w
/-- An answer, beside the chief. -/
def AnC (w : World) (O : Pt → Nat → Prop) (a : Option Addr) (c : Nat) (xs : List Mg) : Prop := (∃ B0, w.ownsRow B0 36 7 (.slice a xs.length c) xs.length (mgCells xs)) ∧ ∀ ad, a = some ad → ¬ Eo O ad.block
/-- The block k has the object o; it is none of the chief's. -/
def Abc (w : World) (O : Pt → Nat → Prop) (k : Nat) (o : Obj) : Prop := w.heap[k]? = some o ∧ ¬ Eo O k
/-- What a step leaves of the rest. -/
def Go_ (O : Pt → Nat → Prop) (w : World) (O' : Pt → Nat → Prop) (w' : World) : Prop := (∀ i, Eo O' i → growE (Eo O) w w' i) ∧ Rg.Kept (fun i _ => Eo O i) w w'
section
variable {w0 w w' : World} {O O' : Pt → Nat → Prop} {p : Nat} {v v' : Ch}
theorem Go_.of_below (hb : Below w.heap.size w w') : Go_ O w O w' := ⟨fun _ e => .inl e, Rg.Kept.of_below hb⟩
theorem Cu.on (k : Cu w0 O w p v) (hb : Below w.heap.size w w') : Cu w0 O w' p v := by
  obtain ⟨⟨q, r, b, bt, loc, h⟩, h2⟩ := k
  exact ⟨⟨q, r, b, bt, loc, h.on hb⟩, bel_on' h2 hb⟩
theorem Cu.good (k : Cu w0 O w p v) : GoodCh v := by
  obtain ⟨⟨q, r, b, bt, loc, h⟩, _⟩ := k
  exact h.g
theorem Cu.lt (k : Cu w0 O w p v) {i : Nat} (e : Eo O i) : w0.heap.size ≤ i ∧ i < w.heap.size := by
  obtain ⟨⟨q, r, b, bt, loc, h⟩, _⟩ := k
  obtain ⟨y, e⟩ := e
  exact h.k.bd y i e
theorem Cu.gl (hg : Gl w0) (k : Cu w0 O w p v) : ∀ u, Rg.Kept (fun i _ => Eo O i) w u → Gl u := fun _ h => hg.on (k.2.trans (h.bel (by obtain ⟨⟨q, r, b, bt, loc, h1⟩, _⟩ := k; exact h1.k.low) (fun i _ e => (k.lt e).1)))
theorem Abc.step {k : Nat} {o : Obj} (h : Abc w O k o) (g : Go_ O w O' w') : Abc w' O' k o :=
  ⟨g.2.block _ _ h.1 h.2, fun e => (g.1 k e).elim h.2 (fun e => by have := (Array.getElem?_eq_some_iff.1 h.1).1; omega)⟩
theorem Abc.on {k : Nat} {o : Obj} (h : Abc w O k o) (hb : Below w.heap.size w w') : Abc w' O k o := h.step (Go_.of_below hb)
theorem AnC.step {a : Option Addr} {c : Nat} {xs : List Mg} (h : AnC w O a c xs) (g : Go_ O w O' w') : AnC w' O' a c xs := by
  obtain ⟨⟨B0, h1⟩, h2⟩ := h
  refine ⟨⟨B0, own_keptR h1 g.2 (fun k _ e => by obtain ⟨x, e3, rfl⟩ := own_some e; exact h2 x e3)⟩, fun ad e e2 => ?_⟩
  rcases g.1 _ e2 with e3 | e3
  · exact h2 ad e e3
  · have := (h1.lt ad.block (by rw [e]; rfl)).2
    omega
theorem AnC.on {a : Option Addr} {c : Nat} {xs : List Mg} (h : AnC w O a c xs) (hb : Below w.heap.size w w') : AnC w' O a c xs := h.step (Go_.of_below hb)
theorem AnC.mgs {a : Option Addr} {c : Nat} {xs : List Mg} (h : AnC w O a c xs) : Mgs w a xs := by
  obtain ⟨⟨B0, h1⟩, _⟩ := h
  exact row_mgs h1
/-- Out of a step's word. -/
theorem SendR.cu {q b bt : Nat} {loc : Int → Option Nat} (k : Cu w0 O w p v) {v2 : Ch} {xs : List Mg} {e : Ending} (h : SendR w0.heap.size O w p v2 q b bt loc xs e w') : ∃ a c O', e = .returned (.slice a xs.length c) ∧ AnC w' O' a c xs ∧ Cu w0 O' w' p v2 ∧ Go_ O w O' w' := by
  obtain ⟨ra, rc, O1, r1, loc1, h1, h2, h3, h4, h5, h6, h7⟩ := h
  exact ⟨ra, rc, O1, h1, ⟨⟨_, h2⟩, h3⟩, ⟨⟨q, r1, b, bt, loc1, h4⟩, k.2.trans (h6.bel (by obtain ⟨⟨q, r, b, bt, loc, h1⟩, _⟩ := k; exact h1.k.low) (fun i _ e => (k.lt e).1))⟩, h5, h6⟩
theorem UStp.cu {q b bt : Nat} {loc : Int → Option Nat} (k : Cu w0 O w p v) {v2 : Ch} (h : UStp w0.heap.size O w p v2 q b bt loc w') : ∃ O', Cu w0 O' w' p v2 ∧ Go_ O w O' w' := by
  obtain ⟨O1, r1, loc1, h4, h5, h6, h7⟩ := h
  exact ⟨O1, ⟨⟨q, r1, b, bt, loc1, h4⟩, k.2.trans (h6.bel (by obtain ⟨⟨q, r, b, bt, loc, h1⟩, _⟩ := k; exact h1.k.low) (fun i _ e => (k.lt e).1))⟩, h5, h6⟩
theorem Cu.new (hb : Below w0.heap.size w0 w) (orders room tries : Int) :
    Calls Tryz.prog 7 #[.int .i64 orders, .int .i64 room, .int .i64 tries] w fun e w' => ∃ p O, e = .returned (.pointer (some ⟨p, 0, none⟩)) ∧ Cu w0 O w' p (newCh orders room tries) ∧ Below w.heap.size w w' ∧ ∀ i, Eo O i → w.heap.size ≤ i := by
  refine (cnew_any orders room tries w).mono ?_
  rintro e w' ⟨O, p, q, r, b, bt, loc, h1, h2, h3⟩
  have hB := hb.size
  have k2 : CkV w0.heap.size O w' p (newCh orders room tries) q r b bt loc ((newCh orders room tries).T.map lnC) :=
    ⟨fun x i e => ⟨Nat.le_trans hB (h2.k.bd x i e).1, (h2.k.bd x i e).2⟩, h2.k.dj, h2.k.op, h2.k.blk, jr_low h2.k.jr hB, h2.k.oq, h2.k.or, bt_low h2.k.bl hB, h2.k.mp, h2.k.ob, (fun id l e => by cases e), h2.k.no⟩
  exact ⟨p, O, h1, ⟨⟨q, r, b, bt, loc, k2, h2.g, h2.d⟩, bel_on' hb h3⟩, h3, fun i ⟨y, e⟩ => (h2.k.bd y i e).1⟩
theorem Cu.begin (hg : Gl w0) (k : Cu w0 O w p v) (o : Od) {sa : Option Addr} {sc : Nat} (hs : Sts w sa o.steps) (hsl : o.steps.length ≤ 9223372036854775807) (hw : (Lit.int .i64 o.id).wf = true) {n : Int} (hn : begE v o = n) (hv : begS v o = v') {xs : List Mg} (hx : begA v o = xs) :
    Calls Tryz.prog 9 #[.pointer (some ⟨p, 0, none⟩), .agg #[.int .i64 o.id, .int .i64 o.item, .int .i64 o.qty, .int .i64 o.client, .int .i64 o.price, .slice sa o.steps.length sc]] w fun e w' => ∃ a c O', e = .returned (.tuple #[.slice a xs.length c, .int .i64 n]) ∧ AnC w' O' a c xs ∧ Cu w0 O' w' p v' ∧ Go_ O w O' w' := by
  subst hn hv hx
  obtain ⟨⟨q, r, b, bt, loc, h⟩, _⟩ := id k
  refine (cbeg_any h (k.gl hg) o hs hsl hw).mono ?_
  rintro e w' ⟨x, h1, h2⟩
  obtain ⟨a, c, O', h3, h4, h5, h6⟩ := h2.cu k
  cases h3
  exact ⟨a, c, O', h1, h4, h5, h6⟩
theorem Cu.cancel (hg : Gl w0) (k : Cu w0 O w p v) {id : Int} (hw : (Lit.int .i64 id).wf = true) {n : Int} (hn : canE v id = n) (hv : canS v id = v') {xs : List Mg} (hx : canA v id = xs) :
    Calls Tryz.prog 8 #[.pointer (some ⟨p, 0, none⟩), .int .i64 id] w fun e w' => ∃ a c O', e = .returned (.tuple #[.slice a xs.length c, .int .i64 n]) ∧ AnC w' O' a c xs ∧ Cu w0 O' w' p v' ∧ Go_ O w O' w' := by
  subst hn hv hx
  obtain ⟨⟨q, r, b, bt, loc, h⟩, _⟩ := _root_.id k
  refine (ccan_any h (k.gl hg) hw).mono ?_
  rintro e w' ⟨x, h1, h2⟩
  obtain ⟨a, c, O', h3, h4, h5, h6⟩ := h2.cu k
  cases h3
  exact ⟨a, c, O', h1, h4, h5, h6⟩
theorem Cu.accept (hg : Gl w0) (k : Cu w0 O w p v) {id : Int} (hw : (Lit.int .i64 id).wf = true) {n : Int} (hn : accE v id = n) (hv : accS v id = v') :
    Calls Tryz.prog 12 #[.pointer (some ⟨p, 0, none⟩), .int .i64 id] w fun e w' => ∃ O', e = .returned (.int .i64 n) ∧ Cu w0 O' w' p v' ∧ Go_ O w O' w' := by
  subst hn hv
  obtain ⟨⟨q, r, b, bt, loc, h⟩, _⟩ := _root_.id k
  refine (cacc_any h (k.gl hg) hw).mono ?_
  rintro e w' ⟨h1, h2⟩
  obtain ⟨O', h3, h4⟩ := h2.cu k
  exact ⟨O', h1, h3, h4⟩
theorem Cu.handle (hg : Gl w0) (k : Cu w0 O w p v) (m : Mg) (hw : (Lit.int .i64 m.id).wf = true) (hv : (hdSA v m).1 = v') {xs : List Mg} (hx : (hdSA v m).2 = xs) :
    Calls Tryz.prog 10 #[.pointer (some ⟨p, 0, none⟩), .agg #[.int .i64 m.k, .int .i64 m.fr, .int .i64 m.to, .int .i64 m.id, .int .i64 m.st, .int .i64 m.a, .int .i64 m.b]] w fun e w' => ∃ a c O', e = .returned (.slice a xs.length c) ∧ AnC w' O' a c xs ∧ Cu w0 O' w' p v' ∧ Go_ O w O' w' := by
  subst hv hx
  obtain ⟨⟨q, r, b, bt, loc, h⟩, _⟩ := _root_.id k
  exact (chandle_any h (k.gl hg) m hw).mono (fun _ _ h2 => h2.cu k)
theorem Cu.state (k : Cu w0 O w p v) {id : Int} (hw : (Lit.int .i64 id).wf = true) {n : Int} (hn : stC v id = n) :
    Calls Tryz.prog 11 #[.pointer (some ⟨p, 0, none⟩), .int .i64 id] w fun e w' => e = .returned (.int .i64 n) ∧ Below w.heap.size w w' := by
  subst hn
  obtain ⟨⟨q, r, b, bt, loc, h⟩, _⟩ := _root_.id k
  exact h.k.state hw
end
end Go.Proofs.YtdnpgfdlmacfkabGreatDoor
/-
  The law's awake, of a chief.
-/
namespace Go.Proofs.YtdnpgfdlmacfkabGreatDoor
open Go.ChangeShapes Go.WideShapes Go.ChangeAt Go.RowKit Go.Maps Sg Bl

theorem AnC.two {w : World} {O : Pt → Nat → Prop} {a : Option Addr} {c : Nat} {m0 m1 : Mg} (h : AnC w O a c [m0, m1]) : ∃ b off, a = some ⟨b, off, none⟩ ∧ w.cell? ⟨b, off, none⟩ = some (.int .i64 m0.k) ∧ w.cell? ⟨b, off + 7, none⟩ = some (.int .i64 m1.k) := by
  rcases h.mgs with h1 | ⟨b, off, h1, h2⟩
  · cases h1
  · exact ⟨b, off, h1, h2 0 _ rfl, h2 7 _ rfl⟩
def oA : Od := ⟨7, 0, 1, 0, 1, []⟩
def mA : Mg := ⟨8, 2, 0, 7, 0, 0, 0⟩
theorem aw_e : begE (newCh 5 50 3) oA = 0 := by kernel_rfl
theorem aw_a : begA (newCh 5 50 3) oA = [⟨6, 0, 1, 7, 0, 0, 1⟩, ⟨6, 0, 2, 7, 0, 0, 1⟩] := by kernel_rfl
theorem aw_h : (hdSA (begS (newCh 5 50 3) oA) mA).2 = [⟨10, 0, 1, 7, 0, 0, 0⟩, ⟨10, 0, 2, 7, 0, 0, 0⟩] := by kernel_rfl
theorem aw_s : stC (hdSA (begS (newCh 5 50 3) oA) mA).1 7 = 4 := by kernel_rfl
set_option maxRecDepth 100000 in
set_option maxHeartbeats 1000000 in
theorem cwake_any (w : World) (hg : Gl w) : Calls Tryz.prog 6 #[] w fun e w' => e = .returned (.bool true) ∧ Below w.heap.size w w' := by
  have N := Cu.new (w0 := w) (Below.refl _ _) 5 50 3
  have A1 := aw_e
  have A2 := aw_a
  have A3 := aw_h
  have A4 := aw_s
  generalize newCh 5 50 3 = v0 at *
  obtain ⟨v1, hv1⟩ : ∃ v1, begS v0 oA = v1 := ⟨_, rfl⟩
  rw [hv1] at A3 A4
  obtain ⟨v2, hv2⟩ : ∃ v2, (hdSA v1 mA).1 = v2 := ⟨_, rfl⟩
  rw [hv2] at A4
  have HB : Hid (∀ u p O, Cu w O u p v0 → Calls Tryz.prog 9 #[.pointer (some ⟨p, 0, none⟩), .agg #[.int .i64 7, .int .i64 0, .int .i64 1, .int .i64 0, .int .i64 1, .slice none 0 0]] u fun e w' => ∃ a c O', e = .returned (.tuple #[.slice a 2 c, .int .i64 0]) ∧ AnC w' O' a c [⟨6, 0, 1, 7, 0, 0, 1⟩, ⟨6, 0, 2, 7, 0, 0, 1⟩] ∧ Cu w O' w' p v1) := fun u p O k =>
    (k.begin hg oA (sa := none) (sc := 0) (.inl rfl) (by decide) (by decide) A1 hv1 A2).mono (fun _ _ ⟨a, c, O', e1, e2, e3, _⟩ => ⟨a, c, O', e1, e2, e3⟩)
  have HH : Hid (∀ u p O a c, Cu w O u p v1 → AnC u O a c [⟨6, 0, 1, 7, 0, 0, 1⟩, ⟨6, 0, 2, 7, 0, 0, 1⟩] → Calls Tryz.prog 10 #[.pointer (some ⟨p, 0, none⟩), .agg #[.int .i64 8, .int .i64 2, .int .i64 0, .int .i64 7, .int .i64 0, .int .i64 0, .int .i64 0]] u fun e w' => ∃ a2 c2, e = .returned (.slice a2 2 c2) ∧ (∃ b off, a2 = some ⟨b, off, none⟩ ∧ w'.cell? ⟨b, off + 7, none⟩ = some (.int .i64 10)) ∧ (∃ b off, a = some ⟨b, off, none⟩ ∧ w'.cell? ⟨b, off, none⟩ = some (.int .i64 6)) ∧ Calls Tryz.prog 11 #[.pointer (some ⟨p, 0, none⟩), .int .i64 7] w' fun e w'' => e = .returned (.int .i64 4) ∧ Below w.heap.size w w'') := fun u p O a c k h => by
    refine (k.handle hg mA (by decide) hv2 A3).mono ?_
    rintro e w' ⟨a2, c2, O2, e1, e2, e3, e4⟩
    obtain ⟨b, off, g1, g2, -⟩ := (h.step e4).two
    obtain ⟨b2, off2, g3, -, g4⟩ := e2.two
    exact ⟨a2, c2, e1, ⟨b2, off2, g3, g4⟩, ⟨b, off, g1, g2⟩, (e3.state (id := 7) (by decide) A4).mono (fun _ _ ⟨z1, z2⟩ => ⟨z1, bel_on' e3.2 z2⟩)⟩
  clear A1 A2 A3 A4 hv1 hv2 hg
  go_enter Tryz.func6, Tryz.ntmps6
  go_wp2_with (first
    | (go_at_call 7; refine N.mono ?_; clear N; rintro e u1 ⟨p, O, rfl, h1, -, -⟩; have B2 := HB.out u1 p O h1; clear h1 HB)
    | (go_at_call 9; refine B2.mono ?_; clear B2; rintro e u2 ⟨a, c, O1, rfl, h1, h2⟩; have H2 := HH.out u2 p O1 a c h2 h1; clear h1 h2 HH)
    | (go_at_call 10; refine H2.mono ?_; clear H2; rintro e u3 ⟨a2, c2, rfl, ⟨b2, o2, rfl, d2⟩, ⟨b1, o1, rfl, d1⟩, h3⟩; have S2 := h3; clear h3)
    | (go_at_call 11; refine S2.mono ?_; clear S2; rintro e u4 ⟨rfl, hb⟩; have HX := hide hb; clear hb))
  go_ret
  exact ⟨rfl, HX.out⟩
end Go.Proofs.YtdnpgfdlmacfkabGreatDoor
/-
  An order that is cancelled, as a chief leads it alone; the law's order in its box, beside the chief.
-/
namespace Go.Proofs.YtdnpgfdlmacfkabGreatDoor
open Go.RowKit Sg Bl

theorem can_new (x y z id : Int) : canE (newCh x y z) id = 6 ∧ canS (newCh x y z) id = newCh x y z ∧ canA (newCh x y z) id = [] := ⟨rfl, rfl, rfl⟩
theorem One.can {v : Ch} {o : Od} {a : Bool} {n : Nat} (hm : mayO o = true) (h : One v o a false n) (hr : ((n + 1 : Nat) : Int) ≤ v.room) : canE v o.id = 0 ∧ One (canS v o.id) o a true (n + 1) := by
  obtain ⟨y, hy⟩ := h.l
  have h2 := h.turn hm hy hr
  unfold canE canS
  rw [h.d, hy]
  have hd : (frL o a false y).dec = false := rfl
  simp only [hd, Bool.false_eq_true, if_false]
  refine ⟨?_, h2.1⟩
  unfold noE
  rw [room_of h.len hr]
  rfl
theorem One.can2 {v : Ch} {o : Od} {a : Bool} {n : Nat} (h : One v o a true n) : canE v o.id = 7 ∧ canS v o.id = v ∧ canA v o.id = [] := by
  obtain ⟨y, hy⟩ := h.l
  have hd : (frL o a true y).dec = true := rfl
  unfold canE canS canA
  rw [h.d, hy]
  simp only [hd, Bool.false_eq_true, if_false, if_true, and_self]
theorem One.yes {v : Ch} {o : Od} {a : Bool} {n : Nat} (h : One v o a true n) {fr : Int} (hf : keepB fr = true) : hdSA v ⟨7, fr, 0, o.id, 0, 0, 0⟩ = (v, []) := by
  obtain ⟨y, hy⟩ := h.l
  have hw : (frL o a true y).wt = false := by cases a <;> rfl
  unfold hdSA
  rw [h.d, show (⟨7, fr, 0, o.id, 0, 0, 0⟩ : Mg).id = o.id from rfl, hy]
  rw [if_neg (by rintro (e | e); · cases e
                 · exact e rfl), if_neg (by rintro ⟨e, -⟩; cases e)]
  dsimp only
  rw [if_pos hf]
  unfold keepSA
  rw [hw]
  rw [if_neg (by rintro ⟨-, e⟩; cases e), if_neg (by rintro ⟨-, e⟩; cases e), if_neg (by rintro ⟨e, -⟩; cases e), if_neg (by rintro ⟨e, -⟩; cases e)]
theorem One.acc {v : Ch} {o : Od} {a : Bool} {n : Nat} (hm : mayO o = true) (h : One v o a true n) : accE v o.id = 7 ∧ accS v o.id = v := by
  obtain ⟨y, hy⟩ := h.l
  have hs : stF (frL o a true y).o (frL o a true y).f = 4 := by
    show stF o (frF o.steps.length a true) = 4
    rw [st_fr hm]; rfl
  unfold accE accS
  rw [h.d, hy]
  simp only [hs]
  exact ⟨rfl, rfl⟩

/-- The law's order in its box, the chief beside it. -/
def OSt (w : World) (o : Od) (a : Option Addr) (c : Nat) (u : World) (p : Nat) (O : Pt → Nat → Prop) (v : Ch) : Prop := Cu w O u p v ∧ Abc u O w.heap.size (.cells #[.int .i64 o.id, .int .i64 o.item, .int .i64 o.qty, .int .i64 o.client, .int .i64 o.price, .slice a o.steps.length c] 24)
section
variable {w u u' : World} {o : Od} {a : Option Addr} {c p : Nat} {O O' : Pt → Nat → Prop} {v v' : Ch}
theorem OSt.step (h : OSt w o a c u p O v) (k : Cu w O' u' p v') (g : Go_ O u O' u') : OSt w o a c u' p O' v' := ⟨k, h.2.step g⟩
theorem OSt.on (h : OSt w o a c u p O v) (hb : Below u.heap.size u u') : OSt w o a c u' p O v := ⟨h.1.on hb, h.2.on hb⟩
theorem OSt.new (hb : Below w.heap.size w u) (hx : u.heap[w.heap.size]? = some (.cells #[.int .i64 o.id, .int .i64 o.item, .int .i64 o.qty, .int .i64 o.client, .int .i64 o.price, .slice a o.steps.length c] 24)) (x y z : Int) :
    Calls Tryz.prog 7 #[.int .i64 x, .int .i64 y, .int .i64 z] u fun e w' => ∃ p O, e = .returned (.pointer (some ⟨p, 0, none⟩)) ∧ OSt w o a c w' p O (newCh x y z) := by
  refine (Cu.new hb x y z).mono ?_
  rintro e w' ⟨p, O, h1, h2, h3, h4⟩
  have hlt := (Array.getElem?_eq_some_iff.1 hx).1
  exact ⟨p, O, h1, h2, (h3.block _ hlt).trans hx, fun e => by have := h4 _ e; omega⟩
theorem OSt.begin (hg : Gl w) (w0 : OdIn w o a c) (hm : mayO o = true) (k : OSt w o a c u p O v) {n : Int} (hn : begE v o = n) (hv : begS v o = v') :
    Calls Tryz.prog 9 #[.pointer (some ⟨p, 0, none⟩), .agg #[.int .i64 o.id, .int .i64 o.item, .int .i64 o.qty, .int .i64 o.client, .int .i64 o.price, .slice a o.steps.length c]] u fun e w' => ∃ x O', e = .returned (.tuple #[x, .int .i64 n]) ∧ OSt w o a c w' p O' v' :=
  (k.1.begin hg o (w0.below k.1.2).2.1 w0.1 (wf_id (mayO_of hm).1.1 (mayO_of hm).1.2) hn hv rfl).mono (fun _ _ ⟨_, _, O', e1, _, e3, e4⟩ => ⟨_, O', e1, k.step e3 e4⟩)
theorem OSt.cancel (hg : Gl w) (hm : mayO o = true) (k : OSt w o a c u p O v) {n : Int} (hn : canE v o.id = n) (hv : canS v o.id = v') :
    Calls Tryz.prog 8 #[.pointer (some ⟨p, 0, none⟩), .int .i64 o.id] u fun e w' => ∃ x O', e = .returned (.tuple #[x, .int .i64 n]) ∧ OSt w o a c w' p O' v' :=
  (k.1.cancel hg (wf_id (mayO_of hm).1.1 (mayO_of hm).1.2) hn hv rfl).mono (fun _ _ ⟨_, _, O', e1, _, e3, e4⟩ => ⟨_, O', e1, k.step e3 e4⟩)
theorem OSt.accept (hg : Gl w) (hm : mayO o = true) (k : OSt w o a c u p O v) {n : Int} (hn : accE v o.id = n) (hv : accS v o.id = v') :
    Calls Tryz.prog 12 #[.pointer (some ⟨p, 0, none⟩), .int .i64 o.id] u fun e w' => ∃ O', e = .returned (.int .i64 n) ∧ OSt w o a c w' p O' v' :=
  (k.1.accept hg (wf_id (mayO_of hm).1.1 (mayO_of hm).1.2) hn hv).mono (fun _ _ ⟨O', e1, e3, e4⟩ => ⟨O', e1, k.step e3 e4⟩)
theorem OSt.handle (hg : Gl w) (k : OSt w o a c u p O v) (m : Mg) (hw : (Lit.int .i64 m.id).wf = true) {xs : List Mg} (hv : hdSA v m = (v', xs)) :
    Calls Tryz.prog 10 #[.pointer (some ⟨p, 0, none⟩), .agg #[.int .i64 m.k, .int .i64 m.fr, .int .i64 m.to, .int .i64 m.id, .int .i64 m.st, .int .i64 m.a, .int .i64 m.b]] u fun e w' => ∃ x O', e = .returned x ∧ OSt w o a c w' p O' v' :=
  (k.1.handle hg m hw (by rw [hv]) (xs := xs) (by rw [hv])).mono (fun _ _ ⟨_, _, O', e1, _, e3, e4⟩ => ⟨_, O', e1, k.step e3 e4⟩)
theorem OSt.state (hm : mayO o = true) (k : OSt w o a c u p O v) {n : Int} (hn : stC v o.id = n) :
    Calls Tryz.prog 11 #[.pointer (some ⟨p, 0, none⟩), .int .i64 o.id] u fun e w' => e = .returned (.int .i64 n) ∧ OSt w o a c w' p O v :=
  (k.1.state (wf_id (mayO_of hm).1.1 (mayO_of hm).1.2) hn).mono (fun _ _ ⟨e1, e2⟩ => ⟨e1, k.on e2⟩)
theorem OSt.at0 (k : OSt w o a c u p O v) : u.heap[w.heap.size]? = some (.cells #[.int .i64 o.id, .int .i64 o.item, .int .i64 o.qty, .int .i64 o.client, .int .i64 o.price, .slice a o.steps.length c] 24) := k.2.1
theorem OSt.c06 (k : OSt w o a c u p O v) : u.cell? ⟨w.heap.size, 0, none⟩ = some (.int .i64 o.id) ∧ u.cell? ⟨w.heap.size, 1, none⟩ = some (.int .i64 o.item) ∧ u.cell? ⟨w.heap.size, 2, none⟩ = some (.int .i64 o.qty) ∧ u.cell? ⟨w.heap.size, 3, none⟩ = some (.int .i64 o.client) ∧ u.cell? ⟨w.heap.size, 4, none⟩ = some (.int .i64 o.price) ∧ u.cell? ⟨w.heap.size, 5, none⟩ = some (.slice a o.steps.length c) := by
  refine ⟨?_, ?_, ?_, ?_, ?_, ?_⟩ <;> rw [cell_of k.at0] <;> rfl
theorem OSt.below (k : OSt w o a c u p O v) : Below w.heap.size w u := k.1.2
end
end Go.Proofs.YtdnpgfdlmacfkabGreatDoor
/-
  ChiefCancels: the walk.
-/
namespace Go.Proofs.YtdnpgfdlmacfkabGreatDoor
open Go.ChangeShapes Go.WideShapes Go.ChangeAt Go.RowKit Go.Maps Sg Bl

set_option maxHeartbeats 4000000 in
theorem chiefCancels_walk (o : Od) (a : Option Addr) (c : Nat) (late : Bool) (w : World) (w0 : OdIn w o a c) (hg : Gl w) :
    Calls Tryz.prog 3 #[.agg #[.int .i64 o.id, .int .i64 o.item, .int .i64 o.qty, .int .i64 o.client, .int .i64 o.price, .slice a o.steps.length c], .bool late] w fun e w' => e = .returned (.bool true) ∧ Below w.heap.size w w' := by
  have hb0 : Below w.heap.size w (w.alloc (.cells #[.int .i64 o.id, .int .i64 o.item, .int .i64 o.qty, .int .i64 o.client, .int .i64 o.price, .slice a o.steps.length c] 24)) := (Below.refl _ _).alloc (Nat.le_refl _) _
  have hx0 := World.alloc_heap_new w (.cells #[.int .i64 o.id, .int .i64 o.item, .int .i64 o.qty, .int .i64 o.client, .int .i64 o.price, .slice a o.steps.length c] 24)
  by_cases hs : (10 : Int) < o.steps.length
  · have AW := hide (cwake_any (w.alloc (.cells #[.int .i64 o.id, .int .i64 o.item, .int .i64 o.qty, .int .i64 o.client, .int .i64 o.price, .slice a o.steps.length c] 24)) (hg.on hb0))
    have HB := hide hb0
    clear hb0 hx0 hg w0
    go_enter Tryz.func3, Tryz.ntmps3
    go_wp2_with (first
      | (go_at_call 6; refine AW.out.mono ?_; clear AW; rintro e u1 ⟨rfl, h1⟩; have H1 := hide h1; clear h1))
    go_ret
    exact ⟨rfl, bel_on' HB.out H1.out⟩
  have RM := hide (ref_omay_any o a c (w.alloc (.cells #[.int .i64 o.id, .int .i64 o.item, .int .i64 o.qty, .int .i64 o.client, .int .i64 o.price, .slice a o.steps.length c] 24)) (w0.below hb0).2.1 w0.1 w0.2.2.2)
  cases hm : mayO o
  · rw [hm] at RM
    have AW : Hid (∀ u, Below (w.heap.size + 1) (w.alloc (.cells #[.int .i64 o.id, .int .i64 o.item, .int .i64 o.qty, .int .i64 o.client, .int .i64 o.price, .slice a o.steps.length c] 24)) u → Calls Tryz.prog 6 #[] u fun e w' => e = .returned (.bool true) ∧ Below w.heap.size w w') := fun u hu =>
      (cwake_any u (hg.on (bel_on' hb0 (by simpa using hu)))).mono (fun _ _ ⟨e1, e2⟩ => ⟨e1, bel_on' (bel_on' hb0 (by simpa using hu)) e2⟩)
    have HX := hide hx0
    clear hb0 hg w0 hm hx0
    go_enter Tryz.func3, Tryz.ntmps3
    go_wp2_with (first
      | (go_at_call 5; refine RM.out.mono ?_; clear RM; rintro e u1 ⟨rfl, h1⟩; have A2 := hide (AW.out u1 (by simpa using h1)); clear h1 AW)
      | (go_at_call 6; refine A2.out.mono ?_; clear A2; rintro e u1 ⟨rfl, h1⟩; have H1 := hide h1; clear h1))
    go_ret
    exact ⟨rfl, H1.out⟩
  rw [hm] at RM
  obtain ⟨n1, n2, -, n4, -, -⟩ := One.new hm 3 100 3 (by decide)
  obtain ⟨v1, hv1⟩ : ∃ v1, begS (newCh 3 100 3) o = v1 := ⟨_, rfl⟩
  rw [hv1] at n2 n4
  obtain ⟨c1, c2⟩ := n2.can hm (by rw [n4]; decide)
  obtain ⟨v2, hv2⟩ : ∃ v2, canS v1 o.id = v2 := ⟨_, rfl⟩
  rw [hv2] at c2
  obtain ⟨k1, k2, -⟩ := c2.can2
  have hst : stC v2 o.id = 4 := c2.st hm
  obtain ⟨a1, a2⟩ := c2.acc hm
  have hw := wf_id (mayO_of hm).1.1 (mayO_of hm).1.2
  have HN : Hid (∀ u, Below (w.heap.size + 1) (w.alloc (.cells #[.int .i64 o.id, .int .i64 o.item, .int .i64 o.qty, .int .i64 o.client, .int .i64 o.price, .slice a o.steps.length c] 24)) u → Calls Tryz.prog 7 #[.int .i64 3, .int .i64 100, .int .i64 3] u fun e w' => ∃ p O, e = .returned (.pointer (some ⟨p, 0, none⟩)) ∧ OSt w o a c w' p O (newCh 3 100 3)) := fun u hu =>
    OSt.new (bel_on' hb0 (by simpa using hu)) ((hu.block _ (by simp)).trans hx0) 3 100 3
  have C0 : Hid (∀ u p O, OSt w o a c u p O (newCh 3 100 3) → Calls Tryz.prog 8 #[.pointer (some ⟨p, 0, none⟩), .int .i64 o.id] u fun e w' => ∃ x O', e = .returned (.tuple #[x, .int .i64 6]) ∧ OSt w o a c w' p O' (newCh 3 100 3)) := fun u p O k => k.cancel hg hm rfl rfl
  have B0 : Hid (∀ u p O, OSt w o a c u p O (newCh 3 100 3) → Calls Tryz.prog 9 #[.pointer (some ⟨p, 0, none⟩), .agg #[.int .i64 o.id, .int .i64 o.item, .int .i64 o.qty, .int .i64 o.client, .int .i64 o.price, .slice a o.steps.length c]] u fun e w' => ∃ x O', e = .returned (.tuple #[x, .int .i64 0]) ∧ OSt w o a c w' p O' v1) := fun u p O k => k.begin hg w0 hm n1 hv1
  have C1 : Hid (∀ u p O, OSt w o a c u p O v1 → Calls Tryz.prog 8 #[.pointer (some ⟨p, 0, none⟩), .int .i64 o.id] u fun e w' => ∃ x O', e = .returned (.tuple #[x, .int .i64 0]) ∧ OSt w o a c w' p O' v2) := fun u p O k => k.cancel hg hm c1 hv2
  have C2 : Hid (∀ u p O, OSt w o a c u p O v2 → Calls Tryz.prog 8 #[.pointer (some ⟨p, 0, none⟩), .int .i64 o.id] u fun e w' => ∃ x O', e = .returned (.tuple #[x, .int .i64 7]) ∧ OSt w o a c w' p O' v2) := fun u p O k => k.cancel hg hm k1 k2
  have Y1 : Hid (∀ u p O, OSt w o a c u p O v2 → Calls Tryz.prog 10 #[.pointer (some ⟨p, 0, none⟩), .agg #[.int .i64 7, .int .i64 1, .int .i64 0, .int .i64 o.id, .int .i64 0, .int .i64 0, .int .i64 0]] u fun e w' => ∃ x O', e = .returned x ∧ OSt w o a c w' p O' v2) := fun u p O k => k.handle hg ⟨7, 1, 0, o.id, 0, 0, 0⟩ hw (c2.yes rfl)
  have Y2 : Hid (∀ u p O, OSt w o a c u p O v2 → Calls Tryz.prog 10 #[.pointer (some ⟨p, 0, none⟩), .agg #[.int .i64 7, .int .i64 2, .int .i64 0, .int .i64 o.id, .int .i64 0, .int .i64 0, .int .i64 0]] u fun e w' => ∃ x O', e = .returned x ∧ OSt w o a c w' p O' v2) := fun u p O k => k.handle hg ⟨7, 2, 0, o.id, 0, 0, 0⟩ hw (c2.yes rfl)
  have S1 : Hid (∀ u p O, OSt w o a c u p O v2 → Calls Tryz.prog 11 #[.pointer (some ⟨p, 0, none⟩), .int .i64 o.id] u fun e w' => e = .returned (.int .i64 4) ∧ OSt w o a c w' p O v2) := fun u p O k => k.state hm hst
  have A1 : Hid (∀ u p O, OSt w o a c u p O v2 → Calls Tryz.prog 12 #[.pointer (some ⟨p, 0, none⟩), .int .i64 o.id] u fun e w' => ∃ O', e = .returned (.int .i64 7) ∧ OSt w o a c w' p O' v2) := fun u p O k => k.accept hg hm a1 a2
  have W1 : Hid (∀ u p O, OSt w o a c u p O v2 → Calls Tryz.prog 6 #[] u fun e w' => e = .returned (.bool true) ∧ Below w.heap.size w w') := fun u p O k => (cwake_any u (hg.on k.below)).mono (fun _ _ ⟨e1, e2⟩ => ⟨e1, bel_on' k.below e2⟩)
  clear hb0 w0 hm hg n1 n2 n4 hv1 c1 c2 hv2 k1 k2 hst a1 a2 hw
  have HX := hide hx0
  clear hx0
  generalize newCh 3 100 3 = v0 at *
  cases late
  all_goals go_enter Tryz.func3, Tryz.ntmps3
  all_goals go_wp2_with (first
    | (go_at_call 5; refine RM.out.mono ?_; clear RM; rintro e u0 ⟨rfl, h1⟩; have N2 := hide (HN.out u0 (by simpa using h1)); clear h1 HN HX)
    | (go_at_call 7; refine N2.out.mono ?_; clear N2; rintro e u1 ⟨p, O1, rfl, h⟩; obtain ⟨x0, x1, x2, x3, x4, x5⟩ := h.c06; have KX := hide h; clear h)
    | (go_at_call 8; refine (C0.out _ _ _ KX.out).mono ?_; clear C0; rintro e u2 ⟨y2, O2, rfl, h⟩; clear x0 x1 x2 x3 x4 x5 KX; obtain ⟨x0, x1, x2, x3, x4, x5⟩ := h.c06; have KX := hide h; clear h)
    | (go_at_call 9; refine (B0.out _ _ _ KX.out).mono ?_; clear B0; rintro e u3 ⟨y3, O3, rfl, h⟩; clear x0 x1 x2 x3 x4 x5 KX; obtain ⟨x0, x1, x2, x3, x4, x5⟩ := h.c06; have KX := hide h; clear h)
    | (go_at_call 8; refine (C1.out _ _ _ KX.out).mono ?_; clear C1; rintro e u4 ⟨y4, O4, rfl, h⟩; clear x0 x1 x2 x3 x4 x5 KX; obtain ⟨x0, x1, x2, x3, x4, x5⟩ := h.c06; have KX := hide h; clear h)
    | (go_at_call 8; refine (C2.out _ _ _ KX.out).mono ?_; clear C2; rintro e u5 ⟨y5, O5, rfl, h⟩; clear x0 x1 x2 x3 x4 x5 KX; obtain ⟨x0, x1, x2, x3, x4, x5⟩ := h.c06; have KX := hide h; clear h)
    | (go_at_call 10; refine (Y1.out _ _ _ KX.out).mono ?_; clear Y1; rintro e u6 ⟨y6, O6, rfl, h⟩; clear x0 x1 x2 x3 x4 x5 KX; obtain ⟨x0, x1, x2, x3, x4, x5⟩ := h.c06; have KX := hide h; clear h)
    | (go_at_call 10; refine (Y2.out _ _ _ KX.out).mono ?_; clear Y2; rintro e u7 ⟨y7, O7, rfl, h⟩; clear x0 x1 x2 x3 x4 x5 KX; obtain ⟨x0, x1, x2, x3, x4, x5⟩ := h.c06; have KX := hide h; clear h)
    | (go_at_call 11; refine (S1.out _ _ _ KX.out).mono ?_; clear S1; rintro e u8 ⟨rfl, h⟩; clear x0 x1 x2 x3 x4 x5 KX; obtain ⟨x0, x1, x2, x3, x4, x5⟩ := h.c06; have KX := hide h; clear h)
    | (go_at_call 12; refine (A1.out _ _ _ KX.out).mono ?_; clear A1; rintro e u9 ⟨O9, rfl, h⟩; clear x0 x1 x2 x3 x4 x5 KX; obtain ⟨x0, x1, x2, x3, x4, x5⟩ := h.c06; have KX := hide h; clear h)
    | (go_at_call 6; refine (W1.out _ _ _ KX.out).mono ?_; clear W1; rintro e v9 ⟨rfl, h⟩; have H9 := hide h; clear h))
  all_goals go_ret
  all_goals exact ⟨rfl, H9.out⟩
end Go.Proofs.YtdnpgfdlmacfkabGreatDoor
