/-
  Own texts put together: CgI, CgO, CgP, CgU, ZcNil.
-/
import Derived.Test.YtdnpgfdlmacfkaaGreatDoorSgeajpjb
import Derived.Test.YtdnpgfdlmacfkaaGreatDoorSgapabdi
/-
  Contracts of the chief's forget and New.
-/
namespace Go.Proofs.YtdnpgfdlmacfkaaGreatDoor
open Go.ChangeShapes Go.WideShapes Go.ChangeAt Go.RowKit Go.Shelf Go.Maps Sg Bl

attribute [local go_sem] Oper.semAt_some

/-- All bells of L are cut. -/
def cutsH (h : Int → Int) (L : List Int) : Int → Int := L.foldl cutH h
theorem cuts_at : ∀ (L : List Int) (h : Int → Int) (x : Int), cutsH h L x = if x ∈ L then 0 else h x
  | [], h, x => by simp [cutsH]
  | y :: L, h, x => by
    show cutsH (cutH h y) L x = _
    rw [cuts_at L]
    by_cases h1 : x ∈ L
    · rw [if_pos h1, if_pos (by simp [h1])]
    · rw [if_neg h1]
      by_cases h2 : x = y
      · subst h2
        rw [if_pos (by simp)]
        exact Bl.upd_same _ _ _
      · rw [if_neg (by simp [h1, h2])]
        exact Bl.upd_other _ _ h2
theorem cuts_snoc (h : Int → Int) (L : List Int) (x : Int) : cutsH h (L ++ [x]) = cutH (cutsH h L) x := by unfold cutsH; rw [List.foldl_append]; rfl
theorem cuts_all {t : Int} {h : Int → Int} (g : GoodT t h) : cutsH h (idsL h) = fun _ => 0 := by
  funext x
  rw [cuts_at]
  split
  · rfl
  · rename_i h1
    cases e : decide (h x = 0) with
    | true => exact of_decide_eq_true e
    | false => exact absurd ((mem_idsL g.at_ x).2 (of_decide_eq_false e)) h1
/-- What forget's loop has, pre being cut. -/
def FgI (B : Nat) (E : Nat → Prop) (w w1 : World) (p bt b' : Nat) (t : Int) (h : Int → Int) (m r : Int) (qv : Value) (pre : List Int) (W : World) : Prop :=
  Bt B E W bt t (cutsH h pre) 999 ∧ W.heap[p]? = some (.cells #[.int .i64 m, .int .i64 r, qv, .map (some b'), .pointer (some ⟨bt, 0, none⟩)] 84 (0, 0)) ∧ Gd.Pu.Pa.Mx ptX Tryz.prog 3 W b' 999 (fun _ => none) ∧ Boxed W w.heap.size 25 (.pointer (some ⟨p, 0, none⟩)) ∧ Rg.Kept (fun i _ => E i) w1 W
theorem FgI.kept {B : Nat} {E : Nat → Prop} {w w1 W W' : World} {p bt b' : Nat} {t : Int} {h : Int → Int} {m r : Int} {qv : Value} {pre : List Int} {F : Nat → Obj → Prop} (hE : ∀ k, E k → k < w.heap.size) (hp : p < w.heap.size) (hs : w.heap.size < w1.heap.size) (hb : b' < w1.heap.size) (k : FgI B E w w1 p bt b' t h m r qv pre W) (hk : Rg.Kept F W W') (hF : ∀ k o, F k o → w1.heap.size ≤ k) : FgI B E w w1 p bt b' t h m r qv pre W' := by
  obtain ⟨k1, k2, k3, k4, k5⟩ := k
  have far : ∀ k o, k < w1.heap.size → ¬ F k o := fun k o hl e => by have := hF k o e; omega
  exact ⟨k1.kept hk (fun k o e => far k o (by have := hE k e; omega)), hk.block _ _ k2 (far p _ (by omega)), k3.kept hk (fun o => far b' o hb), hk.block _ _ k4 (far _ _ hs), ⟨hk.os.trans k5.os, hk.tape.trans k5.tape, hk.output.trans k5.output, Nat.le_trans k5.size hk.size, fun k o ho hx => hk.block k o (k5.block k o ho hx) (far k o (Array.getElem?_eq_some_iff.1 ho).1)⟩⟩
theorem FgI.own {B : Nat} {E : Nat → Prop} {w w1 : World} {p bt b' : Nat} {t : Int} {h : Int → Int} {m r : Int} {qv : Value} (hE : ∀ k, E k → k < w.heap.size) (hp : p < w.heap.size) (hs : w.heap.size < w1.heap.size) (hb : b' < w1.heap.size) : OwnFrom w1.heap.size (FgI B E w w1 p bt b' t h m r qv) := fun _ _ _ row hs' hg hr =>
  hs'.kept hE hp hs hb (F := fun i _ => row = some i) (Rg.Kept.grown hg (fun _ _ e => e)) (fun k _ e => (hr k e).1)
set_option maxRecDepth 100000 in
set_option maxHeartbeats 1000000 in
theorem cforget_any {B : Nat} {E : Nat → Prop} {w : World} {p bt : Nat} {t : Int} {h : Int → Int} {m r : Int} {qv x3 : Value} (hb : w.heap[p]? = some (.cells #[.int .i64 m, .int .i64 r, qv, x3, .pointer (some ⟨bt, 0, none⟩)] 84 (0, 0))) (kb : Bt B E w bt t h 999) (hp : ¬ E p) :
    Calls Tryz.prog 40 #[.pointer (some ⟨p, 0, none⟩)] w fun e w' => (∃ x, e = .returned x) ∧ ∃ b', (w.heap.size ≤ b' ∧ b' < w'.heap.size) ∧ w'.heap[p]? = some (.cells #[.int .i64 m, .int .i64 r, qv, .map (some b'), .pointer (some ⟨bt, 0, none⟩)] 84 (0, 0)) ∧ Gd.Pu.Pa.Mx ptX Tryz.prog 3 w' b' 999 (fun _ => none) ∧ Bt B E w' bt t (fun _ => 0) 999 ∧ Rg.Kept (fun i _ => i = p ∨ E i) w w' := by
  refine (callsIn_wide (n := 5)).1 ?_
  have hpl : p < w.heap.size := (Array.getElem?_eq_some_iff.1 hb).1
  have hEl : ∀ k, E k → k < w.heap.size := fun k e => (kb.1 k e).2
  obtain ⟨W0, hW0⟩ : ∃ W0, W0 = w.setCell ⟨p, 3, none⟩ (.map (some (w.heap.size + 1))) := ⟨_, rfl⟩
  obtain ⟨W1, hW1⟩ : ∃ W1, W1 = W0.alloc (.cells #[.pointer (some ⟨p, 0, none⟩)] 25) := ⟨_, rfl⟩
  obtain ⟨U, hU⟩ : ∃ U, U = W1.alloc (.map #[] 0) := ⟨_, rfl⟩
  have z0 : W0.heap.size = w.heap.size := by rw [hW0]; simp
  have z1 : W1.heap.size = w.heap.size + 1 := by rw [hW1]; simp [z0]
  have zU : U.heap.size = w.heap.size + 2 := by rw [hU]; simp [z1]
  have k0 : Rg.Kept (fun i _ => i = p) w W0 := by rw [hW0]; exact Rg.Kept.setCell (a := ⟨p, 3, none⟩) _ (fun _ => rfl)
  have hb2 : Below W0.heap.size W0 U := by rw [hU, hW1]; exact ((Below.refl _ _).alloc (Nat.le_refl _) _).alloc (by simp) _
  have hp0 : W0.heap[p]? = some (.cells #[.int .i64 m, .int .i64 r, qv, .map (some (w.heap.size + 1)), .pointer (some ⟨bt, 0, none⟩)] 84 (0, 0)) := by
    rw [hW0, heap_setCell_same _ _ _ _ _ _ hb]
    rfl
  have hpU := (hb2.block p (by omega)).trans hp0
  have hbxU : Boxed U w.heap.size 25 (.pointer (some ⟨p, 0, none⟩)) := by
    show U.heap[w.heap.size]? = _
    rw [hU, hW1, ← z0]
    exact (Below.heap_alloc _ _ _ (by simp)).trans (World.alloc_heap_new W0 _)
  have kU : Rg.Kept (fun i _ => i = p ∨ E i) w U := (k0.mono (fun _ _ e => .inl e)).trans (Rg.Kept.of_below hb2)
  have kbU : Bt B E U bt t h 999 := (kb.kept k0 (fun k _ e e2 => hp (e2 ▸ e))).on hb2
  have mU : Gd.Pu.Pa.Mx ptX Tryz.prog 3 U (w.heap.size + 1) 999 (fun _ => none) := by
    have h1 := (Gd.Pu.Pa.Mx.new ptX Tryz.prog 3 W1).mono (show 0 ≤ 999 by decide)
    rw [← hU, z1] at h1
    exact h1
  have f3 : w.frozen? ⟨p, 3, none⟩ = false := frozen_of_row _ _ _ _ _ hb
  have c3 : w.cell? ⟨p, 3, none⟩ = some x3 := by rw [cell_of hb]; rfl
  have c4 : w.cell? ⟨p, 4, none⟩ = some (.pointer (some ⟨bt, 0, none⟩)) := by rw [cell_of hb]; rfl
  have hne : w.heap.size ≠ p := by omega
  have IDS := (callsIn_wide (n := 4)).2 (bids_any kbU (by decide))
  have GT := kb.2.2.1
  have HL : Hid ((idsL h).length ≤ 1000000) := by
    have : (idsL h).length ≤ 1000 := idsTo_len h 1000
    show (idsL h).length ≤ 1000000
    omega
  rw [hW1, hW0] at hU
  have HU := hide hU
  rw [hU] at IDS
  have HF := hide (And.intro kbU (And.intro hpU (And.intro mU hbxU)))
  have HK := hide kU
  clear hb kb hb2 hp0 k0 hbxU hpU kU kbU mU hU z0 z1 hW0 hW1
  have hmm := @run_makeMap Tryz.prog
  have hnf : ∀ (u : World) (b : Nat), (binOp BinOp.eql 132 (.func (.func 179) #[] #[.pointer (some ⟨b, 0, none⟩)]) .nilFunc).run Tryz.prog u = .ok (.bool false) u := fun _ _ => by kernel_rfl
  refine callsIn_of_wp_marks Tryz.func40 rfl trivial ?_ rfl
  simp only [Tryz.ntmps40, List.size_toArray, List.length_cons, List.length_nil, Nat.reduceAdd, Nat.reduceSub, Array.replicate_succ, Array.replicate_zero, List.push_toArray, List.append_toArray, List.nil_append, List.cons_append]
  gi_wp2_with fail
  refine ⟨trivial, IDS.mono ?_⟩
  rintro e w1 ⟨Bi, v0, rfl, hb1, hit, hbi, hvr⟩
  rw [← HU.out] at hb1 hbi hvr
  clear IDS
  have hs1 := hb1.size
  obtain ⟨kbU, hpU, mU, hbxU⟩ := HF.out
  have i0 : FgI B E w w1 p bt (w.heap.size + 1) t h m r qv [] w1 := ⟨kbU.on hb1, (hb1.block _ (by omega)).trans hpU, mU.on hb1, (hb1.block _ (by omega)).trans hbxU, Rg.Kept.refl _ _⟩
  have hno : NoE (fun k _ => E k) Bi v0 := ⟨fun cs f e => by have := hEl _ e; omega, fun k hk o e => by have := hvr k hk; have := hEl _ e; omega⟩
  have ES := bell_seq (E := fun k _ => E k) HL.out hit hno (fun k o h1 e => by have := hEl _ e; omega)
  have HK1 : Hid (Rg.Kept (fun i _ => i = p ∨ E i) w w1) := HK.out.trans (Rg.Kept.of_below hb1)
  have HI := hide i0
  clear hb1 hit hno hbi hvr kbU hpU mU hbxU i0 HF HK f3 c3 c4
  gi_wp2_with fail
  refine Rg.range_acts (E := fun k _ => E k) (enc := encI) (L := idsL h) (I := FgI B E w w1 p bt (w.heap.size + 1) t h m r qv) (Ix := fun _ _ _ => False)
    (Ax := fun x a' _ => a' = { tmps := #[.pointer (some ⟨p, 0, none⟩), .pointer (some ⟨w.heap.size, 0, none⟩), .int .i64 x, .pointer (some ⟨p, 0, none⟩), .map (some (w.heap.size + 1)), .pointer (some ⟨p, 0, none⟩), .pointer (some ⟨p, 3, none⟩), .pointer (some ⟨p, 0, none⟩), .pointer (some ⟨p, 0, none⟩), .pointer (some ⟨p, 4, none⟩), .pointer (some ⟨bt, 0, none⟩), .func (.func 179) #[] #[.pointer (some ⟨Bi, 0, none⟩)], .int .i64 x, undef, undef, undef, undef, undef, undef], defers := [] })
    (gf := 179) (lb := #[.pointer (some ⟨Bi, 0, none⟩)]) rfl (enters_of Tryz.func179 (by kernel_rfl) rfl) ES (fun k o h1 h2 h3 => by have := hEl _ h3; omega) rfl
    (FgI.own hEl hpl (by omega) (by omega)) (fun c' W0 W W' row hs hg hr => hs.elim) (fun x a' => ?ax) HI.out ?assign ?body ?done ?stop
  case ax =>
    intro _ W W' row hs hg hr
    exact hs
  case assign =>
    intro l pre x W K hI hK
    have HK := hK { tmps := #[.pointer (some ⟨p, 0, none⟩), .pointer (some ⟨w.heap.size, 0, none⟩), .int .i64 x, .pointer (some ⟨p, 0, none⟩), .map (some (w.heap.size + 1)), .pointer (some ⟨p, 0, none⟩), .pointer (some ⟨p, 3, none⟩), .pointer (some ⟨p, 0, none⟩), .pointer (some ⟨p, 0, none⟩), .pointer (some ⟨p, 4, none⟩), .pointer (some ⟨bt, 0, none⟩), .func (.func 179) #[] #[.pointer (some ⟨Bi, 0, none⟩)], .int .i64 x, undef, undef, undef, undef, undef, undef], defers := [] } _ (Rg.Kept.refl _ _) hI rfl
    clear hK
    unfold encI at HK ⊢
    gi_wp2
    exact HK
  case body =>
    rintro l pre x a' W hI rfl hpq
    obtain ⟨k1, k2, k3, k4, k5⟩ := hI
    have hx : 1 ≤ x ∧ x ≤ 999 := by
      obtain ⟨q, hq⟩ := hpq
      have : x ∈ idsL h := by rw [← hq]; simp
      exact GT.at_ x ((mem_idsL GT.at_ x).1 this)
    have CU := (bcut_any k1 (wf_id hx.1 hx.2)).mono (R' := fun e w' => (∃ y, e = .returned y) ∧ Rg.Kept (fun k _ => E k) W w' ∧ FgI B E w w1 p bt (w.heap.size + 1) t h m r qv (pre ++ [x]) w') (fun e w' ⟨g1, g2, g3⟩ => by
      refine ⟨⟨_, g1⟩, g3, ?_, g3.block _ _ k2 hp, k3.kept g3 (fun _ e => by have := hEl _ e; omega), g3.block _ _ k4 (fun e => by have := hEl _ e; omega), k5.trans g3⟩
      rw [cuts_snoc]
      exact bt_tight g2)
    have c1 := k4.cell
    have c4 : W.cell? ⟨p, 4, none⟩ = some (.pointer (some ⟨bt, 0, none⟩)) := by rw [cell_of k2]; rfl
    clear k1 k2 k3 k4 k5 hpq hx
    gi_wp2_with fail
    refine ⟨trivial, rfl, (CallsIn.inRound l (callsIn_wide.2 CU)).mono ?_⟩
    rintro y w3 ⟨⟨z, rfl⟩, hz1, hz2⟩
    clear CU
    gi_wp2
    exact ⟨hz1, hz2⟩
  case done =>
    rintro D W hD hI hK
    obtain ⟨k1, k2, k3, k4, k5⟩ := hI.kept hEl hpl (by omega) (by omega) (F := fun i _ => i = D) (Rg.Kept.putObj (W := W) (.deferred none) (fun _ => rfl)) (fun k _ e => by omega)
    have FIN : Hid (∃ b', (w.heap.size ≤ b' ∧ b' < (W.putObj D (.deferred none)).heap.size) ∧ (W.putObj D (.deferred none)).heap[p]? = some (.cells #[.int .i64 m, .int .i64 r, qv, .map (some b'), .pointer (some ⟨bt, 0, none⟩)] 84 (0, 0)) ∧ Gd.Pu.Pa.Mx ptX Tryz.prog 3 (W.putObj D (.deferred none)) b' 999 (fun _ => none) ∧ Bt B E (W.putObj D (.deferred none)) bt t (fun _ => 0) 999 ∧ Rg.Kept (fun i _ => i = p ∨ E i) w (W.putObj D (.deferred none))) :=
      ⟨w.heap.size + 1, ⟨by omega, k3.lt⟩, k2, k3, by rw [cuts_all GT] at k1; exact k1, HK1.out.trans (k5.mono (fun _ _ e => .inr e))⟩
    clear k1 k2 k3 k4 k5
    gi_wp2
    refine ⟨by simp, .inl ⟨_, _, rfl, run_takeDeferred hK, ?_⟩⟩
    exact ⟨_, results_none rfl _ _ _, ⟨_, rfl⟩, FIN.out⟩
  case stop => exact fun D c pre W _ _ _ h _ => h.elim
theorem bt_low {B B' : Nat} {E : Nat → Prop} {w : World} {p : Nat} {t : Int} {h : Int → Int} {n : Nat} (k : Bt B E w p t h n) (hB : B' ≤ B) : Bt B' E w p t h n := ⟨fun i e => ⟨Nat.le_trans hB (k.1 i e).1, (k.1 i e).2⟩, k.2⟩
/-- A chief that was just made. -/
def MadeC (w : World) (v : Ch) (e : Ending) (w' : World) : Prop :=
  ∃ O p q r b bt loc, e = .returned (.pointer (some ⟨p, 0, none⟩)) ∧ Up w.heap.size O w' p v q r b bt loc ∧ Below w.heap.size w w'
theorem madec_of {w w1 w2 w3 w4 : World} {orders room tries : Int} {x3 : Value} {b' : Nat} (h1 : w1 = w.alloc (.cells #[.int .i64 (roomV room), .slice none 0 0, .int .i64 0, .bool false] 141))
    (hb2 : Below w1.heap.size w1 w2) (hz2 : w1.heap.size < w2.heap.size) (h3 : w3 = w2.alloc (.cells #[.int .i64 (mostC orders), .int .i64 (roomV room), .pointer (some ⟨w.heap.size, 0, none⟩), x3, .pointer (some ⟨w1.heap.size, 0, none⟩)] 84))
    (hb' : w3.heap.size ≤ b' ∧ b' < w4.heap.size) (hp : w4.heap[w2.heap.size]? = some (.cells #[.int .i64 (mostC orders), .int .i64 (roomV room), .pointer (some ⟨w.heap.size, 0, none⟩), .map (some b'), .pointer (some ⟨w1.heap.size, 0, none⟩)] 84 (0, 0)))
    (hm : Gd.Pu.Pa.Mx ptX Tryz.prog 3 w4 b' 999 (fun _ => none)) (hbt : Bt w1.heap.size (fun k => k = w1.heap.size) w4 w1.heap.size (clampT tries) (fun _ => 0) 999) (hk : Rg.Kept (fun i _ => i = w2.heap.size ∨ i = w1.heap.size) w3 w4) :
    MadeC w (newCh orders room tries) (.returned (.pointer (some ⟨w2.heap.size, 0, none⟩))) w4 := by
  have z1 : w1.heap.size = w.heap.size + 1 := by rw [h1]; simp
  have z3 : w3.heap.size = w2.heap.size + 1 := by rw [h3]; simp
  have hb1 : Below w.heap.size w w1 := by rw [h1]; exact (Below.refl _ _).alloc (Nat.le_refl _) _
  have hb3 : Below w2.heap.size w2 w3 := by rw [h3]; exact (Below.refl _ _).alloc (Nat.le_refl _) _
  have j0 : Jr w.heap.size w1 w.heap.size (.slice none 0 0) (roomV room) [] 0 false := by
    rw [h1]
    exact Jr.new w w.heap.size (Nat.le_refl _) (roomV room) (roomV_in room).1 (roomV_in room).2
  have j4 := (j0.on (bel_on' hb2 hb3)).kept hk (fun _ e => by omega) (fun k _ e => by simp [Value.ownBlock] at e)
  have s4 := hk.size
  refine ⟨fun x k => match x with
    | .inl 0 => k = w2.heap.size
    | .inl 1 => k = w.heap.size
    | .inl 2 => k = w1.heap.size
    | .inl 3 => k = b'
    | .inl _ => False
    | .inr _ => False, w2.heap.size, w.heap.size, .slice none 0 0, b', w1.heap.size, fun _ => none, rfl, ⟨⟨fun x k e => ?_, fun x y k e1 e2 => ?_, rfl, hp, j4, rfl, (fun k e => by simp [Value.ownBlock] at e), bt_low hbt (by omega), hm, rfl, (fun id l e => by cases e), fun _ _ => rfl⟩, newCh_good _ _ _, rfl⟩, ?_⟩
  · rcases x with (_ | _ | _ | _ | x) | x
    all_goals first | exact False.elim e | (have e : k = _ := e; omega)
  · rcases x with (_ | _ | _ | _ | x) | x
    all_goals rcases y with (_ | _ | _ | _ | y) | y
    all_goals first | rfl | exact False.elim e1 | exact False.elim e2 | (have e1 : k = _ := e1; have e2 : k = _ := e2; omega)
  · refine (bel_on' hb1 (bel_on' hb2 hb3)).trans (hk.bel ?_ (fun k _ e => ?_))
    · omega
    · omega
set_option maxHeartbeats 1000000 in
theorem cnew_any (orders room tries : Int) (w : World) :
    Calls Tryz.prog 11 #[.int .i64 orders, .int .i64 room, .int .i64 tries] w (MadeC w (newCh orders room tries)) := by
  have N := new_any room w
  have FX : Hid (∀ w1 w2, w1 = w.alloc (.cells #[.int .i64 (roomV room), .slice none 0 0, .int .i64 0, .bool false] 141) → Below w1.heap.size w1 w2 → Bt w1.heap.size (fun k => k = w1.heap.size) w2 w1.heap.size (clampT tries) (fun _ => 0) 0 → ∀ x3 w3, w3 = w2.alloc (.cells #[.int .i64 (mostC orders), .int .i64 (roomV room), .pointer (some ⟨w.heap.size, 0, none⟩), x3, .pointer (some ⟨w1.heap.size, 0, none⟩)] 84) → Calls Tryz.prog 40 #[.pointer (some ⟨w2.heap.size, 0, none⟩)] w3 fun e w' => (∃ x, e = .returned x) ∧ MadeC w (newCh orders room tries) (.returned (.pointer (some ⟨w2.heap.size, 0, none⟩))) w') := fun w1 w2 h1 h2 hbt x3 w3 h3 => by
    have hz := (hbt.1 w1.heap.size rfl).2
    have hb3 : Below w2.heap.size w2 w3 := by rw [h3]; exact (Below.refl _ _).alloc (Nat.le_refl _) _
    have hp3 : w3.heap[w2.heap.size]? = some (.cells #[.int .i64 (mostC orders), .int .i64 (roomV room), .pointer (some ⟨w.heap.size, 0, none⟩), x3, .pointer (some ⟨w1.heap.size, 0, none⟩)] 84 (0, 0)) := by rw [h3]; exact World.alloc_heap_new w2 _
    refine (cforget_any hp3 (bt_tight (hbt.on hb3)) (fun e => by omega)).mono ?_
    rintro e w4 ⟨g1, b', g2, g3, g4, g5, g6⟩
    exact ⟨g1, madec_of h1 h2 hz h3 g2 g3 g4 g5 g6⟩
  have BN := fun W => bnew_any tries W
  unfold mostC roomV at FX
  unfold roomV at N
  generalize newCh orders room tries = v0 at *
  generalize clampT tries = ct at *
  go_enter Tryz.func11, Tryz.ntmps11
  go_wp2_with (first
    | (go_at_call 38; refine N.mono ?_; clear N; rintro e w1 ⟨rfl, h1⟩; have HW1 := hide h1; clear h1)
    | (go_at_call 39; refine (BN _).mono ?_; clear BN; rintro e w2 ⟨pb, rfl, rfl, hbt, hb2⟩; have FY := FX.out _ w2 HW1.out hb2 hbt; clear hbt hb2 FX)
    | (go_at_call 40; refine (FY _ _ rfl).mono ?_; clear FY; rintro e w4 ⟨⟨y, rfl⟩, hm⟩; have HX := hide hm; clear hm))
  go_ret
  exact HX.out
end Go.Proofs.YtdnpgfdlmacfkaaGreatDoor
/-
  A chief that is up, above a world w0, with answers named; the law's awake.
-/
namespace Go.Proofs.YtdnpgfdlmacfkaaGreatDoor
open Go.ChangeShapes Go.WideShapes Go.ChangeAt Go.RowKit Go.Maps Sg Bl

theorem jr_low {B B' : Nat} {w : World} {p : Nat} {v : Value} {room : Int} {L : List ByteArray} {sure : Nat} {down : Bool} (h : Jr B w p v room L sure down) (hB : B' ≤ B) : Jr B' w p v room L sure down := ⟨h.1, Nat.le_trans hB h.2.1, own_low h.2.2.1 hB, h.2.2.2⟩
/-- The chief at p, above w0; its blocks are O's. -/
def Cu (w0 : World) (O : Pt → Nat → Prop) (w : World) (p : Nat) (v : Ch) : Prop := (∃ q r b bt loc, Up w0.heap.size O w p v q r b bt loc) ∧ Below w0.heap.size w0 w
/-- An answer, beside the chief. -/
def AnC (w : World) (O : Pt → Nat → Prop) (a : Option Addr) (c : Nat) (xs : List Mg) : Prop := (∃ B0, w.ownsRow B0 34 7 (.slice a xs.length c) xs.length (mgCells xs)) ∧ ∀ ad, a = some ad → ¬ Eo O ad.block
/-- The block k has the object o; it is none of the chief's. -/
def Abc (w : World) (O : Pt → Nat → Prop) (k : Nat) (o : Obj) : Prop := w.heap[k]? = some o ∧ ¬ Eo O k
/-- What a step leaves of the rest. -/
def Go_ (O : Pt → Nat → Prop) (w : World) (O' : Pt → Nat → Prop) (w' : World) : Prop := (∀ i, Eo O' i → growE (Eo O) w w' i) ∧ Rg.Kept (fun i _ => Eo O i) w w'
section
variable {w0 w w' : World} {O O' : Pt → Nat → Prop} {p : Nat} {v v' : Ch}
theorem Go_.of_below (hb : Below w.heap.size w w') : Go_ O w O w' := ⟨fun _ e => .inl e, Rg.Kept.of_below hb⟩
theorem Cu.on (k : Cu w0 O w p v) (hb : Below w.heap.size w w') : Cu w0 O w' p v := by
  obtain ⟨⟨q, r, b, bt, loc, h⟩, h2⟩ := k
  exact ⟨⟨q, r, b, bt, loc, h.on hb⟩, bel_on' h2 hb⟩
theorem Cu.good (k : Cu w0 O w p v) : GoodCh v := by
  obtain ⟨⟨q, r, b, bt, loc, h⟩, _⟩ := k
  exact h.g
theorem Cu.lt (k : Cu w0 O w p v) {i : Nat} (e : Eo O i) : w0.heap.size ≤ i ∧ i < w.heap.size := by
  obtain ⟨⟨q, r, b, bt, loc, h⟩, _⟩ := k
  obtain ⟨y, e⟩ := e
  exact h.k.bd y i e
theorem Cu.gl (hg : Gl w0) (k : Cu w0 O w p v) : ∀ u, Rg.Kept (fun i _ => Eo O i) w u → Gl u := fun _ h => hg.on (k.2.trans (h.bel (by obtain ⟨⟨q, r, b, bt, loc, h1⟩, _⟩ := k; exact h1.k.low) (fun i _ e => (k.lt e).1)))
theorem Abc.step {k : Nat} {o : Obj} (h : Abc w O k o) (g : Go_ O w O' w') : Abc w' O' k o :=
  ⟨g.2.block _ _ h.1 h.2, fun e => (g.1 k e).elim h.2 (fun e => by have := (Array.getElem?_eq_some_iff.1 h.1).1; omega)⟩
theorem Abc.on {k : Nat} {o : Obj} (h : Abc w O k o) (hb : Below w.heap.size w w') : Abc w' O k o := h.step (Go_.of_below hb)
theorem AnC.step {a : Option Addr} {c : Nat} {xs : List Mg} (h : AnC w O a c xs) (g : Go_ O w O' w') : AnC w' O' a c xs := by
  obtain ⟨⟨B0, h1⟩, h2⟩ := h
  refine ⟨⟨B0, own_keptR h1 g.2 (fun k _ e => by obtain ⟨x, e3, rfl⟩ := own_some e; exact h2 x e3)⟩, fun ad e e2 => ?_⟩
  rcases g.1 _ e2 with e3 | e3
  · exact h2 ad e e3
  · have := (h1.lt ad.block (by rw [e]; rfl)).2
    omega
theorem AnC.on {a : Option Addr} {c : Nat} {xs : List Mg} (h : AnC w O a c xs) (hb : Below w.heap.size w w') : AnC w' O a c xs := h.step (Go_.of_below hb)
theorem AnC.mgs {a : Option Addr} {c : Nat} {xs : List Mg} (h : AnC w O a c xs) : Mgs w a xs := by
  obtain ⟨⟨B0, h1⟩, _⟩ := h
  exact row_mgs h1
/-- Out of a step's word. -/
theorem SendR.cu {q b bt : Nat} {loc : Int → Option Nat} (k : Cu w0 O w p v) {v2 : Ch} {xs : List Mg} {e : Ending} (h : SendR w0.heap.size O w p v2 q b bt loc xs e w') : ∃ a c O', e = .returned (.slice a xs.length c) ∧ AnC w' O' a c xs ∧ Cu w0 O' w' p v2 ∧ Go_ O w O' w' := by
  obtain ⟨ra, rc, O1, r1, loc1, h1, h2, h3, h4, h5, h6, h7⟩ := h
  exact ⟨ra, rc, O1, h1, ⟨⟨_, h2⟩, h3⟩, ⟨⟨q, r1, b, bt, loc1, h4⟩, k.2.trans (h6.bel (by obtain ⟨⟨q, r, b, bt, loc, h1⟩, _⟩ := k; exact h1.k.low) (fun i _ e => (k.lt e).1))⟩, h5, h6⟩
theorem UStp.cu {q b bt : Nat} {loc : Int → Option Nat} (k : Cu w0 O w p v) {v2 : Ch} (h : UStp w0.heap.size O w p v2 q b bt loc w') : ∃ O', Cu w0 O' w' p v2 ∧ Go_ O w O' w' := by
  obtain ⟨O1, r1, loc1, h4, h5, h6, h7⟩ := h
  exact ⟨O1, ⟨⟨q, r1, b, bt, loc1, h4⟩, k.2.trans (h6.bel (by obtain ⟨⟨q, r, b, bt, loc, h1⟩, _⟩ := k; exact h1.k.low) (fun i _ e => (k.lt e).1))⟩, h5, h6⟩
theorem Cu.new (hb : Below w0.heap.size w0 w) (orders room tries : Int) :
    Calls Tryz.prog 11 #[.int .i64 orders, .int .i64 room, .int .i64 tries] w fun e w' => ∃ p O, e = .returned (.pointer (some ⟨p, 0, none⟩)) ∧ Cu w0 O w' p (newCh orders room tries) ∧ Below w.heap.size w w' ∧ ∀ i, Eo O i → w.heap.size ≤ i := by
  refine (cnew_any orders room tries w).mono ?_
  rintro e w' ⟨O, p, q, r, b, bt, loc, h1, h2, h3⟩
  have hB := hb.size
  have k2 : CkV w0.heap.size O w' p (newCh orders room tries) q r b bt loc ((newCh orders room tries).T.map lnC) :=
    ⟨fun x i e => ⟨Nat.le_trans hB (h2.k.bd x i e).1, (h2.k.bd x i e).2⟩, h2.k.dj, h2.k.op, h2.k.blk, jr_low h2.k.jr hB, h2.k.oq, h2.k.or, bt_low h2.k.bl hB, h2.k.mp, h2.k.ob, (fun id l e => by cases e), h2.k.no⟩
  exact ⟨p, O, h1, ⟨⟨q, r, b, bt, loc, k2, h2.g, h2.d⟩, bel_on' hb h3⟩, h3, fun i ⟨y, e⟩ => (h2.k.bd y i e).1⟩
theorem Cu.begin (hg : Gl w0) (k : Cu w0 O w p v) (o : Od) {sa : Option Addr} {sc : Nat} (hs : Sts w sa o.steps) (hsl : o.steps.length ≤ 9223372036854775807) (hw : (Lit.int .i64 o.id).wf = true) {n : Int} (hn : begE v o = n) (hv : begS v o = v') {xs : List Mg} (hx : begA v o = xs) :
    Calls Tryz.prog 13 #[.pointer (some ⟨p, 0, none⟩), .agg #[.int .i64 o.id, .int .i64 o.item, .int .i64 o.qty, .int .i64 o.client, .int .i64 o.price, .slice sa o.steps.length sc]] w fun e w' => ∃ a c O', e = .returned (.tuple #[.slice a xs.length c, .int .i64 n]) ∧ AnC w' O' a c xs ∧ Cu w0 O' w' p v' ∧ Go_ O w O' w' := by
  subst hn hv hx
  obtain ⟨⟨q, r, b, bt, loc, h⟩, _⟩ := id k
  refine (cbeg_any h (k.gl hg) o hs hsl hw).mono ?_
  rintro e w' ⟨x, h1, h2⟩
  obtain ⟨a, c, O', h3, h4, h5, h6⟩ := h2.cu k
  cases h3
  exact ⟨a, c, O', h1, h4, h5, h6⟩
theorem Cu.cancel (hg : Gl w0) (k : Cu w0 O w p v) {id : Int} (hw : (Lit.int .i64 id).wf = true) {n : Int} (hn : canE v id = n) (hv : canS v id = v') {xs : List Mg} (hx : canA v id = xs) :
    Calls Tryz.prog 15 #[.pointer (some ⟨p, 0, none⟩), .int .i64 id] w fun e w' => ∃ a c O', e = .returned (.tuple #[.slice a xs.length c, .int .i64 n]) ∧ AnC w' O' a c xs ∧ Cu w0 O' w' p v' ∧ Go_ O w O' w' := by
  subst hn hv hx
  obtain ⟨⟨q, r, b, bt, loc, h⟩, _⟩ := _root_.id k
  refine (ccan_any h (k.gl hg) hw).mono ?_
  rintro e w' ⟨x, h1, h2⟩
  obtain ⟨a, c, O', h3, h4, h5, h6⟩ := h2.cu k
  cases h3
  exact ⟨a, c, O', h1, h4, h5, h6⟩
theorem Cu.accept (hg : Gl w0) (k : Cu w0 O w p v) {id : Int} (hw : (Lit.int .i64 id).wf = true) {n : Int} (hn : accE v id = n) (hv : accS v id = v') :
    Calls Tryz.prog 17 #[.pointer (some ⟨p, 0, none⟩), .int .i64 id] w fun e w' => ∃ O', e = .returned (.int .i64 n) ∧ Cu w0 O' w' p v' ∧ Go_ O w O' w' := by
  subst hn hv
  obtain ⟨⟨q, r, b, bt, loc, h⟩, _⟩ := _root_.id k
  refine (cacc_any h (k.gl hg) hw).mono ?_
  rintro e w' ⟨h1, h2⟩
  obtain ⟨O', h3, h4⟩ := h2.cu k
  exact ⟨O', h1, h3, h4⟩
theorem Cu.ring (hg : Gl w0) (k : Cu w0 O w p v) {id : Int} (hw : (Lit.int .i64 id).wf = true) (hv : rngS v id = v') {xs : List Mg} (hx : rngA v id = xs) :
    Calls Tryz.prog 19 #[.pointer (some ⟨p, 0, none⟩), .int .i64 id] w fun e w' => ∃ a c O', e = .returned (.slice a xs.length c) ∧ AnC w' O' a c xs ∧ Cu w0 O' w' p v' ∧ Go_ O w O' w' := by
  subst hv hx
  obtain ⟨⟨q, r, b, bt, loc, h⟩, _⟩ := _root_.id k
  exact (crng_any h (k.gl hg) hw).mono (fun _ _ h2 => h2.cu k)
theorem Cu.handle (hg : Gl w0) (k : Cu w0 O w p v) (m : Mg) (hw : (Lit.int .i64 m.id).wf = true) (hv : (hdSA v m).1 = v') {xs : List Mg} (hx : (hdSA v m).2 = xs) :
    Calls Tryz.prog 26 #[.pointer (some ⟨p, 0, none⟩), .agg #[.int .i64 m.k, .int .i64 m.fr, .int .i64 m.to, .int .i64 m.id, .int .i64 m.st, .int .i64 m.a, .int .i64 m.b]] w fun e w' => ∃ a c O', e = .returned (.slice a xs.length c) ∧ AnC w' O' a c xs ∧ Cu w0 O' w' p v' ∧ Go_ O w O' w' := by
  subst hv hx
  obtain ⟨⟨q, r, b, bt, loc, h⟩, _⟩ := _root_.id k
  exact (chandle_any h (k.gl hg) m hw).mono (fun _ _ h2 => h2.cu k)
theorem Cu.state (k : Cu w0 O w p v) {id : Int} (hw : (Lit.int .i64 id).wf = true) {n : Int} (hn : stC v id = n) :
    Calls Tryz.prog 35 #[.pointer (some ⟨p, 0, none⟩), .int .i64 id] w fun e w' => e = .returned (.int .i64 n) ∧ Below w.heap.size w w' := by
  subst hn
  obtain ⟨⟨q, r, b, bt, loc, h⟩, _⟩ := _root_.id k
  exact h.k.state hw
end
end Go.Proofs.YtdnpgfdlmacfkaaGreatDoor
/-
  The law's awake, of a chief.
-/
namespace Go.Proofs.YtdnpgfdlmacfkaaGreatDoor
open Go.ChangeShapes Go.WideShapes Go.ChangeAt Go.RowKit Go.Maps Sg Bl

theorem AnC.two {w : World} {O : Pt → Nat → Prop} {a : Option Addr} {c : Nat} {m0 m1 : Mg} (h : AnC w O a c [m0, m1]) : ∃ b off, a = some ⟨b, off, none⟩ ∧ w.cell? ⟨b, off, none⟩ = some (.int .i64 m0.k) ∧ w.cell? ⟨b, off + 7, none⟩ = some (.int .i64 m1.k) := by
  rcases h.mgs with h1 | ⟨b, off, h1, h2⟩
  · cases h1
  · exact ⟨b, off, h1, h2 0 _ rfl, h2 7 _ rfl⟩
def oA : Od := ⟨7, 0, 1, 0, 1, []⟩
def mA : Mg := ⟨8, 2, 0, 7, 0, 0, 0⟩
theorem aw_e : begE (newCh 5 50 3) oA = 0 := by kernel_rfl
theorem aw_a : begA (newCh 5 50 3) oA = [⟨6, 0, 1, 7, 0, 0, 1⟩, ⟨6, 0, 2, 7, 0, 0, 1⟩] := by kernel_rfl
theorem aw_h : (hdSA (begS (newCh 5 50 3) oA) mA).2 = [⟨10, 0, 1, 7, 0, 0, 0⟩, ⟨10, 0, 2, 7, 0, 0, 0⟩] := by kernel_rfl
theorem aw_s : stC (hdSA (begS (newCh 5 50 3) oA) mA).1 7 = 4 := by kernel_rfl
set_option maxRecDepth 100000 in
set_option maxHeartbeats 1000000 in
theorem cwake_any (w : World) (hg : Gl w) : Calls Tryz.prog 10 #[] w fun e w' => e = .returned (.bool true) ∧ Below w.heap.size w w' := by
  have N := Cu.new (w0 := w) (Below.refl _ _) 5 50 3
  have A1 := aw_e
  have A2 := aw_a
  have A3 := aw_h
  have A4 := aw_s
  generalize newCh 5 50 3 = v0 at *
  obtain ⟨v1, hv1⟩ : ∃ v1, begS v0 oA = v1 := ⟨_, rfl⟩
  rw [hv1] at A3 A4
  obtain ⟨v2, hv2⟩ : ∃ v2, (hdSA v1 mA).1 = v2 := ⟨_, rfl⟩
  rw [hv2] at A4
  have HB : Hid (∀ u p O, Cu w O u p v0 → Calls Tryz.prog 13 #[.pointer (some ⟨p, 0, none⟩), .agg #[.int .i64 7, .int .i64 0, .int .i64 1, .int .i64 0, .int .i64 1, .slice none 0 0]] u fun e w' => ∃ a c O', e = .returned (.tuple #[.slice a 2 c, .int .i64 0]) ∧ AnC w' O' a c [⟨6, 0, 1, 7, 0, 0, 1⟩, ⟨6, 0, 2, 7, 0, 0, 1⟩] ∧ Cu w O' w' p v1) := fun u p O k =>
    (k.begin hg oA (sa := none) (sc := 0) (.inl rfl) (by decide) (by decide) A1 hv1 A2).mono (fun _ _ ⟨a, c, O', e1, e2, e3, _⟩ => ⟨a, c, O', e1, e2, e3⟩)
  have HH : Hid (∀ u p O a c, Cu w O u p v1 → AnC u O a c [⟨6, 0, 1, 7, 0, 0, 1⟩, ⟨6, 0, 2, 7, 0, 0, 1⟩] → Calls Tryz.prog 26 #[.pointer (some ⟨p, 0, none⟩), .agg #[.int .i64 8, .int .i64 2, .int .i64 0, .int .i64 7, .int .i64 0, .int .i64 0, .int .i64 0]] u fun e w' => ∃ a2 c2, e = .returned (.slice a2 2 c2) ∧ (∃ b off, a2 = some ⟨b, off, none⟩ ∧ w'.cell? ⟨b, off + 7, none⟩ = some (.int .i64 10)) ∧ (∃ b off, a = some ⟨b, off, none⟩ ∧ w'.cell? ⟨b, off, none⟩ = some (.int .i64 6)) ∧ Calls Tryz.prog 35 #[.pointer (some ⟨p, 0, none⟩), .int .i64 7] w' fun e w'' => e = .returned (.int .i64 4) ∧ Below w.heap.size w w'') := fun u p O a c k h => by
    refine (k.handle hg mA (by decide) hv2 A3).mono ?_
    rintro e w' ⟨a2, c2, O2, e1, e2, e3, e4⟩
    obtain ⟨b, off, g1, g2, -⟩ := (h.step e4).two
    obtain ⟨b2, off2, g3, -, g4⟩ := e2.two
    exact ⟨a2, c2, e1, ⟨b2, off2, g3, g4⟩, ⟨b, off, g1, g2⟩, (e3.state (id := 7) (by decide) A4).mono (fun _ _ ⟨z1, z2⟩ => ⟨z1, bel_on' e3.2 z2⟩)⟩
  clear A1 A2 A3 A4 hv1 hv2 hg
  go_enter Tryz.func10, Tryz.ntmps10
  go_wp2_with (first
    | (go_at_call 11; refine N.mono ?_; clear N; rintro e u1 ⟨p, O, rfl, h1, -, -⟩; have B2 := HB.out u1 p O h1; clear h1 HB)
    | (go_at_call 13; refine B2.mono ?_; clear B2; rintro e u2 ⟨a, c, O1, rfl, h1, h2⟩; have H2 := HH.out u2 p O1 a c h2 h1; clear h1 h2 HH)
    | (go_at_call 26; refine H2.mono ?_; clear H2; rintro e u3 ⟨a2, c2, rfl, ⟨b2, o2, rfl, d2⟩, ⟨b1, o1, rfl, d1⟩, h3⟩; have S2 := h3; clear h3)
    | (go_at_call 35; refine S2.mono ?_; clear S2; rintro e u4 ⟨rfl, hb⟩; have HX := hide hb; clear hb))
  go_ret
  exact ⟨rfl, HX.out⟩
end Go.Proofs.YtdnpgfdlmacfkaaGreatDoor
/-
  A chief that there isn't.
-/
namespace Go.Proofs.YtdnpgfdlmacfkaaGreatDoor
open Go.ChangeShapes Go.WideShapes Go.ChangeAt Go.RowKit Go.Maps Sg Bl

theorem cfind_nil (x : Value) (w : World) : Calls Tryz.prog 55 #[.pointer none, x] w fun e w' => e = .returned (.tuple #[.pointer none, .int .i64 1]) ∧ w = w' := by
  go_enter Tryz.func55, Tryz.ntmps55
  go_wp2
  go_ret2
  exact ⟨rfl, rfl⟩
theorem cbegin_nil (x0 x1 x2 x3 x4 x5 : Value) (w : World) : Calls Tryz.prog 13 #[.pointer none, .agg #[x0, x1, x2, x3, x4, x5]] w fun e w' => e = .returned (.tuple #[.slice none 0 0, .int .i64 1]) ∧ Below w.heap.size w w' := by
  have HB : Hid (Below w.heap.size w (w.alloc (.cells #[x0, x1, x2, x3, x4, x5] 32))) := (Below.refl _ _).alloc (Nat.le_refl _) _
  go_enter Tryz.func13, Tryz.ntmps13
  go_wp2
  go_ret2
  exact ⟨rfl, HB.out⟩
theorem ccancel_nil (x : Value) (w : World) : Calls Tryz.prog 15 #[.pointer none, x] w fun e w' => e = .returned (.tuple #[.slice none 0 0, .int .i64 1]) ∧ w = w' := by
  go_enter Tryz.func15, Tryz.ntmps15
  go_wp2_with (go_at_call 55; refine (cfind_nil _ _).mono ?_; rintro e w' ⟨rfl, rfl⟩)
  go_ret2
  exact ⟨rfl, rfl⟩
theorem caccept_nil (x : Value) (w : World) : Calls Tryz.prog 17 #[.pointer none, x] w fun e w' => e = .returned (.int .i64 1) ∧ w = w' := by
  go_enter Tryz.func17, Tryz.ntmps17
  go_wp2_with (go_at_call 55; refine (cfind_nil _ _).mono ?_; rintro e w' ⟨rfl, rfl⟩)
  go_ret
  exact ⟨rfl, rfl⟩
theorem cring_nil (x : Value) (w : World) : Calls Tryz.prog 19 #[.pointer none, x] w fun e w' => e = .returned (.slice none 0 0) ∧ w = w' := by
  go_enter Tryz.func19, Tryz.ntmps19
  go_wp2
  go_ret
  exact ⟨rfl, rfl⟩
theorem cstate_nil (x : Value) (w : World) : Calls Tryz.prog 35 #[.pointer none, x] w fun e w' => e = .returned (.int .i64 0) ∧ w = w' := by
  go_enter Tryz.func35, Tryz.ntmps35
  go_wp2
  go_ret
  exact ⟨rfl, rfl⟩
theorem ccrash_nil (x y : Value) (w : World) : Calls Tryz.prog 21 #[.pointer none, x, y] w fun e w' => (∃ r, e = .returned r) ∧ w = w' := by
  go_enter Tryz.func21, Tryz.ntmps21
  go_wp2
  refine bodyPost_ret (results_none rfl _ _ _) rfl ?_
  exact ⟨⟨_, rfl⟩, rfl⟩
theorem cstart_nil (w : World) : Calls Tryz.prog 23 #[.pointer none] w fun e w' => (∃ r, e = .returned r) ∧ Below w.heap.size w w' := by
  have HB : Hid (Below w.heap.size w (w.alloc (.cells #[.pointer none] 25))) := (Below.refl _ _).alloc (Nat.le_refl _) _
  go_enter Tryz.func23, Tryz.ntmps23
  go_wp2_with (go_at_call 30; refine (cdn_nil _).mono ?_; rintro e w' ⟨rfl, rfl⟩)
  refine bodyPost_ret (results_none rfl _ _ _) rfl ?_
  exact ⟨⟨_, rfl⟩, HB.out⟩
theorem chandle_nil (x0 x1 x2 x3 x4 x5 x6 : Value) (w : World) : Calls Tryz.prog 26 #[.pointer none, .agg #[x0, x1, x2, x3, x4, x5, x6]] w fun e w' => e = .returned (.slice none 0 0) ∧ Below w.heap.size w w' := by
  have hb0 : Below w.heap.size w (w.alloc (.cells #[x0, x1, x2, x3, x4, x5, x6] 34)) := (Below.refl _ _).alloc (Nat.le_refl _) _
  have HB := hide hb0
  clear hb0
  go_enter Tryz.func26, Tryz.ntmps26
  go_wp2
  go_ret
  exact ⟨rfl, HB.out⟩
theorem results_cct {P : Program} {fn : Func} {p q r : Tmp} {ty ty2 : TypeId} (h : fn.results = #[.cell p ty, .cell q ty2, .tmp r]) (tmps : Array Value) (w : World) (g g2 : Nat) (t t2 : TypeId) (cs cs2 : Array Value) (fr fr2 : Nat × Nat) (d d2 : TypeDesc)
    (hp : tmps.getD p undef = .pointer (some ⟨g, 0, none⟩)) (hg : w.heap[g]? = some (.cells cs t fr)) (hu : P.underlying ty = some d) (hd : (match d with | .struct _ | .array _ _ => true | _ => false) = true) (hi : (P.info? ty).map (·.size) = some cs.size)
    (hp2 : tmps.getD q undef = .pointer (some ⟨g2, 0, none⟩)) (hg2 : w.heap[g2]? = some (.cells cs2 t2 fr2)) (hu2 : P.underlying ty2 = some d2) (hd2 : (match d2 with | .struct _ | .array _ _ => true | _ => false) = true) (hi2 : (P.info? ty2).map (·.size) = some cs2.size) :
    (results fn tmps).run P w = .ok (.tuple #[.agg cs, .agg cs2, tmps.getD r undef]) w := by
  have hp' : tmps[p]?.getD undef = .pointer (some ⟨g, 0, none⟩) := by simpa using hp
  have hq' : tmps[q]?.getD undef = .pointer (some ⟨g2, 0, none⟩) := by simpa using hp2
  simp [results, h, hp', hq', asAddr, run_loadVar_row w g t ty cs fr d hg hu hd hi, run_loadVar_row w g2 t2 ty2 cs2 fr2 d2 hg2 hu2 hd2 hi2]
def zO : Array Value := #[.int .i64 0, .int .i64 0, .int .i64 0, .int .i64 0, .int .i64 0, .slice none 0 0]
def zF : Array Value := #[.slice none 0 0, .slice none 0 0, .bool false, .bool false, .bool false, .bool false, .bool false, .bool false, .bool false, .bool false, .bool false]
theorem cfacts_nil (x : Value) (w : World) : Calls Tryz.prog 34 #[.pointer none, x] w fun e w' => e = .returned (.tuple #[.agg zO, .agg zF, .bool false]) ∧ Below w.heap.size w w' := by
  have h1 := World.alloc_heap_new (w.alloc (.cells zO 32)) (.cells zF 67)
  have h0 : ((w.alloc (.cells zO 32)).alloc (.cells zF 67)).heap[w.heap.size]? = some (.cells zO 32 (0, 0)) := (Below.heap_alloc _ _ _ (by simp)).trans (World.alloc_heap_new w _)
  rw [World.size_alloc] at h1
  have HB : Hid (Below w.heap.size w ((w.alloc (.cells zO 32)).alloc (.cells zF 67))) := ((Below.refl _ _).alloc (Nat.le_refl _) _).alloc (by simp) _
  have H0 := hide h0
  have H1 := hide h1
  clear h0 h1
  go_enter Tryz.func34, Tryz.ntmps34
  go_wp2
  refine bodyPost_ret (results_cct Tryz.results34 _ _ _ _ _ _ _ _ _ _ _ _ rfl H0.out Tryz.underlying32 rfl (by kernel_rfl) rfl H1.out Tryz.underlying67 rfl (by kernel_rfl)) rfl ?_
  exact ⟨rfl, HB.out⟩
theorem cids_nil (w : World) : Calls Tryz.prog 32 #[.pointer none, .int .i64 3] w fun e w' => ∃ a c, e = .returned (.slice a 0 c) ∧ Below w.heap.size w w' := by
  refine (Ci.lids_any none [] (by simp) w 3 (by omega) (fun U _ => Ci.idsnil_any U)).mono ?_
  rintro e w' ⟨a, c, h1, _, _, h4⟩
  exact ⟨a, c, h1, h4⟩
end Go.Proofs.YtdnpgfdlmacfkaaGreatDoor
/-
  ChiefNil: the walk; a call that came in, its cells as they are.
-/
namespace Go.Proofs.YtdnpgfdlmacfkaaGreatDoor
open Go.ChangeShapes Go.WideShapes Go.ChangeAt Go.RowKit Go.Maps Sg Bl

theorem R22.many {α : Type} {cs : Array α} (h : cs.size = 17) : ∃ c0 c1 c2 c3 c4 c5 c6 c7 c8 c9 c10 c11 c12 c13 c14 c15 c16, cs = #[c0, c1, c2, c3, c4, c5, c6, c7, c8, c9, c10, c11, c12, c13, c14, c15, c16] := by
  obtain ⟨l⟩ := cs
  match l, h with
  | [c0, c1, c2, c3, c4, c5, c6, c7, c8, c9, c10, c11, c12, c13, c14, c15, c16], _ => exact ⟨c0, c1, c2, c3, c4, c5, c6, c7, c8, c9, c10, c11, c12, c13, c14, c15, c16, rfl⟩
set_option maxHeartbeats 4000000 in
theorem chiefNil_walk (c0 c1 c2 c3 c4 c5 c6 c7 c8 c9 c10 c11 c12 c13 c14 c15 c16 : Value) (w : World) (hg : Gl w) :
    Calls Tryz.prog 4 #[.agg #[c0, c1, c2, c3, c4, c5, c6, c7, c8, c9, c10, c11, c12, c13, c14, c15, c16]] w fun e w' => e = .returned (.bool true) ∧ Below w.heap.size w w' := by
  have hb0 : Below w.heap.size w (w.alloc (.cells #[c0, c1, c2, c3, c4, c5, c6, c7, c8, c9, c10, c11, c12, c13, c14, c15, c16] 36)) := (Below.refl _ _).alloc (Nat.le_refl _) _
  have hx0 := World.alloc_heap_new w (.cells #[c0, c1, c2, c3, c4, c5, c6, c7, c8, c9, c10, c11, c12, c13, c14, c15, c16] 36)
  have HC : Hid (∀ u, Below (w.alloc (.cells #[c0, c1, c2, c3, c4, c5, c6, c7, c8, c9, c10, c11, c12, c13, c14, c15, c16] 36)).heap.size (w.alloc (.cells #[c0, c1, c2, c3, c4, c5, c6, c7, c8, c9, c10, c11, c12, c13, c14, c15, c16] 36)) u → (u.cell? ⟨w.heap.size, 1, none⟩ = some c1 ∧ u.cell? ⟨w.heap.size, 4, none⟩ = some c4 ∧ u.cell? ⟨w.heap.size, 5, none⟩ = some c5 ∧ u.cell? ⟨w.heap.size, 6, none⟩ = some c6 ∧ u.cell? ⟨w.heap.size, 7, none⟩ = some c7 ∧ u.cell? ⟨w.heap.size, 8, none⟩ = some c8 ∧ u.cell? ⟨w.heap.size, 9, none⟩ = some c9 ∧ u.cell? ⟨w.heap.size, 10, none⟩ = some c10 ∧ u.cell? ⟨w.heap.size, 11, none⟩ = some c11 ∧ u.cell? ⟨w.heap.size, 12, none⟩ = some c12 ∧ u.cell? ⟨w.heap.size, 13, none⟩ = some c13 ∧ u.cell? ⟨w.heap.size, 14, none⟩ = some c14 ∧ u.cell? ⟨w.heap.size, 15, none⟩ = some c15 ∧ u.cell? ⟨w.heap.size, 16, none⟩ = some c16)) := fun u hu => by
    have hx := (hu.block _ (by simp)).trans hx0
    exact ⟨by rw [cell_of hx]; rfl, by rw [cell_of hx]; rfl, by rw [cell_of hx]; rfl, by rw [cell_of hx]; rfl, by rw [cell_of hx]; rfl, by rw [cell_of hx]; rfl, by rw [cell_of hx]; rfl, by rw [cell_of hx]; rfl, by rw [cell_of hx]; rfl, by rw [cell_of hx]; rfl, by rw [cell_of hx]; rfl, by rw [cell_of hx]; rfl, by rw [cell_of hx]; rfl, by rw [cell_of hx]; rfl⟩
  have HG : Hid (∀ u, Below (w.alloc (.cells #[c0, c1, c2, c3, c4, c5, c6, c7, c8, c9, c10, c11, c12, c13, c14, c15, c16] 36)).heap.size (w.alloc (.cells #[c0, c1, c2, c3, c4, c5, c6, c7, c8, c9, c10, c11, c12, c13, c14, c15, c16] 36)) u → Gl u ∧ Below w.heap.size w u) := fun u hu => ⟨hg.on (bel_on' hb0 hu), bel_on' hb0 hu⟩
  have B0 : Hid (Below (w.alloc (.cells #[c0, c1, c2, c3, c4, c5, c6, c7, c8, c9, c10, c11, c12, c13, c14, c15, c16] 36)).heap.size (w.alloc (.cells #[c0, c1, c2, c3, c4, c5, c6, c7, c8, c9, c10, c11, c12, c13, c14, c15, c16] 36)) (w.alloc (.cells #[c0, c1, c2, c3, c4, c5, c6, c7, c8, c9, c10, c11, c12, c13, c14, c15, c16] 36))) := Below.refl _ _
  clear hb0 hx0 hg
  go_enter Tryz.func4, Tryz.ntmps4
  go_wp2_with fail
  refine (ccrash_nil _ _ _).mono ?_
  rintro e w' ⟨⟨x, rfl⟩, rfl⟩
  go_wp2_with fail
  refine (cstart_nil _).mono ?_
  rintro e u1 ⟨⟨x1, rfl⟩, hb1⟩
  obtain ⟨i1, i4, i5, i6, i7, i8, i9, i10, i11, i12, i13, i14, i15, i16⟩ := HC.out u1 hb1
  have B1 := hide hb1
  clear hb1
  go_wp2_with (first
    | (go_at_call 13; refine (cbegin_nil _ _ _ _ _ _ _).mono ?_; rintro e u2 ⟨rfl, hb2⟩; have B2 := hide (bel_on' B1.out hb2); clear hb2 i1 i4 i5 i6 i7 i8 i9 i10 i11 i12 i13 i14 i15 i16; obtain ⟨i1, i4, i5, i6, i7, i8, i9, i10, i11, i12, i13, i14, i15, i16⟩ := HC.out u2 B2.out)
    | (go_at_call 15; refine (ccancel_nil _ _).mono ?_; rintro e u3 ⟨rfl, rfl⟩))
  refine (cfacts_nil _ _).mono ?_
  rintro e u4 ⟨rfl, hb4⟩
  have B4 := hide (bel_on' B2.out hb4)
  clear hb4 i1 i4 i5 i6 i7 i8 i9 i10 i11 i12 i13 i14 i15 i16
  obtain ⟨i1, i4, i5, i6, i7, i8, i9, i10, i11, i12, i13, i14, i15, i16⟩ := HC.out u4 B4.out
  unfold zO zF
  go_wp2_with fail
  obtain ⟨U, hU⟩ : ∃ U, U = (u4.alloc (.cells zO 32)).alloc (.cells zF 67) := ⟨_, rfl⟩
  have h4 : Below u4.heap.size u4 U := by rw [hU]; exact ((Below.refl _ _).alloc (Nat.le_refl _) _).alloc (by simp) _
  have hf : U.heap[u4.heap.size + 1]? = some (.cells zF 67 (0, 0)) := by
    have h1 := World.alloc_heap_new (u4.alloc (.cells zO 32)) (.cells zF 67)
    rw [World.size_alloc] at h1
    rw [hU]; exact h1
  unfold zO zF at hU
  rw [← hU]
  have HS : Hid (∀ u, Below U.heap.size U u → (u.cell? ⟨w.heap.size, 1, none⟩ = some c1 ∧ u.cell? ⟨w.heap.size, 10, none⟩ = some c10 ∧ u.cell? ⟨w.heap.size, 11, none⟩ = some c11 ∧ u.cell? ⟨w.heap.size, 12, none⟩ = some c12 ∧ u.cell? ⟨w.heap.size, 13, none⟩ = some c13 ∧ u.cell? ⟨w.heap.size, 14, none⟩ = some c14 ∧ u.cell? ⟨w.heap.size, 15, none⟩ = some c15 ∧ u.cell? ⟨w.heap.size, 16, none⟩ = some c16 ∧ u.cell? ⟨u4.heap.size + 1, 0, none⟩ = some (.slice none 0 0)) ∧ Gl u ∧ Below w.heap.size w u) := fun u hu => by
    have hx := bel_on' B4.out (bel_on' h4 hu)
    obtain ⟨j1, _, _, _, _, _, _, j10, j11, j12, j13, j14, j15, j16⟩ := HC.out u hx
    exact ⟨⟨j1, j10, j11, j12, j13, j14, j15, j16, by rw [cell_of ((hu.block _ (Array.getElem?_eq_some_iff.1 hf).1).trans hf)]; rfl⟩, HG.out u hx⟩
  clear i1 i4 i5 i6 i7 i8 i9 i10 i11 i12 i13 i14 i15 i16 h4 hf hU B0 B1 B2 B4 HC HG
  have HD : Hid (Below U.heap.size U U.drew) := (Below.refl U.heap.size U).drew
  obtain ⟨i1, i10, i11, i12, i13, i14, i15, i16, f0⟩ := (HS.out U (Below.refl _ _)).1
  go_region_held3 (fun w' => w'.cell? ⟨w.heap.size, 1, none⟩ = some c1 ∧ w'.cell? ⟨w.heap.size, 10, none⟩ = some c10 ∧ w'.cell? ⟨w.heap.size, 11, none⟩ = some c11 ∧ w'.cell? ⟨w.heap.size, 12, none⟩ = some c12 ∧ w'.cell? ⟨w.heap.size, 13, none⟩ = some c13 ∧ w'.cell? ⟨w.heap.size, 14, none⟩ = some c14 ∧ w'.cell? ⟨w.heap.size, 15, none⟩ = some c15 ∧ w'.cell? ⟨w.heap.size, 16, none⟩ = some c16 ∧ w'.cell? ⟨u4.heap.size + 1, 0, none⟩ = some (.slice none 0 0)) (go_keep) (first
    | (go_at_call 26; refine (chandle_nil _ _ _ _ _ _ _ _).mono ?_; rintro e u5 ⟨rfl, hb5⟩; have B5 := hide (bel_on' HD.out hb5); clear hb5 i1 i10 i11 i12 i13 i14 i15 i16 f0; obtain ⟨i1, i10, i11, i12, i13, i14, i15, i16, f0⟩ := (HS.out u5 B5.out).1)
    | (go_at_call 19; refine (cring_nil _ _).mono ?_; rintro e w' ⟨rfl, rfl⟩)
    | (go_at_call 32; refine (cids_nil _).mono ?_; rintro e u6 ⟨a6, k6, rfl, hb6⟩; have B6 := hide (bel_on' B5.out hb6); clear hb6 i1 i10 i11 i12 i13 i14 i15 i16 f0; obtain ⟨⟨i1, i10, i11, i12, i13, i14, i15, i16, f0⟩, hg6⟩ := HS.out u6 B6.out; have G6 := hide hg6; clear hg6)
    | (go_at_call 17; refine (caccept_nil _ _).mono ?_; rintro e w' ⟨rfl, rfl⟩)
    | (go_at_call 35; refine (cstate_nil _ _).mono ?_; rintro e w' ⟨rfl, rfl⟩)
    | (go_at_call 30; refine (cdn_nil _).mono ?_; rintro e w' ⟨rfl, rfl⟩)
    | (go_at_call 10; refine (cwake_any _ G6.out.1).mono ?_; rintro e u7 ⟨rfl, hb7⟩; have B7 := hide (bel_on' B6.out hb7); have E7 := hide (bel_on' G6.out.2 hb7); clear hb7 i1 i10 i11 i12 i13 i14 i15 i16 f0; obtain ⟨i1, i10, i11, i12, i13, i14, i15, i16, f0⟩ := (HS.out u7 B7.out).1))
  go_wp2
  go_ret
  exact ⟨rfl, E7.out⟩
end Go.Proofs.YtdnpgfdlmacfkaaGreatDoor
