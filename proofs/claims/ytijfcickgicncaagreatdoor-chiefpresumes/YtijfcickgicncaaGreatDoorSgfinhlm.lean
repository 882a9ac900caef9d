/-
  Own texts put together: CgI, CgT, ChA, CiK, CgO, ChC, ChD, ChF, CgS, ChG, ChI, CgP, CgZ, ZcPre.
-/
import Derived.Test.YtijfcickgicncaaGreatDoorSglcfnmn
import Derived.Test.YtijfcickgicncaaGreatDoorSgapabdi
import Derived.Test.YtijfcickgicncaaGreatDoorSgmipjpm
import Derived.Test.YtijfcickgicncaaGreatDoorSgdgoikk
import Derived.Test.YtijfcickgicncaaGreatDoorSgppalid
import Derived.Test.YtijfcickgicncaaGreatDoorSgaopmkk
import Derived.Maps.OwnIn
import Derived.Test.YtijfcickgicncaaGreatDoorSgdinpkf
import Derived.Test.YtijfcickgicncaaGreatDoorSggjejak
import Derived.Test.YtijfcickgicncaaGreatDoorSghagpla
import Derived.Test.YtijfcickgicncaaGreatDoorSggjnjid
/-
  Contracts of the chief's forget and New.
-/
namespace Go.Proofs.YtijfcickgicncaaGreatDoor
open Go.ChangeShapes Go.WideShapes Go.ChangeAt Go.RowKit Go.Shelf Go.Maps Sg Bl

attribute [local go_sem] Oper.semAt_some

/-- All bells of L are cut. -/
def cutsH (h : Int → Int) (L : List Int) : Int → Int := L.foldl cutH h
theorem cuts_at : ∀ (L : List Int) (h : Int → Int) (x : Int), cutsH h L x = if x ∈ L then 0 else h x
  | [], h, x => by simp [cutsH]
  | y :: L, h, x => by
    show cutsH (cutH h y) L x = _
    rw [cuts_at L]
    by_cases h1 : x ∈ L
    · rw [if_pos h1, if_pos (by simp [h1])]
    · rw [if_neg h1]
      by_cases h2 : x = y
      · subst h2
        rw [if_pos (by simp)]
        exact Bl.upd_same _ _ _
      · rw [if_neg (by simp [h1, h2])]
        exact Bl.upd_other _ _ h2
theorem cuts_snoc (h : Int → Int) (L : List Int) (x : Int) : cutsH h (L ++ [x]) = cutH (cutsH h L) x := by unfold cutsH; rw [List.foldl_append]; rfl
theorem cuts_all {t : Int} {h : Int → Int} (g : GoodT t h) : cutsH h (idsL h) = fun _ => 0 := by
  funext x
  rw [cuts_at]
  split
  · rfl
  · rename_i h1
    cases e : decide (h x = 0) with
    | true => exact of_decide_eq_true e
    | false => exact absurd ((mem_idsL g.at_ x).2 (of_decide_eq_false e)) h1
/-- What forget's loop has, pre being cut. -/
def FgI (B : Nat) (E : Nat → Prop) (w w1 : World) (p bt b' : Nat) (t : Int) (h : Int → Int) (m r : Int) (qv : Value) (pre : List Int) (W : World) : Prop :=
  Bt B E W bt t (cutsH h pre) 999 ∧ W.heap[p]? = some (.cells #[.int .i64 m, .int .i64 r, qv, .map (some b'), .pointer (some ⟨bt, 0, none⟩)] 82 (0, 0)) ∧ Gd.Pu.Pa.Mx ptX Tryz.prog 3 W b' 999 (fun _ => none) ∧ Boxed W w.heap.size 25 (.pointer (some ⟨p, 0, none⟩)) ∧ Rg.Kept (fun i _ => E i) w1 W
theorem FgI.kept {B : Nat} {E : Nat → Prop} {w w1 W W' : World} {p bt b' : Nat} {t : Int} {h : Int → Int} {m r : Int} {qv : Value} {pre : List Int} {F : Nat → Obj → Prop} (hE : ∀ k, E k → k < w.heap.size) (hp : p < w.heap.size) (hs : w.heap.size < w1.heap.size) (hb : b' < w1.heap.size) (k : FgI B E w w1 p bt b' t h m r qv pre W) (hk : Rg.Kept F W W') (hF : ∀ k o, F k o → w1.heap.size ≤ k) : FgI B E w w1 p bt b' t h m r qv pre W' := by
  obtain ⟨k1, k2, k3, k4, k5⟩ := k
  have far : ∀ k o, k < w1.heap.size → ¬ F k o := fun k o hl e => by have := hF k o e; omega
  exact ⟨k1.kept hk (fun k o e => far k o (by have := hE k e; omega)), hk.block _ _ k2 (far p _ (by omega)), k3.kept hk (fun o => far b' o hb), hk.block _ _ k4 (far _ _ hs), ⟨hk.os.trans k5.os, hk.tape.trans k5.tape, hk.output.trans k5.output, Nat.le_trans k5.size hk.size, fun k o ho hx => hk.block k o (k5.block k o ho hx) (far k o (Array.getElem?_eq_some_iff.1 ho).1)⟩⟩
theorem FgI.own {B : Nat} {E : Nat → Prop} {w w1 : World} {p bt b' : Nat} {t : Int} {h : Int → Int} {m r : Int} {qv : Value} (hE : ∀ k, E k → k < w.heap.size) (hp : p < w.heap.size) (hs : w.heap.size < w1.heap.size) (hb : b' < w1.heap.size) : OwnFrom w1.heap.size (FgI B E w w1 p bt b' t h m r qv) := fun _ _ _ row hs' hg hr =>
  hs'.kept hE hp hs hb (F := fun i _ => row = some i) (Rg.Kept.grown hg (fun _ _ e => e)) (fun k _ e => (hr k e).1)
set_option maxRecDepth 100000 in
set_option maxHeartbeats 1000000 in
theorem cforget_any {B : Nat} {E : Nat → Prop} {w : World} {p bt : Nat} {t : Int} {h : Int → Int} {m r : Int} {qv x3 : Value} (hb : w.heap[p]? = some (.cells #[.int .i64 m, .int .i64 r, qv, x3, .pointer (some ⟨bt, 0, none⟩)] 82 (0, 0))) (kb : Bt B E w bt t h 999) (hp : ¬ E p) :
    Calls Tryz.prog 38 #[.pointer (some ⟨p, 0, none⟩)] w fun e w' => (∃ x, e = .returned x) ∧ ∃ b', (w.heap.size ≤ b' ∧ b' < w'.heap.size) ∧ w'.heap[p]? = some (.cells #[.int .i64 m, .int .i64 r, qv, .map (some b'), .pointer (some ⟨bt, 0, none⟩)] 82 (0, 0)) ∧ Gd.Pu.Pa.Mx ptX Tryz.prog 3 w' b' 999 (fun _ => none) ∧ Bt B E w' bt t (fun _ => 0) 999 ∧ Rg.Kept (fun i _ => i = p ∨ E i) w w' := by
  refine (callsIn_wide (n := 5)).1 ?_
  have hpl : p < w.heap.size := (Array.getElem?_eq_some_iff.1 hb).1
  have hEl : ∀ k, E k → k < w.heap.size := fun k e => (kb.1 k e).2
  obtain ⟨W0, hW0⟩ : ∃ W0, W0 = w.setCell ⟨p, 3, none⟩ (.map (some (w.heap.size + 1))) := ⟨_, rfl⟩
  obtain ⟨W1, hW1⟩ : ∃ W1, W1 = W0.alloc (.cells #[.pointer (some ⟨p, 0, none⟩)] 25) := ⟨_, rfl⟩
  obtain ⟨U, hU⟩ : ∃ U, U = W1.alloc (.map #[] 0) := ⟨_, rfl⟩
  have z0 : W0.heap.size = w.heap.size := by rw [hW0]; simp
  have z1 : W1.heap.size = w.heap.size + 1 := by rw [hW1]; simp [z0]
  have zU : U.heap.size = w.heap.size + 2 := by rw [hU]; simp [z1]
  have k0 : Rg.Kept (fun i _ => i = p) w W0 := by rw [hW0]; exact Rg.Kept.setCell (a := ⟨p, 3, none⟩) _ (fun _ => rfl)
  have hb2 : Below W0.heap.size W0 U := by rw [hU, hW1]; exact ((Below.refl _ _).alloc (Nat.le_refl _) _).alloc (by simp) _
  have hp0 : W0.heap[p]? = some (.cells #[.int .i64 m, .int .i64 r, qv, .map (some (w.heap.size + 1)), .pointer (some ⟨bt, 0, none⟩)] 82 (0, 0)) := by
    rw [hW0, heap_setCell_same _ _ _ _ _ _ hb]
    rfl
  have hpU := (hb2.block p (by omega)).trans hp0
  have hbxU : Boxed U w.heap.size 25 (.pointer (some ⟨p, 0, none⟩)) := by
    show U.heap[w.heap.size]? = _
    rw [hU, hW1, ← z0]
    exact (Below.heap_alloc _ _ _ (by simp)).trans (World.alloc_heap_new W0 _)
  have kU : Rg.Kept (fun i _ => i = p ∨ E i) w U := (k0.mono (fun _ _ e => .inl e)).trans (Rg.Kept.of_below hb2)
  have kbU : Bt B E U bt t h 999 := (kb.kept k0 (fun k _ e e2 => hp (e2 ▸ e))).on hb2
  have mU : Gd.Pu.Pa.Mx ptX Tryz.prog 3 U (w.heap.size + 1) 999 (fun _ => none) := by
    have h1 := (Gd.Pu.Pa.Mx.new ptX Tryz.prog 3 W1).mono (show 0 ≤ 999 by decide)
    rw [← hU, z1] at h1
    exact h1
  have f3 : w.frozen? ⟨p, 3, none⟩ = false := frozen_of_row _ _ _ _ _ hb
  have c3 : w.cell? ⟨p, 3, none⟩ = some x3 := by rw [cell_of hb]; rfl
  have c4 : w.cell? ⟨p, 4, none⟩ = some (.pointer (some ⟨bt, 0, none⟩)) := by rw [cell_of hb]; rfl
  have hne : w.heap.size ≠ p := by omega
  have IDS := (callsIn_wide (n := 4)).2 (bids_any kbU (by decide))
  have GT := kb.2.2.1
  have HL : Hid ((idsL h).length ≤ 1000000) := by
    have : (idsL h).length ≤ 1000 := idsTo_len h 1000
    show (idsL h).length ≤ 1000000
    omega
  rw [hW1, hW0] at hU
  have HU := hide hU
  rw [hU] at IDS
  have HF := hide (And.intro kbU (And.intro hpU (And.intro mU hbxU)))
  have HK := hide kU
  clear hb kb hb2 hp0 k0 hbxU hpU kU kbU mU hU z0 z1 hW0 hW1
  have hmm := @run_makeMap Tryz.prog
  have hnf : ∀ (u : World) (b : Nat), (binOp BinOp.eql 130 (.func (.func 177) #[] #[.pointer (some ⟨b, 0, none⟩)]) .nilFunc).run Tryz.prog u = .ok (.bool false) u := fun _ _ => by kernel_rfl
  refine callsIn_of_wp_marks Tryz.func38 rfl trivial ?_ rfl
  simp only [Tryz.ntmps38, List.size_toArray, List.length_cons, List.length_nil, Nat.reduceAdd, Nat.reduceSub, Array.replicate_succ, Array.replicate_zero, List.push_toArray, List.append_toArray, List.nil_append, List.cons_append]
  gi_wp2_with fail
  refine ⟨trivial, IDS.mono ?_⟩
  rintro e w1 ⟨Bi, v0, rfl, hb1, hit, hbi, hvr⟩
  rw [← HU.out] at hb1 hbi hvr
  clear IDS
  have hs1 := hb1.size
  obtain ⟨kbU, hpU, mU, hbxU⟩ := HF.out
  have i0 : FgI B E w w1 p bt (w.heap.size + 1) t h m r qv [] w1 := ⟨kbU.on hb1, (hb1.block _ (by omega)).trans hpU, mU.on hb1, (hb1.block _ (by omega)).trans hbxU, Rg.Kept.refl _ _⟩
  have hno : NoE (fun k _ => E k) Bi v0 := ⟨fun cs f e => by have := hEl _ e; omega, fun k hk o e => by have := hvr k hk; have := hEl _ e; omega⟩
  have ES := bell_seq (E := fun k _ => E k) HL.out hit hno (fun k o h1 e => by have := hEl _ e; omega)
  have HK1 : Hid (Rg.Kept (fun i _ => i = p ∨ E i) w w1) := HK.out.trans (Rg.Kept.of_below hb1)
  have HI := hide i0
  clear hb1 hit hno hbi hvr kbU hpU mU hbxU i0 HF HK f3 c3 c4
  gi_wp2_with fail
  refine Rg.range_acts (E := fun k _ => E k) (enc := encI) (L := idsL h) (I := FgI B E w w1 p bt (w.heap.size + 1) t h m r qv) (Ix := fun _ _ _ => False)
    (Ax := fun x a' _ => a' = { tmps := #[.pointer (some ⟨p, 0, none⟩), .pointer (some ⟨w.heap.size, 0, none⟩), .int .i64 x, .pointer (some ⟨p, 0, none⟩), .map (some (w.heap.size + 1)), .pointer (some ⟨p, 0, none⟩), .pointer (some ⟨p, 3, none⟩), .pointer (some ⟨p, 0, none⟩), .pointer (some ⟨p, 0, none⟩), .pointer (some ⟨p, 4, none⟩), .pointer (some ⟨bt, 0, none⟩), .func (.func 177) #[] #[.pointer (some ⟨Bi, 0, none⟩)], .int .i64 x, undef, undef, undef, undef, undef, undef], defers := [] })
    (gf := 177) (lb := #[.pointer (some ⟨Bi, 0, none⟩)]) rfl (enters_of Tryz.func177 (by kernel_rfl) rfl) ES (fun k o h1 h2 h3 => by have := hEl _ h3; omega) rfl
    (FgI.own hEl hpl (by omega) (by omega)) (fun c' W0 W W' row hs hg hr => hs.elim) (fun x a' => ?ax) HI.out ?assign ?body ?done ?stop
  case ax =>
    intro _ W W' row hs hg hr
    exact hs
  case assign =>
    intro l pre x W K hI hK
    have HK := hK { tmps := #[.pointer (some ⟨p, 0, none⟩), .pointer (some ⟨w.heap.size, 0, none⟩), .int .i64 x, .pointer (some ⟨p, 0, none⟩), .map (some (w.heap.size + 1)), .pointer (some ⟨p, 0, none⟩), .pointer (some ⟨p, 3, none⟩), .pointer (some ⟨p, 0, none⟩), .pointer (some ⟨p, 0, none⟩), .pointer (some ⟨p, 4, none⟩), .pointer (some ⟨bt, 0, none⟩), .func (.func 177) #[] #[.pointer (some ⟨Bi, 0, none⟩)], .int .i64 x, undef, undef, undef, undef, undef, undef], defers := [] } _ (Rg.Kept.refl _ _) hI rfl
    clear hK
    unfold encI at HK ⊢
    gi_wp2
    exact HK
  case body =>
    rintro l pre x a' W hI rfl hpq
    obtain ⟨k1, k2, k3, k4, k5⟩ := hI
    have hx : 1 ≤ x ∧ x ≤ 999 := by
      obtain ⟨q, hq⟩ := hpq
      have : x ∈ idsL h := by rw [← hq]; simp
      exact GT.at_ x ((mem_idsL GT.at_ x).1 this)
    have CU := (bcut_any k1 (wf_id hx.1 hx.2)).mono (R' := fun e w' => (∃ y, e = .returned y) ∧ Rg.Kept (fun k _ => E k) W w' ∧ FgI B E w w1 p bt (w.heap.size + 1) t h m r qv (pre ++ [x]) w') (fun e w' ⟨g1, g2, g3⟩ => by
      refine ⟨⟨_, g1⟩, g3, ?_, g3.block _ _ k2 hp, k3.kept g3 (fun _ e => by have := hEl _ e; omega), g3.block _ _ k4 (fun e => by have := hEl _ e; omega), k5.trans g3⟩
      rw [cuts_snoc]
      exact bt_tight g2)
    have c1 := k4.cell
    have c4 : W.cell? ⟨p, 4, none⟩ = some (.pointer (some ⟨bt, 0, none⟩)) := by rw [cell_of k2]; rfl
    clear k1 k2 k3 k4 k5 hpq hx
    gi_wp2_with fail
    refine ⟨trivial, rfl, (CallsIn.inRound l (callsIn_wide.2 CU)).mono ?_⟩
    rintro y w3 ⟨⟨z, rfl⟩, hz1, hz2⟩
    clear CU
    gi_wp2
    exact ⟨hz1, hz2⟩
  case done =>
    rintro D W hD hI hK
    obtain ⟨k1, k2, k3, k4, k5⟩ := hI.kept hEl hpl (by omega) (by omega) (F := fun i _ => i = D) (Rg.Kept.putObj (W := W) (.deferred none) (fun _ => rfl)) (fun k _ e => by omega)
    have FIN : Hid (∃ b', (w.heap.size ≤ b' ∧ b' < (W.putObj D (.deferred none)).heap.size) ∧ (W.putObj D (.deferred none)).heap[p]? = some (.cells #[.int .i64 m, .int .i64 r, qv, .map (some b'), .pointer (some ⟨bt, 0, none⟩)] 82 (0, 0)) ∧ Gd.Pu.Pa.Mx ptX Tryz.prog 3 (W.putObj D (.deferred none)) b' 999 (fun _ => none) ∧ Bt B E (W.putObj D (.deferred none)) bt t (fun _ => 0) 999 ∧ Rg.Kept (fun i _ => i = p ∨ E i) w (W.putObj D (.deferred none))) :=
      ⟨w.heap.size + 1, ⟨by omega, k3.lt⟩, k2, k3, by rw [cuts_all GT] at k1; exact k1, HK1.out.trans (k5.mono (fun _ _ e => .inr e))⟩
    clear k1 k2 k3 k4 k5
    gi_wp2
    refine ⟨by simp, .inl ⟨_, _, rfl, run_takeDeferred hK, ?_⟩⟩
    exact ⟨_, results_none rfl _ _ _, ⟨_, rfl⟩, FIN.out⟩
  case stop => exact fun D c pre W _ _ _ h _ => h.elim
theorem bt_low {B B' : Nat} {E : Nat → Prop} {w : World} {p : Nat} {t : Int} {h : Int → Int} {n : Nat} (k : Bt B E w p t h n) (hB : B' ≤ B) : Bt B' E w p t h n := ⟨fun i e => ⟨Nat.le_trans hB (k.1 i e).1, (k.1 i e).2⟩, k.2⟩
/-- A chief that was just made. -/
def MadeC (w : World) (v : Ch) (e : Ending) (w' : World) : Prop :=
  ∃ O p q r b bt loc, e = .returned (.pointer (some ⟨p, 0, none⟩)) ∧ Up w.heap.size O w' p v q r b bt loc ∧ Below w.heap.size w w'
theorem madec_of {w w1 w2 w3 w4 : World} {orders room tries : Int} {x3 : Value} {b' : Nat} (h1 : w1 = w.alloc (.cells #[.int .i64 (roomV room), .slice none 0 0, .int .i64 0, .bool false] 139))
    (hb2 : Below w1.heap.size w1 w2) (hz2 : w1.heap.size < w2.heap.size) (h3 : w3 = w2.alloc (.cells #[.int .i64 (mostC orders), .int .i64 (roomV room), .pointer (some ⟨w.heap.size, 0, none⟩), x3, .pointer (some ⟨w1.heap.size, 0, none⟩)] 82))
    (hb' : w3.heap.size ≤ b' ∧ b' < w4.heap.size) (hp : w4.heap[w2.heap.size]? = some (.cells #[.int .i64 (mostC orders), .int .i64 (roomV room), .pointer (some ⟨w.heap.size, 0, none⟩), .map (some b'), .pointer (some ⟨w1.heap.size, 0, none⟩)] 82 (0, 0)))
    (hm : Gd.Pu.Pa.Mx ptX Tryz.prog 3 w4 b' 999 (fun _ => none)) (hbt : Bt w1.heap.size (fun k => k = w1.heap.size) w4 w1.heap.size (clampT tries) (fun _ => 0) 999) (hk : Rg.Kept (fun i _ => i = w2.heap.size ∨ i = w1.heap.size) w3 w4) :
    MadeC w (newCh orders room tries) (.returned (.pointer (some ⟨w2.heap.size, 0, none⟩))) w4 := by
  have z1 : w1.heap.size = w.heap.size + 1 := by rw [h1]; simp
  have z3 : w3.heap.size = w2.heap.size + 1 := by rw [h3]; simp
  have hb1 : Below w.heap.size w w1 := by rw [h1]; exact (Below.refl _ _).alloc (Nat.le_refl _) _
  have hb3 : Below w2.heap.size w2 w3 := by rw [h3]; exact (Below.refl _ _).alloc (Nat.le_refl _) _
  have j0 : Jr w.heap.size w1 w.heap.size (.slice none 0 0) (roomV room) [] 0 false := by
    rw [h1]
    exact Jr.new w w.heap.size (Nat.le_refl _) (roomV room) (roomV_in room).1 (roomV_in room).2
  have j4 := (j0.on (bel_on' hb2 hb3)).kept hk (fun _ e => by omega) (fun k _ e => by simp [Value.ownBlock] at e)
  have s4 := hk.size
  refine ⟨fun x k => match x with
    | .inl 0 => k = w2.heap.size
    | .inl 1 => k = w.heap.size
    | .inl 2 => k = w1.heap.size
    | .inl 3 => k = b'
    | .inl _ => False
    | .inr _ => False, w2.heap.size, w.heap.size, .slice none 0 0, b', w1.heap.size, fun _ => none, rfl, ⟨⟨fun x k e => ?_, fun x y k e1 e2 => ?_, rfl, hp, j4, rfl, (fun k e => by simp [Value.ownBlock] at e), bt_low hbt (by omega), hm, rfl, (fun id l e => by cases e), fun _ _ => rfl⟩, newCh_good _ _ _, rfl⟩, ?_⟩
  · rcases x with (_ | _ | _ | _ | x) | x
    all_goals first | exact False.elim e | (have e : k = _ := e; omega)
  · rcases x with (_ | _ | _ | _ | x) | x
    all_goals rcases y with (_ | _ | _ | _ | y) | y
    all_goals first | rfl | exact False.elim e1 | exact False.elim e2 | (have e1 : k = _ := e1; have e2 : k = _ := e2; omega)
  · refine (bel_on' hb1 (bel_on' hb2 hb3)).trans (hk.bel ?_ (fun k _ e => ?_))
    · omega
    · omega
set_option maxHeartbeats 1000000 in
theorem cnew_any (orders room tries : Int) (w : World) :
    Calls Tryz.prog 9 #[.int .i64 orders, .int .i64 room, .int .i64 tries] w (MadeC w (newCh orders room tries)) := by
  have N := new_any room w
  have FX : Hid (∀ w1 w2, w1 = w.alloc (.cells #[.int .i64 (roomV room), .slice none 0 0, .int .i64 0, .bool false] 139) → Below w1.heap.size w1 w2 → Bt w1.heap.size (fun k => k = w1.heap.size) w2 w1.heap.size (clampT tries) (fun _ => 0) 0 → ∀ x3 w3, w3 = w2.alloc (.cells #[.int .i64 (mostC orders), .int .i64 (roomV room), .pointer (some ⟨w.heap.size, 0, none⟩), x3, .pointer (some ⟨w1.heap.size, 0, none⟩)] 82) → Calls Tryz.prog 38 #[.pointer (some ⟨w2.heap.size, 0, none⟩)] w3 fun e w' => (∃ x, e = .returned x) ∧ MadeC w (newCh orders room tries) (.returned (.pointer (some ⟨w2.heap.size, 0, none⟩))) w') := fun w1 w2 h1 h2 hbt x3 w3 h3 => by
    have hz := (hbt.1 w1.heap.size rfl).2
    have hb3 : Below w2.heap.size w2 w3 := by rw [h3]; exact (Below.refl _ _).alloc (Nat.le_refl _) _
    have hp3 : w3.heap[w2.heap.size]? = some (.cells #[.int .i64 (mostC orders), .int .i64 (roomV room), .pointer (some ⟨w.heap.size, 0, none⟩), x3, .pointer (some ⟨w1.heap.size, 0, none⟩)] 82 (0, 0)) := by rw [h3]; exact World.alloc_heap_new w2 _
    refine (cforget_any hp3 (bt_tight (hbt.on hb3)) (fun e => by omega)).mono ?_
    rintro e w4 ⟨g1, b', g2, g3, g4, g5, g6⟩
    exact ⟨g1, madec_of h1 h2 hz h3 g2 g3 g4 g5 g6⟩
  have BN := fun W => bnew_any tries W
  unfold mostC roomV at FX
  unfold roomV at N
  generalize newCh orders room tries = v0 at *
  generalize clampT tries = ct at *
  go_enter Tryz.func9, Tryz.ntmps9
  go_wp2_with (first
    | (go_at_call 36; refine N.mono ?_; clear N; rintro e w1 ⟨rfl, h1⟩; have HW1 := hide h1; clear h1)
    | (go_at_call 37; refine (BN _).mono ?_; clear BN; rintro e w2 ⟨pb, rfl, rfl, hbt, hb2⟩; have FY := FX.out _ w2 HW1.out hb2 hbt; clear hbt hb2 FX)
    | (go_at_call 38; refine (FY _ _ rfl).mono ?_; clear FY; rintro e w4 ⟨⟨y, rfl⟩, hm⟩; have HX := hide hm; clear hm))
  go_ret
  exact HX.out
end Go.Proofs.YtijfcickgicncaaGreatDoor
/-
  Contract of the chief's Crash.
-/
namespace Go.Proofs.YtijfcickgicncaaGreatDoor
open Go.ChangeShapes Go.WideShapes Go.ChangeAt Go.RowKit Go.Maps Sg Bl

section
variable {B : Nat} {O : Pt → Nat → Prop} {w w' : World} {p : Nat} {v : Ch} {q : Nat} {r : Value} {b bt : Nat} {loc : Int → Option Nat} {Lq : List ByteArray}
/-- All is forgotten. -/
theorem CkV.fstep (k : CkV B O w p v q r b bt loc Lq) {b' : Nat} (hb : w.heap.size ≤ b' ∧ b' < w'.heap.size) (hp : w'.heap[p]? = some (.cells #[.int .i64 v.most, .int .i64 v.room, .pointer (some ⟨q, 0, none⟩), .map (some b'), .pointer (some ⟨bt, 0, none⟩)] 82 (0, 0)))
    (hm : Gd.Pu.Pa.Mx ptX Tryz.prog 3 w' b' 999 (fun _ => none)) (ht : Bt B (O .bl) w' bt v.t (fun _ => 0) 999) (hk : Rg.Kept (fun i _ => i = p ∨ O .bl i) w w') :
    CkV B (grO O .mp w w') w' p ⟨v.most, v.room, v.t, v.T, v.su, v.down, noL, fun _ => 0⟩ q r b' bt (fun _ => none) Lq := by
  have hs := hk.size
  have far : ∀ {x : Pt}, x ≠ .nd → x ≠ .bl → ∀ (i : Nat) (_ : Obj), O x i → ¬ (i = p ∨ O .bl i) := fun h1 h2 i _ e e2 => e2.elim (fun e2 => h1 (k.dj _ _ _ e (e2 ▸ k.op))) (fun e2 => h2 (k.dj _ _ _ e e2))
  exact ⟨gr_bd k.bd k.low hs, gr_dj k.bd k.dj, .inl k.op, hp, k.jr.kept hk (fun o => far (by intro e; cases e) (by intro e; cases e) q o k.oq) (fun i o e => far (by intro e; cases e) (by intro e; cases e) i o (k.or i e)), .inl k.oq, fun i e => .inl (k.or i e),
    bt_wide ht (fun i e => .inl e) (fun i e => gr_bd k.bd k.low hs .bl i e), hm, .inr ⟨rfl, hb.1, hb.2⟩, (fun id l e => by cases e), fun _ _ => rfl⟩
end
/-- So many entries a crash leaves. -/
def kpC (v : Ch) (stay : Int) : Nat := v.su + min stay.toNat (v.T.length - v.su)
/-- Behind a crash. -/
def crC (v : Ch) (stay : Int) : Ch := ⟨v.most, v.room, v.t, v.T.take (kpC v stay), v.su, true, noL, fun _ => 0⟩
theorem crC_good {v : Ch} (g : GoodCh v) (stay : Int) : GoodCh (crC v stay) := by
  have h1 := g.len
  have h2 := g.su
  have hk : kpC v stay ≤ v.T.length := by unfold kpC; omega
  have hl : (v.T.take (kpC v stay)).length = kpC v stay := by rw [List.length_take]; omega
  refine ⟨g.m1, g.m2, g.r1, g.r2, ?_, ?_, ?_, fun _ => ⟨rfl, rfl⟩, (fun e => by cases e), noL_good, fun id e => absurd rfl e⟩
  · show ((v.T.take (kpC v stay)).length : Int) ≤ v.room
    rw [hl]
    omega
  · show v.su ≤ (v.T.take (kpC v stay)).length
    rw [hl]
    unfold kpC
    omega
  · have h3 := g.ok
    rw [← List.take_append_drop (kpC v stay) v.T] at h3
    exact (fits_app.1 h3).1
set_option maxHeartbeats 1000000 in
theorem ccrash_up {B : Nat} {O : Pt → Nat → Prop} {w : World} {p : Nat} {v : Ch} {q : Nat} {r : Value} {b bt : Nat} {loc : Int → Option Nat} (h : Up B O w p v q r b bt loc) (stay torn : Int) :
    Calls Tryz.prog 19 #[.pointer (some ⟨p, 0, none⟩), .int .i64 stay, .int .i64 torn] w fun e w' => (∃ x, e = .returned x) ∧ ∃ O' r' b', CkV B O' w' p (crC v stay) q r' b' bt (fun _ => none) (crashL (v.T.map lnC) v.su stay torn) ∧ (∀ i, Eo O' i → growE (Eo O) w w' i) ∧ Rg.Kept (fun i _ => Eo O i) w w' := by
  have j := h.k.jr
  rw [h.d] at j
  have CR := crash_up j (by rw [List.length_map]; exact h.g.su) stay torn
  obtain ⟨-, -, c2, -, -⟩ := h.k.cell3
  have FG : Hid (∀ w1 r', Jr B w1 q r' v.room (crashL (v.T.map lnC) v.su stay torn) v.su true → Off q r r' w w1 → Calls Tryz.prog 38 #[.pointer (some ⟨p, 0, none⟩)] w1 fun e w' => (∃ x, e = .returned x) ∧ ∃ O' r' b', CkV B O' w' p (crC v stay) q r' b' bt (fun _ => none) (crashL (v.T.map lnC) v.su stay torn) ∧ (∀ i, Eo O' i → growE (Eo O) w w' i) ∧ Rg.Kept (fun i _ => Eo O i) w w') := fun w1 r' j1 ho => by
    obtain ⟨k1, g1⟩ := h.k.jstep (T' := v.T.take (kpC v stay)) (su' := v.su) (d' := true) j1 ho
    refine (cforget_any k1.blk k1.bl (fun e => by have := k1.dj _ _ _ e k1.op; cases this)).mono ?_
    rintro e w2 ⟨e1, b', hb', hp, hm, ht, hk⟩
    have k2 := k1.fstep hb' hp hm ht hk
    have s1 := g1.size
    have s2 := hk.size
    refine ⟨e1, _, _, _, k2, fun i e => ?_, (g1.mono (fun i _ e => ⟨_, e⟩)).trans (hk.mono (fun i _ e => ?_))⟩
    · rcases gr_eo e with e | e
      · exact (gr_eo e).imp id (fun e => ⟨e.1, by omega⟩)
      · exact .inr ⟨by omega, e.2⟩
    · rcases e with rfl | e | ⟨e, -⟩
      · exact ⟨_, h.k.op⟩
      · exact ⟨_, e⟩
      · cases e
  clear j h
  go_enter Tryz.func19, Tryz.ntmps19
  go_wp2_with (first
    | (go_at_call 72; refine CR.mono ?_; clear CR; rintro e w1 ⟨⟨x, rfl⟩, r', h1, h2⟩; have F2 := FG.out w1 r' h1 h2; clear h1 h2 FG)
    | (go_at_call 38; refine F2.mono ?_; clear F2; rintro e w2 ⟨⟨x2, rfl⟩, h1⟩; have HX := hide h1; clear h1))
  go_end0
  exact ⟨⟨_, rfl⟩, HX.out⟩
end Go.Proofs.YtijfcickgicncaaGreatDoor
/-
  A chief that is down: what its journal's lines say.
-/
namespace Go.Proofs.YtijfcickgicncaaGreatDoor
open Go.RowKit Sg Bl

theorem lines_ok {v : Ch} (g : GoodCh v) : ∀ x ∈ v.T.map lnC, Ok x := fun x h => by
  obtain ⟨e, he, rfl⟩ := List.mem_map.1 h
  exact ok_line (fits_ok g.ok e he).may
theorem kp_eq (v : Ch) (stay : Int) : keptN (v.T.map lnC) v.su stay = kpC v stay := by
  unfold keptN kpC
  rw [List.length_map]
theorem crC_jl {v : Ch} (g : GoodCh v) (hz : ∀ x ∈ v.T.map lnC, 1 ≤ x.size) (stay torn : Int) : JL (crashL (v.T.map lnC) v.su stay torn) (crC v stay) := by
  have h2 := g.su
  have hk : kpC v stay ≤ v.T.length := by unfold kpC; omega
  have hl : (v.T.take (kpC v stay)).length = kpC v stay := by rw [List.length_take]; omega
  obtain ⟨h3, h4⟩ := whole_crash (lines_ok g) (by rw [List.length_map]; exact h2) hz stay torn
  rw [kp_eq] at h3 h4
  refine ⟨?_, (fun e => by cases e), fun _ => ?_⟩
  · show (crashL (v.T.map lnC) v.su stay torn).take (v.T.take (kpC v stay)).length = (v.T.take (kpC v stay)).map lnC
    rw [hl, h4, List.map_take]
  · show (wholeD fun s => Classical.propDecidable (Ok s)) (crashL (v.T.map lnC) v.su stay torn) = (v.T.take (kpC v stay)).length
    rw [hl, h3]
end Go.Proofs.YtijfcickgicncaaGreatDoor
/-
  Contract of the chief's Ids: an iterator over the orders that it leads, rising.
-/
namespace Go.Proofs.YtijfcickgicncaaGreatDoor.Ci
open Go.ChangeShapes Go.WideShapes Go.ChangeAt Go.RowKit Go.Shelf Go.Maps Go.Sort Sg Bl

theorem keyscall (mb : Option Nat) (W : World) : CallsIn Fence.wide 5 Tryz.prog 144 #[.map mb] W fun e w' => e = .returned (.func (.func 176) #[] #[.pointer (some ⟨W.heap.size, 0, none⟩)]) ∧ w' = W.alloc (.cells #[.map mb] 80) :=
  AnyZI.keys_in Tryz.keysB Fence.wide 5 trivial rfl mb W
/-- What slices.Sorted tells of them. -/
theorem sortedcall {R : Value → Option (DataW Unit × List MemPlace)} {b n : Nat} {D : DataW Unit} {w : World} (hown : w.ownsMap Tryz.prog 3 R b n D) (hn : n ≤ 1000000) :
    CallsIn Fence.wide 5 Tryz.prog 143 #[.func (.func 176) #[] #[.pointer (some ⟨w.heap.size, 0, none⟩)]] (w.alloc (.cells #[.map (some b)] 80)) fun e w' => ∃ (v : Value) (ss : List Int), e = .returned v ∧ ss.Perm (intKeys D) ∧
      w'.ownsRow (w.alloc (.cells #[.map (some b)] 80)).heap.size 3 1 v ss.length ((ss.mergeSort (fun x y => decide (x ≤ y))).map encZ) ∧ (v = .slice none 0 0 ↔ ss = []) ∧ Below (w.alloc (.cells #[.map (some b)] 80)).heap.size (w.alloc (.cells #[.map (some b)] 80)) w' := by
  have hsz := hown.size_le
  have hseq : SeqGives Fence.wide 2 Tryz.prog 176 #[.pointer (some ⟨w.heap.size, 0, none⟩)] encZ (fun ss => ss.Perm (intKeys D)) (Maps.size D) (w.alloc (.cells #[.map (some b)] 80)) :=
    AnyZI.keys_gives (ρ := Tryz.keysB_ren) { Tryz.keysB with } Fence.wide _ trivial rfl (by omega) w.heap.size b n D _ (by simp) (by simp) (hown.alloc _)
  exact AnyZI.sorted_in Tryz.sortedA Fence.wide 5 trivial trivial trivial trivial rfl (by omega) (sortsA _) (enters_of Tryz.func175 (by kernel_rfl) rfl) 176 #[.pointer (some ⟨w.heap.size, 0, none⟩)] trivial (enters_of Tryz.func176 (by kernel_rfl) rfl) _ _ (by unfold maxLen; omega) (by omega) _ hseq
theorem ids9_rise : ids9.Pairwise (· < ·) := by
  unfold ids9
  rw [List.pairwise_map]
  exact List.pairwise_lt_range.imp (fun h => by omega)
theorem idsC_rise (L : Int → Option Lk) : (idsC L).Pairwise (· < ·) := ids9_rise.filter _
theorem keys_ids {R : Value → Option (DataW Unit × List MemPlace)} {b n : Nat} {D : DataW Unit} {w : World} {L : Int → Option Lk} (gm : GoodM L) (hown : w.ownsMap Tryz.prog 3 R b n D) (hD : ∀ x : Int, Maps.has D (.int .i64 x) = (L x).isSome) {ss : List Int} (hp : ss.Perm (intKeys D)) :
    ss.mergeSort (fun x y => decide (x ≤ y)) = idsC L ∧ ss.length = (idsC L).length := by
  have hC : CollectedI D (fun _ => false) (idsC L) := ⟨idsC_nodup L, fun x => by rw [idsC_mem gm, hD]; simp⟩
  have hq : ss.Perm (idsC L) := hp.trans (hC.perm hown lawI Tryz.underlying3 (fun _ => rfl)).symm
  refine ⟨?_, hq.length_eq⟩
  refine (mergeSort_of_perm_i hq).trans (List.mergeSort_of_pairwise ?_)
  exact (idsC_rise L).imp (fun h => by simp; omega)
set_option maxHeartbeats 1000000 in
theorem cids_any {B : Nat} {O : Pt → Nat → Prop} {w : World} {p : Nat} {v : Ch} {q : Nat} {r : Value} {b bt : Nat} {loc : Int → Option Nat} {Lq : List ByteArray} (k : CkV B O w p v q r b bt loc Lq) (gm : GoodM v.L) :
    Calls Tryz.prog 99 #[.pointer (some ⟨p, 0, none⟩)] w fun e w' => ∃ Bi, e = .returned (.func (.func 173) #[] #[.pointer (some ⟨Bi, 0, none⟩)]) ∧ Below w.heap.size w w' ∧ EachAt w.heap.size w'.heap.size w' Bi (idsC v.L) := by
  obtain ⟨-, -, -, c3, -⟩ := k.cell3
  obtain ⟨D, hown, hfit⟩ := k.mp
  have hLD : ∀ x : Int, Maps.has D (.int .i64 x) = (v.L x).isSome := fun x => by
    rw [(hfit.2 x).2]
    rcases k.at_ x with ⟨h1, h2⟩ | ⟨l, a, h1, h2, -⟩ <;> simp only [h1, h2] <;> rfl
  have cS := sortedcall hown (show 999 ≤ 1000000 by decide)
  have KI := fun ss => keys_ids (ss := ss) gm hown hLD
  clear k hown hfit hLD
  refine (callsIn_wide (n := 6)).1 ?_
  have hfK : Fence.wide.fn 144 := trivial
  have hfS : Fence.wide.fn 143 := trivial
  have hfE : Fence.wide.fn 142 := trivial
  have cE : ∀ (a : Option Addr) (l c : Nat) (W : World), CallsIn Fence.wide 5 Tryz.prog 142 #[.slice a l c] W _ := fun a l c W => callsIn_wide.2 (each_any a l c W)
  refine callsIn_of_wp Tryz.func99 rfl trivial ?_ rfl
  simp only [Tryz.ntmps99, List.size_toArray, List.length_cons, List.length_nil, Nat.reduceAdd, Nat.reduceSub, Array.replicate_succ, Array.replicate_zero, List.push_toArray, List.append_toArray, List.nil_append, List.cons_append]
  gi_wp2_with (first
    | (gi_at_call 144; refine (keyscall _ _).mono ?_; rintro e w' ⟨rfl, rfl⟩)
    | (gi_at_call 143; refine cS.mono ?_; rintro e w1 ⟨sv, ss, rfl, hp, hrow, -, hb⟩; obtain ⟨e1, e2⟩ := KI ss hp; rw [e1, e2] at hrow; obtain ⟨a1, n1, rfl, -⟩ := row_slice hrow; clear cS KI)
    | (gi_at_call 142; refine (cE _ _ _ _).mono ?_; rintro e w2 ⟨rfl, rfl⟩))
  go_ret
  have hsz : w.heap.size ≤ w1.heap.size := by have := hb.size; simp at this; omega
  have hr2 := hrow.alloc (.cells #[.slice a1 (idsC v.L).length n1] 60)
  refine ⟨_, rfl, ((Below.refl _ w).alloc (Nat.le_refl _) _).trans ((hb.mono (by simp)).alloc hsz _), _, ⟨hsz, by simp⟩, World.alloc_heap_new _ _, own_low hr2 (by simp), fun k e => (hr2.lt k e).2⟩
end Go.Proofs.YtijfcickgicncaaGreatDoor.Ci
/-
  A chief that is up, above a world w0, with answers named; the law's awake.
-/
namespace Go.Proofs.YtijfcickgicncaaGreatDoor
open Go.ChangeShapes Go.WideShapes Go.ChangeAt Go.RowKit Go.Maps Sg Bl

theorem jr_low {B B' : Nat} {w : World} {p : Nat} {v : Value} {room : Int} {L : List ByteArray} {sure : Nat} {down : Bool} (h : Jr B w p v room L sure down) (hB : B' ≤ B) : Jr B' w p v room L sure down := ⟨h.1, Nat.le_trans hB h.2.1, own_low h.2.2.1 hB, h.2.2.2⟩
/-- The chief at p, above w0; its blocks are O's. -/
def Cu (w0 : World) (O : Pt → Nat → Prop) (w : World) (p : Nat) (v : Ch) : Prop := (∃ q r b bt loc, Up w0.heap.size O w p v q r b bt loc) ∧ Below w0.heap.size w0 w
/-- An answer, beside the chief. -/
def AnC (w : World) (O : Pt → Nat → Prop) (a : Option Addr) (c : Nat) (xs : List Mg) : Prop := (∃ B0, w.ownsRow B0 34 7 (.slice a xs.length c) xs.length (mgCells xs)) ∧ ∀ ad, a = some ad → ¬ Eo O ad.block
/-- The block k has the object o; it is none of the chief's. -/
def Abc (w : World) (O : Pt → Nat → Prop) (k : Nat) (o : Obj) : Prop := w.heap[k]? = some o ∧ ¬ Eo O k
/-- What a step leaves of the rest. -/
def Go_ (O : Pt → Nat → Prop) (w : World) (O' : Pt → Nat → Prop) (w' : World) : Prop := (∀ i, Eo O' i → growE (Eo O) w w' i) ∧ Rg.Kept (fun i _ => Eo O i) w w'
section
variable {w0 w w' : World} {O O' : Pt → Nat → Prop} {p : Nat} {v v' : Ch}
theorem Go_.of_below (hb : Below w.heap.size w w') : Go_ O w O w' := ⟨fun _ e => .inl e, Rg.Kept.of_below hb⟩
theorem Cu.on (k : Cu w0 O w p v) (hb : Below w.heap.size w w') : Cu w0 O w' p v := by
  obtain ⟨⟨q, r, b, bt, loc, h⟩, h2⟩ := k
  exact ⟨⟨q, r, b, bt, loc, h.on hb⟩, bel_on' h2 hb⟩
theorem Cu.good (k : Cu w0 O w p v) : GoodCh v := by
  obtain ⟨⟨q, r, b, bt, loc, h⟩, _⟩ := k
  exact h.g
theorem Cu.lt (k : Cu w0 O w p v) {i : Nat} (e : Eo O i) : w0.heap.size ≤ i ∧ i < w.heap.size := by
  obtain ⟨⟨q, r, b, bt, loc, h⟩, _⟩ := k
  obtain ⟨y, e⟩ := e
  exact h.k.bd y i e
theorem Cu.gl (hg : Gl w0) (k : Cu w0 O w p v) : ∀ u, Rg.Kept (fun i _ => Eo O i) w u → Gl u := fun _ h => hg.on (k.2.trans (h.bel (by obtain ⟨⟨q, r, b, bt, loc, h1⟩, _⟩ := k; exact h1.k.low) (fun i _ e => (k.lt e).1)))
theorem Abc.step {k : Nat} {o : Obj} (h : Abc w O k o) (g : Go_ O w O' w') : Abc w' O' k o :=
  ⟨g.2.block _ _ h.1 h.2, fun e => (g.1 k e).elim h.2 (fun e => by have := (Array.getElem?_eq_some_iff.1 h.1).1; omega)⟩
theorem Abc.on {k : Nat} {o : Obj} (h : Abc w O k o) (hb : Below w.heap.size w w') : Abc w' O k o := h.step (Go_.of_below hb)
theorem AnC.step {a : Option Addr} {c : Nat} {xs : List Mg} (h : AnC w O a c xs) (g : Go_ O w O' w') : AnC w' O' a c xs := by
  obtain ⟨⟨B0, h1⟩, h2⟩ := h
  refine ⟨⟨B0, own_keptR h1 g.2 (fun k _ e => by obtain ⟨x, e3, rfl⟩ := own_some e; exact h2 x e3)⟩, fun ad e e2 => ?_⟩
  rcases g.1 _ e2 with e3 | e3
  · exact h2 ad e e3
  · have := (h1.lt ad.block (by rw [e]; rfl)).2
    omega
theorem AnC.on {a : Option Addr} {c : Nat} {xs : List Mg} (h : AnC w O a c xs) (hb : Below w.heap.size w w') : AnC w' O a c xs := h.step (Go_.of_below hb)
theorem AnC.mgs {a : Option Addr} {c : Nat} {xs : List Mg} (h : AnC w O a c xs) : Mgs w a xs := by
  obtain ⟨⟨B0, h1⟩, _⟩ := h
  exact row_mgs h1
/-- Out of a step's word. -/
theorem SendR.cu {q b bt : Nat} {loc : Int → Option Nat} (k : Cu w0 O w p v) {v2 : Ch} {xs : List Mg} {e : Ending} (h : SendR w0.heap.size O w p v2 q b bt loc xs e w') : ∃ a c O', e = .returned (.slice a xs.length c) ∧ AnC w' O' a c xs ∧ Cu w0 O' w' p v2 ∧ Go_ O w O' w' := by
  obtain ⟨ra, rc, O1, r1, loc1, h1, h2, h3, h4, h5, h6, h7⟩ := h
  exact ⟨ra, rc, O1, h1, ⟨⟨_, h2⟩, h3⟩, ⟨⟨q, r1, b, bt, loc1, h4⟩, k.2.trans (h6.bel (by obtain ⟨⟨q, r, b, bt, loc, h1⟩, _⟩ := k; exact h1.k.low) (fun i _ e => (k.lt e).1))⟩, h5, h6⟩
theorem UStp.cu {q b bt : Nat} {loc : Int → Option Nat} (k : Cu w0 O w p v) {v2 : Ch} (h : UStp w0.heap.size O w p v2 q b bt loc w') : ∃ O', Cu w0 O' w' p v2 ∧ Go_ O w O' w' := by
  obtain ⟨O1, r1, loc1, h4, h5, h6, h7⟩ := h
  exact ⟨O1, ⟨⟨q, r1, b, bt, loc1, h4⟩, k.2.trans (h6.bel (by obtain ⟨⟨q, r, b, bt, loc, h1⟩, _⟩ := k; exact h1.k.low) (fun i _ e => (k.lt e).1))⟩, h5, h6⟩
theorem Cu.new (hb : Below w0.heap.size w0 w) (orders room tries : Int) :
    Calls Tryz.prog 9 #[.int .i64 orders, .int .i64 room, .int .i64 tries] w fun e w' => ∃ p O, e = .returned (.pointer (some ⟨p, 0, none⟩)) ∧ Cu w0 O w' p (newCh orders room tries) ∧ Below w.heap.size w w' ∧ ∀ i, Eo O i → w.heap.size ≤ i := by
  refine (cnew_any orders room tries w).mono ?_
  rintro e w' ⟨O, p, q, r, b, bt, loc, h1, h2, h3⟩
  have hB := hb.size
  have k2 : CkV w0.heap.size O w' p (newCh orders room tries) q r b bt loc ((newCh orders room tries).T.map lnC) :=
    ⟨fun x i e => ⟨Nat.le_trans hB (h2.k.bd x i e).1, (h2.k.bd x i e).2⟩, h2.k.dj, h2.k.op, h2.k.blk, jr_low h2.k.jr hB, h2.k.oq, h2.k.or, bt_low h2.k.bl hB, h2.k.mp, h2.k.ob, (fun id l e => by cases e), h2.k.no⟩
  exact ⟨p, O, h1, ⟨⟨q, r, b, bt, loc, k2, h2.g, h2.d⟩, bel_on' hb h3⟩, h3, fun i ⟨y, e⟩ => (h2.k.bd y i e).1⟩
theorem Cu.begin (hg : Gl w0) (k : Cu w0 O w p v) (o : Od) {sa : Option Addr} {sc : Nat} (hs : Sts w sa o.steps) (hsl : o.steps.length ≤ 9223372036854775807) (hw : (Lit.int .i64 o.id).wf = true) {n : Int} (hn : begE v o = n) (hv : begS v o = v') {xs : List Mg} (hx : begA v o = xs) :
    Calls Tryz.prog 11 #[.pointer (some ⟨p, 0, none⟩), .agg #[.int .i64 o.id, .int .i64 o.item, .int .i64 o.qty, .int .i64 o.client, .int .i64 o.price, .slice sa o.steps.length sc]] w fun e w' => ∃ a c O', e = .returned (.tuple #[.slice a xs.length c, .int .i64 n]) ∧ AnC w' O' a c xs ∧ Cu w0 O' w' p v' ∧ Go_ O w O' w' := by
  subst hn hv hx
  obtain ⟨⟨q, r, b, bt, loc, h⟩, _⟩ := id k
  refine (cbeg_any h (k.gl hg) o hs hsl hw).mono ?_
  rintro e w' ⟨x, h1, h2⟩
  obtain ⟨a, c, O', h3, h4, h5, h6⟩ := h2.cu k
  cases h3
  exact ⟨a, c, O', h1, h4, h5, h6⟩
theorem Cu.ring (hg : Gl w0) (k : Cu w0 O w p v) {id : Int} (hw : (Lit.int .i64 id).wf = true) (hv : rngS v id = v') {xs : List Mg} (hx : rngA v id = xs) :
    Calls Tryz.prog 17 #[.pointer (some ⟨p, 0, none⟩), .int .i64 id] w fun e w' => ∃ a c O', e = .returned (.slice a xs.length c) ∧ AnC w' O' a c xs ∧ Cu w0 O' w' p v' ∧ Go_ O w O' w' := by
  subst hv hx
  obtain ⟨⟨q, r, b, bt, loc, h⟩, _⟩ := _root_.id k
  exact (crng_any h (k.gl hg) hw).mono (fun _ _ h2 => h2.cu k)
theorem Cu.handle (hg : Gl w0) (k : Cu w0 O w p v) (m : Mg) (hw : (Lit.int .i64 m.id).wf = true) (hv : (hdSA v m).1 = v') {xs : List Mg} (hx : (hdSA v m).2 = xs) :
    Calls Tryz.prog 24 #[.pointer (some ⟨p, 0, none⟩), .agg #[.int .i64 m.k, .int .i64 m.fr, .int .i64 m.to, .int .i64 m.id, .int .i64 m.st, .int .i64 m.a, .int .i64 m.b]] w fun e w' => ∃ a c O', e = .returned (.slice a xs.length c) ∧ AnC w' O' a c xs ∧ Cu w0 O' w' p v' ∧ Go_ O w O' w' := by
  subst hv hx
  obtain ⟨⟨q, r, b, bt, loc, h⟩, _⟩ := _root_.id k
  exact (chandle_any h (k.gl hg) m hw).mono (fun _ _ h2 => h2.cu k)
theorem Cu.state (k : Cu w0 O w p v) {id : Int} (hw : (Lit.int .i64 id).wf = true) {n : Int} (hn : stC v id = n) :
    Calls Tryz.prog 35 #[.pointer (some ⟨p, 0, none⟩), .int .i64 id] w fun e w' => e = .returned (.int .i64 n) ∧ Below w.heap.size w w' := by
  subst hn
  obtain ⟨⟨q, r, b, bt, loc, h⟩, _⟩ := _root_.id k
  exact h.k.state hw
end
end Go.Proofs.YtijfcickgicncaaGreatDoor
/-
  A chief's blocks: no more than are cells or maps; an iterator over ids that tells while a chief's orders are turned.
-/
namespace Go.Proofs.YtijfcickgicncaaGreatDoor
open Go.ChangeShapes Go.WideShapes Go.ChangeAt Go.RowKit Go.Shelf Go.Maps Sg Bl

attribute [local go_sem] Oper.semAt_some

/-- At i there lie cells, or a map. -/
def PlainAt (w : World) (i : Nat) : Prop := (∃ cs t f, w.heap[i]? = some (.cells cs t f)) ∨ ∃ es c, w.heap[i]? = some (.map es c)
theorem PlainAt.kept {F : Nat → Obj → Prop} {w w' : World} {i : Nat} (h : PlainAt w i) (hk : Rg.Kept F w w') (hF : ∀ o, ¬ F i o) : PlainAt w' i := by
  rcases h with ⟨cs, t, f, h⟩ | ⟨es, c, h⟩
  · exact .inl ⟨cs, t, f, hk.block _ _ h (hF _)⟩
  · exact .inr ⟨es, c, hk.block _ _ h (hF _)⟩
theorem kept_put {F : Nat → Obj → Prop} {W : World} {l : Nat} {o : Obj} (o' : Obj) (ho : W.heap[l]? = some o) (hF : F l o) : Rg.Kept F W (W.putObj l o') :=
  ⟨rfl, rfl, rfl, by simp, fun k o2 hk hx => (World.putObj_heap_other (fun e => hx (by subst e; rw [ho] at hk; cases hk; exact hF))).trans hk⟩
theorem row_plain {w : World} {B : Nat} {e : TypeId} {s : Nat} {v : Value} {n : Nat} {xs : List Value} (h : w.ownsRow B e s v n xs) : ∀ i, v.ownBlock = some i → PlainAt w i := fun i hi => by
  rcases h.2 with ⟨rfl, _⟩ | ⟨g, cap, cur, rfl, _, hc, _⟩
  · simp [Value.ownBlock] at hi
  · simp [Value.ownBlock] at hi
    subst hi
    exact .inl ⟨_, _, _, hc⟩
theorem row_plain2 {w : World} {B : Nat} {e : TypeId} {s : Nat} {a : Option Addr} {n c : Nat} {xs : List Value} (h : w.ownsRow B e s (.slice a n c) n xs) : ∀ x, a = some x → PlainAt w x.block := fun x hx => by
  rcases h.2 with ⟨e, _⟩ | ⟨g, cap, cur, e, _, hc, _⟩
  · cases e; cases hx
  · cases e; cases hx; exact .inl ⟨_, _, _, hc⟩
section
variable {B : Nat} {O : Pt → Nat → Prop} {w w' : World} {p : Nat} {v : Ch} {q : Nat} {r : Value} {b bt : Nat} {loc : Int → Option Nat} {Lq : List ByteArray}
/-- No more than the blocks that are cells or maps. -/
theorem CkV.exact (k : CkV B O w p v q r b bt loc Lq) : CkV B (fun x i => O x i ∧ PlainAt w i) w p v q r b bt loc Lq := by
  refine ⟨fun x i e => k.bd x i e.1, fun x y i e1 e2 => k.dj x y i e1.1 e2.1, ⟨k.op, .inl ⟨_, _, _, k.blk⟩⟩, k.blk, k.jr, ⟨k.oq, .inl ⟨_, _, _, k.jr.1⟩⟩, fun i e => ⟨k.or i e, row_plain k.jr.2.2.1 i e⟩, ?_, k.mp, ⟨k.ob, ?_⟩, fun id l e => ?_, k.no⟩
  · obtain ⟨h1, h2, h3, mv, h4, h5⟩ := k.bl
    refine ⟨fun i e => h1 i e.1, ⟨h2, .inl ⟨_, _, _, h4⟩⟩, h3, mv, h4, ?_⟩
    rcases h5 with h5 | ⟨b2, e1, e2, D, e3, e4⟩
    · exact .inl h5
    · refine .inr ⟨b2, e1, ⟨e2, ?_⟩, D, e3, e4⟩
      obtain ⟨es, c, hh, _⟩ := e3
      exact .inr ⟨es, c, hh⟩
  · obtain ⟨D, ⟨es, c, hh, _⟩, _⟩ := k.mp
    exact .inr ⟨es, c, hh⟩
  · obtain ⟨a, h1, sa, sc, da, dc, ua, uc, tp, h2⟩ := k.ld id l e
    refine ⟨a, h1, sa, sc, da, dc, ua, uc, tp, ⟨h2.blk, h2.low, h2.sr, h2.dr, h2.ur, h2.ne, h2.tl, ⟨h2.ia, .inl ⟨_, _, _, h2.blk⟩⟩, fun x e => ⟨h2.is x e, row_plain2 h2.sr x e⟩, fun x e => ⟨h2.id x e, row_plain2 h2.dr x e⟩, fun x e => ⟨h2.iu x e, row_plain2 h2.ur x e⟩, fun t e => ⟨h2.it t e, ?_⟩⟩⟩
    rcases h2.tl with ⟨e2, _⟩ | ⟨t2, y, e2, _, e3⟩
    · rw [e2] at e; cases e
    · rw [e2] at e
      cases e
      exact .inl ⟨_, _, _, e3.1.1⟩
end
namespace Rl
open Rp
theorem Keep.bel {B n₀ n₁ : Nat} {W W' : World} (h : Keep B n₀ n₁ W W') : Below B W W' := h.1
theorem each_keep {B n₀ n₁ Bi : Nat} {W W' : World} {L : List Int} (h : Ci.EachAt n₀ n₁ W Bi L) (hk : Keep B n₀ n₁ W W') : Ci.EachAt n₀ n₁ W' Bi L := by
  obtain ⟨v, h1, h2, h3, h4⟩ := h
  refine ⟨v, h1, (hk.2 Bi h1.1 h1.2).trans h2, ⟨h3.1, ?_⟩, h4⟩
  rcases h3.2 with h5 | ⟨g, cap, cur, rfl, hg, hc, rest⟩
  · exact .inl h5
  · exact .inr ⟨g, cap, cur, rfl, hg, (hk.2 g hg (h4 g rfl)).trans hc, rest⟩
set_option maxRecDepth 100000 in
set_option maxHeartbeats 2000000 in
theorem each2_in (n : Nat) (hn : 1 ≤ n) (l Bi B n₀ n₁ : Nat) (L : List Int) (hl : L.length ≤ 1000000) (J : Nat → List Int → World → Prop) (Jx : List Int → World → Prop)
    (hY : ∀ M pre x W1, J M pre W1 → pre.length < L.length → x = L.getD pre.length 0 → YieldAt Fence.wide (n - 1) Tryz.prog l #[.int .i64 x] W1 fun e W' => (e = .returned (.bool true) ∧ Ex J (pre ++ [x]) W' ∧ Keep B n₀ n₁ W1 W') ∨ (e = .returned (.bool false) ∧ Jx (pre ++ [x]) W'))
    (W : World) (hE : Ci.EachAt n₀ n₁ W Bi L) (h0 : Ex J [] W) :
    CallsIn Fence.wide n Tryz.prog 173 #[.func (.yield l) #[] #[], .pointer (some ⟨Bi, 0, none⟩)] W fun e W' => (∃ v, e = .returned v) ∧ ((∃ ys, ys = L ∧ Ex J ys W') ∨ (∃ pre, pre <+: L ∧ Jx pre W')) := by
  have HY := hide hY
  have HJ0 := hide h0
  have HE := hide hE
  have hnf : ∀ u : World, (binOp BinOp.eql 90 (.func (.yield l) #[] #[]) .nilFunc).run Tryz.prog u = .ok (.bool false) u := fun _ => by kernel_rfl
  obtain ⟨v0, hv0⟩ := id hE
  obtain ⟨a, c, rfl, hc0, -⟩ := hv0.row
  clear hY h0 hE hv0
  refine callsIn_of_wp Tryz.func173 rfl trivial ?_ rfl
  simp only [Tryz.ntmps173, List.size_toArray, List.length_cons, List.length_nil, Nat.reduceAdd, Nat.reduceSub, Array.replicate_succ, Array.replicate_zero, List.push_toArray, List.append_toArray, List.nil_append, List.cons_append]
  have HR0 : Hid (Ints W a L ∧ W.cell? ⟨Bi, 0, none⟩ = some (.slice a L.length c)) := by
    obtain ⟨v1, hv1⟩ := HE.out
    obtain ⟨a', c', e1, e2, e3⟩ := hv1.row
    rw [hc0] at e2
    cases e2
    exact ⟨e3, hc0⟩
  gi_wp2
  gi_loopw [9] (fun i wr => ∃ pre : List Int, i = .int .i64 pre.length ∧ pre.length ≤ L.length ∧ Hid (pre = L.take pre.length) ∧ Hid (Ex J pre wr) ∧ Hid (Keep B n₀ n₁ W wr)) (fun i _ => L.length - (Go.RowKit.intOf i).toNat)
  case atStart => exact ⟨[], rfl, Nat.zero_le _, rfl, HJ0, Keep.refl _ _ _ _⟩
  case round =>
    obtain ⟨pre, rfl, hp, HP, HJ, HK⟩ := hrel
    by_cases hlt : pre.length < L.length
    · obtain ⟨v1, hv1⟩ := each_keep HE.out HK.out
      obtain ⟨a', c', e1, e2, e3⟩ := hv1.row
      have hx1 : wr.cell? ⟨Bi, 0, none⟩ = some (.slice a L.length c) := (World.cell?_of_block (HK.out.2 Bi hv1.1.1 hv1.1.2)).trans HR0.out.2
      rw [hx1] at e2
      cases e2
      rcases e3 with hi | ⟨ba, oa, rfl, hca⟩
      · exfalso; rw [hi] at hlt; simp at hlt
      have h1 := hca pre.length hlt
      obtain ⟨x, hx⟩ : ∃ x, x = L.getD pre.length 0 := ⟨_, rfl⟩
      rw [← hx] at h1
      have HPN : Hid (pre ++ [x] = L.take (pre ++ [x]).length) := by
        show pre ++ [x] = L.take (pre ++ [x]).length
        rw [List.length_append, List.length_singleton, ← Ci.take_pre hlt, ← hx, ← HP.out]
      have HPF : Hid (pre ++ [x] <+: L) := by
        show pre ++ [x] <+: L
        rw [HPN.out]
        exact List.take_prefix _ _
      obtain ⟨M, hM, hJM⟩ := HJ.out
      obtain ⟨fn, tmps, assign, body, hy, hR⟩ := HY.out M pre x wr hJM hlt hx
      clear hx hca hx1 hv1 hJM
      have q1 : (pre.length : Int) < (L.length : Int) := by omega
      gi_wp2
      refine hR.mono ?_
      rintro e W3 (⟨rfl, hJ3, hk3⟩ | ⟨rfl, hJ3⟩)
      · have HJ3 := hide hJ3
        have HK3 := hide (HK.out.trans hk3)
        clear hJ3 hk3 hR h1
        gi_wp2
        go_roundw
        case rel => exact ⟨pre ++ [x], by simp, by simp; omega, HPN, HJ3, HK3⟩
        case measure => simp [Go.RowKit.intOf]; omega
      · have HJ3 := hide hJ3
        clear hJ3 hR h1
        gi_wp2
        refine bodyPost_ret (results_none rfl _ _ _) rfl ?_
        exact ⟨⟨_, rfl⟩, .inr ⟨_, HPF.out, HJ3.out⟩⟩
    · have q1 : ¬ (pre.length : Int) < (L.length : Int) := by omega
      have HL : Hid (pre = L) := by
        show pre = L
        have := HP.out
        rwa [List.take_of_length_le (by omega)] at this
      gi_wp2
      go_end0
      refine ⟨⟨_, rfl⟩, .inl ?_⟩
      have h := HJ.out
      rw [HL.out] at h
      exact h
theorem each_tells (n : Nat) (hn : 1 ≤ n) (Bi B n₀ n₁ : Nat) (L : List Int) (hl : L.length ≤ 1000000) (w : World) (hE : Ci.EachAt n₀ n₁ w Bi L) (h1 : n₁ ≤ w.heap.size) (hB : B ≤ w.heap.size) :
    SeqTells Fence.wide n Tryz.prog 173 #[.pointer (some ⟨Bi, 0, none⟩)] (fun x : Int => #[.int .i64 x]) (fun _ pre x _ => x = L.getD pre.length 0) (Keep B n₀ n₁) (fun ys => ys = L) (fun pre => pre <+: L) L.length w :=
  fun l J Jx W hWw _ hY h0 => each2_in n hn l Bi B n₀ n₁ L hl J Jx (fun M pre x W1 h2 h3 h4 => hY M pre x W1 h2 h3 h4) W (each_keep hE (Keep.of_below hWw hB h1)) h0
end Rl
end Go.Proofs.YtijfcickgicncaaGreatDoor
/-
  Contract of the chief's wake.
-/
namespace Go.Proofs.YtijfcickgicncaaGreatDoor
open Go.ChangeShapes Go.WideShapes Go.ChangeAt Go.RowKit Go.Shelf Go.Maps Sg Bl

attribute [local go_sem] Oper.semAt_some

/-- A scope that the run goes through without a goto, in a fenced walk. -/
theorem wpIn_scope {F : Fence} {n : Nat} {P : Program} {Q : Exit → Act → World → Prop} {a : Act} {w : World} {c : Code} (h : c.wpIn F n P (Exit.noGoto Q) a w) : (Code.scope c).wpIn F n P Q a w := by
  intro b k cs hro hb hr
  have h0 : (lone (b.atR a (.code (.scope c) :: k)) cs w).fenced P F := fenced_calm hb hr rfl
  have s0 : step P (lone (b.atR a (.code (.scope c) :: k)) cs w) = .next (lone (b.atR a (.code c :: .inScope c :: k)) cs w) := step_lone_go (by simp [stepG, stepG.exec, Frame.atR])
  have s1 : ∀ a w, step P (lone (b.atR a (.inScope c :: k)) cs w) = .next (lone (b.atR a k) cs w) := fun a w => step_lone_go (by simp [stepG, stepG.exec, Frame.atR])
  obtain ⟨e, a₁, w₁, hq, harr⟩ := h b (.inScope c :: k) cs hro hb hr
  cases e with
  | normal => exact ⟨.normal, a₁, w₁, hq, .head h0 s0 (StepsIn.trans harr (.one (fenced_calm hb hr rfl) (s1 _ _)))⟩
  | exit id =>
    have hx : exitTo id (.inScope c :: k) = exitTo id k := by simp [exitTo]
    exact ⟨.exit id, a₁, w₁, hq, fun k' hk => .head h0 s0 (harr.1 k' (by rw [hx]; exact hk)), fun hr' hk => let ⟨k₁, h1, h2⟩ := harr.2 hr' (by rw [hx]; exact hk); ⟨k₁, h1, .head h0 s0 h2⟩⟩
  | goto l => exact hq.elim
  | ret => exact ⟨_, a₁, w₁, hq, .of_steps (.one h0 s0) harr⟩
  | panic ch => exact ⟨_, a₁, w₁, hq, .of_steps (.one h0 s0) harr⟩
  | outgrown => exact ⟨_, a₁, w₁, hq, .of_steps (.one h0 s0) harr⟩
theorem wkC_over {v : Ch} {id : Int} {l : Lk} (h : v.L id = some l) (ho : overF l.o l.f = true) : wkC v id = v := by
  unfold wkC
  rw [h]
  simp [ho]
theorem wkC_on {v : Ch} {id : Int} {l : Lk} (h : v.L id = some l) (ho : overF l.o l.f = false) : wkC v id = hgC (if l.wt = true then sgS v l 5 [] else v) id := by
  unfold wkC
  rw [h]
  simp [ho]
/-- What the loop of wake has, pre having come. -/
def SIw (w0 w : World) (E1 : Nat → Prop) (v0 : Ch) (p q b bt : Nat) (loc0 : Int → Option Nat) (w2 : World) (M : Nat) (pre : List Int) (W : World) : Prop :=
  (∃ O r loc, Up w0.heap.size O W p (pre.foldl wkC v0) q r b bt loc ∧ (∀ id a, loc0 id = some a → loc id = some a) ∧ ∀ i, Eo O i → ((E1 i ∨ w2.heap.size ≤ i) ∧ i < M) ∧ PlainAt W i) ∧ Boxed W w.heap.size 25 (.pointer (some ⟨p, 0, none⟩)) ∧ Rg.Kept (fun k _ => E1 k) w2 W ∧ w2.heap.size ≤ W.heap.size
section
variable {w0 w w2 W W' : World} {E1 : Nat → Prop} {v0 : Ch} {p q b bt : Nat} {loc0 : Int → Option Nat} {M : Nat} {pre : List Int}
theorem SIw.above (hs : w.heap.size < w2.heap.size) (h : SIw w0 w E1 v0 p q b bt loc0 w2 M pre W) (hk : Rg.Kept (fun k o => w2.heap.size ≤ k ∧ o.isCells = false ∧ ∀ es c, o ≠ .map es c) W W') : SIw w0 w E1 v0 p q b bt loc0 w2 M pre W' := by
  obtain ⟨⟨O, r, loc, h1, hl, h6⟩, h2, h3, h5⟩ := h
  have kF : ∀ {i : Nat} (o : Obj), W.heap[i]? = some o → PlainAt W i → ¬ (w2.heap.size ≤ i ∧ o.isCells = false ∧ ∀ es c, o ≠ .map es c) := fun {i} o ho hp e => by
    rcases hp with ⟨cs, t, f, hc⟩ | ⟨es, c, hc⟩
    · rw [ho] at hc; cases hc; cases e.2.1
    · rw [ho] at hc; cases hc; exact e.2.2 _ _ rfl
  have hkF : Rg.Kept (fun k _ => w2.heap.size ≤ k ∧ ¬ PlainAt W k) W W' := ⟨hk.os, hk.tape, hk.output, hk.size, fun k o ho hx => hk.block k o ho (fun e => hx ⟨e.1, fun hp => kF o ho hp e⟩)⟩
  refine ⟨⟨O, r, loc, ⟨h1.k.kept hkF (fun x i o e e2 => e2.2 (h6 i ⟨x, e⟩).2), h1.g, h1.d⟩, hl, fun i e => ⟨(h6 i e).1, (h6 i e).2.kept hkF (fun _ e2 => e2.2 (h6 i e).2)⟩⟩, hk.block _ _ h2 (fun e => by omega), ?_, Nat.le_trans h5 hk.size⟩
  exact ⟨hk.os.trans h3.os, hk.tape.trans h3.tape, hk.output.trans h3.output, Nat.le_trans h3.size hk.size, fun k o hk' hx => hk.block k o (h3.block k o hk' hx) (fun e => by have := (Array.getElem?_eq_some_iff.1 hk').1; omega)⟩
/-- Behind a step of the chief. -/
theorem SIw.step {n0 : Nat} {id : Int} (hE : ∀ k, E1 k → w0.heap.size ≤ k ∧ k < w.heap.size) (hs : w.heap.size < n0 ∧ n0 ≤ w2.heap.size) {O : Pt → Nat → Prop} {r : Value} {loc : Int → Option Nat} (h1 : Up w0.heap.size O W p (pre.foldl wkC v0) q r b bt loc) (hl : ∀ id a, loc0 id = some a → loc id = some a) (h6 : ∀ i, Eo O i → ((E1 i ∨ w2.heap.size ≤ i) ∧ i < M) ∧ PlainAt W i)
    (h2 : Boxed W w.heap.size 25 (.pointer (some ⟨p, 0, none⟩))) (h3 : Rg.Kept (fun k _ => E1 k) w2 W) (h5 : w2.heap.size ≤ W.heap.size) (hU : UStp w0.heap.size O W p (wkC (pre.foldl wkC v0) id) q b bt loc W') :
    Rl.KeepsLp W W' ∧ Keep w0.heap.size n0 w2.heap.size W W' ∧ Rl.Ex (SIw w0 w E1 v0 p q b bt loc0 w2) (pre ++ [id]) W' := by
  obtain ⟨O', r', loc', k1, g1, K1, l1⟩ := hU
  have hlow := h1.k.low
  have hU2 : Up w0.heap.size (fun x i => O' x i ∧ PlainAt W' i) W' p ((pre ++ [id]).foldl wkC v0) q r' b bt loc' := by
    rw [List.foldl_append]
    exact ⟨k1.k.exact, k1.g, k1.d⟩
  refine ⟨⟨K1.size, fun k o hk hc hm => K1.block k o hk (fun e => ?_)⟩, ⟨K1.bel hlow (fun i _ ⟨x, e⟩ => (h1.k.bd x i e).1), fun k hk0 hk1 => ?_⟩, W'.heap.size, Nat.le_refl _, ⟨_, r', loc', hU2, fun i a e => l1 i a (hl i a e), fun i ⟨x, e⟩ => ⟨⟨?_, (k1.k.bd x i e.1).2⟩, e.2⟩⟩, ?_, ?_, Nat.le_trans h5 K1.size⟩
  · rcases (h6 k e).2 with ⟨cs, t, f, h⟩ | ⟨es, c, h⟩
    · rw [hk] at h; cases h; cases hc
    · rw [hk] at h; cases h; exact hm _ _ rfl
  · have ek : W.heap[k]? = some W.heap[k] := Array.getElem?_eq_getElem (by omega)
    rw [ek]
    refine K1.block k _ ek (fun e => ?_)
    rcases (h6 k e).1.1 with h | h
    · have := hE k h; omega
    · omega
  · rcases g1 i ⟨x, e.1⟩ with h | h
    · exact (h6 i h).1.1
    · exact .inr (by omega)
  · refine K1.block _ _ h2 (fun e => ?_)
    rcases (h6 _ e).1.1 with h | h
    · have := hE _ h; omega
    · omega
  · exact ⟨K1.os.trans h3.os, K1.tape.trans h3.tape, K1.output.trans h3.output, Nat.le_trans h3.size K1.size, fun k o hk hx => K1.block k o (h3.block k o hk hx) (fun e => by
      rcases (h6 k e).1.1 with h | h
      · exact hx h
      · have := (Array.getElem?_eq_some_iff.1 hk).1; omega)⟩
set_option maxRecDepth 100000 in
set_option maxHeartbeats 4000000 in
theorem cwake_at {O : Pt → Nat → Prop} {r : Value} (hg0 : Gl w0) (hw : Below w0.heap.size w0 w) (h : Up w0.heap.size O w p v0 q r b bt loc0) :
    Calls Tryz.prog 77 #[.pointer (some ⟨p, 0, none⟩)] w fun e w' => (∃ x, e = .returned x) ∧ UStp w0.heap.size O w p ((idsC v0.L).foldl wkC v0) q b bt loc0 w' := by
  refine (callsIn_wide (n := 5)).1 ?_
  obtain ⟨U, hU⟩ : ∃ U, U = w.alloc (.cells #[.pointer (some ⟨p, 0, none⟩)] 25) := ⟨_, rfl⟩
  have hbU : Below w.heap.size w U := by rw [hU]; exact (Below.refl _ _).alloc (Nat.le_refl _) _
  have hzU : U.heap.size = w.heap.size + 1 := by rw [hU]; simp
  have hbx : Boxed U w.heap.size 25 (.pointer (some ⟨p, 0, none⟩)) := by
    show U.heap[w.heap.size]? = _
    rw [hU]
    exact World.alloc_heap_new w _
  have ID := Ci.cids_any (h.k.on hbU) h.g.gm
  have hEx := h.k.exact
  obtain ⟨E1, hE1⟩ : ∃ E1 : Nat → Prop, (fun i => Eo O i) = E1 := ⟨_, rfl⟩
  have bE1 : ∀ k, E1 k → w0.heap.size ≤ k ∧ k < w.heap.size := fun k e => by
    rw [← hE1] at e
    obtain ⟨x, e⟩ := e
    exact h.k.bd x k e
  have hLL : ∀ id ∈ idsC v0.L, (1 ≤ id ∧ id ≤ 999) ∧ ∃ a, loc0 id = some a := fun id hi => by
    have h2 := (idsC_mem h.g.gm).1 hi
    rcases h.k.at_ id with ⟨e, _⟩ | ⟨l, a, e, e2, _⟩
    · rw [e] at h2; cases h2
    · exact ⟨⟨(h.g.gm id l e).i1, (h.g.gm id l e).i2⟩, a, e2⟩
  have hlen := idsC_len v0.L
  obtain ⟨L, hLe⟩ : ∃ L, idsC v0.L = L := ⟨_, rfl⟩
  rw [hLe] at ID hLL hlen ⊢
  have HG := hide hg0
  have HW := hide hw
  have HUP := hide h
  have HUW := hide hU
  have HBU := hide hbU
  rw [hU] at ID
  clear hg0 hw h hbU hU
  refine callsIn_of_wp_marks Tryz.func77 rfl trivial ?_ rfl
  simp only [Tryz.ntmps77, List.size_toArray, List.length_cons, List.length_nil, Nat.reduceAdd, Nat.reduceSub, Array.replicate_succ, Array.replicate_zero, List.push_toArray, List.append_toArray, List.nil_append, List.cons_append]
  gi_wp2_with fail
  refine wpIn_scope ?_
  gi_wp2_with fail
  refine wpIn_label ?_
  gi_wp2_with fail
  refine ⟨trivial, (callsIn_wide.2 ID).mono ?_⟩
  rintro e w2 ⟨Bi, rfl, hb2, hEA⟩
  rw [← HUW.out] at hb2 hEA
  have hs2 := hb2.size
  have hW2 : Below w0.heap.size w0 w2 := bel_on' HW.out (bel_on' HBU.out hb2)
  have HLL := hide hLL
  have hs0 := hW2.size
  have ES := Rl.each_tells 4 (by omega) Bi w0.heap.size U.heap.size w2.heap.size L (by omega) w2 hEA (Nat.le_refl _) hW2.size
  have HI : Hid (Rl.Ex (SIw w0 w E1 v0 p q b bt loc0 w2) [] w2) := by
    have hbw2 := bel_on' HBU.out hb2
    have k2 := HUP.out.on hbw2
    refine ⟨w2.heap.size, Nat.le_refl _, ⟨_, r, loc0, ⟨k2.k.exact, k2.g, k2.d⟩, fun _ _ e => e, fun i ⟨x, e⟩ => ⟨⟨.inl ?_, ?_⟩, e.2⟩⟩, (hb2.block _ hbx.lt).trans hbx, Rg.Kept.refl _ _, Nat.le_refl _⟩
    · rw [← hE1]; exact ⟨x, e.1⟩
    · exact (k2.k.bd x i e.1).2
  clear hLL hLe hEA hbx hEx
  gi_wp2_with fail
  refine Rl.range_tells (I := SIw w0 w E1 v0 p q b bt loc0 w2) (Ix := fun _ _ _ => False)
    (Ax := fun x a' _ => a' = { tmps := #[Value.pointer (some { block := p, off := 0 }), Value.pointer (some { block := w.heap.size, off := 0 }), Value.int .i64 x, undef, Value.pointer (some { block := p, off := 0 }),
          Value.func (Fn.func 173) #[] #[Value.pointer (some { block := Bi, off := 0 })], Value.int .i64 x, undef, undef, undef, undef, undef, undef, undef, undef, undef, undef, undef, undef, undef, undef, undef, undef, undef, undef, undef, undef, undef], defers := [] })
    rfl (by omega) (gf := 173) (lb := #[.pointer (some ⟨Bi, 0, none⟩)]) rfl trivial (enters_of Tryz.func173 (by kernel_rfl) rfl) ES
    (fun h k => h.trans k) (fun W l o o' hl' ho hc => ⟨⟨rfl, rfl, rfl, by simp, fun k hk => World.putObj_heap_other (by omega)⟩, fun k _ hk => World.putObj_heap_other (by omega)⟩) (fun _ => rfl)
    (fun M pre W l r1 r2 hs hl hr => SIw.above (by omega) hs (kept_put _ hr ⟨hl, rfl, fun _ _ e => by cases e⟩)) (fun M pre A B hs hb => SIw.above (by omega) hs (Rg.Kept.of_below hb)) (fun c s W W' row hs hg hr => hs.elim) (fun x a' s W W' row hs hg hr => hs) (fun M pre x s W W' row hs hg hr => hs) HI.out ?assign ?body ?done ?stop
  case assign =>
    intro l M pre x W K hI hG hK
    have HK' := hK { tmps := #[Value.pointer (some { block := p, off := 0 }), Value.pointer (some { block := w.heap.size, off := 0 }), Value.int .i64 x, undef, Value.pointer (some { block := p, off := 0 }),
          Value.func (Fn.func 173) #[] #[Value.pointer (some { block := Bi, off := 0 })], Value.int .i64 x, undef, undef, undef, undef, undef, undef, undef, undef, undef, undef, undef, undef, undef, undef, undef, undef, undef, undef, undef, undef, undef], defers := [] } W
      (Rl.keepsLp_below (Below.refl _ _)) (Keep.refl _ _ _ _) hI hG rfl
    clear hK hG
    gi_wp2
    exact HK'
  case body =>
    rintro l M pre x a' W hI rfl hgx hlt
    obtain ⟨⟨O1, r1, loc1, h1, hl1, h6⟩, h2, h3, h5⟩ := hI
    have hxm : x ∈ L := by
      rw [hgx]
      simp only [List.getD, List.getElem?_eq_getElem hlt, Option.getD_some]
      exact List.getElem_mem hlt
    obtain ⟨⟨x1, x2⟩, a, ha0⟩ := HLL.out x hxm
    have ha := hl1 x a ha0
    have hwf := wf_id x1 x2
    have hLK := h1.k.look hwf
    rw [ha] at hLK
    obtain ⟨lk, hlk⟩ : ∃ lk, (pre.foldl wkC v0).L x = some lk := by
      rcases h1.k.at_ x with ⟨_, e⟩ | ⟨lk, a', e, _⟩
      · rw [ha] at e; cases e
      · exact ⟨lk, e⟩
    obtain ⟨sa, sc, da, dc, ua, uc, tp, kl⟩ := h1.led hlk ha
    have OV := lover_any kl
    have hBW : Below w0.heap.size w0 W := hW2.trans (h3.bel hW2.size (fun i _ e => (bE1 i e).1))
    have hg1 : ∀ u, Rg.Kept (fun i _ => Eo O1 i) W u → Gl u := fun u hk => HG.out.on (hBW.trans (hk.bel h1.k.low (fun i _ ⟨y, e⟩ => (h1.k.bd y i e).1)))
    have ST : Hid (∀ w', UStp w0.heap.size O1 W p (wkC (pre.foldl wkC v0) x) q b bt loc1 w' → Rl.KeepsLp W w' ∧ Keep w0.heap.size U.heap.size w2.heap.size W w' ∧ Rl.Ex (SIw w0 w E1 v0 p q b bt loc0 w2) (pre ++ [x]) w') := fun w' hU => SIw.step bE1 (by omega) h1 hl1 h6 h2 h3 h5 hU
    obtain ⟨-, -, -, c3, c4⟩ := h1.k.cell3
    have cb := h2.cell
    have HBX := hide h2
    have hwlt : w.heap.size < W.heap.size := h2.lt
    have nw : ¬ Eo O1 w.heap.size := fun e => by
      rcases (h6 _ e).1.1 with h | h
      · have := (bE1 _ h).2; omega
      · omega
    cases hov : overF lk.o lk.f
    · rw [hov] at OV
      have hwk := wkC_on hlk hov
      rw [hwk] at ST
      have WT : Hid (∀ W1, Below W.heap.size W W1 → Calls Tryz.prog 132 #[.pointer (some ⟨a, 0, none⟩)] W1 fun e w' => e = .returned (.bool lk.wt) ∧ W1 = w') := fun W1 hb => lwt_any (kl.on hb)
      have CE : Hid (∀ W1, Below W.heap.size W W1 → W1.cell? ⟨w.heap.size, 0, none⟩ = some (.pointer (some ⟨p, 0, none⟩)) ∧ W1.cell? ⟨p, 4, none⟩ = some (.pointer (some ⟨bt, 0, none⟩))) := fun W1 hb => ⟨cellL cb hb, (h1.k.on hb).cell3.2.2.2.2⟩
      cases hwt : lk.wt
      · rw [hwt] at WT ST
        rw [if_neg (by decide)] at ST
        have HA : Hid (∀ W1, Below W.heap.size W W1 → Calls Tryz.prog 45 #[.pointer (some ⟨bt, 0, none⟩), .int .i64 x] W1 fun e w' => (∃ y, e = .returned y) ∧ Rl.KeepsLp W w' ∧ Keep w0.heap.size U.heap.size w2.heap.size W w' ∧ Rl.Ex (SIw w0 w E1 v0 p q b bt loc0 w2) (pre ++ [x]) w') := fun W1 hb => ((h1.on hb).hang hwf ⟨lk, hlk⟩).mono (fun e w' ⟨e1, e2⟩ => ⟨e1, ST.out w' (e2.from hb)⟩)
        clear h1 hl1 h6 h2 h3 h5 kl hg1 ST hlk hgx hxm hBW hwk hov hwt nw
        gi_wp2_with fail
        refine ⟨trivial, (CallsIn.inRound l (callsIn_wide.2 OV)).mono ?_⟩
        rintro y W1 ⟨rfl, hb1⟩
        obtain ⟨cb1, c41⟩ := CE.out W1 hb1
        gi_wp2_with fail
        refine ⟨trivial, (CallsIn.inRound l (callsIn_wide.2 (WT.out W1 hb1))).mono ?_⟩
        rintro y W1' ⟨rfl, rfl⟩
        gi_wp2_with fail
        refine ⟨trivial, (CallsIn.inRound l (callsIn_wide.2 (HA.out _ hb1))).mono ?_⟩
        rintro y W3 ⟨⟨z, rfl⟩, hX⟩
        have HX := hide hX
        clear hX OV
        gi_wp2
        exact HX.out
      · rw [hwt] at WT ST
        rw [if_pos rfl] at ST
        have TN : Hid (∀ W1, Below W.heap.size W W1 → Calls Tryz.prog 55 #[.pointer (some ⟨p, 0, none⟩), .pointer (some ⟨a, 0, none⟩)] W1 fun e w' => (∃ y, e = .returned y) ∧ (w'.cell? ⟨w.heap.size, 0, none⟩ = some (.pointer (some ⟨p, 0, none⟩)) ∧ w'.cell? ⟨p, 4, none⟩ = some (.pointer (some ⟨bt, 0, none⟩))) ∧
            Calls Tryz.prog 45 #[.pointer (some ⟨bt, 0, none⟩), .int .i64 x] w' fun e w'' => (∃ y, e = .returned y) ∧ Rl.KeepsLp W w'' ∧ Keep w0.heap.size U.heap.size w2.heap.size W w'' ∧ Rl.Ex (SIw w0 w E1 v0 p q b bt loc0 w2) (pre ++ [x]) w'') := fun W1 hb => by
          refine (cturn_any (h1.on hb) (fun u hk => hg1 u ((Rg.Kept.of_below hb).trans hk)) hlk ha).mono ?_
          rintro e w' ⟨xx, e1, ra, rc, O2, r2, loc2, -, -, -, k2, g2, K2, l2⟩
          have hl2 : ∃ l2, (sgS (pre.foldl wkC v0) lk 5 []).L x = some l2 := by
            rcases k2.k.at_ x with ⟨_, e⟩ | ⟨lk2, a', e, _⟩
            · rw [l2 x a ha] at e; cases e
            · exact ⟨lk2, e⟩
          refine ⟨⟨_, e1⟩, ⟨kept_cellR K2 (fun _ => nw) (cellL cb hb), k2.k.cell3.2.2.2.2⟩, (k2.hang hwf hl2).mono ?_⟩
          rintro e3 w3 ⟨e4, hU⟩
          exact ⟨e4, ST.out w3 ((UStp.two g2 K2 l2 hU).from hb)⟩
        clear h1 hl1 h6 h2 h3 h5 kl hg1 ST hlk hgx hxm hBW hwk hov hwt nw
        gi_wp2_with fail
        refine ⟨trivial, (CallsIn.inRound l (callsIn_wide.2 OV)).mono ?_⟩
        rintro y W1 ⟨rfl, hb1⟩
        obtain ⟨cb1, c41⟩ := CE.out W1 hb1
        gi_wp2_with fail
        refine ⟨trivial, (CallsIn.inRound l (callsIn_wide.2 (WT.out W1 hb1))).mono ?_⟩
        rintro y W1' ⟨rfl, rfl⟩
        gi_wp2_with fail
        refine ⟨trivial, (CallsIn.inRound l (callsIn_wide.2 (TN.out _ hb1))).mono ?_⟩
        rintro y W2 ⟨⟨z, rfl⟩, ⟨cb2, c42⟩, HG2⟩
        gi_wp2_with fail
        refine ⟨trivial, (CallsIn.inRound l (callsIn_wide.2 HG2)).mono ?_⟩
        rintro y W3 ⟨⟨z, rfl⟩, hX⟩
        have HX := hide hX
        clear hX OV HG2
        gi_wp2
        exact HX.out
    · rw [hov] at OV
      have hwk := wkC_over hlk hov
      rw [hwk] at ST
      have SX : Hid (∀ W1, Below W.heap.size W W1 → Rl.KeepsLp W W1 ∧ Keep w0.heap.size U.heap.size w2.heap.size W W1 ∧ Rl.Ex (SIw w0 w E1 v0 p q b bt loc0 w2) (pre ++ [x]) W1) := fun W1 hb => ST.out W1 (h1.stay hb)
      clear h1 hl1 h6 h2 h3 h5 kl hg1 ST hlk hgx hxm hBW hwk hov nw
      gi_wp2_with fail
      refine ⟨trivial, (CallsIn.inRound l (callsIn_wide.2 OV)).mono ?_⟩
      rintro y W1 ⟨rfl, hb1⟩
      have HX := hide (SX.out W1 hb1)
      clear OV
      gi_wp2
      exact HX.out
  case done =>
    rintro D xs W hD hxs ⟨M, -, hI⟩ hK
    have FIN : Hid (UStp w0.heap.size O w p (L.foldl wkC v0) q b bt loc0 (W.putObj D (.deferred none))) := by
      obtain ⟨⟨O1, r1, loc1, h1, hl1, h6⟩, h2, h3, h5⟩ := SIw.above (by omega) hI (kept_put (.deferred none) hK ⟨hD, rfl, fun _ _ e => by cases e⟩)
      rw [hxs] at h1
      have hbw2 := bel_on' HBU.out hb2
      refine ⟨O1, r1, loc1, h1, fun i e => ?_, (Rg.Kept.of_below hbw2).trans (h3.mono (fun i _ e => by rw [← hE1] at e; exact e)), hl1⟩
      rcases (h6 i e).1.1 with e2 | e2
      · rw [← hE1] at e2; exact .inl e2
      · obtain ⟨y, e3⟩ := e
        exact .inr ⟨by omega, (h1.k.bd y i e3).2⟩
    gi_wp2
    refine ⟨by simp, .inl ⟨_, _, rfl, run_takeDeferred hK, ?_⟩⟩
    exact ⟨_, results_none rfl _ _ _, ⟨_, rfl⟩, FIN.out⟩
  case stop => exact fun D c pre W _ _ h _ => h.elim
end
end Go.Proofs.YtijfcickgicncaaGreatDoor
/-
  Contract of the chief's Start.
-/
namespace Go.Proofs.YtijfcickgicncaaGreatDoor
open Go.ChangeShapes Go.WideShapes Go.ChangeAt Go.RowKit Go.Shelf Go.Maps Sg Bl

attribute [local go_sem] Oper.semAt_some

/-- What the loop of Start has, pre having come. -/
def SIc (w0 w : World) (E1 : Nat → Prop) (v : Ch) (p q b bt : Nat) (w2 : World) (M : Nat) (pre : List Ev) (W : World) : Prop :=
  (∃ O r loc, CkV w0.heap.size O W p (rvN v pre.length) q r b bt loc (v.T.map lnC) ∧ ∀ i, Eo O i → ((E1 i ∨ w2.heap.size ≤ i) ∧ i < M) ∧ PlainAt W i) ∧ Boxed W w.heap.size 25 (.pointer (some ⟨p, 0, none⟩)) ∧ Rg.Kept (fun k _ => E1 k) w2 W ∧ pre.length ≤ v.T.length ∧ w2.heap.size ≤ W.heap.size
section
variable {w0 w w1 w2 W W' : World} {E1 : Nat → Prop} {v : Ch} {p q b bt : Nat} {M : Nat} {pre : List Ev}
theorem SIc.above (hs : w.heap.size < w2.heap.size) (h : SIc w0 w E1 v p q b bt w2 M pre W) (hk : Rg.Kept (fun k o => w2.heap.size ≤ k ∧ o.isCells = false ∧ ∀ es c, o ≠ .map es c) W W') : SIc w0 w E1 v p q b bt w2 M pre W' := by
  obtain ⟨⟨O, r, loc, h1, h6⟩, h2, h3, h4, h5⟩ := h
  have kF : ∀ {i : Nat} (o : Obj), W.heap[i]? = some o → PlainAt W i → ¬ (w2.heap.size ≤ i ∧ o.isCells = false ∧ ∀ es c, o ≠ .map es c) := fun {i} o ho hp e => by
    rcases hp with ⟨cs, t, f, hc⟩ | ⟨es, c, hc⟩
    · rw [ho] at hc; cases hc; cases e.2.1
    · rw [ho] at hc; cases hc; exact e.2.2 _ _ rfl
  have hkF : Rg.Kept (fun k _ => w2.heap.size ≤ k ∧ ¬ PlainAt W k) W W' := ⟨hk.os, hk.tape, hk.output, hk.size, fun k o ho hx => hk.block k o ho (fun e => hx ⟨e.1, fun hp => kF o ho hp e⟩)⟩
  refine ⟨⟨O, r, loc, h1.kept hkF (fun x i o e e2 => e2.2 (h6 i ⟨x, e⟩).2), fun i e => ⟨(h6 i e).1, (h6 i e).2.kept hkF (fun _ e2 => e2.2 (h6 i e).2)⟩⟩, hk.block _ _ h2 (fun e => by omega), ?_, h4, Nat.le_trans h5 hk.size⟩
  exact ⟨hk.os.trans h3.os, hk.tape.trans h3.tape, hk.output.trans h3.output, Nat.le_trans h3.size hk.size, fun k o hk' hx => hk.block k o (h3.block k o hk' hx) (fun e => by have := (Array.getElem?_eq_some_iff.1 hk').1; omega)⟩
/-- Behind an entry that is followed. -/
theorem SIc.step {x : Ev} (hE : ∀ k, E1 k → (w0.heap.size ≤ k ∧ k < w1.heap.size) ∧ k ≠ w.heap.size) (hs : w.heap.size < w1.heap.size ∧ w1.heap.size ≤ w2.heap.size) {O : Pt → Nat → Prop} {r : Value} {loc : Int → Option Nat} (h1 : CkV w0.heap.size O W p (rvN v pre.length) q r b bt loc (v.T.map lnC)) (h6 : ∀ i, Eo O i → ((E1 i ∨ w2.heap.size ≤ i) ∧ i < M) ∧ PlainAt W i)
    (h2 : Boxed W w.heap.size 25 (.pointer (some ⟨p, 0, none⟩))) (h3 : Rg.Kept (fun k _ => E1 k) w2 W) (h4 : pre.length < v.T.length) (h5 : w2.heap.size ≤ W.heap.size) (hU : CStp w0.heap.size O W p (rvN v (pre.length + 1)) q b bt loc (v.T.map lnC) W') :
    Rl.KeepsLp W W' ∧ Keep w0.heap.size w1.heap.size w2.heap.size W W' ∧ Rl.Ex (SIc w0 w E1 v p q b bt w2) (pre ++ [x]) W' := by
  obtain ⟨O', r', loc', k1, g1, K1, l1⟩ := hU
  have hlow := h1.low
  have hU2 : CkV w0.heap.size (fun x i => O' x i ∧ PlainAt W' i) W' p (rvN v (pre ++ [x]).length) q r' b bt loc' (v.T.map lnC) := by
    rw [List.length_append]
    exact k1.exact
  refine ⟨⟨K1.size, fun k o hk hc hm => K1.block k o hk (fun e => ?_)⟩, ⟨K1.bel hlow (fun i _ ⟨x, e⟩ => (h1.bd x i e).1), fun k hk0 hk1 => ?_⟩, W'.heap.size, Nat.le_refl _, ⟨_, r', loc', hU2, fun i ⟨x, e⟩ => ⟨⟨?_, (k1.bd x i e.1).2⟩, e.2⟩⟩, ?_, ?_, by rw [List.length_append]; exact h4, Nat.le_trans h5 K1.size⟩
  · rcases (h6 k e).2 with ⟨cs, t, f, h⟩ | ⟨es, c, h⟩
    · rw [hk] at h; cases h; cases hc
    · rw [hk] at h; cases h; exact hm _ _ rfl
  · have ek : W.heap[k]? = some W.heap[k] := Array.getElem?_eq_getElem (by omega)
    rw [ek]
    refine K1.block k _ ek (fun e => ?_)
    rcases (h6 k e).1.1 with h | h
    · have := hE k h; omega
    · omega
  · rcases g1 i ⟨x, e.1⟩ with h | h
    · exact (h6 i h).1.1
    · exact .inr (by omega)
  · refine K1.block _ _ h2 (fun e => ?_)
    rcases (h6 _ e).1.1 with h | h
    · exact (hE _ h).2 rfl
    · omega
  · exact ⟨K1.os.trans h3.os, K1.tape.trans h3.tape, K1.output.trans h3.output, Nat.le_trans h3.size K1.size, fun k o hk hx => K1.block k o (h3.block k o hk hx) (fun e => by
      rcases (h6 k e).1.1 with h | h
      · exact hx h
      · have := (Array.getElem?_eq_some_iff.1 hk).1; omega)⟩
set_option maxRecDepth 100000 in
set_option maxHeartbeats 4000000 in
theorem cstart_down {O : Pt → Nat → Prop} {r : Value} {loc : Int → Option Nat} {Lq : List ByteArray} (hg0 : Gl w0) (hw : Below w0.heap.size w0 w) (k : CkV w0.heap.size O w p v q r b bt loc Lq) (g : GoodCh v) (hd : v.down = true) (hj : JL Lq v) :
    Calls Tryz.prog 21 #[.pointer (some ⟨p, 0, none⟩)] w fun e w' => (∃ x, e = .returned x) ∧ ∃ O' r' loc', Up w0.heap.size O' w' p (upC v) q r' b bt loc' ∧ (∀ i, Eo O' i → growE (Eo O) w w' i) ∧ Rg.Kept (fun i _ => Eo O i) w w' := by
  refine (callsIn_wide (n := 5)).1 ?_
  obtain ⟨U, hU⟩ : ∃ U, U = w.alloc (.cells #[.pointer (some ⟨p, 0, none⟩)] 25) := ⟨_, rfl⟩
  have hbU : Below w.heap.size w U := by rw [hU]; exact (Below.refl _ _).alloc (Nat.le_refl _) _
  have hzU : U.heap.size = w.heap.size + 1 := by rw [hU]; simp
  have hbx : Boxed U w.heap.size 25 (.pointer (some ⟨p, 0, none⟩)) := by
    show U.heap[w.heap.size]? = _
    rw [hU]
    exact World.alloc_heap_new w _
  have k0 := k.on hbU
  have D := k0.dn
  have hE : ∀ i, Eo O i → w0.heap.size ≤ i ∧ i < w.heap.size := fun i ⟨x, e⟩ => k.bd x i e
  have hln : (v.T.map lnC).length = v.T.length := List.length_map _
  rw [hd] at D
  have e0 : (⟨v.most, v.room, v.t, v.T, v.T.length, false, v.L, v.h⟩ : Ch) = rvN v 0 := by
    rw [(g.dn hd).1, (g.dn hd).2]
    rfl
  have R : Hid (∀ U', Below U.heap.size U U' → (U'.cell? ⟨w.heap.size, 0, none⟩ = some (.pointer (some ⟨p, 0, none⟩)) ∧ U'.cell? ⟨p, 2, none⟩ = some (.pointer (some ⟨q, 0, none⟩))) ∧ Calls Tryz.prog 74 #[.pointer (some ⟨q, 0, none⟩)] U' fun e w' => (∃ x, e = .returned x) ∧ ∃ O1 r', CkV w0.heap.size O1 w' p (rvN v 0) q r' b bt loc (v.T.map lnC) ∧ (∀ i, Eo O1 i → growE (Eo O) w w' i ∧ i ≠ w.heap.size) ∧ Rg.Kept (fun k _ => Eo O k) w w' ∧ Boxed w' w.heap.size 25 (.pointer (some ⟨p, 0, none⟩))) := fun U' hu => by
    have k1 := k0.on hu
    have hbx1 : Boxed U' w.heap.size 25 (.pointer (some ⟨p, 0, none⟩)) := (hu.block _ hbx.lt).trans hbx
    have j1 := k1.jr
    rw [hd] at j1
    refine ⟨⟨hbx1.cell, k1.cell3.2.2.1⟩, (recover_down hg0 (bel_on' (bel_on' hw hbU) hu) j1).mono ?_⟩
    rintro e w' ⟨h1, r', h2, h3⟩
    rw [hj.2.2 hd, hj.1] at h2
    obtain ⟨h4, h5⟩ := k1.jstep (T' := v.T) h2 h3
    rw [e0] at h4
    have hsz := h5.size
    have husz := hu.size
    refine ⟨⟨_, h1⟩, _, r', h4, fun i e => ?_, (Rg.Kept.of_below (bel_on' hbU hu)).trans (h5.mono (fun i _ e => ⟨_, e⟩)), h5.block _ _ hbx1 (fun e => by have := (hE _ ⟨_, e⟩).2; omega)⟩
    rcases gr_eo e with e | e
    · exact ⟨.inl e, by have := (hE i e).2; omega⟩
    · exact ⟨.inr ⟨by omega, e.2⟩, by omega⟩
  have HG := hide hg0
  have HW := hide hw
  have HK := hide k
  have HGD := hide g
  have HUW := hide hU
  have HBU := hide hbU
  rw [hU] at D
  have HTK : Hid (upC v = (idsC (rvC v).L).foldl wkC (rvC v)) := by
    show upC v = _
    unfold upC
    rw [if_pos hd]
    rfl
  have hlnT : v.T.length ≤ 4096 := by have := g.len; have := g.r2; omega
  clear hg0 hw k g k0 hbU hU e0 hj
  rw [HTK.out]
  refine callsIn_of_wp_marks Tryz.func21 rfl trivial ?_ rfl
  simp only [Tryz.ntmps21, List.size_toArray, List.length_cons, List.length_nil, Nat.reduceAdd, Nat.reduceSub, Array.replicate_succ, Array.replicate_zero, List.push_toArray, List.append_toArray, List.nil_append, List.cons_append]
  gi_wp2_with fail
  refine ⟨trivial, (callsIn_wide.2 D).mono ?_⟩
  rintro e U1 ⟨rfl, hbD⟩
  rw [← HUW.out] at hbD
  obtain ⟨⟨cb1, c21⟩, R1⟩ := R.out U1 hbD
  gi_wp2_with fail
  refine ⟨trivial, (callsIn_wide.2 R1).mono ?_⟩
  rintro e w1 ⟨⟨x0, rfl⟩, O1, r', k1, hO1, hk1, hbx1⟩
  have d2 := k1.cell3.2.2.1
  have hb1 := hbx1.cell
  have hs01 := hk1.size
  gi_wp2_with fail
  refine ⟨trivial, (all_in 4 (by omega) k1.jr).mono ?_⟩
  rintro e w2 ⟨a, c, Bs, rfl, hcb, hla, hbs, hb⟩
  have hs12 := hb.size
  have hL4 : (v.T.map lnC).length ≤ 4096 := k1.jr.2.2.2.2.1
  have hX : ∀ x ∈ v.T.map lnC, x.size ≤ 63 := fun x hx => (k1.jr.2.2.2.2.2 x hx).2
  have hw0 : w0.heap.size ≤ w.heap.size := HW.out.size
  have hW1 : Below w0.heap.size w0 w1 := HW.out.trans (hk1.bel hw0 (fun i _ e => (hE i e).1))
  have hW2 : Below w0.heap.size w0 w2 := bel_on' hW1 hb
  have ES := Rl.entries_tells 4 (by omega) Bs w1.heap.size w2.heap.size w0 HG.out a c (v.T.map lnC) hL4 hX w2 hcb hla hW2 (Nat.le_refl _)
  have hwh : (wholeD fun s => Classical.propDecidable (Ok s)) (v.T.map lnC) = (v.T.map lnC).length := whole_all _ (lines_ok HGD.out)
  obtain ⟨E1, hE1⟩ : ∃ E1 : Nat → Prop, (fun k => Eo O1 k) = E1 := ⟨_, rfl⟩
  have bE1 : ∀ k, E1 k → (w0.heap.size ≤ k ∧ k < w1.heap.size) ∧ k ≠ w.heap.size := fun k e => by
    rw [← hE1] at e
    obtain ⟨y, e2⟩ := id e
    exact ⟨k1.bd y k e2, (hO1 k e).2⟩
  have i0 : Rl.Ex (SIc w0 w E1 v p q b bt w2) [] w2 := by
    have k2 := k1.on hb
    refine ⟨w2.heap.size, Nat.le_refl _, ⟨_, r', loc, k2.exact, fun i ⟨x, e⟩ => ⟨⟨.inl ?_, (k2.bd x i e.1).2⟩, e.2⟩⟩, (hb.block _ hbx1.lt).trans hbx1, Rg.Kept.refl _ _, Nat.zero_le _, Nat.le_refl _⟩
    rw [← hE1]; exact ⟨x, e.1⟩
  have HI := hide i0
  have hbxl := hbx1.lt
  clear k1 i0 hcb hla hbx1 hb1 d2 hX cb1 c21
  gi_wp2_with fail
  refine Rl.range_tells (I := SIc w0 w E1 v p q b bt w2) (Ix := fun _ _ _ => False)
    (Ax := fun x a' W => ∃ Bx, w2.heap.size ≤ Bx ∧ W.heap[Bx]? = some (.cells #[.string x.k, .int .i64 x.id, .slice x.av x.l.length x.cv] 93 (0, 0)) ∧
      a' = { tmps := #[Value.pointer (some { block := p, off := 0 }), Value.pointer (some { block := w.heap.size, off := 0 }), Value.pointer (some { block := Bx, off := 0 }),
          Value.pointer (some { block := p, off := 0 }), Value.bool true, Value.bool false,
          Value.pointer (some { block := p, off := 0 }), Value.pointer (some { block := p, off := 0 }),
          Value.pointer (some { block := p, off := 2 }), Value.pointer (some { block := q, off := 0 }), x0,
          Value.pointer (some { block := p, off := 0 }), Value.pointer (some { block := p, off := 0 }),
          Value.pointer (some { block := p, off := 2 }), Value.pointer (some { block := q, off := 0 }),
          Value.func (Fn.func 161) #[] #[Value.pointer (some { block := Bs, off := 0 })], x.enc, undef, undef, undef, undef, undef], defers := [] })
    rfl (by omega) (gf := 161) (lb := #[.pointer (some ⟨Bs, 0, none⟩)]) rfl trivial (enters_of Tryz.func161 (by kernel_rfl) rfl) ES
    (fun h k => h.trans k) (fun W l o o' hl' ho hc => ⟨⟨rfl, rfl, rfl, by simp, fun k hk => World.putObj_heap_other (by omega)⟩, fun k _ hk => World.putObj_heap_other (by omega)⟩) (fun _ => rfl)
    (fun M pre W l r1 r2 hs hl hr => SIc.above (by omega) hs (kept_put _ hr ⟨hl, rfl, fun _ _ e => by cases e⟩)) (fun M pre A B hs hb => SIc.above (by omega) hs (Rg.Kept.of_below hb)) (fun c s W W' row hs hg hr => hs.elim) (fun x a' => ?ax) (fun M pre x s W W' row hs hg hr => ⟨good_own _ _ x () W W' row hs.1 hg hr, good_own _ _ x () W W' row hs.2.1 hg hr, hs.2.2⟩) HI.out ?assign ?body ?done ?stop
  case ax =>
    refine ownFrom_kept (fun _ W W' hs hk => ?_)
    obtain ⟨Bx, h0, h1, h2⟩ := hs
    exact ⟨Bx, h0, hk.block _ _ h1 (fun e => by cases e.2), h2⟩
  case assign =>
    intro l M pre x W K hI hG hK
    have hW7 := hI.2.2.2.2
    have hbA : Below W.heap.size W (W.alloc (.cells #[.string x.k, .int .i64 x.id, .slice x.av x.l.length x.cv] 93)) := (Below.refl _ _).alloc (Nat.le_refl _) _
    have HK' := hK { tmps := #[Value.pointer (some { block := p, off := 0 }), Value.pointer (some { block := w.heap.size, off := 0 }), Value.pointer (some { block := W.heap.size, off := 0 }),
          Value.pointer (some { block := p, off := 0 }), Value.bool true, Value.bool false,
          Value.pointer (some { block := p, off := 0 }), Value.pointer (some { block := p, off := 0 }),
          Value.pointer (some { block := p, off := 2 }), Value.pointer (some { block := q, off := 0 }), x0,
          Value.pointer (some { block := p, off := 0 }), Value.pointer (some { block := p, off := 0 }),
          Value.pointer (some { block := p, off := 2 }), Value.pointer (some { block := q, off := 0 }),
          Value.func (Fn.func 161) #[] #[Value.pointer (some { block := Bs, off := 0 })], x.enc, undef, undef, undef, undef, undef], defers := [] } _
      (Rl.keepsLp_below hbA) (Keep.of_below hbA (by omega) hW7) (SIc.above (by omega) hI (Rg.Kept.of_below hbA)) ⟨⟨hG.1.1.below hbA, hG.1.2⟩, ⟨hG.2.1.1.below hbA, hG.2.1.2⟩, hG.2.2⟩ ⟨W.heap.size, hW7, World.alloc_heap_new W _, rfl⟩
    clear hK
    unfold Ev.enc at HK' ⊢
    gi_wp2
    exact HK'
  case body =>
    rintro l M pre x a' W hI ⟨Bx, hB0, hbx, rfl⟩ ⟨hGm, hGd, hpr⟩ hlt
    obtain ⟨⟨Oc, rc, locc, kc, h6⟩, h2, h3, h4, h5⟩ := hI
    have hltT : pre.length < v.T.length := by omega
    obtain ⟨e, he⟩ : ∃ e, v.T[pre.length]? = some e := ⟨_, List.getElem?_eq_getElem hltT⟩
    obtain ⟨hfit, hgm⟩ := rvN_fit HGD.out he
    have hgd : (v.T.map lnC).getD pre.length ByteArray.empty = lnC e := by simp [List.getD, he]
    rw [hgd] at hpr
    obtain ⟨ek, ei, el⟩ := hfit.ok.parse hpr
    obtain ⟨xk, xi, xl, xa, xc⟩ := x
    simp only [Ev.enc] at *
    subst ek ei el
    have hput : putL (rvN v pre.length) (fol (rvN v pre.length).L e) = rvN v (pre.length + 1) := by
      rw [← rvN_step he]
      rfl
    have FW := (cfollow_any2 kc hgm hfit (nc := xc) hGm.1.ints (fun hne ad e1 h => by
      rcases hGm.1 with h0 | ⟨b', off, e2, e3, _⟩
      · exact hne h0
      · rw [e2] at e1
        cases e1
        have := (h6 _ h).1.2
        simp only at this
        omega)).mono (R' := fun x w' => (∃ y, x = .returned y) ∧ Rl.KeepsLp W w' ∧ Keep w0.heap.size w1.heap.size w2.heap.size W w' ∧ Rl.Ex (SIc w0 w E1 v p q b bt w2) (pre ++ [⟨kC e.k, e.id, e.n, xa, xc⟩]) w') (fun y w' ⟨z1, z2⟩ => by
        rw [hput] at z2
        exact ⟨z1, SIc.step bE1 (by omega) kc h6 h2 h3 hltT h5 z2⟩)
    have hcb1 := h2.cell
    have e0 : W.cell? ⟨Bx, 0, none⟩ = some (.string (kC e.k)) := by rw [cell_of hbx]; rfl
    have e1 : W.cell? ⟨Bx, 1, none⟩ = some (.int .i64 e.id) := by rw [cell_of hbx]; rfl
    have e2 : W.cell? ⟨Bx, 2, none⟩ = some (.slice xa e.n.length xc) := by rw [cell_of hbx]; rfl
    clear hgd he hGd hpr hGm kc h6 h2 h3 h4 hbx hfit hgm hput
    generalize kC e.k = K0 at *
    generalize e.id = K1' at *
    generalize e.n = K2' at *
    gi_wp2_with fail
    refine ⟨trivial, (CallsIn.inRound l (callsIn_wide.2 FW)).mono ?_⟩
    rintro y w3 ⟨⟨z, rfl⟩, hz1, hz2, hz3⟩
    clear FW
    gi_wp2
    exact ⟨hz1, hz2, hz3⟩
  case done =>
    rintro D xs W hD ⟨hlen, -⟩ ⟨M, -, hI⟩ hK
    rw [hwh, hln] at hlen
    obtain ⟨⟨Oc, rc, locc, kc, h6⟩, h2, h3, h4, h5⟩ := hI
    rw [hlen, rvN_all] at kc
    have hUp : Up w0.heap.size Oc W p (rvC v) q rc b bt locc := ⟨kc, rvC_good HGD.out, rfl⟩
    have hBW : Below w0.heap.size w0 W := hW2.trans (h3.bel hW2.size (fun i _ e => (bE1 i e).1.1))
    have WK := cwake_at HG.out hBW hUp
    have hnD : ¬ Eo Oc D := fun e => by
      rcases (h6 _ e).2 with ⟨cs, t, f, h⟩ | ⟨es, c, h⟩
      · rw [hK] at h; cases h
      · rw [hK] at h; cases h
    have FIN : Hid (∀ w4, UStp w0.heap.size Oc W p ((idsC (rvC v).L).foldl wkC (rvC v)) q b bt locc w4 → w4.heap[D]? = some (.deferred (some [])) ∧ ∃ O' r' loc', Up w0.heap.size O' (w4.putObj D (.deferred none)) p ((idsC (rvC v).L).foldl wkC (rvC v)) q r' b bt loc' ∧ (∀ i, Eo O' i → growE (Eo O) w (w4.putObj D (.deferred none)) i) ∧ Rg.Kept (fun i _ => Eo O i) w (w4.putObj D (.deferred none))) := fun w4 ⟨O4, r4, loc4, k4, g4, K4, l4⟩ => by
      have hD4 := K4.block _ _ hK hnD
      have hDl : D < W.heap.size := (Array.getElem?_eq_some_iff.1 hK).1
      have nD4 : ¬ Eo O4 D := fun e => (g4 D e).elim hnD (fun e => by omega)
      have kp : Rg.Kept (fun i _ => i = D) w4 (w4.putObj D (.deferred none)) := kept_put _ hD4 rfl
      have hsz := K4.size
      have hsz2 : (w4.putObj D (.deferred none)).heap.size = w4.heap.size := by simp
      refine ⟨hD4, O4, r4, loc4, ⟨k4.k.kept kp (fun x i o e e2 => nD4 ⟨x, e2 ▸ e⟩), k4.g, k4.d⟩, fun i e => ?_, ?_⟩
      · rcases g4 i e with e2 | e2
        · rcases (h6 i e2).1.1 with e3 | e3
          · rw [← hE1] at e3
            exact (hO1 i e3).1.imp id (fun e4 => ⟨e4.1, by omega⟩)
          · obtain ⟨y, e4⟩ := e2
            have := (kc.bd y i e4).2
            exact .inr ⟨by omega, by omega⟩
        · exact .inr ⟨by omega, by omega⟩
      · have kb : Rg.Kept (fun k _ => Eo O k) w w2 := hk1.trans (Rg.Kept.of_below hb)
        have kW : Rg.Kept (fun k _ => Eo O k) w W := kept_more kb h3 (fun i o e => by rw [← hE1] at e; exact (hO1 i e).1.imp id (fun e4 => e4.1))
        have k5 : Rg.Kept (fun k _ => Eo O k) w w4 := kept_more kW K4 (fun i o e => by
          rcases (h6 i e).1.1 with e3 | e3
          · rw [← hE1] at e3; exact (hO1 i e3).1.imp id (fun e4 => e4.1)
          · exact .inr (by omega))
        exact kept_more k5 kp (fun i o e => .inr (by omega))
    have hcb := h2.cell
    clear hUp hBW kc h6 h2 h3 h4 h5 hnD hK
    gi_wp2_with fail
    refine ⟨trivial, (callsIn_wide.2 WK).mono ?_⟩
    rintro e w4 ⟨⟨x4, rfl⟩, hU4⟩
    have HF := FIN.out w4 hU4
    have hK4 := HF.1
    have HF2 := hide HF.2
    clear HF hU4 WK FIN
    gi_wp2
    refine ⟨by simp, .inl ⟨_, _, rfl, run_takeDeferred hK4, ?_⟩⟩
    exact ⟨_, results_none rfl _ _ _, ⟨_, rfl⟩, HF2.out⟩
  case stop => exact fun D c pre W _ _ h _ => h.elim
end
end Go.Proofs.YtijfcickgicncaaGreatDoor
/-
  An order that is cancelled, as a chief leads it alone; the law's order in its box, beside the chief.
-/
namespace Go.Proofs.YtijfcickgicncaaGreatDoor
open Go.RowKit Sg Bl

theorem One.yes {v : Ch} {o : Od} {a : Bool} {n : Nat} (h : One v o a true n) {fr : Int} (hf : keepB fr = true) : hdSA v ⟨7, fr, 0, o.id, 0, 0, 0⟩ = (v, []) := by
  obtain ⟨y, hy⟩ := h.l
  have hw : (frL o a true y).wt = false := by cases a <;> rfl
  unfold hdSA
  rw [h.d, show (⟨7, fr, 0, o.id, 0, 0, 0⟩ : Mg).id = o.id from rfl, hy]
  rw [if_neg (by rintro (e | e); · cases e
                 · exact e rfl), if_neg (by rintro ⟨e, -⟩; cases e)]
  dsimp only
  rw [if_pos hf]
  unfold keepSA
  rw [hw]
  rw [if_neg (by rintro ⟨-, e⟩; cases e), if_neg (by rintro ⟨-, e⟩; cases e), if_neg (by rintro ⟨e, -⟩; cases e), if_neg (by rintro ⟨e, -⟩; cases e)]
theorem One.acc {v : Ch} {o : Od} {a : Bool} {n : Nat} (hm : mayO o = true) (h : One v o a true n) : accE v o.id = 7 ∧ accS v o.id = v := by
  obtain ⟨y, hy⟩ := h.l
  have hs : stF (frL o a true y).o (frL o a true y).f = 4 := by
    show stF o (frF o.steps.length a true) = 4
    rw [st_fr hm]; rfl
  unfold accE accS
  rw [h.d, hy]
  simp only [hs]
  exact ⟨rfl, rfl⟩

/-- The law's order in its box, the chief beside it. -/
def OSt (w : World) (o : Od) (a : Option Addr) (c : Nat) (u : World) (p : Nat) (O : Pt → Nat → Prop) (v : Ch) : Prop := Cu w O u p v ∧ Abc u O w.heap.size (.cells #[.int .i64 o.id, .int .i64 o.item, .int .i64 o.qty, .int .i64 o.client, .int .i64 o.price, .slice a o.steps.length c] 32)
section
variable {w u u' : World} {o : Od} {a : Option Addr} {c p : Nat} {O O' : Pt → Nat → Prop} {v v' : Ch}
theorem OSt.step (h : OSt w o a c u p O v) (k : Cu w O' u' p v') (g : Go_ O u O' u') : OSt w o a c u' p O' v' := ⟨k, h.2.step g⟩
theorem OSt.on (h : OSt w o a c u p O v) (hb : Below u.heap.size u u') : OSt w o a c u' p O v := ⟨h.1.on hb, h.2.on hb⟩
theorem OSt.new (hb : Below w.heap.size w u) (hx : u.heap[w.heap.size]? = some (.cells #[.int .i64 o.id, .int .i64 o.item, .int .i64 o.qty, .int .i64 o.client, .int .i64 o.price, .slice a o.steps.length c] 32)) (x y z : Int) :
    Calls Tryz.prog 9 #[.int .i64 x, .int .i64 y, .int .i64 z] u fun e w' => ∃ p O, e = .returned (.pointer (some ⟨p, 0, none⟩)) ∧ OSt w o a c w' p O (newCh x y z) := by
  refine (Cu.new hb x y z).mono ?_
  rintro e w' ⟨p, O, h1, h2, h3, h4⟩
  have hlt := (Array.getElem?_eq_some_iff.1 hx).1
  exact ⟨p, O, h1, h2, (h3.block _ hlt).trans hx, fun e => by have := h4 _ e; omega⟩
theorem OSt.begin (hg : Gl w) (w0 : OdIn w o a c) (hm : mayO o = true) (k : OSt w o a c u p O v) {n : Int} (hn : begE v o = n) (hv : begS v o = v') :
    Calls Tryz.prog 11 #[.pointer (some ⟨p, 0, none⟩), .agg #[.int .i64 o.id, .int .i64 o.item, .int .i64 o.qty, .int .i64 o.client, .int .i64 o.price, .slice a o.steps.length c]] u fun e w' => ∃ x O', e = .returned (.tuple #[x, .int .i64 n]) ∧ OSt w o a c w' p O' v' :=
  (k.1.begin hg o (w0.below k.1.2).2.1 w0.1 (wf_id (mayO_of hm).1.1 (mayO_of hm).1.2) hn hv rfl).mono (fun _ _ ⟨_, _, O', e1, _, e3, e4⟩ => ⟨_, O', e1, k.step e3 e4⟩)
theorem OSt.handle (hg : Gl w) (k : OSt w o a c u p O v) (m : Mg) (hw : (Lit.int .i64 m.id).wf = true) {xs : List Mg} (hv : hdSA v m = (v', xs)) :
    Calls Tryz.prog 24 #[.pointer (some ⟨p, 0, none⟩), .agg #[.int .i64 m.k, .int .i64 m.fr, .int .i64 m.to, .int .i64 m.id, .int .i64 m.st, .int .i64 m.a, .int .i64 m.b]] u fun e w' => ∃ x O', e = .returned x ∧ OSt w o a c w' p O' v' :=
  (k.1.handle hg m hw (by rw [hv]) (xs := xs) (by rw [hv])).mono (fun _ _ ⟨_, _, O', e1, _, e3, e4⟩ => ⟨_, O', e1, k.step e3 e4⟩)
theorem OSt.state (hm : mayO o = true) (k : OSt w o a c u p O v) {n : Int} (hn : stC v o.id = n) :
    Calls Tryz.prog 35 #[.pointer (some ⟨p, 0, none⟩), .int .i64 o.id] u fun e w' => e = .returned (.int .i64 n) ∧ OSt w o a c w' p O v :=
  (k.1.state (wf_id (mayO_of hm).1.1 (mayO_of hm).1.2) hn).mono (fun _ _ ⟨e1, e2⟩ => ⟨e1, k.on e2⟩)
theorem OSt.at0 (k : OSt w o a c u p O v) : u.heap[w.heap.size]? = some (.cells #[.int .i64 o.id, .int .i64 o.item, .int .i64 o.qty, .int .i64 o.client, .int .i64 o.price, .slice a o.steps.length c] 32) := k.2.1
theorem OSt.c06 (k : OSt w o a c u p O v) : u.cell? ⟨w.heap.size, 0, none⟩ = some (.int .i64 o.id) ∧ u.cell? ⟨w.heap.size, 1, none⟩ = some (.int .i64 o.item) ∧ u.cell? ⟨w.heap.size, 2, none⟩ = some (.int .i64 o.qty) ∧ u.cell? ⟨w.heap.size, 3, none⟩ = some (.int .i64 o.client) ∧ u.cell? ⟨w.heap.size, 4, none⟩ = some (.int .i64 o.price) ∧ u.cell? ⟨w.heap.size, 5, none⟩ = some (.slice a o.steps.length c) := by
  refine ⟨?_, ?_, ?_, ?_, ?_, ?_⟩ <;> rw [cell_of k.at0] <;> rfl
theorem OSt.below (k : OSt w o a c u p O v) : Below w.heap.size w u := k.1.2
end
end Go.Proofs.YtijfcickgicncaaGreatDoor
/-
  A chief that is down, above a world w0; taken down and up again.
-/
namespace Go.Proofs.YtijfcickgicncaaGreatDoor
open Go.ChangeShapes Go.WideShapes Go.ChangeAt Go.RowKit Go.Maps Sg Bl

/-- The chief at p, down, above w0; its blocks are O's. -/
def Dn (w0 : World) (O : Pt → Nat → Prop) (w : World) (p : Nat) (v : Ch) : Prop := (∃ q r b bt loc Lq, CkV w0.heap.size O w p v q r b bt loc Lq ∧ JL Lq v) ∧ GoodCh v ∧ v.down = true ∧ Below w0.heap.size w0 w
section
variable {w0 w w' : World} {O O' : Pt → Nat → Prop} {p : Nat} {v v' : Ch}
theorem Dn.on (k : Dn w0 O w p v) (hb : Below w.heap.size w w') : Dn w0 O w' p v := by
  obtain ⟨⟨q, r, b, bt, loc, Lq, h1, h2⟩, h3, h4, h5⟩ := k
  exact ⟨⟨q, r, b, bt, loc, Lq, h1.on hb, h2⟩, h3, h4, bel_on' h5 hb⟩
theorem Cu.crash (k : Cu w0 O w p v) (stay torn : Int) (hv : crC v stay = v') :
    Calls Tryz.prog 19 #[.pointer (some ⟨p, 0, none⟩), .int .i64 stay, .int .i64 torn] w fun e w' => ∃ O', (∃ x, e = .returned x) ∧ Dn w0 O' w' p v' ∧ Go_ O w O' w' := by
  subst hv
  obtain ⟨⟨q, r, b, bt, loc, h⟩, hb⟩ := k
  refine (ccrash_up h stay torn).mono ?_
  rintro e w' ⟨h1, O', r', b', h2, h3, h4⟩
  exact ⟨O', h1, ⟨⟨q, r', b', bt, _, _, h2, crC_jl h.g (fun x hx => (h.k.jr.2.2.2.2.2 x hx).1) stay torn⟩, crC_good h.g stay, rfl, hb.trans (h4.bel h.k.low (fun i _ ⟨y, e⟩ => (h.k.bd y i e).1))⟩, h3, h4⟩
theorem Dn.start (hg : Gl w0) (k : Dn w0 O w p v) (hv : upC v = v') :
    Calls Tryz.prog 21 #[.pointer (some ⟨p, 0, none⟩)] w fun e w' => ∃ O', (∃ x, e = .returned x) ∧ Cu w0 O' w' p v' ∧ Go_ O w O' w' := by
  subst hv
  obtain ⟨⟨q, r, b, bt, loc, Lq, h1, h2⟩, h3, h4, h5⟩ := k
  refine (cstart_down hg h5 h1 h3 h4 h2).mono ?_
  rintro e w' ⟨e1, O', r', loc', k1, g1, K1⟩
  exact ⟨O', e1, ⟨⟨q, r', b, bt, loc', k1⟩, h5.trans (K1.bel h1.low (fun i _ ⟨y, e⟩ => (h1.bd y i e).1))⟩, g1, K1⟩
theorem Cu.noL (k : Cu w0 O w p v) {x : Int} (h : ∀ e ∈ v.T, e.id ≠ x) : v.L x = none := by
  obtain ⟨⟨q, r, b, bt, loc, hu⟩, _⟩ := k
  have h1 := congrFun (hu.g.up hu.d) x
  have key : ∀ (T : List Et) (L : Int → Option Lk), L x = none → (∀ e ∈ T, e.id ≠ x) → T.foldl fol L x = none := by
    intro T
    induction T with
    | nil => exact fun L h _ => h
    | cons e T ih =>
      intro L hL hT
      refine ih (fol L e) ?_ (fun e he => hT e (List.mem_cons_of_mem _ he))
      unfold fol
      rw [Gd.updO_other _ _ (fun e2 => hT e (List.mem_cons_self ..) e2.symm)]
      exact hL
  have h2 : runT v.T x = none := key v.T _ rfl h
  unfold core at h1
  simp only [h2, Option.map_none, Option.map_eq_none_iff] at h1
  exact h1
end
end Go.Proofs.YtijfcickgicncaaGreatDoor
/-
  ChiefPresumes, plainly: an order without steps, its chief taken down and up again.
-/
namespace Go.Proofs.YtijfcickgicncaaGreatDoor
open Go.RowKit Sg Bl

theorem only_of : ∀ {l : List Int} {k : Int}, l.Nodup → (∀ x, x ∈ l ↔ x = k) → l = [k]
  | [], k, _, h => absurd ((h k).2 rfl) (by simp)
  | x :: r, k, hn, h => by
    have hx : x = k := (h x).1 (List.mem_cons_self ..)
    subst hx
    cases r with
    | nil => rfl
    | cons y r =>
      have hy : y = x := (h y).1 (List.mem_cons_of_mem _ (List.mem_cons_self ..))
      subst hy
      exact absurd (List.mem_cons_self ..) (List.nodup_cons.1 hn).1
theorem ids_one {L : Int → Option Lk} {k : Int} {l : Lk} (g : GoodM L) (hk : L k = some l) (ho : ∀ x, x ≠ k → L x = none) : idsC L = [k] := by
  refine only_of (idsC_nodup L) (fun x => (idsC_mem g).trans ⟨fun h => ?_, fun e => ?_⟩)
  · by_cases e : x = k
    · exact e
    · rw [ho x e] at h
      cases h
  · rw [e, hk]
    rfl
/-- The order's journal, where it begins. -/
theorem pr_T {o : Od} (hm : mayO o = true) (hs : o.steps = []) : (begS (newCh 3 100 3) o).T = [⟨0, o.id, [o.item, o.qty, o.client, o.price]⟩, askE o.id] ∧ (begS (newCh 3 100 3) o).su = 1 ∧ (begS (newCh 3 100 3) o).t = 3 ∧ (begS (newCh 3 100 3) o).room = 100 := by
  have hE := (One.new hm 3 100 3 (by decide)).1
  have hn : o.steps.length = 0 := by rw [hs]; rfl
  have hov : overF o (frF o.steps.length false false) = false := over_fr hm false false
  have hN : nextF o (frF o.steps.length false false) = prepL o := by rw [next_fr hm false, if_pos hn]
  unfold begS
  rw [hE, if_pos rfl]
  unfold goS
  rw [show overF (begL o).o (begL o).f = false from hov]
  simp only [Bool.false_eq_true, if_false]
  unfold sendS
  have hp : (prepB (begL o) && !(begL o).f.asked) = true := by
    unfold prepB
    rw [show nextF (begL o).o (begL o).f = prepL o from hN]
    rfl
  rw [if_pos hp]
  unfold noteS
  have hr : roomC (agnC (begV (newCh 3 100 3) o) (begL o).o.id) ([askE (begL o).o.id] : List Et).length = true := by
    unfold roomC
    rw [decide_eq_true_eq]
    show (((([] : List Et) ++ begT o).length : Nat) : Int) + ((1 : Nat) : Int) ≤ roomV 100
    rw [List.nil_append, begT_len, hn]
    decide
  rw [if_pos hr]
  refine ⟨?_, ?_, rfl, rfl⟩
  · show ([] ++ begT o) ++ [askE o.id] = _
    unfold begT
    rw [hs]
    rfl
  · show 0 + (begT o).length = 1
    rw [begT_len, hn]
/-- The order as the journal's first entry alone says it, and both. -/
theorem pr_run {o : Od} (hs : o.steps = []) : runT [⟨0, o.id, [o.item, o.qty, o.client, o.price]⟩] o.id = some (frL o false false none) ∧ (∀ x, x ≠ o.id → runT [⟨0, o.id, [o.item, o.qty, o.client, o.price]⟩] x = none) ∧
    runT [⟨0, o.id, [o.item, o.qty, o.client, o.price]⟩, askE o.id] o.id = some (frL o true false (some (false, false))) ∧ (∀ x, x ≠ o.id → runT [⟨0, o.id, [o.item, o.qty, o.client, o.price]⟩, askE o.id] x = none) := by
  have h1 : runT [⟨0, o.id, [o.item, o.qty, o.client, o.price]⟩] o.id = some (frL o false false none) := by
    show fol noL _ o.id = _
    unfold fol
    rw [show (⟨0, o.id, [o.item, o.qty, o.client, o.price]⟩ : Et).id = o.id from rfl, Gd.updO_same, if_pos rfl]
    unfold frL frF
    rw [hs]
    obtain ⟨id, item, qty, client, price, steps⟩ := o
    cases hs
    rfl
  have h2 : ∀ x, x ≠ o.id → runT [⟨0, o.id, [o.item, o.qty, o.client, o.price]⟩] x = none := fun x hx => by
    show fol noL _ x = none
    unfold fol
    rw [show (⟨0, o.id, [o.item, o.qty, o.client, o.price]⟩ : Et).id = o.id from rfl, Gd.updO_other _ _ hx]
    rfl
  refine ⟨h1, h2, ?_, fun x hx => ?_⟩
  · show fol (runT [⟨0, o.id, [o.item, o.qty, o.client, o.price]⟩]) (askE o.id) o.id = _
    unfold fol
    rw [show (askE o.id).id = o.id from rfl, Gd.updO_same, if_neg (by intro e2; cases e2), h1]
    rfl
  · show fol (runT [⟨0, o.id, [o.item, o.qty, o.client, o.price]⟩]) (askE o.id) x = _
    unfold fol
    rw [show (askE o.id).id = o.id from rfl, Gd.updO_other _ _ hx]
    exact h2 x hx
/-- Up again, one order alone. -/
theorem up_one {v : Ch} {o : Od} {l : Lk} (hd : v.down = true) (g : GoodM (runT v.T)) (h1 : runT v.T o.id = some l) (h2 : ∀ x, x ≠ o.id → runT v.T x = none) : upC v = wkC (rvC v) o.id := by
  unfold upC
  rw [if_pos hd, ids_one g h1 h2]
  rfl
theorem hang_at {t : Int} {h : Int → Int} {id : Int} (h1 : 1 ≤ id) (h2 : id ≤ 999) (h0 : h id = 0) : hangH t h id id = t + 1 := by
  unfold hangH
  rw [if_pos (by unfold hangB isI; simp [h0]; omega), Bl.upd_same]
theorem ring_far {v : Ch} {o : Od} {l : Lk} (hl : v.L o.id = some l) (h : v.h o.id = 4) : rngS v o.id = sendS (setH v (ringH v.h o.id)) l ∧ rngA v o.id = sendA (setH v (ringH v.h o.id)) l := by
  unfold rngS rngA
  rw [h, if_neg (by decide), if_neg (by decide), hl]
  have e : oftB v.h o.id = false := by unfold oftB; rw [h]; decide
  dsimp only
  rw [e]
  exact ⟨if_neg (by decide), if_neg (by decide)⟩
section
variable {o : Od} {v : Ch}
theorem pr_none (hm : mayO o = true) (hs : o.steps = []) (g : GoodCh v) (hT : v.T = [⟨0, o.id, [o.item, o.qty, o.client, o.price]⟩, askE o.id]) (hsu : v.su = 1) (ht : v.t = 3) (hr : v.room = 100) :
    rngA (upC (crC v 0)) o.id = prepL o ∧ stC (rngS (upC (crC v 0)) o.id) o.id = 2 := by
  have hn : o.steps.length = 0 := by rw [hs]; rfl
  obtain ⟨r1, r2, -, -⟩ := pr_run hs
  have hk : (crC v 0).T = [⟨0, o.id, [o.item, o.qty, o.client, o.price]⟩] := by
    show v.T.take (kpC v 0) = _
    unfold kpC
    rw [hT, hsu]
    rfl
  have gk := crC_good g 0
  rw [← hk] at r1 r2
  rw [up_one (v := crC v 0) rfl (noL_good.fols gk.ok) r1 r2]
  obtain ⟨vD, hD⟩ : ∃ vD, crC v 0 = vD := ⟨_, rfl⟩
  have hDt : vD.t = 3 := by rw [← hD]; exact ht
  have hDr : vD.room = 100 := by rw [← hD]; exact hr
  rw [hD] at r1 r2 hk ⊢
  have hw : wkC (rvC vD) o.id = hgC (rvC vD) o.id := by
    unfold wkC
    rw [show (rvC vD).L o.id = _ from r1]
    dsimp only
    rw [show overF (frL o false false none).o (frL o false false none).f = false from over_fr hm false false]
    rfl
  rw [hw]
  have h4 : (hgC (rvC vD) o.id).h o.id = 4 := by
    show hangH vD.t (fun _ => 0) o.id o.id = 4
    rw [hang_at (mayO_of hm).1.1 (mayO_of hm).1.2 rfl, hDt]
    rfl
  have hl : (hgC (rvC vD) o.id).L o.id = some (frL o false false none) := r1
  obtain ⟨e1, e2⟩ := ring_far hl h4
  have o1 : One (setH (hgC (rvC vD) o.id) (ringH (hgC (rvC vD) o.id).h o.id)) o false false 1 := ⟨rfl, ⟨none, r1⟩, by show vD.T.length ≤ 1; rw [hk]; exact Nat.le_refl _, r2⟩
  have key := o1.send hm (y := none) r1 (by show ((1 + 1 : Nat) : Int) ≤ vD.room; rw [hDr]; decide)
  rw [e1, e2]
  refine ⟨by rw [key.2.1, next_fr hm false, if_pos hn], ?_⟩
  have k1 := key.1
  rw [decide_eq_true hn] at k1
  exact k1.st hm
theorem pr_some (hm : mayO o = true) (hs : o.steps = []) (g : GoodCh v) (hT : v.T = [⟨0, o.id, [o.item, o.qty, o.client, o.price]⟩, askE o.id]) (hsu : v.su = 1) (ht : v.t = 3) (hr : v.room = 100) {stay : Int} (hst : 1 ≤ stay) :
    rngA (upC (crC v stay)) o.id = [msgM o 10 1, msgM o 10 2] ∧ stC (rngS (upC (crC v stay)) o.id) o.id = 4 := by
  have hn : o.steps.length = 0 := by rw [hs]; rfl
  obtain ⟨-, -, r1, r2⟩ := pr_run hs
  have hk : (crC v stay).T = [⟨0, o.id, [o.item, o.qty, o.client, o.price]⟩, askE o.id] := by
    show v.T.take (kpC v stay) = _
    unfold kpC
    rw [hT, hsu]
    have : 1 + min stay.toNat (([⟨0, o.id, [o.item, o.qty, o.client, o.price]⟩, askE o.id] : List Et).length - 1) = 2 := by
      show 1 + min stay.toNat 1 = 2
      omega
    rw [this]
    rfl
  have gk := crC_good g stay
  rw [← hk] at r1 r2
  rw [up_one (v := crC v stay) rfl (noL_good.fols gk.ok) r1 r2]
  obtain ⟨vD, hD⟩ : ∃ vD, crC v stay = vD := ⟨_, rfl⟩
  have hDt : vD.t = 3 := by rw [← hD]; exact ht
  have hDr : vD.room = 100 := by rw [← hD]; exact hr
  rw [hD] at r1 r2 hk ⊢
  have o1 : One (rvC vD) o true false 2 := ⟨rfl, ⟨_, r1⟩, by show vD.T.length ≤ 2; rw [hk]; exact Nat.le_refl _, r2⟩
  obtain ⟨t1, t2, t3⟩ := o1.turn hm (y := some (false, false)) r1 (by show ((2 + 1 : Nat) : Int) ≤ vD.room; rw [hDr]; decide)
  have hw : wkC (rvC vD) o.id = hgC (sgS (rvC vD) (frL o true false (some (false, false))) 5 []) o.id := by
    unfold wkC
    rw [show (rvC vD).L o.id = _ from r1]
    dsimp only
    rw [show overF (frL o true false (some (false, false))).o (frL o true false (some (false, false))).f = false from over_fr hm true false]
    rfl
  have ht4 : (sgS (rvC vD) (frL o true false (some (false, false))) 5 []).t = 3 ∧ (sgS (rvC vD) (frL o true false (some (false, false))) 5 []).h o.id = 0 := by
    have hrm : roomC (rvC vD) 1 = true := room_of (k := 1) o1.len (by show ((2 + 1 : Nat) : Int) ≤ vD.room; rw [hDr]; decide)
    have hov : overF (folL (frL o true false (some (false, false))) 5 []).o (folL (frL o true false (some (false, false))) 5 []).f = false := over_fr hm true true
    obtain ⟨r, hN, -⟩ := next_tn hm true
    have hp : prepB (folL (frL o true false (some (false, false))) 5 []) = false := by
      unfold prepB
      rw [show nextF (folL (frL o true false (some (false, false))) 5 []).o (folL (frL o true false (some (false, false))) 5 []).f = msgM o 10 1 :: msgM o 10 2 :: r from hN]
      rfl
    unfold sgS goS
    rw [hrm, if_pos rfl, hov]
    simp only [Bool.false_eq_true, if_false]
    unfold sendS
    rw [hp]
    simp only [Bool.false_and, Bool.false_eq_true, if_false]
    refine ⟨hDt, ?_⟩
    show agnH vD.t (fun _ => 0) o.id o.id = 0
    unfold agnH
    rw [if_pos rfl]
  rw [hw]
  obtain ⟨vS, hS⟩ : ∃ vS, sgS (rvC vD) (frL o true false (some (false, false))) 5 [] = vS := ⟨_, rfl⟩
  rw [hS] at t1 t3 ht4 ⊢
  have h4 : (hgC vS o.id).h o.id = 4 := by
    show hangH vS.t vS.h o.id o.id = 4
    rw [hang_at (mayO_of hm).1.1 (mayO_of hm).1.2 ht4.2, ht4.1]
    rfl
  obtain ⟨y, hy⟩ := t1.l
  have hl : (hgC vS o.id).L o.id = some (frL o true true y) := hy
  obtain ⟨e1, e2⟩ := ring_far hl h4
  rw [e1, e2]
  have hN : nextF o (frF o.steps.length true true) = [msgM o 10 1, msgM o 10 2] := by
    unfold nextF Sg.backL
    rw [may_fr hm, hm]
    simp only [Bool.true_eq_false, if_false, if_true]
    show runS (bckS o (frF o.steps.length true true)) _ [] = _
    rw [hn]
    rfl
  have hp : prepB (frL o true true y) = false := by
    unfold prepB
    rw [show nextF (frL o true true y).o (frL o true true y).f = _ from hN]
    rfl
  unfold sendS sendA
  rw [hp]
  simp only [Bool.false_and, Bool.false_eq_true, if_false]
  refine ⟨hN, ?_⟩
  exact ((t1.setH _).setH _).st hm
end
end Go.Proofs.YtijfcickgicncaaGreatDoor
/-
  The law's awake, of a chief.
-/
namespace Go.Proofs.YtijfcickgicncaaGreatDoor
open Go.ChangeShapes Go.WideShapes Go.ChangeAt Go.RowKit Go.Maps Sg Bl

theorem AnC.two {w : World} {O : Pt → Nat → Prop} {a : Option Addr} {c : Nat} {m0 m1 : Mg} (h : AnC w O a c [m0, m1]) : ∃ b off, a = some ⟨b, off, none⟩ ∧ w.cell? ⟨b, off, none⟩ = some (.int .i64 m0.k) ∧ w.cell? ⟨b, off + 7, none⟩ = some (.int .i64 m1.k) := by
  rcases h.mgs with h1 | ⟨b, off, h1, h2⟩
  · cases h1
  · exact ⟨b, off, h1, h2 0 _ rfl, h2 7 _ rfl⟩
def oA : Od := ⟨7, 0, 1, 0, 1, []⟩
def mA : Mg := ⟨8, 2, 0, 7, 0, 0, 0⟩
theorem aw_e : begE (newCh 5 50 3) oA = 0 := by kernel_rfl
theorem aw_a : begA (newCh 5 50 3) oA = [⟨6, 0, 1, 7, 0, 0, 1⟩, ⟨6, 0, 2, 7, 0, 0, 1⟩] := by kernel_rfl
theorem aw_h : (hdSA (begS (newCh 5 50 3) oA) mA).2 = [⟨10, 0, 1, 7, 0, 0, 0⟩, ⟨10, 0, 2, 7, 0, 0, 0⟩] := by kernel_rfl
theorem aw_s : stC (hdSA (begS (newCh 5 50 3) oA) mA).1 7 = 4 := by kernel_rfl
set_option maxRecDepth 100000 in
set_option maxHeartbeats 1000000 in
theorem cwake_any (w : World) (hg : Gl w) : Calls Tryz.prog 8 #[] w fun e w' => e = .returned (.bool true) ∧ Below w.heap.size w w' := by
  have N := Cu.new (w0 := w) (Below.refl _ _) 5 50 3
  have A1 := aw_e
  have A2 := aw_a
  have A3 := aw_h
  have A4 := aw_s
  generalize newCh 5 50 3 = v0 at *
  obtain ⟨v1, hv1⟩ : ∃ v1, begS v0 oA = v1 := ⟨_, rfl⟩
  rw [hv1] at A3 A4
  obtain ⟨v2, hv2⟩ : ∃ v2, (hdSA v1 mA).1 = v2 := ⟨_, rfl⟩
  rw [hv2] at A4
  have HB : Hid (∀ u p O, Cu w O u p v0 → Calls Tryz.prog 11 #[.pointer (some ⟨p, 0, none⟩), .agg #[.int .i64 7, .int .i64 0, .int .i64 1, .int .i64 0, .int .i64 1, .slice none 0 0]] u fun e w' => ∃ a c O', e = .returned (.tuple #[.slice a 2 c, .int .i64 0]) ∧ AnC w' O' a c [⟨6, 0, 1, 7, 0, 0, 1⟩, ⟨6, 0, 2, 7, 0, 0, 1⟩] ∧ Cu w O' w' p v1) := fun u p O k =>
    (k.begin hg oA (sa := none) (sc := 0) (.inl rfl) (by decide) (by decide) A1 hv1 A2).mono (fun _ _ ⟨a, c, O', e1, e2, e3, _⟩ => ⟨a, c, O', e1, e2, e3⟩)
  have HH : Hid (∀ u p O a c, Cu w O u p v1 → AnC u O a c [⟨6, 0, 1, 7, 0, 0, 1⟩, ⟨6, 0, 2, 7, 0, 0, 1⟩] → Calls Tryz.prog 24 #[.pointer (some ⟨p, 0, none⟩), .agg #[.int .i64 8, .int .i64 2, .int .i64 0, .int .i64 7, .int .i64 0, .int .i64 0, .int .i64 0]] u fun e w' => ∃ a2 c2, e = .returned (.slice a2 2 c2) ∧ (∃ b off, a2 = some ⟨b, off, none⟩ ∧ w'.cell? ⟨b, off + 7, none⟩ = some (.int .i64 10)) ∧ (∃ b off, a = some ⟨b, off, none⟩ ∧ w'.cell? ⟨b, off, none⟩ = some (.int .i64 6)) ∧ Calls Tryz.prog 35 #[.pointer (some ⟨p, 0, none⟩), .int .i64 7] w' fun e w'' => e = .returned (.int .i64 4) ∧ Below w.heap.size w w'') := fun u p O a c k h => by
    refine (k.handle hg mA (by decide) hv2 A3).mono ?_
    rintro e w' ⟨a2, c2, O2, e1, e2, e3, e4⟩
    obtain ⟨b, off, g1, g2, -⟩ := (h.step e4).two
    obtain ⟨b2, off2, g3, -, g4⟩ := e2.two
    exact ⟨a2, c2, e1, ⟨b2, off2, g3, g4⟩, ⟨b, off, g1, g2⟩, (e3.state (id := 7) (by decide) A4).mono (fun _ _ ⟨z1, z2⟩ => ⟨z1, bel_on' e3.2 z2⟩)⟩
  clear A1 A2 A3 A4 hv1 hv2 hg
  go_enter Tryz.func8, Tryz.ntmps8
  go_wp2_with (first
    | (go_at_call 9; refine N.mono ?_; clear N; rintro e u1 ⟨p, O, rfl, h1, -, -⟩; have B2 := HB.out u1 p O h1; clear h1 HB)
    | (go_at_call 11; refine B2.mono ?_; clear B2; rintro e u2 ⟨a, c, O1, rfl, h1, h2⟩; have H2 := HH.out u2 p O1 a c h2 h1; clear h1 h2 HH)
    | (go_at_call 24; refine H2.mono ?_; clear H2; rintro e u3 ⟨a2, c2, rfl, ⟨b2, o2, rfl, d2⟩, ⟨b1, o1, rfl, d1⟩, h3⟩; have S2 := h3; clear h3)
    | (go_at_call 35; refine S2.mono ?_; clear S2; rintro e u4 ⟨rfl, hb⟩; have HX := hide hb; clear hb))
  go_ret
  exact ⟨rfl, HX.out⟩
end Go.Proofs.YtijfcickgicncaaGreatDoor
/-
  What a chief sent is answered, message by message; contracts beside the law's order.
-/
namespace Go.Proofs.YtijfcickgicncaaGreatDoor
open Go.ChangeShapes Go.WideShapes Go.ChangeAt Go.RowKit Go.Maps Sg Bl

section
variable {w u : World} {o : Od} {a : Option Addr} {c p : Nat} {O : Pt → Nat → Prop} {v v' : Ch}
theorem OSt.ring (hg : Gl w) (hm : mayO o = true) (k : OSt w o a c u p O v) (hv : rngS v o.id = v') {xs : List Mg} (hx : rngA v o.id = xs) :
    Calls Tryz.prog 17 #[.pointer (some ⟨p, 0, none⟩), .int .i64 o.id] u fun e w' => ∃ x y O', e = .returned (.slice x xs.length y) ∧ OSt w o a c w' p O' v' :=
  (k.1.ring hg (wf_id (mayO_of hm).1.1 (mayO_of hm).1.2) hv hx).mono (fun _ _ ⟨x, y, O', e1, _, e3, e4⟩ => ⟨x, y, O', e1, k.step e3 e4⟩)
theorem OSt.beginA (hg : Gl w) (w0 : OdIn w o a c) (hm : mayO o = true) (k : OSt w o a c u p O v) {n : Int} (hn : begE v o = n) (hv : begS v o = v') {xs : List Mg} (hx : begA v o = xs) :
    Calls Tryz.prog 11 #[.pointer (some ⟨p, 0, none⟩), .agg #[.int .i64 o.id, .int .i64 o.item, .int .i64 o.qty, .int .i64 o.client, .int .i64 o.price, .slice a o.steps.length c]] u fun e w' => ∃ x y O', e = .returned (.tuple #[.slice x xs.length y, .int .i64 n]) ∧ AnC w' O' x y xs ∧ OSt w o a c w' p O' v' :=
  (k.1.begin hg o (w0.below k.1.2).2.1 w0.1 (wf_id (mayO_of hm).1.1 (mayO_of hm).1.2) hn hv hx).mono (fun _ _ ⟨x, y, O', e1, e2, e3, e4⟩ => ⟨x, y, O', e1, e2, k.step e3 e4⟩)
end
end Go.Proofs.YtijfcickgicncaaGreatDoor
/-
  ChiefPresumes: the walk.
-/
namespace Go.Proofs.YtijfcickgicncaaGreatDoor
open Go.ChangeShapes Go.WideShapes Go.ChangeAt Go.RowKit Go.Maps Sg Bl

section
variable {w u u' : World} {o : Od} {a : Option Addr} {c p : Nat} {O O' : Pt → Nat → Prop} {v v' : Ch}
/-- Taken down, and up again. -/
theorem OSt.downup (hg : Gl w) (k : OSt w o a c u p O v) (stay torn : Int) {vD vU : Ch} (hD : crC v stay = vD) (hU : upC vD = vU) :
    Calls Tryz.prog 19 #[.pointer (some ⟨p, 0, none⟩), .int .i64 stay, .int .i64 torn] u fun e w' => (∃ x, e = .returned x) ∧ Calls Tryz.prog 21 #[.pointer (some ⟨p, 0, none⟩)] w' fun e w'' => (∃ x, e = .returned x) ∧ ∃ O', OSt w o a c w'' p O' vU :=
  (k.1.crash stay torn hD).mono (fun _ _ ⟨_, e1, e2, e3⟩ => ⟨e1, (e2.start hg hU).mono (fun _ _ ⟨O2, g1, g2, g3⟩ => ⟨g1, O2, g2, (k.2.step e3).step g3⟩)⟩)
theorem OSt.ring2 (hg : Gl w) (hm : mayO o = true) (k : OSt w o a c u p O v) (hv : rngS v o.id = v') {m0 m1 : Mg} (hx : rngA v o.id = [m0, m1]) :
    Calls Tryz.prog 17 #[.pointer (some ⟨p, 0, none⟩), .int .i64 o.id] u fun e w' => ∃ x y O', e = .returned (.slice x 2 y) ∧ OSt w o a c w' p O' v' ∧ AnC w' O' x y [m0, m1] :=
  (k.1.ring hg (wf_id (mayO_of hm).1.1 (mayO_of hm).1.2) hv hx).mono (fun _ _ ⟨x, y, _, e1, e2, e3, e4⟩ => ⟨x, y, _, e1, k.step e3 e4, e2⟩)
/-- Its state, an answer beside it. -/
theorem OSt.state2 (hg : Gl w) (hm : mayO o = true) (k : OSt w o a c u p O v) {x : Option Addr} {y : Nat} {m0 m1 : Mg} (hA : AnC u O x y [m0, m1]) {n : Int} (hn : stC v o.id = n) :
    Calls Tryz.prog 35 #[.pointer (some ⟨p, 0, none⟩), .int .i64 o.id] u fun e w' => e = .returned (.int .i64 n) ∧ (∃ b off, x = some ⟨b, off, none⟩ ∧ w'.cell? ⟨b, off, none⟩ = some (.int .i64 m0.k)) ∧
      Calls Tryz.prog 8 #[] w' fun e w'' => e = .returned (.bool true) ∧ Below w.heap.size w w'' := by
  refine (k.1.state (wf_id (mayO_of hm).1.1 (mayO_of hm).1.2) hn).mono ?_
  rintro e w' ⟨e1, e2⟩
  obtain ⟨b, off, g1, g2, -⟩ := (hA.on e2).two
  exact ⟨e1, ⟨b, off, g1, g2⟩, (cwake_any w' (hg.on (k.on e2).below)).mono (fun _ _ ⟨z1, z2⟩ => ⟨z1, bel_on' (k.on e2).below z2⟩)⟩
end
/-- Where it may not be. -/
theorem presumes_low (o : Od) (a : Option Addr) (c : Nat) (b : Int) (w : World) (w0 : OdIn w o a c) (hg : Gl w) (hno : ¬ (o.steps.length = 0 ∧ mayO o = true)) :
    Calls Tryz.prog 6 #[.agg #[.int .i64 o.id, .int .i64 o.item, .int .i64 o.qty, .int .i64 o.client, .int .i64 o.price, .slice a o.steps.length c], .int .i64 b] w fun e w' => e = .returned (.bool true) ∧ Below w.heap.size w w' := by
  have hb0 : Below w.heap.size w (w.alloc (.cells #[.int .i64 o.id, .int .i64 o.item, .int .i64 o.qty, .int .i64 o.client, .int .i64 o.price, .slice a o.steps.length c] 32)) := (Below.refl _ _).alloc (Nat.le_refl _) _
  by_cases hs : o.steps.length = 0
  · have RM := hide (ref_omay_any o a c (w.alloc (.cells #[.int .i64 o.id, .int .i64 o.item, .int .i64 o.qty, .int .i64 o.client, .int .i64 o.price, .slice a o.steps.length c] 32)) (w0.below hb0).2.1 w0.1 w0.2.2.2)
    cases hm : mayO o
    · rw [hm] at RM
      have AW : Hid (∀ u, Below (w.heap.size + 1) (w.alloc (.cells #[.int .i64 o.id, .int .i64 o.item, .int .i64 o.qty, .int .i64 o.client, .int .i64 o.price, .slice a o.steps.length c] 32)) u → Calls Tryz.prog 8 #[] u fun e w' => e = .returned (.bool true) ∧ Below w.heap.size w w') := fun u hu =>
        (cwake_any u (hg.on (bel_on' hb0 (by simpa using hu)))).mono (fun _ _ ⟨e1, e2⟩ => ⟨e1, bel_on' (bel_on' hb0 (by simpa using hu)) e2⟩)
      rw [hs] at RM AW ⊢
      clear hb0 hg w0 hm hno hs
      go_enter Tryz.func6, Tryz.ntmps6
      go_wp2_with (first
        | (go_at_call 32; refine RM.out.mono ?_; clear RM; rintro e u1 ⟨rfl, h1⟩; have A2 := hide (AW.out u1 (by simpa using h1)); clear h1 AW)
        | (go_at_call 8; refine A2.out.mono ?_; clear A2; rintro e u1 ⟨rfl, h1⟩; have H1 := hide h1; clear h1))
      go_ret
      exact ⟨rfl, H1.out⟩
    · exact absurd ⟨hs, hm⟩ hno
  · have hs2 : ((o.steps.length : Int) != 0) = true := by simpa using hs
    have AW := hide (cwake_any (w.alloc (.cells #[.int .i64 o.id, .int .i64 o.item, .int .i64 o.qty, .int .i64 o.client, .int .i64 o.price, .slice a o.steps.length c] 32)) (hg.on hb0))
    have HB := hide hb0
    clear hb0 hg w0 hno hs
    go_enter Tryz.func6, Tryz.ntmps6
    go_wp2_with (first
      | (go_at_call 8; refine AW.out.mono ?_; clear AW; rintro e u1 ⟨rfl, h1⟩; have H1 := hide h1; clear h1))
    go_ret
    exact ⟨rfl, bel_on' HB.out H1.out⟩
/-- Where it may be: its journal, read again. -/
theorem presumes_at (o : Od) (a : Option Addr) (c : Nat) (w : World) (w0 : OdIn w o a c) (hg : Gl w) (hs : o.steps.length = 0) (hm : mayO o = true) (S : Int) {v1 vD vU vR : Ch} {m0 m1 : Mg} {n : Int}
    (h1 : begS (newCh 3 100 3) o = v1) (h2 : crC v1 S = vD) (h3 : upC vD = vU) (h4 : rngS vU o.id = vR)
    (hF : GoodCh v1 → rngA vU o.id = [m0, m1] ∧ stC vR o.id = n) :
    Hid (∀ u, Below (w.heap.size + 1) (w.alloc (.cells #[.int .i64 o.id, .int .i64 o.item, .int .i64 o.qty, .int .i64 o.client, .int .i64 o.price, .slice a o.steps.length c] 32)) u → Calls Tryz.prog 9 #[.int .i64 3, .int .i64 100, .int .i64 3] u fun e w' => ∃ p O, e = .returned (.pointer (some ⟨p, 0, none⟩)) ∧ OSt w o a c w' p O (newCh 3 100 3)) ∧
    Hid (∀ u p O, OSt w o a c u p O (newCh 3 100 3) → Calls Tryz.prog 11 #[.pointer (some ⟨p, 0, none⟩), .agg #[.int .i64 o.id, .int .i64 o.item, .int .i64 o.qty, .int .i64 o.client, .int .i64 o.price, .slice a o.steps.length c]] u fun e w' => ∃ x y O', e = .returned (.tuple #[.slice x 2 y, .int .i64 0]) ∧ OSt w o a c w' p O' v1) ∧
    Hid (∀ u p O, OSt w o a c u p O v1 → Calls Tryz.prog 35 #[.pointer (some ⟨p, 0, none⟩), .int .i64 o.id] u fun e w' => e = .returned (.int .i64 2) ∧ OSt w o a c w' p O v1) ∧
    Hid (∀ u p O, OSt w o a c u p O v1 → Calls Tryz.prog 19 #[.pointer (some ⟨p, 0, none⟩), .int .i64 S, .int .i64 0] u fun e w' => (∃ x, e = .returned x) ∧ Calls Tryz.prog 21 #[.pointer (some ⟨p, 0, none⟩)] w' fun e w'' => (∃ x, e = .returned x) ∧ ∃ O', OSt w o a c w'' p O' vU) ∧
    Hid (GoodCh v1 → ∀ u p O, OSt w o a c u p O vU → Calls Tryz.prog 17 #[.pointer (some ⟨p, 0, none⟩), .int .i64 o.id] u fun e w' => ∃ x y O', e = .returned (.slice x 2 y) ∧ OSt w o a c w' p O' vR ∧ AnC w' O' x y [m0, m1]) ∧
    Hid (GoodCh v1 → ∀ u p O x y, OSt w o a c u p O vR → AnC u O x y [m0, m1] → Calls Tryz.prog 35 #[.pointer (some ⟨p, 0, none⟩), .int .i64 o.id] u fun e w' => e = .returned (.int .i64 n) ∧ (∃ b off, x = some ⟨b, off, none⟩ ∧ w'.cell? ⟨b, off, none⟩ = some (.int .i64 m0.k)) ∧
      Calls Tryz.prog 8 #[] w' fun e w'' => e = .returned (.bool true) ∧ Below w.heap.size w w'') := by
  have hb0 : Below w.heap.size w (w.alloc (.cells #[.int .i64 o.id, .int .i64 o.item, .int .i64 o.qty, .int .i64 o.client, .int .i64 o.price, .slice a o.steps.length c] 32)) := (Below.refl _ _).alloc (Nat.le_refl _) _
  have hx0 := World.alloc_heap_new w (.cells #[.int .i64 o.id, .int .i64 o.item, .int .i64 o.qty, .int .i64 o.client, .int .i64 o.price, .slice a o.steps.length c] 32)
  obtain ⟨n1, n2, n3, -⟩ := One.new hm 3 100 3 (by decide)
  rw [next_fr hm false, if_pos hs] at n3
  rw [h1, decide_eq_true hs] at n2
  refine ⟨fun u hu => OSt.new (bel_on' hb0 (by simpa using hu)) ((hu.block _ (by simp)).trans hx0) 3 100 3, fun u p O k => ?_, fun u p O k => k.state hm (n2.st hm), fun u p O k => k.downup hg S 0 h2 h3, fun g u p O k => k.ring2 hg hm h4 (hF g).1, fun g u p O x y k hA => k.state2 hg hm hA (hF g).2⟩
  exact (k.beginA hg w0 hm n1 h1 n3).mono (fun _ _ ⟨x, y, O', e1, _, e3⟩ => ⟨x, y, O', e1, e3⟩)
set_option maxRecDepth 100000 in
set_option maxHeartbeats 1000000 in
theorem presumes_none (o : Od) (a : Option Addr) (c : Nat) (b : Int) (w : World) (w0 : OdIn w o a c) (hg : Gl w) (hs : o.steps.length = 0) (hm : mayO o = true) (S : Int) (hb : um b 3 = S) (hS : S = 0) :
    Calls Tryz.prog 6 #[.agg #[.int .i64 o.id, .int .i64 o.item, .int .i64 o.qty, .int .i64 o.client, .int .i64 o.price, .slice a o.steps.length c], .int .i64 b] w fun e w' => e = .returned (.bool true) ∧ Below w.heap.size w w' := by
  have hb0 : Below w.heap.size w (w.alloc (.cells #[.int .i64 o.id, .int .i64 o.item, .int .i64 o.qty, .int .i64 o.client, .int .i64 o.price, .slice a o.steps.length c] 32)) := (Below.refl _ _).alloc (Nat.le_refl _) _
  have RM := hide (ref_omay_any o a c (w.alloc (.cells #[.int .i64 o.id, .int .i64 o.item, .int .i64 o.qty, .int .i64 o.client, .int .i64 o.price, .slice a o.steps.length c] 32)) (w0.below hb0).2.1 w0.1 w0.2.2.2)
  rw [hm] at RM
  have hs' : o.steps = [] := List.length_eq_zero_iff.1 hs
  obtain ⟨t1, t2, t3, t4⟩ := pr_T hm hs'
  obtain ⟨v1, h1⟩ : ∃ v1, begS (newCh 3 100 3) o = v1 := ⟨_, rfl⟩
  obtain ⟨vD, h2⟩ : ∃ vD, crC v1 S = vD := ⟨_, rfl⟩
  obtain ⟨vU, h3⟩ : ∃ vU, upC vD = vU := ⟨_, rfl⟩
  obtain ⟨vR, h4⟩ : ∃ vR, rngS vU o.id = vR := ⟨_, rfl⟩
  have hF : GoodCh v1 → rngA vU o.id = [⟨6, 0, 1, o.id, 0, o.item, o.qty⟩, ⟨6, 0, 2, o.id, 0, o.client, o.price⟩] ∧ stC vR o.id = 2 := fun g => by
    rw [← h4, ← h3, ← h2, hS]
    rw [← h1] at g ⊢
    exact pr_none hm hs' g t1 t2 t3 t4
  obtain ⟨HN, HB, HS, HC, HR0, HT0⟩ := presumes_at o a c w w0 hg hs hm S h1 h2 h3 h4 hF
  have HC2 : Hid (∀ u p O, OSt w o a c u p O v1 → GoodCh v1) := fun u p O k => k.1.good
  have hne : ((o.steps.length : Int) != 0) = false := by rw [hs]; rfl
  unfold um at hb
  generalize newCh 3 100 3 = v0 at *
  subst hS
  clear hb0 hg w0 hm hs hs' t1 t2 t3 t4 h1 h2 h3 h4 hF
  go_enter Tryz.func6, Tryz.ntmps6
  go_wp2_with (first
      | (go_at_call 32; refine RM.out.mono ?_; clear RM; rintro e u1 ⟨rfl, h1⟩; have N1 := HN.out _ (by simpa using h1); clear h1 HN)
      | (go_at_call 9; refine N1.mono ?_; clear N1; rintro e u2 ⟨p, O2, rfl, h1⟩; obtain ⟨x0, x1, x2, x3, x4, x5⟩ := h1.c06; have B2 := HB.out _ _ _ h1; clear h1 HB)
      | (go_at_call 11; refine B2.mono ?_; clear B2 x0 x1 x2 x3 x4 x5; rintro e u3 ⟨y3, z3, O3, rfl, h1⟩; obtain ⟨x0, x1, x2, x3, x4, x5⟩ := h1.c06; have S3 := HS.out _ _ _ h1; clear h1 HS)
      | (go_at_call 35; refine S3.mono ?_; clear S3; rintro e u4 ⟨rfl, h1⟩; have C4 := HC.out _ _ _ h1; have G4 := HC2.out _ _ _ h1; have HR := hide (HR0.out G4); have HT := hide (HT0.out G4); clear h1 HC HC2 HR0 HT0 G4)
      | (go_at_call 19; refine C4.mono ?_; clear C4 x0 x1 x2 x3 x4 x5; rintro e u5 ⟨⟨r5, rfl⟩, h1⟩; have S5 := h1; clear h1)
      | (go_at_call 21; refine S5.mono ?_; clear S5; rintro e u5' ⟨⟨r6, rfl⟩, O5, h1⟩; obtain ⟨x0, x1, x2, x3, x4, x5⟩ := h1.c06; have R6 := HR.out _ _ _ h1; clear h1 HR)
      | (go_at_call 17; refine R6.mono ?_; clear R6 x0 x1 x2 x3 x4 x5; rintro e u6 ⟨y6, z6, O6, rfl, h1, h2⟩; obtain ⟨x0, x1, x2, x3, x4, x5⟩ := h1.c06; obtain ⟨b6, o6, rfl, d6, -⟩ := h2.two; have T6 := HT.out _ _ _ _ _ h1 h2; clear h1 h2 HT)
      | (go_at_call 35; refine T6.mono ?_; clear T6 d6 x0 x1 x2 x3 x4 x5; rintro e u7 ⟨rfl, ⟨b7, o7, hbo, d7⟩, h1⟩; cases hbo; have W7 := h1; clear h1)
      | (go_at_call 8; refine W7.mono ?_; clear W7; rintro e u8 ⟨rfl, h1⟩; have HX := hide h1; clear h1))
  go_ret
  exact ⟨rfl, HX.out⟩
set_option maxRecDepth 100000 in
set_option maxHeartbeats 1000000 in
theorem presumes_some (o : Od) (a : Option Addr) (c : Nat) (b : Int) (w : World) (w0 : OdIn w o a c) (hg : Gl w) (hs : o.steps.length = 0) (hm : mayO o = true) (S : Int) (hb : um b 3 = S) (hS : 1 ≤ S) :
    Calls Tryz.prog 6 #[.agg #[.int .i64 o.id, .int .i64 o.item, .int .i64 o.qty, .int .i64 o.client, .int .i64 o.price, .slice a o.steps.length c], .int .i64 b] w fun e w' => e = .returned (.bool true) ∧ Below w.heap.size w w' := by
  have hb0 : Below w.heap.size w (w.alloc (.cells #[.int .i64 o.id, .int .i64 o.item, .int .i64 o.qty, .int .i64 o.client, .int .i64 o.price, .slice a o.steps.length c] 32)) := (Below.refl _ _).alloc (Nat.le_refl _) _
  have RM := hide (ref_omay_any o a c (w.alloc (.cells #[.int .i64 o.id, .int .i64 o.item, .int .i64 o.qty, .int .i64 o.client, .int .i64 o.price, .slice a o.steps.length c] 32)) (w0.below hb0).2.1 w0.1 w0.2.2.2)
  rw [hm] at RM
  have hs' : o.steps = [] := List.length_eq_zero_iff.1 hs
  obtain ⟨t1, t2, t3, t4⟩ := pr_T hm hs'
  obtain ⟨v1, h1⟩ : ∃ v1, begS (newCh 3 100 3) o = v1 := ⟨_, rfl⟩
  obtain ⟨vD, h2⟩ : ∃ vD, crC v1 S = vD := ⟨_, rfl⟩
  obtain ⟨vU, h3⟩ : ∃ vU, upC vD = vU := ⟨_, rfl⟩
  obtain ⟨vR, h4⟩ : ∃ vR, rngS vU o.id = vR := ⟨_, rfl⟩
  have hF : GoodCh v1 → rngA vU o.id = [⟨10, 0, 1, o.id, 0, 0, 0⟩, ⟨10, 0, 2, o.id, 0, 0, 0⟩] ∧ stC vR o.id = 4 := fun g => by
    rw [← h4, ← h3, ← h2]
    rw [← h1] at g ⊢
    exact pr_some hm hs' g t1 t2 t3 t4 hS
  obtain ⟨HN, HB, HS, HC, HR0, HT0⟩ := presumes_at o a c w w0 hg hs hm S h1 h2 h3 h4 hF
  have HC2 : Hid (∀ u p O, OSt w o a c u p O v1 → GoodCh v1) := fun u p O k => k.1.good
  have hne : ((o.steps.length : Int) != 0) = false := by rw [hs]; rfl
  unfold um at hb
  generalize newCh 3 100 3 = v0 at *
  clear hb0 hg w0 hm hs hs' t1 t2 t3 t4 h1 h2 h3 h4 hF
  go_enter Tryz.func6, Tryz.ntmps6
  go_wp2_with (first
      | (go_at_call 32; refine RM.out.mono ?_; clear RM; rintro e u1 ⟨rfl, h1⟩; have N1 := HN.out _ (by simpa using h1); clear h1 HN)
      | (go_at_call 9; refine N1.mono ?_; clear N1; rintro e u2 ⟨p, O2, rfl, h1⟩; obtain ⟨x0, x1, x2, x3, x4, x5⟩ := h1.c06; have B2 := HB.out _ _ _ h1; clear h1 HB)
      | (go_at_call 11; refine B2.mono ?_; clear B2 x0 x1 x2 x3 x4 x5; rintro e u3 ⟨y3, z3, O3, rfl, h1⟩; obtain ⟨x0, x1, x2, x3, x4, x5⟩ := h1.c06; have S3 := HS.out _ _ _ h1; clear h1 HS)
      | (go_at_call 35; refine S3.mono ?_; clear S3; rintro e u4 ⟨rfl, h1⟩; have C4 := HC.out _ _ _ h1; have G4 := HC2.out _ _ _ h1; have HR := hide (HR0.out G4); have HT := hide (HT0.out G4); clear h1 HC HC2 HR0 HT0 G4)
      | (go_at_call 19; refine C4.mono ?_; clear C4 x0 x1 x2 x3 x4 x5; rintro e u5 ⟨⟨r5, rfl⟩, h1⟩; have S5 := h1; clear h1)
      | (go_at_call 21; refine S5.mono ?_; clear S5; rintro e u5' ⟨⟨r6, rfl⟩, O5, h1⟩; obtain ⟨x0, x1, x2, x3, x4, x5⟩ := h1.c06; have R6 := HR.out _ _ _ h1; clear h1 HR)
      | (go_at_call 17; refine R6.mono ?_; clear R6 x0 x1 x2 x3 x4 x5; rintro e u6 ⟨y6, z6, O6, rfl, h1, h2⟩; obtain ⟨x0, x1, x2, x3, x4, x5⟩ := h1.c06; obtain ⟨b6, o6, rfl, d6, -⟩ := h2.two; have T6 := HT.out _ _ _ _ _ h1 h2; clear h1 h2 HT)
      | (go_at_call 35; refine T6.mono ?_; clear T6 d6 x0 x1 x2 x3 x4 x5; rintro e u7 ⟨rfl, ⟨b7, o7, hbo, d7⟩, h1⟩; cases hbo; have W7 := h1; clear h1)
      | (go_at_call 8; refine W7.mono ?_; clear W7; rintro e u8 ⟨rfl, h1⟩; have HX := hide h1; clear h1))
  go_ret
  exact ⟨rfl, HX.out⟩
theorem chiefPresumes_walk (o : Od) (a : Option Addr) (c : Nat) (b : Int) (w : World) (w0 : OdIn w o a c) (_w1 : (Lit.int .i64 b).wf = true) (hg : Gl w) :
    Calls Tryz.prog 6 #[.agg #[.int .i64 o.id, .int .i64 o.item, .int .i64 o.qty, .int .i64 o.client, .int .i64 o.price, .slice a o.steps.length c], .int .i64 b] w fun e w' => e = .returned (.bool true) ∧ Below w.heap.size w w' := by
  by_cases h : o.steps.length = 0 ∧ mayO o = true
  · obtain ⟨b1, b2⟩ := um_bd b 3 (by omega) (by omega)
    by_cases hz : um b 3 = 0
    · exact presumes_none o a c b w w0 hg h.1 h.2 _ rfl hz
    · exact presumes_some o a c b w w0 hg h.1 h.2 _ rfl (by omega)
  · exact presumes_low o a c b w w0 hg h
end Go.Proofs.YtijfcickgicncaaGreatDoor
