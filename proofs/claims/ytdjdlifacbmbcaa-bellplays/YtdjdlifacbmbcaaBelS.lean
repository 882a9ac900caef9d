/-
  A tower in memory: its block, its map (made with the first bell). Contracts of bell's isId, has, New; those of a nil tower.
-/
import Derived.Test.YtdjdlifacbmbcaaBelM
import Derived.Test.YtdjdlifacbmbcaaRg
import Derived.Maps.OwnSet
import Derived.Deep.CutBlock
namespace Go.Proofs.Ytdjdlifacbmbcaa
open Go.ChangeShapes Go.WideShapes Go.ChangeAt Go.RowKit Go.Maps

theorem lawI : Keyed Try.prog 3 := int_keyed Try.underlying3
theorem zeroI (w : World) : (zeroValue 3).run Try.prog w = .ok (.int .i64 0) w := by kernel_rfl
theorem wf_of {a : Int} (h1 : -9223372036854775808 ≤ a) (h2 : a ≤ 9223372036854775807) : (Lit.int .i64 a).wf = true := WalkArith.wf_i64 ⟨h1, h2⟩
theorem bel_al {a w : World} (h : Below a.heap.size a w) (o : Obj) : Below a.heap.size a (w.alloc o) := h.alloc h.size o

/-- The map reads as h: one more than what is there, 0 where there is none. -/
def FitB (D : DataW Unit) (h : Int → Int) : Prop := IsMap D ∧ ∀ x : Int, D.atKey (.int .i64 x) (.lit (.int .i64 0)) = .lit (.int .i64 (lf (h x))) ∧ Maps.has D (.int .i64 x) = decide (h x ≠ 0)
theorem FitB.new : FitB (.map []) (fun _ => 0) := ⟨isMap_empty, fun _ => ⟨rfl, rfl⟩⟩
theorem FitB.put {D : DataW Unit} {h : Int → Int} (f : FitB D h) (id n : Int) (hn : 0 ≤ n) : FitB (D.put (.int .i64 id) (.lit (.int .i64 n))) (upd h id (n + 1)) := by
  refine ⟨f.1.put _ _, fun x => ?_⟩
  by_cases e : x = id
  · subst e
    have hk : WideAt.IsKeyLit (Lit.int .i64 x) := trivial
    rw [upd_same, atKey_put_same f.1 hk, has_put_same f.1 hk, lf_up hn]
    exact ⟨rfl, by simp; omega⟩
  · rw [upd_other h _ e, atKey_put_other (by simpa using e), has_put_other (by simpa using e)]
    exact f.2 x
theorem FitB.del {D : DataW Unit} {h : Int → Int} (f : FitB D h) (id : Int) : FitB (D.del (.int .i64 id)) (upd h id 0) := by
  refine ⟨f.1.del _, fun x => ?_⟩
  by_cases e : x = id
  · subst e
    rw [upd_same, atKey_del_same, has_del_same]
    exact ⟨rfl, by simp⟩
  · rw [upd_other h 0 e, atKey_del_other (by simpa using e), has_del_other (by simpa using e)]
    exact f.2 x

/-- A set of blocks, and what has come behind all that lay there. -/
def growE (E : Nat → Prop) (w w' : World) : Nat → Prop := fun k => E k ∨ (w.heap.size ≤ k ∧ k < w'.heap.size)
/-- The tower's block, its map mv. -/
def BtV (E : Nat → Prop) (w : World) (p : Nat) (t : Int) (h : Int → Int) (n : Nat) (mv : Value) : Prop :=
  w.heap[p]? = some (.cells #[.int .i64 t, mv] 43 (0, 0)) ∧
  ((mv = .map none ∧ h = fun _ => 0) ∨ ∃ b, mv = .map (some b) ∧ E b ∧ ∃ D : DataW Unit, w.ownsMap Try.prog 3 (plainElem Try.prog 3) b n D ∧ FitB D h)
/-- The tower at p; all its blocks are of E. -/
def Bt (B : Nat) (E : Nat → Prop) (w : World) (p : Nat) (t : Int) (h : Int → Int) (n : Nat) : Prop :=
  (∀ k, E k → B ≤ k ∧ k < w.heap.size) ∧ E p ∧ GoodT t h ∧ ∃ mv, BtV E w p t h n mv
section
variable {B : Nat} {E E' : Nat → Prop} {w w' : World} {p : Nat} {t : Int} {h : Int → Int} {n n' : Nat} {mv : Value}
theorem BtV.kept {F : Nat → Obj → Prop} (k : BtV E w p t h n mv) (hp : E p) (hk : Rg.Kept F w w') (hE : ∀ k o, E k → ¬ F k o) : BtV E w' p t h n mv := by
  obtain ⟨h1, h2⟩ := k
  refine ⟨hk.block _ _ h1 (hE _ _ hp), ?_⟩
  rcases h2 with h2 | ⟨b, e1, e2, D, ⟨es, c, e3, e4⟩, e5⟩
  · exact .inl h2
  · exact .inr ⟨b, e1, e2, D, ⟨es, c, hk.block _ _ e3 (hE _ _ e2), e4⟩, e5⟩
theorem BtV.mono (k : BtV E w p t h n mv) (hn : n ≤ n') (hE : ∀ k, E k → E' k) : BtV E' w p t h n' mv :=
  ⟨k.1, k.2.imp id (fun ⟨b, e1, e2, D, e3, e4⟩ => ⟨b, e1, hE _ e2, D, e3.mono hn, e4⟩)⟩
theorem Bt.good (k : Bt B E w p t h n) : GoodT t h := k.2.2.1
theorem Bt.low (k : Bt B E w p t h n) : B ≤ w.heap.size := by have := k.1 p k.2.1; omega
theorem Bt.more (k : Bt B E w p t h n) (hn : n ≤ n') : Bt B E w p t h n' := by
  obtain ⟨h1, h2, h3, mv, h4⟩ := k
  exact ⟨h1, h2, h3, mv, h4.mono hn (fun _ e => e)⟩
theorem Bt.kept {F : Nat → Obj → Prop} (k : Bt B E w p t h n) (hk : Rg.Kept F w w') (hE : ∀ k o, E k → ¬ F k o) : Bt B E w' p t h n := by
  obtain ⟨h1, h2, h3, mv, h4⟩ := k
  exact ⟨fun k e => ⟨(h1 k e).1, Nat.lt_of_lt_of_le (h1 k e).2 hk.size⟩, h2, h3, mv, h4.kept h2 hk hE⟩
theorem Bt.on (k : Bt B E w p t h n) (hb : Below w.heap.size w w') : Bt B E w' p t h n := k.kept (F := fun _ _ => False) (Rg.Kept.of_below hb) (fun _ _ _ h => h)
theorem Bt.grow {W : World} (k : Bt B E w p t h n) (hB : B ≤ W.heap.size) : Bt B (growE E W w) w p t h n := by
  obtain ⟨h1, h2, h3, mv, h4⟩ := k
  exact ⟨fun k e => e.elim (h1 k) (fun e => ⟨by omega, e.2⟩), .inl h2, h3, mv, h4.mono (Nat.le_refl _) (fun _ e => .inl e)⟩
theorem Bt.bel (k : Bt B E w p t h n) (hk : Rg.Kept (fun i _ => E i) w w') : Below B w w' := hk.bel k.low (fun i _ e => (k.1 i e).1)
theorem BtV.cellT (k : BtV E w p t h n mv) : w.cell? ⟨p, 0, none⟩ = some (.int .i64 t) := by rw [cell_of k.1]; rfl
theorem BtV.cellM (k : BtV E w p t h n mv) : w.cell? ⟨p, 1, none⟩ = some mv := by rw [cell_of k.1]; rfl
theorem BtV.frozen (k : BtV E w p t h n mv) (i : Nat) : w.frozen? ⟨p, i, none⟩ = false := frozen_of_row _ _ _ _ _ k.1
theorem BtV.lt (k : BtV E w p t h n mv) : p < w.heap.size := (Array.getElem?_eq_some_iff.1 k.1).1
/-- A look-up that tells whether it is there. -/
theorem BtV.look_ok (k : BtV E w p t h n mv) {id : Int} (hw : (Lit.int .i64 id).wf = true) :
    (Instr.lookup 41 mv (.int .i64 id) true).run Try.prog w = .ok (.tuple #[.int .i64 (lf (h id)), .bool (hasB h id)]) w := by
  rcases k.2 with ⟨rfl, rfl⟩ | ⟨b, rfl, _, D, h5, h6⟩
  · show _ = Result.ok (Value.tuple #[.int .i64 0, .bool false]) w
    kernel_rfl
  · obtain ⟨v, ps, hrun, hv⟩ := h5.look_ok lawI Try.underlying41 (zeroI _) (plainElem_int Try.underlying3 (by decide)) (keyOf_int_mk Try.underlying3 hw)
    obtain ⟨c, rfl, hc, _⟩ := plainElem_int_inv Try.underlying3 hv
    have e1 := (h6.2 id).1
    have e2 : D.atKey (.int .i64 id) (.lit (.int .i64 0)) = .lit (.int .i64 c) := congrArg Prod.fst hc
    rw [e1] at e2
    rw [hrun, (h6.2 id).2]
    cases e2
    rfl
end
theorem own_look {w : World} {b n : Nat} {D : DataW Unit} (h5 : w.ownsMap Try.prog 3 (plainElem Try.prog 3) b n D) {id : Int} (hw : (Lit.int .i64 id).wf = true) {x : Int} (hx : D.atKey (.int .i64 id) (.lit (.int .i64 0)) = .lit (.int .i64 x)) :
    (Instr.lookup 41 (.map (some b)) (.int .i64 id) false).run Try.prog w = .ok (.int .i64 x) w := by
  obtain ⟨v, ps, hrun, hv⟩ := h5.lookup lawI Try.underlying41 (zeroI _) (plainElem_int Try.underlying3 (by decide)) (keyOf_int_mk Try.underlying3 hw)
  obtain ⟨c, rfl, hc, _⟩ := plainElem_int_inv Try.underlying3 hv
  have e2 : D.atKey (.int .i64 id) (.lit (.int .i64 0)) = .lit (.int .i64 c) := congrArg Prod.fst hc
  rw [hx] at e2
  rw [hrun]
  cases e2
  rfl
theorem turned_kept {w w1 : World} {b : Nat} (h : w.mapTurned w1 b) : Rg.Kept (fun i _ => i = b) w w1 := Rg.Kept.grown h.grown (fun i _ e => (by cases e; rfl))

theorem bisid_any (id : Int) (w : World) : Calls Try.prog 21 #[.int .i64 id] w fun e w' => e = .returned (.bool (isI id)) ∧ w = w' := by
  by_cases h0 : 1 ≤ id
  · by_cases h1 : id ≤ 999
    · have hm : true = isI id := (isI_iff.2 ⟨h0, h1⟩).symm
      rw [← hm]
      clear hm
      go_enter Try.func21, Try.ntmps21
      go_wp2
      go_ret
      exact ⟨rfl, rfl⟩
    · have hm : false = isI id := by unfold isI; simp; omega
      rw [← hm]
      clear hm
      go_enter Try.func21, Try.ntmps21
      go_wp2
      go_ret
      exact ⟨rfl, rfl⟩
  · have hm : false = isI id := by unfold isI; simp; omega
    rw [← hm]
    clear hm
    go_enter Try.func21, Try.ntmps21
    go_wp2
    go_ret
    exact ⟨rfl, rfl⟩
set_option maxHeartbeats 400000 in
theorem bhas_any {B : Nat} {E : Nat → Prop} {w : World} {p : Nat} {t : Int} {h : Int → Int} {n : Nat} (k : Bt B E w p t h n) {id : Int} (hw : (Lit.int .i64 id).wf = true) :
    Calls Try.prog 22 #[.pointer (some ⟨p, 0, none⟩), .int .i64 id] w fun e w' => e = .returned (.bool (hasB h id)) ∧ w = w' := by
  obtain ⟨-, -, -, mv, hv⟩ := k
  have c1 := hv.cellM
  have hl := hv.look_ok hw
  clear hv
  obtain ⟨v, hv⟩ : ∃ v, v = lf (h id) := ⟨_, rfl⟩
  obtain ⟨q, hq⟩ : ∃ q, q = hasB h id := ⟨_, rfl⟩
  rw [← hq, ← hv] at hl
  rw [← hq]
  clear hv hq
  go_enter Try.func22, Try.ntmps22
  go_wp2
  go_ret
  exact ⟨rfl, rfl⟩
theorem bhasnil_any (id : Int) (w : World) : Calls Try.prog 22 #[.pointer none, .int .i64 id] w fun e w' => e = .returned (.bool false) ∧ w = w' := by
  go_enter Try.func22, Try.ntmps22
  go_wp2
  go_ret
  exact ⟨rfl, rfl⟩
theorem bhangnil_any (id : Int) (w : World) : Calls Try.prog 9 #[.pointer none, .int .i64 id] w fun e w' => e = .returned (.bool false) ∧ w = w' := by
  go_enter Try.func9, Try.ntmps9
  go_wp2
  go_ret
  exact ⟨rfl, rfl⟩
theorem bcutnil_any (id : Int) (w : World) : Calls Try.prog 11 #[.pointer none, .int .i64 id] w fun e w' => e = .returned (.bool false) ∧ w = w' := by
  go_enter Try.func11, Try.ntmps11
  go_wp2_with (go_at_call 22; refine (bhasnil_any _ _).mono ?_; rintro e w' ⟨rfl, rfl⟩)
  go_ret
  exact ⟨rfl, rfl⟩
theorem bagnnil_any (id : Int) (w : World) : Calls Try.prog 13 #[.pointer none, .int .i64 id] w fun e w' => e = .returned (.bool false) ∧ w = w' := by
  go_enter Try.func13, Try.ntmps13
  go_wp2_with (go_at_call 22; refine (bhasnil_any _ _).mono ?_; rintro e w' ⟨rfl, rfl⟩)
  go_ret
  exact ⟨rfl, rfl⟩
theorem bringnil_any (id : Int) (w : World) : Calls Try.prog 15 #[.pointer none, .int .i64 id] w fun e w' => e = .returned (.tuple #[.bool false, .bool false]) ∧ w = w' := by
  go_enter Try.func15, Try.ntmps15
  go_wp2_with (go_at_call 22; refine (bhasnil_any _ _).mono ?_; rintro e w' ⟨rfl, rfl⟩)
  go_ret2
  exact ⟨rfl, rfl⟩
set_option maxHeartbeats 400000 in
theorem bnew_any (r : Int) (w : World) :
    Calls Try.prog 7 #[.int .i64 r] w fun e w' => ∃ p, e = .returned (.pointer (some ⟨p, 0, none⟩)) ∧ p = w.heap.size ∧ Bt w.heap.size (fun k => k = p) w' p (clampT r) (fun _ => 0) 0 ∧ Below w.heap.size w w' := by
  have hG : Hid (GoodT (clampT r) (fun _ => 0)) := GoodT.new
  have key : ∀ c W, c = clampT r → W = w.alloc (.cells #[.int .i64 c, .map none] 43) → Bt w.heap.size (fun k => k = w.heap.size) W w.heap.size (clampT r) (fun _ => 0) 0 ∧ Below w.heap.size w W := by
    rintro c W rfl rfl
    exact ⟨⟨fun k e => ⟨Nat.le_of_eq e.symm, by rw [e]; simp⟩, rfl, hG.out, _, World.alloc_heap_new _ _, .inl ⟨rfl, rfl⟩⟩, bel_al (Below.refl _ _) _⟩
  have KEY := hide key
  clear key hG
  by_cases h0 : 1 ≤ r
  · by_cases h1 : r ≤ 20
    · have HC : Hid (r = clampT r) := (clampT_in h0 h1).symm
      go_enter Try.func7, Try.ntmps7
      go_wp2
      go_ret
      exact ⟨_, rfl, rfl, KEY.out _ _ HC.out rfl⟩
    · have HC : Hid (20 = clampT r) := by show _ = _; unfold clampT; rw [if_neg (by omega), if_neg h1]
      go_enter Try.func7, Try.ntmps7
      go_wp2
      go_ret
      exact ⟨_, rfl, rfl, KEY.out _ _ HC.out rfl⟩
  · have HC : Hid (1 = clampT r) := by show _ = _; unfold clampT; rw [if_pos (by omega)]
    go_enter Try.func7, Try.ntmps7
    go_wp2
    go_ret
    exact ⟨_, rfl, rfl, KEY.out _ _ HC.out rfl⟩
end Go.Proofs.Ytdjdlifacbmbcaa
