/-
  KeeperLasts: the keeper, the ways of nine orders, and what each took, in memory.
-/
import Derived.Test.YthkgjggbpgkmpaaGreatDoorSgbfejem
import Derived.Deep.AppendLies
namespace Go.Proofs.YthkgjggbpgkmpaaGreatDoor
open Go.ChangeShapes Go.WideShapes Go.ChangeAt Go.RowKit Go.Maps

/-- Block k lies as o, and is none of E. -/
def Abk (w : World) (E : Nat → Prop) (k : Nat) (o : Obj) : Prop := w.heap[k]? = some o ∧ ¬ E k
section
variable {w w' : World} {E E' : Nat → Prop} {k : Nat} {o : Obj}
theorem Abk.lt (h : Abk w E k o) : k < w.heap.size := (Array.getElem?_eq_some_iff.1 h.1).1
theorem Abk.step (h : Abk w E k o) (hk : Rg.Kept (fun k _ => E k) w w') (hE : ∀ k, E' k → growE E w w' k) : Abk w' E' k o :=
  ⟨hk.block _ _ h.1 h.2, fun e => (hE k e).elim h.2 (fun e => by have := h.lt; omega)⟩
theorem Abk.on (h : Abk w E k o) (hb : Below w.heap.size w w') : Abk w' E k o := ⟨(hb.block _ h.lt).trans h.1, h.2⟩
theorem Abk.kept {F : Nat → Obj → Prop} (h : Abk w E k o) (hk : Rg.Kept F w w') (hF : ¬ F k o) : Abk w' E k o := ⟨hk.block _ _ h.1 hF, h.2⟩
end
theorem own_kept {F : Nat → Obj → Prop} {W W' : World} {base : Nat} {e : TypeId} {s : Nat} {v : Value} {n : Nat} {xs : List Value} (h : W.ownsRow base e s v n xs) (hk : Rg.Kept F W W') (hF : ∀ k o, v.ownBlock = some k → ¬ F k o) : W'.ownsRow base e s v n xs := by
  refine ⟨h.1, ?_⟩
  rcases h.2 with h | ⟨g, cap, cur, rfl, hg, hc, rest⟩
  · exact .inl h
  · exact .inr ⟨g, cap, cur, rfl, hg, hk.block _ _ hc (hF _ _ rfl), rest⟩
def updX {α : Type} (f : Nat → α) (i : Nat) (x : α) : Nat → α := fun k => if k = i then x else f k
theorem updX_same {α : Type} (f : Nat → α) (i : Nat) (x : α) : updX f i x i = x := by simp [updX]
theorem updX_other {α : Type} (f : Nat → α) {i k : Nat} (x : α) (h : k ≠ i) : updX f i x k = f k := by simp [updX, h]
def ten (f : Nat → Value) : Array Value := #[f 0, f 1, f 2, f 3, f 4, f 5, f 6, f 7, f 8, f 9]
theorem ten_get (f : Nat → Value) {i : Nat} (h : i < 10) : (ten f)[i]? = some (f i) := by
  have : i = 0 ∨ i = 1 ∨ i = 2 ∨ i = 3 ∨ i = 4 ∨ i = 5 ∨ i = 6 ∨ i = 7 ∨ i = 8 ∨ i = 9 := by omega
  rcases this with rfl | rfl | rfl | rfl | rfl | rfl | rfl | rfl | rfl | rfl <;> rfl
theorem ten_put (f : Nat → Value) {i : Nat} (h : i < 10) (x : Value) : (ten f).setIfInBounds i x = ten (updX f i x) := by
  have : i = 0 ∨ i = 1 ∨ i = 2 ∨ i = 3 ∨ i = 4 ∨ i = 5 ∨ i = 6 ∨ i = 7 ∨ i = 8 ∨ i = 9 := by omega
  rcases this with rfl | rfl | rfl | rfl | rfl | rfl | rfl | rfl | rfl | rfl <;> rfl
def intv (mu : Nat → Int) : Nat → Value := fun k => .int .i64 (mu k)
theorem intv_put (mu : Nat → Int) (i : Nat) (x : Int) : updX (intv mu) i (.int .i64 x) = intv (updN mu i x) := by
  funext k
  unfold updX intv updN
  split <;> rfl

/-- The keeper at p, the ways' block a with the rows F that read as W, the block b of what each took. -/
structure LY (w0 wr : World) (p a b : Nat) (E : Nat → Prop) (v : Kv) (n : Nat) (F : Nat → Value) (W : Nat → List Int) (mu : Nat → Int) : Prop where
  kd : Kd w0.heap.size E wr p v n
  bel : Below w0.heap.size w0 wr
  ta : Abk wr E a (.cells (ten F) 61 (0, 0))
  tb : Abk wr E b (.cells (ten (intv mu)) 62 (0, 0))
  ne : a ≠ b
  la : w0.heap.size ≤ a
  lb : w0.heap.size ≤ b
  own : ∀ k, k < 10 → wr.ownsRow w0.heap.size 3 1 (F k) (W k).length ((W k).map (Value.int .i64))
  out : ∀ k, k < 10 → ∀ g, (F k).ownBlock = some g → ¬ E g ∧ g ≠ a ∧ g ≠ b
  sep : ∀ j k, j < 10 → k < 10 → j ≠ k → ∀ g, (F j).ownBlock = some g → (F k).ownBlock ≠ some g
section
variable {w0 wr u : World} {p a b : Nat} {E E' : Nat → Prop} {v v' : Kv} {n n' : Nat} {F : Nat → Value} {W : Nat → List Int} {mu : Nat → Int}
theorem LY.on (k : LY w0 wr p a b E v n F W mu) (hb : Below wr.heap.size wr u) : LY w0 u p a b E v n F W mu := by
  have kk : Rg.Kept (fun _ _ => False) wr u := Rg.Kept.of_below hb
  exact ⟨k.kd.on hb, bel_on' k.bel hb, k.ta.kept kk id, k.tb.kept kk id, k.ne, k.la, k.lb, fun i hi => own_kept (k.own i hi) kk (fun _ _ _ h => h), k.out, k.sep⟩
theorem LY.step (k : LY w0 wr p a b E v n F W mu) (s : Kd w0.heap.size E' u p v' n') (hk : Rg.Kept (fun k _ => E k) wr u) (hE : ∀ k, E' k → growE E wr u k) : LY w0 u p a b E' v' n' F W mu := by
  refine ⟨s, k.bel.trans (k.kd.bel hk), k.ta.step hk hE, k.tb.step hk hE, k.ne, k.la, k.lb, fun i hi => own_kept (k.own i hi) hk (fun g _ e => (k.out i hi g e).1), fun i hi g e => ⟨fun e' => ?_, (k.out i hi g e).2⟩, k.sep⟩
  rcases hE g e' with h | h
  · exact (k.out i hi g e).1 h
  · have := ((k.own i hi).lt g e).2
    omega
theorem LY.setB (k : LY w0 wr p a b E v n F W mu) {i : Nat} (hi : i < 10) (x : Int) : LY w0 (wr.setCell ⟨b, i, none⟩ (.int .i64 x)) p a b E v n F W (updN mu i x) := by
  have kk : Rg.Kept (fun k _ => k = b) wr (wr.setCell ⟨b, i, none⟩ (.int .i64 x)) := Rg.Kept.setCell _ (fun _ => rfl)
  refine ⟨k.kd.kept kk (fun j _ e1 e2 => k.tb.2 (by rw [← e2]; exact e1)), k.bel.trans (kk.bel k.bel.size (fun i _ e => by rw [e]; exact k.lb)), k.ta.kept kk k.ne, ⟨?_, k.tb.2⟩, k.ne, k.la, k.lb, fun i hi => own_kept (k.own i hi) kk (fun g _ e => (k.out i hi g e).2.2), k.out, k.sep⟩
  rw [heap_setCell_same _ _ _ _ _ _ k.tb.1, ten_put _ hi, intv_put]
theorem LY.cellA (k : LY w0 wr p a b E v n F W mu) {i : Nat} (hi : i < 10) : wr.cell? ⟨a, i, none⟩ = some (F i) := by rw [cell_of k.ta.1]; exact ten_get _ hi
theorem LY.cellB (k : LY w0 wr p a b E v n F W mu) {i : Nat} (hi : i < 10) : wr.cell? ⟨b, i, none⟩ = some (.int .i64 (mu i)) := by rw [cell_of k.tb.1]; exact ten_get (intv mu) hi
theorem LY.frozenB (k : LY w0 wr p a b E v n F W mu) (i : Nat) : wr.frozen? ⟨b, i, none⟩ = false := frozen_of_row _ _ _ _ _ k.tb.1
/-- Behind an append to the row i. -/
theorem LY.mid (k : LY w0 wr p a b E v n F W mu) {o : Obj} {i : Nat} (hi : i < 10) (hg : (wr.alloc o).grownBy u (F i).ownBlock) : Rg.Kept (fun k _ => (F i).ownBlock = some k) wr u ∧ Abk u E a (.cells (ten F) 61 (0, 0)) := by
  have k1 : Rg.Kept (fun k _ => (F i).ownBlock = some k) wr u := (Rg.Kept.alloc o).trans (Rg.Kept.grown hg (fun k _ e => e))
  exact ⟨k1, k.ta.kept k1 (fun e => (k.out i hi a e).2.1 rfl)⟩
theorem LY.midA (k : LY w0 wr p a b E v n F W mu) {o : Obj} {i : Nat} (hi : i < 10) (hg : (wr.alloc o).grownBy u (F i).ownBlock) : u.cell? ⟨a, i, none⟩ = some (F i) ∧ u.frozen? ⟨a, i, none⟩ = false := by
  have h := (k.mid hi hg).2
  refine ⟨?_, frozen_of_row _ _ _ _ _ h.1⟩
  rw [cell_of h.1]
  exact ten_get _ hi
theorem LY.app (k : LY w0 wr p a b E v n F W mu) {o : Obj} {i : Nat} (hi : i < 10) {g cap : Nat} {s : Int} (ho : u.ownsRow w0.heap.size 3 1 (.slice (some ⟨g, 0, none⟩) ((W i).length + 1) cap) ((W i).length + 1) ((W i).map (Value.int .i64) ++ [.int .i64 s]))
    (hg : (wr.alloc o).grownBy u (F i).ownBlock) (hat : (F i).ownBlock = some g ∨ g = (wr.alloc o).heap.size) :
    LY w0 (u.setCell ⟨a, i, none⟩ (.slice (some ⟨g, 0, none⟩) ((W i).length + 1) cap)) p a b E v n (updX F i (.slice (some ⟨g, 0, none⟩) ((W i).length + 1) cap)) (updX W i (W i ++ [s])) mu := by
  obtain ⟨k1, hA⟩ := k.mid hi hg
  have hsz : (wr.alloc o).heap.size = wr.heap.size + 1 := by simp
  have kk : Rg.Kept (fun k _ => k = a) u (u.setCell ⟨a, i, none⟩ (.slice (some ⟨g, 0, none⟩) ((W i).length + 1) cap)) := Rg.Kept.setCell _ (fun _ => rfl)
  have hEl := k.kd.1
  have gE : ¬ E g ∧ g ≠ a ∧ g ≠ b := by
    rcases hat with h | h
    · exact k.out i hi g h
    · refine ⟨fun e => ?_, ?_, ?_⟩
      · have := (hEl g e).2; omega
      · have := k.ta.lt; omega
      · have := k.tb.lt; omega
  have gS : ∀ j, j < 10 → j ≠ i → (F j).ownBlock ≠ some g := fun j hj hne e => by
    rcases hat with h | h
    · exact k.sep i j hi hj (Ne.symm hne) g h e
    · have := ((k.own j hj).lt g e).2; omega
  have kd1 : Kd w0.heap.size E u p v n := k.kd.kept k1 (fun j _ e1 e2 => (k.out i hi j e2).1 e1)
  have b1 : Below w0.heap.size w0 u := k.bel.trans (k1.bel k.bel.size (fun j _ e => ((k.own i hi).lt j e).1))
  have tb1 : Abk u E b (.cells (ten (intv mu)) 62 (0, 0)) := k.tb.kept k1 (fun e => (k.out i hi b e).2.2 rfl)
  refine ⟨kd1.kept kk (fun j _ e1 e2 => k.ta.2 (by rw [← e2]; exact e1)), b1.trans (kk.bel b1.size (fun i _ e => by rw [e]; exact k.la)), ⟨?_, k.ta.2⟩, tb1.kept kk (Ne.symm k.ne), k.ne, k.la, k.lb, fun j hj => ?_, fun j hj g' e => ?_, fun j l hj hl hne g' e => ?_⟩
  · rw [heap_setCell_same _ _ _ _ _ _ hA.1, ten_put _ hi]
  · by_cases e : j = i
    · subst e
      rw [updX_same, updX_same]
      have e1 : (W j ++ [s]).length = (W j).length + 1 := by simp
      have e2 : (W j ++ [s]).map (Value.int .i64) = (W j).map (Value.int .i64) ++ [.int .i64 s] := by simp
      rw [e1, e2]
      exact own_kept ho kk (fun k _ e => by cases e; exact gE.2.1)
    · rw [updX_other _ _ e, updX_other _ _ e]
      exact own_kept (own_kept (k.own j hj) k1 (fun l _ e' e'' => k.sep j i hj hi e l e' e'')) kk (fun l _ e' => (k.out j hj l e').2.1)
  · by_cases e' : j = i
    · subst e'
      rw [updX_same] at e
      cases e
      exact gE
    · rw [updX_other _ _ e'] at e
      exact k.out j hj g' e
  · by_cases e1 : j = i
    · subst e1
      rw [updX_same] at e
      cases e
      rw [updX_other _ _ (Ne.symm hne)]
      exact gS l hl (Ne.symm hne)
    · rw [updX_other _ _ e1] at e
      by_cases e2 : l = i
      · subst e2
        rw [updX_same]
        intro e3
        cases e3
        exact gS j hj e1 e
      · rw [updX_other _ _ e2]
        exact k.sep j l hj hl hne g' e
theorem LY.start0 {E : Nat → Prop} {w1 : World} (h : Kd w0.heap.size E w1 p v n) (hb : Below w0.heap.size w0 w1) :
    LY w0 ((w1.alloc (.cells (ten (fun _ => .slice none 0 0)) 61)).alloc (.cells (ten (intv (fun _ => 0))) 62)) p w1.heap.size (w1.heap.size + 1) E v n (fun _ => .slice none 0 0) (fun _ => []) (fun _ => 0) := by
  have hb1 : Below w1.heap.size w1 (w1.alloc (.cells (ten (fun _ => .slice none 0 0)) 61)) := (Below.refl _ _).alloc (Nat.le_refl _) _
  generalize hX : w1.alloc (.cells (ten (fun _ => .slice none 0 0)) 61) = X at *
  have e1 : X.heap[w1.heap.size]? = some (.cells (ten (fun _ => .slice none 0 0)) 61 (0, 0)) := by rw [← hX]; exact World.alloc_heap_new _ _
  have hz : X.heap.size = w1.heap.size + 1 := by rw [← hX]; simp
  have hb2 : Below X.heap.size X (X.alloc (.cells (ten (intv (fun _ => 0))) 62)) := (Below.refl _ _).alloc (Nat.le_refl _) _
  have e2 := World.alloc_heap_new X (.cells (ten (intv (fun _ => 0))) 62)
  rw [hz] at e2
  have hE := h.1
  have hs := hb.size
  refine ⟨(h.on hb1).on hb2, bel_on' (bel_on' hb hb1) hb2, ⟨(hb2.block _ (by omega)).trans e1, fun e => by have := (hE _ e).2; omega⟩, ⟨e2, fun e => by have := (hE _ e).2; omega⟩, by omega, hs, by omega, fun _ _ => World.ownsRow_nil _ _ _ _, fun _ _ g e => (by cases e), fun _ _ _ _ _ g e => (by cases e)⟩
/-- The keeper's steps. -/
theorem LY.handle (hg : Gl w0) (k : LY w0 wr p a b E v n F W mu) (hn : n < 700000) {m : Ms.Mg} (hw : (Lit.int .i64 m.id).wf = true) {v' : Kv} (hv : hkS v m = v') :
    Calls Tryz.prog 20 #[.pointer (some ⟨p, 0, none⟩), .agg #[.int .i64 m.k, .int .i64 m.fr, .int .i64 m.to, .int .i64 m.id, .int .i64 m.st, .int .i64 m.a, .int .i64 m.b]] wr fun e w' => (∃ x, e = .returned x) ∧ ∃ E', LY w0 w' p a b E' v' (n + 4) F W mu ∧ ∀ k o, Abk wr E k o → Abk w' E' k o := by
  subst hv
  refine (khandle_any k.kd (fun u hu => hg.on (k.bel.trans (k.kd.bel hu))) hw hn).mono ?_
  rintro e w' ⟨a, c, E', y1, y2, y3, y4, y5, y6⟩
  exact ⟨⟨_, y1⟩, E', k.step y5 y6 y4, fun _ _ h => h.step y6 y4⟩
theorem LY.ring (k : LY w0 wr p a b E v n F W mu) {id : Int} (hw : (Lit.int .i64 id).wf = true) :
    Calls Tryz.prog 16 #[.pointer (some ⟨p, 0, none⟩), .int .i64 id] wr fun e w' => (∃ x, e = .returned x) ∧ ∃ E', LY w0 w' p a b E' v n F W mu ∧ ∀ k o, Abk wr E k o → Abk w' E' k o := by
  have kd := k.kd
  obtain ⟨hE, _, q, r, pb, mb, mc, sb, k0⟩ := kd
  refine (kring_any k0 hw).mono ?_
  rintro e w' ⟨a, c, y1, y2, y3, y4⟩
  exact ⟨⟨_, y1⟩, E, k.on y4, fun _ _ h => h.on y4⟩
theorem LY.force (hg : Gl w0) (k : LY w0 wr p a b E v n F W mu) (hn : n < 700000) {id : Int} (hw : (Lit.int .i64 id).wf = true) (y : Bool) {v' : Kv} (hv : fcS v id y = v') :
    Calls Tryz.prog 18 #[.pointer (some ⟨p, 0, none⟩), .int .i64 id, .bool y] wr fun e w' => e = .returned (.int .i64 (fcE v id)) ∧ ∃ E', LY w0 w' p a b E' v' (n + 2) F W mu ∧ ∀ k o, Abk wr E k o → Abk w' E' k o := by
  subst hv
  refine (kforce_any k.kd (fun u hu => hg.on (k.bel.trans (k.kd.bel hu))) hw y hn).mono ?_
  rintro e w' ⟨y1, y2, y3⟩
  exact ⟨y1, _, k.step y2 y3 (fun _ e => e), fun _ _ h => h.step y3 (fun _ e => e)⟩
theorem LY.crash (k : LY w0 wr p a b E v n F W mu) (stay torn : Int) :
    Calls Tryz.prog 11 #[.pointer (some ⟨p, 0, none⟩), .int .i64 stay, .int .i64 torn] wr fun e w' => (∃ x, e = .returned x) ∧ ∃ E', LY w0 w' p a b E' (crK v) 0 F W mu ∧ ∀ k o, Abk wr E k o → Abk w' E' k o := by
  refine (kcrash_any k.kd stay torn).mono ?_
  rintro e w' ⟨y1, y2, y3⟩
  exact ⟨y1, _, k.step y2 y3 (fun _ e => e), fun _ _ h => h.step y3 (fun _ e => e)⟩
theorem LY.start (hg : Gl w0) (k : LY w0 wr p a b E (crK v) n F W mu) (hn : n < 600000) (hgd : GoodKv v) (hd : v.down = false) :
    Calls Tryz.prog 13 #[.pointer (some ⟨p, 0, none⟩)] wr fun e w' => (∃ x, e = .returned x) ∧ ∃ E', LY w0 w' p a b E' v (n + 10000) F W mu ∧ ∀ k o, Abk wr E k o → Abk w' E' k o := by
  have h := kstart_down hg k.bel k.kd rfl hn
  rw [up_crK hgd hd] at h
  refine h.mono ?_
  rintro e w' ⟨y1, y2, y3⟩
  exact ⟨y1, _, k.step y2 y3 (fun _ e => e), fun _ _ h => h.step y3 (fun _ e => e)⟩
theorem LY.state (k : LY w0 wr p a b E v n F W mu) {id : Int} (hw : (Lit.int .i64 id).wf = true) {x : Int} (hx : v.st.s id = x) :
    Calls Tryz.prog 23 #[.pointer (some ⟨p, 0, none⟩), .int .i64 id] wr fun e w' => e = .returned (.int .i64 x) ∧ wr = w' := by
  have kd := k.kd
  obtain ⟨hE, _, q, r, pb, mb, mc, sb, k0⟩ := kd
  subst hx
  exact kstate_any k0 hw
theorem LY.goods (k : LY w0 wr p a b E v n F W mu) (hnd : v.node = 1) : ∃ pb, Calls Tryz.prog 29 #[.pointer (some ⟨p, 0, none⟩)] wr (fun e w' => e = .returned (.pointer (some ⟨pb, 0, none⟩)) ∧ wr = w') ∧
    Calls Tryz.prog 31 #[.pointer (some ⟨pb, 0, none⟩), .int .i64 0] wr (fun e w' => e = .returned (.int .i64 (v.st.o.g.on 0)) ∧ wr = w') ∧
    Calls Tryz.prog 32 #[.pointer (some ⟨pb, 0, none⟩), .int .i64 0] wr (fun e w' => e = .returned (.int .i64 (v.st.o.g.fr 0)) ∧ wr = w') := by
  have kx : KX w0 wr p v n [] := ⟨E, ⟨k.kd, k.bel⟩, fun _ h => by cases h⟩
  obtain ⟨pb, mb, h1, h2⟩ := kx.goods hnd
  exact ⟨pb, h1, Gd.onhand_any h2 0, Gd.free_any h2 0⟩
end
end Go.Proofs.YthkgjggbpgkmpaaGreatDoor
