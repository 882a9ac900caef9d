/-
  Rows of messages: cut, laid behind one another, in a region that draws its order.
-/
import Derived.Test.YtmndemjjfhdfdaaPstT
import Derived.Deep.RegionHeld3
import Derived.Laws.Slices
namespace Go.Proofs.Ytmndemjjfhdfdaa
open Go.ChangeShapes Go.WideShapes Go.ChangeAt Go.RowKit

/-- l[:k] -/
theorem head_runM (W : World) (a : Option Addr) (n cap k : Nat) (hk : k ≤ cap) : (Instr.sliceAt 30 (.slice a n cap) none (some (.int .i64 (k : Int))) none).run Try.prog W = .ok (.slice a k cap) W := by
  have hu : Try.prog.underlying 30 = some (.slice (Try.prog.elem 30)) := by kernel_rfl
  have hz : (sizeOf (Try.prog.elem 30)).run Try.prog W = .ok 7 W := by kernel_rfl
  rw [run_sliceAt_slice _ _ _ _ _ _ hu, run_slice_h _ _ _ _ _ hu _ _ (by omega) (by omega), hz]
  show Result.ok (sliced a 0 (k : Int).toNat cap 7) W = _
  unfold sliced
  cases a with
  | none => simp
  | some y => cases h : decide (cap = 0) <;> simp_all [Addr.add]
/-- Where l[k:] lies. -/
def tailM (a : Option Addr) (cap k : Nat) : Option Addr := if cap = k then a else a.map (·.add (k * 7))
/-- l[k:] -/
theorem tail_runM (W : World) (a : Option Addr) (n cap k : Nat) (hk : k ≤ n) : (Instr.sliceAt 30 (.slice a n cap) (some (.int .i64 (k : Int))) none none).run Try.prog W = .ok (.slice (tailM a cap k) (n - k) (cap - k)) W := by
  have hu : Try.prog.underlying 30 = some (.slice (Try.prog.elem 30)) := by kernel_rfl
  have hz : (sizeOf (Try.prog.elem 30)).run Try.prog W = .ok 7 W := by kernel_rfl
  rw [run_sliceAt_slice _ _ _ _ _ _ hu, run_slice_l _ _ _ _ _ hu _ _ (by omega) (by omega), hz]
  show Result.ok (sliced a (k : Int).toNat n cap 7) W = _
  unfold sliced tailM
  simp
theorem tail_runM1 (W : World) (a : Option Addr) (n cap k : Nat) (hk : k + 1 ≤ n) : (Instr.sliceAt 30 (.slice a n cap) (some (.int .i64 ((k : Int) + 1))) none none).run Try.prog W = .ok (.slice (tailM a cap (k + 1)) (n - (k + 1)) (cap - (k + 1))) W := by
  have := tail_runM W a n cap (k + 1) hk
  rwa [show ((k + 1 : Nat) : Int) = (k : Int) + 1 by omega] at this
theorem Mgs.head {w : World} {a : Option Addr} {l : List Mg} (h : Mgs w a l) (k : Nat) : Mgs w a (l.take k) := by
  rcases h with rfl | ⟨b, off, rfl, hcell⟩
  · exact .inl (by simp)
  · refine .inr ⟨b, off, rfl, fun j u hu => hcell j u ?_⟩
    rw [mgCells_take, List.getElem?_take] at hu
    split at hu
    · exact hu
    · cases hu
theorem Mgs.tail {w : World} {a : Option Addr} {l : List Mg} (h : Mgs w a l) (cap k : Nat) (hc : l.length ≤ cap) : Mgs w (tailM a cap k) (l.drop k) := by
  by_cases hk : l.length ≤ k
  · exact .inl (List.drop_eq_nil_of_le hk)
  rcases h with rfl | ⟨b, off, rfl, hcell⟩
  · exact .inl (by simp)
  · unfold tailM
    rw [if_neg (by omega)]
    refine .inr ⟨b, off + k * 7, by rw [Option.map_some, st_add'], fun j u hu => ?_⟩
    rw [mgCells_drop, List.getElem?_drop] at hu
    rw [Nat.add_assoc]
    exact hcell _ u hu
theorem tailM_nil {a : Option Addr} {cap k : Nat} (h : tailM a cap k = none) : a = none := by
  unfold tailM at h
  split at h
  · exact h
  · cases a with
    | none => rfl
    | some x => cases h
/-- Some messages more behind a row of one's own, as a step of a region that draws its order. -/
theorem step_mgs {ops : Array Oper} {o : Oper} {a : Act} {w : World} {K : Act → World → Prop} {Q : Exit → Act → World → Prop} {E : Prop} (hw : Region.wanted o (yielded ops a.tmps) = true) (s x : Operand)
    (ho : o.op = .call { callee := .builtin .append, args := #[s, x], argTypes := #[30, 30] })
    (base : Nat) (v : Value) (n : Nat) (L : List Mg) (hL : L.length = n) (hs : a.eval s = v) (hown : w.ownsRow base 35 7 v n (mgCells L)) (ao : Option Addr) (m : List Mg) (k c : Nat) (hk : m.length = k) (hx : a.eval x = .slice ao k c)
    (hn : ao = none → k = 0 ∧ c = 0) (hm : Mgs w ao m) (N : Nat) (hN : n + k = N) (hb : N ≤ 1000000) (hbase : base ≤ w.heap.size)
    (h : ∀ a' c' w', w'.ownsRow base 35 7 (.slice a' N c') N (mgCells (L ++ m)) → w.grownBy w' v.ownBlock → ((Value.slice a' N c').ownBlock = v.ownBlock ∨ (Value.slice a' N c').ownBlock = some w.heap.size) → K (a.put o.dst (.slice a' N c')) w') :
    if Region.wanted o (yielded ops a.tmps) = true then Oper.wp Try.prog o a w K Q else E := by
  rw [if_pos hw]
  subst hL hk hN
  obtain ⟨i0, hi, hz0, hz1, hz2⟩ := info_parts Try.infoMsg
  cases ao with
  | none =>
    obtain ⟨h1, rfl⟩ := hn rfl
    have hm0 : m = [] := List.eq_nil_of_length_eq_zero h1
    subst hm0
    have hr := run_append_owned_none (P := Try.prog) (w := w) base 30 o.type 35 i0 7 Try.underlying30 hi v _ _ hown
    obtain ⟨a', c', rfl, _⟩ := row_slice hown
    unfold Oper.wp execOp
    simp only [ho, resolve, invoke, builtin, Sem.run_bind, Sem.run_pure, Result.andThen_ok, List.map_toArray, List.map_cons, List.map_nil, hs, hx, List.length_nil, hr]
    refine h a' c' w ?_ ⟨rfl, rfl, rfl, Nat.le_refl _, fun _ _ _ => rfl⟩ (.inl rfl)
    simpa using hown
  | some ad =>
    obtain ⟨v', w', hr, h2, h3, h4, h5⟩ := run_append_own_at (P := Try.prog) w base 30 o.type 35 i0 _ 7 56 Try.underlying30 hi hz0 hz1 hz2 rfl (by decide) v L.length (mgCells L) hown ad m.length c (mgCells m) (mgCells_len m) (mgs_news hm) (fun u hu => mgCells_one hu) (by unfold maxLen; omega) (by omega) hbase
    unfold Oper.wp execOp
    simp only [ho, resolve, invoke, builtin, Sem.run_bind, Sem.run_pure, Result.andThen_ok, List.map_toArray, List.map_cons, List.map_nil, hs, hx, hr]
    obtain ⟨a', c', rfl, _⟩ := row_slice h2
    refine h a' c' w' ?_ h3 h5
    rw [mgCells_append]
    exact h2

/-- A row of one's own beyond V, its blocks of X. -/
def RowA (V : World) (X : Nat → Prop) (cur : World) (v : Value) (n : Nat) (L : List Mg) : Prop :=
  (∀ k, X k → V.heap.size ≤ k ∧ k < cur.heap.size) ∧ Below V.heap.size V cur ∧ L.length = n ∧ cur.ownsRow V.heap.size 35 7 v n (mgCells L) ∧ ∀ k, v.ownBlock = some k → X k
/-- A row of one's own. -/
def RowX (V cur : World) (v : Value) (n : Nat) (L : List Mg) : Prop := ∃ X, RowA V X cur v n L
/-- A row of one's own, and another one beside it, that reads as M. -/
def Both (V cur : World) (v : Value) (n : Nat) (L : List Mg) (a : Option Addr) (M : List Mg) : Prop :=
  ∃ X, RowA V X cur v n L ∧ Mgs cur a M ∧ (M ≠ [] → ∀ ad, a = some ad → ¬ X ad.block)
theorem RowA.on {V : World} {X : Nat → Prop} {cur cur' : World} {v : Value} {n : Nat} {L : List Mg} (h : RowA V X cur v n L) (hb : Below cur.heap.size cur cur') : RowA V X cur' v n L := by
  obtain ⟨h1, h2, h3, h4, h5⟩ := h
  refine ⟨fun k e => ⟨(h1 k e).1, Nat.lt_of_lt_of_le (h1 k e).2 hb.size⟩, bel_on' h2 hb, h3, row_stays h4 (fun k cs _ hc => hb.block k (Array.getElem?_eq_some_iff.1 hc).1), h5⟩
theorem RowX.on {V cur cur' : World} {v : Value} {n : Nat} {L : List Mg} (h : RowX V cur v n L) (hb : Below cur.heap.size cur cur') : RowX V cur' v n L := by
  obtain ⟨X, h⟩ := h
  exact ⟨X, h.on hb⟩
theorem RowX.bel {V cur : World} {v : Value} {n : Nat} {L : List Mg} (h : RowX V cur v n L) : Below V.heap.size V cur := by
  obtain ⟨X, h⟩ := h
  exact h.2.1
theorem RowX.own {V cur : World} {v : Value} {n : Nat} {L : List Mg} (h : RowX V cur v n L) : L.length = n ∧ cur.ownsRow V.heap.size 35 7 v n (mgCells L) := by
  obtain ⟨X, h⟩ := h
  exact ⟨h.2.2.1, h.2.2.2.1⟩
theorem RowA.new {V u : World} (hb : Below V.heap.size V u) : RowA V (fun k => k = u.heap.size) (u.alloc (.cells #[] 35)) (.slice (some ⟨u.heap.size, 0, none⟩) 0 0) 0 [] := by
  refine ⟨fun k e => ?_, bel_al hb _, rfl, World.ownsRow_made u #[] 0 hb.size (Nat.zero_le _) (by simp), fun k e => ?_⟩
  · subst e
    exact ⟨hb.size, by simp⟩
  · simp [Value.ownBlock] at e
    exact e.symm
theorem RowX.new {V u : World} (hb : Below V.heap.size V u) : RowX V (u.alloc (.cells #[] 35)) (.slice (some ⟨u.heap.size, 0, none⟩) 0 0) 0 [] := ⟨_, RowA.new hb⟩
theorem RowX.nil {V u : World} (hb : Below V.heap.size V u) : RowX V u (.slice none 0 0) 0 [] := ⟨fun _ => False, fun _ h => h.elim, hb, rfl, row_nil _ _ _ _, fun k e => by simp [Value.ownBlock] at e⟩
theorem RowX.drew {V cur : World} {v : Value} {n : Nat} {L : List Mg} (h : RowX V cur v n L) : RowX V cur.drew v n L := h.on (Below.refl _ _).drew
theorem RowA.app {V : World} {X : Nat → Prop} {cur w' : World} {v v' : Value} {n k N : Nat} {L m : List Mg} (h : RowA V X cur v n L) (hk : m.length = k) (hN : n + k = N) (ho : w'.ownsRow V.heap.size 35 7 v' N (mgCells (L ++ m))) (hg : cur.grownBy w' v.ownBlock) (hb : v'.ownBlock = v.ownBlock ∨ v'.ownBlock = some cur.heap.size) :
    RowA V (fun i => X i ∨ (cur.heap.size ≤ i ∧ i < w'.heap.size)) w' v' N (L ++ m) ∧ Rg.Kept (fun i _ => X i) cur w' := by
  obtain ⟨h1, h2, h3, h4, h5⟩ := h
  refine ⟨⟨fun i e => ?_, h2.grown hg h2.size (fun i e => (h1 i (h5 i e)).1), by rw [List.length_append]; omega, ho, fun i e => ?_⟩, Rg.Kept.grown hg (fun i _ e => h5 i e)⟩
  · have := h2.size
    rcases e with e | e
    · have := h1 i e; have := hg.size; omega
    · omega
  · rcases hb with hb | hb
    · exact .inl (h5 i (hb ▸ e))
    · have h6 := (ho.lt i e).2
      rw [hb] at e
      have e : cur.heap.size = i := Option.some.inj e
      exact .inr ⟨by omega, h6⟩
theorem RowX.app {V cur w' : World} {v v' : Value} {n k N : Nat} {L m : List Mg} (h : RowX V cur v n L) (hk : m.length = k) (hN : n + k = N) (ho : w'.ownsRow V.heap.size 35 7 v' N (mgCells (L ++ m))) (hg : cur.grownBy w' v.ownBlock) (hb : v'.ownBlock = v.ownBlock ∨ v'.ownBlock = some cur.heap.size) : RowX V w' v' N (L ++ m) := by
  obtain ⟨X, h⟩ := h
  exact ⟨_, (h.app hk hN ho hg hb).1⟩
theorem Both.row {V cur : World} {v : Value} {n : Nat} {L M : List Mg} {a : Option Addr} (h : Both V cur v n L a M) : RowX V cur v n L := by
  obtain ⟨X, h, _⟩ := h
  exact ⟨X, h⟩
theorem Both.got {V cur : World} {v : Value} {n : Nat} {L M : List Mg} {a : Option Addr} (h : Both V cur v n L a M) : Mgs cur a M := by
  obtain ⟨X, _, h, _⟩ := h
  exact h
theorem Both.app {V cur w' : World} {v v' : Value} {n k N : Nat} {L m M : List Mg} {a : Option Addr} (h : Both V cur v n L a M) (hk : m.length = k) (hN : n + k = N) (ho : w'.ownsRow V.heap.size 35 7 v' N (mgCells (L ++ m))) (hg : cur.grownBy w' v.ownBlock) (hb : v'.ownBlock = v.ownBlock ∨ v'.ownBlock = some cur.heap.size) : Both V w' v' N (L ++ m) a M := by
  obtain ⟨X, h, h2, h3⟩ := h
  obtain ⟨g1, g2⟩ := h.app hk hN ho hg hb
  refine ⟨_, g1, h2.kept g2 (fun h0 ad e _ => h3 h0 ad e), fun h0 ad e hx => ?_⟩
  have hlt : ad.block < cur.heap.size := by
    rcases h2 with h2 | ⟨b, off, ha, hc⟩
    · exact (h0 h2).elim
    · rw [ha] at e
      cases e
      obtain ⟨x, r, rfl⟩ := List.exists_cons_of_ne_nil h0
      exact World.block_lt_of_cell? _ _ (hc 0 (.int .i64 x.k) (by simp [mgCells, mgC]))
  rcases hx with hx | hx
  · exact h3 h0 ad e hx
  · omega
/-- What a call has told, all of it new. -/
theorem RowX.both {V cur u : World} {v : Value} {n : Nat} {L M : List Mg} {a : Option Addr} {c : Nat} (h : RowX V cur v n L) (hb : Below cur.heap.size cur u) (hr : u.ownsRow cur.heap.size 35 7 (.slice a M.length c) M.length (mgCells M)) : Both V u v n L a M := by
  obtain ⟨X, h⟩ := h
  refine ⟨X, h.on hb, row_mgs hr, fun _ ad e hx => ?_⟩
  subst e
  have h1 := (hr.lt ad.block rfl).1
  have h2 := (h.1 _ hx).2
  omega
theorem Both.new {V u : World} {M : List Mg} {a : Option Addr} (hb : Below V.heap.size V u) (hm : Mgs u a M) : Both V (u.alloc (.cells #[] 35)) (.slice (some ⟨u.heap.size, 0, none⟩) 0 0) 0 [] a M := by
  refine ⟨_, RowA.new hb, hm.below (bel_al (Below.refl _ _) _), fun h0 ad e hx => ?_⟩
  rcases hm with h2 | ⟨b, off, ha, hc⟩
  · exact (h0 h2).elim
  · rw [ha] at e
    cases e
    obtain ⟨x, r, rfl⟩ := List.exists_cons_of_ne_nil h0
    have := World.block_lt_of_cell? _ _ (hc 0 (.int .i64 x.k) (by simp [mgCells, mgC]))
    dsimp only at hx this
    omega
end Go.Proofs.Ytmndemjjfhdfdaa
