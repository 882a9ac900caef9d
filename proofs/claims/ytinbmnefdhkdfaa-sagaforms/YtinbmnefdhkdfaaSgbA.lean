/-
  A region that draws its order, in a round of a range over a function: from the laws of a region outside. Step laws.
-/
import Derived.Test.YtinbmnefdhkdfaaSgaZ
import Derived.Test.YtinbmnefdhkdfaaSgaY
import Derived.Test.YtinbmnefdhkdfaaSgaP
import Derived.Maps.OwnIn
import Derived.OrdersIn
namespace Go.Proofs.Ytinbmnefdhkdfaa
open Go.ChangeShapes Go.WideShapes Go.ChangeAt Go.RowKit Go.Shelf

theorem upon_round {l n : Nat} {P : Program} {o : Oper} {a : Act} {K : Act → World → Prop} {Q : Exit → Act → World → Prop} {r : Result Next} (h : o.upon P a K Q r) : o.uponIn (Fence.wide.inRound l) n P a K Q r := by
  cases r with
  | ok x w =>
    cases x with
    | value v => exact h
    | skip => exact h
    | defer d => exact h
    | enter f args => exact ⟨fun h => (by cases h), CallsIn.inRound l (callsIn_wide.2 h)⟩
    | row r args => exact ⟨fun h => (by cases h), fun c cs _ => let ⟨v, w', r, s⟩ := h c cs; ⟨v, w', r, stepsIn_wide.2 s⟩⟩
    | _ => exact h.elim
  | halt x w => cases x <;> exact h
theorem op_round {l n : Nat} {P : Program} {ops : Array Oper} {i : Nat} {a : Act} {w : World} {K : Act → World → Prop} {Q : Exit → Act → World → Prop} (hd : ∀ (i : Nat) (o : Oper) (c : Call), ops[i]? = some o → o.op ≠ .defer c) (hq : ¬ LetsOut Q) (h : wpOp P ops Q i K a w) : wpOpIn (Fence.wide.inRound l) n P ops Q i K a w := by
  unfold wpOp at h
  unfold wpOpIn
  cases ho : ops[i]? with
  | none => simp only [ho] at h ⊢; exact h
  | some o =>
    simp only [ho] at h ⊢
    split
    · rename_i hw
      rw [if_pos hw] at h
      rcases h with h | ⟨_, h⟩
      · refine ⟨fun _ _ => trivial, ?_⟩
        rw [Oper.semAt_eq _ _ _ (fun c => hd i o c ho)]
        exact upon_round h
      · exact absurd h hq
    · rename_i hw
      rw [if_neg hw] at h
      exact ⟨fun _ _ => trivial, h⟩
theorem any_round {l n : Nat} {P : Program} {md : Region.Mode} {ops : Array Oper} {Q : Exit → Act → World → Prop} (hd : ∀ (i : Nat) (o : Oper) (c : Call), ops[i]? = some o → o.op ≠ .defer c) (hq : ¬ LetsOut Q) : ∀ (fuel : Nat) (listed : Array Bool) (a : Act) (w : World), wpAny P md ops Q fuel listed a w → wpAnyIn (Fence.wide.inRound l) n P md ops Q fuel listed a w
  | 0, _, _, _, h => h
  | fuel + 1, _, _, _, h => ⟨h.1, fun i hi => wpOpIn_mono (fun a' w' => any_round hd hq fuel _ a' w') (op_round hd hq (h.2 i hi))⟩
/-- No operation defers. -/
def noDefer (ops : Array Oper) : Bool := ops.all fun o => match o.op with | .defer _ => false | _ => true
theorem noDefer_spec {ops : Array Oper} (h : noDefer ops = true) (i : Nat) (o : Oper) (c : Call) (ho : ops[i]? = some o) : o.op ≠ .defer c := by
  intro e
  unfold noDefer at h
  rw [Array.all_eq_true_iff_forall_mem] at h
  have := h o (Array.mem_of_getElem? ho)
  rw [e] at this
  cases this
/-- A region that draws, in a round. -/
theorem region_round {l n : Nat} {P : Program} {id : Nat} {ops : Array Oper} {Q : Exit → Act → World → Prop} {S : World → Prop} {a : Act} {w : World} (Fin : Act → World → Prop) (hm : P.follows .mixedOrders = true) (hd : noDefer ops = true) (hS : S w.drew)
    (h : S w.drew → wpAnyH P .any ops (fun e a' w' => e = .normal ∧ Fin a' w') S ops.size (Array.replicate ops.size false) a w.drew) (h2 : ∀ a' w', Fin a' w' → Q .normal a' w') : (Code.region id ops true).wpIn (Fence.wide.inRound l) n P Q a w :=
  have hq : ¬ LetsOut (fun e a' w' => e = Exit.normal ∧ Fin a' w') := fun h => by
    obtain ⟨_, _, h, _⟩ := h
    cases h
  wpIn_mono (wpIn_region_any hm (any_round (noDefer_spec hd) hq _ _ _ _ (wpAny_of_held _ _ _ _ (h hS)))) (fun e a' w' h => by obtain ⟨rfl, h⟩ := h; exact h2 a' w' h)

/-! Step laws. -/
theorem step_go {ops : Array Oper} {o : Oper} {a : Act} {w : World} {K : Act → World → Prop} {Q : Exit → Act → World → Prop} {E : Prop} (hw : Region.wanted o (yielded ops a.tmps) = true) {f : FuncId} {vals : Array Value} {R : Ending → World → Prop}
    (hr : (execOp a.eval o).run Try.prog w = .ok (.enter f vals) w) (C : Calls Try.prog f vals w R) (h : ∀ e w', R e w' → ∃ v, e = .returned v ∧ K (a.put o.dst v) w') :
    if Region.wanted o (yielded ops a.tmps) = true then Oper.wp Try.prog o a w K Q else E := by
  rw [if_pos hw]
  unfold Oper.wp
  rw [hr, Oper.upon_enter]
  refine C.mono ?_
  intro e w' he
  obtain ⟨v, rfl, hk⟩ := h e w' he
  exact hk
theorem run_go1 {o : Oper} {a : Act} {w : World} {f : FuncId} {x : Operand} {ts : Array TypeId} (v : Value) (ho : o.op = .call { callee := .value (.func f), args := #[x], argTypes := ts }) (hx : a.eval x = v) (en : ∀ args u, (callFunc f args).run Try.prog u = .ok (.enter f args) u) : (execOp a.eval o).run Try.prog w = .ok (.enter f #[v]) w := by
  unfold execOp
  rw [ho]
  simp only [resolve, invoke, Sem.run_bind, List.map_toArray, List.map_cons, List.map_nil, hx]
  exact en _ _
theorem run_go2 {o : Oper} {a : Act} {w : World} {f : FuncId} {x y : Operand} {ts : Array TypeId} (v u : Value) (ho : o.op = .call { callee := .value (.func f), args := #[x, y], argTypes := ts }) (hx : a.eval x = v) (hy : a.eval y = u) (en : ∀ args u, (callFunc f args).run Try.prog u = .ok (.enter f args) u) : (execOp a.eval o).run Try.prog w = .ok (.enter f #[v, u]) w := by
  unfold execOp
  rw [ho]
  simp only [resolve, invoke, Sem.run_bind, List.map_toArray, List.map_cons, List.map_nil, hx, hy]
  exact en _ _
theorem run_go3 {o : Oper} {a : Act} {w : World} {f : FuncId} {x y z : Operand} {ts : Array TypeId} (v u t : Value) (ho : o.op = .call { callee := .value (.func f), args := #[x, y, z], argTypes := ts }) (hx : a.eval x = v) (hy : a.eval y = u) (hz : a.eval z = t) (en : ∀ args u, (callFunc f args).run Try.prog u = .ok (.enter f args) u) : (execOp a.eval o).run Try.prog w = .ok (.enter f #[v, u, t]) w := by
  unfold execOp
  rw [ho]
  simp only [resolve, invoke, Sem.run_bind, List.map_toArray, List.map_cons, List.map_nil, hx, hy, hz]
  exact en _ _
theorem step_load {ops : Array Oper} {o : Oper} {a : Act} {w : World} {K : Act → World → Prop} {Q : Exit → Act → World → Prop} {E : Prop} (hw : Region.wanted o (yielded ops a.tmps) = true) {v : Value}
    (hr : (execOp a.eval o).run Try.prog w = .ok (.value v) w) (h : K (a.put o.dst v) w) :
    if Region.wanted o (yielded ops a.tmps) = true then Oper.wp Try.prog o a w K Q else E := by
  rw [if_pos hw]
  unfold Oper.wp
  rw [hr, Oper.upon_value]
  exact h
theorem step_build {ops : Array Oper} {o : Oper} {a : Act} {w : World} {K : Act → World → Prop} {Q : Exit → Act → World → Prop} {E : Prop} (hw : Region.wanted o (yielded ops a.tmps) = true) (x : Operand)
    (ho : o.op = .buildSlice 37 1 #[(0, x)]) (m : Mg) (hx : a.eval x = .agg #[.int .i64 m.k, .int .i64 m.fr, .int .i64 m.to, .int .i64 m.id, .int .i64 m.st, .int .i64 m.a, .int .i64 m.b])
    (h : ∀ p w', Mgs w' (some ⟨p, 0, none⟩) [m] → Below w.heap.size w w' → K (a.put o.dst (.slice (some ⟨p, 0, none⟩) 1 1)) w') :
    if Region.wanted o (yielded ops a.tmps) = true then Oper.wp Try.prog o a w K Q else E := by
  have hr : (execOp a.eval o).run Try.prog w = .ok (.value (.slice (some ⟨w.heap.size, 0, none⟩) 1 1)) (w.alloc (.cells #[.int .i64 m.k, .int .i64 m.fr, .int .i64 m.to, .int .i64 m.id, .int .i64 m.st, .int .i64 m.a, .int .i64 m.b] 43)) := by
    unfold execOp
    rw [ho]
    simp only [List.map_toArray, List.map_cons, List.map_nil, hx]
    kernel_rfl
  rw [if_pos hw]
  unfold Oper.wp
  rw [hr, Oper.upon_value]
  exact h w.heap.size _ (mgs_new w [m] _ rfl) ((Below.refl _ _).alloc (Nat.le_refl _) _)
theorem step_app {ops : Array Oper} {o : Oper} {a : Act} {w : World} {K : Act → World → Prop} {Q : Exit → Act → World → Prop} {E : Prop} (hw : Region.wanted o (yielded ops a.tmps) = true) (s x : Operand)
    (ho : o.op = .call { callee := .builtin .append, args := #[s, x], argTypes := #[37, 37] })
    (base : Nat) (v : Value) (L : List Mg) (hs : a.eval s = v) (hown : w.ownsRow base 43 7 v L.length (mgCells L)) (ao : Option Addr) (m : List Mg) (c : Nat) (hx : a.eval x = .slice ao m.length c) (hn : ao = none → m = [] ∧ c = 0)
    (hm : Mgs w ao m) (hb : L.length + m.length ≤ 1000000) (hbase : base ≤ w.heap.size)
    (h : ∀ a' c' w', w'.ownsRow base 43 7 (.slice a' (L ++ m).length c') (L ++ m).length (mgCells (L ++ m)) → w.grownBy w' v.ownBlock → K (a.put o.dst (.slice a' (L ++ m).length c')) w') :
    if Region.wanted o (yielded ops a.tmps) = true then Oper.wp Try.prog o a w K Q else E := by
  rw [if_pos hw]
  obtain ⟨i0, hi, hz0, hz1, hz2⟩ := info_parts Try.infoMsg
  have key : ∃ v' w', (Builtin.append_ #[37, 37] o.type #[v, .slice ao m.length c]).run Try.prog w = .ok v' w' ∧ w'.ownsRow base 43 7 v' (L ++ m).length (mgCells (L ++ m)) ∧ w.grownBy w' v.ownBlock := by
    cases ao with
    | none =>
      obtain ⟨rfl, rfl⟩ := hn rfl
      exact ⟨v, w, run_append_owned_none (P := Try.prog) (w := w) base 37 o.type 43 i0 7 Try.underlying37 hi v _ _ hown, by simpa using hown, ⟨rfl, rfl, rfl, Nat.le_refl _, fun _ _ _ => rfl⟩⟩
    | some ad =>
      obtain ⟨v', w', hr, h2, h3, _, _⟩ := run_append_own_at (P := Try.prog) w base 37 o.type 43 i0 _ 7 56 Try.underlying37 hi hz0 hz1 hz2 rfl (by decide) v L.length (mgCells L) hown ad m.length c (mgCells m) (mgCells_len m) (mgs_news hm) (fun u hu => mgCells_one hu) (by unfold maxLen; omega) (by omega) hbase
      exact ⟨v', w', hr, by rw [mgCells_append, List.length_append]; exact h2, h3⟩
  obtain ⟨v', w', hr, h2, h3⟩ := key
  unfold Oper.wp execOp
  simp only [ho, resolve, invoke, builtin, Sem.run_bind, Sem.run_pure, Result.andThen_ok, List.map_toArray, List.map_cons, List.map_nil, hs, hx, hr]
  obtain ⟨a', c', rfl, _⟩ := row_slice h2
  exact h a' c' w' h2 h3
theorem step_put {ops : Array Oper} {o : Oper} {a : Act} {w : World} {K : Act → World → Prop} {Q : Exit → Act → World → Prop} {E : Prop} (hw : Region.wanted o (yielded ops a.tmps) = true) (d s : Operand) {t : TypeId}
    (ho : o.op = .store 37 d s) (p : Nat) (hd : a.eval d = .pointer (some ⟨p, 0, none⟩)) (ao : Option Addr) (n c : Nat) (hs : a.eval s = .slice ao n c) {v : Value} (hp : Boxed w p t v)
    (h : K (a.put o.dst undef) (w.setCell ⟨p, 0, none⟩ (.slice ao n c))) :
    if Region.wanted o (yielded ops a.tmps) = true then Oper.wp Try.prog o a w K Q else E := by
  rw [if_pos hw]
  unfold Oper.wp execOp
  rw [ho]
  have hc := hp.cell
  have hf := hp.frozen
  simp only [hd, hs]
  simp [go_sem, hc, hf]
  exact h
end Go.Proofs.Ytinbmnefdhkdfaa
