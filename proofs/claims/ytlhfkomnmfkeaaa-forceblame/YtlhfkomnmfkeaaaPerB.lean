/-
  Rows of numbers: parts of one, and one appended to a row of one's own, also a nil one.
-/
import Derived.Test.YtlhfkomnmfkeaaaStrs
namespace Go.Proofs.Ytlhfkomnmfkeaaa
open Go.ChangeShapes Go.WideShapes Go.ChangeAt Go.RowKit

theorem Ints.head {w : World} {a : Option Addr} {l : List Int} (h : Ints w a l) (k : Nat) : Ints w a (l.take k) := by
  rcases h with rfl | ⟨b, off, rfl, hc⟩
  · exact .inl (by simp)
  · refine .inr ⟨b, off, rfl, fun i hi => ?_⟩
    rw [List.length_take] at hi
    rw [hc i (by omega)]
    simp only [List.getD]
    rw [List.getElem?_take_of_lt (by omega)]
/-- l[:k] -/
theorem head_run (W : World) (a : Option Addr) (n cap k : Nat) (hk : k ≤ cap) : (Instr.sliceAt 22 (.slice a n cap) none (some (.int .i64 (k : Int))) none).run Try.prog W = .ok (.slice a k cap) W := by
  have hu : Try.prog.underlying 22 = some (.slice (Try.prog.elem 22)) := by kernel_rfl
  have hz : (sizeOf (Try.prog.elem 22)).run Try.prog W = .ok 1 W := by kernel_rfl
  rw [run_sliceAt_slice _ _ _ _ _ _ hu, run_slice_h _ _ _ _ _ hu _ _ (by omega) (by omega), hz]
  show Result.ok (sliced a 0 (k : Int).toNat cap 1) W = _
  unfold sliced
  cases a with
  | none => simp
  | some y => cases h : decide (cap = 0) <;> simp_all [Addr.add]
/-- Where l[k:] lies. -/
def tailA (a : Option Addr) (cap k : Nat) : Option Addr := if cap = k then a else a.map (·.add k)
/-- l[k:] -/
theorem tail_run (W : World) (a : Option Addr) (n cap k : Nat) (hk : k ≤ n) : (Instr.sliceAt 22 (.slice a n cap) (some (.int .i64 (k : Int))) none none).run Try.prog W = .ok (.slice (tailA a cap k) (n - k) (cap - k)) W := by
  have hu : Try.prog.underlying 22 = some (.slice (Try.prog.elem 22)) := by kernel_rfl
  have hz : (sizeOf (Try.prog.elem 22)).run Try.prog W = .ok 1 W := by kernel_rfl
  rw [run_sliceAt_slice _ _ _ _ _ _ hu, run_slice_l _ _ _ _ _ hu _ _ (by omega) (by omega), hz]
  show Result.ok (sliced a (k : Int).toNat n cap 1) W = _
  unfold sliced tailA
  simp
theorem Ints.tail {w : World} {a : Option Addr} {l : List Int} (h : Ints w a l) (cap k : Nat) (hc : l.length ≤ cap) : Ints w (tailA a cap k) (l.drop k) := by
  by_cases hk : l.length ≤ k
  · exact .inl (List.drop_eq_nil_of_le hk)
  rcases h with rfl | ⟨b, off, rfl, hcell⟩
  · exact .inl (by simp)
  · unfold tailA
    rw [if_neg (by omega)]
    refine .inr ⟨b, off + k, by rw [Option.map_some, st_add'], fun i hi => ?_⟩
    rw [List.length_drop] at hi
    have := hcell (k + i) (by omega)
    rw [Nat.add_assoc, this]
    simp [List.getD]
theorem tail_nil {a : Option Addr} {cap k : Nat} (h : tailA a cap k = none) : a = none := by
  unfold tailA at h
  split at h
  · exact h
  · cases a with
    | none => rfl
    | some x => cases h
theorem nums_empty (w : World) (base : Nat) (hb : base ≤ w.heap.size) : (w.alloc (.cells #[] 3)).ownsRow base 3 1 (.slice (some ⟨w.heap.size, 0, none⟩) 0 0) 0 (([] : List Int).map (Value.int .i64)) :=
  ⟨rfl, .inr ⟨w.heap.size, 0, #[], rfl, hb, by show (w.heap.push _)[w.heap.size]? = _; simp, Nat.le_refl _, Nat.zero_le _, rfl, rfl⟩⟩
theorem nums_nil (w : World) (base : Nat) : w.ownsRow base 3 1 (.slice none 0 0) 0 (([] : List Int).map (Value.int .i64)) :=
  ⟨rfl, .inl ⟨rfl, rfl⟩⟩
theorem append_numsN {w : World} {ops : Array Oper} {rest : List Oper} {o : Oper} {a : Act} {Q : Exit → Act → World → Prop} (hgd : o.guard = none) (s x : Operand)
    (ho : o.op = .call { callee := .builtin .append, args := #[s, x], argTypes := #[22, 22] })
    (base : Nat) (v : Value) (n : Nat) (L : List Int) (hs : a.eval s = v) (hown : w.ownsRow base 3 1 v n (L.map (Value.int .i64)))
    (ao : Option Addr) (m c : Nat) (l : List Int) (hm : l.length = m) (hx : a.eval x = .slice ao m c) (hn : ao = none → m = 0 ∧ c = 0) (hl : Ints w ao l) (hb : n + m ≤ 17592186044416) (hbase : base ≤ w.heap.size)
    (h : ∀ v' w', w'.ownsRow base 3 1 v' (n + m) ((L ++ l).map (Value.int .i64)) → w.grownBy w' v.ownBlock → wpList Try.prog ops Q rest (a.put o.dst v') w') : wpList Try.prog ops Q (o :: rest) a w := by
  cases ao with
  | none =>
    obtain ⟨i0, hi, hz0, hz1, hz2⟩ := info_parts Try.infoNum
    obtain ⟨h0, rfl⟩ := hn rfl
    have e : l = [] := List.eq_nil_of_length_eq_zero (by omega)
    subst e
    subst h0
    refine wpList_append_own_none hgd s x 22 ho base 3 i0 1 Try.underlying22 hi v n _ hs hown hx (h v w ?_ ⟨rfl, rfl, rfl, Nat.le_refl _, fun _ _ _ => rfl⟩)
    simpa using hown
  | some ad => exact append_nums hgd s x ho base v n L hs hown ad m c l hm hx hl hb hbase h
/-- An operation whose guard says yes, without it. -/
theorem wpList_unguard {w : World} {ops : Array Oper} {rest : List Oper} {o : Oper} {a : Act} {Q : Exit → Act → World → Prop} (hw : Region.wanted o (yielded ops a.tmps) = true) (h : wpList Try.prog ops Q ({ o with guard := none } :: rest) a w) : wpList Try.prog ops Q (o :: rest) a w := by
  unfold wpList at h ⊢
  rw [if_pos hw]
  rw [if_pos (by simp [Region.wanted])] at h
  exact h
/-- A row of one's own that reads as l. -/
structure OwnI (w wr : World) (v : Value) (l : List Int) : Prop where
  own : wr.ownsRow w.heap.size 3 1 v l.length (l.map (Value.int .i64))
  bel : Below w.heap.size w wr
theorem OwnI.fresh {w wr : World} (hb : Below w.heap.size w wr) : OwnI w (wr.alloc (.cells #[] 3)) (.slice (some ⟨wr.heap.size, 0, none⟩) 0 0) [] :=
  ⟨nums_empty wr _ hb.size, hb.alloc hb.size _⟩
theorem OwnI.more {w wr u : World} {v v' : Value} {l m : List Int} {n : Nat} (h : OwnI w wr v l) (hn : l.length + m.length = n) (ho : u.ownsRow w.heap.size 3 1 v' n ((l ++ m).map (Value.int .i64))) (hg : wr.grownBy u v.ownBlock) : OwnI w u v' (l ++ m) :=
  ⟨by rw [List.length_append, hn]; exact ho, h.bel.grown hg h.bel.size (fun i e => (h.own.lt i e).1)⟩
theorem OwnI.alloc {w wr : World} {v : Value} {l : List Int} (h : OwnI w wr v l) (o : Obj) : OwnI w (wr.alloc o) v l := ⟨h.own.alloc _, h.bel.alloc h.bel.size _⟩
theorem OwnI.drew {w wr : World} {v : Value} {l : List Int} (h : OwnI w wr v l) : OwnI w wr.drew v l := ⟨owned_on h.own (Below.refl _ _).drew, h.bel.drew⟩
theorem OwnI.ints {w wr : World} {v : Value} {l : List Int} (h : OwnI w wr v l) : ∃ a c, v = .slice a l.length c ∧ l.length ≤ c ∧ (a = none → l.length = 0 ∧ c = 0) ∧ Ints wr a l := by
  obtain ⟨a, c, rfl, hl, hi⟩ := owned_nums h.own
  obtain ⟨_, _, e, hc⟩ := row_slice h.own
  cases e
  refine ⟨a, c, rfl, hc, ?_, hi⟩
  rcases h.own.2 with ⟨e, e2⟩ | ⟨g, cap, cur, e, _⟩
  · injection e with e1 _ e3; exact fun _ => ⟨e2, e3⟩
  · cases e; intro h; cases h
/-- It stays where another row of one's own grows. -/
theorem OwnI.stays {w wr u : World} {v : Value} {l : List Int} {bl : Option Nat} (h : OwnI w wr v l) (hg : wr.grownBy u bl) (hd : ∀ i, v.ownBlock = some i → bl ≠ some i) (hl : ∀ i, bl = some i → w.heap.size ≤ i) : OwnI w u v l :=
  ⟨h.own.kept hg (by
    cases hb : v.ownBlock with
    | none => exact .inl rfl
    | some i => exact .inr fun e => hd i hb e.symm), h.bel.grown hg h.bel.size hl⟩
end Go.Proofs.Ytlhfkomnmfkeaaa
