/-
  Appends of acts, said by lengths; and as steps of a region that draws.
-/
import Derived.Test.YtdoejppnifoebaaFlwA
namespace Go.Proofs.Ytdoejppnifoebaa
open Go.ChangeShapes Go.WideShapes Go.ChangeAt Go.RowKit

/-- The call's own row of the acts L, of n of them. -/
def OwnR (w : World) (base : Nat) (v : Value) (n : Nat) (L : List (Int × Int)) : Prop := L.length = n ∧ w.ownsRow base 33 2 v n (stCells L)
theorem OwnR.alloc {w : World} {base : Nat} {v : Value} {n : Nat} {L : List (Int × Int)} (h : OwnR w base v n L) (o : Obj) : OwnR (w.alloc o) base v n L := ⟨h.1, h.2.alloc o⟩
theorem OwnR.sts {w : World} {base n c : Nat} {a : Option Addr} {L : List (Int × Int)} (h : OwnR w base (.slice a n c) n L) : Sts w a L := by
  obtain ⟨rfl, h2⟩ := h
  exact row_acts h2
theorem OwnR.nil (w : World) (base : Nat) : OwnR w base (.slice none 0 0) 0 [] := ⟨rfl, World.ownsRow_nil _ _ _ _⟩
theorem OwnR.cap {w : World} {base n c : Nat} {a : Option Addr} {L : List (Int × Int)} (h : OwnR w base (.slice a n c) n L) : n ≤ c := by
  obtain ⟨a', c', e, h2⟩ := row_slice h.2
  cases e
  exact h2
theorem OwnR.grown {w w1 : World} {base n : Nat} {v : Value} {L : List (Int × Int)} (h : OwnR w base v n L) (hb : base ≤ w.heap.size) (hg : w.grownBy w1 v.ownBlock) : Below base w w1 := grown_below hb h.2 hg
/-- What lay stays: a row of one's own stays where no cells of its kind turn. -/
theorem OwnR.below {w w' : World} {base n : Nat} {v : Value} {L : List (Int × Int)} (h : OwnR w base v n L) (hb : Below w.heap.size w w') : OwnR w' base v n L :=
  ⟨h.1, row_stays h.2 (fun k _ _ hc => hb.block k (Array.getElem?_eq_some_iff.1 hc).1)⟩

theorem append_R {w : World} {ops : Array Oper} {rest : List Oper} {o : Oper} {a : Act} {Q : Exit → Act → World → Prop} (hgd : o.guard = none) (s x : Operand)
    (ho : o.op = .call { callee := .builtin .append, args := #[s, x], argTypes := #[25, 25] })
    (base : Nat) (v : Value) (n : Nat) (L : List (Int × Int)) (hs : a.eval s = v) (hown : OwnR w base v n L) (ad : Addr) (m : List (Int × Int)) (k c : Nat) (hk : m.length = k) (hx : a.eval x = .slice (some ad) k c)
    (hm : Sts w (some ad) m) (hb : n + k ≤ 1000000) (hbase : base ≤ w.heap.size)
    (h : ∀ a' c' w', OwnR w' base (.slice a' (n + k) c') (n + k) (L ++ m) → Below base w w' → wpList Try.prog ops Q rest (a.put o.dst (.slice a' (n + k) c')) w') : wpList Try.prog ops Q (o :: rest) a w := by
  subst hk
  obtain ⟨rfl, h2⟩ := hown
  refine append_acts hgd s x ho base v L hs h2 ad m c hx hm hb hbase ?_
  intro a' c' w' h3 h4
  rw [List.length_append] at h3
  exact h a' c' w' ⟨List.length_append, h3⟩ (grown_below hbase h2 h4)

/-- The same as one step of a region that draws; the operation may be guarded. -/
theorem step_R {ops : Array Oper} {o : Oper} {a : Act} {w : World} {K : Act → World → Prop} {Q : Exit → Act → World → Prop} {E : Prop} (hw : Region.wanted o (yielded ops a.tmps) = true) (s x : Operand)
    (ho : o.op = .call { callee := .builtin .append, args := #[s, x], argTypes := #[25, 25] })
    (base : Nat) (v : Value) (n : Nat) (L : List (Int × Int)) (hs : a.eval s = v) (hown : OwnR w base v n L) (ad : Addr) (m : List (Int × Int)) (k c : Nat) (hk : m.length = k) (hx : a.eval x = .slice (some ad) k c)
    (hm : Sts w (some ad) m) (hb : n + k ≤ 1000000) (hbase : base ≤ w.heap.size)
    (h : ∀ a' c' w', OwnR w' base (.slice a' (n + k) c') (n + k) (L ++ m) → Below base w w' → K (a.put o.dst (.slice a' (n + k) c')) w') :
    if Region.wanted o (yielded ops a.tmps) = true then Oper.wp Try.prog o a w K Q else E := by
  rw [if_pos hw]
  subst hk
  obtain ⟨rfl, h2⟩ := hown
  obtain ⟨i0, hi, hz0, hz1, hz2⟩ := info_parts Try.infoAct
  obtain ⟨v', w', hr, h3, h4, -, -⟩ := run_append_own_at (P := Try.prog) w base 25 o.type 33 i0 _ 2 16 Try.underlying25 hi hz0 hz1 hz2 rfl (by decide) v L.length (stCells L) h2 ad m.length c (stCells m) (stCells_len m) (sts_news hm) (by
    intro u hu
    unfold stCells at hu
    rw [List.mem_flatMap] at hu
    obtain ⟨y', _, hy⟩ := hu
    simp at hy
    rcases hy with rfl | rfl <;> rfl) (by unfold maxLen; omega) (by omega) hbase
  unfold Oper.wp execOp
  simp only [ho, resolve, invoke, builtin, Sem.run_bind, Sem.run_pure, Result.andThen_ok, List.map_toArray, List.map_cons, List.map_nil, hs, hx, hr]
  obtain ⟨a', c', rfl, _⟩ := row_slice h3
  refine h a' c' w' ⟨List.length_append, ?_⟩ (grown_below hbase h2 h4)
  rw [stCells_append]
  exact h3
theorem OwnR.fresh (W : World) (base : Nat) (hb : base ≤ W.heap.size) : OwnR (W.alloc (.cells #[] 33)) base (.slice (some ⟨W.heap.size, 0, none⟩) 0 0) 0 [] := ⟨rfl, own_fresh W base hb⟩
/-- One row laid at once is the call's own. -/
theorem OwnR.new (W : World) (base : Nat) (hb : base ≤ W.heap.size) (L : List (Int × Int)) (cs : Array Value) (h : cs.toList = stCells L) (hL : L.length ≤ 1000000) : OwnR (W.alloc (.cells cs 33)) base (.slice (some ⟨W.heap.size, 0, none⟩) L.length L.length) L.length L := by
  refine ⟨rfl, ?_, .inr ⟨W.heap.size, L.length, cs, rfl, hb, by show (W.heap.push _)[W.heap.size]? = _; simp, Nat.le_refl _, by unfold maxLen; omega, ?_, ?_⟩⟩
  · rw [stCells_len]
  · rw [← Array.length_toList, h, stCells_len]
  · rw [h, List.take_of_length_le (by rw [stCells_len]; exact Nat.le_refl _)]
end Go.Proofs.Ytdoejppnifoebaa
