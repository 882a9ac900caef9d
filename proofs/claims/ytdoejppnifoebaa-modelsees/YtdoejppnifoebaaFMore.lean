/-
  FlowMore: behind all that may happen nothing more may.
-/
import Derived.Test.YtdoejppnifoebaaFlwW
import Derived.Test.YtdoejppnifoebaaFlwD
import Derived.Test.YtdoejppnifoebaaFlwB
import Derived.Test.YtdoejppnifoebaaOrdF
import Derived.Deep.RegionHeld3
namespace Go.Proofs.Ytdoejppnifoebaa
open Go.ChangeShapes Go.WideShapes Go.ChangeAt Go.RowKit

theorem doneL_next (i : Nat) : doneL 0 i ++ [(2, (i : Int))] = doneL 0 (i + 1) := by rw [doneL_snoc]; simp
theorem undoneL_dn : ∀ k, undoneL k = dnL 5 k
  | 0 => rfl
  | k + 1 => by rw [undoneL, dnL, undoneL_dn k]
/-- A copy, as one step of a region that draws. -/
theorem step_R0 {ops : Array Oper} {o : Oper} {a : Act} {w : World} {K : Act → World → Prop} {Q : Exit → Act → World → Prop} {E : Prop} (hw : Region.wanted o (yielded ops a.tmps) = true) (s x : Operand)
    (ho : o.op = .call { callee := .builtin .append, args := #[s, x], argTypes := #[25, 25] })
    (base : Nat) (v : Value) (hs : a.eval s = v) (hown : OwnR w base v 0 []) (ad : Addr) (m : List (Int × Int)) (k c : Nat) (hk : m.length = k) (hx : a.eval x = .slice (some ad) k c)
    (hm : Sts w (some ad) m) (hb : k ≤ 1000000) (hbase : base ≤ w.heap.size)
    (h : ∀ a' c' w', OwnR w' base (.slice a' k c') k m → w.grownBy w' v.ownBlock → K (a.put o.dst (.slice a' k c')) w') :
    if Region.wanted o (yielded ops a.tmps) = true then Oper.wp Try.prog o a w K Q else E := by
  rw [if_pos hw]
  subst hk
  obtain ⟨-, h2⟩ := hown
  obtain ⟨i0, hi, hz0, hz1, hz2⟩ := info_parts Try.infoAct
  obtain ⟨v', w', hr, h3, h4, -, -⟩ := run_append_own_at (P := Try.prog) w base 25 o.type 33 i0 _ 2 16 Try.underlying25 hi hz0 hz1 hz2 rfl (by decide) v 0 (stCells []) h2 ad m.length c (stCells m) (stCells_len m) (sts_news hm) (by
    intro u hu
    unfold stCells at hu
    rw [List.mem_flatMap] at hu
    obtain ⟨y', _, hy⟩ := hu
    simp at hy
    rcases hy with rfl | rfl <;> rfl) (by unfold maxLen; omega) (by omega) hbase
  rw [Nat.zero_add] at h3
  unfold Oper.wp execOp
  simp only [ho, resolve, invoke, builtin, Sem.run_bind, Sem.run_pure, Result.andThen_ok, List.map_toArray, List.map_cons, List.map_nil, hs, hx, hr]
  obtain ⟨a', c', rfl, _⟩ := row_slice h3
  exact h a' c' w' ⟨rfl, h3⟩ h4
/-- The three ways in which a copy's block and one act more may be laid. -/
theorem more_prep {u : World} {b off : Nat} {L : List (Int × Int)} (x y : Int) (hs : Sts u (some ⟨b, off, none⟩) L) :
    (OwnR (u.alloc (.cells #[] 33)) u.heap.size (.slice (some ⟨u.heap.size, 0, none⟩) 0 0) 0 [] ∧ Sts (u.alloc (.cells #[] 33)) (some ⟨b, off, none⟩) L) ∧
    (OwnR ((u.alloc (.cells #[] 33)).alloc (.cells #[.int .i64 x, .int .i64 y] 33)) u.heap.size (.slice (some ⟨u.heap.size, 0, none⟩) 0 0) 0 [] ∧ Sts ((u.alloc (.cells #[] 33)).alloc (.cells #[.int .i64 x, .int .i64 y] 33)) (some ⟨b, off, none⟩) L) ∧
    (OwnR ((u.alloc (.cells #[.int .i64 x, .int .i64 y] 33)).alloc (.cells #[] 33)) u.heap.size (.slice (some ⟨u.heap.size + 1, 0, none⟩) 0 0) 0 [] ∧ Sts ((u.alloc (.cells #[.int .i64 x, .int .i64 y] 33)).alloc (.cells #[] 33)) (some ⟨b, off, none⟩) L) := by
  have hb : ∀ (v : World) (o : Obj), Below v.heap.size v (v.alloc o) := fun v o => (Below.refl _ _).alloc (Nat.le_refl _) _
  refine ⟨⟨OwnR.fresh u _ (Nat.le_refl _), hs.below (hb _ _)⟩, ⟨(OwnR.fresh u _ (Nat.le_refl _)).alloc _, (hs.below (hb _ _)).below (hb _ _)⟩, ?_, (hs.below (hb _ _)).below (hb _ _)⟩
  have h := OwnR.fresh (u.alloc (.cells #[.int .i64 x, .int .i64 y] 33)) u.heap.size (by simp)
  rw [World.size_alloc] at h
  exact h
/-- Behind the copy: what lay lies; where the act was laid ahead of it, it still is. -/
theorem more_A {u w8 : World} (g : (u.alloc (.cells #[] 33)).grownBy w8 (Value.slice (some ⟨u.heap.size, 0, none⟩) 0 0).ownBlock) : Below u.heap.size u w8 := fresh_below g
theorem more_B {u w8 : World} {x y : Int} (g : ((u.alloc (.cells #[] 33)).alloc (.cells #[.int .i64 x, .int .i64 y] 33)).grownBy w8 (Value.slice (some ⟨u.heap.size, 0, none⟩) 0 0).ownBlock) : Below u.heap.size u w8 ∧ Sts w8 (some ⟨u.heap.size + 1, 0, none⟩) [(x, y)] := by
  have hb : ∀ (v : World) (o : Obj), Below v.heap.size v (v.alloc o) := fun v o => (Below.refl _ _).alloc (Nat.le_refl _) _
  refine ⟨(bel_on' (hb u _) (hb _ _)).trans (grown_below (by simp; omega) ((OwnR.fresh u _ (Nat.le_refl _)).alloc _).2 g), ?_⟩
  have h := acts_one (u.alloc (.cells #[] 33)) x y
  rw [World.size_alloc] at h
  rcases h with h | ⟨b, off, e, hc⟩
  · cases h
  · cases e
    exact .inr ⟨_, _, rfl, fun i hi => ⟨(World.cell?_of_block (g.block _ (by simp) (by simp [Value.ownBlock]))).trans (hc i hi).1, (World.cell?_of_block (g.block _ (by simp) (by simp [Value.ownBlock]))).trans (hc i hi).2⟩⟩
theorem more_C {u w8 : World} {x y : Int} (g : ((u.alloc (.cells #[.int .i64 x, .int .i64 y] 33)).alloc (.cells #[] 33)).grownBy w8 (Value.slice (some ⟨u.heap.size + 1, 0, none⟩) 0 0).ownBlock) : Below u.heap.size u w8 ∧ Sts w8 (some ⟨u.heap.size, 0, none⟩) [(x, y)] := by
  have h0 := acts_one u x y
  have hb : ∀ (v : World) (o : Obj), Below v.heap.size v (v.alloc o) := fun v o => (Below.refl _ _).alloc (Nat.le_refl _) _
  have g' : ((u.alloc (.cells #[.int .i64 x, .int .i64 y] 33)).alloc (.cells #[] 33)).grownBy w8 (Value.slice (some ⟨(u.alloc (.cells #[.int .i64 x, .int .i64 y] 33)).heap.size, 0, none⟩) 0 0).ownBlock := by rw [World.size_alloc]; exact g
  have h1 := fresh_below g'
  exact ⟨bel_on' (hb u _) h1, h0.below h1⟩
theorem dnL_len (k : Int) : ∀ m, (dnL k m).length = m
  | 0 => rfl
  | m + 1 => by rw [dnL]; simp [dnL_len k m]
theorem more_yes {o : Od} (hm : mayO o = true) (x : Int × Int) : legalO o (doneL 0 o.steps.length ++ [(13, 0), (16, 0)]) = o.steps.length + 2 ∧ legalO o (doneL 0 o.steps.length ++ [(13, 0), (16, 0)] ++ [x]) = o.steps.length + 2 := by
  have h := go_ahead o.steps.length
  have e : (doneL 0 o.steps.length ++ [(13, 0), (16, 0)]).length = o.steps.length + 2 := by simp [doneL_len]
  exact ⟨(legal_go hm h).trans e, (legal_more hm h (see_ship x)).trans e⟩
theorem more_no {o : Od} (hm : mayO o = true) (x : Int × Int) : legalO o (doneL 0 o.steps.length ++ [(14, 0)] ++ dnL 5 o.steps.length) = o.steps.length + 1 + o.steps.length ∧ legalO o (doneL 0 o.steps.length ++ [(14, 0)] ++ dnL 5 o.steps.length ++ [x]) = o.steps.length + 1 + o.steps.length := by
  have h := go_way o.steps.length o.steps.length (Nat.le_refl _)
  rw [undoneL_dn, ← List.singleton_append, ← List.append_assoc] at h
  have e : (doneL 0 o.steps.length ++ [(14, 0)] ++ dnL 5 o.steps.length).length = o.steps.length + 1 + o.steps.length := by simp [doneL_len, dnL_len]; omega
  exact ⟨(legal_go hm h).trans e, (legal_more hm h (see_back x)).trans e⟩

end Go.Proofs.Ytdoejppnifoebaa
