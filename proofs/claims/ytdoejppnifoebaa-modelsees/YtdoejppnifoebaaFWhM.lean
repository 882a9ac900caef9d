/-
  For FlowWhole: the kinds as they happen; a map of five numbers; appends that tell which block has turned.
-/
import Derived.Test.YtdoejppnifoebaaFlwB
import Derived.Test.YtdoejppnifoebaaFlwW
import Derived.Test.YtdoejppnifoebaaFMore
import Derived.MapKept
namespace Go.Proofs.Ytdoejppnifoebaa
open Go.ChangeShapes Go.WideShapes Go.ChangeAt Go.RowKit

def kindOf (x : Int) : Int := if x = 1 then 2 else if x = 9 then 13 else if x = 15 then 16 else if x = 10 then 14 else if x = 4 then 5 else 0
def conv (l : List (Int × Int)) : List (Int × Int) := l.filterMap fun x => if 0 < kindOf x.1 then some (kindOf x.1, x.2) else none
def convB (c : Int) (l : List (Int × Int)) : List (Int × Int) := l.filterMap fun x => if kindOf x.1 = 14 ∨ x.2 < c then some (kindOf x.1, x.2) else none
theorem conv_next {l : List (Int × Int)} {k : Nat} (h : k < l.length) : conv (l.take (k + 1)) = conv (l.take k) ++ (if 0 < kindOf (stAt l k).1 then [(kindOf (stAt l k).1, (stAt l k).2)] else []) := by
  unfold conv
  rw [List.take_succ_eq_append_getElem h, List.filterMap_append, ← stAt_get h]
  congr 1
  simp only [List.filterMap_cons, List.filterMap_nil]
  split <;> simp_all
theorem convB_next {c : Int} {l : List (Int × Int)} {k : Nat} (h : k < l.length) : convB c (l.take (k + 1)) = convB c (l.take k) ++ (if kindOf (stAt l k).1 = 14 ∨ (stAt l k).2 < c then [(kindOf (stAt l k).1, (stAt l k).2)] else []) := by
  unfold convB
  rw [List.take_succ_eq_append_getElem h, List.filterMap_append, ← stAt_get h]
  congr 1
  simp only [List.filterMap_cons, List.filterMap_nil]
  split <;> simp_all
theorem conv_up : ∀ (m j : Nat), conv (upL 1 j m) = doneL j m
  | 0, _ => rfl
  | m + 1, j => by
    rw [upL, doneL, ← conv_up m (j + 1)]
    unfold conv
    simp [kindOf]
theorem conv_plan {o : Od} (hm : mayO o = true) : conv (planL o) = doneL 0 o.steps.length ++ [(13, 0), (16, 0)] := by
  rw [planL_may hm, ← conv_up]
  unfold conv
  rw [List.filterMap_append]
  congr 1
theorem convB_dn (c : Nat) : ∀ m, c ≤ m → convB c (dnL 4 m) = dnL 5 c
  | 0, h => by
    obtain rfl : c = 0 := by omega
    rfl
  | m + 1, h => by
    have e : ∀ r, r ≤ c → convB c (dnL 4 r) = dnL 5 r := by
      intro r
      induction r with
      | zero => intro _; rfl
      | succ r ih =>
        intro hr
        rw [dnL, dnL, ← ih (by omega)]
        unfold convB
        rw [List.filterMap_cons]
        have : ((r : Nat) : Int) < (c : Int) := by omega
        simp [kindOf, this]
    by_cases hc : c = m + 1
    · rw [← hc]; exact e c (Nat.le_refl _)
    · rw [dnL, ← convB_dn c m (by omega)]
      unfold convB
      rw [List.filterMap_cons]
      have : ¬ ((m : Nat) : Int) < (c : Int) := by omega
      simp [kindOf, this]
theorem convB_back {o : Od} (hm : mayO o = true) {c : Nat} (hc : c ≤ o.steps.length) : convB c (backL o) = (14, 0) :: dnL 5 c := by
  rw [backL_may hm, ← convB_dn c o.steps.length hc]
  unfold convB
  rw [List.filterMap_cons]
  simp [kindOf]
theorem take_ahead (n c : Nat) (hc : c ≤ n) : (doneL 0 n ++ [(13, 0), (16, 0)]).take c = doneL 0 c := by
  have e : ∀ (r j c : Nat), c ≤ r → (doneL j r).take c = doneL j c := by
    intro r
    induction r with
    | zero => intro j c h; obtain rfl : c = 0 := by omega
              rfl
    | succ r ih =>
      intro j c h
      cases c with
      | zero => simp [doneL]
      | succ c => rw [doneL, List.take_succ_cons, ih _ _ (by omega), doneL]
  rw [List.take_append_of_le_length (by rw [doneL_len]; exact hc), e n 0 c hc]
theorem whole_legal {o : Od} (hm : mayO o = true) {c : Nat} (hc : c ≤ o.steps.length) :
    legalO o (conv (planL o)) = o.steps.length + 2 ∧ (conv (planL o)).length = o.steps.length + 2 ∧ legalO o ((conv (planL o)).take c ++ convB c (backL o)) = 2 * c + 1 ∧ ((conv (planL o)).take c ++ convB c (backL o)).length = 2 * c + 1 := by
  have h1 := go_ahead o.steps.length
  have e1 : (doneL 0 o.steps.length ++ [(13, 0), (16, 0)]).length = o.steps.length + 2 := by simp [doneL_len]
  have h2 := go_way o.steps.length c hc
  rw [undoneL_dn] at h2
  have e2 : (doneL 0 c ++ ((14, 0) :: dnL 5 c)).length = 2 * c + 1 := by simp [doneL_len, dnL_len]; omega
  rw [conv_plan hm, convB_back hm hc, take_ahead _ _ hc]
  exact ⟨(legal_go hm h1).trans e1, e1, (legal_go hm h2).trans e2, e2⟩

/-! The map. -/
def kindsES : Array MapEntry := #[{ key := .int .i64 1, val := .int .i64 2, born := 0 }, { key := .int .i64 9, val := .int .i64 13, born := 1 }, { key := .int .i64 15, val := .int .i64 16, born := 2 }, { key := .int .i64 10, val := .int .i64 14, born := 3 }, { key := .int .i64 4, val := .int .i64 5, born := 4 }]
/-- An append that tells which block has turned. -/
theorem append_G {w : World} {ops : Array Oper} {rest : List Oper} {o : Oper} {a : Act} {Q : Exit → Act → World → Prop} (hgd : o.guard = none) (s x : Operand)
    (ho : o.op = .call { callee := .builtin .append, args := #[s, x], argTypes := #[25, 25] })
    (base : Nat) (v : Value) (n : Nat) (L : List (Int × Int)) (hs : a.eval s = v) (hown : OwnR w base v n L) (ad : Addr) (m : List (Int × Int)) (k c : Nat) (hk : m.length = k) (hx : a.eval x = .slice (some ad) k c)
    (hm : Sts w (some ad) m) (hb : n + k ≤ 1000000) (hbase : base ≤ w.heap.size)
    (h : ∀ a' c' w', OwnR w' base (.slice a' (n + k) c') (n + k) (L ++ m) → w.grownBy w' v.ownBlock → ((Value.slice a' (n + k) c').ownBlock = v.ownBlock ∨ (Value.slice a' (n + k) c').ownBlock = some w.heap.size) → wpList Try.prog ops Q rest (a.put o.dst (.slice a' (n + k) c')) w') : wpList Try.prog ops Q (o :: rest) a w := by
  subst hk
  obtain ⟨rfl, h2⟩ := hown
  obtain ⟨i0, hi, hz0, hz1, hz2⟩ := info_parts Try.infoAct
  refine wpList_append_own_at _ hgd s x 25 ho base 33 i0 _ 2 16 Try.underlying25 hi hz0 hz1 hz2 rfl (by decide) v L.length (stCells L) hs h2 ad m.length c (stCells m) hx (stCells_len m) (sts_news hm) ?_ (by unfold maxLen; omega) (by omega) hbase ?_
  · intro u hu
    unfold stCells at hu
    rw [List.mem_flatMap] at hu
    obtain ⟨y, _, hy⟩ := hu
    simp at hy
    rcases hy with rfl | rfl <;> rfl
  · intro v' w' h3 h4 _ h5
    obtain ⟨a', c', rfl, _⟩ := row_slice h3
    refine h a' c' w' ⟨List.length_append, ?_⟩ h4 h5
    rw [stCells_append]
    exact h3
/-- A row's own block lies ahead of lo, or at hi or behind. -/
def Far (lo hi : Nat) (v : Value) : Prop := ∀ g, v.ownBlock = some g → g < lo ∨ hi ≤ g
theorem far_mid {lo hi : Nat} {v v' : Value} {w W w' : World} {O : Obj} (hf : Far lo hi v) (hs : hi ≤ W.heap.size) (hm : ∀ k, lo ≤ k → k < hi → W.heap[k]? = w.heap[k]?) (hg : (W.alloc O).grownBy w' v.ownBlock) (hv : v'.ownBlock = v.ownBlock ∨ v'.ownBlock = some (W.alloc O).heap.size) :
    Far lo hi v' ∧ (∀ k, lo ≤ k → k < hi → w'.heap[k]? = w.heap[k]?) ∧ hi ≤ w'.heap.size := by
  have hsz := hg.size
  simp at hsz
  refine ⟨fun g hgb => ?_, fun k h1 h2 => ?_, by omega⟩
  · rcases hv with e | e
    · exact hf g (by rw [← e]; exact hgb)
    · rw [e] at hgb
      cases hgb
      right
      simp
      omega
  · rw [hg.block k (by simp; omega) (fun e => by rcases hf k e.symm with h | h <;> omega), Below.heap_alloc _ _ _ (by omega)]
    exact hm k h1 h2
end Go.Proofs.Ytdoejppnifoebaa
