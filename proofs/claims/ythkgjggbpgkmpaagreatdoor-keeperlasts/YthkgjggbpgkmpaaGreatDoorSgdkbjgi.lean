/-
  KeeperLasts: the walk.
-/
import Derived.Test.YthkgjggbpgkmpaaGreatDoorSgpcoklm
import Derived.Test.YthkgjggbpgkmpaaGreatDoorSgfihjge
import Derived.Test.YthkgjggbpgkmpaaGreatDoorSggjnjid
import Derived.Test.YthkgjggbpgkmpaaGreatDoorSgihhnle
import Derived.Test.YthkgjggbpgkmpaaGreatDoorSgmhhcne
import Derived.Deep.CutBlock
import Derived.Deep.CutRange
namespace Go.Proofs.YthkgjggbpgkmpaaGreatDoor
open Go.ChangeShapes Go.WideShapes Go.ChangeAt Go.RowKit Go.Maps

/-- All that the law has ahead of a call. -/
structure LSt (w0 wr : World) (p a b : Nat) (E : Nat → Prop) (v : Kv) (n : Nat) (F : Nat → Value) (W : Nat → List Int) (mu : Nat → Int) (A : Int) (j : Nat) : Prop where
  ly : LY w0 wr p a b E v n F W mu
  nn : n ≤ 10000 + 4 * j
  lk : Lk v A j mu
  wy : ∀ x : Nat, 1 ≤ x → x ≤ 9 → Wy (W x) (v.st.s x)
  wl : ∀ x : Nat, x < 10 → (W x).length ≤ j
  w0_ : W 0 = []
/-- Within the inner loop, behind k ids. -/
structure LIn (w0 wr : World) (p a b : Nat) (E : Nat → Prop) (v : Kv) (n : Nat) (F : Nat → Value) (W : Nat → List Int) (mu : Nat → Int) (A : Int) (j k : Nat) : Prop where
  ly : LY w0 wr p a b E v n F W mu
  nn : n ≤ 10000 + 4 * j
  lk : Lk v A j mu
  wy : ∀ x : Nat, 1 ≤ x → x ≤ 9 → ∃ s, Wy (W x) s ∧ (x ≤ k → s = v.st.s x) ∧ folV s (v.st.s x) = true
  wl : ∀ x : Nat, x < 10 → (W x).length ≤ j
  wm : ∀ x : Nat, k < x → x < 10 → (W x).length < j
  w0_ : W 0 = []
section
variable {w0 wr u : World} {p a b : Nat} {E E' : Nat → Prop} {v v' : Kv} {n n' : Nat} {F : Nat → Value} {W : Nat → List Int} {mu mu' : Nat → Int} {A : Int} {j k : Nat}
theorem LSt.inn (h : LSt w0 wr p a b E v n F W mu A j) (ly : LY w0 u p a b E' v' n' F W mu') (hn : n' ≤ 10000 + 4 * (j + 1)) (lk : Lk v' A (j + 1) mu') (hf : ∀ x : Nat, 1 ≤ x → x ≤ 9 → folV (v.st.s x) (v'.st.s x) = true) : LIn w0 u p a b E' v' n' F W mu' A (j + 1) 0 :=
  ⟨ly, hn, lk, fun x h1 h2 => ⟨_, h.wy x h1 h2, fun e => by omega, hf x h1 h2⟩, fun x hx => Nat.le_succ_of_le (h.wl x hx), fun x _ hx => Nat.lt_succ_of_le (h.wl x hx), h.w0_⟩
theorem LIn.st (h : LIn w0 wr p a b E v n F W mu A j k) (hk : k = 9) : LSt w0 wr p a b E v n F W mu A j :=
  ⟨h.ly, h.nn, h.lk, fun x h1 h2 => by obtain ⟨s, y1, y2, y3⟩ := h.wy x h1 h2; rw [← y2 (by omega)]; exact y1, h.wl, h.w0_⟩
theorem LIn.app (h : LIn w0 wr p a b E v n F W mu A j k) (hk : k < 9) {K : Nat} (hK : k + 1 = K) {o : Obj} {g cap : Nat} (ho : u.ownsRow w0.heap.size 3 1 (.slice (some ⟨g, 0, none⟩) ((W K).length + 1) cap) ((W K).length + 1) ((W K).map (Value.int .i64) ++ [.int .i64 (v.st.s (K : Int))]))
    (hg : (wr.alloc o).grownBy u (F K).ownBlock) (hat : (F K).ownBlock = some g ∨ g = (wr.alloc o).heap.size) :
    LIn w0 (u.setCell ⟨a, K, none⟩ (.slice (some ⟨g, 0, none⟩) ((W K).length + 1) cap)) p a b E v n (updX F K (.slice (some ⟨g, 0, none⟩) ((W K).length + 1) cap)) (updX W K (W K ++ [v.st.s (K : Int)])) mu A j K := by
  subst hK
  refine ⟨h.ly.app (by omega) ho hg hat, h.nn, h.lk, fun x h1 h2 => ?_, fun x hx => ?_, fun x h1 hx => ?_, ?_⟩
  · by_cases e : x = k + 1
    · subst e
      rw [updX_same]
      obtain ⟨s, y1, y2, y3⟩ := h.wy _ h1 h2
      exact ⟨_, y1.put y3, fun _ => rfl, by simp [folV]⟩
    · rw [updX_other _ _ e]
      obtain ⟨s, y1, y2, y3⟩ := h.wy _ h1 h2
      exact ⟨s, y1, fun hx => y2 (by omega), y3⟩
  · by_cases e : x = k + 1
    · subst e
      rw [updX_same]
      have := h.wm (k + 1) (by omega) hx
      simp; omega
    · rw [updX_other _ _ e]; exact h.wl x hx
  · rw [updX_other _ _ (by omega)]; exact h.wm x (by omega) hx
  · rw [updX_other _ _ (by omega)]; exact h.w0_
end
theorem wpList_bare {w : World} {ops : Array Oper} {rest : List Oper} {o : Oper} {a : Act} {Q : Exit → Act → World → Prop} (hw : Region.wanted o (yielded ops a.tmps) = true) (h : wpList Tryz.prog ops Q ({ o with guard := none } :: rest) a w) : wpList Tryz.prog ops Q (o :: rest) a w := by
  unfold wpList at h ⊢
  rw [if_pos hw]
  rw [if_pos (by simp [Region.wanted])] at h
  exact h
theorem append_one {w : World} {ops : Array Oper} {rest : List Oper} {o : Oper} {a : Act} {Q : Exit → Act → World → Prop} (hgd : o.guard = none) (s x : Operand)
    (ho : o.op = .call { callee := .builtin .append, args := #[s, x], argTypes := #[22, 22] })
    (base : Nat) (v : Value) (n : Nat) (L : List Int) (hs : a.eval s = v) (hown : w.ownsRow base 3 1 v n (L.map (Value.int .i64)))
    (ad : Addr) (c : Nat) (z : Int) (hx : a.eval x = .slice (some ad) 1 c) (hl : Ints w (some ad) [z]) (hb : n + 1 ≤ 17592186044416) (hbase : base ≤ w.heap.size)
    (h : ∀ g cap w', w'.ownsRow base 3 1 (.slice (some ⟨g, 0, none⟩) (n + 1) cap) (n + 1) (L.map (Value.int .i64) ++ [.int .i64 z]) → w.grownBy w' v.ownBlock → (v.ownBlock = some g ∨ g = w.heap.size) → wpList Tryz.prog ops Q rest (a.put o.dst (.slice (some ⟨g, 0, none⟩) (n + 1) cap)) w') : wpList Tryz.prog ops Q (o :: rest) a w := by
  obtain ⟨i0, hi, hz0, hz1, hz2⟩ := info_parts Tryz.infoNum
  refine wpList_append_lies _ hgd s x 22 ho base 3 i0 (.int .i64 0) 1 8 Tryz.underlying22 hi hz0 hz1 hz2 rfl (by decide) v n _ hs hown ad 1 c [.int .i64 z] hx (by simp) ?_ ?_ (by omega) (by unfold maxLen; omega) (by omega) hbase _ rfl ?_
  · intro j u hu
    rcases hl with hl | ⟨b, off, hab, hc⟩
    · cases hl
    · cases hab
      have hj : j = 0 := by
        rcases Nat.lt_or_ge j 1 with h | h
        · omega
        · rw [List.getElem?_eq_none (by simpa using h)] at hu; cases hu
      subst hj
      cases hu
      have := hc 0 (by simp)
      simpa [Addr.add] using this
  · intro u hu
    simp at hu
    subst hu
    rfl
  · intro g cap w' h1 h2 h3 _
    exact h g cap w' h1 h2 h3
theorem idx10_0 (a : Nat → Option Addr) (n c : Nat → Nat) (U : World) : (Instr.index 61 (.agg #[.slice (a 0) (n 0) (c 0), .slice (a 1) (n 1) (c 1), .slice (a 2) (n 2) (c 2), .slice (a 3) (n 3) (c 3), .slice (a 4) (n 4) (c 4), .slice (a 5) (n 5) (c 5), .slice (a 6) (n 6) (c 6), .slice (a 7) (n 7) (c 7), .slice (a 8) (n 8) (c 8), .slice (a 9) (n 9) (c 9)]) (.int .i64 0)).run Tryz.prog U = .ok (.slice (a 0) (n 0) (c 0)) U := by kernel_rfl
theorem idx10_1 (a : Nat → Option Addr) (n c : Nat → Nat) (U : World) : (Instr.index 61 (.agg #[.slice (a 0) (n 0) (c 0), .slice (a 1) (n 1) (c 1), .slice (a 2) (n 2) (c 2), .slice (a 3) (n 3) (c 3), .slice (a 4) (n 4) (c 4), .slice (a 5) (n 5) (c 5), .slice (a 6) (n 6) (c 6), .slice (a 7) (n 7) (c 7), .slice (a 8) (n 8) (c 8), .slice (a 9) (n 9) (c 9)]) (.int .i64 1)).run Tryz.prog U = .ok (.slice (a 1) (n 1) (c 1)) U := by kernel_rfl
theorem idx10_2 (a : Nat → Option Addr) (n c : Nat → Nat) (U : World) : (Instr.index 61 (.agg #[.slice (a 0) (n 0) (c 0), .slice (a 1) (n 1) (c 1), .slice (a 2) (n 2) (c 2), .slice (a 3) (n 3) (c 3), .slice (a 4) (n 4) (c 4), .slice (a 5) (n 5) (c 5), .slice (a 6) (n 6) (c 6), .slice (a 7) (n 7) (c 7), .slice (a 8) (n 8) (c 8), .slice (a 9) (n 9) (c 9)]) (.int .i64 2)).run Tryz.prog U = .ok (.slice (a 2) (n 2) (c 2)) U := by kernel_rfl
theorem idx10_3 (a : Nat → Option Addr) (n c : Nat → Nat) (U : World) : (Instr.index 61 (.agg #[.slice (a 0) (n 0) (c 0), .slice (a 1) (n 1) (c 1), .slice (a 2) (n 2) (c 2), .slice (a 3) (n 3) (c 3), .slice (a 4) (n 4) (c 4), .slice (a 5) (n 5) (c 5), .slice (a 6) (n 6) (c 6), .slice (a 7) (n 7) (c 7), .slice (a 8) (n 8) (c 8), .slice (a 9) (n 9) (c 9)]) (.int .i64 3)).run Tryz.prog U = .ok (.slice (a 3) (n 3) (c 3)) U := by kernel_rfl
theorem idx10_4 (a : Nat → Option Addr) (n c : Nat → Nat) (U : World) : (Instr.index 61 (.agg #[.slice (a 0) (n 0) (c 0), .slice (a 1) (n 1) (c 1), .slice (a 2) (n 2) (c 2), .slice (a 3) (n 3) (c 3), .slice (a 4) (n 4) (c 4), .slice (a 5) (n 5) (c 5), .slice (a 6) (n 6) (c 6), .slice (a 7) (n 7) (c 7), .slice (a 8) (n 8) (c 8), .slice (a 9) (n 9) (c 9)]) (.int .i64 4)).run Tryz.prog U = .ok (.slice (a 4) (n 4) (c 4)) U := by kernel_rfl
theorem idx10_5 (a : Nat → Option Addr) (n c : Nat → Nat) (U : World) : (Instr.index 61 (.agg #[.slice (a 0) (n 0) (c 0), .slice (a 1) (n 1) (c 1), .slice (a 2) (n 2) (c 2), .slice (a 3) (n 3) (c 3), .slice (a 4) (n 4) (c 4), .slice (a 5) (n 5) (c 5), .slice (a 6) (n 6) (c 6), .slice (a 7) (n 7) (c 7), .slice (a 8) (n 8) (c 8), .slice (a 9) (n 9) (c 9)]) (.int .i64 5)).run Tryz.prog U = .ok (.slice (a 5) (n 5) (c 5)) U := by kernel_rfl
theorem idx10_6 (a : Nat → Option Addr) (n c : Nat → Nat) (U : World) : (Instr.index 61 (.agg #[.slice (a 0) (n 0) (c 0), .slice (a 1) (n 1) (c 1), .slice (a 2) (n 2) (c 2), .slice (a 3) (n 3) (c 3), .slice (a 4) (n 4) (c 4), .slice (a 5) (n 5) (c 5), .slice (a 6) (n 6) (c 6), .slice (a 7) (n 7) (c 7), .slice (a 8) (n 8) (c 8), .slice (a 9) (n 9) (c 9)]) (.int .i64 6)).run Tryz.prog U = .ok (.slice (a 6) (n 6) (c 6)) U := by kernel_rfl
theorem idx10_7 (a : Nat → Option Addr) (n c : Nat → Nat) (U : World) : (Instr.index 61 (.agg #[.slice (a 0) (n 0) (c 0), .slice (a 1) (n 1) (c 1), .slice (a 2) (n 2) (c 2), .slice (a 3) (n 3) (c 3), .slice (a 4) (n 4) (c 4), .slice (a 5) (n 5) (c 5), .slice (a 6) (n 6) (c 6), .slice (a 7) (n 7) (c 7), .slice (a 8) (n 8) (c 8), .slice (a 9) (n 9) (c 9)]) (.int .i64 7)).run Tryz.prog U = .ok (.slice (a 7) (n 7) (c 7)) U := by kernel_rfl
theorem idx10_8 (a : Nat → Option Addr) (n c : Nat → Nat) (U : World) : (Instr.index 61 (.agg #[.slice (a 0) (n 0) (c 0), .slice (a 1) (n 1) (c 1), .slice (a 2) (n 2) (c 2), .slice (a 3) (n 3) (c 3), .slice (a 4) (n 4) (c 4), .slice (a 5) (n 5) (c 5), .slice (a 6) (n 6) (c 6), .slice (a 7) (n 7) (c 7), .slice (a 8) (n 8) (c 8), .slice (a 9) (n 9) (c 9)]) (.int .i64 8)).run Tryz.prog U = .ok (.slice (a 8) (n 8) (c 8)) U := by kernel_rfl
theorem idx10_9 (a : Nat → Option Addr) (n c : Nat → Nat) (U : World) : (Instr.index 61 (.agg #[.slice (a 0) (n 0) (c 0), .slice (a 1) (n 1) (c 1), .slice (a 2) (n 2) (c 2), .slice (a 3) (n 3) (c 3), .slice (a 4) (n 4) (c 4), .slice (a 5) (n 5) (c 5), .slice (a 6) (n 6) (c 6), .slice (a 7) (n 7) (c 7), .slice (a 8) (n 8) (c 8), .slice (a 9) (n 9) (c 9)]) (.int .i64 9)).run Tryz.prog U = .ok (.slice (a 9) (n 9) (c 9)) U := by kernel_rfl
theorem idx10 (a : Nat → Option Addr) (n c : Nat → Nat) {j : Nat} (hj : j < 10) (U : World) : (Instr.index 61 (.agg #[.slice (a 0) (n 0) (c 0), .slice (a 1) (n 1) (c 1), .slice (a 2) (n 2) (c 2), .slice (a 3) (n 3) (c 3), .slice (a 4) (n 4) (c 4), .slice (a 5) (n 5) (c 5), .slice (a 6) (n 6) (c 6), .slice (a 7) (n 7) (c 7), .slice (a 8) (n 8) (c 8), .slice (a 9) (n 9) (c 9)]) (.int .i64 (j : Int))).run Tryz.prog U = .ok (.slice (a j) (n j) (c j)) U := by
  have : j = 0 ∨ j = 1 ∨ j = 2 ∨ j = 3 ∨ j = 4 ∨ j = 5 ∨ j = 6 ∨ j = 7 ∨ j = 8 ∨ j = 9 := by omega
  rcases this with rfl | rfl | rfl | rfl | rfl | rfl | rfl | rfl | rfl | rfl
  · exact idx10_0 a n c U
  · exact idx10_1 a n c U
  · exact idx10_2 a n c U
  · exact idx10_3 a n c U
  · exact idx10_4 a n c U
  · exact idx10_5 a n c U
  · exact idx10_6 a n c U
  · exact idx10_7 a n c U
  · exact idx10_8 a n c U
  · exact idx10_9 a n c U
def slA : Value → Option Addr
  | .slice a _ _ => a
  | _ => none
def slC : Value → Nat
  | .slice _ _ c => c
  | _ => 0
theorem LY.shape {w0 wr : World} {p a b : Nat} {E : Nat → Prop} {v : Kv} {n : Nat} {F : Nat → Value} {W : Nat → List Int} {mu : Nat → Int} (k : LY w0 wr p a b E v n F W mu) {i : Nat} (hi : i < 10) : F i = .slice (slA (F i)) (W i).length (slC (F i)) := by
  obtain ⟨x, y, e, _⟩ := row_slice (k.own i hi)
  rw [e]
  rfl
theorem LSt.on {w0 wr u : World} {p a b : Nat} {E : Nat → Prop} {v : Kv} {n : Nat} {F : Nat → Value} {W : Nat → List Int} {mu : Nat → Int} {A : Int} {j : Nat} (h : LSt w0 wr p a b E v n F W mu A j) (hb : Below wr.heap.size wr u) : LSt w0 u p a b E v n F W mu A j := ⟨h.ly.on hb, h.nn, h.lk, h.wy, h.wl, h.w0_⟩
/-- What Legal says of a row, 0 ahead of it. -/
theorem LSt.legal {w0 wr u : World} {p a b : Nat} {E : Nat → Prop} {v : Kv} {n : Nat} {F : Nat → Value} {W : Nat → List Int} {mu : Nat → Int} {A : Int} {j : Nat} (h : LSt w0 wr p a b E v n F W mu A j) {q : Nat} (hq : q < 10) (h0 : 0 < (W q).length) {x : Option Addr} {c : Nat} (hi : Ints u x (0 :: W q)) (hj : j ≤ 80) :
    Calls Tryz.prog 33 #[.slice x (1 + (W q).length) c] u fun e w' => e = .returned (.int .i64 ((W q).length + 1)) ∧ u = w' := by
  have hq1 : 1 ≤ q := by
    rcases Nat.eq_zero_or_pos q with e | e
    · subst e; rw [h.w0_] at h0; simp at h0
    · exact e
  have hl := h.wl q hq
  have := rlegal_any x (0 :: W q) c u (by simp; omega) hi
  rw [(h.wy q hq1 (by omega)).legal, List.length_cons] at this
  rw [Nat.add_comm]
  exact this
theorem nextMu_same (mu : Nat → Int) (i : Nat) (B s : Int) : nextMu mu i B s s = mu := by unfold nextMu; rw [if_neg (by omega)]
theorem folV_same (s : Int) : folV s s = true := by simp [folV]
theorem goneT_yes {s m : Int} (h : s = 2 ∨ s = 4) : goneT s m = m ∧ keptT s m = m := by unfold goneT keptT; rw [if_pos h, if_pos (by omega)]; exact ⟨rfl, rfl⟩
theorem goneT_kept {s m : Int} (h : s = 1) : goneT s m = 0 ∧ keptT s m = m := by unfold goneT keptT; rw [if_neg (by omega), if_pos (by omega)]; exact ⟨rfl, rfl⟩
theorem goneT_no {s m : Int} (h : ¬ s = 2 ∧ ¬ s = 4 ∧ ¬ s = 1) : goneT s m = 0 ∧ keptT s m = 0 := by unfold goneT keptT; rw [if_neg (by omega), if_neg (by omega)]; exact ⟨rfl, rfl⟩
/-- What a call comes to. -/
def CutP (v v' : Kv) (n' : Nat) (A : Int) (j I : Nat) (mu : Nat → Int) (B : Int) : Prop :=
  n' ≤ 10000 + 4 * (j + 1) ∧ Lk v' A (j + 1) (nextMu mu I B (v.st.s I) (v'.st.s I)) ∧ ∀ x : Nat, 1 ≤ x → x ≤ 9 → folV (v.st.s x) (v'.st.s x) = true
theorem cutP_same {v : Kv} {n' : Nat} {A : Int} {j I : Nat} {mu : Nat → Int} {B : Int} (h : Lk v A j mu) (hn : n' ≤ 10000 + 4 * (j + 1)) : CutP v v n' A j I mu B := by
  refine ⟨hn, ?_, fun x _ _ => folV_same _⟩
  rw [nextMu_same]
  exact h.more (by omega)
theorem cutP_move {v v' : Kv} {n' : Nat} {A : Int} {j I : Nat} {mu : Nat → Int} {B : Int} (hn : n' ≤ 10000 + 4 * (j + 1)) (h : Lk v' A (j + 1) (nextMu mu I B (v.st.s I) (v'.st.s I)) ∧ folV (v.st.s I) (v'.st.s I) = true ∧ ∀ x : Int, x ≠ I → v'.st.s x = v.st.s x) : CutP v v' n' A j I mu B := by
  refine ⟨hn, h.1, fun x _ _ => ?_⟩
  by_cases e : x = I
  · subst e; exact h.2.1
  · rw [h.2.2 x (by omega)]; exact folV_same _
def LaRel (w0 : World) (p a b : Nat) (A : Int) (len : Nat) (i : Value) (wr : World) : Prop :=
  ∃ (j : Nat) (E : Nat → Prop) (v : Kv) (n : Nat) (F : Nat → Value) (W : Nat → List Int) (mu : Nat → Int), i = .int .i64 j ∧ j ≤ len ∧ j ≤ 80 ∧ Hid (LSt w0 wr p a b E v n F W mu A j)
def LbRel (w0 : World) (p a b : Nat) (E : Nat → Prop) (v : Kv) (n : Nat) (mu : Nat → Int) (A : Int) (j : Nat) (on fr i : Value) (wr : World) : Prop :=
  ∃ (k : Nat) (F : Nat → Value) (W : Nat → List Int), i = .int .i64 ((k + 1 : Nat) : Int) ∧ on = .int .i64 (A - gone (fun x => v.st.s x) mu k) ∧ fr = .int .i64 (A - keptK (fun x => v.st.s x) mu k) ∧ k ≤ 9 ∧ Hid (LIn w0 wr p a b E v n F W mu A j k)
theorem call11 {u : World} {k : Nat} {cd sy tn mk mf mt mi ms ma mb : Int} {yy : Bool} (h : u.heap[k]? = some (.cells #[.int .i64 cd, .int .i64 sy, .int .i64 tn, .bool yy, .int .i64 mk, .int .i64 mf, .int .i64 mt, .int .i64 mi, .int .i64 ms, .int .i64 ma, .int .i64 mb] 33 (0, 0))) :
    (u.cell? ⟨k, 0, none⟩ = some (.int .i64 cd) ∧ u.cell? ⟨k, 1, none⟩ = some (.int .i64 sy) ∧ u.cell? ⟨k, 2, none⟩ = some (.int .i64 tn) ∧ u.cell? ⟨k, 3, none⟩ = some (.bool yy) ∧ u.cell? ⟨k, 4, none⟩ = some (.int .i64 mk) ∧ u.cell? ⟨k, 5, none⟩ = some (.int .i64 mf) ∧ u.cell? ⟨k, 6, none⟩ = some (.int .i64 mt) ∧ u.cell? ⟨k, 7, none⟩ = some (.int .i64 mi) ∧ u.cell? ⟨k, 8, none⟩ = some (.int .i64 ms) ∧ u.cell? ⟨k, 9, none⟩ = some (.int .i64 ma) ∧ u.cell? ⟨k, 10, none⟩ = some (.int .i64 mb)) := by
  refine ⟨?_, ?_, ?_, ?_, ?_, ?_, ?_, ?_, ?_, ?_, ?_⟩ <;> (rw [cell_of h]; rfl)
theorem msg7 {u : World} {k : Nat} {mk mf mt mi ms ma mb : Int} (h : u.heap[k]? = some (.cells #[.int .i64 mk, .int .i64 mf, .int .i64 mt, .int .i64 mi, .int .i64 ms, .int .i64 ma, .int .i64 mb] 31 (0, 0))) :
    (u.cell? ⟨k, 0, none⟩ = some (.int .i64 mk) ∧ u.cell? ⟨k, 1, none⟩ = some (.int .i64 mf) ∧ u.cell? ⟨k, 2, none⟩ = some (.int .i64 mt) ∧ u.cell? ⟨k, 3, none⟩ = some (.int .i64 mi) ∧ u.cell? ⟨k, 4, none⟩ = some (.int .i64 ms) ∧ u.cell? ⟨k, 5, none⟩ = some (.int .i64 ma) ∧ u.cell? ⟨k, 6, none⟩ = some (.int .i64 mb)) := by
  refine ⟨?_, ?_, ?_, ?_, ?_, ?_, ?_⟩ <;> (rw [cell_of h]; rfl)

set_option maxRecDepth 100000 in
set_option maxHeartbeats 8000000 in
theorem keeperLasts_walk (a0 : Int) (l1 : List C20.Cl) (a1 : Option Addr) (cap1 : Nat) (w : World) (_w0 : (Lit.int .i64 a0).wf = true) (w1 : C20.ClsIn w l1 a1) (hg : Gl w) :
    Calls Tryz.prog 5 #[.int .i64 a0, .slice a1 l1.length cap1] w fun e w' => e = .returned (.bool true) ∧ Below w.heap.size w w' := by
  obtain ⟨ba1, ba2⟩ := um_bd a0 10000 (by omega) (by omega)
  obtain ⟨A, hA⟩ : ∃ A, um a0 10000 = A := ⟨_, rfl⟩
  rw [hA] at ba1 ba2
  unfold um at hA
  obtain ⟨w0, hw0⟩ : ∃ w0, w0 = w.alloc (.cells #[.int .i64 A] 3) := ⟨_, rfl⟩
  have hb0 : Below w.heap.size w w0 := by rw [hw0]; exact (Below.refl _ _).alloc (Nat.le_refl _) _
  have N := knew_any (w := w0) (node := 1) (.inl rfl) 4096 (a := some ⟨w.heap.size, 0, none⟩) (l := [A]) (cap := 1) (by rw [hw0]; exact ints_new1 w A)
  have HGL := hide (hg.on hb0)
  have HG := hide hg
  have HB0 := hide hb0
  have HR : Hid (0 ≤ A ∧ A < 10000) := ⟨ba1, ba2⟩
  obtain ⟨hlen, hcl⟩ := w1
  have HCL := hide hcl
  have HW0 := hide hw0
  rw [hw0] at N
  clear _w0 hcl ba1 ba2 hg hb0 hw0
  go_enter Tryz.func5, Tryz.ntmps5
  go_wp2_with fail
  refine N.mono ?_
  clear N
  rintro e w1 ⟨p, E0, rfl, k0, b0⟩
  rw [← HW0.out] at k0 b0
  have K0 := hide k0
  have B0 := hide b0
  clear k0 b0
  go_wp2_with fail
  have HS0 : Hid (LSt w0 ((w1.alloc (.cells #[.slice none 0 0, .slice none 0 0, .slice none 0 0, .slice none 0 0, .slice none 0 0, .slice none 0 0, .slice none 0 0, .slice none 0 0, .slice none 0 0, .slice none 0 0] 61)).alloc (.cells #[.int .i64 0, .int .i64 0, .int .i64 0, .int .i64 0, .int .i64 0, .int .i64 0, .int .i64 0, .int .i64 0, .int .i64 0, .int .i64 0] 62)) p w1.heap.size (w1.heap.size + 1) E0 (newKv 1 (fL [A]) 4096) 0 (fun _ => .slice none 0 0) (fun _ => []) (fun _ => 0) A 0) :=
    ⟨LY.start0 K0.out B0.out, by omega, lk_new HR.out, fun _ _ _ => Wy.new, fun _ _ => Nat.le_refl _, rfl⟩
  clear K0 B0
  generalize ((w1.alloc (.cells #[.slice none 0 0, .slice none 0 0, .slice none 0 0, .slice none 0 0, .slice none 0 0, .slice none 0 0, .slice none 0 0, .slice none 0 0, .slice none 0 0, .slice none 0 0] 61)).alloc (.cells #[.int .i64 0, .int .i64 0, .int .i64 0, .int .i64 0, .int .i64 0, .int .i64 0, .int .i64 0, .int .i64 0, .int .i64 0, .int .i64 0] 62)) = W at HS0 ⊢
  obtain ⟨sa, hsa⟩ : ∃ sa, w1.heap.size = sa := ⟨_, rfl⟩
  obtain ⟨sb, hsb⟩ : ∃ sb, w1.heap.size + 1 = sb := ⟨_, rfl⟩
  rw [hsb, hsa] at HS0
  rw [hsb, hsa]
  clear hsa hsb
  go_loopw [30] (fun i wr => LaRel w0 p sa sb A l1.length i wr) (fun i _ => l1.length - (Go.RowKit.intOf i).toNat)
  case atStart => exact ⟨0, _, _, _, _, _, _, rfl, Nat.zero_le _, by omega, HS0⟩
  case round =>
    obtain ⟨j, E, v, n, F, W, mu, rfl, hj, hj80, HK⟩ := hrel
    clear HS0
    by_cases hlt : j < l1.length
    rotate_left
    · have ql : ¬ (j : Int) < (l1.length : Int) := by omega
      have HSP := hide (fun (i : Nat) (hi : i < 10) => HK.out.ly.shape hi)
      obtain ⟨fa, hfa⟩ : ∃ fa : Nat → Option Addr, ∀ i, slA (F i) = fa i := ⟨fun i => slA (F i), fun _ => rfl⟩
      obtain ⟨fc, hfc⟩ : ∃ fc : Nat → Nat, ∀ i, slC (F i) = fc i := ⟨fun i => slC (F i), fun _ => rfl⟩
      obtain ⟨fn, hfn⟩ : ∃ fn : Nat → Nat, ∀ i, (W i).length = fn i := ⟨fun i => (W i).length, fun _ => rfl⟩
      have HFE : Hid (∀ i, i < 10 → F i = .slice (fa i) (fn i) (fc i)) := fun i hi => by rw [← hfa, ← hfc, ← hfn]; exact HSP.out i hi
      have HFN := hide hfn
      clear HSP hfa hfc hfn
      have r0 := HK.out.ly.cellA (i := 0) (by omega)
      rw [HFE.out 0 (by omega)] at r0
      have r1 := HK.out.ly.cellA (i := 1) (by omega)
      rw [HFE.out 1 (by omega)] at r1
      have r2 := HK.out.ly.cellA (i := 2) (by omega)
      rw [HFE.out 2 (by omega)] at r2
      have r3 := HK.out.ly.cellA (i := 3) (by omega)
      rw [HFE.out 3 (by omega)] at r3
      have r4 := HK.out.ly.cellA (i := 4) (by omega)
      rw [HFE.out 4 (by omega)] at r4
      have r5 := HK.out.ly.cellA (i := 5) (by omega)
      rw [HFE.out 5 (by omega)] at r5
      have r6 := HK.out.ly.cellA (i := 6) (by omega)
      rw [HFE.out 6 (by omega)] at r6
      have r7 := HK.out.ly.cellA (i := 7) (by omega)
      rw [HFE.out 7 (by omega)] at r7
      have r8 := HK.out.ly.cellA (i := 8) (by omega)
      rw [HFE.out 8 (by omega)] at r8
      have r9 := HK.out.ly.cellA (i := 9) (by omega)
      rw [HFE.out 9 (by omega)] at r9
      have HBS := hide (HB0.out.trans (HK.out.ly.bel.mono HB0.out.size))
      go_wp2_with fail
      clear r0 r1 r2 r3 r4 r5 r6 r7 r8 r9
      go_loopw [166] (fun i wx => ∃ q : Nat, i = .int .i64 q ∧ q ≤ 10 ∧ Hid (Below wr.heap.size wr wx)) (fun i _ => 10 - (Go.RowKit.intOf i).toNat)
      case atStart => exact ⟨0, rfl, by omega, Below.refl _ _⟩
      case round =>
        rename_i wz
        obtain ⟨q, rfl, hq, HBQ⟩ := hrel
        by_cases hq10 : q < 10
        · have ql2 : (q : Int) < 10 := by omega
          have IDX := idx10 fa fn fc hq10
          by_cases hz : fn q = 0
          · have qz : ¬ ((fn q : Nat) : Int) > 0 := by omega
            go_wp2_with fail
            go_roundw
            case rel => exact ⟨q + 1, by go_num, by omega, HBQ⟩
            case measure => simp [Go.RowKit.intOf]; omega
          · have qz : ((fn q : Nat) : Int) > 0 := by omega
            have HLQ := hide (HK.out.on HBQ.out)
            have ow := HLQ.out.ly.own q hq10
            rw [HFE.out q hq10] at ow
            obtain ⟨x, y, ev, _, hin⟩ := owned_nums ow
            injection ev with ex _ ey
            subst ex
            have hl80 := HK.out.wl q hq10
            obtain ⟨nq, hnq⟩ : ∃ nq, fn q = nq := ⟨_, rfl⟩
            have hWn : (W q).length = nq := (HFN.out q).trans hnq
            rcases hin with hh | ⟨b, off, hfb, hc⟩
            · rw [hh] at hWn; simp at hWn; omega
            have HIN : Hid (Ints wr (some ⟨b, off, none⟩) (W q)) := .inr ⟨b, off, rfl, hc⟩
            have HWN := hide hWn
            rw [hfb, hnq] at IDX
            rw [hnq] at qz hz
            have hnb : (nq : Int) ≤ 80 := by omega
            have hxx : ((nq : Int) + 1 != (nq : Int) + 1) = false := by simp
            clear hc hWn ow hfb hnq
            go_wp2_with (first
              | (at_builtin; refine wpList_bare (by kernel_rfl) ?_; refine append_nums rfl (.tmp 173) (.tmp 174) rfl wr.heap.size _ 1 [0] rfl (World.ownsRow_lit wr #[.int .i64 0] 1 (Nat.le_refl _) (by unfold maxLen; omega) rfl) ⟨b, off, none⟩ nq _ (W q) HWN.out rfl (HIN.out.below ((Below.refl _ _).alloc (Nat.le_refl _) _)) (by omega) (by simp) ?_; intro v' w4 hown hgrow; obtain ⟨a4, c4, rfl, -, hi4⟩ := owned_nums hown; have LG := HK.out.legal hq10 (by rw [HWN.out]; omega) (c := c4) hi4 hj80; rw [HWN.out] at LG; have HB4 := hide (bel_on' HBQ.out (((Below.refl wr.heap.size wr).alloc (Nat.le_refl _) _).grown hgrow (by simp) (fun i e => by cases e; exact Nat.le_refl _))); clear hown hgrow hi4)
              | (go_at_call 33; refine LG.mono ?_; clear LG; rintro e w' ⟨rfl, rfl⟩))
            go_roundw
            case rel => exact ⟨q + 1, by go_num, by omega, HB4⟩
            case measure => simp [Go.RowKit.intOf]; omega
        · have ql2 : ¬ (q : Int) < 10 := by omega
          go_wp2_with (go_at_call 8; refine (kwake_any _ (HG.out.on (bel_on' HBS.out HBQ.out))).mono ?_; rintro e u6 ⟨rfl, b6⟩; have HB6 := hide b6; clear b6)
          go_ret
          exact ⟨rfl, bel_on' (bel_on' HBS.out HBQ.out) HB6.out⟩
    have ql : (j : Int) < (l1.length : Int) := by omega
    obtain ⟨⟨cd, sy, tn, yy, ⟨mk, mf, mt, mi, ms, ma, mb⟩⟩, hc⟩ : ∃ c, l1[j]? = some c := ⟨l1[j], by simp [hlt]⟩
    rcases HCL.out.below (HB0.out.trans (HK.out.ly.bel.mono HB0.out.size)) with hh | ⟨bb, off, rfl, hca⟩
    · subst hh; simp at hlt
    have hx := hca j _ hc
    dsimp only at hx
    obtain ⟨⟨c0, c1, c2, c3, c4, c5, c6, c7, c8, c9, c10⟩, ok⟩ := hx
    clear hca hc ok
    by_cases h80 : j < 80
    rotate_left
    · have qj : (j : Int) ≥ 80 := by omega
      have HBV : Hid (Below wr.heap.size wr (wr.alloc (.cells #[.int .i64 cd, .int .i64 sy, .int .i64 tn, .bool yy, .int .i64 mk, .int .i64 mf, .int .i64 mt, .int .i64 mi, .int .i64 ms, .int .i64 ma, .int .i64 mb] 33))) := (Below.refl _ _).alloc (Nat.le_refl _) _
      have HKV := hide (HK.out.on HBV.out)
      go_upto_region 41 with fail
      clear c0 c1 c2 c3 c4 c5 c6 c7 c8 c9 c10 HK HBV
      generalize wr.alloc (.cells #[.int .i64 cd, .int .i64 sy, .int .i64 tn, .bool yy, .int .i64 mk, .int .i64 mf, .int .i64 mt, .int .i64 mi, .int .i64 ms, .int .i64 ma, .int .i64 mb] 33) = V at HKV ⊢
      have HSP := hide (fun (i : Nat) (hi : i < 10) => HKV.out.ly.shape hi)
      obtain ⟨fa, hfa⟩ : ∃ fa : Nat → Option Addr, ∀ i, slA (F i) = fa i := ⟨fun i => slA (F i), fun _ => rfl⟩
      obtain ⟨fc, hfc⟩ : ∃ fc : Nat → Nat, ∀ i, slC (F i) = fc i := ⟨fun i => slC (F i), fun _ => rfl⟩
      obtain ⟨fn, hfn⟩ : ∃ fn : Nat → Nat, ∀ i, (W i).length = fn i := ⟨fun i => (W i).length, fun _ => rfl⟩
      have HFE : Hid (∀ i, i < 10 → F i = .slice (fa i) (fn i) (fc i)) := fun i hi => by rw [← hfa, ← hfc, ← hfn]; exact HSP.out i hi
      have HFN := hide hfn
      clear HSP hfa hfc hfn
      have r0 := HKV.out.ly.cellA (i := 0) (by omega)
      rw [HFE.out 0 (by omega)] at r0
      have r1 := HKV.out.ly.cellA (i := 1) (by omega)
      rw [HFE.out 1 (by omega)] at r1
      have r2 := HKV.out.ly.cellA (i := 2) (by omega)
      rw [HFE.out 2 (by omega)] at r2
      have r3 := HKV.out.ly.cellA (i := 3) (by omega)
      rw [HFE.out 3 (by omega)] at r3
      have r4 := HKV.out.ly.cellA (i := 4) (by omega)
      rw [HFE.out 4 (by omega)] at r4
      have r5 := HKV.out.ly.cellA (i := 5) (by omega)
      rw [HFE.out 5 (by omega)] at r5
      have r6 := HKV.out.ly.cellA (i := 6) (by omega)
      rw [HFE.out 6 (by omega)] at r6
      have r7 := HKV.out.ly.cellA (i := 7) (by omega)
      rw [HFE.out 7 (by omega)] at r7
      have r8 := HKV.out.ly.cellA (i := 8) (by omega)
      rw [HFE.out 8 (by omega)] at r8
      have r9 := HKV.out.ly.cellA (i := 9) (by omega)
      rw [HFE.out 9 (by omega)] at r9
      have HBS := hide (HB0.out.trans (HKV.out.ly.bel.mono HB0.out.size))
      go_wp2_with fail
      clear r0 r1 r2 r3 r4 r5 r6 r7 r8 r9
      go_loopw [166] (fun i wx => ∃ q : Nat, i = .int .i64 q ∧ q ≤ 10 ∧ Hid (Below V.heap.size V wx)) (fun i _ => 10 - (Go.RowKit.intOf i).toNat)
      case atStart => exact ⟨0, rfl, by omega, Below.refl _ _⟩
      case round =>
        rename_i wz
        obtain ⟨q, rfl, hq, HBQ⟩ := hrel
        by_cases hq10 : q < 10
        · have ql2 : (q : Int) < 10 := by omega
          have IDX := idx10 fa fn fc hq10
          by_cases hz : fn q = 0
          · have qz : ¬ ((fn q : Nat) : Int) > 0 := by omega
            go_wp2_with fail
            go_roundw
            case rel => exact ⟨q + 1, by go_num, by omega, HBQ⟩
            case measure => simp [Go.RowKit.intOf]; omega
          · have qz : ((fn q : Nat) : Int) > 0 := by omega
            have HLQ := hide (HKV.out.on HBQ.out)
            have ow := HLQ.out.ly.own q hq10
            rw [HFE.out q hq10] at ow
            obtain ⟨x, y, ev, _, hin⟩ := owned_nums ow
            injection ev with ex _ ey
            subst ex
            have hl80 := HKV.out.wl q hq10
            obtain ⟨nq, hnq⟩ : ∃ nq, fn q = nq := ⟨_, rfl⟩
            have hWn : (W q).length = nq := (HFN.out q).trans hnq
            rcases hin with hh | ⟨b, off, hfb, hc⟩
            · rw [hh] at hWn; simp at hWn; omega
            have HIN : Hid (Ints wr (some ⟨b, off, none⟩) (W q)) := .inr ⟨b, off, rfl, hc⟩
            have HWN := hide hWn
            rw [hfb, hnq] at IDX
            rw [hnq] at qz hz
            have hnb : (nq : Int) ≤ 80 := by omega
            have hxx : ((nq : Int) + 1 != (nq : Int) + 1) = false := by simp
            clear hc hWn ow hfb hnq
            go_wp2_with (first
              | (at_builtin; refine wpList_bare (by kernel_rfl) ?_; refine append_nums rfl (.tmp 173) (.tmp 174) rfl wr.heap.size _ 1 [0] rfl (World.ownsRow_lit wr #[.int .i64 0] 1 (Nat.le_refl _) (by unfold maxLen; omega) rfl) ⟨b, off, none⟩ nq _ (W q) HWN.out rfl (HIN.out.below ((Below.refl _ _).alloc (Nat.le_refl _) _)) (by omega) (by simp) ?_; intro v' w4 hown hgrow; obtain ⟨a4, c4, rfl, -, hi4⟩ := owned_nums hown; have LG := HKV.out.legal hq10 (by rw [HWN.out]; omega) (c := c4) hi4 hj80; rw [HWN.out] at LG; have HB4 := hide (bel_on' HBQ.out (((Below.refl wr.heap.size wr).alloc (Nat.le_refl _) _).grown hgrow (by simp) (fun i e => by cases e; exact Nat.le_refl _))); clear hown hgrow hi4)
              | (go_at_call 33; refine LG.mono ?_; clear LG; rintro e w' ⟨rfl, rfl⟩))
            go_roundw
            case rel => exact ⟨q + 1, by go_num, by omega, HB4⟩
            case measure => simp [Go.RowKit.intOf]; omega
        · have ql2 : ¬ (q : Int) < 10 := by omega
          go_wp2_with (go_at_call 8; refine (kwake_any _ (HG.out.on (bel_on' HBS.out HBQ.out))).mono ?_; rintro e u6 ⟨rfl, b6⟩; have HB6 := hide b6; clear b6)
          go_ret
          exact ⟨rfl, bel_on' (bel_on' HBS.out HBQ.out) HB6.out⟩
    have qj : ¬ (j : Int) ≥ 80 := by omega
    obtain ⟨V, hV⟩ : ∃ V, wr.alloc (.cells #[.int .i64 cd, .int .i64 sy, .int .i64 tn, .bool yy, .int .i64 mk, .int .i64 mf, .int .i64 mt, .int .i64 mi, .int .i64 ms, .int .i64 ma, .int .i64 mb] 33) = V := ⟨_, rfl⟩
    have HBV : Hid (Below wr.heap.size wr V) := by show Below _ _ _; rw [← hV]; exact (Below.refl _ _).alloc (Nat.le_refl _) _
    have HXV : Hid (Abk V E wr.heap.size (.cells #[.int .i64 cd, .int .i64 sy, .int .i64 tn, .bool yy, .int .i64 mk, .int .i64 mf, .int .i64 mt, .int .i64 mi, .int .i64 ms, .int .i64 ma, .int .i64 mb] 33 (0, 0))) := ⟨by rw [← hV]; exact World.alloc_heap_new _ _, fun e => by have := (HK.out.ly.kd.1 _ e).2; omega⟩
    obtain ⟨d0, d1, d2, d3, d4, d5, d6, d7, d8, d9, d10⟩ := call11 HXV.out.1
    obtain ⟨cb, hcb⟩ : ∃ cb, wr.heap.size = cb := ⟨_, rfl⟩
    rw [hcb] at d0 d1 d2 d3 d4 d5 d6 d7 d8 d9 d10 HXV
    obtain ⟨bu1, bu2⟩ := um_bd mi 9 (by omega) (by omega)
    obtain ⟨bx1, bx2⟩ := um_bd mb 2000 (by omega) (by omega)
    obtain ⟨U, hU⟩ : ∃ U : Nat, um mi 9 = U := ⟨(um mi 9).toNat, by omega⟩
    obtain ⟨X, hX⟩ : ∃ X, um mb 2000 = X := ⟨_, rfl⟩
    obtain ⟨I, hI⟩ : ∃ I : Nat, (1 : Int) + (U : Int) = (I : Int) := ⟨1 + U, by omega⟩
    rw [hX] at bx1 bx2
    rw [hU] at bu1 bu2
    unfold um at hU hX
    have HI : Hid (1 ≤ I ∧ I ≤ 9) := by show 1 ≤ I ∧ I ≤ 9; omega
    have HX : Hid (1 ≤ 1 + X ∧ 1 + X ≤ 2000) := by show 1 ≤ 1 + X ∧ 1 + X ≤ 2000; omega
    have hlV : cb < V.heap.size := HXV.out.lt
    go_upto_region 13 with fail
    go_region
    obtain ⟨mx, hmx⟩ : ∃ mx, V.heap.size = mx := ⟨_, rfl⟩
    obtain ⟨U', hU'⟩ : ∃ U', (V.alloc (.cells #[.int .i64 mk, .int .i64 mf, .int .i64 1, .int .i64 I, .int .i64 ms, .int .i64 0, .int .i64 (1 + X)] 31)).drew = U' := ⟨_, rfl⟩
    have HBU : Hid (Below V.heap.size V U') := by show Below _ _ _; rw [← hU']; exact ((Below.refl _ _).alloc (Nat.le_refl _) _).drew
    have HLV := hide (HK.out.ly.on HBV.out)
    have HLU := hide (HLV.out.on HBU.out)
    have HCU : Hid (Abk U' E cb (.cells #[.int .i64 cd, .int .i64 sy, .int .i64 tn, .bool yy, .int .i64 mk, .int .i64 mf, .int .i64 mt, .int .i64 mi, .int .i64 ms, .int .i64 ma, .int .i64 mb] 33 (0, 0))) := HXV.out.on HBU.out
    have HMU : Hid (Abk U' E mx (.cells #[.int .i64 mk, .int .i64 mf, .int .i64 1, .int .i64 I, .int .i64 ms, .int .i64 0, .int .i64 (1 + X)] 31 (0, 0))) := ⟨by rw [← hU', ← hmx]; exact World.alloc_heap_new V _, fun e => by have := (HLV.out.kd.1 _ e).2; omega⟩
    rw [hU', hmx]
    clear c0 c1 c2 c3 c4 c5 c6 c7 c8 c9 c10 d0 d1 d2 d3 d4 d5 d6 d7 d8 d9 d10 hU' hV HBV HXV HBU HLV hlV hmx hcb hU hX hI bu1 bu2
    have hwI : (Lit.int .i64 (I : Int)).wf = true := Hd.wf_of (by have := HI.out; omega) (by have := HI.out; omega)
    obtain ⟨s, hs⟩ : ∃ s, v.st.s I = s := ⟨_, rfl⟩
    have S1 := HLU.out.state hwI hs
    have HWI := hide hwI
    have HSS := hide hs
    clear hwI hs
    have hn7 : n < 500000 := by have := HK.out.nn; omega
    obtain ⟨d0, d1, d2, d3, d4, d5, d6, d7, d8, d9, d10⟩ := call11 HCU.out.1
    obtain ⟨m0, m1, m2, m3, m4, m5, m6⟩ := msg7 HMU.out.1
    go_upto_block 2 with (go_at_call 23; refine S1.mono ?_; clear S1; rintro e w' ⟨rfl, rfl⟩)
    go_cut [66] from 63 to 92 (fun _ wx => ∃ (E' : Nat → Prop) (v' : Kv) (n' : Nat), Hid (LY w0 wx p sa sb E' v' n' F W mu) ∧ Hid (Abk wx E' mx (.cells #[.int .i64 mk, .int .i64 mf, .int .i64 1, .int .i64 I, .int .i64 ms, .int .i64 0, .int .i64 (1 + X)] 31 (0, 0))) ∧ Hid (CutP v v' n' A j I mu (1 + X)))
    case first =>
      have HGD := hide HK.out.lk.gd
      have HDN := hide HK.out.lk.dn
      by_cases h0 : cd = 0
      · have e0 : (cd == 0) = true := by simp [h0]
        clear h0
        have C1 := HLU.out.crash sy tn
        go_wp2_with (first
          | (go_at_call 11; refine C1.mono ?_; clear C1; rintro e u1 ⟨⟨z1, rfl⟩, E1, t1, x1⟩; have C2 := t1.start HGL.out (by omega) HGD.out HDN.out; have HX1 := hide (x1 _ _ HMU.out); clear t1 x1)
          | (go_at_call 13; refine C2.mono ?_; clear C2; rintro e u2 ⟨⟨z2, rfl⟩, E2, t2, x2⟩; have HT2 := hide t2; have HX2 := hide (x2 _ _ HX1.out); clear t2 x2))
        go_meet
        exact ⟨_, _, _, HT2, HX2, cutP_same HK.out.lk (by omega)⟩
      have e0 : (cd == 0) = false := by simp [h0]
      by_cases h1 : cd = 1
      · have e1 : (cd == 1) = true := by simp [h1]
        clear h0 h1
        have C1 := HLU.out.crash sy tn
        go_wp2_with (first
          | (go_at_call 11; refine C1.mono ?_; clear C1; rintro e u1 ⟨⟨z1, rfl⟩, E1, t1, x1⟩; have C2 := t1.start HGL.out (by omega) HGD.out HDN.out; have HX1 := hide (x1 _ _ HMU.out); clear t1 x1)
          | (go_at_call 13; refine C2.mono ?_; clear C2; rintro e u2 ⟨⟨z2, rfl⟩, E2, t2, x2⟩; have HT2 := hide t2; have HX2 := hide (x2 _ _ HX1.out); clear t2 x2))
        go_meet
        exact ⟨_, _, _, HT2, HX2, cutP_same HK.out.lk (by omega)⟩
      have e1 : (cd == 1) = false := by simp [h1]
      by_cases h2 : cd = 2
      · have e2 : (cd == 2) = true := by simp [h2]
        clear h0 h1 h2
        have C1 := HLU.out.ring HWI.out
        go_wp2_with (go_at_call 16; refine C1.mono ?_; clear C1; rintro e u1 ⟨⟨z1, rfl⟩, E1, t1, x1⟩; have HT1 := hide t1; have HX1 := hide (x1 _ _ HMU.out); clear t1 x1)
        go_meet
        exact ⟨_, _, _, HT1, HX1, cutP_same HK.out.lk (by have := HK.out.nn; omega)⟩
      have e2 : (cd == 2) = false := by simp [h2]
      by_cases h3 : cd = 3
      · have e3 : (cd == 3) = true := by simp [h3]
        clear h0 h1 h2 h3
        have HFC := hide (HK.out.lk.force (by omega) HI.out (1 + X) yy)
        have C1 := HLU.out.force HGL.out (by omega) HWI.out yy rfl
        have hE := HFC.out.1
        rw [HSS.out] at hE
        obtain ⟨c, hc⟩ : ∃ c, fcE v I = c := ⟨_, rfl⟩
        rw [hc] at hE C1
        clear hc
        by_cases h4 : s = 1
        · have e4 : (s == 1) = true := by simp [h4]
          have e5 := hE.2 h4
          subst e5
          clear h4 hE
          go_wp2_with (go_at_call 18; refine C1.mono ?_; clear C1; rintro e u1 ⟨rfl, E1, t1, x1⟩; have HT1 := hide t1; have HX1 := hide (x1 _ _ HMU.out); clear t1 x1)
          go_meet
          exact ⟨_, _, _, HT1, HX1, cutP_move (by have := HK.out.nn; omega) HFC.out.2⟩
        · have e4 : (s == 1) = false := by simp [h4]
          have e5 : (c == 0) = false := by simp only [beq_eq_false_iff_ne]; exact fun e => h4 (hE.1 e)
          clear h4 hE
          go_wp2_with (go_at_call 18; refine C1.mono ?_; clear C1; rintro e u1 ⟨rfl, E1, t1, x1⟩; have HT1 := hide t1; have HX1 := hide (x1 _ _ HMU.out); clear t1 x1)
          go_meet
          exact ⟨_, _, _, HT1, HX1, cutP_move (by have := HK.out.nn; omega) HFC.out.2⟩
      have e3 : (cd == 3) = false := by simp [h3]
      clear h0 h1 h2 h3
      have C1 := HLU.out.handle HGL.out (by omega) (m := ⟨mk, mf, 1, I, ms, 0, 1 + X⟩) HWI.out rfl
      have HHD := hide (HK.out.lk.handle (by omega) HI.out HX.out mk mf ms)
      go_wp2_with (go_at_call 20; refine C1.mono ?_; clear C1; rintro e u1 ⟨⟨z1, rfl⟩, E1, t1, x1⟩; have HT1 := hide t1; have HX1 := hide (x1 _ _ HMU.out); clear t1 x1)
      go_meet
      exact ⟨_, _, _, HT1, HX1, cutP_move (by have := HK.out.nn; omega) HHD.out⟩
    case rest =>
      obtain ⟨E1, v1, n1, HT1, HX1, HP1⟩ := hcut
      clear d0 d1 d2 d3 d4 d5 d6 d7 d8 d9 d10 m0 m1 m2 m3 m4 m5 m6 HLU HCU HMU
      obtain ⟨s1, hs1⟩ : ∃ s1, v1.st.s I = s1 := ⟨_, rfl⟩
      have S2 := HT1.out.state HWI.out hs1
      have HS1 := hide hs1
      obtain ⟨mu1, hmu1⟩ : ∃ mu1, nextMu mu I (1 + X) s s1 = mu1 := ⟨_, rfl⟩
      have HP2 : Hid (n1 ≤ 10000 + 4 * (j + 1) ∧ Lk v1 A (j + 1) mu1 ∧ ∀ x : Nat, 1 ≤ x → x ≤ 9 → folV (v.st.s x) (v1.st.s x) = true) := by
        have h := HP1.out
        unfold CutP at h
        rw [HSS.out, hs1, hmu1] at h
        exact h
      have HMU1 := hide hmu1
      clear hs1 hmu1
      have hI10 : (I : Int) < 10 := by have := HI.out; omega
      go_upto_region 26 with fail
      obtain ⟨bq, hbq⟩ : ∃ bq : Bool, bq = true ↔ (s1 = 1 ∧ s = 0) := ⟨decide (s1 = 1 ∧ s = 0), by simp⟩
      have HBQ := hide hbq
      clear hbq
      go_cut [100] from 93 to 99 (fun x wx => x = .bool bq ∧ Hid (LY w0 wx p sa sb E1 v1 n1 F W mu) ∧ Hid (Abk wx E1 mx (.cells #[.int .i64 mk, .int .i64 mf, .int .i64 1, .int .i64 I, .int .i64 ms, .int .i64 0, .int .i64 (1 + X)] 31 (0, 0))))
      case first =>
        by_cases h1 : s1 = 1
        · have e1 : (s1 == 1) = true := by simp [h1]
          by_cases h2 : s = 0
          · have e2 : (s == 0) = true := by simp [h2]
            have e3 := HBQ.out.2 ⟨h1, h2⟩
            subst e3
            clear h1 h2
            go_wp2_with (go_at_call 23; refine S2.mono ?_; clear S2; rintro e w' ⟨rfl, rfl⟩)
            go_meet
            exact ⟨rfl, HT1, HX1⟩
          · have e2 : (s == 0) = false := by simp [h2]
            have e3 : bq = false := by cases bq with | false => rfl | true => exact absurd (HBQ.out.1 rfl).2 h2
            subst e3
            clear h1 h2
            go_wp2_with (go_at_call 23; refine S2.mono ?_; clear S2; rintro e w' ⟨rfl, rfl⟩)
            go_meet
            exact ⟨rfl, HT1, HX1⟩
        · have e1 : (s1 == 1) = false := by simp [h1]
          have e3 : bq = false := by cases bq with | false => rfl | true => exact absurd (HBQ.out.1 rfl).1 h1
          subst e3
          clear h1
          go_wp2_with (go_at_call 23; refine S2.mono ?_; clear S2; rintro e w' ⟨rfl, rfl⟩)
          go_meet
          exact ⟨rfl, HT1, HX1⟩
      case rest =>
        obtain ⟨rfl, HT2, HX2⟩ := hcut
        clear HT1 HX1 HP1 S2 HS1 HSS
        go_upto_if 100 with fail
        go_cut [101] from 102 to 104 (fun _ wx => Hid (LY w0 wx p sa sb E1 v1 n1 F W mu1))
        case first =>
          cases bq
          · have HE : Hid (mu = mu1) := by show mu = mu1; rw [← HMU1.out]; unfold nextMu; rw [if_neg (fun h => by cases HBQ.out.2 h)]
            clear HBQ HMU1
            go_wp2_with fail
            go_meet
            rw [← HE.out]
            exact HT2
          · have HE : Hid (updN mu I (1 + X) = mu1) := by show updN mu I (1 + X) = mu1; rw [← HMU1.out]; unfold nextMu; rw [if_pos (HBQ.out.1 rfl)]
            obtain ⟨m0, m1, m2, m3, m4, m5, m6⟩ := msg7 HX2.out.1
            have tb := HT2.out.cellB (i := I) (by omega)
            have tf := HT2.out.frozenB I
            have HT3 := hide (HT2.out.setB (i := I) (by omega) (1 + X))
            clear HBQ HMU1
            go_wp2_with fail
            go_meet
            rw [← HE.out]
            exact HT3
        case rest =>
          have HI1 := hide (HK.out.inn hcut.out HP2.out.1 HP2.out.2.1 HP2.out.2.2)
          clear HT2 HX2 HP2 HMU1 hcut HK HBQ
          go_wp2_with fail
          go_loopw [13, 14, 15] (fun on fr i wr => LbRel w0 p sa sb E1 v1 n1 mu1 A (j + 1) on fr i wr) (fun _ _ i _ => 10 - (Go.RowKit.intOf i).toNat)
          case atStart => exact ⟨0, F, W, rfl, by show _ = Value.int .i64 (A - 0); rw [Int.sub_zero], by show _ = Value.int .i64 (A - 0); rw [Int.sub_zero], by omega, HI1⟩
          case round =>
            obtain ⟨k, F1, W1, rfl, rfl, rfl, hk, HL⟩ := hrel
            clear HI1
            obtain ⟨g1, hg1⟩ : ∃ g1, A - gone (fun x => v1.st.s x) mu1 k = g1 := ⟨_, rfl⟩
            obtain ⟨f1, hf1⟩ : ∃ f1, A - keptK (fun x => v1.st.s x) mu1 k = f1 := ⟨_, rfl⟩
            have hbg := gone_bd (s := fun x => v1.st.s x) HL.out.lk.mu_ k hk
            have hbf := kept_bd (s := fun x => v1.st.s x) HL.out.lk.mu_ k hk
            have hbr := HR.out
            have hb1 : -18000 ≤ g1 ∧ g1 ≤ 10000 := by omega
            have hb2 : -18000 ≤ f1 ∧ f1 ≤ 10000 := by omega
            rw [hg1, hf1]
            clear hbg hbf hbr
            by_cases hk9 : k < 9
            · obtain ⟨K, hK⟩ : ∃ K, k + 1 = K := ⟨_, rfl⟩
              rw [hK]
              have ql2 : (K : Int) ≤ 9 := by omega
              have ql3 : (K : Int) < 10 := by omega
              have HKK : Hid (1 ≤ K ∧ K ≤ 9) := by show 1 ≤ K ∧ K ≤ 9; omega
              obtain ⟨s2, hs2⟩ : ∃ s2, v1.st.s (K : Int) = s2 := ⟨_, rfl⟩
              obtain ⟨M, hM⟩ : ∃ M, mu1 K = M := ⟨_, rfl⟩
              obtain ⟨fv, hfv⟩ : ∃ fv, F1 K = fv := ⟨_, rfl⟩
              have hgs : gone (fun x => v1.st.s x) mu1 (k + 1) = gone (fun x => v1.st.s x) mu1 k + goneT s2 M := by
                show gone (fun x => v1.st.s x) mu1 k + goneT (v1.st.s ((k + 1 : Nat) : Int)) (mu1 (k + 1)) = _
                rw [hK, hs2, hM]
              have hks : keptK (fun x => v1.st.s x) mu1 (k + 1) = keptK (fun x => v1.st.s x) mu1 k + keptT s2 M := by
                show keptK (fun x => v1.st.s x) mu1 k + keptT (v1.st.s ((k + 1 : Nat) : Int)) (mu1 (k + 1)) = _
                rw [hK, hs2, hM]
              have HG1 : Hid (A - gone (fun x => v1.st.s x) mu1 (k + 1) = g1 - goneT s2 M) := by show _ = _; omega
              have HG2 : Hid (A - keptK (fun x => v1.st.s x) mu1 (k + 1) = f1 - keptT s2 M) := by show _ = _; omega
              have hMb : 0 ≤ M ∧ M ≤ 2000 := by rw [← hM]; exact HL.out.lk.mu_ K HKK.out.1 HKK.out.2
              have S3 := HL.out.ly.state (id := K) (Hd.wf_of (by omega) (by omega)) hs2
              have OW := hide (HL.out.ly.own K (by omega))
              have ca := HL.out.ly.cellA (i := K) (by omega)
              have HLL : Hid ((W1 K).length ≤ 100) := by show _ ≤ _; have := HL.out.wl K (by omega); omega
              have HKe := hide hK
              have HS2 := hide hs2
              have HFV := hide hfv
              have HMM := hide hM
              rw [hfv] at ca OW
              clear hgs hks hs2 hM hg1 hf1 hfv hK
              go_upto_region 34 with (first
                | (go_at_call 23; refine S3.mono ?_; clear S3; rintro e w' ⟨rfl, rfl⟩)
                | (at_builtin; refine append_one rfl (.tmp 117) (.tmp 119) rfl w0.heap.size fv (W1 K).length (W1 K) rfl (OW.out.alloc _) ⟨wr.heap.size, 0, none⟩ 1 s2 rfl (ints_one _ _) (by have := HLL.out; omega) (by have := HL.out.ly.bel.size; simp; omega) ?_; intro g cap w4 hown hgrow hat; rw [← HFV.out] at hgrow hat; obtain ⟨cm, fm⟩ := HL.out.ly.midA (i := K) (by have := HKK.out; omega) hgrow; rw [← HS2.out] at hown; have HLA := hide (HL.out.app (by omega) HKe.out hown hgrow hat); clear hown hgrow hat))
              obtain ⟨U2, hU2⟩ : ∃ U2, w4.setCell ⟨sa, K, none⟩ (.slice (some ⟨g, 0, none⟩) ((W1 K).length + 1) cap) = U2 := ⟨_, rfl⟩
              rw [hU2] at HLA
              rw [hU2]
              have cb2 := HLA.out.ly.cellB (i := K) (by have := HKK.out; omega)
              rw [HMM.out] at cb2
              obtain ⟨F2, W2, HLB⟩ : ∃ F2 W2, Hid (LIn w0 U2 p sa sb E1 v1 n1 F2 W2 mu1 A (j + 1) (k + 1)) := ⟨_, _, by rw [HKe.out]; exact HLA⟩
              clear cm fm ca hU2 OW HL HLA HLL
              by_cases h2 : s2 = 2
              · have e2 : (s2 == 2) = true := by simp [h2]
                obtain ⟨x1, x2⟩ := goneT_yes (m := M) (.inl h2)
                have HX1 := hide x1
                have HX2 := hide x2
                clear x1 x2 h2
                go_wp2_with fail
                go_roundw
                case rel => exact ⟨k + 1, F2, W2, congrArg (Value.int .i64) (by have := HKe.out; omega), by rw [HG1.out, HX1.out], by rw [HG2.out, HX2.out], by omega, HLB⟩
                case measure => have := HKe.out; simp [Go.RowKit.intOf]; omega
              have e2 : (s2 == 2) = false := by simp [h2]
              by_cases h4 : s2 = 4
              · have e4 : (s2 == 4) = true := by simp [h4]
                obtain ⟨x1, x2⟩ := goneT_yes (m := M) (.inr h4)
                have HX1 := hide x1
                have HX2 := hide x2
                clear x1 x2 h2 h4
                go_wp2_with fail
                go_roundw
                case rel => exact ⟨k + 1, F2, W2, congrArg (Value.int .i64) (by have := HKe.out; omega), by rw [HG1.out, HX1.out], by rw [HG2.out, HX2.out], by omega, HLB⟩
                case measure => have := HKe.out; simp [Go.RowKit.intOf]; omega
              have e4 : (s2 == 4) = false := by simp [h4]
              by_cases h1 : s2 = 1
              · have e1 : (s2 == 1) = true := by simp [h1]
                obtain ⟨x1, x2⟩ := goneT_kept (m := M) h1
                have HX1 := hide x1
                have HX2 := hide x2
                clear x1 x2 h1 h2 h4
                go_wp2_with fail
                go_roundw
                case rel => exact ⟨k + 1, F2, W2, congrArg (Value.int .i64) (by have := HKe.out; omega), by rw [HG1.out, HX1.out, Int.sub_zero], by rw [HG2.out, HX2.out], by omega, HLB⟩
                case measure => have := HKe.out; simp [Go.RowKit.intOf]; omega
              have e1 : (s2 == 1) = false := by simp [h1]
              obtain ⟨x1, x2⟩ := goneT_no (m := M) ⟨h2, h4, h1⟩
              have HX1 := hide x1
              have HX2 := hide x2
              clear x1 x2 h1 h2 h4
              go_wp2_with fail
              go_roundw
              case rel => exact ⟨k + 1, F2, W2, congrArg (Value.int .i64) (by have := HKe.out; omega), by rw [HG1.out, HX1.out, Int.sub_zero], by rw [HG2.out, HX2.out, Int.sub_zero], by omega, HLB⟩
              case measure => have := HKe.out; simp [Go.RowKit.intOf]; omega
            · obtain rfl : k = 9 := by omega
              have HSE := hide (HL.out.st rfl)
              obtain ⟨pb, G1, G2, G3⟩ := HL.out.ly.goods HL.out.lk.nd
              have hfp : ¬ f1 < 0 := by
                have h := HL.out.lk.gd.goodT.o.g.nn 0 (by omega) (by omega)
                rw [HL.out.lk.fr, hf1] at h
                omega
              rw [HL.out.lk.on, hg1] at G2
              rw [HL.out.lk.fr, hf1] at G3
              have ql2 : ¬ ((9 + 1 : Nat) : Int) ≤ 9 := by omega
              have hgg : (g1 != g1) = false := by simp
              have hff : (f1 != f1) = false := by simp
              have G0 := hide G1
              clear hg1 hf1 hb1 hb2 hk hk9
              go_wp2_with (first
                | (go_at_call 29; refine G0.out.mono ?_; rintro e w' ⟨rfl, rfl⟩)
                | (go_at_call 31; refine G2.mono ?_; clear G2; rintro e w' ⟨rfl, rfl⟩)
                | (go_at_call 32; refine G3.mono ?_; clear G3; rintro e w' ⟨rfl, rfl⟩))
              go_roundw
              case rel => exact ⟨j + 1, _, _, _, _, _, _, by go_num, by omega, by omega, HSE⟩
              case measure => simp [Go.RowKit.intOf]; omega
end Go.Proofs.YthkgjggbpgkmpaaGreatDoor
