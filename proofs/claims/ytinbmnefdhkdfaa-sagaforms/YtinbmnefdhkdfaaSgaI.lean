/-
  The iterators of package flow: alone, rising, falling; joined.
-/
import Derived.Test.YtinbmnefdhkdfaaFlwR
import Derived.Test.YtinbmnefdhkdfaaFlwM
import Derived.Test.YtinbmnefdhkdfaaOrdC3
import Derived.ProofKit
namespace Go.Proofs.Ytinbmnefdhkdfaa
open Go.ChangeShapes Go.WideShapes Go.ChangeAt Go.RowKit Go.Shelf

attribute [local go_sem] Oper.semAt_some

def encA (x : Int × Int) : Value := .agg #[.int .i64 x.1, .int .i64 x.2]
/-- Acts of the kind k: of the steps from j on, m of them; of the first m, the last one first. -/
def upL (k : Int) : Nat → Nat → List (Int × Int)
  | _, 0 => []
  | j, m + 1 => (k, (j : Int)) :: upL k (j + 1) m
def dnL (k : Int) : Nat → List (Int × Int)
  | 0 => []
  | m + 1 => (k, (m : Int)) :: dnL k m
theorem upL_len (k : Int) : ∀ (m j : Nat), (upL k j m).length = m
  | 0, _ => rfl
  | m + 1, j => by rw [upL]; simp [upL_len k m]
theorem upL_snoc (k : Int) : ∀ (m j : Nat), upL k j (m + 1) = upL k j m ++ [(k, ((j + m : Nat) : Int))]
  | 0, j => by simp [upL]
  | m + 1, j => by
    rw [upL, upL_snoc k m (j + 1), upL]
    simp only [List.cons_append]
    congr 3
    simp; omega
theorem upL_add (k : Int) : ∀ (m j r : Nat), upL k j (m + r) = upL k j m ++ upL k (j + m) r
  | 0, j, r => by simp [upL]
  | m + 1, j, r => by
    rw [show m + 1 + r = (m + r) + 1 by omega, upL, upL, upL_add k m (j + 1) r, List.cons_append, show j + 1 + m = j + (m + 1) by omega]
theorem upL_pre (k : Int) {m n : Nat} (h : m ≤ n) : upL k 0 m <+: upL k 0 n := by
  obtain ⟨r, rfl⟩ : ∃ r, n = m + r := ⟨n - m, by omega⟩
  rw [upL_add]
  exact List.prefix_append _ _
/-- The first r of those that fall from m. -/
def dnTo (k : Int) (m : Nat) : Nat → List (Int × Int)
  | 0 => []
  | r + 1 => dnTo k m r ++ [(k, ((m - r - 1 : Nat) : Int))]
theorem dnTo_all (k : Int) (m : Nat) : ∀ r, r ≤ m → dnTo k m r ++ dnL k (m - r) = dnL k m
  | 0, _ => by simp [dnTo]
  | r + 1, h => by
    rw [dnTo, List.append_assoc]
    have e : dnL k (m - r) = (k, ((m - r - 1 : Nat) : Int)) :: dnL k (m - (r + 1)) := by
      rw [show m - r = (m - r - 1) + 1 by omega, dnL]
      simp only [Nat.add_sub_cancel, show m - (r + 1) = m - r - 1 by omega]
    have := dnTo_all k m r (by omega)
    rw [e] at this
    simpa using this
theorem dnTo_pre (k : Int) {m r : Nat} (h : r ≤ m) : dnTo k m r <+: dnL k m := by
  rw [← dnTo_all k m r h]
  exact List.prefix_append _ _
theorem dnTo_end (k : Int) (m : Nat) : dnTo k m m = dnL k m := by
  have := dnTo_all k m m (Nat.le_refl _)
  simpa [dnL] using this

set_option maxRecDepth 100000 in
set_option maxHeartbeats 2000000 in
theorem alone1_seq {X : Nat → Prop} {Bk : Nat} {k : Int} {w : World} (hb : w.heap[Bk]? = some (.cells #[.int .i64 k] 3 (0, 0))) :
    SeqA Try.prog 43 X 58 #[.pointer (some ⟨Bk, 0, none⟩)] encA [(k, 0)] w := by
  intro l J Jx W hW hwl hlW hJ hJx hY h0
  have hc : W.cell? ⟨Bk, 0, none⟩ = some (.int .i64 k) := by
    rw [cell_of ((hW.block _ (Array.getElem?_eq_some_iff.1 hb).1).trans hb)]; rfl
  refine callsIn_wide.2 ((callsIn_wide (n := 5)).1 ?_)
  obtain ⟨fn, tmps, assign, body, hy, hR⟩ := yield_any0 (m' := 4) (hY [] (k, 0) W h0 (by simp))
  clear hY hJ hJx h0
  refine callsIn_of_wp Try.func58 rfl trivial ?_ rfl
  simp only [Try.ntmps58, List.size_toArray, List.length_cons, List.length_nil, Nat.reduceAdd, Nat.reduceSub, Array.replicate_succ, Array.replicate_zero, List.push_toArray, List.append_toArray, List.nil_append, List.cons_append]
  dsimp only [encA] at hy
  gi_wp2
  refine hR.mono ?_
  rintro e W3 ⟨-, (⟨rfl, hJ3⟩ | ⟨rfl, hJ3⟩)⟩
  · have HJ := hide hJ3
    clear hJ3 hR
    gi_wp2
    go_end0
    exact ⟨⟨_, rfl⟩, .inl HJ.out⟩
  · have HJ := hide hJ3
    clear hJ3 hR
    gi_wp2
    go_end0
    exact ⟨⟨_, rfl⟩, .inr ⟨_, by simp, List.prefix_refl _, HJ.out⟩⟩

set_option maxRecDepth 100000 in
set_option maxHeartbeats 2000000 in
theorem rising1_seq {X : Nat → Prop} {Bk Bs : Nat} {k : Int} {n : Nat} (hn : n ≤ 9223372036854775807) {w : World} (hb : w.heap[Bk]? = some (.cells #[.int .i64 k] 3 (0, 0))) (hs : w.heap[Bs]? = some (.cells #[.int .i64 n] 3 (0, 0))) (hxk : ¬ X Bk) (hxs : ¬ X Bs) :
    SeqA Try.prog 43 X 60 #[.pointer (some ⟨Bs, 0, none⟩), .pointer (some ⟨Bk, 0, none⟩)] encA (upL k 0 n) w := by
  intro l J Jx W hW hwl hlW hJ hJx hY h0
  have HBK : Hid (W.heap[Bk]? = some (.cells #[.int .i64 k] 3 (0, 0))) := (hW.block _ (Array.getElem?_eq_some_iff.1 hb).1).trans hb
  have HBS : Hid (W.heap[Bs]? = some (.cells #[.int .i64 n] 3 (0, 0))) := (hW.block _ (Array.getElem?_eq_some_iff.1 hs).1).trans hs
  have HKL : Hid (¬ (X Bk ∨ Bk = l) ∧ ¬ (X Bs ∨ Bs = l)) := by
    have h1 := (Array.getElem?_eq_some_iff.1 hb).1
    have h2 := (Array.getElem?_eq_some_iff.1 hs).1
    exact ⟨fun h => h.elim hxk (fun e => by omega), fun h => h.elim hxs (fun e => by omega)⟩
  have HT : Hid (3 ≠ 43) := by show _ ≠ _; decide
  refine callsIn_wide.2 ((callsIn_wide (n := 5)).1 ?_)
  have HY : Hid (∀ pre x W1, J pre W1 → pre ++ [x] <+: upL k 0 n → YieldAt Fence.wide 4 Try.prog l #[encA x] W1 fun e W' => Kept 43 (fun k => X k ∨ k = l) W1 W' ∧ ((e = .returned (.bool true) ∧ J (pre ++ [x]) W') ∨ (e = .returned (.bool false) ∧ Jx (pre ++ [x]) W'))) := fun pre x W1 h1 h2 => yield_any0 (hY pre x W1 h1 h2)
  have HJ0 := hide h0
  clear hY hJ hJx h0 hb hs hxk hxs hW
  refine callsIn_of_wp Try.func60 rfl trivial ?_ rfl
  simp only [Try.ntmps60, List.size_toArray, List.length_cons, List.length_nil, Nat.reduceAdd, Nat.reduceSub, Array.replicate_succ, Array.replicate_zero, List.push_toArray, List.append_toArray, List.nil_append, List.cons_append]
  gi_wp2
  gi_loopw [4] (fun i wr => ∃ j : Nat, i = .int .i64 j ∧ j ≤ n ∧ Hid (J (upL k 0 j) wr) ∧ Hid (wr.heap[Bk]? = some (.cells #[.int .i64 k] 3 (0, 0))) ∧ Hid (wr.heap[Bs]? = some (.cells #[.int .i64 n] 3 (0, 0)))) (fun i _ => n - (intOf i).toNat)
  case atStart => exact ⟨0, rfl, Nat.zero_le _, HJ0, HBK, HBS⟩
  case round =>
    obtain ⟨j, rfl, hj, HJ, HB, HS⟩ := hrel
    have c1 : wr.cell? ⟨Bk, 0, none⟩ = some (.int .i64 k) := by rw [cell_of HB.out]; rfl
    have c2 : wr.cell? ⟨Bs, 0, none⟩ = some (.int .i64 n) := by rw [cell_of HS.out]; rfl
    by_cases hlt : j < n
    · have hpre : upL k 0 j ++ [(k, (j : Int))] = upL k 0 (j + 1) := by rw [upL_snoc]; simp
      obtain ⟨fn, tmps, assign, body, hy, hR⟩ := HY.out (upL k 0 j) (k, (j : Int)) wr HJ.out (by rw [hpre]; exact upL_pre k (by omega))
      rw [hpre] at hR
      have HPE := hide hpre
      clear hpre
      dsimp only [encA] at hy
      have q1 : (j : Int) < (n : Int) := by omega
      gi_wp2
      refine hR.mono ?_
      rintro e W3 ⟨hk3, (⟨rfl, hJ3⟩ | ⟨rfl, hJ3⟩)⟩
      · have HJ3 := hide hJ3
        have HB3 := hide (hk3.cell HB.out HKL.out.1 HT.out)
        have HS3 := hide (hk3.cell HS.out HKL.out.2 HT.out)
        clear hJ3 hk3 hR c1 c2
        gi_wp2
        go_roundw
        case rel => exact ⟨j + 1, by go_num, by omega, HJ3, HB3, HS3⟩
        case measure => simp [intOf]; omega
      · have HJ3 := hide hJ3
        clear hJ3 hk3 hR c1 c2
        gi_wp2
        go_end0
        exact ⟨⟨_, rfl⟩, .inr ⟨_, by rw [upL]; simp, upL_pre k (show j + 1 ≤ n by omega), HJ3.out⟩⟩
    · have q1 : ¬ (j : Int) < (n : Int) := by omega
      have HJ3 : Hid (J (upL k 0 n) wr) := by
        have := HJ.out
        rwa [show j = n by omega] at this
      gi_wp2
      refine ⟨fun _ h => (by cases h), ?_⟩
      gi_wp2
      go_end0
      exact ⟨⟨_, rfl⟩, .inl HJ3.out⟩

set_option maxRecDepth 100000 in
set_option maxHeartbeats 2000000 in
theorem falling1_seq {X : Nat → Prop} {Bk Bs : Nat} {k : Int} {n : Nat} (hn : n ≤ 9223372036854775807) {w : World} (hb : w.heap[Bk]? = some (.cells #[.int .i64 k] 3 (0, 0))) (hs : w.heap[Bs]? = some (.cells #[.int .i64 n] 3 (0, 0))) (hxk : ¬ X Bk) :
    SeqA Try.prog 43 X 59 #[.pointer (some ⟨Bs, 0, none⟩), .pointer (some ⟨Bk, 0, none⟩)] encA (dnL k n) w := by
  intro l J Jx W hW hwl hlW hJ hJx hY h0
  have HBK : Hid (W.heap[Bk]? = some (.cells #[.int .i64 k] 3 (0, 0))) := (hW.block _ (Array.getElem?_eq_some_iff.1 hb).1).trans hb
  have hcs : W.cell? ⟨Bs, 0, none⟩ = some (.int .i64 n) := by rw [cell_of ((hW.block _ (Array.getElem?_eq_some_iff.1 hs).1).trans hs)]; rfl
  have HKL : Hid (¬ (X Bk ∨ Bk = l)) := by
    have h1 := (Array.getElem?_eq_some_iff.1 hb).1
    exact fun h => h.elim hxk (fun e => by omega)
  have HT : Hid (3 ≠ 43) := by show _ ≠ _; decide
  refine callsIn_wide.2 ((callsIn_wide (n := 5)).1 ?_)
  have HY : Hid (∀ pre x W1, J pre W1 → pre ++ [x] <+: dnL k n → YieldAt Fence.wide 4 Try.prog l #[encA x] W1 fun e W' => Kept 43 (fun k => X k ∨ k = l) W1 W' ∧ ((e = .returned (.bool true) ∧ J (pre ++ [x]) W') ∨ (e = .returned (.bool false) ∧ Jx (pre ++ [x]) W'))) := fun pre x W1 h1 h2 => yield_any0 (hY pre x W1 h1 h2)
  have HJ0 := hide h0
  clear hY hJ hJx h0 hb hs hxk hW
  refine callsIn_of_wp Try.func59 rfl trivial ?_ rfl
  simp only [Try.ntmps59, List.size_toArray, List.length_cons, List.length_nil, Nat.reduceAdd, Nat.reduceSub, Array.replicate_succ, Array.replicate_zero, List.push_toArray, List.append_toArray, List.nil_append, List.cons_append]
  gi_wp2
  gi_loopw [4] (fun i wr => ∃ (r : Nat) (z : Int), i = .int .i64 z ∧ Hid (z = (n : Int) - r - 1) ∧ r ≤ n ∧ -1 ≤ z ∧ z ≤ 9223372036854775807 ∧ Hid (J (dnTo k n r) wr) ∧ Hid (wr.heap[Bk]? = some (.cells #[.int .i64 k] 3 (0, 0)))) (fun i _ => (intOf i + 1).toNat)
  case atStart => exact ⟨0, (n : Int) - 1, by go_num, by show _ = _; simp, Nat.zero_le _, by omega, by omega, HJ0, HBK⟩
  case round =>
    obtain ⟨r, z, rfl, HZ, hr, hz0, hz1, HJ, HB⟩ := hrel
    have c1 : wr.cell? ⟨Bk, 0, none⟩ = some (.int .i64 k) := by rw [cell_of HB.out]; rfl
    by_cases hlt : 0 ≤ z
    · have hpre : dnTo k n r ++ [(k, z)] = dnTo k n (r + 1) := by rw [dnTo]; have := HZ.out; congr 3; omega
      have HRN : Hid (r + 1 ≤ n) := by show _ ≤ _; have := HZ.out; omega
      obtain ⟨fn, tmps, assign, body, hy, hR⟩ := HY.out (dnTo k n r) (k, z) wr HJ.out (by rw [hpre]; exact dnTo_pre k HRN.out)
      rw [hpre] at hR
      have HPE := hide hpre
      clear hpre
      dsimp only [encA] at hy
      have q1 : z ≥ 0 := hlt
      gi_wp2
      refine hR.mono ?_
      rintro e W3 ⟨hk3, (⟨rfl, hJ3⟩ | ⟨rfl, hJ3⟩)⟩
      · have HJ3 := hide hJ3
        have HB3 := hide (hk3.cell HB.out HKL.out HT.out)
        clear hJ3 hk3 hR c1
        gi_wp2
        go_roundw
        case rel => exact ⟨r + 1, z - 1, by go_num, by show _ = _; have := HZ.out; push_cast; omega, HRN.out, by omega, by omega, HJ3, HB3⟩
        case measure => simp [intOf]; omega
      · have HJ3 := hide hJ3
        clear hJ3 hk3 hR c1
        gi_wp2
        go_end0
        exact ⟨⟨_, rfl⟩, .inr ⟨_, by rw [dnTo]; simp, dnTo_pre k HRN.out, HJ3.out⟩⟩
    · have q1 : ¬ z ≥ 0 := by omega
      have HJ3 : Hid (J (dnL k n) wr) := by
        have := HJ.out
        rwa [show r = n by have := HZ.out; omega, dnTo_end] at this
      gi_wp2
      refine ⟨fun _ h => (by cases h), ?_⟩
      gi_wp2
      go_end0
      exact ⟨⟨_, rfl⟩, .inl HJ3.out⟩
end Go.Proofs.Ytinbmnefdhkdfaa
