/-
  The iterators of package flow: alone, rising, falling; joined.
-/
import Derived.Test.YtdoejppnifoebaaFlwR
import Derived.Test.YtdoejppnifoebaaFlwM
import Derived.Test.YtdoejppnifoebaaOrdC3
import Derived.ProofKit
namespace Go.Proofs.Ytdoejppnifoebaa
open Go.ChangeShapes Go.WideShapes Go.ChangeAt Go.RowKit Go.Shelf

attribute [local go_sem] Oper.semAt_some

def encA (x : Int × Int) : Value := .agg #[.int .i64 x.1, .int .i64 x.2]
/-- Acts of the kind k: of the steps from j on, m of them; of the first m, the last one first. -/
def upL (k : Int) : Nat → Nat → List (Int × Int)
  | _, 0 => []
  | j, m + 1 => (k, (j : Int)) :: upL k (j + 1) m
def dnL (k : Int) : Nat → List (Int × Int)
  | 0 => []
  | m + 1 => (k, (m : Int)) :: dnL k m
theorem upL_len (k : Int) : ∀ (m j : Nat), (upL k j m).length = m
  | 0, _ => rfl
  | m + 1, j => by rw [upL]; simp [upL_len k m]
theorem upL_snoc (k : Int) : ∀ (m j : Nat), upL k j (m + 1) = upL k j m ++ [(k, ((j + m : Nat) : Int))]
  | 0, j => by simp [upL]
  | m + 1, j => by
    rw [upL, upL_snoc k m (j + 1), upL]
    simp only [List.cons_append]
    congr 3
    simp; omega
theorem upL_add (k : Int) : ∀ (m j r : Nat), upL k j (m + r) = upL k j m ++ upL k (j + m) r
  | 0, j, r => by simp [upL]
  | m + 1, j, r => by
    rw [show m + 1 + r = (m + r) + 1 by omega, upL, upL, upL_add k m (j + 1) r, List.cons_append, show j + 1 + m = j + (m + 1) by omega]
theorem upL_pre (k : Int) {m n : Nat} (h : m ≤ n) : upL k 0 m <+: upL k 0 n := by
  obtain ⟨r, rfl⟩ : ∃ r, n = m + r := ⟨n - m, by omega⟩
  rw [upL_add]
  exact List.prefix_append _ _
/-- The first r of those that fall from m. -/
def dnTo (k : Int) (m : Nat) : Nat → List (Int × Int)
  | 0 => []
  | r + 1 => dnTo k m r ++ [(k, ((m - r - 1 : Nat) : Int))]
theorem dnTo_all (k : Int) (m : Nat) : ∀ r, r ≤ m → dnTo k m r ++ dnL k (m - r) = dnL k m
  | 0, _ => by simp [dnTo]
  | r + 1, h => by
    rw [dnTo, List.append_assoc]
    have e : dnL k (m - r) = (k, ((m - r - 1 : Nat) : Int)) :: dnL k (m - (r + 1)) := by
      rw [show m - r = (m - r - 1) + 1 by omega, dnL]
      simp only [Nat.add_sub_cancel, show m - (r + 1) = m - r - 1 by omega]
    have := dnTo_all k m r (by omega)
    rw [e] at this
    simpa using this
theorem dnTo_pre (k : Int) {m r : Nat} (h : r ≤ m) : dnTo k m r <+: dnL k m := by
  rw [← dnTo_all k m r h]
  exact List.prefix_append _ _
theorem dnTo_end (k : Int) (m : Nat) : dnTo k m m = dnL k m := by
  have := dnTo_all k m m (Nat.le_refl _)
  simpa [dnL] using this

end Go.Proofs.Ytdoejppnifoebaa
