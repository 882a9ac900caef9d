/-
  Contracts: strconv.Itoa, strconv.Atoi, strings.Split off the shelf, in any world in which the library's variables hold what they do; entry.number.
-/
import Derived.Test.YtdbmnjodkpeobaaDoorEntS
import Derived.Lib.AppendIntMem
import Derived.Lib.AtoiErrMem
import Derived.Shelf.Strconv.ErrVarAll
namespace Go.Proofs.YtdbmnjodkpeobaaDoor
open Go.ChangeShapes Go.WideShapes Go.ChangeAt Go.RowKit

theorem itoa_any (n : Int) (w : World) (h0 : -9223372036854775808 ≤ n) (h1 : n ≤ 9223372036854775807) (hg : Gl w) :
    Calls Tryd.prog 30 #[.int .i64 n] w fun e w' => e = .returned (.string ⟨(Lib.itoa n).toArray⟩) ∧ Below w.heap.size w w' :=
  (Tryd.strconv_Itoa n h0 h1 w hg.1).mono fun e w' ⟨h, k, os, e2⟩ => ⟨h, by subst e2; exact Lib.below_grow _ w (Nat.le_refl _) k os⟩

/-- What a number's reader says: told, it is how the number is written; and whatever an entry may hold is told. -/
def NumR (s : ByteArray) (v : Int) (b : Bool) : Prop :=
  (b = true → s.data.toList = Lib.itoa v ∧ -9223372036854775808 ≤ v ∧ v ≤ 9223372036854775807) ∧
  ∀ v', -1000000000 ≤ v' → v' ≤ 1000000000 → s.data.toList = Lib.itoa v' → b = true ∧ v = v'

theorem itoaB_eq (s : ByteArray) (v : Int) : ((⟨(Lib.itoa v).toArray⟩ : ByteArray).toList == s.toList) = true ↔ s.data.toList = Lib.itoa v := by
  rw [ByteArray.toList_eq, ByteArray.toList_eq, beq_iff_eq]
  exact eq_comm

end Go.Proofs.YtdbmnjodkpeobaaDoor
