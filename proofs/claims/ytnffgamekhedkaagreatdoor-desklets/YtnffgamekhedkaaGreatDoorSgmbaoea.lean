/-
  Own texts put together: EntN, EntL.
-/
import Derived.Test.YtnffgamekhedkaaGreatDoorSgjlpkfn
import Derived.Lib.AppendIntMem
import Derived.Lib.AtoiErrMem
import Derived.Shelf.Strconv.ErrVarAll
import Derived.Deep.RegionWith
/-
  Contracts: strconv.Itoa, strconv.Atoi, strings.Split off the shelf, in any world in which the library's variables hold what they do; entry.number.
-/
namespace Go.Proofs.YtnffgamekhedkaaGreatDoor
open Go.ChangeShapes Go.WideShapes Go.ChangeAt Go.RowKit

theorem itoa_any (n : Int) (w : World) (h0 : -9223372036854775808 ≤ n) (h1 : n ≤ 9223372036854775807) (hg : Gl w) :
    Calls Tryz.prog 26 #[.int .i64 n] w fun e w' => e = .returned (.string ⟨(Lib.itoa n).toArray⟩) ∧ Below w.heap.size w w' :=
  (Tryz.strconv_Itoa n h0 h1 w hg.1).mono fun e w' ⟨h, k, os, e2⟩ => ⟨h, by subst e2; exact Lib.below_grow _ w (Nat.le_refl _) k os⟩

/-- What a number's reader says: told, it is how the number is written; and whatever an entry may hold is told. -/
def NumR (s : ByteArray) (v : Int) (b : Bool) : Prop :=
  (b = true → s.data.toList = Lib.itoa v ∧ -9223372036854775808 ≤ v ∧ v ≤ 9223372036854775807) ∧
  ∀ v', -1000000000 ≤ v' → v' ≤ 1000000000 → s.data.toList = Lib.itoa v' → b = true ∧ v = v'

theorem itoaB_eq (s : ByteArray) (v : Int) : ((⟨(Lib.itoa v).toArray⟩ : ByteArray).toList == s.toList) = true ↔ s.data.toList = Lib.itoa v := by
  rw [ByteArray.toList_eq, ByteArray.toList_eq, beq_iff_eq]
  exact eq_comm

end Go.Proofs.YtnffgamekhedkaaGreatDoor
/-
  Contracts: the reference's Line: the signed text of an entry that may be, or a refusal.
-/
namespace Go.Proofs.YtnffgamekhedkaaGreatDoor
open Go.ChangeShapes Go.WideShapes Go.ChangeAt Go.RowKit

def lineV (k : ByteArray) (id : Int) (l : List Int) : ByteArray := if mayB k id l = true then sign (txt k id l) else ⟨#[]⟩
def lineE (k : ByteArray) (id : Int) (l : List Int) : Int := if mayB k id l = true then 0 else 1

theorem txt_nil (k : ByteArray) (id : Int) : txt k id [] = k ++ ⟨#[32]⟩ ++ ⟨(Lib.itoa id).toArray⟩ := by
  apply bytes_ext
  show Lib.join [k.data.toList, Lib.itoa id] [32] = _
  rw [Lib.join_cons]
  simp [Lib.joinTail]
theorem txt_snoc (k : ByteArray) (id : Int) (l : List Int) (n : Int) : txt k id (l ++ [n]) = txt k id l ++ (⟨#[32]⟩ ++ ⟨(Lib.itoa n).toArray⟩) := by
  apply bytes_ext
  show Lib.join (wordsL k id (l ++ [n])) [32] = _
  have e : (txt k id l ++ (⟨#[32]⟩ ++ ⟨(Lib.itoa n).toArray⟩)).data.toList = Lib.join (wordsL k id l) [32] ++ (32 :: Lib.itoa n) := by simp [txt]
  rw [e]
  simp [wordsL, Lib.join_cons, Lib.joinTail]
theorem may_take {k : ByteArray} {id : Int} {l : List Int} (h : mayB k id l = true) (n : Nat) : mayB k id (l.take n) = true := by
  unfold mayB numsB at h ⊢
  simp only [Bool.and_eq_true, decide_eq_true_eq, List.all_eq_true] at h ⊢
  exact ⟨h.1, by have := h.2.1; simp; omega, fun x hx => h.2.2 x (List.mem_of_mem_take hx)⟩

theorem itoaB_size {n : Int} (h0 : -1000000000 ≤ n) (h1 : n ≤ 1000000000) : (⟨(Lib.itoa n).toArray⟩ : ByteArray).size ≤ 11 := by
  have := itoa_len h0 h1
  simpa [ByteArray.size] using this

end Go.Proofs.YtnffgamekhedkaaGreatDoor
