/-
  Contracts: the reference's Line: the signed text of an entry that may be, or a refusal.
-/
import Derived.Test.YtdbmnjodkpeobaaDoorEntN
import Derived.Deep.RegionWith
namespace Go.Proofs.YtdbmnjodkpeobaaDoor
open Go.ChangeShapes Go.WideShapes Go.ChangeAt Go.RowKit

def lineV (k : ByteArray) (id : Int) (l : List Int) : ByteArray := if mayB k id l = true then sign (txt k id l) else ⟨#[]⟩
def lineE (k : ByteArray) (id : Int) (l : List Int) : Int := if mayB k id l = true then 0 else 1

theorem txt_nil (k : ByteArray) (id : Int) : txt k id [] = k ++ ⟨#[32]⟩ ++ ⟨(Lib.itoa id).toArray⟩ := by
  apply bytes_ext
  show Lib.join [k.data.toList, Lib.itoa id] [32] = _
  rw [Lib.join_cons]
  simp [Lib.joinTail]
theorem txt_snoc (k : ByteArray) (id : Int) (l : List Int) (n : Int) : txt k id (l ++ [n]) = txt k id l ++ (⟨#[32]⟩ ++ ⟨(Lib.itoa n).toArray⟩) := by
  apply bytes_ext
  show Lib.join (wordsL k id (l ++ [n])) [32] = _
  have e : (txt k id l ++ (⟨#[32]⟩ ++ ⟨(Lib.itoa n).toArray⟩)).data.toList = Lib.join (wordsL k id l) [32] ++ (32 :: Lib.itoa n) := by simp [txt]
  rw [e]
  simp [wordsL, Lib.join_cons, Lib.joinTail]
theorem may_take {k : ByteArray} {id : Int} {l : List Int} (h : mayB k id l = true) (n : Nat) : mayB k id (l.take n) = true := by
  unfold mayB numsB at h ⊢
  simp only [Bool.and_eq_true, decide_eq_true_eq, List.all_eq_true] at h ⊢
  exact ⟨h.1, by have := h.2.1; simp; omega, fun x hx => h.2.2 x (List.mem_of_mem_take hx)⟩

theorem itoaB_size {n : Int} (h0 : -1000000000 ≤ n) (h1 : n ≤ 1000000000) : (⟨(Lib.itoa n).toArray⟩ : ByteArray).size ≤ 11 := by
  have := itoa_len h0 h1
  simpa [ByteArray.size] using this

end Go.Proofs.YtdbmnjodkpeobaaDoor
