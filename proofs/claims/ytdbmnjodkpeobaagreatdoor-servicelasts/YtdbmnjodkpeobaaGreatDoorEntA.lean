/-
  A line that was written is read as it was; the law's awake returns true.
-/
import Derived.Test.YtdbmnjodkpeobaaGreatDoorEntQ
import Derived.Test.YtdbmnjodkpeobaaGreatDoorCBack
namespace Go.Proofs.YtdbmnjodkpeobaaGreatDoor
open Go.ChangeShapes Go.WideShapes Go.ChangeAt Go.RowKit

theorem parse_line {k : ByteArray} {id : Int} {l : List Int} (h : mayB k id l = true) : ParseR (sign (txt k id l)) k id l 0 := by
  have hs := txt_size h
  obtain ⟨h1, h2⟩ := read_sign (txt k id l)
  exact .inl ⟨rfl, h, by rw [sign_size]; omega, h1, h2⟩

def did : ByteArray := ⟨#[100, 105, 100]⟩
def did72 : ByteArray := ⟨#[100, 105, 100, 32, 55, 32, 50]⟩
theorem itoa7 : Lib.itoa 7 = [55] := (itoa_nat 7).trans (by rw [Lib.decDigits_one (by omega)]; rfl)
theorem itoa2 : Lib.itoa 2 = [50] := (itoa_nat 2).trans (by rw [Lib.decDigits_one (by omega)]; rfl)
theorem txt_did : txt did 7 [2] = did72 := by
  apply bytes_ext
  show Lib.join [[100, 105, 100], Lib.itoa 7, Lib.itoa 2] [32] = _
  rw [itoa7, itoa2]
  rfl
theorem may_did : mayB did 7 [2] = true := by decide

theorem line_did : lineV did 7 [2] = sign did72 ∧ lineE did 7 [2] = 0 := by
  unfold lineV lineE
  rw [if_pos may_did, if_pos may_did, txt_did]
  exact ⟨rfl, rfl⟩

end Go.Proofs.YtdbmnjodkpeobaaGreatDoor
