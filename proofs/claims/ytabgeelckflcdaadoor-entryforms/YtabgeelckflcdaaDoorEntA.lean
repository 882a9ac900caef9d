/-
  A line that was written is read as it was; the law's awake returns true.
-/
import Derived.Test.YtabgeelckflcdaaDoorEntQ
import Derived.Test.YtabgeelckflcdaaDoorCBack
namespace Go.Proofs.YtabgeelckflcdaaDoor
open Go.ChangeShapes Go.WideShapes Go.ChangeAt Go.RowKit

theorem parse_line {k : ByteArray} {id : Int} {l : List Int} (h : mayB k id l = true) : ParseR (sign (txt k id l)) k id l 0 := by
  have hs := txt_size h
  obtain ⟨h1, h2⟩ := read_sign (txt k id l)
  exact .inl ⟨rfl, h, by rw [sign_size]; omega, h1, h2⟩

def did : ByteArray := ⟨#[100, 105, 100]⟩
def did72 : ByteArray := ⟨#[100, 105, 100, 32, 55, 32, 50]⟩
theorem itoa7 : Lib.itoa 7 = [55] := (itoa_nat 7).trans (by rw [Lib.decDigits_one (by omega)]; rfl)
theorem itoa2 : Lib.itoa 2 = [50] := (itoa_nat 2).trans (by rw [Lib.decDigits_one (by omega)]; rfl)
theorem txt_did : txt did 7 [2] = did72 := by
  apply bytes_ext
  show Lib.join [[100, 105, 100], Lib.itoa 7, Lib.itoa 2] [32] = _
  rw [itoa7, itoa2]
  rfl
theorem may_did : mayB did 7 [2] = true := by decide

theorem line_did : lineV did 7 [2] = sign did72 ∧ lineE did 7 [2] = 0 := by
  unfold lineV lineE
  rw [if_pos may_did, if_pos may_did, txt_did]
  exact ⟨rfl, rfl⟩

set_option maxRecDepth 100000 in
set_option maxHeartbeats 1000000 in
theorem awake_any (w : World) (hg : Gl w) : Calls Tryd.prog 5 #[] w fun e w' => e = .returned (.bool true) ∧ Below w.heap.size w w' := by
  have HB : Hid (Below w.heap.size w (w.alloc (.cells #[.int .i64 2] 3))) := (Below.refl _ _).alloc (Nat.le_refl _) _
  have L := line_any did 7 (some ⟨w.heap.size, 0, none⟩) [2] 1 (w.alloc (.cells #[.int .i64 2] 3)) (by show 3 ≤ maxLen; unfold maxLen; omega) (ints_one w 2) (by simp) (hg.on HB.out)
  rw [line_did.1, line_did.2] at L
  have L2 : Calls Tryd.prog 7 #[.agg #[.string ⟨#[100, 105, 100]⟩, .int .i64 7, .slice (some ⟨w.heap.size, 0, none⟩) 1 1]] (w.alloc (.cells #[.int .i64 2] 3)) fun e w' => e = .returned (.tuple #[.string (sign did72), .int .i64 0]) ∧ Below (w.alloc (.cells #[.int .i64 2] 3)).heap.size (w.alloc (.cells #[.int .i64 2] 3)) w' := L
  clear L
  have HG : Hid (Gl w) := hg
  clear hg
  have HSZ : Hid ((sign did72).size ≤ 140737488355328) := by show _ ≤ _; rw [sign_size]; show 10 ≤ _; omega
  obtain ⟨S, hS⟩ : ∃ S, sign did72 = S := ⟨_, rfl⟩
  rw [hS] at L2 HSZ
  have HPL : Hid (ParseR S did 7 [2] 0) := by show ParseR S did 7 [2] 0; rw [← hS, ← txt_did]; exact parse_line may_did
  have HSS : Hid (sign ⟨#[100, 105, 100, 32, 55, 32, 50]⟩ = S) := hS
  clear hS
  go_enter Tryd.func5, Tryd.ntmps5
  go_wp2_with (first
    | (go_at_call 7; refine L2.mono ?_; rintro e w1 ⟨rfl, hb1⟩; have H1 : Hid (Below w.heap.size w w1) := bel_on' HB.out hb1; clear hb1)
    | (go_at_call 9; refine (parse_any S _ HSZ.out (HG.out.on H1.out)).mono ?_; rintro e w2 ⟨k, id, l, av, cv, er, rfl, hin, hll, hpr, hb2⟩; obtain ⟨rfl, rfl, rfl, rfl⟩ := ParseR.uniq hpr HPL.out; have H2 : Hid (Below w.heap.size w w2) := bel_on' H1.out hb2; clear hb2 hin hll hpr)
    | (go_at_call 15; refine (sign_any ⟨#[100, 105, 100, 32, 55, 32, 50]⟩ _ (by show 7 ≤ _; omega)).mono ?_; rintro e w3 ⟨rfl, hb3⟩; rw [HSS.out]; have x1 := (hb3.cell (p := ⟨w2.heap.size, 1, none⟩) (by simp)).trans (show _ = some (Value.int .i64 7) by simp); have x2 := (hb3.cell (p := ⟨w2.heap.size, 2, none⟩) (by simp)).trans (show _ = some (Value.slice av 1 cv) by simp)))
  go_ret
  exact ⟨rfl, bel_on' (H2.out.alloc H2.out.size _) hb3⟩
end Go.Proofs.YtabgeelckflcdaaDoor
