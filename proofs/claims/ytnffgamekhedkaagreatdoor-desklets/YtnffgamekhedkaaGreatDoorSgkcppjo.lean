/-
  Contracts of package check's Sign and Read, of the reference's Sign and Read, and of the statements' awake: a text is signed by a bar and its letters; what is read is what was signed; memory that was there stays.
-/
import Derived.Test.YtnffgamekhedkaaGreatDoorSgajkpjl
import Derived.Test.YtnffgamekhedkaaGreatDoorSglnnpfj
import Derived.Test.YtnffgamekhedkaaGreatDoorSgnjbmek
namespace Go.Proofs.YtnffgamekhedkaaGreatDoor
open Go.ChangeShapes Go.WideShapes Go.ChangeAt Go.RowKit

def sign (s : ByteArray) : ByteArray := s ++ ⟨#[124]⟩ ++ lets s
theorem lets_size (s : ByteArray) : (lets s).size = 2 := rfl

theorem sign_any (s : ByteArray) (w : World) (hs : s.size ≤ 140737488355328) :
    Calls Tryz.prog 131 #[.string s] w fun e w' => e = .returned (.string (sign s)) ∧ Below w.heap.size w w' := by
  have hl := lets_size s
  have hm : s.size ≤ maxLen := by unfold maxLen; omega
  go_enter Tryz.func131, Tryz.ntmps131
  go_wp2_with (go_at_call 149; refine (letters_any _ _ hm).mono ?_; rintro e w1 ⟨rfl, hb1⟩)
  go_ret
  exact ⟨rfl, hb1⟩

def head (s : ByteArray) : ByteArray := s.extract 0 (s.size - 3)
def readB (s : ByteArray) : Bool := decide (3 ≤ s.size) && ((sign (head s)).toList == s.toList)
def readV (s : ByteArray) : ByteArray := if readB s = true then head s else ⟨#[]⟩

theorem read_short (s : ByteArray) (h : s.size < 3) : readB s = false ∧ readV s = ⟨#[]⟩ := by
  have e : readB s = false := by unfold readB; simp; omega
  exact ⟨e, by unfold readV; simp [e]⟩

theorem sign_size (s : ByteArray) : (sign s).size = s.size + 3 := by unfold sign; simp [lets_size]; rfl

theorem sign_list (s : ByteArray) : (sign s).toList = s.data.toList ++ 124 :: (lets s).data.toList := by
  unfold sign; simp [ByteArray.toList_eq, ByteArray.data_append]

theorem head_list (s : ByteArray) : (head s).data.toList = s.data.toList.take (s.size - 3) := by
  unfold head; rw [Lib.extract_data]; simp

theorem read_parts (s : ByteArray) (h : 3 ≤ s.size) :
    ((sign (head s)).toList == s.toList) = ((s[s.size - 3].toNat : Int) == 124 && (s.extract (s.size - 2) s.size).toList == (lets (head s)).toList) := by
  rw [sign_list, head_list, Lib.extract_toList, ByteArray.toList_eq s, ByteArray.toList_eq (lets _)]
  have hl : s.data.toList.length = s.size := (Lib.size_eq s).symm
  have hd : s.data.toList = s.data.toList.take (s.size - 3) ++ s[s.size - 3] :: s.data.toList.drop (s.size - 2) := by
    conv => lhs; rw [← List.take_append_drop (s.size - 3) s.data.toList, List.drop_eq_getElem_cons (by omega)]
    have : s.size - 3 + 1 = s.size - 2 := by omega
    rw [this]; rfl
  have ht : (s.data.toList.drop (s.size - 2)).take (s.size - (s.size - 2)) = s.data.toList.drop (s.size - 2) := List.take_of_length_le (by simp)
  rw [ht]
  generalize hD : s.data.toList.drop (s.size - 2) = D at hd ⊢
  generalize hT : s.data.toList.take (s.size - 3) = T at hd ⊢
  generalize hX : (lets (head s)).data.toList = X
  rw [hd, Bool.eq_iff_iff]
  simp only [beq_iff_eq, Bool.and_eq_true, List.append_cancel_left_eq, List.cons.injEq]
  constructor
  · rintro ⟨h1, h2⟩
    exact ⟨by rw [← h1]; rfl, h2.symm⟩
  · rintro ⟨h1, h2⟩
    refine ⟨?_, h2.symm⟩
    apply UInt8.toNat_inj.1
    have : s[s.size - 3].toNat = 124 := by omega
    rw [this]; rfl

end Go.Proofs.YtnffgamekhedkaaGreatDoor
