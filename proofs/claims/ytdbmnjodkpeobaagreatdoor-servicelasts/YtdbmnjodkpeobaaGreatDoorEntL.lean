/-
  Contracts: the reference's Line: the signed text of an entry that may be, or a refusal.
-/
import Derived.Test.YtdbmnjodkpeobaaGreatDoorEntN
import Derived.Deep.RegionWith
namespace Go.Proofs.YtdbmnjodkpeobaaGreatDoor
open Go.ChangeShapes Go.WideShapes Go.ChangeAt Go.RowKit

def lineV (k : ByteArray) (id : Int) (l : List Int) : ByteArray := if mayB k id l = true then sign (txt k id l) else ⟨#[]⟩
def lineE (k : ByteArray) (id : Int) (l : List Int) : Int := if mayB k id l = true then 0 else 1

theorem txt_nil (k : ByteArray) (id : Int) : txt k id [] = k ++ ⟨#[32]⟩ ++ ⟨(Lib.itoa id).toArray⟩ := by
  apply bytes_ext
  show Lib.join [k.data.toList, Lib.itoa id] [32] = _
  rw [Lib.join_cons]
  simp [Lib.joinTail]
theorem txt_snoc (k : ByteArray) (id : Int) (l : List Int) (n : Int) : txt k id (l ++ [n]) = txt k id l ++ (⟨#[32]⟩ ++ ⟨(Lib.itoa n).toArray⟩) := by
  apply bytes_ext
  show Lib.join (wordsL k id (l ++ [n])) [32] = _
  have e : (txt k id l ++ (⟨#[32]⟩ ++ ⟨(Lib.itoa n).toArray⟩)).data.toList = Lib.join (wordsL k id l) [32] ++ (32 :: Lib.itoa n) := by simp [txt]
  rw [e]
  simp [wordsL, Lib.join_cons, Lib.joinTail]
theorem may_take {k : ByteArray} {id : Int} {l : List Int} (h : mayB k id l = true) (n : Nat) : mayB k id (l.take n) = true := by
  unfold mayB numsB at h ⊢
  simp only [Bool.and_eq_true, decide_eq_true_eq, List.all_eq_true] at h ⊢
  exact ⟨h.1, by have := h.2.1; simp; omega, fun x hx => h.2.2 x (List.mem_of_mem_take hx)⟩

theorem itoaB_size {n : Int} (h0 : -1000000000 ≤ n) (h1 : n ≤ 1000000000) : (⟨(Lib.itoa n).toArray⟩ : ByteArray).size ≤ 11 := by
  have := itoa_len h0 h1
  simpa [ByteArray.size] using this

set_option maxHeartbeats 1000000 in
theorem ref_line_any (k : ByteArray) (id : Int) (a : Option Addr) (l : List Int) (c : Nat) (w : World) (hk : k.size ≤ maxLen) (ha : Ints w a l) (hl : l.length ≤ 9223372036854775807) (hg : Gl w) :
    Calls Tryz.prog 73 #[.agg #[.string k, .int .i64 id, .slice a l.length c]] w fun e w' => e = .returned (.tuple #[.string (lineV k id l), .int .i64 (lineE k id l)]) ∧ Below w.heap.size w w' := by
  have HI : Hid (Ints w a l) := ha
  have HB : Hid (Below w.heap.size w (w.alloc (.cells #[.string k, .int .i64 id, .slice a l.length c] 70))) := (Below.refl _ _).alloc (Nat.le_refl _) _
  have HL : Hid (l.length ≤ 9223372036854775807) := hl
  have HK : Hid (k.size ≤ maxLen) := hk
  have HG : Hid (Gl w) := hg
  clear ha hl hk hg
  have HM := ref_may_any k id a l c (w.alloc (.cells #[.string k, .int .i64 id, .slice a l.length c] 70)) HK.out (HI.out.below HB.out) HL.out
  unfold lineV lineE
  cases hm : mayB k id l
  · rw [hm] at HM
    go_enter Tryz.func73, Tryz.ntmps73
    go_wp2_with (first
      | (go_at_call 69; refine HM.mono ?_; rintro e w1 ⟨rfl, hb1⟩))
    go_ret2
    exact ⟨rfl, bel_on' HB.out hb1⟩
  · rw [hm] at HM
    obtain ⟨_, hk8, _, hi0, hi1, hl4, hn⟩ := may_parts hm
    have HMB : Hid (mayB k id l = true) := hm
    have HN : Hid _ := hn
    clear hn hm
    go_enter Tryz.func73, Tryz.ntmps73
    have b0 : (w.alloc (.cells #[.string k, .int .i64 id, .slice a l.length c] 70)).cell? ⟨w.heap.size, 0, none⟩ = some (.string k) := by simp
    have b1 : (w.alloc (.cells #[.string k, .int .i64 id, .slice a l.length c] 70)).cell? ⟨w.heap.size, 1, none⟩ = some (.int .i64 id) := by simp
    have b2 : (w.alloc (.cells #[.string k, .int .i64 id, .slice a l.length c] 70)).cell? ⟨w.heap.size, 2, none⟩ = some (.slice a l.length c) := by simp
    have B0 : Hid _ := b0
    have B1 : Hid _ := b1
    have B2 : Hid _ := b2
    clear b0 b1 b2
    go_wp2_with (first
      | (go_at_call 69; refine HM.mono ?_; rintro e w1 ⟨rfl, hb1⟩; have c0 := (hb1.cell (p := ⟨w.heap.size, 0, none⟩) (by simp)).trans B0.out; have c1 := (hb1.cell (p := ⟨w.heap.size, 1, none⟩) (by simp)).trans B1.out; have c2 := (hb1.cell (p := ⟨w.heap.size, 2, none⟩) (by simp)).trans B2.out))
    have H1 : Hid (Below w.heap.size w w1) := bel_on' HB.out hb1
    clear HM hb1
    have hne : Nonempty (Later w1) := ⟨Later.now w1⟩
    have l0 := Later.cell c0
    have l1 := Later.cell c1
    have HG1 : Hid (Gl w1) := HG.out.on H1.out
    obtain ⟨y, hy⟩ : ∃ y : ByteArray, (⟨(Lib.itoa id).toArray⟩ : ByteArray) = y := ⟨_, rfl⟩
    have hys : y.size ≤ 11 := by rw [← hy]; exact itoaB_size (by omega) (by omega)
    have HY : Hid _ := hy
    clear hy
    have ci : ∀ u : Later w1, Calls Tryz.prog 79 #[.int .i64 id] u.w fun e w' => e = .returned (.string y) ∧ ∃ u' : Later w1, w' = u'.w := fun u => calls_later u (by rw [← HY.out]; exact itoa_any id u.w (by omega) (by omega) (HG1.out.on u.below))
    refine region_later (by kernel_rfl) (by kernel_rfl) ?_
    repeat (first | go_big_quiet_step (first | (go_at_call 79; exact ci _)) | quiet_step (first | (go_at_call 79; exact ci _)))
    refine wpQuiet_nil ?_
    intro u
    have c3 := Later.cell c2 u
    have HB3 : Hid (Below w.heap.size w u.w) := bel_on' H1.out u.below
    clear l0 l1 ci HG1 c0 c1 c2 hne
    generalize u.w = w3 at c3 HB3 ⊢
    have HT : Hid (k ++ ⟨#[32]⟩ ++ y = txt k id (l.take 0)) := by show _ = _; rw [List.take_zero, txt_nil, HY.out]
    clear HY B0 B1 B2
    go_wp2
    go_loopw [4, 20] (fun s i wr => ∃ n : Nat, n ≤ l.length ∧ i = .int .i64 n ∧ s = .string (txt k id (l.take n)) ∧ Hid (Below w.heap.size w wr)) (fun _ i _ => l.length - (intOf i).toNat)
    case atStart => exact ⟨0, Nat.zero_le _, rfl, congrArg Value.string HT.out, HB3⟩
    case round =>
      obtain ⟨n, hnl, rfl, rfl, HR⟩ := hrel
      by_cases hlt : n < l.length
      · rcases HI.out.below HR.out with h | ⟨b, off, rfl, hc⟩
        · subst h; simp at hlt
        have hx := hc n hlt
        clear hc
        obtain ⟨x, ex⟩ : ∃ x, x = l.getD n 0 := ⟨_, rfl⟩
        rw [← ex] at hx
        have hg : l[n] = x := by rw [ex]; simp [List.getD, hlt]
        have hxb := HN.out x (by rw [← hg]; exact List.getElem_mem hlt)
        obtain ⟨z, hz⟩ : ∃ z : ByteArray, (⟨(Lib.itoa x).toArray⟩ : ByteArray) = z := ⟨_, rfl⟩
        have hzs : z.size ≤ 11 := by rw [← hz]; exact itoaB_size hxb.1 hxb.2
        obtain ⟨X, hX⟩ : ∃ X : ByteArray, txt k id (l.take n) = X := ⟨_, rfl⟩
        have hXs : X.size ≤ 60 := by rw [← hX]; exact txt_size (may_take HMB.out n)
        have HS : Hid (X ++ (⟨#[32]⟩ ++ z) = txt k id (l.take (n + 1))) := by
          show _ = _
          rw [List.take_succ_eq_append_getElem hlt, txt_snoc, hX, hg, hz]
        rw [hX]
        have HZ : Hid ((⟨(Lib.itoa x).toArray⟩ : ByteArray) = z) := hz
        have hx0 := hxb.1
        have hx1 := hxb.2
        clear ex hg hz hX hxb
        go_wp2_with (first
          | (go_at_call 79; refine (itoa_any _ _ (by omega) (by omega) (HG.out.on HR.out)).mono ?_; rintro e w4 ⟨rfl, hb4⟩; rw [HZ.out]))
        go_roundw
        case rel => exact ⟨n + 1, by omega, by go_num, congrArg Value.string HS.out, bel_on' HR.out hb4⟩
        case measure => simp [intOf]; omega
      · have HF : Hid (txt k id (l.take n) = txt k id l) := by show _ = _; rw [List.take_of_length_le (by omega)]
        rw [HF.out]
        have hXs : (txt k id l).size ≤ 140737488355328 := by have := txt_size HMB.out; omega
        have HXS : Hid _ := hXs
        clear hXs
        go_wp2_with (first
          | (go_at_call 78; refine (ref_sign_any _ _ HXS.out).mono ?_; rintro e w4 ⟨rfl, hb4⟩))
        go_ret2
        exact ⟨rfl, bel_on' HR.out hb4⟩
end Go.Proofs.YtdbmnjodkpeobaaGreatDoor
