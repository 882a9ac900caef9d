/-
  JournalRoom: so many lines and no more.
-/
import Derived.Test.YthjcedbjjphleaaDoorJrnH
import Derived.Test.YthjcedbjjphleaaDoorNum
namespace Go.Proofs.YthjcedbjjphleaaDoor
open Go.ChangeShapes Go.WideShapes Go.ChangeAt Go.RowKit

theorem may_of {c : UInt8} (h0 : 97 ≤ c.toNat) (h1 : c.toNat ≤ 122) {id : Int} (i0 : 0 ≤ id) (i1 : id ≤ 999) : mayB ⟨#[c]⟩ id [] = true := by
  simp only [mayB, kindB, idB, numsB, letterB, Bool.and_eq_true, decide_eq_true_eq, List.all_eq_true]
  refine ⟨⟨⟨⟨Nat.le_refl _, by show 1 ≤ 8; omega⟩, ?_⟩, i0, i1⟩, by simp, by simp⟩
  intro b hb
  have : b = c := by simpa using hb
  subst this
  exact ⟨h0, h1⟩

set_option maxRecDepth 100000 in
set_option maxHeartbeats 2000000 in
theorem journalRoom_walk (a0 : Int) (a1 : Int) (w : World) (_w0 : (Lit.int .i64 a0).wf = true) (_w1 : (Lit.int .i64 a1).wf = true) (hg : Gl w) :
    Calls Tryd.prog 5 #[.int .i64 a0, .int .i64 a1] w fun e w' => e = .returned (.bool true) ∧ Below w.heap.size w w' := by
  obtain ⟨b0, b1⟩ := um_bd a0 40 (by omega) (by omega)
  obtain ⟨k, hk⟩ : ∃ k : Nat, um a0 40 = k := ⟨(um a0 40).toNat, by omega⟩
  have hk' : wrap64 ((IntKind.u64.wrap a0).tmod 40) = (k : Int) := hk
  have hk40 : k < 40 := by omega
  obtain ⟨b2, b3⟩ := um_bd a1 10 (by omega) (by omega)
  obtain ⟨m, hm⟩ : ∃ m : Nat, um a1 10 = m := ⟨(um a1 10).toNat, by omega⟩
  have hm' : wrap64 ((IntKind.u64.wrap a1).tmod 10) = (m : Int) := hm
  have hm10 : m < 10 := by omega
  clear b0 b1 b2 b3 hk hm _w0 _w1
  have HG : Hid (Gl w) := hg
  clear hg
  have HN := new_any (1 + (k : Int)) w
  have HJ0 : Hid _ := Jr.new w w.heap.size (Nat.le_refl _) (roomV (1 + (k : Int))) (roomV_in _).1 (roomV_in _).2
  have er : roomV (1 + (k : Int)) = 1 + (k : Int) := by unfold roomV; omega
  rw [er] at HN HJ0
  go_enter Tryd.func5, Tryd.ntmps5
  go_wp2_with fail
  refine HN.mono ?_
  rintro e u1 ⟨rfl, rfl⟩
  go_wp2_with fail
  go_loopw [22] (fun i wr => ∃ (n : Nat) (v : Value) (L : List ByteArray), i = .int .i64 n ∧ n ≤ 1 + k + m ∧ L.length = min n (1 + k) ∧ Hid (Jr w.heap.size wr w.heap.size v (1 + (k : Int)) L 0 false) ∧ Hid (Below w.heap.size w wr)) (fun i _ => 1 + k + m - (intOf i).toNat)
  case atStart => exact ⟨0, .slice none 0 0, [], rfl, by omega, by simp, HJ0, (Below.refl _ _).alloc (Nat.le_refl _) _⟩
  case round =>
    obtain ⟨n, v, L, rfl, hn, hL, HJ, HB⟩ := hrel
    by_cases hlt : n < 1 + k + m
    · have ql : (n : Int) < 1 + (k : Int) + (m : Int) := by omega
      have hr : ((n : Int)).tmod 900 = (n : Int) := by rw [Int.tmod_eq_emod_of_nonneg (by omega)]; omega
      have hmy : mayB ⟨#[107]⟩ (n : Int) [] = true := may_of (by decide) (by decide) (by omega) (by omega)
      have A := add_any HJ.out ⟨#[107]⟩ (n : Int) none [] 0 (by show 1 ≤ maxLen; unfold maxLen; omega) (.inl rfl) (by simp) (HG.out.on HB.out)
      by_cases hk1 : n < 1 + k
      · have q1 : (n : Int) < 1 + (k : Int) := by omega
        have e0 : addE (1 + (k : Int)) L false ⟨#[107]⟩ (n : Int) [] = 0 := by unfold addE; rw [if_neg (by decide), if_pos hmy, if_neg (by omega)]
        have e1 : addL (1 + (k : Int)) L false ⟨#[107]⟩ (n : Int) [] = L ++ [lineV ⟨#[107]⟩ (n : Int) []] := by unfold addL; rw [if_pos e0]
        rw [e0, e1] at A
        generalize lineV ⟨#[107]⟩ (n : Int) [] = X at A
        clear hmy e0 e1
        go_wp2_with fail
        refine A.mono ?_
        rintro e u2 ⟨v2, rfl, hj2, ho2⟩
        have HB2 := hide (HB.out.trans (HJ.out.bel ho2))
        have HJ2 := hide hj2
        clear hj2 ho2 A
        go_wp2
        go_roundw
        case rel => exact ⟨n + 1, v2, L ++ [X], by go_num, by omega, by simp; omega, HJ2, HB2⟩
        case measure => simp [intOf]; omega
      · have q1 : ¬ (n : Int) < 1 + (k : Int) := by omega
        have e0 : addE (1 + (k : Int)) L false ⟨#[107]⟩ (n : Int) [] = 5 := by unfold addE; rw [if_neg (by decide), if_pos hmy, if_pos (by omega)]
        have e1 : addL (1 + (k : Int)) L false ⟨#[107]⟩ (n : Int) [] = L := by unfold addL; rw [e0, if_neg (by decide)]
        rw [e0, e1] at A
        clear hmy e0 e1
        go_wp2_with fail
        refine A.mono ?_
        rintro e u2 ⟨v2, rfl, hj2, ho2⟩
        have HB2 := hide (HB.out.trans (HJ.out.bel ho2))
        have HJ2 := hide hj2
        clear hj2 ho2 A
        go_wp2
        go_roundw
        case rel => exact ⟨n + 1, v2, L, by go_num, by omega, by omega, HJ2, HB2⟩
        case measure => simp [intOf]; omega
    · have ql : ¬ (n : Int) < 1 + (k : Int) + (m : Int) := by omega
      have hL1 : L.length = 1 + k := by omega
      have LN := lines_any HJ.out
      rw [hL1] at LN
      have q2 : (((1 + k : Nat) : Int) != 1 + (k : Int)) = false := by simp
      go_wp2_with fail
      refine LN.mono ?_
      rintro e u3 ⟨a3, c3, rfl, -, hb3⟩
      have HJ3 := hide (HJ.out.on hb3)
      have HB3 := hide (bel_on' HB.out hb3)
      clear hb3 LN
      go_wp2_with fail
      refine (crash_up HJ3.out (Nat.zero_le _) 0 0).mono ?_
      rintro e u4 ⟨⟨x4, rfl⟩, v4, hj4, ho4⟩
      have ec : crashL L 0 0 0 = [] := by
        cases hc : L with
        | nil => rw [hc] at hL1; simp at hL1; omega
        | cons x r =>
          unfold crashL keptN
          rw [if_neg (by simp), if_pos (by simp [tearN]; omega)]
          rfl
      rw [ec] at hj4
      have HJ4 := hide hj4
      have HB4 := hide (HB3.out.trans (HJ3.out.bel ho4))
      have R4 := recover_down HG.out HB4.out hj4
      rw [show (wholeD fun s => Classical.propDecidable (Ok s)) [] = 0 from rfl] at R4
      clear hj4 ho4 ec
      go_wp2_with fail
      refine R4.mono ?_
      rintro e u5 ⟨rfl, v5, hj5, ho5⟩
      have HJ5 : Hid (Jr w.heap.size u5 w.heap.size v5 (1 + (k : Int)) [] 0 false) := hj5
      have HB5 := hide (HB4.out.trans (HJ4.out.bel ho5))
      clear hj5 ho5 R4
      go_wp2_with fail
      refine (lines_any HJ5.out).mono ?_
      rintro e u6 ⟨a6, c6, rfl, -, hb6⟩
      have HJ6 := hide (HJ5.out.on hb6)
      have HB6 := hide (bel_on' HB5.out hb6)
      have hmy : mayB ⟨#[107]⟩ 0 [] = true := may_of (by decide) (by decide) (by omega) (by omega)
      have A := add_any HJ6.out ⟨#[107]⟩ 0 none [] 0 (by show 1 ≤ maxLen; unfold maxLen; omega) (.inl rfl) (by simp) (HG.out.on HB6.out)
      have e0 : addE (1 + (k : Int)) [] false ⟨#[107]⟩ 0 [] = 0 := by unfold addE; rw [if_neg (by decide), if_pos hmy, if_neg (by simp; omega)]
      rw [e0] at A
      clear hb6 hmy e0
      go_wp2_with fail
      refine A.mono ?_
      rintro e u7 ⟨v7, rfl, hj7, ho7⟩
      have HB7 := hide (HB6.out.trans (HJ6.out.bel ho7))
      clear hj7 ho7 A
      go_wp2_with fail
      refine (jawake_any _ (HG.out.on HB7.out)).mono ?_
      rintro e u8 ⟨rfl, hb8⟩
      go_wp2
      go_ret
      exact ⟨rfl, bel_on' HB7.out hb8⟩
end Go.Proofs.YthjcedbjjphleaaDoor
