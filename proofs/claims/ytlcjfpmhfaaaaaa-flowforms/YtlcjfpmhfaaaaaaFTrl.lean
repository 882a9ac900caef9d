/-
  The reference's Legal.
-/
import Derived.Test.YtlcjfpmhfaaaaaaFTrd
namespace Go.Proofs.Ytlcjfpmhfaaaaaa
open Go.ChangeShapes Go.WideShapes Go.ChangeAt Go.RowKit

set_option maxRecDepth 100000 in
set_option maxHeartbeats 4000000 in
theorem rlegal_any (o : Od) (a : Option Addr) (c : Nat) (l : List (Int × Int)) (al : Option Addr) (cl : Nat) (w : World) (ha : Sts w a o.steps) (hl : o.steps.length ≤ 9223372036854775807) (hcap : o.steps.length ≤ c) (hal : Sts w al l) (hll : l.length ≤ 9223372036854775807) :
    Calls Try.prog 16 #[.agg #[.int .i64 o.id, .int .i64 o.item, .int .i64 o.qty, .int .i64 o.client, .int .i64 o.price, .slice a o.steps.length c], .slice al l.length cl] w fun e w' => e = .returned (.int .i64 (legalO o l : Nat)) ∧ Below w.heap.size w w' := by
  obtain ⟨V, hV⟩ : ∃ V, V = w.alloc (.cells #[.int .i64 o.id, .int .i64 o.item, .int .i64 o.qty, .int .i64 o.client, .int .i64 o.price, .slice a o.steps.length c] 24) := ⟨_, rfl⟩
  have hbV : Below w.heap.size w V := by rw [hV]; exact (Below.refl _ _).alloc (Nat.le_refl _) _
  have hVb : V.heap[w.heap.size]? = some (.cells #[.int .i64 o.id, .int .i64 o.item, .int .i64 o.qty, .int .i64 o.client, .int .i64 o.price, .slice a o.steps.length c] 24 (0, 0)) := by rw [hV]; exact World.alloc_heap_new w _
  have MY := ref_omay_any o a c V (ha.below hbV) hl hcap
  rw [hV] at MY
  have HV := hide hV
  have HBV := hide hbV
  have HVB := hide hVb
  have HSL := hide hal
  clear hV hbV hVb ha hal
  cases hm : mayO o
  · have HF : Hid (legalO o l = 0) := legal_not l hm
    rw [hm] at MY
    go_enter Try.func16, Try.ntmps16
    go_wp2_with fail
    refine MY.mono ?_
    rintro e w1 ⟨rfl, hb1⟩
    rw [← HV.out] at hb1
    have HB1 := hide (bel_on' HBV.out hb1)
    clear hb1 MY
    go_wp2
    go_ret
    exact ⟨ret_int (by rw [HF.out]; rfl), HB1.out⟩
  have HM := hide hm
  have h3 := may_three hm
  rw [hm] at MY
  clear hm
  go_enter Try.func16, Try.ntmps16
  go_wp2_with fail
  refine MY.mono ?_
  rintro e w1 ⟨rfl, hb1⟩
  rw [← HV.out] at hb1
  have HB1 := hide (bel_on' HBV.out hb1)
  obtain ⟨d0, d1, d2, d3, d4, d5⟩ := order_of_six ((hb1.block _ (Array.getElem?_eq_some_iff.1 HVB.out).1).trans HVB.out)
  have NT := newtrace_any o a c w1 h3
  clear hb1 MY
  go_wp2_with fail
  refine NT.mono ?_
  rintro e w2 ⟨p, bd, bu, rfl, ht, hb2⟩
  have HT0 : Hid (Tr w.heap.size w2 p bd bu o a c o.steps.length fs0) := by
    obtain ⟨⟨o1, o2, o3, o4⟩, r⟩ := ht
    have hs := HB1.out.size
    exact ⟨⟨by omega, by omega, by omega, o4⟩, r, ‹_›, ‹_›⟩
  have HB2 := hide (bel_on' HB1.out hb2)
  clear ht hb2 NT d0 d1 d2 d3 d4 d5
  go_wp2_with fail
  go_loopw [15] (fun iv wr => ∃ (k : Nat) (s : Fs), iv = .int .i64 k ∧ k ≤ l.length ∧ Hid (goF o.steps.length fs0 (l.take k) = some s) ∧ Hid (Below w.heap.size w wr) ∧ Hid (Tr w.heap.size wr p bd bu o a c o.steps.length s)) (fun iv _ => l.length - (intOf iv).toNat)
  case atStart => exact ⟨0, fs0, rfl, Nat.zero_le _, rfl, HB2, HT0⟩
  case round =>
    obtain ⟨k, s, rfl, hk, HGO, HB, HT⟩ := hrel
    by_cases hlt : k < l.length
    rotate_left
    · have q1 : ¬ (k : Int) < (l.length : Int) := by omega
      have HF : Hid (legalO o l = l.length) := by
        show _ = _
        have e : k = l.length := by omega
        have := HGO.out
        rw [e] at this
        exact legal_all HM.out this
      go_wp2
      go_ret
      exact ⟨ret_int (by rw [HF.out]), HB.out⟩
    have HOK := hide (goF_ok _ _ _ _ (fok0 _) HGO.out)
    obtain ⟨b, off, rfl, e0, e1⟩ := (HSL.out.below HB.out).at hlt
    have q1 : (k : Int) < (l.length : Int) := by omega
    obtain ⟨⟨x1, x2⟩, hx⟩ : ∃ x, x = stAt l k := ⟨_, rfl⟩
    have HX := hide hx
    rw [← hx] at e0 e1
    simp only at e0 e1
    clear hx
    obtain ⟨A, hA⟩ : ∃ A, A = wr.alloc (.cells #[.int .i64 x1, .int .i64 x2] 34) := ⟨_, rfl⟩
    have hbA : Below wr.heap.size wr A := by rw [hA]; exact (Below.refl _ _).alloc (Nat.le_refl _) _
    have HBA := hide (bel_on' HB.out hbA)
    have SE := see_any (HT.out.below hbA) HOK.out h3 HBA.out.size x1 x2
    rw [hA] at SE
    have HAE := hide hA
    clear hA hbA
    go_wp2_with fail
    refine SE.mono ?_
    rintro e u3 ⟨rfl, hb3, ht3⟩
    rw [← HAE.out] at hb3
    have HB3 := hide (HBA.out.trans hb3)
    clear hb3 SE e0 e1
    cases hse : seeF o.steps.length s (x1, x2) with
    | none =>
      have HF : Hid (legalO o l = k) := legal_stop HM.out hlt HGO.out (by rw [← HX.out]; exact hse)
      clear ht3 hse
      simp only [Option.isSome_none]
      go_wp2
      go_ret
      exact ⟨ret_int (by rw [HF.out]), HB3.out⟩
    | some s' =>
      have HT3 := hide (ht3 s' hse)
      have HGN : Hid (goF o.steps.length fs0 (l.take (k + 1)) = some s') := legal_step hlt HGO.out (by rw [← HX.out]; exact hse)
      clear ht3 hse
      simp only [Option.isSome_some]
      go_wp2
      go_roundw
      case rel => exact ⟨k + 1, s', by go_num, by omega, HGN, HB3, HT3⟩
      case measure => simp [intOf]; omega
end Go.Proofs.Ytlcjfpmhfaaaaaa
