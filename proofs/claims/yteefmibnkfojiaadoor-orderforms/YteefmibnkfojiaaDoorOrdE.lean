/-
  Contracts: slices.Equal of steps, package order's Same, the reference's SameOrder.
-/
import Derived.Test.YteefmibnkfojiaaDoorOrdC
import Derived.Laws.StructEq
import Derived.Deep.QuietTactic
import Derived.BigQuiet
namespace Go.Proofs.YteefmibnkfojiaaDoor
open Go.ChangeShapes Go.WideShapes Go.ChangeAt Go.RowKit

theorem neq_step (x1 x2 y1 y2 : Int) (w : World) : Sem.run Tryd.prog (binOp .neq 37 (.agg #[.int .i64 x1, .int .i64 x2]) (.agg #[.int .i64 y1, .int .i64 y2])) w = .ok (.bool (!(x1 == y1 && x2 == y2))) w := by
  have u3 := Tryd.underlying3
  have a3 := Tryd.isAgg3
  have z3 := Tryd.sizeOf3
  have hS : Tryd.prog.underlying 37 = some (.struct (Tryd.prog.fieldsOf 37)) := by kernel_rfl
  have hp : Tryd.prog.stoodInHeld 37 = false := by kernel_rfl
  rw [run_neq_struct, show (10000 : Nat) = 9999 + 1 from rfl, run_equalIn_agg w 9999 37 _ _ hS hp]
  simp only [Program.fieldsOf, Tryd.underlying37]
  go_simp
  by_cases h1 : x1 = y1 <;> by_cases h2 : x2 = y2 <;> simp [h1, h2]
theorem guard_step (op : BinOp) (a b : Operand) (xs ys : Array Value) (w : World) : Sem.run Tryd.prog (eqGuard op 37 a b (.agg xs) (.agg ys)) w = .ok () w := run_eqGuard_agg w op 37 a b xs ys (by kernel_rfl)

theorem belN {w w' : World} (h : Below w.heap.size w w') (n : Nat) : Below w.heap.size w (w'.drewN n) := ⟨h.os, h.tape, h.output, h.size, h.block⟩
theorem take_st {l m : List (Int × Int)} {k : Nat} (hl : k < l.length) (hm : k < m.length) (h : l.take k = m.take k) (e : stAt l k = stAt m k) : l.take (k + 1) = m.take (k + 1) := by
  rw [List.take_succ_eq_append_getElem hl, List.take_succ_eq_append_getElem hm, h, ← stAt_get hl, ← stAt_get hm, e]

set_option maxHeartbeats 2000000 in
theorem eqs_any (a b : Option Addr) (l m : List (Int × Int)) (ca cb : Nat) (w : World) (hl : l.length ≤ 9223372036854775807) (ha : Sts w a l) (hb : Sts w b m) :
    Calls Tryd.prog 28 #[.slice a l.length ca, .slice b m.length cb] w fun e w' => e = .returned (.bool (decide (l = m))) ∧ Below w.heap.size w w' := by
  have hne := neq_step
  have hgd := guard_step
  by_cases hlen : l.length = m.length
  · have e1 : m.length = l.length := hlen.symm
    rw [e1]
    have HL := hide hlen
    have HA := hide ha
    have HB := hide hb
    clear hlen e1 ha hb
    go_enter Tryd.func28, Tryd.ntmps28
    go_wp2
    go_loopw [13] (fun i wr => ∃ k : Nat, i = .int .i64 k ∧ k ≤ l.length ∧ Hid (l.take k = m.take k) ∧ Hid (Below w.heap.size w wr)) (fun i _ => l.length - (intOf i).toNat)
    case atStart => exact ⟨0, rfl, Nat.zero_le _, rfl, Below.refl _ _⟩
    case round =>
      obtain ⟨k, rfl, hk, HT, HR⟩ := hrel
      by_cases hlt : k < l.length
      · have hkm : k < m.length := by have := HL.out; omega
        obtain ⟨ba, oa, rfl, p1, p2⟩ := (HA.out.below HR.out).at hlt
        obtain ⟨bb, ob, rfl, q1, q2⟩ := (HB.out.below HR.out).at hkm
        have hq : (k : Int) < (l.length : Int) := by omega
        obtain ⟨x1, e1⟩ : ∃ x, x = (stAt l k).1 := ⟨_, rfl⟩
        obtain ⟨x2, e2⟩ : ∃ x, x = (stAt l k).2 := ⟨_, rfl⟩
        obtain ⟨y1, e3⟩ : ∃ x, x = (stAt m k).1 := ⟨_, rfl⟩
        obtain ⟨y2, e4⟩ : ∃ x, x = (stAt m k).2 := ⟨_, rfl⟩
        rw [← e1] at p1
        rw [← e2] at p2
        rw [← e3] at q1
        rw [← e4] at q2
        have HX : Hid (stAt l k = (x1, x2) ∧ stAt m k = (y1, y2)) := ⟨by rw [e1, e2], by rw [e3, e4]⟩
        clear e1 e2 e3 e4
        cases hxy : (x1 == y1 && x2 == y2)
        · have HLM : Hid (false = decide (l = m)) := by
            show _ = _
            symm
            simp only [decide_eq_false_iff_not]
            rintro rfl
            have h1 := HX.out.1.symm.trans HX.out.2
            simp at h1
            simp [h1] at hxy
          go_wp2
          go_quiet (fail)
          go_wp2
          go_ret
          exact ⟨ret_bool HLM.out, belN HR.out _⟩
        · have HE : Hid (l.take (k + 1) = m.take (k + 1)) := take_st hlt hkm HT.out (by rw [HX.out.1, HX.out.2]; simp at hxy; rw [hxy.1, hxy.2])
          go_wp2
          go_quiet (fail)
          go_wp2
          go_roundw
          case rel => exact ⟨k + 1, by go_num, by omega, HE, belN HR.out _⟩
          case measure => simp [intOf]; omega
      · have HLM : Hid (true = decide (l = m)) := by
          show _ = _
          have h1 := HL.out
          have ht := HT.out
          rw [List.take_of_length_le (by omega), List.take_of_length_le (by omega)] at ht
          symm
          simpa using ht
        go_wp2
        go_ret
        exact ⟨ret_bool HLM.out, HR.out⟩
  · have e0 : ¬ (l.length : Int) = (m.length : Int) := by omega
    have hne2 : decide (l = m) = false := by simp; intro h; exact hlen (by rw [h])
    rw [hne2]
    go_enter Tryd.func28, Tryd.ntmps28
    go_wp2
    go_ret
    exact ⟨rfl, Below.refl _ _⟩

set_option maxHeartbeats 4000000 in
theorem osame_any (o q : Od) (a b : Option Addr) (c d : Nat) (w : World) (ha : Sts w a o.steps) (hb : Sts w b q.steps) (hl : o.steps.length ≤ 9223372036854775807) :
    Calls Tryd.prog 14 #[.agg #[.int .i64 o.id, .int .i64 o.item, .int .i64 o.qty, .int .i64 o.client, .int .i64 o.price, .slice a o.steps.length c], .agg #[.int .i64 q.id, .int .i64 q.item, .int .i64 q.qty, .int .i64 q.client, .int .i64 q.price, .slice b q.steps.length d]] w fun e w' => e = .returned (.bool (sameO o q)) ∧ Below w.heap.size w w' := by
  have HB1 : Hid (Below w.heap.size w (w.alloc (.cells #[.int .i64 o.id, .int .i64 o.item, .int .i64 o.qty, .int .i64 o.client, .int .i64 o.price, .slice a o.steps.length c] 24))) := (Below.refl _ _).alloc (Nat.le_refl _) _
  have HB : Hid (Below w.heap.size w ((w.alloc (.cells #[.int .i64 o.id, .int .i64 o.item, .int .i64 o.qty, .int .i64 o.client, .int .i64 o.price, .slice a o.steps.length c] 24)).alloc (.cells #[.int .i64 q.id, .int .i64 q.item, .int .i64 q.qty, .int .i64 q.client, .int .i64 q.price, .slice b q.steps.length d] 24))) := HB1.out.alloc HB1.out.size _
  have HA := hide ha
  have HQ := hide hb
  clear ha hb
  by_cases h0 : o.id = q.id
  rotate_left
  · have k0 : (o.id == q.id) = false := by simpa using h0
    have n0 : (o.id != q.id) = true := by simpa using h0
    have HF : Hid (false = sameO o q) := by show _ = _; unfold sameO; simp [k0]
    clear h0
    go_enter Tryd.func14, Tryd.ntmps14
    go_wp2
    go_ret
    exact ⟨ret_bool HF.out, HB.out⟩
  have k0 : (o.id == q.id) = true := by simpa using h0
  have n0 : (o.id != q.id) = false := by simpa using h0
  clear h0
  by_cases h1 : o.item = q.item
  rotate_left
  · have k1 : (o.item == q.item) = false := by simpa using h1
    have n1 : (o.item != q.item) = true := by simpa using h1
    have HF : Hid (false = sameO o q) := by show _ = _; unfold sameO; simp [k1]
    clear h1
    go_enter Tryd.func14, Tryd.ntmps14
    go_wp2
    go_ret
    exact ⟨ret_bool HF.out, HB.out⟩
  have k1 : (o.item == q.item) = true := by simpa using h1
  have n1 : (o.item != q.item) = false := by simpa using h1
  clear h1
  by_cases h2 : o.qty = q.qty
  rotate_left
  · have k2 : (o.qty == q.qty) = false := by simpa using h2
    have n2 : (o.qty != q.qty) = true := by simpa using h2
    have HF : Hid (false = sameO o q) := by show _ = _; unfold sameO; simp [k2]
    clear h2
    go_enter Tryd.func14, Tryd.ntmps14
    go_wp2
    go_ret
    exact ⟨ret_bool HF.out, HB.out⟩
  have k2 : (o.qty == q.qty) = true := by simpa using h2
  have n2 : (o.qty != q.qty) = false := by simpa using h2
  clear h2
  by_cases h3 : o.client = q.client
  rotate_left
  · have k3 : (o.client == q.client) = false := by simpa using h3
    have n3 : (o.client != q.client) = true := by simpa using h3
    have HF : Hid (false = sameO o q) := by show _ = _; unfold sameO; simp [k3]
    clear h3
    go_enter Tryd.func14, Tryd.ntmps14
    go_wp2
    go_ret
    exact ⟨ret_bool HF.out, HB.out⟩
  have k3 : (o.client == q.client) = true := by simpa using h3
  have n3 : (o.client != q.client) = false := by simpa using h3
  clear h3
  by_cases h4 : o.price = q.price
  rotate_left
  · have k4 : (o.price == q.price) = false := by simpa using h4
    have n4 : (o.price != q.price) = true := by simpa using h4
    have HF : Hid (false = sameO o q) := by show _ = _; unfold sameO; simp [k4]
    clear h4
    go_enter Tryd.func14, Tryd.ntmps14
    go_wp2
    go_ret
    exact ⟨ret_bool HF.out, HB.out⟩
  have k4 : (o.price == q.price) = true := by simpa using h4
  have n4 : (o.price != q.price) = false := by simpa using h4
  clear h4
  have HF : Hid (decide (o.steps = q.steps) = sameO o q) := by show _ = _; unfold sameO; simp [k0, k1, k2, k3, k4]
  have HE := eqs_any a b o.steps q.steps c d ((w.alloc (.cells #[.int .i64 o.id, .int .i64 o.item, .int .i64 o.qty, .int .i64 o.client, .int .i64 o.price, .slice a o.steps.length c] 24)).alloc (.cells #[.int .i64 q.id, .int .i64 q.item, .int .i64 q.qty, .int .i64 q.client, .int .i64 q.price, .slice b q.steps.length d] 24)) hl (HA.out.below HB.out) (HQ.out.below HB.out)
  go_enter Tryd.func14, Tryd.ntmps14
  go_wp2_with (first
    | (go_at_call 28; refine HE.mono ?_; rintro e w1 ⟨rfl, hb1⟩))
  go_ret
  exact ⟨ret_bool HF.out, bel_on' HB.out hb1⟩

set_option maxHeartbeats 4000000 in
theorem ref_same_any (o q : Od) (a b : Option Addr) (c d : Nat) (w : World) (ha : Sts w a o.steps) (hb : Sts w b q.steps) (hl : o.steps.length ≤ 9223372036854775807) :
    Calls Tryd.prog 15 #[.agg #[.int .i64 o.id, .int .i64 o.item, .int .i64 o.qty, .int .i64 o.client, .int .i64 o.price, .slice a o.steps.length c], .agg #[.int .i64 q.id, .int .i64 q.item, .int .i64 q.qty, .int .i64 q.client, .int .i64 q.price, .slice b q.steps.length d]] w fun e w' => e = .returned (.bool (sameO o q)) ∧ Below w.heap.size w w' := by
  have HB1 : Hid (Below w.heap.size w (w.alloc (.cells #[.int .i64 o.id, .int .i64 o.item, .int .i64 o.qty, .int .i64 o.client, .int .i64 o.price, .slice a o.steps.length c] 24))) := (Below.refl _ _).alloc (Nat.le_refl _) _
  have HB : Hid (Below w.heap.size w ((w.alloc (.cells #[.int .i64 o.id, .int .i64 o.item, .int .i64 o.qty, .int .i64 o.client, .int .i64 o.price, .slice a o.steps.length c] 24)).alloc (.cells #[.int .i64 q.id, .int .i64 q.item, .int .i64 q.qty, .int .i64 q.client, .int .i64 q.price, .slice b q.steps.length d] 24))) := HB1.out.alloc HB1.out.size _
  have HA := hide ha
  have HQ := hide hb
  clear ha hb
  by_cases h0 : o.id = q.id
  rotate_left
  · have k0 : (o.id == q.id) = false := by simpa using h0
    have n0 : (o.id != q.id) = true := by simpa using h0
    have HF : Hid (false = sameO o q) := by show _ = _; unfold sameO; simp [k0]
    clear h0
    go_enter Tryd.func15, Tryd.ntmps15
    go_wp2
    go_ret
    exact ⟨ret_bool HF.out, HB.out⟩
  have k0 : (o.id == q.id) = true := by simpa using h0
  have n0 : (o.id != q.id) = false := by simpa using h0
  clear h0
  by_cases h1 : o.item = q.item
  rotate_left
  · have k1 : (o.item == q.item) = false := by simpa using h1
    have n1 : (o.item != q.item) = true := by simpa using h1
    have HF : Hid (false = sameO o q) := by show _ = _; unfold sameO; simp [k1]
    clear h1
    go_enter Tryd.func15, Tryd.ntmps15
    go_wp2
    go_ret
    exact ⟨ret_bool HF.out, HB.out⟩
  have k1 : (o.item == q.item) = true := by simpa using h1
  have n1 : (o.item != q.item) = false := by simpa using h1
  clear h1
  by_cases h2 : o.qty = q.qty
  rotate_left
  · have k2 : (o.qty == q.qty) = false := by simpa using h2
    have n2 : (o.qty != q.qty) = true := by simpa using h2
    have HF : Hid (false = sameO o q) := by show _ = _; unfold sameO; simp [k2]
    clear h2
    go_enter Tryd.func15, Tryd.ntmps15
    go_wp2
    go_ret
    exact ⟨ret_bool HF.out, HB.out⟩
  have k2 : (o.qty == q.qty) = true := by simpa using h2
  have n2 : (o.qty != q.qty) = false := by simpa using h2
  clear h2
  by_cases h3 : o.client = q.client
  rotate_left
  · have k3 : (o.client == q.client) = false := by simpa using h3
    have n3 : (o.client != q.client) = true := by simpa using h3
    have HF : Hid (false = sameO o q) := by show _ = _; unfold sameO; simp [k3]
    clear h3
    go_enter Tryd.func15, Tryd.ntmps15
    go_wp2
    go_ret
    exact ⟨ret_bool HF.out, HB.out⟩
  have k3 : (o.client == q.client) = true := by simpa using h3
  have n3 : (o.client != q.client) = false := by simpa using h3
  clear h3
  by_cases h4 : o.price = q.price
  rotate_left
  · have k4 : (o.price == q.price) = false := by simpa using h4
    have n4 : (o.price != q.price) = true := by simpa using h4
    have HF : Hid (false = sameO o q) := by show _ = _; unfold sameO; simp [k4]
    clear h4
    go_enter Tryd.func15, Tryd.ntmps15
    go_wp2
    go_ret
    exact ⟨ret_bool HF.out, HB.out⟩
  have k4 : (o.price == q.price) = true := by simpa using h4
  have n4 : (o.price != q.price) = false := by simpa using h4
  clear h4
  have HF : Hid (decide (o.steps = q.steps) = sameO o q) := by show _ = _; unfold sameO; simp [k0, k1, k2, k3, k4]
  by_cases hlen : o.steps.length = q.steps.length
  rotate_left
  · have k5 : ((o.steps.length : Int) != (q.steps.length : Int)) = true := by simp; omega
    have HF2 : Hid (false = sameO o q) := by show _ = _; rw [← HF.out]; symm; simp; intro h; exact hlen (by rw [h])
    clear hlen
    go_enter Tryd.func15, Tryd.ntmps15
    go_wp2
    go_ret
    exact ⟨ret_bool HF2.out, HB.out⟩
  have k5 : ((o.steps.length : Int) != (q.steps.length : Int)) = false := by simp; omega
  have hne := neq_step
  have hgd := guard_step
  have HLEN := hide hlen
  clear hlen
  go_enter Tryd.func15, Tryd.ntmps15
  obtain ⟨W2, hW2⟩ : ∃ W2, W2 = ((w.alloc (.cells #[.int .i64 o.id, .int .i64 o.item, .int .i64 o.qty, .int .i64 o.client, .int .i64 o.price, .slice a o.steps.length c] 24)).alloc (.cells #[.int .i64 q.id, .int .i64 q.item, .int .i64 q.qty, .int .i64 q.client, .int .i64 q.price, .slice b q.steps.length d] 24)) := ⟨_, rfl⟩
  have HC : Hid (W2.cell? ⟨w.heap.size, 5, none⟩ = some (.slice a o.steps.length c) ∧ W2.cell? ⟨w.heap.size + 1, 5, none⟩ = some (.slice b q.steps.length d)) := by
    refine ⟨?_, ?_⟩ <;> rw [hW2] <;> simp
  rw [← hW2] at HB
  go_wp2
  rw [← hW2]
  clear hW2 k0 k1 k2 k3 k4 k5 n0 n1 n2 n3 n4
  go_loopw [51] (fun i wr => ∃ k : Nat, i = .int .i64 k ∧ k ≤ o.steps.length ∧ Hid (o.steps.take k = q.steps.take k) ∧ Hid (Below W2.heap.size W2 wr)) (fun i _ => o.steps.length - (intOf i).toNat)
  case atStart => exact ⟨0, rfl, Nat.zero_le _, rfl, Below.refl _ _⟩
  case round =>
    obtain ⟨k, rfl, hk, HT, HR⟩ := hrel
    by_cases hlt : k < o.steps.length
    · have hkm : k < q.steps.length := by have := HLEN.out; omega
      have c5a := cellL HC.out.1 HR.out
      have c5b := cellL HC.out.2 HR.out
      obtain ⟨ba, oa, rfl, p1, p2⟩ := ((HA.out.below HB.out).below HR.out).at hlt
      obtain ⟨bb, ob, rfl, q1, q2⟩ := ((HQ.out.below HB.out).below HR.out).at hkm
      have hq : (k : Int) < (o.steps.length : Int) := by omega
      have hq2 : (k : Int) < (q.steps.length : Int) := by omega
      obtain ⟨x1, e1⟩ : ∃ x, x = (stAt o.steps k).1 := ⟨_, rfl⟩
      obtain ⟨x2, e2⟩ : ∃ x, x = (stAt o.steps k).2 := ⟨_, rfl⟩
      obtain ⟨y1, e3⟩ : ∃ x, x = (stAt q.steps k).1 := ⟨_, rfl⟩
      obtain ⟨y2, e4⟩ : ∃ x, x = (stAt q.steps k).2 := ⟨_, rfl⟩
      rw [← e1] at p1
      rw [← e2] at p2
      rw [← e3] at q1
      rw [← e4] at q2
      have HX : Hid (stAt o.steps k = (x1, x2) ∧ stAt q.steps k = (y1, y2)) := ⟨by rw [e1, e2], by rw [e3, e4]⟩
      clear e1 e2 e3 e4
      cases hxy : (x1 == y1 && x2 == y2)
      · have HLM : Hid (false = sameO o q) := by
          show _ = _
          rw [← HF.out]
          symm
          simp only [decide_eq_false_iff_not]
          intro h
          have h1 := HX.out.1.symm.trans ((congrArg (fun l => stAt l k) h).trans HX.out.2)
          simp at h1
          simp [h1] at hxy
        go_wp2
        go_quiet (fail)
        go_wp2
        go_ret
        exact ⟨ret_bool HLM.out, bel_on' HB.out (belN HR.out _)⟩
      · have HE : Hid (o.steps.take (k + 1) = q.steps.take (k + 1)) := take_st hlt hkm HT.out (by rw [HX.out.1, HX.out.2]; simp at hxy; rw [hxy.1, hxy.2])
        go_wp2
        go_quiet (fail)
        go_wp2
        go_roundw
        case rel => exact ⟨k + 1, by go_num, by omega, HE, belN HR.out _⟩
        case measure => simp [intOf]; omega
    · have HLM : Hid (true = sameO o q) := by
        show _ = _
        rw [← HF.out]
        have h1 := HLEN.out
        have ht := HT.out
        rw [List.take_of_length_le (by omega), List.take_of_length_le (by omega)] at ht
        symm
        simpa using ht
      go_wp2
      go_ret
      exact ⟨ret_bool HLM.out, bel_on' HB.out HR.out⟩
end Go.Proofs.YteefmibnkfojiaaDoor
