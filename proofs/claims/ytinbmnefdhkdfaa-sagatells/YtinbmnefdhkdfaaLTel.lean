/-
  SagaTells: decided, it tells just those that have not answered; an order that is turned is undone from behind.
-/
import Derived.Test.YtinbmnefdhkdfaaSgbO
import Derived.Test.YtinbmnefdhkdfaaSgbD
import Derived.Test.YtinbmnefdhkdfaaSgbE
import Derived.Test.YtinbmnefdhkdfaaOrdF
import Derived.Test.YtinbmnefdhkdfaaNum
namespace Go.Proofs.Ytinbmnefdhkdfaa
open Go.ChangeShapes Go.WideShapes Go.ChangeAt Go.RowKit

/-- Decided so; of n steps the first j are done, of those the ones from k on are undone, if it is turned. -/
def tellF (n : Nat) (y x1 x2 : Bool) (k j : Nat) : Fa := ⟨List.replicate j true ++ List.replicate (n - j) false, (List.range n).map (fun i => decide (i < j) && (!y && decide (k ≤ i))), true, y, !y, x1, x2, false, false, false, false⟩
theorem tell_set {n k j : Nat} (y x1 x2 : Bool) (hn : n ≤ 3) (hj : j < n) (hk : k ≤ n) : ({ tellF n y x1 x2 k j with dn := (tellF n y x1 x2 k j).dn.set j true, un := (tellF n y x1 x2 k j).un.set j (!y && decide (k ≤ j)) } : Fa) = tellF n y x1 x2 k (j + 1) := by
  obtain rfl | rfl | rfl : n = 1 ∨ n = 2 ∨ n = 3 := by omega
  all_goals (obtain rfl | rfl | rfl : j = 0 ∨ j = 1 ∨ j = 2 := by omega)
  all_goals (obtain rfl | rfl | rfl | rfl : k = 0 ∨ k = 1 ∨ k = 2 ∨ k = 3 := by omega)
  all_goals first | omega | (cases y <;> rfl)
theorem tell_get {n k j : Nat} (y x1 x2 : Bool) (hn : n ≤ 3) (hj : j < n) : (tellF n y x1 x2 k j).dn[j]? = some false ∧ (tellF n y x1 x2 k j).un[j]? = some false := by
  obtain rfl | rfl | rfl : n = 1 ∨ n = 2 ∨ n = 3 := by omega
  all_goals (obtain rfl | rfl | rfl : j = 0 ∨ j = 1 ∨ j = 2 := by omega)
  all_goals first | omega | exact ⟨rfl, rfl⟩
theorem tell_may {o : Od} {k : Nat} (y x1 x2 : Bool) (hm : mayO o = true) (hk : k ≤ o.steps.length) : mayF o (tellF o.steps.length y x1 x2 k o.steps.length) = true := by
  have h3 := mayO_three hm
  unfold mayF
  rw [hm, decide_eq_true (show (tellF o.steps.length y x1 x2 k o.steps.length).dn.length = o.steps.length by unfold tellF; simp), decide_eq_true (show (tellF o.steps.length y x1 x2 k o.steps.length).un.length = o.steps.length by unfold tellF; simp)]
  generalize o.steps.length = n at *
  obtain rfl | rfl | rfl | rfl : n = 0 ∨ n = 1 ∨ n = 2 ∨ n = 3 := by omega
  all_goals (obtain rfl | rfl | rfl | rfl : k = 0 ∨ k = 1 ∨ k = 2 ∨ k = 3 := by omega)
  all_goals first | omega | (cases y <;> rfl)
def tellL (o : Od) (y x1 x2 : Bool) (k : Nat) : List Mg := (if x1 then [] else [msgM o (if y then 9 else 10) 1]) ++ (if x2 then [] else [msgM o (if y then 9 else 10) 2]) ++ (if y then [shipM o] else if k = 0 then [] else [undoM o (k - 1)])
theorem tell_next {o : Od} {k : Nat} (y x1 x2 : Bool) (hm : mayO o = true) (hk : k ≤ o.steps.length) : nextF o (tellF o.steps.length y x1 x2 k o.steps.length) = tellL o y x1 x2 k := by
  rw [next_need (tell_may y x1 x2 hm hk)]
  have h3 := mayO_three hm
  cases y
  · have hf : lastF (tellF o.steps.length false x1 x2 k o.steps.length).un o.steps.length = if k = 0 then none else some (k - 1) := by
      generalize o.steps.length = n at *
      obtain rfl | rfl | rfl | rfl : n = 0 ∨ n = 1 ∨ n = 2 ∨ n = 3 := by omega
      all_goals (obtain rfl | rfl | rfl | rfl : k = 0 ∨ k = 1 ∨ k = 2 ∨ k = 3 := by omega)
      all_goals first | omega | rfl
    show decL o _ 10 ++ unL o _ = _
    unfold unL
    rw [hf]
    unfold tellL
    by_cases h : k = 0
    · rw [if_pos h]; simp [decL, tellF, h]
    · rw [if_neg h]; simp [decL, tellF, h]
  · rfl
/-- How many of the first i are told what was decided. -/
def cntT (L : List Mg) (i : Nat) : Nat := ((L.take i).filter (fun m => decide (m.k = 9 ∨ m.k = 10))).length
theorem cnt_next {L : List Mg} {i : Nat} {m : Mg} (h : L[i]? = some m) : cntT L (i + 1) = cntT L i + (if m.k = 9 ∨ m.k = 10 then 1 else 0) := by
  unfold cntT
  rw [List.take_add_one, h]
  simp only [Option.toList_some, List.filter_append, List.length_append]
  congr 1
  by_cases hc : m.k = 9 ∨ m.k = 10
  · rw [if_pos hc]; simp [List.filter, hc]
  · rw [if_neg hc]; simp [List.filter, hc]
theorem tell_all (o : Od) (y x1 x2 : Bool) (k : Nat) : cntT (tellL o y x1 x2 k) (tellL o y x1 x2 k).length + ((if x1 then 1 else 0) + (if x2 then 1 else 0)) = 2 := by
  unfold cntT
  rw [List.take_length]
  unfold tellL
  by_cases h : k = 0 <;> cases y <;> cases x1 <;> cases x2 <;> simp [h, msgM, shipM, undoM]
theorem tell_mem {o : Od} {y x1 x2 : Bool} {k i : Nat} {m : Mg} (h : (tellL o y x1 x2 k)[i]? = some m) : (m = msgM o (if y then 9 else 10) 1 ∧ x1 = false) ∨ (m = msgM o (if y then 9 else 10) 2 ∧ x2 = false) ∨ (m = shipM o ∧ y = true) ∨ (m = undoM o (k - 1) ∧ y = false ∧ k ≠ 0) := by
  have hm := List.mem_of_getElem? h
  unfold tellL at hm
  by_cases hk : k = 0 <;> cases y <;> cases x1 <;> cases x2 <;> simp [hk] at hm <;> simp [hk] <;> first | (rcases hm with hm | hm | hm <;> simp [hm]) | (rcases hm with hm | hm <;> simp [hm]) | simp [hm]
theorem tell_len (o : Od) (y x1 x2 : Bool) (k : Nat) : (tellL o y x1 x2 k).length ≤ 3 := by
  unfold tellL
  by_cases hk : k = 0 <;> cases y <;> cases x1 <;> cases x2 <;> simp [hk]

set_option maxRecDepth 100000 in
set_option maxHeartbeats 8000000 in
theorem sagaTells_walk (o0 : Od) (a0 : Option Addr) (cap0 : Nat) (a1 : Bool) (x2 y2 : Bool) (a3 : Int) (w : World) (w0 : OdIn w o0 a0 cap0) (_w3 : (Lit.int .i64 a3).wf = true) :
    Calls Try.prog 8 #[.agg #[.int .i64 o0.id, .int .i64 o0.item, .int .i64 o0.qty, .int .i64 o0.client, .int .i64 o0.price, .slice a0 o0.steps.length cap0], .bool a1, .agg #[.bool x2, .bool y2], .int .i64 a3] w fun e w' => e = .returned (.bool true) ∧ Below w.heap.size w w' := by
  have HR := (Rq.new (w := w) (o := o0) (a := a0) (c := cap0)).on ((Below.refl _ _).alloc (Nat.le_refl _) (.cells #[.bool x2, .bool y2] 26))
  have hD : ((w.alloc (.cells #[.int .i64 o0.id, .int .i64 o0.item, .int .i64 o0.qty, .int .i64 o0.client, .int .i64 o0.price, .slice a0 o0.steps.length cap0] 24)).alloc (.cells #[.bool x2, .bool y2] 26)).heap[w.heap.size + 1]? = some (.cells #[.bool x2, .bool y2] 26 (0, 0)) := by
    have := World.alloc_heap_new (w.alloc (.cells #[.int .i64 o0.id, .int .i64 o0.item, .int .i64 o0.qty, .int .i64 o0.client, .int .i64 o0.price, .slice a0 o0.steps.length cap0] 24)) (.cells #[.bool x2, .bool y2] 26)
    rwa [World.size_alloc] at this
  have MY : ∀ u, Rq w o0 a0 cap0 u → Calls Try.prog 21 #[.agg #[.int .i64 o0.id, .int .i64 o0.item, .int .i64 o0.qty, .int .i64 o0.client, .int .i64 o0.price, .slice a0 o0.steps.length cap0]] u fun e w' => e = .returned (.bool (mayO o0)) ∧ Below u.heap.size u w' := fun u h => ref_omay_any o0 a0 cap0 u (w0.2.1.below h.bel) w0.1 w0.2.2.2
  by_cases h10 : (o0.steps.length : Int) > 10
  · go_enter Try.func8, Try.ntmps8
    go_wp2_with (go_at_call 10; refine (gawake_any _).mono ?_; rintro e u3 ⟨rfl, hb⟩; replace HR := HR.on hb)
    go_ret
    exact ⟨rfl, HR.bel⟩
  cases hm : mayO o0
  · rw [hm] at MY
    go_enter Try.func8, Try.ntmps8
    go_wp2_with (first
      | (go_at_call 21; (with_reducible refine (MY _ HR).mono ?_); rintro e u ⟨rfl, hb⟩; replace HR := HR.on hb)
      | (go_at_call 10; refine (gawake_any _).mono ?_; rintro e u3 ⟨rfl, hb⟩; replace HR := HR.on hb))
    go_ret
    exact ⟨rfl, HR.bel⟩
  rw [hm] at MY
  go_enter Try.func8, Try.ntmps8
  go_wp2_with (first
    | (go_at_call 21; (with_reducible refine (MY _ HR).mono ?_); rintro e u ⟨rfl, hb⟩; replace HR := HR.on hb; replace hD := keepB hD hb; clear hb; obtain ⟨d0, d1, d2, d3, d4, d5⟩ := six_cells HR.ob))
  have dd0 : u.cell? ⟨w.heap.size + 1, 0, none⟩ = some (.bool x2) := by rw [cell_of hD]; rfl
  have dd1 : u.cell? ⟨w.heap.size + 1, 1, none⟩ = some (.bool y2) := by rw [cell_of hD]; rfl
  have hn3 := mayO_three hm
  have hmk := make_row o0.steps.length hn3
  have hk := um_bd a3 ((o0.steps.length : Int) + 1) (by omega) (by omega)
  unfold um at hk
  obtain ⟨K, hK⟩ : ∃ K, wrap64 ((IntKind.u64.wrap a3).tmod ((o0.steps.length : Int) + 1)) = K := ⟨_, rfl⟩
  rw [hK] at hk ⊢
  clear hK
  obtain ⟨k, rfl⟩ : ∃ k : Nat, K = (k : Int) := ⟨K.toNat, by omega⟩
  have hkn : k ≤ o0.steps.length := by omega
  have HST := hide w0.2.1
  have HLN := hide w0.1
  have HMY := hide hm
  have HDD := hide hD
  have z0 : (tellF o0.steps.length a1 x2 y2 k 0).dn = List.replicate o0.steps.length false := by unfold tellF; simp
  have z1 : (tellF o0.steps.length a1 x2 y2 k 0).un = List.replicate o0.steps.length false := by
    unfold tellF
    refine List.ext_getElem (by simp) (fun i h1 h2 => by simp)
  clear w0 hm MY hk
  refine region_via (fun a' W => Below u.heap.size u W ∧ ∃ q d e, a' = { tmps := #[Value.agg #[Value.int IntKind.i64 o0.id, Value.int IntKind.i64 o0.item, Value.int IntKind.i64 o0.qty, Value.int IntKind.i64 o0.client, Value.int IntKind.i64 o0.price, Value.slice a0 o0.steps.length cap0], Value.bool a1, Value.agg #[Value.bool x2, Value.bool y2], Value.int IntKind.i64 (k : Int), Value.pointer (some { block := w.heap.size, off := 0 }), undef, Value.pointer (some { block := w.heap.size + 1, off := 0 }), undef, Value.bool false, Value.int IntKind.i64 (o0.steps.length : Int), Value.pointer (some { block := q, off := 0 }), undef, undef, undef, undef, undef, undef, Value.pointer (some { block := w.heap.size, off := 5 }), Value.slice a0 o0.steps.length cap0, Value.int IntKind.i64 (o0.steps.length : Int), Value.bool false, Value.bool false, Value.agg #[Value.int IntKind.i64 o0.id, Value.int IntKind.i64 o0.item, Value.int IntKind.i64 o0.qty, Value.int IntKind.i64 o0.client, Value.int IntKind.i64 o0.price, Value.slice a0 o0.steps.length cap0], Value.bool true, Value.bool false, Value.bool false, undef, Value.pointer (some { block := w.heap.size, off := 5 }), Value.slice a0 o0.steps.length cap0, Value.int IntKind.i64 (o0.steps.length : Int), Value.int IntKind.i64 a3, Value.int IntKind.u64 (IntKind.u64.wrap a3), Value.int IntKind.i64 (o0.steps.length : Int), Value.int IntKind.i64 ((o0.steps.length : Int) + 1), Value.int IntKind.u64 ((o0.steps.length : Int) + 1), Value.int IntKind.u64 ((IntKind.u64.wrap a3).tmod ((o0.steps.length : Int) + 1)), Value.int IntKind.i64 (k : Int), Value.int IntKind.i64 (o0.steps.length : Int), Value.slice (some { block := d, off := 0 }) o0.steps.length o0.steps.length, Value.int IntKind.i64 (o0.steps.length : Int), Value.slice (some { block := e, off := 0 }) o0.steps.length o0.steps.length, Value.bool a1, Value.bool a1, Value.bool (!a1), Value.agg #[Value.bool x2, Value.bool y2], Value.agg #[Value.slice (some { block := d, off := 0 }) o0.steps.length o0.steps.length, Value.slice (some { block := e, off := 0 }) o0.steps.length o0.steps.length, Value.bool true, Value.bool a1, Value.bool (!a1), Value.bool x2, Value.bool y2, Value.bool false, Value.bool false, Value.bool false, Value.bool false], undef, undef, undef, undef, undef, undef, undef, undef, undef, undef, undef, undef, undef, undef, undef, undef, undef, undef, undef, undef, undef, undef, undef, undef, undef, undef, undef, undef, undef, undef, undef, undef, undef, undef, undef, undef, undef, undef, undef, undef, undef, undef, undef, undef, undef, undef, undef, undef, undef, undef, undef, undef, undef, undef, undef, undef, undef, undef, undef, undef, undef, undef, undef, undef, undef, undef, undef, undef, undef, undef, undef, undef, undef, undef, undef, undef, undef, undef, undef, undef, undef, undef, undef, undef, undef, undef, undef, undef, undef, undef, undef, undef, undef, undef, undef, undef, undef, undef, undef, undef, undef, undef, undef, undef, undef, undef, undef, undef, undef, undef, undef, undef, undef, undef, undef], defers := [] } ∧ Fl w w.heap.size q d e o0 a0 cap0 (tellF o0.steps.length a1 x2 y2 k 0) o0.steps.length W) ?_ ?_
  · go_region_held3 (fun w' => w'.cell? ⟨w.heap.size + 1, 0, none⟩ = some (.bool x2) ∧ w'.cell? ⟨w.heap.size + 1, 1, none⟩ = some (.bool y2)) (refine ⟨?_, ?_⟩ <;> (repeat' first | assumption | refine cellDr ?_ | refine cellAl ?_)) (fail)
    all_goals refine ⟨rfl, ((((Below.refl _ _).alloc (Nat.le_refl _) _).alloc (by simp) _).alloc (by simp; omega) _).drew, ?_⟩
    all_goals first
      | exact ⟨_, _, _, rfl, flg_deq (tellF o0.steps.length a1 x2 y2 k 0) z0 z1 HR HST.out HLN.out hn3⟩
      | exact ⟨_, _, _, rfl, flg_dqe (tellF o0.steps.length a1 x2 y2 k 0) z0 z1 HR HST.out HLN.out hn3⟩
      | exact ⟨_, _, _, rfl, flg_edq (tellF o0.steps.length a1 x2 y2 k 0) z0 z1 HR HST.out HLN.out hn3⟩
      | exact ⟨_, _, _, rfl, flg_eqd (tellF o0.steps.length a1 x2 y2 k 0) z0 z1 HR HST.out HLN.out hn3⟩
      | exact ⟨_, _, _, rfl, flg_qde (tellF o0.steps.length a1 x2 y2 k 0) z0 z1 HR HST.out HLN.out hn3⟩
      | exact ⟨_, _, _, rfl, flg_qed (tellF o0.steps.length a1 x2 y2 k 0) z0 z1 HR HST.out HLN.out hn3⟩
  · rintro a' W ⟨hBW, q, d, e, rfl, HL⟩
    replace hD := keepB hD hBW
    clear d0 d1 d2 d3 d4 d5 hmk dd0 dd1 z0 z1 HDD
    cases a1
    · go_wp2_with fail
      go_loopw [47] (fun i wr => ∃ j : Nat, i = .int .i64 j ∧ j ≤ o0.steps.length ∧ Hid (Fl w w.heap.size q d e o0 a0 cap0 (tellF o0.steps.length false x2 y2 k j) o0.steps.length wr) ∧ Hid (wr.heap[w.heap.size + 1]? = some (.cells #[.bool x2, .bool y2] 26 (0, 0)))) (fun i _ => o0.steps.length - (intOf i).toNat)
      case atStart => exact ⟨0, rfl, Nat.zero_le _, HL, hD⟩
      case round =>
        clear HL hD
        obtain ⟨j, rfl, hj, HJ, HA⟩ := hrel
        have HL := HJ.out
        obtain ⟨⟨d0, d1, d2, d3, d4, d5⟩, e0, e1, e2, e3, e4, e5, e6, e7, e8, e9, e10⟩ := HL.cells
        by_cases hlt : j < o0.steps.length
        · have hjn := hlt
          have c0 := HL.cellD (tell_get false x2 y2 hn3 hjn).1
          have c1 := HL.cellE (tell_get false x2 y2 hn3 hjn).2
          have z0 := HL.frzD j
          have z1 := HL.frzE j
          have n1 := HL.ne
          have n2 := HL.ne.symm
          have n3 := HL.far.1
          have n4 := HL.far.2
          have n5 := HL.far.1.symm
          have n6 := HL.far.2.symm
          have HDB := hide HL.db
          have HSD := hide (HL.setD j true).eb
          have q2 : (j : Int) < (o0.steps.length : Int) := by omega
          by_cases hkj : k ≤ j
          · have q3 : (j : Int) ≥ (k : Int) := by omega
            have HS := (HL.setD j true).setE j true
            have HE : Hid (Fl w w.heap.size q d e o0 a0 cap0 (tellF o0.steps.length false x2 y2 k (j + 1)) o0.steps.length ((wr.setCell ⟨d, j, none⟩ (.bool true)).setCell ⟨e, j, none⟩ (.bool true))) := by
              show Fl _ _ _ _ _ _ _ _ _ _ _
              rw [← tell_set false x2 y2 hn3 hjn hkn]
              rw [decide_eq_true hkj]
              exact HS
            clear HS HL
            go_wp2
            go_roundw
            case rel => exact ⟨j + 1, by go_num, by omega, HE, hide (off_type (off_type HA.out HDB.out (by decide)) (HSD.out) (by decide))⟩
            case measure => simp [intOf]; omega
          · have q3 : ¬ (j : Int) ≥ (k : Int) := by omega
            have q4 : decide ((j : Int) ≥ (k : Int)) = false := by simp; omega
            have HS := (HL.setD j true).setE j false
            have HE : Hid (Fl w w.heap.size q d e o0 a0 cap0 (tellF o0.steps.length false x2 y2 k (j + 1)) o0.steps.length ((wr.setCell ⟨d, j, none⟩ (.bool true)).setCell ⟨e, j, none⟩ (.bool false))) := by
              show Fl _ _ _ _ _ _ _ _ _ _ _
              rw [← tell_set false x2 y2 hn3 hjn hkn]
              rw [decide_eq_false hkj]
              exact HS
            clear HS HL
            go_wp2
            go_roundw
            case rel => exact ⟨j + 1, by go_num, by omega, HE, hide (off_type (off_type HA.out HDB.out (by decide)) (HSD.out) (by decide))⟩
            case measure => simp [intOf]; omega
        · have q2 : ¬ (j : Int) < (o0.steps.length : Int) := by omega
          obtain rfl : j = o0.steps.length := by omega
          have CN := HL.next
          rw [tell_next false x2 y2 HMY.out hkn] at CN
          go_wp2_with fail
          refine CN.mono ?_
          rintro e' u1 ⟨av, cv, rfl, hlc, -, hrow, hb⟩
          have HM := hide (row_mgs hrow)
          have HL2 := hide (HL.on hb)
          have HA2 := hide (keepB HA.out hb)
          clear hb hrow CN d0 d1 d2 d3 d4 d5 e0 e1 e2 e3 e4 e5 e6 e7 e8 e9 e10 HL
          have HLE := hide (tell_len o0 false x2 y2 k)
          obtain ⟨L, hL⟩ : ∃ L, tellL o0 false x2 y2 k = L := ⟨_, rfl⟩
          rw [hL] at HM HLE ⊢
          have HLL := hide hL
          clear hL hlc
          go_wp2_with fail
          go_loopw [12, 70] (fun tv i wr => ∃ j : Nat, i = .int .i64 j ∧ j ≤ L.length ∧ tv = .int .i64 (cntT L j : Nat) ∧ Hid (Below u1.heap.size u1 wr)) (fun _ i _ => L.length - (intOf i).toNat)
          case atStart => exact ⟨0, rfl, Nat.zero_le _, rfl, Below.refl _ _⟩
          case round =>
            obtain ⟨i, rfl, hi, rfl, HB⟩ := hrel
            have hl3 := HLE.out
            by_cases hil : i < L.length
            · obtain ⟨m, hm⟩ : ∃ m, L[i]? = some m := ⟨_, List.getElem?_eq_getElem hil⟩
              have HCN := hide (cnt_next hm)
              have hct : cntT L i ≤ 3 := by unfold cntT; have h1 := List.length_filter_le (fun m : Mg => decide (m.k = 9 ∨ m.k = 10)) (L.take i); have h2 := List.length_take_le i L; omega
              obtain ⟨tc, htc⟩ : ∃ tc, cntT L i = tc := ⟨_, rfl⟩
              rw [htc] at HCN hct ⊢
              clear htc
              obtain ⟨b, off, rfl, p0, p1, p2, p3, p4, p5, p6⟩ := (HM.out.below HB.out).get hm
              have q5 : (i : Int) < (L.length : Int) := by omega
              have HL := HL2.out.on HB.out
              have hD := keepB HA2.out HB.out
              have dd0 : wr.cell? ⟨w.heap.size + 1, 0, none⟩ = some (.bool x2) := by rw [cell_of hD]; rfl
              have dd1 : wr.cell? ⟨w.heap.size + 1, 1, none⟩ = some (.bool y2) := by rw [cell_of hD]; rfl
              have b1 := (Array.getElem?_eq_some_iff.1 hD).1
              have b2 := (Array.getElem?_eq_some_iff.1 HL.ob).1
              obtain ⟨⟨d0, d1, d2, d3, d4, d5⟩, e0, e1, e2, e3, e4, e5, e6, e7, e8, e9, e10⟩ := HL.cells
              rcases tell_mem (show (tellL o0 false x2 y2 k)[i]? = some m by rw [HLL.out]; exact hm) with ⟨rfl, hx⟩ | ⟨rfl, hx⟩ | ⟨rfl, hx⟩ | ⟨rfl, hx, hk0⟩
              · subst hx
                replace p0 : wr.cell? ⟨b, off + i * 7, none⟩ = some (.int .i64 10) := p0
                replace p1 : wr.cell? ⟨b, off + i * 7 + 1, none⟩ = some (.int .i64 0) := p1
                replace p2 : wr.cell? ⟨b, off + i * 7 + 2, none⟩ = some (.int .i64 1) := p2
                replace p3 : wr.cell? ⟨b, off + i * 7 + 3, none⟩ = some (.int .i64 o0.id) := p3
                replace p4 : wr.cell? ⟨b, off + i * 7 + 4, none⟩ = some (.int .i64 0) := p4
                replace p5 : wr.cell? ⟨b, off + i * 7 + 5, none⟩ = some (.int .i64 0) := p5
                replace p6 : wr.cell? ⟨b, off + i * 7 + 6, none⟩ = some (.int .i64 0) := p6
                rw [if_pos (show (msgM o0 (if false = true then 9 else 10) 1).k = 9 ∨ (msgM o0 (if false = true then 9 else 10) 1).k = 10 from .inr rfl)] at HCN
                have HBN : Hid (Below u1.heap.size u1 (wr.alloc (.cells #[.int .i64 10, .int .i64 0, .int .i64 1, .int .i64 o0.id, .int .i64 0, .int .i64 0, .int .i64 0] 43))) := HB.out.alloc HB.out.size _
                clear hm HL hD
                go_wp2
                go_roundw
                case rel => exact ⟨i + 1, by go_num, by omega, by rw [HCN.out]; go_num, HBN⟩
                case measure => simp [intOf]; omega
              · subst hx
                replace p0 : wr.cell? ⟨b, off + i * 7, none⟩ = some (.int .i64 10) := p0
                replace p1 : wr.cell? ⟨b, off + i * 7 + 1, none⟩ = some (.int .i64 0) := p1
                replace p2 : wr.cell? ⟨b, off + i * 7 + 2, none⟩ = some (.int .i64 2) := p2
                replace p3 : wr.cell? ⟨b, off + i * 7 + 3, none⟩ = some (.int .i64 o0.id) := p3
                replace p4 : wr.cell? ⟨b, off + i * 7 + 4, none⟩ = some (.int .i64 0) := p4
                replace p5 : wr.cell? ⟨b, off + i * 7 + 5, none⟩ = some (.int .i64 0) := p5
                replace p6 : wr.cell? ⟨b, off + i * 7 + 6, none⟩ = some (.int .i64 0) := p6
                rw [if_pos (show (msgM o0 (if false = true then 9 else 10) 2).k = 9 ∨ (msgM o0 (if false = true then 9 else 10) 2).k = 10 from .inr rfl)] at HCN
                have HBN : Hid (Below u1.heap.size u1 (wr.alloc (.cells #[.int .i64 10, .int .i64 0, .int .i64 2, .int .i64 o0.id, .int .i64 0, .int .i64 0, .int .i64 0] 43))) := HB.out.alloc HB.out.size _
                clear hm HL hD
                go_wp2
                go_roundw
                case rel => exact ⟨i + 1, by go_num, by omega, by rw [HCN.out]; go_num, HBN⟩
                case measure => simp [intOf]; omega
              · cases hx
              · clear hx
                obtain ⟨k', rfl⟩ : ∃ k', k = k' + 1 := ⟨k - 1, by omega⟩
                have hkl : k' < o0.steps.length := by omega
                obtain ⟨sb, soff, rfl, s0, s1⟩ := (HL.st.below HL.bel).at hkl
                replace p0 : wr.cell? ⟨b, off + i * 7, none⟩ = some (.int .i64 4) := p0
                replace p1 : wr.cell? ⟨b, off + i * 7 + 1, none⟩ = some (.int .i64 0) := p1
                replace p2 : wr.cell? ⟨b, off + i * 7 + 2, none⟩ = some (.int .i64 (stAt o0.steps k').1) := p2
                replace p3 : wr.cell? ⟨b, off + i * 7 + 3, none⟩ = some (.int .i64 o0.id) := p3
                replace p4 : wr.cell? ⟨b, off + i * 7 + 4, none⟩ = some (.int .i64 (k' : Int)) := p4
                replace p5 : wr.cell? ⟨b, off + i * 7 + 5, none⟩ = some (.int .i64 0) := p5
                replace p6 : wr.cell? ⟨b, off + i * 7 + 6, none⟩ = some (.int .i64 0) := p6
                rw [if_neg (show ¬ ((undoM o0 (k' + 1 - 1)).k = 9 ∨ (undoM o0 (k' + 1 - 1)).k = 10) by unfold undoM; simp)] at HCN
                have HBN : Hid (Below u1.heap.size u1 (wr.alloc (.cells #[.int .i64 4, .int .i64 0, .int .i64 (stAt o0.steps k').1, .int .i64 o0.id, .int .i64 (k' : Int), .int .i64 0, .int .i64 0] 43))) := HB.out.alloc HB.out.size _
                clear hm HL hD hk0
                have wk : wrap64 (k' : Int) = (k' : Int) := by unfold wrap64; omega
                have wk2 : IntKind.i64.wrap ((k' : Int) + 1 - 1) = (k' : Int) := by rw [IntKind.wrap_i64]; omega
                have wk3 : IntKind.i64.wrap (k' : Int) = (k' : Int) := by rw [IntKind.wrap_i64]; omega
                have g1 : ((k' : Int) != (k' : Int)) = false := by simp
                have g2 : ((stAt o0.steps k').1 != (stAt o0.steps k').1) = false := by simp
                have g3 : (((k' + 1 : Nat) : Int) == 0) = false := by simp; omega
                have g4 : (((k' : Int) + 1) == 0) = false := by simp; omega
                have g5 : (k' : Int) < (o0.steps.length : Int) := by omega
                have b3 : sb < wr.heap.size := World.block_lt_of_cell? _ _ s0
                go_wp2_with fail
                go_quiet (fail)
                go_wp2
                go_roundw
                case rel => exact ⟨i + 1, by go_num, by omega, by rw [HCN.out]; rfl, belM HBN.out _⟩
                case measure => simp [intOf]; omega
            · have q5 : ¬ (i : Int) < (L.length : Int) := by omega
              obtain rfl : i = L.length := by omega
              have HTT := hide (tell_all o0 false x2 y2 k)
              rw [HLL.out] at HTT
              have hD := keepB HA2.out HB.out
              have dd0 : wr.cell? ⟨w.heap.size + 1, 0, none⟩ = some (.bool x2) := by rw [cell_of hD]; rfl
              have dd1 : wr.cell? ⟨w.heap.size + 1, 1, none⟩ = some (.bool y2) := by rw [cell_of hD]; rfl
              obtain ⟨tc, htc⟩ : ∃ tc, cntT L L.length = tc := ⟨_, rfl⟩
              rw [htc] at HTT ⊢
              have HB3 := hide (bel_on' HL2.out.bel HB.out)
              clear htc hD
              have ix0 : ∀ W, (Instr.index 26 (.agg #[.bool x2, .bool y2]) (.int .i64 0)).run Try.prog W = .ok (.bool x2) W := fun W => by kernel_rfl
              have ix1 : ∀ W, (Instr.index 26 (.agg #[.bool x2, .bool y2]) (.int .i64 1)).run Try.prog W = .ok (.bool y2) W := fun W => by kernel_rfl
              have htc : tc ≤ 2 := by have := HTT.out; omega
              go_wp2_with fail
              obtain ⟨wz, hwz⟩ : ∃ wz, wz = wr := ⟨_, rfl⟩
              rw [← hwz] at HB3 ⊢
              clear hwz dd0 dd1 HB
              go_loopw [12, 149] (fun tv i wy => ∃ j t : Nat, i = .int .i64 j ∧ j ≤ 2 ∧ tv = .int .i64 t ∧ Hid (t = tc + ((if x2 = true ∧ 0 < j then 1 else 0) + (if y2 = true ∧ 1 < j then 1 else 0))) ∧ t ≤ 4 ∧ wy = wz) (fun _ i _ => 2 - (intOf i).toNat)
              case atStart => exact ⟨0, tc, rfl, by omega, rfl, by show _ = _; simp, by omega, rfl⟩
              case round =>
                obtain ⟨j, t, rfl, hj, rfl, HT, ht4, rfl⟩ := hrel
                obtain rfl | rfl | rfl : j = 0 ∨ j = 1 ∨ j = 2 := by omega
                · cases x2
                  · go_wp2
                    go_roundw
                    case rel => exact ⟨1, t, by go_num, by omega, by rfl, by show _ = _; rw [HT.out]; simp, by omega, by trivial⟩
                    case measure => simp [intOf]
                  · go_wp2
                    go_roundw
                    case rel => exact ⟨1, t + 1, by go_num, by omega, by go_num, by show _ = _; rw [HT.out]; simp, by have := HT.out; simp at this; omega, by trivial⟩
                    case measure => simp [intOf]
                · cases y2
                  · go_wp2
                    go_roundw
                    case rel => exact ⟨2, t, by go_num, by omega, by rfl, by show _ = _; rw [HT.out]; simp, by omega, by trivial⟩
                    case measure => simp [intOf]
                  · go_wp2
                    go_roundw
                    case rel => exact ⟨2, t + 1, by go_num, by omega, by go_num, by show _ = _; rw [HT.out]; simp; omega, by have := HT.out; simp at this; split at this <;> omega, by trivial⟩
                    case measure => simp [intOf]
                · have ht2 : t = 2 := by
                    have h1 := HT.out
                    have h2 := HTT.out
                    revert h1 h2
                    cases x2 <;> cases y2 <;> simp <;> omega
                  subst ht2
                  go_wp2_with (go_at_call 10; refine (gawake_any _).mono ?_; rintro e' u3 ⟨rfl, hb⟩; have HB4 := hide (bel_on' HB3.out hb))
                  go_ret
                  exact ⟨rfl, HB4.out⟩
    · go_wp2_with fail
      go_loopw [47] (fun i wr => ∃ j : Nat, i = .int .i64 j ∧ j ≤ o0.steps.length ∧ Hid (Fl w w.heap.size q d e o0 a0 cap0 (tellF o0.steps.length true x2 y2 k j) o0.steps.length wr) ∧ Hid (wr.heap[w.heap.size + 1]? = some (.cells #[.bool x2, .bool y2] 26 (0, 0)))) (fun i _ => o0.steps.length - (intOf i).toNat)
      case atStart => exact ⟨0, rfl, Nat.zero_le _, HL, hD⟩
      case round =>
        clear HL hD
        obtain ⟨j, rfl, hj, HJ, HA⟩ := hrel
        have HL := HJ.out
        obtain ⟨⟨d0, d1, d2, d3, d4, d5⟩, e0, e1, e2, e3, e4, e5, e6, e7, e8, e9, e10⟩ := HL.cells
        by_cases hlt : j < o0.steps.length
        · have hjn := hlt
          have c0 := HL.cellD (tell_get true x2 y2 hn3 hjn).1
          have c1 := HL.cellE (tell_get true x2 y2 hn3 hjn).2
          have z0 := HL.frzD j
          have z1 := HL.frzE j
          have n1 := HL.ne
          have n2 := HL.ne.symm
          have n3 := HL.far.1
          have n4 := HL.far.2
          have n5 := HL.far.1.symm
          have n6 := HL.far.2.symm
          have HDB := hide HL.db
          have HSD := hide (HL.setD j true).eb
          have q2 : (j : Int) < (o0.steps.length : Int) := by omega
          have HS := (HL.setD j true).setE j false
          have HE : Hid (Fl w w.heap.size q d e o0 a0 cap0 (tellF o0.steps.length true x2 y2 k (j + 1)) o0.steps.length ((wr.setCell ⟨d, j, none⟩ (.bool true)).setCell ⟨e, j, none⟩ (.bool false))) := by
            show Fl _ _ _ _ _ _ _ _ _ _ _
            rw [← tell_set true x2 y2 hn3 hjn hkn]
            show Fl _ _ _ _ _ _ _ _ (_) _ _
            exact HS
          clear HS HL
          go_wp2
          go_roundw
          case rel => exact ⟨j + 1, by go_num, by omega, HE, hide (off_type (off_type HA.out HDB.out (by decide)) (HSD.out) (by decide))⟩
          case measure => simp [intOf]; omega
        · have q2 : ¬ (j : Int) < (o0.steps.length : Int) := by omega
          obtain rfl : j = o0.steps.length := by omega
          have CN := HL.next
          rw [tell_next true x2 y2 HMY.out hkn] at CN
          go_wp2_with fail
          refine CN.mono ?_
          rintro e' u1 ⟨av, cv, rfl, hlc, -, hrow, hb⟩
          have HM := hide (row_mgs hrow)
          have HL2 := hide (HL.on hb)
          have HA2 := hide (keepB HA.out hb)
          clear hb hrow CN d0 d1 d2 d3 d4 d5 e0 e1 e2 e3 e4 e5 e6 e7 e8 e9 e10 HL
          have HLE := hide (tell_len o0 true x2 y2 k)
          obtain ⟨L, hL⟩ : ∃ L, tellL o0 true x2 y2 k = L := ⟨_, rfl⟩
          rw [hL] at HM HLE ⊢
          have HLL := hide hL
          clear hL hlc
          go_wp2_with fail
          go_loopw [12, 70] (fun tv i wr => ∃ j : Nat, i = .int .i64 j ∧ j ≤ L.length ∧ tv = .int .i64 (cntT L j : Nat) ∧ Hid (Below u1.heap.size u1 wr)) (fun _ i _ => L.length - (intOf i).toNat)
          case atStart => exact ⟨0, rfl, Nat.zero_le _, rfl, Below.refl _ _⟩
          case round =>
            obtain ⟨i, rfl, hi, rfl, HB⟩ := hrel
            have hl3 := HLE.out
            by_cases hil : i < L.length
            · obtain ⟨m, hm⟩ : ∃ m, L[i]? = some m := ⟨_, List.getElem?_eq_getElem hil⟩
              have HCN := hide (cnt_next hm)
              have hct : cntT L i ≤ 3 := by unfold cntT; have h1 := List.length_filter_le (fun m : Mg => decide (m.k = 9 ∨ m.k = 10)) (L.take i); have h2 := List.length_take_le i L; omega
              obtain ⟨tc, htc⟩ : ∃ tc, cntT L i = tc := ⟨_, rfl⟩
              rw [htc] at HCN hct ⊢
              clear htc
              obtain ⟨b, off, rfl, p0, p1, p2, p3, p4, p5, p6⟩ := (HM.out.below HB.out).get hm
              have q5 : (i : Int) < (L.length : Int) := by omega
              have HL := HL2.out.on HB.out
              have hD := keepB HA2.out HB.out
              have dd0 : wr.cell? ⟨w.heap.size + 1, 0, none⟩ = some (.bool x2) := by rw [cell_of hD]; rfl
              have dd1 : wr.cell? ⟨w.heap.size + 1, 1, none⟩ = some (.bool y2) := by rw [cell_of hD]; rfl
              have b1 := (Array.getElem?_eq_some_iff.1 hD).1
              have b2 := (Array.getElem?_eq_some_iff.1 HL.ob).1
              obtain ⟨⟨d0, d1, d2, d3, d4, d5⟩, e0, e1, e2, e3, e4, e5, e6, e7, e8, e9, e10⟩ := HL.cells
              rcases tell_mem (show (tellL o0 true x2 y2 k)[i]? = some m by rw [HLL.out]; exact hm) with ⟨rfl, hx⟩ | ⟨rfl, hx⟩ | ⟨rfl, hx⟩ | ⟨rfl, hx, hk0⟩
              · subst hx
                replace p0 : wr.cell? ⟨b, off + i * 7, none⟩ = some (.int .i64 9) := p0
                replace p1 : wr.cell? ⟨b, off + i * 7 + 1, none⟩ = some (.int .i64 0) := p1
                replace p2 : wr.cell? ⟨b, off + i * 7 + 2, none⟩ = some (.int .i64 1) := p2
                replace p3 : wr.cell? ⟨b, off + i * 7 + 3, none⟩ = some (.int .i64 o0.id) := p3
                replace p4 : wr.cell? ⟨b, off + i * 7 + 4, none⟩ = some (.int .i64 0) := p4
                replace p5 : wr.cell? ⟨b, off + i * 7 + 5, none⟩ = some (.int .i64 0) := p5
                replace p6 : wr.cell? ⟨b, off + i * 7 + 6, none⟩ = some (.int .i64 0) := p6
                rw [if_pos (show (msgM o0 (if true = true then 9 else 10) 1).k = 9 ∨ (msgM o0 (if true = true then 9 else 10) 1).k = 10 from .inl rfl)] at HCN
                have HBN : Hid (Below u1.heap.size u1 (wr.alloc (.cells #[.int .i64 9, .int .i64 0, .int .i64 1, .int .i64 o0.id, .int .i64 0, .int .i64 0, .int .i64 0] 43))) := HB.out.alloc HB.out.size _
                clear hm HL hD
                go_wp2
                go_roundw
                case rel => exact ⟨i + 1, by go_num, by omega, by rw [HCN.out]; go_num, HBN⟩
                case measure => simp [intOf]; omega
              · subst hx
                replace p0 : wr.cell? ⟨b, off + i * 7, none⟩ = some (.int .i64 9) := p0
                replace p1 : wr.cell? ⟨b, off + i * 7 + 1, none⟩ = some (.int .i64 0) := p1
                replace p2 : wr.cell? ⟨b, off + i * 7 + 2, none⟩ = some (.int .i64 2) := p2
                replace p3 : wr.cell? ⟨b, off + i * 7 + 3, none⟩ = some (.int .i64 o0.id) := p3
                replace p4 : wr.cell? ⟨b, off + i * 7 + 4, none⟩ = some (.int .i64 0) := p4
                replace p5 : wr.cell? ⟨b, off + i * 7 + 5, none⟩ = some (.int .i64 0) := p5
                replace p6 : wr.cell? ⟨b, off + i * 7 + 6, none⟩ = some (.int .i64 0) := p6
                rw [if_pos (show (msgM o0 (if true = true then 9 else 10) 2).k = 9 ∨ (msgM o0 (if true = true then 9 else 10) 2).k = 10 from .inl rfl)] at HCN
                have HBN : Hid (Below u1.heap.size u1 (wr.alloc (.cells #[.int .i64 9, .int .i64 0, .int .i64 2, .int .i64 o0.id, .int .i64 0, .int .i64 0, .int .i64 0] 43))) := HB.out.alloc HB.out.size _
                clear hm HL hD
                go_wp2
                go_roundw
                case rel => exact ⟨i + 1, by go_num, by omega, by rw [HCN.out]; go_num, HBN⟩
                case measure => simp [intOf]; omega
              · clear hx
                replace p0 : wr.cell? ⟨b, off + i * 7, none⟩ = some (.int .i64 15) := p0
                replace p1 : wr.cell? ⟨b, off + i * 7 + 1, none⟩ = some (.int .i64 0) := p1
                replace p2 : wr.cell? ⟨b, off + i * 7 + 2, none⟩ = some (.int .i64 3) := p2
                replace p3 : wr.cell? ⟨b, off + i * 7 + 3, none⟩ = some (.int .i64 o0.id) := p3
                replace p4 : wr.cell? ⟨b, off + i * 7 + 4, none⟩ = some (.int .i64 0) := p4
                replace p5 : wr.cell? ⟨b, off + i * 7 + 5, none⟩ = some (.int .i64 o0.item) := p5
                replace p6 : wr.cell? ⟨b, off + i * 7 + 6, none⟩ = some (.int .i64 o0.qty) := p6
                rw [if_neg (show ¬ ((shipM o0).k = 9 ∨ (shipM o0).k = 10) by unfold shipM; simp)] at HCN
                have HBN : Hid (Below u1.heap.size u1 (wr.alloc (.cells #[.int .i64 15, .int .i64 0, .int .i64 3, .int .i64 o0.id, .int .i64 0, .int .i64 o0.item, .int .i64 o0.qty] 43))) := HB.out.alloc HB.out.size _
                have g1 : (o0.item != o0.item) = false := by simp
                have g2 : (o0.qty != o0.qty) = false := by simp
                clear hm HL hD
                go_wp2
                go_roundw
                case rel => exact ⟨i + 1, by go_num, by omega, by rw [HCN.out]; rfl, HBN⟩
                case measure => simp [intOf]; omega
              · cases hx
            · have q5 : ¬ (i : Int) < (L.length : Int) := by omega
              obtain rfl : i = L.length := by omega
              have HTT := hide (tell_all o0 true x2 y2 k)
              rw [HLL.out] at HTT
              have hD := keepB HA2.out HB.out
              have dd0 : wr.cell? ⟨w.heap.size + 1, 0, none⟩ = some (.bool x2) := by rw [cell_of hD]; rfl
              have dd1 : wr.cell? ⟨w.heap.size + 1, 1, none⟩ = some (.bool y2) := by rw [cell_of hD]; rfl
              obtain ⟨tc, htc⟩ : ∃ tc, cntT L L.length = tc := ⟨_, rfl⟩
              rw [htc] at HTT ⊢
              have HB3 := hide (bel_on' HL2.out.bel HB.out)
              clear htc hD
              have ix0 : ∀ W, (Instr.index 26 (.agg #[.bool x2, .bool y2]) (.int .i64 0)).run Try.prog W = .ok (.bool x2) W := fun W => by kernel_rfl
              have ix1 : ∀ W, (Instr.index 26 (.agg #[.bool x2, .bool y2]) (.int .i64 1)).run Try.prog W = .ok (.bool y2) W := fun W => by kernel_rfl
              have htc : tc ≤ 2 := by have := HTT.out; omega
              go_wp2_with fail
              obtain ⟨wz, hwz⟩ : ∃ wz, wz = wr := ⟨_, rfl⟩
              rw [← hwz] at HB3 ⊢
              clear hwz dd0 dd1 HB
              go_loopw [12, 149] (fun tv i wy => ∃ j t : Nat, i = .int .i64 j ∧ j ≤ 2 ∧ tv = .int .i64 t ∧ Hid (t = tc + ((if x2 = true ∧ 0 < j then 1 else 0) + (if y2 = true ∧ 1 < j then 1 else 0))) ∧ t ≤ 4 ∧ wy = wz) (fun _ i _ => 2 - (intOf i).toNat)
              case atStart => exact ⟨0, tc, rfl, by omega, rfl, by show _ = _; simp, by omega, rfl⟩
              case round =>
                obtain ⟨j, t, rfl, hj, rfl, HT, ht4, rfl⟩ := hrel
                obtain rfl | rfl | rfl : j = 0 ∨ j = 1 ∨ j = 2 := by omega
                · cases x2
                  · go_wp2
                    go_roundw
                    case rel => exact ⟨1, t, by go_num, by omega, by rfl, by show _ = _; rw [HT.out]; simp, by omega, by trivial⟩
                    case measure => simp [intOf]
                  · go_wp2
                    go_roundw
                    case rel => exact ⟨1, t + 1, by go_num, by omega, by go_num, by show _ = _; rw [HT.out]; simp, by have := HT.out; simp at this; omega, by trivial⟩
                    case measure => simp [intOf]
                · cases y2
                  · go_wp2
                    go_roundw
                    case rel => exact ⟨2, t, by go_num, by omega, by rfl, by show _ = _; rw [HT.out]; simp, by omega, by trivial⟩
                    case measure => simp [intOf]
                  · go_wp2
                    go_roundw
                    case rel => exact ⟨2, t + 1, by go_num, by omega, by go_num, by show _ = _; rw [HT.out]; simp; omega, by have := HT.out; simp at this; split at this <;> omega, by trivial⟩
                    case measure => simp [intOf]
                · have ht2 : t = 2 := by
                    have h1 := HT.out
                    have h2 := HTT.out
                    revert h1 h2
                    cases x2 <;> cases y2 <;> simp <;> omega
                  subst ht2
                  go_wp2_with (go_at_call 10; refine (gawake_any _).mono ?_; rintro e' u3 ⟨rfl, hb⟩; have HB4 := hide (bel_on' HB3.out hb))
                  go_ret
                  exact ⟨rfl, HB4.out⟩
end Go.Proofs.Ytinbmnefdhkdfaa
