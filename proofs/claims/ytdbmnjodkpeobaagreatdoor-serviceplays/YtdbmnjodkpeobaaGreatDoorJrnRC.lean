/-
  Contracts: the reference's Crash and Recover.
-/
import Derived.Test.YtdbmnjodkpeobaaGreatDoorJrnRT
import Derived.Laws.AppendOwnNone
namespace Go.Proofs.YtdbmnjodkpeobaaGreatDoor
open Go.ChangeShapes Go.WideShapes Go.ChangeAt Go.RowKit

/-- append([]string(nil), x...). -/
theorem append_strs_nil {w : World} {ops : Array Oper} {rest : List Oper} {o : Oper} {a : Act} {Q : Exit → Act → World → Prop} (hgd : o.guard = none) (s x : Operand)
    (ho : o.op = .call { callee := .builtin .append, args := #[s, x], argTypes := #[45, 45] })
    (base : Nat) (hs : a.eval s = .slice none 0 0)
    (ao : Option Addr) (m c : Nat) (l : List ByteArray) (hm : l.length = m) (hx : a.eval x = .slice ao m c) (hn : ao = none → m = 0 ∧ c = 0) (hl : Strs w ao l) (hb : m ≤ 8796093022208) (hbase : base ≤ w.heap.size)
    (h : ∀ a' c' w', w'.ownsRow base 9 1 (.slice a' m c') m (l.map Value.string) → w.grownBy w' none → ((Value.slice a' m c').ownBlock = none ∨ (Value.slice a' m c').ownBlock = some w.heap.size) → wpList Tryz.prog ops Q rest (a.put o.dst (.slice a' m c')) w') : wpList Tryz.prog ops Q (o :: rest) a w := by
  obtain ⟨i0, hi, hz0, hz1, hz2⟩ := info_parts Tryz.infoStr
  have hown : w.ownsRow base 9 1 (.slice none 0 0) 0 (([] : List ByteArray).map Value.string) := ⟨rfl, .inl ⟨rfl, rfl⟩⟩
  cases ao with
  | none =>
    obtain ⟨h0, rfl⟩ := hn rfl
    have e : l = [] := List.eq_nil_of_length_eq_zero (by omega)
    subst e
    subst h0
    exact wpList_append_own_none hgd s x 45 ho base 9 i0 1 Tryz.underlying45 hi _ 0 _ hs hown hx (h none 0 w hown ⟨rfl, rfl, rfl, Nat.le_refl _, fun _ _ _ => rfl⟩ (.inl rfl))
  | some ad =>
    refine append_strs_at hgd s x ho base (.slice none 0 0) 0 [] hs hown ad m c l hm hx hl (by omega) hbase ?_
    intro v' w' h1 h2 h3
    rw [Nat.zero_add, List.nil_append] at h1
    obtain ⟨a', c', rfl, -⟩ := row_slice h1
    exact h a' c' w' h1 h2 h3

theorem Off.fresh {p : Nat} {v v' : Value} {w w' : World} (g : w.grownBy w' none) (hat : v'.ownBlock = none ∨ v'.ownBlock = some w.heap.size) : Off p v v' w w' :=
  ⟨⟨g.os, g.tape, g.output, g.size⟩, fun k hk _ hv => ⟨g.block k hk (by simp), fun e => by
    rcases hat with h | h
    · rw [h] at e; cases e
    · rw [h] at e; simp at e; omega⟩⟩
theorem Off.sameAs {p : Nat} {v v' v'' : Value} {w w' : World} (h : Off p v v' w w') (e : v''.ownBlock = v'.ownBlock) : Off p v v'' w w' := by
  obtain ⟨h1, h2⟩ := h
  exact ⟨h1, fun k hk hp hv => by rw [e]; exact h2 k hk hp hv⟩
theorem grown_none {w w' : World} (g : w.grownBy w' none) : Below w.heap.size w w' := ⟨g.os, g.tape, g.output, g.size, fun k hk => g.block k hk (by simp)⟩
theorem row_take {w : World} {B : Nat} {a : Option Addr} {c : Nat} {L : List ByteArray} (h : w.ownsRow B 9 1 (.slice a L.length c) L.length (L.map Value.string)) {K : Nat} (hK : K ≤ L.length) :
    w.ownsRow B 9 1 (.slice a K c) (L.take K).length ((L.take K).map Value.string) := by
  have hl : (L.take K).length = K := by simp; omega
  rw [hl]
  refine ⟨by simp; omega, ?_⟩
  rcases h.2 with ⟨e, h0⟩ | ⟨g, cap, cur, e, hb, hc, h1, h2, h3, h4⟩
  · simp only [Value.slice.injEq] at e
    obtain ⟨rfl, h0', rfl⟩ := e
    obtain rfl : K = 0 := by omega
    exact .inl ⟨rfl, rfl⟩
  · simp only [Value.slice.injEq] at e
    obtain ⟨rfl, _, rfl⟩ := e
    refine .inr ⟨g, c, cur, rfl, hb, hc, by omega, h2, h3, ?_⟩
    rw [List.map_take, ← h4, List.take_take, Nat.mul_one, Nat.mul_one, Nat.min_eq_left hK]
theorem row_none {w : World} {B : Nat} {a : Option Addr} {n c : Nat} {xs : List Value} {t : TypeId} {s : Nat} (h : w.ownsRow B t s (.slice a n c) n xs) : a = none → n = 0 ∧ c = 0 := fun e => by
  subst e
  rcases h.2 with ⟨e, h0⟩ | ⟨g, cap, cur, e, _⟩
  · cases e; exact ⟨h0, rfl⟩
  · cases e
theorem strs_take {w : World} {a : Option Addr} {L : List ByteArray} (h : Strs w a L) {K : Nat} (hK : K ≤ L.length) : Strs w a (L.take K) := by
  rcases h with rfl | ⟨b, off, e, hc⟩
  · exact .inl (by simp)
  · refine .inr ⟨b, off, e, fun i hi => ?_⟩
    have hi' : i < K := by simp at hi; omega
    rw [hc i (by omega)]
    simp [List.getD, hi']

namespace R
theorem crash_down {B : Nat} {w : World} {p : Nat} {v : Value} {room : Int} {L : List ByteArray} {sure : Nat} (h : Jr B w p v room L sure true) (stay torn : Int) :
    Calls Tryz.prog 26 #[.pointer (some ⟨p, 0, none⟩), .int .i64 stay, .int .i64 torn] w fun e w' => (∃ x, e = .returned x) ∧ Below w.heap.size w w' := by
  obtain ⟨⟨c0, c1, c2, c3⟩, f1, f2, f3⟩ := h.cells
  go_enter Tryz.func26, Tryz.ntmps26
  go_wp2
  refine bodyPost_ret (results_none rfl _ _ _) rfl ?_
  exact ⟨⟨_, rfl⟩, Below.refl _ _⟩

theorem Jr.stored {B : Nat} {w w' : World} {p : Nat} {v v' : Value} {room : Int} {L L' : List ByteArray} {sure : Nat} {down : Bool} (h : Jr B w p v room L sure down) (hp : w'.heap[p]? = w.heap[p]?) {n : Nat} (hn : L'.length = n) (o : w'.ownsRow B 9 1 v' n (L'.map Value.string))
    (hl : L'.length ≤ 4096) (hx : ∀ x ∈ L', 1 ≤ x.size ∧ x.size ≤ 63) : Jr B (w'.setCell ⟨p, 1, none⟩ v') p v' room L' sure down ∧ w'.cell? ⟨p, 1, none⟩ = some v ∧ w'.frozen? ⟨p, 1, none⟩ = false := by
  subst hn
  exact ⟨h.setRow hp o hl hx, by rw [cell_of (hp.trans h.1)]; rfl, frozen_of_row _ _ _ _ _ (hp.trans h.1)⟩
theorem fresh_ne {w : World} {p : Nat} {v : Value} (h : v.ownBlock = none ∨ v.ownBlock = some w.heap.size) (hp : p < w.heap.size) : v.ownBlock ≠ some p := fun e => by
  rcases h with h | h
  · rw [h] at e; cases e
  · rw [h] at e; simp at e; omega
theorem str_cell {w : World} {a : Option Addr} {L : List ByteArray} (h : Strs w a L) {K : Nat} (hK : K < L.length) : ∃ b off, a = some ⟨b, off, none⟩ ∧ w.cell? ⟨b, off + K, none⟩ = some (.string (L.getD K ByteArray.empty)) := by
  rcases h with rfl | ⟨b, off, e, hc⟩
  · simp at hK
  · exact ⟨b, off, e, hc K hK⟩

set_option maxRecDepth 100000 in
set_option maxHeartbeats 2000000 in
theorem crash_up {B : Nat} {w : World} {p : Nat} {v : Value} {room : Int} {L : List ByteArray} {sure : Nat} (h : Jr B w p v room L sure false) (hsu : sure ≤ L.length) (h2 : ∀ x ∈ L, 2 ≤ x.size) (stay torn : Int) :
    Calls Tryz.prog 26 #[.pointer (some ⟨p, 0, none⟩), .int .i64 stay, .int .i64 torn] w fun e w' => (∃ x, e = .returned x) ∧ ∃ v', Jr B w' p v' room (crashL L sure stay torn) sure true ∧ Off p v v' w w' := by
  obtain ⟨⟨c0, c1, c2, c3⟩, f1, f2, f3⟩ := h.cells
  obtain ⟨a, c, rfl, hc, hst⟩ := h.row
  obtain ⟨K, hK⟩ : ∃ K, keptN L sure stay = K := ⟨_, rfl⟩
  have hKl : K ≤ L.length := by rw [← hK]; unfold keptN; omega
  have hKi : (sure : Int) + max 0 (min stay ((L.length : Int) - (sure : Int))) = (K : Int) := by rw [← hK]; unfold keptN; omega
  have HJ1 := hide (h.setDown true)
  have HO1 := hide ((Off.refl p (.slice a L.length c) w).setCell 3 (.bool true))
  have hL4 : L.length ≤ 4096 := h.2.2.2.2.1
  have HZ : Hid (∀ x ∈ L, 1 ≤ x.size ∧ x.size ≤ 63) := h.2.2.2.2.2
  obtain ⟨M, hM⟩ : ∃ M, crashL L sure stay torn = M := ⟨_, rfl⟩
  rw [hM]
  unfold crashL at hM
  rw [hK] at hM
  have HM := hide hM
  have H2 := hide h2
  clear hK hM h2 h
  go_enter Tryz.func26, Tryz.ntmps26
  go_wp2_with fail
  obtain ⟨u1, hu1⟩ : ∃ u1, u1 = w.setCell ⟨p, 3, none⟩ (.bool true) := ⟨_, rfl⟩
  rw [← hu1] at HJ1 HO1 ⊢
  clear c0 c1 c2 c3 f1 f2 f3 hu1
  obtain ⟨⟨c0, c1, c2, c3⟩, f1, f2, f3⟩ := HJ1.out.cells
  go_quiet (fail)
  have HBD : Hid (Below u1.heap.size u1 (u1.drewN nq)) := belowN (Below.refl _ _) nq
  generalize u1.drewN nq = u2 at HBD ⊢
  have HJ2 := hide (HJ1.out.on HBD.out)
  have HO2 := hide (HO1.out.trans (Off.of_below HBD.out))
  clear c0 c1 c2 c3 f1 f2 f3 HBD HJ1 HO1
  obtain ⟨⟨c0, c1, c2, c3⟩, f1, f2, f3⟩ := HJ2.out.cells
  have hKc : (K : Int) ≤ (c : Int) := by omega
  have HN : Hid (a = none → K = 0 ∧ c = 0) := fun e => by have := row_none HJ2.out.2.2.1 e; omega
  have HS2 : Hid (Strs u2 a (L.take K)) := strs_take (by obtain ⟨a', c', e', _, hs'⟩ := HJ2.out.row; cases e'; exact hs') hKl
  have HTL : Hid ((L.take K).length = K) := by show _ = _; simp; omega
  by_cases hlt : K < L.length
  · have ql : (K : Int) < (L.length : Int) := by omega
    obtain ⟨b, off, rfl, cX⟩ := str_cell (by obtain ⟨a', c', e', _, hs'⟩ := HJ2.out.row; cases e'; exact hs') hlt
    obtain ⟨X, hX⟩ : ∃ X, L.getD K ByteArray.empty = X := ⟨_, rfl⟩
    have hXm : X ∈ L := by rw [← hX]; simp [List.getD, hlt]
    have hX2 := H2.out X hXm
    have hX6 := (HZ.out X hXm).2
    rw [hX] at cX
    have CX := hide cX
    have HMX : Hid (M = L.take K ++ (if tearN X torn = 0 then [] else [X.extract 0 (tearN X torn)])) := by show M = _; rw [← HM.out, if_neg (by omega), hX]
    clear cX hX hXm
    by_cases ht : torn > 0
    · obtain ⟨m, hm⟩ : ∃ m, tearN X torn = m := ⟨_, rfl⟩
      have hmi : min torn ((X.size : Int) - 1) = (m : Int) := by rw [← hm]; unfold tearN; omega
      have hm1 : 1 ≤ m := by omega
      have hm2 : m ≤ X.size := by omega
      have HY1 : Hid (1 ≤ (X.extract 0 m).size ∧ (X.extract 0 m).size ≤ 63) := by show _ ∧ _; simp; omega
      have HMY : Hid (M = L.take K ++ [X.extract 0 m]) := by show M = _; rw [HMX.out, hm, if_neg (by omega)]
      have HL3 : Hid ((L.take K ++ [X.extract 0 m]).length = K + 1) := by show _ = _; simp; omega
      have HX3 : Hid (∀ x ∈ L.take K ++ [X.extract 0 m], 1 ≤ x.size ∧ x.size ≤ 63) := fun x hx => by
        rcases List.mem_append.1 hx with hx | hx
        · exact HZ.out x (List.mem_of_mem_take hx)
        · rw [List.mem_singleton] at hx; subst hx; exact HY1.out
      clear hm
      go_wp2_with (first
        | (at_builtin; refine append_strs_nil rfl (.const (.slice none 0 0)) (.tmp 39) rfl B rfl (some ⟨b, off, none⟩) K c (L.take K) HTL.out rfl HN.out HS2.out ?hnn HJ2.out.low ?_; (case hnn => omega); intro a3 c3' w3 o3 g3 at3; have HJ3 := hide (HJ2.out.on (grown_none g3)); have HO3 := hide (HO2.out.trans (Off.fresh (p := p) (v := .slice (some ⟨b, off, none⟩) L.length c) (v' := .slice a3 K c3') g3 at3)); obtain ⟨⟨e0, e1, e2, e3⟩, g1, g2, g3'⟩ := HJ3.out.cells; have HR3 := hide o3; have HQ3 := hide (fresh_ne at3 HJ2.out.lt); have dX := cellL CX.out (grown_none g3); have HR4 := hide (HR3.out.alloc (.cells #[.string (X.extract 0 m)] 9)); have HJ4 := hide (HJ3.out.on ((Below.refl w3.heap.size w3).alloc (Nat.le_refl _) (.cells #[.string (X.extract 0 m)] 9))); have HO4 := hide (HO3.out.trans (Off.of_below ((Below.refl w3.heap.size w3).alloc (Nat.le_refl _) (.cells #[.string (X.extract 0 m)] 9)))); clear o3 g3 at3)
        | (at_builtin; refine append_strs_at rfl (.tmp 59) (.tmp 67) rfl B (.slice a3 K c3') K (L.take K) rfl HR4.out ⟨w3.heap.size, 0, none⟩ 1 1 [X.extract 0 m] rfl rfl (strs_one w3 _) ?hn2 HJ4.out.low ?_; (case hn2 => omega); intro v6 w6 o6 g6 at6; obtain ⟨a6, c6, rfl, -⟩ := row_slice o6; obtain ⟨h9, d9, k9⟩ := HJ4.out.stored (w' := w6) (g6.block p HJ4.out.lt (fun e => HQ3.out e.symm)) HL3.out o6 (by have := HL3.out; omega) HX3.out; have HF := hide h9; have HOF := hide ((HO4.out.trans (Off.grown g6 at6)).setCell 1 (.slice a6 (K + 1) c6)); clear h9 o6 g6 at6))
      go_end0
      exact ⟨⟨_, rfl⟩, _, by rw [HMY.out]; exact HF.out, HOF.out⟩
    · have HMY : Hid (M = L.take K) := by show M = _; rw [HMX.out, if_pos (by unfold tearN; omega), List.append_nil]
      go_wp2_with (first
        | (at_builtin; refine append_strs_nil rfl (.const (.slice none 0 0)) (.tmp 39) rfl B rfl (some ⟨b, off, none⟩) K c (L.take K) HTL.out rfl HN.out HS2.out ?hnn HJ2.out.low ?_; (case hnn => omega); intro a3 c3' w3 o3 g3 at3; have HJ3 := hide (HJ2.out.on (grown_none g3)); have HO3 := hide (HO2.out.trans (Off.fresh (p := p) (v := .slice (some ⟨b, off, none⟩) L.length c) (v' := .slice a3 K c3') g3 at3)); obtain ⟨⟨e0, e1, e2, e3⟩, g1, g2, g3'⟩ := HJ3.out.cells; obtain ⟨h9, -, -⟩ := HJ3.out.stored (w' := w3) rfl HTL.out o3 (by have := HTL.out; omega) (fun x hx => HZ.out x (List.mem_of_mem_take hx)); have HF := hide h9; have HOF := hide (HO3.out.setCell 1 (.slice a3 K c3')); clear h9; clear o3 g3 at3))
      go_end0
      exact ⟨⟨_, rfl⟩, _, by rw [HMY.out]; exact HF.out, HOF.out⟩
  · have ql : ¬ (K : Int) < (L.length : Int) := by omega
    have HMY : Hid (M = L.take K) := by show M = _; rw [← HM.out, if_pos (by omega), List.take_of_length_le (by omega)]
    go_wp2_with (first
      | (at_builtin; refine append_strs_nil rfl (.const (.slice none 0 0)) (.tmp 39) rfl B rfl a K c (L.take K) HTL.out rfl HN.out HS2.out ?hnn HJ2.out.low ?_; (case hnn => omega); intro a3 c3' w3 o3 g3 at3; have HJ3 := hide (HJ2.out.on (grown_none g3)); have HO3 := hide (HO2.out.trans (Off.fresh (p := p) (v := .slice a L.length c) (v' := .slice a3 K c3') g3 at3)); obtain ⟨⟨e0, e1, e2, e3⟩, g1, g2, g3'⟩ := HJ3.out.cells; obtain ⟨h9, -, -⟩ := HJ3.out.stored (w' := w3) rfl HTL.out o3 (by have := HTL.out; omega) (fun x hx => HZ.out x (List.mem_of_mem_take hx)); have HF := hide h9; have HOF := hide (HO3.out.setCell 1 (.slice a3 K c3')); clear h9; clear o3 g3 at3))
    go_end0
    exact ⟨⟨_, rfl⟩, _, by rw [HMY.out]; exact HF.out, HOF.out⟩

theorem recover_up {B : Nat} {w : World} {p : Nat} {v : Value} {room : Int} {L : List ByteArray} {sure : Nat} (h : Jr B w p v room L sure false) :
    Calls Tryz.prog 30 #[.pointer (some ⟨p, 0, none⟩)] w fun e w' => e = .returned (.int .i64 0) ∧ Below w.heap.size w w' := by
  obtain ⟨⟨c0, c1, c2, c3⟩, f1, f2, f3⟩ := h.cells
  go_enter Tryz.func30, Tryz.ntmps30
  go_wp2
  go_ret
  exact ⟨rfl, Below.refl _ _⟩

theorem Jr.recovered {B : Nat} {w : World} {p : Nat} {a : Option Addr} {c : Nat} {room : Int} {L : List ByteArray} {sure : Nat} (h : Jr B w p (.slice a L.length c) room L sure true) {K : Nat} (hK : K ≤ L.length) :
    Jr B (((w.setCell ⟨p, 1, none⟩ (.slice a K c)).setCell ⟨p, 2, none⟩ (.int .i64 K)).setCell ⟨p, 3, none⟩ (.bool false)) p (.slice a K c) room (L.take K) K false ∧
      Off p (.slice a L.length c) (.slice a K c) w (((w.setCell ⟨p, 1, none⟩ (.slice a K c)).setCell ⟨p, 2, none⟩ (.int .i64 K)).setCell ⟨p, 3, none⟩ (.bool false)) := by
  have h1 := ((h.setRow (w' := w) (L' := L.take K) (v' := .slice a K c) rfl (row_take h.2.2.1 hK) (by have := h.2.2.2.2.1; simp; omega) (fun x hx => h.2.2.2.2.2 x (List.mem_of_mem_take hx))).setSure K).setDown false
  exact ⟨h1, ((((Off.refl p (.slice a L.length c) w).setCell 1 _).setCell 2 _).setCell 3 _).sameAs (by cases a <;> rfl)⟩

set_option maxRecDepth 100000 in
set_option maxHeartbeats 2000000 in
theorem recover_down {w0 : World} (hg0 : Gl w0) {w : World} (hw : Below w0.heap.size w0 w) {B p : Nat} {v : Value} {room : Int} {L : List ByteArray} {sure : Nat} (h : Jr B w p v room L sure true) :
    Calls Tryz.prog 30 #[.pointer (some ⟨p, 0, none⟩)] w fun e w' => e = .returned (.int .i64 ((L.length : Int) - ((wholeD fun s => Classical.propDecidable (Ok s)) L : Int))) ∧ ∃ v', Jr B w' p v' room (L.take ((wholeD fun s => Classical.propDecidable (Ok s)) L)) ((wholeD fun s => Classical.propDecidable (Ok s)) L) false ∧ Off p v v' w w' := by
  obtain ⟨⟨c0, c1, c2, c3⟩, f1, f2, f3⟩ := h.cells
  obtain ⟨a, c, rfl, hc, -⟩ := h.row
  have A := rall_any hg0 hw h
  have HJ := hide h
  have hl4 : L.length ≤ 4096 := h.2.2.2.2.1
  have hwl := whole_le L
  obtain ⟨K, hK⟩ : ∃ K, (wholeD fun s => Classical.propDecidable (Ok s)) L = K := ⟨_, rfl⟩
  rw [hK] at hwl ⊢
  have HK := hide hK
  clear h hK
  go_enter Tryz.func30, Tryz.ntmps30
  go_wp2_with fail
  refine A.mono ?_
  rintro e u1 ⟨ys, a1, c1', rfl, hyl, -, -, hb1⟩
  rw [hyl, HK.out]
  have HJ1 := hide (HJ.out.on hb1)
  have HO1 := hide (Off.of_below (p := p) (v := .slice a L.length c) hb1)
  obtain ⟨hr1, hr2⟩ := HJ1.out.recovered hwl
  have HR1 := hide hr1
  have HR2 := hide (HO1.out.trans hr2)
  clear hb1 A hyl c0 c1 c2 c3 f1 f2 f3 hr1 hr2
  obtain ⟨⟨c0, c1, c2, c3⟩, f1, f2, f3⟩ := HJ1.out.cells
  have hKc : (K : Int) ≤ (c : Int) := by omega
  go_wp2
  go_ret
  exact ⟨rfl, _, HR1.out, HR2.out⟩
end R
end Go.Proofs.YtdbmnjodkpeobaaGreatDoor
