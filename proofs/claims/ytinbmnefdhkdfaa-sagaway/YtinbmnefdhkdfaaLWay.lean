/-
  SagaWay: whatever is answered, what it needs goes its way, and comes to an end.
-/
import Derived.Test.YtinbmnefdhkdfaaSgbO
import Derived.Test.YtinbmnefdhkdfaaSgbE
import Derived.Test.YtinbmnefdhkdfaaOrdD
import Derived.Test.YtinbmnefdhkdfaaOrdF
import Derived.Test.YtinbmnefdhkdfaaInts
import Derived.Test.YtinbmnefdhkdfaaSgcC
import Derived.Deep.CutBlock
namespace Go.Proofs.Ytinbmnefdhkdfaa
open Go.ChangeShapes Go.WideShapes Go.ChangeAt Go.RowKit

theorem head_mgs (W : World) (a : Option Addr) (n cap k : Nat) (hk : k ≤ cap) : (Instr.sliceAt 37 (.slice a n cap) none (some (.int .i64 (k : Int))) none).run Try.prog W = .ok (.slice a k cap) W := by
  have hu : Try.prog.underlying 37 = some (.slice (Try.prog.elem 37)) := by kernel_rfl
  have hz : (sizeOf (Try.prog.elem 37)).run Try.prog W = .ok 7 W := by kernel_rfl
  rw [run_sliceAt_slice _ _ _ _ _ _ hu, run_slice_h _ _ _ _ _ hu _ _ (by omega) (by omega), hz]
  show Result.ok (sliced a 0 (k : Int).toNat cap 7) W = _
  unfold sliced
  cases a with
  | none => simp
  | some y => cases h : decide (cap = 0) <;> simp_all [Addr.add]
theorem Mgs.off {w : World} {b off q i : Nat} {v : Value} {l : List Mg} (h : Mgs w (some ⟨b, off, none⟩) l) (hq : q ≠ b) : Mgs (w.setCell ⟨q, i, none⟩ v) (some ⟨b, off, none⟩) l := by
  rcases h with h | ⟨b', off', ha, hc⟩
  · exact .inl h
  · cases ha
    exact .inr ⟨b, off, rfl, fun j u hu => (World.cell?_setCell_far _ _ _ _ hq).trans (hc j u hu)⟩
theorem Mgs.al {w : World} {a : Option Addr} {l : List Mg} (h : Mgs w a l) (o : Obj) : Mgs (w.alloc o) a l := h.below ((Below.refl _ _).alloc (Nat.le_refl _) _)
theorem Fl.al {w : World} {p q d e : Nat} {o : Od} {a : Option Addr} {c : Nat} {f : Fa} {n : Nat} {u : World} (h : Fl w p q d e o a c f n u) (x : Obj) : Fl w p q d e o a c f n (u.alloc x) := h.on ((Below.refl _ _).alloc (Nat.le_refl _) _)
theorem bel_dN (w : World) (n : Nat) : Below w.heap.size w (w.drewN n) := by
  induction n with
  | zero => exact Below.refl _ _
  | succ n ih => exact bel_on' ih ((Below.refl _ _).drew)
theorem Fl.dn {w : World} {p q d e : Nat} {o : Od} {a : Option Addr} {c : Nat} {f : Fa} {n : Nat} {u : World} (h : Fl w p q d e o a c f n u) (x : Obj) (k : Nat) : Fl w p q d e o a c f n ((u.alloc x).drewN k) := (h.al x).on (bel_dN _ _)
theorem Mgs.dn {w : World} {a : Option Addr} {l : List Mg} (h : Mgs w a l) (x : Obj) (k : Nat) : Mgs ((w.alloc x).drewN k) a l := (h.al x).below (bel_dN _ _)
theorem own_far {w0 w : World} {p q d e : Nat} {o : Od} {a : Option Addr} {c : Nat} {f : Fa} {n : Nat} {u : World} (h : Fl w p q d e o a c f n w0) {t : TypeId} {s k m : Nat} {av : Option Addr} {cv : Nat} {xs : List Value} (hr : u.ownsRow w0.heap.size t s (.slice av m cv) k xs) : ∀ b off, av = some ⟨b, off, none⟩ → q ≠ b ∧ d ≠ b ∧ e ≠ b := by
  rintro b off rfl
  have hb := (hr.lt b (by simp [Value.ownBlock])).1
  have h1 := (Array.getElem?_eq_some_iff.1 h.fb).1
  have h2 := (Array.getElem?_eq_some_iff.1 h.db).1
  have h3 := (Array.getElem?_eq_some_iff.1 h.eb).1
  omega
theorem way_next {o : Od} {f f' : Fa} {yes : Bool} {j n : Nat} (h : WayOk o f f' yes) (hy : n ≤ j → yes = true) (hm : muF f + (j - n) ≤ 7) : Hid (InvW o f' ∧ muF f' + (j + 1 - n) ≤ 7) := by
  obtain ⟨h1, h2, h3⟩ := h
  refine ⟨h1, ?_⟩
  by_cases hj : n ≤ j
  · have := h3 (hy hj)
    omega
  · omega
/-- Nothing is known. -/
def wayF (n : Nat) : Fa := ⟨List.replicate n false, List.replicate n false, false, false, false, false, false, false, false, false, false⟩
theorem way_zero {o : Od} {l : Nat} (hm : mayO o = true) : Hid (InvW o (wayF o.steps.length) ∧ muF (wayF o.steps.length) + (0 - l) ≤ 7) := by
  have h3 := mayO_three hm
  have hI : InvW o (wayF o.steps.length) := by
    refine ⟨mayN.2 ⟨hm, by simp [wayF], by simp [wayF], rfl, ?_, ?_⟩, rfl, rfl⟩
    · unfold donF wayF
      generalize o.steps.length = n at *
      obtain rfl | rfl | rfl | rfl : n = 0 ∨ n = 1 ∨ n = 2 ∨ n = 3 := by omega
      all_goals rfl
    · unfold undF wayF
      generalize o.steps.length = n at *
      obtain rfl | rfl | rfl | rfl : n = 0 ∨ n = 1 ∨ n = 2 ∨ n = 3 := by omega
      all_goals rfl
  refine ⟨hI, ?_⟩
  have := hI.mu
  omega
set_option maxRecDepth 100000 in
set_option maxHeartbeats 8000000 in
theorem sagaWay_walk (o0 : Od) (a0 : Option Addr) (cap0 : Nat) (a1 : Option Addr) (len1 cap1 : Nat) (z1 : List Int) (w : World) (w0 : OdIn w o0 a0 cap0) (w1 : IsRow .i64 w a1 len1 cap1 z1) :
    Calls Try.prog 4 #[.agg #[.int .i64 o0.id, .int .i64 o0.item, .int .i64 o0.qty, .int .i64 o0.client, .int .i64 o0.price, .slice a0 o0.steps.length cap0], .slice a1 len1 cap1] w fun e w' => e = .returned (.bool true) ∧ Below w.heap.size w w' := by
  obtain ⟨l, rfl, hl9, hi⟩ := w1.ints
  clear w1
  have HR := (Rq.new (w := w) (o := o0) (a := a0) (c := cap0))
  have MY : ∀ u, Rq w o0 a0 cap0 u → Calls Try.prog 21 #[.agg #[.int .i64 o0.id, .int .i64 o0.item, .int .i64 o0.qty, .int .i64 o0.client, .int .i64 o0.price, .slice a0 o0.steps.length cap0]] u fun e w' => e = .returned (.bool (mayO o0)) ∧ Below u.heap.size u w' := fun u h => ref_omay_any o0 a0 cap0 u (w0.2.1.below h.bel) w0.1 w0.2.2.2
  cases hm : mayO o0
  · skip
    rw [hm] at MY
    have hmf : mayF o0 fa0 = false := by unfold mayF; rw [hm]; rfl
    have NX : ∀ u, Rq w o0 a0 cap0 u → Calls Try.prog 19 #[.agg #[.int .i64 o0.id, .int .i64 o0.item, .int .i64 o0.qty, .int .i64 o0.client, .int .i64 o0.price, .slice a0 o0.steps.length cap0], .agg #[.slice none 0 0, .slice none 0 0, .bool false, .bool false, .bool false, .bool false, .bool false, .bool false, .bool false, .bool false, .bool false]] u (OwnM u []) := fun u h => by
      have := snext_any o0 a0 cap0 fa0 none 0 none 0 u (w0.2.1.below h.bel) w0.1 (fa0_in u)
      rw [next_not hmf] at this
      exact this
    go_enter Try.func4, Try.ntmps4
    go_wp2_with (first
      | (go_at_call 21; (with_reducible refine (MY _ HR).mono ?_); rintro e u ⟨rfl, hb⟩; replace HR := HR.on hb; clear hb; obtain ⟨d0, d1, d2, d3, d4, d5⟩ := six_cells HR.ob)
      | (go_at_call 19; (with_reducible refine (NX _ HR).mono ?_); rintro e u4 ⟨av, cv, rfl, -, -, -, hb⟩; replace HR := HR.on hb; clear hb)
      | (go_at_call 10; refine (gawake_any _).mono ?_; rintro e u3 ⟨rfl, hb⟩; replace HR := HR.on hb; clear hb))
    go_ret
    exact ⟨rfl, HR.bel⟩
  rw [hm] at MY
  go_enter Try.func4, Try.ntmps4
  go_wp2_with (first
    | (go_at_call 21; (with_reducible refine (MY _ HR).mono ?_); rintro e u ⟨rfl, hb⟩; replace HR := HR.on hb; clear hb; obtain ⟨d0, d1, d2, d3, d4, d5⟩ := six_cells HR.ob))
  have hn3 := mayO_three hm
  have hmk := make_row o0.steps.length hn3
  go_wp2_with fail
  have HST := hide w0.2.1
  have HLN := hide w0.1
  have HMY := hide hm
  have HI := hide hi
  have z0 : (wayF o0.steps.length).dn = List.replicate o0.steps.length false := rfl
  have z1 : (wayF o0.steps.length).un = List.replicate o0.steps.length false := rfl
  clear w0 hm MY hi
  refine region_via (fun a' W => ∃ q d e, a' = { tmps := #[Value.agg #[Value.int IntKind.i64 o0.id, Value.int IntKind.i64 o0.item, Value.int IntKind.i64 o0.qty, Value.int IntKind.i64 o0.client, Value.int IntKind.i64 o0.price, Value.slice a0 o0.steps.length cap0], Value.slice a1 l.length cap1, Value.pointer (some { block := w.heap.size, off := 0 }), undef, Value.bool false, Value.int IntKind.i64 (o0.steps.length : Int), Value.pointer (some { block := q, off := 0 }), undef, undef, undef, undef, undef, undef, undef, undef, undef, Value.agg #[Value.int IntKind.i64 o0.id, Value.int IntKind.i64 o0.item, Value.int IntKind.i64 o0.qty, Value.int IntKind.i64 o0.client, Value.int IntKind.i64 o0.price, Value.slice a0 o0.steps.length cap0], Value.bool true, Value.bool false, undef, undef, undef, undef, undef, undef, undef, undef, Value.pointer (some { block := w.heap.size, off := 5 }), Value.slice a0 o0.steps.length cap0, Value.int IntKind.i64 (o0.steps.length : Int), Value.int IntKind.i64 (o0.steps.length : Int), Value.slice (some { block := d, off := 0 }) o0.steps.length o0.steps.length, Value.int IntKind.i64 (o0.steps.length : Int), Value.slice (some { block := e, off := 0 }) o0.steps.length o0.steps.length, Value.agg #[Value.slice (some { block := d, off := 0 }) o0.steps.length o0.steps.length, Value.slice (some { block := e, off := 0 }) o0.steps.length o0.steps.length, Value.bool false, Value.bool false, Value.bool false, Value.bool false, Value.bool false, Value.bool false, Value.bool false, Value.bool false, Value.bool false], undef, undef, undef, undef, undef, undef, undef, undef, undef, undef, undef, undef, undef, undef, undef, undef, undef, undef, undef, undef, undef, undef, undef, undef, undef, undef, undef, undef, undef, undef, undef, undef, undef, undef, undef, undef, undef, undef, undef, undef, undef, undef, undef, undef, undef, undef, undef, undef, undef, undef, undef, undef, undef, undef, undef, undef, undef, undef, undef, undef, undef, undef, undef, undef, undef, undef, undef, undef, undef, undef, undef, undef, undef, undef, undef, undef, undef, undef, undef, undef, undef, undef, undef, undef, undef, undef, undef, undef, undef, undef, undef, undef, undef, undef, undef, undef, undef, undef, undef, undef, undef, undef, undef, undef, undef, undef, undef, undef, undef, undef, undef, undef, undef, undef, undef, undef, undef, undef, undef, undef, undef, undef, undef, undef, undef, undef, undef, undef, undef, undef, undef, undef, undef, undef, undef, undef, undef, undef, undef, undef, undef, undef, undef, undef, undef, undef, undef, undef, undef, undef, undef, undef, undef, undef, undef, undef, undef, undef, undef, undef, undef, undef, undef, undef, undef, undef, undef, undef, undef, undef, undef, undef, undef, undef, undef, undef, undef, undef, undef, undef, undef, undef, undef, undef, undef, undef, undef, undef, undef, undef], defers := [] } ∧ Fl w w.heap.size q d e o0 a0 cap0 (wayF o0.steps.length) o0.steps.length W) ?_ ?_
  · skip
    go_region_held3 (fun w' => True) (trivial) (fail)
    all_goals refine ⟨rfl, ?_⟩
    all_goals first
      | exact ⟨_, _, _, rfl, flg_deq (wayF o0.steps.length) z0 z1 HR HST.out HLN.out hn3⟩
      | exact ⟨_, _, _, rfl, flg_dqe (wayF o0.steps.length) z0 z1 HR HST.out HLN.out hn3⟩
      | exact ⟨_, _, _, rfl, flg_edq (wayF o0.steps.length) z0 z1 HR HST.out HLN.out hn3⟩
      | exact ⟨_, _, _, rfl, flg_eqd (wayF o0.steps.length) z0 z1 HR HST.out HLN.out hn3⟩
      | exact ⟨_, _, _, rfl, flg_qde (wayF o0.steps.length) z0 z1 HR HST.out HLN.out hn3⟩
      | exact ⟨_, _, _, rfl, flg_qed (wayF o0.steps.length) z0 z1 HR HST.out HLN.out hn3⟩
  · rintro a' W ⟨q, d, e, rfl, HL⟩
    clear d0 d1 d2 d3 d4 d5 hmk z0 z1 HR
    have HI0 : Hid (Below w.heap.size w W) := HL.bel
    go_wp2_with fail
    go_loopw [35] (fun i wr => ∃ (j : Nat) (f : Fa), i = .int .i64 j ∧ j ≤ 40 ∧ Hid (Fl w w.heap.size q d e o0 a0 cap0 f o0.steps.length wr) ∧ Hid (InvW o0 f ∧ muF f + (j - l.length) ≤ 7)) (fun i _ => 40 - (intOf i).toNat)
    case atStart => exact ⟨0, wayF o0.steps.length, rfl, by omega, HL, way_zero HMY.out⟩
    case round =>
      clear HL HI0
      obtain ⟨j, f, rfl, hj, HJ, HV⟩ := hrel
      have HL := HJ.out
      obtain ⟨⟨d0, d1, d2, d3, d4, d5⟩, e0, e1, e2, e3, e4, e5, e6, e7, e8, e9, e10⟩ := HL.cells
      by_cases hlt : j < 40
      · have q1 : (j : Int) < 40 := by omega
        have CN := HL.next
        rw [next_need HV.out.1.1] at CN
        go_wp2_with fail
        refine CN.mono ?_
        rintro e' u1 ⟨av, cv, rfl, hlc, hnn, hrow, hb⟩
        have HM := hide (row_mgs hrow)
        have HFAR := hide (own_far HL hrow)
        replace HL := HL.on hb
        have CM : ∀ u, Fl w w.heap.size q d e o0 a0 cap0 f o0.steps.length u → Calls Try.prog 12 #[.agg #[.int .i64 o0.id, .int .i64 o0.item, .int .i64 o0.qty, .int .i64 o0.client, .int .i64 o0.price, .slice a0 o0.steps.length cap0], .agg #[.slice (some ⟨d, 0, none⟩) o0.steps.length o0.steps.length, .slice (some ⟨e, 0, none⟩) o0.steps.length o0.steps.length, .bool f.asked, .bool f.yes, .bool f.turned, .bool f.k0, .bool f.k1, .bool f.ship, .bool f.d0, .bool f.d1, .bool f.acc]] u fun e w' => e = .returned (.bool true) ∧ Below u.heap.size u w' := fun u h => (by have hh := h.may; rw [HV.out.1.1] at hh; exact hh)
        have HEN := hide HV.out.1.end
        have HOV := hide HV.out.1.over
        have HFR : Hid (∀ (i : Nat) (m : Mg), (needF o0 f)[i]? = some m → (m.fr = 0 ∧ m.id = o0.id) ∧ (m.k = 9 ∨ m.k = 10 → m.to = 1 ∨ m.to = 2)) := fun i m h => ⟨need_from h, need_dec h⟩
        have HLE := hide (need_len o0 f)
        obtain ⟨L, hL⟩ : ∃ L, needF o0 f = L := ⟨_, rfl⟩
        rw [hL] at HM HEN HOV HFR HLE hlc ⊢
        have HLL := hide hL
        have HLC := hide hlc
        clear hb hrow CN d0 d1 d2 d3 d4 d5 e0 e1 e2 e3 e4 e5 e6 e7 e8 e9 e10 hL hnn HJ hlc
        obtain ⟨⟨d0, d1, d2, d3, d4, d5⟩, e0, e1, e2, e3, e4, e5, e6, e7, e8, e9, e10⟩ := HL.cells
        by_cases hz : L.length = 0
        · have CO : ∀ u, Fl w w.heap.size q d e o0 a0 cap0 f o0.steps.length u → Calls Try.prog 16 #[.agg #[.int .i64 o0.id, .int .i64 o0.item, .int .i64 o0.qty, .int .i64 o0.client, .int .i64 o0.price, .slice a0 o0.steps.length cap0], .agg #[.slice (some ⟨d, 0, none⟩) o0.steps.length o0.steps.length, .slice (some ⟨e, 0, none⟩) o0.steps.length o0.steps.length, .bool f.asked, .bool f.yes, .bool f.turned, .bool f.k0, .bool f.k1, .bool f.ship, .bool f.d0, .bool f.d1, .bool f.acc]] u fun e w' => e = .returned (.bool true) ∧ Below u.heap.size u w' := fun u h => (by have hh := h.over; rw [show overF o0 f = true by rw [HOV.out, hz]; rfl] at hh; exact hh)
          rw [hz]
          rcases HEN.out hz with ⟨hs, hy⟩ | ⟨hs, hy⟩
          · as_aux_lemma =>
            have CS : ∀ u, Fl w w.heap.size q d e o0 a0 cap0 f o0.steps.length u → Calls Try.prog 14 #[.agg #[.int .i64 o0.id, .int .i64 o0.item, .int .i64 o0.qty, .int .i64 o0.client, .int .i64 o0.price, .slice a0 o0.steps.length cap0], .agg #[.slice (some ⟨d, 0, none⟩) o0.steps.length o0.steps.length, .slice (some ⟨e, 0, none⟩) o0.steps.length o0.steps.length, .bool f.asked, .bool f.yes, .bool f.turned, .bool f.k0, .bool f.k1, .bool f.ship, .bool f.d0, .bool f.d1, .bool f.acc]] u fun e w' => e = .returned (.int .i64 5) ∧ Below u.heap.size u w' := fun u h => (by have hh := h.state; rw [hs] at hh; exact hh)
            rw [hy] at CM CO CS
            clear hs hz
            go_wp2_with (first
              | (go_at_call 12; (with_reducible refine (CM _ HL).mono ?_); rintro e' u2 ⟨rfl, hb⟩; replace HL := HL.on hb; replace HM := hide (HM.out.below hb); clear hb d0 d1 d2 d3 d4 d5 e0 e1 e2 e3 e4 e5 e6 e7 e8 e9 e10; obtain ⟨⟨d0, d1, d2, d3, d4, d5⟩, e0, e1, e2, e3, e4, e5, e6, e7, e8, e9, e10⟩ := HL.cells)
              | (go_at_call 16; (with_reducible refine (CO _ HL).mono ?_); rintro e' u2 ⟨rfl, hb⟩; replace HL := HL.on hb; replace HM := hide (HM.out.below hb); clear hb d0 d1 d2 d3 d4 d5 e0 e1 e2 e3 e4 e5 e6 e7 e8 e9 e10; obtain ⟨⟨d0, d1, d2, d3, d4, d5⟩, e0, e1, e2, e3, e4, e5, e6, e7, e8, e9, e10⟩ := HL.cells)
              | (go_at_call 14; (with_reducible refine (CS _ HL).mono ?_); rintro e' u2 ⟨rfl, hb⟩; replace HL := HL.on hb; replace HM := hide (HM.out.below hb); clear hb d0 d1 d2 d3 d4 d5 e0 e1 e2 e3 e4 e5 e6 e7 e8 e9 e10; obtain ⟨⟨d0, d1, d2, d3, d4, d5⟩, e0, e1, e2, e3, e4, e5, e6, e7, e8, e9, e10⟩ := HL.cells)
              | (go_at_call 10; refine (gawake_any _).mono ?_; rintro e' u3 ⟨rfl, hb⟩; have HB4 := hide (bel_on' HL.bel hb); clear hb))
            go_ret
            exact ⟨rfl, HB4.out⟩
          · as_aux_lemma =>
            have CS : ∀ u, Fl w w.heap.size q d e o0 a0 cap0 f o0.steps.length u → Calls Try.prog 14 #[.agg #[.int .i64 o0.id, .int .i64 o0.item, .int .i64 o0.qty, .int .i64 o0.client, .int .i64 o0.price, .slice a0 o0.steps.length cap0], .agg #[.slice (some ⟨d, 0, none⟩) o0.steps.length o0.steps.length, .slice (some ⟨e, 0, none⟩) o0.steps.length o0.steps.length, .bool f.asked, .bool f.yes, .bool f.turned, .bool f.k0, .bool f.k1, .bool f.ship, .bool f.d0, .bool f.d1, .bool f.acc]] u fun e w' => e = .returned (.int .i64 6) ∧ Below u.heap.size u w' := fun u h => (by have hh := h.state; rw [hs] at hh; exact hh)
            rw [hy] at CM CO CS
            clear hs hz
            go_wp2_with (first
              | (go_at_call 12; (with_reducible refine (CM _ HL).mono ?_); rintro e' u2 ⟨rfl, hb⟩; replace HL := HL.on hb; replace HM := hide (HM.out.below hb); clear hb d0 d1 d2 d3 d4 d5 e0 e1 e2 e3 e4 e5 e6 e7 e8 e9 e10; obtain ⟨⟨d0, d1, d2, d3, d4, d5⟩, e0, e1, e2, e3, e4, e5, e6, e7, e8, e9, e10⟩ := HL.cells)
              | (go_at_call 16; (with_reducible refine (CO _ HL).mono ?_); rintro e' u2 ⟨rfl, hb⟩; replace HL := HL.on hb; replace HM := hide (HM.out.below hb); clear hb d0 d1 d2 d3 d4 d5 e0 e1 e2 e3 e4 e5 e6 e7 e8 e9 e10; obtain ⟨⟨d0, d1, d2, d3, d4, d5⟩, e0, e1, e2, e3, e4, e5, e6, e7, e8, e9, e10⟩ := HL.cells)
              | (go_at_call 14; (with_reducible refine (CS _ HL).mono ?_); rintro e' u2 ⟨rfl, hb⟩; replace HL := HL.on hb; replace HM := hide (HM.out.below hb); clear hb d0 d1 d2 d3 d4 d5 e0 e1 e2 e3 e4 e5 e6 e7 e8 e9 e10; obtain ⟨⟨d0, d1, d2, d3, d4, d5⟩, e0, e1, e2, e3, e4, e5, e6, e7, e8, e9, e10⟩ := HL.cells)
              | (go_at_call 10; refine (gawake_any _).mono ?_; rintro e' u3 ⟨rfl, hb⟩; have HB4 := hide (bel_on' HL.bel hb); clear hb))
            go_ret
            exact ⟨rfl, HB4.out⟩
        · have CO : ∀ u, Fl w w.heap.size q d e o0 a0 cap0 f o0.steps.length u → Calls Try.prog 16 #[.agg #[.int .i64 o0.id, .int .i64 o0.item, .int .i64 o0.qty, .int .i64 o0.client, .int .i64 o0.price, .slice a0 o0.steps.length cap0], .agg #[.slice (some ⟨d, 0, none⟩) o0.steps.length o0.steps.length, .slice (some ⟨e, 0, none⟩) o0.steps.length o0.steps.length, .bool f.asked, .bool f.yes, .bool f.turned, .bool f.k0, .bool f.k1, .bool f.ship, .bool f.d0, .bool f.d1, .bool f.acc]] u fun e w' => e = .returned (.bool false) ∧ Below u.heap.size u w' := fun u h => (by have hh := h.over; rw [show overF o0 f = false by rw [HOV.out, decide_eq_false hz]] at hh; exact hh)
          obtain ⟨mz, hmz, HLW⟩ := last_way HV.out.1 (by rw [HLL.out]; exact hz)
          rw [HLL.out] at hmz HLW
          obtain ⟨z, hzl⟩ : ∃ z, L.length = z + 1 := ⟨L.length - 1, by omega⟩
          rw [hzl] at hmz HLW ⊢
          have HMZ : Hid (L[z]? = some mz) := hmz
          replace HLW : Hid (LastW o0 f L z mz) := HLW
          obtain ⟨mk, mfr, mto, mid, mst, ma, mb⟩ := mz
          have q2 : (((z + 1 : Nat) : Int) == 0) = false := beq_eq_false_iff_ne.2 (by omega)
          have q2' : (((z : Int) + 1) == 0) = false := beq_eq_false_iff_ne.2 (by omega)
          have z3 : z ≤ 2 := by have := HLE.out; omega
          have HZ := hide hzl
          have HVI := hide HV.out.2
          clear hz hzl hmz
          go_upto_region 14 with (first
            | (go_at_call 12; (with_reducible refine (CM _ HL).mono ?_); rintro e' u2 ⟨rfl, hb⟩; replace HL := HL.on hb; replace HM := hide (HM.out.below hb); clear hb d0 d1 d2 d3 d4 d5 e0 e1 e2 e3 e4 e5 e6 e7 e8 e9 e10; obtain ⟨⟨d0, d1, d2, d3, d4, d5⟩, e0, e1, e2, e3, e4, e5, e6, e7, e8, e9, e10⟩ := HL.cells)
            | (go_at_call 16; (with_reducible refine (CO _ HL).mono ?_); rintro e' u2 ⟨rfl, hb⟩; replace HL := HL.on hb; replace HM := hide (HM.out.below hb); clear hb d0 d1 d2 d3 d4 d5 e0 e1 e2 e3 e4 e5 e6 e7 e8 e9 e10; obtain ⟨⟨d0, d1, d2, d3, d4, d5⟩, e0, e1, e2, e3, e4, e5, e6, e7, e8, e9, e10⟩ := HL.cells))
          clear CM CO
          go_cut [10] from 36 to 217 (fun y wx => ∃ yes : Bool, y = .bool yes ∧ Hid (l.length ≤ j → yes = true) ∧ Hid (Fl w w.heap.size q d e o0 a0 cap0 f o0.steps.length wx) ∧ Hid (Mgs wx av L))
          case first =>
            by_cases hjl : l.length ≤ j
            · have q4 : (j : Int) ≥ (l.length : Int) := by omega
              have HLL2 := hide HL
              clear d0 d1 d2 d3 d4 d5 e0 e1 e2 e3 e4 e5 e6 e7 e8 e9 e10 HL
              go_wp2_with fail
              go_meet
              exact ⟨true, rfl, fun _ => rfl, HLL2, HM⟩
            · have q4 : ¬ (j : Int) ≥ (l.length : Int) := by omega
              have q5 : decide ((j : Int) ≥ (l.length : Int)) = false := by simp; omega
              have q6 : (j : Int) < (l.length : Int) := by omega
              obtain ⟨xb, xo, rfl, xc⟩ : ∃ b off, a1 = some ⟨b, off, none⟩ ∧ u2.cell? ⟨b, off + j, none⟩ = some (.int .i64 (l.getD j 0)) := by
                rcases HI.out.below HL.bel with h | ⟨b, off, h, hc⟩
                · subst h; simp at hjl
                · exact ⟨b, off, h, hc j (by omega)⟩
              obtain ⟨xv, hxv⟩ : ∃ xv, l.getD j 0 = xv := ⟨_, rfl⟩
              rw [hxv] at xc
              have HLL2 := hide HL
              have HJL := hide hjl
              clear hxv d0 d1 d2 d3 d4 d5 e0 e1 e2 e3 e4 e5 e6 e7 e8 e9 e10 HL hjl
              go_wp2_with fail
              go_meet
              exact ⟨_, rfl, fun h => absurd h HJL.out, HLL2, HM⟩
          case rest =>
            clear HL HM d0 d1 d2 d3 d4 d5 e0 e1 e2 e3 e4 e5 e6 e7 e8 e9 e10
            obtain ⟨yes, rfl, HYES, HLW2, HM⟩ := hcut
            have HL := HLW2.out
            clear HLW2
            obtain ⟨⟨d0, d1, d2, d3, d4, d5⟩, e0, e1, e2, e3, e4, e5, e6, e7, e8, e9, e10⟩ := HL.cells
            go_wp2_with fail
            go_loopw [91] (fun i wr => ∃ k : Nat, i = .int .i64 k ∧ k ≤ z + 1 ∧ Hid (Below wc.heap.size wc wr)) (fun i _ => z + 1 - (intOf i).toNat)
            case atStart => exact ⟨0, rfl, Nat.zero_le _, Below.refl _ _⟩
            case round =>
              obtain ⟨k, rfl, hk, HB⟩ := hrel
              by_cases hkl : k < z + 1
              · as_aux_lemma =>
                obtain ⟨m, hm⟩ : ∃ m, L[k]? = some m := ⟨_, List.getElem?_eq_getElem (by rw [HZ.out]; exact hkl)⟩
                obtain ⟨hfr, hid⟩ := (HFR.out k m hm).1
                obtain ⟨b, off, rfl, p0, p1, p2, p3, p4, p5, p6⟩ := (HM.out.below HB.out).get hm
                have HBN : Hid (Below wc.heap.size wc (wr.alloc (.cells #[.int .i64 m.k, .int .i64 m.fr, .int .i64 m.to, .int .i64 m.id, .int .i64 m.st, .int .i64 m.a, .int .i64 m.b] 43))) := HB.out.alloc HB.out.size _
                rw [hfr] at p1 HBN
                rw [hid] at p3 HBN
                have q7 : (k : Int) < (z : Int) + 1 := by omega
                have HL1 := HL.on HB.out
                have b2 := (Array.getElem?_eq_some_iff.1 HL1.ob).1
                clear d0 d1 d2 d3 d4 d5 e0 e1 e2 e3 e4 e5 e6 e7 e8 e9 e10 hm hfr hid
                obtain ⟨⟨d0, d1, d2, d3, d4, d5⟩, e0, e1, e2, e3, e4, e5, e6, e7, e8, e9, e10⟩ := HL1.cells
                have g1 : (o0.id != o0.id) = false := by simp
                clear HL1
                go_wp2
                go_roundw
                case rel => exact ⟨k + 1, by go_num, by omega, HBN⟩
                case measure => simp [intOf]; omega
              · have q7 : ¬ (k : Int) < (z : Int) + 1 := by omega
                replace HM := hide (HM.out.below HB.out)
                replace HL := HL.on HB.out
                clear d0 d1 d2 d3 d4 d5 e0 e1 e2 e3 e4 e5 e6 e7 e8 e9 e10 HB hkl
                obtain ⟨⟨d0, d1, d2, d3, d4, d5⟩, e0, e1, e2, e3, e4, e5, e6, e7, e8, e9, e10⟩ := HL.cells
                obtain ⟨b, off, rfl, p0, p1, p2, p3, p4, p5, p6⟩ := HM.out.get HMZ.out
                dsimp only at p0 p1 p2 p3 p4 p5 p6
                have b2 := (Array.getElem?_eq_some_iff.1 HL.ob).1
                have b3 := (Array.getElem?_eq_some_iff.1 HL.fb).1
                have wk : wrap64 (z : Int) = (z : Int) := by unfold wrap64; omega
                have wk2 : IntKind.i64.wrap ((z : Int) + 1 - 1) = (z : Int) := by rw [IntKind.wrap_i64]; omega
                have wk3 : IntKind.i64.wrap (z : Int) = (z : Int) := by rw [IntKind.wrap_i64]; omega
                have q8 : (z : Int) < (z : Int) + 1 := by omega
                have y2 := HL.frzF 2
                have y3 := HL.frzF 3
                have y4 := HL.frzF 4
                have y5 := HL.frzF 5
                have y6 := HL.frzF 6
                have y7 := HL.frzF 7
                have n1 := HL.ne
                have n2 := HL.ne.symm
                have n3 := HL.far.1
                have n4 := HL.far.2
                have n5 := HL.far.1.symm
                have n6 := HL.far.2.symm
                have hs := fun W => head_mgs W (some ⟨b, off, none⟩) (z + 1) cv z (by have := HLC.out; have := HZ.out; omega)
                obtain ⟨f1, f2, f3⟩ := HFAR.out b off rfl
                go_upto_block 4 with fail
                go_cut [10] from 36 to 217 (fun y wx => ∃ F1 : Fa, y = .bool yes ∧ Hid (Fl w w.heap.size q d e o0 a0 cap0 F1 o0.steps.length wx) ∧ Hid (Mgs wx (some ⟨b, off, none⟩) L) ∧ Hid (InvW o0 (ackJ F1 L z) ∧ muF (ackJ F1 L z) + (j + 1 - l.length) ≤ 7))
                case first =>
                  rcases HLW.out with ⟨i, hi, hme, hdi, HW⟩ | ⟨hk6, HW⟩ | ⟨i, hi, hme, hdi, HW⟩ | ⟨hk6, HW⟩ | ⟨K, hK, hme, HW⟩ | ⟨K, hK, hme, HW⟩
                  · as_aux_lemma =>
                    unfold doM at hme
                    cases hme
                    obtain ⟨sb, soff, rfl, s0, s1⟩ := (HL.st.below HL.bel).at hi
                    have g1 : ((stAt o0.steps i).1 != (stAt o0.steps i).1) = false := by simp
                    have g2 : ((stAt o0.steps i).2 != (stAt o0.steps i).2) = false := by simp
                    have g5 : (i : Int) < (o0.steps.length : Int) := by omega
                    have b4 : sb < wr.heap.size := World.block_lt_of_cell? _ _ s0
                    have c0 := HL.cellD hdi
                    have t0 := HL.frzD i
                    have b5 := (Array.getElem?_eq_some_iff.1 HL.db).1
                    have HWN : Hid (InvW o0 (ackJ { f with dn := f.dn.set i yes, turned := (!yes) } L z) ∧ muF (ackJ { f with dn := f.dn.set i yes, turned := (!yes) } L z) + (j + 1 - l.length) ≤ 7) := way_next (HW yes) HYES.out HVI.out
                    have HLD := hide HL
                    clear HW HL hi hdi
                    go_wp2_with fail
                    go_quiet (fail)
                    go_wp2_with fail
                    go_meet
                    exact ⟨_, rfl, ((HLD.out.dn _ _).setD i yes).setF 4 (!yes) { f with dn := f.dn.set i yes, turned := !yes } rfl rfl rfl, ((HM.out.dn _ _).off (i := i) (v := .bool yes) f2).off (i := 4) (v := .bool (!yes)) f1, HWN⟩
                  · as_aux_lemma =>
                    dsimp only at hk6
                    subst hk6
                    have HWN : Hid (InvW o0 (ackJ { f with asked := true, yes := yes, turned := (!yes) } L z) ∧ muF (ackJ { f with asked := true, yes := yes, turned := (!yes) } L z) + (j + 1 - l.length) ≤ 7) := way_next (HW yes) HYES.out HVI.out
                    have HE : Hid (Fl w w.heap.size q d e o0 _ cap0 { f with asked := true, yes := yes, turned := (!yes) } o0.steps.length _) := (((HL.setF 2 true { f with asked := true } rfl rfl rfl).setF 3 yes { f with asked := true, yes := yes } rfl rfl rfl).setF 4 (!yes) { f with asked := true, yes := yes, turned := (!yes) } rfl rfl rfl).al (.cells #[.int .i64 (6), .int .i64 (mfr), .int .i64 (mto), .int .i64 (mid), .int .i64 (mst), .int .i64 (ma), .int .i64 (mb)] 43)
                    have HG : Hid (Mgs _ (some ⟨b, off, none⟩) L) := (((HM.out.off (i := 2) (v := .bool true) f1).off (i := 3) (v := .bool yes) f1).off (i := 4) (v := .bool (!yes)) f1).al (.cells #[.int .i64 (6), .int .i64 (mfr), .int .i64 (mto), .int .i64 (mid), .int .i64 (mst), .int .i64 (ma), .int .i64 (mb)] 43)
                    clear HW HL
                    go_wp2_with fail
                    go_meet
                    exact ⟨_, rfl, HE, HG, HWN⟩
                  · as_aux_lemma =>
                    unfold undoM at hme
                    cases hme
                    obtain ⟨sb, soff, rfl, s0, s1⟩ := (HL.st.below HL.bel).at hi
                    have g1 : ((stAt o0.steps i).1 != (stAt o0.steps i).1) = false := by simp
                    have g2 : ((stAt o0.steps i).2 != (stAt o0.steps i).2) = false := by simp
                    have g5 : (i : Int) < (o0.steps.length : Int) := by omega
                    have b4 : sb < wr.heap.size := World.block_lt_of_cell? _ _ s0
                    have c0 := HL.cellE hdi
                    have t0 := HL.frzE i
                    have b5 := (Array.getElem?_eq_some_iff.1 HL.eb).1
                    have HWN : Hid (InvW o0 (ackJ { f with un := f.un.set i yes } L z) ∧ muF (ackJ { f with un := f.un.set i yes } L z) + (j + 1 - l.length) ≤ 7) := way_next (HW yes) HYES.out HVI.out
                    have HLD := hide HL
                    clear HW HL hi hdi
                    go_wp2_with fail
                    go_quiet (fail)
                    go_wp2_with fail
                    go_meet
                    exact ⟨_, rfl, (HLD.out.dn _ _).setE i yes, (HM.out.dn _ _).off (i := i) (v := .bool yes) f3, HWN⟩
                  · as_aux_lemma =>
                    dsimp only at hk6
                    subst hk6
                    have HWN : Hid (InvW o0 (ackJ { f with ship := yes } L z) ∧ muF (ackJ { f with ship := yes } L z) + (j + 1 - l.length) ≤ 7) := way_next (HW yes) HYES.out HVI.out
                    have HE : Hid (Fl w w.heap.size q d e o0 _ cap0 { f with ship := yes } o0.steps.length _) := (HL.setF 7 yes { f with ship := yes } rfl rfl rfl).al (.cells #[.int .i64 (15), .int .i64 (mfr), .int .i64 (mto), .int .i64 (mid), .int .i64 (mst), .int .i64 (ma), .int .i64 (mb)] 43)
                    have HG : Hid (Mgs _ (some ⟨b, off, none⟩) L) := (HM.out.off (i := 7) (v := .bool yes) f1).al (.cells #[.int .i64 (15), .int .i64 (mfr), .int .i64 (mto), .int .i64 (mid), .int .i64 (mst), .int .i64 (ma), .int .i64 (mb)] 43)
                    clear HW HL
                    go_wp2_with fail
                    go_meet
                    exact ⟨_, rfl, HE, HG, HWN⟩
                  · unfold msgM at hme
                    cases hme
                    rcases hK with rfl | rfl
                    · as_aux_lemma =>
                      have HWN : Hid (InvW o0 (ackJ { f with k0 := yes } L z) ∧ muF (ackJ { f with k0 := yes } L z) + (j + 1 - l.length) ≤ 7) := way_next (HW yes) HYES.out HVI.out
                      have HE : Hid (Fl w w.heap.size q d e o0 _ cap0 { f with k0 := yes } o0.steps.length _) := (HL.setF 5 yes { f with k0 := yes } rfl rfl rfl).al (.cells #[.int .i64 (9), .int .i64 (0), .int .i64 (1), .int .i64 (o0.id), .int .i64 (0), .int .i64 (0), .int .i64 (0)] 43)
                      have HG : Hid (Mgs _ (some ⟨b, off, none⟩) L) := (HM.out.off (i := 5) (v := .bool yes) f1).al (.cells #[.int .i64 (9), .int .i64 (0), .int .i64 (1), .int .i64 (o0.id), .int .i64 (0), .int .i64 (0), .int .i64 (0)] 43)
                      clear HW HL
                      go_wp2_with fail
                      go_meet
                      exact ⟨_, rfl, HE, HG, HWN⟩
                    · as_aux_lemma =>
                      have HWN : Hid (InvW o0 (ackJ { f with k0 := yes } L z) ∧ muF (ackJ { f with k0 := yes } L z) + (j + 1 - l.length) ≤ 7) := way_next (HW yes) HYES.out HVI.out
                      have HE : Hid (Fl w w.heap.size q d e o0 _ cap0 { f with k0 := yes } o0.steps.length _) := (HL.setF 5 yes { f with k0 := yes } rfl rfl rfl).al (.cells #[.int .i64 (10), .int .i64 (0), .int .i64 (1), .int .i64 (o0.id), .int .i64 (0), .int .i64 (0), .int .i64 (0)] 43)
                      have HG : Hid (Mgs _ (some ⟨b, off, none⟩) L) := (HM.out.off (i := 5) (v := .bool yes) f1).al (.cells #[.int .i64 (10), .int .i64 (0), .int .i64 (1), .int .i64 (o0.id), .int .i64 (0), .int .i64 (0), .int .i64 (0)] 43)
                      clear HW HL
                      go_wp2_with fail
                      go_meet
                      exact ⟨_, rfl, HE, HG, HWN⟩
                  · unfold msgM at hme
                    cases hme
                    rcases hK with rfl | rfl
                    · as_aux_lemma =>
                      have HWN : Hid (InvW o0 (ackJ { f with k1 := yes } L z) ∧ muF (ackJ { f with k1 := yes } L z) + (j + 1 - l.length) ≤ 7) := way_next (HW yes) HYES.out HVI.out
                      have HE : Hid (Fl w w.heap.size q d e o0 _ cap0 { f with k1 := yes } o0.steps.length _) := (HL.setF 6 yes { f with k1 := yes } rfl rfl rfl).al (.cells #[.int .i64 (9), .int .i64 (0), .int .i64 (2), .int .i64 (o0.id), .int .i64 (0), .int .i64 (0), .int .i64 (0)] 43)
                      have HG : Hid (Mgs _ (some ⟨b, off, none⟩) L) := (HM.out.off (i := 6) (v := .bool yes) f1).al (.cells #[.int .i64 (9), .int .i64 (0), .int .i64 (2), .int .i64 (o0.id), .int .i64 (0), .int .i64 (0), .int .i64 (0)] 43)
                      clear HW HL
                      go_wp2_with fail
                      go_meet
                      exact ⟨_, rfl, HE, HG, HWN⟩
                    · as_aux_lemma =>
                      have HWN : Hid (InvW o0 (ackJ { f with k1 := yes } L z) ∧ muF (ackJ { f with k1 := yes } L z) + (j + 1 - l.length) ≤ 7) := way_next (HW yes) HYES.out HVI.out
                      have HE : Hid (Fl w w.heap.size q d e o0 _ cap0 { f with k1 := yes } o0.steps.length _) := (HL.setF 6 yes { f with k1 := yes } rfl rfl rfl).al (.cells #[.int .i64 (10), .int .i64 (0), .int .i64 (2), .int .i64 (o0.id), .int .i64 (0), .int .i64 (0), .int .i64 (0)] 43)
                      have HG : Hid (Mgs _ (some ⟨b, off, none⟩) L) := (HM.out.off (i := 6) (v := .bool yes) f1).al (.cells #[.int .i64 (10), .int .i64 (0), .int .i64 (2), .int .i64 (o0.id), .int .i64 (0), .int .i64 (0), .int .i64 (0)] 43)
                      clear HW HL
                      go_wp2_with fail
                      go_meet
                      exact ⟨_, rfl, HE, HG, HWN⟩
                case rest =>
                  clear HL HM p0 p1 p2 p3 p4 p5 p6 y2 y3 y4 y5 y6 y7 d0 d1 d2 d3 d4 d5 e0 e1 e2 e3 e4 e5 e6 e7 e8 e9 e10 b2 b3 wk
                  obtain ⟨F1, rfl, HE, HG, HWN⟩ := hcut
                  go_wp2_with fail
                  go_loopw [200] (fun i wy => ∃ k2 : Nat, i = .int .i64 k2 ∧ k2 ≤ z ∧ Hid (Fl w w.heap.size q d e o0 a0 cap0 (ackJ F1 L k2) o0.steps.length wy) ∧ Hid (Mgs wy (some ⟨b, off, none⟩) L)) (fun i _ => z - (intOf i).toNat)
                  case atStart => exact ⟨0, rfl, Nat.zero_le _, HE, HG⟩
                  case round =>
                    clear HE HG
                    obtain ⟨k2, rfl, hk2, HJ, HG⟩ := hrel
                    have HL := HJ.out
                    by_cases hkl : k2 < z
                    · obtain ⟨m, hm⟩ : ∃ m, L[k2]? = some m := ⟨_, List.getElem?_eq_getElem (by rw [HZ.out]; omega)⟩
                      have HNX := hide (ackJ_next (f := F1) hm)
                      obtain ⟨b', off', hbb, p0, p1, p2, p3, p4, p5, p6⟩ := HG.out.get hm
                      cases hbb
                      obtain ⟨⟨d0, d1, d2, d3, d4, d5⟩, e0, e1, e2, e3, e4, e5, e6, e7, e8, e9, e10⟩ := HL.cells
                      have q9 : (k2 : Int) < (z : Int) := by omega
                      have y5 := HL.frzF 5
                      have y6 := HL.frzF 6
                      have b3 := (Array.getElem?_eq_some_iff.1 HL.fb).1
                      by_cases h9 : m.k = 9 ∨ m.k = 10
                      · rcases (HFR.out k2 m hm).2 h9 with ht | ht
                        · rcases h9 with h9 | h9
                          · as_aux_lemma =>
                            rw [h9] at p0
                            rw [ht] at p2
                            have HE2 : Hid (Fl w w.heap.size q d e o0 a0 cap0 (ackJ F1 L (k2 + 1)) o0.steps.length ((wr.setCell ⟨q, 5, none⟩ (.bool true)).alloc (.cells #[.int .i64 (9), .int .i64 (m.fr), .int .i64 (1), .int .i64 (m.id), .int .i64 (m.st), .int .i64 (m.a), .int .i64 (m.b)] 43))) := by
                              show Fl _ _ _ _ _ _ _ _ _ _ _
                              rw [HNX.out]
                              unfold ackM
                              rw [if_pos (by rw [h9]; decide), if_pos ht]
                              exact (HL.setF 5 true { ackJ F1 L k2 with k0 := true } rfl rfl rfl).al _
                            have HG2 := hide ((HG.out.off (i := 5) (v := .bool true) f1).al (.cells #[.int .i64 (9), .int .i64 (m.fr), .int .i64 (1), .int .i64 (m.id), .int .i64 (m.st), .int .i64 (m.a), .int .i64 (m.b)] 43))
                            clear HL HJ hm h9 ht
                            go_wp2
                            go_roundw
                            case rel => exact ⟨k2 + 1, by go_num, by omega, HE2, HG2⟩
                            case measure => simp [intOf]; omega
                          · as_aux_lemma =>
                            rw [h9] at p0
                            rw [ht] at p2
                            have HE2 : Hid (Fl w w.heap.size q d e o0 a0 cap0 (ackJ F1 L (k2 + 1)) o0.steps.length ((wr.setCell ⟨q, 5, none⟩ (.bool true)).alloc (.cells #[.int .i64 (10), .int .i64 (m.fr), .int .i64 (1), .int .i64 (m.id), .int .i64 (m.st), .int .i64 (m.a), .int .i64 (m.b)] 43))) := by
                              show Fl _ _ _ _ _ _ _ _ _ _ _
                              rw [HNX.out]
                              unfold ackM
                              rw [if_pos (by rw [h9]; decide), if_pos ht]
                              exact (HL.setF 5 true { ackJ F1 L k2 with k0 := true } rfl rfl rfl).al _
                            have HG2 := hide ((HG.out.off (i := 5) (v := .bool true) f1).al (.cells #[.int .i64 (10), .int .i64 (m.fr), .int .i64 (1), .int .i64 (m.id), .int .i64 (m.st), .int .i64 (m.a), .int .i64 (m.b)] 43))
                            clear HL HJ hm h9 ht
                            go_wp2
                            go_roundw
                            case rel => exact ⟨k2 + 1, by go_num, by omega, HE2, HG2⟩
                            case measure => simp [intOf]; omega
                        · rcases h9 with h9 | h9
                          · as_aux_lemma =>
                            rw [h9] at p0
                            rw [ht] at p2
                            have HE2 : Hid (Fl w w.heap.size q d e o0 a0 cap0 (ackJ F1 L (k2 + 1)) o0.steps.length ((wr.setCell ⟨q, 6, none⟩ (.bool true)).alloc (.cells #[.int .i64 (9), .int .i64 (m.fr), .int .i64 (2), .int .i64 (m.id), .int .i64 (m.st), .int .i64 (m.a), .int .i64 (m.b)] 43))) := by
                              show Fl _ _ _ _ _ _ _ _ _ _ _
                              rw [HNX.out]
                              unfold ackM
                              rw [if_pos (by rw [h9]; decide), if_neg (by rw [ht]; decide)]
                              exact (HL.setF 6 true { ackJ F1 L k2 with k1 := true } rfl rfl rfl).al _
                            have HG2 := hide ((HG.out.off (i := 6) (v := .bool true) f1).al (.cells #[.int .i64 (9), .int .i64 (m.fr), .int .i64 (2), .int .i64 (m.id), .int .i64 (m.st), .int .i64 (m.a), .int .i64 (m.b)] 43))
                            clear HL HJ hm h9 ht
                            go_wp2
                            go_roundw
                            case rel => exact ⟨k2 + 1, by go_num, by omega, HE2, HG2⟩
                            case measure => simp [intOf]; omega
                          · as_aux_lemma =>
                            rw [h9] at p0
                            rw [ht] at p2
                            have HE2 : Hid (Fl w w.heap.size q d e o0 a0 cap0 (ackJ F1 L (k2 + 1)) o0.steps.length ((wr.setCell ⟨q, 6, none⟩ (.bool true)).alloc (.cells #[.int .i64 (10), .int .i64 (m.fr), .int .i64 (2), .int .i64 (m.id), .int .i64 (m.st), .int .i64 (m.a), .int .i64 (m.b)] 43))) := by
                              show Fl _ _ _ _ _ _ _ _ _ _ _
                              rw [HNX.out]
                              unfold ackM
                              rw [if_pos (by rw [h9]; decide), if_neg (by rw [ht]; decide)]
                              exact (HL.setF 6 true { ackJ F1 L k2 with k1 := true } rfl rfl rfl).al _
                            have HG2 := hide ((HG.out.off (i := 6) (v := .bool true) f1).al (.cells #[.int .i64 (10), .int .i64 (m.fr), .int .i64 (2), .int .i64 (m.id), .int .i64 (m.st), .int .i64 (m.a), .int .i64 (m.b)] 43))
                            clear HL HJ hm h9 ht
                            go_wp2
                            go_roundw
                            case rel => exact ⟨k2 + 1, by go_num, by omega, HE2, HG2⟩
                            case measure => simp [intOf]; omega
                      · as_aux_lemma =>
                        have g9 : (m.k == 9) = false := by simp; omega
                        have g10 : (m.k == 10) = false := by simp; omega
                        have HE2 : Hid (Fl w w.heap.size q d e o0 a0 cap0 (ackJ F1 L (k2 + 1)) o0.steps.length (wr.alloc (.cells #[.int .i64 (m.k), .int .i64 (m.fr), .int .i64 (m.to), .int .i64 (m.id), .int .i64 (m.st), .int .i64 (m.a), .int .i64 (m.b)] 43))) := by
                          show Fl _ _ _ _ _ _ _ _ _ _ _
                          rw [HNX.out]
                          unfold ackM
                          rw [if_neg h9]
                          exact HL.al _
                        have HG2 := hide (HG.out.al (.cells #[.int .i64 (m.k), .int .i64 (m.fr), .int .i64 (m.to), .int .i64 (m.id), .int .i64 (m.st), .int .i64 (m.a), .int .i64 (m.b)] 43))
                        clear HL HJ hm h9
                        go_wp2
                        go_roundw
                        case rel => exact ⟨k2 + 1, by go_num, by omega, HE2, HG2⟩
                        case measure => simp [intOf]; omega
                    · as_aux_lemma =>
                      have q9 : ¬ (k2 : Int) < (z : Int) := by omega
                      have hkz : k2 = z := by omega
                      have HE2 : Hid (Fl w w.heap.size q d e o0 a0 cap0 (ackJ F1 L z) o0.steps.length wr) := hkz ▸ HL
                      clear HL HJ
                      go_wp2
                      go_roundw
                      case rel => exact ⟨j + 1, ackJ F1 L z, by go_num, by omega, HE2, HWN⟩
                      case measure => simp [intOf]; omega
      · have q1 : ¬ (j : Int) < 40 := by omega
        have q3 : (l.length : Int) > 15 := by have := HV.out.2; omega
        go_wp2_with (first
          | (go_at_call 10; refine (gawake_any _).mono ?_; rintro e' u3 ⟨rfl, hb⟩; have HB4 := hide (bel_on' HL.bel hb); clear hb))
        go_ret
        exact ⟨rfl, HB4.out⟩
end Go.Proofs.Ytinbmnefdhkdfaa
