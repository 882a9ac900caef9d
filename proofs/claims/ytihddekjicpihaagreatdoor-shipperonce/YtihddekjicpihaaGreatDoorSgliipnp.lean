/-
  ShipperOnce: the walk.
-/
import Derived.Test.YtihddekjicpihaaGreatDoorSglfjkll
import Derived.Test.YtihddekjicpihaaGreatDoorSgnddbcf
import Derived.Test.YtihddekjicpihaaGreatDoorSggjnjid
import Derived.Deep.CutBlock
import Derived.Deep.CutRange
namespace Go.Proofs.YtihddekjicpihaaGreatDoor
open Go.ChangeShapes Go.WideShapes Go.ChangeAt Go.RowKit Go.Maps Gd.Pu

def upT (f : Nat → Int) (i : Nat) (x : Int) : Nat → Int := fun k => if k = i then x else f k
/-- What went, and how often, of the first k. -/
def sumK (f : Nat → Int) : Nat → Int
  | 0 => 0
  | k + 1 => sumK f k + f k
def cntK (f : Nat → Int) : Nat → Nat
  | 0 => 0
  | k + 1 => cntK f k + if f k > 0 then 1 else 0
theorem sumK_up (f : Nat → Int) (i : Nat) (x : Int) : ∀ k : Nat, sumK (upT f i x) k = sumK f k + if i < k then x - f i else 0
  | 0 => rfl
  | k + 1 => by
    show sumK (upT f i x) k + upT f i x k = sumK f k + f k + _
    rw [sumK_up f i x k]
    unfold upT
    by_cases e : k = i
    · subst e
      rw [if_pos rfl, if_neg (by omega), if_pos (by omega)]
      omega
    · rw [if_neg e]
      by_cases h : i < k
      · rw [if_pos h, if_pos (by omega)]; omega
      · rw [if_neg h, if_neg (by omega)]; omega
theorem cntK_up (f : Nat → Int) (i : Nat) (x : Int) (h0 : f i = 0) (hx : x > 0) : ∀ k : Nat, cntK (upT f i x) k = cntK f k + if i < k then 1 else 0
  | 0 => rfl
  | k + 1 => by
    show cntK (upT f i x) k + (if upT f i x k > 0 then 1 else 0) = cntK f k + (if f k > 0 then 1 else 0) + _
    rw [cntK_up f i x h0 hx k]
    unfold upT
    by_cases e : k = i
    · subst e
      rw [if_pos rfl, if_pos hx, if_neg (show ¬ k < k by omega), if_pos (show k < k + 1 by omega), h0, if_neg (show ¬ (0 : Int) > 0 by omega)]
    · rw [if_neg e]
      by_cases h : i < k
      · rw [if_pos h, if_pos (show i < k + 1 by omega)]; omega
      · rw [if_neg h, if_neg (show ¬ i < k + 1 by omega)]; omega
theorem sumK_bd {f : Nat → Int} (h : ∀ x : Nat, x < 10 → 0 ≤ f x ∧ f x ≤ 1000) : ∀ k : Nat, k ≤ 10 → 0 ≤ sumK f k ∧ sumK f k ≤ 1000 * (k : Int)
  | 0, _ => by show (0 : Int) ≤ 0 ∧ (0 : Int) ≤ _; omega
  | k + 1, hk => by
    have h1 := sumK_bd h k (by omega)
    have h2 := h k (by omega)
    show 0 ≤ sumK f k + f k ∧ sumK f k + f k ≤ _
    omega
theorem cntK_bd (f : Nat → Int) : ∀ k : Nat, cntK f k ≤ k
  | 0 => Nat.le_refl _
  | k + 1 => by
    have := cntK_bd f k
    show cntK f k + _ ≤ _
    split <;> omega
/-- The shipper v beside what the law has written down of the ids below ten. -/
structure Lo (v : Sh) (n : Nat) (f : Nat → Int) : Prop where
  dn : v.down = false
  rm : v.room = 4096
  ln : v.T.length ≤ n
  fi : ∀ x : Nat, 1 ≤ x → x < 10 → ((Pa.findP v.l x).isSome = true ↔ f x ≠ 0)
  su : Pa.wentP v.l 3 = sumK f 10
  ct : (Pa.idsP v.l).length = cntK f 10
  bd : ∀ x : Nat, x < 10 → 0 ≤ f x ∧ f x ≤ 1000
theorem lo_new : Lo (newSh 4096) 0 (fun _ => 0) :=
  ⟨rfl, rfl, Nat.le_refl _, fun _ _ _ => ⟨(fun h => by cases h), fun h => absurd rfl h⟩, rfl, rfl, fun _ _ => by omega⟩
section
variable {v : Sh} {n : Nat} {f : Nat → Int}
theorem Lo.more (h : Lo v n f) : Lo v (n + 1) f := ⟨h.dn, h.rm, Nat.le_succ_of_le h.ln, h.fi, h.su, h.ct, h.bd⟩
theorem Lo.new (h : Lo v n f) (hn : n < 4096) {i : Nat} (hi : 1 ≤ i ∧ i < 10) {q : Int} (hq : 1 ≤ q ∧ q ≤ 1000) (h0 : f i = 0) :
    ∃ v', hsS v ⟨15, 0, 3, i, 0, 3, q⟩ = v' ∧ hsA v ⟨15, 0, 3, i, 0, 3, q⟩ = [⟨16, 3, 0, i, 0, 0, 0⟩] ∧ Lo v' (n + 1) (upT f i q) := by
  have hr : hasR v = true := by unfold hasR; rw [h.rm]; have := h.ln; simp; omega
  have hf : Pa.findP v.l i = none := by
    cases hc : Pa.findP v.l (i : Int) with
    | none => rfl
    | some c => exact absurd h0 ((h.fi i hi.1 hi.2).1 (by rw [hc]; rfl))
  obtain ⟨e1, e2, e3⟩ := ship_new (v := v) (id := i) (a := 3) (b := q) h.dn (by omega) (by omega) (by omega) hf hr
  refine ⟨_, e1, e2, h.dn, h.rm, by have := h.ln; simp; omega, fun x h1 h2 => ?_, ?_, ?_, fun x hx => ?_⟩
  · show (Pa.findP (Pa.shipL v.l i 3 q) x).isSome = true ↔ _
    rw [Pa.findP_ship e3]
    unfold upT
    by_cases e : x = i
    · subst e
      rw [if_pos rfl, if_pos rfl]
      exact ⟨fun _ => by omega, fun _ => rfl⟩
    · rw [if_neg (by omega), if_neg e]
      exact h.fi x h1 h2
  · show Pa.wentP (Pa.shipL v.l i 3 q) 3 = _
    rw [Pa.wentP_ship e3, if_pos rfl, sumK_up, if_pos hi.2, h0, h.su]
    omega
  · show (Pa.idsP (Pa.shipL v.l i 3 q)).length = _
    rw [Pa.idsP_ship e3, List.length_append, cntK_up f i q h0 (by omega), if_pos hi.2, h.ct]
    rfl
  · unfold upT
    split
    · omega
    · exact h.bd x hx
theorem Lo.again (h : Lo v n f) {i : Nat} (hi : 1 ≤ i ∧ i < 10) {q : Int} (hq : 1 ≤ q ∧ q ≤ 1000) (h0 : f i ≠ 0) :
    hsS v ⟨15, 0, 3, i, 0, 3, q⟩ = v ∧ hsA v ⟨15, 0, 3, i, 0, 3, q⟩ = [⟨16, 3, 0, i, 0, 0, 0⟩] :=
  ship_again (v := v) (id := i) (a := 3) (b := q) h.dn (by omega) (by omega) (by omega) ((h.fi i hi.1 hi.2).2 h0)
end
def tenQ (n : Nat) (f : Nat → Int) : List Value := (List.range n).map (fun k : Nat => .int .i64 (f k))
theorem tenq_len (n : Nat) (f : Nat → Int) : (tenQ n f).length = n := by simp [tenQ]
theorem tenq_get {n : Nat} (f : Nat → Int) {i : Nat} (h : i < n) : (tenQ n f)[i]? = some (.int .i64 (f i)) := by simp [tenQ, h]
theorem tenq_put (n : Nat) (f : Nat → Int) (i : Nat) (v : Int) : (tenQ n f).set i (.int .i64 v) = tenQ n (upT f i v) := by
  apply List.ext_getElem?
  intro k
  rw [List.getElem?_set]
  by_cases h : k < n
  · rw [tenq_get _ h, tenq_get _ h]
    by_cases e : i = k
    · subst e
      simp [tenq_len, h, upT]
    · rw [if_neg e]
      unfold upT
      rw [if_neg (Ne.symm e)]
  · have e1 : (tenQ n f)[k]? = none := by simp [tenQ]; omega
    have e2 : (tenQ n (upT f i v))[k]? = none := by simp [tenQ]; omega
    rw [e1, e2]
    split
    · next e => subst e; simp [tenq_len, h]
    · rfl
theorem index_10 (g : Nat → Int) {i : Nat} (hi : i < 10) (w : World) : (Instr.index 70 (.agg #[.int .i64 (g 0), .int .i64 (g 1), .int .i64 (g 2), .int .i64 (g 3), .int .i64 (g 4), .int .i64 (g 5), .int .i64 (g 6), .int .i64 (g 7), .int .i64 (g 8), .int .i64 (g 9)]) (.int .i64 i)).run Tryz.prog w = .ok (.int .i64 (g i)) w := by
  have hc : (#[.int .i64 (g 0), .int .i64 (g 1), .int .i64 (g 2), .int .i64 (g 3), .int .i64 (g 4), .int .i64 (g 5), .int .i64 (g 6), .int .i64 (g 7), .int .i64 (g 8), .int .i64 (g 9)] : Array Value)[i]? = some (.int .i64 (g i)) := by
    rcases i with _ | _ | _ | _ | _ | _ | _ | _ | _ | _ | i
    all_goals first | rfl | omega
  generalize (#[.int .i64 (g 0), .int .i64 (g 1), .int .i64 (g 2), .int .i64 (g 3), .int .i64 (g 4), .int .i64 (g 5), .int .i64 (g 6), .int .i64 (g 7), .int .i64 (g 8), .int .i64 (g 9)] : Array Value) = cs at hc ⊢
  simp [Instr.index, asIntOf, run_underlying Tryz.underlying70, part, Tryz.isAgg3, Tryz.sizeOf3, hc, Result.andThen]
  intro h3
  omega
/-- All that the law has. -/
structure LSo (w wr : World) (p a : Nat) (E : Nat → Prop) (v : Sh) (f : Nat → Int) : Prop where
  sn : Sp w E wr p v
  ta : Abq wr E a (.cells (tenQ 10 f).toArray 70 (0, 0))
  la : w.heap.size ≤ a
section
variable {w wr u : World} {p a : Nat} {E E' : Nat → Prop} {v v' : Sh} {f : Nat → Int}
theorem LSo.on (k : LSo w wr p a E v f) (hb : Below wr.heap.size wr u) : LSo w u p a E v f := ⟨k.sn.on hb, k.ta.on hb, k.la⟩
theorem LSo.step (k : LSo w wr p a E v f) (s : Sp w E' u p v') (hE : ∀ k, E' k → growE E wr u k) (hk : Rg.Kept (fun k _ => E k) wr u) : LSo w u p a E' v' f := ⟨s, k.ta.step hk hE, k.la⟩
theorem LSo.cell (k : LSo w wr p a E v f) {i : Nat} (hi : i < 10) : wr.cell? ⟨a, i, none⟩ = some (.int .i64 (f i)) := by
  rw [cell_of k.ta.1, List.getElem?_toArray]; exact tenq_get _ hi
theorem LSo.frozen (k : LSo w wr p a E v f) (i : Nat) : wr.frozen? ⟨a, i, none⟩ = false := frozen_of_row _ _ _ _ _ k.ta.1
theorem LSo.lt (k : LSo w wr p a E v f) : a < wr.heap.size := (Array.getElem?_eq_some_iff.1 k.ta.1).1
theorem LSo.set (k : LSo w wr p a E v f) (i : Nat) (x : Int) : LSo w (wr.setCell ⟨a, i, none⟩ (.int .i64 x)) p a E v (upT f i x) := by
  have kk : Rg.Kept (fun k _ => k = a) wr (wr.setCell ⟨a, i, none⟩ (.int .i64 x)) := Rg.Kept.setCell _ (fun _ => rfl)
  refine ⟨⟨k.sn.1.kept kk (fun j _ e1 e2 => k.ta.2 (by rw [← e2]; exact e1)), k.sn.2.trans (kk.bel k.sn.2.size (fun i _ e => by rw [e]; exact k.la))⟩, ⟨?_, k.ta.2⟩, k.la⟩
  rw [heap_setCell_same _ _ _ _ _ _ k.ta.1, ← tenq_put, List.setIfInBounds_toArray]
end
def OnRel (w : World) (p a : Nat) (len : Nat) (i : Value) (wr : World) : Prop :=
  ∃ (j : Nat) (E : Nat → Prop) (v : Sh) (f : Nat → Int), i = .int .i64 j ∧ j ≤ len ∧ j ≤ 80 ∧ Hid (LSo w wr p a E v f) ∧ Hid (Lo v j f)
def OiRel (w : World) (p a : Nat) (E : Nat → Prop) (v : Sh) (f : Nat → Int) (s c i : Value) (wr : World) : Prop :=
  ∃ k : Nat, i = .int .i64 k ∧ s = .int .i64 (sumK f k) ∧ c = .int .i64 (cntK f k) ∧ k ≤ 10 ∧ Hid (LSo w wr p a E v f)

set_option maxRecDepth 100000 in
set_option maxHeartbeats 8000000 in
theorem shipperOnce_walk (l0 : List C21.Cl) (a0 : Option Addr) (cap0 : Nat) (w : World) (w1 : C21.ClsIn w l0 a0) (hg : Gl w) :
    Calls Tryz.prog 6 #[.slice a0 l0.length cap0] w fun e w' => e = .returned (.bool true) ∧ Below w.heap.size w w' := by
  have N := Sp.new (w0 := w) 4096
  obtain ⟨hlen, hcl⟩ := w1
  have HCL := hide hcl
  clear hcl
  go_enter Tryz.func6, Tryz.ntmps6
  go_wp2_with fail
  refine N.mono ?_
  clear N
  rintro e w1 ⟨p, E0, rfl, k0⟩
  have K0 := hide k0
  clear k0
  go_wp2_with fail
  have HS0 : Hid (LSo w (w1.alloc (.cells #[.int .i64 0, .int .i64 0, .int .i64 0, .int .i64 0, .int .i64 0, .int .i64 0, .int .i64 0, .int .i64 0, .int .i64 0, .int .i64 0] 70)) p w1.heap.size E0 (newSh 4096) (fun _ => 0)) := by
    have hb1 : Below w1.heap.size w1 (w1.alloc (.cells #[.int .i64 0, .int .i64 0, .int .i64 0, .int .i64 0, .int .i64 0, .int .i64 0, .int .i64 0, .int .i64 0, .int .i64 0, .int .i64 0] 70)) := (Below.refl _ _).alloc (Nat.le_refl _) _
    have hE := K0.out.1.1
    exact ⟨K0.out.on hb1, ⟨World.alloc_heap_new w1 _, fun e => by have := (hE _ e).2; omega⟩, K0.out.2.size⟩
  clear K0
  generalize w1.alloc (.cells #[.int .i64 0, .int .i64 0, .int .i64 0, .int .i64 0, .int .i64 0, .int .i64 0, .int .i64 0, .int .i64 0, .int .i64 0, .int .i64 0] 70) = W at HS0 ⊢
  obtain ⟨sa, hsa⟩ : ∃ sa, w1.heap.size = sa := ⟨_, rfl⟩
  rw [hsa] at HS0
  rw [hsa]
  clear hsa
  have HL0 := hide lo_new
  go_loopw [18] (fun i wr => OnRel w p sa l0.length i wr) (fun i _ => l0.length - (Go.RowKit.intOf i).toNat)
  case atStart => exact ⟨0, _, _, _, rfl, Nat.zero_le _, by omega, HS0, HL0⟩
  case round =>
    obtain ⟨j, E, v, f, rfl, hj, hj80, HK, HL⟩ := hrel
    clear HS0 HL0
    by_cases hlt : j < l0.length
    rotate_left
    · have ql : ¬ (j : Int) < (l0.length : Int) := by omega
      go_wp2_with (go_at_call 42; refine (shwake_any _ (hg.on HK.out.sn.2)).mono ?_; rintro e u6 ⟨rfl, b6⟩; have HB6 := hide b6; clear b6)
      go_ret
      exact ⟨rfl, bel_on' HK.out.sn.2 HB6.out⟩
    have ql : (j : Int) < (l0.length : Int) := by omega
    obtain ⟨⟨cd, cs, ct, ⟨m0, m1, m2, m3, m4, m5, m6⟩⟩, hc⟩ : ∃ c, l0[j]? = some c := ⟨l0[j], by simp [hlt]⟩
    rcases HCL.out.below HK.out.sn.2 with hh | ⟨bb, off, rfl, hca⟩
    · subst hh; simp at hlt
    have hx := hca j _ hc
    dsimp only at hx
    obtain ⟨⟨c0, c1, c2, c3, c4, c5, c6, c7, c8, c9⟩, -⟩ := hx
    obtain ⟨V, hV⟩ : ∃ V, wr.alloc (.cells #[.int .i64 cd, .int .i64 cs, .int .i64 ct, .int .i64 m0, .int .i64 m1, .int .i64 m2, .int .i64 m3, .int .i64 m4, .int .i64 m5, .int .i64 m6] 62) = V := ⟨_, rfl⟩
    have HBV : Hid (Below wr.heap.size wr V) := by show Below _ _ _; rw [← hV]; exact (Below.refl _ _).alloc (Nat.le_refl _) _
    have hXV : V.heap[wr.heap.size]? = some (.cells #[.int .i64 cd, .int .i64 cs, .int .i64 ct, .int .i64 m0, .int .i64 m1, .int .i64 m2, .int .i64 m3, .int .i64 m4, .int .i64 m5, .int .i64 m6] 62 (0, 0)) := by rw [← hV]; exact World.alloc_heap_new _ _
    have d0 : V.cell? ⟨wr.heap.size, 0, none⟩ = some (.int .i64 cd) := by rw [cell_of hXV]; rfl
    have d1 : V.cell? ⟨wr.heap.size, 1, none⟩ = some (.int .i64 cs) := by rw [cell_of hXV]; rfl
    have d2 : V.cell? ⟨wr.heap.size, 2, none⟩ = some (.int .i64 ct) := by rw [cell_of hXV]; rfl
    have d6 : V.cell? ⟨wr.heap.size, 6, none⟩ = some (.int .i64 m3) := by rw [cell_of hXV]; rfl
    have d9 : V.cell? ⟨wr.heap.size, 9, none⟩ = some (.int .i64 m6) := by rw [cell_of hXV]; rfl
    have hlV : wr.heap.size < V.heap.size := (Array.getElem?_eq_some_iff.1 hXV).1
    have KV := hide (HK.out.on HBV.out)
    clear hca hc hXV
    by_cases h80 : j < 80
    rotate_left
    · have qj : (j : Int) ≥ 80 := by omega
      go_wp2_with (go_at_call 42; refine (shwake_any _ (hg.on KV.out.sn.2)).mono ?_; rintro e u6 ⟨rfl, b6⟩; have HB6 := hide b6; clear b6)
      go_ret
      exact ⟨rfl, bel_on' KV.out.sn.2 HB6.out⟩
    have qj : ¬ (j : Int) ≥ 80 := by omega
    clear HK
    obtain ⟨bq, hbq⟩ : ∃ bq, (cd == 0) = bq := ⟨_, rfl⟩
    go_upto_if 27 with fail
    clear hV c0 c1 c2 c3 c4 c5 c6 c7 c8 c9
    go_cut [7, 8, 9] from 28 to 86 (fun _ _ _ wx => ∃ (E' : Nat → Prop) (v' : Sh) (f' : Nat → Int), Hid (LSo w wx p sa E' v' f') ∧ Hid (Lo v' (j + 1) f'))
    case first =>
      clear hbq
      cases bq
      rotate_left
      · have C1 := KV.out.sn.crash cs ct
        have G0 := hide KV.out.sn.good
        go_wp2_with (first
          | (go_at_call 30; refine C1.mono ?_; clear C1; rintro e u1 ⟨⟨z1, rfl⟩, E1, k1, s1, t1⟩; have LT1 := hide (KV.out.step k1 s1 t1); have S2 := k1.start hg; clear k1 s1 t1)
          | (go_at_call 32; refine S2.mono ?_; clear S2; rintro e u3 ⟨⟨z3, rfl⟩, E3, k3, s3, t3⟩; rw [up_crP G0.out HL.out.dn] at k3; have LT3 := hide (LT1.out.step k3 s3 t3); clear k3 s3 t3 LT1))
        go_meet
        exact ⟨_, _, _, LT3, HL.out.more⟩
      obtain ⟨bu1, bu2⟩ := um_bd m3 9 (by omega) (by omega)
      obtain ⟨bx1, bx2⟩ := um_bd m6 1000 (by omega) (by omega)
      obtain ⟨U, hU⟩ : ∃ U : Nat, um m3 9 = U := ⟨(um m3 9).toNat, by omega⟩
      obtain ⟨X, hX⟩ : ∃ X, um m6 1000 = X := ⟨_, rfl⟩
      obtain ⟨I, hI⟩ : ∃ I : Nat, (1 : Int) + (U : Int) = (I : Int) := ⟨1 + U, by omega⟩
      rw [hX] at bx1 bx2
      rw [hU] at bu1 bu2
      unfold um at hU hX
      have HI : Hid (1 ≤ I ∧ I < 10) := by show 1 ≤ I ∧ I < 10; omega
      have HX : Hid (1 ≤ 1 + X ∧ 1 + X ≤ 1000) := by show 1 ≤ 1 + X ∧ 1 + X ≤ 1000; omega
      have hI10 : (I : Int) < 10 := by omega
      have hII : ((I : Int) != I) = false := by simp
      clear bu1 bu2
      by_cases h0 : f I = 0
      · obtain ⟨v', hv', hx', hc'⟩ := HL.out.new (by omega) HI.out HX.out h0
        have HC := hide hc'
        have H1 := KV.out.sn.handle hg ⟨15, 0, 3, I, 0, 3, 1 + X⟩ hx' hv'
        have H0 := hide h0
        clear hc' hv' hx' h0
        go_wp2_with (go_at_call 34; refine H1.mono ?_; clear H1; rintro e u1 ⟨a1, c1, E1, rfl, x1, k1, s1, t1⟩; have L1 := hide (KV.out.step k1 s1 t1); obtain ⟨b1, o1, rfl, y0, y1, y2, y3, y4⟩ := x1.one; have ta := L1.out.cell HI.out.2; have tf := L1.out.frozen I; have hla := L1.out.lt; rw [H0.out] at ta; clear x1 k1 s1 t1 d0 d1 d2 d6 d9 KV)
        go_meet
        exact ⟨_, _, _, L1.out.set I (1 + X), HC⟩
      · obtain ⟨hv', hx'⟩ := HL.out.again HI.out HX.out h0
        have H1 := KV.out.sn.handle hg ⟨15, 0, 3, I, 0, 3, 1 + X⟩ hx' hv'
        have e0 : (f I == 0) = false := by simp [h0]
        clear hv' hx' h0
        go_wp2_with (go_at_call 34; refine H1.mono ?_; clear H1; rintro e u1 ⟨a1, c1, E1, rfl, x1, k1, s1, t1⟩; have L1 := hide (KV.out.step k1 s1 t1); obtain ⟨b1, o1, rfl, y0, y1, y2, y3, y4⟩ := x1.one; have ta := L1.out.cell HI.out.2; clear x1 k1 s1 t1 d0 d1 d2 d6 d9 KV)
        go_meet
        exact ⟨_, _, _, L1, HL.out.more⟩
    case rest =>
      obtain ⟨E', v', f', K2, HL2⟩ := hcut
      clear KV HL d0 d1 d2 d6 d9 HBV hlV hbq
      have t0 := K2.out.cell (i := 0) (by omega)
      have t1 := K2.out.cell (i := 1) (by omega)
      have t2 := K2.out.cell (i := 2) (by omega)
      have t3 := K2.out.cell (i := 3) (by omega)
      have t4 := K2.out.cell (i := 4) (by omega)
      have t5 := K2.out.cell (i := 5) (by omega)
      have t6 := K2.out.cell (i := 6) (by omega)
      have t7 := K2.out.cell (i := 7) (by omega)
      have t8 := K2.out.cell (i := 8) (by omega)
      have t9 := K2.out.cell (i := 9) (by omega)
      go_wp2_with fail
      clear t0 t1 t2 t3 t4 t5 t6 t7 t8 t9
      go_loopw [10, 11, 88] (fun s c i wr => OiRel w p sa E' v' f' s c i wr) (fun _ _ i _ => 10 - (Go.RowKit.intOf i).toNat)
      case atStart => exact ⟨0, rfl, rfl, rfl, by omega, K2⟩
      case round =>
        obtain ⟨k, rfl, rfl, rfl, hk, K3⟩ := hrel
        clear K2
        have b1 := sumK_bd HL2.out.bd k hk
        have b2 := cntK_bd f' k
        by_cases hk10 : k < 10
        · have qk : (k : Int) < 10 := by omega
          have hix := index_10 f' hk10 wr
          have b3 := HL2.out.bd k hk10
          have HS1 : Hid (sumK f' k + f' k = sumK f' (k + 1)) := rfl
          have HC1 : Hid ((cntK f' (k + 1) : Int) = cntK f' k + if f' k > 0 then 1 else 0) := by show ((cntK f' k + if f' k > 0 then 1 else 0 : Nat) : Int) = _; split <;> simp
          generalize f' k = y at hix b3 HS1 HC1
          by_cases hp : y > 0
          · rw [if_pos hp] at HC1
            go_wp2
            go_roundw
            case rel => exact ⟨k + 1, by go_num, congrArg (Value.int .i64) HS1.out, congrArg (Value.int .i64) HC1.out.symm, by omega, K3⟩
            case measure => simp [Go.RowKit.intOf]; omega
          · rw [if_neg hp] at HC1
            go_wp2
            go_roundw
            case rel => exact ⟨k + 1, by go_num, congrArg (Value.int .i64) HS1.out, by rw [HC1.out]; simp, by omega, K3⟩
            case measure => simp [Go.RowKit.intOf]; omega
        · have qk : ¬ (k : Int) < 10 := by omega
          have ek : k = 10 := by omega
          subst ek
          have WE := K3.out.sn.went 3 HL2.out.su
          obtain ⟨L, hL⟩ : ∃ L, Pa.idsP v'.l = L := ⟨_, rfl⟩
          have HLL : Hid (L.length = cntK f' 10) := by show L.length = _; rw [← hL]; exact HL2.out.ct
          have HIDS := hide hL
          clear hL
          generalize cntK f' 10 = CN at HLL b2 ⊢
          generalize sumK f' 10 = SU at WE b1 ⊢
          have q1 : (SU != SU) = false := by simp
          have q2 : ((CN : Int) != CN) = false := by simp
          go_wp2_with (first
            | (go_at_call 36; refine (shparcels_any p _).mono ?_; rintro e w' ⟨rfl, rfl⟩)
            | (go_at_call 39; refine WE.mono ?_; clear WE; rintro e u3 ⟨rfl, hb3⟩; have K4 := hide (K3.out.on hb3); have ID := K4.out.sn.ids HIDS.out; clear hb3)
            | (go_at_call 37; refine ID.mono ?_; clear ID; rintro e u5 ⟨a5, c5, rfl, -, -, hb5⟩; rw [HLL.out]; have K5 := hide (K4.out.on hb5); clear hb5))
          go_roundw
          case rel => exact ⟨j + 1, _, _, _, by go_num, by omega, by omega, K5, HL2⟩
          case measure => simp [Go.RowKit.intOf]; omega
end Go.Proofs.YtihddekjicpihaaGreatDoor
