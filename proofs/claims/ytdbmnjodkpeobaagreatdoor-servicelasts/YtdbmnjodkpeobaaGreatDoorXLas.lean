/-
  ServiceLasts: the walk.
-/
import Derived.Test.YtdbmnjodkpeobaaGreatDoorSvdC
import Derived.Test.YtdbmnjodkpeobaaGreatDoorSvdE
import Derived.Test.YtdbmnjodkpeobaaGreatDoorBd0
import Derived.Test.YtdbmnjodkpeobaaGreatDoorLater
import Derived.Deep.CutBlock
import Derived.Deep.CutRange
namespace Go.Proofs.YtdbmnjodkpeobaaGreatDoor
open Go.ChangeShapes Go.WideShapes Go.ChangeAt Go.RowKit Go.Maps

def tenL (n : Nat) (f : Nat → Int) : List Value := (List.range n).map (fun k : Nat => .int .i64 (f k))
theorem ten_len (n : Nat) (f : Nat → Int) : (tenL n f).length = n := by simp [tenL]
theorem ten_get {n : Nat} (f : Nat → Int) {i : Nat} (h : i < n) : (tenL n f)[i]? = some (.int .i64 (f i)) := by simp [tenL, h]
theorem ten_put (n : Nat) (f : Nat → Int) (i : Nat) (v : Int) : (tenL n f).set i (.int .i64 v) = tenL n (updN f i v) := by
  apply List.ext_getElem?
  intro k
  rw [List.getElem?_set]
  by_cases h : k < n
  · rw [ten_get _ h, ten_get _ h]
    by_cases e : i = k
    · subst e
      simp [ten_len, h, updN]
    · rw [if_neg e, updN_other _ _ (Ne.symm e)]
  · have e1 : (tenL n f)[k]? = none := by simp [tenL]; omega
    have e2 : (tenL n (updN f i v))[k]? = none := by simp [tenL]; omega
    rw [e1, e2]
    split
    · next e => subst e; simp [ten_len, h]
    · rfl
/-- Block k lies as o, and is none of E. -/
def Ab (w : World) (E : Nat → Prop) (k : Nat) (o : Obj) : Prop := w.heap[k]? = some o ∧ ¬ E k
section
variable {w w' w0 : World} {E E' : Nat → Prop} {k l i : Nat} {o : Obj} {x : Value} {p : Nat} {v : Sv} {n : Nat}
theorem Ab.lt (h : Ab w E k o) : k < w.heap.size := (Array.getElem?_eq_some_iff.1 h.1).1
theorem Ab.step (h : Ab w E k o) (hk : Rg.Kept (fun k _ => E k) w w') (hE : ∀ k, E' k → growE E w w' k) : Ab w' E' k o :=
  ⟨hk.block _ _ h.1 h.2, fun e => (hE k e).elim h.2 (fun e => by have := h.lt; omega)⟩
theorem Ab.on (h : Ab w E k o) (hb : Below w.heap.size w w') : Ab w' E k o := ⟨(hb.block _ h.lt).trans h.1, h.2⟩
theorem Ab.other (h : Ab w E k o) (hne : k ≠ l) : Ab (w.setCell ⟨l, i, none⟩ x) E k o :=
  ⟨(Rg.Kept.setCell (E := fun k _ => k = l) (a := ⟨l, i, none⟩) x (fun _ => rfl)).block _ _ h.1 hne, h.2⟩
theorem Sn.set (k : Sn w0 E w p v n) (hl : ¬ E l) (hw : w0.heap.size ≤ l) : Sn w0 E (w.setCell ⟨l, i, none⟩ x) p v n := by
  have kk : Rg.Kept (fun k _ => k = l) w (w.setCell ⟨l, i, none⟩ x) := Rg.Kept.setCell _ (fun _ => rfl)
  exact ⟨k.1.kept kk (fun j _ e1 e2 => hl (by rw [← e2]; exact e1)), k.2.trans (kk.bel k.2.size (fun i _ e => by rw [e]; exact hw))⟩
end
def Ten (w : World) (E : Nat → Prop) (k : Nat) (f : Nat → Int) : Prop := Ab w E k (.cells (tenL 10 f).toArray 52 (0, 0))
section
variable {w w' : World} {E E' : Nat → Prop} {k l i : Nat} {f : Nat → Int}
theorem Ten.cell (h : Ten w E k f) (hi : i < 10) : w.cell? ⟨k, i, none⟩ = some (.int .i64 (f i)) := by
  rw [cell_of h.1, List.getElem?_toArray]; exact ten_get _ hi
theorem Ten.frozen (h : Ten w E k f) (i : Nat) : w.frozen? ⟨k, i, none⟩ = false := frozen_of_row _ _ _ _ _ h.1
theorem Ten.put (h : Ten w E k f) (i : Nat) (x : Int) : Ten (w.setCell ⟨k, i, none⟩ (.int .i64 x)) E k (updN f i x) := by
  refine ⟨?_, h.2⟩
  rw [heap_setCell_same _ _ _ _ _ _ h.1, ← ten_put, List.setIfInBounds_toArray]
end
theorem Sn.handle2 {w0 w : World} {E : Nat → Prop} {p n : Nat} {v : Sv} (hg : Gl w0) (k : Sn w0 E w p v n) (hn : n < 700000) (m : Ms.Mg) {xs : List Ms.Mg} {v' : Sv} (hx : hdA v m = xs) (hv : hdS v m = v') :
    Calls Tryz.prog 15 #[.pointer (some ⟨p, 0, none⟩), .agg #[.int .i64 m.k, .int .i64 m.fr, .int .i64 m.to, .int .i64 m.id, .int .i64 m.st, .int .i64 m.a, .int .i64 m.b]] w fun e w' => ∃ a c E', e = .returned (.slice a xs.length c) ∧ An w' E' a xs ∧ (∀ ad, a = some ad → w.heap.size ≤ ad.block) ∧ Sn w0 E' w' p v' (n + 3) ∧ (∀ k, E' k → growE E w w' k) ∧ Rg.Kept (fun k _ => E k) w w' := by
  subst hx hv
  refine (shandle_any k.1 (k.gl hg) m hn).mono ?_
  rintro e w' ⟨a, c, E', h1, h2, h3, h4, h5, h6, h7⟩
  refine ⟨a, c, E', h1, ?_, fun ad e => (h4 ad e).2, ⟨h6, k.2.trans (k.1.bel h7)⟩, h5, h7⟩
  rcases h2 with h2 | ⟨b, off, rfl, hc⟩
  · exact .inl h2
  · exact .inr ⟨b, off, rfl, (h4 _ rfl).1, hc⟩
/-- All that the law has. -/
structure LS (w wr : World) (p a b : Nat) (E : Nat → Prop) (v : Sv) (n : Nat) (hold : Int) (j : Nat) (st mu : Nat → Int) : Prop where
  sn : Sn w E wr p v n
  nn : n ≤ 10003 + 3 * j
  ta : Ten wr E a st
  tb : Ten wr E b mu
  ne : a ≠ b
  la : w.heap.size ≤ a
  lb : w.heap.size ≤ b
  lc : Lc v hold j st mu
section
variable {w wr u : World} {p a b : Nat} {E E' : Nat → Prop} {v v' : Sv} {n n' : Nat} {hold : Int} {j j' : Nat} {st mu : Nat → Int}
theorem LS.on (k : LS w wr p a b E v n hold j st mu) (hb : Below wr.heap.size wr u) : LS w u p a b E v n hold j st mu :=
  ⟨k.sn.on hb, k.nn, k.ta.on hb, k.tb.on hb, k.ne, k.la, k.lb, k.lc⟩
/-- The service has gone a step. -/
theorem LS.step (k : LS w wr p a b E v n hold j st mu) (s : Sn w E' u p v' n') (hn : n' ≤ 10003 + 3 * j') (hE : ∀ k, E' k → growE E wr u k) (hk : Rg.Kept (fun k _ => E k) wr u) {st' mu' : Nat → Int} (hc : Lc v' hold j' st' mu') (e1 : st' = st) (e2 : mu' = mu) : LS w u p a b E' v' n' hold j' st mu := by
  subst e1 e2
  exact ⟨s, hn, k.ta.step hk hE, k.tb.step hk hE, k.ne, k.la, k.lb, hc⟩
end
/-- The service and both rows, what the law has written down aside. -/
structure LT (w wr : World) (p a b : Nat) (E : Nat → Prop) (v : Sv) (n : Nat) (st mu : Nat → Int) : Prop where
  sn : Sn w E wr p v n
  ta : Ten wr E a st
  tb : Ten wr E b mu
  ne : a ≠ b
  la : w.heap.size ≤ a
  lb : w.heap.size ≤ b
section
variable {w wr u : World} {p a b : Nat} {E E' : Nat → Prop} {v v' : Sv} {n n' : Nat} {hold : Int} {j j' : Nat} {st mu : Nat → Int}
theorem LS.lt (k : LS w wr p a b E v n hold j st mu) : LT w wr p a b E v n st mu := ⟨k.sn, k.ta, k.tb, k.ne, k.la, k.lb⟩
theorem LT.ls (k : LT w wr p a b E v n st mu) (hn : n ≤ 10003 + 3 * j) (hc : Lc v hold j st mu) : LS w wr p a b E v n hold j st mu := ⟨k.sn, hn, k.ta, k.tb, k.ne, k.la, k.lb, hc⟩
theorem LT.on (k : LT w wr p a b E v n st mu) (hb : Below wr.heap.size wr u) : LT w u p a b E v n st mu := ⟨k.sn.on hb, k.ta.on hb, k.tb.on hb, k.ne, k.la, k.lb⟩
theorem LT.step (k : LT w wr p a b E v n st mu) (s : Sn w E' u p v' n') (hE : ∀ k, E' k → growE E wr u k) (hk : Rg.Kept (fun k _ => E k) wr u) : LT w u p a b E' v' n' st mu :=
  ⟨s, k.ta.step hk hE, k.tb.step hk hE, k.ne, k.la, k.lb⟩
theorem LT.setA (k : LT w wr p a b E v n st mu) (i : Nat) (x : Int) : LT w (wr.setCell ⟨a, i, none⟩ (.int .i64 x)) p a b E v n (updN st i x) mu :=
  ⟨k.sn.set k.ta.2 k.la, k.ta.put i x, k.tb.other k.ne.symm, k.ne, k.la, k.lb⟩
theorem LT.setB (k : LT w wr p a b E v n st mu) (i : Nat) (x : Int) : LT w (wr.setCell ⟨b, i, none⟩ (.int .i64 x)) p a b E v n st (updN mu i x) :=
  ⟨k.sn.set k.tb.2 k.lb, k.ta.other k.ne, k.tb.put i x, k.ne, k.la, k.lb⟩
end
theorem upd_over (f : Nat → Int) (i : Nat) (x y : Int) : updN (updN f i x) i y = updN f i y := by
  funext k
  unfold updN
  split <;> rfl
def LaRel (w : World) (p a b : Nat) (hold : Int) (len : Nat) (i : Value) (wr : World) : Prop :=
  ∃ (j : Nat) (E : Nat → Prop) (v : Sv) (n : Nat) (st mu : Nat → Int), i = .int .i64 j ∧ j ≤ len ∧ j ≤ 80 ∧ Hid (LS w wr p a b E v n hold j st mu)
def LbRel (w : World) (p a b : Nat) (E : Nat → Prop) (v : Sv) (n : Nat) (hold : Int) (j : Nat) (st mu : Nat → Int) (lf i : Value) (wr : World) : Prop :=
  ∃ k : Nat, i = .int .i64 ((k + 1 : Nat) : Int) ∧ lf = .int .i64 (leftK hold st mu k) ∧ k ≤ 9 ∧ Hid (LS w wr p a b E v n hold j st mu)

set_option maxRecDepth 100000 in
set_option maxHeartbeats 8000000 in
theorem serviceLasts_walk (a0 : Int) (l1 : List D19.De) (a1 : Option Addr) (cap1 : Nat) (w : World) (_w0 : (Lit.int .i64 a0).wf = true) (w1 : D19.ClsIn w l1 a1) (hg : Gl w) :
    Calls Tryz.prog 5 #[.int .i64 a0, .slice a1 l1.length cap1] w fun e w' => e = .returned (.bool true) ∧ Below w.heap.size w w' := by
  obtain ⟨ba1, ba2⟩ := um_bd a0 1000 (by omega) (by omega)
  obtain ⟨A, hA⟩ : ∃ A, um a0 1000 = A := ⟨_, rfl⟩
  rw [hA] at ba1 ba2
  unfold um at hA
  have N := Sn.new (w0 := w) (node := 5) (hold := A) (room := 4096) (by omega)
  have HR : Hid (0 ≤ A ∧ A < 1000) := ⟨ba1, ba2⟩
  obtain ⟨hlen, hcl⟩ := w1
  have HCL := hide hcl
  clear _w0 hcl ba1 ba2
  go_enter Tryz.func5, Tryz.ntmps5
  go_wp2_with fail
  refine N.mono ?_
  clear N
  rintro e w1 ⟨p, E0, rfl, k0⟩
  have K0 := hide k0
  clear k0
  go_wp2_with fail
  have HS0 : Hid (LS w ((w1.alloc (.cells #[.int .i64 0, .int .i64 0, .int .i64 0, .int .i64 0, .int .i64 0, .int .i64 0, .int .i64 0, .int .i64 0, .int .i64 0, .int .i64 0] 52)).alloc (.cells #[.int .i64 0, .int .i64 0, .int .i64 0, .int .i64 0, .int .i64 0, .int .i64 0, .int .i64 0, .int .i64 0, .int .i64 0, .int .i64 0] 52)) p w1.heap.size (w1.heap.size + 1) E0 (newSv 5 A 4096) 0 A 0 (fun _ => 0) (fun _ => 0)) := by
    have hb1 : Below w1.heap.size w1 (w1.alloc (.cells #[.int .i64 0, .int .i64 0, .int .i64 0, .int .i64 0, .int .i64 0, .int .i64 0, .int .i64 0, .int .i64 0, .int .i64 0, .int .i64 0] 52)) := (Below.refl _ _).alloc (Nat.le_refl _) _
    have hb2 : Below (w1.alloc (.cells #[.int .i64 0, .int .i64 0, .int .i64 0, .int .i64 0, .int .i64 0, .int .i64 0, .int .i64 0, .int .i64 0, .int .i64 0, .int .i64 0] 52)).heap.size (w1.alloc (.cells #[.int .i64 0, .int .i64 0, .int .i64 0, .int .i64 0, .int .i64 0, .int .i64 0, .int .i64 0, .int .i64 0, .int .i64 0, .int .i64 0] 52)) ((w1.alloc (.cells #[.int .i64 0, .int .i64 0, .int .i64 0, .int .i64 0, .int .i64 0, .int .i64 0, .int .i64 0, .int .i64 0, .int .i64 0, .int .i64 0] 52)).alloc (.cells #[.int .i64 0, .int .i64 0, .int .i64 0, .int .i64 0, .int .i64 0, .int .i64 0, .int .i64 0, .int .i64 0, .int .i64 0, .int .i64 0] 52)) := (Below.refl _ _).alloc (Nat.le_refl _) _
    have hE := K0.out.1.1
    have e1 := World.alloc_heap_new w1 (.cells #[.int .i64 0, .int .i64 0, .int .i64 0, .int .i64 0, .int .i64 0, .int .i64 0, .int .i64 0, .int .i64 0, .int .i64 0, .int .i64 0] 52)
    have e2 := World.alloc_heap_new (w1.alloc (.cells #[.int .i64 0, .int .i64 0, .int .i64 0, .int .i64 0, .int .i64 0, .int .i64 0, .int .i64 0, .int .i64 0, .int .i64 0, .int .i64 0] 52)) (.cells #[.int .i64 0, .int .i64 0, .int .i64 0, .int .i64 0, .int .i64 0, .int .i64 0, .int .i64 0, .int .i64 0, .int .i64 0, .int .i64 0] 52)
    have hz : (w1.alloc (.cells #[.int .i64 0, .int .i64 0, .int .i64 0, .int .i64 0, .int .i64 0, .int .i64 0, .int .i64 0, .int .i64 0, .int .i64 0, .int .i64 0] 52)).heap.size = w1.heap.size + 1 := by simp
    rw [hz] at e2
    have hs := K0.out.2.size
    refine ⟨(K0.out.on hb1).on hb2, by omega, ⟨(hb2.block _ (Array.getElem?_eq_some_iff.1 e1).1).trans e1, fun e => by have := (hE _ e).2; omega⟩, ⟨e2, fun e => by have := (hE _ e).2; omega⟩, by omega, hs, by omega, lc_new HR.out⟩
  clear K0
  generalize (w1.alloc (.cells #[.int .i64 0, .int .i64 0, .int .i64 0, .int .i64 0, .int .i64 0, .int .i64 0, .int .i64 0, .int .i64 0, .int .i64 0, .int .i64 0] 52)).alloc (.cells #[.int .i64 0, .int .i64 0, .int .i64 0, .int .i64 0, .int .i64 0, .int .i64 0, .int .i64 0, .int .i64 0, .int .i64 0, .int .i64 0] 52) = W at HS0 ⊢
  obtain ⟨sa, hsa⟩ : ∃ sa, w1.heap.size = sa := ⟨_, rfl⟩
  obtain ⟨sb, hsb⟩ : ∃ sb, w1.heap.size + 1 = sb := ⟨_, rfl⟩
  rw [hsb, hsa] at HS0
  rw [hsb, hsa]
  clear hsa hsb
  go_loopw [27] (fun i wr => LaRel w p sa sb A l1.length i wr) (fun i _ => l1.length - (intOf i).toNat)
  case atStart => exact ⟨0, _, _, _, _, _, rfl, Nat.zero_le _, by omega, HS0⟩
  case round =>
    obtain ⟨j, E, v, n, st, mu, rfl, hj, hj80, HK⟩ := hrel
    clear HS0
    by_cases hlt : j < l1.length
    rotate_left
    · have ql : ¬ (j : Int) < (l1.length : Int) := by omega
      go_wp2_with (go_at_call 9; refine (swake_any _ (hg.on HK.out.sn.2)).mono ?_; rintro e u6 ⟨rfl, b6⟩; have HB6 := hide b6; clear b6)
      go_ret
      exact ⟨rfl, bel_on' HK.out.sn.2 HB6.out⟩
    have ql : (j : Int) < (l1.length : Int) := by omega
    obtain ⟨⟨cr, un, ci, ca, ct⟩, hc⟩ : ∃ c, l1[j]? = some c := ⟨l1[j], by simp [hlt]⟩
    rcases HCL.out.below HK.out.sn.2 with hh | ⟨bb, off, rfl, hca⟩
    · subst hh; simp at hlt
    have hx := hca j _ hc
    dsimp only at hx
    obtain ⟨⟨c0, c1, c2, c3, c4⟩, -⟩ := hx
    obtain ⟨V, hV⟩ : ∃ V, wr.alloc (.cells #[.bool cr, .bool un, .int .i64 ci, .int .i64 ca, .int .i64 ct] 54) = V := ⟨_, rfl⟩
    have HBV : Hid (Below wr.heap.size wr V) := by show Below _ _ _; rw [← hV]; exact (Below.refl _ _).alloc (Nat.le_refl _) _
    have HXV : Hid (Ab V E wr.heap.size (.cells #[.bool cr, .bool un, .int .i64 ci, .int .i64 ca, .int .i64 ct] 54 (0, 0))) := ⟨by rw [← hV]; exact World.alloc_heap_new _ _, fun e => by have := (HK.out.sn.1.1 _ e).2; omega⟩
    clear hca hc
    have hd5 : ∀ (u : World) (G : Nat → Prop), Ab u G wr.heap.size (.cells #[.bool cr, .bool un, .int .i64 ci, .int .i64 ca, .int .i64 ct] 54 (0, 0)) → u.cell? ⟨wr.heap.size, 0, none⟩ = some (.bool cr) ∧ u.cell? ⟨wr.heap.size, 1, none⟩ = some (.bool un) ∧ u.cell? ⟨wr.heap.size, 2, none⟩ = some (.int .i64 ci) ∧ u.cell? ⟨wr.heap.size, 3, none⟩ = some (.int .i64 ca) ∧ u.cell? ⟨wr.heap.size, 4, none⟩ = some (.int .i64 ct) := fun u G h => by
      refine ⟨?_, ?_, ?_, ?_, ?_⟩ <;> (rw [cell_of h.1]; rfl)
    have HD5 := hide hd5
    clear hd5
    obtain ⟨d0, d1, d2, d3, d4⟩ := HD5.out V E HXV.out
    have KV := hide (HK.out.on HBV.out)
    have HSA : Hid (sa < wr.heap.size ∧ sb < wr.heap.size) := ⟨HK.out.ta.lt, HK.out.tb.lt⟩
    have hlV : wr.heap.size < V.heap.size := HXV.out.lt
    have hn7 : n < 690000 := by have := HK.out.nn; omega
    by_cases h80 : j < 80
    rotate_left
    · have qj : (j : Int) ≥ 80 := by omega
      go_wp2_with (go_at_call 9; refine (swake_any _ (hg.on KV.out.sn.2)).mono ?_; rintro e u6 ⟨rfl, b6⟩; have HB6 := hide b6; clear b6)
      go_ret
      exact ⟨rfl, bel_on' KV.out.sn.2 HB6.out⟩
    have qj : ¬ (j : Int) ≥ 80 := by omega
    clear HK
    go_upto_if 35 with fail
    clear hV c0 c1 c2 c3 c4
    go_cut [10, 11, 12, 13, 14] from 36 to 172 (fun _ _ _ _ _ wx => ∃ (E' : Nat → Prop) (v' : Sv) (n' : Nat) (st' mu' : Nat → Int), Hid (LS w wx p sa sb E' v' n' A (j + 1) st' mu'))
    case first =>
      cases cr
      rotate_left
      · have C1 := KV.out.sn.crash ca ct
        have G0 := hide KV.out.sn.1.good
        have HDN := hide KV.out.lc.dn
        go_wp2_with (first
          | (go_at_call 10; refine C1.mono ?_; clear C1; rintro e u1 ⟨⟨z1, rfl⟩, E1, k1, s1, t1⟩; have LT1 := hide (KV.out.lt.step k1 s1 t1); have D1 := k1.dn (x := true) rfl; have H1 := k1.handle hg (by omega) ⟨1, 0, 5, 1, 0, 1, 0⟩ (cr_deaf v _).1 (cr_deaf v _).2; clear k1 s1 t1)
          | (go_at_call 20; refine D1.mono ?_; clear D1; rintro e w' ⟨rfl, rfl⟩)
          | (go_at_call 15; refine H1.mono ?_; clear H1; rintro e u2 ⟨a2, c2, E2, rfl, -, k2, s2, t2⟩; have LT2 := hide (LT1.out.step k2 s2 t2); have S2 := k2.start hg (by omega); clear k2 s2 t2 LT1)
          | (go_at_call 12; refine S2.mono ?_; clear S2; rintro e u3 ⟨⟨z3, rfl⟩, E3, k3, s3, t3⟩; rw [up_cr G0.out HDN.out] at k3; have LT3 := hide (LT2.out.step k3 s3 t3); clear k3 s3 t3 LT2))
        go_meet
        exact ⟨_, _, _, _, _, LT3.out.ls (by omega) (KV.out.lc.more (Nat.le_succ _))⟩
      obtain ⟨bu1, bu2⟩ := um_bd ci 9 (by omega) (by omega)
      obtain ⟨bx1, bx2⟩ := um_bd ca 300 (by omega) (by omega)
      obtain ⟨U, hU⟩ : ∃ U : Nat, um ci 9 = U := ⟨(um ci 9).toNat, by omega⟩
      obtain ⟨X, hX⟩ : ∃ X, um ca 300 = X := ⟨_, rfl⟩
      obtain ⟨I, hI⟩ : ∃ I : Nat, (1 : Int) + (U : Int) = (I : Int) := ⟨1 + U, by omega⟩
      rw [hX] at bx1 bx2
      rw [hU] at bu1 bu2
      unfold um at hU hX
      have HI : Hid (1 ≤ I ∧ I < 10) := by show 1 ≤ I ∧ I < 10; omega
      have HX : Hid (1 ≤ 1 + X ∧ 1 + X ≤ 300) := by show 1 ≤ 1 + X ∧ 1 + X ≤ 300; omega
      have hI10 : (I : Int) < 10 := by omega
      have hII : ((I : Int) != I) = false := by simp
      clear bu1 bu2
      cases un
      · by_cases h0 : st I = 0
        · obtain ⟨v', K, hv', hx', hc'⟩ := KV.out.lc.do_new (by omega) HI.out HX.out h0
          have HC := hide hc'
          clear hc'
          obtain ⟨VM, hVM⟩ : ∃ VM, V.alloc (.cells #[.int .i64 1, .int .i64 0, .int .i64 5, .int .i64 I, .int .i64 2, .int .i64 (1 + X), .int .i64 0] 29) = VM := ⟨_, rfl⟩
          have hbM : Below V.heap.size V VM := by rw [← hVM]; exact (Below.refl _ _).alloc (Nat.le_refl _) _
          have KM := hide (KV.out.lt.on hbM)
          have XM := hide (HXV.out.on hbM)
          have HNN := hide KV.out.nn
          have H1 := (KV.out.sn.on hbM).handle2 hg (by omega) ⟨1, 0, 5, I, 2, 1 + X, 0⟩ hx' hv'
          have HVM := hide hVM
          clear hVM hbM hx' hv' KV HXV HBV
          go_wp2_with fail
          rw [HVM.out]
          refine H1.mono ?_
          clear H1 d0 d1 d2 d3 d4
          rintro e u1 ⟨a1, c1, E1, rfl, x1, ha1, k1, s1, t1⟩
          have L1 := hide (KM.out.step k1 s1 t1)
          have X1 := hide (XM.out.step t1 s1)
          obtain ⟨b1, o1, rfl, y0, y1, y2, y3, y4⟩ := x1.one
          have HNA : Hid (b1 ≠ sa) := by show b1 ≠ sa; have h1 := ha1 _ rfl; have h2 := KM.out.ta.lt; simp only at h1; omega
          have HNB : Hid (b1 ≠ sb) := by show b1 ≠ sb; have h1 := ha1 _ rfl; have h2 := KM.out.tb.lt; simp only at h1; omega
          have HDA : Hid (wr.heap.size ≠ sa) := by show _ ≠ _; have := HSA.out.1; omega
          have HDB : Hid (wr.heap.size ≠ sb) := by show _ ≠ _; have := HSA.out.2; omega
          obtain ⟨d0, d1, d2, d3, d4⟩ := HD5.out u1 E1 X1.out
          have ta := L1.out.ta.cell HI.out.2
          have tf := L1.out.ta.frozen I
          have Y0 := hide y0
          clear x1 ha1 k1 s1 t1 KM XM
          rw [h0] at ta
          clear h0
          obtain ⟨Z1, hZ1⟩ : ∃ Z1, u1.setCell ⟨sa, I, none⟩ (.int .i64 2) = Z1 := ⟨_, rfl⟩
          obtain ⟨Z2, hZ2⟩ : ∃ Z2, Z1.setCell ⟨sb, I, none⟩ (.int .i64 (1 + X)) = Z2 := ⟨_, rfl⟩
          have HK1 : Hid (LT w Z1 p sa sb E1 v' (n + 3) (updN st I 2) mu) := by show LT _ _ _ _ _ _ _ _ _ _; rw [← hZ1]; exact L1.out.setA I 2
          have HK2 : Hid (LT w Z2 p sa sb E1 v' (n + 3) (updN st I 2) (updN mu I (1 + X))) := by show LT _ _ _ _ _ _ _ _ _ _; rw [← hZ2]; exact HK1.out.setB I (1 + X)
          have HX2 : Hid (Ab Z2 E1 wr.heap.size (.cells #[.bool false, .bool false, .int .i64 ci, .int .i64 ca, .int .i64 ct] 54 (0, 0))) := by show Ab _ _ _ _; rw [← hZ2, ← hZ1]; exact (X1.out.other HDA.out).other HDB.out
          have tb1 := HK1.out.tb.cell HI.out.2
          have tf1 := HK1.out.tb.frozen I
          have ta2 := HK2.out.ta.cell HI.out.2
          have tf2 := HK2.out.ta.frozen I
          have y0' : Z2.cell? ⟨b1, o1, none⟩ = some (.int .i64 K) := by
            rw [← hZ2, ← hZ1]
            exact kept_cellR (Rg.Kept.setCell (E := fun k _ => k = sb) (a := ⟨sb, I, none⟩) _ (fun _ => rfl)) (fun _ => HNB.out) (kept_cellR (Rg.Kept.setCell (E := fun k _ => k = sa) (a := ⟨sa, I, none⟩) _ (fun _ => rfl)) (fun _ => HNA.out) Y0.out)
          rw [updN_same] at ta2
          obtain ⟨g0, g1, g2, g3, g4⟩ := HD5.out Z2 E1 HX2.out
          rcases HC.out with ⟨rfl, hc'⟩ | ⟨rfl, hc'⟩
          · have HC' := hide hc'
            clear hc' HC
            obtain ⟨Z3, hZ3⟩ : ∃ Z3, Z2.setCell ⟨sa, I, none⟩ (.int .i64 1) = Z3 := ⟨_, rfl⟩
            have HK3 : Hid (LT w Z3 p sa sb E1 v' (n + 3) (updN st I 1) (updN mu I (1 + X))) := by show LT _ _ _ _ _ _ _ _ _ _; rw [← hZ3, ← upd_over st I 2 1]; exact HK2.out.setA I 1
            have HX3 : Hid (Ab Z3 E1 wr.heap.size (.cells #[.bool false, .bool false, .int .i64 ci, .int .i64 ca, .int .i64 ct] 54 (0, 0))) := by show Ab _ _ _ _; rw [← hZ3]; exact HX2.out.other HDA.out
            have ta3 := HK3.out.ta.cell HI.out.2
            rw [updN_same] at ta3
            have y3' : Z3.cell? ⟨b1, o1, none⟩ = some (.int .i64 2) := by
              rw [← hZ3]
              exact kept_cellR (Rg.Kept.setCell (E := fun k _ => k = sa) (a := ⟨sa, I, none⟩) _ (fun _ => rfl)) (fun _ => HNA.out) y0'
            obtain ⟨f0, f1, f2, f3, f4⟩ := HD5.out Z3 E1 HX3.out
            go_wp2_with fail
            go_quiet (fail)
            go_wp2
            go_meet
            exact ⟨_, _, _, _, _, (HK3.out.on (belowN (Below.refl _ _) _)).ls (by have := HNN.out; omega) HC'.out⟩
          · have HC' := hide hc'
            clear hc' HC
            go_wp2_with fail
            go_quiet (fail)
            go_wp2
            go_meet
            exact ⟨_, _, _, _, _, (HK2.out.on (belowN (Below.refl _ _) _)).ls (by have := HNN.out; omega) HC'.out⟩
        · obtain ⟨hv', hx'⟩ := KV.out.lc.do_again HI.out (1 + X) h0
          have HC := hide (KV.out.lc.more (Nat.le_succ _))
          obtain ⟨s, hs⟩ : ∃ s, st I = s := ⟨_, rfl⟩
          rw [hs] at hx' h0
          have e0 : (s == 0) = false := by simp [h0]
          have HSS := hide hs
          clear h0 hs
          by_cases h1 : s = 1
          · have e1 : (s == 1) = true := by simp [h1]
            rw [if_pos h1] at hx'
            clear h1
            obtain ⟨VM, hVM⟩ : ∃ VM, V.alloc (.cells #[.int .i64 1, .int .i64 0, .int .i64 5, .int .i64 I, .int .i64 2, .int .i64 (1 + X), .int .i64 0] 29) = VM := ⟨_, rfl⟩
            have hbM : Below V.heap.size V VM := by rw [← hVM]; exact (Below.refl _ _).alloc (Nat.le_refl _) _
            have KM := hide (KV.out.lt.on hbM)
            have XM := hide (HXV.out.on hbM)
            have HNN := hide KV.out.nn
            have H1 := (KV.out.sn.on hbM).handle2 hg (by omega) ⟨1, 0, 5, I, 2, 1 + X, 0⟩ hx' hv'
            have HVM := hide hVM
            clear hVM hbM hx' hv' KV HXV HBV
            go_wp2_with fail
            rw [HVM.out]
            refine H1.mono ?_
            clear H1 d0 d1 d2 d3 d4
            rintro e u1 ⟨a1, c1, E1, rfl, x1, ha1, k1, s1, t1⟩
            have L1 := hide (KM.out.step k1 s1 t1)
            have X1 := hide (XM.out.step t1 s1)
            obtain ⟨b1, o1, rfl, y0, y1, y2, y3, y4⟩ := x1.one
            have HNA : Hid (b1 ≠ sa) := by show b1 ≠ sa; have h1 := ha1 _ rfl; have h2 := KM.out.ta.lt; simp only at h1; omega
            have HNB : Hid (b1 ≠ sb) := by show b1 ≠ sb; have h1 := ha1 _ rfl; have h2 := KM.out.tb.lt; simp only at h1; omega
            have HDA : Hid (wr.heap.size ≠ sa) := by show _ ≠ _; have := HSA.out.1; omega
            have HDB : Hid (wr.heap.size ≠ sb) := by show _ ≠ _; have := HSA.out.2; omega
            obtain ⟨d0, d1, d2, d3, d4⟩ := HD5.out u1 E1 X1.out
            have ta := L1.out.ta.cell HI.out.2
            have tf := L1.out.ta.frozen I
            have Y0 := hide y0
            clear x1 ha1 k1 s1 t1 KM XM
            rw [HSS.out] at ta
            go_wp2_with fail
            go_quiet (fail)
            go_wp2
            go_meet
            exact ⟨_, _, _, _, _, (L1.out.on (belowN (Below.refl _ _) _)).ls (by have := HNN.out; omega) HC.out⟩
          · have e1 : (s == 1) = false := by simp [h1]
            rw [if_neg h1] at hx'
            clear h1
            obtain ⟨VM, hVM⟩ : ∃ VM, V.alloc (.cells #[.int .i64 1, .int .i64 0, .int .i64 5, .int .i64 I, .int .i64 2, .int .i64 (1 + X), .int .i64 0] 29) = VM := ⟨_, rfl⟩
            have hbM : Below V.heap.size V VM := by rw [← hVM]; exact (Below.refl _ _).alloc (Nat.le_refl _) _
            have KM := hide (KV.out.lt.on hbM)
            have XM := hide (HXV.out.on hbM)
            have HNN := hide KV.out.nn
            have H1 := (KV.out.sn.on hbM).handle2 hg (by omega) ⟨1, 0, 5, I, 2, 1 + X, 0⟩ hx' hv'
            have HVM := hide hVM
            clear hVM hbM hx' hv' KV HXV HBV
            go_wp2_with fail
            rw [HVM.out]
            refine H1.mono ?_
            clear H1 d0 d1 d2 d3 d4
            rintro e u1 ⟨a1, c1, E1, rfl, x1, ha1, k1, s1, t1⟩
            have L1 := hide (KM.out.step k1 s1 t1)
            have X1 := hide (XM.out.step t1 s1)
            obtain ⟨b1, o1, rfl, y0, y1, y2, y3, y4⟩ := x1.one
            have HNA : Hid (b1 ≠ sa) := by show b1 ≠ sa; have h1 := ha1 _ rfl; have h2 := KM.out.ta.lt; simp only at h1; omega
            have HNB : Hid (b1 ≠ sb) := by show b1 ≠ sb; have h1 := ha1 _ rfl; have h2 := KM.out.tb.lt; simp only at h1; omega
            have HDA : Hid (wr.heap.size ≠ sa) := by show _ ≠ _; have := HSA.out.1; omega
            have HDB : Hid (wr.heap.size ≠ sb) := by show _ ≠ _; have := HSA.out.2; omega
            obtain ⟨d0, d1, d2, d3, d4⟩ := HD5.out u1 E1 X1.out
            have ta := L1.out.ta.cell HI.out.2
            have tf := L1.out.ta.frozen I
            have Y0 := hide y0
            clear x1 ha1 k1 s1 t1 KM XM
            rw [HSS.out] at ta
            go_wp2_with fail
            go_quiet (fail)
            go_wp2
            go_meet
            exact ⟨_, _, _, _, _, (L1.out.on (belowN (Below.refl _ _) _)).ls (by have := HNN.out; omega) HC.out⟩
      · obtain ⟨v', hv', hx', hc'⟩ := KV.out.lc.undo (by omega) HI.out (1 + X)
        have HC := hide hc'
        obtain ⟨VM, hVM⟩ : ∃ VM, V.alloc (.cells #[.int .i64 4, .int .i64 0, .int .i64 5, .int .i64 I, .int .i64 2, .int .i64 (1 + X), .int .i64 0] 29) = VM := ⟨_, rfl⟩
        have hbM : Below V.heap.size V VM := by rw [← hVM]; exact (Below.refl _ _).alloc (Nat.le_refl _) _
        have KM := hide (KV.out.lt.on hbM)
        have XM := hide (HXV.out.on hbM)
        have HNN := hide KV.out.nn
        have H1 := (KV.out.sn.on hbM).handle2 hg (by omega) ⟨4, 0, 5, I, 2, 1 + X, 0⟩ hx' hv'
        clear hc' hbM hx' hv' KV HXV HBV
        obtain ⟨m0, m1, m2, m3, m4, m5, m6⟩ := seven_of (show VM.heap[V.heap.size]? = some (.cells #[.int .i64 4, .int .i64 0, .int .i64 5, .int .i64 I, .int .i64 2, .int .i64 (1 + X), .int .i64 0] 29 (0, 0)) by rw [← hVM]; exact World.alloc_heap_new _ _)
        go_wp2_with fail
        clear hVM m0 m1 m2 m3 m4 m5 m6
        refine H1.mono ?_
        clear H1 d0 d1 d2 d3 d4
        rintro e u1 ⟨a1, c1, E1, rfl, x1, ha1, k1, s1, t1⟩
        have L1 := hide (KM.out.step k1 s1 t1)
        have X1 := hide (XM.out.step t1 s1)
        obtain ⟨b1, o1, rfl, y0, y1, y2, y3, y4⟩ := x1.one
        have hne : b1 ≠ sa := by have h1 := ha1 _ rfl; have h2 := KM.out.ta.lt; simp only at h1; omega
        have hne2 : wr.heap.size ≠ sa := by have := HSA.out.1; omega
        have HNE := hide hne
        have HNE2 := hide hne2
        obtain ⟨d0, d1, d2, d3, d4⟩ := HD5.out u1 E1 X1.out
        have ta := L1.out.ta.cell HI.out.2
        have tf := L1.out.ta.frozen I
        have Y0 := hide y0
        clear x1 ha1 k1 s1 t1 hne hne2 KM XM
        obtain ⟨s, hs⟩ : ∃ s, st I = s := ⟨_, rfl⟩
        rw [hs] at ta HC
        have HSS := hide hs
        clear hs
        by_cases h2 : s = 2
        · have e2 : (s != 2) = false := by simp [h2]
          rw [if_pos h2] at HC
          clear h2
          go_wp2_with fail
          go_quiet (fail)
          go_wp2
          go_meet
          exact ⟨_, _, _, _, _, (L1.out.on (belowN (Below.refl _ _) _)).ls (by have := HNN.out; omega) HC.out⟩
        · have e2 : (s != 2) = true := by simp [h2]
          rw [if_neg h2] at HC
          clear h2
          go_upto_region 27 with fail
          have L2 := hide (L1.out.setA I 3)
          have X2 := hide (X1.out.other (i := I) (x := .int .i64 3) HNE2.out)
          have y0 := kept_cellR (Rg.Kept.setCell (E := fun k _ => k = sa) (a := ⟨sa, I, none⟩) (.int .i64 3) (fun _ => rfl)) (fun _ => HNE.out) Y0.out
          clear ta tf d0 d1 d2 d3 d4 L1 X1 y1 y2 y3 y4
          generalize u1.setCell ⟨sa, I, none⟩ (.int .i64 3) = u2 at L2 X2 y0 ⊢
          obtain ⟨d0, d1, d2, d3, d4⟩ := HD5.out u2 E1 X2.out
          go_wp2_with fail
          go_quiet (fail)
          go_wp2
          go_meet
          exact ⟨_, _, _, _, _, (L2.out.on (belowN (Below.refl _ _) _)).ls (by have := HNN.out; omega) HC.out⟩
    case rest =>
      obtain ⟨E1, v1, n1, st1, mu1, HK1⟩ := hcut
      clear d0 d1 d2 d3 d4 HXV HBV KV HD5
      go_wp2_with fail
      go_loopw [15, 16] (fun lf i wr => LbRel w p sa sb E1 v1 n1 A (j + 1) st1 mu1 lf i wr) (fun _ i _ => 10 - (intOf i).toNat)
      case atStart => exact ⟨0, rfl, rfl, by omega, HK1⟩
      case round =>
        rename World => wi
        obtain ⟨k, rfl, rfl, hk, HK⟩ := hrel
        clear HK1
        have hbd := leftK_bd (st := st1) HK.out.lc.mu_ HR.out k (by omega)
        obtain ⟨lf, hlf⟩ : ∃ lf, leftK A st1 mu1 k = lf := ⟨_, rfl⟩
        rw [hlf] at hbd
        obtain ⟨hb1, hb2⟩ := hbd
        by_cases hk9 : k < 9
        · obtain ⟨I, hI⟩ : ∃ I : Nat, k + 1 = I := ⟨_, rfl⟩
          have cs := HK.out.ta.cell (i := k + 1) (by omega)
          have cm := HK.out.tb.cell (i := k + 1) (by omega)
          have hs := HK.out.lc.ss (k + 1) (by omega)
          have hm := HK.out.lc.mu_ (k + 1) (by omega)
          have hl2 : leftK A st1 mu1 (k + 1) = lf - (if st1 (k + 1) = 1 then mu1 (k + 1) else 0) := by show leftK A st1 mu1 k - _ = _; rw [hlf]
          obtain ⟨x, hx⟩ : ∃ x, st1 (k + 1) = x := ⟨_, rfl⟩
          obtain ⟨y, hy⟩ : ∃ y, mu1 (k + 1) = y := ⟨_, rfl⟩
          rw [hx, hy] at hl2
          rw [hx] at cs hs
          rw [hy] at cm hm
          rw [hI] at cs cm hs
          rw [hlf, hI]
          have q1 : (I : Int) ≤ 9 := by omega
          have CS : ∀ u : Later wi, Calls Tryz.prog 17 #[.pointer (some ⟨p, 0, none⟩), .int .i64 (I : Int)] u.w fun e w' => e = .returned (.int .i64 x) ∧ ∃ u' : Later wi, w' = u'.w := fun u => calls_later u (((HK.out.on u.below).sn.state (Hd.wf_of (by omega) (by omega)) hs).mono (fun _ _ ⟨h1, h2⟩ => ⟨h1, by rw [← h2]; exact Below.refl _ _⟩))
          have z0 := Later.cell cs
          have z1 := Later.cell cm
          have hne : Nonempty (Later wi) := ⟨Later.now wi⟩
          have NX : Hid (∀ u : Later wi, LS w u.w p sa sb E1 v1 n1 A (j + 1) st1 mu1) := fun u => HK.out.on u.below
          have hxx : (x != x) = false := by simp
          have HI := hide hI
          have HL2 := hide hl2
          have HLF := hide hlf
          obtain ⟨hm1, hm2⟩ := hm
          have hI10 : (I : Int) < 10 := by omega
          have hlo : -3000 ≤ lf - y := by omega
          have hhi : lf - y ≤ 1000 := by omega
          clear HK hx hy hl2 hlf hI hs cs cm hb1 hb2 hk
          by_cases hs1 : x = 1
          · have e1 : (x == 1) = true := by simp [hs1]
            rw [if_pos hs1] at HL2
            clear hs1
            go_wp2_with fail
            refine region_later (by kernel_rfl) (by kernel_rfl) ?_
            repeat (first | go_big_quiet_step (exact CS _) | quiet_step (exact CS _))
            refine wpQuiet_nil ?_
            intro u
            have y0 := z0 u
            have y1 := z1 u
            go_wp2
            go_roundw
            case rel => exact ⟨k + 1, by have := HI.out; go_num, by rw [HL2.out], by omega, NX.out u⟩
            case measure => have := HI.out; simp [intOf]; omega
          · have e1 : (x == 1) = false := by simp [hs1]
            rw [if_neg hs1] at HL2
            clear hs1
            go_wp2_with fail
            refine region_later (by kernel_rfl) (by kernel_rfl) ?_
            repeat (first | go_big_quiet_step (exact CS _) | quiet_step (exact CS _))
            refine wpQuiet_nil ?_
            intro u
            have y0 := z0 u
            have y1 := z1 u
            go_wp2
            go_roundw
            case rel => exact ⟨k + 1, by have := HI.out; go_num, by rw [HL2.out]; congr 1; omega, by omega, NX.out u⟩
            case measure => have := HI.out; simp [intOf]; omega
        · obtain rfl : k = 9 := by omega
          have L := HK.out.sn.left (HK.out.lc.left.trans hlf)
          have hp : ¬ lf < 0 := by have := HK.out.lc.pos; rw [HK.out.lc.left, hlf] at this; omega
          have hxx : (lf != lf) = false := by simp
          rw [hlf]
          clear hlf hb1 hb2 hk hk9
          go_wp2_with (go_at_call 19; refine L.mono ?_; clear L; rintro e w' ⟨rfl, rfl⟩)
          go_roundw
          case rel => exact ⟨j + 1, _, _, _, _, _, by go_num, by omega, by omega, HK⟩
          case measure => simp [intOf]; omega
end Go.Proofs.YtdbmnjodkpeobaaGreatDoor
