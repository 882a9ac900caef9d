/-
  TallyStays's walk.
-/
import Derived.Test.YtlnmjoolbifgjaaTlyR
import Derived.Test.YtlnmjoolbifgjaaTlyA
import Derived.Test.YtlnmjoolbifgjaaTlyD
import Derived.Test.YtlnmjoolbifgjaaNum
namespace Go.Proofs.Ytlnmjoolbifgjaa
open Go.ChangeShapes Go.WideShapes Go.ChangeAt Go.RowKit

theorem kept_cell {X Y : World} {E : Nat → Obj → Prop} {B i : Nat} {v : Value} (hk : Rg.Kept E X Y) (hn : ∀ o, ¬ E B o) (hc : X.cell? ⟨B, i, none⟩ = some v) : Y.cell? ⟨B, i, none⟩ = some v := by
  have hlt : B < X.heap.size := World.block_lt_of_cell? _ _ hc
  have e : X.heap[B]? = some X.heap[B] := Array.getElem?_eq_getElem hlt
  rw [World.cell?_of_block (a := ⟨B, i, none⟩) ((hk.block _ _ e (hn _)).trans e.symm)]
  exact hc
theorem said_no {t : Ta} {j : Nat} (hd : t.d = false) (hj : j < t.n) (hy : t.y j = false) : t.said (j : Int) false = t.close := by
  unfold Ta.said
  rw [if_pos ⟨⟨hd, by omega, by omega⟩, by simpa using hy⟩]
  rfl
/-- The six at s, as v says. -/
def Six (w : World) (s : Nat) (v : Nat → Int) : Prop := w.heap[s]? = some (.cells (row 6 v).toArray 39 (0, 0))
theorem Six.cell {w : World} {s : Nat} {v : Nat → Int} (h : Six w s v) {i : Nat} (hi : i < 6) : w.cell? ⟨s, i, none⟩ = some (.int .i64 (v i)) := by
  rw [cell_of h, List.getElem?_toArray]; exact row_get _ hi
theorem Six.frozen {w : World} {s : Nat} {v : Nat → Int} (h : Six w s v) (i : Nat) : w.frozen? ⟨s, i, none⟩ = false := frozen_of_row _ _ _ _ _ h
/-- What the law has of what each said. -/
structure Told (t : Ta) (v : Nat → Int) (C : Bool) : Prop where
  may : ∀ i, i < t.n → v i = 0 ∨ v i = 1 ∨ v i = -1
  yes : ∀ i, i < t.n → (v i = 1 ↔ t.y i = true)
  no : ∀ i, i < t.n → v i = -1 → t.d = true
  cl : C = true → t.d = true
structure Sst (w wr : World) (p s : Nat) (M : Nat) (t : Ta) (v : Nat → Int) (C : Bool) : Prop where
  a : Tk w.heap.size wr p t
  f : Six wr s v
  ne : p ≠ s
  low : w.heap.size ≤ s
  bel : Below w.heap.size w wr
  n : t.n = M
  told : Told t v C
theorem Sst.on {w wr u : World} {p s M : Nat} {t : Ta} {v : Nat → Int} {C : Bool} (k : Sst w wr p s M t v C) (hb : Below wr.heap.size wr u) : Sst w u p s M t v C :=
  ⟨k.a.on hb, (hb.block _ (Array.getElem?_eq_some_iff.1 k.f).1).trans k.f, k.ne, k.low, bel_on' k.bel hb, k.n, k.told⟩
theorem Sst.step {w wr V : World} {p s M : Nat} {t t' : Ta} {v : Nat → Int} {C C' : Bool} (k : Sst w wr p s M t v C) (k2 : Tk w.heap.size V p t') (o2 : Rg.Kept (Own1 p) wr V) (hn : t'.n = M) (ht : Told t' v C') : Sst w V p s M t' v C' :=
  ⟨k2, o2.block _ _ k.f (fun h => k.ne h.symm), k.ne, k.low, k.bel.trans (k.a.bel o2), hn, ht⟩
theorem Sst.put {w wr V : World} {p s M : Nat} {t t' : Ta} {v : Nat → Int} {C : Bool} (k : Sst w wr p s M t v C) (k2 : Tk w.heap.size V p t') (o2 : Rg.Kept (Own1 p) wr V) (hn : t'.n = M) {i : Nat} (hi : i < 6) (x : Int) (ht : Told t' (updI v i x) C) :
    (V.cell? ⟨s, i, none⟩ = some (.int .i64 (v i)) ∧ V.frozen? ⟨s, i, none⟩ = false) ∧ Sst w (V.setCell ⟨s, i, none⟩ (.int .i64 x)) p s M t' (updI v i x) C := by
  have hf : Six V s v := o2.block _ _ k.f (fun h => k.ne h.symm)
  have hb : Below w.heap.size w V := k.bel.trans (k.a.bel o2)
  have kk : Rg.Kept (fun k _ => k = s) V (V.setCell ⟨s, i, none⟩ (.int .i64 x)) := Rg.Kept.setCell _ (fun _ => rfl)
  refine ⟨⟨hf.cell hi, hf.frozen i⟩, ⟨k2.kept kk (fun _ h => k.ne h), ?_, k.ne, k.low, hb.trans (kk.bel hb.size (fun i _ e => by rw [e]; exact k.low)), hn, ht⟩⟩
  unfold Six
  rw [heap_setCell_same _ _ _ _ _ _ hf, ← row_put, List.setIfInBounds_toArray]
theorem Told.close {t : Ta} {v : Nat → Int} {C : Bool} (h : Told t v C) : Told t.close v true := ⟨h.may, h.yes, fun _ _ _ => rfl, fun _ => rfl⟩
theorem Told.new (n : Nat) : Told (newT n) (fun _ => 0) false := ⟨fun _ _ => .inl rfl, (fun _ _ => by unfold newT; simp), (fun _ _ h => absurd h (by decide)), (fun h => Bool.noConfusion h)⟩
/-- What Say refuses changes nothing. -/
theorem said_false {t : Ta} {i : Int} {b : Bool} (h : t.sayB i b = false) : t.said i b = t := by
  refine said_none (fun e => ?_)
  unfold Ta.sayB at h
  rw [if_pos e.1, e.2] at h
  cases h
theorem said_open {t : Ta} {i : Int} {b : Bool} (h : t.sayB i b = true) : t.fits i := by
  unfold Ta.sayB at h
  split at h
  · assumption
  · cases h
/-- A yes that is taken. -/
theorem Told.yes_ {t : Ta} {v : Nat → Int} {C : Bool} (h : Told t v C) {i : Nat} (hs : t.sayB (i : Int) true = true) : (v i = 0 ∨ v i = 1) ∧ Told (t.said (i : Int) true) (updI v i 1) C := by
  have hf := said_open hs
  have hd : t.d = false := hf.1
  have hi : i < t.n := by have := hf.2.2; omega
  have hv : v i = 0 ∨ v i = 1 := by
    rcases h.may i hi with e | e | e
    · exact .inl e
    · exact .inr e
    · have := h.no i hi e; rw [hd] at this; cases this
  have hC : C = false := by
    cases C
    · rfl
    · have := h.cl rfl; rw [hd] at this; cases this
  refine ⟨hv, ?_⟩
  cases hy : t.y i
  · rw [said_yes hd hi hy]
    refine ⟨fun k hk => ?_, fun k hk => ?_, fun k hk e => ?_, fun e => by rw [hC] at e; cases e⟩
    · unfold updI
      split
      · exact .inr (.inl rfl)
      · exact h.may k hk
    · unfold updI yesB
      dsimp only
      split
      · simp
      · exact h.yes k hk
    · exfalso
      unfold updI at e
      split at e
      · cases e
      · have := h.no k hk e; rw [hd] at this; cases this
  · rw [said_none (fun e => by have := e.2; rw [Int.toNat_natCast, hy] at this; cases this)]
    have e1 : updI v i 1 = v := by
      funext k
      unfold updI
      split
      · next e => subst e; exact ((h.yes k hi).2 hy).symm
      · rfl
    rw [e1]
    exact h
/-- A no that is taken. -/
theorem Told.no_ {t : Ta} {v : Nat → Int} {C : Bool} (h : Told t v C) {i : Nat} (hs : t.sayB (i : Int) false = true) : v i = 0 ∧ Told (t.said (i : Int) false) (updI v i (-1)) C := by
  have hf := said_open hs
  have hd : t.d = false := hf.1
  have hi : i < t.n := by have := hf.2.2; omega
  have hy : t.y i = false := by
    cases e : t.y i
    · rfl
    · unfold Ta.sayB at hs; rw [if_pos hf, Int.toNat_natCast, e] at hs; cases hs
  have hv : v i = 0 := by
    rcases h.may i hi with e | e | e
    · exact e
    · have := (h.yes i hi).1 e; rw [hy] at this; cases this
    · have := h.no i hi e; rw [hd] at this; cases this
  refine ⟨hv, ?_⟩
  have e2 : t.said (i : Int) false = t.close := by unfold Ta.said; rw [if_pos ⟨hf, by rw [Int.toNat_natCast]; exact hy⟩]; rfl
  rw [e2]
  refine ⟨fun k hk => ?_, fun k hk => ?_, fun _ _ _ => rfl, fun _ => rfl⟩
  · unfold updI
    split
    · exact .inr (.inr rfl)
    · exact h.may k hk
  · unfold updI
    split
    · next e => subst e; show _ ↔ t.y k = true; rw [hy]; simp
    · exact h.yes k hk
/-- From one round to the next: what was decided stays. -/
structure Then (t t' : Ta) (C' : Bool) : Prop where
  d : t.d = true → t'.f = t.f ∧ t'.d = true
  g : t'.good
  c : C' = true → t'.d = true
theorem Then.ways {t t' : Ta} {C' : Bool} (h : Then t t' C') : (t.d = true ∧ t'.d = true ∧ t'.f = t.f) ∨ (t.d = false ∧ t'.d = true) ∨ (t.d = false ∧ t'.d = false ∧ t'.f = false ∧ C' = false) := by
  cases e : t.d
  · cases e2 : t'.d
    · refine .inr (.inr ⟨rfl, rfl, h.g.open_f e2, ?_⟩)
      cases C'
      · rfl
      · have := h.c rfl; rw [e2] at this; cases this
    · exact .inr (.inl ⟨rfl, rfl⟩)
  · exact .inl ⟨rfl, (h.d e).2, (h.d e).1⟩
theorem then_close {t : Ta} (g : t.good) : Then t t.close true := ⟨fun _ => ⟨rfl, rfl⟩, g.close, fun _ => rfl⟩
theorem then_said {t : Ta} (g : t.good) (i : Int) (b C : Bool) (hc : C = true → t.d = true) : Then t (t.said i b) C := by
  have same : t.d = true → t.said i b = t := fun e => said_none (fun h => by have := h.1.1; rw [e] at this; cases this)
  exact ⟨fun e => by rw [same e]; exact ⟨rfl, e⟩, g.said i b, fun e => by rw [same (hc e)]; exact hc e⟩
def SRel (w : World) (p s M : Nat) (len : Nat) (yv ov cv i : Value) (wr : World) : Prop :=
  ∃ (j : Nat) (t : Ta) (v : Nat → Int) (C : Bool), i = .int .i64 j ∧ yv = .bool t.f ∧ ov = .bool t.d ∧ cv = .bool C ∧ j ≤ len ∧ Hid (Sst w wr p s M t v C)
set_option maxRecDepth 100000 in
set_option maxHeartbeats 8000000 in
theorem tallyStays_walk (a0 : Int) (l1 : List Cl) (a1 : Option Addr) (cap1 : Nat) (w : World) (_w0 : (Lit.int .i64 a0).wf = true) (w1 : ClsIn w l1 a1) :
    Calls Try.prog 5 #[.int .i64 a0, .slice a1 l1.length cap1] w fun e w' => e = .returned (.bool true) ∧ Below w.heap.size w w' := by
  obtain ⟨hlen, hcl⟩ := w1
  have HCL := hide hcl
  clear hcl _w0
  have HAW := hide tawake_any
  obtain ⟨bA1, bA2⟩ := um_bd a0 6 (by omega) (by omega)
  obtain ⟨A, hA⟩ : ∃ A, um a0 6 = A := ⟨_, rfl⟩
  rw [hA] at bA1 bA2
  unfold um at hA
  have cM : cutN (1 + A) = (1 + A).toNat := by unfold cutN; rw [if_neg (by omega), if_neg (by omega)]
  go_enter Try.func5, Try.ntmps5
  go_wp2_with (go_at_call 7; refine (tnew_any _ _).mono ?_; rintro e u1 ⟨p, rfl, k1, b1⟩; rw [cM] at k1; have HK1 := hide k1; have HB1 := hide b1; clear k1 b1)
  clear hA cM
  obtain ⟨M, hM⟩ : ∃ M : Nat, 1 + A = M := ⟨(1 + A).toNat, by omega⟩
  have hM1 : 1 ≤ M := by omega
  have hM6 : M ≤ 6 := by omega
  have hMo : (M : Int) ≤ 6 := by omega
  rw [hM, Int.toNat_natCast] at HK1
  rw [hM]
  clear hM bA1 bA2
  obtain ⟨s, hs⟩ : ∃ s, u1.heap.size = s := ⟨_, rfl⟩
  have HST : Hid (Sst w (u1.alloc (.cells #[.int .i64 0, .int .i64 0, .int .i64 0, .int .i64 0, .int .i64 0, .int .i64 0] 39)) p s M (newT M) (fun _ => 0) false) := by
    have hb : Below u1.heap.size u1 (u1.alloc (.cells #[.int .i64 0, .int .i64 0, .int .i64 0, .int .i64 0, .int .i64 0, .int .i64 0] 39)) := (Below.refl _ _).alloc (Nat.le_refl _) _
    have h1 := HK1.out.lt
    have h2 := HB1.out.size
    refine ⟨HK1.out.on hb, ?_, by omega, by omega, bel_on' HB1.out hb, rfl, Told.new M⟩
    rw [← hs]
    exact World.alloc_heap_new _ _
  rw [hs]
  clear HK1 HB1 hs
  have HF0 := hide (newT_f hM1)
  go_loopw [7, 8, 9, 29] (fun yv ov cv i wr => SRel w p s M l1.length yv ov cv i wr) (fun _ _ _ i _ => l1.length - (intOf i).toNat)
  case atStart => exact ⟨0, newT M, _, false, rfl, by rw [HF0.out], rfl, rfl, Nat.zero_le _, HST⟩
  case round =>
    obtain ⟨j, t, v, C, rfl, rfl, rfl, rfl, hj, HS⟩ := hrel
    clear HST HF0
    by_cases hlt : j < l1.length
    · have ql : (j : Int) < (l1.length : Int) := by omega
      obtain ⟨cl, hc⟩ : ∃ cl, l1[j]? = some cl := ⟨l1[j], by simp [hlt]⟩
      rcases HCL.out.below HS.out.bel with h0 | ⟨bc, off, rfl, hca⟩
      · subst h0; simp at hlt
      obtain ⟨⟨c0, c1, c2⟩, -⟩ := hca j cl hc
      obtain ⟨cc, ci, cy⟩ := cl
      dsimp only at c0 c1 c2
      clear hca hc
      by_cases h100 : j < 100
      · have q100 : ¬ (j : Int) ≥ 100 := by omega
        cases cc
        · obtain ⟨U, hU⟩ : ∃ U, U = wr.alloc (.cells #[.bool false, .int .i64 ci, .bool cy] 28) := ⟨_, rfl⟩
          have hbU : Below wr.heap.size wr U := by rw [hU]; exact (Below.refl _ _).alloc (Nat.le_refl _) _
          have HSU := hide (HS.out.on hbU)
          have k0 : U.cell? ⟨wr.heap.size, 0, none⟩ = some (.bool false) := by rw [hU]; simp
          have k1 : U.cell? ⟨wr.heap.size, 1, none⟩ = some (.int .i64 ci) := by rw [hU]; simp
          have k2 : U.cell? ⟨wr.heap.size, 2, none⟩ = some (.bool cy) := by rw [hU]; simp
          have hbx : wr.heap.size ≠ p ∧ wr.heap.size ≠ s ∧ wr.heap.size < U.heap.size := by
            have h1 := HS.out.a.lt
            have h2 : s < wr.heap.size := (Array.getElem?_eq_some_iff.1 HS.out.f).1
            exact ⟨by omega, by omega, by rw [hU]; simp⟩
          have HUW := hide hU
          have hg := HS.out.a.2
          clear hU hbU HS
          obtain ⟨bK1, bK2⟩ := um_bd ci M (by omega) (by omega)
          obtain ⟨K0, hK0⟩ : ∃ K, um ci M = K := ⟨_, rfl⟩
          rw [hK0] at bK1 bK2
          unfold um at hK0
          obtain ⟨K, rfl⟩ : ∃ K : Nat, K0 = K := ⟨K0.toNat, by omega⟩
          have hK6 : K < 6 := by omega
          have hKo : (K : Int) < 6 := by omega
          have C1 := tsay_any HSU.out.a (K : Int) cy
          cases hR : t.sayB (K : Int) cy
          · rw [hR, said_false hR] at C1
            obtain ⟨v', hv⟩ : ∃ v', v = v' := ⟨_, rfl⟩
            rw [hv] at HSU
            obtain ⟨T, hT⟩ : ∃ T, t = T := ⟨_, rfl⟩
            have hTn : T.n = M := by rw [← hT]; exact HSU.out.n
            have hTold : Told T v' C := by rw [← hT]; exact HSU.out.told
            rw [hT] at C1
            have HN : Hid (∀ X, Tk w.heap.size X p T → Rg.Kept (Own1 p) U X → True ∧ Sst w X p s M T v' C) := fun X K2 O2 => ⟨trivial, HSU.out.step K2 O2 hTn hTold⟩
            rw [hT] at hg ⊢
            obtain ⟨F0, hTf⟩ : ∃ F0, T.f = F0 := ⟨_, rfl⟩
            obtain ⟨D0, hTd⟩ : ∃ D0, T.d = D0 := ⟨_, rfl⟩
            have HW : Hid ((F0 = false ∧ D0 = false ∧ C = false) ∨ (F0 = false ∧ D0 = true) ∨ (F0 = true ∧ D0 = true)) := by
              show _ ∨ _ ∨ _
              cases D0
              · refine .inl ⟨hTf.symm.trans (hg.open_f hTd), rfl, ?_⟩
                cases C
                · rfl
                · have := hTold.cl rfl; rw [hTd] at this; cases this
              · cases F0
                · exact .inr (.inl ⟨rfl, rfl⟩)
                · exact .inr (.inr ⟨rfl, rfl⟩)
            rw [hTf, hTd]
            have HTF := hide hTf
            have HTDD := hide hTd
            clear HSU hg hT hv hTn hTold hR hTf hTd
            go_wp2_with fail
            rw [← HUW.out]
            go_wp2_with (go_at_call 11; with_reducible refine C1.mono ?_; clear C1; rintro e X ⟨rfl, K2, O2⟩; obtain ⟨-, hs3⟩ := HN.out X K2 O2; have HS3 := hide hs3; clear K2 O2 hs3)
            clear HN HUW
            have hTf := HTF.out
            have hTd := HTDD.out
            clear HTF HTDD k0 k1 k2
            rcases HW.out with ⟨rfl, rfl, rfl⟩ | ⟨rfl, rfl⟩ | ⟨rfl, rfl⟩
            · have O1 := tout_any HS3.out.a
              rw [hTf, hTd] at O1
              refine O1.mono ?_
              clear O1
              rintro e u5 ⟨rfl, b5⟩
              have HS5 := hide (HS3.out.on b5)
              have CI : Hid (∀ m, m < M → ∃ z, u5.cell? ⟨s, m, none⟩ = some (.int .i64 z) ∧ ((z = 1 ∧ T.y m = true) ∨ (z = 0 ∧ T.y m = false) ∨ (z = -1 ∧ T.y m = false))) := fun m hm => by
                have ht := HS5.out.told
                have hn := HS5.out.n
                refine ⟨_, HS5.out.f.cell (by omega), ?_⟩
                have no : v' m ≠ 1 → T.y m = false := fun e => by
                  cases e2 : T.y m
                  · rfl
                  · exact absurd ((ht.yes m (by omega)).2 e2) e
                rcases ht.may m (by omega) with e | e | e
                · exact .inr (.inl ⟨e, no (by omega)⟩)
                · exact .inl ⟨e, (ht.yes m (by omega)).1 e⟩
                · exact .inr (.inr ⟨e, no (by omega)⟩)
              have qe : (((cnt T.y M : Nat) : Int) == (M : Int)) = false := by
                have hn := HS5.out.n
                unfold Ta.f at hTf
                rw [hn] at hTf
                simp at hTf ⊢
                omega
              have HRL : Hid (T.f = false ∧ Sst w u5 p s M T v' false) := ⟨hTf, HS5.out⟩
              have HTD := hide hTd
              clear b5 HS3 HS5 hTf hTd
              obtain ⟨Y, hY⟩ : ∃ Y, T.y = Y := ⟨_, rfl⟩
              rw [hY] at CI qe
              clear hY
              go_wp2
              go_loopw [16, 89] (fun av i vr => ∃ m : Nat, i = .int .i64 m ∧ av = .int .i64 (cnt Y m) ∧ m ≤ M ∧ vr = u5) (fun _ i _ => M - (intOf i).toNat)
              case atStart => exact ⟨0, rfl, rfl, Nat.zero_le _, rfl⟩
              case round =>
                obtain ⟨m, rfl, rfl, hm, rfl⟩ := hrel
                by_cases hml : m < M
                · have qm : (m : Int) < (M : Int) := by omega
                  have hcl := cnt_le Y m
                  obtain ⟨z, hz, hzz⟩ := CI.out m hml
                  rcases hzz with ⟨e, ey⟩ | ⟨e, ey⟩ | ⟨e, ey⟩
                  · rw [e] at hz
                    have HE : Hid (cnt Y (m + 1) = cnt Y m + 1) := by show cnt Y m + _ = _; rw [ey]; rfl
                    clear e ey CI HRL qe
                    go_wp2
                    go_roundw
                    case rel => exact ⟨m + 1, by go_num, by rw [HE.out]; go_num, by omega, trivial⟩
                    case measure => simp [intOf]; omega
                  · rw [e] at hz
                    have HE : Hid (cnt Y (m + 1) = cnt Y m) := by show cnt Y m + _ = _; rw [ey]; rfl
                    clear e ey CI HRL qe
                    go_wp2
                    go_roundw
                    case rel => exact ⟨m + 1, by go_num, by rw [HE.out], by omega, trivial⟩
                    case measure => simp [intOf]; omega
                  · rw [e] at hz
                    have HE : Hid (cnt Y (m + 1) = cnt Y m) := by show cnt Y m + _ = _; rw [ey]; rfl
                    clear e ey CI HRL qe
                    go_wp2
                    go_roundw
                    case rel => exact ⟨m + 1, by go_num, by rw [HE.out], by omega, trivial⟩
                    case measure => simp [intOf]; omega
                · have qm : ¬ (m : Int) < (M : Int) := by omega
                  obtain rfl : m = M := by omega
                  clear CI
                  go_wp2
                  go_roundw
                  case rel => exact ⟨j + 1, T, v', false, by go_num, by rw [HRL.out.1], by rw [HTD.out], rfl, by omega, HRL.out.2⟩
                  case measure => simp [intOf]; omega
            · have O1 := tout_any HS3.out.a
              rw [hTf, hTd] at O1
              refine O1.mono ?_
              clear O1
              rintro e u5 ⟨rfl, b5⟩
              have HS5 := hide (HS3.out.on b5)
              have CI : Hid (∀ m, m < M → ∃ z, u5.cell? ⟨s, m, none⟩ = some (.int .i64 z) ∧ ((z = 1 ∧ T.y m = true) ∨ (z = 0 ∧ T.y m = false) ∨ (z = -1 ∧ T.y m = false))) := fun m hm => by
                have ht := HS5.out.told
                have hn := HS5.out.n
                refine ⟨_, HS5.out.f.cell (by omega), ?_⟩
                have no : v' m ≠ 1 → T.y m = false := fun e => by
                  cases e2 : T.y m
                  · rfl
                  · exact absurd ((ht.yes m (by omega)).2 e2) e
                rcases ht.may m (by omega) with e | e | e
                · exact .inr (.inl ⟨e, no (by omega)⟩)
                · exact .inl ⟨e, (ht.yes m (by omega)).1 e⟩
                · exact .inr (.inr ⟨e, no (by omega)⟩)
              have qe : (((cnt T.y M : Nat) : Int) == (M : Int)) = false := by
                have hn := HS5.out.n
                unfold Ta.f at hTf
                rw [hn] at hTf
                simp at hTf ⊢
                omega
              have HRL : Hid (T.f = false ∧ Sst w u5 p s M T v' C) := ⟨hTf, HS5.out⟩
              have HTD := hide hTd
              clear b5 HS3 HS5 hTf hTd
              obtain ⟨Y, hY⟩ : ∃ Y, T.y = Y := ⟨_, rfl⟩
              rw [hY] at CI qe
              clear hY
              go_wp2
              go_loopw [16, 89] (fun av i vr => ∃ m : Nat, i = .int .i64 m ∧ av = .int .i64 (cnt Y m) ∧ m ≤ M ∧ vr = u5) (fun _ i _ => M - (intOf i).toNat)
              case atStart => exact ⟨0, rfl, rfl, Nat.zero_le _, rfl⟩
              case round =>
                obtain ⟨m, rfl, rfl, hm, rfl⟩ := hrel
                by_cases hml : m < M
                · have qm : (m : Int) < (M : Int) := by omega
                  have hcl := cnt_le Y m
                  obtain ⟨z, hz, hzz⟩ := CI.out m hml
                  rcases hzz with ⟨e, ey⟩ | ⟨e, ey⟩ | ⟨e, ey⟩
                  · rw [e] at hz
                    have HE : Hid (cnt Y (m + 1) = cnt Y m + 1) := by show cnt Y m + _ = _; rw [ey]; rfl
                    clear e ey CI HRL qe
                    go_wp2
                    go_roundw
                    case rel => exact ⟨m + 1, by go_num, by rw [HE.out]; go_num, by omega, trivial⟩
                    case measure => simp [intOf]; omega
                  · rw [e] at hz
                    have HE : Hid (cnt Y (m + 1) = cnt Y m) := by show cnt Y m + _ = _; rw [ey]; rfl
                    clear e ey CI HRL qe
                    go_wp2
                    go_roundw
                    case rel => exact ⟨m + 1, by go_num, by rw [HE.out], by omega, trivial⟩
                    case measure => simp [intOf]; omega
                  · rw [e] at hz
                    have HE : Hid (cnt Y (m + 1) = cnt Y m) := by show cnt Y m + _ = _; rw [ey]; rfl
                    clear e ey CI HRL qe
                    go_wp2
                    go_roundw
                    case rel => exact ⟨m + 1, by go_num, by rw [HE.out], by omega, trivial⟩
                    case measure => simp [intOf]; omega
                · have qm : ¬ (m : Int) < (M : Int) := by omega
                  obtain rfl : m = M := by omega
                  clear CI
                  go_wp2
                  go_roundw
                  case rel => exact ⟨j + 1, T, v', C, by go_num, by rw [HRL.out.1], by rw [HTD.out], rfl, by omega, HRL.out.2⟩
                  case measure => simp [intOf]; omega
            · have O1 := tout_any HS3.out.a
              rw [hTf, hTd] at O1
              refine O1.mono ?_
              clear O1
              rintro e u5 ⟨rfl, b5⟩
              have HS5 := hide (HS3.out.on b5)
              have CI : Hid (∀ m, m < M → ∃ z, u5.cell? ⟨s, m, none⟩ = some (.int .i64 z) ∧ ((z = 1 ∧ T.y m = true) ∨ (z = 0 ∧ T.y m = false) ∨ (z = -1 ∧ T.y m = false))) := fun m hm => by
                have ht := HS5.out.told
                have hn := HS5.out.n
                refine ⟨_, HS5.out.f.cell (by omega), ?_⟩
                have no : v' m ≠ 1 → T.y m = false := fun e => by
                  cases e2 : T.y m
                  · rfl
                  · exact absurd ((ht.yes m (by omega)).2 e2) e
                rcases ht.may m (by omega) with e | e | e
                · exact .inr (.inl ⟨e, no (by omega)⟩)
                · exact .inl ⟨e, (ht.yes m (by omega)).1 e⟩
                · exact .inr (.inr ⟨e, no (by omega)⟩)
              have qe : (((cnt T.y M : Nat) : Int) == (M : Int)) = true := by
                have hn := HS5.out.n
                unfold Ta.f at hTf
                rw [hn] at hTf
                simp at hTf ⊢
                omega
              have HRL : Hid (T.f = true ∧ Sst w u5 p s M T v' C) := ⟨hTf, HS5.out⟩
              have HTD := hide hTd
              clear b5 HS3 HS5 hTf hTd
              obtain ⟨Y, hY⟩ : ∃ Y, T.y = Y := ⟨_, rfl⟩
              rw [hY] at CI qe
              clear hY
              go_wp2
              go_loopw [16, 89] (fun av i vr => ∃ m : Nat, i = .int .i64 m ∧ av = .int .i64 (cnt Y m) ∧ m ≤ M ∧ vr = u5) (fun _ i _ => M - (intOf i).toNat)
              case atStart => exact ⟨0, rfl, rfl, Nat.zero_le _, rfl⟩
              case round =>
                obtain ⟨m, rfl, rfl, hm, rfl⟩ := hrel
                by_cases hml : m < M
                · have qm : (m : Int) < (M : Int) := by omega
                  have hcl := cnt_le Y m
                  obtain ⟨z, hz, hzz⟩ := CI.out m hml
                  rcases hzz with ⟨e, ey⟩ | ⟨e, ey⟩ | ⟨e, ey⟩
                  · rw [e] at hz
                    have HE : Hid (cnt Y (m + 1) = cnt Y m + 1) := by show cnt Y m + _ = _; rw [ey]; rfl
                    clear e ey CI HRL qe
                    go_wp2
                    go_roundw
                    case rel => exact ⟨m + 1, by go_num, by rw [HE.out]; go_num, by omega, trivial⟩
                    case measure => simp [intOf]; omega
                  · rw [e] at hz
                    have HE : Hid (cnt Y (m + 1) = cnt Y m) := by show cnt Y m + _ = _; rw [ey]; rfl
                    clear e ey CI HRL qe
                    go_wp2
                    go_roundw
                    case rel => exact ⟨m + 1, by go_num, by rw [HE.out], by omega, trivial⟩
                    case measure => simp [intOf]; omega
                  · rw [e] at hz
                    have HE : Hid (cnt Y (m + 1) = cnt Y m) := by show cnt Y m + _ = _; rw [ey]; rfl
                    clear e ey CI HRL qe
                    go_wp2
                    go_roundw
                    case rel => exact ⟨m + 1, by go_num, by rw [HE.out], by omega, trivial⟩
                    case measure => simp [intOf]; omega
                · have qm : ¬ (m : Int) < (M : Int) := by omega
                  obtain rfl : m = M := by omega
                  clear CI
                  go_wp2
                  go_roundw
                  case rel => exact ⟨j + 1, T, v', C, by go_num, by rw [HRL.out.1], by rw [HTD.out], rfl, by omega, HRL.out.2⟩
                  case measure => simp [intOf]; omega
          · cases cy
            · have hd : t.d = false := (said_open hR).1
              have hf0 : t.f = false := hg.open_f hd
              rw [hd, hf0]
              have hC : C = false := by
                cases C
                · rfl
                · have := HSU.out.told.cl rfl; rw [hd] at this; cases this
              subst hC
              obtain ⟨hvK, hTold⟩ := HSU.out.told.no_ hR
              rw [hR] at C1
              have hTd : (t.said (K : Int) false).d = true := by
                have e := said_no (t := t) (j := K) hd (by have := (said_open hR).2.2; omega) (by
                  cases e : t.y K
                  · rfl
                  · unfold Ta.sayB at hR; rw [if_pos (said_open hR), Int.toNat_natCast, e] at hR; cases hR)
                rw [e]; rfl
              have hTf : (t.said (K : Int) false).f = false := by
                have e := said_no (t := t) (j := K) hd (by have := (said_open hR).2.2; omega) (by
                  cases e : t.y K
                  · rfl
                  · unfold Ta.sayB at hR; rw [if_pos (said_open hR), Int.toNat_natCast, e] at hR; cases hR)
                rw [e]; exact hf0
              have hTn : (t.said (K : Int) false).n = M := by rw [Ta.said_n]; exact HSU.out.n
              obtain ⟨T, hT⟩ : ∃ T, t.said (K : Int) false = T := ⟨_, rfl⟩
              rw [hT] at C1 hTold hTd hTf hTn
              obtain ⟨v', hv⟩ : ∃ v', updI v K (-1) = v' := ⟨_, rfl⟩
              have HN : Hid (∀ X, Tk w.heap.size X p T → Rg.Kept (Own1 p) U X → X.cell? ⟨s, K, none⟩ = some (.int .i64 0) ∧ X.frozen? ⟨s, K, none⟩ = false ∧ X.cell? ⟨wr.heap.size, 2, none⟩ = some (.bool false) ∧ Sst w (X.setCell ⟨s, K, none⟩ (.int .i64 (-1))) p s M T v' false) := fun X K2 O2 => by
                obtain ⟨⟨x1, x2⟩, x3⟩ := HSU.out.put K2 O2 hTn hK6 (-1) hTold
                rw [hvK] at x1
                rw [hv] at x3
                exact ⟨x1, x2, kept_cell O2 (fun _ h => hbx.1 h) k2, x3⟩
              have HTF := hide hTf
              have HTDD := hide hTd
              clear HSU hg hT hv hTn hTold hR hd hf0 hTf hTd hvK
              go_wp2_with fail
              rw [← HUW.out]
              go_wp2_with (go_at_call 11; with_reducible refine C1.mono ?_; clear C1; rintro e X ⟨rfl, K2, O2⟩; obtain ⟨cs, fs, k3, hs3⟩ := HN.out X K2 O2; have HS3 := hide hs3; clear K2 O2 hs3)
              clear HN HUW
              have hTf := HTF.out
              have hTd := HTDD.out
              clear HTF HTDD k0 k1 k2 k3 cs fs
              have O1 := tout_any HS3.out.a
              rw [hTf, hTd] at O1
              refine O1.mono ?_
              clear O1
              rintro e u5 ⟨rfl, b5⟩
              have HS5 := hide (HS3.out.on b5)
              have CI : Hid (∀ m, m < M → ∃ z, u5.cell? ⟨s, m, none⟩ = some (.int .i64 z) ∧ ((z = 1 ∧ T.y m = true) ∨ (z = 0 ∧ T.y m = false) ∨ (z = -1 ∧ T.y m = false))) := fun m hm => by
                have ht := HS5.out.told
                have hn := HS5.out.n
                refine ⟨_, HS5.out.f.cell (by omega), ?_⟩
                have no : v' m ≠ 1 → T.y m = false := fun e => by
                  cases e2 : T.y m
                  · rfl
                  · exact absurd ((ht.yes m (by omega)).2 e2) e
                rcases ht.may m (by omega) with e | e | e
                · exact .inr (.inl ⟨e, no (by omega)⟩)
                · exact .inl ⟨e, (ht.yes m (by omega)).1 e⟩
                · exact .inr (.inr ⟨e, no (by omega)⟩)
              have qe : (((cnt T.y M : Nat) : Int) == (M : Int)) = false := by
                have hn := HS5.out.n
                unfold Ta.f at hTf
                rw [hn] at hTf
                simp at hTf ⊢
                omega
              have HRL : Hid (T.f = false ∧ Sst w u5 p s M T v' false) := ⟨hTf, HS5.out⟩
              have HTD := hide hTd
              clear b5 HS3 HS5 hTf hTd
              obtain ⟨Y, hY⟩ : ∃ Y, T.y = Y := ⟨_, rfl⟩
              rw [hY] at CI qe
              clear hY
              go_wp2
              go_loopw [16, 89] (fun av i vr => ∃ m : Nat, i = .int .i64 m ∧ av = .int .i64 (cnt Y m) ∧ m ≤ M ∧ vr = u5) (fun _ i _ => M - (intOf i).toNat)
              case atStart => exact ⟨0, rfl, rfl, Nat.zero_le _, rfl⟩
              case round =>
                obtain ⟨m, rfl, rfl, hm, rfl⟩ := hrel
                by_cases hml : m < M
                · have qm : (m : Int) < (M : Int) := by omega
                  have hcl := cnt_le Y m
                  obtain ⟨z, hz, hzz⟩ := CI.out m hml
                  rcases hzz with ⟨e, ey⟩ | ⟨e, ey⟩ | ⟨e, ey⟩
                  · rw [e] at hz
                    have HE : Hid (cnt Y (m + 1) = cnt Y m + 1) := by show cnt Y m + _ = _; rw [ey]; rfl
                    clear e ey CI HRL qe
                    go_wp2
                    go_roundw
                    case rel => exact ⟨m + 1, by go_num, by rw [HE.out]; go_num, by omega, trivial⟩
                    case measure => simp [intOf]; omega
                  · rw [e] at hz
                    have HE : Hid (cnt Y (m + 1) = cnt Y m) := by show cnt Y m + _ = _; rw [ey]; rfl
                    clear e ey CI HRL qe
                    go_wp2
                    go_roundw
                    case rel => exact ⟨m + 1, by go_num, by rw [HE.out], by omega, trivial⟩
                    case measure => simp [intOf]; omega
                  · rw [e] at hz
                    have HE : Hid (cnt Y (m + 1) = cnt Y m) := by show cnt Y m + _ = _; rw [ey]; rfl
                    clear e ey CI HRL qe
                    go_wp2
                    go_roundw
                    case rel => exact ⟨m + 1, by go_num, by rw [HE.out], by omega, trivial⟩
                    case measure => simp [intOf]; omega
                · have qm : ¬ (m : Int) < (M : Int) := by omega
                  obtain rfl : m = M := by omega
                  clear CI
                  go_wp2
                  go_roundw
                  case rel => exact ⟨j + 1, T, v', false, by go_num, by rw [HRL.out.1], by rw [HTD.out], rfl, by omega, HRL.out.2⟩
                  case measure => simp [intOf]; omega
            · have hd : t.d = false := (said_open hR).1
              have hf0 : t.f = false := hg.open_f hd
              rw [hd, hf0]
              have hC : C = false := by
                cases C
                · rfl
                · have := HSU.out.told.cl rfl; rw [hd] at this; cases this
              subst hC
              obtain ⟨hvK, hTold⟩ := HSU.out.told.yes_ hR
              rw [hR] at C1
              have hTn : (t.said (K : Int) true).n = M := by rw [Ta.said_n]; exact HSU.out.n
              have hTg : (t.said (K : Int) true).good := hg.said _ _
              have hTfd : (t.said (K : Int) true).f = (t.said (K : Int) true).d := by
                cases hy : t.y K
                · rw [said_yes hd (by have := (said_open hR).2.2; omega) hy, said_f (by have := (said_open hR).2.2; omega) hy]
                · rw [said_none (fun e => by have := e.2; rw [Int.toNat_natCast, hy] at this; cases this), hd, hf0]
              obtain ⟨T, hT⟩ : ∃ T, t.said (K : Int) true = T := ⟨_, rfl⟩
              rw [hT] at C1 hTold hTn hTg hTfd
              obtain ⟨v', hv⟩ : ∃ v', updI v K 1 = v' := ⟨_, rfl⟩
              have HN : Hid (∀ X, Tk w.heap.size X p T → Rg.Kept (Own1 p) U X → X.cell? ⟨s, K, none⟩ = some (.int .i64 (v K)) ∧ X.frozen? ⟨s, K, none⟩ = false ∧ X.cell? ⟨wr.heap.size, 2, none⟩ = some (.bool true) ∧ Sst w (X.setCell ⟨s, K, none⟩ (.int .i64 1)) p s M T v' false) := fun X K2 O2 => by
                obtain ⟨⟨x1, x2⟩, x3⟩ := HSU.out.put K2 O2 hTn hK6 1 hTold
                rw [hv] at x3
                exact ⟨x1, x2, kept_cell O2 (fun _ h => hbx.1 h) k2, x3⟩
              obtain ⟨z, hz⟩ : ∃ z, v K = z := ⟨_, rfl⟩
              rw [hz] at hvK HN
              obtain ⟨F, hTf⟩ : ∃ F, T.f = F := ⟨_, rfl⟩
              obtain ⟨Dn, hTd⟩ : ∃ D, T.d = D := ⟨_, rfl⟩
              rw [hTf, hTd] at hTfd
              subst hTfd
              have HTF := hide hTf
              have HTDD := hide hTd
              clear HSU hg hT hv hTn hTold hR hd hf0 hTg hz hTf hTd
              rcases hvK with rfl | rfl
              · go_wp2_with fail
                rw [← HUW.out]
                go_wp2_with (go_at_call 11; with_reducible refine C1.mono ?_; clear C1; rintro e X ⟨rfl, K2, O2⟩; obtain ⟨cs, fs, k3, hs3⟩ := HN.out X K2 O2; have HS3 := hide hs3; clear K2 O2 hs3)
                clear HN HUW
                have hTf := HTF.out
                have hTd := HTDD.out
                clear HTF HTDD k0 k1 k2 k3 cs fs
                cases F
                · have O1 := tout_any HS3.out.a
                  rw [hTf, hTd] at O1
                  refine O1.mono ?_
                  clear O1
                  rintro e u5 ⟨rfl, b5⟩
                  have HS5 := hide (HS3.out.on b5)
                  have CI : Hid (∀ m, m < M → ∃ z, u5.cell? ⟨s, m, none⟩ = some (.int .i64 z) ∧ ((z = 1 ∧ T.y m = true) ∨ (z = 0 ∧ T.y m = false) ∨ (z = -1 ∧ T.y m = false))) := fun m hm => by
                    have ht := HS5.out.told
                    have hn := HS5.out.n
                    refine ⟨_, HS5.out.f.cell (by omega), ?_⟩
                    have no : v' m ≠ 1 → T.y m = false := fun e => by
                      cases e2 : T.y m
                      · rfl
                      · exact absurd ((ht.yes m (by omega)).2 e2) e
                    rcases ht.may m (by omega) with e | e | e
                    · exact .inr (.inl ⟨e, no (by omega)⟩)
                    · exact .inl ⟨e, (ht.yes m (by omega)).1 e⟩
                    · exact .inr (.inr ⟨e, no (by omega)⟩)
                  have qe : (((cnt T.y M : Nat) : Int) == (M : Int)) = false := by
                    have hn := HS5.out.n
                    unfold Ta.f at hTf
                    rw [hn] at hTf
                    simp at hTf ⊢
                    omega
                  have HRL : Hid (T.f = false ∧ Sst w u5 p s M T v' false) := ⟨hTf, HS5.out⟩
                  have HTD := hide hTd
                  clear b5 HS3 HS5 hTf hTd
                  obtain ⟨Y, hY⟩ : ∃ Y, T.y = Y := ⟨_, rfl⟩
                  rw [hY] at CI qe
                  clear hY
                  go_wp2
                  go_loopw [16, 89] (fun av i vr => ∃ m : Nat, i = .int .i64 m ∧ av = .int .i64 (cnt Y m) ∧ m ≤ M ∧ vr = u5) (fun _ i _ => M - (intOf i).toNat)
                  case atStart => exact ⟨0, rfl, rfl, Nat.zero_le _, rfl⟩
                  case round =>
                    obtain ⟨m, rfl, rfl, hm, rfl⟩ := hrel
                    by_cases hml : m < M
                    · have qm : (m : Int) < (M : Int) := by omega
                      have hcl := cnt_le Y m
                      obtain ⟨z, hz, hzz⟩ := CI.out m hml
                      rcases hzz with ⟨e, ey⟩ | ⟨e, ey⟩ | ⟨e, ey⟩
                      · rw [e] at hz
                        have HE : Hid (cnt Y (m + 1) = cnt Y m + 1) := by show cnt Y m + _ = _; rw [ey]; rfl
                        clear e ey CI HRL qe
                        go_wp2
                        go_roundw
                        case rel => exact ⟨m + 1, by go_num, by rw [HE.out]; go_num, by omega, trivial⟩
                        case measure => simp [intOf]; omega
                      · rw [e] at hz
                        have HE : Hid (cnt Y (m + 1) = cnt Y m) := by show cnt Y m + _ = _; rw [ey]; rfl
                        clear e ey CI HRL qe
                        go_wp2
                        go_roundw
                        case rel => exact ⟨m + 1, by go_num, by rw [HE.out], by omega, trivial⟩
                        case measure => simp [intOf]; omega
                      · rw [e] at hz
                        have HE : Hid (cnt Y (m + 1) = cnt Y m) := by show cnt Y m + _ = _; rw [ey]; rfl
                        clear e ey CI HRL qe
                        go_wp2
                        go_roundw
                        case rel => exact ⟨m + 1, by go_num, by rw [HE.out], by omega, trivial⟩
                        case measure => simp [intOf]; omega
                    · have qm : ¬ (m : Int) < (M : Int) := by omega
                      obtain rfl : m = M := by omega
                      clear CI
                      go_wp2
                      go_roundw
                      case rel => exact ⟨j + 1, T, v', false, by go_num, by rw [HRL.out.1], by rw [HTD.out], rfl, by omega, HRL.out.2⟩
                      case measure => simp [intOf]; omega
                · have O1 := tout_any HS3.out.a
                  rw [hTf, hTd] at O1
                  refine O1.mono ?_
                  clear O1
                  rintro e u5 ⟨rfl, b5⟩
                  have HS5 := hide (HS3.out.on b5)
                  have CI : Hid (∀ m, m < M → ∃ z, u5.cell? ⟨s, m, none⟩ = some (.int .i64 z) ∧ ((z = 1 ∧ T.y m = true) ∨ (z = 0 ∧ T.y m = false) ∨ (z = -1 ∧ T.y m = false))) := fun m hm => by
                    have ht := HS5.out.told
                    have hn := HS5.out.n
                    refine ⟨_, HS5.out.f.cell (by omega), ?_⟩
                    have no : v' m ≠ 1 → T.y m = false := fun e => by
                      cases e2 : T.y m
                      · rfl
                      · exact absurd ((ht.yes m (by omega)).2 e2) e
                    rcases ht.may m (by omega) with e | e | e
                    · exact .inr (.inl ⟨e, no (by omega)⟩)
                    · exact .inl ⟨e, (ht.yes m (by omega)).1 e⟩
                    · exact .inr (.inr ⟨e, no (by omega)⟩)
                  have qe : (((cnt T.y M : Nat) : Int) == (M : Int)) = true := by
                    have hn := HS5.out.n
                    unfold Ta.f at hTf
                    rw [hn] at hTf
                    simp at hTf ⊢
                    omega
                  have HRL : Hid (T.f = true ∧ Sst w u5 p s M T v' false) := ⟨hTf, HS5.out⟩
                  have HTD := hide hTd
                  clear b5 HS3 HS5 hTf hTd
                  obtain ⟨Y, hY⟩ : ∃ Y, T.y = Y := ⟨_, rfl⟩
                  rw [hY] at CI qe
                  clear hY
                  go_wp2
                  go_loopw [16, 89] (fun av i vr => ∃ m : Nat, i = .int .i64 m ∧ av = .int .i64 (cnt Y m) ∧ m ≤ M ∧ vr = u5) (fun _ i _ => M - (intOf i).toNat)
                  case atStart => exact ⟨0, rfl, rfl, Nat.zero_le _, rfl⟩
                  case round =>
                    obtain ⟨m, rfl, rfl, hm, rfl⟩ := hrel
                    by_cases hml : m < M
                    · have qm : (m : Int) < (M : Int) := by omega
                      have hcl := cnt_le Y m
                      obtain ⟨z, hz, hzz⟩ := CI.out m hml
                      rcases hzz with ⟨e, ey⟩ | ⟨e, ey⟩ | ⟨e, ey⟩
                      · rw [e] at hz
                        have HE : Hid (cnt Y (m + 1) = cnt Y m + 1) := by show cnt Y m + _ = _; rw [ey]; rfl
                        clear e ey CI HRL qe
                        go_wp2
                        go_roundw
                        case rel => exact ⟨m + 1, by go_num, by rw [HE.out]; go_num, by omega, trivial⟩
                        case measure => simp [intOf]; omega
                      · rw [e] at hz
                        have HE : Hid (cnt Y (m + 1) = cnt Y m) := by show cnt Y m + _ = _; rw [ey]; rfl
                        clear e ey CI HRL qe
                        go_wp2
                        go_roundw
                        case rel => exact ⟨m + 1, by go_num, by rw [HE.out], by omega, trivial⟩
                        case measure => simp [intOf]; omega
                      · rw [e] at hz
                        have HE : Hid (cnt Y (m + 1) = cnt Y m) := by show cnt Y m + _ = _; rw [ey]; rfl
                        clear e ey CI HRL qe
                        go_wp2
                        go_roundw
                        case rel => exact ⟨m + 1, by go_num, by rw [HE.out], by omega, trivial⟩
                        case measure => simp [intOf]; omega
                    · have qm : ¬ (m : Int) < (M : Int) := by omega
                      obtain rfl : m = M := by omega
                      clear CI
                      go_wp2
                      go_roundw
                      case rel => exact ⟨j + 1, T, v', false, by go_num, by rw [HRL.out.1], by rw [HTD.out], rfl, by omega, HRL.out.2⟩
                      case measure => simp [intOf]; omega
              · go_wp2_with fail
                rw [← HUW.out]
                go_wp2_with (go_at_call 11; with_reducible refine C1.mono ?_; clear C1; rintro e X ⟨rfl, K2, O2⟩; obtain ⟨cs, fs, k3, hs3⟩ := HN.out X K2 O2; have HS3 := hide hs3; clear K2 O2 hs3)
                clear HN HUW
                have hTf := HTF.out
                have hTd := HTDD.out
                clear HTF HTDD k0 k1 k2 k3 cs fs
                cases F
                · have O1 := tout_any HS3.out.a
                  rw [hTf, hTd] at O1
                  refine O1.mono ?_
                  clear O1
                  rintro e u5 ⟨rfl, b5⟩
                  have HS5 := hide (HS3.out.on b5)
                  have CI : Hid (∀ m, m < M → ∃ z, u5.cell? ⟨s, m, none⟩ = some (.int .i64 z) ∧ ((z = 1 ∧ T.y m = true) ∨ (z = 0 ∧ T.y m = false) ∨ (z = -1 ∧ T.y m = false))) := fun m hm => by
                    have ht := HS5.out.told
                    have hn := HS5.out.n
                    refine ⟨_, HS5.out.f.cell (by omega), ?_⟩
                    have no : v' m ≠ 1 → T.y m = false := fun e => by
                      cases e2 : T.y m
                      · rfl
                      · exact absurd ((ht.yes m (by omega)).2 e2) e
                    rcases ht.may m (by omega) with e | e | e
                    · exact .inr (.inl ⟨e, no (by omega)⟩)
                    · exact .inl ⟨e, (ht.yes m (by omega)).1 e⟩
                    · exact .inr (.inr ⟨e, no (by omega)⟩)
                  have qe : (((cnt T.y M : Nat) : Int) == (M : Int)) = false := by
                    have hn := HS5.out.n
                    unfold Ta.f at hTf
                    rw [hn] at hTf
                    simp at hTf ⊢
                    omega
                  have HRL : Hid (T.f = false ∧ Sst w u5 p s M T v' false) := ⟨hTf, HS5.out⟩
                  have HTD := hide hTd
                  clear b5 HS3 HS5 hTf hTd
                  obtain ⟨Y, hY⟩ : ∃ Y, T.y = Y := ⟨_, rfl⟩
                  rw [hY] at CI qe
                  clear hY
                  go_wp2
                  go_loopw [16, 89] (fun av i vr => ∃ m : Nat, i = .int .i64 m ∧ av = .int .i64 (cnt Y m) ∧ m ≤ M ∧ vr = u5) (fun _ i _ => M - (intOf i).toNat)
                  case atStart => exact ⟨0, rfl, rfl, Nat.zero_le _, rfl⟩
                  case round =>
                    obtain ⟨m, rfl, rfl, hm, rfl⟩ := hrel
                    by_cases hml : m < M
                    · have qm : (m : Int) < (M : Int) := by omega
                      have hcl := cnt_le Y m
                      obtain ⟨z, hz, hzz⟩ := CI.out m hml
                      rcases hzz with ⟨e, ey⟩ | ⟨e, ey⟩ | ⟨e, ey⟩
                      · rw [e] at hz
                        have HE : Hid (cnt Y (m + 1) = cnt Y m + 1) := by show cnt Y m + _ = _; rw [ey]; rfl
                        clear e ey CI HRL qe
                        go_wp2
                        go_roundw
                        case rel => exact ⟨m + 1, by go_num, by rw [HE.out]; go_num, by omega, trivial⟩
                        case measure => simp [intOf]; omega
                      · rw [e] at hz
                        have HE : Hid (cnt Y (m + 1) = cnt Y m) := by show cnt Y m + _ = _; rw [ey]; rfl
                        clear e ey CI HRL qe
                        go_wp2
                        go_roundw
                        case rel => exact ⟨m + 1, by go_num, by rw [HE.out], by omega, trivial⟩
                        case measure => simp [intOf]; omega
                      · rw [e] at hz
                        have HE : Hid (cnt Y (m + 1) = cnt Y m) := by show cnt Y m + _ = _; rw [ey]; rfl
                        clear e ey CI HRL qe
                        go_wp2
                        go_roundw
                        case rel => exact ⟨m + 1, by go_num, by rw [HE.out], by omega, trivial⟩
                        case measure => simp [intOf]; omega
                    · have qm : ¬ (m : Int) < (M : Int) := by omega
                      obtain rfl : m = M := by omega
                      clear CI
                      go_wp2
                      go_roundw
                      case rel => exact ⟨j + 1, T, v', false, by go_num, by rw [HRL.out.1], by rw [HTD.out], rfl, by omega, HRL.out.2⟩
                      case measure => simp [intOf]; omega
                · have O1 := tout_any HS3.out.a
                  rw [hTf, hTd] at O1
                  refine O1.mono ?_
                  clear O1
                  rintro e u5 ⟨rfl, b5⟩
                  have HS5 := hide (HS3.out.on b5)
                  have CI : Hid (∀ m, m < M → ∃ z, u5.cell? ⟨s, m, none⟩ = some (.int .i64 z) ∧ ((z = 1 ∧ T.y m = true) ∨ (z = 0 ∧ T.y m = false) ∨ (z = -1 ∧ T.y m = false))) := fun m hm => by
                    have ht := HS5.out.told
                    have hn := HS5.out.n
                    refine ⟨_, HS5.out.f.cell (by omega), ?_⟩
                    have no : v' m ≠ 1 → T.y m = false := fun e => by
                      cases e2 : T.y m
                      · rfl
                      · exact absurd ((ht.yes m (by omega)).2 e2) e
                    rcases ht.may m (by omega) with e | e | e
                    · exact .inr (.inl ⟨e, no (by omega)⟩)
                    · exact .inl ⟨e, (ht.yes m (by omega)).1 e⟩
                    · exact .inr (.inr ⟨e, no (by omega)⟩)
                  have qe : (((cnt T.y M : Nat) : Int) == (M : Int)) = true := by
                    have hn := HS5.out.n
                    unfold Ta.f at hTf
                    rw [hn] at hTf
                    simp at hTf ⊢
                    omega
                  have HRL : Hid (T.f = true ∧ Sst w u5 p s M T v' false) := ⟨hTf, HS5.out⟩
                  have HTD := hide hTd
                  clear b5 HS3 HS5 hTf hTd
                  obtain ⟨Y, hY⟩ : ∃ Y, T.y = Y := ⟨_, rfl⟩
                  rw [hY] at CI qe
                  clear hY
                  go_wp2
                  go_loopw [16, 89] (fun av i vr => ∃ m : Nat, i = .int .i64 m ∧ av = .int .i64 (cnt Y m) ∧ m ≤ M ∧ vr = u5) (fun _ i _ => M - (intOf i).toNat)
                  case atStart => exact ⟨0, rfl, rfl, Nat.zero_le _, rfl⟩
                  case round =>
                    obtain ⟨m, rfl, rfl, hm, rfl⟩ := hrel
                    by_cases hml : m < M
                    · have qm : (m : Int) < (M : Int) := by omega
                      have hcl := cnt_le Y m
                      obtain ⟨z, hz, hzz⟩ := CI.out m hml
                      rcases hzz with ⟨e, ey⟩ | ⟨e, ey⟩ | ⟨e, ey⟩
                      · rw [e] at hz
                        have HE : Hid (cnt Y (m + 1) = cnt Y m + 1) := by show cnt Y m + _ = _; rw [ey]; rfl
                        clear e ey CI HRL qe
                        go_wp2
                        go_roundw
                        case rel => exact ⟨m + 1, by go_num, by rw [HE.out]; go_num, by omega, trivial⟩
                        case measure => simp [intOf]; omega
                      · rw [e] at hz
                        have HE : Hid (cnt Y (m + 1) = cnt Y m) := by show cnt Y m + _ = _; rw [ey]; rfl
                        clear e ey CI HRL qe
                        go_wp2
                        go_roundw
                        case rel => exact ⟨m + 1, by go_num, by rw [HE.out], by omega, trivial⟩
                        case measure => simp [intOf]; omega
                      · rw [e] at hz
                        have HE : Hid (cnt Y (m + 1) = cnt Y m) := by show cnt Y m + _ = _; rw [ey]; rfl
                        clear e ey CI HRL qe
                        go_wp2
                        go_roundw
                        case rel => exact ⟨m + 1, by go_num, by rw [HE.out], by omega, trivial⟩
                        case measure => simp [intOf]; omega
                    · have qm : ¬ (m : Int) < (M : Int) := by omega
                      obtain rfl : m = M := by omega
                      clear CI
                      go_wp2
                      go_roundw
                      case rel => exact ⟨j + 1, T, v', false, by go_num, by rw [HRL.out.1], by rw [HTD.out], rfl, by omega, HRL.out.2⟩
                      case measure => simp [intOf]; omega
        · obtain ⟨U, hU⟩ : ∃ U, U = wr.alloc (.cells #[.bool true, .int .i64 ci, .bool cy] 28) := ⟨_, rfl⟩
          have hbU : Below wr.heap.size wr U := by rw [hU]; exact (Below.refl _ _).alloc (Nat.le_refl _) _
          have HSU := hide (HS.out.on hbU)
          have k0 : U.cell? ⟨wr.heap.size, 0, none⟩ = some (.bool true) := by rw [hU]; simp
          have k1 : U.cell? ⟨wr.heap.size, 1, none⟩ = some (.int .i64 ci) := by rw [hU]; simp
          have k2 : U.cell? ⟨wr.heap.size, 2, none⟩ = some (.bool cy) := by rw [hU]; simp
          have hbx : wr.heap.size ≠ p ∧ wr.heap.size ≠ s ∧ wr.heap.size < U.heap.size := by
            have h1 := HS.out.a.lt
            have h2 : s < wr.heap.size := (Array.getElem?_eq_some_iff.1 HS.out.f).1
            exact ⟨by omega, by omega, by rw [hU]; simp⟩
          have HUW := hide hU
          have hg := HS.out.a.2
          clear hU hbU HS
          have C1 := tclose_any HSU.out.a
          obtain ⟨T, hT⟩ : ∃ T, t.close = T := ⟨_, rfl⟩
          obtain ⟨v', hv⟩ : ∃ v', v = v' := ⟨_, rfl⟩
          have hTn : T.n = M := by rw [← hT]; exact HSU.out.n
          have hTold : Told T v' true := by rw [← hT, ← hv]; exact HSU.out.told.close
          have hTd : T.d = true := by rw [← hT]; rfl
          have hTf0 : T.f = t.f := by rw [← hT]; rfl
          rw [hT] at C1
          rw [hv] at HSU
          have HN : Hid (∀ X, Tk w.heap.size X p T → Rg.Kept (Own1 p) U X → True ∧ Sst w X p s M T v' true) := fun X K2 O2 => ⟨trivial, HSU.out.step K2 O2 hTn hTold⟩
          have hopen : t.d = false → t.f = false := fun e => hg.open_f e
          obtain ⟨F0, hF0⟩ : ∃ F0, t.f = F0 := ⟨_, rfl⟩
          obtain ⟨D0, hD0⟩ : ∃ D0, t.d = D0 := ⟨_, rfl⟩
          rw [hF0, hD0] at hopen ⊢
          rw [hF0] at hTf0
          clear HSU hg hT hv hF0 hD0 hTn hTold
          have HW : Hid ((F0 = false ∧ D0 = false) ∨ (F0 = false ∧ D0 = true) ∨ (F0 = true ∧ D0 = true)) := by
            show _ ∨ _ ∨ _
            cases D0
            · exact .inl ⟨hopen rfl, rfl⟩
            · cases F0
              · exact .inr (.inl ⟨rfl, rfl⟩)
              · exact .inr (.inr ⟨rfl, rfl⟩)
          have HTF := hide hTf0
          have HTDD := hide hTd
          clear hopen hTf0 hTd
          go_wp2_with fail
          rw [← HUW.out]
          go_wp2_with (go_at_call 9; with_reducible refine C1.mono ?_; clear C1; rintro e X ⟨rfl, K2, O2⟩; obtain ⟨-, hs3⟩ := HN.out X K2 O2; have HS3 := hide hs3; clear K2 O2 hs3)
          clear HN HUW
          have hTf := HTF.out
          have hTd := HTDD.out
          clear HTF HTDD k0 k1 k2
          rcases HW.out with ⟨rfl, rfl⟩ | ⟨rfl, rfl⟩ | ⟨rfl, rfl⟩
          · have O1 := tout_any HS3.out.a
            rw [hTf, hTd] at O1
            refine O1.mono ?_
            clear O1
            rintro e u5 ⟨rfl, b5⟩
            have HS5 := hide (HS3.out.on b5)
            have CI : Hid (∀ m, m < M → ∃ z, u5.cell? ⟨s, m, none⟩ = some (.int .i64 z) ∧ ((z = 1 ∧ T.y m = true) ∨ (z = 0 ∧ T.y m = false) ∨ (z = -1 ∧ T.y m = false))) := fun m hm => by
              have ht := HS5.out.told
              have hn := HS5.out.n
              refine ⟨_, HS5.out.f.cell (by omega), ?_⟩
              have no : v' m ≠ 1 → T.y m = false := fun e => by
                cases e2 : T.y m
                · rfl
                · exact absurd ((ht.yes m (by omega)).2 e2) e
              rcases ht.may m (by omega) with e | e | e
              · exact .inr (.inl ⟨e, no (by omega)⟩)
              · exact .inl ⟨e, (ht.yes m (by omega)).1 e⟩
              · exact .inr (.inr ⟨e, no (by omega)⟩)
            have qe : (((cnt T.y M : Nat) : Int) == (M : Int)) = false := by
              have hn := HS5.out.n
              unfold Ta.f at hTf
              rw [hn] at hTf
              simp at hTf ⊢
              omega
            have HRL : Hid (T.f = false ∧ Sst w u5 p s M T v' true) := ⟨hTf, HS5.out⟩
            have HTD := hide hTd
            clear b5 HS3 HS5 hTf hTd
            obtain ⟨Y, hY⟩ : ∃ Y, T.y = Y := ⟨_, rfl⟩
            rw [hY] at CI qe
            clear hY
            go_wp2
            go_loopw [16, 89] (fun av i vr => ∃ m : Nat, i = .int .i64 m ∧ av = .int .i64 (cnt Y m) ∧ m ≤ M ∧ vr = u5) (fun _ i _ => M - (intOf i).toNat)
            case atStart => exact ⟨0, rfl, rfl, Nat.zero_le _, rfl⟩
            case round =>
              obtain ⟨m, rfl, rfl, hm, rfl⟩ := hrel
              by_cases hml : m < M
              · have qm : (m : Int) < (M : Int) := by omega
                have hcl := cnt_le Y m
                obtain ⟨z, hz, hzz⟩ := CI.out m hml
                rcases hzz with ⟨e, ey⟩ | ⟨e, ey⟩ | ⟨e, ey⟩
                · rw [e] at hz
                  have HE : Hid (cnt Y (m + 1) = cnt Y m + 1) := by show cnt Y m + _ = _; rw [ey]; rfl
                  clear e ey CI HRL qe
                  go_wp2
                  go_roundw
                  case rel => exact ⟨m + 1, by go_num, by rw [HE.out]; go_num, by omega, trivial⟩
                  case measure => simp [intOf]; omega
                · rw [e] at hz
                  have HE : Hid (cnt Y (m + 1) = cnt Y m) := by show cnt Y m + _ = _; rw [ey]; rfl
                  clear e ey CI HRL qe
                  go_wp2
                  go_roundw
                  case rel => exact ⟨m + 1, by go_num, by rw [HE.out], by omega, trivial⟩
                  case measure => simp [intOf]; omega
                · rw [e] at hz
                  have HE : Hid (cnt Y (m + 1) = cnt Y m) := by show cnt Y m + _ = _; rw [ey]; rfl
                  clear e ey CI HRL qe
                  go_wp2
                  go_roundw
                  case rel => exact ⟨m + 1, by go_num, by rw [HE.out], by omega, trivial⟩
                  case measure => simp [intOf]; omega
              · have qm : ¬ (m : Int) < (M : Int) := by omega
                obtain rfl : m = M := by omega
                clear CI
                go_wp2
                go_roundw
                case rel => exact ⟨j + 1, T, v', true, by go_num, by rw [HRL.out.1], by rw [HTD.out], rfl, by omega, HRL.out.2⟩
                case measure => simp [intOf]; omega
          · have O1 := tout_any HS3.out.a
            rw [hTf, hTd] at O1
            refine O1.mono ?_
            clear O1
            rintro e u5 ⟨rfl, b5⟩
            have HS5 := hide (HS3.out.on b5)
            have CI : Hid (∀ m, m < M → ∃ z, u5.cell? ⟨s, m, none⟩ = some (.int .i64 z) ∧ ((z = 1 ∧ T.y m = true) ∨ (z = 0 ∧ T.y m = false) ∨ (z = -1 ∧ T.y m = false))) := fun m hm => by
              have ht := HS5.out.told
              have hn := HS5.out.n
              refine ⟨_, HS5.out.f.cell (by omega), ?_⟩
              have no : v' m ≠ 1 → T.y m = false := fun e => by
                cases e2 : T.y m
                · rfl
                · exact absurd ((ht.yes m (by omega)).2 e2) e
              rcases ht.may m (by omega) with e | e | e
              · exact .inr (.inl ⟨e, no (by omega)⟩)
              · exact .inl ⟨e, (ht.yes m (by omega)).1 e⟩
              · exact .inr (.inr ⟨e, no (by omega)⟩)
            have qe : (((cnt T.y M : Nat) : Int) == (M : Int)) = false := by
              have hn := HS5.out.n
              unfold Ta.f at hTf
              rw [hn] at hTf
              simp at hTf ⊢
              omega
            have HRL : Hid (T.f = false ∧ Sst w u5 p s M T v' true) := ⟨hTf, HS5.out⟩
            have HTD := hide hTd
            clear b5 HS3 HS5 hTf hTd
            obtain ⟨Y, hY⟩ : ∃ Y, T.y = Y := ⟨_, rfl⟩
            rw [hY] at CI qe
            clear hY
            go_wp2
            go_loopw [16, 89] (fun av i vr => ∃ m : Nat, i = .int .i64 m ∧ av = .int .i64 (cnt Y m) ∧ m ≤ M ∧ vr = u5) (fun _ i _ => M - (intOf i).toNat)
            case atStart => exact ⟨0, rfl, rfl, Nat.zero_le _, rfl⟩
            case round =>
              obtain ⟨m, rfl, rfl, hm, rfl⟩ := hrel
              by_cases hml : m < M
              · have qm : (m : Int) < (M : Int) := by omega
                have hcl := cnt_le Y m
                obtain ⟨z, hz, hzz⟩ := CI.out m hml
                rcases hzz with ⟨e, ey⟩ | ⟨e, ey⟩ | ⟨e, ey⟩
                · rw [e] at hz
                  have HE : Hid (cnt Y (m + 1) = cnt Y m + 1) := by show cnt Y m + _ = _; rw [ey]; rfl
                  clear e ey CI HRL qe
                  go_wp2
                  go_roundw
                  case rel => exact ⟨m + 1, by go_num, by rw [HE.out]; go_num, by omega, trivial⟩
                  case measure => simp [intOf]; omega
                · rw [e] at hz
                  have HE : Hid (cnt Y (m + 1) = cnt Y m) := by show cnt Y m + _ = _; rw [ey]; rfl
                  clear e ey CI HRL qe
                  go_wp2
                  go_roundw
                  case rel => exact ⟨m + 1, by go_num, by rw [HE.out], by omega, trivial⟩
                  case measure => simp [intOf]; omega
                · rw [e] at hz
                  have HE : Hid (cnt Y (m + 1) = cnt Y m) := by show cnt Y m + _ = _; rw [ey]; rfl
                  clear e ey CI HRL qe
                  go_wp2
                  go_roundw
                  case rel => exact ⟨m + 1, by go_num, by rw [HE.out], by omega, trivial⟩
                  case measure => simp [intOf]; omega
              · have qm : ¬ (m : Int) < (M : Int) := by omega
                obtain rfl : m = M := by omega
                clear CI
                go_wp2
                go_roundw
                case rel => exact ⟨j + 1, T, v', true, by go_num, by rw [HRL.out.1], by rw [HTD.out], rfl, by omega, HRL.out.2⟩
                case measure => simp [intOf]; omega
          · have O1 := tout_any HS3.out.a
            rw [hTf, hTd] at O1
            refine O1.mono ?_
            clear O1
            rintro e u5 ⟨rfl, b5⟩
            have HS5 := hide (HS3.out.on b5)
            have CI : Hid (∀ m, m < M → ∃ z, u5.cell? ⟨s, m, none⟩ = some (.int .i64 z) ∧ ((z = 1 ∧ T.y m = true) ∨ (z = 0 ∧ T.y m = false) ∨ (z = -1 ∧ T.y m = false))) := fun m hm => by
              have ht := HS5.out.told
              have hn := HS5.out.n
              refine ⟨_, HS5.out.f.cell (by omega), ?_⟩
              have no : v' m ≠ 1 → T.y m = false := fun e => by
                cases e2 : T.y m
                · rfl
                · exact absurd ((ht.yes m (by omega)).2 e2) e
              rcases ht.may m (by omega) with e | e | e
              · exact .inr (.inl ⟨e, no (by omega)⟩)
              · exact .inl ⟨e, (ht.yes m (by omega)).1 e⟩
              · exact .inr (.inr ⟨e, no (by omega)⟩)
            have qe : (((cnt T.y M : Nat) : Int) == (M : Int)) = true := by
              have hn := HS5.out.n
              unfold Ta.f at hTf
              rw [hn] at hTf
              simp at hTf ⊢
              omega
            have HRL : Hid (T.f = true ∧ Sst w u5 p s M T v' true) := ⟨hTf, HS5.out⟩
            have HTD := hide hTd
            clear b5 HS3 HS5 hTf hTd
            obtain ⟨Y, hY⟩ : ∃ Y, T.y = Y := ⟨_, rfl⟩
            rw [hY] at CI qe
            clear hY
            go_wp2
            go_loopw [16, 89] (fun av i vr => ∃ m : Nat, i = .int .i64 m ∧ av = .int .i64 (cnt Y m) ∧ m ≤ M ∧ vr = u5) (fun _ i _ => M - (intOf i).toNat)
            case atStart => exact ⟨0, rfl, rfl, Nat.zero_le _, rfl⟩
            case round =>
              obtain ⟨m, rfl, rfl, hm, rfl⟩ := hrel
              by_cases hml : m < M
              · have qm : (m : Int) < (M : Int) := by omega
                have hcl := cnt_le Y m
                obtain ⟨z, hz, hzz⟩ := CI.out m hml
                rcases hzz with ⟨e, ey⟩ | ⟨e, ey⟩ | ⟨e, ey⟩
                · rw [e] at hz
                  have HE : Hid (cnt Y (m + 1) = cnt Y m + 1) := by show cnt Y m + _ = _; rw [ey]; rfl
                  clear e ey CI HRL qe
                  go_wp2
                  go_roundw
                  case rel => exact ⟨m + 1, by go_num, by rw [HE.out]; go_num, by omega, trivial⟩
                  case measure => simp [intOf]; omega
                · rw [e] at hz
                  have HE : Hid (cnt Y (m + 1) = cnt Y m) := by show cnt Y m + _ = _; rw [ey]; rfl
                  clear e ey CI HRL qe
                  go_wp2
                  go_roundw
                  case rel => exact ⟨m + 1, by go_num, by rw [HE.out], by omega, trivial⟩
                  case measure => simp [intOf]; omega
                · rw [e] at hz
                  have HE : Hid (cnt Y (m + 1) = cnt Y m) := by show cnt Y m + _ = _; rw [ey]; rfl
                  clear e ey CI HRL qe
                  go_wp2
                  go_roundw
                  case rel => exact ⟨m + 1, by go_num, by rw [HE.out], by omega, trivial⟩
                  case measure => simp [intOf]; omega
              · have qm : ¬ (m : Int) < (M : Int) := by omega
                obtain rfl : m = M := by omega
                clear CI
                go_wp2
                go_roundw
                case rel => exact ⟨j + 1, T, v', true, by go_num, by rw [HRL.out.1], by rw [HTD.out], rfl, by omega, HRL.out.2⟩
                case measure => simp [intOf]; omega
      · have q100 : (j : Int) ≥ 100 := by omega
        have HB := hide HS.out.bel
        clear HS HCL
        go_wp2_with (go_at_call 18; refine (HAW.out _).mono ?_; rintro e V5 ⟨rfl, b5⟩; have HB5 := hide b5; clear b5)
        go_ret
        exact ⟨rfl, bel_on' (by first | exact HB.out | exact HB.out.alloc HB.out.size _) HB5.out⟩
    · have ql : ¬ (j : Int) < (l1.length : Int) := by omega
      have HB := hide HS.out.bel
      clear HS HCL
      go_wp2_with (go_at_call 18; refine (HAW.out _).mono ?_; rintro e V5 ⟨rfl, b5⟩; have HB5 := hide b5; clear b5)
      go_ret
      exact ⟨rfl, bel_on' HB.out HB5.out⟩
end Go.Proofs.Ytlnmjoolbifgjaa
