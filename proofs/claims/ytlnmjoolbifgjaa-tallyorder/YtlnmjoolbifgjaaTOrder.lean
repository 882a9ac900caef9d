/-
  TallyOrder's walk.
-/
import Derived.Test.YtlnmjoolbifgjaaTlyV
import Derived.Test.YtlnmjoolbifgjaaNum
namespace Go.Proofs.Ytlnmjoolbifgjaa
open Go.ChangeShapes Go.WideShapes Go.ChangeAt Go.RowKit

def brow (n : Nat) (y : Nat → Bool) : List Value := (List.range n).map (fun k : Nat => .bool (y k))
theorem brow_get {n : Nat} (y : Nat → Bool) {i : Nat} (h : i < n) : (brow n y)[i]? = some (.bool (y i)) := by simp [brow, h]
theorem brow_put (n : Nat) (y : Nat → Bool) (i : Nat) : (brow n y).set i (.bool true) = brow n (yesB y i) := by
  apply List.ext_getElem?
  intro k
  rw [List.getElem?_set, show (brow n y).length = n by simp [brow]]
  by_cases h : k < n
  · rw [brow_get _ h, brow_get _ h]
    unfold yesB
    by_cases e : i = k
    · subst e; rw [if_pos rfl, if_pos h, if_pos rfl]
    · rw [if_neg e, if_neg (fun h => e h.symm)]
  · have e1 : ∀ y : Nat → Bool, (brow n y)[k]? = none := fun y => List.getElem?_eq_none (by simp [brow]; omega)
    rw [e1, e1]
    split
    · rw [if_neg (by omega)]
    · rfl
/-- The five at s, as y says. -/
def Five (w : World) (s : Nat) (y : Nat → Bool) : Prop := w.heap[s]? = some (.cells (brow 5 y).toArray 40 (0, 0))
theorem Five.cell {w : World} {s : Nat} {y : Nat → Bool} (h : Five w s y) {i : Nat} (hi : i < 5) : w.cell? ⟨s, i, none⟩ = some (.bool (y i)) := by
  rw [cell_of h, List.getElem?_toArray]; exact brow_get _ hi
theorem Five.frozen {w : World} {s : Nat} {y : Nat → Bool} (h : Five w s y) (i : Nat) : w.frozen? ⟨s, i, none⟩ = false := frozen_of_row _ _ _ _ _ h
/-- The tally and what the law has seen. -/
structure Ost (w wr : World) (p s : Nat) (y : Nat → Bool) (t : Ta) : Prop where
  a : Tk w.heap.size wr p t
  f : Five wr s y
  ne : p ≠ s
  low : w.heap.size ≤ s
  bel : Below w.heap.size w wr
theorem Ost.on {w wr u : World} {p s : Nat} {y : Nat → Bool} {t : Ta} (k : Ost w wr p s y t) (hb : Below wr.heap.size wr u) : Ost w u p s y t :=
  ⟨k.a.on hb, (hb.block _ (Array.getElem?_eq_some_iff.1 k.f).1).trans k.f, k.ne, k.low, bel_on' k.bel hb⟩
theorem Ost.step {w wr V : World} {p s : Nat} {y : Nat → Bool} {t t' : Ta} (k : Ost w wr p s y t) (k2 : Tk w.heap.size V p t') (o2 : Rg.Kept (Own1 p) wr V) : Ost w V p s y t' :=
  ⟨k2, o2.block _ _ k.f (fun h => k.ne h.symm), k.ne, k.low, k.bel.trans (k.a.bel o2)⟩
theorem Ost.put {w wr : World} {p s : Nat} {y : Nat → Bool} {t : Ta} (k : Ost w wr p s y t) (i : Nat) : Ost w (wr.setCell ⟨s, i, none⟩ (.bool true)) p s (yesB y i) t := by
  have kk : Rg.Kept (fun k _ => k = s) wr (wr.setCell ⟨s, i, none⟩ (.bool true)) := Rg.Kept.setCell _ (fun _ => rfl)
  refine ⟨k.a.kept kk (fun _ h => k.ne h), ?_, k.ne, k.low, k.bel.trans (kk.bel k.bel.size (fun i _ e => by rw [e]; exact k.low))⟩
  unfold Five
  rw [heap_setCell_same _ _ _ _ _ _ k.f, ← brow_put, List.setIfInBounds_toArray]
def ORel (w : World) (p s : Nat) (N : Int) (len : Nat) (kv i : Value) (wr : World) : Prop :=
  ∃ (j : Nat) (y : Nat → Bool), i = .int .i64 j ∧ kv = .int .i64 (cnt y 5) ∧ j ≤ len ∧ Hid (∀ k : Nat, y k = true → (k : Int) ≠ N) ∧ Hid (Ost w wr p s y ⟨5, y, false⟩)
theorem dec_say {w : World} {B : Nat} {p : Nat} {t : Ta} (k : Tk B w p t) (h : t.d = true) :
    Calls Try.prog 11 #[.pointer (some ⟨p, 0, none⟩), .int .i64 0, .bool true] w fun e w' => e = .returned (.bool false) ∧ Below B w w' := by
  refine (tsay_any k 0 true).mono ?_
  rintro e w' ⟨rfl, k2, o2⟩
  have e1 : t.sayB 0 true = false := by unfold Ta.sayB; rw [if_neg (fun e => by have := e.1; rw [h] at this; cases this)]
  exact ⟨by rw [e1], k.bel o2⟩
set_option maxRecDepth 100000 in
set_option maxHeartbeats 4000000 in
theorem tallyOrder_walk (a0 : Option Addr) (len0 cap0 : Nat) (z0 : List Int) (a1 : Int) (w : World) (w0 : IsRow .i64 w a0 len0 cap0 z0) (_w1 : (Lit.int .i64 a1).wf = true) :
    Calls Try.prog 6 #[.slice a0 len0 cap0, .int .i64 a1] w fun e w' => e = .returned (.bool true) ∧ Below w.heap.size w w' := by
  obtain ⟨l1, rfl, hlen, hin⟩ := w0.ints
  clear w0 _w1
  obtain ⟨bN1, bN2⟩ := um_bd a1 8 (by omega) (by omega)
  obtain ⟨N, hN⟩ : ∃ N, um a1 8 = N := ⟨_, rfl⟩
  rw [hN] at bN1 bN2
  unfold um at hN
  have HIN := hide hin
  have HAW := hide tawake_any
  clear hin
  have N1 := tnew_any 5 w
  rw [show newT (cutN 5) = ⟨5, fun _ => false, false⟩ from rfl] at N1
  go_enter Try.func6, Try.ntmps6
  go_wp2_with (go_at_call 7; refine N1.mono ?_; clear N1; rintro e u1 ⟨p, rfl, k1, b1⟩; have HK1 := hide k1; have HB1 := hide b1; clear k1 b1)
  rw [hN]
  clear hN
  obtain ⟨s, hs⟩ : ∃ s, u1.heap.size = s := ⟨_, rfl⟩
  have HST : Hid (Ost w (u1.alloc (.cells #[.bool false, .bool false, .bool false, .bool false, .bool false] 40)) p s (fun _ => false) ⟨5, fun _ => false, false⟩) := by
    have hb : Below u1.heap.size u1 (u1.alloc (.cells #[.bool false, .bool false, .bool false, .bool false, .bool false] 40)) := (Below.refl _ _).alloc (Nat.le_refl _) _
    have h1 := HK1.out.lt
    have h2 := HB1.out.size
    refine ⟨HK1.out.on hb, ?_, by omega, by omega, bel_on' HB1.out hb⟩
    rw [← hs]
    exact World.alloc_heap_new _ _
  rw [hs]
  clear HK1 HB1 hs
  go_loopw [8, 25] (fun kv i wr => ORel w p s N l1.length kv i wr) (fun _ i _ => l1.length - (intOf i).toNat)
  case atStart => exact ⟨0, fun _ => false, rfl, rfl, Nat.zero_le _, (show ∀ k : Nat, (fun _ : Nat => false) k = true → (k : Int) ≠ N from fun k h => Bool.noConfusion h), HST⟩
  case round =>
    obtain ⟨j, y, rfl, rfl, hj, HY, HS⟩ := hrel
    clear HST
    by_cases hlt : j < l1.length
    · have ql : (j : Int) < (l1.length : Int) := by omega
      rcases HIN.out.below HS.out.bel with h0 | ⟨bc, off, rfl, hca⟩
      · subst h0; simp at hlt
      have c0 := hca j hlt
      obtain ⟨z, hz⟩ : ∃ z, l1.getD j 0 = z := ⟨_, rfl⟩
      rw [hz] at c0
      clear hca hz
      by_cases h60 : j < 60
      · have q60 : ¬ (j : Int) ≥ 60 := by omega
        obtain ⟨bX1, bX2⟩ := um_bd z 5 (by omega) (by omega)
        obtain ⟨X0, hX⟩ : ∃ X, um z 5 = X := ⟨_, rfl⟩
        rw [hX] at bX1 bX2
        unfold um at hX
        obtain ⟨X, rfl⟩ : ∃ X : Nat, X0 = X := ⟨X0.toNat, by omega⟩
        have hX5 : X < 5 := by omega
        have hfit : (⟨5, y, false⟩ : Ta).fits (X : Int) := ⟨rfl, by omega, by simpa using bX2⟩
        have hcn : cnt y 5 < 5 := HS.out.a.2.open_ rfl
        by_cases hxn : (X : Int) = N
        · have hy : y X = false := by
            cases e : y X
            · rfl
            · exact absurd hxn (HY.out X e)
          subst hxn
          have qx : ((X : Int) != (X : Int)) = false := by simp
          have C1 := tsay_any HS.out.a (X : Int) false
          rw [show (⟨5, y, false⟩ : Ta).sayB (X : Int) false = true by unfold Ta.sayB; rw [if_pos hfit, Int.toNat_natCast]; dsimp only; rw [hy]; rfl, show (⟨5, y, false⟩ : Ta).said (X : Int) false = ⟨5, y, true⟩ by unfold Ta.said; rw [if_pos ⟨hfit, by rw [Int.toNat_natCast]; exact hy⟩]; rfl] at C1
          have HF : (⟨5, y, true⟩ : Ta).f = false := by unfold Ta.f; simp; omega
          have HN : Hid (∀ V, Tk w.heap.size V p ⟨5, y, true⟩ → Rg.Kept (Own1 p) wr V → V.cell? ⟨s, X, none⟩ = some (.bool false) ∧ V.frozen? ⟨s, X, none⟩ = false ∧ Ost w (V.setCell ⟨s, X, none⟩ (.bool true)) p s (yesB y X) ⟨5, y, true⟩ ∧
              Calls Try.prog 13 #[.pointer (some ⟨p, 0, none⟩)] (V.setCell ⟨s, X, none⟩ (.bool true)) fun e w' => e = .returned (.tuple #[.bool false, .bool true]) ∧ Below (V.setCell ⟨s, X, none⟩ (.bool true)).heap.size (V.setCell ⟨s, X, none⟩ (.bool true)) w') := fun V K O => by
            have hk := HS.out.step K O
            have hc := hk.f.cell hX5
            rw [hy] at hc
            have ho := tout_any (hk.put X).a
            rw [HF] at ho
            exact ⟨hc, hk.f.frozen X, hk.put X, ho⟩
          have NX : Hid (∀ V, Ost w V p s (yesB y X) ⟨5, y, true⟩ → (Calls Try.prog 16 #[.pointer (some ⟨p, 0, none⟩)] V fun e w' => e = .returned (.slice none 0 0) ∧ Below V.heap.size V w') ∧ (Calls Try.prog 11 #[.pointer (some ⟨p, 0, none⟩), .int .i64 0, .bool true] V fun e w' => e = .returned (.bool false) ∧ Below w.heap.size V w')) := fun V k => ⟨twaits0_any k.a rfl, dec_say k.a rfl⟩
          clear HF hfit hcn HS hy
          go_wp2_with (first
            | (go_at_call 13; refine O3.mono ?_; clear O3; rintro e u3 ⟨rfl, b3⟩; have HK3 := hide (HK2.out.on b3); have W4 := (NX.out _ HK3.out).1; clear b3 HK2)
            | (go_at_call 16; refine W4.mono ?_; clear W4; rintro e u4 ⟨rfl, b4⟩; have HK4 := hide (HK3.out.on b4); have S5 := (NX.out _ HK4.out).2; clear b4 HK3)
            | (go_at_call 18; refine (HAW.out _).mono ?_; rintro e u6 ⟨rfl, b6⟩; have HB6 := hide (bel_on' HB5.out b6); clear b6)
            | (go_at_call 11; first
                | (with_reducible refine C1.mono ?_; clear C1; rintro e u2 ⟨rfl, k2, o2⟩; obtain ⟨cs, fs, hk2, O3⟩ := HN.out u2 k2 o2; have HK2 := hide hk2; clear k2 o2 hk2 HN)
                | (with_reducible refine S5.mono ?_; clear S5; rintro e u5 ⟨rfl, b5⟩; have HB5 := hide (HK4.out.bel.trans b5); clear b5)))
          go_ret
          exact ⟨rfl, HB6.out⟩
        · have qx : ((X : Int) != N) = true := by simp [hxn]
          have C1 := tsay_any HS.out.a (X : Int) true
          rw [show (⟨5, y, false⟩ : Ta).sayB (X : Int) true = true by unfold Ta.sayB; rw [if_pos hfit]; simp] at C1
          cases hy : y X
          · have hsd := said_yes (t := ⟨5, y, false⟩) rfl hX5 hy
            have hff := said_f (t := ⟨5, y, false⟩) hX5 hy
            dsimp only at hsd hff
            rw [hsd] at C1
            have HY2 : Hid (∀ k : Nat, yesB y X k = true → (k : Int) ≠ N) := fun k hk => by
              unfold yesB at hk
              by_cases e : k = X
              · subst e; exact hxn
              · rw [if_neg e] at hk; exact HY.out k hk
            have HCU : Hid (cnt (yesB y X) 5 = cnt y 5 + 1) := by show _ = _; rw [cnt_up _ _ hy, if_pos hX5]
            by_cases h5 : cnt y 5 + 1 = 5
            · have q5 : ((cnt y 5 : Int) + 1 == 5) = true := by simp; omega
              rw [decide_eq_true h5] at C1 hff
              have HN : Hid (∀ V, Tk w.heap.size V p ⟨5, yesB y X, true⟩ → Rg.Kept (Own1 p) wr V → V.cell? ⟨s, X, none⟩ = some (.bool false) ∧ V.frozen? ⟨s, X, none⟩ = false ∧ Ost w (V.setCell ⟨s, X, none⟩ (.bool true)) p s (yesB y X) ⟨5, yesB y X, true⟩ ∧
                  Calls Try.prog 13 #[.pointer (some ⟨p, 0, none⟩)] (V.setCell ⟨s, X, none⟩ (.bool true)) fun e w' => e = .returned (.tuple #[.bool true, .bool true]) ∧ Below (V.setCell ⟨s, X, none⟩ (.bool true)).heap.size (V.setCell ⟨s, X, none⟩ (.bool true)) w') := fun V K O => by
                have hk := HS.out.step K O
                have hc := hk.f.cell hX5
                rw [hy] at hc
                have ho := tout_any (hk.put X).a
                rw [hff] at ho
                exact ⟨hc, hk.f.frozen X, hk.put X, ho⟩
              have NX : Hid (∀ V, Ost w V p s (yesB y X) ⟨5, yesB y X, true⟩ → Calls Try.prog 11 #[.pointer (some ⟨p, 0, none⟩), .int .i64 0, .bool true] V fun e w' => e = .returned (.bool false) ∧ Below w.heap.size V w') := fun V k => dec_say k.a rfl
              generalize (⟨5, yesB y X, true⟩ : Ta) = T at C1 HN NX
              clear hff hsd hfit HS hy h5 hxn HCU HY2
              go_wp2_with (first
                | (go_at_call 13; refine O3.mono ?_; clear O3; rintro e u3 ⟨rfl, b3⟩; have HK3 := hide (HK2.out.on b3); have S5 := NX.out _ HK3.out; clear b3 HK2)
                | (go_at_call 18; refine (HAW.out _).mono ?_; rintro e u6 ⟨rfl, b6⟩; have HB6 := hide (bel_on' HB5.out b6); clear b6)
                | (go_at_call 11; first
                    | (with_reducible refine C1.mono ?_; clear C1; rintro e u2 ⟨rfl, k2, o2⟩; obtain ⟨cs, fs, hk2, O3⟩ := HN.out u2 k2 o2; have HK2 := hide hk2; clear k2 o2 hk2 HN)
                    | (with_reducible refine S5.mono ?_; clear S5; rintro e u5 ⟨rfl, b5⟩; have HB5 := hide (HK3.out.bel.trans b5); clear b5)))
              go_ret
              exact ⟨rfl, HB6.out⟩
            · have q5 : ((cnt y 5 : Int) + 1 == 5) = false := by simp; omega
              rw [decide_eq_false h5] at C1 hff
              have HN : Hid (∀ V, Tk w.heap.size V p ⟨5, yesB y X, false⟩ → Rg.Kept (Own1 p) wr V → V.cell? ⟨s, X, none⟩ = some (.bool false) ∧ V.frozen? ⟨s, X, none⟩ = false ∧ Ost w (V.setCell ⟨s, X, none⟩ (.bool true)) p s (yesB y X) ⟨5, yesB y X, false⟩ ∧
                  Calls Try.prog 13 #[.pointer (some ⟨p, 0, none⟩)] (V.setCell ⟨s, X, none⟩ (.bool true)) fun e w' => e = .returned (.tuple #[.bool false, .bool false]) ∧ Below (V.setCell ⟨s, X, none⟩ (.bool true)).heap.size (V.setCell ⟨s, X, none⟩ (.bool true)) w') := fun V K O => by
                have hk := HS.out.step K O
                have hc := hk.f.cell hX5
                rw [hy] at hc
                have ho := tout_any (hk.put X).a
                rw [hff] at ho
                exact ⟨hc, hk.f.frozen X, hk.put X, ho⟩
              have NX : Hid (∀ V, Ost w V p s (yesB y X) ⟨5, yesB y X, false⟩ → Calls Try.prog 16 #[.pointer (some ⟨p, 0, none⟩)] V (TellI V (silent (yesB y X) 5))) := fun V k => twaits_any k.a
              have hsl := silent_len (yesB y X) 5
              rw [HCU.out] at hsl
              obtain ⟨L, hL⟩ : ∃ L, silent (yesB y X) 5 = L := ⟨_, rfl⟩
              rw [hL] at NX hsl
              have qw : ((L.length : Int) != 5 - ((cnt y 5 : Int) + 1)) = false := by simp; omega
              have HSL := hide hsl
              clear hff hsd hfit HS hy h5 hxn hL hsl
              go_wp2_with (first
                | (go_at_call 13; refine O3.mono ?_; clear O3; rintro e u3 ⟨rfl, b3⟩; have HK3 := hide (HK2.out.on b3); have W4 := NX.out _ HK3.out; clear b3 HK2)
                | (go_at_call 16; refine W4.mono ?_; clear W4; rintro e u4 ⟨a4, c4, rfl, -, b4⟩; have HK4 := hide (HK3.out.on b4); clear b4 HK3)
                | (go_at_call 11; with_reducible refine C1.mono ?_; clear C1; rintro e u2 ⟨rfl, k2, o2⟩; obtain ⟨cs, fs, hk2, O3⟩ := HN.out u2 k2 o2; have HK2 := hide hk2; clear k2 o2 hk2 HN))
              go_roundw
              case rel => exact ⟨j + 1, yesB y X, by go_num, by rw [HCU.out]; go_num, by omega, HY2, HK4⟩
              case measure => simp [intOf]; omega
          · rw [said_none (t := ⟨5, y, false⟩) (fun e => by have := e.2; rw [Int.toNat_natCast] at this; dsimp only at this; rw [hy] at this; cases this)] at C1
            have q5 : ((cnt y 5 : Int) == 5) = false := by simp; omega
            have HN : Hid (∀ V, Tk w.heap.size V p ⟨5, y, false⟩ → Rg.Kept (Own1 p) wr V → V.cell? ⟨s, X, none⟩ = some (.bool true) ∧ Ost w V p s y ⟨5, y, false⟩ ∧
                Calls Try.prog 13 #[.pointer (some ⟨p, 0, none⟩)] V fun e w' => e = .returned (.tuple #[.bool false, .bool false]) ∧ Below V.heap.size V w') := fun V K O => by
              have hk := HS.out.step K O
              have hc := hk.f.cell hX5
              rw [hy] at hc
              have ho := tout_any hk.a
              rw [K.2.open_f rfl] at ho
              exact ⟨hc, hk, ho⟩
            have NX : Hid (∀ V, Ost w V p s y ⟨5, y, false⟩ → Calls Try.prog 16 #[.pointer (some ⟨p, 0, none⟩)] V (TellI V (silent y 5))) := fun V k => twaits_any k.a
            have hsl := silent_len y 5
            obtain ⟨L, hL⟩ : ∃ L, silent y 5 = L := ⟨_, rfl⟩
            rw [hL] at NX hsl
            have qw : ((L.length : Int) != 5 - (cnt y 5 : Int)) = false := by simp; omega
            have HSL := hide hsl
            clear hfit HS hy hxn hL hsl
            go_wp2_with (first
              | (go_at_call 13; refine O3.mono ?_; clear O3; rintro e u3 ⟨rfl, b3⟩; have HK3 := hide (HK2.out.on b3); have W4 := NX.out _ HK3.out; clear b3 HK2)
              | (go_at_call 16; refine W4.mono ?_; clear W4; rintro e u4 ⟨a4, c4, rfl, -, b4⟩; have HK4 := hide (HK3.out.on b4); clear b4 HK3)
              | (go_at_call 11; with_reducible refine C1.mono ?_; clear C1; rintro e u2 ⟨rfl, k2, o2⟩; obtain ⟨cs, hk2, O3⟩ := HN.out u2 k2 o2; have HK2 := hide hk2; clear k2 o2 hk2 HN))
            go_roundw
            case rel => exact ⟨j + 1, y, by go_num, rfl, by omega, HY, HK4⟩
            case measure => simp [intOf]; omega
      · have q60 : (j : Int) ≥ 60 := by omega
        have A := tclose_any HS.out.a
        have HN : Hid (∀ V, Tk w.heap.size V p (⟨5, y, false⟩ : Ta).close → Rg.Kept (Own1 p) wr V → Ost w V p s y ⟨5, y, true⟩ ∧ Calls Try.prog 13 #[.pointer (some ⟨p, 0, none⟩)] V fun e w' => e = .returned (.tuple #[.bool false, .bool true]) ∧ Below V.heap.size V w') := fun V K O => by
          have hk := HS.out.step K O
          have ho := tout_any hk.a
          rw [show (⟨5, y, false⟩ : Ta).close.f = false from HS.out.a.2.open_f rfl] at ho
          exact ⟨hk, ho⟩
        clear HS
        go_wp2_with (first
          | (go_at_call 9; refine A.mono ?_; clear A; rintro e u2 ⟨rfl, k2, o2⟩; obtain ⟨hk2, O3⟩ := HN.out u2 k2 o2; have HK2 := hide hk2; clear k2 o2 hk2 HN)
          | (go_at_call 13; refine O3.mono ?_; clear O3; rintro e u3 ⟨rfl, b3⟩; have HK3 := hide (HK2.out.on b3); clear b3 HK2)
          | (go_at_call 18; refine (HAW.out _).mono ?_; rintro e u6 ⟨rfl, b6⟩; have HB6 := hide (bel_on' HK3.out.bel b6); clear b6))
        go_ret
        exact ⟨rfl, HB6.out⟩
    · have ql : ¬ (j : Int) < (l1.length : Int) := by omega
      have A := tclose_any HS.out.a
      have HN : Hid (∀ V, Tk w.heap.size V p (⟨5, y, false⟩ : Ta).close → Rg.Kept (Own1 p) wr V → Ost w V p s y ⟨5, y, true⟩ ∧ Calls Try.prog 13 #[.pointer (some ⟨p, 0, none⟩)] V fun e w' => e = .returned (.tuple #[.bool false, .bool true]) ∧ Below V.heap.size V w') := fun V K O => by
        have hk := HS.out.step K O
        have ho := tout_any hk.a
        rw [show (⟨5, y, false⟩ : Ta).close.f = false from HS.out.a.2.open_f rfl] at ho
        exact ⟨hk, ho⟩
      clear HS
      go_wp2_with (first
        | (go_at_call 9; refine A.mono ?_; clear A; rintro e u2 ⟨rfl, k2, o2⟩; obtain ⟨hk2, O3⟩ := HN.out u2 k2 o2; have HK2 := hide hk2; clear k2 o2 hk2 HN)
        | (go_at_call 13; refine O3.mono ?_; clear O3; rintro e u3 ⟨rfl, b3⟩; have HK3 := hide (HK2.out.on b3); clear b3 HK2)
        | (go_at_call 18; refine (HAW.out _).mono ?_; rintro e u6 ⟨rfl, b6⟩; have HB6 := hide (bel_on' HK3.out.bel b6); clear b6))
      go_ret
      exact ⟨rfl, HB6.out⟩
end Go.Proofs.Ytlnmjoolbifgjaa
