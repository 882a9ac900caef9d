/-
  Contracts of tally's add, Say, Outcome.
-/
import Derived.Test.YtlnmjoolbifgjaaTlyS
namespace Go.Proofs.Ytlnmjoolbifgjaa
open Go.ChangeShapes Go.WideShapes Go.ChangeAt Go.RowKit

theorem kept_drew {E : Nat → Obj → Prop} {w u : World} (k : Rg.Kept E w u) : Rg.Kept E w u.drew := ⟨k.os, k.tape, k.output, k.size, k.block⟩
/-- Behind a yes of i. -/
theorem said_yes {t : Ta} {i : Nat} (hd : t.d = false) (hi : i < t.n) (hy : t.y i = false) : t.said (i : Int) true = ⟨t.n, yesB t.y i, decide (cnt t.y t.n + 1 = t.n)⟩ := by
  unfold Ta.said
  rw [if_pos ⟨⟨hd, by omega, by omega⟩, by simpa using hy⟩, if_pos rfl]
  rw [Int.toNat_natCast, cnt_up _ _ hy, if_pos hi]
theorem said_f {t : Ta} {i : Nat} (hi : i < t.n) (hy : t.y i = false) : (⟨t.n, yesB t.y i, decide (cnt t.y t.n + 1 = t.n)⟩ : Ta).f = decide (cnt t.y t.n + 1 = t.n) := by
  unfold Ta.f
  dsimp only
  rw [cnt_up _ _ hy, if_pos hi]
set_option maxHeartbeats 1000000 in
theorem tadd_any {B : Nat} {w : World} {p : Nat} {t : Ta} (k : Tk B w p t) {i : Nat} (hd : t.d = false) (hi : i < t.n) (hy : t.y i = false) :
    Calls Try.prog 19 #[.pointer (some ⟨p, 0, none⟩), .int .i64 (i : Int)] w fun e w' => e = .returned (.tuple #[]) ∧ Tk B w' p (t.said (i : Int) true) ∧ Rg.Kept (Own1 p) w w' := by
  have g := k.2
  have h64 := g.n64
  have hi64 : i < 64 := by omega
  have hio : (i : Int) < 64 := by omega
  obtain ⟨c0, c65, c66, c67⟩ := k.1.cells
  have ci := k.1.cellI hi64
  have hcn := g.open_ hd
  have FZ : ∀ j, w.frozen? ⟨p, j, none⟩ = false := k.1.frozen
  have f1 := FZ (1 + i)
  have f65 := FZ 65
  have f66 := FZ 66
  have f67 := FZ 67
  rw [said_yes hd hi hy]
  have KEY1 : Hid (cnt t.y t.n + 1 ≠ t.n → Tk B ((w.setCell ⟨p, 1 + i, none⟩ (.bool true)).setCell ⟨p, 65, none⟩ (.int .i64 ((cnt t.y t.n : Nat) + 1))) p ⟨t.n, yesB t.y i, decide (cnt t.y t.n + 1 = t.n)⟩ ∧ Rg.Kept (Own1 p) w ((w.setCell ⟨p, 1 + i, none⟩ (.bool true)).setCell ⟨p, 65, none⟩ (.int .i64 ((cnt t.y t.n : Nat) + 1)))) := fun hne => by
    refine ⟨⟨?_, ?_⟩, (own1_set _ _).trans (own1_set _ _)⟩
    · have h := (k.1.setI hi64).setC ((cnt t.y t.n : Nat) + 1)
      rw [said_f hi hy]
      dsimp only
      rw [cnt_up _ _ hy, if_pos hi, decide_eq_false hne]
      have ef := g.open_f hd
      rw [ef, hd] at h
      exact h
    · exact ⟨g.n1, g.n64, fun e => by rw [said_f hi hy] at e; exact e⟩
  have KEY2 : Hid (cnt t.y t.n + 1 = t.n → Tk B ((((w.setCell ⟨p, 1 + i, none⟩ (.bool true)).setCell ⟨p, 65, none⟩ (.int .i64 ((cnt t.y t.n : Nat) + 1))).setCell ⟨p, 66, none⟩ (.bool true)).setCell ⟨p, 67, none⟩ (.bool true)) p ⟨t.n, yesB t.y i, decide (cnt t.y t.n + 1 = t.n)⟩ ∧ Rg.Kept (Own1 p) w ((((w.setCell ⟨p, 1 + i, none⟩ (.bool true)).setCell ⟨p, 65, none⟩ (.int .i64 ((cnt t.y t.n : Nat) + 1))).setCell ⟨p, 66, none⟩ (.bool true)).setCell ⟨p, 67, none⟩ (.bool true))) := fun hne => by
    refine ⟨⟨?_, ?_⟩, (((own1_set _ _).trans (own1_set _ _)).trans (own1_set _ _)).trans (own1_set _ _)⟩
    · have h := (((k.1.setI hi64).setC ((cnt t.y t.n : Nat) + 1)).setF true).setD true
      rw [said_f hi hy]
      dsimp only
      rw [cnt_up _ _ hy, if_pos hi, decide_eq_true hne]
      exact h
    · exact ⟨g.n1, g.n64, fun e => by rw [said_f hi hy] at e; exact e⟩
  obtain ⟨T, hT⟩ : ∃ T, (⟨t.n, yesB t.y i, decide (cnt t.y t.n + 1 = t.n)⟩ : Ta) = T := ⟨_, rfl⟩
  rw [hT] at KEY1 KEY2 ⊢
  have hc64 : cnt t.y t.n < 64 := by omega
  obtain ⟨c, hc⟩ : ∃ c, cnt t.y t.n = c := ⟨_, rfl⟩
  rw [hc] at KEY1 KEY2 c65 hc64
  obtain ⟨n, hn⟩ : ∃ n, t.n = n := ⟨_, rfl⟩
  rw [hn] at KEY1 KEY2 c0 h64
  obtain ⟨z, hz⟩ : ∃ z, t.y i = z := ⟨_, rfl⟩
  rw [hz] at ci
  obtain ⟨d, hd'⟩ : ∃ d, t.d = d := ⟨_, rfl⟩
  rw [hd'] at c67
  obtain ⟨f, hf'⟩ : ∃ f, t.f = f := ⟨_, rfl⟩
  rw [hf'] at c66
  clear k hz hd' hf' hd hy hi hcn g hc hn hT FZ
  by_cases e : c + 1 = n
  · have q : ((c : Int) + 1 == (n : Int)) = true := by simp; omega
    have KK := hide (KEY2.out e)
    clear KEY1 KEY2 e
    go_enter Try.func19, Try.ntmps19
    go_wp2
    go_region
    go_wp2
    go_end0
    exact ⟨rfl, KK.out.1, ⟨KK.out.2.os, KK.out.2.tape, KK.out.2.output, KK.out.2.size, KK.out.2.block⟩⟩
  · have q : ((c : Int) + 1 == (n : Int)) = false := by simp; omega
    have KK := hide (KEY1.out e)
    clear KEY1 KEY2 e
    go_enter Try.func19, Try.ntmps19
    go_wp2
    go_region
    go_wp2
    go_end0
    exact ⟨rfl, KK.out.1, ⟨KK.out.2.os, KK.out.2.tape, KK.out.2.output, KK.out.2.size, KK.out.2.block⟩⟩
theorem said_none {t : Ta} {i : Int} {b : Bool} (h : ¬ (t.fits i ∧ t.y i.toNat = false)) : t.said i b = t := if_neg h
set_option maxHeartbeats 1000000 in
theorem tsay_any {B : Nat} {w : World} {p : Nat} {t : Ta} (k : Tk B w p t) (i : Int) (b : Bool) :
    Calls Try.prog 11 #[.pointer (some ⟨p, 0, none⟩), .int .i64 i, .bool b] w fun e w' => e = .returned (.bool (t.sayB i b)) ∧ Tk B w' p (t.said i b) ∧ Rg.Kept (Own1 p) w w' := by
  obtain ⟨c0, -, -, c67⟩ := k.1.cells
  have no : ¬ t.fits i → t.sayB i b = false ∧ t.said i b = t := fun h => ⟨if_neg h, said_none (fun e => h e.1)⟩
  cases hd : t.d
  · rw [hd] at c67
    by_cases h0 : i < 0
    · obtain ⟨e1, e2⟩ := no (fun h => by have := h.2.1; omega)
      rw [e1, e2]
      have HK := hide k
      clear k no e1 e2 hd
      go_enter Try.func11, Try.ntmps11
      go_wp2
      go_ret
      exact ⟨rfl, HK.out, Rg.Kept.refl _ _⟩
    · by_cases h1 : i ≥ t.n
      · obtain ⟨e1, e2⟩ := no (fun h => by have := h.2.2; omega)
        rw [e1, e2]
        have HK := hide k
        clear k no e1 e2 hd
        go_enter Try.func11, Try.ntmps11
        go_wp2
        go_ret
        exact ⟨rfl, HK.out, Rg.Kept.refl _ _⟩
      · obtain ⟨j, rfl⟩ : ∃ j : Nat, i = j := ⟨i.toNat, by omega⟩
        have hj : j < t.n := by omega
        have hf : t.fits (j : Int) := ⟨hd, by omega, by omega⟩
        have h64 := k.2.n64
        have hj64 : j < 64 := by omega
        have hjo : (j : Int) < 64 := by omega
        have ci := k.1.cellI hj64
        cases hy : t.y j
        · rw [hy] at ci
          have e1 : t.sayB (j : Int) b = true := by unfold Ta.sayB; rw [if_pos hf, Int.toNat_natCast, hy]; rfl
          rw [e1]
          cases b
          · have e2 : t.said (j : Int) false = t.close := by unfold Ta.said; rw [if_pos ⟨hf, by simpa using hy⟩]; rfl
            rw [e2]
            have C := tclose_any k
            clear k no e1 e2 hd hf h64
            go_enter Try.func11, Try.ntmps11
            go_wp2_with (go_at_call 9; refine C.mono ?_; rintro e u ⟨rfl, k1, k2⟩; have HK1 := hide k1; have HK2 := hide k2; clear k1 k2)
            go_ret
            exact ⟨rfl, HK1.out, HK2.out⟩
          · have C := tadd_any k hd hj hy
            clear k no e1 hd hf h64
            go_enter Try.func11, Try.ntmps11
            go_wp2_with (go_at_call 19; refine C.mono ?_; rintro e u ⟨rfl, k1, k2⟩; have HK1 := hide k1; have HK2 := hide k2; clear k1 k2)
            go_ret
            exact ⟨rfl, HK1.out, HK2.out⟩
        · rw [hy] at ci
          have e1 : t.sayB (j : Int) b = b := by unfold Ta.sayB; rw [if_pos hf, Int.toNat_natCast, hy]; rfl
          have e2 : t.said (j : Int) b = t := said_none (fun e => by have := e.2; rw [Int.toNat_natCast, hy] at this; cases this)
          rw [e1, e2]
          have HK := hide k
          clear k no e1 e2 hd hf h64
          go_enter Try.func11, Try.ntmps11
          go_wp2
          go_ret
          exact ⟨rfl, HK.out, Rg.Kept.refl _ _⟩
  · rw [hd] at c67
    obtain ⟨e1, e2⟩ := no (fun h => by have := h.1; rw [hd] at this; cases this)
    rw [e1, e2]
    have HK := hide k
    clear k no e1 e2 hd
    go_enter Try.func11, Try.ntmps11
    go_wp2
    go_ret
    exact ⟨rfl, HK.out, Rg.Kept.refl _ _⟩
theorem tsaynil_any (i : Int) (b : Bool) (w : World) : Calls Try.prog 11 #[.pointer none, .int .i64 i, .bool b] w fun e w' => e = .returned (.bool false) ∧ w = w' := by
  go_enter Try.func11, Try.ntmps11
  go_wp2
  go_ret
  exact ⟨rfl, rfl⟩
theorem tout_any {B : Nat} {w : World} {p : Nat} {t : Ta} (k : Tk B w p t) :
    Calls Try.prog 13 #[.pointer (some ⟨p, 0, none⟩)] w fun e w' => e = .returned (.tuple #[.bool t.f, .bool t.d]) ∧ Below w.heap.size w w' := by
  obtain ⟨-, -, c66, c67⟩ := k.1.cells
  clear k
  go_enter Try.func13, Try.ntmps13
  go_wp2
  go_region
  go_wp2
  go_ret2
  exact ⟨rfl, (Below.refl _ _).drew⟩
theorem toutnil_any (w : World) : Calls Try.prog 13 #[.pointer none] w fun e w' => e = .returned (.tuple #[.bool false, .bool false]) ∧ w = w' := by
  go_enter Try.func13, Try.ntmps13
  go_wp2
  go_ret2
  exact ⟨rfl, rfl⟩
end Go.Proofs.Ytlnmjoolbifgjaa
