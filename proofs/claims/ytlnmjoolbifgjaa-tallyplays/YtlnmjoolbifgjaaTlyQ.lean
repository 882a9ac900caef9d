/-
  Contracts of the reference's Outcome, Say, Waits.
-/
import Derived.Test.YtlnmjoolbifgjaaTlyR
namespace Go.Proofs.Ytlnmjoolbifgjaa
open Go.ChangeShapes Go.WideShapes Go.ChangeAt Go.RowKit

theorem ret_two {a b c d : Bool} (h1 : a = c) (h2 : b = d) : Ending.returned (.tuple #[.bool a, .bool b]) = .returned (.tuple #[.bool c, .bool d]) := by rw [h1, h2]
theorem Rel.two {t : Ta} {s : Nat → Int} {cl : Bool} (r : Rel t s cl) {j : Nat} (hj : j < t.n) (h : s j = 2) : false = t.f ∧ true = t.d := by
  have hy : t.y j = false := by
    cases e : t.y j
    · rfl
    · have := (r.yes j hj).2 e; omega
  have := cnt_lt hj hy
  exact ⟨by unfold Ta.f; simp; omega, (r.dec.2 (.inr (.inl ⟨j, hj, h⟩))).symm⟩
theorem Rel.none {t : Ta} {s : Nat → Int} {cl : Bool} (r : Rel t s cl) (h2 : ∀ i, i < t.n → s i ≠ 2) (hf : t.f = false) : cl = t.d := by
  cases cl
  · cases e : t.d
    · rfl
    · rcases r.dec.1 e with h | ⟨i, hi, h⟩ | h
      · cases h
      · exact absurd h (h2 i hi)
      · rw [hf] at h; cases h
  · exact (r.dec.2 (.inl rfl)).symm
set_option maxRecDepth 100000 in
set_option maxHeartbeats 1000000 in
theorem rout_any {B : Nat} {w : World} {q b : Nat} {t : Ta} (k : Rt B w q b t) :
    Calls Try.prog 14 #[.pointer (some ⟨q, 0, none⟩)] w fun e w' => e = .returned (.tuple #[.bool t.f, .bool t.d]) ∧ Below w.heap.size w w' := by
  obtain ⟨s, cl, h, r, g⟩ := k
  obtain ⟨c0, c1⟩ := h.cells
  have CI : Hid (∀ j, j < t.n → w.cell? ⟨b, j, none⟩ = some (.int .i64 (s j))) := fun j hj => h.cellI hj
  have HR := hide r
  have h64 := g.n64
  have hf : Hid (t.f = decide (cnt t.y t.n = t.n)) := rfl
  have HD : Hid (t.f = true → true = t.d) := fun e => (g.fd e).symm
  clear h r g
  obtain ⟨F, hF⟩ : ∃ F, t.f = F := ⟨_, rfl⟩
  obtain ⟨D, hD⟩ : ∃ D, t.d = D := ⟨_, rfl⟩
  obtain ⟨n, hn⟩ : ∃ n, t.n = n := ⟨_, rfl⟩
  obtain ⟨y, hy⟩ : ∃ y, t.y = y := ⟨_, rfl⟩
  have H2 : Hid (∀ j, j < n → s j = 2 → false = F ∧ true = D) := fun j hj e => by
    subst hF hD hn
    exact HR.out.two hj e
  have HN : Hid ((∀ i, i < n → s i ≠ 2) → F = false → cl = D) := fun e1 e2 => by
    subst hF hD hn
    exact HR.out.none e1 e2
  have HM : Hid (∀ j, j < n → (s j = 0 ∧ y j = false) ∨ (s j = 1 ∧ y j = true) ∨ s j = 2) := fun j hj => by
    subst hn hy
    rcases HR.out.may j hj with e | e | e
    · left
      refine ⟨e, ?_⟩
      cases e2 : t.y j
      · rfl
      · have := (HR.out.yes j hj).2 e2; omega
    · exact .inr (.inl ⟨e, (HR.out.yes j hj).1 e⟩)
    · exact .inr (.inr e)
  rw [hF, hD]
  rw [hF, hn, hy] at hf
  rw [hn] at c0 CI h64
  rw [hF, hD] at HD
  clear hF hD hn hy HR
  have hl : n ≤ 4611686018427387904 := by omega
  go_enter Try.func14, Try.ntmps14
  go_wp2
  go_loopw [4, 12] (fun v i wr => ∃ (j : Nat), i = .int .i64 j ∧ v = .int .i64 (cnt y j) ∧ j ≤ n ∧ Hid (∀ i, i < j → s i ≠ 2) ∧ wr = w) (fun _ i _ => n - (intOf i).toNat)
  case atStart => exact ⟨0, rfl, rfl, Nat.zero_le _, fun i hi => by omega, rfl⟩
  case round =>
    obtain ⟨j, rfl, rfl, hj, HJ, rfl⟩ := hrel
    by_cases hlt : j < n
    · have ql : (j : Int) < (n : Int) := by omega
      have hx := CI.out j hlt
      have hcl := cnt_le y j
      rcases HM.out j hlt with ⟨e, ey⟩ | ⟨e, ey⟩ | e
      · rw [e] at hx
        have HE : Hid (cnt y (j + 1) = cnt y j) := by show cnt y j + _ = _; rw [ey]; rfl
        have HJ2 : Hid (∀ i, i < j + 1 → s i ≠ 2) := fun i hi => by
          by_cases e2 : i = j
          · subst e2; omega
          · exact HJ.out i (by omega)
        clear e ey HJ
        go_wp2
        go_roundw
        case rel => exact ⟨j + 1, by go_num, by rw [HE.out], by omega, HJ2, trivial⟩
        case measure => simp [intOf]; omega
      · rw [e] at hx
        have HE : Hid (cnt y (j + 1) = cnt y j + 1) := by show cnt y j + _ = _; rw [ey]; rfl
        have HJ2 : Hid (∀ i, i < j + 1 → s i ≠ 2) := fun i hi => by
          by_cases e2 : i = j
          · subst e2; omega
          · exact HJ.out i (by omega)
        clear e ey HJ
        go_wp2
        go_roundw
        case rel => exact ⟨j + 1, by go_num, by rw [HE.out]; go_num, by omega, HJ2, trivial⟩
        case measure => simp [intOf]; omega
      · rw [e] at hx
        have HZ := hide (H2.out j hlt e)
        clear e HJ
        go_wp2
        go_ret2
        exact ⟨ret_two HZ.out.1 HZ.out.2, Below.refl _ _⟩
    · have ql : ¬ (j : Int) < (n : Int) := by omega
      obtain rfl : j = n := by omega
      by_cases ec : cnt y j = j
      · have qe : ((cnt y j : Int) == (j : Int)) = true := by simp; omega
        have HF : Hid (true = F) := by show true = F; rw [hf.out]; simp [ec]
        have HD2 : Hid (true = D) := HD.out HF.out.symm
        clear ec HJ
        go_wp2
        go_ret2
        exact ⟨ret_two HF.out HD2.out, Below.refl _ _⟩
      · have qe : ((cnt y j : Int) == (j : Int)) = false := by simp; omega
        have HF : Hid (false = F) := by show false = F; rw [hf.out]; simp [ec]
        have HD2 : Hid (cl = D) := HN.out HJ.out HF.out.symm
        clear ec HJ
        go_wp2
        go_region
        go_wp2
        go_ret2
        exact ⟨ret_two HF.out HD2.out, (Below.refl _ _).drew⟩
theorem Rt0.setI {B : Nat} {w : World} {q b n : Nat} {s : Nat → Int} {cl : Bool} (k : Rt0 B w q b n s cl) (i : Nat) (v : Int) : Rt0 B (w.setCell ⟨b, i, none⟩ (.int .i64 v)) q b n (updI s i v) cl := by
  refine ⟨?_, ?_, k.2.2⟩
  · rw [Below.heap_setCell _ _ _ _ (show q ≠ (⟨b, i, none⟩ : Addr).block from k.ne)]
    exact k.1
  · rw [heap_setCell_same _ _ _ _ _ _ k.2.1, ← row_put, List.setIfInBounds_toArray]
/-- Nothing is decided: nobody said no, it is not closed. -/
theorem Rel.open_ {t : Ta} {s : Nat → Int} {cl : Bool} (r : Rel t s cl) (hd : t.d = false) : cl = false ∧ (∀ i, i < t.n → (s i = 0 ∧ t.y i = false) ∨ (s i = 1 ∧ t.y i = true)) := by
  refine ⟨?_, fun i hi => ?_⟩
  · cases cl
    · rfl
    · have := r.dec.2 (.inl rfl); rw [hd] at this; cases this
  · rcases r.may i hi with e | e | e
    · left
      refine ⟨e, ?_⟩
      cases e2 : t.y i
      · rfl
      · have := (r.yes i hi).2 e2; omega
    · exact .inr ⟨e, (r.yes i hi).1 e⟩
    · have := r.dec.2 (.inr (.inl ⟨i, hi, e⟩)); rw [hd] at this; cases this
theorem Rel.yes_ {t : Ta} {s : Nat → Int} {cl : Bool} (r : Rel t s cl) (hd : t.d = false) {j : Nat} (hj : j < t.n) (hy : t.y j = false) : Rel (t.said (j : Int) true) (updI s j 1) cl := by
  obtain ⟨h1, h2⟩ := r.open_ hd
  rw [said_yes hd hj hy]
  refine ⟨fun i hi => ?_, fun i hi => ?_, ?_⟩
  · unfold updI
    split
    · exact .inr (.inl rfl)
    · exact r.may i hi
  · unfold updI yesB
    dsimp only
    split
    · simp
    · exact r.yes i hi
  · rw [said_f hj hy]
    dsimp only
    constructor
    · exact fun h => .inr (.inr h)
    · rintro (h | ⟨i, hi, h⟩ | h)
      · rw [h1] at h; cases h
      · unfold updI at h
        split at h
        · omega
        · rcases h2 i hi with e | e <;> omega
      · exact h
theorem said_no {t : Ta} {j : Nat} (hd : t.d = false) (hj : j < t.n) (hy : t.y j = false) : t.said (j : Int) false = t.close := by
  unfold Ta.said
  rw [if_pos ⟨⟨hd, by omega, by omega⟩, by simpa using hy⟩]
  rfl
theorem Rel.no_ {t : Ta} {s : Nat → Int} {cl : Bool} (r : Rel t s cl) {j : Nat} (hj : j < t.n) (hy : t.y j = false) : Rel t.close (updI s j 2) cl := by
  refine ⟨fun i hi => ?_, fun i hi => ?_, ?_⟩
  · unfold updI
    split
    · exact .inr (.inr rfl)
    · exact r.may i hi
  · unfold updI
    split
    · next e => subst e; show _ ↔ t.y i = true; rw [hy]; simp
    · exact r.yes i hi
  · exact ⟨fun _ => .inr (.inl ⟨j, hj, by unfold updI; rw [if_pos rfl]⟩), fun _ => rfl⟩
set_option maxRecDepth 100000 in
set_option maxHeartbeats 1000000 in
theorem rsay_any {B : Nat} {w : World} {q b : Nat} {t : Ta} (k : Rt B w q b t) (i : Int) (v : Bool) :
    Calls Try.prog 12 #[.pointer (some ⟨q, 0, none⟩), .int .i64 i, .bool v] w fun e w' => e = .returned (.bool (t.sayB i v)) ∧ Rt B w' q b (t.said i v) ∧ Rg.Kept (Own2 q b) w w' := by
  have CO := rout_any k
  have no : ¬ t.fits i → t.sayB i v = false ∧ t.said i v = t := fun h => ⟨if_neg h, said_none (fun e => h e.1)⟩
  have HK := hide k
  clear k
  cases hd : t.d
  · rw [hd] at CO
    by_cases h0 : i < 0
    · obtain ⟨e1, e2⟩ := no (fun h => by have := h.2.1; omega)
      rw [e1, e2]
      clear no e1 e2 hd
      go_enter Try.func12, Try.ntmps12
      go_wp2_with (go_at_call 14; refine CO.mono ?_; rintro e u ⟨rfl, b1⟩; have HB := hide b1; clear b1)
      go_ret
      exact ⟨rfl, HK.out.on HB.out, Rg.Kept.of_below HB.out⟩
    · have CN : Hid (∀ u : World, Below w.heap.size w u → u.cell? ⟨q, 0, none⟩ = some (.slice (some ⟨b, 0, none⟩) t.n t.n)) := fun u hb => by
        obtain ⟨s, cl, h, r, g⟩ := HK.out.on hb
        exact h.cells.1
      by_cases h1 : i ≥ t.n
      · obtain ⟨e1, e2⟩ := no (fun h => by have := h.2.2; omega)
        rw [e1, e2]
        clear no e1 e2 hd
        go_enter Try.func12, Try.ntmps12
        go_wp2_with (go_at_call 14; refine CO.mono ?_; rintro e u ⟨rfl, b1⟩; have HB := hide b1; have c0 := CN.out u b1; clear b1)
        go_ret
        exact ⟨rfl, HK.out.on HB.out, Rg.Kept.of_below HB.out⟩
      · obtain ⟨j, rfl⟩ : ∃ j : Nat, i = j := ⟨i.toNat, by omega⟩
        have hj : j < t.n := by omega
        have hf : t.fits (j : Int) := ⟨hd, by omega, by omega⟩
        cases hy : t.y j
        · have e1 : t.sayB (j : Int) v = true := by unfold Ta.sayB; rw [if_pos hf, Int.toNat_natCast, hy]; rfl
          rw [e1]
          have ST : Hid (∀ u : World, Below w.heap.size w u → ∃ z, (u.cell? ⟨b, j, none⟩ = some (.int .i64 z) ∧ u.frozen? ⟨b, j, none⟩ = false ∧ z = 0) ∧ ((v = true → Rt B (u.setCell ⟨b, j, none⟩ (.int .i64 1)) q b (t.said (j : Int) v)) ∧ (v = false → Rt B (u.setCell ⟨b, j, none⟩ (.int .i64 2)) q b (t.said (j : Int) v))) ∧ (∀ x, Rg.Kept (Own2 q b) w (u.setCell ⟨b, j, none⟩ x))) := fun u hb => by
            obtain ⟨s, cl, h, r, g⟩ := HK.out.on hb
            refine ⟨s j, ⟨h.cellI hj, frozen_of_row _ _ _ _ _ h.2.1, ?_⟩, ⟨?_, ?_⟩, fun x => (Rg.Kept.of_below hb).trans (Rg.Kept.setCell _ (fun _ => .inr rfl))⟩
            · rcases (r.open_ hd).2 j hj with e | e
              · exact e.1
              · rw [hy] at e; cases e.2
            · rintro rfl
              exact ⟨_, cl, by rw [Ta.said_n]; exact h.setI j 1, r.yes_ hd hj hy, g.said _ _⟩
            · rintro rfl
              rw [said_no hd hj hy]
              exact ⟨_, cl, h.setI j 2, r.no_ hj hy, g.close⟩
          obtain ⟨T, hT⟩ : ∃ T, t.said (j : Int) v = T := ⟨_, rfl⟩
          rw [hT] at ST ⊢
          clear no e1 hd hf hT
          cases v
          · go_enter Try.func12, Try.ntmps12
            go_wp2_with (go_at_call 14; refine CO.mono ?_; rintro e u ⟨rfl, b1⟩; have HB := hide b1; have c0 := CN.out u b1; obtain ⟨z, ⟨cz, fz, hz⟩, ⟨-, r2⟩, r3⟩ := ST.out u b1; rw [hz] at cz; have R2 := hide (r2 rfl); have R3 := hide r3; clear b1 r2 r3 hz)
            go_ret
            exact ⟨rfl, R2.out, R3.out _⟩
          · go_enter Try.func12, Try.ntmps12
            go_wp2_with (go_at_call 14; refine CO.mono ?_; rintro e u ⟨rfl, b1⟩; have HB := hide b1; have c0 := CN.out u b1; obtain ⟨z, ⟨cz, fz, hz⟩, ⟨r2, -⟩, r3⟩ := ST.out u b1; rw [hz] at cz; have R2 := hide (r2 rfl); have R3 := hide r3; clear b1 r2 r3 hz)
            go_ret
            exact ⟨rfl, R2.out, R3.out _⟩
        · have e1 : t.sayB (j : Int) v = v := by unfold Ta.sayB; rw [if_pos hf, Int.toNat_natCast, hy]; rfl
          have e2 : t.said (j : Int) v = t := said_none (fun e => by have := e.2; rw [Int.toNat_natCast, hy] at this; cases this)
          rw [e1, e2]
          have ST : Hid (∀ u : World, Below w.heap.size w u → u.cell? ⟨b, j, none⟩ = some (.int .i64 1)) := fun u hb => by
            obtain ⟨s, cl, h, r, g⟩ := HK.out.on hb
            rw [h.cellI hj, (r.yes j hj).2 hy]
          clear no e1 e2 hd hf
          cases v
          · go_enter Try.func12, Try.ntmps12
            go_wp2_with (go_at_call 14; refine CO.mono ?_; rintro e u ⟨rfl, b1⟩; have HB := hide b1; have c0 := CN.out u b1; have cz := ST.out u b1; clear b1)
            go_ret
            exact ⟨rfl, HK.out.on HB.out, Rg.Kept.of_below HB.out⟩
          · go_enter Try.func12, Try.ntmps12
            go_wp2_with (go_at_call 14; refine CO.mono ?_; rintro e u ⟨rfl, b1⟩; have HB := hide b1; have c0 := CN.out u b1; have cz := ST.out u b1; clear b1)
            go_ret
            exact ⟨rfl, HK.out.on HB.out, Rg.Kept.of_below HB.out⟩
  · rw [hd] at CO
    obtain ⟨e1, e2⟩ := no (fun h => by have := h.1; rw [hd] at this; cases this)
    rw [e1, e2]
    clear no e1 e2 hd
    go_enter Try.func12, Try.ntmps12
    go_wp2_with (go_at_call 14; refine CO.mono ?_; rintro e u ⟨rfl, b1⟩; have HB := hide b1; clear b1)
    go_ret
    exact ⟨rfl, HK.out.on HB.out, Rg.Kept.of_below HB.out⟩
set_option maxRecDepth 100000 in
set_option maxHeartbeats 1000000 in
theorem rwaits_any {B : Nat} {w : World} {q b : Nat} {t : Ta} (k : Rt B w q b t) :
    Calls Try.prog 17 #[.pointer (some ⟨q, 0, none⟩)] w (TellI w t.waits) := by
  have CO := rout_any k
  cases hd : t.d
  · rw [hd] at CO
    have e : t.waits = silent t.y t.n := by unfold Ta.waits; rw [hd]; rfl
    rw [e]
    obtain ⟨s, cl, h, r, g⟩ := k
    have h64 := g.n64
    have CI : Hid (∀ (wr : World), Below w.heap.size w wr → ∀ j, j < t.n → wr.cell? ⟨b, j, none⟩ = some (.int .i64 (s j))) := fun wr hb j hj => (h.on hb).cellI hj
    have CN : Hid (∀ u : World, Below w.heap.size w u → u.cell? ⟨q, 0, none⟩ = some (.slice (some ⟨b, 0, none⟩) t.n t.n)) := fun u hb => (h.on hb).cells.1
    have HM := hide (r.open_ hd).2
    clear e hd h r g
    obtain ⟨n, hn⟩ : ∃ n, t.n = n := ⟨_, rfl⟩
    rw [hn] at CI CN h64 HM ⊢
    obtain ⟨y, hy⟩ : ∃ y, t.y = y := ⟨_, rfl⟩
    rw [hy] at HM ⊢
    clear hn hy
    have hl : n ≤ 4611686018427387904 := by omega
    go_enter Try.func17, Try.ntmps17
    go_wp2_with (go_at_call 14; refine CO.mono ?_; rintro e u ⟨rfl, b1⟩; have HB0 := hide b1; have c0 := CN.out u b1; clear b1)
    go_loopw [3, 19] (fun v i wr => ∃ (j : Nat) (av : Option Addr) (cv : Nat), i = .int .i64 j ∧ v = .slice av (silent y j).length cv ∧ j ≤ n ∧ Hid (wr.ownsRow w.heap.size 3 1 (.slice av (silent y j).length cv) (silent y j).length ((silent y j).map (Value.int .i64))) ∧ Hid (Below w.heap.size w wr)) (fun _ i _ => n - (intOf i).toNat)
    case atStart => exact ⟨0, none, 0, rfl, rfl, Nat.zero_le _, World.ownsRow_nil _ _ _ _, HB0⟩
    case round =>
      obtain ⟨j, av, cv, rfl, rfl, hj, HR, HB⟩ := hrel
      clear c0 CN CO
      by_cases hlt : j < n
      · have hx := CI.out wr HB.out j (by omega)
        have ql : (j : Int) < (n : Int) := by omega
        rcases HM.out j hlt with ⟨ez, hy⟩ | ⟨ez, hy⟩
        · have HE : Hid (silent y (j + 1) = silent y j ++ [(j : Int)]) := by show silent y j ++ _ = _; rw [hy]; rfl
          have hlen := silent_bd y j
          rw [ez] at hx
          have hbb := HB.out.size
          clear hy ez CI
          go_wp2_with (at_builtin; refine append_nums rfl (.tmp 26) (.tmp 28) rfl w.heap.size (.slice av (silent y j).length cv) (silent y j).length (silent y j) rfl (HR.out.alloc _) ⟨wr.heap.size, 0, none⟩ 1 1 [(j : Int)] rfl rfl (ints_one _ _) (by omega) (by simp; omega) ?_; intro v' w4 hown' hgrow; obtain ⟨a4, c4, rfl, -⟩ := row_slice hown'; have HR4 := hide hown'; have HB4 : Hid (Below w.heap.size w w4) := (HB.out.alloc HB.out.size _).grown hgrow (by simp; omega) (fun i e => (HR.out.lt i e).1); clear hown' hgrow)
          go_roundw
          case rel => exact ⟨j + 1, a4, c4, by go_num, by rw [HE.out]; simp, by omega, by rw [HE.out, List.length_append]; exact HR4, HB4⟩
          case measure => simp [intOf]; omega
        · have HE : Hid (silent y (j + 1) = silent y j) := by show silent y j ++ _ = _; rw [hy]; simp
          rw [ez] at hx
          clear hy ez CI
          go_wp2
          go_roundw
          case rel => exact ⟨j + 1, av, cv, by go_num, by rw [HE.out], by omega, by rw [HE.out]; exact HR, HB⟩
          case measure => simp [intOf]; omega
      · have ql : ¬ (j : Int) < (n : Int) := by omega
        go_wp2
        go_ret
        have e : j = n := by omega
        subst e
        obtain ⟨a', c', e1, -, hi⟩ := owned_nums HR.out
        cases e1
        exact ⟨_, _, rfl, hi, HB.out⟩
  · rw [hd] at CO
    have e : t.waits = [] := by unfold Ta.waits; rw [hd]; rfl
    rw [e]
    clear k e hd
    go_enter Try.func17, Try.ntmps17
    go_wp2_with (go_at_call 14; refine CO.mono ?_; rintro e u ⟨rfl, b1⟩; have HB := hide b1; clear b1)
    go_ret
    exact tell_nil HB.out
end Go.Proofs.Ytlnmjoolbifgjaa
