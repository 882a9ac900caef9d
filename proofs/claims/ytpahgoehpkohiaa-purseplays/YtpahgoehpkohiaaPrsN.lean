/-
  Contract of purse's New.
-/
import Derived.Test.YtpahgoehpkohiaaPrsU
namespace Go.Proofs.Ytpahgoehpkohiaa
open Go.ChangeShapes Go.WideShapes Go.ChangeAt Go.RowKit Go.Maps

theorem Pk0.congr {B : Nat} {w : World} {p b c : Nat} {s s' : Qb} {n : Nat} (k : Pk0 B w p b c s n) (h1 : ∀ k : Nat, k < 8 → s.f k = s'.f k) (h2 : s.a = s'.a) (h3 : s.d = s'.d) : Pk0 B w p b c s' n := by
  unfold Pk0 bcs at *
  rw [← rowc_congr h1, ← h2, ← h3]
  exact k
theorem pk_start (w : World) (l : List Int) : Pk0 w.heap.size (((w.alloc (.map #[] 0)).alloc (.map #[] 0)).alloc (.cells #[.int .i64 0, .int .i64 0, .int .i64 0, .int .i64 0, .int .i64 0, .int .i64 0, .int .i64 0, .int .i64 0, .map (some w.heap.size), .map (some (w.heap.size + 1))] 53)) (w.heap.size + 2) w.heap.size (w.heap.size + 1) ⟨onJ l 0, fun _ => none, fun _ => none⟩ 0 := by
  have h2 := World.alloc_heap_new ((w.alloc (.map #[] 0)).alloc (.map #[] 0)) (.cells #[.int .i64 0, .int .i64 0, .int .i64 0, .int .i64 0, .int .i64 0, .int .i64 0, .int .i64 0, .int .i64 0, .map (some w.heap.size), .map (some (w.heap.size + 1))] 53)
  rw [World.size_alloc, World.size_alloc] at h2
  have m1 : Mp (((w.alloc (.map #[] 0)).alloc (.map #[] 0)).alloc (.cells #[.int .i64 0, .int .i64 0, .int .i64 0, .int .i64 0, .int .i64 0, .int .i64 0, .int .i64 0, .int .i64 0, .map (some w.heap.size), .map (some (w.heap.size + 1))] 53)) w.heap.size 0 (fun _ => none) := ⟨.map [], ((World.ownsMap_made _ _ _ _).alloc _).alloc _, FitsG.new _⟩
  have m2 : Mp (((w.alloc (.map #[] 0)).alloc (.map #[] 0)).alloc (.cells #[.int .i64 0, .int .i64 0, .int .i64 0, .int .i64 0, .int .i64 0, .int .i64 0, .int .i64 0, .int .i64 0, .map (some w.heap.size), .map (some (w.heap.size + 1))] 53)) (w.heap.size + 1) 0 (fun _ => none) := ⟨.map [], by
    have := (World.ownsMap_made (w.alloc (.map #[] 0)) Try.prog 3 pairElem).alloc (.cells #[.int .i64 0, .int .i64 0, .int .i64 0, .int .i64 0, .int .i64 0, .int .i64 0, .int .i64 0, .int .i64 0, .map (some w.heap.size), .map (some (w.heap.size + 1))] 53)
    rw [World.size_alloc] at this
    exact this, FitsG.new _⟩
  refine Pk0.congr (s := ⟨fun _ => 0, fun _ => none, fun _ => none⟩) ⟨h2, ⟨by omega, by omega, by omega, by omega⟩, m1, m2⟩ (fun k _ => ?_) rfl rfl
  show 0 = onJ l 0 k
  unfold onJ
  rw [if_neg (by omega)]
def NRel (w : World) (l : List Int) (m : Nat) (i : Value) (wr : World) : Prop :=
  ∃ j : Nat, i = .int .i64 j ∧ j ≤ m ∧ Hid (Pk0 w.heap.size wr (w.heap.size + 2) w.heap.size (w.heap.size + 1) ⟨onJ l j, fun _ => none, fun _ => none⟩ 0) ∧ Hid (Below w.heap.size w wr)
theorem onJ_endP {l : List Int} {m : Nat} (hm : m = min l.length 8) {k : Nat} (hk : k < 8) : onJ l m k = (newQ l).f k := by
  show onJ l m k = clampA (l.getD (k : Int).toNat 0)
  unfold onJ
  by_cases h : k < m
  · rw [if_pos (by omega)]
  · rw [if_neg (by omega)]
    have : l.length ≤ k := by omega
    rw [List.getD_eq_getElem?_getD, show ((k : Int).toNat) = k by simp, List.getElem?_eq_none this]
    rfl

set_option maxRecDepth 100000 in
set_option maxHeartbeats 2000000 in
theorem pnew_any (a : Option Addr) (l : List Int) (cap : Nat) (w : World) (ha : Ints w a l) (hcap : l.length ≤ cap) (hl : l.length ≤ 9223372036854775807) (hnil : a = none → cap = 0) :
    Calls Try.prog 10 #[.slice a l.length cap] w fun e w' => ∃ p b c, e = .returned (.pointer (some ⟨p, 0, none⟩)) ∧ Pk w.heap.size w' p b c (newQ l) 0 ∧ Below w.heap.size w w' := by
  have hmm := @run_makeMap Try.prog
  have HS := hide (pk_start w l)
  have HA := hide ha
  clear ha
  by_cases h8 : ¬ (8 : Int) < (l.length : Int)
  · skip
    go_enter Try.func10, Try.ntmps10
    go_wp2
    go_loopw [16] (fun i wr => NRel w l l.length i wr) (fun i _ => l.length - (Go.RowKit.intOf i).toNat)
    case atStart => exact ⟨0, rfl, Nat.zero_le _, HS, bel_al (bel_al (bel_al (Below.refl _ _) _) _) _⟩
    case round =>
      obtain ⟨j, rfl, hj, HK, HB⟩ := hrel
      clear HS
      by_cases hlt : j < l.length
      · have q1 : (j : Int) < ((l.length : Nat) : Int) := by omega
        have hjl : j < l.length := by omega
        have hj8 : (j : Int) < 8 := by omega
        rcases HA.out.below HB.out with h0 | ⟨ab, off, rfl, hca⟩
        · rw [h0] at hjl; simp at hjl
        have c0 := hca j hjl
        obtain ⟨x, hx⟩ : ∃ x, l.getD j 0 = x := ⟨_, rfl⟩
        rw [hx] at c0
        have c1 := HK.out.cellF (i := j) (by omega)
        have f1 := HK.out.frozen j
        have KEY : Hid (∀ v, v = clampA x → Pk0 w.heap.size (wr.setCell ⟨w.heap.size + 2, j, none⟩ (.int .i64 v)) (w.heap.size + 2) w.heap.size (w.heap.size + 1) ⟨onJ l (j + 1), fun _ => none, fun _ => none⟩ 0 ∧ Below w.heap.size w (wr.setCell ⟨w.heap.size + 2, j, none⟩ (.int .i64 v))) := fun v hv => by
          have := HK.out.setF (i := j) (by omega) v
          rw [hv, ← hx, onJ_step] at this
          rw [hv, ← hx]
          exact ⟨this, HB.out.setCell (p := ⟨w.heap.size + 2, j, none⟩) (by show w.heap.size ≤ w.heap.size + 2; omega) _⟩
        obtain ⟨y, hy⟩ : ∃ y, onJ l j j = y := ⟨_, rfl⟩
        dsimp only at c1
        rw [hy] at c1
        clear hca hx hy HA
        by_cases x0 : ¬ x < 0
        · by_cases x1 : ¬ 1000000000 < x
          · have HC : Hid (x = clampA x) := by show _ = _; unfold clampA; rw [if_neg (by omega), if_pos (by omega)]
            go_wp2
            go_roundw
            case rel => exact ⟨j + 1, by go_num, by omega, (KEY.out _ HC.out).1, (KEY.out _ HC.out).2⟩
            case measure => simp [Go.RowKit.intOf]; omega
          · have x2 : 1000000000 < x := by omega
            clear x1
            have HC : Hid (1000000000 = clampA x) := by show _ = _; unfold clampA; rw [if_neg (by omega)]; split <;> omega
            go_wp2
            go_roundw
            case rel => exact ⟨j + 1, by go_num, by omega, (KEY.out _ HC.out).1, (KEY.out _ HC.out).2⟩
            case measure => simp [Go.RowKit.intOf]; omega
        · have x2 : x < 0 := by omega
          clear x0
          have HC : Hid (0 = clampA x) := by show _ = _; unfold clampA; split <;> (try split) <;> omega
          go_wp2
          go_roundw
          case rel => exact ⟨j + 1, by go_num, by omega, (KEY.out _ HC.out).1, (KEY.out _ HC.out).2⟩
          case measure => simp [Go.RowKit.intOf]; omega
      · have q1 : ¬ (j : Int) < ((l.length : Nat) : Int) := by omega
        have hjm : j = l.length := by omega
        subst hjm
        have HE : Hid (∀ k : Nat, k < 8 → onJ l l.length k = (newQ l).f k) := fun k hk => onJ_endP (by omega) hk
        clear HA
        go_wp2
        go_ret
        first | exact ⟨_, rfl, ⟨_, _, ⟨HK.out.congr HE.out rfl rfl, GoodQ.new l⟩⟩, HB.out⟩ | exact ⟨_, _, _, rfl, ⟨HK.out.congr HE.out rfl rfl, GoodQ.new l⟩, HB.out⟩
  · have h9 : (8 : Int) < (l.length : Int) := by omega
    have hc8 : (8 : Int) ≤ (cap : Int) := by omega
    clear h8
    go_enter Try.func10, Try.ntmps10
    go_wp2
    go_loopw [16] (fun i wr => NRel w l 8 i wr) (fun i _ => 8 - (Go.RowKit.intOf i).toNat)
    case atStart => exact ⟨0, rfl, Nat.zero_le _, HS, bel_al (bel_al (bel_al (Below.refl _ _) _) _) _⟩
    case round =>
      obtain ⟨j, rfl, hj, HK, HB⟩ := hrel
      clear HS
      by_cases hlt : j < 8
      · have q1 : (j : Int) < ((8 : Nat) : Int) := by omega
        have hjl : j < l.length := by omega
        have hj8 : (j : Int) < 8 := by omega
        rcases HA.out.below HB.out with h0 | ⟨ab, off, rfl, hca⟩
        · rw [h0] at hjl; simp at hjl
        have c0 := hca j hjl
        obtain ⟨x, hx⟩ : ∃ x, l.getD j 0 = x := ⟨_, rfl⟩
        rw [hx] at c0
        have c1 := HK.out.cellF (i := j) (by omega)
        have f1 := HK.out.frozen j
        have KEY : Hid (∀ v, v = clampA x → Pk0 w.heap.size (wr.setCell ⟨w.heap.size + 2, j, none⟩ (.int .i64 v)) (w.heap.size + 2) w.heap.size (w.heap.size + 1) ⟨onJ l (j + 1), fun _ => none, fun _ => none⟩ 0 ∧ Below w.heap.size w (wr.setCell ⟨w.heap.size + 2, j, none⟩ (.int .i64 v))) := fun v hv => by
          have := HK.out.setF (i := j) (by omega) v
          rw [hv, ← hx, onJ_step] at this
          rw [hv, ← hx]
          exact ⟨this, HB.out.setCell (p := ⟨w.heap.size + 2, j, none⟩) (by show w.heap.size ≤ w.heap.size + 2; omega) _⟩
        obtain ⟨y, hy⟩ : ∃ y, onJ l j j = y := ⟨_, rfl⟩
        dsimp only at c1
        rw [hy] at c1
        clear hca hx hy HA
        by_cases x0 : ¬ x < 0
        · by_cases x1 : ¬ 1000000000 < x
          · have HC : Hid (x = clampA x) := by show _ = _; unfold clampA; rw [if_neg (by omega), if_pos (by omega)]
            go_wp2
            go_roundw
            case rel => exact ⟨j + 1, by go_num, by omega, (KEY.out _ HC.out).1, (KEY.out _ HC.out).2⟩
            case measure => simp [Go.RowKit.intOf]; omega
          · have x2 : 1000000000 < x := by omega
            clear x1
            have HC : Hid (1000000000 = clampA x) := by show _ = _; unfold clampA; rw [if_neg (by omega)]; split <;> omega
            go_wp2
            go_roundw
            case rel => exact ⟨j + 1, by go_num, by omega, (KEY.out _ HC.out).1, (KEY.out _ HC.out).2⟩
            case measure => simp [Go.RowKit.intOf]; omega
        · have x2 : x < 0 := by omega
          clear x0
          have HC : Hid (0 = clampA x) := by show _ = _; unfold clampA; split <;> (try split) <;> omega
          go_wp2
          go_roundw
          case rel => exact ⟨j + 1, by go_num, by omega, (KEY.out _ HC.out).1, (KEY.out _ HC.out).2⟩
          case measure => simp [Go.RowKit.intOf]; omega
      · have q1 : ¬ (j : Int) < ((8 : Nat) : Int) := by omega
        have hjm : j = 8 := by omega
        subst hjm
        have HE : Hid (∀ k : Nat, k < 8 → onJ l 8 k = (newQ l).f k) := fun k hk => onJ_endP (by omega) hk
        clear HA
        go_wp2
        go_ret
        first | exact ⟨_, rfl, ⟨_, _, ⟨HK.out.congr HE.out rfl rfl, GoodQ.new l⟩⟩, HB.out⟩ | exact ⟨_, _, _, rfl, ⟨HK.out.congr HE.out rfl rfl, GoodQ.new l⟩, HB.out⟩
end Go.Proofs.Ytpahgoehpkohiaa
