/-
  Own texts put together: GdN, Pu8, PuS, GdR, GdQ, GdP, PuI.
-/
import Derived.Test.YtepclljoiccieaaGreatDoorSgoodlop
import Derived.Test.YtepclljoiccieaaGreatDoorSgihhnle
import Derived.Test.YtepclljoiccieaaGreatDoorSghpcgle
import Derived.Test.YtepclljoiccieaaGreatDoorSgmjlbfb
import Derived.Test.YtepclljoiccieaaGreatDoorSghffmmk
import Derived.Maps.OwnSet
import Derived.Deep.CutBlock
/-
  Contract of stock's New.
-/
namespace Go.Proofs.YtepclljoiccieaaGreatDoor.Gd
open Go.ChangeShapes Go.WideShapes Go.ChangeAt Go.RowKit Go.Maps

theorem rowc_congr {h g : Int → Int} (e : ∀ k : Nat, k < 8 → h k = g k) : rowc h = rowc g := by
  unfold rowc
  apply List.map_congr_left
  intro k hk
  rw [e k (by simpa using hk)]
theorem Sk0.congr {B : Nat} {w : World} {p b : Nat} {s s' : Sb} {n : Nat} (k : Sk0 B w p b s n) (h1 : ∀ k : Nat, k < 8 → s.on k = s'.on k) (h2 : ∀ k : Nat, k < 8 → s.fr k = s'.fr k) (h3 : s.r = s'.r) : Sk0 B w p b s' n := by
  unfold Sk0 bcs at *
  rw [← rowc_congr h1, ← rowc_congr h2, ← h3]
  exact k
/-- What is on hand behind j rounds. -/
def onJ (l : List Int) (j : Nat) (k : Int) : Int := if k < j then clampA (l.getD k.toNat 0) else 0
theorem onJ_step (l : List Int) (j : Nat) : upd (onJ l j) j (clampA (l.getD j 0)) = onJ l (j + 1) := by
  funext k
  unfold onJ
  rw [upd_at]
  by_cases e : k = j
  · subst e
    rw [if_pos rfl, if_pos (by omega)]
    simp
  · rw [if_neg e]
    by_cases h : k < j
    · rw [if_pos h, if_pos (by omega)]
    · rw [if_neg h, if_neg (by omega)]
theorem sk_start (w : World) (l : List Int) : Sk0 w.heap.size ((w.alloc (.map #[] 0)).alloc (.cells #[.int .i64 0, .int .i64 0, .int .i64 0, .int .i64 0, .int .i64 0, .int .i64 0, .int .i64 0, .int .i64 0, .int .i64 0, .int .i64 0, .int .i64 0, .int .i64 0, .int .i64 0, .int .i64 0, .int .i64 0, .int .i64 0, .map (some w.heap.size)] 67)) (w.heap.size + 1) w.heap.size ⟨onJ l 0, fun _ => 0, fun _ => none⟩ 0 := by
  have h2 := World.alloc_heap_new (w.alloc (.map #[] 0)) (.cells #[.int .i64 0, .int .i64 0, .int .i64 0, .int .i64 0, .int .i64 0, .int .i64 0, .int .i64 0, .int .i64 0, .int .i64 0, .int .i64 0, .int .i64 0, .int .i64 0, .int .i64 0, .int .i64 0, .int .i64 0, .int .i64 0, .map (some w.heap.size)] 67)
  rw [World.size_alloc] at h2
  refine Sk0.congr (s := ⟨fun _ => 0, fun _ => 0, fun _ => none⟩) ⟨h2, by omega, Nat.le_refl _, .map [], (World.ownsMap_made _ _ _ _).alloc _, FitsG.new _⟩ (fun k _ => ?_) (fun _ _ => rfl) rfl
  show 0 = onJ l 0 k
  unfold onJ
  rw [if_neg (by omega)]
/-- b.free = b.onHand -/
theorem sk_copy {B : Nat} {w : World} {p b : Nat} {on fr : Int → Int} {r : Int → Option (Int × Int)} {n : Nat} (k : Sk0 B w p b ⟨on, fr, r⟩ n) :
    Sk0 B ((((((((w.setCell ⟨p, 8, none⟩ (.int .i64 (on 0))).setCell ⟨p, 9, none⟩ (.int .i64 (on 1))).setCell ⟨p, 10, none⟩ (.int .i64 (on 2))).setCell ⟨p, 11, none⟩ (.int .i64 (on 3))).setCell ⟨p, 12, none⟩ (.int .i64 (on 4))).setCell ⟨p, 13, none⟩ (.int .i64 (on 5))).setCell ⟨p, 14, none⟩ (.int .i64 (on 6))).setCell ⟨p, 15, none⟩ (.int .i64 (on 7))) p b ⟨on, on, r⟩ n := by
  refine Sk0.congr ((((((((k.setFr (i := 0) (by omega) (on 0)).setFr (i := 1) (by omega) (on 1)).setFr (i := 2) (by omega) (on 2)).setFr (i := 3) (by omega) (on 3)).setFr (i := 4) (by omega) (on 4)).setFr (i := 5) (by omega) (on 5)).setFr (i := 6) (by omega) (on 6)).setFr (i := 7) (by omega) (on 7)) (fun _ _ => rfl) (fun k hk => ?_) rfl
  dsimp only
  simp only [upd_at]
  match k, hk with
  | 0, _ => rfl
  | 1, _ => rfl
  | 2, _ => rfl
  | 3, _ => rfl
  | 4, _ => rfl
  | 5, _ => rfl
  | 6, _ => rfl
  | 7, _ => rfl
theorem below_copy {a w : World} {p : Nat} (h : Below a.heap.size a w) (hp : a.heap.size ≤ p) (x0 x1 x2 x3 x4 x5 x6 x7 : Value) :
    Below a.heap.size a ((((((((w.setCell ⟨p, 8, none⟩ x0).setCell ⟨p, 9, none⟩ x1).setCell ⟨p, 10, none⟩ x2).setCell ⟨p, 11, none⟩ x3).setCell ⟨p, 12, none⟩ x4).setCell ⟨p, 13, none⟩ x5).setCell ⟨p, 14, none⟩ x6).setCell ⟨p, 15, none⟩ x7) :=
  (((((((h.setCell hp _).setCell hp _).setCell hp _).setCell hp _).setCell hp _).setCell hp _).setCell hp _).setCell hp _

def NRel (w : World) (l : List Int) (m : Nat) (i : Value) (wr : World) : Prop :=
  ∃ j : Nat, i = .int .i64 j ∧ j ≤ m ∧ Hid (Sk0 w.heap.size wr (w.heap.size + 1) w.heap.size ⟨onJ l j, fun _ => 0, fun _ => none⟩ 0) ∧ Hid (Below w.heap.size w wr)
theorem onJ_end {l : List Int} {m : Nat} (hm : m = min l.length 8) {k : Nat} (hk : k < 8) : onJ l m k = (newS l).on k := by
  show onJ l m k = clampA (l.getD (k : Int).toNat 0)
  unfold onJ
  by_cases h : k < m
  · rw [if_pos (by omega)]
  · rw [if_neg (by omega)]
    have : l.length ≤ k := by omega
    rw [List.getD_eq_getElem?_getD, show ((k : Int).toNat) = k by simp, List.getElem?_eq_none this]
    rfl

set_option maxRecDepth 100000 in
set_option maxHeartbeats 2000000 in
theorem snew_any (a : Option Addr) (l : List Int) (cap : Nat) (w : World) (ha : Ints w a l) (hcap : l.length ≤ cap) (hl : l.length ≤ 9223372036854775807) (hnil : a = none → cap = 0) :
    Calls Tryz.prog 65 #[.slice a l.length cap] w fun e w' => ∃ p b, e = .returned (.pointer (some ⟨p, 0, none⟩)) ∧ Sk w.heap.size w' p b (newS l) 0 ∧ Below w.heap.size w w' := by
  have hmm := @run_makeMap Tryz.prog
  have HS := hide (sk_start w l)
  have HA := hide ha
  clear ha
  by_cases h8 : ¬ (8 : Int) < (l.length : Int)
  · go_enter Tryz.func65, Tryz.ntmps65
    go_wp2
    go_loopw [15] (fun i wr => NRel w l l.length i wr) (fun i _ => l.length - (Go.RowKit.intOf i).toNat)
    case atStart => exact ⟨0, rfl, Nat.zero_le _, HS, bel_al (bel_al (Below.refl _ _) _) _⟩
    case round =>
      obtain ⟨j, rfl, hj, HK, HB⟩ := hrel
      clear HS
      by_cases hlt : j < l.length
      · have q1 : (j : Int) < ((l.length : Nat) : Int) := by omega
        have hjl : j < l.length := by omega
        have hj8 : (j : Int) < 8 := by omega
        rcases HA.out.below HB.out with h0 | ⟨ab, off, rfl, hca⟩
        · rw [h0] at hjl; simp at hjl
        have c0 := hca j hjl
        obtain ⟨x, hx⟩ : ∃ x, l.getD j 0 = x := ⟨_, rfl⟩
        rw [hx] at c0
        have c1 := HK.out.cellOn (i := j) (by omega)
        have f1 := HK.out.frozen j
        have KEY : Hid (∀ v, v = clampA x → Sk0 w.heap.size ((wr.setCell ⟨w.heap.size + 1, j, none⟩ (.int .i64 v))) (w.heap.size + 1) w.heap.size ⟨onJ l (j + 1), fun _ => 0, fun _ => none⟩ 0 ∧ Below w.heap.size w ((wr.setCell ⟨w.heap.size + 1, j, none⟩ (.int .i64 v)))) := fun v hv => by
          have := HK.out.setOn (i := j) (by omega) v
          rw [hv, ← hx, onJ_step] at this
          rw [hv, ← hx]
          exact ⟨this, (HB.out.setCell (p := ⟨w.heap.size + 1, j, none⟩) (by show w.heap.size ≤ w.heap.size + 1; omega) _)⟩
        obtain ⟨y, hy⟩ : ∃ y, onJ l j j = y := ⟨_, rfl⟩
        dsimp only at c1
        rw [hy] at c1
        clear hca hx hy HA
        by_cases x0 : ¬ x < 0
        · by_cases x1 : ¬ 1000000000 < x
          · have HC : Hid (x = clampA x) := by show _ = _; unfold clampA; rw [if_neg (by omega), if_pos (by omega)]
            go_wp2
            go_roundw
            case rel => exact ⟨j + 1, by go_num, by omega, (KEY.out _ HC.out).1, (KEY.out _ HC.out).2⟩
            case measure => simp [Go.RowKit.intOf]; omega
          · have x2 : 1000000000 < x := by omega
            clear x1
            have HC : Hid (1000000000 = clampA x) := by show _ = _; unfold clampA; rw [if_neg (by omega)]; split <;> omega
            go_wp2
            go_roundw
            case rel => exact ⟨j + 1, by go_num, by omega, (KEY.out _ HC.out).1, (KEY.out _ HC.out).2⟩
            case measure => simp [Go.RowKit.intOf]; omega
        · have x2 : x < 0 := by omega
          clear x0
          have HC : Hid (0 = clampA x) := by show _ = _; unfold clampA; split <;> (try split) <;> omega
          go_wp2
          go_roundw
          case rel => exact ⟨j + 1, by go_num, by omega, (KEY.out _ HC.out).1, (KEY.out _ HC.out).2⟩
          case measure => simp [Go.RowKit.intOf]; omega
      · have q1 : ¬ (j : Int) < ((l.length : Nat) : Int) := by omega
        have hjm : j = l.length := by omega
        subst hjm
        obtain ⟨on, hon⟩ : ∃ on, onJ l l.length = on := ⟨_, rfl⟩
        have HE : Hid (∀ k : Nat, k < 8 → on k = (newS l).on k) := fun k hk => by rw [← hon]; exact onJ_end (by omega) hk
        rw [hon] at HK
        have c0 := HK.out.cellOn (i := 0) (by omega)
        have c1 := HK.out.cellOn (i := 1) (by omega)
        have c2 := HK.out.cellOn (i := 2) (by omega)
        have c3 := HK.out.cellOn (i := 3) (by omega)
        have c4 := HK.out.cellOn (i := 4) (by omega)
        have c5 := HK.out.cellOn (i := 5) (by omega)
        have c6 := HK.out.cellOn (i := 6) (by omega)
        have c7 := HK.out.cellOn (i := 7) (by omega)
        have d0 := HK.out.cellFr (i := 0) (by omega)
        have d1 := HK.out.cellFr (i := 1) (by omega)
        have d2 := HK.out.cellFr (i := 2) (by omega)
        have d3 := HK.out.cellFr (i := 3) (by omega)
        have d4 := HK.out.cellFr (i := 4) (by omega)
        have d5 := HK.out.cellFr (i := 5) (by omega)
        have d6 := HK.out.cellFr (i := 6) (by omega)
        have d7 := HK.out.cellFr (i := 7) (by omega)
        have f0 := HK.out.frozen 8
        have f1 := HK.out.frozen 9
        have f2 := HK.out.frozen 10
        have f3 := HK.out.frozen 11
        have f4 := HK.out.frozen 12
        have f5 := HK.out.frozen 13
        have f6 := HK.out.frozen 14
        have f7 := HK.out.frozen 15
        dsimp only at c0 c1 c2 c3 c4 c5 c6 c7 d0 d1 d2 d3 d4 d5 d6 d7
        clear hon HA
        go_wp2
        go_ret
        first | exact ⟨_, rfl, ⟨_, ⟨(sk_copy HK.out).congr HE.out HE.out rfl, GoodS.new l⟩⟩, below_copy HB.out (Nat.le_succ _) _ _ _ _ _ _ _ _⟩ | exact ⟨_, _, rfl, ⟨(sk_copy HK.out).congr HE.out HE.out rfl, GoodS.new l⟩, below_copy HB.out (Nat.le_succ _) _ _ _ _ _ _ _ _⟩
  · have h9 : (8 : Int) < (l.length : Int) := by omega
    have hc8 : (8 : Int) ≤ (cap : Int) := by omega
    clear h8
    go_enter Tryz.func65, Tryz.ntmps65
    go_wp2
    go_loopw [15] (fun i wr => NRel w l 8 i wr) (fun i _ => 8 - (Go.RowKit.intOf i).toNat)
    case atStart => exact ⟨0, rfl, Nat.zero_le _, HS, bel_al (bel_al (Below.refl _ _) _) _⟩
    case round =>
      obtain ⟨j, rfl, hj, HK, HB⟩ := hrel
      clear HS
      by_cases hlt : j < 8
      · have q1 : (j : Int) < ((8 : Nat) : Int) := by omega
        have hjl : j < l.length := by omega
        have hj8 : (j : Int) < 8 := by omega
        rcases HA.out.below HB.out with h0 | ⟨ab, off, rfl, hca⟩
        · rw [h0] at hjl; simp at hjl
        have c0 := hca j hjl
        obtain ⟨x, hx⟩ : ∃ x, l.getD j 0 = x := ⟨_, rfl⟩
        rw [hx] at c0
        have c1 := HK.out.cellOn (i := j) (by omega)
        have f1 := HK.out.frozen j
        have KEY : Hid (∀ v, v = clampA x → Sk0 w.heap.size ((wr.setCell ⟨w.heap.size + 1, j, none⟩ (.int .i64 v))) (w.heap.size + 1) w.heap.size ⟨onJ l (j + 1), fun _ => 0, fun _ => none⟩ 0 ∧ Below w.heap.size w ((wr.setCell ⟨w.heap.size + 1, j, none⟩ (.int .i64 v)))) := fun v hv => by
          have := HK.out.setOn (i := j) (by omega) v
          rw [hv, ← hx, onJ_step] at this
          rw [hv, ← hx]
          exact ⟨this, (HB.out.setCell (p := ⟨w.heap.size + 1, j, none⟩) (by show w.heap.size ≤ w.heap.size + 1; omega) _)⟩
        obtain ⟨y, hy⟩ : ∃ y, onJ l j j = y := ⟨_, rfl⟩
        dsimp only at c1
        rw [hy] at c1
        clear hca hx hy HA
        by_cases x0 : ¬ x < 0
        · by_cases x1 : ¬ 1000000000 < x
          · have HC : Hid (x = clampA x) := by show _ = _; unfold clampA; rw [if_neg (by omega), if_pos (by omega)]
            go_wp2
            go_roundw
            case rel => exact ⟨j + 1, by go_num, by omega, (KEY.out _ HC.out).1, (KEY.out _ HC.out).2⟩
            case measure => simp [Go.RowKit.intOf]; omega
          · have x2 : 1000000000 < x := by omega
            clear x1
            have HC : Hid (1000000000 = clampA x) := by show _ = _; unfold clampA; rw [if_neg (by omega)]; split <;> omega
            go_wp2
            go_roundw
            case rel => exact ⟨j + 1, by go_num, by omega, (KEY.out _ HC.out).1, (KEY.out _ HC.out).2⟩
            case measure => simp [Go.RowKit.intOf]; omega
        · have x2 : x < 0 := by omega
          clear x0
          have HC : Hid (0 = clampA x) := by show _ = _; unfold clampA; split <;> (try split) <;> omega
          go_wp2
          go_roundw
          case rel => exact ⟨j + 1, by go_num, by omega, (KEY.out _ HC.out).1, (KEY.out _ HC.out).2⟩
          case measure => simp [Go.RowKit.intOf]; omega
      · have q1 : ¬ (j : Int) < ((8 : Nat) : Int) := by omega
        have hjm : j = 8 := by omega
        subst hjm
        obtain ⟨on, hon⟩ : ∃ on, onJ l 8 = on := ⟨_, rfl⟩
        have HE : Hid (∀ k : Nat, k < 8 → on k = (newS l).on k) := fun k hk => by rw [← hon]; exact onJ_end (by omega) hk
        rw [hon] at HK
        have c0 := HK.out.cellOn (i := 0) (by omega)
        have c1 := HK.out.cellOn (i := 1) (by omega)
        have c2 := HK.out.cellOn (i := 2) (by omega)
        have c3 := HK.out.cellOn (i := 3) (by omega)
        have c4 := HK.out.cellOn (i := 4) (by omega)
        have c5 := HK.out.cellOn (i := 5) (by omega)
        have c6 := HK.out.cellOn (i := 6) (by omega)
        have c7 := HK.out.cellOn (i := 7) (by omega)
        have d0 := HK.out.cellFr (i := 0) (by omega)
        have d1 := HK.out.cellFr (i := 1) (by omega)
        have d2 := HK.out.cellFr (i := 2) (by omega)
        have d3 := HK.out.cellFr (i := 3) (by omega)
        have d4 := HK.out.cellFr (i := 4) (by omega)
        have d5 := HK.out.cellFr (i := 5) (by omega)
        have d6 := HK.out.cellFr (i := 6) (by omega)
        have d7 := HK.out.cellFr (i := 7) (by omega)
        have f0 := HK.out.frozen 8
        have f1 := HK.out.frozen 9
        have f2 := HK.out.frozen 10
        have f3 := HK.out.frozen 11
        have f4 := HK.out.frozen 12
        have f5 := HK.out.frozen 13
        have f6 := HK.out.frozen 14
        have f7 := HK.out.frozen 15
        dsimp only at c0 c1 c2 c3 c4 c5 c6 c7 d0 d1 d2 d3 d4 d5 d6 d7
        clear hon HA
        go_wp2
        go_ret
        first | exact ⟨_, rfl, ⟨_, ⟨(sk_copy HK.out).congr HE.out HE.out rfl, GoodS.new l⟩⟩, below_copy HB.out (Nat.le_succ _) _ _ _ _ _ _ _ _⟩ | exact ⟨_, _, rfl, ⟨(sk_copy HK.out).congr HE.out HE.out rfl, GoodS.new l⟩, below_copy HB.out (Nat.le_succ _) _ _ _ _ _ _ _ _⟩
end Go.Proofs.YtepclljoiccieaaGreatDoor.Gd
/-
  Rows of eight numbers in memory; the reference's row; small facts on blocks.
-/
namespace Go.Proofs.YtepclljoiccieaaGreatDoor.Gd.Pu
open Go.ChangeShapes Go.WideShapes Go.ChangeAt Go.RowKit Go.Maps

theorem lawI : Keyed Tryz.prog 3 := int_keyed Tryz.underlying3
theorem wf_of {a : Int} (h1 : -9223372036854775808 ≤ a) (h2 : a ≤ 9223372036854775807) : (Lit.int .i64 a).wf = true := WalkArith.wf_i64 ⟨h1, h2⟩
/-- A row of eight numbers. -/
def rowc (h : Int → Int) : List Value := (List.range 8).map (fun k : Nat => .int .i64 (h k))
theorem rowc_len (h : Int → Int) : (rowc h).length = 8 := by simp [rowc]
theorem rowc_at (h : Int → Int) {i : Nat} (hi : i < 8) : (rowc h)[i]? = some (.int .i64 (h i)) := by simp [rowc, hi]
theorem rowc_put (h : Int → Int) {i : Nat} (hi : i < 8) (v : Int) : (rowc h).set i (.int .i64 v) = rowc (upd h i v) := by
  unfold rowc
  apply List.ext_getElem?
  intro k
  rw [List.getElem?_set]
  by_cases e : i = k
  · subst e
    simp [hi, upd]
  · rw [if_neg e]
    by_cases hk : k < 8
    · simp [hk, upd]
      intro e2
      omega
    · simp [hk]
theorem own_keptG {w w' : World} {b n : Nat} {E : Nat → Obj → Prop} {P : Program} {t : TypeId} {el : Value → Option (DataW Unit × List MemPlace)} {D : DataW Unit} (h : w.ownsMap P t el b n D) (k : Rg.Kept E w w') (hb : ∀ es c, ¬ E b (.map es c)) : w'.ownsMap P t el b n D := by
  obtain ⟨es, c, h1, h2⟩ := h
  exact ⟨es, c, k.block _ _ h1 (hb _ _), h2⟩
theorem bel_al {a w : World} (h : Below a.heap.size a w) (o : Obj) : Below a.heap.size a (w.alloc o) := h.alloc h.size o
/-- What is turned behind all that lay there is no matter. -/
theorem kept_new {E : Nat → Obj → Prop} {a w1 w2 : World} (h : Rg.Kept E a w1) (k : Rg.Kept (fun i _ => i = a.heap.size) w1 w2) : Rg.Kept E a w2 :=
  ⟨k.os.trans h.os, k.tape.trans h.tape, k.output.trans h.output, Nat.le_trans h.size k.size, fun i o hi hx => k.block i o (h.block i o hi hx) (fun e => by have := (Array.getElem?_eq_some_iff.1 hi).1; omega)⟩
theorem rowc_congr {h g : Int → Int} (e : ∀ k : Nat, k < 8 → h k = g k) : rowc h = rowc g := by
  unfold rowc
  apply List.map_congr_left
  intro k hk
  rw [e k (by simpa using hk)]
/-- What is on hand behind j rounds. -/
def onJ (l : List Int) (j : Nat) (k : Int) : Int := if k < j then clampA (l.getD k.toNat 0) else 0
theorem onJ_step (l : List Int) (j : Nat) : upd (onJ l j) j (clampA (l.getD j 0)) = onJ l (j + 1) := by
  funext k
  unfold onJ
  rw [upd_at]
  by_cases e : k = j
  · subst e
    rw [if_pos rfl, if_pos (by omega)]
    simp
  · rw [if_neg e]
    by_cases h : k < j
    · rw [if_pos h, if_pos (by omega)]
    · rw [if_neg h, if_neg (by omega)]
theorem rowc_lit (h : Int → Int) : (rowc h).toArray = #[.int .i64 (h 0), .int .i64 (h 1), .int .i64 (h 2), .int .i64 (h 3), .int .i64 (h 4), .int .i64 (h 5), .int .i64 (h 6), .int .i64 (h 7)] := rfl
/-- A block of eight numbers. -/
def Row8 (w : World) (b : Nat) (h : Int → Int) : Prop := w.heap[b]? = some (.cells (rowc h).toArray 60 (0, 0))
theorem Row8.cell {w : World} {b : Nat} {h : Int → Int} (k : Row8 w b h) {i : Nat} (hi : i < 8) : w.cell? ⟨b, i, none⟩ = some (.int .i64 (h i)) := by
  rw [cell_of k, List.getElem?_toArray]; exact rowc_at _ hi
theorem Row8.frozen {w : World} {b : Nat} {h : Int → Int} (k : Row8 w b h) (i : Nat) : w.frozen? ⟨b, i, none⟩ = false := frozen_of_row _ _ _ _ _ k
theorem Row8.lt {w : World} {b : Nat} {h : Int → Int} (k : Row8 w b h) : b < w.heap.size := (Array.getElem?_eq_some_iff.1 k).1
theorem Row8.set {w : World} {b : Nat} {h : Int → Int} (k : Row8 w b h) {i : Nat} (hi : i < 8) (v : Int) : Row8 (w.setCell ⟨b, i, none⟩ (.int .i64 v)) b (upd h i v) := by
  unfold Row8
  rw [heap_setCell_same _ _ _ _ _ _ k, ← rowc_put h hi v, List.setIfInBounds_toArray]
theorem Row8.other {w : World} {b : Nat} {h : Int → Int} (k : Row8 w b h) {p : Addr} (hp : b ≠ p.block) (v : Value) : Row8 (w.setCell p v) b h :=
  (Below.heap_setCell _ _ _ _ hp).trans k
theorem Row8.congr {w : World} {b : Nat} {h g : Int → Int} (k : Row8 w b h) (e : ∀ k : Nat, k < 8 → h k = g k) : Row8 w b g := by
  unfold Row8 at *
  rw [← rowc_congr e]
  exact k
def RRel (w : World) (l : List Int) (i : Value) (wr : World) : Prop :=
  ∃ j : Nat, i = .int .i64 j ∧ j ≤ 8 ∧ Hid (Row8 wr (w.heap.size + 1) (onJ l j)) ∧ Hid (Row8 wr w.heap.size (fun _ => 0)) ∧ Hid (Below w.heap.size w wr)
theorem onJ_over {l : List Int} {j : Nat} (h : l.length ≤ j) : onJ l (j + 1) = onJ l j := by
  rw [← onJ_step, List.getD_eq_getElem?_getD, List.getElem?_eq_none h]
  refine upd_id ?_
  unfold onJ
  rw [if_neg (by omega)]
  rfl
theorem onJ_8 (l : List Int) {k : Nat} (hk : k < 8) : onJ l 8 k = (newS l).on k := by
  show onJ l 8 k = clampA (l.getD (k : Int).toNat 0)
  unfold onJ
  rw [if_pos (by omega)]
set_option maxRecDepth 100000 in
set_option maxHeartbeats 1000000 in
theorem rrow_any (a : Option Addr) (l : List Int) (cap : Nat) (w : World) (ha : Ints w a l) (_hl : l.length ≤ 9223372036854775807) :
    Calls Tryz.prog 99 #[.slice a l.length cap] w fun e w' => e = .returned (.agg #[.int .i64 ((newS l).on 0), .int .i64 ((newS l).on 1), .int .i64 ((newS l).on 2), .int .i64 ((newS l).on 3), .int .i64 ((newS l).on 4), .int .i64 ((newS l).on 5), .int .i64 ((newS l).on 6), .int .i64 ((newS l).on 7)]) ∧ Below w.heap.size w w' := by
  have HA := hide ha
  clear ha
  have Z0 : Hid (Row8 ((w.alloc (.cells #[.int .i64 0, .int .i64 0, .int .i64 0, .int .i64 0, .int .i64 0, .int .i64 0, .int .i64 0, .int .i64 0] 60)).alloc (.cells #[.int .i64 0, .int .i64 0, .int .i64 0, .int .i64 0, .int .i64 0, .int .i64 0, .int .i64 0, .int .i64 0] 60)) w.heap.size (fun _ => 0)) := by
    show _ = _
    rw [Below.heap_alloc _ _ _ (by simp)]
    exact World.alloc_heap_new _ _
  have Z1 : Hid (Row8 ((w.alloc (.cells #[.int .i64 0, .int .i64 0, .int .i64 0, .int .i64 0, .int .i64 0, .int .i64 0, .int .i64 0, .int .i64 0] 60)).alloc (.cells #[.int .i64 0, .int .i64 0, .int .i64 0, .int .i64 0, .int .i64 0, .int .i64 0, .int .i64 0, .int .i64 0] 60)) (w.heap.size + 1) (onJ l 0)) := by
    refine Row8.congr (h := fun _ => 0) ?_ (fun k _ => ?_)
    · have := World.alloc_heap_new (w.alloc (.cells #[.int .i64 0, .int .i64 0, .int .i64 0, .int .i64 0, .int .i64 0, .int .i64 0, .int .i64 0, .int .i64 0] 60)) (.cells #[.int .i64 0, .int .i64 0, .int .i64 0, .int .i64 0, .int .i64 0, .int .i64 0, .int .i64 0, .int .i64 0] 60)
      rw [World.size_alloc] at this
      exact this
    · unfold onJ
      rw [if_neg (by omega)]
  go_enter Tryz.func99, Tryz.ntmps99
  go_wp2
  go_loopw [5] (fun i wr => RRel w l i wr) (fun i _ => 8 - (Go.RowKit.intOf i).toNat)
  case atStart => exact ⟨0, rfl, Nat.zero_le _, Z1, Z0, bel_al (bel_al (Below.refl _ _) _) _⟩
  case round =>
    obtain ⟨j, rfl, hj, H1, H0, HB⟩ := hrel
    clear Z0 Z1
    by_cases hlt : j < 8
    · have ql : (j : Int) < 8 := by omega
      by_cases hjl : j < l.length
      · have q2 : (j : Int) < (l.length : Int) := by omega
        rcases HA.out.below HB.out with h0 | ⟨ab, off, rfl, hca⟩
        · rw [h0] at hjl; simp at hjl
        have c := hca j hjl
        have c1 := H1.out.cell hlt
        have f1 := H1.out.frozen j
        obtain ⟨x, hx⟩ : ∃ x, l.getD j 0 = x := ⟨_, rfl⟩
        obtain ⟨y, hy⟩ : ∃ y, onJ l j j = y := ⟨_, rfl⟩
        rw [hx] at c
        rw [hy] at c1
        have KEY : Hid (Row8 (wr.setCell ⟨w.heap.size + 1, j, none⟩ (.int .i64 (clampA x))) (w.heap.size + 1) (onJ l (j + 1)) ∧ Row8 (wr.setCell ⟨w.heap.size + 1, j, none⟩ (.int .i64 (clampA x))) w.heap.size (fun _ => 0) ∧ Below w.heap.size w (wr.setCell ⟨w.heap.size + 1, j, none⟩ (.int .i64 (clampA x)))) := by
          have := H1.out.set hlt (clampA x)
          rw [← hx, onJ_step, hx] at this
          exact ⟨this, H0.out.other (by show _ ≠ w.heap.size + 1; omega) _, HB.out.setCell (p := ⟨w.heap.size + 1, j, none⟩) (by show w.heap.size ≤ w.heap.size + 1; omega) _⟩
        obtain ⟨z, hz⟩ : ∃ z, clampA x = z := ⟨_, rfl⟩
        have CL := rclamp_any x
        rw [hz] at KEY
        have HCL := hide CL
        have HZ := hide hz
        clear hca hx hy HA CL hz
        go_wp2_with (go_at_call 122; refine (HCL.out _).mono ?_; rw [HZ.out]; rintro e w' ⟨rfl, rfl⟩)
        go_roundw
        case rel => exact ⟨j + 1, by go_num, by omega, KEY.out.1, KEY.out.2.1, KEY.out.2.2⟩
        case measure => simp [Go.RowKit.intOf]; omega
      · have q2 : ¬ (j : Int) < (l.length : Int) := by omega
        go_wp2
        go_roundw
        case rel => exact ⟨j + 1, by go_num, by omega, by rw [onJ_over (by omega)]; exact H1, H0, HB⟩
        case measure => simp [Go.RowKit.intOf]; omega
    · have ql : ¬ (j : Int) < 8 := by omega
      have hjm : j = 8 := by omega
      subst hjm
      obtain ⟨on, hon⟩ : ∃ on, onJ l 8 = on := ⟨_, rfl⟩
      have HE : Hid (∀ k : Nat, k < 8 → on k = (newS l).on k) := fun k hk => by rw [← hon]; exact onJ_8 l hk
      rw [hon] at H1
      have c0 := H1.out.cell (i := 0) (by omega)
      have d0 := H0.out.cell (i := 0) (by omega)
      have f0 := H0.out.frozen 0
      have c1 := H1.out.cell (i := 1) (by omega)
      have d1 := H0.out.cell (i := 1) (by omega)
      have f1 := H0.out.frozen 1
      have c2 := H1.out.cell (i := 2) (by omega)
      have d2 := H0.out.cell (i := 2) (by omega)
      have f2 := H0.out.frozen 2
      have c3 := H1.out.cell (i := 3) (by omega)
      have d3 := H0.out.cell (i := 3) (by omega)
      have f3 := H0.out.frozen 3
      have c4 := H1.out.cell (i := 4) (by omega)
      have d4 := H0.out.cell (i := 4) (by omega)
      have f4 := H0.out.frozen 4
      have c5 := H1.out.cell (i := 5) (by omega)
      have d5 := H0.out.cell (i := 5) (by omega)
      have f5 := H0.out.frozen 5
      have c6 := H1.out.cell (i := 6) (by omega)
      have d6 := H0.out.cell (i := 6) (by omega)
      have f6 := H0.out.frozen 6
      have c7 := H1.out.cell (i := 7) (by omega)
      have d7 := H0.out.cell (i := 7) (by omega)
      have f7 := H0.out.frozen 7
      have e0 := HE.out 0 (by omega)
      have e1 := HE.out 1 (by omega)
      have e2 := HE.out 2 (by omega)
      have e3 := HE.out 3 (by omega)
      have e4 := HE.out 4 (by omega)
      have e5 := HE.out 5 (by omega)
      have e6 := HE.out 6 (by omega)
      have e7 := HE.out 7 (by omega)
      rw [e0] at c0
      rw [e1] at c1
      rw [e2] at c2
      rw [e3] at c3
      rw [e4] at c4
      rw [e5] at c5
      rw [e6] at c6
      rw [e7] at c7
      clear hon HA e0 e1 e2 e3 e4 e5 e6 e7 hj hlt
      go_wp2
      refine bodyPost_ret (v := .agg #[.int .i64 ((newS l).on 0), .int .i64 ((newS l).on 1), .int .i64 ((newS l).on 2), .int .i64 ((newS l).on 3), .int .i64 ((newS l).on 4), .int .i64 ((newS l).on 5), .int .i64 ((newS l).on 6), .int .i64 ((newS l).on 7)]) ?_ rfl ?_
      · have hrow : Row8 ((((((((wr.setCell ⟨w.heap.size, 0, none⟩ (.int .i64 ((newS l).on 0))).setCell ⟨w.heap.size, 1, none⟩ (.int .i64 ((newS l).on 1))).setCell ⟨w.heap.size, 2, none⟩ (.int .i64 ((newS l).on 2))).setCell ⟨w.heap.size, 3, none⟩ (.int .i64 ((newS l).on 3))).setCell ⟨w.heap.size, 4, none⟩ (.int .i64 ((newS l).on 4))).setCell ⟨w.heap.size, 5, none⟩ (.int .i64 ((newS l).on 5))).setCell ⟨w.heap.size, 6, none⟩ (.int .i64 ((newS l).on 6))).setCell ⟨w.heap.size, 7, none⟩ (.int .i64 ((newS l).on 7))) w.heap.size (newS l).on := by
          refine Row8.congr ((((((((H0.out.set (i := 0) (by omega) ((newS l).on 0)).set (i := 1) (by omega) ((newS l).on 1)).set (i := 2) (by omega) ((newS l).on 2)).set (i := 3) (by omega) ((newS l).on 3)).set (i := 4) (by omega) ((newS l).on 4)).set (i := 5) (by omega) ((newS l).on 5)).set (i := 6) (by omega) ((newS l).on 6)).set (i := 7) (by omega) ((newS l).on 7)) (fun k hk => ?_)
          simp only [upd_at]
          match k, hk with
          | 0, _ => rfl
          | 1, _ => rfl
          | 2, _ => rfl
          | 3, _ => rfl
          | 4, _ => rfl
          | 5, _ => rfl
          | 6, _ => rfl
          | 7, _ => rfl
        unfold Row8 at hrow
        rw [rowc_lit] at hrow
        exact results_cell_row Tryz.results99 _ _ w.heap.size 60 _ (0, 0) _ rfl hrow Tryz.underlying60 rfl (by kernel_rfl)
      · exact ⟨rfl, ((((((((HB.out.setCell (p := ⟨w.heap.size, 0, none⟩) (Nat.le_refl _) _).setCell (p := ⟨w.heap.size, 1, none⟩) (Nat.le_refl _) _).setCell (p := ⟨w.heap.size, 2, none⟩) (Nat.le_refl _) _).setCell (p := ⟨w.heap.size, 3, none⟩) (Nat.le_refl _) _).setCell (p := ⟨w.heap.size, 4, none⟩) (Nat.le_refl _) _).setCell (p := ⟨w.heap.size, 5, none⟩) (Nat.le_refl _) _).setCell (p := ⟨w.heap.size, 6, none⟩) (Nat.le_refl _) _).setCell (p := ⟨w.heap.size, 7, none⟩) (Nat.le_refl _) _)⟩
end Go.Proofs.YtepclljoiccieaaGreatDoor.Gd.Pu
/-
  Sums over a map of pairs, in whatever order; a book of money in memory: its block of ten cells, its two maps. Contracts of purse's isId, isClient, has, sum, sumOf.
-/
namespace Go.Proofs.YtepclljoiccieaaGreatDoor.Gd.Pu
open Go.ChangeShapes Go.WideShapes Go.ChangeAt Go.RowKit Go.Maps

theorem zeroD (w : World) : (zeroValue 145).run Tryz.prog w = .ok (pairV (0, 0)) w := by kernel_rfl
theorem pisid_any (id : Int) (w : World) : Calls Tryz.prog 130 #[.int .i64 id] w fun e w' => e = .returned (.bool (isI id)) ∧ w = w' := by
  by_cases h0 : 1 ≤ id
  · by_cases h1 : id ≤ 999
    · have hm : true = isI id := (isI_iff.2 ⟨h0, h1⟩).symm
      rw [← hm]
      clear hm
      go_enter Tryz.func130, Tryz.ntmps130
      go_wp2
      go_ret
      exact ⟨rfl, rfl⟩
    · have hm : false = isI id := by unfold isI; simp; omega
      rw [← hm]
      clear hm
      go_enter Tryz.func130, Tryz.ntmps130
      go_wp2
      go_ret
      exact ⟨rfl, rfl⟩
  · have hm : false = isI id := by unfold isI; simp; omega
    rw [← hm]
    clear hm
    go_enter Tryz.func130, Tryz.ntmps130
    go_wp2
    go_ret
    exact ⟨rfl, rfl⟩
theorem piscl_any (id : Int) (w : World) : Calls Tryz.prog 93 #[.int .i64 id] w fun e w' => e = .returned (.bool (isIt id)) ∧ w = w' := by
  by_cases h0 : 0 ≤ id
  · by_cases h1 : id < 8
    · have hm : true = isIt id := (isIt_iff.2 ⟨h0, h1⟩).symm
      rw [← hm]
      clear hm
      go_enter Tryz.func93, Tryz.ntmps93
      go_wp2
      go_ret
      exact ⟨rfl, rfl⟩
    · have hm : false = isIt id := by unfold isIt; simp; omega
      rw [← hm]
      clear hm
      go_enter Tryz.func93, Tryz.ntmps93
      go_wp2
      go_ret
      exact ⟨rfl, rfl⟩
  · have hm : false = isIt id := by unfold isIt; simp; omega
    rw [← hm]
    clear hm
    go_enter Tryz.func93, Tryz.ntmps93
    go_wp2
    go_ret
    exact ⟨rfl, rfl⟩

/-- What is summed behind some rounds, from z on. -/
def SRel (w : World) (D : DataW Unit) (b n : Nat) (z : Int) (v : Int → Int) (nv : Value) (wr : World) : Prop :=
  ∃ (left : Lit → Bool) (cnt : Nat) (ss : List Int), nv = .int .i64 (z + (ss.map v).sum) ∧ wr.ranges Tryz.prog 3 pairElem b w.heap.size n D left cnt ∧ CollectedI D left ss ∧ Hid (Below w.heap.size w wr)
/-- A map at b that reads as r. -/
def Mp (w : World) (b n : Nat) (r : Int → Option (Int × Int)) : Prop := ∃ D : DataW Unit, w.ownsMap Tryz.prog 3 pairElem b n D ∧ FitsG encP D r
theorem Mp.lt {w : World} {b n : Nat} {r : Int → Option (Int × Int)} (h : Mp w b n r) : b < w.heap.size := by obtain ⟨D, hD, _⟩ := h; exact hD.lt
theorem Mp.mono {w : World} {b n n' : Nat} {r : Int → Option (Int × Int)} (h : Mp w b n r) (hn : n ≤ n') : Mp w b n' r := by obtain ⟨D, hD, hf⟩ := h; exact ⟨D, hD.mono hn, hf⟩
theorem Mp.kept {w w' : World} {b n : Nat} {r : Int → Option (Int × Int)} {E : Nat → Obj → Prop} (h : Mp w b n r) (hk : Rg.Kept E w w') (hb : ∀ o, ¬ E b o) : Mp w' b n r := by obtain ⟨D, hD, hf⟩ := h; exact ⟨D, own_keptG hD hk (fun _ _ => hb _), hf⟩
theorem Mp.on {w w' : World} {b n : Nat} {r : Int → Option (Int × Int)} (h : Mp w b n r) (hb : Below w.heap.size w w') : Mp w' b n r := h.kept (E := fun _ _ => False) (Rg.Kept.of_below hb) (fun _ h => h)
theorem Mp.ne {w : World} {b n p : Nat} {r : Int → Option (Int × Int)} {cs : Array Value} {t : TypeId} {z : Nat × Nat} (h : Mp w b n r) (hp : w.heap[p]? = some (.cells cs t z)) : b ≠ p := by
  rintro rfl
  obtain ⟨D, ⟨es, c, hb, _⟩, _⟩ := h
  rw [hp] at hb
  cases hb

set_option maxRecDepth 100000 in
set_option maxHeartbeats 1000000 in
theorem psum_any {w : World} {b n : Nat} {r : Int → Option (Int × Int)} (k : Mp w b n r) (g : GoodD r) (ht : sumTo (alw r) 1000 ≤ 1000000000) :
    Calls Tryz.prog 95 #[.map (some b)] w fun e w' => e = .returned (.int .i64 (sumTo (alw r) 1000)) ∧ Below w.heap.size w w' := by
  have HP : Hid (∀ y, 0 ≤ (alw r) y) := g.pos
  have HT : Hid (sumTo (alw r) 1000 ≤ 1000000000) := ht
  have HG := hide g
  obtain ⟨D, hown, hfit⟩ := k
  have HFT := hide hfit
  clear hfit g ht
  go_enter Tryz.func95, Tryz.ntmps95
  go_wp2_with (first
    | (at_range; refine wpList_range_own _ rfl _ 69 rfl 3 145 lawI Tryz.underlying69 _ b n _ rfl hown ?_; intro w0 hrg0 hg0 hs0)
    | go_in)
  go_frame
  have HB0 : Hid (Below w.heap.size w w0) := (Below.refl _ _).grown hg0 (Nat.le_refl _) (fun k e => by cases e)
  clear hown hg0 hs0
  go_loopw [3] (fun nv wr => SRel w D b n 0 (alw r) nv wr) (fun _ wr => wr.rangeLeft b w.heap.size)
  case atStart => exact ⟨_, _, [], by simp, hrg0, CollectedI.start D, HB0⟩
  case round =>
    obtain ⟨left, cnt, ss, rfl, hrg, hC, HB⟩ := hrel
    clear hrg0 HB0
    have HC := hide hC
    have HRG := hide hrg
    obtain ⟨S, hS⟩ : ∃ S, (ss.map (alw r)).sum = S := ⟨_, rfl⟩
    have HMEM : Hid (∀ y ∈ ss, 0 ≤ y ∧ y < 1000) := fun y hy => by
      have h1 := ((hC.2 y).1 hy).1
      rw [(HFT.out.2 y).2] at h1
      cases hr : r y with
      | none => rw [hr] at h1; cases h1
      | some c => have := (HG.out y c hr).1; omega
    have bS : 0 ≤ S ∧ S ≤ 1000000000 := by
      rw [← hS]
      have h1 := sum_nonneg (l := ss) HP.out
      have h2 := sum_some hC.1 HMEM.out HP.out
      have h3 := HT.out
      omega
    obtain ⟨bS1, bS2⟩ := bS
    have HS := hide hS
    rw [hS, Int.zero_add]
    clear hS
    go_wp2_with (first
      | (at_next; refine next_pair rfl _ rfl Tryz.underlying3 rfl hrg HFT.out hC ?_ ?_)
      | go_in)
    · intro hall
      have HALL := hide hall
      clear hall hrg hC
      go_wp2
      go_ret
      refine ⟨ret_int ?_, HB.out⟩
      have h1 := sum_nodup (N := 1000) ss (alw r) HC.out.1 (fun x hx => by have := HMEM.out x hx; omega) (fun y hx => by
        unfold alw
        cases hr : r y with
        | none => rfl
        | some c => exact absurd ((HALL.out y).2 (by rw [hr]; rfl)) hx)
      have h3 := HS.out
      omega
    · intro y cx cy w1 left1 cnt1 hgy hny hrg1 hC1 hlt hg1 hs1 hen
      unfold pairV at hen
      have HB1 : Hid (Below w.heap.size w w1) := HB.out.grown hg1 HB.out.size (fun k e => by cases e; exact Nat.le_refl _)
      have HR1 := hide hrg1
      have HC1 := hide hC1
      have HLT := hide hlt
      have HSS : Hid (((ss ++ [y]).map (alw r)).sum = S + cy) := by
        show _ = _
        rw [List.map_append, List.sum_append, HS.out, List.map_singleton, List.sum_singleton]
        have e : (alw r) y = cy := by unfold alw; rw [hgy]; rfl
        rw [e]
      have bT : S + cy ≤ 1000000000 := by
        rw [← HSS.out]
        have h2 := sum_some (l := ss ++ [y]) hC1.1 (fun z hz => by
          rcases List.mem_append.1 hz with h | h
          · exact HMEM.out z h
          · rw [List.mem_singleton] at h; subst h; have := (HG.out _ _ hgy).1; omega) HP.out
        have h3 := HT.out
        omega
      have hcy : 1 ≤ cy := (HG.out _ _ hgy).2.2
      have NXT : Hid (∀ nv : Value, nv = .int .i64 (S + cy) → SRel w D b n 0 (alw r) nv (w1.alloc (.cells #[.int .i64 cx, .int .i64 cy] 145)) ∧ (w1.alloc (.cells #[.int .i64 cx, .int .i64 cy] 145)).rangeLeft b w.heap.size < wr.rangeLeft b w.heap.size) := fun nv hnv => by
        refine ⟨⟨left1, cnt1, ss ++ [y], ?_, HR1.out.alloc _, HC1.out, bel_al HB1.out _⟩, ?_⟩
        · rw [hnv, HSS.out, Int.zero_add]
        · rw [(HR1.out.alloc _).left_eq, ← HR1.out.left_eq]
          exact HLT.out
      clear hrg hC hrg1 hC1 hlt hgy hny hg1 hs1
      go_wp2
      go_roundw
      case rel => exact (NXT.out _ rfl).1
      case measure => exact (NXT.out _ rfl).2

set_option maxRecDepth 100000 in
set_option maxHeartbeats 1000000 in
theorem psumof_any {w : World} {b n : Nat} {r : Int → Option (Int × Int)} (k : Mp w b n r) (g : GoodD r) (ht : sumTo (alw r) 1000 ≤ 1000000000) (x : Int) :
    Calls Tryz.prog 94 #[.map (some b), .int .i64 x] w fun e w' => e = .returned (.int .i64 (sumTo (resv r x) 1000)) ∧ Below w.heap.size w w' := by
  have HP : Hid (∀ y, 0 ≤ (resv r x) y) := g.posK x
  have HT : Hid (sumTo (resv r x) 1000 ≤ 1000000000) := Int.le_trans (sumTo_le (g.le x) 1000) ht
  have HG := hide g
  obtain ⟨D, hown, hfit⟩ := k
  have HFT := hide hfit
  clear hfit g ht
  go_enter Tryz.func94, Tryz.ntmps94
  go_wp2_with (first
    | (at_range; refine wpList_range_own _ rfl _ 69 rfl 3 145 lawI Tryz.underlying69 _ b n _ rfl hown ?_; intro w0 hrg0 hg0 hs0)
    | go_in)
  go_frame
  have HB0 : Hid (Below w.heap.size w w0) := (Below.refl _ _).grown hg0 (Nat.le_refl _) (fun k e => by cases e)
  clear hown hg0 hs0
  go_loopw [5] (fun nv wr => SRel w D b n 0 (resv r x) nv wr) (fun _ wr => wr.rangeLeft b w.heap.size)
  case atStart => exact ⟨_, _, [], by simp, hrg0, CollectedI.start D, HB0⟩
  case round =>
    obtain ⟨left, cnt, ss, rfl, hrg, hC, HB⟩ := hrel
    clear hrg0 HB0
    have HC := hide hC
    have HRG := hide hrg
    obtain ⟨S, hS⟩ : ∃ S, (ss.map (resv r x)).sum = S := ⟨_, rfl⟩
    have HMEM : Hid (∀ y ∈ ss, 0 ≤ y ∧ y < 1000) := fun y hy => by
      have h1 := ((hC.2 y).1 hy).1
      rw [(HFT.out.2 y).2] at h1
      cases hr : r y with
      | none => rw [hr] at h1; cases h1
      | some c => have := (HG.out y c hr).1; omega
    have bS : 0 ≤ S ∧ S ≤ 1000000000 := by
      rw [← hS]
      have h1 := sum_nonneg (l := ss) HP.out
      have h2 := sum_some hC.1 HMEM.out HP.out
      have h3 := HT.out
      omega
    obtain ⟨bS1, bS2⟩ := bS
    have HS := hide hS
    rw [hS, Int.zero_add]
    clear hS
    go_wp2_with (first
      | (at_next; refine next_pair rfl _ rfl Tryz.underlying3 rfl hrg HFT.out hC ?_ ?_)
      | go_in)
    · intro hall
      have HALL := hide hall
      clear hall hrg hC
      go_wp2
      go_ret
      refine ⟨ret_int ?_, HB.out⟩
      have h1 := sum_nodup (N := 1000) ss (resv r x) HC.out.1 (fun x hx => by have := HMEM.out x hx; omega) (fun y hx => by
        unfold resv
        cases hr : r y with
        | none => rfl
        | some c => exact absurd ((HALL.out y).2 (by rw [hr]; rfl)) hx)
      have h3 := HS.out
      omega
    · intro y cx cy w1 left1 cnt1 hgy hny hrg1 hC1 hlt hg1 hs1 hen
      unfold pairV at hen
      have HB1 : Hid (Below w.heap.size w w1) := HB.out.grown hg1 HB.out.size (fun k e => by cases e; exact Nat.le_refl _)
      have HR1 := hide hrg1
      have HC1 := hide hC1
      have HLT := hide hlt
      have HSS : Hid (((ss ++ [y]).map (resv r x)).sum = S + (if cx = x then cy else 0)) := by
        show _ = _
        rw [List.map_append, List.sum_append, HS.out, List.map_singleton, List.sum_singleton]
        have e : (resv r x) y = if cx = x then cy else 0 := by unfold resv; rw [hgy]; rfl
        rw [e]
      have bT : S + (if cx = x then cy else 0) ≤ 1000000000 := by
        rw [← HSS.out]
        have h2 := sum_some (l := ss ++ [y]) hC1.1 (fun z hz => by
          rcases List.mem_append.1 hz with h | h
          · exact HMEM.out z h
          · rw [List.mem_singleton] at h; subst h; have := (HG.out _ _ hgy).1; omega) HP.out
        have h3 := HT.out
        omega
      have hcy : 1 ≤ cy := (HG.out _ _ hgy).2.2
      have NXT : Hid (∀ nv : Value, nv = .int .i64 (S + (if cx = x then cy else 0)) → SRel w D b n 0 (resv r x) nv (w1.alloc (.cells #[.int .i64 cx, .int .i64 cy] 145)) ∧ (w1.alloc (.cells #[.int .i64 cx, .int .i64 cy] 145)).rangeLeft b w.heap.size < wr.rangeLeft b w.heap.size) := fun nv hnv => by
        refine ⟨⟨left1, cnt1, ss ++ [y], ?_, HR1.out.alloc _, HC1.out, bel_al HB1.out _⟩, ?_⟩
        · rw [hnv, HSS.out, Int.zero_add]
        · rw [(HR1.out.alloc _).left_eq, ← HR1.out.left_eq]
          exact HLT.out
      clear hrg hC hrg1 hC1 hlt hgy hny hg1 hs1
      by_cases hcx : cx = x
      · rw [if_pos hcx] at bT NXT
        subst hcx
        go_wp2
        go_roundw
        case rel => exact (NXT.out _ rfl).1
        case measure => exact (NXT.out _ rfl).2
      · rw [if_neg hcx] at bT NXT
        have qc : (cx == x) = false := by simp [hcx]
        clear hcx
        go_wp2
        go_roundw
        case rel => exact (NXT.out _ (by rw [Int.add_zero])).1
        case measure => exact (NXT.out _ rfl).2
end Go.Proofs.YtepclljoiccieaaGreatDoor.Gd.Pu
/-
  The reference's book of goods: its block of nine cells, its map. Contract of Free.
-/
namespace Go.Proofs.YtepclljoiccieaaGreatDoor.Gd
open Go.ChangeShapes Go.WideShapes Go.ChangeAt Go.RowKit Go.Maps

theorem zeroC (w : World) : (zeroValue 128).run Tryz.prog w = .ok (pairV (0, 0)) w := by kernel_rfl
def rcs (on : Int → Int) (b : Nat) : List Value := rowc on ++ [.map (some b)]
theorem rcs_on (on : Int → Int) (b : Nat) {i : Nat} (hi : i < 8) : (rcs on b)[i]? = some (.int .i64 (on i)) := by
  unfold rcs
  rw [List.getElem?_append_left (by rw [rowc_len]; exact hi), rowc_at _ hi]
theorem rcs_map (on : Int → Int) (b : Nat) : (rcs on b)[8]? = some (.map (some b)) := by
  unfold rcs
  rw [List.getElem?_append_right (by rw [rowc_len]; omega), rowc_len]
  rfl
theorem rcs_seton (on : Int → Int) (b : Nat) {i : Nat} (hi : i < 8) (v : Int) : (rcs on b).set i (.int .i64 v) = rcs (upd on i v) b := by
  unfold rcs
  rw [List.set_append_left _ _ (by rw [rowc_len]; exact hi), rowc_put _ hi]
/-- The reference's book at p, its map at b. -/
def Rs (B : Nat) (w : World) (p b : Nat) (on : Int → Int) (r : Int → Option (Int × Int)) (n : Nat) : Prop :=
  w.heap[p]? = some (.cells (rcs on b).toArray 100 (0, 0)) ∧ B ≤ p ∧ B ≤ b ∧ ∃ D : DataW Unit, w.ownsMap Tryz.prog 3 pairElem b n D ∧ FitsG encP D r
section
variable {B : Nat} {w w' : World} {p b : Nat} {on : Int → Int} {r : Int → Option (Int × Int)} {n : Nat}
theorem Rs.lt (k : Rs B w p b on r n) : p < w.heap.size := (Array.getElem?_eq_some_iff.1 k.1).1
theorem Rs.ltb (k : Rs B w p b on r n) : b < w.heap.size := by obtain ⟨_, _, _, D, hD, _⟩ := k; exact hD.lt
theorem Rs.low (k : Rs B w p b on r n) : B ≤ w.heap.size := by have := k.lt; have := k.2.1; omega
theorem Rs.ne (k : Rs B w p b on r n) : b ≠ p := by
  rintro rfl
  obtain ⟨h1, _, _, D, ⟨es, c, hb, _⟩, _⟩ := k
  rw [h1] at hb
  cases hb
theorem Rs.mono {n' : Nat} (k : Rs B w p b on r n) (hn : n ≤ n') : Rs B w p b on r n' := by
  obtain ⟨h1, h2, h3, D, h5, h6⟩ := k
  exact ⟨h1, h2, h3, D, h5.mono hn, h6⟩
theorem Rs.kept {E : Nat → Obj → Prop} (k : Rs B w p b on r n) (hk : Rg.Kept E w w') (hp : ∀ o, ¬ E p o) (hb : ∀ o, ¬ E b o) : Rs B w' p b on r n := by
  obtain ⟨h1, h2, h3, D, h5, h6⟩ := k
  exact ⟨hk.block _ _ h1 (hp _), h2, h3, D, own_keptG h5 hk (fun _ _ => hb _), h6⟩
theorem Rs.on_ (k : Rs B w p b on r n) (hb : Below w.heap.size w w') : Rs B w' p b on r n :=
  k.kept (E := fun _ _ => False) (Rg.Kept.of_below hb) (fun _ h => h) (fun _ h => h)
theorem Rs.bel (k : Rs B w p b on r n) (hk : Rg.Kept (Own2 p b) w w') : Below B w w' :=
  hk.bel k.low (fun i _ e => by have := k.2.1; have := k.2.2.1; rcases e with e | e <;> omega)
theorem Rs.cellOn (k : Rs B w p b on r n) {i : Nat} (hi : i < 8) : w.cell? ⟨p, i, none⟩ = some (.int .i64 (on i)) := by
  rw [cell_of k.1, List.getElem?_toArray]; exact rcs_on _ _ hi
theorem Rs.cellM (k : Rs B w p b on r n) : w.cell? ⟨p, 8, none⟩ = some (.map (some b)) := by
  rw [cell_of k.1, List.getElem?_toArray]; exact rcs_map _ _
theorem Rs.frozen (k : Rs B w p b on r n) (i : Nat) : w.frozen? ⟨p, i, none⟩ = false := frozen_of_row _ _ _ _ _ k.1
theorem Rs.setOn (k : Rs B w p b on r n) {i : Nat} (hi : i < 8) (v : Int) : Rs B (w.setCell ⟨p, i, none⟩ (.int .i64 v)) p b (upd on i v) r n := by
  have hne := k.ne
  obtain ⟨h1, h2, h3, D, h5, h6⟩ := k
  refine ⟨?_, h2, h3, D, h5.setCell (a := ⟨p, i, none⟩) hne _, h6⟩
  rw [heap_setCell_same _ _ _ _ _ _ h1, ← rcs_seton on b hi v, List.setIfInBounds_toArray]
/-- A look-up in it. -/
theorem Rs.look (k : Rs B w p b on r n) {id : Int} (hw : (Lit.int .i64 id).wf = true) :
    (Instr.lookup 98 (.map (some b)) (.int .i64 id) false).run Tryz.prog w = .ok (pairV ((r id).getD (0, 0))) w := by
  obtain ⟨_, _, _, D, h5, h6⟩ := k
  exact look_pair h5 Tryz.underlying3 Tryz.underlying98 (zeroC _) h6 hw
end

theorem sumTo_le {h g : Int → Int} (hg : ∀ x, h x ≤ g x) : ∀ n, sumTo h n ≤ sumTo g n
  | 0 => Int.le_refl _
  | n + 1 => by have := sumTo_le hg n; have := hg n; rw [sumTo, sumTo]; omega
/-- Of some of the keys the sum is no more than of all. -/
theorem sum_some {l : List Int} {v : Int → Int} (hn : l.Nodup) (hb : ∀ x ∈ l, 0 ≤ x ∧ x < 1000) (hp : ∀ x, 0 ≤ v x) : (l.map v).sum ≤ sumTo v 1000 := by
  have e : l.map v = l.map (fun x => if x ∈ l then v x else 0) := List.map_congr_left (fun x hx => (if_pos hx).symm)
  rw [e, sum_nodup (N := 1000) l _ hn (fun x hx => by have := hb x hx; omega) (fun x hx => if_neg hx)]
  refine sumTo_le (fun x => ?_) 1000
  split
  · exact Int.le_refl _
  · exact hp x
theorem sum_nonneg {l : List Int} {v : Int → Int} (hp : ∀ x, 0 ≤ v x) : 0 ≤ (l.map v).sum := by
  induction l with
  | nil => exact Int.le_refl _
  | cons a l ih => rw [List.map_cons, List.sum_cons]; have := hp a; omega
/-- What is left behind some rounds. -/
def FRel (w : World) (D : DataW Unit) (b n : Nat) (s : Sb) (x : Int) (nv : Value) (wr : World) : Prop :=
  ∃ (left : Lit → Bool) (cnt : Nat) (ss : List Int), nv = .int .i64 (s.on x - (ss.map (resv s.r x)).sum) ∧ wr.ranges Tryz.prog 3 pairElem b w.heap.size n D left cnt ∧ CollectedI D left ss ∧ Hid (Below w.heap.size w wr)

set_option maxRecDepth 100000 in
set_option maxRecDepth 100000 in
set_option maxHeartbeats 1000000 in
theorem rfree_any {B : Nat} {w : World} {p b : Nat} {s : Sb} {n : Nat} (k : Rs B w p b s.on s.r n) (g : GoodS s) (x : Int) :
    Calls Tryz.prog 58 #[.pointer (some ⟨p, 0, none⟩), .int .i64 x] w fun e w' => e = .returned (.int .i64 (frV s x)) ∧ Below w.heap.size w w' := by
  have hi := rplace_any x w
  by_cases h : isIt x = true
  · have e : frV s x = s.fr x := if_pos h
    rw [e]
    rw [h] at hi
    obtain ⟨h0, h1⟩ := isIt_iff.1 h
    obtain ⟨i, rfl⟩ : ∃ i : Nat, x = i := ⟨x.toNat, by omega⟩
    have c := k.cellOn (i := i) (by omega)
    have c8 := k.cellM
    have HT := hide (g.tot i h0 h1)
    have htop := g.top i h0 h1
    have hfn := g.nn i h0 h1
    have HP := hide (g.pos i)
    have HAT := hide g.at_
    obtain ⟨-, -, -, D, hown, hfit⟩ := k
    have HFT := hide hfit
    clear e h hfit h0 g
    go_enter Tryz.func58, Tryz.ntmps58
    go_wp2_with (first
      | (go_at_call 92; refine hi.mono ?_; rintro e w' ⟨rfl, rfl⟩)
      | (at_range; refine wpList_range_own _ rfl _ 98 rfl 3 128 lawI Tryz.underlying98 _ b n _ rfl hown ?_; intro w0 hrg0 hg0 hs0)
      | go_in)
    go_frame
    have HB0 : Hid (Below w.heap.size w w0) := (Below.refl _ _).grown hg0 (Nat.le_refl _) (fun k e => by cases e)
    clear hown hg0 hs0 c8 hi c
    go_loopw [5] (fun nv wr => FRel w D b n s i nv wr) (fun _ wr => wr.rangeLeft b w.heap.size)
    case atStart => exact ⟨_, _, [], by simp, hrg0, CollectedI.start D, HB0⟩
    case round =>
      obtain ⟨left, cnt, ss, rfl, hrg, hC, HB⟩ := hrel
      clear hrg0 HB0
      have HC := hide hC
      have HRG := hide hrg
      obtain ⟨S, hS⟩ : ∃ S, (ss.map (resv s.r i)).sum = S := ⟨_, rfl⟩
      have HMEM : Hid (∀ x ∈ ss, 0 ≤ x ∧ x < 1000) := fun x hx => by
        have h1 := ((hC.2 x).1 hx).1
        rw [(HFT.out.2 x).2] at h1
        cases hr : s.r x with
        | none => rw [hr] at h1; cases h1
        | some c => have := (HAT.out x c hr).1; omega
      have bS : 0 ≤ S ∧ S ≤ s.on i := by
        rw [← hS]
        have h1 := sum_nonneg (l := ss) HP.out
        have h2 := sum_some hC.1 HMEM.out HP.out
        have h3 := HT.out
        omega
      obtain ⟨bS1, bS2⟩ := bS
      obtain ⟨V, hV⟩ : ∃ V, s.on i = V := ⟨_, rfl⟩
      have HV := hide hV
      have HS := hide hS
      rw [hS, hV]
      rw [hV] at bS2 htop
      clear hS hV
      go_wp2_with (first
        | (at_next; refine next_pair rfl _ rfl Tryz.underlying3 rfl hrg HFT.out hC ?_ ?_)
        | go_in)
      · intro hall
        have HALL := hide hall
        clear hall hrg hC
        go_wp2
        go_ret
        refine ⟨ret_int ?_, HB.out⟩
        have h1 := sum_nodup (N := 1000) ss (resv s.r i) HC.out.1 (fun x hx => by have := HMEM.out x hx; omega) (fun x hx => by
          unfold resv
          cases hr : s.r x with
          | none => rfl
          | some c => exact absurd ((HALL.out x).2 (by rw [hr]; rfl)) hx)
        have h2 := HT.out
        have h3 := HS.out
        have h4 := HV.out
        omega
      · intro y cx cy w1 left1 cnt1 hgy hny hrg1 hC1 hlt hg1 hs1 hen
        unfold pairV at hen
        have HB1 : Hid (Below w.heap.size w w1) := HB.out.grown hg1 HB.out.size (fun k e => by cases e; exact Nat.le_refl _)
        have HR1 := hide hrg1
        have HC1 := hide hC1
        have HLT := hide hlt
        have HGY : Hid (resv s.r i y = if cx = i then cy else 0) := by show _ = _; unfold resv; rw [hgy]; rfl
        have HSS : Hid (((ss ++ [y]).map (resv s.r i)).sum = S + if cx = i then cy else 0) := by
          show _ = _
          rw [List.map_append, List.sum_append, HS.out, List.map_singleton, List.sum_singleton, HGY.out]
        have bT : S + (if cx = i then cy else 0) ≤ V := by
          rw [← HSS.out, ← HV.out]
          have h2 := sum_some (l := ss ++ [y]) hC1.1 (fun x hx => by
            rcases List.mem_append.1 hx with h | h
            · exact HMEM.out x h
            · rw [List.mem_singleton] at h; subst h; have := (HAT.out _ _ hgy).1; omega) HP.out
          have h3 := HT.out
          omega
        have hcy : 1 ≤ cy := (HAT.out _ _ hgy).2.2
        have NXT : Hid (∀ nv : Value, nv = .int .i64 (V - (S + if cx = i then cy else 0)) → FRel w D b n s i nv (w1.alloc (.cells #[.int .i64 cx, .int .i64 cy] 128)) ∧ (w1.alloc (.cells #[.int .i64 cx, .int .i64 cy] 128)).rangeLeft b w.heap.size < wr.rangeLeft b w.heap.size) := fun nv hnv => by
          refine ⟨⟨left1, cnt1, ss ++ [y], ?_, HR1.out.alloc _, HC1.out, bel_al HB1.out _⟩, ?_⟩
          · rw [hnv, HSS.out, HV.out]
          · rw [(HR1.out.alloc _).left_eq, ← HR1.out.left_eq]
            exact HLT.out
        clear hrg hC hrg1 hC1 hlt hgy hny hg1 hs1
        by_cases hcx : cx = i
        · rw [if_pos hcx] at bT NXT
          subst hcx
          go_wp2
          go_roundw
          case rel => exact (NXT.out _ (by rw [show V - S - cy = V - (S + cy) by omega])).1
          case measure => exact (NXT.out _ rfl).2
        · rw [if_neg hcx] at bT NXT
          have qc : (cx == (i : Int)) = false := by simp [hcx]
          clear hcx
          go_wp2
          go_roundw
          case rel => exact (NXT.out _ (by rw [Int.add_zero])).1
          case measure => exact (NXT.out _ rfl).2
  · have e : frV s x = 0 := if_neg h
    rw [e]
    rw [show isIt x = false by simpa using h] at hi
    clear e h k
    go_enter Tryz.func58, Tryz.ntmps58
    go_wp2_with (go_at_call 92; refine hi.mono ?_; rintro e w' ⟨rfl, rfl⟩)
    go_ret
    exact ⟨rfl, Below.refl _ _⟩
end Go.Proofs.YtepclljoiccieaaGreatDoor.Gd
/-
  Contracts of the reference's Commit, Release, Reserve.
-/
namespace Go.Proofs.YtepclljoiccieaaGreatDoor.Gd
open Go.ChangeShapes Go.WideShapes Go.ChangeAt Go.RowKit Go.Maps

theorem claimAt (x y : Int) (W : World) : (Instr.field 128 (.agg #[.int .i64 x, .int .i64 y]) 0).run Tryz.prog W = .ok (.int .i64 x) W := by kernel_rfl
theorem claimN (x y : Int) (W : World) : (Instr.field 128 (.agg #[.int .i64 x, .int .i64 y]) 1).run Tryz.prog W = .ok (.int .i64 y) W := by kernel_rfl
section
variable {B : Nat} {w0 w : World} {p b : Nat} {on : Int → Int} {r : Int → Option (Int × Int)} {n : Nat} {id : Int}
/-- delete(b.R, id) -/
theorem Rs.gone (k : Rs B w p b on r n) (kk : Rg.Kept (Own2 p b) w0 w) (D : DataW Unit) (hf : FitsG encP D r) {w1 : World} (o1 : w1.ownsMap Tryz.prog 3 pairElem b n (D.del (.int .i64 id))) (t1 : w.mapTurned w1 b) :
    Rs B w1 p b on (updO r id none) n ∧ Rg.Kept (Own2 p b) w0 w1 := by
  have hne := k.ne
  have kp : Rg.Kept (fun i _ => i = b) w w1 := Rg.Kept.grown t1.grown (fun i _ e => (by cases e; rfl))
  exact ⟨⟨kp.block _ _ k.1 (fun e => hne e.symm), k.2.1, k.2.2.1, _, o1, hf.del id⟩, kk.trans (kp.mono (fun _ _ e => .inr e))⟩
/-- b.R[id] = Claim{x, y} -/
theorem Rs.put (k : Rs B w p b on r n) (kk : Rg.Kept (Own2 p b) w0 w) (hw : (Lit.int .i64 id).wf = true) (hn : n < 1000000) (x y : Int) :
    ∃ w1, (Instr.mapUpdate 98 (.map (some b)) (.int .i64 id) (.agg #[.int .i64 x, .int .i64 y])).run Tryz.prog w = .ok () w1 ∧ Rs B w1 p b on (updO r id (some (x, y))) (n + 1) ∧ Rg.Kept (Own2 p b) w0 w1 := by
  have hne := k.ne
  obtain ⟨h1, h2, h3, D, h5, h6⟩ := k
  obtain ⟨w1, hrun, o1, t1⟩ := h5.store lawI Tryz.underlying98 (by unfold maxLen; omega) (keyOf_int_mk Tryz.underlying3 hw) (pairElem_mk (x, y))
  have kp : Rg.Kept (fun i _ => i = b) w w1 := Rg.Kept.grown t1.grown (fun i _ e => (by cases e; rfl))
  exact ⟨w1, hrun, ⟨kp.block _ _ h1 (fun e => hne e.symm), h2, h3, _, o1, h6.put id (x, y)⟩, kk.trans (kp.mono (fun _ _ e => .inr e))⟩
end

set_option maxRecDepth 100000 in
set_option maxHeartbeats 1000000 in
theorem rrel_any {B : Nat} {w : World} {p b : Nat} {s : Sb} {n : Nat} (k : Rs B w p b s.on s.r n) (g : GoodS s) {id : Int} (hw : (Lit.int .i64 id).wf = true) :
    Calls Tryz.prog 81 #[.pointer (some ⟨p, 0, none⟩), .int .i64 id] w fun e w' => e = .returned (.int .i64 (unE s id)) ∧ Rs B w' p b (relS s id).on (relS s id).r n ∧ Rg.Kept (Own2 p b) w w' := by
  have c8 := k.cellM
  have hcn := claimN
  have hl := k.look hw
  cases hz : s.r id with
  | none =>
    rw [unE_none hz, relS_none hz]
    rw [hz] at hl
    unfold pairV at hl
    dsimp only [Option.getD] at hl
    have HK := hide k
    clear k hz g
    go_enter Tryz.func81, Tryz.ntmps81
    go_wp2
    go_ret
    exact ⟨rfl, HK.out, Rg.Kept.refl _ _⟩
  | some c =>
    obtain ⟨x, y⟩ := c
    rw [unE_some hz, relS_some hz]
    rw [hz] at hl
    unfold pairV at hl
    dsimp only [Option.getD] at hl ⊢
    have hy : 1 ≤ y := (g.at_ _ _ hz).2.2
    have qy : (y == 0) = false := by simp; omega
    have hkey := keyOf_int_mk Tryz.underlying3 hw
    have HK := hide k
    obtain ⟨-, -, -, D, hown, hfit⟩ := k
    have HF := hide hfit
    clear hz g hfit
    go_enter Tryz.func81, Tryz.ntmps81
    go_wp2_with (first
      | (at_delete; refine wpList_delete_own _ rfl _ _ 98 3 rfl 128 lawI Tryz.underlying98 _ b n D rfl hown _ _ rfl hkey ?_; intro w1 hown1 hturn1; have H1 := hide (HK.out.gone (Rg.Kept.refl _ _) D HF.out hown1 hturn1); clear hown hown1 hturn1)
      | go_in)
    go_ret
    exact ⟨rfl, H1.out⟩

set_option maxRecDepth 100000 in
set_option maxHeartbeats 1000000 in
theorem rcom_any {B : Nat} {w : World} {p b : Nat} {s : Sb} {n : Nat} (k : Rs B w p b s.on s.r n) (g : GoodS s) {id : Int} (hw : (Lit.int .i64 id).wf = true) :
    Calls Tryz.prog 80 #[.pointer (some ⟨p, 0, none⟩), .int .i64 id] w fun e w' => e = .returned (.int .i64 (unE s id)) ∧ Rs B w' p b (comS s id).on (comS s id).r n ∧ Rg.Kept (Own2 p b) w w' := by
  have c8 := k.cellM
  have hl := k.look hw
  cases hz : s.r id with
  | none =>
    rw [unE_none hz, comS_none hz]
    rw [hz] at hl
    unfold pairV at hl
    dsimp only [Option.getD] at hl
    have HK := hide k
    clear k hz g
    go_enter Tryz.func80, Tryz.ntmps80
    go_wp2
    go_ret
    exact ⟨rfl, HK.out.on_ (bel_al (Below.refl _ _) _), Rg.Kept.of_below (bel_al (Below.refl _ _) _)⟩
  | some c =>
    obtain ⟨x, y⟩ := c
    rw [unE_some hz, comS_some hz]
    rw [hz] at hl
    unfold pairV at hl
    dsimp only [Option.getD] at hl ⊢
    obtain ⟨a1, a2, a3⟩ := g.at_ id _ hz
    have a4 := g.le hz
    dsimp only at a2 a3 a4
    have a5 := g.top x a2.1 a2.2
    have a6 := g.nn x a2.1 a2.2
    have qy : (y == 0) = false := by simp; omega
    obtain ⟨i, rfl⟩ : ∃ i : Nat, x = i := ⟨x.toNat, by omega⟩
    have hi : (i : Int) < 8 := a2.2
    have hi8 : i < 8 := by omega
    have c := k.cellOn hi8
    have f := k.frozen i
    have hlt := k.lt
    have hkey := keyOf_int_mk Tryz.underlying3 hw
    obtain ⟨v, hv⟩ : ∃ v, s.on i = v := ⟨_, rfl⟩
    obtain ⟨v2, hv2⟩ : ∃ v2, s.fr i = v2 := ⟨_, rfl⟩
    have k2 : Rs B (((w.setCell ⟨p, i, none⟩ (.int .i64 (v - y))).alloc (.cells #[.int .i64 i, .int .i64 y] 128)).drew) p b (upd s.on i (v - y)) s.r n := (k.setOn hi8 (v - y)).on_ (bel_al (Below.refl _ _) _).drew
    have kk : Rg.Kept (Own2 p b) w (((w.setCell ⟨p, i, none⟩ (.int .i64 (v - y))).alloc (.cells #[.int .i64 i, .int .i64 y] 128)).drew) := (Rg.Kept.setCell _ (fun _ => .inl rfl)).trans (Rg.Kept.of_below (bel_al (Below.refl _ _) _).drew)
    have HK2 := hide k2
    have HKK := hide kk
    have c82 := k2.cellM
    obtain ⟨-, -, -, D, hown, hfit⟩ := k2
    have HF := hide hfit
    rw [hv] at c a4 a5 ⊢
    rw [hv2] at a4 a6
    clear k hz g hfit kk a1 a2 hv hv2 hi8
    go_enter Tryz.func80, Tryz.ntmps80
    go_wp2
    go_region
    go_wp2_with (first
      | (at_delete; refine wpList_delete_own _ rfl _ _ 98 3 rfl 128 lawI Tryz.underlying98 _ b n D rfl hown _ _ rfl hkey ?_; intro w1 hown1 hturn1; have H1 := hide (HK2.out.gone HKK.out D HF.out hown1 hturn1); clear hown hown1 hturn1)
      | go_in)
    go_ret
    exact ⟨rfl, H1.out⟩

set_option maxRecDepth 100000 in
set_option maxHeartbeats 1000000 in
theorem rres_any {B : Nat} {w : World} {p b : Nat} {s : Sb} {n : Nat} (k : Rs B w p b s.on s.r n) (g : GoodS s) {id : Int} (hw : (Lit.int .i64 id).wf = true) (it q : Int) (hn : n < 1000000) :
    Calls Tryz.prog 78 #[.pointer (some ⟨p, 0, none⟩), .int .i64 id, .int .i64 it, .int .i64 q] w fun e w' => e = .returned (.int .i64 (resE s id it q)) ∧ Rs B w' p b (resS s id it q).on (resS s id it q).r (n + 1) ∧ Rg.Kept (Own2 p b) w w' := by
  have no : ∀ c, resE s id it q = c → c ≠ 0 → ∀ w', Below w.heap.size w w' → Rs B w' p b (resS s id it q).on (resS s id it q).r (n + 1) := fun c e hc w' hb => by
    rw [resS_no (by omega)]
    exact (k.on_ hb).mono (by omega)
  have hcn := claimN
  cases hi : isI id
  · have e0 : resE s id it q = 1 := by unfold resE; rw [if_neg (by simp [hi])]
    have NO := hide (no 1 e0 (by omega))
    rw [e0]
    clear no e0 k
    go_enter Tryz.func78, Tryz.ntmps78
    go_wp2_with (first
        | (go_at_call 45; refine (rid_any _ _).mono ?_; rintro e w' ⟨rfl, rfl⟩)
        | (go_at_call 92; refine (rplace_any _ _).mono ?_; rintro e w' ⟨rfl, rfl⟩)
        | (go_at_call 115; refine (rabove_any _ _).mono ?_; rintro e w' ⟨rfl, rfl⟩))
    go_ret
    exact ⟨rfl, NO.out _ (Below.refl _ _), Rg.Kept.refl _ _⟩
  · cases hx : isIt it
    · have e0 : resE s id it q = 1 := by unfold resE; rw [if_neg (by simp [hx])]
      have NO := hide (no 1 e0 (by omega))
      rw [e0]
      clear no e0 k
      go_enter Tryz.func78, Tryz.ntmps78
      go_wp2_with (first
        | (go_at_call 45; refine (rid_any _ _).mono ?_; rintro e w' ⟨rfl, rfl⟩)
        | (go_at_call 92; refine (rplace_any _ _).mono ?_; rintro e w' ⟨rfl, rfl⟩)
        | (go_at_call 115; refine (rabove_any _ _).mono ?_; rintro e w' ⟨rfl, rfl⟩))
      go_ret
      exact ⟨rfl, NO.out _ (Below.refl _ _), Rg.Kept.refl _ _⟩
    · cases hq : aboveB q
      · have e0 : resE s id it q = 1 := by unfold resE; rw [if_neg (fun e => by unfold aboveB at hq; simp at hq; omega)]
        have NO := hide (no 1 e0 (by omega))
        rw [e0]
        clear no e0 k
        go_enter Tryz.func78, Tryz.ntmps78
        go_wp2_with (first
        | (go_at_call 45; refine (rid_any _ _).mono ?_; rintro e w' ⟨rfl, rfl⟩)
        | (go_at_call 92; refine (rplace_any _ _).mono ?_; rintro e w' ⟨rfl, rfl⟩)
        | (go_at_call 115; refine (rabove_any _ _).mono ?_; rintro e w' ⟨rfl, rfl⟩))
        go_ret
        exact ⟨rfl, NO.out _ (Below.refl _ _), Rg.Kept.refl _ _⟩
      · have hq2 : 1 ≤ q ∧ q ≤ 1000000000 := by unfold aboveB at hq; simpa using hq
        have c8 := k.cellM
        have hl := k.look hw
        cases hz : s.r id with
        | some c =>
          have e0 : resE s id it q = 8 := by unfold resE; rw [if_pos ⟨hi, hx, hq2⟩, hz]; rfl
          obtain ⟨x, y⟩ := c
          rw [hz] at hl
          unfold pairV at hl
          dsimp only [Option.getD] at hl
          have hy : y > 0 := by have := (g.at_ _ _ hz).2.2; dsimp only at this; omega
          have NO := hide (no 8 e0 (by omega))
          rw [e0]
          clear no e0 k hz g
          go_enter Tryz.func78, Tryz.ntmps78
          go_wp2_with (first
        | (go_at_call 45; refine (rid_any _ _).mono ?_; rintro e w' ⟨rfl, rfl⟩)
        | (go_at_call 92; refine (rplace_any _ _).mono ?_; rintro e w' ⟨rfl, rfl⟩)
        | (go_at_call 115; refine (rabove_any _ _).mono ?_; rintro e w' ⟨rfl, rfl⟩))
          go_ret
          exact ⟨rfl, NO.out _ (Below.refl _ _), Rg.Kept.refl _ _⟩
        | none =>
          rw [hz] at hl
          unfold pairV at hl
          dsimp only [Option.getD] at hl
          have FR := rfree_any k g it
          have ef : frV s it = s.fr it := if_pos hx
          rw [ef] at FR
          by_cases hle : q ≤ s.fr it
          · have e0 : resE s id it q = 0 := by unfold resE; rw [if_pos ⟨hi, hx, hq2⟩, hz, if_neg (by simp), if_pos hle]
            have q1 : ¬ q > s.fr it := by omega
            have PUT : Hid (∀ u, Below w.heap.size w u → u.cell? ⟨p, 8, none⟩ = some (.map (some b)) ∧ ∃ w1, (Instr.mapUpdate 98 (.map (some b)) (.int .i64 id) (.agg #[.int .i64 it, .int .i64 q])).run Tryz.prog u = .ok () w1 ∧ Rs B w1 p b s.on (updO s.r id (some (it, q))) (n + 1) ∧ Rg.Kept (Own2 p b) w w1) := fun u hu => ⟨(k.on_ hu).cellM, (k.on_ hu).put (Rg.Kept.of_below hu) hw hn it q⟩
            rw [e0, resS_ok e0]
            obtain ⟨v, hv⟩ : ∃ v, s.fr it = v := ⟨_, rfl⟩
            rw [hv] at FR q1
            clear no e0 k hz g ef hle hv
            go_enter Tryz.func78, Tryz.ntmps78
            go_wp2_with (first
        | (go_at_call 45; refine (rid_any _ _).mono ?_; rintro e w' ⟨rfl, rfl⟩)
        | (go_at_call 92; refine (rplace_any _ _).mono ?_; rintro e w' ⟨rfl, rfl⟩)
        | (go_at_call 115; refine (rabove_any _ _).mono ?_; rintro e w' ⟨rfl, rfl⟩)
        | (go_at_call 58; refine FR.mono ?_; rintro e u ⟨rfl, hbu⟩; clear c8; obtain ⟨c8, w1, hr1, hp1⟩ := PUT.out u hbu; have HP1 := hide hp1; clear hp1 hbu))
            go_ret
            exact ⟨rfl, HP1.out⟩
          · have e0 : resE s id it q = 9 := by unfold resE; rw [if_pos ⟨hi, hx, hq2⟩, hz, if_neg (by simp), if_neg hle]
            have q1 : q > s.fr it := by omega
            have NO := hide (no 9 e0 (by omega))
            rw [e0]
            obtain ⟨v, hv⟩ : ∃ v, s.fr it = v := ⟨_, rfl⟩
            rw [hv] at FR q1
            clear no e0 k hz g ef hle hv
            go_enter Tryz.func78, Tryz.ntmps78
            go_wp2_with (first
        | (go_at_call 45; refine (rid_any _ _).mono ?_; rintro e w' ⟨rfl, rfl⟩)
        | (go_at_call 92; refine (rplace_any _ _).mono ?_; rintro e w' ⟨rfl, rfl⟩)
        | (go_at_call 115; refine (rabove_any _ _).mono ?_; rintro e w' ⟨rfl, rfl⟩)
        | (go_at_call 58; refine FR.mono ?_; rintro e u ⟨rfl, hbu⟩; have HBU := hide hbu; clear hbu))
            go_ret
            exact ⟨rfl, NO.out _ HBU.out, Rg.Kept.of_below HBU.out⟩
end Go.Proofs.YtepclljoiccieaaGreatDoor.Gd
/-
  Contracts of the reference's row, NewStock.
-/
namespace Go.Proofs.YtepclljoiccieaaGreatDoor.Gd
open Go.ChangeShapes Go.WideShapes Go.ChangeAt Go.RowKit Go.Maps

theorem rowc_lit (h : Int → Int) : (rowc h).toArray = #[.int .i64 (h 0), .int .i64 (h 1), .int .i64 (h 2), .int .i64 (h 3), .int .i64 (h 4), .int .i64 (h 5), .int .i64 (h 6), .int .i64 (h 7)] := rfl
/-- A block of eight numbers. -/
def Row8 (w : World) (b : Nat) (h : Int → Int) : Prop := w.heap[b]? = some (.cells (rowc h).toArray 60 (0, 0))
theorem Row8.cell {w : World} {b : Nat} {h : Int → Int} (k : Row8 w b h) {i : Nat} (hi : i < 8) : w.cell? ⟨b, i, none⟩ = some (.int .i64 (h i)) := by
  rw [cell_of k, List.getElem?_toArray]; exact rowc_at _ hi
theorem Row8.frozen {w : World} {b : Nat} {h : Int → Int} (k : Row8 w b h) (i : Nat) : w.frozen? ⟨b, i, none⟩ = false := frozen_of_row _ _ _ _ _ k
theorem Row8.lt {w : World} {b : Nat} {h : Int → Int} (k : Row8 w b h) : b < w.heap.size := (Array.getElem?_eq_some_iff.1 k).1
theorem Row8.set {w : World} {b : Nat} {h : Int → Int} (k : Row8 w b h) {i : Nat} (hi : i < 8) (v : Int) : Row8 (w.setCell ⟨b, i, none⟩ (.int .i64 v)) b (upd h i v) := by
  unfold Row8
  rw [heap_setCell_same _ _ _ _ _ _ k, ← rowc_put h hi v, List.setIfInBounds_toArray]
theorem Row8.other {w : World} {b : Nat} {h : Int → Int} (k : Row8 w b h) {p : Addr} (hp : b ≠ p.block) (v : Value) : Row8 (w.setCell p v) b h :=
  (Below.heap_setCell _ _ _ _ hp).trans k
theorem Row8.congr {w : World} {b : Nat} {h g : Int → Int} (k : Row8 w b h) (e : ∀ k : Nat, k < 8 → h k = g k) : Row8 w b g := by
  unfold Row8 at *
  rw [← rowc_congr e]
  exact k
def RRel (w : World) (l : List Int) (i : Value) (wr : World) : Prop :=
  ∃ j : Nat, i = .int .i64 j ∧ j ≤ 8 ∧ Hid (Row8 wr (w.heap.size + 1) (onJ l j)) ∧ Hid (Row8 wr w.heap.size (fun _ => 0)) ∧ Hid (Below w.heap.size w wr)
theorem onJ_over {l : List Int} {j : Nat} (h : l.length ≤ j) : onJ l (j + 1) = onJ l j := by
  rw [← onJ_step, List.getD_eq_getElem?_getD, List.getElem?_eq_none h]
  refine upd_id ?_
  unfold onJ
  rw [if_neg (by omega)]
  rfl
theorem onJ_8 (l : List Int) {k : Nat} (hk : k < 8) : onJ l 8 k = (newS l).on k := by
  show onJ l 8 k = clampA (l.getD (k : Int).toNat 0)
  unfold onJ
  rw [if_pos (by omega)]

set_option maxRecDepth 100000 in
set_option maxRecDepth 100000 in
set_option maxHeartbeats 1000000 in
theorem rrow_any (a : Option Addr) (l : List Int) (cap : Nat) (w : World) (ha : Ints w a l) (_hl : l.length ≤ 9223372036854775807) :
    Calls Tryz.prog 99 #[.slice a l.length cap] w fun e w' => e = .returned (.agg #[.int .i64 ((newS l).on 0), .int .i64 ((newS l).on 1), .int .i64 ((newS l).on 2), .int .i64 ((newS l).on 3), .int .i64 ((newS l).on 4), .int .i64 ((newS l).on 5), .int .i64 ((newS l).on 6), .int .i64 ((newS l).on 7)]) ∧ Below w.heap.size w w' := by
  have HA := hide ha
  clear ha
  have Z0 : Hid (Row8 ((w.alloc (.cells #[.int .i64 0, .int .i64 0, .int .i64 0, .int .i64 0, .int .i64 0, .int .i64 0, .int .i64 0, .int .i64 0] 60)).alloc (.cells #[.int .i64 0, .int .i64 0, .int .i64 0, .int .i64 0, .int .i64 0, .int .i64 0, .int .i64 0, .int .i64 0] 60)) w.heap.size (fun _ => 0)) := by
    show _ = _
    rw [Below.heap_alloc _ _ _ (by simp)]
    exact World.alloc_heap_new _ _
  have Z1 : Hid (Row8 ((w.alloc (.cells #[.int .i64 0, .int .i64 0, .int .i64 0, .int .i64 0, .int .i64 0, .int .i64 0, .int .i64 0, .int .i64 0] 60)).alloc (.cells #[.int .i64 0, .int .i64 0, .int .i64 0, .int .i64 0, .int .i64 0, .int .i64 0, .int .i64 0, .int .i64 0] 60)) (w.heap.size + 1) (onJ l 0)) := by
    refine Row8.congr (h := fun _ => 0) ?_ (fun k _ => ?_)
    · have := World.alloc_heap_new (w.alloc (.cells #[.int .i64 0, .int .i64 0, .int .i64 0, .int .i64 0, .int .i64 0, .int .i64 0, .int .i64 0, .int .i64 0] 60)) (.cells #[.int .i64 0, .int .i64 0, .int .i64 0, .int .i64 0, .int .i64 0, .int .i64 0, .int .i64 0, .int .i64 0] 60)
      rw [World.size_alloc] at this
      exact this
    · unfold onJ
      rw [if_neg (by omega)]
  go_enter Tryz.func99, Tryz.ntmps99
  go_wp2
  go_loopw [5] (fun i wr => RRel w l i wr) (fun i _ => 8 - (Go.RowKit.intOf i).toNat)
  case atStart => exact ⟨0, rfl, Nat.zero_le _, Z1, Z0, bel_al (bel_al (Below.refl _ _) _) _⟩
  case round =>
    obtain ⟨j, rfl, hj, H1, H0, HB⟩ := hrel
    clear Z0 Z1
    by_cases hlt : j < 8
    · have ql : (j : Int) < 8 := by omega
      by_cases hjl : j < l.length
      · have q2 : (j : Int) < (l.length : Int) := by omega
        rcases HA.out.below HB.out with h0 | ⟨ab, off, rfl, hca⟩
        · rw [h0] at hjl; simp at hjl
        have c := hca j hjl
        have c1 := H1.out.cell hlt
        have f1 := H1.out.frozen j
        obtain ⟨x, hx⟩ : ∃ x, l.getD j 0 = x := ⟨_, rfl⟩
        obtain ⟨y, hy⟩ : ∃ y, onJ l j j = y := ⟨_, rfl⟩
        rw [hx] at c
        rw [hy] at c1
        have KEY : Hid (Row8 (wr.setCell ⟨w.heap.size + 1, j, none⟩ (.int .i64 (clampA x))) (w.heap.size + 1) (onJ l (j + 1)) ∧ Row8 (wr.setCell ⟨w.heap.size + 1, j, none⟩ (.int .i64 (clampA x))) w.heap.size (fun _ => 0) ∧ Below w.heap.size w (wr.setCell ⟨w.heap.size + 1, j, none⟩ (.int .i64 (clampA x)))) := by
          have := H1.out.set hlt (clampA x)
          rw [← hx, onJ_step, hx] at this
          exact ⟨this, H0.out.other (by show _ ≠ w.heap.size + 1; omega) _, HB.out.setCell (p := ⟨w.heap.size + 1, j, none⟩) (by show w.heap.size ≤ w.heap.size + 1; omega) _⟩
        obtain ⟨z, hz⟩ : ∃ z, clampA x = z := ⟨_, rfl⟩
        have CL := rclamp_any x
        rw [hz] at KEY
        have HCL := hide CL
        have HZ := hide hz
        clear hca hx hy HA CL hz
        go_wp2_with (go_at_call 122; refine (HCL.out _).mono ?_; rw [HZ.out]; rintro e w' ⟨rfl, rfl⟩)
        go_roundw
        case rel => exact ⟨j + 1, by go_num, by omega, KEY.out.1, KEY.out.2.1, KEY.out.2.2⟩
        case measure => simp [Go.RowKit.intOf]; omega
      · have q2 : ¬ (j : Int) < (l.length : Int) := by omega
        go_wp2
        go_roundw
        case rel => exact ⟨j + 1, by go_num, by omega, by rw [onJ_over (by omega)]; exact H1, H0, HB⟩
        case measure => simp [Go.RowKit.intOf]; omega
    · have ql : ¬ (j : Int) < 8 := by omega
      have hjm : j = 8 := by omega
      subst hjm
      obtain ⟨on, hon⟩ : ∃ on, onJ l 8 = on := ⟨_, rfl⟩
      have HE : Hid (∀ k : Nat, k < 8 → on k = (newS l).on k) := fun k hk => by rw [← hon]; exact onJ_8 l hk
      rw [hon] at H1
      have c0 := H1.out.cell (i := 0) (by omega)
      have d0 := H0.out.cell (i := 0) (by omega)
      have f0 := H0.out.frozen 0
      have c1 := H1.out.cell (i := 1) (by omega)
      have d1 := H0.out.cell (i := 1) (by omega)
      have f1 := H0.out.frozen 1
      have c2 := H1.out.cell (i := 2) (by omega)
      have d2 := H0.out.cell (i := 2) (by omega)
      have f2 := H0.out.frozen 2
      have c3 := H1.out.cell (i := 3) (by omega)
      have d3 := H0.out.cell (i := 3) (by omega)
      have f3 := H0.out.frozen 3
      have c4 := H1.out.cell (i := 4) (by omega)
      have d4 := H0.out.cell (i := 4) (by omega)
      have f4 := H0.out.frozen 4
      have c5 := H1.out.cell (i := 5) (by omega)
      have d5 := H0.out.cell (i := 5) (by omega)
      have f5 := H0.out.frozen 5
      have c6 := H1.out.cell (i := 6) (by omega)
      have d6 := H0.out.cell (i := 6) (by omega)
      have f6 := H0.out.frozen 6
      have c7 := H1.out.cell (i := 7) (by omega)
      have d7 := H0.out.cell (i := 7) (by omega)
      have f7 := H0.out.frozen 7
      have e0 := HE.out 0 (by omega)
      have e1 := HE.out 1 (by omega)
      have e2 := HE.out 2 (by omega)
      have e3 := HE.out 3 (by omega)
      have e4 := HE.out 4 (by omega)
      have e5 := HE.out 5 (by omega)
      have e6 := HE.out 6 (by omega)
      have e7 := HE.out 7 (by omega)
      rw [e0] at c0
      rw [e1] at c1
      rw [e2] at c2
      rw [e3] at c3
      rw [e4] at c4
      rw [e5] at c5
      rw [e6] at c6
      rw [e7] at c7
      clear hon HA e0 e1 e2 e3 e4 e5 e6 e7 hj hlt
      go_wp2
      refine bodyPost_ret (v := .agg #[.int .i64 ((newS l).on 0), .int .i64 ((newS l).on 1), .int .i64 ((newS l).on 2), .int .i64 ((newS l).on 3), .int .i64 ((newS l).on 4), .int .i64 ((newS l).on 5), .int .i64 ((newS l).on 6), .int .i64 ((newS l).on 7)]) ?_ rfl ?_
      · have hrow : Row8 ((((((((wr.setCell ⟨w.heap.size, 0, none⟩ (.int .i64 ((newS l).on 0))).setCell ⟨w.heap.size, 1, none⟩ (.int .i64 ((newS l).on 1))).setCell ⟨w.heap.size, 2, none⟩ (.int .i64 ((newS l).on 2))).setCell ⟨w.heap.size, 3, none⟩ (.int .i64 ((newS l).on 3))).setCell ⟨w.heap.size, 4, none⟩ (.int .i64 ((newS l).on 4))).setCell ⟨w.heap.size, 5, none⟩ (.int .i64 ((newS l).on 5))).setCell ⟨w.heap.size, 6, none⟩ (.int .i64 ((newS l).on 6))).setCell ⟨w.heap.size, 7, none⟩ (.int .i64 ((newS l).on 7))) w.heap.size (newS l).on := by
          refine Row8.congr ((((((((H0.out.set (i := 0) (by omega) ((newS l).on 0)).set (i := 1) (by omega) ((newS l).on 1)).set (i := 2) (by omega) ((newS l).on 2)).set (i := 3) (by omega) ((newS l).on 3)).set (i := 4) (by omega) ((newS l).on 4)).set (i := 5) (by omega) ((newS l).on 5)).set (i := 6) (by omega) ((newS l).on 6)).set (i := 7) (by omega) ((newS l).on 7)) (fun k hk => ?_)
          simp only [upd_at]
          match k, hk with
          | 0, _ => rfl
          | 1, _ => rfl
          | 2, _ => rfl
          | 3, _ => rfl
          | 4, _ => rfl
          | 5, _ => rfl
          | 6, _ => rfl
          | 7, _ => rfl
        unfold Row8 at hrow
        rw [rowc_lit] at hrow
        exact results_cell_row Tryz.results99 _ _ w.heap.size 60 _ (0, 0) _ rfl hrow Tryz.underlying60 rfl (by kernel_rfl)
      · exact ⟨rfl, ((((((((HB.out.setCell (p := ⟨w.heap.size, 0, none⟩) (Nat.le_refl _) _).setCell (p := ⟨w.heap.size, 1, none⟩) (Nat.le_refl _) _).setCell (p := ⟨w.heap.size, 2, none⟩) (Nat.le_refl _) _).setCell (p := ⟨w.heap.size, 3, none⟩) (Nat.le_refl _) _).setCell (p := ⟨w.heap.size, 4, none⟩) (Nat.le_refl _) _).setCell (p := ⟨w.heap.size, 5, none⟩) (Nat.le_refl _) _).setCell (p := ⟨w.heap.size, 6, none⟩) (Nat.le_refl _) _).setCell (p := ⟨w.heap.size, 7, none⟩) (Nat.le_refl _) _)⟩

/-- A book that was just made. -/
theorem rs_start (w : World) (l : List Int) : Rs w.heap.size ((w.alloc (.map #[] 0)).alloc (.cells #[.int .i64 ((newS l).on 0), .int .i64 ((newS l).on 1), .int .i64 ((newS l).on 2), .int .i64 ((newS l).on 3), .int .i64 ((newS l).on 4), .int .i64 ((newS l).on 5), .int .i64 ((newS l).on 6), .int .i64 ((newS l).on 7), .map (some w.heap.size)] 100)) (w.heap.size + 1) w.heap.size (newS l).on (fun _ => none) 0 := by
  have h2 := World.alloc_heap_new (w.alloc (.map #[] 0)) (.cells #[.int .i64 ((newS l).on 0), .int .i64 ((newS l).on 1), .int .i64 ((newS l).on 2), .int .i64 ((newS l).on 3), .int .i64 ((newS l).on 4), .int .i64 ((newS l).on 5), .int .i64 ((newS l).on 6), .int .i64 ((newS l).on 7), .map (some w.heap.size)] 100)
  rw [World.size_alloc] at h2
  exact ⟨h2, by omega, Nat.le_refl _, .map [], (World.ownsMap_made _ _ _ _).alloc _, FitsG.new _⟩
set_option maxRecDepth 100000 in
set_option maxRecDepth 100000 in
set_option maxHeartbeats 1000000 in
theorem rnews_any (a : Option Addr) (l : List Int) (cap : Nat) (w : World) (ha : Ints w a l) (hl : l.length ≤ 9223372036854775807) :
    Calls Tryz.prog 67 #[.slice a l.length cap] w fun e w' => ∃ p b, e = .returned (.pointer (some ⟨p, 0, none⟩)) ∧ Rs w.heap.size w' p b (newS l).on (newS l).r 0 ∧ Below w.heap.size w w' := by
  have hmm := @run_makeMap Tryz.prog
  have R := rrow_any a l cap w ha hl
  go_enter Tryz.func67, Tryz.ntmps67
  go_wp2_with (go_at_call 99; refine R.mono ?_; rintro e u ⟨rfl, hb⟩; have HB := hide hb; clear hb)
  go_ret
  obtain ⟨h1, h2, h3, h4⟩ := rs_start u l
  have hs := HB.out.size
  exact ⟨_, _, rfl, ⟨h1, by omega, by omega, h4⟩, bel_al (bel_al HB.out _) _⟩
end Go.Proofs.YtepclljoiccieaaGreatDoor.Gd
/-
  Maps of ints keyed by int: what one holds, as a function of the key (none: 0); a step of a range over one.
-/
namespace Go.Proofs.YtepclljoiccieaaGreatDoor.Gd.Pu
open Go.ChangeShapes Go.WideShapes Go.ChangeAt Go.RowKit Go.Maps

theorem zeroI (w : World) : (zeroValue 3).run Tryz.prog w = .ok (.int .i64 0) w := by kernel_rfl
/-- The map reads as h. -/
def Fits (D : DataW Unit) (h : Int → Int) : Prop := IsMap D ∧ ∀ x : Int, D.atKey (.int .i64 x) (.lit (.int .i64 0)) = .lit (.int .i64 (h x)) ∧ Maps.has D (.int .i64 x) = decide (h x ≠ 0)
theorem Fits.new : Fits (.map []) (fun _ => 0) := ⟨isMap_empty, fun _ => ⟨rfl, rfl⟩⟩
theorem Fits.put {D : DataW Unit} {h : Int → Int} (f : Fits D h) (id n : Int) (hn : n ≠ 0) : Fits (D.put (.int .i64 id) (.lit (.int .i64 n))) (upd h id n) := by
  refine ⟨f.1.put _ _, fun x => ?_⟩
  by_cases e : x = id
  · subst e
    have hk : WideAt.IsKeyLit (Lit.int .i64 x) := trivial
    rw [upd_same, atKey_put_same f.1 hk, has_put_same f.1 hk]
    exact ⟨rfl, by simp [hn]⟩
  · rw [upd_other h n e, atKey_put_other (by simpa using e), has_put_other (by simpa using e)]
    exact f.2 x
/-- The map at b reads as h. -/
def Mi (w : World) (b n : Nat) (h : Int → Int) : Prop := ∃ D : DataW Unit, w.ownsMap Tryz.prog 3 (plainElem Tryz.prog 3) b n D ∧ Fits D h
section
variable {w w' : World} {b n : Nat} {h : Int → Int}
theorem Mi.lt (k : Mi w b n h) : b < w.heap.size := by obtain ⟨D, hD, _⟩ := k; exact hD.lt
theorem Mi.mono {n' : Nat} (k : Mi w b n h) (hn : n ≤ n') : Mi w b n' h := by obtain ⟨D, hD, hf⟩ := k; exact ⟨D, hD.mono hn, hf⟩
theorem Mi.kept {E : Nat → Obj → Prop} (k : Mi w b n h) (hk : Rg.Kept E w w') (hb : ∀ o, ¬ E b o) : Mi w' b n h := by obtain ⟨D, hD, hf⟩ := k; exact ⟨D, own_keptG hD hk (fun _ _ => hb _), hf⟩
theorem Mi.on (k : Mi w b n h) (hb : Below w.heap.size w w') : Mi w' b n h := k.kept (E := fun _ _ => False) (Rg.Kept.of_below hb) (fun _ h => h)
theorem Mi.ne {p : Nat} {cs : Array Value} {t : TypeId} {z : Nat × Nat} (k : Mi w b n h) (hp : w.heap[p]? = some (.cells cs t z)) : b ≠ p := by
  rintro rfl
  obtain ⟨D, ⟨es, c, hb, _⟩, _⟩ := k
  rw [hp] at hb
  cases hb
theorem Mi.new (w : World) : Mi (w.alloc (.map #[] 0)) w.heap.size 0 (fun _ => 0) := ⟨.map [], World.ownsMap_made _ _ _ _, Fits.new⟩
/-- m[id] -/
theorem Mi.look (k : Mi w b n h) {id : Int} (hw : (Lit.int .i64 id).wf = true) :
    (Instr.lookup 62 (.map (some b)) (.int .i64 id) false).run Tryz.prog w = .ok (.int .i64 (h id)) w := by
  obtain ⟨D, h5, h6⟩ := k
  obtain ⟨v, ps, hrun, hv⟩ := h5.lookup lawI Tryz.underlying62 (zeroI _) (plainElem_int Tryz.underlying3 (by decide)) (keyOf_int_mk Tryz.underlying3 hw)
  obtain ⟨c, rfl, hc, _⟩ := plainElem_int_inv Tryz.underlying3 hv
  have e1 := (h6.2 id).1
  have e2 : D.atKey (.int .i64 id) (.lit (.int .i64 0)) = .lit (.int .i64 c) := congrArg Prod.fst hc
  rw [e1] at e2
  rw [hrun]
  cases e2
  rfl
/-- m[id] = v -/
theorem Mi.put (k : Mi w b n h) {id v : Int} (hw : (Lit.int .i64 id).wf = true) (hv : (Lit.int .i64 v).wf = true) (hv0 : v ≠ 0) (hn : n < 1000000) :
    ∃ w1, (Instr.mapUpdate 62 (.map (some b)) (.int .i64 id) (.int .i64 v)).run Tryz.prog w = .ok () w1 ∧ Mi w1 b (n + 1) (upd h id v) ∧ Rg.Kept (fun i _ => i = b) w w1 := by
  obtain ⟨D, h5, h6⟩ := k
  obtain ⟨w1, hrun, o1, t1⟩ := h5.store lawI Tryz.underlying62 (by unfold maxLen; omega) (keyOf_int_mk Tryz.underlying3 hw) (plainElem_int Tryz.underlying3 hv)
  exact ⟨w1, hrun, ⟨_, o1, h6.put id v hv0⟩, Rg.Kept.grown t1.grown (fun i _ e => (by cases e; rfl))⟩
end
/-- What is summed behind some rounds. -/
def IRel (w : World) (D : DataW Unit) (b n : Nat) (v : Int → Int) (nv : Value) (wr : World) : Prop :=
  ∃ (left : Lit → Bool) (cnt : Nat) (ss : List Int), nv = .int .i64 ((ss.map v).sum) ∧ wr.ranges Tryz.prog 3 (plainElem Tryz.prog 3) b w.heap.size n D left cnt ∧ CollectedI D left ss ∧ Hid (Below w.heap.size w wr)
section
variable {P : Program} {k : TypeId} {w : World} {b r n : Nat} {D : DataW Unit} {g : Int → Int} {left : Lit → Bool} {cnt : Nat} {ss : List Int}
  {ops : Array Oper} {rest : List Oper} {o : Oper} {a : Act} {Q : Exit → Act → World → Prop}
/-- A step of a range over such a map; ss: the keys that have come. -/
theorem next_int (hg : o.guard = none) (it : Operand) (hop : o.op = Op.next it false) (hk : P.underlying k = some (.int .i64)) (hit : a.eval it = .pointer (some ⟨r, 0, none⟩)) (h : w.ranges P k (plainElem P k) b r n D left cnt) (f : Fits D g) (hC : CollectedI D left ss)
    (hDone : (∀ x, x ∈ ss ↔ g x ≠ 0) → wpList P ops Q rest (a.put o.dst (.tuple #[.bool false])) w)
    (hMore : ∀ (x : Int) (w' : World) (left' : Lit → Bool) (cnt' : Nat), g x ≠ 0 → x ∉ ss → w'.ranges P k (plainElem P k) b r n D left' cnt' → CollectedI D left' (ss ++ [x]) → w'.rangeLeft b r < w.rangeLeft b r → w.grownBy w' (some r) → w'.heap.size = w.heap.size →
      (Instr.entry (.pointer (some ⟨r, 0, none⟩))).run P w' = .ok (.tuple #[.int .i64 x, .int .i64 (g x)]) w' → wpList P ops Q rest (a.put o.dst (.tuple #[.bool true, .int .i64 x, .int .i64 (g x)])) w') :
    wpList P ops Q (o :: rest) a w := by
  refine wpList_next_ranges_ii w hg it hop k k .i64 .i64 (int_keyed hk) hk hk b r n D left cnt hit h ?_ ?_
  · intro _ hl
    exact hDone (fun x => by rw [hC.2 x, (f.2 x).2, hl]; simp)
  · intro x c w' cnt' _ _ hlk hat hrg hlt hgr hsz hen
    have hgx : g x = c := by
      have h1 := hat (.lit (.int .i64 0))
      rw [(f.2 x).1] at h1
      simpa using h1
    subst hgx
    have hnx : x ∉ ss := fun hx => by have := ((hC.2 x).1 hx).2; rw [hlk] at this; cases this
    have hCn := hC.step hlk hat
    have hg0 : g x ≠ 0 := by
      have := ((hCn.2 x).1 (by simp)).1
      rw [(f.2 x).2] at this
      simpa using this
    exact hMore x w' _ cnt' hg0 hnx hrg hCn (by rw [hrg.left_eq, h.left_eq]; exact hlt) hgr hsz hen
end
end Go.Proofs.YtepclljoiccieaaGreatDoor.Gd.Pu
