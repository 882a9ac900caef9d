/-
  Own texts put together: GdN, Pu8, PuS.
-/
import Derived.Test.YthkgjggbpgkmpaaGreatDoorSgoodlop
import Derived.Test.YthkgjggbpgkmpaaGreatDoorSgihhnle
import Derived.Test.YthkgjggbpgkmpaaGreatDoorSghpcgle
import Derived.Test.YthkgjggbpgkmpaaGreatDoorSgmjlbfb
import Derived.Test.YthkgjggbpgkmpaaGreatDoorSghffmmk
import Derived.Maps.OwnSet
import Derived.Deep.CutBlock
/-
  Contract of stock's New.
-/
namespace Go.Proofs.YthkgjggbpgkmpaaGreatDoor.Gd
open Go.ChangeShapes Go.WideShapes Go.ChangeAt Go.RowKit Go.Maps

theorem rowc_congr {h g : Int → Int} (e : ∀ k : Nat, k < 8 → h k = g k) : rowc h = rowc g := by
  unfold rowc
  apply List.map_congr_left
  intro k hk
  rw [e k (by simpa using hk)]
theorem Sk0.congr {B : Nat} {w : World} {p b : Nat} {s s' : Sb} {n : Nat} (k : Sk0 B w p b s n) (h1 : ∀ k : Nat, k < 8 → s.on k = s'.on k) (h2 : ∀ k : Nat, k < 8 → s.fr k = s'.fr k) (h3 : s.r = s'.r) : Sk0 B w p b s' n := by
  unfold Sk0 bcs at *
  rw [← rowc_congr h1, ← rowc_congr h2, ← h3]
  exact k
/-- What is on hand behind j rounds. -/
def onJ (l : List Int) (j : Nat) (k : Int) : Int := if k < j then clampA (l.getD k.toNat 0) else 0
theorem onJ_step (l : List Int) (j : Nat) : upd (onJ l j) j (clampA (l.getD j 0)) = onJ l (j + 1) := by
  funext k
  unfold onJ
  rw [upd_at]
  by_cases e : k = j
  · subst e
    rw [if_pos rfl, if_pos (by omega)]
    simp
  · rw [if_neg e]
    by_cases h : k < j
    · rw [if_pos h, if_pos (by omega)]
    · rw [if_neg h, if_neg (by omega)]
theorem sk_start (w : World) (l : List Int) : Sk0 w.heap.size ((w.alloc (.map #[] 0)).alloc (.cells #[.int .i64 0, .int .i64 0, .int .i64 0, .int .i64 0, .int .i64 0, .int .i64 0, .int .i64 0, .int .i64 0, .int .i64 0, .int .i64 0, .int .i64 0, .int .i64 0, .int .i64 0, .int .i64 0, .int .i64 0, .int .i64 0, .map (some w.heap.size)] 76)) (w.heap.size + 1) w.heap.size ⟨onJ l 0, fun _ => 0, fun _ => none⟩ 0 := by
  have h2 := World.alloc_heap_new (w.alloc (.map #[] 0)) (.cells #[.int .i64 0, .int .i64 0, .int .i64 0, .int .i64 0, .int .i64 0, .int .i64 0, .int .i64 0, .int .i64 0, .int .i64 0, .int .i64 0, .int .i64 0, .int .i64 0, .int .i64 0, .int .i64 0, .int .i64 0, .int .i64 0, .map (some w.heap.size)] 76)
  rw [World.size_alloc] at h2
  refine Sk0.congr (s := ⟨fun _ => 0, fun _ => 0, fun _ => none⟩) ⟨h2, by omega, Nat.le_refl _, .map [], (World.ownsMap_made _ _ _ _).alloc _, FitsG.new _⟩ (fun k _ => ?_) (fun _ _ => rfl) rfl
  show 0 = onJ l 0 k
  unfold onJ
  rw [if_neg (by omega)]
/-- b.free = b.onHand -/
theorem sk_copy {B : Nat} {w : World} {p b : Nat} {on fr : Int → Int} {r : Int → Option (Int × Int)} {n : Nat} (k : Sk0 B w p b ⟨on, fr, r⟩ n) :
    Sk0 B ((((((((w.setCell ⟨p, 8, none⟩ (.int .i64 (on 0))).setCell ⟨p, 9, none⟩ (.int .i64 (on 1))).setCell ⟨p, 10, none⟩ (.int .i64 (on 2))).setCell ⟨p, 11, none⟩ (.int .i64 (on 3))).setCell ⟨p, 12, none⟩ (.int .i64 (on 4))).setCell ⟨p, 13, none⟩ (.int .i64 (on 5))).setCell ⟨p, 14, none⟩ (.int .i64 (on 6))).setCell ⟨p, 15, none⟩ (.int .i64 (on 7))) p b ⟨on, on, r⟩ n := by
  refine Sk0.congr ((((((((k.setFr (i := 0) (by omega) (on 0)).setFr (i := 1) (by omega) (on 1)).setFr (i := 2) (by omega) (on 2)).setFr (i := 3) (by omega) (on 3)).setFr (i := 4) (by omega) (on 4)).setFr (i := 5) (by omega) (on 5)).setFr (i := 6) (by omega) (on 6)).setFr (i := 7) (by omega) (on 7)) (fun _ _ => rfl) (fun k hk => ?_) rfl
  dsimp only
  simp only [upd_at]
  match k, hk with
  | 0, _ => rfl
  | 1, _ => rfl
  | 2, _ => rfl
  | 3, _ => rfl
  | 4, _ => rfl
  | 5, _ => rfl
  | 6, _ => rfl
  | 7, _ => rfl
theorem below_copy {a w : World} {p : Nat} (h : Below a.heap.size a w) (hp : a.heap.size ≤ p) (x0 x1 x2 x3 x4 x5 x6 x7 : Value) :
    Below a.heap.size a ((((((((w.setCell ⟨p, 8, none⟩ x0).setCell ⟨p, 9, none⟩ x1).setCell ⟨p, 10, none⟩ x2).setCell ⟨p, 11, none⟩ x3).setCell ⟨p, 12, none⟩ x4).setCell ⟨p, 13, none⟩ x5).setCell ⟨p, 14, none⟩ x6).setCell ⟨p, 15, none⟩ x7) :=
  (((((((h.setCell hp _).setCell hp _).setCell hp _).setCell hp _).setCell hp _).setCell hp _).setCell hp _).setCell hp _

def NRel (w : World) (l : List Int) (m : Nat) (i : Value) (wr : World) : Prop :=
  ∃ j : Nat, i = .int .i64 j ∧ j ≤ m ∧ Hid (Sk0 w.heap.size wr (w.heap.size + 1) w.heap.size ⟨onJ l j, fun _ => 0, fun _ => none⟩ 0) ∧ Hid (Below w.heap.size w wr)
theorem onJ_end {l : List Int} {m : Nat} (hm : m = min l.length 8) {k : Nat} (hk : k < 8) : onJ l m k = (newS l).on k := by
  show onJ l m k = clampA (l.getD (k : Int).toNat 0)
  unfold onJ
  by_cases h : k < m
  · rw [if_pos (by omega)]
  · rw [if_neg (by omega)]
    have : l.length ≤ k := by omega
    rw [List.getD_eq_getElem?_getD, show ((k : Int).toNat) = k by simp, List.getElem?_eq_none this]
    rfl

set_option maxRecDepth 100000 in
set_option maxHeartbeats 2000000 in
theorem snew_any (a : Option Addr) (l : List Int) (cap : Nat) (w : World) (ha : Ints w a l) (hcap : l.length ≤ cap) (hl : l.length ≤ 9223372036854775807) (hnil : a = none → cap = 0) :
    Calls Tryz.prog 72 #[.slice a l.length cap] w fun e w' => ∃ p b, e = .returned (.pointer (some ⟨p, 0, none⟩)) ∧ Sk w.heap.size w' p b (newS l) 0 ∧ Below w.heap.size w w' := by
  have hmm := @run_makeMap Tryz.prog
  have HS := hide (sk_start w l)
  have HA := hide ha
  clear ha
  by_cases h8 : ¬ (8 : Int) < (l.length : Int)
  · go_enter Tryz.func72, Tryz.ntmps72
    go_wp2
    go_loopw [15] (fun i wr => NRel w l l.length i wr) (fun i _ => l.length - (Go.RowKit.intOf i).toNat)
    case atStart => exact ⟨0, rfl, Nat.zero_le _, HS, bel_al (bel_al (Below.refl _ _) _) _⟩
    case round =>
      obtain ⟨j, rfl, hj, HK, HB⟩ := hrel
      clear HS
      by_cases hlt : j < l.length
      · have q1 : (j : Int) < ((l.length : Nat) : Int) := by omega
        have hjl : j < l.length := by omega
        have hj8 : (j : Int) < 8 := by omega
        rcases HA.out.below HB.out with h0 | ⟨ab, off, rfl, hca⟩
        · rw [h0] at hjl; simp at hjl
        have c0 := hca j hjl
        obtain ⟨x, hx⟩ : ∃ x, l.getD j 0 = x := ⟨_, rfl⟩
        rw [hx] at c0
        have c1 := HK.out.cellOn (i := j) (by omega)
        have f1 := HK.out.frozen j
        have KEY : Hid (∀ v, v = clampA x → Sk0 w.heap.size ((wr.setCell ⟨w.heap.size + 1, j, none⟩ (.int .i64 v))) (w.heap.size + 1) w.heap.size ⟨onJ l (j + 1), fun _ => 0, fun _ => none⟩ 0 ∧ Below w.heap.size w ((wr.setCell ⟨w.heap.size + 1, j, none⟩ (.int .i64 v)))) := fun v hv => by
          have := HK.out.setOn (i := j) (by omega) v
          rw [hv, ← hx, onJ_step] at this
          rw [hv, ← hx]
          exact ⟨this, (HB.out.setCell (p := ⟨w.heap.size + 1, j, none⟩) (by show w.heap.size ≤ w.heap.size + 1; omega) _)⟩
        obtain ⟨y, hy⟩ : ∃ y, onJ l j j = y := ⟨_, rfl⟩
        dsimp only at c1
        rw [hy] at c1
        clear hca hx hy HA
        by_cases x0 : ¬ x < 0
        · by_cases x1 : ¬ 1000000000 < x
          · have HC : Hid (x = clampA x) := by show _ = _; unfold clampA; rw [if_neg (by omega), if_pos (by omega)]
            go_wp2
            go_roundw
            case rel => exact ⟨j + 1, by go_num, by omega, (KEY.out _ HC.out).1, (KEY.out _ HC.out).2⟩
            case measure => simp [Go.RowKit.intOf]; omega
          · have x2 : 1000000000 < x := by omega
            clear x1
            have HC : Hid (1000000000 = clampA x) := by show _ = _; unfold clampA; rw [if_neg (by omega)]; split <;> omega
            go_wp2
            go_roundw
            case rel => exact ⟨j + 1, by go_num, by omega, (KEY.out _ HC.out).1, (KEY.out _ HC.out).2⟩
            case measure => simp [Go.RowKit.intOf]; omega
        · have x2 : x < 0 := by omega
          clear x0
          have HC : Hid (0 = clampA x) := by show _ = _; unfold clampA; split <;> (try split) <;> omega
          go_wp2
          go_roundw
          case rel => exact ⟨j + 1, by go_num, by omega, (KEY.out _ HC.out).1, (KEY.out _ HC.out).2⟩
          case measure => simp [Go.RowKit.intOf]; omega
      · have q1 : ¬ (j : Int) < ((l.length : Nat) : Int) := by omega
        have hjm : j = l.length := by omega
        subst hjm
        obtain ⟨on, hon⟩ : ∃ on, onJ l l.length = on := ⟨_, rfl⟩
        have HE : Hid (∀ k : Nat, k < 8 → on k = (newS l).on k) := fun k hk => by rw [← hon]; exact onJ_end (by omega) hk
        rw [hon] at HK
        have c0 := HK.out.cellOn (i := 0) (by omega)
        have c1 := HK.out.cellOn (i := 1) (by omega)
        have c2 := HK.out.cellOn (i := 2) (by omega)
        have c3 := HK.out.cellOn (i := 3) (by omega)
        have c4 := HK.out.cellOn (i := 4) (by omega)
        have c5 := HK.out.cellOn (i := 5) (by omega)
        have c6 := HK.out.cellOn (i := 6) (by omega)
        have c7 := HK.out.cellOn (i := 7) (by omega)
        have d0 := HK.out.cellFr (i := 0) (by omega)
        have d1 := HK.out.cellFr (i := 1) (by omega)
        have d2 := HK.out.cellFr (i := 2) (by omega)
        have d3 := HK.out.cellFr (i := 3) (by omega)
        have d4 := HK.out.cellFr (i := 4) (by omega)
        have d5 := HK.out.cellFr (i := 5) (by omega)
        have d6 := HK.out.cellFr (i := 6) (by omega)
        have d7 := HK.out.cellFr (i := 7) (by omega)
        have f0 := HK.out.frozen 8
        have f1 := HK.out.frozen 9
        have f2 := HK.out.frozen 10
        have f3 := HK.out.frozen 11
        have f4 := HK.out.frozen 12
        have f5 := HK.out.frozen 13
        have f6 := HK.out.frozen 14
        have f7 := HK.out.frozen 15
        dsimp only at c0 c1 c2 c3 c4 c5 c6 c7 d0 d1 d2 d3 d4 d5 d6 d7
        clear hon HA
        go_wp2
        go_ret
        first | exact ⟨_, rfl, ⟨_, ⟨(sk_copy HK.out).congr HE.out HE.out rfl, GoodS.new l⟩⟩, below_copy HB.out (Nat.le_succ _) _ _ _ _ _ _ _ _⟩ | exact ⟨_, _, rfl, ⟨(sk_copy HK.out).congr HE.out HE.out rfl, GoodS.new l⟩, below_copy HB.out (Nat.le_succ _) _ _ _ _ _ _ _ _⟩
  · have h9 : (8 : Int) < (l.length : Int) := by omega
    have hc8 : (8 : Int) ≤ (cap : Int) := by omega
    clear h8
    go_enter Tryz.func72, Tryz.ntmps72
    go_wp2
    go_loopw [15] (fun i wr => NRel w l 8 i wr) (fun i _ => 8 - (Go.RowKit.intOf i).toNat)
    case atStart => exact ⟨0, rfl, Nat.zero_le _, HS, bel_al (bel_al (Below.refl _ _) _) _⟩
    case round =>
      obtain ⟨j, rfl, hj, HK, HB⟩ := hrel
      clear HS
      by_cases hlt : j < 8
      · have q1 : (j : Int) < ((8 : Nat) : Int) := by omega
        have hjl : j < l.length := by omega
        have hj8 : (j : Int) < 8 := by omega
        rcases HA.out.below HB.out with h0 | ⟨ab, off, rfl, hca⟩
        · rw [h0] at hjl; simp at hjl
        have c0 := hca j hjl
        obtain ⟨x, hx⟩ : ∃ x, l.getD j 0 = x := ⟨_, rfl⟩
        rw [hx] at c0
        have c1 := HK.out.cellOn (i := j) (by omega)
        have f1 := HK.out.frozen j
        have KEY : Hid (∀ v, v = clampA x → Sk0 w.heap.size ((wr.setCell ⟨w.heap.size + 1, j, none⟩ (.int .i64 v))) (w.heap.size + 1) w.heap.size ⟨onJ l (j + 1), fun _ => 0, fun _ => none⟩ 0 ∧ Below w.heap.size w ((wr.setCell ⟨w.heap.size + 1, j, none⟩ (.int .i64 v)))) := fun v hv => by
          have := HK.out.setOn (i := j) (by omega) v
          rw [hv, ← hx, onJ_step] at this
          rw [hv, ← hx]
          exact ⟨this, (HB.out.setCell (p := ⟨w.heap.size + 1, j, none⟩) (by show w.heap.size ≤ w.heap.size + 1; omega) _)⟩
        obtain ⟨y, hy⟩ : ∃ y, onJ l j j = y := ⟨_, rfl⟩
        dsimp only at c1
        rw [hy] at c1
        clear hca hx hy HA
        by_cases x0 : ¬ x < 0
        · by_cases x1 : ¬ 1000000000 < x
          · have HC : Hid (x = clampA x) := by show _ = _; unfold clampA; rw [if_neg (by omega), if_pos (by omega)]
            go_wp2
            go_roundw
            case rel => exact ⟨j + 1, by go_num, by omega, (KEY.out _ HC.out).1, (KEY.out _ HC.out).2⟩
            case measure => simp [Go.RowKit.intOf]; omega
          · have x2 : 1000000000 < x := by omega
            clear x1
            have HC : Hid (1000000000 = clampA x) := by show _ = _; unfold clampA; rw [if_neg (by omega)]; split <;> omega
            go_wp2
            go_roundw
            case rel => exact ⟨j + 1, by go_num, by omega, (KEY.out _ HC.out).1, (KEY.out _ HC.out).2⟩
            case measure => simp [Go.RowKit.intOf]; omega
        · have x2 : x < 0 := by omega
          clear x0
          have HC : Hid (0 = clampA x) := by show _ = _; unfold clampA; split <;> (try split) <;> omega
          go_wp2
          go_roundw
          case rel => exact ⟨j + 1, by go_num, by omega, (KEY.out _ HC.out).1, (KEY.out _ HC.out).2⟩
          case measure => simp [Go.RowKit.intOf]; omega
      · have q1 : ¬ (j : Int) < ((8 : Nat) : Int) := by omega
        have hjm : j = 8 := by omega
        subst hjm
        obtain ⟨on, hon⟩ : ∃ on, onJ l 8 = on := ⟨_, rfl⟩
        have HE : Hid (∀ k : Nat, k < 8 → on k = (newS l).on k) := fun k hk => by rw [← hon]; exact onJ_end (by omega) hk
        rw [hon] at HK
        have c0 := HK.out.cellOn (i := 0) (by omega)
        have c1 := HK.out.cellOn (i := 1) (by omega)
        have c2 := HK.out.cellOn (i := 2) (by omega)
        have c3 := HK.out.cellOn (i := 3) (by omega)
        have c4 := HK.out.cellOn (i := 4) (by omega)
        have c5 := HK.out.cellOn (i := 5) (by omega)
        have c6 := HK.out.cellOn (i := 6) (by omega)
        have c7 := HK.out.cellOn (i := 7) (by omega)
        have d0 := HK.out.cellFr (i := 0) (by omega)
        have d1 := HK.out.cellFr (i := 1) (by omega)
        have d2 := HK.out.cellFr (i := 2) (by omega)
        have d3 := HK.out.cellFr (i := 3) (by omega)
        have d4 := HK.out.cellFr (i := 4) (by omega)
        have d5 := HK.out.cellFr (i := 5) (by omega)
        have d6 := HK.out.cellFr (i := 6) (by omega)
        have d7 := HK.out.cellFr (i := 7) (by omega)
        have f0 := HK.out.frozen 8
        have f1 := HK.out.frozen 9
        have f2 := HK.out.frozen 10
        have f3 := HK.out.frozen 11
        have f4 := HK.out.frozen 12
        have f5 := HK.out.frozen 13
        have f6 := HK.out.frozen 14
        have f7 := HK.out.frozen 15
        dsimp only at c0 c1 c2 c3 c4 c5 c6 c7 d0 d1 d2 d3 d4 d5 d6 d7
        clear hon HA
        go_wp2
        go_ret
        first | exact ⟨_, rfl, ⟨_, ⟨(sk_copy HK.out).congr HE.out HE.out rfl, GoodS.new l⟩⟩, below_copy HB.out (Nat.le_succ _) _ _ _ _ _ _ _ _⟩ | exact ⟨_, _, rfl, ⟨(sk_copy HK.out).congr HE.out HE.out rfl, GoodS.new l⟩, below_copy HB.out (Nat.le_succ _) _ _ _ _ _ _ _ _⟩
end Go.Proofs.YthkgjggbpgkmpaaGreatDoor.Gd
/-
  Rows of eight numbers in memory; the reference's row; small facts on blocks.
-/
namespace Go.Proofs.YthkgjggbpgkmpaaGreatDoor.Gd.Pu
open Go.ChangeShapes Go.WideShapes Go.ChangeAt Go.RowKit Go.Maps

theorem lawI : Keyed Tryz.prog 3 := int_keyed Tryz.underlying3
theorem wf_of {a : Int} (h1 : -9223372036854775808 ≤ a) (h2 : a ≤ 9223372036854775807) : (Lit.int .i64 a).wf = true := WalkArith.wf_i64 ⟨h1, h2⟩
/-- A row of eight numbers. -/
def rowc (h : Int → Int) : List Value := (List.range 8).map (fun k : Nat => .int .i64 (h k))
theorem rowc_len (h : Int → Int) : (rowc h).length = 8 := by simp [rowc]
theorem rowc_at (h : Int → Int) {i : Nat} (hi : i < 8) : (rowc h)[i]? = some (.int .i64 (h i)) := by simp [rowc, hi]
theorem rowc_put (h : Int → Int) {i : Nat} (hi : i < 8) (v : Int) : (rowc h).set i (.int .i64 v) = rowc (upd h i v) := by
  unfold rowc
  apply List.ext_getElem?
  intro k
  rw [List.getElem?_set]
  by_cases e : i = k
  · subst e
    simp [hi, upd]
  · rw [if_neg e]
    by_cases hk : k < 8
    · simp [hk, upd]
      intro e2
      omega
    · simp [hk]
theorem own_keptG {w w' : World} {b n : Nat} {E : Nat → Obj → Prop} {P : Program} {t : TypeId} {el : Value → Option (DataW Unit × List MemPlace)} {D : DataW Unit} (h : w.ownsMap P t el b n D) (k : Rg.Kept E w w') (hb : ∀ es c, ¬ E b (.map es c)) : w'.ownsMap P t el b n D := by
  obtain ⟨es, c, h1, h2⟩ := h
  exact ⟨es, c, k.block _ _ h1 (hb _ _), h2⟩
theorem bel_al {a w : World} (h : Below a.heap.size a w) (o : Obj) : Below a.heap.size a (w.alloc o) := h.alloc h.size o
/-- What is turned behind all that lay there is no matter. -/
theorem kept_new {E : Nat → Obj → Prop} {a w1 w2 : World} (h : Rg.Kept E a w1) (k : Rg.Kept (fun i _ => i = a.heap.size) w1 w2) : Rg.Kept E a w2 :=
  ⟨k.os.trans h.os, k.tape.trans h.tape, k.output.trans h.output, Nat.le_trans h.size k.size, fun i o hi hx => k.block i o (h.block i o hi hx) (fun e => by have := (Array.getElem?_eq_some_iff.1 hi).1; omega)⟩
theorem rowc_congr {h g : Int → Int} (e : ∀ k : Nat, k < 8 → h k = g k) : rowc h = rowc g := by
  unfold rowc
  apply List.map_congr_left
  intro k hk
  rw [e k (by simpa using hk)]
/-- What is on hand behind j rounds. -/
def onJ (l : List Int) (j : Nat) (k : Int) : Int := if k < j then clampA (l.getD k.toNat 0) else 0
theorem onJ_step (l : List Int) (j : Nat) : upd (onJ l j) j (clampA (l.getD j 0)) = onJ l (j + 1) := by
  funext k
  unfold onJ
  rw [upd_at]
  by_cases e : k = j
  · subst e
    rw [if_pos rfl, if_pos (by omega)]
    simp
  · rw [if_neg e]
    by_cases h : k < j
    · rw [if_pos h, if_pos (by omega)]
    · rw [if_neg h, if_neg (by omega)]
theorem rowc_lit (h : Int → Int) : (rowc h).toArray = #[.int .i64 (h 0), .int .i64 (h 1), .int .i64 (h 2), .int .i64 (h 3), .int .i64 (h 4), .int .i64 (h 5), .int .i64 (h 6), .int .i64 (h 7)] := rfl
/-- A block of eight numbers. -/
def Row8 (w : World) (b : Nat) (h : Int → Int) : Prop := w.heap[b]? = some (.cells (rowc h).toArray 70 (0, 0))
theorem Row8.cell {w : World} {b : Nat} {h : Int → Int} (k : Row8 w b h) {i : Nat} (hi : i < 8) : w.cell? ⟨b, i, none⟩ = some (.int .i64 (h i)) := by
  rw [cell_of k, List.getElem?_toArray]; exact rowc_at _ hi
theorem Row8.frozen {w : World} {b : Nat} {h : Int → Int} (k : Row8 w b h) (i : Nat) : w.frozen? ⟨b, i, none⟩ = false := frozen_of_row _ _ _ _ _ k
theorem Row8.lt {w : World} {b : Nat} {h : Int → Int} (k : Row8 w b h) : b < w.heap.size := (Array.getElem?_eq_some_iff.1 k).1
theorem Row8.set {w : World} {b : Nat} {h : Int → Int} (k : Row8 w b h) {i : Nat} (hi : i < 8) (v : Int) : Row8 (w.setCell ⟨b, i, none⟩ (.int .i64 v)) b (upd h i v) := by
  unfold Row8
  rw [heap_setCell_same _ _ _ _ _ _ k, ← rowc_put h hi v, List.setIfInBounds_toArray]
theorem Row8.other {w : World} {b : Nat} {h : Int → Int} (k : Row8 w b h) {p : Addr} (hp : b ≠ p.block) (v : Value) : Row8 (w.setCell p v) b h :=
  (Below.heap_setCell _ _ _ _ hp).trans k
theorem Row8.congr {w : World} {b : Nat} {h g : Int → Int} (k : Row8 w b h) (e : ∀ k : Nat, k < 8 → h k = g k) : Row8 w b g := by
  unfold Row8 at *
  rw [← rowc_congr e]
  exact k
def RRel (w : World) (l : List Int) (i : Value) (wr : World) : Prop :=
  ∃ j : Nat, i = .int .i64 j ∧ j ≤ 8 ∧ Hid (Row8 wr (w.heap.size + 1) (onJ l j)) ∧ Hid (Row8 wr w.heap.size (fun _ => 0)) ∧ Hid (Below w.heap.size w wr)
theorem onJ_over {l : List Int} {j : Nat} (h : l.length ≤ j) : onJ l (j + 1) = onJ l j := by
  rw [← onJ_step, List.getD_eq_getElem?_getD, List.getElem?_eq_none h]
  refine upd_id ?_
  unfold onJ
  rw [if_neg (by omega)]
  rfl
theorem onJ_8 (l : List Int) {k : Nat} (hk : k < 8) : onJ l 8 k = (newS l).on k := by
  show onJ l 8 k = clampA (l.getD (k : Int).toNat 0)
  unfold onJ
  rw [if_pos (by omega)]
set_option maxRecDepth 100000 in
set_option maxHeartbeats 1000000 in
theorem rrow_any (a : Option Addr) (l : List Int) (cap : Nat) (w : World) (ha : Ints w a l) (_hl : l.length ≤ 9223372036854775807) :
    Calls Tryz.prog 105 #[.slice a l.length cap] w fun e w' => e = .returned (.agg #[.int .i64 ((newS l).on 0), .int .i64 ((newS l).on 1), .int .i64 ((newS l).on 2), .int .i64 ((newS l).on 3), .int .i64 ((newS l).on 4), .int .i64 ((newS l).on 5), .int .i64 ((newS l).on 6), .int .i64 ((newS l).on 7)]) ∧ Below w.heap.size w w' := by
  have HA := hide ha
  clear ha
  have Z0 : Hid (Row8 ((w.alloc (.cells #[.int .i64 0, .int .i64 0, .int .i64 0, .int .i64 0, .int .i64 0, .int .i64 0, .int .i64 0, .int .i64 0] 70)).alloc (.cells #[.int .i64 0, .int .i64 0, .int .i64 0, .int .i64 0, .int .i64 0, .int .i64 0, .int .i64 0, .int .i64 0] 70)) w.heap.size (fun _ => 0)) := by
    show _ = _
    rw [Below.heap_alloc _ _ _ (by simp)]
    exact World.alloc_heap_new _ _
  have Z1 : Hid (Row8 ((w.alloc (.cells #[.int .i64 0, .int .i64 0, .int .i64 0, .int .i64 0, .int .i64 0, .int .i64 0, .int .i64 0, .int .i64 0] 70)).alloc (.cells #[.int .i64 0, .int .i64 0, .int .i64 0, .int .i64 0, .int .i64 0, .int .i64 0, .int .i64 0, .int .i64 0] 70)) (w.heap.size + 1) (onJ l 0)) := by
    refine Row8.congr (h := fun _ => 0) ?_ (fun k _ => ?_)
    · have := World.alloc_heap_new (w.alloc (.cells #[.int .i64 0, .int .i64 0, .int .i64 0, .int .i64 0, .int .i64 0, .int .i64 0, .int .i64 0, .int .i64 0] 70)) (.cells #[.int .i64 0, .int .i64 0, .int .i64 0, .int .i64 0, .int .i64 0, .int .i64 0, .int .i64 0, .int .i64 0] 70)
      rw [World.size_alloc] at this
      exact this
    · unfold onJ
      rw [if_neg (by omega)]
  go_enter Tryz.func105, Tryz.ntmps105
  go_wp2
  go_loopw [5] (fun i wr => RRel w l i wr) (fun i _ => 8 - (Go.RowKit.intOf i).toNat)
  case atStart => exact ⟨0, rfl, Nat.zero_le _, Z1, Z0, bel_al (bel_al (Below.refl _ _) _) _⟩
  case round =>
    obtain ⟨j, rfl, hj, H1, H0, HB⟩ := hrel
    clear Z0 Z1
    by_cases hlt : j < 8
    · have ql : (j : Int) < 8 := by omega
      by_cases hjl : j < l.length
      · have q2 : (j : Int) < (l.length : Int) := by omega
        rcases HA.out.below HB.out with h0 | ⟨ab, off, rfl, hca⟩
        · rw [h0] at hjl; simp at hjl
        have c := hca j hjl
        have c1 := H1.out.cell hlt
        have f1 := H1.out.frozen j
        obtain ⟨x, hx⟩ : ∃ x, l.getD j 0 = x := ⟨_, rfl⟩
        obtain ⟨y, hy⟩ : ∃ y, onJ l j j = y := ⟨_, rfl⟩
        rw [hx] at c
        rw [hy] at c1
        have KEY : Hid (Row8 (wr.setCell ⟨w.heap.size + 1, j, none⟩ (.int .i64 (clampA x))) (w.heap.size + 1) (onJ l (j + 1)) ∧ Row8 (wr.setCell ⟨w.heap.size + 1, j, none⟩ (.int .i64 (clampA x))) w.heap.size (fun _ => 0) ∧ Below w.heap.size w (wr.setCell ⟨w.heap.size + 1, j, none⟩ (.int .i64 (clampA x)))) := by
          have := H1.out.set hlt (clampA x)
          rw [← hx, onJ_step, hx] at this
          exact ⟨this, H0.out.other (by show _ ≠ w.heap.size + 1; omega) _, HB.out.setCell (p := ⟨w.heap.size + 1, j, none⟩) (by show w.heap.size ≤ w.heap.size + 1; omega) _⟩
        obtain ⟨z, hz⟩ : ∃ z, clampA x = z := ⟨_, rfl⟩
        have CL := rclamp_any x
        rw [hz] at KEY
        have HCL := hide CL
        have HZ := hide hz
        clear hca hx hy HA CL hz
        go_wp2_with (go_at_call 128; refine (HCL.out _).mono ?_; rw [HZ.out]; rintro e w' ⟨rfl, rfl⟩)
        go_roundw
        case rel => exact ⟨j + 1, by go_num, by omega, KEY.out.1, KEY.out.2.1, KEY.out.2.2⟩
        case measure => simp [Go.RowKit.intOf]; omega
      · have q2 : ¬ (j : Int) < (l.length : Int) := by omega
        go_wp2
        go_roundw
        case rel => exact ⟨j + 1, by go_num, by omega, by rw [onJ_over (by omega)]; exact H1, H0, HB⟩
        case measure => simp [Go.RowKit.intOf]; omega
    · have ql : ¬ (j : Int) < 8 := by omega
      have hjm : j = 8 := by omega
      subst hjm
      obtain ⟨on, hon⟩ : ∃ on, onJ l 8 = on := ⟨_, rfl⟩
      have HE : Hid (∀ k : Nat, k < 8 → on k = (newS l).on k) := fun k hk => by rw [← hon]; exact onJ_8 l hk
      rw [hon] at H1
      have c0 := H1.out.cell (i := 0) (by omega)
      have d0 := H0.out.cell (i := 0) (by omega)
      have f0 := H0.out.frozen 0
      have c1 := H1.out.cell (i := 1) (by omega)
      have d1 := H0.out.cell (i := 1) (by omega)
      have f1 := H0.out.frozen 1
      have c2 := H1.out.cell (i := 2) (by omega)
      have d2 := H0.out.cell (i := 2) (by omega)
      have f2 := H0.out.frozen 2
      have c3 := H1.out.cell (i := 3) (by omega)
      have d3 := H0.out.cell (i := 3) (by omega)
      have f3 := H0.out.frozen 3
      have c4 := H1.out.cell (i := 4) (by omega)
      have d4 := H0.out.cell (i := 4) (by omega)
      have f4 := H0.out.frozen 4
      have c5 := H1.out.cell (i := 5) (by omega)
      have d5 := H0.out.cell (i := 5) (by omega)
      have f5 := H0.out.frozen 5
      have c6 := H1.out.cell (i := 6) (by omega)
      have d6 := H0.out.cell (i := 6) (by omega)
      have f6 := H0.out.frozen 6
      have c7 := H1.out.cell (i := 7) (by omega)
      have d7 := H0.out.cell (i := 7) (by omega)
      have f7 := H0.out.frozen 7
      have e0 := HE.out 0 (by omega)
      have e1 := HE.out 1 (by omega)
      have e2 := HE.out 2 (by omega)
      have e3 := HE.out 3 (by omega)
      have e4 := HE.out 4 (by omega)
      have e5 := HE.out 5 (by omega)
      have e6 := HE.out 6 (by omega)
      have e7 := HE.out 7 (by omega)
      rw [e0] at c0
      rw [e1] at c1
      rw [e2] at c2
      rw [e3] at c3
      rw [e4] at c4
      rw [e5] at c5
      rw [e6] at c6
      rw [e7] at c7
      clear hon HA e0 e1 e2 e3 e4 e5 e6 e7 hj hlt
      go_wp2
      refine bodyPost_ret (v := .agg #[.int .i64 ((newS l).on 0), .int .i64 ((newS l).on 1), .int .i64 ((newS l).on 2), .int .i64 ((newS l).on 3), .int .i64 ((newS l).on 4), .int .i64 ((newS l).on 5), .int .i64 ((newS l).on 6), .int .i64 ((newS l).on 7)]) ?_ rfl ?_
      · have hrow : Row8 ((((((((wr.setCell ⟨w.heap.size, 0, none⟩ (.int .i64 ((newS l).on 0))).setCell ⟨w.heap.size, 1, none⟩ (.int .i64 ((newS l).on 1))).setCell ⟨w.heap.size, 2, none⟩ (.int .i64 ((newS l).on 2))).setCell ⟨w.heap.size, 3, none⟩ (.int .i64 ((newS l).on 3))).setCell ⟨w.heap.size, 4, none⟩ (.int .i64 ((newS l).on 4))).setCell ⟨w.heap.size, 5, none⟩ (.int .i64 ((newS l).on 5))).setCell ⟨w.heap.size, 6, none⟩ (.int .i64 ((newS l).on 6))).setCell ⟨w.heap.size, 7, none⟩ (.int .i64 ((newS l).on 7))) w.heap.size (newS l).on := by
          refine Row8.congr ((((((((H0.out.set (i := 0) (by omega) ((newS l).on 0)).set (i := 1) (by omega) ((newS l).on 1)).set (i := 2) (by omega) ((newS l).on 2)).set (i := 3) (by omega) ((newS l).on 3)).set (i := 4) (by omega) ((newS l).on 4)).set (i := 5) (by omega) ((newS l).on 5)).set (i := 6) (by omega) ((newS l).on 6)).set (i := 7) (by omega) ((newS l).on 7)) (fun k hk => ?_)
          simp only [upd_at]
          match k, hk with
          | 0, _ => rfl
          | 1, _ => rfl
          | 2, _ => rfl
          | 3, _ => rfl
          | 4, _ => rfl
          | 5, _ => rfl
          | 6, _ => rfl
          | 7, _ => rfl
        unfold Row8 at hrow
        rw [rowc_lit] at hrow
        exact results_cell_row Tryz.results105 _ _ w.heap.size 70 _ (0, 0) _ rfl hrow Tryz.underlying70 rfl (by kernel_rfl)
      · exact ⟨rfl, ((((((((HB.out.setCell (p := ⟨w.heap.size, 0, none⟩) (Nat.le_refl _) _).setCell (p := ⟨w.heap.size, 1, none⟩) (Nat.le_refl _) _).setCell (p := ⟨w.heap.size, 2, none⟩) (Nat.le_refl _) _).setCell (p := ⟨w.heap.size, 3, none⟩) (Nat.le_refl _) _).setCell (p := ⟨w.heap.size, 4, none⟩) (Nat.le_refl _) _).setCell (p := ⟨w.heap.size, 5, none⟩) (Nat.le_refl _) _).setCell (p := ⟨w.heap.size, 6, none⟩) (Nat.le_refl _) _).setCell (p := ⟨w.heap.size, 7, none⟩) (Nat.le_refl _) _)⟩
end Go.Proofs.YthkgjggbpgkmpaaGreatDoor.Gd.Pu
/-
  Sums over a map of pairs, in whatever order; a book of money in memory: its block of ten cells, its two maps. Contracts of purse's isId, isClient, has, sum, sumOf.
-/
namespace Go.Proofs.YthkgjggbpgkmpaaGreatDoor.Gd.Pu
open Go.ChangeShapes Go.WideShapes Go.ChangeAt Go.RowKit Go.Maps

theorem zeroD (w : World) : (zeroValue 140).run Tryz.prog w = .ok (pairV (0, 0)) w := by kernel_rfl
theorem pisid_any (id : Int) (w : World) : Calls Tryz.prog 136 #[.int .i64 id] w fun e w' => e = .returned (.bool (isI id)) ∧ w = w' := by
  by_cases h0 : 1 ≤ id
  · by_cases h1 : id ≤ 999
    · have hm : true = isI id := (isI_iff.2 ⟨h0, h1⟩).symm
      rw [← hm]
      clear hm
      go_enter Tryz.func136, Tryz.ntmps136
      go_wp2
      go_ret
      exact ⟨rfl, rfl⟩
    · have hm : false = isI id := by unfold isI; simp; omega
      rw [← hm]
      clear hm
      go_enter Tryz.func136, Tryz.ntmps136
      go_wp2
      go_ret
      exact ⟨rfl, rfl⟩
  · have hm : false = isI id := by unfold isI; simp; omega
    rw [← hm]
    clear hm
    go_enter Tryz.func136, Tryz.ntmps136
    go_wp2
    go_ret
    exact ⟨rfl, rfl⟩
theorem piscl_any (id : Int) (w : World) : Calls Tryz.prog 100 #[.int .i64 id] w fun e w' => e = .returned (.bool (isIt id)) ∧ w = w' := by
  by_cases h0 : 0 ≤ id
  · by_cases h1 : id < 8
    · have hm : true = isIt id := (isIt_iff.2 ⟨h0, h1⟩).symm
      rw [← hm]
      clear hm
      go_enter Tryz.func100, Tryz.ntmps100
      go_wp2
      go_ret
      exact ⟨rfl, rfl⟩
    · have hm : false = isIt id := by unfold isIt; simp; omega
      rw [← hm]
      clear hm
      go_enter Tryz.func100, Tryz.ntmps100
      go_wp2
      go_ret
      exact ⟨rfl, rfl⟩
  · have hm : false = isIt id := by unfold isIt; simp; omega
    rw [← hm]
    clear hm
    go_enter Tryz.func100, Tryz.ntmps100
    go_wp2
    go_ret
    exact ⟨rfl, rfl⟩

/-- What is summed behind some rounds, from z on. -/
def SRel (w : World) (D : DataW Unit) (b n : Nat) (z : Int) (v : Int → Int) (nv : Value) (wr : World) : Prop :=
  ∃ (left : Lit → Bool) (cnt : Nat) (ss : List Int), nv = .int .i64 (z + (ss.map v).sum) ∧ wr.ranges Tryz.prog 3 pairElem b w.heap.size n D left cnt ∧ CollectedI D left ss ∧ Hid (Below w.heap.size w wr)
/-- A map at b that reads as r. -/
def Mp (w : World) (b n : Nat) (r : Int → Option (Int × Int)) : Prop := ∃ D : DataW Unit, w.ownsMap Tryz.prog 3 pairElem b n D ∧ FitsG encP D r
theorem Mp.lt {w : World} {b n : Nat} {r : Int → Option (Int × Int)} (h : Mp w b n r) : b < w.heap.size := by obtain ⟨D, hD, _⟩ := h; exact hD.lt
theorem Mp.mono {w : World} {b n n' : Nat} {r : Int → Option (Int × Int)} (h : Mp w b n r) (hn : n ≤ n') : Mp w b n' r := by obtain ⟨D, hD, hf⟩ := h; exact ⟨D, hD.mono hn, hf⟩
theorem Mp.kept {w w' : World} {b n : Nat} {r : Int → Option (Int × Int)} {E : Nat → Obj → Prop} (h : Mp w b n r) (hk : Rg.Kept E w w') (hb : ∀ o, ¬ E b o) : Mp w' b n r := by obtain ⟨D, hD, hf⟩ := h; exact ⟨D, own_keptG hD hk (fun _ _ => hb _), hf⟩
theorem Mp.on {w w' : World} {b n : Nat} {r : Int → Option (Int × Int)} (h : Mp w b n r) (hb : Below w.heap.size w w') : Mp w' b n r := h.kept (E := fun _ _ => False) (Rg.Kept.of_below hb) (fun _ h => h)
theorem Mp.ne {w : World} {b n p : Nat} {r : Int → Option (Int × Int)} {cs : Array Value} {t : TypeId} {z : Nat × Nat} (h : Mp w b n r) (hp : w.heap[p]? = some (.cells cs t z)) : b ≠ p := by
  rintro rfl
  obtain ⟨D, ⟨es, c, hb, _⟩, _⟩ := h
  rw [hp] at hb
  cases hb

set_option maxRecDepth 100000 in
set_option maxHeartbeats 1000000 in
theorem psum_any {w : World} {b n : Nat} {r : Int → Option (Int × Int)} (k : Mp w b n r) (g : GoodD r) (ht : sumTo (alw r) 1000 ≤ 1000000000) :
    Calls Tryz.prog 71 #[.map (some b)] w fun e w' => e = .returned (.int .i64 (sumTo (alw r) 1000)) ∧ Below w.heap.size w w' := by
  have HP : Hid (∀ y, 0 ≤ (alw r) y) := g.pos
  have HT : Hid (sumTo (alw r) 1000 ≤ 1000000000) := ht
  have HG := hide g
  obtain ⟨D, hown, hfit⟩ := k
  have HFT := hide hfit
  clear hfit g ht
  go_enter Tryz.func71, Tryz.ntmps71
  go_wp2_with (first
    | (at_range; refine wpList_range_own _ rfl _ 78 rfl 3 140 lawI Tryz.underlying78 _ b n _ rfl hown ?_; intro w0 hrg0 hg0 hs0)
    | go_in)
  go_frame
  have HB0 : Hid (Below w.heap.size w w0) := (Below.refl _ _).grown hg0 (Nat.le_refl _) (fun k e => by cases e)
  clear hown hg0 hs0
  go_loopw [3] (fun nv wr => SRel w D b n 0 (alw r) nv wr) (fun _ wr => wr.rangeLeft b w.heap.size)
  case atStart => exact ⟨_, _, [], by simp, hrg0, CollectedI.start D, HB0⟩
  case round =>
    obtain ⟨left, cnt, ss, rfl, hrg, hC, HB⟩ := hrel
    clear hrg0 HB0
    have HC := hide hC
    have HRG := hide hrg
    obtain ⟨S, hS⟩ : ∃ S, (ss.map (alw r)).sum = S := ⟨_, rfl⟩
    have HMEM : Hid (∀ y ∈ ss, 0 ≤ y ∧ y < 1000) := fun y hy => by
      have h1 := ((hC.2 y).1 hy).1
      rw [(HFT.out.2 y).2] at h1
      cases hr : r y with
      | none => rw [hr] at h1; cases h1
      | some c => have := (HG.out y c hr).1; omega
    have bS : 0 ≤ S ∧ S ≤ 1000000000 := by
      rw [← hS]
      have h1 := sum_nonneg (l := ss) HP.out
      have h2 := sum_some hC.1 HMEM.out HP.out
      have h3 := HT.out
      omega
    obtain ⟨bS1, bS2⟩ := bS
    have HS := hide hS
    rw [hS, Int.zero_add]
    clear hS
    go_wp2_with (first
      | (at_next; refine next_pair rfl _ rfl Tryz.underlying3 rfl hrg HFT.out hC ?_ ?_)
      | go_in)
    · intro hall
      have HALL := hide hall
      clear hall hrg hC
      go_wp2
      go_ret
      refine ⟨ret_int ?_, HB.out⟩
      have h1 := sum_nodup (N := 1000) ss (alw r) HC.out.1 (fun x hx => by have := HMEM.out x hx; omega) (fun y hx => by
        unfold alw
        cases hr : r y with
        | none => rfl
        | some c => exact absurd ((HALL.out y).2 (by rw [hr]; rfl)) hx)
      have h3 := HS.out
      omega
    · intro y cx cy w1 left1 cnt1 hgy hny hrg1 hC1 hlt hg1 hs1 hen
      unfold pairV at hen
      have HB1 : Hid (Below w.heap.size w w1) := HB.out.grown hg1 HB.out.size (fun k e => by cases e; exact Nat.le_refl _)
      have HR1 := hide hrg1
      have HC1 := hide hC1
      have HLT := hide hlt
      have HSS : Hid (((ss ++ [y]).map (alw r)).sum = S + cy) := by
        show _ = _
        rw [List.map_append, List.sum_append, HS.out, List.map_singleton, List.sum_singleton]
        have e : (alw r) y = cy := by unfold alw; rw [hgy]; rfl
        rw [e]
      have bT : S + cy ≤ 1000000000 := by
        rw [← HSS.out]
        have h2 := sum_some (l := ss ++ [y]) hC1.1 (fun z hz => by
          rcases List.mem_append.1 hz with h | h
          · exact HMEM.out z h
          · rw [List.mem_singleton] at h; subst h; have := (HG.out _ _ hgy).1; omega) HP.out
        have h3 := HT.out
        omega
      have hcy : 1 ≤ cy := (HG.out _ _ hgy).2.2
      have NXT : Hid (∀ nv : Value, nv = .int .i64 (S + cy) → SRel w D b n 0 (alw r) nv (w1.alloc (.cells #[.int .i64 cx, .int .i64 cy] 140)) ∧ (w1.alloc (.cells #[.int .i64 cx, .int .i64 cy] 140)).rangeLeft b w.heap.size < wr.rangeLeft b w.heap.size) := fun nv hnv => by
        refine ⟨⟨left1, cnt1, ss ++ [y], ?_, HR1.out.alloc _, HC1.out, bel_al HB1.out _⟩, ?_⟩
        · rw [hnv, HSS.out, Int.zero_add]
        · rw [(HR1.out.alloc _).left_eq, ← HR1.out.left_eq]
          exact HLT.out
      clear hrg hC hrg1 hC1 hlt hgy hny hg1 hs1
      go_wp2
      go_roundw
      case rel => exact (NXT.out _ rfl).1
      case measure => exact (NXT.out _ rfl).2

set_option maxRecDepth 100000 in
set_option maxHeartbeats 1000000 in
theorem psumof_any {w : World} {b n : Nat} {r : Int → Option (Int × Int)} (k : Mp w b n r) (g : GoodD r) (ht : sumTo (alw r) 1000 ≤ 1000000000) (x : Int) :
    Calls Tryz.prog 101 #[.map (some b), .int .i64 x] w fun e w' => e = .returned (.int .i64 (sumTo (resv r x) 1000)) ∧ Below w.heap.size w w' := by
  have HP : Hid (∀ y, 0 ≤ (resv r x) y) := g.posK x
  have HT : Hid (sumTo (resv r x) 1000 ≤ 1000000000) := Int.le_trans (sumTo_le (g.le x) 1000) ht
  have HG := hide g
  obtain ⟨D, hown, hfit⟩ := k
  have HFT := hide hfit
  clear hfit g ht
  go_enter Tryz.func101, Tryz.ntmps101
  go_wp2_with (first
    | (at_range; refine wpList_range_own _ rfl _ 78 rfl 3 140 lawI Tryz.underlying78 _ b n _ rfl hown ?_; intro w0 hrg0 hg0 hs0)
    | go_in)
  go_frame
  have HB0 : Hid (Below w.heap.size w w0) := (Below.refl _ _).grown hg0 (Nat.le_refl _) (fun k e => by cases e)
  clear hown hg0 hs0
  go_loopw [5] (fun nv wr => SRel w D b n 0 (resv r x) nv wr) (fun _ wr => wr.rangeLeft b w.heap.size)
  case atStart => exact ⟨_, _, [], by simp, hrg0, CollectedI.start D, HB0⟩
  case round =>
    obtain ⟨left, cnt, ss, rfl, hrg, hC, HB⟩ := hrel
    clear hrg0 HB0
    have HC := hide hC
    have HRG := hide hrg
    obtain ⟨S, hS⟩ : ∃ S, (ss.map (resv r x)).sum = S := ⟨_, rfl⟩
    have HMEM : Hid (∀ y ∈ ss, 0 ≤ y ∧ y < 1000) := fun y hy => by
      have h1 := ((hC.2 y).1 hy).1
      rw [(HFT.out.2 y).2] at h1
      cases hr : r y with
      | none => rw [hr] at h1; cases h1
      | some c => have := (HG.out y c hr).1; omega
    have bS : 0 ≤ S ∧ S ≤ 1000000000 := by
      rw [← hS]
      have h1 := sum_nonneg (l := ss) HP.out
      have h2 := sum_some hC.1 HMEM.out HP.out
      have h3 := HT.out
      omega
    obtain ⟨bS1, bS2⟩ := bS
    have HS := hide hS
    rw [hS, Int.zero_add]
    clear hS
    go_wp2_with (first
      | (at_next; refine next_pair rfl _ rfl Tryz.underlying3 rfl hrg HFT.out hC ?_ ?_)
      | go_in)
    · intro hall
      have HALL := hide hall
      clear hall hrg hC
      go_wp2
      go_ret
      refine ⟨ret_int ?_, HB.out⟩
      have h1 := sum_nodup (N := 1000) ss (resv r x) HC.out.1 (fun x hx => by have := HMEM.out x hx; omega) (fun y hx => by
        unfold resv
        cases hr : r y with
        | none => rfl
        | some c => exact absurd ((HALL.out y).2 (by rw [hr]; rfl)) hx)
      have h3 := HS.out
      omega
    · intro y cx cy w1 left1 cnt1 hgy hny hrg1 hC1 hlt hg1 hs1 hen
      unfold pairV at hen
      have HB1 : Hid (Below w.heap.size w w1) := HB.out.grown hg1 HB.out.size (fun k e => by cases e; exact Nat.le_refl _)
      have HR1 := hide hrg1
      have HC1 := hide hC1
      have HLT := hide hlt
      have HSS : Hid (((ss ++ [y]).map (resv r x)).sum = S + (if cx = x then cy else 0)) := by
        show _ = _
        rw [List.map_append, List.sum_append, HS.out, List.map_singleton, List.sum_singleton]
        have e : (resv r x) y = if cx = x then cy else 0 := by unfold resv; rw [hgy]; rfl
        rw [e]
      have bT : S + (if cx = x then cy else 0) ≤ 1000000000 := by
        rw [← HSS.out]
        have h2 := sum_some (l := ss ++ [y]) hC1.1 (fun z hz => by
          rcases List.mem_append.1 hz with h | h
          · exact HMEM.out z h
          · rw [List.mem_singleton] at h; subst h; have := (HG.out _ _ hgy).1; omega) HP.out
        have h3 := HT.out
        omega
      have hcy : 1 ≤ cy := (HG.out _ _ hgy).2.2
      have NXT : Hid (∀ nv : Value, nv = .int .i64 (S + (if cx = x then cy else 0)) → SRel w D b n 0 (resv r x) nv (w1.alloc (.cells #[.int .i64 cx, .int .i64 cy] 140)) ∧ (w1.alloc (.cells #[.int .i64 cx, .int .i64 cy] 140)).rangeLeft b w.heap.size < wr.rangeLeft b w.heap.size) := fun nv hnv => by
        refine ⟨⟨left1, cnt1, ss ++ [y], ?_, HR1.out.alloc _, HC1.out, bel_al HB1.out _⟩, ?_⟩
        · rw [hnv, HSS.out, Int.zero_add]
        · rw [(HR1.out.alloc _).left_eq, ← HR1.out.left_eq]
          exact HLT.out
      clear hrg hC hrg1 hC1 hlt hgy hny hg1 hs1
      by_cases hcx : cx = x
      · rw [if_pos hcx] at bT NXT
        subst hcx
        go_wp2
        go_roundw
        case rel => exact (NXT.out _ rfl).1
        case measure => exact (NXT.out _ rfl).2
      · rw [if_neg hcx] at bT NXT
        have qc : (cx == x) = false := by simp [hcx]
        clear hcx
        go_wp2
        go_roundw
        case rel => exact (NXT.out _ (by rw [Int.add_zero])).1
        case measure => exact (NXT.out _ rfl).2
end Go.Proofs.YthkgjggbpgkmpaaGreatDoor.Gd.Pu
