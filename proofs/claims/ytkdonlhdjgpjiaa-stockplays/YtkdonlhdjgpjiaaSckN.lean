/-
  Contract of stock's New.
-/
import Derived.Test.YtkdonlhdjgpjiaaSckT
import Derived.Test.YtkdonlhdjgpjiaaInts
namespace Go.Proofs.Ytkdonlhdjgpjiaa
open Go.ChangeShapes Go.WideShapes Go.ChangeAt Go.RowKit Go.Maps

theorem rowc_congr {h g : Int → Int} (e : ∀ k : Nat, k < 8 → h k = g k) : rowc h = rowc g := by
  unfold rowc
  apply List.map_congr_left
  intro k hk
  rw [e k (by simpa using hk)]
theorem Sk0.congr {B : Nat} {w : World} {p b : Nat} {s s' : Sb} {n : Nat} (k : Sk0 B w p b s n) (h1 : ∀ k : Nat, k < 8 → s.on k = s'.on k) (h2 : ∀ k : Nat, k < 8 → s.fr k = s'.fr k) (h3 : s.r = s'.r) : Sk0 B w p b s' n := by
  unfold Sk0 bcs at *
  rw [← rowc_congr h1, ← rowc_congr h2, ← h3]
  exact k
/-- What is on hand behind j rounds. -/
def onJ (l : List Int) (j : Nat) (k : Int) : Int := if k < j then clampA (l.getD k.toNat 0) else 0
theorem onJ_step (l : List Int) (j : Nat) : upd (onJ l j) j (clampA (l.getD j 0)) = onJ l (j + 1) := by
  funext k
  unfold onJ
  rw [upd_at]
  by_cases e : k = j
  · subst e
    rw [if_pos rfl, if_pos (by omega)]
    simp
  · rw [if_neg e]
    by_cases h : k < j
    · rw [if_pos h, if_pos (by omega)]
    · rw [if_neg h, if_neg (by omega)]
theorem sk_start (w : World) (l : List Int) : Sk0 w.heap.size ((w.alloc (.map #[] 0)).alloc (.cells #[.int .i64 0, .int .i64 0, .int .i64 0, .int .i64 0, .int .i64 0, .int .i64 0, .int .i64 0, .int .i64 0, .int .i64 0, .int .i64 0, .int .i64 0, .int .i64 0, .int .i64 0, .int .i64 0, .int .i64 0, .int .i64 0, .map (some w.heap.size)] 53)) (w.heap.size + 1) w.heap.size ⟨onJ l 0, fun _ => 0, fun _ => none⟩ 0 := by
  have h2 := World.alloc_heap_new (w.alloc (.map #[] 0)) (.cells #[.int .i64 0, .int .i64 0, .int .i64 0, .int .i64 0, .int .i64 0, .int .i64 0, .int .i64 0, .int .i64 0, .int .i64 0, .int .i64 0, .int .i64 0, .int .i64 0, .int .i64 0, .int .i64 0, .int .i64 0, .int .i64 0, .map (some w.heap.size)] 53)
  rw [World.size_alloc] at h2
  refine Sk0.congr (s := ⟨fun _ => 0, fun _ => 0, fun _ => none⟩) ⟨h2, by omega, Nat.le_refl _, .map [], (World.ownsMap_made _ _ _ _).alloc _, FitsG.new _⟩ (fun k _ => ?_) (fun _ _ => rfl) rfl
  show 0 = onJ l 0 k
  unfold onJ
  rw [if_neg (by omega)]
/-- b.free = b.onHand -/
theorem sk_copy {B : Nat} {w : World} {p b : Nat} {on fr : Int → Int} {r : Int → Option (Int × Int)} {n : Nat} (k : Sk0 B w p b ⟨on, fr, r⟩ n) :
    Sk0 B ((((((((w.setCell ⟨p, 8, none⟩ (.int .i64 (on 0))).setCell ⟨p, 9, none⟩ (.int .i64 (on 1))).setCell ⟨p, 10, none⟩ (.int .i64 (on 2))).setCell ⟨p, 11, none⟩ (.int .i64 (on 3))).setCell ⟨p, 12, none⟩ (.int .i64 (on 4))).setCell ⟨p, 13, none⟩ (.int .i64 (on 5))).setCell ⟨p, 14, none⟩ (.int .i64 (on 6))).setCell ⟨p, 15, none⟩ (.int .i64 (on 7))) p b ⟨on, on, r⟩ n := by
  refine Sk0.congr ((((((((k.setFr (i := 0) (by omega) (on 0)).setFr (i := 1) (by omega) (on 1)).setFr (i := 2) (by omega) (on 2)).setFr (i := 3) (by omega) (on 3)).setFr (i := 4) (by omega) (on 4)).setFr (i := 5) (by omega) (on 5)).setFr (i := 6) (by omega) (on 6)).setFr (i := 7) (by omega) (on 7)) (fun _ _ => rfl) (fun k hk => ?_) rfl
  dsimp only
  simp only [upd_at]
  match k, hk with
  | 0, _ => rfl
  | 1, _ => rfl
  | 2, _ => rfl
  | 3, _ => rfl
  | 4, _ => rfl
  | 5, _ => rfl
  | 6, _ => rfl
  | 7, _ => rfl
theorem below_copy {a w : World} {p : Nat} (h : Below a.heap.size a w) (hp : a.heap.size ≤ p) (x0 x1 x2 x3 x4 x5 x6 x7 : Value) :
    Below a.heap.size a ((((((((w.setCell ⟨p, 8, none⟩ x0).setCell ⟨p, 9, none⟩ x1).setCell ⟨p, 10, none⟩ x2).setCell ⟨p, 11, none⟩ x3).setCell ⟨p, 12, none⟩ x4).setCell ⟨p, 13, none⟩ x5).setCell ⟨p, 14, none⟩ x6).setCell ⟨p, 15, none⟩ x7) :=
  (((((((h.setCell hp _).setCell hp _).setCell hp _).setCell hp _).setCell hp _).setCell hp _).setCell hp _).setCell hp _

def NRel (w : World) (l : List Int) (m : Nat) (i : Value) (wr : World) : Prop :=
  ∃ j : Nat, i = .int .i64 j ∧ j ≤ m ∧ Hid (Sk0 w.heap.size wr (w.heap.size + 1) w.heap.size ⟨onJ l j, fun _ => 0, fun _ => none⟩ 0) ∧ Hid (Below w.heap.size w wr)
theorem onJ_end {l : List Int} {m : Nat} (hm : m = min l.length 8) {k : Nat} (hk : k < 8) : onJ l m k = (newS l).on k := by
  show onJ l m k = clampA (l.getD (k : Int).toNat 0)
  unfold onJ
  by_cases h : k < m
  · rw [if_pos (by omega)]
  · rw [if_neg (by omega)]
    have : l.length ≤ k := by omega
    rw [List.getD_eq_getElem?_getD, show ((k : Int).toNat) = k by simp, List.getElem?_eq_none this]
    rfl

set_option maxRecDepth 100000 in
set_option maxHeartbeats 2000000 in
theorem snew_any (a : Option Addr) (l : List Int) (cap : Nat) (w : World) (ha : Ints w a l) (hcap : l.length ≤ cap) (hl : l.length ≤ 9223372036854775807) (hnil : a = none → cap = 0) :
    Calls Try.prog 10 #[.slice a l.length cap] w fun e w' => ∃ p b, e = .returned (.pointer (some ⟨p, 0, none⟩)) ∧ Sk w.heap.size w' p b (newS l) 0 ∧ Below w.heap.size w w' := by
  have hmm := @run_makeMap Try.prog
  have HS := hide (sk_start w l)
  have HA := hide ha
  clear ha
  by_cases h8 : ¬ (8 : Int) < (l.length : Int)
  · go_enter Try.func10, Try.ntmps10
    go_wp2
    go_loopw [15] (fun i wr => NRel w l l.length i wr) (fun i _ => l.length - (Go.RowKit.intOf i).toNat)
    case atStart => exact ⟨0, rfl, Nat.zero_le _, HS, bel_al (bel_al (Below.refl _ _) _) _⟩
    case round =>
      obtain ⟨j, rfl, hj, HK, HB⟩ := hrel
      clear HS
      by_cases hlt : j < l.length
      · have q1 : (j : Int) < ((l.length : Nat) : Int) := by omega
        have hjl : j < l.length := by omega
        have hj8 : (j : Int) < 8 := by omega
        rcases HA.out.below HB.out with h0 | ⟨ab, off, rfl, hca⟩
        · rw [h0] at hjl; simp at hjl
        have c0 := hca j hjl
        obtain ⟨x, hx⟩ : ∃ x, l.getD j 0 = x := ⟨_, rfl⟩
        rw [hx] at c0
        have c1 := HK.out.cellOn (i := j) (by omega)
        have f1 := HK.out.frozen j
        have KEY : Hid (∀ v, v = clampA x → Sk0 w.heap.size ((wr.setCell ⟨w.heap.size + 1, j, none⟩ (.int .i64 v))) (w.heap.size + 1) w.heap.size ⟨onJ l (j + 1), fun _ => 0, fun _ => none⟩ 0 ∧ Below w.heap.size w ((wr.setCell ⟨w.heap.size + 1, j, none⟩ (.int .i64 v)))) := fun v hv => by
          have := HK.out.setOn (i := j) (by omega) v
          rw [hv, ← hx, onJ_step] at this
          rw [hv, ← hx]
          exact ⟨this, (HB.out.setCell (p := ⟨w.heap.size + 1, j, none⟩) (by show w.heap.size ≤ w.heap.size + 1; omega) _)⟩
        obtain ⟨y, hy⟩ : ∃ y, onJ l j j = y := ⟨_, rfl⟩
        dsimp only at c1
        rw [hy] at c1
        clear hca hx hy HA
        by_cases x0 : ¬ x < 0
        · by_cases x1 : ¬ 1000000000 < x
          · have HC : Hid (x = clampA x) := by show _ = _; unfold clampA; rw [if_neg (by omega), if_pos (by omega)]
            go_wp2
            go_roundw
            case rel => exact ⟨j + 1, by go_num, by omega, (KEY.out _ HC.out).1, (KEY.out _ HC.out).2⟩
            case measure => simp [Go.RowKit.intOf]; omega
          · have x2 : 1000000000 < x := by omega
            clear x1
            have HC : Hid (1000000000 = clampA x) := by show _ = _; unfold clampA; rw [if_neg (by omega)]; split <;> omega
            go_wp2
            go_roundw
            case rel => exact ⟨j + 1, by go_num, by omega, (KEY.out _ HC.out).1, (KEY.out _ HC.out).2⟩
            case measure => simp [Go.RowKit.intOf]; omega
        · have x2 : x < 0 := by omega
          clear x0
          have HC : Hid (0 = clampA x) := by show _ = _; unfold clampA; split <;> (try split) <;> omega
          go_wp2
          go_roundw
          case rel => exact ⟨j + 1, by go_num, by omega, (KEY.out _ HC.out).1, (KEY.out _ HC.out).2⟩
          case measure => simp [Go.RowKit.intOf]; omega
      · have q1 : ¬ (j : Int) < ((l.length : Nat) : Int) := by omega
        have hjm : j = l.length := by omega
        subst hjm
        obtain ⟨on, hon⟩ : ∃ on, onJ l l.length = on := ⟨_, rfl⟩
        have HE : Hid (∀ k : Nat, k < 8 → on k = (newS l).on k) := fun k hk => by rw [← hon]; exact onJ_end (by omega) hk
        rw [hon] at HK
        have c0 := HK.out.cellOn (i := 0) (by omega)
        have c1 := HK.out.cellOn (i := 1) (by omega)
        have c2 := HK.out.cellOn (i := 2) (by omega)
        have c3 := HK.out.cellOn (i := 3) (by omega)
        have c4 := HK.out.cellOn (i := 4) (by omega)
        have c5 := HK.out.cellOn (i := 5) (by omega)
        have c6 := HK.out.cellOn (i := 6) (by omega)
        have c7 := HK.out.cellOn (i := 7) (by omega)
        have d0 := HK.out.cellFr (i := 0) (by omega)
        have d1 := HK.out.cellFr (i := 1) (by omega)
        have d2 := HK.out.cellFr (i := 2) (by omega)
        have d3 := HK.out.cellFr (i := 3) (by omega)
        have d4 := HK.out.cellFr (i := 4) (by omega)
        have d5 := HK.out.cellFr (i := 5) (by omega)
        have d6 := HK.out.cellFr (i := 6) (by omega)
        have d7 := HK.out.cellFr (i := 7) (by omega)
        have f0 := HK.out.frozen 8
        have f1 := HK.out.frozen 9
        have f2 := HK.out.frozen 10
        have f3 := HK.out.frozen 11
        have f4 := HK.out.frozen 12
        have f5 := HK.out.frozen 13
        have f6 := HK.out.frozen 14
        have f7 := HK.out.frozen 15
        dsimp only at c0 c1 c2 c3 c4 c5 c6 c7 d0 d1 d2 d3 d4 d5 d6 d7
        clear hon HA
        go_wp2
        go_ret
        first | exact ⟨_, rfl, ⟨_, ⟨(sk_copy HK.out).congr HE.out HE.out rfl, GoodS.new l⟩⟩, below_copy HB.out (Nat.le_succ _) _ _ _ _ _ _ _ _⟩ | exact ⟨_, _, rfl, ⟨(sk_copy HK.out).congr HE.out HE.out rfl, GoodS.new l⟩, below_copy HB.out (Nat.le_succ _) _ _ _ _ _ _ _ _⟩
  · have h9 : (8 : Int) < (l.length : Int) := by omega
    have hc8 : (8 : Int) ≤ (cap : Int) := by omega
    clear h8
    go_enter Try.func10, Try.ntmps10
    go_wp2
    go_loopw [15] (fun i wr => NRel w l 8 i wr) (fun i _ => 8 - (Go.RowKit.intOf i).toNat)
    case atStart => exact ⟨0, rfl, Nat.zero_le _, HS, bel_al (bel_al (Below.refl _ _) _) _⟩
    case round =>
      obtain ⟨j, rfl, hj, HK, HB⟩ := hrel
      clear HS
      by_cases hlt : j < 8
      · have q1 : (j : Int) < ((8 : Nat) : Int) := by omega
        have hjl : j < l.length := by omega
        have hj8 : (j : Int) < 8 := by omega
        rcases HA.out.below HB.out with h0 | ⟨ab, off, rfl, hca⟩
        · rw [h0] at hjl; simp at hjl
        have c0 := hca j hjl
        obtain ⟨x, hx⟩ : ∃ x, l.getD j 0 = x := ⟨_, rfl⟩
        rw [hx] at c0
        have c1 := HK.out.cellOn (i := j) (by omega)
        have f1 := HK.out.frozen j
        have KEY : Hid (∀ v, v = clampA x → Sk0 w.heap.size ((wr.setCell ⟨w.heap.size + 1, j, none⟩ (.int .i64 v))) (w.heap.size + 1) w.heap.size ⟨onJ l (j + 1), fun _ => 0, fun _ => none⟩ 0 ∧ Below w.heap.size w ((wr.setCell ⟨w.heap.size + 1, j, none⟩ (.int .i64 v)))) := fun v hv => by
          have := HK.out.setOn (i := j) (by omega) v
          rw [hv, ← hx, onJ_step] at this
          rw [hv, ← hx]
          exact ⟨this, (HB.out.setCell (p := ⟨w.heap.size + 1, j, none⟩) (by show w.heap.size ≤ w.heap.size + 1; omega) _)⟩
        obtain ⟨y, hy⟩ : ∃ y, onJ l j j = y := ⟨_, rfl⟩
        dsimp only at c1
        rw [hy] at c1
        clear hca hx hy HA
        by_cases x0 : ¬ x < 0
        · by_cases x1 : ¬ 1000000000 < x
          · have HC : Hid (x = clampA x) := by show _ = _; unfold clampA; rw [if_neg (by omega), if_pos (by omega)]
            go_wp2
            go_roundw
            case rel => exact ⟨j + 1, by go_num, by omega, (KEY.out _ HC.out).1, (KEY.out _ HC.out).2⟩
            case measure => simp [Go.RowKit.intOf]; omega
          · have x2 : 1000000000 < x := by omega
            clear x1
            have HC : Hid (1000000000 = clampA x) := by show _ = _; unfold clampA; rw [if_neg (by omega)]; split <;> omega
            go_wp2
            go_roundw
            case rel => exact ⟨j + 1, by go_num, by omega, (KEY.out _ HC.out).1, (KEY.out _ HC.out).2⟩
            case measure => simp [Go.RowKit.intOf]; omega
        · have x2 : x < 0 := by omega
          clear x0
          have HC : Hid (0 = clampA x) := by show _ = _; unfold clampA; split <;> (try split) <;> omega
          go_wp2
          go_roundw
          case rel => exact ⟨j + 1, by go_num, by omega, (KEY.out _ HC.out).1, (KEY.out _ HC.out).2⟩
          case measure => simp [Go.RowKit.intOf]; omega
      · have q1 : ¬ (j : Int) < ((8 : Nat) : Int) := by omega
        have hjm : j = 8 := by omega
        subst hjm
        obtain ⟨on, hon⟩ : ∃ on, onJ l 8 = on := ⟨_, rfl⟩
        have HE : Hid (∀ k : Nat, k < 8 → on k = (newS l).on k) := fun k hk => by rw [← hon]; exact onJ_end (by omega) hk
        rw [hon] at HK
        have c0 := HK.out.cellOn (i := 0) (by omega)
        have c1 := HK.out.cellOn (i := 1) (by omega)
        have c2 := HK.out.cellOn (i := 2) (by omega)
        have c3 := HK.out.cellOn (i := 3) (by omega)
        have c4 := HK.out.cellOn (i := 4) (by omega)
        have c5 := HK.out.cellOn (i := 5) (by omega)
        have c6 := HK.out.cellOn (i := 6) (by omega)
        have c7 := HK.out.cellOn (i := 7) (by omega)
        have d0 := HK.out.cellFr (i := 0) (by omega)
        have d1 := HK.out.cellFr (i := 1) (by omega)
        have d2 := HK.out.cellFr (i := 2) (by omega)
        have d3 := HK.out.cellFr (i := 3) (by omega)
        have d4 := HK.out.cellFr (i := 4) (by omega)
        have d5 := HK.out.cellFr (i := 5) (by omega)
        have d6 := HK.out.cellFr (i := 6) (by omega)
        have d7 := HK.out.cellFr (i := 7) (by omega)
        have f0 := HK.out.frozen 8
        have f1 := HK.out.frozen 9
        have f2 := HK.out.frozen 10
        have f3 := HK.out.frozen 11
        have f4 := HK.out.frozen 12
        have f5 := HK.out.frozen 13
        have f6 := HK.out.frozen 14
        have f7 := HK.out.frozen 15
        dsimp only at c0 c1 c2 c3 c4 c5 c6 c7 d0 d1 d2 d3 d4 d5 d6 d7
        clear hon HA
        go_wp2
        go_ret
        first | exact ⟨_, rfl, ⟨_, ⟨(sk_copy HK.out).congr HE.out HE.out rfl, GoodS.new l⟩⟩, below_copy HB.out (Nat.le_succ _) _ _ _ _ _ _ _ _⟩ | exact ⟨_, _, rfl, ⟨(sk_copy HK.out).congr HE.out HE.out rfl, GoodS.new l⟩, below_copy HB.out (Nat.le_succ _) _ _ _ _ _ _ _ _⟩
end Go.Proofs.Ytkdonlhdjgpjiaa
