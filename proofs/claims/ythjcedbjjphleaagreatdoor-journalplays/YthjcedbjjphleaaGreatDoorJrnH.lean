/-
  Lines and torn lines; Recover of one that is up; the law's awake.
-/
import Derived.Test.YthjcedbjjphleaaGreatDoorJrnG
import Derived.Test.YthjcedbjjphleaaGreatDoorEntA
import Derived.Test.YthjcedbjjphleaaGreatDoorEntTrnM
import Derived.Deep.RegionHeld3
namespace Go.Proofs.YthjcedbjjphleaaGreatDoor
open Go.ChangeShapes Go.WideShapes Go.ChangeAt Go.RowKit

theorem ok_line {k : ByteArray} {id : Int} {l : List Int} (h : mayB k id l = true) : Ok (lineV k id l) := by
  unfold lineV
  rw [if_pos h]
  exact ⟨k, id, l, parse_line h⟩
theorem ok_is {s : ByteArray} (h : Ok s) : ∃ k id l, mayB k id l = true ∧ s = sign (txt k id l) := by
  obtain ⟨k, id, l, hp⟩ := h
  rcases hp with ⟨_, h2, _, h4, h5⟩ | ⟨h1, _⟩
  · refine ⟨k, id, l, h2, ?_⟩
    have := sign_read s h4
    rw [h5, beq_iff_eq, ByteArray.toList_eq, ByteArray.toList_eq] at this
    exact (bytes_ext this).symm
  · exact absurd rfl h1
theorem not_ok_of {s : ByteArray} (h : readB s = false) : ¬ Ok s := by
  rintro ⟨k, id, l, ⟨_, _, _, h4, _⟩ | ⟨h1, _⟩⟩
  · rw [h] at h4; cases h4
  · exact h1 rfl
theorem torn_not {s : ByteArray} (h : Ok s) (n : Nat) (hn : n < s.size) : ¬ Ok (s.extract 0 n) := by
  obtain ⟨k, id, l, hm, rfl⟩ := ok_is h
  exact not_ok_of (torn_none hm n hn)

theorem whole_all : ∀ (L : List ByteArray), (∀ x ∈ L, Ok x) → (wholeD fun s => Classical.propDecidable (Ok s)) L = L.length
  | [], _ => rfl
  | s :: r, h => by
    unfold wholeD
    rw [if_pos (h s (List.mem_cons_self ..)), whole_all r (fun x hx => h x (List.mem_cons_of_mem _ hx))]
    rfl
open Classical in
theorem whole_cons (s : ByteArray) (r : List ByteArray) (h : Ok s) : (wholeD fun s => Classical.propDecidable (Ok s)) (s :: r) = (wholeD fun s => Classical.propDecidable (Ok s)) r + 1 := by
  show (if Ok s then (wholeD fun s => Classical.propDecidable (Ok s)) r + 1 else 0) = _
  rw [if_pos h]
open Classical in
theorem whole_cons_not (s : ByteArray) (r : List ByteArray) (h : ¬ Ok s) : (wholeD fun s => Classical.propDecidable (Ok s)) (s :: r) = 0 := by
  show (if Ok s then (wholeD fun s => Classical.propDecidable (Ok s)) r + 1 else 0) = _
  rw [if_neg h]
theorem whole_app : ∀ (L R : List ByteArray), (∀ x ∈ L, Ok x) → (wholeD fun s => Classical.propDecidable (Ok s)) (L ++ R) = L.length + (wholeD fun s => Classical.propDecidable (Ok s)) R
  | [], R, _ => by simp
  | s :: r, R, h => by
    show (wholeD fun s => Classical.propDecidable (Ok s)) (s :: (r ++ R)) = _
    rw [whole_cons _ _ (h s (List.mem_cons_self ..)), whole_app r R (fun x hx => h x (List.mem_cons_of_mem _ hx))]
    show r.length + (wholeD fun s => Classical.propDecidable (Ok s)) R + 1 = r.length + 1 + (wholeD fun s => Classical.propDecidable (Ok s)) R
    omega

theorem keptN_le {L : List ByteArray} {sure : Nat} (hs : sure ≤ L.length) (stay : Int) : keptN L sure stay ≤ L.length ∧ sure ≤ keptN L sure stay := by unfold keptN; omega

/-- Of what a crash leaves just the lines that it leaves whole are entries. -/
theorem whole_crash {L : List ByteArray} (hL : ∀ x ∈ L, Ok x) {sure : Nat} (hs : sure ≤ L.length) (hz : ∀ x ∈ L, 1 ≤ x.size) (stay torn : Int) :
    (wholeD fun s => Classical.propDecidable (Ok s)) (crashL L sure stay torn) = keptN L sure stay ∧ (crashL L sure stay torn).take (keptN L sure stay) = L.take (keptN L sure stay) := by
  obtain ⟨h1, h2⟩ := keptN_le hs stay
  unfold crashL
  generalize keptN L sure stay = K at h1 h2 ⊢
  by_cases hK : K = L.length
  · rw [if_pos hK, hK]
    exact ⟨whole_all L hL, rfl⟩
  · rw [if_neg hK]
    have hlt : K < L.length := by omega
    have hT : ∀ x ∈ L.take K, Ok x := fun x hx => hL x (List.mem_of_mem_take hx)
    have hm : L.getD K ByteArray.empty ∈ L := by simp [List.getD, hlt]
    have hlen : (L.take K).length = K := by simp; omega
    generalize L.getD K ByteArray.empty = X at hm ⊢
    constructor
    · rw [whole_app _ _ hT, hlen]
      by_cases h0 : tearN X torn = 0
      · rw [if_pos h0]; rfl
      · rw [if_neg h0]
        rw [whole_cons_not _ _ (torn_not (hL X hm) _ (by have := hz X hm; unfold tearN; omega))]; rfl
    · rw [List.take_append_of_le_length (by omega), List.take_of_length_le (by omega)]
theorem crash_len {L : List ByteArray} {sure : Nat} (stay torn : Int) (hs : sure ≤ L.length) : (crashL L sure stay torn).length ≤ L.length := by
  obtain ⟨h1, h2⟩ := keptN_le hs stay
  unfold crashL
  generalize keptN L sure stay = K at h1 h2 ⊢
  split
  · exact Nat.le_refl _
  · simp; split <;> simp <;> omega

theorem recover_up {B : Nat} {w : World} {p : Nat} {v : Value} {room : Int} {L : List ByteArray} {sure : Nat} (h : Jr B w p v room L sure false) :
    Calls Tryz.prog 14 #[.pointer (some ⟨p, 0, none⟩)] w fun e w' => e = .returned (.int .i64 0) ∧ Below w.heap.size w w' := by
  obtain ⟨⟨c0, c1, c2, c3⟩, f1, f2, f3⟩ := h.cells
  go_enter Tryz.func14, Tryz.ntmps14
  go_wp2
  go_ret
  exact ⟨rfl, Below.refl _ _⟩

theorem three {X : ByteArray} {P : ByteArray → Prop} (h : P X) : ∀ x ∈ [X, X, X], P x := by simp [h]
theorem may_a1 : mayB ⟨#[97]⟩ 1 [] = true := by decide

set_option maxRecDepth 100000 in
set_option maxHeartbeats 2000000 in
theorem jawake_any (w : World) (hg : Gl w) : Calls Tryz.prog 5 #[] w fun e w' => e = .returned (.bool true) ∧ Below w.heap.size w w' := by
  obtain ⟨W, hW⟩ : ∃ W, W = (w.alloc (.cells #[.int .i64 9, .slice none 0 0, .int .i64 0, .bool false] 51)).alloc (.cells #[.string ⟨#[97]⟩, .int .i64 1, .slice none 0 0] 32) := ⟨_, rfl⟩
  have J0 := (Jr.new w w.heap.size (Nat.le_refl _) 9 (by omega) (by omega)).on ((Below.refl _ _).alloc (Nat.le_refl _) (.cells #[.string ⟨#[97]⟩, .int .i64 1, .slice none 0 0] 32))
  rw [← hW] at J0
  have HB : Hid (Below w.heap.size w W) := by show Below w.heap.size w W; rw [hW]; exact ((Below.refl _ _).alloc (Nat.le_refl _) _).alloc (by simp) _
  have HJ0 : Hid (Jr w.heap.size W w.heap.size (.slice none 0 0) 9 [] 0 false) := J0
  have HG : Hid (Gl w) := hg
  have HN := new_any 9 w
  rw [show roomV 9 = 9 from rfl] at HN
  have HWW : Hid (W = (w.alloc (.cells #[.int .i64 9, .slice none 0 0, .int .i64 0, .bool false] 51)).alloc (.cells #[.string ⟨#[97]⟩, .int .i64 1, .slice none 0 0] 32)) := hW
  clear J0 hg hW
  obtain ⟨X, hX⟩ : ∃ X, lineV ⟨#[97]⟩ 1 [] = X := ⟨_, rfl⟩
  have HOX : Hid (Ok X) := by show Ok X; rw [← hX]; exact ok_line may_a1
  have A : ∀ (u : World) (v : Value) (L : List ByteArray) (s : Nat), L.length < 9 → Jr w.heap.size u w.heap.size v 9 L s false → Below w.heap.size w u → Calls Tryz.prog 8 #[.pointer (some ⟨w.heap.size, 0, none⟩), .agg #[.string ⟨#[97]⟩, .int .i64 1, .slice none 0 0]] u fun e w' =>
      ∃ v', e = .returned (.int .i64 0) ∧ Jr w.heap.size w' w.heap.size v' 9 (L ++ [X]) s false ∧ Off w.heap.size v v' u w' := fun u v L s hl hj hb => by
    have h := add_any hj ⟨#[97]⟩ 1 none [] 0 (by show 1 ≤ maxLen; unfold maxLen; omega) (.inl rfl) (by simp) (HG.out.on hb)
    have e0 : addE 9 L false ⟨#[97]⟩ 1 [] = 0 := by unfold addE; rw [if_neg (by decide), if_pos may_a1, if_neg (by omega)]
    have e1 : addL 9 L false ⟨#[97]⟩ 1 [] = L ++ [X] := by unfold addL; rw [if_pos e0, hX]
    rw [e0, e1] at h
    exact h
  have HA : Hid _ := A
  have C0 : W.cell? ⟨w.heap.size + 1, 0, none⟩ = some (.string ⟨#[97]⟩) := by rw [HWW.out]; simp
  have C1 : W.cell? ⟨w.heap.size + 1, 1, none⟩ = some (.int .i64 1) := by rw [HWW.out]; simp
  have C2 : W.cell? ⟨w.heap.size + 1, 2, none⟩ = some (.slice none 0 0) := by rw [HWW.out]; simp
  have kc : ∀ (u : World) (v : Value), Off w.heap.size (.slice none 0 0) v W u → (u.cell? ⟨w.heap.size + 1, 0, none⟩ = some (.string ⟨#[97]⟩) ∧ u.cell? ⟨w.heap.size + 1, 1, none⟩ = some (.int .i64 1) ∧ u.cell? ⟨w.heap.size + 1, 2, none⟩ = some (.slice none 0 0)) ∧ Below w.heap.size w u := fun u v ho =>
    ⟨⟨ho.cell C0 (by show w.heap.size + 1 ≠ _; omega) (by simp [Value.ownBlock]), ho.cell C1 (by show w.heap.size + 1 ≠ _; omega) (by simp [Value.ownBlock]), ho.cell C2 (by show w.heap.size + 1 ≠ _; omega) (by simp [Value.ownBlock])⟩, HB.out.trans (HJ0.out.bel ho)⟩
  have HKC : Hid _ := kc
  have A1 := A W.drew (.slice none 0 0) [] 0 (by simp) (HJ0.out.on (Below.refl _ _).drew) (bel_on' HB.out (Below.refl _ _).drew)
  have HO1 : Hid (Off w.heap.size (.slice none 0 0) (.slice none 0 0) W W.drew) := Off.of_below (Below.refl _ _).drew
  clear A hX kc
  go_enter Tryz.func5, Tryz.ntmps5
  go_wp2_with fail
  refine HN.mono ?_
  rintro e u1 ⟨rfl, rfl⟩
  clear HN
  go_wp2_with fail
  rw [← HWW.out]
  go_region_held3 (fun w' => w'.cell? ⟨w.heap.size + 1, 0, none⟩ = some (.string ⟨#[97]⟩) ∧ w'.cell? ⟨w.heap.size + 1, 1, none⟩ = some (.int .i64 1) ∧ w'.cell? ⟨w.heap.size + 1, 2, none⟩ = some (.slice none 0 0)) (go_keep) (first
    | (go_at_call 8; refine A1.mono ?_; clear A1; rintro e u3 ⟨v3, rfl, hj3, ho3⟩; have HO3 := hide (HO1.out.trans ho3); have HJ3 := hide (hj3); obtain ⟨⟨d0, d1, d2⟩, hb3⟩ := HKC.out u3 v3 HO3.out; have A2 := HA.out u3 v3 [X] 0 (by simp) hj3 hb3; clear hj3 ho3 hb3)
    | (go_at_call 8; refine A2.mono ?_; clear A2; rintro e u4 ⟨v4, rfl, hj4, ho4⟩; have HO4 := hide (HO3.out.trans ho4); have HJ4 := hide (hj4); obtain ⟨⟨d0, d1, d2⟩, hb4⟩ := HKC.out u4 v4 HO4.out; clear hj4 ho4 hb4)
    | (go_at_call 10; refine (sync_up HJ4.out).mono ?_; rintro e u5 ⟨rfl, hj5, ho5⟩; have HO5 := hide (HO4.out.trans ho5); have HJ5 := hide (hj5); obtain ⟨⟨d0, d1, d2⟩, hb5⟩ := HKC.out u5 v4 HO5.out; clear hj5 ho5 hb5))
  obtain ⟨⟨d0', d1', d2'⟩, hb5⟩ := HKC.out u5 v4 HO5.out
  have A6 := HA.out u5 v4 [X, X] 2 (by simp) HJ5.out hb5
  clear hb5 d0' d1' d2'
  go_wp2_with fail
  refine A6.mono ?_
  rintro e u6 ⟨v6, rfl, hj6, ho6⟩
  have HO6 := hide (HO5.out.trans ho6)
  have HJ6 : Hid (Jr w.heap.size u6 w.heap.size v6 9 [X, X, X] 2 false) := hj6
  clear hj6 ho6 A6 d0 d1 d2
  go_wp2_with fail
  refine (crash_up HJ6.out (by simp) 0 3).mono ?_
  rintro e u7 ⟨⟨x7, rfl⟩, v7, hj7, ho7⟩
  obtain ⟨Y, hY⟩ : ∃ Y, crashL [X, X, X] 2 0 3 = [X, X, Y] := ⟨X.extract 0 (tearN X 3), by
    obtain ⟨k, id, l, hm, e⟩ := ok_is HOX.out
    have hs := sign_size (txt k id l)
    rw [← e] at hs
    have ht : ¬ tearN X 3 = 0 := by unfold tearN; omega
    unfold crashL keptN
    simp [ht]⟩
  have hw7 := whole_crash (L := [X, X, X]) (three HOX.out) (sure := 2) (by simp) (fun x hx => (HJ6.out.2.2.2.2.2 x hx).1) 0 3
  rw [show keptN [X, X, X] 2 0 = 2 from rfl, hY] at hw7
  rw [hY] at hj7
  have HO7 := hide (HO6.out.trans ho7)
  have HJ7 : Hid (Jr w.heap.size u7 w.heap.size v7 9 [X, X, Y] 2 true) := hj7
  have R7 := recover_down HG.out (HKC.out u7 v7 HO7.out).2 hj7
  rw [hw7.1] at R7
  clear hj7 ho7 hw7 hY
  go_wp2_with fail
  refine R7.mono ?_
  rintro e u8 ⟨rfl, v8, hj8, ho8⟩
  have HO8 := hide (HO7.out.trans ho8)
  have HJ8 : Hid (Jr w.heap.size u8 w.heap.size v8 9 [X, X] 2 false) := hj8
  clear hj8 ho8 R7
  go_wp2_with fail
  refine (lines_any HJ8.out).mono ?_
  rintro e u9 ⟨a9, c9, rfl, -, hb9⟩
  have HJ9 : Hid (Jr w.heap.size u9 w.heap.size v8 9 [X, X] 2 false) := HJ8.out.on hb9
  have HO9 := hide (HO8.out.trans (Off.of_below hb9))
  clear hb9
  go_wp2_with fail
  refine (sure_any HJ9.out).mono ?_
  rintro e u10 ⟨rfl, hb10⟩
  have HO10 := hide (HO9.out.trans (Off.of_below hb10))
  clear hb10
  go_wp2
  go_ret
  exact ⟨rfl, (HKC.out u10 v8 HO10.out).2⟩
end Go.Proofs.YthjcedbjjphleaaGreatDoor
