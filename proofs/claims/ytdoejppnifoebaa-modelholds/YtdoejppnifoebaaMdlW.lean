/-
  Contract of the model's Clean; the law's awake.
-/
import Derived.Test.YtdoejppnifoebaaMdlV
namespace Go.Proofs.Ytdoejppnifoebaa
open Go.ChangeShapes Go.WideShapes Go.ChangeAt Go.RowKit

set_option maxHeartbeats 2000000 in
theorem indexf_steps {w : World} {a : Option Addr} {c n bx : Nat} {l : List (Int × Int)} (hn : l.length = n) (hl : n ≤ 1000) (ha : Sts w a l) (P : Nat → Bool)
    (hp : ∀ W, Below w.heap.size w W → ∀ j, j < n → Calls Try.prog 32 #[.agg #[.int .i64 (stAt l j).1, .int .i64 (stAt l j).2], .pointer (some ⟨bx, 0, none⟩)] W fun e w' => e = .returned (.bool (P j)) ∧ Below W.heap.size W w') :
    Calls Try.prog 43 #[.slice a n c, .func (.func 32) #[] #[.pointer (some ⟨bx, 0, none⟩)]] w fun e w' => (∃ k : Int, e = .returned (.int .i64 k) ∧ (0 ≤ k ↔ ∃ j, j < n ∧ P j = true)) ∧ Below w.heap.size w w' := by
  have eg : ∀ args w, (callFunc 32 args).run Try.prog w = .ok (.enter 32 args) w := enters_of Try.func32 (by kernel_rfl) rfl
  have HN := hide hn
  have HA := hide ha
  have HP := hide hp
  clear hn ha hp
  go_enter Try.func43, Try.ntmps43
  go_wp2_with fail
  go_loopw [8] (fun iv wr => ∃ k : Nat, iv = .int .i64 k ∧ k ≤ n ∧ Hid (Below w.heap.size w wr) ∧ Hid (∀ j, j < k → P j = false)) (fun iv _ => n - (intOf iv).toNat)
  case atStart => exact ⟨0, rfl, Nat.zero_le _, Below.refl _ _, fun j h => absurd h (Nat.not_lt_zero _)⟩
  case round =>
    obtain ⟨k, rfl, hk, HR, HJ⟩ := hrel
    by_cases hlt : k < n
    rotate_left
    · have hq : ¬ (k : Int) < (n : Int) := by omega
      have HF : Hid ((0 : Int) ≤ -1 ↔ ∃ j, j < n ∧ P j = true) := by
        show _ ↔ _
        refine ⟨fun h => by omega, fun ⟨j, hj, e⟩ => ?_⟩
        rw [HJ.out j (by omega)] at e
        cases e
      go_wp2
      go_ret
      exact ⟨⟨_, rfl, HF.out⟩, HR.out⟩
    have hkl : k < l.length := by have := HN.out; omega
    have CP := HP.out wr HR.out k hlt
    obtain ⟨ba, oa, rfl, p1, p2⟩ := (HA.out.below HR.out).at hkl
    have hq : (k : Int) < (n : Int) := by omega
    obtain ⟨⟨y1, y2⟩, hy⟩ : ∃ x, x = stAt l k := ⟨_, rfl⟩
    rw [← hy] at p1 p2 CP
    simp only at p1 p2 CP
    clear hy hkl
    cases hP : P k
    · rw [hP] at CP
      have HJ2 : Hid (∀ j, j < k + 1 → P j = false) := fun j hj => by
        by_cases h : j < k
        · exact HJ.out j h
        · obtain rfl : j = k := by omega
          exact hP
      clear hP
      go_wp2_with (go_at_fn 32; refine CP.mono ?_; clear CP; rintro e w1 ⟨rfl, hb⟩; have HB1 := hide (bel_on' HR.out hb); clear hb)
      go_roundw
      case rel => exact ⟨k + 1, by go_num, by omega, HB1, HJ2⟩
      case measure => simp [intOf]; omega
    · rw [hP] at CP
      have HF : Hid ((0 : Int) ≤ (k : Int) ↔ ∃ j, j < n ∧ P j = true) := ⟨fun _ => ⟨k, hlt, hP⟩, fun _ => by omega⟩
      clear hP
      go_wp2_with (go_at_fn 32; refine CP.mono ?_; clear CP; rintro e w1 ⟨rfl, hb⟩; have HB1 := hide (bel_on' HR.out hb); clear hb)
      go_ret
      exact ⟨⟨_, rfl, HF.out⟩, HB1.out⟩
theorem containsf_steps {w : World} {a : Option Addr} {c n bx : Nat} {l : List (Int × Int)} (hn : l.length = n) (hl : n ≤ 1000) (ha : Sts w a l) (P : Nat → Bool)
    (hp : ∀ W, Below w.heap.size w W → ∀ j, j < n → Calls Try.prog 32 #[.agg #[.int .i64 (stAt l j).1, .int .i64 (stAt l j).2], .pointer (some ⟨bx, 0, none⟩)] W fun e w' => e = .returned (.bool (P j)) ∧ Below W.heap.size W w') {b : Bool} (hb : b = true ↔ ∃ j, j < n ∧ P j = true) :
    Calls Try.prog 31 #[.slice a n c, .func (.func 32) #[] #[.pointer (some ⟨bx, 0, none⟩)]] w fun e w' => e = .returned (.bool b) ∧ Below w.heap.size w w' := by
  have IX := indexf_steps (c := c) hn hl ha P hp
  have HF := hide hb
  clear hp ha hn hb
  go_enter Try.func31, Try.ntmps31
  go_wp2_with (go_at_call 43; refine IX.mono ?_; clear IX; rintro e w1 ⟨⟨k, rfl, hk⟩, hb⟩; have HK := hide hk; have HB1 := hide hb; clear hk hb)
  go_ret
  refine ⟨ret_bool ?_, HB1.out⟩
  have h1 := HK.out
  have h2 := HF.out
  rw [← h2] at h1
  cases b
  · simpa using h1
  · simpa using h1
section
variable {B : Nat} {w0 w w' : World} {p : Nat} {v : Ml}
set_option maxHeartbeats 1000000 in
theorem clean_step {bx : Nat} (k : Md w0 w p v) (hx : w.cell? ⟨bx, 0, none⟩ = some (.pointer (some ⟨p, 0, none⟩))) {j : Nat} (hj : j < v.o.steps.length) :
    Calls Try.prog 32 #[.agg #[.int .i64 (stAt v.o.steps j).1, .int .i64 (stAt v.o.steps j).2], .pointer (some ⟨bx, 0, none⟩)] w fun e w' => e = .returned (.bool (decide (j < v.s.u))) ∧ Below w.heap.size w w' := by
  obtain ⟨V, hV⟩ : ∃ V, V = w.alloc (.cells #[.int .i64 (stAt v.o.steps j).1, .int .i64 (stAt v.o.steps j).2] 39) := ⟨_, rfl⟩
  have hbV : Below w.heap.size w V := by rw [hV]; exact (Below.refl _ _).alloc (Nat.le_refl _) _
  obtain ⟨b0, -⟩ := two_of (u := V) (n := w.heap.size) (t := 39) (v0 := .int .i64 (stAt v.o.steps j).1) (v1 := .int .i64 (stAt v.o.steps j).2) (by rw [hV]; exact World.alloc_heap_new w _)
  have HL := (k.on hbV).held (stAt v.o.steps j).1 rfl
  have hx2 := cellL hx hbV
  have hg := held_pos k.1 hj
  have HB := hide hbV
  rw [hV] at b0 HL hx2 HB
  generalize heldF v (stAt v.o.steps j).1 = n at *
  generalize (stAt v.o.steps j).1 = y1 at *
  generalize (stAt v.o.steps j).2 = y2 at *
  rw [← hg]
  clear hg k hV hbV hx
  go_enter Try.func32, Try.ntmps32
  go_wp2_with (go_at_call 13; refine HL.mono ?_; clear HL; rintro e w1 ⟨rfl, hb⟩; have HB1 := hide (bel_on' HB.out hb); clear hb)
  go_ret
  exact ⟨rfl, HB1.out⟩
set_option maxRecDepth 100000 in
set_option maxHeartbeats 4000000 in
theorem Md.clean (k : Md w0 w p v) : Calls Try.prog 18 #[.pointer (some ⟨p, 0, none⟩)] w fun e w' => e = .returned (.bool (cleanF v)) ∧ Below w.heap.size w w' := by
  obtain ⟨V, hV⟩ : ∃ V, V = w.alloc (.cells #[.pointer (some ⟨p, 0, none⟩)] 27) := ⟨_, rfl⟩
  have hbV : Below w.heap.size w V := by rw [hV]; exact (Below.refl _ _).alloc (Nat.le_refl _) _
  have hx : V.cell? ⟨w.heap.size, 0, none⟩ = some (.pointer (some ⟨p, 0, none⟩)) := by rw [hV]; simp
  have kV := k.on hbV
  have S := kV.saw 14 0 k.1.saw14
  have CF : Hid (∀ u, Below V.heap.size V u → ∃ a c, u.cell? ⟨p, 5, none⟩ = some (.slice a v.o.steps.length c) ∧ u.cell? ⟨w.heap.size, 0, none⟩ = some (.pointer (some ⟨p, 0, none⟩)) ∧ Calls Try.prog 31 #[.slice a v.o.steps.length c, .func (.func 32) #[] #[.pointer (some ⟨w.heap.size, 0, none⟩)]] u fun e w' => e = .returned (.bool (decide (0 < v.s.u))) ∧ Below u.heap.size u w') := fun u hu => by
    have ku := kV.on hu
    have hxu := cellL hx hu
    obtain ⟨g, ⟨a, c, ra, rc, h⟩, hB⟩ := id ku
    have h3 := may_three g.m
    refine ⟨a, c, h.cells.1.2.2.2.2.2, hxu, containsf_steps rfl (by omega) h.st (fun j => decide (j < v.s.u)) (fun W hW j hj => clean_step (ku.on hW) (cellL hxu hW) hj) ?_⟩
    obtain ⟨k1, k2, -⟩ := g.ok
    constructor
    · intro e
      have e1 : 0 < v.s.u := by simpa using e
      exact ⟨0, by omega, by simpa using e1⟩
    · rintro ⟨j, hj, e⟩
      have e1 : j < v.s.u := by simpa using e
      simp
      omega
  have HB := hide hbV
  have HF : Hid (cleanF v = (v.s.no && !decide (0 < v.s.u))) := by
    show _ = _
    unfold cleanF
    congr 1
    by_cases h : v.s.u = 0
    · simp [h]
    · have : 0 < v.s.u := by omega
      simp [h, this]
  rw [HF.out]
  rw [hV] at S hx HB CF
  generalize decide (0 < v.s.u) = b at *
  generalize v.s.no = z at *
  clear k kV hbV hV
  cases z
  · go_enter Try.func18, Try.ntmps18
    go_wp2_with (go_at_call 29; refine S.mono ?_; clear S; rintro e w1 ⟨rfl, hb⟩; have HB1 := hide (bel_on' HB.out hb); clear hb)
    go_ret
    exact ⟨rfl, HB1.out⟩
  · go_enter Try.func18, Try.ntmps18
    go_wp2_with (first
      | (go_at_call 29; refine S.mono ?_; clear S; rintro e w1 ⟨rfl, hb⟩; have HB1 := hide (bel_on' HB.out hb); clear hx; obtain ⟨a, c, c5, hx, C1⟩ := CF.out w1 hb; clear hb)
      | (go_at_call 31; refine C1.mono ?_; clear C1; rintro e w2 ⟨rfl, hb⟩; have HB2 := hide (bel_on' HB1.out hb); clear hb))
    go_ret
    exact ⟨rfl, HB2.out⟩
end
end Go.Proofs.Ytdoejppnifoebaa
