/-
  Contracts of the model: saw, Held, Sold, Sent, Clean; of one that there isn't.
-/
import Derived.Test.YtdoejppnifoebaaMdlU
namespace Go.Proofs.Ytdoejppnifoebaa
open Go.ChangeShapes Go.WideShapes Go.ChangeAt Go.RowKit

section
variable {B : Nat} {w0 w w' : World} {p : Nat} {v : Ml}
set_option maxHeartbeats 1000000 in
theorem Md.saw (k : Md w0 w p v) (x1 x2 : Int) {b : Bool} (hb : decide ((x1, x2) ∈ v.l) = b) : Calls Try.prog 29 #[.pointer (some ⟨p, 0, none⟩), .int .i64 x1, .int .i64 x2] w fun e w' => e = .returned (.bool b) ∧ Below w.heap.size w w' := by
  obtain ⟨g, ⟨a, c, ra, rc, h⟩, hB⟩ := k
  obtain ⟨n, hn⟩ : ∃ n, v.l.length = n := ⟨_, rfl⟩
  have hn9 := g.len
  rw [hn] at hn9
  have CT := contains_act (c := rc) hn (by omega) h.ro x1 x2
  rw [hb] at CT
  obtain ⟨-, c6⟩ := h.cells
  rw [hn] at c6
  clear h g hB hn hb
  go_enter Try.func29, Try.ntmps29
  go_wp2_with (go_at_call 42; refine CT.mono ?_; clear CT; rintro e w1 ⟨rfl, hb⟩; have HB := hide hb; clear hb)
  go_ret
  exact ⟨rfl, HB.out⟩
theorem Md.sold (k : Md w0 w p v) : Calls Try.prog 16 #[.pointer (some ⟨p, 0, none⟩)] w fun e w' => e = .returned (.bool v.s.yes) ∧ Below w.heap.size w w' := by
  have S := k.saw 13 0 k.1.saw13
  clear k
  go_enter Try.func16, Try.ntmps16
  go_wp2_with (go_at_call 29; refine S.mono ?_; clear S; rintro e w1 ⟨rfl, hb⟩; have HB := hide hb; clear hb)
  go_ret
  exact ⟨rfl, HB.out⟩
theorem Md.sent (k : Md w0 w p v) : Calls Try.prog 17 #[.pointer (some ⟨p, 0, none⟩)] w fun e w' => e = .returned (.bool v.s.ship) ∧ Below w.heap.size w w' := by
  have S := k.saw 16 0 k.1.saw16
  clear k
  go_enter Try.func17, Try.ntmps17
  go_wp2_with (go_at_call 29; refine S.mono ?_; clear S; rintro e w1 ⟨rfl, hb⟩; have HB := hide hb; clear hb)
  go_ret
  exact ⟨rfl, HB.out⟩
set_option maxRecDepth 100000 in
set_option maxHeartbeats 4000000 in
theorem Md.held (k : Md w0 w p v) (s : Int) {n : Int} (hn : heldF v s = n) : Calls Try.prog 13 #[.pointer (some ⟨p, 0, none⟩), .int .i64 s] w fun e w' => e = .returned (.int .i64 n) ∧ Below w.heap.size w w' := by
  obtain ⟨g, ⟨a, c, ra, rc, h⟩, hB⟩ := id k
  have h3 := may_three g.m
  have AT := at_any v.o a c s w h.st (by omega)
  obtain ⟨⟨c0, c1, c2, c3, c4, c5⟩, -⟩ := h.cells
  have SW : Hid (∀ u, Below w.heap.size w u → ∀ (x1 x2 : Int) (b : Bool), decide ((x1, x2) ∈ v.l) = b → Calls Try.prog 29 #[.pointer (some ⟨p, 0, none⟩), .int .i64 x1, .int .i64 x2] u fun e w' => e = .returned (.bool b) ∧ Below u.heap.size u w') := fun u hu x1 x2 b hb => (k.on hu).saw x1 x2 hb
  unfold heldF at hn
  rcases atF_cases v.o.steps s with ⟨hat, -⟩ | ⟨j, hj, hat, hst, -⟩
  · rw [hat] at AT hn
    rw [if_pos (by decide)] at hn
    subst hn
    clear h g hB k SW
    go_enter Try.func13, Try.ntmps13
    go_wp2_with (go_at_call 28; refine AT.mono ?_; clear AT; rintro e w1 ⟨rfl, hb⟩; have HB := hide hb; clear hb)
    go_ret
    exact ⟨rfl, HB.out⟩
  rw [hat] at AT hn
  rw [if_neg (by omega), Int.toNat_natCast] at hn
  have q0 : ¬ ((j : Int) < 0) := by omega
  have e2 := g.saw2 (j := j)
  have e5 := g.saw5 (j := j)
  by_cases hd : j < v.s.d
  rotate_left
  · have hu := g.ok.1
    rw [if_neg (by omega)] at hn
    subst hn
    rw [show decide (j < v.s.d) = false by simpa using hd] at e2
    clear h g hB e5
    go_enter Try.func13, Try.ntmps13
    go_wp2_with (first
      | (go_at_call 28; refine AT.mono ?_; clear AT; rintro e w1 ⟨rfl, hb⟩; have HB := hide hb; have S1 := SW.out w1 hb 2 j _ e2; clear hb)
      | (go_at_call 29; refine S1.mono ?_; clear S1; rintro e w2 ⟨rfl, hb⟩; have HB2 := hide (bel_on' HB.out hb); clear hb))
    go_ret
    exact ⟨rfl, HB2.out⟩
  rw [show decide (j < v.s.d) = true by simpa using hd] at e2
  by_cases hu : v.s.u ≤ j
  · rw [if_neg (by omega)] at hn
    subst hn
    rw [show decide (v.s.u ≤ j ∧ j < v.s.d) = true by simpa using ⟨hu, hd⟩] at e5
    clear h g hB
    go_enter Try.func13, Try.ntmps13
    go_wp2_with (first
      | (go_at_call 28; refine AT.mono ?_; clear AT; rintro e w1 ⟨rfl, hb⟩; have HB := hide hb; have S1 := SW.out w1 hb 2 j _ e2; clear hb)
      | (go_at_call 29; refine S1.mono ?_; clear S1; rintro e w2 ⟨rfl, hb⟩; have HB2 := hide (bel_on' HB.out hb); have S2 := SW.out w2 HB2.out 5 j _ e5; clear hb)
      | (go_at_call 29; refine S2.mono ?_; clear S2; rintro e w3 ⟨rfl, hb⟩; have HB3 := hide (bel_on' HB2.out hb); clear hb))
    go_ret
    exact ⟨rfl, HB3.out⟩
  rw [if_pos (by omega)] at hn
  rw [show decide (v.s.u ≤ j ∧ j < v.s.d) = false by simp [hu]] at e5
  have CEL : Hid (∀ u, Below w.heap.size w u → ∃ b off, a = some ⟨b, off, none⟩ ∧ u.cell? ⟨p, 5, none⟩ = some (.slice a v.o.steps.length c) ∧ u.cell? ⟨b, off + j * 2 + 1, none⟩ = some (.int .i64 n)) := fun u hu => by
    obtain ⟨b, off, e1, -, e3⟩ := (h.on hu).st.at hj
    rw [hn] at e3
    exact ⟨b, off, e1, (h.on hu).cells.1.2.2.2.2.2, e3⟩
  have q1 : (j : Int) < (v.o.steps.length : Int) := by omega
  have q2 : (0 : Int) ≤ (j : Int) := by omega
  clear h g hB k hn hst hat hu hd
  go_enter Try.func13, Try.ntmps13
  go_wp2_with (first
    | (go_at_call 28; refine AT.mono ?_; clear AT; rintro e w1 ⟨rfl, hb⟩; have HB := hide hb; have S1 := SW.out w1 hb 2 j _ e2; clear hb)
    | (go_at_call 29; refine S1.mono ?_; clear S1; rintro e w2 ⟨rfl, hb⟩; have HB2 := hide (bel_on' HB.out hb); have S2 := SW.out w2 HB2.out 5 j _ e5; clear hb)
    | (go_at_call 29; refine S2.mono ?_; clear S2; rintro e w3 ⟨rfl, hb⟩; have HB3 := hide (bel_on' HB2.out hb); clear hb c0 c1 c2 c3 c4 c5; obtain ⟨bb, off, rfl, c5, cj⟩ := CEL.out w3 HB3.out))
  go_ret
  exact ⟨rfl, HB3.out⟩
end
/-! One that there isn't. -/
theorem nilm_saw (x1 x2 : Int) (w : World) : Calls Try.prog 29 #[.pointer none, .int .i64 x1, .int .i64 x2] w fun e w' => e = .returned (.bool false) ∧ Below w.heap.size w w' := by
  go_enter Try.func29, Try.ntmps29
  go_wp2
  go_ret
  exact ⟨rfl, Below.refl _ _⟩
theorem nilm_sold (w : World) : Calls Try.prog 16 #[.pointer none] w fun e w' => e = .returned (.bool false) ∧ Below w.heap.size w w' := by
  have S := nilm_saw 13 0 w
  go_enter Try.func16, Try.ntmps16
  go_wp2_with (go_at_call 29; refine S.mono ?_; clear S; rintro e w1 ⟨rfl, hb⟩; have HB := hide hb; clear hb)
  go_ret
  exact ⟨rfl, HB.out⟩
theorem nilm_sent (w : World) : Calls Try.prog 17 #[.pointer none] w fun e w' => e = .returned (.bool false) ∧ Below w.heap.size w w' := by
  have S := nilm_saw 16 0 w
  go_enter Try.func17, Try.ntmps17
  go_wp2_with (go_at_call 29; refine S.mono ?_; clear S; rintro e w1 ⟨rfl, hb⟩; have HB := hide hb; clear hb)
  go_ret
  exact ⟨rfl, HB.out⟩
theorem nilm_held (s : Int) (w : World) : Calls Try.prog 13 #[.pointer none, .int .i64 s] w fun e w' => e = .returned (.int .i64 0) ∧ Below w.heap.size w w' := by
  go_enter Try.func13, Try.ntmps13
  go_wp2
  go_ret
  exact ⟨rfl, Below.refl _ _⟩
theorem nilm_seen (w : World) : Calls Try.prog 15 #[.pointer none] w fun e w' => e = .returned (.slice none 0 0) ∧ Below w.heap.size w w' := by
  go_enter Try.func15, Try.ntmps15
  go_wp2
  go_ret
  exact ⟨rfl, Below.refl _ _⟩
theorem nilm_see (x1 x2 : Int) (w : World) : Calls Try.prog 12 #[.pointer none, .agg #[.int .i64 x1, .int .i64 x2]] w fun e w' => e = .returned (.bool false) ∧ Below w.heap.size w w' := by
  have HB : Hid (Below w.heap.size w (w.alloc (.cells #[.int .i64 x1, .int .i64 x2] 33))) := (Below.refl _ _).alloc (Nat.le_refl _) _
  go_enter Try.func12, Try.ntmps12
  go_wp2
  go_ret
  exact ⟨rfl, HB.out⟩
theorem nilm_clean (w : World) : Calls Try.prog 18 #[.pointer none] w fun e w' => e = .returned (.bool false) ∧ Below w.heap.size w w' := by
  have hb0 : Below w.heap.size w (w.alloc (.cells #[.pointer none] 27)) := (Below.refl _ _).alloc (Nat.le_refl _) _
  have S := nilm_saw 14 0 (w.alloc (.cells #[.pointer none] 27))
  have H0 := hide hb0
  clear hb0
  go_enter Try.func18, Try.ntmps18
  go_wp2_with (go_at_call 29; refine S.mono ?_; clear S; rintro e w1 ⟨rfl, hb⟩; have HB := hide (bel_on' H0.out hb); clear hb)
  go_ret
  exact ⟨rfl, HB.out⟩
end Go.Proofs.Ytdoejppnifoebaa
