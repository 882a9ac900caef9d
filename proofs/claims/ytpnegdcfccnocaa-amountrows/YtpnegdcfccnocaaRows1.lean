/-
  Contracts of the reference's Split and Sum (wharfingerref1): the row that splitL says; what sumV, sumE say.
-/
import Derived.Test.YtpnegdcfccnocaaSum
import Derived.Test.YtpnegdcfccnocaaRef
import Derived.Maps.AppendAt
namespace Go.Proofs.Ytpnegdcfccnocaa
open Go.ChangeShapes Go.WideShapes Go.ChangeAt Go.RowKit

theorem own_ints {w : World} {base : Nat} {v : Value} {n : Nat} {l : List Int} (h : w.ownsRow base 3 1 v n (l.map (Value.int .i64))) : ∃ a c, v = .slice a n c ∧ l.length = n ∧ Ints w a l := by
  have hc := fun g hg => h.cells (g := g) hg
  obtain ⟨hlen, h⟩ := id h
  rw [List.length_map, Nat.mul_one] at hlen
  rcases h with ⟨rfl, he⟩ | ⟨g, cap, cur, rfl, _⟩
  · subst he
    exact ⟨none, 0, rfl, hlen, .inl (List.eq_nil_of_length_eq_zero hlen)⟩
  · refine ⟨_, cap, rfl, hlen, .inr ⟨g, 0, rfl, fun i hi => ?_⟩⟩
    have := hc g rfl i (.int .i64 (l.getD i 0)) (by simp [List.getD, hi])
    have e : (⟨g, 0, none⟩ : Addr).add i = ⟨g, 0 + i, none⟩ := by cases i <;> simp [Addr.add]
    rw [← e]
    exact this

theorem one_cell (x : Int) : ∀ u ∈ [Value.int .i64 x], u.oneCell' = true := by intro u hu; simp at hu; subst hu; rfl

theorem splitL_snoc (a : Int) (n k : Nat) : ((List.range k).map (splitF a n)) ++ [splitF a n k] = (List.range (k + 1)).map (splitF a n) := by
  rw [List.range_succ, List.map_append]; rfl

def splitV (a : Int) (n k : Nat) : List Value := ((List.range k).map (splitF a n)).map (Value.int .i64)

theorem own_step {w1 : World} {base : Nat} {v' : Value} {a x : Int} {n k : Nat} (h : w1.ownsRow base 3 1 v' (k + 1) (splitV a n k ++ [.int .i64 x])) (hx : x = splitF a n k) :
    w1.ownsRow base 3 1 v' (k + 1) (splitV a n (k + 1)) := by
  rw [splitV, ← splitL_snoc, List.map_append, List.map_cons, List.map_nil, ← hx]
  exact h

set_option maxHeartbeats 1000000 in
theorem rsplit_yes (a : Int) (n : Nat) (w : World) (ha : may a = true) (hn1 : 1 ≤ n) (hn2 : n ≤ 64) :
    Calls Try.prog 24 #[.int .i64 a, .int .i64 (n : Int)] w fun e w' => ∃ v, e = .returned v ∧ w'.ownsRow w.heap.size 3 1 v n ((splitL a n).map (Value.int .i64)) ∧ Below w.heap.size w w' := by
  obtain ⟨ha1, ha2⟩ := may_iff.1 ha
  have hnz : (0 : Int) < n := by omega
  have q1 : 0 ≤ a / n := Int.ediv_nonneg ha1 (by omega)
  have q2 : a / n ≤ a := Int.ediv_le_self _ ha1
  have r1 : 0 ≤ a % n := Int.emod_nonneg _ (by omega)
  have r2 : a % n < n := Int.emod_lt_of_pos _ hnz
  obtain ⟨i0, hi, hz0, hz1, hz2⟩ := info_parts Try.infoInt
  go_enter Try.func24, Try.ntmps24
  go_wp2_with (go_at_call 18; refine (rmay_any _ _).mono ?_; rintro e w' ⟨rfl, rfl⟩)
  go_loopw [5, 20] (fun v i wr => ∃ k : Nat, k ≤ n ∧ i = .int .i64 k ∧ wr.ownsRow w.heap.size 3 1 v k (splitV a n k) ∧ Below w.heap.size w wr) (fun _ i _ => n - (intOf i).toNat)
  case atStart => exact ⟨0, Nat.zero_le _, rfl, World.ownsRow_nil _ _ _ _, Below.refl _ _⟩
  case round =>
    obtain ⟨k, hk, rfl, hown, hbel⟩ := hrel
    have hm1 : k + 1 ≤ maxLen := by unfold maxLen; omega
    have hm2 : (k + 1) * 8 ≤ 140737488355328 := by omega
    have hm3 : ∀ o, w.heap.size ≤ (wr.alloc o).heap.size := fun o => by have := hbel.size; simp; omega
    by_cases hlt : k < n
    · by_cases hr : (k : Int) < a % n
      · have hv : Hid (a / n + 1 = splitF a n k) := by show _ = _; simp [splitF, hr]
        go_wp2_with (at_builtin; refine wpList_append_own _ rfl _ _ 29 rfl w.heap.size 3 i0 (.int .i64 0) 1 8 Try.underlying29 hi hz0 hz1 hz2 rfl (by decide) _ _ _ rfl (hown.alloc _) ⟨wr.heap.size, 0, none⟩ 1 1 [.int .i64 (a / n + 1)] rfl rfl (cell_one_new _ _ _) (one_cell _) hm1 hm2 (hm3 _) ?_)
        intro v' w1 hown' hgrow _
        have hR := own_step hown' hv.out
        have hB := (hbel.alloc hbel.size _).grown hgrow (by have := hbel.size; simp; omega) (fun j hj => (hown.lt j hj).1)
        clear hown' hgrow hown hbel
        go_wp2
        go_roundw
        case rel => exact ⟨k + 1, by omega, by go_num, hR, hB⟩
        case measure => simp [intOf]; omega
      · have hv : Hid (a / n = splitF a n k) := by show _ = _; simp [splitF, hr]
        go_wp2_with (at_builtin; refine wpList_append_own _ rfl _ _ 29 rfl w.heap.size 3 i0 (.int .i64 0) 1 8 Try.underlying29 hi hz0 hz1 hz2 rfl (by decide) _ _ _ rfl (hown.alloc _) ⟨wr.heap.size, 0, none⟩ 1 1 [.int .i64 (a / n)] rfl rfl (cell_one_new _ _ _) (one_cell _) hm1 hm2 (hm3 _) ?_)
        intro v' w1 hown' hgrow _
        have hR := own_step hown' hv.out
        have hB := (hbel.alloc hbel.size _).grown hgrow (by have := hbel.size; simp; omega) (fun j hj => (hown.lt j hj).1)
        clear hown' hgrow hown hbel
        go_wp2
        go_roundw
        case rel => exact ⟨k + 1, by omega, by go_num, hR, hB⟩
        case measure => simp [intOf]; omega
    · obtain rfl : k = n := by omega
      go_wp2
      go_ret
      exact ⟨_, rfl, hown, hbel⟩

theorem rsplit_no (a n : Int) (w : World) (h : may a = false ∨ n < 1 ∨ 64 < n) :
    Calls Try.prog 24 #[.int .i64 a, .int .i64 n] w fun e w' => e = .returned (.slice none 0 0) ∧ w = w' := by
  by_cases ha : may a = false
  · go_enter Try.func24, Try.ntmps24
    go_wp2_with (go_at_call 18; refine (rmay_any _ _).mono ?_; rintro e w' ⟨rfl, rfl⟩)
    go_ret
    exact ⟨rfl, rfl⟩
  · have ha' : may a = true := by simpa using ha
    by_cases h1 : n < 1
    · go_enter Try.func24, Try.ntmps24
      go_wp2_with (go_at_call 18; refine (rmay_any _ _).mono ?_; rintro e w' ⟨rfl, rfl⟩)
      go_ret
      exact ⟨rfl, rfl⟩
    · have h2 : 64 < n := by rcases h with h | h | h; exact absurd h ha; exact absurd h h1; exact h
      clear h
      go_enter Try.func24, Try.ntmps24
      go_wp2_with (go_at_call 18; refine (rmay_any _ _).mono ?_; rintro e w' ⟨rfl, rfl⟩)
      go_ret
      exact ⟨rfl, rfl⟩

theorem addE_zero_iff {s x : Int} (h0 : 0 ≤ s) (h1 : s ≤ 1000000000) : addE s x = 0 ↔ (may x = true ∧ s + x ≤ 1000000000) := by
  have hs : may s = true := may_iff.2 ⟨h0, h1⟩
  by_cases hx : may x = true
  · by_cases hy : s + x ≤ 1000000000
    · simp [addE, hs, hx, hy]
    · simp [addE, hs, hx, hy]
  · simp [addE, hx]

set_option maxHeartbeats 400000 in
theorem rsum_any (a : Option Addr) (l : List Int) (ca : Nat) (w : World) (hl : l.length ≤ 4611686018427387904) (ha : Ints w a l) :
    Calls Try.prog 21 #[.slice a l.length ca] w fun e w' => e = .returned (.tuple #[.int .i64 (sumV l), .int .i64 (sumE l)]) ∧ w = w' := by
  go_enter Try.func21, Try.ntmps21
  go_wp2
  go_loop [4, 9] (fun s i => ∃ k : Nat, ∃ S : Int, k ≤ l.length ∧ i = .int .i64 k ∧ s = .int .i64 S ∧ 0 ≤ S ∧ S ≤ 1000000000 ∧ Hid (sumGo 0 l = sumGo S (l.drop k))) (fun _ i => l.length - (intOf i).toNat)
  case atStart => exact ⟨0, 0, Nat.zero_le _, rfl, rfl, by omega, by omega, rfl⟩
  case round =>
    obtain ⟨k, s, hk, rfl, rfl, hs0, hs1, HS⟩ := hrel
    by_cases hlt : k < l.length
    · rcases ha with ha | ⟨ba, oa, rfl, hca⟩
      · subst ha; simp at hlt
      have h1 := hca k hlt
      clear hca
      obtain ⟨x, hx⟩ : ∃ x, x = l.getD k 0 := ⟨_, rfl⟩
      rw [← hx] at h1
      have HX : Hid (x = l.getD k 0) := hx
      clear hx
      by_cases hm : may x = true
      · obtain ⟨hx0, hx1⟩ := may_iff.1 hm
        by_cases hy : s + x ≤ 1000000000
        · have he : addE s x = 0 := (addE_zero_iff hs0 hs1).2 ⟨hm, hy⟩
          have hv : addV s x = s + x := by simp [addV, may_iff.2 ⟨hs0, hs1⟩, hm, hy]
          have HS' : Hid (sumGo 0 l = sumGo (s + x) (l.drop (k + 1))) := by
            have h2 := HS.out
            rw [sumGo_yes hlt (by rw [← HX.out]; exact he), ← HX.out, hv] at h2
            exact h2
          clear he hv
          go_wp2_with (go_at_call 18; refine (rmay_any _ _).mono ?_; rintro e w' ⟨rfl, rfl⟩)
          go_round
          case rel => exact ⟨k + 1, s + x, by omega, by go_num, rfl, by omega, by omega, HS'⟩
          case measure => simp [intOf]; omega
        · have he : addE s x = 4 := by simp [addE, may_iff.2 ⟨hs0, hs1⟩, hm, hy]
          have HS' : Hid (sumGo 0 l = (0, 4)) := by
            have h2 := HS.out
            rw [sumGo_no hlt (by rw [← HX.out, he]; decide), ← HX.out, he] at h2
            exact h2
          clear he
          go_wp2_with (go_at_call 18; refine (rmay_any _ _).mono ?_; rintro e w' ⟨rfl, rfl⟩)
          go_ret2
          exact ⟨ret_two (by show 0 = sumV l; rw [sumV, HS'.out]) (by show 4 = sumE l; rw [sumE, HS'.out]), rfl⟩
      · have hm' : may x = false := by simpa using hm
        have he : addE s x = 1 := by simp [addE, hm]
        have HS' : Hid (sumGo 0 l = (0, 1)) := by
          have h2 := HS.out
          rw [sumGo_no hlt (by rw [← HX.out, he]; decide), ← HX.out, he] at h2
          exact h2
        clear he
        go_wp2_with (go_at_call 18; refine (rmay_any _ _).mono ?_; rintro e w' ⟨rfl, rfl⟩)
        go_ret2
        exact ⟨ret_two (by show 0 = sumV l; rw [sumV, HS'.out]) (by show 1 = sumE l; rw [sumE, HS'.out]), rfl⟩
    · have h2 := HS.out
      rw [sumGo_end hlt] at h2
      have HS' : Hid (sumGo 0 l = (s, 0)) := h2
      clear h2
      go_wp2
      go_ret2
      exact ⟨ret_two (by show s = sumV l; rw [sumV, HS'.out]) (by show 0 = sumE l; rw [sumE, HS'.out]), rfl⟩
end Go.Proofs.Ytpnegdcfccnocaa
