/-
  The walk of AmountSums: it returns true, whatever the two rows are, and turns nothing that was there.
-/
import Derived.Test.YtpnegdcfccnocabSum
import Derived.Test.YtpnegdcfccnocabRowIn
import Derived.Test.YtpnegdcfccnocabAp
namespace Go.Proofs.Ytpnegdcfccnocab
open Go.ChangeShapes Go.WideShapes Go.ChangeAt Go.RowKit

theorem addE_cases {s x : Int} (h0 : 0 ≤ s) (h1 : s ≤ 1000000000) : (addE s x = 0 ∧ may x = true ∧ addV s x = s + x ∧ s + x ≤ 1000000000) ∨ (addE s x = 4 ∧ may x = true ∧ 1000000000 < s + x) ∨ (addE s x = 1 ∧ may x = false) := by
  have hs : may s = true := may_iff.2 ⟨h0, h1⟩
  by_cases hx : may x = true
  · by_cases hy : s + x ≤ 1000000000
    · left; simp [addE, addV, hs, hx, hy]
    · right; left; simp [addE, hs, hx, hy]; omega
  · right; right; simp [addE, hx]

theorem sumGo_app (l m : List Int) : ∀ s, sumGo s (l ++ m) = if (sumGo s l).2 = 0 then sumGo (sumGo s l).1 m else (0, (sumGo s l).2) := by
  induction l with
  | nil => intro s; simp [sumGo]
  | cons x r ih =>
    intro s
    by_cases h : addE s x = 0
    · simp only [List.cons_append, sumGo, if_pos h]
      exact ih _
    · simp only [List.cons_append, sumGo, if_neg h]

theorem sumGo_kinds (l : List Int) : ∀ s, 0 ≤ s → s ≤ 1000000000 → ((sumGo s l).2 = 0 ∧ s ≤ (sumGo s l).1 ∧ (sumGo s l).1 ≤ 1000000000) ∨ ((sumGo s l).2 = 4 ∧ (sumGo s l).1 = 0) ∨ ((sumGo s l).2 = 1 ∧ (sumGo s l).1 = 0) := by
  induction l with
  | nil => intro s h0 h1; left; exact ⟨rfl, Int.le_refl _, h1⟩
  | cons x r ih =>
    intro s h0 h1
    rcases addE_cases (x := x) h0 h1 with ⟨h, hx, hv, hb⟩ | ⟨h, _⟩ | ⟨h, _⟩
    · have hx' := may_iff.1 hx
      rw [sumGo, if_pos h, hv]
      rcases ih (s + x) (by omega) (by omega) with ⟨a, b, c⟩ | g | g
      · left; exact ⟨a, by omega, c⟩
      · right; left; exact g
      · right; right; exact g
    · right; left; rw [sumGo, if_neg (by rw [h]; decide), h]; exact ⟨rfl, rfl⟩
    · right; right; rw [sumGo, if_neg (by rw [h]; decide), h]; exact ⟨rfl, rfl⟩

theorem sumGo_more (m : List Int) : ∀ s t, 0 ≤ s → s ≤ t → t ≤ 1000000000 →
    ((sumGo s m).2 = 0 → (((sumGo s m).1 + (t - s) ≤ 1000000000 ∧ sumGo t m = ((sumGo s m).1 + (t - s), 0)) ∨ (1000000000 < (sumGo s m).1 + (t - s) ∧ sumGo t m = (0, 4)))) ∧
    ((sumGo s m).2 = 4 → (sumGo t m).2 = 4) ∧ ((sumGo s m).2 = 1 → (sumGo t m).2 ≠ 0) := by
  induction m with
  | nil =>
    intro s t h0 h1 h2
    refine ⟨fun _ => .inl ⟨by simp [sumGo]; omega, by simp [sumGo]; omega⟩, fun h => by simp [sumGo] at h, fun h => by simp [sumGo] at h⟩
  | cons x r ih =>
    intro s t h0 h1 h2
    rcases addE_cases (x := x) h0 (by omega) with ⟨h, hx, hv, hb⟩ | ⟨h, hx, hb⟩ | ⟨h, hx⟩
    · have hx' := may_iff.1 hx
      rw [show sumGo s (x :: r) = sumGo (s + x) r by rw [sumGo, if_pos h, hv]]
      rcases addE_cases (s := t) (x := x) (by omega) h2 with ⟨g, _, gv, gb⟩ | ⟨g, _, gb⟩ | ⟨g, gx⟩
      · rw [show sumGo t (x :: r) = sumGo (t + x) r by rw [sumGo, if_pos g, gv]]
        have := ih (s + x) (t + x) (by omega) (by omega) (by omega)
        rw [show t + x - (s + x) = t - s by omega] at this
        exact this
      · rw [show sumGo t (x :: r) = (0, 4) by rw [sumGo, if_neg (by rw [g]; decide), g]]
        refine ⟨fun e => .inr ⟨?_, rfl⟩, fun _ => rfl, fun _ => by decide⟩
        rcases sumGo_kinds r (s + x) (by omega) (by omega) with k | k | k
        · omega
        · rw [k.1] at e; cases e
        · rw [k.1] at e; cases e
      · rw [hx] at gx; cases gx
    · rw [show sumGo s (x :: r) = (0, 4) by rw [sumGo, if_neg (by rw [h]; decide), h]]
      have g : addE t x = 4 := by
        rcases addE_cases (s := t) (x := x) (by omega) h2 with ⟨_, _, _, gb⟩ | ⟨g, _⟩ | ⟨_, gx⟩
        · omega
        · exact g
        · rw [hx] at gx; cases gx
      rw [show sumGo t (x :: r) = (0, 4) by rw [sumGo, if_neg (by rw [g]; decide), g]]
      exact ⟨fun e => absurd e (by decide), fun _ => rfl, fun e => absurd e (by decide)⟩
    · rw [show sumGo s (x :: r) = (0, 1) by rw [sumGo, if_neg (by rw [h]; decide), h]]
      have g : addE t x = 1 := by simp [addE, hx]
      rw [show sumGo t (x :: r) = (0, 1) by rw [sumGo, if_neg (by rw [g]; decide), g]]
      exact ⟨fun e => absurd e (by decide), fun e => absurd e (by decide), fun _ => by decide⟩

/-- What the law asks of the three sums, in one. -/
theorem sums_law (l m : List Int) :
    (sumE l ≠ 0 ∧ sumE (l ++ m) = sumE l ∧ sumV (l ++ m) = 0) ∨
    (sumE l = 0 ∧ sumE m = 1 ∧ sumE (l ++ m) ≠ 0) ∨
    (sumE l = 0 ∧ sumE m = 0 ∧ sumV (l ++ m) = addV (sumV l) (sumV m) ∧ sumE (l ++ m) = addE (sumV l) (sumV m)) ∨
    (sumE l = 0 ∧ sumE m = 4 ∧ sumE (l ++ m) = 4) := by
  unfold sumE sumV
  have happ := sumGo_app l m 0
  rcases sumGo_kinds l 0 (by omega) (by omega) with ⟨h1, h2, h3⟩ | ⟨h1, h2⟩ | ⟨h1, h2⟩
  · right
    rw [if_pos h1] at happ
    have hm := sumGo_more m 0 (sumGo 0 l).1 (by omega) h2 h3
    rw [happ]
    rcases sumGo_kinds m 0 (by omega) (by omega) with ⟨g1, g2, g3⟩ | ⟨g1, g2⟩ | ⟨g1, g2⟩
    · right; left
      refine ⟨h1, g1, ?_⟩
      have a1 : may (sumGo 0 l).1 = true := may_iff.2 ⟨h2, h3⟩
      have a2 : may (sumGo 0 m).1 = true := may_iff.2 ⟨g2, g3⟩
      rcases hm.1 g1 with ⟨k, e⟩ | ⟨k, e⟩
      · have k' : (sumGo 0 l).1 + (sumGo 0 m).1 ≤ 1000000000 := by omega
        rw [e]
        simp [addV, addE, a1, a2, k']
        omega
      · have k' : ¬ (sumGo 0 l).1 + (sumGo 0 m).1 ≤ 1000000000 := by omega
        rw [e]
        simp [addV, addE, a1, a2, k']
    · right; right; exact ⟨h1, g1, hm.2.1 g1⟩
    · left; exact ⟨h1, g1, hm.2.2 g1⟩
  · left
    rw [if_neg (by rw [h1]; decide)] at happ
    rw [happ]
    exact ⟨by rw [h1]; decide, rfl, rfl⟩
  · left
    rw [if_neg (by rw [h1]; decide)] at happ
    rw [happ]
    exact ⟨by rw [h1]; decide, rfl, rfl⟩

theorem sum_len (a : Option Addr) (l : List Int) (n ca : Nat) (w : World) (hn : l.length = n) (hl : n ≤ 4611686018427387904) (ha : Ints w a l) :
    Calls Try.prog 5 #[.slice a n ca] w fun e w' => e = .returned (.tuple #[.int .i64 (sumV l), .int .i64 (sumE l)]) ∧ w = w' := by
  subst hn; exact sum_any a l ca w hl ha

theorem ints_grown {w w' : World} {B : Nat} {a : Option Addr} {l : List Int} (h : Ints w a l) (hb : Below B w w') (hB : ∀ b off, a = some ⟨b, off, none⟩ → b < B) : Ints w' a l := by
  rcases h with h | ⟨b, off, ha, hc⟩
  · exact .inl h
  · exact .inr ⟨b, off, ha, fun i hi => by rw [hb.cell (p := ⟨b, off + i, none⟩) (hB b off ha)]; exact hc i hi⟩

set_option maxHeartbeats 4000000 in
theorem sums_rest (a0 : Option Addr) (len0 cap0 : Nat) (a1 : Option Addr) (len1 cap1 : Nat) (l m : List Int) (w : World) (hlen : len0 + len1 ≤ 100)
    (HI : Hid (Ints w a0 l)) (HJ : Hid (Ints w a1 m)) (HL : Hid (l.length = len0)) (HM : Hid (m.length = len1)) (HLM : Hid ((l ++ m).length = len0 + len1)) (H0 : Hid (a0 = none → len0 = 0 ∧ cap0 = 0)) (H1 : Hid (a1 = none → len1 = 0 ∧ cap1 = 0))
    (SL : ((sumE l != 0) = true ∧ sumE (l ++ m) = sumE l ∧ sumV (l ++ m) = 0) ∨ (sumE l = 0 ∧ sumE m = 1 ∧ (sumE (l ++ m) != 0) = true) ∨
      (sumE l = 0 ∧ sumE m = 0 ∧ sumV (l ++ m) = addV (sumV l) (sumV m) ∧ sumE (l ++ m) = addE (sumV l) (sumV m)) ∨ (sumE l = 0 ∧ sumE m = 4 ∧ sumE (l ++ m) = 4)) :
    Calls Try.prog 3 #[.slice a0 len0 cap0, .slice a1 len1 cap1] w fun e w' => e = .returned (.bool true) ∧ Below w.heap.size w w' := by
  have c0 : len0 ≤ 4611686018427387904 := by omega
  have c1 : len1 ≤ 4611686018427387904 := by omega
  have c2 : len0 + len1 ≤ 4611686018427387904 := by omega
  rcases SL with ⟨q1, q2, q3⟩ | ⟨q1, q2, q3⟩ | ⟨q1, q2, q3, q4⟩ | ⟨q1, q2, q3⟩
  · go_enter Try.func3, Try.ntmps3
    go_wp2_with fail
    refine (sum_len _ l _ _ _ HL.out c0 HI.out).mono ?_
    rintro e w' ⟨rfl, rfl⟩
    go_wp2_with fail
    refine (sum_len _ m _ _ _ HM.out c1 HJ.out).mono ?_
    rintro e w' ⟨rfl, rfl⟩
    go_wp2_with (first
      | (at_builtin; refine append_ints rfl (.tmp 31) (.tmp 32) rfl w.heap.size _ _ [] rfl (owned_empty _) _ _ _ l HL.out rfl H0.out (HI.out.below ((Below.refl _ _).alloc (Nat.le_refl _) _)) (by omega) (by simp) ?_; intro v1 w1 o1 g1; simp only [Nat.zero_add, List.nil_append] at o1; have hB1 := ((Below.refl w.heap.size w).alloc (Nat.le_refl _) _).grown g1 (by simp) (fun k hk => by cases hk; exact Nat.le_refl _))
      | (at_builtin; refine append_ints rfl (.tmp 33) (.tmp 34) rfl w.heap.size v1 len0 l rfl o1 _ _ _ m HM.out rfl H1.out (HJ.out.below hB1) (by omega) hB1.size ?_; intro v2 w2 o2 g2; have hB2 := hB1.grown g2 hB1.size (fun j hj => (o1.lt j hj).1); obtain ⟨x, c, rfl, _, hx⟩ := owned_ints o2)
      | (go_at_call 5; refine (sum_len _ (l ++ m) _ _ _ HLM.out c2 hx).mono ?_; rintro e w' ⟨rfl, rfl⟩)
      | (go_at_call 6; refine (add_any _ _ _).mono ?_; rintro e w' ⟨rfl, rfl⟩)
      | (go_at_call 4; refine (awake_any _).mono ?_; rintro e w5 ⟨rfl, hb5⟩))
    go_ret
    exact ⟨rfl, hB2.trans (hb5.mono hB2.size)⟩
  · go_enter Try.func3, Try.ntmps3
    go_wp2_with fail
    refine (sum_len _ l _ _ _ HL.out c0 HI.out).mono ?_
    rintro e w' ⟨rfl, rfl⟩
    go_wp2_with fail
    refine (sum_len _ m _ _ _ HM.out c1 HJ.out).mono ?_
    rintro e w' ⟨rfl, rfl⟩
    go_wp2_with (first
      | (at_builtin; refine append_ints rfl (.tmp 31) (.tmp 32) rfl w.heap.size _ _ [] rfl (owned_empty _) _ _ _ l HL.out rfl H0.out (HI.out.below ((Below.refl _ _).alloc (Nat.le_refl _) _)) (by omega) (by simp) ?_; intro v1 w1 o1 g1; simp only [Nat.zero_add, List.nil_append] at o1; have hB1 := ((Below.refl w.heap.size w).alloc (Nat.le_refl _) _).grown g1 (by simp) (fun k hk => by cases hk; exact Nat.le_refl _))
      | (at_builtin; refine append_ints rfl (.tmp 33) (.tmp 34) rfl w.heap.size v1 len0 l rfl o1 _ _ _ m HM.out rfl H1.out (HJ.out.below hB1) (by omega) hB1.size ?_; intro v2 w2 o2 g2; have hB2 := hB1.grown g2 hB1.size (fun j hj => (o1.lt j hj).1); obtain ⟨x, c, rfl, _, hx⟩ := owned_ints o2)
      | (go_at_call 5; refine (sum_len _ (l ++ m) _ _ _ HLM.out c2 hx).mono ?_; rintro e w' ⟨rfl, rfl⟩)
      | (go_at_call 6; refine (add_any _ _ _).mono ?_; rintro e w' ⟨rfl, rfl⟩)
      | (go_at_call 4; refine (awake_any _).mono ?_; rintro e w5 ⟨rfl, hb5⟩))
    go_ret
    exact ⟨rfl, hB2.trans (hb5.mono hB2.size)⟩
  · go_enter Try.func3, Try.ntmps3
    go_wp2_with fail
    refine (sum_len _ l _ _ _ HL.out c0 HI.out).mono ?_
    rintro e w' ⟨rfl, rfl⟩
    go_wp2_with fail
    refine (sum_len _ m _ _ _ HM.out c1 HJ.out).mono ?_
    rintro e w' ⟨rfl, rfl⟩
    go_wp2_with (first
      | (at_builtin; refine append_ints rfl (.tmp 31) (.tmp 32) rfl w.heap.size _ _ [] rfl (owned_empty _) _ _ _ l HL.out rfl H0.out (HI.out.below ((Below.refl _ _).alloc (Nat.le_refl _) _)) (by omega) (by simp) ?_; intro v1 w1 o1 g1; simp only [Nat.zero_add, List.nil_append] at o1; have hB1 := ((Below.refl w.heap.size w).alloc (Nat.le_refl _) _).grown g1 (by simp) (fun k hk => by cases hk; exact Nat.le_refl _))
      | (at_builtin; refine append_ints rfl (.tmp 33) (.tmp 34) rfl w.heap.size v1 len0 l rfl o1 _ _ _ m HM.out rfl H1.out (HJ.out.below hB1) (by omega) hB1.size ?_; intro v2 w2 o2 g2; have hB2 := hB1.grown g2 hB1.size (fun j hj => (o1.lt j hj).1); obtain ⟨x, c, rfl, _, hx⟩ := owned_ints o2)
      | (go_at_call 5; refine (sum_len _ (l ++ m) _ _ _ HLM.out c2 hx).mono ?_; rintro e w' ⟨rfl, rfl⟩)
      | (go_at_call 6; refine (add_any _ _ _).mono ?_; rintro e w' ⟨rfl, rfl⟩)
      | (go_at_call 4; refine (awake_any _).mono ?_; rintro e w5 ⟨rfl, hb5⟩))
    go_ret
    exact ⟨rfl, hB2.trans (hb5.mono hB2.size)⟩
  · go_enter Try.func3, Try.ntmps3
    go_wp2_with fail
    refine (sum_len _ l _ _ _ HL.out c0 HI.out).mono ?_
    rintro e w' ⟨rfl, rfl⟩
    go_wp2_with fail
    refine (sum_len _ m _ _ _ HM.out c1 HJ.out).mono ?_
    rintro e w' ⟨rfl, rfl⟩
    go_wp2_with (first
      | (at_builtin; refine append_ints rfl (.tmp 31) (.tmp 32) rfl w.heap.size _ _ [] rfl (owned_empty _) _ _ _ l HL.out rfl H0.out (HI.out.below ((Below.refl _ _).alloc (Nat.le_refl _) _)) (by omega) (by simp) ?_; intro v1 w1 o1 g1; simp only [Nat.zero_add, List.nil_append] at o1; have hB1 := ((Below.refl w.heap.size w).alloc (Nat.le_refl _) _).grown g1 (by simp) (fun k hk => by cases hk; exact Nat.le_refl _))
      | (at_builtin; refine append_ints rfl (.tmp 33) (.tmp 34) rfl w.heap.size v1 len0 l rfl o1 _ _ _ m HM.out rfl H1.out (HJ.out.below hB1) (by omega) hB1.size ?_; intro v2 w2 o2 g2; have hB2 := hB1.grown g2 hB1.size (fun j hj => (o1.lt j hj).1); obtain ⟨x, c, rfl, _, hx⟩ := owned_ints o2)
      | (go_at_call 5; refine (sum_len _ (l ++ m) _ _ _ HLM.out c2 hx).mono ?_; rintro e w' ⟨rfl, rfl⟩)
      | (go_at_call 6; refine (add_any _ _ _).mono ?_; rintro e w' ⟨rfl, rfl⟩)
      | (go_at_call 4; refine (awake_any _).mono ?_; rintro e w5 ⟨rfl, hb5⟩))
    go_ret
    exact ⟨rfl, hB2.trans (hb5.mono hB2.size)⟩

set_option maxHeartbeats 1000000 in
theorem amountSums_walk (a0 : Option Addr) (len0 cap0 : Nat) (z0 : List Int) (a1 : Option Addr) (len1 cap1 : Nat) (z1 : List Int) (w : World) (w0 : IsRow .i64 w a0 len0 cap0 z0) (s0 : z0.length * 8 ≤ 140737488351232) (w1 : IsRow .i64 w a1 len1 cap1 z1) (s1 : z1.length * 8 ≤ 140737488351232) :
    Calls Try.prog 3 #[.slice a0 len0 cap0, .slice a1 len1 cap1] w fun e w' => e = .returned (.bool true) ∧ Below w.heap.size w w' := by
  obtain ⟨l, hl, _, hi⟩ := w0.ints
  obtain ⟨m, hm, _, hj⟩ := w1.ints
  have n0 := w0.nils
  have n1 := w1.nils
  have b0 := w0.sized s0
  have b1 := w1.sized s1
  clear w0 w1 s0 s1
  by_cases hlen : len0 + len1 ≤ 100
  · have hlm : (l ++ m).length = len0 + len1 := by rw [List.length_append, hl, hm]
    have HI : Hid (Ints w a0 l) := hi
    have HJ : Hid (Ints w a1 m) := hj
    have HL : Hid (l.length = len0) := hl
    have HM : Hid (m.length = len1) := hm
    have HLM : Hid ((l ++ m).length = len0 + len1) := hlm
    have H0 : Hid (a0 = none → len0 = 0 ∧ cap0 = 0) := n0
    have H1 : Hid (a1 = none → len1 = 0 ∧ cap1 = 0) := n1
    have SL := sums_law l m
    clear hi hj hl hm hlm n0 n1
    have step : ∀ (R : Prop), (((sumE l != 0) = true ∧ sumE (l ++ m) = sumE l ∧ sumV (l ++ m) = 0) → R) → ((sumE l = 0 ∧ sumE m = 1 ∧ (sumE (l ++ m) != 0) = true) → R) →
        ((sumE l = 0 ∧ sumE m = 0 ∧ sumV (l ++ m) = addV (sumV l) (sumV m) ∧ sumE (l ++ m) = addE (sumV l) (sumV m)) → R) → ((sumE l = 0 ∧ sumE m = 4 ∧ sumE (l ++ m) = 4) → R) → R := by
      intro R r1 r2 r3 r4
      rcases SL with ⟨h, g⟩ | ⟨h, g, k⟩ | h | h
      · exact r1 ⟨by simpa using h, g⟩
      · exact r2 ⟨h, g, by simpa using k⟩
      · exact r3 h
      · exact r4 h
    clear SL
    refine step _ ?_ ?_ ?_ ?_
    · rintro ⟨q1, q2, q3⟩
      exact sums_rest a0 len0 cap0 a1 len1 cap1 l m w hlen HI HJ HL HM HLM H0 H1 (.inl ⟨q1, q2, q3⟩)
    · rintro ⟨q1, q2, q3⟩
      exact sums_rest a0 len0 cap0 a1 len1 cap1 l m w hlen HI HJ HL HM HLM H0 H1 (.inr (.inl ⟨q1, q2, q3⟩))
    · rintro ⟨q1, q2, q3, q4⟩
      exact sums_rest a0 len0 cap0 a1 len1 cap1 l m w hlen HI HJ HL HM HLM H0 H1 (.inr (.inr (.inl ⟨q1, q2, q3, q4⟩)))
    · rintro ⟨q1, q2, q3⟩
      exact sums_rest a0 len0 cap0 a1 len1 cap1 l m w hlen HI HJ HL HM HLM H0 H1 (.inr (.inr (.inr ⟨q1, q2, q3⟩)))
  · have hbig : (100 : Int) < (len0 : Int) + (len1 : Int) := by omega
    go_enter Try.func3, Try.ntmps3
    go_wp2_with (go_at_call 4; refine (awake_any _).mono ?_; rintro e w5 ⟨rfl, hb5⟩)
    go_ret
    exact ⟨rfl, hb5⟩
end Go.Proofs.Ytpnegdcfccnocab
