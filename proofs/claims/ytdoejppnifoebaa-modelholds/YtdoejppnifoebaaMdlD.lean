/-
  slices.Concat of a row of acts and one more; slices.Contains of an act.
-/
import Derived.Test.YtdoejppnifoebaaMdlC
namespace Go.Proofs.Ytdoejppnifoebaa
open Go.ChangeShapes Go.WideShapes Go.ChangeAt Go.RowKit

/-- Two slices side by side. -/
theorem two_rows {u : World} {b n0 c0 n1 c1 : Nat} {a0 a1 : Option Addr} (h : u.heap[b]? = some (.cells #[.slice a0 n0 c0, .slice a1 n1 c1] 25 (0, 0))) : u.cell? ⟨b, 0, none⟩ = some (.slice a0 n0 c0) ∧ u.cell? ⟨b, 1, none⟩ = some (.slice a1 n1 c1) := two_of h
/-- A row that there isn't, put behind one of the call's own. -/
theorem append_none {w : World} {ops : Array Oper} {rest : List Oper} {o : Oper} {a : Act} {Q : Exit → Act → World → Prop} (hgd : o.guard = none) (s x : Operand)
    (ho : o.op = .call { callee := .builtin .append, args := #[s, x], argTypes := #[25, 25] })
    (base : Nat) {av : Option Addr} {cv n : Nat} {L : List (Int × Int)} (v : Value) (hs : a.eval s = v) (hv : OwnR w base v n L) (hx : a.eval x = .slice none 0 0) (hvv : v = .slice av n cv)
    (h : wpList Try.prog ops Q rest (a.put o.dst (.slice av n cv)) w) : wpList Try.prog ops Q (o :: rest) a w := by
  obtain ⟨i0, hi, hz0, hz1, hz2⟩ := info_parts Try.infoAct
  subst hvv
  exact wpList_append_own_none hgd s x 25 ho base 33 i0 2 Try.underlying25 hi _ _ _ hs hv.2 hx h
set_option maxRecDepth 100000 in
set_option maxHeartbeats 2000000 in
theorem concat_act {w : World} {b : Nat} {a0 : Option Addr} {c0 : Nat} {l : List (Int × Int)} {x : Int × Int} {a1 : Addr} (hb : w.heap[b]? = some (.cells #[.slice a0 l.length c0, .slice (some a1) 1 1] 25 (0, 0))) (hl : l.length ≤ 1000) (h0 : Sts w a0 l) (hn : a0 = none → l = [] ∧ c0 = 0) (h1 : Sts w (some a1) [x]) :
    Calls Try.prog 27 #[.slice (some ⟨b, 0, none⟩) 2 2] w (OwnA w (l ++ [x])) := by
  obtain ⟨d0, d1⟩ := two_rows hb
  obtain ⟨n, hn'⟩ : ∃ n, l.length = n := ⟨_, rfl⟩
  have HN := hide hn'
  rw [hn'] at d0 hl hb
  have HBK := hide hb
  have HS0 := hide h0
  have HS1 := hide h1
  have HNN := hide hn
  have GR := grow_acts (n + 1) (by omega) (by omega) w
  rw [show ((n + 1 : Nat) : Int) = (n : Int) + 1 by omega] at GR
  clear hn' hb h0 h1 hn
  unfold OwnA
  rw [List.length_append, HN.out, List.length_singleton]
  have q : ¬ ((n : Int) < 0) := by omega
  have q2 : ¬ ((n : Int) + 1 < 0) := by omega
  go_enter Try.func27, Try.ntmps27
  go_wp2_with fail
  go_loopw [3, 11] (fun sv iv wr => ((sv = .int .i64 0 ∧ iv = .int .i64 0) ∨ (sv = .int .i64 n ∧ iv = .int .i64 1) ∨ (sv = .int .i64 ((n : Int) + 1) ∧ iv = .int .i64 2)) ∧ wr = w) (fun _ iv _ => 2 - (intOf iv).toNat)
  case atStart => exact ⟨.inl ⟨rfl, rfl⟩, rfl⟩
  case round =>
    obtain ⟨hst, hw⟩ := hrel
    have hw2 := hw.symm
    subst hw2
    clear hw
    rcases hst with (⟨rfl, rfl⟩ | ⟨rfl, rfl⟩ | ⟨rfl, rfl⟩)
    · go_wp2
      go_roundw
      case rel => exact ⟨.inr (.inl ⟨rfl, rfl⟩), trivial⟩
      case measure => simp [intOf]
    · go_wp2
      go_roundw
      case rel => exact ⟨.inr (.inr ⟨rfl, rfl⟩), trivial⟩
      case measure => simp [intOf]
    · go_wp2_with (go_at_call 41; refine GR.mono ?_; clear GR; rintro e w1 ⟨a, c, rfl, o1, b1⟩; have O1 := hide o1; have B1 := hide b1; clear o1 b1 d0 d1; obtain ⟨d0, d1⟩ := two_rows ((B1.out.block _ (Array.getElem?_eq_some_iff.1 HBK.out).1).trans HBK.out))
      go_loopw [6, 27] (fun rv iv wx => ∃ (k : Nat) (a' : Option Addr) (c' : Nat), iv = .int .i64 k ∧ ((k = 0 ∧ rv = .slice a' 0 c' ∧ Hid (OwnR wx w.heap.size (.slice a' 0 c') 0 [])) ∨ (k = 1 ∧ rv = .slice a' n c' ∧ Hid (OwnR wx w.heap.size (.slice a' n c') n l)) ∨ (k = 2 ∧ rv = .slice a' (n + 1) c' ∧ Hid (OwnR wx w.heap.size (.slice a' (n + 1) c') (n + 1) (l ++ [x])))) ∧ Hid (Below w.heap.size w wx)) (fun _ iv _ => 2 - (intOf iv).toNat)
      case atStart => exact ⟨0, a, c, rfl, .inl ⟨rfl, rfl, O1⟩, B1⟩
      case round =>
        obtain ⟨k, a', c', rfl, hk, HB⟩ := hrel
        have hbs := HB.out.size
        clear d0 d1
        obtain ⟨d0, d1⟩ := two_rows ((HB.out.block _ (Array.getElem?_eq_some_iff.1 HBK.out).1).trans HBK.out)
        rcases hk with ⟨rfl, rfl, HR⟩ | ⟨rfl, rfl, HR⟩ | ⟨rfl, rfl, HR⟩
        · cases a0 with
          | none =>
            obtain ⟨rfl, rfl⟩ := HNN.out rfl
            obtain rfl : n = 0 := HN.out.symm
            go_wp2_with (at_builtin; refine append_none rfl (.tmp 31) (.tmp 32) rfl w.heap.size (.slice a' 0 c') rfl HR.out rfl rfl ?_)
            go_roundw
            case rel => exact ⟨_, _, _, ⟨1, rfl, a', c', .inr (.inl ⟨rfl, rfl, HR⟩)⟩, rfl, rfl, rfl⟩
            case measure => simp [intOf]
          | some ad =>
            go_wp2_with (at_builtin; refine append_R rfl (.tmp 31) (.tmp 32) rfl w.heap.size (.slice a' 0 c') 0 [] rfl HR.out ad l n c0 HN.out rfl (HS0.out.below HB.out) (by omega) hbs ?_; intro a5 c5 w5 o5 b5; rw [List.nil_append, Nat.zero_add] at o5; have O5 := hide o5; have B5 := hide (HB.out.trans b5); clear o5 b5)
            go_roundw
            case rel => exact ⟨1, a5, c5, rfl, .inr (.inl ⟨rfl, by simp, O5⟩), B5⟩
            case measure => simp [intOf]
        · go_wp2_with (at_builtin; refine append_R rfl (.tmp 31) (.tmp 32) rfl w.heap.size (.slice a' n c') n l rfl HR.out a1 [x] 1 1 rfl rfl (HS1.out.below HB.out) (by omega) hbs ?_; intro a5 c5 w5 o5 b5; have O5 := hide o5; have B5 := hide (HB.out.trans b5); clear o5 b5)
          go_roundw
          case rel => exact ⟨2, a5, c5, rfl, .inr (.inr ⟨rfl, rfl, O5⟩), B5⟩
          case measure => simp [intOf]
        · go_wp2
          go_ret
          refine ⟨a', c', rfl, fun e => ?_, HR.out, HB.out⟩
          subst e
          have := (row_none HR.out.2).1
          omega
/-! Contains. -/
set_option maxHeartbeats 2000000 in
theorem index_act {w : World} {a : Option Addr} {c n : Nat} {l : List (Int × Int)} (hn : l.length = n) (hl : n ≤ 1000) (ha : Sts w a l) (x1 x2 : Int) :
    Calls Try.prog 46 #[.slice a n c, .agg #[.int .i64 x1, .int .i64 x2]] w fun e w' => (∃ k : Int, e = .returned (.int .i64 k) ∧ (0 ≤ k ↔ (x1, x2) ∈ l) ∧ -1 ≤ k ∧ k < n) ∧ Below w.heap.size w w' := by
  have hne := eql_act
  have hgd := guard_act
  have HN := hide hn
  have HA := hide ha
  have HB0 : Hid (Below w.heap.size w (w.alloc (.cells #[.int .i64 x1, .int .i64 x2] 33))) := (Below.refl _ _).alloc (Nat.le_refl _) _
  clear hn ha
  go_enter Try.func46, Try.ntmps46
  go_wp2_with fail
  obtain ⟨V, hV⟩ : ∃ V, V = w.alloc (.cells #[.int .i64 x1, .int .i64 x2] 33) := ⟨_, rfl⟩
  have HV2 : Hid (V.cell? ⟨w.heap.size, 0, none⟩ = some (.int .i64 x1) ∧ V.cell? ⟨w.heap.size, 1, none⟩ = some (.int .i64 x2)) := by show _ ∧ _; rw [hV]; exact two_of (World.alloc_heap_new w _)
  rw [← hV] at HB0 ⊢
  clear hV
  go_loopw [8] (fun iv wr => ∃ k : Nat, iv = .int .i64 k ∧ k ≤ n ∧ Hid (Below V.heap.size V wr) ∧ Hid (∀ j, j < k → stAt l j ≠ (x1, x2))) (fun iv _ => n - (intOf iv).toNat)
  case atStart => exact ⟨0, rfl, Nat.zero_le _, Below.refl _ _, fun j h => absurd h (Nat.not_lt_zero _)⟩
  case round =>
    obtain ⟨k, rfl, hk, HR, HJ⟩ := hrel
    by_cases hlt : k < n
    rotate_left
    · have hq : ¬ (k : Int) < (n : Int) := by omega
      have HF : Hid ((0 : Int) ≤ -1 ↔ (x1, x2) ∈ l) := by
        show _ ↔ _
        refine ⟨fun h => by omega, fun h => ?_⟩
        obtain ⟨j, hj, e⟩ := List.mem_iff_getElem.1 h
        exact absurd (by rw [stAt_get hj]; exact e) (HJ.out j (by have := HN.out; omega))
      go_wp2
      go_ret
      exact ⟨⟨_, rfl, HF.out, by omega, by omega⟩, bel_on' HB0.out HR.out⟩
    have hkl : k < l.length := by have := HN.out; omega
    obtain ⟨ba, oa, rfl, p1, p2⟩ := (HA.out.below (bel_on' HB0.out HR.out)).at hkl
    have c0 := cellL HV2.out.1 HR.out
    have c1 := cellL HV2.out.2 HR.out
    have hq : (k : Int) < (n : Int) := by omega
    obtain ⟨⟨y1, y2⟩, hy⟩ : ∃ x, x = stAt l k := ⟨_, rfl⟩
    rw [← hy] at p1 p2
    simp only at p1 p2
    by_cases he : x1 = y1 ∧ x2 = y2
    · have qe : (x1 == y1 && x2 == y2) = true := by simp [he.1, he.2]
      have HF : Hid ((0 : Int) ≤ (k : Int) ↔ (x1, x2) ∈ l) := by
        show _ ↔ _
        refine ⟨fun _ => ?_, fun _ => by omega⟩
        rw [he.1, he.2, hy]
        exact stAt_mem hkl
      clear hy he hkl
      go_wp2_with fail
      go_quiet (fail)
      go_wp2
      go_ret
      exact ⟨⟨_, rfl, HF.out, by omega, by omega⟩, bel_on' HB0.out (belN HR.out _)⟩
    · have qe : (x1 == y1 && x2 == y2) = false := by
        cases h : (x1 == y1 && x2 == y2)
        · rfl
        · simp at h; exact absurd h he
      have HJ2 : Hid (∀ j, j < k + 1 → stAt l j ≠ (x1, x2)) := fun j hj e => by
        by_cases h : j < k
        · exact HJ.out j h e
        · obtain rfl : j = k := by omega
          rw [← hy] at e
          cases e
          exact he ⟨rfl, rfl⟩
      clear hy he hkl
      go_wp2_with fail
      go_quiet (fail)
      go_wp2
      go_roundw
      case rel => exact ⟨k + 1, by go_num, by omega, belN HR.out _, HJ2⟩
      case measure => simp [intOf]; omega
set_option maxHeartbeats 2000000 in
theorem contains_act {w : World} {a : Option Addr} {c n : Nat} {l : List (Int × Int)} (hn : l.length = n) (hl : n ≤ 1000) (ha : Sts w a l) (x1 x2 : Int) :
    Calls Try.prog 42 #[.slice a n c, .agg #[.int .i64 x1, .int .i64 x2]] w fun e w' => e = .returned (.bool (decide ((x1, x2) ∈ l))) ∧ Below w.heap.size w w' := by
  have hb : Below w.heap.size w (w.alloc (.cells #[.int .i64 x1, .int .i64 x2] 33)) := (Below.refl _ _).alloc (Nat.le_refl _) _
  have IX := index_act (c := c) hn hl (ha.below hb) x1 x2
  have HB := hide hb
  clear hb ha hn
  go_enter Try.func42, Try.ntmps42
  go_wp2_with (go_at_call 46; refine IX.mono ?_; clear IX; rintro e w1 ⟨⟨k, rfl, hk, -, -⟩, hb⟩; have HK := hide hk; have HB1 := hide (bel_on' HB.out hb); clear hk hb)
  go_ret
  exact ⟨ret_bool (by rw [decide_eq_decide]; exact HK.out), HB1.out⟩
end Go.Proofs.Ytdoejppnifoebaa
