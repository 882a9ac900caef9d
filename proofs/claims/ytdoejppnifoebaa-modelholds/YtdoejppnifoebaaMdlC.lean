/-
  slices.Clone, Concat, Index, Contains at rows of acts; slices.Clone at rows of steps.
-/
import Derived.Test.YtdoejppnifoebaaFlwB
import Derived.Test.YtdoejppnifoebaaFlwL
import Derived.Test.YtdoejppnifoebaaFTrc
import Derived.Lib.AppendZeros
namespace Go.Proofs.Ytdoejppnifoebaa
open Go.ChangeShapes Go.WideShapes Go.ChangeAt Go.RowKit

/-- A row handed back that reads as L, in memory of the call's own. -/
def OwnA (w : World) (L : List (Int × Int)) (e : Ending) (w' : World) : Prop :=
  ∃ a c, e = .returned (.slice a L.length c) ∧ (a = none → L = [] ∧ c = 0) ∧ OwnR w' w.heap.size (.slice a L.length c) L.length L ∧ Below w.heap.size w w'
theorem own_new {w w' : World} {L : List (Int × Int)} {a : Option Addr} {c : Nat} (h : OwnR w' w.heap.size (.slice a L.length c) L.length L) : ∀ x, a = some x → w.heap.size ≤ x.block := fun x e => by
  have := (h.2.lt x.block (by rw [e]; rfl)).1
  exact this
set_option maxHeartbeats 1000000 in
theorem clone_acts {w : World} {a : Option Addr} {c : Nat} {l : List (Int × Int)} (hl : l.length ≤ 1000000) (ha : Sts w a l) (hn : a = none → l = [] ∧ c = 0) :
    Calls Try.prog 30 #[.slice a l.length c] w (OwnA w l) := by
  have q : ∀ (w : World) (a : Option Addr) (n c n' c' : Nat), (binOp .eql 25 (.slice a n c) (.slice none n' c')).run Try.prog w = .ok (.bool a.isNone) w := fun w a n c n' c' => Lib.run_eql_slice_nil w _ _ a n c n' c' Try.underlying25
  cases a with
  | none =>
    obtain ⟨rfl, rfl⟩ := hn rfl
    have HX : Hid (OwnR w w.heap.size (.slice none 0 0) 0 []) := OwnR.nil _ _
    clear ha hn hl
    go_enter Try.func30, Try.ntmps30
    go_wp2
    go_ret
    exact ⟨none, 0, rfl, fun _ => ⟨rfl, rfl⟩, HX.out, Below.refl _ _⟩
  | some ad =>
    have hb0 : Below w.heap.size w (w.alloc (.cells #[] 33)) := bel_al (Below.refl _ _) _
    have hrow := OwnR.fresh w w.heap.size (Nat.le_refl _)
    have HA := hide (ha.below hb0)
    clear ha hn
    have HL := hide hl
    obtain ⟨n, hn⟩ : ∃ n, l.length = n := ⟨_, rfl⟩
    have HN := hide hn
    rw [hn] at hl
    clear hn
    unfold OwnA
    rw [HN.out]
    go_enter Try.func30, Try.ntmps30
    go_wp2_with (at_builtin; refine append_R rfl _ _ rfl w.heap.size (.slice (some ⟨w.heap.size, 0, none⟩) 0 0) 0 [] rfl hrow ad l n c HN.out rfl HA.out (by omega) (by simp) ?_; intro a' c' w' o1 b1; have O1 := hide o1; have B1 := hide (hb0.trans b1); clear o1 b1)
    go_ret
    have o1 := O1.out
    simp only [List.nil_append, Nat.zero_add] at o1 ⊢
    refine ⟨a', c', rfl, fun e => ?_, o1, B1.out⟩
    subst e
    obtain ⟨h1, h2⟩ := row_none o1.2
    exact ⟨List.eq_nil_of_length_eq_zero (o1.1.trans h1), h2⟩

/-! Concat of a row and one act. -/
set_option maxHeartbeats 1000000 in
theorem grow_acts (n : Nat) (h0 : 0 < n) (h1 : n ≤ 1000000) (w : World) :
    Calls Try.prog 41 #[.slice none 0 0, .int .i64 (n : Int)] w fun e w' => ∃ a c, e = .returned (.slice a 0 c) ∧ OwnR w' w.heap.size (.slice a 0 c) 0 [] ∧ Below w.heap.size w w' := by
  obtain ⟨i0, hi, hz0, hz1, hz2⟩ := info_parts Try.infoAct
  have happ := Lib.run_append_nil_zeros (P := Try.prog) w 25 3 25 33 i0 (.agg #[.int .i64 0, .int .i64 0]) .i64 .i64 Try.underlying25 Try.underlying3 hi hz0 n h0 (by omega) (by omega) (by rw [hz2]; omega)
  have hg1 := grownCap_ge w n 0 33
  have hg2 := grownCap_le_maxLen w n 0 33 (by unfold maxLen; omega)
  generalize grownCap w n 0 33 = cp at happ hg1 hg2
  obtain ⟨Z, hZ⟩ : ∃ Z, Builtin.zeroCells (Value.agg #[.int .i64 0, .int .i64 0]).cells n ++ Builtin.zeroCells (Value.agg #[.int .i64 0, .int .i64 0]).cells (cp - n) = Z := ⟨_, rfl⟩
  rw [hZ] at happ
  have hZs : Z.size = cp * 2 := by rw [← hZ]; simp [size_zeroCells, Value.cells]; omega
  have HR : Hid (OwnR (w.alloc (.cells Z 33)).drew w.heap.size (.slice (some ⟨w.heap.size, 0, none⟩) 0 cp) 0 []) := by
    refine ⟨rfl, ?_⟩
    have h := World.ownsRow_made (e := 33) (base := w.heap.size) w Z cp (Nat.le_refl _) hg2 hZs
    exact h
  have HB : Hid (Below w.heap.size w (w.alloc (.cells Z 33)).drew) := ((Below.refl _ _).alloc (Nat.le_refl _) _).drew
  have hmx : cp ≤ 9223372036854775807 := by unfold maxLen at hg2; omega
  clear hZ hZs hg2 hi hz0 hz1 hz2
  have q1 : ¬ ((n : Int) < 0) := by omega
  have q2 : (n : Int) > 0 := by omega
  go_enter Try.func41, Try.ntmps41
  go_wp2_with (at_builtin; refine Lib.wpList_append_run _ rfl _ _ _ _ rfl _ _ rfl rfl _ _ happ ?_)
  go_ret
  exact ⟨_, _, rfl, HR.out, HB.out⟩
end Go.Proofs.Ytdoejppnifoebaa
