/-
  The walk of CheckTells: one byte changed, or two side by side exchanged, is told.
-/
import Derived.Test.YtolbfdngjkajgaaCBack
import Derived.Test.YtolbfdngjkajgaaNum
import Derived.Test.YtolbfdngjkajgaaByt
import Derived.Test.YtolbfdngjkajgaaCTellM
import Derived.Test.YtolbfdngjkajgaaRow
import Derived.Laws.BitsAllLaws
import Derived.BigRegion
namespace Go.Proofs.Ytolbfdngjkajgaa
open Go.ChangeShapes Go.WideShapes Go.ChangeAt Go.RowKit

theorem getD_map (l : List UInt8) (i : Nat) (h : i < l.length) : (l.map cellU)[i]? = some (cellU (l.getD i 0)) := by
  simp [List.getD, h]

theorem xor_u8 (b x : UInt8) : bits .xor .u8 (b.toNat : Int) (x.toNat : Int) = ((b ^^^ x).toNat : Int) := by
  rw [u8_xor_nat _ _ b.toNat_lt x.toNat_lt]
  simp

/-- string(b) of a row that lies in w, in every later world. -/
theorem Bys.later {w : World} {a : Addr} {l : List UInt8} {n : Nat} (hn : l.length = n) (cap : Nat) (h : Bys w (some a) l) (u : Later w) :
    (convert 28 9 (.slice (some a) n cap)).run Try.prog u.w = .ok (.string ⟨l.toArray⟩) u.w := by
  subst hn
  exact (h.below u.below).conv cap
theorem Bys.now {w : World} {a : Addr} {l : List UInt8} {n : Nat} (hn : l.length = n) (cap : Nat) (h : Bys w (some a) l) :
    (convert 28 9 (.slice (some a) n cap)).run Try.prog w = .ok (.string ⟨l.toArray⟩) w := by
  subst hn
  exact h.conv cap
theorem Bys.at {w : World} {b off : Nat} {l : List UInt8} (h : Bys w (some ⟨b, off, none⟩) l) (i : Nat) (hi : i < l.length) : w.cell? ⟨b, off + i, none⟩ = some (.int .u8 ((l.getD i 0).toNat : Int)) := by
  rcases h with rfl | ⟨b', off', hab, hc⟩
  · simp at hi
  · cases hab
    exact hc i hi
theorem ownedU' {w : World} {base g n c : Nat} {l : List UInt8} (h : w.ownsRow base 5 1 (.slice (some ⟨g, 0, none⟩) n c) n (l.map cellU)) (h0 : 0 < n) : Bys w (some ⟨g, 0, none⟩) l := by
  obtain ⟨g', c', e, _, _, hb⟩ := ownedU h h0
  cases e
  exact hb

/-- What the two tests say. -/
theorem tells_facts (l : List UInt8) (k : Nat) (hk : k + 1 < l.length) (X P R Y : UInt8) (hP : l.getD k 0 = P) (hR : l.getD (k + 1) 0 = R) (hY : P ^^^ X = Y) :
    ((lets ⟨(l.set k Y).toArray⟩).toList == (lets ⟨l.toArray⟩).toList) = decide (X = 0) ∧ ((X.toNat : Int) == 0) = decide (X = 0) ∧
    ((lets ⟨((l.set k R).set (k + 1) P).toArray⟩).toList == (lets ⟨l.toArray⟩).toList) = decide (P = R) ∧ ((P.toNat : Int) == (R.toNat : Int)) = decide (P = R) := by
  have eP : l[k] = P := by rw [← hP]; simp [List.getD, (by omega : k < l.length)]
  have eR : l[k + 1] = R := by rw [← hR]; simp [List.getD, hk]
  refine ⟨?_, ?_, ?_, ?_⟩
  · rw [Bool.eq_iff_iff, beq_iff_eq, decide_eq_true_iff, lets_same, num_change l k (by omega), eP, ← hY, xor_same]
  · rw [Bool.eq_iff_iff, beq_iff_eq, decide_eq_true_iff, ← UInt8.toNat_inj]
    have : (0 : UInt8).toNat = 0 := rfl
    omega
  · have := num_exchange l k hk
    rw [eP, eR] at this
    rw [Bool.eq_iff_iff, beq_iff_eq, decide_eq_true_iff, lets_same, this]
  · rw [Bool.eq_iff_iff, beq_iff_eq, decide_eq_true_iff, ← UInt8.toNat_inj]
    omega

/-- One byte of an owned row is written: that row, and another one. -/
theorem storedU {w : World} {base g n c : Nat} {l : List UInt8} (h : w.ownsRow base 5 1 (.slice (some ⟨g, 0, none⟩) n c) n (l.map cellU)) (k : Nat) (y : UInt8) :
    (w.setCell ⟨g, k, none⟩ (.int .u8 (y.toNat : Int))).ownsRow base 5 1 (.slice (some ⟨g, 0, none⟩) n c) n ((l.set k y).map cellU) := by
  have := (h.stored k (cellU y)).1
  rw [← List.map_set] at this
  exact this
theorem storedU_other {w : World} {base base' g g' n n' c c' : Nat} {l l' : List UInt8} (h : w.ownsRow base 5 1 (.slice (some ⟨g, 0, none⟩) n c) n (l.map cellU)) (h' : w.ownsRow base' 5 1 (.slice (some ⟨g', 0, none⟩) n' c') n' (l'.map cellU)) (hne : g ≠ g') (k : Nat) (y : UInt8) :
    (w.setCell ⟨g', k, none⟩ (.int .u8 (y.toNat : Int))).ownsRow base 5 1 (.slice (some ⟨g, 0, none⟩) n c) n (l.map cellU) :=
  h.kept (h'.stored k (cellU y)).2 (.inr fun e => hne (Option.some.inj e))
theorem cellAtU {w : World} {base g n c : Nat} {l : List UInt8} (h : w.ownsRow base 5 1 (.slice (some ⟨g, 0, none⟩) n c) n (l.map cellU)) (k : Nat) (hk : k < n) : w.cell? ⟨g, k, none⟩ = some (.int .u8 ((l.getD k 0).toNat : Int)) := by
  have h1 := h.1
  rw [List.length_map, Nat.mul_one] at h1
  rw [h.cellAt k (by omega), getD_map l k (by omega)]
  rfl

set_option maxRecDepth 100000 in
set_option maxHeartbeats 4000000 in
theorem tells_rest (b off len cap : Nat) (l : List UInt8) (a1 : Int) (X : UInt8) (w : World) (HL : Hid (l.length = len)) (h2 : 2 ≤ len) (h3 : len ≤ 1000) (HB : Hid (Bys w (some ⟨b, off, none⟩) l))
    (k : Nat) (hk : wrap64 ((IntKind.u64.wrap a1).tmod ((len : Int) - 1)) = k) (hk1 : k + 1 < len) :
    Calls Try.prog 5 #[.slice (some ⟨b, off, none⟩) len cap, .int .i64 a1, .int .u8 (X.toNat : Int)] w fun e w' => e = .returned (.bool true) ∧ Below w.heap.size w w' := by
  obtain ⟨P, hP⟩ : ∃ P, l.getD k 0 = P := ⟨_, rfl⟩
  obtain ⟨Y, hY⟩ : ∃ Y, P ^^^ X = Y := ⟨_, rfl⟩
  have hxo : bits .xor .u8 (P.toNat : Int) (X.toNat : Int) = (Y.toNat : Int) := by rw [xor_u8, hY]
  obtain ⟨R, hR⟩ : ∃ R, l.getD (k + 1) 0 = R := ⟨_, rfl⟩
  have HP : Hid _ := hP
  have HR : Hid _ := hR
  have HY : Hid _ := hY
  clear hP hY hR
  go_enter Try.func5, Try.ntmps5
  go_wp2_with (first
    | (at_builtin; refine append_fresh rfl (.tmp 27) (.tmp 28) rfl rfl _ _ _ l HL.out rfl HB.out (by omega) (by omega) ?_; intro gA cA w1 hgA hgA' o1 hB1 g1)
    | (at_builtin; refine append_fresh rfl (.tmp 30) (.tmp 31) rfl rfl _ _ _ l HL.out rfl (HB.out.below hB1) (by omega) (by omega) ?_; intro gB cB w2 hgB hgB' o2 hB2 g2; have oA := owned_stays o1 g2; have cA2 := cellAtU oA k (by omega); rw [HP.out] at cA2; have fA2 := oA.frozenAt k))
  have oA3 := storedU oA k Y
  have oB3 := storedU_other o2 oA (by omega) k Y
  have hB3 : Below w.heap.size w (w2.setCell ⟨gA, k, none⟩ (.int .u8 (Y.toNat : Int))) := (bel_on hB1 hB2).setCell (p := ⟨gA, k, none⟩) hgA _
  generalize hW : w2.setCell ⟨gA, k, none⟩ (.int .u8 (Y.toNat : Int)) = W at oA3 oB3 hB3 ⊢
  have cB0 := cellAtU oB3 k (by omega)
  have cB1 := cellAtU oB3 (k + 1) (by omega)
  rw [HP.out] at cB0
  rw [HR.out] at cB1
  have fB0 := oB3.frozenAt k
  have fB1 := oB3.frozenAt (k + 1)
  clear hW cA2 fA2 g1 g2 o1 oA
  have hi0 : (0 : Int) ≤ (k : Int) ∧ (k : Int) < (len : Int) := by omega
  have hi1 : (0 : Int) ≤ (k : Int) + 1 ∧ (k : Int) + 1 < (len : Int) := by omega
  have ik : ((k : Int) + 1).toNat = k + 1 := by omega
  go_region
  have oB4 := storedU (storedU oB3 k R) (k + 1) P
  have oA4 := storedU_other (storedU_other oA3 oB3 (by omega) k R) (storedU oB3 k R) (by omega) (k + 1) P
  have hB4 := (((hB3.setCell (p := ⟨gB, k, none⟩) (Nat.le_trans hB1.size hgB) (.int .u8 (R.toNat : Int))).setCell (p := ⟨gB, k + 1, none⟩) (Nat.le_trans hB1.size hgB) (.int .u8 (P.toNat : Int)))).drew
  have oA5 : (((W.setCell ⟨gB, k, none⟩ (.int .u8 (R.toNat : Int))).setCell ⟨gB, k + 1, none⟩ (.int .u8 (P.toNat : Int))).drew).ownsRow _ _ _ _ _ _ := oA4
  have oB5 : (((W.setCell ⟨gB, k, none⟩ (.int .u8 (R.toNat : Int))).setCell ⟨gB, k + 1, none⟩ (.int .u8 (P.toNat : Int))).drew).ownsRow _ _ _ _ _ _ := oB4
  generalize hV : ((W.setCell ⟨gB, k, none⟩ (.int .u8 (R.toNat : Int))).setCell ⟨gB, k + 1, none⟩ (.int .u8 (P.toNat : Int))).drew = V at oA5 oB5 hB4 ⊢
  clear hV oA4 oB4 cB0 cB1 fB0 fB1 oA3 oB3 hB3 hi0 hi1 ik
  obtain ⟨hq1, hq2, hq3, hq4⟩ := tells_facts l k (by have := HL.out; omega) X P R Y HP.out HR.out HY.out
  have bS := HB.out.below hB4
  have bA := ownedU' oA5 (by omega)
  have bB := ownedU' oB5 (by omega)
  have lA : (l.set k Y).length = len := by rw [List.length_set]; exact HL.out
  have lB : ((l.set k R).set (k + 1) P).length = len := by rw [List.length_set, List.length_set]; exact HL.out
  have vS := bS.now HL.out cap
  have zS : (⟨l.toArray⟩ : ByteArray).size ≤ maxLen := by rw [Lib.size_eq]; have := HL.out; unfold maxLen; simp; omega
  have zA : (⟨(l.set k Y).toArray⟩ : ByteArray).size ≤ maxLen := by rw [Lib.size_eq]; have := HL.out; unfold maxLen; simp; omega
  have zB : (⟨((l.set k R).set (k + 1) P).toArray⟩ : ByteArray).size ≤ maxLen := by rw [Lib.size_eq]; have := HL.out; unfold maxLen; simp; omega
  go_wp2_with (go_at_call 12; refine (letters_any _ _ zS).mono ?_; rintro e w3 ⟨rfl, hb3⟩)
  have vA := (bA.below hb3).later lA cA
  have vB := (bB.below hb3).later lB cB
  have cS0 := Later.cell ((bS.below hb3).at k (by have := HL.out; omega))
  have cS1 := Later.cell ((bS.below hb3).at (k + 1) (by have := HL.out; omega))
  rw [HP.out] at cS0
  rw [HR.out] at cS1
  generalize (⟨(l.set k Y).toArray⟩ : ByteArray) = SA at vA zA hq1
  generalize (⟨((l.set k R).set (k + 1) P).toArray⟩ : ByteArray) = SB at vB zB hq3
  generalize (⟨l.toArray⟩ : ByteArray) = SS at hq1 hq3 ⊢
  generalize decide (X = 0) = c1 at hq1 hq2
  generalize decide (P = R) = c2 at hq3 hq4
  clear bA bB bS lA lB vS zS oA5 oB5 o2 HY HP HR hxo hk HB HL
  have hne : Nonempty (Later w3) := ⟨Later.now w3⟩
  have hi0 : (0 : Int) ≤ (k : Int) ∧ (k : Int) < (len : Int) := by omega
  have hi1 : (0 : Int) ≤ (k : Int) + 1 ∧ (k : Int) + 1 < (len : Int) := by omega
  have ik : ((k : Int) + 1).toNat = k + 1 := by omega
  refine region_later (by kernel_rfl) (by kernel_rfl) ?_
  repeat (first | go_big_quiet_step (first | (go_at_call_of 12 (Value.string SA); exact calls_later _ (letters_any _ _ zA)) | (go_at_call_of 12 (Value.string SB); exact calls_later _ (letters_any _ _ zB)) | (go_at_call 9; exact calls_later _ (awake_any _))) | quiet_step (first | (go_at_call_of 12 (Value.string SA); exact calls_later _ (letters_any _ _ zA)) | (go_at_call_of 12 (Value.string SB); exact calls_later _ (letters_any _ _ zB)) | (go_at_call 9; exact calls_later _ (awake_any _))))
  refine wpQuiet_nil ?_
  intro u
  go_wp2
  go_ret
  exact ⟨rfl, bel_on (bel_on hB4 hb3) u.below⟩

theorem u8_of {n : Int} (h : (Lit.int .u8 n).wf = true) : ((UInt8.ofNat n.toNat).toNat : Int) = n := by
  simp only [Lit.wf, Bool.and_eq_true, decide_eq_true_eq] at h
  have h1 : IntKind.u8.min = 0 := rfl
  have h2 : IntKind.u8.max = 255 := rfl
  rw [h1, h2] at h
  simp
  omega

theorem IsRow.bytes {w : World} {a : Option Addr} {len cap : Nat} {zs : List Int} (h : IsRow .u8 w a len cap zs) (h0 : 0 < len) : ∃ (b off : Nat) (l : List UInt8), a = some ⟨b, off, none⟩ ∧ l.length = len ∧ Bys w a l := by
  rcases h with ⟨_, rfl, _, _⟩ | ⟨x, rfl, h1, h2, h3, h4, h5⟩
  · omega
  · obtain ⟨b, off, rfl, hc⟩ := ints_at h4 (by omega)
    refine ⟨b, off, (zs.take len).map fun n => UInt8.ofNat n.toNat, rfl, by simp; omega, .inr ⟨b, off, rfl, fun i hi => ?_⟩⟩
    have hi1 : i < len := by simp at hi; omega
    have hi2 : i < zs.length := by simp at hi; omega
    rw [hc i hi2]
    have hw := u8_of (h5 zs[i] (List.getElem_mem hi2))
    simp only [List.getD, List.getElem?_map, List.getElem?_take, if_pos hi1, List.getElem?_eq_getElem hi2, Option.map_some, Option.getD_some]
    rw [hw]

theorem checkTells_walk (a0 : Option Addr) (len0 cap0 : Nat) (z0 : List Int) (a1 : Int) (a2 : Int) (w : World) (w0 : IsRow .u8 w a0 len0 cap0 z0) (_w1 : (Lit.int .i64 a1).wf = true) (w2 : (Lit.int .u8 a2).wf = true) :
    Calls Try.prog 5 #[.slice a0 len0 cap0, .int .i64 a1, .int .u8 a2] w fun e w' => e = .returned (.bool true) ∧ Below w.heap.size w w' := by
  by_cases h2 : (len0 : Int) < 2
  · clear w0 w2
    go_enter Try.func5, Try.ntmps5
    go_wp2_with (go_at_call 9; refine (awake_any _).mono ?_; rintro e w1 ⟨rfl, hb1⟩)
    go_ret
    exact ⟨rfl, hb1⟩
  by_cases h3 : (len0 : Int) > 1000
  · clear w0 w2
    go_enter Try.func5, Try.ntmps5
    go_wp2_with (go_at_call 9; refine (awake_any _).mono ?_; rintro e w1 ⟨rfl, hb1⟩)
    go_ret
    exact ⟨rfl, hb1⟩
  obtain ⟨b, off, l, rfl, hl, hb⟩ := w0.bytes (by omega)
  obtain ⟨b0, b1⟩ := um_bd a1 ((len0 : Int) - 1) (by omega) (by omega)
  obtain ⟨k, hk⟩ : ∃ k : Nat, um a1 ((len0 : Int) - 1) = k := ⟨(um a1 ((len0 : Int) - 1)).toNat, by omega⟩
  rw [← u8_of w2]
  exact tells_rest b off len0 cap0 l a1 _ w hl (by omega) (by omega) hb k hk (by omega)
end Go.Proofs.Ytolbfdngjkajgaa
