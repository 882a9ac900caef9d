/-
  Contracts: journal.entries, its iterator.
-/
import Derived.Test.YtdbmnjodkpeobaaGreatDoorBd9
import Derived.RangeFuncNested
import Derived.RangeFuncBound
import Derived.RangeFuncCalls
import Derived.RangeFuncLeaves
import Derived.RangeFuncBox
import Derived.Shelf.Abstract
import Derived.Shelf.AbstractIn
import Derived.Shelf.RegionOpen
import Derived.OwnWalkIn
import Derived.TacticsInMore
import Derived.LoopNIn
import Derived.LoopIn
namespace Go.Proofs.YtdbmnjodkpeobaaGreatDoor
open Go.ChangeShapes Go.WideShapes Go.ChangeAt Go.RowKit Go.Shelf

attribute [local go_sem] Oper.semAt_some

/-- A text that is some entry's line. -/
def Ok (s : ByteArray) : Prop := ∃ k id l, ParseR s k id l 0
/-- So many lines, from the first one on, are entries. -/
def wholeD (d : ∀ s, Decidable (Ok s)) : List ByteArray → Nat
  | [] => 0
  | s :: r => @ite Nat (Ok s) (d s) (wholeD d r + 1) 0

theorem whole_le : ∀ L : List ByteArray, (wholeD fun s => Classical.propDecidable (Ok s)) L ≤ L.length
  | [] => Nat.le_refl _
  | s :: r => by
    unfold wholeD
    have := whole_le r
    split <;> simp <;> omega
theorem whole_ge : ∀ (L : List ByteArray) (n : Nat), n ≤ L.length → (∀ i, i < n → Ok (L.getD i ByteArray.empty)) → n ≤ (wholeD fun s => Classical.propDecidable (Ok s)) L
  | [], n, h, _ => by simp at h; omega
  | s :: r, 0, _, _ => Nat.zero_le _
  | s :: r, n + 1, h, ho => by
    have h0 := ho 0 (by omega)
    simp at h0
    unfold wholeD
    rw [if_pos h0]
    have := whole_ge r n (by simpa using h) (fun i hi => by have := ho (i + 1) (by omega); simpa using this)
    omega
theorem whole_stop : ∀ (L : List ByteArray) (n : Nat), n < L.length → ¬ Ok (L.getD n ByteArray.empty) → (wholeD fun s => Classical.propDecidable (Ok s)) L ≤ n
  | [], n, h, _ => by simp at h
  | s :: r, 0, _, hn => by
    simp at hn
    unfold wholeD
    rw [if_neg hn]
    omega
  | s :: r, n + 1, h, hn => by
    unfold wholeD
    have := whole_stop r n (by simpa using h) (by simpa using hn)
    split <;> omega

/-- An entry as a value: what it says, and where its numbers lie. -/
structure Ev where
  k : ByteArray
  id : Int
  l : List Int
  av : Option Addr
  cv : Nat
def Ev.enc (x : Ev) : Value := .agg #[.string x.k, .int .i64 x.id, .slice x.av x.l.length x.cv]
def Good (B : Nat) (x : Ev) (W : World) : Prop := IntsF B W x.av x.l ∧ x.l.length ≤ 1000 ∧ x.l.length ≤ x.cv
/-- The entries xs stand in the lines L, from the first one on. -/
def Rd (xs : List Ev) (L : List ByteArray) : Prop := ∀ i x, xs[i]? = some x → ParseR (L.getD i ByteArray.empty) x.k x.id x.l 0
theorem Rd.nil (L : List ByteArray) : Rd [] L := fun i x h => by simp at h
theorem Rd.snoc {xs : List Ev} {L : List ByteArray} (h : Rd xs L) {x : Ev} (hx : ParseR (L.getD xs.length ByteArray.empty) x.k x.id x.l 0) : Rd (xs ++ [x]) L := by
  intro i y hy
  by_cases hi : i < xs.length
  · rw [List.getElem?_append_left hi] at hy
    exact h i y hy
  · rw [List.getElem?_append_right (by omega)] at hy
    have : i - xs.length = 0 := by
      by_cases h0 : i - xs.length = 0
      · exact h0
      · rw [List.getElem?_eq_none (by simp; omega)] at hy; cases hy
    rw [this] at hy
    simp at hy
    subst hy
    rw [show i = xs.length by omega]
    exact hx
theorem Rd.ok {xs : List Ev} {L : List ByteArray} (h : Rd xs L) : ∀ i, i < xs.length → Ok (L.getD i ByteArray.empty) := fun i hi => ⟨_, _, _, h i xs[i] (by simp [hi])⟩

/-- The lines lie in a block between n₀ and n₁. -/
def LinesAt (n₀ n₁ : Nat) (W : World) (a : Option Addr) (L : List ByteArray) : Prop :=
  L = [] ∨ ∃ b off, a = some ⟨b, off, none⟩ ∧ (n₀ ≤ b ∧ b < n₁) ∧ ∀ i, i < L.length → W.cell? ⟨b, off + i, none⟩ = some (.string (L.getD i ByteArray.empty))
/-- What a round must keep: what lay below B, and what lies between n₀ and n₁. -/
def Keep (B n₀ n₁ : Nat) (W W' : World) : Prop := Below B W W' ∧ ∀ k, n₀ ≤ k → k < n₁ → W'.heap[k]? = W.heap[k]?
theorem Keep.refl (B n₀ n₁ : Nat) (W : World) : Keep B n₀ n₁ W W := ⟨Below.refl _ _, fun _ _ _ => rfl⟩
theorem Keep.trans {B n₀ n₁ : Nat} {X Y Z : World} (h : Keep B n₀ n₁ X Y) (k : Keep B n₀ n₁ Y Z) : Keep B n₀ n₁ X Z := ⟨h.1.trans k.1, fun i h0 h1 => (k.2 i h0 h1).trans (h.2 i h0 h1)⟩
theorem Keep.of_below {B n₀ n₁ : Nat} {W W' : World} (h : Below W.heap.size W W') (hB : B ≤ W.heap.size) (h1 : n₁ ≤ W.heap.size) : Keep B n₀ n₁ W W' := ⟨h.mono hB, fun k _ hk => h.block k (by omega)⟩
theorem LinesAt.keep {B n₀ n₁ : Nat} {W W' : World} {a : Option Addr} {L : List ByteArray} (h : LinesAt n₀ n₁ W a L) (hk : Keep B n₀ n₁ W W') : LinesAt n₀ n₁ W' a L := by
  rcases h with h | ⟨b, off, ha, hb, hc⟩
  · exact .inl h
  · refine .inr ⟨b, off, ha, hb, fun i hi => ?_⟩
    rw [World.cell?_of_block (hk.2 b hb.1 hb.2)]
    exact hc i hi

theorem ok_parse {s k : ByteArray} {id : Int} {l : List Int} {er : Int} (h : ParseR s k id l er) (he : er ≠ 0) : ¬ Ok s := by
  rintro ⟨k', id', l', h'⟩
  obtain ⟨_, _, _, e⟩ := h.uniq h'
  exact he e

set_option maxRecDepth 100000 in
set_option maxHeartbeats 2000000 in
theorem entries1_in (n : Nat) (hn : 1 ≤ n) (l Bs n₀ n₁ : Nat) (w0 : World) (hg0 : Gl w0) (a : Option Addr) (c : Nat) (L : List ByteArray) (hl : L.length ≤ 4096) (hx : ∀ x ∈ L, x.size ≤ 63) (J Jx : List Ev → World → Prop)
    (hJa : ∀ s W W', J s W → Below W.heap.size W W' → J s W')
    (hY : ∀ pre x W1, J pre W1 → pre.length < L.length → (Good n₁ x W1 ∧ ParseR (L.getD pre.length ByteArray.empty) x.k x.id x.l 0) → YieldAt Fence.wide (n - 1) Tryz.prog l #[x.enc] W1 fun e W' =>
      (e = .returned (.bool true) ∧ J (pre ++ [x]) W' ∧ Keep w0.heap.size n₀ n₁ W1 W') ∨ (e = .returned (.bool false) ∧ Jx (pre ++ [x]) W'))
    (W : World) (hBs : W.cell? ⟨Bs, 0, none⟩ = some (.slice a L.length c)) (hS : LinesAt n₀ n₁ W a L) (hW : Below w0.heap.size w0 W) (h1 : n₁ ≤ W.heap.size) (h0 : J [] W) :
    CallsIn Fence.wide n Tryz.prog 59 #[.func (.yield l) #[] #[], .pointer (some ⟨Bs, 0, none⟩)] W fun e W' => (∃ v, e = .returned v) ∧
      ((∃ ys, (ys.length = (wholeD fun s => Classical.propDecidable (Ok s)) L ∧ Rd ys L) ∧ J ys W') ∨ (∃ pre, (1 ≤ pre.length ∧ pre.length ≤ (wholeD fun s => Classical.propDecidable (Ok s)) L ∧ Rd pre L) ∧ Jx pre W')) := by
  refine callsIn_of_wp Tryz.func59 rfl trivial ?_ rfl
  simp only [Tryz.ntmps59, List.size_toArray, List.length_cons, List.length_nil, Nat.reduceAdd, Nat.reduceSub, Array.replicate_succ, Array.replicate_zero, List.push_toArray, List.append_toArray, List.nil_append, List.cons_append]
  have HJa : Hid (∀ s W W', J s W → Below W.heap.size W W' → J s W') := hJa
  have HY : Hid _ := hY
  have HG : Hid (Gl w0) := hg0
  have HX : Hid (∀ x ∈ L, x.size ≤ 63) := hx
  have HS : Hid (LinesAt n₀ n₁ W a L) := hS
  have HW : Hid (Below w0.heap.size w0 W) := hW
  have HJ0 : Hid (J [] W) := h0
  clear hJa hY hg0 hx hS hW h0
  have hnf : ∀ u : World, (binOp BinOp.eql 91 (.func (.yield l) #[] #[]) .nilFunc).run Tryz.prog u = .ok (.bool false) u := fun _ => by kernel_rfl
  gi_wp2
  gi_loopw [11] (fun i wr => ∃ pre : List Ev, i = .int .i64 pre.length ∧ pre.length ≤ L.length ∧ Hid (J pre wr) ∧ Hid (Rd pre L) ∧ Hid (Below w0.heap.size w0 wr) ∧ Hid (LinesAt n₀ n₁ wr a L) ∧ n₁ ≤ wr.heap.size) (fun i _ => L.length - (intOf i).toNat)
  case atStart => exact ⟨[], rfl, Nat.zero_le _, HJ0, Rd.nil L, HW, HS, h1⟩
  case round =>
    obtain ⟨pre, rfl, hp, HJ, HR, HB, HLA, hn1⟩ := hrel
    by_cases hlt : pre.length < L.length
    · obtain ⟨s, hs⟩ : ∃ s, L.getD pre.length ByteArray.empty = s := ⟨_, rfl⟩
      obtain ⟨b, off, rfl, hcx⟩ : ∃ b off, a = some ⟨b, off, none⟩ ∧ wr.cell? ⟨b, off + pre.length, none⟩ = some (.string s) := by
        rcases HLA.out with h | ⟨b, off, h2, _, h3⟩
        · subst h; simp at hlt
        · exact ⟨b, off, h2, by rw [← hs]; exact h3 _ hlt⟩
      have HSS : Hid (s.size ≤ 140737488355328) := by
        show s.size ≤ _
        have := HX.out s (by rw [← hs]; simp [List.getD, hlt])
        omega
      have HSE : Hid (L.getD pre.length ByteArray.empty = s) := hs
      clear hs
      gi_wp2_with fail
      refine ⟨trivial, (callsIn_wide.2 (parse_anyF s wr HSS.out (HG.out.on HB.out))).mono ?_⟩
      rintro e w4 ⟨k, id, l', av, cv, er, rfl, hin, hll, hpr, hb4⟩
      obtain ⟨V, hV⟩ : ∃ V, V = w4.alloc (.cells #[.string k, .int .i64 id, .slice av l'.length cv] 70) := ⟨_, rfl⟩
      have hbV : Below wr.heap.size wr V := by rw [hV]; exact hb4.alloc hb4.size _
      have hJV : J pre V := HJa.out _ _ _ HJ.out hbV
      have HBV : Hid (Below w0.heap.size w0 V) := bel_on' HB.out hbV
      have HKV : Hid (Keep w0.heap.size n₀ n₁ wr V) := Keep.of_below hbV HB.out.size hn1
      have hn1V : n₁ ≤ V.heap.size := Nat.le_trans hn1 hbV.size
      by_cases her : er = 0
      · subst her
        have hgx : Good n₁ ⟨k, id, l', av, cv⟩ V := ⟨by rw [hV]; exact (hin.lower hn1).below ((Below.refl _ _).alloc (Nat.le_refl _) _), hll⟩
        have HRX : Hid (Rd (pre ++ [⟨k, id, l', av, cv⟩]) L) := HR.out.snoc (by rw [HSE.out]; exact hpr)
        obtain ⟨fn, tmps, assign, body, hy, hR⟩ := HY.out pre ⟨k, id, l', av, cv⟩ V hJV hlt ⟨hgx, by rw [HSE.out]; exact hpr⟩
        dsimp only [Ev.enc] at hy
        rw [hV] at hy hR
        clear hgx hin hll hpr hb4
        gi_wp2
        refine hR.mono ?_
        rintro e W3 (⟨rfl, hJ3, hk3⟩ | ⟨rfl, hJx3⟩)
        · rw [← hV] at hk3
          have HK3 : Hid (Keep w0.heap.size n₀ n₁ wr W3) := HKV.out.trans hk3
          have HB3 : Hid (Below w0.heap.size w0 W3) := HB.out.trans HK3.out.1
          have hn3 : n₁ ≤ W3.heap.size := Nat.le_trans hn1V hk3.1.size
          have HJ3 : Hid _ := hJ3
          clear hJ3 hk3 hR
          gi_wp2
          go_roundw
          case rel => exact ⟨pre ++ [⟨k, id, l', av, cv⟩], by simp, by simp; omega, HJ3, HRX, HB3, HLA.out.keep HK3.out, hn3⟩
          case measure => simp [intOf]; omega
        · gi_wp2
          refine bodyPost_ret (results_none rfl _ _ _) rfl ?_
          exact ⟨⟨_, rfl⟩, .inr ⟨pre ++ [⟨k, id, l', av, cv⟩], ⟨by simp, whole_ge L _ (by simp; omega) HRX.out.ok, HRX.out⟩, hJx3⟩⟩
      · have q0 : (er != 0) = true := by simpa using her
        have HWH : Hid (pre.length = (wholeD fun s => Classical.propDecidable (Ok s)) L) := by
          show pre.length = (wholeD fun s => Classical.propDecidable (Ok s)) L
          have h1 := whole_ge L pre.length hp HR.out.ok
          have h2 := whole_stop L pre.length hlt (by rw [HSE.out]; exact ok_parse hpr her)
          omega
        have HJV : Hid (J pre V) := hJV
        rw [hV] at HJV
        clear hin hll hpr hb4 hJV
        gi_wp2
        refine ⟨fun _ h => (by cases h), ?_⟩
        gi_wp2
        refine bodyPost_ret (results_none rfl _ _ _) rfl ?_
        exact ⟨⟨_, rfl⟩, .inl ⟨pre, ⟨HWH.out, HR.out⟩, HJV.out⟩⟩
    · have en : pre.length = L.length := by omega
      have HWH : Hid (pre.length = (wholeD fun s => Classical.propDecidable (Ok s)) L) := by
        show pre.length = (wholeD fun s => Classical.propDecidable (Ok s)) L
        have h1 := whole_ge L pre.length hp HR.out.ok
        have h2 := whole_le L
        omega
      gi_wp2
      go_end0
      exact ⟨⟨_, rfl⟩, .inl ⟨pre, ⟨HWH.out, HR.out⟩, HJ.out⟩⟩
end Go.Proofs.YtdbmnjodkpeobaaGreatDoor
