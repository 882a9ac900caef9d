/-
  Own texts put together: JrnF, JrnG.
-/
import Derived.Test.YtdbmnjodkpeobaaGreatDoorJrnE
/-
  Contracts: journal.entries, All: what it hands back goes over the entries.
-/
namespace Go.Proofs.YtdbmnjodkpeobaaGreatDoor
open Go.ChangeShapes Go.WideShapes Go.ChangeAt Go.RowKit Go.Shelf

attribute [local go_sem] Oper.semAt_some

theorem entries_in (n : Nat) (a : Option Addr) (m c : Nat) (w : World) :
    CallsIn Fence.wide n Tryz.prog 46 #[.slice a m c] w fun e w' => e = .returned (.func (.func 59) #[] #[.pointer (some ⟨w.heap.size, 0, none⟩)]) ∧ w' = w.alloc (.cells #[.slice a m c] 45) := by
  refine callsIn_of_wp Tryz.func46 rfl trivial ?_ rfl
  simp only [Tryz.ntmps46, List.size_toArray, List.length_cons, List.length_nil, Nat.reduceAdd, Nat.reduceSub, Array.replicate_succ, Array.replicate_zero, List.push_toArray, List.append_toArray, List.nil_append, List.cons_append]
  gi_wp2
  go_ret
  exact ⟨rfl, rfl⟩

theorem linesAt_of {w w1 : World} {a : Option Addr} {c : Nat} {L : List ByteArray} (h : w1.ownsRow w.heap.size 9 1 (.slice a L.length c) L.length (L.map Value.string)) : LinesAt w.heap.size w1.heap.size w1 a L := by
  obtain ⟨a', c', e, h1, h2, h3⟩ := owned_strs h
  cases e
  rcases h3 with h3 | ⟨b, off, rfl, hc⟩
  · exact .inl h3
  · have := h.lt b (by simp [Value.ownBlock])
    exact .inr ⟨b, off, rfl, this, hc⟩

/-- What All hands back: a function that goes over the lines L, which lie in blocks made since. -/
def AllR (w : World) (L : List ByteArray) (e : Ending) (w' : World) : Prop :=
  ∃ a c Bs, e = .returned (.func (.func 59) #[] #[.pointer (some ⟨Bs, 0, none⟩)]) ∧ w'.cell? ⟨Bs, 0, none⟩ = some (.slice a L.length c) ∧ LinesAt w.heap.size w'.heap.size w' a L ∧ (w.heap.size ≤ Bs ∧ Bs < w'.heap.size) ∧ Below w.heap.size w w'

theorem allR_of {w w1 : World} {a : Option Addr} {c : Nat} {L : List ByteArray} (h : LinesAt w.heap.size w1.heap.size w1 a L) (hb : Below w.heap.size w w1) :
    AllR w L (.returned (.func (.func 59) #[] #[.pointer (some ⟨w1.heap.size, 0, none⟩)])) (w1.alloc (.cells #[.slice a L.length c] 45)) := by
  refine ⟨a, c, w1.heap.size, rfl, by simp, ?_, ⟨hb.size, by simp⟩, hb.alloc hb.size _⟩
  have hk : Keep 0 w.heap.size w1.heap.size w1 (w1.alloc (.cells #[.slice a L.length c] 45)) := Keep.of_below ((Below.refl _ _).alloc (Nat.le_refl _) _) (Nat.zero_le _) (Nat.le_refl _)
  rcases h.keep hk with h | ⟨b, off, ha, hb', hc⟩
  · exact .inl h
  · exact .inr ⟨b, off, ha, ⟨hb'.1, by simp; omega⟩, hc⟩

theorem all_in (n : Nat) (hn : 1 ≤ n) {B : Nat} {w : World} {p : Nat} {v : Value} {room : Int} {L : List ByteArray} {sure : Nat} {down : Bool} (h : Jr B w p v room L sure down) :
    CallsIn Fence.wide n Tryz.prog 28 #[.pointer (some ⟨p, 0, none⟩)] w (AllR w L) := by
  have HL := lines_any h
  refine callsIn_of_wp Tryz.func28 rfl trivial ?_ rfl
  simp only [Tryz.ntmps28, List.size_toArray, List.length_cons, List.length_nil, Nat.reduceAdd, Nat.reduceSub, Array.replicate_succ, Array.replicate_zero, List.push_toArray, List.append_toArray, List.nil_append, List.cons_append]
  gi_wp2_with fail
  refine ⟨trivial, (callsIn_wide.2 HL).mono ?_⟩
  rintro e w1 ⟨a, c, rfl, ho, hb⟩
  have HLA : Hid _ := linesAt_of ho
  have HB : Hid (Below w.heap.size w w1) := hb
  clear ho hb HL
  gi_wp2_with fail
  refine ⟨trivial, (entries_in (n - 1) a L.length c w1).mono ?_⟩
  rintro e w2 ⟨rfl, rfl⟩
  gi_wp2
  go_ret
  exact allR_of HLA.out HB.out

theorem all_nil_in (n : Nat) (hn : 1 ≤ n) (w : World) :
    CallsIn Fence.wide n Tryz.prog 28 #[.pointer none] w (AllR w []) := by
  have HL := lines_nil w
  refine callsIn_of_wp Tryz.func28 rfl trivial ?_ rfl
  simp only [Tryz.ntmps28, List.size_toArray, List.length_cons, List.length_nil, Nat.reduceAdd, Nat.reduceSub, Array.replicate_succ, Array.replicate_zero, List.push_toArray, List.append_toArray, List.nil_append, List.cons_append]
  gi_wp2_with fail
  refine ⟨trivial, (callsIn_wide.2 HL).mono ?_⟩
  rintro e w1 ⟨rfl, hb⟩
  have HB : Hid (Below w.heap.size w w1) := hb
  clear hb HL
  gi_wp2_with fail
  refine ⟨trivial, (entries_in (n - 1) none 0 0 w1).mono ?_⟩
  rintro e w2 ⟨rfl, rfl⟩
  gi_wp2
  go_ret
  exact allR_of (L := []) (.inl rfl) HB.out

theorem abides {J : List Ev → World → Prop} {X : Nat} (h : AbidesFrom X J) : ∀ s W W', J s W → Below W.heap.size W W' → J s W' :=
  fun s W W' hs hb => h s W W' none hs ⟨hb.os, hb.tape, hb.output, hb.size, fun k hk _ => hb.block k hk⟩ (fun r e => by cases e)

/-- The kit's form of the iterator's contract. -/
theorem entries_stops (n : Nat) (hn : 1 ≤ n) (Bs n₀ n₁ : Nat) (w0 : World) (hg0 : Gl w0) (a : Option Addr) (c : Nat) (L : List ByteArray) (hl : L.length ≤ 4096) (hx : ∀ x ∈ L, x.size ≤ 63) (w : World)
    (hBs : w.cell? ⟨Bs, 0, none⟩ = some (.slice a L.length c)) (hS : LinesAt n₀ n₁ w a L) (hW : Below w0.heap.size w0 w) (h1 : n₁ ≤ w.heap.size) :
    SeqStopsK Fence.wide n Tryz.prog 59 #[.pointer (some ⟨Bs, 0, none⟩)] (fun x : Ev => #[x.enc]) (Keep w0.heap.size n₀ n₁) (fun ys => ys.length = (wholeD fun s => Classical.propDecidable (Ok s)) L ∧ Rd ys L) (fun pre => 1 ≤ pre.length ∧ pre.length ≤ (wholeD fun s => Classical.propDecidable (Ok s)) L ∧ Rd pre L) L.length w :=
  fun l J Jx W hWw hJ _ hY h0 => entries1_in n hn l Bs n₀ n₁ w0 hg0 a c L hl hx J Jx (abides hJ) (fun pre x W1 hj hlt _ => hY pre x W1 hj hlt) W
    ((hWw.cell (p := ⟨Bs, 0, none⟩) (World.block_lt_of_cell? _ _ hBs)).trans hBs) (hS.keep (Keep.of_below hWw hW.size h1)) (bel_on' hW hWw) (Nat.le_trans h1 hWw.size) h0
end Go.Proofs.YtdbmnjodkpeobaaGreatDoor
/-
  Contract: journal.Recover.
-/
namespace Go.Proofs.YtdbmnjodkpeobaaGreatDoor
open Go.ChangeShapes Go.WideShapes Go.ChangeAt Go.RowKit Go.Shelf

attribute [local go_sem] Oper.semAt_some

theorem recover_nil (w : World) : Calls Tryz.prog 27 #[.pointer none] w fun e w' => e = .returned (.int .i64 0) ∧ Below w.heap.size w w' := by
  go_enter Tryz.func27, Tryz.ntmps27
  go_wp2
  go_ret
  exact ⟨rfl, Below.refl _ _⟩
theorem Jr.putObj {B : Nat} {w : World} {p : Nat} {v : Value} {room : Int} {L : List ByteArray} {sure : Nat} {down : Bool} (h : Jr B w p v room L sure down) {D : Nat} {o : Obj} (ho : w.heap[D]? = some o) (hc : o.isCells = false) (o' : Obj) : Jr B (w.putObj D o') p v room L sure down := by
  obtain ⟨h1, h2, h3, h4⟩ := h
  refine ⟨?_, h2, ownsRow_putObj h3 _ ho hc, h4⟩
  rw [World.putObj_heap_other (fun e => by subst e; rw [h1] at ho; cases ho; cases hc)]
  exact h1
theorem Off.putObj {p : Nat} {v v' : Value} {w W : World} (h : Off p v v' w W) {D : Nat} (hD : w.heap.size ≤ D) (o' : Obj) : Off p v v' w (W.putObj D o') :=
  ⟨⟨h.1.1, h.1.2.1, h.1.2.2.1, by simpa using h.size⟩, fun k hk hp hv => ⟨(World.putObj_heap_other (by omega)).trans (h.2 k hk hp hv).1, (h.2 k hk hp hv).2⟩⟩
theorem keep_putObj {B n₀ n₁ X : Nat} {W : World} {l : Nat} {o o' : Obj} (hB : B ≤ X) (hX : X ≤ n₁) (hl : n₁ ≤ l) (_ho : W.heap[l]? = some o) (_hc : o.isCells = false) (_hw : o.isWalk = false) : Keep B n₀ n₁ W (W.putObj l o') :=
  ⟨⟨rfl, rfl, rfl, by simp, fun k hk => World.putObj_heap_other (by omega)⟩, fun k _ hk => World.putObj_heap_other (by omega)⟩
theorem keep_setCell {B X n₀ n₁ : Nat} {W : World} (hB : B ≤ X) (h0 : n₀ = X + 1) (v : Value) : Keep B n₀ n₁ W (W.setCell ⟨X, 0, none⟩ v) :=
  ⟨(Below.refl B W).setCell (p := ⟨X, 0, none⟩) hB _, fun k hk _ => Below.heap_setCell _ _ _ _ (show k ≠ (⟨X, 0, none⟩ : Addr).block from by show k ≠ X; omega)⟩

set_option maxRecDepth 100000 in
set_option maxHeartbeats 2000000 in
theorem recover_down {w0 : World} (hg0 : Gl w0) {w : World} (hw : Below w0.heap.size w0 w) {p : Nat} {v : Value} {room : Int} {L : List ByteArray} {sure : Nat} (h : Jr w0.heap.size w p v room L sure true) :
    Calls Tryz.prog 27 #[.pointer (some ⟨p, 0, none⟩)] w fun e w' => e = .returned (.int .i64 ((L.length : Int) - ((wholeD fun s => Classical.propDecidable (Ok s)) L : Int))) ∧ ∃ v', Jr w0.heap.size w' p v' room (L.take ((wholeD fun s => Classical.propDecidable (Ok s)) L)) ((wholeD fun s => Classical.propDecidable (Ok s)) L) false ∧ Off p v v' w w' := by
  refine (callsIn_wide (n := 5)).1 ?_
  obtain ⟨⟨c0, c1, c2, c3⟩, f1, f2, f3⟩ := h.cells
  have HJ : Hid (Jr w0.heap.size w p v room L sure true) := h
  have HG : Hid (Gl w0) := hg0
  have HW : Hid (Below w0.heap.size w0 w) := hw
  obtain ⟨U, hU⟩ : ∃ U, U = w.alloc (.cells #[.int .i64 0] 3) := ⟨_, rfl⟩
  have hbU : Below w.heap.size w U := by rw [hU]; exact (Below.refl _ _).alloc (Nat.le_refl _) _
  have HJU : Hid (Jr w0.heap.size U p v room L sure true) := h.on hbU
  have HBU : Hid (Below w.heap.size w U) := hbU
  have HA := all_in 4 (by omega) HJU.out
  have HUW : Hid (U = w.alloc (.cells #[.int .i64 0] 3)) := hU
  rw [hU] at HA
  clear h hg0 hw hU hbU
  refine callsIn_of_wp_marks Tryz.func27 rfl trivial ?_ rfl
  simp only [Tryz.ntmps27, List.size_toArray, List.length_cons, List.length_nil, Nat.reduceAdd, Nat.reduceSub, Array.replicate_succ, Array.replicate_zero, List.push_toArray, List.append_toArray, List.nil_append, List.cons_append]
  gi_wp2_with fail
  refine ⟨trivial, HA.mono ?_⟩
  rintro e w1 ⟨a, c, Bs, rfl, hcb, hla, hbs, hb⟩
  rw [← HUW.out] at hla hbs hb
  have hsz : U.heap.size = w.heap.size + 1 := by rw [HUW.out]; simp
  have hB1 : Below w.heap.size w w1 := bel_on' HBU.out hb
  have hbx1 : Boxed w1 w.heap.size 3 (.int .i64 (([] : List Ev).length : Int)) := by
    show w1.heap[w.heap.size]? = _
    rw [hb.block _ (by omega), HUW.out]
    exact World.alloc_heap_new w _
  have hL4 := HJ.out.2.2.2.2.1
  have hX := fun x hx => (HJ.out.2.2.2.2.2 x hx).2
  have hBs0 : w0.heap.size ≤ w.heap.size := HW.out.size
  clear HA
  gi_wp2_with fail
  refine wpIn_rangeFunc_ownG rfl (by omega) (gf := 59) (lb := #[.pointer (some ⟨Bs, 0, none⟩)]) rfl trivial (enters_of Tryz.func59 (by kernel_rfl) rfl)
    (entries_stops 4 (by omega) Bs U.heap.size w1.heap.size w0 HG.out a c L hL4 hX w1 hcb hla (bel_on' HW.out hB1) (Nat.le_refl _))
    (fun h k => h.trans k) (fun W l o o' hl ho hc hw => keep_putObj hBs0 hB1.size hl ho hc hw) (Below.refl _ _) (fun _ => rfl)
    (fun pre W => Boxed W w.heap.size 3 (.int .i64 (pre.length : Int)) ∧ Below w.heap.size w W)
    (fun _ _ _ => False)
    (OwnFrom.and (Own.from (boxed_own w.heap.size 3 (fun pre : List Ev => .int .i64 (pre.length : Int))) _) (ownFrom_below (Nat.le_refl _) hB1.size))
    (fun _ _ _ _ _ hs _ _ => hs)
    ⟨hbx1, hB1⟩
    (fun x => { tmps := #[.pointer (some ⟨p, 0, none⟩), undef, .int .i64 0, .pointer (some ⟨w.heap.size, 0, none⟩), undef, .pointer (some ⟨p, 0, none⟩), .bool false, .bool false, .pointer (some ⟨p, 0, none⟩), .pointer (some ⟨p, 0, none⟩), .pointer (some ⟨p, 3, none⟩), .bool true, .bool false, .bool false, .pointer (some ⟨p, 0, none⟩), .func (.func 59) #[] #[.pointer (some ⟨Bs, 0, none⟩)], x.enc, undef, undef, undef, undef, undef, undef, undef, undef, undef, undef, undef, undef, undef, undef, undef, undef, undef, undef, undef, undef], defers := [] }) ?assign ?body ?done ?stop
  case assign =>
    intro l x W K hK
    gi_wp2
    exact hK
  case body =>
    rintro l pre x W ⟨hbx, hB⟩ hlt
    have hcx := hbx.cell
    have hfx := hbx.frozen
    gi_wp2
    exact ⟨(KeepsOthers.setCell _ _ _).from _, keep_setCell hBs0 hsz _, by have := hbx.set (.int .i64 ((pre.length : Int) + 1)); simpa using this, hB.setCell (p := ⟨w.heap.size, 0, none⟩) (Nat.le_refl _) _⟩
  case stop =>
    rintro D c pre W _ _ h _
    exact h.elim
  case done =>
    rintro D ys W hD ⟨hlen, hrd⟩ ⟨hbx, hB⟩ hK
    have HJW : Hid (Jr w0.heap.size W p v room L sure true) := HJ.out.on hB
    have HOW : Hid (Off p v v w W) := Off.of_below hB
    have hDw : w.heap.size + 1 ≤ D := by have := hb.size; omega
    rw [hlen] at hbx
    have hwl := whole_le L
    obtain ⟨m, hm⟩ : ∃ m, (wholeD fun s => Classical.propDecidable (Ok s)) L = m := ⟨_, rfl⟩
    rw [hm] at hbx hwl
    have HM : Hid ((wholeD fun s => Classical.propDecidable (Ok s)) L = m) := hm
    clear hm
    have hDl : D < W.heap.size := (Array.getElem?_eq_some_iff.1 hK).1
    clear c0 c1 c2 c3 f1 f2 f3 hlen hrd hbx1 hcb hla hX hB
    obtain ⟨⟨c0, c1, c2, c3⟩, f1, f2, f3⟩ := HJW.out.cells
    obtain ⟨av, cv, rfl, -, -⟩ := HJW.out.row
    have cb := hbx.cell
    gi_wp2_with fail
    refine wpIn_wide.2 ?_
    go_quiet (fail)
    have HBD : Hid (Below W.heap.size W (W.drewN nq)) := belowN (Below.refl _ _) nq
    generalize W.drewN nq = W2 at HBD ⊢
    have HJ2 : Hid (Jr w0.heap.size W2 p (.slice av L.length cv) room L sure true) := HJW.out.on HBD.out
    have HO2 : Hid (Off p (.slice av L.length cv) (.slice av L.length cv) w W2) := HOW.out.trans (Off.of_below HBD.out)
    have hK2 : W2.heap[D]? = some (.deferred (some [])) := (HBD.out.block D hDl).trans hK
    have hbx2 : Boxed W2 w.heap.size 3 (.int .i64 (m : Int)) := (HBD.out.block _ hbx.lt).trans hbx
    have hpw := HJ.out.lt
    have hvw : ∀ k, w.heap.size ≤ k → (Value.slice av L.length cv).ownBlock ≠ some k := fun k hk e => by have := (HJ.out.2.2.1.lt k e).2; omega
    clear c0 c1 c2 c3 f1 f2 f3 cb hbx hK
    have cb := hbx2.cell
    gi_wp2_with fail
    refine ⟨trivial, (callsIn_wide.2 (cut_any HJ2.out m hwl)).mono ?_⟩
    rintro e u4 ⟨⟨x4, rfl⟩, v4, hj4, ho4⟩
    have hK4 : u4.heap[D]? = some (.deferred (some [])) := (ho4.heap (Array.getElem?_eq_some_iff.1 hK2).1 (by omega) (hvw D (by omega))).trans hK2
    have hbx4 : Boxed u4 w.heap.size 3 (.int .i64 (m : Int)) := (ho4.heap hbx2.lt (by omega) (hvw _ (Nat.le_refl _))).trans hbx2
    have HJ4 : Hid (Jr w0.heap.size u4 p v4 room (L.take m) sure true) := hj4
    have HO4 : Hid (Off p (.slice av L.length cv) v4 w u4) := HO2.out.trans ho4
    clear hj4 ho4 hbx2 hK2 cb
    have cb := hbx4.cell
    obtain ⟨⟨c0, c1, c2, c3⟩, f1, f2, f3⟩ := HJ4.out.cells
    gi_wp2_with fail
    have HJ5 : Jr w0.heap.size ((u4.setCell ⟨p, 2, none⟩ (.int .i64 (m : Int))).setCell ⟨p, 3, none⟩ (.bool false)) p v4 room (L.take m) m false := (HJ4.out.setSure m).setDown false
    have HO5 : Off p (.slice av L.length cv) v4 w ((u4.setCell ⟨p, 2, none⟩ (.int .i64 (m : Int))).setCell ⟨p, 3, none⟩ (.bool false)) := (HO4.out.setCell 2 _).setCell 3 _
    have hK5 : ((u4.setCell ⟨p, 2, none⟩ (.int .i64 (m : Int))).setCell ⟨p, 3, none⟩ (.bool false)).heap[D]? = some (.deferred (some [])) := by
      rw [Below.heap_setCell _ _ _ _ (show D ≠ (⟨p, 3, none⟩ : Addr).block from by show D ≠ p; omega), Below.heap_setCell _ _ _ _ (show D ≠ (⟨p, 2, none⟩ : Addr).block from by show D ≠ p; omega)]
      exact hK4
    refine ⟨by simp, .inl ⟨_, _, rfl, run_takeDeferred hK5, ?_⟩⟩
    exact ⟨_, results_tmp rfl _ _ _, by rw [HM.out]; rfl, v4, by rw [HM.out]; exact HJ5.putObj hK5 rfl _, HO5.putObj (by omega) _⟩
end Go.Proofs.YtdbmnjodkpeobaaGreatDoor
