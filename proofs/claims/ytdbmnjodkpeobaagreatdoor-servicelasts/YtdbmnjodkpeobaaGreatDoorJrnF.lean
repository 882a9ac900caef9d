/-
  Contracts: journal.entries, All: what it hands back goes over the entries.
-/
import Derived.Test.YtdbmnjodkpeobaaGreatDoorJrnE
namespace Go.Proofs.YtdbmnjodkpeobaaGreatDoor
open Go.ChangeShapes Go.WideShapes Go.ChangeAt Go.RowKit Go.Shelf

attribute [local go_sem] Oper.semAt_some

theorem entries_in (n : Nat) (a : Option Addr) (m c : Nat) (w : World) :
    CallsIn Fence.wide n Tryz.prog 46 #[.slice a m c] w fun e w' => e = .returned (.func (.func 59) #[] #[.pointer (some ⟨w.heap.size, 0, none⟩)]) ∧ w' = w.alloc (.cells #[.slice a m c] 45) := by
  refine callsIn_of_wp Tryz.func46 rfl trivial ?_ rfl
  simp only [Tryz.ntmps46, List.size_toArray, List.length_cons, List.length_nil, Nat.reduceAdd, Nat.reduceSub, Array.replicate_succ, Array.replicate_zero, List.push_toArray, List.append_toArray, List.nil_append, List.cons_append]
  gi_wp2
  go_ret
  exact ⟨rfl, rfl⟩

theorem linesAt_of {w w1 : World} {a : Option Addr} {c : Nat} {L : List ByteArray} (h : w1.ownsRow w.heap.size 9 1 (.slice a L.length c) L.length (L.map Value.string)) : LinesAt w.heap.size w1.heap.size w1 a L := by
  obtain ⟨a', c', e, h1, h2, h3⟩ := owned_strs h
  cases e
  rcases h3 with h3 | ⟨b, off, rfl, hc⟩
  · exact .inl h3
  · have := h.lt b (by simp [Value.ownBlock])
    exact .inr ⟨b, off, rfl, this, hc⟩

/-- What All hands back: a function that goes over the lines L, which lie in blocks made since. -/
def AllR (w : World) (L : List ByteArray) (e : Ending) (w' : World) : Prop :=
  ∃ a c Bs, e = .returned (.func (.func 59) #[] #[.pointer (some ⟨Bs, 0, none⟩)]) ∧ w'.cell? ⟨Bs, 0, none⟩ = some (.slice a L.length c) ∧ LinesAt w.heap.size w'.heap.size w' a L ∧ (w.heap.size ≤ Bs ∧ Bs < w'.heap.size) ∧ Below w.heap.size w w'

theorem allR_of {w w1 : World} {a : Option Addr} {c : Nat} {L : List ByteArray} (h : LinesAt w.heap.size w1.heap.size w1 a L) (hb : Below w.heap.size w w1) :
    AllR w L (.returned (.func (.func 59) #[] #[.pointer (some ⟨w1.heap.size, 0, none⟩)])) (w1.alloc (.cells #[.slice a L.length c] 45)) := by
  refine ⟨a, c, w1.heap.size, rfl, by simp, ?_, ⟨hb.size, by simp⟩, hb.alloc hb.size _⟩
  have hk : Keep 0 w.heap.size w1.heap.size w1 (w1.alloc (.cells #[.slice a L.length c] 45)) := Keep.of_below ((Below.refl _ _).alloc (Nat.le_refl _) _) (Nat.zero_le _) (Nat.le_refl _)
  rcases h.keep hk with h | ⟨b, off, ha, hb', hc⟩
  · exact .inl h
  · exact .inr ⟨b, off, ha, ⟨hb'.1, by simp; omega⟩, hc⟩

theorem all_in (n : Nat) (hn : 1 ≤ n) {B : Nat} {w : World} {p : Nat} {v : Value} {room : Int} {L : List ByteArray} {sure : Nat} {down : Bool} (h : Jr B w p v room L sure down) :
    CallsIn Fence.wide n Tryz.prog 28 #[.pointer (some ⟨p, 0, none⟩)] w (AllR w L) := by
  have HL := lines_any h
  refine callsIn_of_wp Tryz.func28 rfl trivial ?_ rfl
  simp only [Tryz.ntmps28, List.size_toArray, List.length_cons, List.length_nil, Nat.reduceAdd, Nat.reduceSub, Array.replicate_succ, Array.replicate_zero, List.push_toArray, List.append_toArray, List.nil_append, List.cons_append]
  gi_wp2_with fail
  refine ⟨trivial, (callsIn_wide.2 HL).mono ?_⟩
  rintro e w1 ⟨a, c, rfl, ho, hb⟩
  have HLA : Hid _ := linesAt_of ho
  have HB : Hid (Below w.heap.size w w1) := hb
  clear ho hb HL
  gi_wp2_with fail
  refine ⟨trivial, (entries_in (n - 1) a L.length c w1).mono ?_⟩
  rintro e w2 ⟨rfl, rfl⟩
  gi_wp2
  go_ret
  exact allR_of HLA.out HB.out

theorem all_nil_in (n : Nat) (hn : 1 ≤ n) (w : World) :
    CallsIn Fence.wide n Tryz.prog 28 #[.pointer none] w (AllR w []) := by
  have HL := lines_nil w
  refine callsIn_of_wp Tryz.func28 rfl trivial ?_ rfl
  simp only [Tryz.ntmps28, List.size_toArray, List.length_cons, List.length_nil, Nat.reduceAdd, Nat.reduceSub, Array.replicate_succ, Array.replicate_zero, List.push_toArray, List.append_toArray, List.nil_append, List.cons_append]
  gi_wp2_with fail
  refine ⟨trivial, (callsIn_wide.2 HL).mono ?_⟩
  rintro e w1 ⟨rfl, hb⟩
  have HB : Hid (Below w.heap.size w w1) := hb
  clear hb HL
  gi_wp2_with fail
  refine ⟨trivial, (entries_in (n - 1) none 0 0 w1).mono ?_⟩
  rintro e w2 ⟨rfl, rfl⟩
  gi_wp2
  go_ret
  exact allR_of (L := []) (.inl rfl) HB.out

theorem abides {J : List Ev → World → Prop} {X : Nat} (h : AbidesFrom X J) : ∀ s W W', J s W → Below W.heap.size W W' → J s W' :=
  fun s W W' hs hb => h s W W' none hs ⟨hb.os, hb.tape, hb.output, hb.size, fun k hk _ => hb.block k hk⟩ (fun r e => by cases e)

/-- The kit's form of the iterator's contract. -/
theorem entries_stops (n : Nat) (hn : 1 ≤ n) (Bs n₀ n₁ : Nat) (w0 : World) (hg0 : Gl w0) (a : Option Addr) (c : Nat) (L : List ByteArray) (hl : L.length ≤ 4096) (hx : ∀ x ∈ L, x.size ≤ 63) (w : World)
    (hBs : w.cell? ⟨Bs, 0, none⟩ = some (.slice a L.length c)) (hS : LinesAt n₀ n₁ w a L) (hW : Below w0.heap.size w0 w) (h1 : n₁ ≤ w.heap.size) :
    SeqStopsK Fence.wide n Tryz.prog 59 #[.pointer (some ⟨Bs, 0, none⟩)] (fun x : Ev => #[x.enc]) (Keep w0.heap.size n₀ n₁) (fun ys => ys.length = (wholeD fun s => Classical.propDecidable (Ok s)) L ∧ Rd ys L) (fun pre => 1 ≤ pre.length ∧ pre.length ≤ (wholeD fun s => Classical.propDecidable (Ok s)) L ∧ Rd pre L) L.length w :=
  fun l J Jx W hWw hJ _ hY h0 => entries1_in n hn l Bs n₀ n₁ w0 hg0 a c L hl hx J Jx (abides hJ) (fun pre x W1 hj hlt _ => hY pre x W1 hj hlt) W
    ((hWw.cell (p := ⟨Bs, 0, none⟩) (World.block_lt_of_cell? _ _ hBs)).trans hBs) (hS.keep (Keep.of_below hWw hW.size h1)) (bel_on' hW hWw) (Nat.le_trans h1 hWw.size) h0
end Go.Proofs.YtdbmnjodkpeobaaGreatDoor
