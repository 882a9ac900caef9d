/-
  What the texts of a node share: maps of numbers, a journal beside other steps, sets of blocks that grow.
-/
import Derived.Test.YtnffgamekhedkaaGreatDoorSgladnjp
import Derived.Test.YtnffgamekhedkaaGreatDoorSgolaeje
import Derived.Test.YtnffgamekhedkaaGreatDoorSgnddcon
import Derived.Test.YtnffgamekhedkaaGreatDoorSglihalf
import Derived.Test.YtnffgamekhedkaaGreatDoorSgnjbmek
import Derived.Laws.Rows
namespace Go.Proofs.YtnffgamekhedkaaGreatDoor
open Go.ChangeShapes Go.WideShapes Go.ChangeAt Go.RowKit Go.Maps

/-- A set of blocks, and what has come behind all that lay there. -/
def growE (E : Nat → Prop) (w w' : World) : Nat → Prop := fun k => E k ∨ (w.heap.size ≤ k ∧ k < w'.heap.size)
/-- The map at b reads as s. -/
def Mp (w : World) (b n : Nat) (s : Int → Int) : Prop := ∃ D : DataW Unit, w.ownsMap Tryz.prog 3 (plainElem Tryz.prog 3) b n D ∧ Hd.Fits D s
theorem Mp.lt {w : World} {b n : Nat} {s : Int → Int} (h : Mp w b n s) : b < w.heap.size := by obtain ⟨D, hD, _⟩ := h; exact hD.lt
theorem Mp.obj {w : World} {b n : Nat} {s : Int → Int} (h : Mp w b n s) : ∃ es c, w.heap[b]? = some (.map es c) := by obtain ⟨D, ⟨es, c, hb, _⟩, _⟩ := h; exact ⟨es, c, hb⟩
theorem Mp.kept {w w' : World} {b n : Nat} {s : Int → Int} {F : Nat → Obj → Prop} (h : Mp w b n s) (hk : Rg.Kept F w w') (hb : ∀ o, ¬ F b o) : Mp w' b n s := by
  obtain ⟨D, h1, h2⟩ := h
  exact ⟨D, Hd.own_kept h1 hk (fun _ _ => hb _), h2⟩
theorem Mp.mono {w : World} {b n n' : Nat} {s : Int → Int} (h : Mp w b n s) (hn : n ≤ n') : Mp w b n' s := by
  obtain ⟨D, h1, h2⟩ := h
  exact ⟨D, h1.mono hn, h2⟩
/-- A look-up in it. -/
theorem Mp.look {w : World} {b n : Nat} {s : Int → Int} (h : Mp w b n s) {id : Int} (hw : (Lit.int .i64 id).wf = true) :
    (Instr.lookup 98 (.map (some b)) (.int .i64 id) false).run Tryz.prog w = .ok (.int .i64 (s id)) w := by
  obtain ⟨D, h5, h6⟩ := h
  obtain ⟨v, ps, hrun, hv⟩ := h5.lookup Hd.lawI Tryz.underlying98 (Hd.zeroI _) (plainElem_int Tryz.underlying3 (by decide)) (keyOf_int_mk Tryz.underlying3 hw)
  obtain ⟨c, rfl, hc, _⟩ := plainElem_int_inv Tryz.underlying3 hv
  have e1 := (h6.2 id).1
  have e2 : D.atKey (.int .i64 id) (.lit (.int .i64 0)) = .lit (.int .i64 c) := congrArg Prod.fst hc
  rw [e1] at e2
  rw [hrun]
  cases e2
  rfl
/-- A state stored. -/
theorem Mp.put {w : World} {b n : Nat} {s : Int → Int} (h : Mp w b n s) (hn : n < 1000000) {id x : Int} (hw : (Lit.int .i64 id).wf = true) (hx : x ≠ 0) (hwx : (Lit.int .i64 x).wf = true) :
    ∃ w', (Instr.mapUpdate 98 (.map (some b)) (.int .i64 id) (.int .i64 x)).run Tryz.prog w = .ok () w' ∧ Mp w' b (n + 1) (Hd.upd s id x) ∧ Rg.Kept (fun k _ => k = b) w w' := by
  obtain ⟨D, h5, h6⟩ := h
  obtain ⟨w', hrun, hown', hturn⟩ := h5.store Hd.lawI Tryz.underlying98 (by unfold maxLen; omega) (keyOf_int_mk Tryz.underlying3 hw) (plainElem_int Tryz.underlying3 hwx)
  exact ⟨w', hrun, ⟨_, hown', h6.put id x hx⟩, Rg.Kept.grown hturn.grown (fun i _ e => by cases e; rfl)⟩
theorem Jr.kept {B : Nat} {w w' : World} {p : Nat} {v : Value} {room : Int} {L : List ByteArray} {sure : Nat} {down : Bool} {F : Nat → Obj → Prop} (h : Jr B w p v room L sure down) (hk : Rg.Kept F w w') (hp : ∀ o, ¬ F p o) (hv : ∀ k o, v.ownBlock = some k → ¬ F k o) : Jr B w' p v room L sure down := by
  obtain ⟨h1, h2, h3, h4⟩ := h
  refine ⟨hk.block _ _ h1 (hp _), h2, ⟨h3.1, ?_⟩, h4⟩
  rcases h3.2 with h | ⟨g, cap, cur, rfl, hg, hc, rest⟩
  · exact .inl h
  · exact .inr ⟨g, cap, cur, rfl, hg, hk.block _ _ hc (hv g _ rfl), rest⟩
theorem Jr.rowObj {B : Nat} {w : World} {p : Nat} {v : Value} {room : Int} {L : List ByteArray} {sure : Nat} {down : Bool} (h : Jr B w p v room L sure down) {k : Nat} (e : v.ownBlock = some k) : ∃ cs, w.heap[k]? = some (.cells cs 9 (0, 0)) := by
  obtain ⟨_, _, ⟨_, h3⟩, _⟩ := h
  rcases h3 with ⟨rfl, _⟩ | ⟨g, cap, cur, rfl, _, hg, _⟩
  · simp [Value.ownBlock] at e
  · simp [Value.ownBlock] at e
    subst e
    exact ⟨cur, hg⟩
theorem Off.kept {p : Nat} {v v' : Value} {w w' : World} (h : Off p v v' w w') : Rg.Kept (fun k _ => k = p ∨ v.ownBlock = some k) w w' :=
  ⟨h.1.1, h.1.2.1, h.1.2.2.1, h.size, fun _ _ hk hx => (h.heap (Array.getElem?_eq_some_iff.1 hk).1 (fun e => hx (.inl e)) (fun e => hx (.inr e))).trans hk⟩
theorem two_cells {w : World} {k l : Nat} {cs cs' : Array Value} {t t' : TypeId} (h : w.heap[k]? = some (.cells cs t (0, 0))) (h' : w.heap[l]? = some (.cells cs' t' (0, 0))) (ht : t ≠ t') : k ≠ l := by
  rintro rfl
  rw [h] at h'
  simp only [Option.some.injEq, Obj.cells.injEq] at h'
  exact ht h'.2.1
theorem cells_map {w : World} {k l : Nat} {cs : Array Value} {t : TypeId} {es : Array MapEntry} {c : Nat} (h : w.heap[k]? = some (.cells cs t (0, 0))) (h' : w.heap[l]? = some (.map es c)) : k ≠ l := by
  rintro rfl
  rw [h] at h'
  cases h'
theorem whole_ok : ∀ (L : List ByteArray), (∀ x ∈ L, Ok x) → (wholeD fun s => Classical.propDecidable (Ok s)) L = L.length
  | [], _ => rfl
  | s :: r, h => by
    unfold wholeD
    rw [if_pos (h s (List.mem_cons_self ..)), whole_ok r (fun x hx => h x (List.mem_cons_of_mem _ hx))]
    rfl
/-- Where all lines are sure a crash leaves them. -/
theorem crash_sure (L : List ByteArray) (stay torn : Int) : crashL L L.length stay torn = L := by
  unfold crashL
  rw [if_pos (by unfold keptN; omega)]
theorem jdown_any {B : Nat} {w : World} {p : Nat} {v : Value} {room : Int} {L : List ByteArray} {sure : Nat} {down : Bool} (h : Jr B w p v room L sure down) :
    Calls Tryz.prog 56 #[.pointer (some ⟨p, 0, none⟩)] w fun e w' => e = .returned (.bool down) ∧ w = w' := by
  obtain ⟨⟨c0, c1, c2, c3⟩, -⟩ := h.cells
  go_enter Tryz.func56, Tryz.ntmps56
  go_wp2
  go_ret
  exact ⟨rfl, rfl⟩
theorem kept_cellR {F : Nat → Obj → Prop} {W W' : World} (hk : Rg.Kept F W W') {a : Addr} {x : Value} (hF : ∀ o, ¬ F a.block o) (hc : W.cell? a = some x) : W'.cell? a = some x := by
  have hlt := World.block_lt_of_cell? _ _ hc
  have e : W.heap[a.block]? = some W.heap[a.block] := Array.getElem?_eq_getElem hlt
  rw [World.cell?_of_block ((hk.block _ _ e (hF _)).trans e.symm)]
  exact hc
theorem three_new (w : World) (x y z : Value) (t : TypeId) : (w.alloc (.cells #[x, y, z] t)).cell? ⟨w.heap.size, 0, none⟩ = some x ∧ (w.alloc (.cells #[x, y, z] t)).cell? ⟨w.heap.size, 1, none⟩ = some y ∧ (w.alloc (.cells #[x, y, z] t)).cell? ⟨w.heap.size, 2, none⟩ = some z := by
  have e : (w.alloc (.cells #[x, y, z] t)).heap[w.heap.size]? = some (.cells #[x, y, z] t (0, 0)) := World.alloc_heap_new w _
  refine ⟨?_, ?_, ?_⟩ <;> (rw [cell_of e]; rfl)
theorem sset3 {w : World} {g : Nat} {x y z a b c : Value} {t : TypeId} (h : w.heap[g]? = some (.cells #[x, y, z] t (0, 0))) :
    (((w.setCell ⟨g, 0, none⟩ a).setCell ⟨g, 1, none⟩ b).setCell ⟨g, 2, none⟩ c).heap[g]? = some (.cells #[a, b, c] t (0, 0)) ∧ Rg.Kept (fun k _ => k = g) w (((w.setCell ⟨g, 0, none⟩ a).setCell ⟨g, 1, none⟩ b).setCell ⟨g, 2, none⟩ c) := by
  have e1 : (w.setCell ⟨g, 0, none⟩ a).heap[g]? = some (.cells #[a, y, z] t (0, 0)) := by rw [heap_setCell_same _ _ _ _ _ _ h]; rfl
  have e2 : ((w.setCell ⟨g, 0, none⟩ a).setCell ⟨g, 1, none⟩ b).heap[g]? = some (.cells #[a, b, z] t (0, 0)) := by rw [heap_setCell_same _ _ _ _ _ _ e1]; rfl
  exact ⟨by rw [heap_setCell_same _ _ _ _ _ _ e2]; rfl, ((Rg.Kept.setCell (a := ⟨g, 0, none⟩) _ (fun _ => rfl)).trans (Rg.Kept.setCell (a := ⟨g, 1, none⟩) _ (fun _ => rfl))).trans (Rg.Kept.setCell (a := ⟨g, 2, none⟩) _ (fun _ => rfl))⟩
/-- What a set of new blocks may turn turns nothing that lay there. -/
theorem kept_grow {E : Nat → Prop} {w u u' : World} (h : Rg.Kept (fun k _ => E k) w u) (h' : Rg.Kept (fun k _ => growE E w u k) u u') : Rg.Kept (fun k _ => E k) w u' :=
  ⟨h'.os.trans h.os, h'.tape.trans h.tape, h'.output.trans h.output, Nat.le_trans h.size h'.size, fun k o hk hx => h'.block k o (h.block k o hk hx) (fun e => e.elim hx (fun e => by have := (Array.getElem?_eq_some_iff.1 hk).1; omega))⟩
/-- One block that is new. -/
theorem kept_one {E : Nat → Prop} {w u u' : World} {g : Nat} (hg : w.heap.size ≤ g) (h : Rg.Kept (fun k _ => E k) w u) (h' : Rg.Kept (fun k _ => k = g) u u') : Rg.Kept (fun k _ => E k) w u' :=
  ⟨h'.os.trans h.os, h'.tape.trans h.tape, h'.output.trans h.output, Nat.le_trans h.size h'.size, fun k o hk hx => h'.block k o (h.block k o hk hx) (fun e => by have := (Array.getElem?_eq_some_iff.1 hk).1; omega)⟩
theorem Ints.keptR {F : Nat → Obj → Prop} {w w' : World} {a : Option Addr} {l : List Int} (h : Ints w a l) (hk : Rg.Kept F w w') (hF : ∀ ad o, a = some ad → ¬ F ad.block o) : Ints w' a l := by
  rcases h with h | ⟨b, off, ha, hc⟩
  · exact .inl h
  · exact .inr ⟨b, off, ha, fun i hi => kept_cellR hk (fun o => hF ⟨b, off, none⟩ o ha) (hc i hi)⟩
set_option maxRecDepth 100000 in
set_option maxHeartbeats 2000000 in
/-- Where there is no room nothing changes. -/
theorem add_full {B : Nat} {w : World} {p : Nat} {v : Value} {room : Int} {L : List ByteArray} {sure : Nat} (h : Jr B w p v room L sure false)
    (k : ByteArray) (id : Int) (a : Option Addr) (l : List Int) (c : Nat) (hk : k.size ≤ maxLen) (ha : Ints w a l) (hl : l.length ≤ 9223372036854775807) (hg : Gl w) (hm : mayB k id l = true) (hr : room ≤ (L.length : Int)) :
    Calls Tryz.prog 93 #[.pointer (some ⟨p, 0, none⟩), .agg #[.string k, .int .i64 id, .slice a l.length c]] w fun e w' => e = .returned (.int .i64 5) ∧ Below w.heap.size w w' := by
  obtain ⟨W, hW⟩ : ∃ W, W = w.alloc (.cells #[.string k, .int .i64 id, .slice a l.length c] 95) := ⟨_, rfl⟩
  have hB : Below w.heap.size w W := by rw [hW]; exact (Below.refl _ _).alloc (Nat.le_refl _) _
  have HB : Hid (Below w.heap.size w W) := hB
  have HJ : Hid (Jr B W p v room L sure false) := h.on hB
  have hpl := h.lt
  have HT := line_any k id a l c W hk (ha.below hB) hl (hg.on hB)
  have HWW : Hid (W = w.alloc (.cells #[.string k, .int .i64 id, .slice a l.length c] 95)) := hW
  obtain ⟨⟨c0, c1, c2, c3⟩, f1, f2, f3⟩ := h.cells
  rw [HWW.out] at HT
  have q0 : lineE k id l = 0 := by unfold lineE; rw [hm]; rfl
  rw [q0] at HT
  generalize lineV k id l = X at HT
  have hr' : (L.length : Int) ≥ room := hr
  clear hB hW hg ha q0 hm h hr
  go_enter Tryz.func93, Tryz.ntmps93
  go_wp2_with fail
  refine HT.mono ?_
  rintro e u1 ⟨rfl, hb1⟩
  have HB1 : Hid (Below W.heap.size W u1) := by show Below W.heap.size W u1; rw [HWW.out]; exact hb1
  have HJ1 : Hid (Jr B u1 p v room L sure false) := HJ.out.on HB1.out
  clear hb1 HT c0 c1 c2 c3 f1 f2 f3
  obtain ⟨⟨c0, c1, c2, c3⟩, f1, f2, f3⟩ := HJ1.out.cells
  obtain ⟨av, cv, rfl, -, -⟩ := HJ1.out.row
  go_wp2_with fail
  go_quiet (fail)
  have HBD : Hid (Below u1.heap.size u1 (u1.drewN nq)) := belowN (Below.refl _ _) nq
  generalize u1.drewN nq = u2 at HBD ⊢
  go_wp2
  go_ret
  exact ⟨rfl, bel_on' (bel_on' HB.out HB1.out) HBD.out⟩
theorem seven_of {w : World} {g : Nat} {x0 x1 x2 x3 x4 x5 x6 : Value} {t : TypeId} (e : w.heap[g]? = some (.cells #[x0, x1, x2, x3, x4, x5, x6] t (0, 0))) :
    w.cell? ⟨g, 0, none⟩ = some x0 ∧ w.cell? ⟨g, 1, none⟩ = some x1 ∧ w.cell? ⟨g, 2, none⟩ = some x2 ∧ w.cell? ⟨g, 3, none⟩ = some x3 ∧ w.cell? ⟨g, 4, none⟩ = some x4 ∧ w.cell? ⟨g, 5, none⟩ = some x5 ∧ w.cell? ⟨g, 6, none⟩ = some x6 := by
  refine ⟨?_, ?_, ?_, ?_, ?_, ?_, ?_⟩ <;> (rw [cell_of e]; rfl)
end Go.Proofs.YtnffgamekhedkaaGreatDoor
