/-
  Own texts put together: JrnRS, JrnRA.
-/
import Derived.Test.YtdbmnjodkpeobaaGreatDoorBd14
/-
  The reference's journal in memory (drafts/gen_jrnr.py writes this text out of JrnS).
-/
namespace Go.Proofs.YtdbmnjodkpeobaaGreatDoor.R
open Go.ChangeShapes Go.WideShapes Go.ChangeAt Go.RowKit

/-- The journal at p: its room, its lines, how many are sure, whether it is down; v is the value of its row. -/
def Jr (B : Nat) (w : World) (p : Nat) (v : Value) (room : Int) (L : List ByteArray) (sure : Nat) (down : Bool) : Prop :=
  w.heap[p]? = some (.cells #[.int .i64 room, v, .int .i64 sure, .bool down] 47 (0, 0)) ∧ B ≤ p ∧
  w.ownsRow B 9 1 v L.length (L.map Value.string) ∧
  (1 ≤ room ∧ room ≤ 4096) ∧ L.length ≤ 4096 ∧ ∀ x ∈ L, 1 ≤ x.size ∧ x.size ≤ 63


theorem Jr.lt {B : Nat} {w : World} {p : Nat} {v : Value} {room : Int} {L : List ByteArray} {sure : Nat} {down : Bool} (h : Jr B w p v room L sure down) : p < w.heap.size := by
  by_cases hlt : p < w.heap.size
  · exact hlt
  · have := h.1; rw [Array.getElem?_eq_none (by omega)] at this; cases this
theorem Jr.low {B : Nat} {w : World} {p : Nat} {v : Value} {room : Int} {L : List ByteArray} {sure : Nat} {down : Bool} (h : Jr B w p v room L sure down) : B ≤ w.heap.size := by
  have := h.lt; have := h.2.1; omega
theorem Jr.bel {B : Nat} {w w' : World} {p : Nat} {v v' : Value} {room : Int} {L : List ByteArray} {sure : Nat} {down : Bool} (h : Jr B w p v room L sure down) (ho : Off p v v' w w') : Below B w w' :=
  ho.bel h.low h.2.1 (fun k hk => (h.2.2.1.lt k hk).1)

theorem typ_ne : 9 ≠ 47 := by decide

/-- The row is not the journal's own block. -/
theorem Jr.apart {B : Nat} {w : World} {p : Nat} {v : Value} {room : Int} {L : List ByteArray} {sure : Nat} {down : Bool} (h : Jr B w p v room L sure down) : v.ownBlock ≠ some p := by
  intro e
  obtain ⟨h1, _, ⟨_, h3⟩, _⟩ := h
  rcases h3 with ⟨rfl, _⟩ | ⟨g, cap, cur, rfl, _, hg, _⟩
  · simp [Value.ownBlock] at e
  · simp [Value.ownBlock] at e
    subst e
    rw [h1] at hg
    simp only [Option.some.injEq, Obj.cells.injEq] at hg
    exact typ_ne hg.2.1.symm
theorem Jr.on {B : Nat} {w w' : World} {p : Nat} {v : Value} {room : Int} {L : List ByteArray} {sure : Nat} {down : Bool} (h : Jr B w p v room L sure down) (hb : Below w.heap.size w w') : Jr B w' p v room L sure down :=
  ⟨(hb.block p h.lt).trans h.1, h.2.1, owned_on h.2.2.1 hb, h.2.2.2⟩
theorem Jr.cells {B : Nat} {w : World} {p : Nat} {v : Value} {room : Int} {L : List ByteArray} {sure : Nat} {down : Bool} (h : Jr B w p v room L sure down) :
    (w.cell? ⟨p, 0, none⟩ = some (.int .i64 room) ∧ w.cell? ⟨p, 1, none⟩ = some v ∧ w.cell? ⟨p, 2, none⟩ = some (.int .i64 sure) ∧ w.cell? ⟨p, 3, none⟩ = some (.bool down)) ∧
    w.frozen? ⟨p, 1, none⟩ = false ∧ w.frozen? ⟨p, 2, none⟩ = false ∧ w.frozen? ⟨p, 3, none⟩ = false := by
  obtain ⟨h1, _⟩ := h
  refine ⟨⟨?_, ?_, ?_, ?_⟩, frozen_of_row _ _ _ _ _ h1, frozen_of_row _ _ _ _ _ h1, frozen_of_row _ _ _ _ _ h1⟩
  all_goals (rw [cell_of h1]; rfl)
theorem Jr.row {B : Nat} {w : World} {p : Nat} {v : Value} {room : Int} {L : List ByteArray} {sure : Nat} {down : Bool} (h : Jr B w p v room L sure down) : ∃ a c, v = .slice a L.length c ∧ L.length ≤ c ∧ Strs w a L := by
  obtain ⟨a, c, h1, _, h3, h4⟩ := owned_strs h.2.2.1
  exact ⟨a, c, h1, h3, h4⟩

theorem Jr.new (w : World) (B : Nat) (hB : B ≤ w.heap.size) (room : Int) (h1 : 1 ≤ room) (h2 : room ≤ 4096) :
    Jr B (w.alloc (.cells #[.int .i64 room, .slice none 0 0, .int .i64 0, .bool false] 47)) w.heap.size (.slice none 0 0) room [] 0 false := by
  refine ⟨?_, hB, ⟨rfl, .inl ⟨rfl, rfl⟩⟩, ⟨h1, h2⟩, Nat.zero_le _, (fun x hx => by cases hx)⟩
  show (w.heap.push _)[w.heap.size]? = _
  simp

theorem owned_set' {w : World} {base : Nat} {e : TypeId} {v : Value} {n : Nat} {xs : List Value} (h : w.ownsRow base e 1 v n xs) (a : Addr) (u : Value) (ha : v.ownBlock ≠ some a.block) : (w.setCell a u).ownsRow base e 1 v n xs := by
  obtain ⟨hlen, h⟩ := h
  refine ⟨hlen, ?_⟩
  rcases h with h | ⟨g, cap, cur, rfl, hg, hc, h1, h2, h3, h4⟩
  · exact .inl h
  · exact .inr ⟨g, cap, cur, rfl, hg, by rw [Below.heap_setCell _ _ _ _ (fun e => ha (by simp [Value.ownBlock, e]))]; exact hc, h1, h2, h3, h4⟩

theorem Jr.setSure {B : Nat} {w : World} {p : Nat} {v : Value} {room : Int} {L : List ByteArray} {sure : Nat} {down : Bool} (h : Jr B w p v room L sure down) (s : Nat) : Jr B (w.setCell ⟨p, 2, none⟩ (.int .i64 s)) p v room L s down := by
  have ha := h.apart
  obtain ⟨h1, h2, h3, h4, h5, h7⟩ := h
  exact ⟨by rw [heap_setCell_same _ _ _ _ _ _ h1]; simp, h2, owned_set' h3 _ _ ha, h4, h5, h7⟩
theorem Jr.setDown {B : Nat} {w : World} {p : Nat} {v : Value} {room : Int} {L : List ByteArray} {sure : Nat} {down : Bool} (h : Jr B w p v room L sure down) (d : Bool) : Jr B (w.setCell ⟨p, 3, none⟩ (.bool d)) p v room L sure d := by
  have ha := h.apart
  obtain ⟨h1, h2, h3, h4, h5, h7⟩ := h
  exact ⟨by rw [heap_setCell_same _ _ _ _ _ _ h1]; simp, h2, owned_set' h3 _ _ ha, h4, h5, h7⟩
/-- The row's value behind a step that has turned the row alone, stored. -/
theorem Jr.setRow {B : Nat} {w w' : World} {p : Nat} {v v' : Value} {room : Int} {L L' : List ByteArray} {sure : Nat} {down : Bool} (h : Jr B w p v room L sure down) (hp : w'.heap[p]? = w.heap[p]?) (o : w'.ownsRow B 9 1 v' L'.length (L'.map Value.string))
    (hl : L'.length ≤ 4096) (hx : ∀ x ∈ L', 1 ≤ x.size ∧ x.size ≤ 63) : Jr B (w'.setCell ⟨p, 1, none⟩ v') p v' room L' sure down := by
  obtain ⟨h1, h2, h3, h4, h5, h7⟩ := h
  rw [← hp] at h1
  have ha : v'.ownBlock ≠ some p := by
    intro e
    rcases o.2 with ⟨rfl, _⟩ | ⟨g, cap, cur, rfl, _, hg, _⟩
    · simp [Value.ownBlock] at e
    · simp [Value.ownBlock] at e
      subst e
      rw [h1] at hg
      simp only [Option.some.injEq, Obj.cells.injEq] at hg
      exact typ_ne hg.2.1.symm
  exact ⟨by rw [heap_setCell_same _ _ _ _ _ _ h1]; simp, h2, owned_set' o _ _ ha, h4, hl, hx⟩
end Go.Proofs.YtdbmnjodkpeobaaGreatDoor.R
/-
  Contracts: the reference's NewJournal, Sync, Add (after JrnA, JrnB).
-/
namespace Go.Proofs.YtdbmnjodkpeobaaGreatDoor.R
open Go.ChangeShapes Go.WideShapes Go.ChangeAt Go.RowKit

theorem roomV_eq (room : Int) : max 1 (min room 4096) = roomV room := by unfold roomV; omega
theorem new_any (room : Int) (w : World) :
    Calls Tryz.prog 23 #[.int .i64 room] w fun e w' => e = .returned (.pointer (some ⟨w.heap.size, 0, none⟩)) ∧ w' = w.alloc (.cells #[.int .i64 (roomV room), .slice none 0 0, .int .i64 0, .bool false] 47) := by
  rw [← roomV_eq]
  go_enter Tryz.func23, Tryz.ntmps23
  go_wp2
  go_ret
  exact ⟨rfl, rfl⟩

theorem sync_down {B : Nat} {w : World} {p : Nat} {v : Value} {room : Int} {L : List ByteArray} {sure : Nat} (h : Jr B w p v room L sure true) :
    Calls Tryz.prog 56 #[.pointer (some ⟨p, 0, none⟩)] w fun e w' => e = .returned (.int .i64 10) ∧ Below w.heap.size w w' := by
  obtain ⟨⟨c0, c1, c2, c3⟩, -⟩ := h.cells
  go_enter Tryz.func56, Tryz.ntmps56
  go_wp2
  go_ret
  exact ⟨rfl, Below.refl _ _⟩
theorem sync_up {B : Nat} {w : World} {p : Nat} {v : Value} {room : Int} {L : List ByteArray} {sure : Nat} (h : Jr B w p v room L sure false) :
    Calls Tryz.prog 56 #[.pointer (some ⟨p, 0, none⟩)] w fun e w' => e = .returned (.int .i64 0) ∧ Jr B w' p v room L L.length false ∧ Off p v v w w' := by
  obtain ⟨⟨c0, c1, c2, c3⟩, f1, f2, f3⟩ := h.cells
  obtain ⟨a, c, rfl, hc, -⟩ := h.row
  have HJ : Hid _ := h.setSure L.length
  have HO : Hid _ := (Off.refl p (.slice a L.length c) w).setCell 2 (.int .i64 L.length)
  clear h hc
  go_enter Tryz.func56, Tryz.ntmps56
  go_wp2
  go_ret
  exact ⟨rfl, HJ.out, HO.out⟩

theorem Jr.nilrow {B : Nat} {w : World} {p : Nat} {a : Option Addr} {n c : Nat} {room : Int} {L : List ByteArray} {sure : Nat} {down : Bool} (h : Jr B w p (.slice a n c) room L sure down) : a = none → L = [] := by
  intro e
  subst e
  obtain ⟨_, _, ⟨h3, h4⟩, _⟩ := h
  rcases h4 with ⟨e, h5⟩ | ⟨g, cap, cur, e, _⟩
  · exact List.eq_nil_of_length_eq_zero h5
  · cases e

theorem Jr.appended {B : Nat} {u : World} {p : Nat} {v : Value} {room : Int} {L : List ByteArray} {sure : Nat} {down : Bool} (h : Jr B u p v room L sure down) {X : ByteArray} (hX : 1 ≤ X.size ∧ X.size ≤ 63) (hL : L.length < 4096)
    {v6 : Value} {w6 : World} (o6 : w6.ownsRow B 9 1 v6 (L.length + 1) ((L ++ [X]).map Value.string)) (g6 : u.grownBy w6 v.ownBlock) (at6 : v6.ownBlock = v.ownBlock ∨ v6.ownBlock = some u.heap.size) :
    ∃ a6 c6, v6 = .slice a6 (L.length + 1) c6 ∧ Jr B (w6.setCell ⟨p, 1, none⟩ (.slice a6 (L.length + 1) c6)) p (.slice a6 (L.length + 1) c6) room (L ++ [X]) sure down ∧ Off p v (.slice a6 (L.length + 1) c6) u (w6.setCell ⟨p, 1, none⟩ (.slice a6 (L.length + 1) c6)) ∧
      w6.cell? ⟨p, 1, none⟩ = some v ∧ w6.frozen? ⟨p, 1, none⟩ = false := by
  obtain ⟨a6, c6, rfl, -, -, -⟩ := owned_strs o6
  have hp6 : w6.heap[p]? = u.heap[p]? := g6.block p h.lt (fun e => h.apart e.symm)
  refine ⟨a6, c6, rfl, ?_, (Off.grown g6 at6).setCell 1 _, ?_, frozen_of_row _ _ _ _ _ (hp6.trans h.1)⟩
  · refine h.setRow (L' := L ++ [X]) hp6 (by simpa using o6) (by simp; omega) (fun x hx => ?_)
    rcases List.mem_append.1 hx with hx | hx
    · exact h.2.2.2.2.2 x hx
    · simp at hx; subst hx; exact hX
  · rw [cell_of (hp6.trans h.1)]; rfl

set_option maxRecDepth 100000 in
set_option maxHeartbeats 2000000 in
theorem add_any {B : Nat} {w : World} {p : Nat} {v : Value} {room : Int} {L : List ByteArray} {sure : Nat} {down : Bool} (h : Jr B w p v room L sure down)
    (k : ByteArray) (id : Int) (a : Option Addr) (l : List Int) (c : Nat) (hk : k.size ≤ maxLen) (ha : Ints w a l) (hl : l.length ≤ 9223372036854775807) (hg : Gl w) :
    Calls Tryz.prog 55 #[.pointer (some ⟨p, 0, none⟩), .agg #[.string k, .int .i64 id, .slice a l.length c]] w fun e w' =>
      ∃ v', e = .returned (.int .i64 (addE room L down k id l)) ∧ Jr B w' p v' room (addL room L down k id l) sure down ∧ Off p v v' w w' := by
  obtain ⟨W, hW⟩ : ∃ W, W = w.alloc (.cells #[.string k, .int .i64 id, .slice a l.length c] 70) := ⟨_, rfl⟩
  have hB : Below w.heap.size w W := by rw [hW]; exact (Below.refl _ _).alloc (Nat.le_refl _) _
  have HB : Hid (Below w.heap.size w W) := hB
  have HJ : Hid (Jr B W p v room L sure down) := h.on hB
  have hpl := h.lt
  have HT := ref_line_any k id a l c W hk (ha.below hB) hl (hg.on hB)
  have HWW : Hid (W = w.alloc (.cells #[.string k, .int .i64 id, .slice a l.length c] 70)) := hW
  obtain ⟨⟨c0, c1, c2, c3⟩, f1, f2, f3⟩ := h.cells
  clear hB hW hg ha
  unfold addL addE
  cases down
  · rw [HWW.out] at HT
    cases hm : mayB k id l
    · have q0 : lineE k id l = 1 := by unfold lineE; rw [hm]; rfl
      rw [q0] at HT
      generalize lineV k id l = X at HT
      rw [if_neg (by decide), if_neg (by decide), if_neg (by decide)]
      clear q0 hm h
      go_enter Tryz.func55, Tryz.ntmps55
      go_wp2_with fail
      refine HT.mono ?_
      rintro e u1 ⟨rfl, hb1⟩
      have HB1 : Hid (Below W.heap.size W u1) := by show Below W.heap.size W u1; rw [HWW.out]; exact hb1
      clear hb1 HT
      go_wp2
      go_ret
      exact ⟨v, rfl, HJ.out.on HB1.out, Off.of_below (bel_on' HB.out HB1.out)⟩
    · have q0 : lineE k id l = 0 := by unfold lineE; rw [hm]; rfl
      have HXS : Hid (1 ≤ (lineV k id l).size ∧ (lineV k id l).size ≤ 63) := line_small hm
      rw [q0] at HT
      rw [if_neg (by decide), if_pos rfl]
      generalize lineV k id l = X at HT HXS ⊢
      clear q0 hm
      by_cases hr : room ≤ (L.length : Int)
      · rw [if_pos hr, if_neg (by decide)]
        clear h
        go_enter Tryz.func55, Tryz.ntmps55
        go_wp2_with fail
        refine HT.mono ?_
        rintro e u1 ⟨rfl, hb1⟩
        have HB1 : Hid (Below W.heap.size W u1) := by show Below W.heap.size W u1; rw [HWW.out]; exact hb1
        have HJ1 : Hid (Jr B u1 p v room L sure false) := HJ.out.on HB1.out
        clear hb1 HT c0 c1 c2 c3 f1 f2 f3
        obtain ⟨⟨c0, c1, c2, c3⟩, f1, f2, f3⟩ := HJ1.out.cells
        obtain ⟨av, cv, rfl, -, -⟩ := HJ1.out.row
        have hr' : (L.length : Int) ≥ room := hr
        go_wp2_with fail
        go_quiet (fail)
        have HBD : Hid (Below u1.heap.size u1 (u1.drewN nq)) := belowN (Below.refl _ _) nq
        generalize u1.drewN nq = u2 at HBD ⊢
        go_wp2
        go_ret
        exact ⟨_, rfl, HJ1.out.on HBD.out, Off.of_below (bel_on' (bel_on' HB.out HB1.out) HBD.out)⟩
      · rw [if_neg hr, if_pos rfl]
        have hL : L.length < 4096 := by have := h.2.2.2.1.2; omega
        clear h
        go_enter Tryz.func55, Tryz.ntmps55
        go_wp2_with fail
        refine HT.mono ?_
        rintro e u1 ⟨rfl, hb1⟩
        have HB1 : Hid (Below W.heap.size W u1) := by show Below W.heap.size W u1; rw [HWW.out]; exact hb1
        have HJ1 : Hid (Jr B u1 p v room L sure false) := HJ.out.on HB1.out
        clear hb1 HT c0 c1 c2 c3 f1 f2 f3
        obtain ⟨⟨c0, c1, c2, c3⟩, f1, f2, f3⟩ := HJ1.out.cells
        obtain ⟨av, cv, rfl, -, -⟩ := HJ1.out.row
        have hr' : ¬ (L.length : Int) ≥ room := by omega
        go_wp2_with fail
        go_quiet (fail)
        have HBD : Hid (Below u1.heap.size u1 (u1.drewN nq)) := belowN (Below.refl _ _) nq
        generalize u1.drewN nq = u2 at HBD ⊢
        have HB2 : Hid (Below w.heap.size w u2) := bel_on' (bel_on' HB.out HB1.out) HBD.out
        have HJ2 : Hid (Jr B u2 p (.slice av L.length cv) room L sure false) := HJ1.out.on HBD.out
        clear c0 c1 c2 c3 f1 f2 f3 HBD HJ1 HB1 HJ
        obtain ⟨⟨c0, c1, c2, c3⟩, f1, f2, f3⟩ := HJ2.out.cells
        have HJ3 : Hid (Jr B (u2.alloc (.cells #[.string X] 9)) p (.slice av L.length cv) room L sure false) := HJ2.out.on ((Below.refl _ _).alloc (Nat.le_refl _) _)
        have HB3 : Hid (Below w.heap.size w (u2.alloc (.cells #[.string X] 9))) := HB2.out.alloc HB2.out.size _
        go_wp2_with (first
          | (at_builtin; refine append_strs_at rfl (.tmp 33) (.tmp 35) rfl B (.slice av L.length cv) L.length L rfl HJ3.out.2.2.1 ⟨u2.heap.size, 0, none⟩ 1 1 [X] rfl rfl (strs_one u2 X) ?hnn ?hba ?_; (case hnn => omega); (case hba => exact HJ3.out.low); intro v6 w6 o6 g6 at6; obtain ⟨a6, c6, rfl, hj6, ho6, d1, e1⟩ := HJ3.out.appended HXS.out hL o6 g6 at6; have HJ6 : Hid _ := hj6; have HO6 : Hid _ := (Off.of_below HB3.out).trans ho6; clear o6 g6 at6 hj6 ho6))
        go_ret
        exact ⟨_, rfl, HJ6.out, HO6.out⟩
  · have HO : Hid (Off p v v w W) := Off.of_below HB.out
    rw [if_pos rfl, if_neg (by decide)]
    rw [HWW.out] at HO HJ
    clear HT h
    go_enter Tryz.func55, Tryz.ntmps55
    go_wp2
    go_ret
    exact ⟨v, rfl, HJ.out, HO.out⟩
end Go.Proofs.YtdbmnjodkpeobaaGreatDoor.R
