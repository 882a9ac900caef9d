/-
  Own texts put together: JrnA, JrnB.
-/
import Derived.Test.YtdbmnjodkpeobaaGreatDoorBd7
/-
  Contracts: journal.New, Sync, Sure, Down, Lines.
-/
namespace Go.Proofs.YtdbmnjodkpeobaaGreatDoor
open Go.ChangeShapes Go.WideShapes Go.ChangeAt Go.RowKit

def roomV (room : Int) : Int := min (max room 1) 4096
theorem roomV_in (room : Int) : 1 ≤ roomV room ∧ roomV room ≤ 4096 := by unfold roomV; omega

theorem new_any (room : Int) (w : World) :
    Calls Tryz.prog 21 #[.int .i64 room] w fun e w' => e = .returned (.pointer (some ⟨w.heap.size, 0, none⟩)) ∧ w' = w.alloc (.cells #[.int .i64 (roomV room), .slice none 0 0, .int .i64 0, .bool false] 83) := by
  unfold roomV
  go_enter Tryz.func21, Tryz.ntmps21
  go_wp2
  go_ret
  exact ⟨rfl, rfl⟩

theorem down_nil (w : World) : Calls Tryz.prog 41 #[.pointer none] w fun e w' => e = .returned (.bool false) ∧ Below w.heap.size w w' := by
  go_enter Tryz.func41, Tryz.ntmps41
  go_wp2
  go_ret
  exact ⟨rfl, Below.refl _ _⟩
theorem down_any {B : Nat} {w : World} {p : Nat} {v : Value} {room : Int} {L : List ByteArray} {sure : Nat} {down : Bool} (h : Jr B w p v room L sure down) :
    Calls Tryz.prog 41 #[.pointer (some ⟨p, 0, none⟩)] w fun e w' => e = .returned (.bool down) ∧ Below w.heap.size w w' := by
  obtain ⟨⟨c0, c1, c2, c3⟩, -⟩ := h.cells
  go_enter Tryz.func41, Tryz.ntmps41
  go_wp2
  go_ret
  exact ⟨rfl, Below.refl _ _⟩
theorem sync_nil (w : World) : Calls Tryz.prog 71 #[.pointer none] w fun e w' => e = .returned (.int .i64 1) ∧ Below w.heap.size w w' := by
  go_enter Tryz.func71, Tryz.ntmps71
  go_wp2
  go_ret
  exact ⟨rfl, Below.refl _ _⟩
theorem sync_down {B : Nat} {w : World} {p : Nat} {v : Value} {room : Int} {L : List ByteArray} {sure : Nat} (h : Jr B w p v room L sure true) :
    Calls Tryz.prog 71 #[.pointer (some ⟨p, 0, none⟩)] w fun e w' => e = .returned (.int .i64 10) ∧ Below w.heap.size w w' := by
  obtain ⟨⟨c0, c1, c2, c3⟩, -⟩ := h.cells
  go_enter Tryz.func71, Tryz.ntmps71
  go_wp2
  go_ret
  exact ⟨rfl, Below.refl _ _⟩
theorem sync_up {B : Nat} {w : World} {p : Nat} {v : Value} {room : Int} {L : List ByteArray} {sure : Nat} (h : Jr B w p v room L sure false) :
    Calls Tryz.prog 71 #[.pointer (some ⟨p, 0, none⟩)] w fun e w' => e = .returned (.int .i64 0) ∧ Jr B w' p v room L L.length false ∧ Off p v v w w' := by
  obtain ⟨⟨c0, c1, c2, c3⟩, f1, f2, f3⟩ := h.cells
  obtain ⟨a, c, rfl, hc, -⟩ := h.row
  have HJ : Hid _ := h.setSure L.length
  have HO : Hid _ := (Off.refl p (.slice a L.length c) w).setCell 2 (.int .i64 L.length)
  clear h hc
  go_enter Tryz.func71, Tryz.ntmps71
  go_wp2
  go_ret
  exact ⟨rfl, HJ.out, HO.out⟩

/-- Lines of a nil journal. -/
theorem lines_nil (w : World) : Calls Tryz.prog 47 #[.pointer none] w fun e w' => e = .returned (.slice none 0 0) ∧ Below w.heap.size w w' := by
  go_enter Tryz.func47, Tryz.ntmps47
  go_wp2
  go_ret
  exact ⟨rfl, Below.refl _ _⟩

theorem clone_strs {w : World} {a : Option Addr} {c : Nat} {L : List ByteArray} (h : Strs w a L) (hn : a = none → L = []) (hl : L.length ≤ 4096) :
    Calls Tryz.prog 61 #[.slice a L.length c] w fun e w' => ∃ u, e = .returned u ∧ w'.ownsRow w.heap.size 9 1 u L.length (L.map Value.string) ∧ Below w.heap.size w w' := by
  cases a with
  | none =>
    have := hn rfl
    subst this
    refine (Tryz.slices_Clone_string_nil _ _ w).mono ?_
    rintro e w' ⟨rfl, rfl⟩
    exact ⟨_, rfl, ⟨rfl, .inl ⟨rfl, rfl⟩⟩, Below.refl _ _⟩
  | some ad =>
    by_cases h0 : L = []
    · subst h0
      refine (Tryz.slices_Clone_string_zero ad _ w).mono ?_
      rintro e w' ⟨u, rfl, h1, _, h2⟩
      exact ⟨u, rfl, h1, h2⟩
    · rcases h with h | ⟨b, off, e, hc⟩
      · exact absurd h h0
      · cases e
        refine (Tryz.slices_Clone_string b off L.length c L w (Nat.le_refl _) (by omega) hc).mono ?_
        rintro e w' ⟨u, rfl, h1, _, h2⟩
        rw [List.take_length] at h1
        exact ⟨u, rfl, h1, h2⟩

theorem Jr.nilrow {B : Nat} {w : World} {p : Nat} {a : Option Addr} {n c : Nat} {room : Int} {L : List ByteArray} {sure : Nat} {down : Bool} (h : Jr B w p (.slice a n c) room L sure down) : a = none → L = [] := by
  intro e
  subst e
  obtain ⟨_, _, ⟨h3, h4⟩, _⟩ := h
  rcases h4 with ⟨e, h5⟩ | ⟨g, cap, cur, e, _⟩
  · exact List.eq_nil_of_length_eq_zero h5
  · cases e

theorem lines_any {B : Nat} {w : World} {p : Nat} {v : Value} {room : Int} {L : List ByteArray} {sure : Nat} {down : Bool} (h : Jr B w p v room L sure down) :
    Calls Tryz.prog 47 #[.pointer (some ⟨p, 0, none⟩)] w fun e w' => ∃ a c, e = .returned (.slice a L.length c) ∧ w'.ownsRow w.heap.size 9 1 (.slice a L.length c) L.length (L.map Value.string) ∧ Below w.heap.size w w' := by
  obtain ⟨⟨c0, c1, c2, c3⟩, f1, f2, f3⟩ := h.cells
  obtain ⟨a, c, rfl, hc, hst⟩ := h.row
  have HC := clone_strs (c := c) hst h.nilrow h.2.2.2.2.1
  clear h hc hst
  go_enter Tryz.func47, Tryz.ntmps47
  go_wp2_with fail
  refine HC.mono ?_
  rintro e w1 ⟨u, rfl, ho, hb⟩
  obtain ⟨a1, c1', rfl, -, -, -⟩ := owned_strs ho
  have HO : Hid _ := ho
  clear ho
  go_wp2
  go_ret
  exact ⟨a1, c1', rfl, HO.out, hb⟩
end Go.Proofs.YtdbmnjodkpeobaaGreatDoor
/-
  Contract: journal.Add.
-/
namespace Go.Proofs.YtdbmnjodkpeobaaGreatDoor
open Go.ChangeShapes Go.WideShapes Go.ChangeAt Go.RowKit

/-- As append_strs, and where the row lies behind. -/
theorem append_strs_at {w : World} {ops : Array Oper} {rest : List Oper} {o : Oper} {a : Act} {Q : Exit → Act → World → Prop} (hgd : o.guard = none) (s x : Operand)
    (ho : o.op = .call { callee := .builtin .append, args := #[s, x], argTypes := #[45, 45] })
    (base : Nat) (v : Value) (n : Nat) (L : List ByteArray) (hs : a.eval s = v) (hown : w.ownsRow base 9 1 v n (L.map Value.string))
    (ad : Addr) (m c : Nat) (l : List ByteArray) (hm : l.length = m) (hx : a.eval x = .slice (some ad) m c) (hl : Strs w (some ad) l) (hb : n + m ≤ 8796093022208) (hbase : base ≤ w.heap.size)
    (h : ∀ v' w', w'.ownsRow base 9 1 v' (n + m) ((L ++ l).map Value.string) → w.grownBy w' v.ownBlock → (v'.ownBlock = v.ownBlock ∨ v'.ownBlock = some w.heap.size) → wpList Tryz.prog ops Q rest (a.put o.dst v') w') : wpList Tryz.prog ops Q (o :: rest) a w := by
  obtain ⟨i0, hi, hz0, hz1, hz2⟩ := info_parts Tryz.infoStr
  refine wpList_append_own_at _ hgd s x 45 ho base 9 i0 (.string ByteArray.empty) 1 16 Tryz.underlying45 hi hz0 hz1 hz2 rfl (by decide) v n _ hs hown ad m c (l.map Value.string) hx (by simp [hm]) ?_ ?_ (by unfold maxLen; omega) (by omega) hbase ?_
  · intro j u hu
    rw [List.getElem?_map] at hu
    rcases hl with rfl | ⟨b, off, hab, hc⟩
    · simp at hu
    · cases hab
      have hj : j < l.length := by
        rcases Nat.lt_or_ge j l.length with h | h
        · exact h
        · rw [List.getElem?_eq_none h] at hu; simp at hu
      rw [st_add', hc j hj]
      simp [hj] at hu
      simp [List.getD, hj, hu]
  · intro u hu
    obtain ⟨z, _, rfl⟩ := List.mem_map.1 hu
    rfl
  · intro v' w' h1 h2 _ h4
    rw [← List.map_append] at h1
    exact h v' w' h1 h2 h4

/-- What Add answers, and the lines behind it. -/
def addE (room : Int) (L : List ByteArray) (down : Bool) (k : ByteArray) (id : Int) (l : List Int) : Int :=
  if down = true then 10 else if mayB k id l = true then (if room ≤ (L.length : Int) then 5 else 0) else 1
def addL (room : Int) (L : List ByteArray) (down : Bool) (k : ByteArray) (id : Int) (l : List Int) : List ByteArray :=
  if addE room L down k id l = 0 then L ++ [lineV k id l] else L

theorem line_small {k : ByteArray} {id : Int} {l : List Int} (h : mayB k id l = true) : 1 ≤ (lineV k id l).size ∧ (lineV k id l).size ≤ 63 := by
  unfold lineV
  rw [if_pos h, sign_size]
  have := txt_size h
  omega

theorem Jr.appended {B : Nat} {u : World} {p : Nat} {v : Value} {room : Int} {L : List ByteArray} {sure : Nat} {down : Bool} (h : Jr B u p v room L sure down) {X : ByteArray} (hX : 1 ≤ X.size ∧ X.size ≤ 63) (hL : L.length < 4096)
    {v6 : Value} {w6 : World} (o6 : w6.ownsRow B 9 1 v6 (L.length + 1) ((L ++ [X]).map Value.string)) (g6 : u.grownBy w6 v.ownBlock) (at6 : v6.ownBlock = v.ownBlock ∨ v6.ownBlock = some u.heap.size) :
    ∃ a6 c6, v6 = .slice a6 (L.length + 1) c6 ∧ Jr B (w6.setCell ⟨p, 1, none⟩ (.slice a6 (L.length + 1) c6)) p (.slice a6 (L.length + 1) c6) room (L ++ [X]) sure down ∧ Off p v (.slice a6 (L.length + 1) c6) u (w6.setCell ⟨p, 1, none⟩ (.slice a6 (L.length + 1) c6)) ∧
      w6.cell? ⟨p, 1, none⟩ = some v ∧ w6.frozen? ⟨p, 1, none⟩ = false := by
  obtain ⟨a6, c6, rfl, -, -, -⟩ := owned_strs o6
  have hp6 : w6.heap[p]? = u.heap[p]? := g6.block p h.lt (fun e => h.apart e.symm)
  refine ⟨a6, c6, rfl, ?_, (Off.grown g6 at6).setCell 1 _, ?_, frozen_of_row _ _ _ _ _ (hp6.trans h.1)⟩
  · refine h.setRow (L' := L ++ [X]) hp6 (by simpa using o6) (by simp; omega) (fun x hx => ?_)
    rcases List.mem_append.1 hx with hx | hx
    · exact h.2.2.2.2.2 x hx
    · simp at hx; subst hx; exact hX
  · rw [cell_of (hp6.trans h.1)]; rfl

theorem add_nil (k : ByteArray) (id : Int) (a : Option Addr) (l : List Int) (c : Nat) (w : World) :
    Calls Tryz.prog 70 #[.pointer none, .agg #[.string k, .int .i64 id, .slice a l.length c]] w fun e w' => e = .returned (.int .i64 1) ∧ Below w.heap.size w w' := by
  have HB : Hid (Below w.heap.size w (w.alloc (.cells #[.string k, .int .i64 id, .slice a l.length c] 70))) := (Below.refl _ _).alloc (Nat.le_refl _) _
  go_enter Tryz.func70, Tryz.ntmps70
  go_wp2
  go_ret
  exact ⟨rfl, HB.out⟩

set_option maxRecDepth 100000 in
set_option maxHeartbeats 2000000 in
theorem add_any {B : Nat} {w : World} {p : Nat} {v : Value} {room : Int} {L : List ByteArray} {sure : Nat} {down : Bool} (h : Jr B w p v room L sure down)
    (k : ByteArray) (id : Int) (a : Option Addr) (l : List Int) (c : Nat) (hk : k.size ≤ maxLen) (ha : Ints w a l) (hl : l.length ≤ 9223372036854775807) (hg : Gl w) :
    Calls Tryz.prog 70 #[.pointer (some ⟨p, 0, none⟩), .agg #[.string k, .int .i64 id, .slice a l.length c]] w fun e w' =>
      ∃ v', e = .returned (.int .i64 (addE room L down k id l)) ∧ Jr B w' p v' room (addL room L down k id l) sure down ∧ Off p v v' w w' := by
  obtain ⟨W, hW⟩ : ∃ W, W = w.alloc (.cells #[.string k, .int .i64 id, .slice a l.length c] 70) := ⟨_, rfl⟩
  have hB : Below w.heap.size w W := by rw [hW]; exact (Below.refl _ _).alloc (Nat.le_refl _) _
  have HB : Hid (Below w.heap.size w W) := hB
  have HJ : Hid (Jr B W p v room L sure down) := h.on hB
  have hpl := h.lt
  have HT := line_any k id a l c W hk (ha.below hB) hl (hg.on hB)
  have HWW : Hid (W = w.alloc (.cells #[.string k, .int .i64 id, .slice a l.length c] 70)) := hW
  obtain ⟨⟨c0, c1, c2, c3⟩, f1, f2, f3⟩ := h.cells
  clear hB hW hg ha
  unfold addL addE
  cases down
  · rw [HWW.out] at HT
    cases hm : mayB k id l
    · have q0 : lineE k id l = 1 := by unfold lineE; rw [hm]; rfl
      rw [q0] at HT
      generalize lineV k id l = X at HT
      rw [if_neg (by decide), if_neg (by decide), if_neg (by decide)]
      clear q0 hm h
      go_enter Tryz.func70, Tryz.ntmps70
      go_wp2_with fail
      refine HT.mono ?_
      rintro e u1 ⟨rfl, hb1⟩
      have HB1 : Hid (Below W.heap.size W u1) := by show Below W.heap.size W u1; rw [HWW.out]; exact hb1
      clear hb1 HT
      go_wp2
      go_ret
      exact ⟨v, rfl, HJ.out.on HB1.out, Off.of_below (bel_on' HB.out HB1.out)⟩
    · have q0 : lineE k id l = 0 := by unfold lineE; rw [hm]; rfl
      have HXS : Hid (1 ≤ (lineV k id l).size ∧ (lineV k id l).size ≤ 63) := line_small hm
      rw [q0] at HT
      rw [if_neg (by decide), if_pos rfl]
      generalize lineV k id l = X at HT HXS ⊢
      clear q0 hm
      by_cases hr : room ≤ (L.length : Int)
      · rw [if_pos hr, if_neg (by decide)]
        clear h
        go_enter Tryz.func70, Tryz.ntmps70
        go_wp2_with fail
        refine HT.mono ?_
        rintro e u1 ⟨rfl, hb1⟩
        have HB1 : Hid (Below W.heap.size W u1) := by show Below W.heap.size W u1; rw [HWW.out]; exact hb1
        have HJ1 : Hid (Jr B u1 p v room L sure false) := HJ.out.on HB1.out
        clear hb1 HT c0 c1 c2 c3 f1 f2 f3
        obtain ⟨⟨c0, c1, c2, c3⟩, f1, f2, f3⟩ := HJ1.out.cells
        obtain ⟨av, cv, rfl, -, -⟩ := HJ1.out.row
        have hr' : (L.length : Int) ≥ room := hr
        go_wp2_with fail
        go_quiet (fail)
        have HBD : Hid (Below u1.heap.size u1 (u1.drewN nq)) := belowN (Below.refl _ _) nq
        generalize u1.drewN nq = u2 at HBD ⊢
        go_wp2
        go_ret
        exact ⟨_, rfl, HJ1.out.on HBD.out, Off.of_below (bel_on' (bel_on' HB.out HB1.out) HBD.out)⟩
      · rw [if_neg hr, if_pos rfl]
        have hL : L.length < 4096 := by have := h.2.2.2.1.2; omega
        clear h
        go_enter Tryz.func70, Tryz.ntmps70
        go_wp2_with fail
        refine HT.mono ?_
        rintro e u1 ⟨rfl, hb1⟩
        have HB1 : Hid (Below W.heap.size W u1) := by show Below W.heap.size W u1; rw [HWW.out]; exact hb1
        have HJ1 : Hid (Jr B u1 p v room L sure false) := HJ.out.on HB1.out
        clear hb1 HT c0 c1 c2 c3 f1 f2 f3
        obtain ⟨⟨c0, c1, c2, c3⟩, f1, f2, f3⟩ := HJ1.out.cells
        obtain ⟨av, cv, rfl, -, -⟩ := HJ1.out.row
        have hr' : ¬ (L.length : Int) ≥ room := by omega
        go_wp2_with fail
        go_quiet (fail)
        have HBD : Hid (Below u1.heap.size u1 (u1.drewN nq)) := belowN (Below.refl _ _) nq
        generalize u1.drewN nq = u2 at HBD ⊢
        have HB2 : Hid (Below w.heap.size w u2) := bel_on' (bel_on' HB.out HB1.out) HBD.out
        have HJ2 : Hid (Jr B u2 p (.slice av L.length cv) room L sure false) := HJ1.out.on HBD.out
        clear c0 c1 c2 c3 f1 f2 f3 HBD HJ1 HB1 HJ
        obtain ⟨⟨c0, c1, c2, c3⟩, f1, f2, f3⟩ := HJ2.out.cells
        have HJ3 : Hid (Jr B (u2.alloc (.cells #[.string X] 9)) p (.slice av L.length cv) room L sure false) := HJ2.out.on ((Below.refl _ _).alloc (Nat.le_refl _) _)
        have HB3 : Hid (Below w.heap.size w (u2.alloc (.cells #[.string X] 9))) := HB2.out.alloc HB2.out.size _
        go_wp2_with (first
          | (at_builtin; refine append_strs_at rfl (.tmp 35) (.tmp 37) rfl B (.slice av L.length cv) L.length L rfl HJ3.out.2.2.1 ⟨u2.heap.size, 0, none⟩ 1 1 [X] rfl rfl (strs_one u2 X) ?hnn ?hba ?_; (case hnn => omega); (case hba => exact HJ3.out.low); intro v6 w6 o6 g6 at6; obtain ⟨a6, c6, rfl, hj6, ho6, d1, e1⟩ := HJ3.out.appended HXS.out hL o6 g6 at6; have HJ6 : Hid _ := hj6; have HO6 : Hid _ := (Off.of_below HB3.out).trans ho6; clear o6 g6 at6 hj6 ho6))
        go_ret
        exact ⟨_, rfl, HJ6.out, HO6.out⟩
  · have HO : Hid (Off p v v w W) := Off.of_below HB.out
    rw [if_pos rfl, if_neg (by decide)]
    rw [HWW.out] at HO HJ
    clear HT h
    go_enter Tryz.func70, Tryz.ntmps70
    go_wp2
    go_ret
    exact ⟨v, rfl, HJ.out, HO.out⟩
end Go.Proofs.YtdbmnjodkpeobaaGreatDoor
