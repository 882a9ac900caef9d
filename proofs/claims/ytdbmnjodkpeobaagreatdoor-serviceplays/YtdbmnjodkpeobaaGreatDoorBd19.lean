/-
  Own texts put together: SvrB, SvrC.
-/
import Derived.Test.YtdbmnjodkpeobaaGreatDoorSvrA
/-
  The reference's service: entry, Note, NewService, State, Crash.
-/
namespace Go.Proofs.YtdbmnjodkpeobaaGreatDoor
open Go.ChangeShapes Go.WideShapes Go.ChangeAt Go.RowKit Go.Maps

theorem rentry_any (k : ByteArray) (id : Int) (a : Option Addr) (n c : Nat) (w : World) :
    Calls Tryz.prog 38 #[.string k, .int .i64 id, .slice a n c] w fun e w' => e = .returned (.agg #[.string k, .int .i64 id, .slice a n c]) ∧ Below w.heap.size w w' := by
  go_enter Tryz.func38, Tryz.ntmps38
  go_wp2
  refine bodyPost_ret (results_cell_row Tryz.results38 _ _ w.heap.size 70 _ (0, 0) _ rfl (World.alloc_heap_new w _) Tryz.underlying70 rfl (by kernel_rfl)) rfl ?_
  exact ⟨rfl, (Below.refl _ _).alloc (Nat.le_refl _) _⟩

section
variable {B : Nat} {w : World} {q : Nat} {r : Value} {room : Int} {L : List ByteArray} {sure : Nat}
theorem rnote_full (h : R.Jr B w q r room L sure false) (hr : room ≤ (L.length : Int)) (a : Option Addr) (c : Nat) :
    Calls Tryz.prog 39 #[.pointer (some ⟨q, 0, none⟩), .bool true, .slice a 1 c] w fun e w' => e = .returned (.bool false) ∧ Below w.heap.size w w' := by
  obtain ⟨⟨c0, c1, c2, c3⟩, f1, f2, f3⟩ := h.cells
  obtain ⟨av, cv, rfl, -, -⟩ := h.row
  have hl4 : L.length ≤ 4096 := h.2.2.2.2.1
  have hx : (L.length : Int) + 1 > room := by omega
  have hb : (L.length : Int) + 1 ≤ 4097 := by omega
  clear h hr hl4
  go_enter Tryz.func39, Tryz.ntmps39
  go_wp2_with fail
  go_quiet (fail)
  go_wp2
  go_ret
  exact ⟨rfl, belowN (Below.refl _ _) _⟩
/-- What stands in Note's loop. -/
def NtRel (B : Nat) (w : World) (q : Nat) (r : Value) (room : Int) (L : List ByteArray) (X : ByteArray) (sure : Nat) (i : Value) (wr : World) : Prop :=
  (i = .int .i64 0 ∧ Hid (Below w.heap.size w wr)) ∨ (i = .int .i64 1 ∧ ∃ r', Hid (R.Jr B wr q r' room (L ++ [X]) sure false ∧ Off q r r' w wr))
set_option maxRecDepth 100000 in
set_option maxHeartbeats 2000000 in
theorem rnote_room (h : R.Jr B w q r room L sure false) (hr : (L.length : Int) < room) {e : En} (he : OkE e) {a : Option Addr} {c g : Nat} (ha : Ints w a (nB e)) (hg : Gl w)
    (hx : w.heap[g]? = some (.cells #[.string (kB e.c), .int .i64 e.id, .slice a (nB e).length c] 70 (0, 0))) :
    Calls Tryz.prog 39 #[.pointer (some ⟨q, 0, none⟩), .bool true, .slice (some ⟨g, 0, none⟩) 1 1] w fun x w' => x = .returned (.bool true) ∧ ∃ r', R.Jr B w' q r' room (L ++ [lnE e]) (L.length + 1) false ∧ Off q r r' w w' := by
  obtain ⟨⟨c0, c1, c2, c3⟩, f1, f2, f3⟩ := h.cells
  obtain ⟨av, cv, rfl, -, -⟩ := h.row
  have hl4 : L.length ≤ 4096 := h.2.2.2.2.1
  have hx1 : ¬ (L.length : Int) + 1 > room := by omega
  have hb : (L.length : Int) + 1 ≤ 4097 := by omega
  have HJ := hide h
  have hm := may_en he
  have HA : Hid (∀ u, Below w.heap.size w u → Calls Tryz.prog 55 #[.pointer (some ⟨q, 0, none⟩), .agg #[.string (kB e.c), .int .i64 e.id, .slice a (nB e).length c]] u fun x w' => ∃ r', x = .returned (.int .i64 0) ∧ R.Jr B w' q r' room (L ++ [lnE e]) sure false ∧ Off q (.slice av L.length cv) r' w w') := fun u hu => by
    refine (R.add_any (h.on hu) (kB e.c) e.id a (nB e) c (by have := kB_size e.c; unfold maxLen; omega) (ha.below hu) (by have := nB_len e; omega) (hg.on hu)).mono ?_
    rintro x w' ⟨r', h1, h2, h3⟩
    unfold addL addE at h2
    unfold addE at h1
    rw [hm] at h1 h2
    simp only [if_neg (show ¬ (false = true) by decide), if_true, if_neg (show ¬ room ≤ (L.length : Int) by omega)] at h1 h2
    exact ⟨r', h1, h2, (Off.of_below hu).trans h3⟩
  have HX : Hid (∀ u, Below w.heap.size w u → u.cell? ⟨g, 0, none⟩ = some (.string (kB e.c)) ∧ u.cell? ⟨g, 1, none⟩ = some (.int .i64 e.id) ∧ u.cell? ⟨g, 2, none⟩ = some (.slice a (nB e).length c)) := fun u hu => by
    have e1 := (hu.block _ (Array.getElem?_eq_some_iff.1 hx).1).trans hx
    refine ⟨?_, ?_, ?_⟩ <;> (rw [cell_of e1]; rfl)
  have HLN : Hid ((L ++ [lnE e]).length = L.length + 1) := by show _ = _; simp
  generalize lnE e = X at HA HLN ⊢
  generalize kB e.c = K at HA HX ⊢
  generalize e.id = ei at HA HX ⊢
  generalize (nB e).length = ln at HA HX ⊢
  clear h ha hg hx hm he hl4 hr
  go_enter Tryz.func39, Tryz.ntmps39
  go_wp2_with fail
  go_quiet (fail)
  go_wp2_with fail
  have HB0 : Hid (Below w.heap.size w (w.drewN nq)) := belowN (Below.refl _ _) nq
  generalize w.drewN nq = W at HB0 ⊢
  clear c0 c1 c2 c3 f1 f2 f3
  go_loopw [30] (fun i wr => NtRel B w q (.slice av L.length cv) room L X sure i wr) (fun i _ => 1 - (intOf i).toNat)
  case atStart => exact .inl ⟨rfl, HB0⟩
  case round =>
    rcases hrel with ⟨rfl, HB⟩ | ⟨rfl, r', HR⟩
    · obtain ⟨y0, y1, y2⟩ := HX.out wr HB.out
      have hbA : Hid (Below w.heap.size w (wr.alloc (.cells #[.string K, .int .i64 ei, .slice a ln c] 70))) := bel_on' HB.out ((Below.refl _ _).alloc (Nat.le_refl _) _)
      have A := HA.out _ hbA.out
      clear HA
      go_wp2_with (go_at_call 55; refine A.mono ?_; clear A; rintro e u1 ⟨r', rfl, hj, ho⟩; have HJ1 := hide (And.intro hj ho); clear hj ho)
      go_roundw
      case rel => exact .inr ⟨by go_num, r', HJ1⟩
      case measure => simp [intOf]
    · have S := R.sync_up HR.out.1
      go_wp2_with (go_at_call 56; refine S.mono ?_; clear S; rintro e u1 ⟨rfl, hj, ho⟩; rw [HLN.out] at hj; have HJ1 := hide (And.intro hj (HR.out.2.trans ho)); clear hj ho)
      go_ret
      exact ⟨rfl, r', HJ1.out⟩
end
end Go.Proofs.YtdbmnjodkpeobaaGreatDoor
/-
  The reference's service: NewService, State, Crash.
-/
namespace Go.Proofs.YtdbmnjodkpeobaaGreatDoor
open Go.ChangeShapes Go.WideShapes Go.ChangeAt Go.RowKit Go.Maps

def Rs (B : Nat) (E : Nat → Prop) (w : World) (p : Nat) (v : Sv) : Prop := (∀ k, E k → B ≤ k ∧ k < w.heap.size) ∧ GoodSv v ∧ ∃ q r pb, RsV B E w p v q r pb
section
variable {B : Nat} {E E' : Nat → Prop} {w w' : World} {p : Nat} {v : Sv}
theorem Rs.good (k : Rs B E w p v) : GoodSv v := k.2.1
theorem Rs.ep (k : Rs B E w p v) : E p := by obtain ⟨_, _, q, r, pb, h⟩ := k; exact h.ep
theorem Rs.low (k : Rs B E w p v) : B ≤ w.heap.size := by have := k.1 p k.ep; omega
theorem Rs.kept {F : Nat → Obj → Prop} (k : Rs B E w p v) (hk : Rg.Kept F w w') (hE : ∀ k o, E k → ¬ F k o) : Rs B E w' p v := by
  obtain ⟨h1, h2, q, r, pb, h⟩ := k
  exact ⟨fun i e => ⟨(h1 i e).1, Nat.lt_of_lt_of_le (h1 i e).2 hk.size⟩, h2, q, r, pb, h.kept hk hE⟩
theorem Rs.on (k : Rs B E w p v) (hb : Below w.heap.size w w') : Rs B E w' p v := k.kept (F := fun _ _ => False) (Rg.Kept.of_below hb) (fun _ _ _ h => h)
theorem Rs.bel (k : Rs B E w p v) (hk : Rg.Kept (fun i _ => E i) w w') : Below B w w' := hk.bel k.low (fun i _ e => (k.1 i e).1)
end
theorem rsstate_any {B : Nat} {E : Nat → Prop} {w : World} {p : Nat} {v : Sv} (k : Rs B E w p v) (id : Int) :
    Calls Tryz.prog 18 #[.pointer (some ⟨p, 0, none⟩), .int .i64 id] w fun e w' => e = .returned (.int .i64 (v.st.s id)) ∧ w = w' := by
  have I := Hd.rid_any id w
  have gt := k.good.goodT id
  obtain ⟨_, _, q, r, pb, h⟩ := k
  cases hi : Hd.isI id
  · have e0 : v.st.s id = 0 := by
      rcases Decidable.em (v.st.s id = 0) with e | e
      · exact e
      · have := Hd.isI_iff.2 (gt.2 e); rw [hi] at this; cases this
    rw [hi] at I
    rw [e0]
    clear h gt hi e0
    go_enter Tryz.func18, Tryz.ntmps18
    go_wp2_with (go_at_call 37; refine I.mono ?_; clear I; rintro e w' ⟨rfl, rfl⟩)
    go_ret
    exact ⟨rfl, rfl⟩
  · obtain ⟨i1, i2⟩ := Hd.isI_iff.1 hi
    rw [hi] at I
    obtain ⟨n, rfl⟩ : ∃ n : Nat, id = n := ⟨id.toNat, by omega⟩
    have hn : (n : Int) < 1000 := by omega
    have c4 := h.cellI (i := n) (by omega)
    clear h gt hi i1 i2
    generalize v.st.s n = x at c4 ⊢
    go_enter Tryz.func18, Tryz.ntmps18
    go_wp2_with (go_at_call 37; refine I.mono ?_; clear I; rintro e w' ⟨rfl, rfl⟩)
    go_ret
    exact ⟨rfl, rfl⟩
theorem wpList_build_serv {w : World} {ops : Array Oper} {rest : List Oper} {o : Oper} {a : Act} {Q : Exit → Act → World → Prop} (hg : o.guard = none) (x0 x1 x2 x3 : Operand) (hop : o.op = Op.build 44 #[(0, x0), (1, x1), (2, x2), (3, x3)]) (nd hold : Int) (j b : Option Addr) (h0 : a.eval x0 = .int .i64 nd) (h1 : a.eval x1 = .int .i64 hold) (h2 : a.eval x2 = .pointer j) (h3 : a.eval x3 = .pointer b)
    (hK : wpList Tryz.prog ops Q rest (a.put o.dst (.agg (scs 1000 nd hold (.pointer j) (.pointer b) (fun _ => 0)).toArray)) w) : wpList Tryz.prog ops Q (o :: rest) a w := by
  refine wpList_plain hg fun K' hK' => ?_
  have hrun := build_serv nd hold j b w
  generalize (scs 1000 nd hold (.pointer j) (.pointer b) (fun _ => 0)).toArray = cs at hrun hK
  unfold Oper.wp
  simp only [execOp, hop]
  simp [h0, h1, h2, h3, hrun, Result.andThen]
  exact hK' _ _ hK
theorem box_serv (cs : Array Value) (w : World) : (Instr.box 44 (.agg cs)).run Tryz.prog w = .ok (.pointer (some ⟨w.heap.size, 0, none⟩)) (w.alloc (.cells cs 44)) := by
  simp [Instr.box, newVar, newRow, Value.cells, Result.andThen]
theorem rsnew_no (node hold room : Int) (h : ¬ (4 ≤ node ∧ node ≤ 6)) (w : World) :
    Calls Tryz.prog 8 #[.int .i64 node, .int .i64 hold, .int .i64 room] w fun e w' => e = .returned (.pointer none) ∧ w = w' := by
  by_cases h1 : node < 4
  · clear h
    go_enter Tryz.func8, Tryz.ntmps8
    go_wp2
    go_ret
    exact ⟨rfl, rfl⟩
  · have h2 : node > 6 := by omega
    clear h
    go_enter Tryz.func8, Tryz.ntmps8
    go_wp2
    go_ret
    exact ⟨rfl, rfl⟩
theorem rsnew_any (node hold room : Int) (h : 4 ≤ node ∧ node ≤ 6) (w : World) :
    Calls Tryz.prog 8 #[.int .i64 node, .int .i64 hold, .int .i64 room] w fun e w' => ∃ p E, e = .returned (.pointer (some ⟨p, 0, none⟩)) ∧ Rs w.heap.size E w' p (newSv node hold room) ∧ Below w.heap.size w w' := by
  have h1 : ¬ node < 4 := by omega
  have h2 : ¬ node > 6 := by omega
  have N := R.new_any room w
  have MK : Hid (∀ u1 u2 : World, u1 = w.alloc (.cells #[.int .i64 (roomV room), .slice none 0 0, .int .i64 0, .bool false] 47) → Hd.Rb u1.heap.size u2 u1.heap.size (Hd.clampA hold) (fun _ => 0) → Below u1.heap.size u1 u2 →
      Rs w.heap.size (fun k => w.heap.size ≤ k ∧ k < (u2.alloc (.cells (scs 1000 node hold (.pointer (some ⟨w.heap.size, 0, none⟩)) (.pointer (some ⟨u1.heap.size, 0, none⟩)) (fun _ => 0)).toArray 44)).heap.size) (u2.alloc (.cells (scs 1000 node hold (.pointer (some ⟨w.heap.size, 0, none⟩)) (.pointer (some ⟨u1.heap.size, 0, none⟩)) (fun _ => 0)).toArray 44)) u2.heap.size (newSv node hold room) ∧ Below w.heap.size w (u2.alloc (.cells (scs 1000 node hold (.pointer (some ⟨w.heap.size, 0, none⟩)) (.pointer (some ⟨u1.heap.size, 0, none⟩)) (fun _ => 0)).toArray 44))) := fun u1 u2 e1 hb hk => by
    have b1 : Below w.heap.size w u1 := by rw [e1]; exact (Below.refl _ _).alloc (Nat.le_refl _) _
    have s1 : u1.heap.size = w.heap.size + 1 := by rw [e1]; simp
    have j1 : R.Jr w.heap.size u1 w.heap.size (.slice none 0 0) (roomV room) [] 0 false := by rw [e1]; exact R.Jr.new w w.heap.size (Nat.le_refl _) (roomV room) (roomV_in room).1 (roomV_in room).2
    have bA : ∀ cs, Below u2.heap.size u2 (u2.alloc (.cells cs 44)) := fun cs => (Below.refl _ _).alloc (Nat.le_refl _) _
    have s2 := hk.size
    have lt := hb.lt
    have hnew := World.alloc_heap_new u2 (.cells (scs 1000 node hold (.pointer (some ⟨w.heap.size, 0, none⟩)) (.pointer (some ⟨u1.heap.size, 0, none⟩)) (fun _ => 0)).toArray 44)
    generalize hcs : (scs 1000 node hold (.pointer (some ⟨w.heap.size, 0, none⟩)) (.pointer (some ⟨u1.heap.size, 0, none⟩)) (fun _ => 0)).toArray = cs at hnew ⊢
    have s3 : (u2.alloc (.cells cs 44)).heap.size = u2.heap.size + 1 := by simp
    refine ⟨⟨fun k e => e, newSv_good h, w.heap.size, .slice none 0 0, u1.heap.size, ⟨?_, (j1.on hk).on (bA cs), ⟨((bA cs).block _ lt).trans hb.1, by omega⟩, Hd.Good.new, ⟨by omega, by omega⟩, ⟨by omega, by omega⟩, (fun k e => by simp [Value.ownBlock] at e), ⟨by omega, by omega⟩⟩⟩, bel_on' (bel_on' b1 hk) (bA cs)⟩
    rw [← hcs] at hnew ⊢
    exact hnew
  have bx := box_serv
  generalize roomV room = rm at N MK
  clear h
  go_enter Tryz.func8, Tryz.ntmps8
  go_wp2_with (first
    | (go_at_call 23; refine N.mono ?_; clear N; rintro e u1 ⟨rfl, e1⟩; have H := Hd.rnew_any hold u1; have HE1 := hide e1; clear e1)
    | (go_at_call 24; refine H.mono ?_; clear H; rintro e u2 ⟨rfl, hb, hk⟩; have HM := hide (MK.out u1 u2 HE1.out hb hk); clear MK hb hk)
    | (refine wpList_build_serv rfl _ _ _ _ rfl node hold _ _ rfl rfl rfl rfl ?_; have hbx := bx (scs 1000 node hold (.pointer (some ⟨w.heap.size, 0, none⟩)) (.pointer (some ⟨u1.heap.size, 0, none⟩)) (fun _ => 0)).toArray; clear bx; generalize (scs 1000 node hold (.pointer (some ⟨w.heap.size, 0, none⟩)) (.pointer (some ⟨u1.heap.size, 0, none⟩)) (fun _ => 0)).toArray = cs at hbx HM ⊢))
  go_ret
  exact ⟨_, _, rfl, HM.out⟩
end Go.Proofs.YtdbmnjodkpeobaaGreatDoor
