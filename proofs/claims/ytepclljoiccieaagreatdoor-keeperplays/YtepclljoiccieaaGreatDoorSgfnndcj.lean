/-
  Own texts put together: JrnK, JSure, JrnRT, JrnRC.
-/
import Derived.Test.YtepclljoiccieaaGreatDoorSgpicjen
import Derived.Test.YtepclljoiccieaaGreatDoorSgcafimi
import Derived.Test.YtepclljoiccieaaGreatDoorSgclpjhi
import Derived.Test.YtepclljoiccieaaGreatDoorSgljnack
import Derived.Laws.AppendOwnNone
/-
  Contract: the law's few.
-/
namespace Go.Proofs.YtepclljoiccieaaGreatDoor
open Go.ChangeShapes Go.WideShapes Go.ChangeAt Go.RowKit

def Few (cl : List Cv) : Prop := cl.length ≤ 100 ∧ ∀ c ∈ cl, c.k.size ≤ 50 ∧ c.l.length ≤ 20

end Go.Proofs.YtepclljoiccieaaGreatDoor
/-
  JournalSure: what was made sure is there behind any crash, in order; what is there is a beginning of what was added; no torn line is ever told.
-/
namespace Go.Proofs.YtepclljoiccieaaGreatDoor
open Go.ChangeShapes Go.WideShapes Go.ChangeAt Go.RowKit

theorem typ_ne2 : 78 ≠ 107 ∧ 78 ≠ 9 := by decide

/-- A row of entries lies on where a step has turned a journal alone. -/
theorem row_off {B base : Nat} {w w' : World} {p : Nat} {v v' : Value} {room : Int} {L : List ByteArray} {sure : Nat} {down : Bool} (hj : Jr B w p v room L sure down) (ho : Off p v v' w w') {vw : Value} {n : Nat} {xs : List Value} (h : w.ownsRow base 78 3 vw n xs) : w'.ownsRow base 78 3 vw n xs :=
  row_stays h (fun k cs _ hc => ho.heap (Array.getElem?_eq_some_iff.1 hc).1
    (fun e => by subst e; rw [hj.1] at hc; simp only [Option.some.injEq, Obj.cells.injEq] at hc; exact typ_ne2.1 hc.2.1.symm)
    (fun e => by
      rcases hj.2.2.1.2 with ⟨rfl, _⟩ | ⟨g, cap, cur, rfl, _, hg, _⟩
      · simp [Value.ownBlock] at e
      · simp [Value.ownBlock] at e
        subst e
        rw [hg] at hc
        simp only [Option.some.injEq, Obj.cells.injEq] at hc
        exact typ_ne2.2 hc.2.1.symm))
/-- A journal lies on where a row of entries has grown. -/
theorem Jr.rowed {B base : Nat} {w w' : World} {p : Nat} {v : Value} {room : Int} {L : List ByteArray} {sure : Nat} {down : Bool} (hj : Jr B w p v room L sure down) {vw : Value} {n : Nat} {xs : List Value} (h : w.ownsRow base 78 3 vw n xs) (hg : w.grownBy w' vw.ownBlock) : Jr B w' p v room L sure down := by
  have hne : ∀ (k : Nat) (cs : Array Value) (t : TypeId), 78 ≠ t → w.heap[k]? = some (.cells cs t (0, 0)) → w'.heap[k]? = w.heap[k]? := fun k cs t ht hc => hg.block k (Array.getElem?_eq_some_iff.1 hc).1 (fun e => by
    rcases h.2 with ⟨rfl, _⟩ | ⟨g, cap, cur, rfl, _, hc', _⟩
    · simp [Value.ownBlock] at e
    · simp [Value.ownBlock] at e
      subst e
      rw [hc] at hc'
      simp only [Option.some.injEq, Obj.cells.injEq] at hc'
      exact ht hc'.2.1.symm)
  obtain ⟨h1, h2, h3, h4⟩ := hj
  refine ⟨(hne p _ _ typ_ne2.1 h1).trans h1, h2, ?_, h4⟩
  obtain ⟨hl, h3⟩ := h3
  refine ⟨hl, ?_⟩
  rcases h3 with h3 | ⟨g, cap, cur, e, hb, hc, rest⟩
  · exact .inl h3
  · exact .inr ⟨g, cap, cur, e, hb, (hne g _ _ typ_ne2.2 hc).trans hc, rest⟩

theorem append_ents {w : World} {ops : Array Oper} {rest : List Oper} {o : Oper} {a : Act} {Q : Exit → Act → World → Prop} (hgd : o.guard = none) (s x : Operand)
    (ho : o.op = .call { callee := .builtin .append, args := #[s, x], argTypes := #[81, 81] })
    (base : Nat) (v : Value) (ws : List Ev) (hs : a.eval s = v) (hown : w.ownsRow base 78 3 v ws.length (evCells ws)) (ad : Addr) (y : Ev) (hx : a.eval x = .slice (some ad) 1 1)
    (hc : ∀ j u, [Value.string y.k, .int .i64 y.id, .slice y.av y.l.length y.cv][j]? = some u → w.cell? (ad.add j) = some u) (hb : ws.length ≤ 1000000) (hbase : base ≤ w.heap.size)
    (h : ∀ a' c' w', w'.ownsRow base 78 3 (.slice a' (ws.length + 1) c') (ws ++ [y]).length (evCells (ws ++ [y])) → w.grownBy w' v.ownBlock → wpList Tryz.prog ops Q rest (a.put o.dst (.slice a' (ws.length + 1) c')) w') : wpList Tryz.prog ops Q (o :: rest) a w := by
  obtain ⟨i0, hi, hz0, hz1, hz2⟩ := info_parts Tryz.infoEnt
  refine wpList_append_own_at _ hgd s x 81 ho base 78 i0 _ 3 48 Tryz.underlying81 hi hz0 hz1 hz2 rfl (by decide) v ws.length (evCells ws) hs hown ad 1 1 [.string y.k, .int .i64 y.id, .slice y.av y.l.length y.cv] hx rfl hc (by simp [Value.oneCell']) (by unfold maxLen; omega) (by omega) hbase ?_
  intro v' w' h1 h2 _ _
  obtain ⟨a', c', rfl, -⟩ := row_slice h1
  refine h a' c' w' ?_ h2
  rw [evCells_snoc, List.length_append, List.length_singleton]
  exact h1

theorem row_cap {W : World} {base : Nat} {e : TypeId} {s : Nat} {a : Option Addr} {n c : Nat} {xs : List Value} (h : W.ownsRow base e s (.slice a n c) n xs) : n ≤ c := by
  rcases h.2 with ⟨e, rfl⟩ | ⟨g, cap, cur, e, _, _, hn, _⟩
  · exact Nat.zero_le _
  · cases e; exact hn

def evLine (x : Ev) : ByteArray := lineV x.k x.id x.l
/-- What was added, as the law keeps it. -/
def Was (w : World) (L : List ByteArray) (ws : List Ev) : Prop := L = ws.map evLine ∧ ∀ x ∈ ws, mayB x.k x.id x.l = true ∧ Ints w x.av x.l ∧ x.l.length ≤ 20
theorem Was.snoc {w : World} {L : List ByteArray} {ws : List Ev} (h : Was w L ws) {x : Ev} (h1 : mayB x.k x.id x.l = true) (h2 : Ints w x.av x.l) (h3 : x.l.length ≤ 20) : Was w (L ++ [lineV x.k x.id x.l]) (ws ++ [x]) := by
  refine ⟨by rw [h.1]; simp [evLine], fun y hy => ?_⟩
  rcases List.mem_append.1 hy with hy | hy
  · exact h.2 y hy
  · simp at hy; subst hy; exact ⟨h1, h2, h3⟩
theorem Was.ok {w : World} {L : List ByteArray} {ws : List Ev} (h : Was w L ws) : ∀ x ∈ L, Ok x := fun x hx => by
  rw [h.1] at hx
  obtain ⟨y, hy, rfl⟩ := List.mem_map.1 hx
  exact ok_line (h.2 y hy).1
theorem Was.alike {w : World} {L : List ByteArray} {ws xs : List Ev} {K : Nat} (h : Was w L ws) (hK : K ≤ L.length) (hx : xs.length = K) (hr : Rd xs (L.take K)) : Alike xs (ws.take K) := by
  have hl : L.length = ws.length := by rw [h.1]; simp
  refine ⟨by rw [hx]; simp; omega, fun i x y hxi hyi => ?_⟩
  have hi : i < K := by have := (List.getElem?_eq_some_iff.1 hxi).1; omega
  rw [List.getElem?_take_of_lt hi] at hyi
  have h1 := hr i x hxi
  have h2 : (L.take K).getD i ByteArray.empty = evLine y := by
    rw [h.1]
    simp [List.getD, hi, hyi]
  rw [h2] at h1
  have hm := (h.2 y (List.mem_of_getElem? hyi)).1
  obtain ⟨e1, e2, e3, -⟩ := ParseR.uniq h1 (show ParseR (evLine y) y.k y.id y.l 0 by unfold evLine lineV; rw [if_pos hm]; exact parse_line hm)
  exact ⟨e1, e2, e3⟩
theorem Was.ents {w u : World} {L : List ByteArray} {ws : List Ev} (h : Was w L ws) (hb : Below w.heap.size w u) {base : Nat} {a : Option Addr} {c : Nat} (hr : u.ownsRow base 78 3 (.slice a ws.length c) ws.length (evCells ws)) (K : Nat) : Ents u a (ws.take K) := by
  by_cases h0 : ws = []
  · exact .inl (by simp [h0])
  · obtain ⟨g, ha, _, _, hc⟩ := ev_cells hr h0
    refine .inr ⟨g, 0, ha, fun i x hx => ?_⟩
    have hx' : ws[i]? = some x := by
      by_cases hi : i < K
      · rwa [List.getElem?_take_of_lt hi] at hx
      · rw [List.getElem?_eq_none (by simp; omega)] at hx; cases hx
    have hm := h.2 x (List.mem_of_getElem? hx')
    exact ⟨hc i x hx', hm.2.1.below hb, by have := hm.2.2; omega⟩

end Go.Proofs.YtepclljoiccieaaGreatDoor
/-
  Contracts: the law's texts, of rows that say the same; the reference's All.
-/
namespace Go.Proofs.YtepclljoiccieaaGreatDoor
open Go.ChangeShapes Go.WideShapes Go.ChangeAt Go.RowKit

theorem typ_ne3 : 78 ≠ 3 := by decide
theorem Good.grew {N base : Nat} {x : Ev} {W W' : World} {vw : Value} {n : Nat} {xs : List Value} (hx : Good N x W) (h : W.ownsRow base 78 3 vw n xs) (hg : W.grownBy W' vw.ownBlock) : Good N x W' := by
  refine ⟨hx.1.moveF (fun k _ ⟨cs, hc⟩ => hg.block k (Array.getElem?_eq_some_iff.1 hc).1 (fun e => ?_)), hx.2⟩
  rcases h.2 with ⟨rfl, _⟩ | ⟨g, cap, cur, rfl, _, hc', _⟩
  · simp [Value.ownBlock] at e
  · simp [Value.ownBlock] at e
    subst e
    rw [hc] at hc'
    simp only [Option.some.injEq, Obj.cells.injEq] at hc'
    exact typ_ne3 hc'.2.1.symm
theorem Good.on {N : Nat} {x : Ev} {W W' : World} (hx : Good N x W) (hb : Below W.heap.size W W') : Good N x W' := ⟨hx.1.below hb, hx.2⟩
theorem Rd.whole {ys : List Ev} {L : List ByteArray} (h : Rd ys L) (hl : ys.length ≤ L.length) : ys.length ≤ (wholeD fun s => Classical.propDecidable (Ok s)) L :=
  whole_ge L ys.length hl (fun i hi => ⟨_, _, _, h i ys[i] (by simp [hi])⟩)
theorem not_ok {s k : ByteArray} {id : Int} {l : List Int} {er : Int} (h : ParseR s k id l er) (he : er ≠ 0) : ¬ Ok s := fun ⟨_, _, _, h'⟩ => he (ParseR.uniq h h').2.2.2

/-- The same, with the blocks told: none below B. -/
def EntsF (B : Nat) (w : World) (a : Option Addr) (xs : List Ev) : Prop :=
  xs = [] ∨ ∃ g off, a = some ⟨g, off, none⟩ ∧ B ≤ g ∧ ∀ i x, xs[i]? = some x → (w.cell? ⟨g, off + i * 3, none⟩ = some (.string x.k) ∧ w.cell? ⟨g, off + i * 3 + 1, none⟩ = some (.int .i64 x.id) ∧ w.cell? ⟨g, off + i * 3 + 2, none⟩ = some (.slice x.av x.l.length x.cv)) ∧ IntsF B w x.av x.l ∧ x.l.length ≤ 4611686018427387904
theorem EntsF.ents {B : Nat} {w : World} {a : Option Addr} {xs : List Ev} (h : EntsF B w a xs) : Ents w a xs := by
  rcases h with h | ⟨g, off, ha, _, hc⟩
  · exact .inl h
  · exact .inr ⟨g, off, ha, fun i x hx => by obtain ⟨h1, h2, h3⟩ := hc i x hx; exact ⟨h1, h2.ints, h3⟩⟩
theorem EntsF.below {B : Nat} {w w' : World} {a : Option Addr} {xs : List Ev} (h : EntsF B w a xs) (hb : Below w.heap.size w w') : EntsF B w' a xs := by
  rcases h with h | ⟨g, off, ha, hg, hc⟩
  · exact .inl h
  · refine .inr ⟨g, off, ha, hg, fun i x hx => ?_⟩
    obtain ⟨⟨h1, h2, h3⟩, h4, h5⟩ := hc i x hx
    exact ⟨⟨cellL h1 hb, cellL h2 hb, cellL h3 hb⟩, h4.below hb, h5⟩
theorem entsF_of {W : World} {base : Nat} {a : Option Addr} {c : Nat} {xs : List Ev} (h : W.ownsRow base 78 3 (.slice a xs.length c) xs.length (evCells xs)) (hg : ∀ x ∈ xs, Good base x W) : EntsF base W a xs := by
  by_cases h0 : xs = []
  · exact .inl h0
  · obtain ⟨g, ha, hb, _, hc⟩ := ev_cells h h0
    refine .inr ⟨g, 0, ha, hb, fun i x hx => ⟨hc i x hx, (hg x (List.mem_of_getElem? hx)).1, ?_⟩⟩
    have := (hg x (List.mem_of_getElem? hx)).2.1; omega

def RAll (w : World) (L : List ByteArray) (e : Ending) (w' : World) : Prop := ∃ ys a c, e = .returned (.slice a ys.length c) ∧ ys.length = (wholeD fun s => Classical.propDecidable (Ok s)) L ∧ Rd ys L ∧ Ents w' a ys ∧ Below w.heap.size w w'
def RAllF (w : World) (L : List ByteArray) (e : Ending) (w' : World) : Prop := ∃ ys a c, e = .returned (.slice a ys.length c) ∧ ys.length = (wholeD fun s => Classical.propDecidable (Ok s)) L ∧ Rd ys L ∧ EntsF w.heap.size w' a ys ∧ Below w.heap.size w w'
set_option maxRecDepth 100000 in
set_option maxHeartbeats 2000000 in
theorem rallF_any {w0 w : World} (hg0 : Gl w0) (hw : Below w0.heap.size w0 w) {B q : Nat} {v : Value} {room : Int} {L : List ByteArray} {sure : Nat} {down : Bool} (h : R.Jr B w q v room L sure down) :
    Calls Tryz.prog 37 #[.pointer (some ⟨q, 0, none⟩)] w (RAllF w L) := by
  obtain ⟨⟨c0, c1, c2, c3⟩, -⟩ := h.cells
  obtain ⟨a, c, rfl, hc, hst⟩ := h.row
  have HG := hide hg0
  have HW := hide hw
  have HST := hide hst
  have HSZ : Hid (∀ x ∈ L, x.size ≤ 63) := fun x hx => (h.2.2.2.2.2 x hx).2
  have hl : L.length ≤ 4096 := h.2.2.2.2.1
  obtain ⟨n, hn⟩ : ∃ n, L.length = n := ⟨_, rfl⟩
  rw [hn] at c1 hl
  have HN := hide hn
  clear hg0 hw hst hc hn h
  go_enter Tryz.func37, Tryz.ntmps37
  go_wp2_with fail
  go_loopw [3, 13] (fun lv i wr => ∃ (j : Nat) (ys : List Ev), i = .int .i64 j ∧ j ≤ n ∧ Hid (ys.length = j) ∧ Hid (Rd ys L) ∧ Hid (wr.ownsRow w.heap.size 78 3 lv ys.length (evCells ys)) ∧ Hid (∀ x ∈ ys, Good w.heap.size x wr) ∧ Hid (Below w.heap.size w wr)) (fun _ i _ => n - (intOf i).toNat)
  case atStart => exact ⟨0, [], rfl, Nat.zero_le _, rfl, Rd.nil L, ⟨rfl, .inl ⟨rfl, rfl⟩⟩, (fun x hx => by cases hx), Below.refl _ _⟩
  case round =>
    obtain ⟨j, ys, rfl, hj, HYL, HRD, HR, HGD, HB⟩ := hrel
    obtain ⟨lv, lc, rfl, -⟩ := row_slice HR.out
    by_cases hlt : j < n
    · have ql : (j : Int) < (n : Int) := by omega
      have hjl : j < L.length := by rw [HN.out]; omega
      obtain ⟨ga, oa, rfl, hca⟩ : ∃ g o, a = some ⟨g, o, none⟩ ∧ ∀ i, i < L.length → w.cell? ⟨g, o + i, none⟩ = some (.string (L.getD i ByteArray.empty)) := by
        rcases HST.out with h0 | ⟨g, o, h1, h2⟩
        · subst h0; simp at hjl
        · exact ⟨g, o, h1, h2⟩
      obtain ⟨X, hX⟩ : ∃ X, L.getD j ByteArray.empty = X := ⟨_, rfl⟩
      have k1 : wr.cell? ⟨ga, oa + j, none⟩ = some (.string X) := by rw [← hX]; exact cellL (hca j hjl) HB.out
      have HX := hide hX
      have hXm : X ∈ L := by rw [← hX]; simp [List.getD, hjl]
      have hXs := HSZ.out X hXm
      have P1 := ref_parse_anyF X wr (by omega) (HG.out.on (bel_on' HW.out HB.out))
      clear hca hjl hX hXm hXs
      go_wp2_with fail
      refine P1.mono ?_
      rintro e u1 ⟨k, id, l, av, cv, er, rfl, hin, hll, hpr, hb1⟩
      have HPR := hide hpr
      have HB1 := hide (bel_on' HB.out hb1)
      have HR1 : Hid (u1.ownsRow w.heap.size 78 3 (.slice lv ys.length lc) ys.length (evCells ys)) := row_stays HR.out (fun k cs _ hk => hb1.block k (Array.getElem?_eq_some_iff.1 hk).1)
      have HGD1 : Hid (∀ x ∈ ys, Good w.heap.size x u1) := fun x hx => (HGD.out x hx).on hb1
      have HX1 : Hid (Good w.heap.size ⟨k, id, l, av, cv⟩ u1) := ⟨hin.lower HB.out.size, hll⟩
      clear hin hll hpr hb1 P1 k1 HGD HR HB
      by_cases her : er = 0
      · subst her
        obtain ⟨U, hU⟩ : ∃ U, U = (u1.alloc (.cells #[.string k, .int .i64 id, .slice av l.length cv] 78)).alloc (.cells #[.string k, .int .i64 id, .slice av l.length cv] 78) := ⟨_, rfl⟩
        have hbU : Below u1.heap.size u1 U := by rw [hU]; exact ((Below.refl _ _).alloc (Nat.le_refl _) _).alloc (by simp) _
        have HR2 : Hid (U.ownsRow w.heap.size 78 3 (.slice lv ys.length lc) ys.length (evCells ys)) := row_stays HR1.out (fun k cs _ hk => hbU.block k (Array.getElem?_eq_some_iff.1 hk).1)
        have HGD2 : Hid (∀ x ∈ ys ++ [⟨k, id, l, av, cv⟩], Good w.heap.size x U) := fun x hx => by
          rcases List.mem_append.1 hx with hx | hx
          · exact (HGD1.out x hx).on hbU
          · simp at hx; subst hx; exact HX1.out.on hbU
        have HB2 := hide (bel_on' HB1.out hbU)
        have HC2 : Hid (∀ j u, [Value.string k, .int .i64 id, .slice av l.length cv][j]? = some u → U.cell? ((⟨u1.heap.size + 1, 0, none⟩ : Addr).add j) = some u) := by
          show ∀ j u, _ → _
          have h3 := cell_three_new (u1.alloc (.cells #[.string k, .int .i64 id, .slice av l.length cv] 78)) (.string k) (.int .i64 id) (.slice av l.length cv) 78
          rw [← hU] at h3
          simpa using h3
        have HRD2 : Hid (Rd (ys ++ [⟨k, id, l, av, cv⟩]) L) := HRD.out.snoc (by rw [HYL.out, HX.out]; exact HPR.out)
        have hyn : ys.length ≤ 4096 := by rw [HYL.out]; omega
        have HYN := hide hyn
        rw [hU] at HR2 HC2 HB2 HGD2
        clear hbU hU hyn
        go_wp2_with (first
          | (at_builtin; refine append_ents rfl (.tmp 25) (.tmp 27) rfl w.heap.size (.slice lv ys.length lc) ys rfl HR2.out ⟨u1.heap.size + 1, 0, none⟩ ⟨k, id, l, av, cv⟩ rfl HC2.out ?hnn HB2.out.size ?_; (case hnn => have := HYN.out; omega); intro a6 c6 w6 o6 g6; have HR6 := hide o6; have HGD6 := hide (fun x hx => (HGD2.out x hx).grew HR2.out g6); have HB6 := hide (HB2.out.grown g6 HB2.out.size (fun k e => (HR2.out.lt k e).1)); clear o6 g6))
        go_roundw
        case rel => exact ⟨j + 1, ys ++ [⟨k, id, l, av, cv⟩], by go_num, by omega, by show _ = _; simp [HYL.out], HRD2, HR6, HGD6, HB6⟩
        case measure => simp [intOf]; omega
      · have qe : (er == 0) = false := by simp [her]
        have qn : (er != 0) = true := by simp [her]
        have HWL : Hid (ys.length = (wholeD fun s => Classical.propDecidable (Ok s)) L) := by
          show _ = _
          have h1 := HRD.out.whole (by rw [HYL.out, HN.out]; omega)
          have h2 := whole_stop L j (by rw [HN.out]; omega) (by rw [HX.out]; exact not_ok HPR.out her)
          have h3 := HYL.out
          omega
        have HE := hide (entsF_of HR1.out HGD1.out)
        have HE2 : Hid (EntsF w.heap.size (u1.alloc (.cells #[.string k, .int .i64 id, .slice av l.length cv] 78)) lv ys) := HE.out.below ((Below.refl _ _).alloc (Nat.le_refl _) _)
        have HB2 : Hid (Below w.heap.size w (u1.alloc (.cells #[.string k, .int .i64 id, .slice av l.length cv] 78))) := HB1.out.alloc HB1.out.size _
        clear her
        go_wp2
        go_ret
        exact ⟨ys, lv, lc, rfl, HWL.out, HRD.out, HE2.out, HB2.out⟩
    · have ql : ¬ (j : Int) < (n : Int) := by omega
      have HWL : Hid (ys.length = (wholeD fun s => Classical.propDecidable (Ok s)) L) := by
        show _ = _
        have h1 := HRD.out.whole (by rw [HYL.out, HN.out]; omega)
        have h2 := whole_le L
        have h3 := HYL.out
        have h4 := HN.out
        omega
      have HE := hide (entsF_of HR.out HGD.out)
      go_wp2
      go_ret
      exact ⟨ys, lv, lc, rfl, HWL.out, HRD.out, HE.out, HB.out⟩
theorem rall_any {w0 w : World} (hg0 : Gl w0) (hw : Below w0.heap.size w0 w) {B q : Nat} {v : Value} {room : Int} {L : List ByteArray} {sure : Nat} {down : Bool} (h : R.Jr B w q v room L sure down) :
    Calls Tryz.prog 37 #[.pointer (some ⟨q, 0, none⟩)] w (RAll w L) :=
  (rallF_any hg0 hw h).mono (fun _ _ ⟨ys, a, c, h1, h2, h3, h4, h5⟩ => ⟨ys, a, c, h1, h2, h3, h4.ents, h5⟩)
end Go.Proofs.YtepclljoiccieaaGreatDoor
/-
  Contracts: the reference's Crash and Recover.
-/
namespace Go.Proofs.YtepclljoiccieaaGreatDoor
open Go.ChangeShapes Go.WideShapes Go.ChangeAt Go.RowKit

/-- append([]string(nil), x...). -/
theorem append_strs_nil {w : World} {ops : Array Oper} {rest : List Oper} {o : Oper} {a : Act} {Q : Exit → Act → World → Prop} (hgd : o.guard = none) (s x : Operand)
    (ho : o.op = .call { callee := .builtin .append, args := #[s, x], argTypes := #[43, 43] })
    (base : Nat) (hs : a.eval s = .slice none 0 0)
    (ao : Option Addr) (m c : Nat) (l : List ByteArray) (hm : l.length = m) (hx : a.eval x = .slice ao m c) (hn : ao = none → m = 0 ∧ c = 0) (hl : Strs w ao l) (hb : m ≤ 8796093022208) (hbase : base ≤ w.heap.size)
    (h : ∀ a' c' w', w'.ownsRow base 9 1 (.slice a' m c') m (l.map Value.string) → w.grownBy w' none → ((Value.slice a' m c').ownBlock = none ∨ (Value.slice a' m c').ownBlock = some w.heap.size) → wpList Tryz.prog ops Q rest (a.put o.dst (.slice a' m c')) w') : wpList Tryz.prog ops Q (o :: rest) a w := by
  obtain ⟨i0, hi, hz0, hz1, hz2⟩ := info_parts Tryz.infoStr
  have hown : w.ownsRow base 9 1 (.slice none 0 0) 0 (([] : List ByteArray).map Value.string) := ⟨rfl, .inl ⟨rfl, rfl⟩⟩
  cases ao with
  | none =>
    obtain ⟨h0, rfl⟩ := hn rfl
    have e : l = [] := List.eq_nil_of_length_eq_zero (by omega)
    subst e
    subst h0
    exact wpList_append_own_none hgd s x 43 ho base 9 i0 1 Tryz.underlying43 hi _ 0 _ hs hown hx (h none 0 w hown ⟨rfl, rfl, rfl, Nat.le_refl _, fun _ _ _ => rfl⟩ (.inl rfl))
  | some ad =>
    refine append_strs_at hgd s x ho base (.slice none 0 0) 0 [] hs hown ad m c l hm hx hl (by omega) hbase ?_
    intro v' w' h1 h2 h3
    rw [Nat.zero_add, List.nil_append] at h1
    obtain ⟨a', c', rfl, -⟩ := row_slice h1
    exact h a' c' w' h1 h2 h3

theorem Off.fresh {p : Nat} {v v' : Value} {w w' : World} (g : w.grownBy w' none) (hat : v'.ownBlock = none ∨ v'.ownBlock = some w.heap.size) : Off p v v' w w' :=
  ⟨⟨g.os, g.tape, g.output, g.size⟩, fun k hk _ hv => ⟨g.block k hk (by simp), fun e => by
    rcases hat with h | h
    · rw [h] at e; cases e
    · rw [h] at e; simp at e; omega⟩⟩
theorem Off.sameAs {p : Nat} {v v' v'' : Value} {w w' : World} (h : Off p v v' w w') (e : v''.ownBlock = v'.ownBlock) : Off p v v'' w w' := by
  obtain ⟨h1, h2⟩ := h
  exact ⟨h1, fun k hk hp hv => by rw [e]; exact h2 k hk hp hv⟩
theorem grown_none {w w' : World} (g : w.grownBy w' none) : Below w.heap.size w w' := ⟨g.os, g.tape, g.output, g.size, fun k hk => g.block k hk (by simp)⟩
theorem row_take {w : World} {B : Nat} {a : Option Addr} {c : Nat} {L : List ByteArray} (h : w.ownsRow B 9 1 (.slice a L.length c) L.length (L.map Value.string)) {K : Nat} (hK : K ≤ L.length) :
    w.ownsRow B 9 1 (.slice a K c) (L.take K).length ((L.take K).map Value.string) := by
  have hl : (L.take K).length = K := by simp; omega
  rw [hl]
  refine ⟨by simp; omega, ?_⟩
  rcases h.2 with ⟨e, h0⟩ | ⟨g, cap, cur, e, hb, hc, h1, h2, h3, h4⟩
  · simp only [Value.slice.injEq] at e
    obtain ⟨rfl, h0', rfl⟩ := e
    obtain rfl : K = 0 := by omega
    exact .inl ⟨rfl, rfl⟩
  · simp only [Value.slice.injEq] at e
    obtain ⟨rfl, _, rfl⟩ := e
    refine .inr ⟨g, c, cur, rfl, hb, hc, by omega, h2, h3, ?_⟩
    rw [List.map_take, ← h4, List.take_take, Nat.mul_one, Nat.mul_one, Nat.min_eq_left hK]
theorem row_none {w : World} {B : Nat} {a : Option Addr} {n c : Nat} {xs : List Value} {t : TypeId} {s : Nat} (h : w.ownsRow B t s (.slice a n c) n xs) : a = none → n = 0 ∧ c = 0 := fun e => by
  subst e
  rcases h.2 with ⟨e, h0⟩ | ⟨g, cap, cur, e, _⟩
  · cases e; exact ⟨h0, rfl⟩
  · cases e
theorem strs_take {w : World} {a : Option Addr} {L : List ByteArray} (h : Strs w a L) {K : Nat} (hK : K ≤ L.length) : Strs w a (L.take K) := by
  rcases h with rfl | ⟨b, off, e, hc⟩
  · exact .inl (by simp)
  · refine .inr ⟨b, off, e, fun i hi => ?_⟩
    have hi' : i < K := by simp at hi; omega
    rw [hc i (by omega)]
    simp [List.getD, hi']

namespace R
theorem crash_down {B : Nat} {w : World} {p : Nat} {v : Value} {room : Int} {L : List ByteArray} {sure : Nat} (h : Jr B w p v room L sure true) (stay torn : Int) :
    Calls Tryz.prog 32 #[.pointer (some ⟨p, 0, none⟩), .int .i64 stay, .int .i64 torn] w fun e w' => (∃ x, e = .returned x) ∧ Below w.heap.size w w' := by
  obtain ⟨⟨c0, c1, c2, c3⟩, f1, f2, f3⟩ := h.cells
  go_enter Tryz.func32, Tryz.ntmps32
  go_wp2
  refine bodyPost_ret (results_none rfl _ _ _) rfl ?_
  exact ⟨⟨_, rfl⟩, Below.refl _ _⟩

theorem Jr.stored {B : Nat} {w w' : World} {p : Nat} {v v' : Value} {room : Int} {L L' : List ByteArray} {sure : Nat} {down : Bool} (h : Jr B w p v room L sure down) (hp : w'.heap[p]? = w.heap[p]?) {n : Nat} (hn : L'.length = n) (o : w'.ownsRow B 9 1 v' n (L'.map Value.string))
    (hl : L'.length ≤ 4096) (hx : ∀ x ∈ L', 1 ≤ x.size ∧ x.size ≤ 63) : Jr B (w'.setCell ⟨p, 1, none⟩ v') p v' room L' sure down ∧ w'.cell? ⟨p, 1, none⟩ = some v ∧ w'.frozen? ⟨p, 1, none⟩ = false := by
  subst hn
  exact ⟨h.setRow hp o hl hx, by rw [cell_of (hp.trans h.1)]; rfl, frozen_of_row _ _ _ _ _ (hp.trans h.1)⟩
theorem fresh_ne {w : World} {p : Nat} {v : Value} (h : v.ownBlock = none ∨ v.ownBlock = some w.heap.size) (hp : p < w.heap.size) : v.ownBlock ≠ some p := fun e => by
  rcases h with h | h
  · rw [h] at e; cases e
  · rw [h] at e; simp at e; omega
theorem str_cell {w : World} {a : Option Addr} {L : List ByteArray} (h : Strs w a L) {K : Nat} (hK : K < L.length) : ∃ b off, a = some ⟨b, off, none⟩ ∧ w.cell? ⟨b, off + K, none⟩ = some (.string (L.getD K ByteArray.empty)) := by
  rcases h with rfl | ⟨b, off, e, hc⟩
  · simp at hK
  · exact ⟨b, off, e, hc K hK⟩

set_option maxRecDepth 100000 in
set_option maxHeartbeats 2000000 in
theorem crash_up {B : Nat} {w : World} {p : Nat} {v : Value} {room : Int} {L : List ByteArray} {sure : Nat} (h : Jr B w p v room L sure false) (hsu : sure ≤ L.length) (h2 : ∀ x ∈ L, 2 ≤ x.size) (stay torn : Int) :
    Calls Tryz.prog 32 #[.pointer (some ⟨p, 0, none⟩), .int .i64 stay, .int .i64 torn] w fun e w' => (∃ x, e = .returned x) ∧ ∃ v', Jr B w' p v' room (crashL L sure stay torn) sure true ∧ Off p v v' w w' := by
  obtain ⟨⟨c0, c1, c2, c3⟩, f1, f2, f3⟩ := h.cells
  obtain ⟨a, c, rfl, hc, hst⟩ := h.row
  obtain ⟨K, hK⟩ : ∃ K, keptN L sure stay = K := ⟨_, rfl⟩
  have hKl : K ≤ L.length := by rw [← hK]; unfold keptN; omega
  have hKi : (sure : Int) + max 0 (min stay ((L.length : Int) - (sure : Int))) = (K : Int) := by rw [← hK]; unfold keptN; omega
  have HJ1 := hide (h.setDown true)
  have HO1 := hide ((Off.refl p (.slice a L.length c) w).setCell 3 (.bool true))
  have hL4 : L.length ≤ 4096 := h.2.2.2.2.1
  have HZ : Hid (∀ x ∈ L, 1 ≤ x.size ∧ x.size ≤ 63) := h.2.2.2.2.2
  obtain ⟨M, hM⟩ : ∃ M, crashL L sure stay torn = M := ⟨_, rfl⟩
  rw [hM]
  unfold crashL at hM
  rw [hK] at hM
  have HM := hide hM
  have H2 := hide h2
  clear hK hM h2 h
  go_enter Tryz.func32, Tryz.ntmps32
  go_wp2_with fail
  obtain ⟨u1, hu1⟩ : ∃ u1, u1 = w.setCell ⟨p, 3, none⟩ (.bool true) := ⟨_, rfl⟩
  rw [← hu1] at HJ1 HO1 ⊢
  clear c0 c1 c2 c3 f1 f2 f3 hu1
  obtain ⟨⟨c0, c1, c2, c3⟩, f1, f2, f3⟩ := HJ1.out.cells
  go_quiet (fail)
  have HBD : Hid (Below u1.heap.size u1 (u1.drewN nq)) := belowN (Below.refl _ _) nq
  generalize u1.drewN nq = u2 at HBD ⊢
  have HJ2 := hide (HJ1.out.on HBD.out)
  have HO2 := hide (HO1.out.trans (Off.of_below HBD.out))
  clear c0 c1 c2 c3 f1 f2 f3 HBD HJ1 HO1
  obtain ⟨⟨c0, c1, c2, c3⟩, f1, f2, f3⟩ := HJ2.out.cells
  have hKc : (K : Int) ≤ (c : Int) := by omega
  have HN : Hid (a = none → K = 0 ∧ c = 0) := fun e => by have := row_none HJ2.out.2.2.1 e; omega
  have HS2 : Hid (Strs u2 a (L.take K)) := strs_take (by obtain ⟨a', c', e', _, hs'⟩ := HJ2.out.row; cases e'; exact hs') hKl
  have HTL : Hid ((L.take K).length = K) := by show _ = _; simp; omega
  by_cases hlt : K < L.length
  · have ql : (K : Int) < (L.length : Int) := by omega
    obtain ⟨b, off, rfl, cX⟩ := str_cell (by obtain ⟨a', c', e', _, hs'⟩ := HJ2.out.row; cases e'; exact hs') hlt
    obtain ⟨X, hX⟩ : ∃ X, L.getD K ByteArray.empty = X := ⟨_, rfl⟩
    have hXm : X ∈ L := by rw [← hX]; simp [List.getD, hlt]
    have hX2 := H2.out X hXm
    have hX6 := (HZ.out X hXm).2
    rw [hX] at cX
    have CX := hide cX
    have HMX : Hid (M = L.take K ++ (if tearN X torn = 0 then [] else [X.extract 0 (tearN X torn)])) := by show M = _; rw [← HM.out, if_neg (by omega), hX]
    clear cX hX hXm
    by_cases ht : torn > 0
    · obtain ⟨m, hm⟩ : ∃ m, tearN X torn = m := ⟨_, rfl⟩
      have hmi : min torn ((X.size : Int) - 1) = (m : Int) := by rw [← hm]; unfold tearN; omega
      have hm1 : 1 ≤ m := by omega
      have hm2 : m ≤ X.size := by omega
      have HY1 : Hid (1 ≤ (X.extract 0 m).size ∧ (X.extract 0 m).size ≤ 63) := by show _ ∧ _; simp; omega
      have HMY : Hid (M = L.take K ++ [X.extract 0 m]) := by show M = _; rw [HMX.out, hm, if_neg (by omega)]
      have HL3 : Hid ((L.take K ++ [X.extract 0 m]).length = K + 1) := by show _ = _; simp; omega
      have HX3 : Hid (∀ x ∈ L.take K ++ [X.extract 0 m], 1 ≤ x.size ∧ x.size ≤ 63) := fun x hx => by
        rcases List.mem_append.1 hx with hx | hx
        · exact HZ.out x (List.mem_of_mem_take hx)
        · rw [List.mem_singleton] at hx; subst hx; exact HY1.out
      clear hm
      go_wp2_with (first
        | (at_builtin; refine append_strs_nil rfl (.const (.slice none 0 0)) (.tmp 39) rfl B rfl (some ⟨b, off, none⟩) K c (L.take K) HTL.out rfl HN.out HS2.out ?hnn HJ2.out.low ?_; (case hnn => omega); intro a3 c3' w3 o3 g3 at3; have HJ3 := hide (HJ2.out.on (grown_none g3)); have HO3 := hide (HO2.out.trans (Off.fresh (p := p) (v := .slice (some ⟨b, off, none⟩) L.length c) (v' := .slice a3 K c3') g3 at3)); obtain ⟨⟨e0, e1, e2, e3⟩, g1, g2, g3'⟩ := HJ3.out.cells; have HR3 := hide o3; have HQ3 := hide (fresh_ne at3 HJ2.out.lt); have dX := cellL CX.out (grown_none g3); have HR4 := hide (HR3.out.alloc (.cells #[.string (X.extract 0 m)] 9)); have HJ4 := hide (HJ3.out.on ((Below.refl w3.heap.size w3).alloc (Nat.le_refl _) (.cells #[.string (X.extract 0 m)] 9))); have HO4 := hide (HO3.out.trans (Off.of_below ((Below.refl w3.heap.size w3).alloc (Nat.le_refl _) (.cells #[.string (X.extract 0 m)] 9)))); clear o3 g3 at3)
        | (at_builtin; refine append_strs_at rfl (.tmp 59) (.tmp 67) rfl B (.slice a3 K c3') K (L.take K) rfl HR4.out ⟨w3.heap.size, 0, none⟩ 1 1 [X.extract 0 m] rfl rfl (strs_one w3 _) ?hn2 HJ4.out.low ?_; (case hn2 => omega); intro v6 w6 o6 g6 at6; obtain ⟨a6, c6, rfl, -⟩ := row_slice o6; obtain ⟨h9, d9, k9⟩ := HJ4.out.stored (w' := w6) (g6.block p HJ4.out.lt (fun e => HQ3.out e.symm)) HL3.out o6 (by have := HL3.out; omega) HX3.out; have HF := hide h9; have HOF := hide ((HO4.out.trans (Off.grown g6 at6)).setCell 1 (.slice a6 (K + 1) c6)); clear h9 o6 g6 at6))
      go_end0
      exact ⟨⟨_, rfl⟩, _, by rw [HMY.out]; exact HF.out, HOF.out⟩
    · have HMY : Hid (M = L.take K) := by show M = _; rw [HMX.out, if_pos (by unfold tearN; omega), List.append_nil]
      go_wp2_with (first
        | (at_builtin; refine append_strs_nil rfl (.const (.slice none 0 0)) (.tmp 39) rfl B rfl (some ⟨b, off, none⟩) K c (L.take K) HTL.out rfl HN.out HS2.out ?hnn HJ2.out.low ?_; (case hnn => omega); intro a3 c3' w3 o3 g3 at3; have HJ3 := hide (HJ2.out.on (grown_none g3)); have HO3 := hide (HO2.out.trans (Off.fresh (p := p) (v := .slice (some ⟨b, off, none⟩) L.length c) (v' := .slice a3 K c3') g3 at3)); obtain ⟨⟨e0, e1, e2, e3⟩, g1, g2, g3'⟩ := HJ3.out.cells; obtain ⟨h9, -, -⟩ := HJ3.out.stored (w' := w3) rfl HTL.out o3 (by have := HTL.out; omega) (fun x hx => HZ.out x (List.mem_of_mem_take hx)); have HF := hide h9; have HOF := hide (HO3.out.setCell 1 (.slice a3 K c3')); clear h9; clear o3 g3 at3))
      go_end0
      exact ⟨⟨_, rfl⟩, _, by rw [HMY.out]; exact HF.out, HOF.out⟩
  · have ql : ¬ (K : Int) < (L.length : Int) := by omega
    have HMY : Hid (M = L.take K) := by show M = _; rw [← HM.out, if_pos (by omega), List.take_of_length_le (by omega)]
    go_wp2_with (first
      | (at_builtin; refine append_strs_nil rfl (.const (.slice none 0 0)) (.tmp 39) rfl B rfl a K c (L.take K) HTL.out rfl HN.out HS2.out ?hnn HJ2.out.low ?_; (case hnn => omega); intro a3 c3' w3 o3 g3 at3; have HJ3 := hide (HJ2.out.on (grown_none g3)); have HO3 := hide (HO2.out.trans (Off.fresh (p := p) (v := .slice a L.length c) (v' := .slice a3 K c3') g3 at3)); obtain ⟨⟨e0, e1, e2, e3⟩, g1, g2, g3'⟩ := HJ3.out.cells; obtain ⟨h9, -, -⟩ := HJ3.out.stored (w' := w3) rfl HTL.out o3 (by have := HTL.out; omega) (fun x hx => HZ.out x (List.mem_of_mem_take hx)); have HF := hide h9; have HOF := hide (HO3.out.setCell 1 (.slice a3 K c3')); clear h9; clear o3 g3 at3))
    go_end0
    exact ⟨⟨_, rfl⟩, _, by rw [HMY.out]; exact HF.out, HOF.out⟩

theorem recover_up {B : Nat} {w : World} {p : Nat} {v : Value} {room : Int} {L : List ByteArray} {sure : Nat} (h : Jr B w p v room L sure false) :
    Calls Tryz.prog 36 #[.pointer (some ⟨p, 0, none⟩)] w fun e w' => e = .returned (.int .i64 0) ∧ Below w.heap.size w w' := by
  obtain ⟨⟨c0, c1, c2, c3⟩, f1, f2, f3⟩ := h.cells
  go_enter Tryz.func36, Tryz.ntmps36
  go_wp2
  go_ret
  exact ⟨rfl, Below.refl _ _⟩

theorem Jr.recovered {B : Nat} {w : World} {p : Nat} {a : Option Addr} {c : Nat} {room : Int} {L : List ByteArray} {sure : Nat} (h : Jr B w p (.slice a L.length c) room L sure true) {K : Nat} (hK : K ≤ L.length) :
    Jr B (((w.setCell ⟨p, 1, none⟩ (.slice a K c)).setCell ⟨p, 2, none⟩ (.int .i64 K)).setCell ⟨p, 3, none⟩ (.bool false)) p (.slice a K c) room (L.take K) K false ∧
      Off p (.slice a L.length c) (.slice a K c) w (((w.setCell ⟨p, 1, none⟩ (.slice a K c)).setCell ⟨p, 2, none⟩ (.int .i64 K)).setCell ⟨p, 3, none⟩ (.bool false)) := by
  have h1 := ((h.setRow (w' := w) (L' := L.take K) (v' := .slice a K c) rfl (row_take h.2.2.1 hK) (by have := h.2.2.2.2.1; simp; omega) (fun x hx => h.2.2.2.2.2 x (List.mem_of_mem_take hx))).setSure K).setDown false
  exact ⟨h1, ((((Off.refl p (.slice a L.length c) w).setCell 1 _).setCell 2 _).setCell 3 _).sameAs (by cases a <;> rfl)⟩

set_option maxRecDepth 100000 in
set_option maxHeartbeats 2000000 in
theorem recover_down {w0 : World} (hg0 : Gl w0) {w : World} (hw : Below w0.heap.size w0 w) {B p : Nat} {v : Value} {room : Int} {L : List ByteArray} {sure : Nat} (h : Jr B w p v room L sure true) :
    Calls Tryz.prog 36 #[.pointer (some ⟨p, 0, none⟩)] w fun e w' => e = .returned (.int .i64 ((L.length : Int) - ((wholeD fun s => Classical.propDecidable (Ok s)) L : Int))) ∧ ∃ v', Jr B w' p v' room (L.take ((wholeD fun s => Classical.propDecidable (Ok s)) L)) ((wholeD fun s => Classical.propDecidable (Ok s)) L) false ∧ Off p v v' w w' := by
  obtain ⟨⟨c0, c1, c2, c3⟩, f1, f2, f3⟩ := h.cells
  obtain ⟨a, c, rfl, hc, -⟩ := h.row
  have A := rall_any hg0 hw h
  have HJ := hide h
  have hl4 : L.length ≤ 4096 := h.2.2.2.2.1
  have hwl := whole_le L
  obtain ⟨K, hK⟩ : ∃ K, (wholeD fun s => Classical.propDecidable (Ok s)) L = K := ⟨_, rfl⟩
  rw [hK] at hwl ⊢
  have HK := hide hK
  clear h hK
  go_enter Tryz.func36, Tryz.ntmps36
  go_wp2_with fail
  refine A.mono ?_
  rintro e u1 ⟨ys, a1, c1', rfl, hyl, -, -, hb1⟩
  rw [hyl, HK.out]
  have HJ1 := hide (HJ.out.on hb1)
  have HO1 := hide (Off.of_below (p := p) (v := .slice a L.length c) hb1)
  obtain ⟨hr1, hr2⟩ := HJ1.out.recovered hwl
  have HR1 := hide hr1
  have HR2 := hide (HO1.out.trans hr2)
  clear hb1 A hyl c0 c1 c2 c3 f1 f2 f3 hr1 hr2
  obtain ⟨⟨c0, c1, c2, c3⟩, f1, f2, f3⟩ := HJ1.out.cells
  have hKc : (K : Int) ≤ (c : Int) := by omega
  go_wp2
  go_ret
  exact ⟨rfl, _, HR1.out, HR2.out⟩
end R
end Go.Proofs.YtepclljoiccieaaGreatDoor
