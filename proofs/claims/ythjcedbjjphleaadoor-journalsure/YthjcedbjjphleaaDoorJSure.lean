/-
  JournalSure: what was made sure is there behind any crash, in order; what is there is a beginning of what was added; no torn line is ever told.
-/
import Derived.Test.YthjcedbjjphleaaDoorJrnK
namespace Go.Proofs.YthjcedbjjphleaaDoor
open Go.ChangeShapes Go.WideShapes Go.ChangeAt Go.RowKit

theorem typ_ne2 : 24 ≠ 48 ∧ 24 ≠ 9 := by decide

/-- A row of entries lies on where a step has turned a journal alone. -/
theorem row_off {B base : Nat} {w w' : World} {p : Nat} {v v' : Value} {room : Int} {L : List ByteArray} {sure : Nat} {down : Bool} (hj : Jr B w p v room L sure down) (ho : Off p v v' w w') {vw : Value} {n : Nat} {xs : List Value} (h : w.ownsRow base 24 3 vw n xs) : w'.ownsRow base 24 3 vw n xs :=
  row_stays h (fun k cs hc => ho.heap (Array.getElem?_eq_some_iff.1 hc).1
    (fun e => by subst e; rw [hj.1] at hc; simp only [Option.some.injEq, Obj.cells.injEq] at hc; exact typ_ne2.1 hc.2.1.symm)
    (fun e => by
      rcases hj.2.2.1.2 with ⟨rfl, _⟩ | ⟨g, cap, cur, rfl, _, hg, _⟩
      · simp [Value.ownBlock] at e
      · simp [Value.ownBlock] at e
        subst e
        rw [hg] at hc
        simp only [Option.some.injEq, Obj.cells.injEq] at hc
        exact typ_ne2.2 hc.2.1.symm))
/-- A journal lies on where a row of entries has grown. -/
theorem Jr.rowed {B base : Nat} {w w' : World} {p : Nat} {v : Value} {room : Int} {L : List ByteArray} {sure : Nat} {down : Bool} (hj : Jr B w p v room L sure down) {vw : Value} {n : Nat} {xs : List Value} (h : w.ownsRow base 24 3 vw n xs) (hg : w.grownBy w' vw.ownBlock) : Jr B w' p v room L sure down := by
  have hne : ∀ (k : Nat) (cs : Array Value) (t : TypeId), 24 ≠ t → w.heap[k]? = some (.cells cs t (0, 0)) → w'.heap[k]? = w.heap[k]? := fun k cs t ht hc => hg.block k (Array.getElem?_eq_some_iff.1 hc).1 (fun e => by
    rcases h.2 with ⟨rfl, _⟩ | ⟨g, cap, cur, rfl, _, hc', _⟩
    · simp [Value.ownBlock] at e
    · simp [Value.ownBlock] at e
      subst e
      rw [hc] at hc'
      simp only [Option.some.injEq, Obj.cells.injEq] at hc'
      exact ht hc'.2.1.symm)
  obtain ⟨h1, h2, h3, h4⟩ := hj
  refine ⟨(hne p _ _ typ_ne2.1 h1).trans h1, h2, ?_, h4⟩
  obtain ⟨hl, h3⟩ := h3
  refine ⟨hl, ?_⟩
  rcases h3 with h3 | ⟨g, cap, cur, e, hb, hc, rest⟩
  · exact .inl h3
  · exact .inr ⟨g, cap, cur, e, hb, (hne g _ _ typ_ne2.2 hc).trans hc, rest⟩

theorem append_ents {w : World} {ops : Array Oper} {rest : List Oper} {o : Oper} {a : Act} {Q : Exit → Act → World → Prop} (hgd : o.guard = none) (s x : Operand)
    (ho : o.op = .call { callee := .builtin .append, args := #[s, x], argTypes := #[33, 33] })
    (base : Nat) (v : Value) (ws : List Ev) (hs : a.eval s = v) (hown : w.ownsRow base 24 3 v ws.length (evCells ws)) (ad : Addr) (y : Ev) (hx : a.eval x = .slice (some ad) 1 1)
    (hc : ∀ j u, [Value.string y.k, .int .i64 y.id, .slice y.av y.l.length y.cv][j]? = some u → w.cell? (ad.add j) = some u) (hb : ws.length ≤ 1000000) (hbase : base ≤ w.heap.size)
    (h : ∀ a' c' w', w'.ownsRow base 24 3 (.slice a' (ws.length + 1) c') (ws ++ [y]).length (evCells (ws ++ [y])) → w.grownBy w' v.ownBlock → wpList Tryd.prog ops Q rest (a.put o.dst (.slice a' (ws.length + 1) c')) w') : wpList Tryd.prog ops Q (o :: rest) a w := by
  obtain ⟨i0, hi, hz0, hz1, hz2⟩ := info_parts Tryd.infoEnt
  refine wpList_append_own_at _ hgd s x 33 ho base 24 i0 _ 3 48 Tryd.underlying33 hi hz0 hz1 hz2 rfl (by decide) v ws.length (evCells ws) hs hown ad 1 1 [.string y.k, .int .i64 y.id, .slice y.av y.l.length y.cv] hx rfl hc (by simp [Value.oneCell']) (by unfold maxLen; omega) (by omega) hbase ?_
  intro v' w' h1 h2 _ _
  obtain ⟨a', c', rfl⟩ := row_slice h1
  refine h a' c' w' ?_ h2
  rw [evCells_snoc, List.length_append, List.length_singleton]
  exact h1

theorem row_cap {W : World} {base : Nat} {e : TypeId} {s : Nat} {a : Option Addr} {n c : Nat} {xs : List Value} (h : W.ownsRow base e s (.slice a n c) n xs) : n ≤ c := by
  rcases h.2 with ⟨e, rfl⟩ | ⟨g, cap, cur, e, _, _, hn, _⟩
  · exact Nat.zero_le _
  · cases e; exact hn

def evLine (x : Ev) : ByteArray := lineV x.k x.id x.l
/-- What was added, as the law keeps it. -/
def Was (w : World) (L : List ByteArray) (ws : List Ev) : Prop := L = ws.map evLine ∧ ∀ x ∈ ws, mayB x.k x.id x.l = true ∧ Ints w x.av x.l ∧ x.l.length ≤ 20
theorem Was.snoc {w : World} {L : List ByteArray} {ws : List Ev} (h : Was w L ws) {x : Ev} (h1 : mayB x.k x.id x.l = true) (h2 : Ints w x.av x.l) (h3 : x.l.length ≤ 20) : Was w (L ++ [lineV x.k x.id x.l]) (ws ++ [x]) := by
  refine ⟨by rw [h.1]; simp [evLine], fun y hy => ?_⟩
  rcases List.mem_append.1 hy with hy | hy
  · exact h.2 y hy
  · simp at hy; subst hy; exact ⟨h1, h2, h3⟩
theorem Was.ok {w : World} {L : List ByteArray} {ws : List Ev} (h : Was w L ws) : ∀ x ∈ L, Ok x := fun x hx => by
  rw [h.1] at hx
  obtain ⟨y, hy, rfl⟩ := List.mem_map.1 hx
  exact ok_line (h.2 y hy).1
theorem Was.alike {w : World} {L : List ByteArray} {ws xs : List Ev} {K : Nat} (h : Was w L ws) (hK : K ≤ L.length) (hx : xs.length = K) (hr : Rd xs (L.take K)) : Alike xs (ws.take K) := by
  have hl : L.length = ws.length := by rw [h.1]; simp
  refine ⟨by rw [hx]; simp; omega, fun i x y hxi hyi => ?_⟩
  have hi : i < K := by have := (List.getElem?_eq_some_iff.1 hxi).1; omega
  rw [List.getElem?_take_of_lt hi] at hyi
  have h1 := hr i x hxi
  have h2 : (L.take K).getD i ByteArray.empty = evLine y := by
    rw [h.1]
    simp [List.getD, hi, hyi]
  rw [h2] at h1
  have hm := (h.2 y (List.mem_of_getElem? hyi)).1
  obtain ⟨e1, e2, e3, -⟩ := ParseR.uniq h1 (show ParseR (evLine y) y.k y.id y.l 0 by unfold evLine lineV; rw [if_pos hm]; exact parse_line hm)
  exact ⟨e1, e2, e3⟩
theorem Was.ents {w u : World} {L : List ByteArray} {ws : List Ev} (h : Was w L ws) (hb : Below w.heap.size w u) {base : Nat} {a : Option Addr} {c : Nat} (hr : u.ownsRow base 24 3 (.slice a ws.length c) ws.length (evCells ws)) (K : Nat) : Ents u a (ws.take K) := by
  by_cases h0 : ws = []
  · exact .inl (by simp [h0])
  · obtain ⟨g, ha, _, _, hc⟩ := ev_cells hr h0
    refine .inr ⟨g, 0, ha, fun i x hx => ?_⟩
    have hx' : ws[i]? = some x := by
      by_cases hi : i < K
      · rwa [List.getElem?_take_of_lt hi] at hx
      · rw [List.getElem?_eq_none (by simp; omega)] at hx; cases hx
    have hm := h.2 x (List.mem_of_getElem? hx')
    exact ⟨hc i x hx', hm.2.1.below hb, by have := hm.2.2; omega⟩

set_option maxRecDepth 100000 in
set_option maxHeartbeats 4000000 in
theorem journalSure_walk (a0 : Option Addr) (len0 cap0 : Nat) (cl0 : List Cv) (a1 : Int) (a2 : Int) (w : World) (e0 : cl0.length = len0) (m0 : len0 ≤ 9223372036854775807) (w0 : CallsAt w a0 cl0) (_w1 : (Lit.int .i64 a1).wf = true) (_w2 : (Lit.int .i64 a2).wf = true) (hg : Gl w) :
    Calls Tryd.prog 4 #[.slice a0 len0 cap0, .int .i64 a1, .int .i64 a2] w fun e w' => e = .returned (.bool true) ∧ Below w.heap.size w w' := by
  subst e0
  have HG : Hid (Gl w) := hg
  have HC : Hid (CallsAt w a0 cl0) := w0
  have HF := few_any a0 cl0 cap0 w m0 w0
  clear hg w0 _w1 _w2
  go_enter Tryd.func4, Tryd.ntmps4
  go_wp2_with fail
  refine HF.mono ?_
  rintro e u1 ⟨⟨rfl, hfew⟩ | rfl, hb1⟩
  rotate_left
  · have HB1 := hide hb1
    clear hb1 HF
    go_wp2_with fail
    refine (jawake_any _ (HG.out.on HB1.out)).mono ?_
    rintro e u2 ⟨rfl, hb2⟩
    go_wp2
    go_ret
    exact ⟨rfl, bel_on' HB1.out hb2⟩
  have HB1 := hide hb1
  have HFW := hide hfew
  have HN := new_any 4096 u1
  rw [show roomV 4096 = 4096 from rfl] at HN
  have HJ0 := hide (Jr.new u1 w.heap.size hb1.size 4096 (by omega) (by omega))
  have HB0 := hide (hb1.alloc hb1.size (.cells #[.int .i64 4096, .slice none 0 0, .int .i64 0, .bool false] 48))
  have hpw : w.heap.size ≤ u1.heap.size := hb1.size
  clear hb1 HF hfew
  go_wp2_with fail
  refine HN.mono ?_
  rintro e u2 ⟨rfl, rfl⟩
  clear HN
  obtain ⟨p, hp⟩ : ∃ p, u1.heap.size = p := ⟨_, rfl⟩
  rw [hp] at HJ0 hpw ⊢
  have HBc : Hid (∀ u, Below w.heap.size w u → CallsAt u a0 cl0) := fun u hu => HC.out.below hu
  go_wp2_with fail
  go_loopw [8, 9, 21] (fun vw sv i wr => ∃ (j s : Nat) (v : Value) (L : List ByteArray) (ws : List Ev), i = .int .i64 j ∧ sv = .int .i64 s ∧ j ≤ cl0.length ∧ L.length ≤ j ∧ s ≤ L.length ∧ L.length = ws.length ∧ Hid (Was w L ws) ∧ Hid (Jr w.heap.size wr p v 4096 L s false) ∧ Hid (wr.ownsRow w.heap.size 24 3 vw ws.length (evCells ws)) ∧ Hid (Below w.heap.size w wr)) (fun _ _ i _ => cl0.length - (intOf i).toNat)
  case atStart => exact ⟨0, 0, .slice none 0 0, [], [], rfl, rfl, Nat.zero_le _, Nat.le_refl _, Nat.le_refl _, rfl, ⟨rfl, (fun x hx => by cases hx)⟩, HJ0, ⟨rfl, .inl ⟨rfl, rfl⟩⟩, HB0⟩
  case round =>
    obtain ⟨j, s, v, L, ws, rfl, rfl, hj, hLj, hsL, hLw, HWS, HJ, HR, HB⟩ := hrel
    by_cases hlt : j < cl0.length
    · have ql : (j : Int) < (cl0.length : Int) := by omega
      have hc100 : cl0.length ≤ 100 := HFW.out.1
      obtain ⟨c, hc⟩ : ∃ c, cl0[j]? = some c := ⟨cl0[j], by simp [hlt]⟩
      rcases HBc.out wr HB.out with h | ⟨b, off, rfl, hca⟩
      · subst h; simp at hlt
      obtain ⟨⟨c0, c1, c2, c3, c4, c5⟩, hin⟩ := hca j c hc
      have hfc := HFW.out.2 c (List.mem_of_getElem? hc)
      have HCW : Hid (Ints w c.av c.l) := by
        rcases HC.out with h | ⟨b', off', h1, h2⟩
        · subst h; simp at hlt
        · exact (h2 j c hc).2.2.1
      obtain ⟨av, cv, rfl⟩ := row_slice HR.out
      obtain ⟨U, hU⟩ : ∃ U, U = wr.alloc (.cells #[.int .i64 c.d, .int .i64 c.s, .int .i64 c.t, .string c.k, .int .i64 c.id, .slice c.av c.l.length c.cv] 26) := ⟨_, rfl⟩
      have hbU : Below wr.heap.size wr U := by rw [hU]; exact (Below.refl _ _).alloc (Nat.le_refl _) _
      have HJU := hide (HJ.out.on hbU)
      have HRU : Hid (U.ownsRow w.heap.size 24 3 (.slice av ws.length cv) ws.length (evCells ws)) := row_stays HR.out (fun k cs hk => hbU.block k (Array.getElem?_eq_some_iff.1 hk).1)
      have HBU := hide (bel_on' HB.out hbU)
      have HUW := hide hU
      have hvl : v.ownBlock ≠ some wr.heap.size := fun e => by have := (HJ.out.2.2.1.lt _ e).2; omega
      have hpl : wr.heap.size ≠ p := by have := HJ.out.lt; omega
      clear hca hc hbU hin
      by_cases hd0 : c.d = 0
      · have q0 : (c.d == 0) = true := by simp [hd0]
        have A := add_any HJU.out c.k c.id c.av c.l c.cv (by unfold maxLen; omega) (HCW.out.below HBU.out) (by omega) (HG.out.on HBU.out)
        cases hm : mayB c.k c.id c.l
        · have e0 : addE 4096 L false c.k c.id c.l = 1 := by unfold addE; rw [if_neg (by decide), hm, if_neg (by decide)]
          have e1 : addL 4096 L false c.k c.id c.l = L := by unfold addL; rw [e0, if_neg (by decide)]
          rw [e0, e1, hU] at A
          clear hU e0 e1 hd0
          go_wp2_with fail
          refine A.mono ?_
          rintro e u3 ⟨v3, rfl, hj3, ho3⟩
          rw [← HUW.out] at ho3
          have HJ3 := hide hj3
          have HR3 := hide (row_off HJU.out ho3 HRU.out)
          have HB3 := hide (HBU.out.trans (HJU.out.bel ho3))
          clear hj3 ho3 A
          go_wp2
          go_roundw
          case rel => exact ⟨j + 1, s, v3, L, ws, by go_num, rfl, by omega, by omega, hsL, hLw, HWS, HJ3, HR3, HB3⟩
          case measure => simp [intOf]; omega
        · have e0 : addE 4096 L false c.k c.id c.l = 0 := by unfold addE; rw [if_neg (by decide), if_pos hm, if_neg (by omega)]
          have e1 : addL 4096 L false c.k c.id c.l = L ++ [lineV c.k c.id c.l] := by unfold addL; rw [if_pos e0]
          have HWS2 : Hid (Was w (L ++ [lineV c.k c.id c.l]) (ws ++ [⟨c.k, c.id, c.l, c.av, c.cv⟩])) := HWS.out.snoc (x := ⟨c.k, c.id, c.l, c.av, c.cv⟩) hm HCW.out (by show c.l.length ≤ 20; omega)
          rw [e0, e1, hU] at A
          have k3 : U.cell? ⟨wr.heap.size, 3, none⟩ = some (.string c.k) := by rw [hU]; simp
          have k4 : U.cell? ⟨wr.heap.size, 4, none⟩ = some (.int .i64 c.id) := by rw [hU]; simp
          have k5 : U.cell? ⟨wr.heap.size, 5, none⟩ = some (.slice c.av c.l.length c.cv) := by rw [hU]; simp
          generalize lineV c.k c.id c.l = X at A HWS2
          have K3 := hide k3
          have K4 := hide k4
          have K5 := hide k5
          clear hU e0 e1 hd0 hm k3 k4 k5
          go_wp2_with fail
          refine A.mono ?_
          rintro e u3 ⟨v3, rfl, hj3, ho3⟩
          rw [← HUW.out] at ho3
          have d3 := ho3.cell K3.out hpl hvl
          have d4 := ho3.cell K4.out hpl hvl
          have d5 := ho3.cell K5.out hpl hvl
          have HJ3 := hide hj3
          have HR3 := hide (row_off HJU.out ho3 HRU.out)
          have HB3 := hide (HBU.out.trans (HJU.out.bel ho3))
          have HJ4 : Hid (Jr w.heap.size (u3.alloc (.cells #[.string c.k, .int .i64 c.id, .slice c.av c.l.length c.cv] 24)) p v3 4096 (L ++ [X]) s false) := HJ3.out.on ((Below.refl _ _).alloc (Nat.le_refl _) _)
          have HR4 : Hid ((u3.alloc (.cells #[.string c.k, .int .i64 c.id, .slice c.av c.l.length c.cv] 24)).ownsRow w.heap.size 24 3 (.slice av ws.length cv) ws.length (evCells ws)) := HR3.out.alloc _
          have HB4 : Hid (Below w.heap.size w (u3.alloc (.cells #[.string c.k, .int .i64 c.id, .slice c.av c.l.length c.cv] 24))) := HB3.out.alloc HB3.out.size _
          clear hj3 ho3 A
          go_wp2_with (first
            | (at_builtin; refine append_ents rfl (.tmp 34) (.tmp 37) rfl w.heap.size (.slice av ws.length cv) ws rfl HR4.out ⟨u3.heap.size, 0, none⟩ ⟨c.k, c.id, c.l, c.av, c.cv⟩ rfl (cell_three_new _ _ _ _ _) ?hnn HB4.out.size ?_; (case hnn => omega); intro a6 c6 w6 o6 g6; have HR6 := hide o6; have HJ6 := hide (HJ4.out.rowed HR4.out g6); have HB6 := hide (HB4.out.grown g6 HB4.out.size (fun k e => (HR4.out.lt k e).1)); clear o6 g6))
          go_roundw
          case rel => exact ⟨j + 1, s, v3, L ++ [X], ws ++ [⟨c.k, c.id, c.l, c.av, c.cv⟩], by go_num, rfl, by omega, by simp; omega, by simp; omega, by simp; omega, HWS2, HJ6, HR6, HB6⟩
          case measure => simp [intOf]; omega
      · have q0 : (c.d == 0) = false := by simp [hd0]
        by_cases hd1 : c.d = 1
        · have q1 : (c.d == 1) = true := by simp [hd1]
          have A := sync_up HJU.out
          rw [hU] at A
          clear hU hd0 hd1
          go_wp2_with fail
          refine A.mono ?_
          rintro e u3 ⟨rfl, hj3, ho3⟩
          rw [← HUW.out] at ho3
          have HJ3 : Hid (Jr w.heap.size u3 p v 4096 L ws.length false) := by show Jr _ _ _ _ _ _ _ _; rw [← hLw]; exact hj3
          have HR3 := hide (row_off HJU.out ho3 HRU.out)
          have HB3 := hide (HBU.out.trans (HJU.out.bel ho3))
          clear hj3 ho3 A
          go_wp2
          go_roundw
          case rel => exact ⟨j + 1, ws.length, v, L, ws, by go_num, rfl, by omega, by omega, by omega, hLw, HWS, HJ3, HR3, HB3⟩
          case measure => simp [intOf]; omega
        · have q1 : (c.d == 1) = false := by simp [hd1]
          rw [hU] at HJU HRU HBU
          clear hU hd0 hd1
          go_wp2
          go_roundw
          case rel => exact ⟨j + 1, s, v, L, ws, by go_num, rfl, by omega, by omega, hsL, hLw, HWS, HJU, HRU, HBU⟩
          case measure => simp [intOf]; omega
    · have ql : ¬ (j : Int) < (cl0.length : Int) := by omega
      have hc100 : cl0.length ≤ 100 := HFW.out.1
      obtain ⟨av, cv, rfl⟩ := row_slice HR.out
      go_wp2_with fail
      refine (crash_up HJ.out hsL a1 a2).mono ?_
      rintro e u3 ⟨⟨x3, rfl⟩, v3, hj3, ho3⟩
      have HR3 := hide (row_off HJ.out ho3 HR.out)
      have HB3 := hide (HB.out.trans (HJ.out.bel ho3))
      obtain ⟨hw1, hw2⟩ := whole_crash HWS.out.ok hsL (fun x hx => (HJ.out.2.2.2.2.2 x hx).1) a1 a2
      obtain ⟨hk1, hk2⟩ := keptN_le hsL a1
      have hKi : (s : Int) + max 0 (min a1 ((ws.length : Int) - (s : Int))) = (keptN L s a1 : Int) := by unfold keptN; omega
      obtain ⟨M, hM⟩ : ∃ M, crashL L s a1 a2 = M := ⟨_, rfl⟩
      obtain ⟨K, hK⟩ : ∃ K, keptN L s a1 = K := ⟨_, rfl⟩
      rw [hM] at hj3 hw1 hw2
      rw [hK] at hw1 hw2 hk1 hk2 hKi
      have HJ3 := hide hj3
      have HW1 := hide hw1
      have HW2 := hide hw2
      clear hM hK hw1 hw2 ho3
      have A3 := add_any hj3 ⟨#[120]⟩ 0 none [] 0 (by show 1 ≤ maxLen; unfold maxLen; omega) (.inl rfl) (by simp) (HG.out.on HB3.out)
      have e0 : addE 4096 M true ⟨#[120]⟩ 0 [] = 10 := by unfold addE; rw [if_pos rfl]
      have e1 : addL 4096 M true ⟨#[120]⟩ 0 [] = M := by unfold addL; rw [e0, if_neg (by decide)]
      rw [e0, e1] at A3
      clear hj3 e0 e1
      go_wp2_with fail
      refine A3.mono ?_
      rintro e u4 ⟨v4, rfl, hj4, ho4⟩
      have HJ4 := hide hj4
      have HR4 := hide (row_off HJ3.out ho4 HR3.out)
      have HB4 := hide (HB3.out.trans (HJ3.out.bel ho4))
      clear hj4 ho4 A3
      go_wp2_with fail
      refine (sync_down HJ4.out).mono ?_
      rintro e u5 ⟨rfl, hb5⟩
      have HJ5 := hide (HJ4.out.on hb5)
      have HR5 : Hid (u5.ownsRow w.heap.size 24 3 (.slice av ws.length cv) ws.length (evCells ws)) := row_stays HR4.out (fun k cs hk => hb5.block k (Array.getElem?_eq_some_iff.1 hk).1)
      have HB5 := hide (bel_on' HB4.out hb5)
      clear hb5
      go_wp2_with fail
      refine (down_any HJ5.out).mono ?_
      rintro e u6 ⟨rfl, hb6⟩
      have HJ6 := hide (HJ5.out.on hb6)
      have HR6 : Hid (u6.ownsRow w.heap.size 24 3 (.slice av ws.length cv) ws.length (evCells ws)) := row_stays HR5.out (fun k cs hk => hb6.block k (Array.getElem?_eq_some_iff.1 hk).1)
      have HB6 := hide (bel_on' HB5.out hb6)
      have R6 := recover_down HG.out HB6.out HJ6.out
      rw [HW1.out, HW2.out] at R6
      clear hb6
      go_wp2_with fail
      refine R6.mono ?_
      rintro e u7 ⟨rfl, v7, hj7, ho7⟩
      have HJ7 := hide hj7
      have HR7 := hide (row_off HJ6.out ho7 HR6.out)
      have HB7 := hide (HB6.out.trans (HJ6.out.bel ho7))
      have T7 := told_any HG.out HB7.out hj7 5000
      have hwT : (wholeD fun s => Classical.propDecidable (Ok s)) (L.take K) = K := by rw [whole_all _ (fun x hx => HWS.out.ok x (List.mem_of_mem_take hx))]; simp; omega
      rw [hwT, show min 5000 K = K by omega] at T7
      clear hj7 ho7 R6 hwT
      go_wp2_with fail
      refine T7.mono ?_
      rintro e u8 ⟨xs, a8, c8, rfl, hxl, -, hrd, hrow, hgd, hb8⟩
      have HAL := hide (HWS.out.alike hk1 hxl hrd)
      have HE8 := hide (ents_of hrow hgd)
      have HJ8 := hide (HJ7.out.on hb8)
      have HR8 : Hid (u8.ownsRow w.heap.size 24 3 (.slice av ws.length cv) ws.length (evCells ws)) := row_stays HR7.out (fun k cs hk => hb8.block k (Array.getElem?_eq_some_iff.1 hk).1)
      have HB8 := hide (bel_on' HB7.out hb8)
      have HXL := hide hxl
      rw [hxl]
      have hKc : (K : Int) ≤ (cv : Int) := by have := row_cap HR8.out; omega
      have hK1 : ¬ (K : Int) < (s : Int) := by omega
      have hK2 : ¬ (K : Int) > (ws.length : Int) := by omega
      clear hrow hgd hrd T7 hb8 hxl
      have hKw : (ws.take K).length = K := by simp; omega
      have S8 := jsame_any a8 av xs (ws.take K) c8 cv u8 (by rw [HXL.out]; omega) HE8.out (HWS.out.ents HB8.out HR8.out K) HAL.out
      rw [HXL.out, hKw] at S8
      clear hKw
      go_wp2_with fail
      refine S8.mono ?_
      rintro e u9 ⟨rfl, hb9⟩
      have HJ9 := hide (HJ8.out.on hb9)
      have HB9 := hide (bel_on' HB8.out hb9)
      clear hb9 S8
      go_wp2_with fail
      refine (sure_any HJ9.out).mono ?_
      rintro e u10 ⟨rfl, hb10⟩
      have HJ10 := hide (HJ9.out.on hb10)
      have HB10 := hide (bel_on' HB9.out hb10)
      clear hb10
      go_wp2_with fail
      refine (down_any HJ10.out).mono ?_
      rintro e u11 ⟨rfl, hb11⟩
      have HB11 := hide (bel_on' HB10.out hb11)
      clear hb11
      have q2 : ((K : Int) == (s : Int) + max 0 (min a1 ((ws.length : Int) - (s : Int)))) = true := by rw [hKi]; simp
      go_wp2_with fail
      refine (jawake_any _ (HG.out.on HB11.out)).mono ?_
      rintro e u12 ⟨rfl, hb12⟩
      go_wp2
      go_ret
      exact ⟨rfl, bel_on' HB11.out hb12⟩
end Go.Proofs.YthjcedbjjphleaaDoor
