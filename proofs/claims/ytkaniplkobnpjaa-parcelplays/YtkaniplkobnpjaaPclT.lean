/-
  Contract of parcel's Ship.
-/
import Derived.Test.YtkaniplkobnpjaaPclS
namespace Go.Proofs.Ytkaniplkobnpjaa
open Go.ChangeShapes Go.WideShapes Go.ChangeAt Go.RowKit Go.Maps

theorem typ_neB : 51 ≠ 3 := by decide
theorem cell_one_newI (w : World) (x : Value) (t : TypeId) : ∀ j u, [x][j]? = some u → (w.alloc (.cells #[x] t)).cell? ((⟨w.heap.size, 0, none⟩ : Addr).add j) = some u := by
  intro j u hj
  rw [st_add', Nat.zero_add]
  have e : (w.alloc (.cells #[x] t)).heap[w.heap.size]? = some (.cells #[x] t (0, 0)) := World.alloc_heap_new w _
  rw [cell_of e]
  simpa using hj
/-- A row of numbers of one's own, one more behind it: what has turned. -/
theorem row_more {B : Nat} {E : Nat → Prop} {U w4 : World} {v v' : Value} {n m : Nat} {xs ys : List Value} {t : TypeId} (hE : ∀ k, v.ownBlock = some k → E k) (hr : U.ownsRow B t 1 v n xs) {o : Obj} (hg : (U.alloc o).grownBy w4 v.ownBlock) (hown : w4.ownsRow B t 1 v' m ys) (hblk : v'.ownBlock = v.ownBlock ∨ v'.ownBlock = some (U.alloc o).heap.size) :
    Rg.Kept (fun i o => E i ∧ ∃ cs, o = .cells cs t (0, 0)) U w4 ∧ (∀ k, v'.ownBlock = some k → E k ∨ (U.heap.size ≤ k ∧ k < w4.heap.size)) := by
  have hvb : ∀ k, v.ownBlock = some k → ∃ cs, U.heap[k]? = some (Obj.cells cs t (0, 0)) := fun k e => by
    rcases hr.2 with ⟨rfl, _⟩ | ⟨g, cap, cur, rfl, _, hc, _⟩
    · simp [Value.ownBlock] at e
    · simp [Value.ownBlock] at e; subst e; exact ⟨cur, hc⟩
  refine ⟨⟨hg.os, hg.tape, hg.output, by have := hg.size; simp at this; omega, fun k o' hk hx => ?_⟩, fun k e => ?_⟩
  · have hlt : k < U.heap.size := (Array.getElem?_eq_some_iff.1 hk).1
    rw [hg.block k (by simp; omega) (fun e => ?_), Below.heap_alloc _ _ _ hlt]
    · exact hk
    · obtain ⟨cs, hcs⟩ := hvb k e.symm
      rw [hk] at hcs
      cases hcs
      exact hx ⟨hE k e.symm, cs, rfl⟩
  · rcases hblk with h | h
    · exact .inl (hE k (h ▸ e))
    · rw [h] at e
      have h1 := (hown.lt k (h.trans e)).2
      have h2 : (U.alloc o).heap.size = k := Option.some.inj e
      simp at h2
      exact .inr ⟨by omega, h1⟩
/-- One number more. -/
theorem append_num1 {w : World} {ops : Array Oper} {rest : List Oper} {o : Oper} {a : Act} {Q : Exit → Act → World → Prop} (hgd : o.guard = none) (s x : Operand)
    (ho : o.op = .call { callee := .builtin .append, args := #[s, x], argTypes := #[40, 40] })
    (base : Nat) (v : Value) (n : Nat) (L : List Value) (hs : a.eval s = v) (hown : w.ownsRow base 3 1 v n L) (z : Int)
    {ab : Nat} (hx : a.eval x = .slice (some ⟨ab, 0, none⟩) 1 1) (hab : ab = w.heap.size) (hb : n ≤ 1000000) (hbase : base ≤ w.heap.size)
    (h : ∀ a' c' w', w'.ownsRow base 3 1 (.slice a' (n + 1) c') (n + 1) (L ++ [.int .i64 z]) → (w.alloc (.cells #[.int .i64 z] 3)).grownBy w' v.ownBlock → ((Value.slice a' (n + 1) c').ownBlock = v.ownBlock ∨ (Value.slice a' (n + 1) c').ownBlock = some (w.alloc (.cells #[.int .i64 z] 3)).heap.size) → wpList Try.prog ops Q rest (a.put o.dst (.slice a' (n + 1) c')) w') : wpList Try.prog ops Q (o :: rest) a (w.alloc (.cells #[.int .i64 z] 3)) := by
  subst hab
  obtain ⟨i0, hi, hz0, hz1, hz2⟩ := info_parts Try.infoNum
  refine wpList_append_own_at _ hgd s x 40 ho base 3 i0 _ 1 8 Try.underlying40 hi hz0 hz1 hz2 rfl (by decide) v n L hs (hown.alloc _) ⟨w.heap.size, 0, none⟩ 1 1 [.int .i64 z] hx rfl (cell_one_newI _ _ _) (by simp [Value.oneCell']) (by unfold maxLen; omega) (by omega) (by simp; omega) ?_
  intro v' w' h1 h2 _ h4
  obtain ⟨a', c', rfl, _⟩ := row_slice h1
  exact h a' c' w' h1 h2 h4
theorem Pc.wide {B : Nat} {E E' : Nat → Prop} {w : World} {p : Nat} {l : List (Int × Int × Int)} (k : Pc B E w p l) (h : ∀ k, E k → E' k) (h' : ∀ k, E' k → B ≤ k ∧ k < w.heap.size) : Pc B E' w p l := by
  obtain ⟨_, h2, h3, v, mv, h4⟩ := k
  exact ⟨h', h _ h2, h3, v, mv, h4.mono h⟩
/-- What is turned behind all that lay is no matter. -/
theorem kept_more {E F : Nat → Obj → Prop} {w V U : World} (h : Rg.Kept E w V) (k : Rg.Kept F V U) (hF : ∀ i o, F i o → E i o ∨ w.heap.size ≤ i) : Rg.Kept E w U :=
  ⟨k.os.trans h.os, k.tape.trans h.tape, k.output.trans h.output, Nat.le_trans h.size k.size, fun i o hi hx => k.block i o (h.block i o hi hx) (fun e => (hF i o e).elim hx (fun e => by have := (Array.getElem?_eq_some_iff.1 hi).1; omega))⟩
/-- Behind the append and the store of the row; then what a store into the map makes. -/
theorem ship_next {B : Nat} {E : Nat → Prop} {U w4 : World} {p b : Nat} {l : List (Int × Int × Int)} {v v' : Value} {id item qty : Int} (hv : PcV B E U p l v (.map (some b))) (hE : ∀ k, E k → B ≤ k ∧ k < U.heap.size) (hp : E p) (hf : findP l id = none) (hG : GoodC (l ++ [(id, item, qty)])) (hw : (Lit.int .i64 id).wf = true)
    {o : Obj} (hg : (U.alloc o).grownBy w4 v.ownBlock) (hown : w4.ownsRow B 3 1 v' (l.length + 1) ((idsP l).map (Value.int .i64) ++ [.int .i64 id])) (hblk : v'.ownBlock = v.ownBlock ∨ v'.ownBlock = some (U.alloc o).heap.size) :
    w4.cell? ⟨p, 0, none⟩ = some v ∧ w4.frozen? ⟨p, 0, none⟩ = false ∧ (w4.setCell ⟨p, 0, none⟩ v').cell? ⟨p, 1, none⟩ = some (.map (some b)) ∧ p < w4.heap.size ∧
    ∀ X, Below w4.heap.size (w4.setCell ⟨p, 0, none⟩ v') X → ∃ w6, (Instr.mapUpdate 49 (.map (some b)) (.int .i64 id) (.agg #[.int .i64 item, .int .i64 qty])).run Try.prog X = .ok () w6 ∧ Pc B (growE E U w6) w6 p (l ++ [(id, item, qty)]) ∧ Rg.Kept (fun i _ => E i) U w6 := by
  obtain ⟨kp, hvb⟩ := row_more hv.2.2.1 hv.2.1 hg hown hblk
  have hm := hv.2.2.2
  obtain ⟨b', eb, hEb, hmx⟩ : ∃ b', Value.map (some b) = .map (some b') ∧ E b' ∧ Mx pairOf Try.prog 3 U b' l.length (findP l) := by
    rcases hm with ⟨e, _⟩ | h
    · cases e
    · exact h
  cases eb
  have hnp : ¬ (E p ∧ ∃ cs, Obj.cells #[v, .map (some b)] 51 (0, 0) = .cells cs 3 (0, 0)) := by
    rintro ⟨_, cs, e⟩
    simp only [Obj.cells.injEq] at e
    exact typ_neB e.2.1
  have h4 := kp.block _ _ hv.1 hnp
  have hlt : p < w4.heap.size := (Array.getElem?_eq_some_iff.1 h4).1
  have h5 : (w4.setCell ⟨p, 0, none⟩ v').heap[p]? = some (.cells #[v', .map (some b)] 51 (0, 0)) := by
    rw [heap_setCell_same _ _ _ _ _ _ h4]
    rfl
  have m4 : Mx pairOf Try.prog 3 w4 b l.length (findP l) := by
    obtain ⟨D, ⟨es, c, h1, h2⟩, hft⟩ := hmx
    exact ⟨D, ⟨es, c, kp.block _ _ h1 (fun ⟨_, cs, e⟩ => by cases e), h2⟩, hft⟩
  have m5 := m4.set (a := ⟨p, 0, none⟩) (m4.ne h4) v'
  have hvp : ∀ k, v'.ownBlock = some k → k ≠ p := fun k e e2 => by
    subst e2
    rcases hown.2 with ⟨e1, _⟩ | ⟨g, cap, cur, rfl, _, hc, _⟩
    · rw [e1] at e; simp [Value.ownBlock] at e
    · simp [Value.ownBlock] at e
      subst e
      rw [h4] at hc
      simp only [Option.some.injEq, Obj.cells.injEq] at hc
      exact typ_neB hc.2.1
  refine ⟨by rw [cell_of h4]; rfl, frozen_of_row _ _ _ _ _ h4, by rw [cell_of h5]; rfl, hlt, fun X hX => ?_⟩
  have hX' : Below (w4.setCell ⟨p, 0, none⟩ v').heap.size (w4.setCell ⟨p, 0, none⟩ v') X := by simpa using hX
  have hlen := hG.len
  rw [List.length_append, List.length_singleton] at hlen
  obtain ⟨w6, hr, m6, k6⟩ := (m5.on hX').put Try.underlying3 Try.underlying49 hw (by omega) (item, qty)
  have k5 : Rg.Kept (fun i _ => E i) U (w4.setCell ⟨p, 0, none⟩ v') := (kp.mono (fun _ _ e => e.1)).trans (Rg.Kept.setCell _ (fun _ => hp))
  have k66 : Rg.Kept (fun i _ => E i) U w6 := (k5.trans (Rg.Kept.of_below hX')).trans (k6.mono (fun _ _ e => by rw [e]; exact hEb))
  have h6 : Rg.Kept (fun i _ => i = b) (w4.setCell ⟨p, 0, none⟩ v') w6 := (Rg.Kept.of_below hX').trans k6
  have s6 : w4.heap.size ≤ w6.heap.size := by have := h6.size; simpa using this
  refine ⟨w6, hr, ⟨fun k e => ?_, .inl hp, hG, v', .map (some b), h6.block _ _ h5 (m4.ne h4).symm, ?_, fun k e => ?_, .inr ⟨b, rfl, .inl hEb, ?_⟩⟩, k66⟩
  · rcases e with e | e
    · have := hE k e
      have := k66.size
      omega
    · have := hE p hp
      omega
  · have e1 : (idsP (l ++ [(id, item, qty)])).map (Value.int .i64) = (idsP l).map (Value.int .i64) ++ [.int .i64 id] := by simp [idsP]
    rw [List.length_append, List.length_singleton, e1]
    refine ⟨hown.1, ?_⟩
    rcases hown.2 with h | ⟨g, cap, cur, rfl, hb, hc, rest⟩
    · exact .inl h
    · refine .inr ⟨g, cap, cur, rfl, hb, h6.block _ _ ?_ (fun e => ?_), rest⟩
      · rw [Below.heap_setCell _ _ _ _ (show g ≠ (⟨p, 0, none⟩ : Addr).block from hvp g rfl)]
        exact hc
      · subst e
        exact m4.ne hc rfl
  · rcases hvb k e with e | e
    · exact .inl e
    · exact .inr ⟨e.1, by omega⟩
  · rw [List.length_append, List.length_singleton]
    have e2 : findP (l ++ [(id, item, qty)]) = updO (findP l) id (some (item, qty)) := by
      funext x
      rw [findP_app, findP_one]
      by_cases e : x = id
      · subst e; rw [updO_same, if_pos rfl, hf]; rfl
      · rw [updO_other _ _ e, if_neg (fun h => e h.symm)]; cases findP l x <;> rfl
    rw [e2]
    exact m6
set_option maxHeartbeats 1000000 in
theorem pship_any {B : Nat} {E : Nat → Prop} {w : World} {p : Nat} {l : List (Int × Int × Int)} (k : Pc B E w p l) {id : Int} (hw : (Lit.int .i64 id).wf = true) (item qty : Int) :
    Calls Try.prog 8 #[.pointer (some ⟨p, 0, none⟩), .int .i64 id, .int .i64 item, .int .i64 qty] w fun e w' => e = .returned (.int .i64 (shipE l id item qty)) ∧ Pc B (growE E w w') w' p (shipL l id item qty) ∧ Rg.Kept (fun i _ => E i) w w' := by
  have P1 := pisid_any id w
  have P2 := pisitem_any item w
  have P3 := pisqty_any qty w
  have HLW := hide k.low
  by_cases hg : isI id = true ∧ isIt item = true ∧ 1 ≤ qty ∧ qty ≤ 1000000000
  · have g1 := hg.1
    have g2 := hg.2.1
    have g3 : decide (1 ≤ qty ∧ qty ≤ 1000000000) = true := by simp; exact hg.2.2
    rw [g1] at P1
    rw [g2] at P2
    rw [g3] at P3
    clear g1 g2 g3
    cases hf : findP l id with
    | some c =>
      have e8 : shipE l id item qty = 8 := by rw [shipE_of hg, hf]; rfl
      rw [e8, shipL_no (by omega)]
      have HK := hide k
      obtain ⟨-, -, -, v, mv, hv⟩ := k
      have c1 := hv.cellM
      have hl := hv.look hw
      rw [hf] at hl
      obtain ⟨x, y⟩ := c
      unfold pairV at hl
      dsimp only [Option.getD, Option.isSome] at hl
      clear hv hf hg e8
      go_enter Try.func8, Try.ntmps8
      go_wp2_with (first
        | (go_at_call 18; refine P1.mono ?_; rintro e w1 ⟨rfl, rfl⟩)
        | (go_at_call 19; refine P2.mono ?_; rintro e w1 ⟨rfl, rfl⟩)
        | (go_at_call 20; refine P3.mono ?_; rintro e w1 ⟨rfl, rfl⟩))
      go_ret
      first
        | exact ⟨rfl, HK.out.grow HLW.out, Rg.Kept.refl _ _⟩
        | exact ⟨rfl, (HK.out.on (bel_al (Below.refl _ _) _)).grow HLW.out, Rg.Kept.of_below (bel_al (Below.refl _ _) _)⟩
    | none =>
      have e0 : shipE l id item qty = 0 := by rw [shipE_of hg, hf]; rfl
      rw [e0]
      have HG := hide (k.good.ship id item qty)
      rw [shipL_ok e0] at HG ⊢
      obtain ⟨hE, hp, -, v, mv, hv⟩ := k
      have hlen : l.length ≤ 1000000 := by have := HG.out.len; simp at this; omega
      have c1 := hv.cellM
      have hl := hv.look hw
      rw [hf] at hl
      unfold pairV at hl
      dsimp only [Option.getD, Option.isSome] at hl
      have hm := hv.2.2.2
      rcases hm with ⟨rfl, hl0⟩ | ⟨b, rfl, hEb, hmx⟩
      · subst hl0
        have hrow := hv.2.1
        obtain ⟨av, cv, rfl, -⟩ := row_slice hrow
        have c0 := hv.cellI
        have hlt := hv.lt
        have f1 := hv.frozen 1
        have hnm : ∀ u : World, (binOp BinOp.eql 49 (.map none) (.map none)).run Try.prog u = .ok (.bool true) u := fun _ => by kernel_rfl
        have hmm := @run_makeMap Try.prog
        obtain ⟨V, hV⟩ : ∃ V, V = ((w.alloc (.cells #[.int .i64 0, .int .i64 0] 54)).alloc (.map #[] 0)).setCell ⟨p, 1, none⟩ (.map (some (w.heap.size + 1))) := ⟨_, rfl⟩
        have hb2 : Below w.heap.size w ((w.alloc (.cells #[.int .i64 0, .int .i64 0] 54)).alloc (.map #[] 0)) := bel_al (bel_al (Below.refl _ _) _) _
        have hkV : Rg.Kept (fun i _ => E i) w V := by rw [hV]; exact (Rg.Kept.of_below hb2).trans (Rg.Kept.setCell _ (fun _ => hp))
        have hzV : V.heap.size = w.heap.size + 2 := by rw [hV]; simp
        have hvV : PcV B (fun k => E k ∨ k = w.heap.size + 1) V p [] (.slice av 0 cv) (.map (some (w.heap.size + 1))) := by
          have h2 := hv.kept (F := fun _ _ => False) hp (Rg.Kept.of_below hb2) (fun _ _ _ h => h)
          refine ⟨?_, ⟨hrow.1, ?_⟩, fun k e => .inl (hv.2.2.1 k e), .inr ⟨_, rfl, .inr rfl, ?_⟩⟩
          · rw [hV, heap_setCell_same _ _ _ _ _ _ h2.1]
            rfl
          · rcases h2.2.1.2 with h | ⟨g, cap, cur, e, hg', hc, rest⟩
            · exact .inl h
            · refine .inr ⟨g, cap, cur, e, hg', ?_, rest⟩
              rw [hV, Below.heap_setCell _ _ _ _ (show g ≠ (⟨p, 1, none⟩ : Addr).block from ?_)]
              · exact hc
              · rintro rfl
                have h3 := h2.1
                rw [hc] at h3
                simp only [Option.some.injEq, Obj.cells.injEq] at h3
                exact typ_neB h3.2.1.symm
          · have m := Mx.new pairOf Try.prog 3 (w.alloc (.cells #[.int .i64 0, .int .i64 0] 54))
            rw [World.size_alloc] at m
            have m2 := m.set (a := ⟨p, 1, none⟩) (show w.heap.size + 1 ≠ p by omega) (.map (some (w.heap.size + 1)))
            rw [← hV] at m2
            exact m2
        have hrV := hvV.2.1
        have HLV : Hid (B ≤ V.heap.size) := by show B ≤ _; rw [hzV]; exact Nat.le_trans HLW.out (by omega)
        have HFIN : Hid (∀ (w4 : World) (v' : Value) (o : Obj), (V.alloc o).grownBy w4 (Value.slice av 0 cv).ownBlock → w4.ownsRow B 3 1 v' (0 + 1) (List.map (Value.int .i64) (idsP []) ++ [.int .i64 id]) → (v'.ownBlock = (Value.slice av 0 cv).ownBlock ∨ v'.ownBlock = some (V.alloc o).heap.size) → _) := fun w4 v' o g1 g2 g3 => ship_next hvV (fun k e => e.elim (fun e => ⟨(hE k e).1, by have := (hE k e).2; omega⟩) (fun e => ⟨by have := HLW.out; omega, by omega⟩)) (.inl hp) hf HG.out hw g1 g2 g3
        have HKV := hide hkV
        have HZV := hide hzV
        have dV : V.cell? ⟨p, 0, none⟩ = some (.slice av 0 cv) := hvV.cellI
        have HVW : Hid (V = ((w.setCell ⟨p, 1, none⟩ (.map (some (w.heap.size + 1)))).alloc (.cells #[.int .i64 0, .int .i64 0] 54)).alloc (.map #[] 0)) := by show V = _; rw [hV]; simp [go_sem, hlt, show p < w.heap.size + 1 by omega]
        clear hvV hkV hzV hV hrow
        go_enter Try.func8, Try.ntmps8
        go_wp2_with (first
          | (go_at_call 18; refine P1.mono ?_; rintro e w1 ⟨rfl, rfl⟩)
          | (go_at_call 19; refine P2.mono ?_; rintro e w1 ⟨rfl, rfl⟩)
          | (go_at_call 20; refine P3.mono ?_; rintro e w1 ⟨rfl, rfl⟩)
          | (at_builtin; rw [← HVW.out]; refine append_num1 rfl (.tmp 51) (.tmp 53) rfl B (.slice av 0 cv) 0 (List.map (Value.int .i64) (idsP [])) rfl hrV id rfl (by rw [HZV.out]) (by omega) HLV.out ?_; intro a4 c4 w4 hown4 hg4 hblk4; obtain ⟨d0, f0, d1, hlt4, hX⟩ := HFIN.out w4 _ _ hg4 hown4 hblk4; obtain ⟨w6, hr6, k6, o6⟩ := hX _ (Below.refl _ _); have HK6 := hide k6; have HO6 := hide o6; clear hX hown4 hg4 hblk4 k6 o6))
        go_ret
        refine ⟨rfl, HK6.out.wide (fun k e => ?_) (fun k e => ?_), kept_more HKV.out HO6.out (fun i _ e => e.imp (fun e => e) (fun e => by omega))⟩
        · have h1 := HZV.out
          have h2 := HO6.out.size
          rcases e with (e | e) | e
          · exact .inl e
          · exact .inr ⟨by omega, by omega⟩
          · exact .inr ⟨by omega, e.2⟩
        · have h1 := HZV.out
          have h2 := HO6.out.size
          rcases e with e | e
          · have := hE k e
            omega
          · have := HLW.out
            omega
      · have HV := hide hv
        have hrow := hv.2.1
        obtain ⟨av, cv, rfl, -⟩ := row_slice hrow
        have c0 := hv.cellI
        have hlt := hv.lt
        have hnm : ∀ u : World, (binOp BinOp.eql 49 (.map (some b)) (.map none)).run Try.prog u = .ok (.bool false) u := fun _ => by kernel_rfl
        have hbU : Below w.heap.size w (w.alloc (.cells #[.int .i64 0, .int .i64 0] 54)) := bel_al (Below.refl _ _) _
        have hrU := hrow.alloc (.cells #[.int .i64 0, .int .i64 0] 54)
        have HLU : Hid (B ≤ (w.alloc (.cells #[.int .i64 0, .int .i64 0] 54)).heap.size) := by show B ≤ _; rw [World.size_alloc]; exact Nat.le_succ_of_le HLW.out
        have HFIN : Hid (∀ (w4 : World) (v' : Value) (o : Obj), ((w.alloc (.cells #[.int .i64 0, .int .i64 0] 54)).alloc o).grownBy w4 (Value.slice av l.length cv).ownBlock → w4.ownsRow B 3 1 v' (l.length + 1) ((idsP l).map (Value.int .i64) ++ [.int .i64 id]) → (v'.ownBlock = (Value.slice av l.length cv).ownBlock ∨ v'.ownBlock = some ((w.alloc (.cells #[.int .i64 0, .int .i64 0] 54)).alloc o).heap.size) → _) := fun w4 v' o g1 g2 g3 => ship_next (hv.kept (F := fun _ _ => False) hp (Rg.Kept.of_below hbU) (fun _ _ _ h => h)) (fun k e => ⟨(hE k e).1, by have := (hE k e).2; simp; omega⟩) hp hf HG.out hw g1 g2 g3
        go_enter Try.func8, Try.ntmps8
        go_wp2_with (first
          | (go_at_call 18; refine P1.mono ?_; rintro e w1 ⟨rfl, rfl⟩)
          | (go_at_call 19; refine P2.mono ?_; rintro e w1 ⟨rfl, rfl⟩)
          | (go_at_call 20; refine P3.mono ?_; rintro e w1 ⟨rfl, rfl⟩)
          | (at_builtin; refine append_num1 rfl (.tmp 51) (.tmp 53) rfl B (.slice av l.length cv) l.length ((idsP l).map (Value.int .i64)) rfl hrU id rfl (by simp) (by omega) HLU.out ?_; intro a4 c4 w4 hown4 hg4 hblk4; obtain ⟨d0, f0, d1, hlt4, hX⟩ := HFIN.out w4 _ _ hg4 hown4 hblk4; obtain ⟨w6, hr6, k6, o6⟩ := hX _ (Below.refl _ _); have HK6 := hide k6; have HO6 := hide o6; clear hX hown4 hg4 hblk4 k6 o6))
        go_ret
        refine ⟨rfl, HK6.out.wide (fun k e => ?_) (fun k e => ?_), (Rg.Kept.of_below hbU).trans HO6.out⟩
        · rcases e with e | e
          · exact .inl e
          · exact .inr ⟨Nat.le_trans hbU.size e.1, e.2⟩
        · rcases e with e | e
          · have := hE k e
            have := HO6.out.size
            have := hbU.size
            omega
          · have := HLW.out
            omega
  · have e1 : shipE l id item qty = 1 := shipE_arg hg
    rw [e1, shipL_no (by omega)]
    have HK := hide k
    clear k e1
    cases h1 : isI id with
    | false =>
      rw [h1] at P1
      clear P2 P3 hg
      go_enter Try.func8, Try.ntmps8
      go_wp2_with (go_at_call 18; refine P1.mono ?_; rintro e w1 ⟨rfl, rfl⟩)
      go_ret
      exact ⟨rfl, HK.out.grow HLW.out, Rg.Kept.refl _ _⟩
    | true =>
      rw [h1] at P1
      cases h2 : isIt item with
      | false =>
        rw [h2] at P2
        clear P3 hg
        go_enter Try.func8, Try.ntmps8
        go_wp2_with (first
          | (go_at_call 18; refine P1.mono ?_; rintro e w1 ⟨rfl, rfl⟩)
          | (go_at_call 19; refine P2.mono ?_; rintro e w1 ⟨rfl, rfl⟩))
        go_ret
        exact ⟨rfl, HK.out.grow HLW.out, Rg.Kept.refl _ _⟩
      | true =>
        rw [h2] at P2
        have h3 : decide (1 ≤ qty ∧ qty ≤ 1000000000) = false := by
          simp only [decide_eq_false_iff_not]
          exact fun h => hg ⟨h1, h2, h⟩
        rw [h3] at P3
        clear hg h3
        go_enter Try.func8, Try.ntmps8
        go_wp2_with (first
          | (go_at_call 18; refine P1.mono ?_; rintro e w1 ⟨rfl, rfl⟩)
          | (go_at_call 19; refine P2.mono ?_; rintro e w1 ⟨rfl, rfl⟩)
          | (go_at_call 20; refine P3.mono ?_; rintro e w1 ⟨rfl, rfl⟩))
        go_ret
        exact ⟨rfl, HK.out.grow HLW.out, Rg.Kept.refl _ _⟩
end Go.Proofs.Ytkaniplkobnpjaa
