/-
  Contracts: package saga's undo, prepare.
-/
import Derived.Test.YtinbmnefdhkdfaaSgaW
import Derived.Laws.Rows
import Derived.Laws.CopyOwn
namespace Go.Proofs.Ytinbmnefdhkdfaa
open Go.ChangeShapes Go.WideShapes Go.ChangeAt Go.RowKit

/-- An order lies boxed at w's end. -/
structure Rq (w : World) (o : Od) (a : Option Addr) (c : Nat) (u : World) : Prop where
  ob : u.heap[w.heap.size]? = some (.cells #[.int .i64 o.id, .int .i64 o.item, .int .i64 o.qty, .int .i64 o.client, .int .i64 o.price, .slice a o.steps.length c] 24 (0, 0))
  bel : Below w.heap.size w u
  sz : w.heap.size < u.heap.size
theorem Rq.on {w : World} {o : Od} {a : Option Addr} {c : Nat} {u v : World} (h : Rq w o a c u) (hb : Below u.heap.size u v) : Rq w o a c v :=
  ⟨(hb.block _ (Array.getElem?_eq_some_iff.1 h.ob).1).trans h.ob, bel_on' h.bel hb, by have := hb.size; have := h.sz; omega⟩
theorem Rq.onB {w : World} {o : Od} {a : Option Addr} {c : Nat} {u v : World} (h : Rq w o a c u) {B : Nat} (hB : w.heap.size < B) (hb : Below B u v) : Rq w o a c v :=
  ⟨(hb.block _ (by omega)).trans h.ob, h.bel.trans (hb.mono (by omega)), by have := hb.size; have := h.sz; omega⟩
theorem Rq.drew {w : World} {o : Od} {a : Option Addr} {c : Nat} {u : World} (h : Rq w o a c u) : Rq w o a c u.drew := ⟨h.ob, h.bel.drew, h.sz⟩
theorem Rq.new {w : World} {o : Od} {a : Option Addr} {c : Nat} : Rq w o a c (w.alloc (.cells #[.int .i64 o.id, .int .i64 o.item, .int .i64 o.qty, .int .i64 o.client, .int .i64 o.price, .slice a o.steps.length c] 24)) :=
  ⟨World.alloc_heap_new w _, (Below.refl _ _).alloc (Nat.le_refl _) _, by simp⟩

theorem keepB {u v : World} {k : Nat} {o : Obj} (h : u.heap[k]? = some o) (hb : Below u.heap.size u v) : v.heap[k]? = some o := (hb.block _ (Array.getElem?_eq_some_iff.1 h).1).trans h
theorem ne_old {u : World} {k g : Nat} {o : Obj} (h : u.heap[k]? = some o) (hg : u.heap.size ≤ g) : g ≠ k := by have := (Array.getElem?_eq_some_iff.1 h).1; omega
theorem step_allocM {ops : Array Oper} {o : Oper} {a : Act} {w : World} {K : Act → World → Prop} {Q : Exit → Act → World → Prop} {E : Prop} {d : Tmp} (hw : Region.wanted o (yielded ops a.tmps) = true)
    (ho : o.op = .alloc 43) (hd : o.dst = some d)
    (h : ∀ p w', w'.heap[p]? = some (.cells #[.int .i64 0, .int .i64 0, .int .i64 0, .int .i64 0, .int .i64 0, .int .i64 0, .int .i64 0] 43 (0, 0)) → Below w.heap.size w w' → w.heap.size ≤ p → K (a.put (some d) (.pointer (some ⟨p, 0, none⟩))) w') :
    if Region.wanted o (yielded ops a.tmps) = true then Oper.wp Try.prog o a w K Q else E := by
  rw [if_pos hw]
  have hr : (execOp a.eval o).run Try.prog w = .ok (.value (.pointer (some ⟨w.heap.size, 0, none⟩))) (w.alloc (.cells #[.int .i64 0, .int .i64 0, .int .i64 0, .int .i64 0, .int .i64 0, .int .i64 0, .int .i64 0] 43)) := by
    unfold execOp
    rw [ho]
    kernel_rfl
  unfold Oper.wp
  rw [hr, Oper.upon_value, hd]
  exact h w.heap.size _ (World.alloc_heap_new w _) ((Below.refl _ _).alloc (Nat.le_refl _) _) (Nat.le_refl _)
theorem step_storeM {ops : Array Oper} {o : Oper} {a : Act} {w : World} {K : Act → World → Prop} {Q : Exit → Act → World → Prop} {E : Prop} (hw : Region.wanted o (yielded ops a.tmps) = true) (d s : Operand)
    (ho : o.op = .store 43 d s) (p : Nat) (hd : a.eval d = .pointer (some ⟨p, 0, none⟩)) {x0 x1 x2 x3 x4 x5 x6 : Int} (hs : a.eval s = .agg #[.int .i64 x0, .int .i64 x1, .int .i64 x2, .int .i64 x3, .int .i64 x4, .int .i64 x5, .int .i64 x6])
    {v0 v1 v2 v3 v4 v5 v6 : Value} (hp : w.heap[p]? = some (.cells #[v0, v1, v2, v3, v4, v5, v6] 43 (0, 0)))
    (h : ∀ w', w'.heap[p]? = some (.cells #[.int .i64 x0, .int .i64 x1, .int .i64 x2, .int .i64 x3, .int .i64 x4, .int .i64 x5, .int .i64 x6] 43 (0, 0)) → (∀ k, k ≠ p → w'.heap[k]? = w.heap[k]?) → (∀ B, B ≤ p → Below B w w') → K (a.put o.dst undef) w') :
    if Region.wanted o (yielded ops a.tmps) = true then Oper.wp Try.prog o a w K Q else E := by
  rw [if_pos hw]
  refine wp_store_row 43 d s ho p _ hd hs 43 _ hp (by kernel_rfl) rfl (by simp [Value.oneCell']) (h _ (setRow_heap _ _ _ _ _ _ hp) (fun k hk => setRow_other _ _ _ _ hk) (fun B hB => below_setRow (Below.refl _ _) hB _))

theorem region_via {P : Program} {id : Nat} {ops : Array Oper} {Q : Exit → Act → World → Prop} {a : Act} {w : World} {b : Bool} (Fin : Act → World → Prop) (h1 : (Code.region id ops b).wp P (fun e a' w' => e = .normal ∧ Fin a' w') a w) (h2 : ∀ a' w', Fin a' w' → Q .normal a' w') : (Code.region id ops b).wp P Q a w :=
  Code.wp_mono (fun e a' w' h => by obtain ⟨rfl, h⟩ := h; exact h2 a' w' h) h1
theorem step_msg {ops : Array Oper} {o : Oper} {a : Act} {w : World} {K : Act → World → Prop} {Q : Exit → Act → World → Prop} {E : Prop} (hw : Region.wanted o (yielded ops a.tmps) = true) (x y z : Operand)
    (ho : o.op = .call { callee := .value (.func 55), args := #[x, y, z], argTypes := #[24, 3, 3] }) (od : Od) (ad : Option Addr) (c : Nat) (k t : Int) (hx : a.eval x = .agg #[.int .i64 od.id, .int .i64 od.item, .int .i64 od.qty, .int .i64 od.client, .int .i64 od.price, .slice ad od.steps.length c]) (hy : a.eval y = .int .i64 k) (hz : a.eval z = .int .i64 t)
    (h : ∀ w', Below w.heap.size w w' → K (a.put o.dst (.agg #[.int .i64 k, .int .i64 0, .int .i64 t, .int .i64 od.id, .int .i64 0, .int .i64 0, .int .i64 0])) w') :
    if Region.wanted o (yielded ops a.tmps) = true then Oper.wp Try.prog o a w K Q else E := by
  rw [if_pos hw]
  have hr : (execOp a.eval o).run Try.prog w = .ok (.enter 55 #[.agg #[.int .i64 od.id, .int .i64 od.item, .int .i64 od.qty, .int .i64 od.client, .int .i64 od.price, .slice ad od.steps.length c], .int .i64 k, .int .i64 t]) w := by
    unfold execOp
    rw [ho]
    have EN : ∀ args u, (callFunc 55 args).run Try.prog u = .ok (.enter 55 args) u := enters_of Try.func55 (by kernel_rfl) rfl
    simp only [resolve, invoke, Sem.run_bind, List.map_toArray, List.map_cons, List.map_nil, hx, hy, hz]
    exact EN _ _
  unfold Oper.wp
  rw [hr, Oper.upon_enter]
  refine (msg_any od ad c k t w).mono ?_
  rintro e w' ⟨rfl, hb⟩
  exact h w' hb
theorem prep_end {w X : World} {s : Nat} {o : Od} (hB : Below w.heap.size w X) (hs : X.heap.size = s) : OwnM w (prepL o) (.returned (.slice (some ⟨s, 0, none⟩) 2 2)) ((X.alloc (.cells #[.int .i64 6, .int .i64 0, .int .i64 1, .int .i64 o.id, .int .i64 0, .int .i64 o.item, .int .i64 o.qty, .int .i64 6, .int .i64 0, .int .i64 2, .int .i64 o.id, .int .i64 0, .int .i64 o.client, .int .i64 o.price] 43)).drew.drew) := by
  subst hs
  refine ⟨_, 2, rfl, Nat.le_refl _, (fun h => by cases h), ?_, ((hB.alloc hB.size _).drew).drew⟩
  exact mrow_new X w.heap.size hB.size (prepL o) _ rfl (by show 2 ≤ _; omega)

set_option maxRecDepth 100000 in
set_option maxHeartbeats 8000000 in
theorem prep_any (o : Od) (a : Option Addr) (c : Nat) (w : World) :
    Calls Try.prog 46 #[.agg #[.int .i64 o.id, .int .i64 o.item, .int .i64 o.qty, .int .i64 o.client, .int .i64 o.price, .slice a o.steps.length c]] w (OwnM w (prepL o)) := by
  have HR := Rq.new (w := w) (o := o) (a := a) (c := c)
  obtain ⟨V0, hV0⟩ : ∃ V, V = w.alloc (.cells #[.int .i64 o.id, .int .i64 o.item, .int .i64 o.qty, .int .i64 o.client, .int .i64 o.price, .slice a o.steps.length c] 24) := ⟨_, rfl⟩
  rw [← hV0] at HR
  replace HR := HR.drew
  go_enter Try.func46, Try.ntmps46
  go_wp2_with fail
  rw [← hV0]
  clear hV0
  refine region_via (fun a' W => ∃ g m, a' = { tmps := #[.agg #[.int .i64 o.id, .int .i64 o.item, .int .i64 o.qty, .int .i64 o.client, .int .i64 o.price, .slice a o.steps.length c], .pointer (some ⟨w.heap.size, 0, none⟩), .slice none 0 0, .pointer (some ⟨g, 0, none⟩), .pointer (some ⟨m, 0, none⟩), .agg #[.int .i64 o.id, .int .i64 o.item, .int .i64 o.qty, .int .i64 o.client, .int .i64 o.price, .slice a o.steps.length c], .agg #[.int .i64 6, .int .i64 0, .int .i64 1, .int .i64 o.id, .int .i64 0, .int .i64 0, .int .i64 0], .agg #[.int .i64 o.id, .int .i64 o.item, .int .i64 o.qty, .int .i64 o.client, .int .i64 o.price, .slice a o.steps.length c], .agg #[.int .i64 6, .int .i64 0, .int .i64 2, .int .i64 o.id, .int .i64 0, .int .i64 0, .int .i64 0], undef, undef, undef, undef, undef, undef, undef, undef, undef, undef, undef, undef, undef, undef, undef], defers := [] } ∧ W.heap[g]? = some (.cells #[.int .i64 6, .int .i64 0, .int .i64 1, .int .i64 o.id, .int .i64 0, .int .i64 0, .int .i64 0] 43 (0, 0)) ∧ W.heap[m]? = some (.cells #[.int .i64 6, .int .i64 0, .int .i64 2, .int .i64 o.id, .int .i64 0, .int .i64 0, .int .i64 0] 43 (0, 0)) ∧ g ≠ m ∧ w.heap.size < g ∧ w.heap.size < m ∧ Rq w o a c W) ?_ ?_
  · refine wp_region_held_drew (S := fun u => Rq w o a c u) (by kernel_rfl) HR (fun hHeld => ?_)
    refine wpAnyH_take (i := 0) (oi := { dst := some 5, op := _, type := _, pos := _, after := _, guard := _ }) (v := .agg #[.int .i64 o.id, .int .i64 o.item, .int .i64 o.qty, .int .i64 o.client, .int .i64 o.price, .slice a o.steps.length c]) rfl (by kernel_rfl) (by kernel_rfl) (by kernel_rfl) (fun _ _ _ h => absurd h.1 (by simp)) (Or.inl ⟨by kernel_rfl, ?_⟩) hHeld ?_
    · intro u hu
      obtain ⟨d0, d1, d2, d3, d4, d5⟩ := six_cells hu.ob
      go_simp
    try simp only [Act.put, List.setIfInBounds_toArray, List.set_cons_zero, List.set_cons_succ]
    refine wpAnyH_take (i := 2) (oi := { dst := some 7, op := _, type := _, pos := _, after := _, guard := _ }) (v := .agg #[.int .i64 o.id, .int .i64 o.item, .int .i64 o.qty, .int .i64 o.client, .int .i64 o.price, .slice a o.steps.length c]) rfl (by kernel_rfl) (by kernel_rfl) (by kernel_rfl) (fun _ _ _ h => absurd h.1 (by simp)) (Or.inl ⟨by kernel_rfl, ?_⟩) hHeld ?_
    · intro u hu
      obtain ⟨d0, d1, d2, d3, d4, d5⟩ := six_cells hu.ob
      go_simp
    try simp only [Act.put, List.setIfInBounds_toArray, List.set_cons_zero, List.set_cons_succ]
    refine wpAnyH_ready (rs := [1, 4, 5]) (by kernel_rfl) (by simp) ?_
    refine AllReadyH.cons (o := { dst := some 6, op := _, type := _, pos := _, after := _, guard := _ }) rfl (fun K hK => ?_) ?_
    · refine step_msg rfl _ _ _ rfl o a c 6 1 rfl rfl rfl ?_
      intro U hb
      replace HR := HR.on hb
      clear hb
      refine hK.out _ _ HR (fun hHeld => ?_)
      clear hK K
      try simp only [Act.put, List.setIfInBounds_toArray, List.set_cons_zero, List.set_cons_succ]
      refine wpAnyH_ready (rs := [3, 4, 5]) (by kernel_rfl) (by simp) ?_
      refine AllReadyH.cons (o := { dst := some 8, op := _, type := _, pos := _, after := _, guard := _ }) rfl (fun K hK => ?_) ?_
      · refine step_msg rfl _ _ _ rfl o a c 6 2 rfl rfl rfl ?_
        intro U hb
        replace HR := HR.on hb
        clear hb
        refine hK.out _ _ HR (fun hHeld => ?_)
        clear hK K
        try simp only [Act.put, List.setIfInBounds_toArray, List.set_cons_zero, List.set_cons_succ]
        refine wpAnyH_ready (rs := [4, 5]) (by kernel_rfl) (by simp) ?_
        refine AllReadyH.cons (o := { dst := some 3, op := _, type := _, pos := _, after := _, guard := _ }) rfl (fun K hK => ?_) ?_
        · refine step_allocM (d := 3) rfl rfl rfl ?_
          intro g U hG hb hg
          have gg : w.heap.size < g := Nat.lt_of_lt_of_le HR.sz hg
          replace HR := HR.on hb
          clear hb hg
          refine hK.out _ _ HR (fun hHeld => ?_)
          clear hK K
          try simp only [Act.put, List.setIfInBounds_toArray, List.set_cons_zero, List.set_cons_succ]
          refine wpAnyH_ready (rs := [5]) (by kernel_rfl) (by simp) ?_
          refine AllReadyH.cons (o := { dst := some 4, op := _, type := _, pos := _, after := _, guard := _ }) rfl (fun K hK => ?_) ?_
          · refine step_allocM (d := 4) rfl rfl rfl ?_
            intro m U hM hb hg
            have gm : w.heap.size < m := Nat.lt_of_lt_of_le HR.sz hg
            have hne : g ≠ m := (ne_old hG hg).symm
            replace hG := keepB hG hb
            replace HR := HR.on hb
            clear hb hg
            refine hK.out _ _ HR (fun hHeld => ?_)
            clear hK K
            try simp only [Act.put, List.setIfInBounds_toArray, List.set_cons_zero, List.set_cons_succ]
            refine wpAnyH_ready (rs := [6]) (by kernel_rfl) (by simp) ?_
            refine AllReadyH.cons (o := { dst := none, op := _, type := _, pos := _, after := _, guard := _ }) rfl (fun K hK => ?_) ?_
            · refine step_storeM rfl _ _ rfl g rfl rfl hG ?_
              clear hG
              intro U hG hk hb
              replace hM := (hk _ hne.symm).trans hM
              replace HR := HR.onB gg (hb _ (Nat.le_refl _))
              clear hk hb
              refine hK.out _ _ HR (fun hHeld => ?_)
              clear hK K
              try simp only [Act.put]
              refine wpAnyH_ready (rs := [7]) (by kernel_rfl) (by simp) ?_
              refine AllReadyH.cons (o := { dst := none, op := _, type := _, pos := _, after := _, guard := _ }) rfl (fun K hK => ?_) ?_
              · refine step_storeM rfl _ _ rfl m rfl rfl hM ?_
                clear hM
                intro U hM hk hb
                replace hG := (hk _ hne).trans hG
                replace HR := HR.onB gm (hb _ (Nat.le_refl _))
                clear hk hb
                refine hK.out _ _ HR (fun hHeld => ?_)
                clear hK K
                try simp only [Act.put]
                refine wpAnyH_done (by kernel_rfl) ?_ _
                exact ⟨rfl, g, m, rfl, hG, hM, hne, gg, gm, HR⟩
              exact AllReadyH.nil
            exact AllReadyH.nil
          exact AllReadyH.nil
        refine AllReadyH.cons (o := { dst := some 4, op := _, type := _, pos := _, after := _, guard := _ }) rfl (fun K hK => ?_) ?_
        · refine step_allocM (d := 4) rfl rfl rfl ?_
          intro m U hM hb hg
          have gm : w.heap.size < m := Nat.lt_of_lt_of_le HR.sz hg
          replace HR := HR.on hb
          clear hb hg
          refine hK.out _ _ HR (fun hHeld => ?_)
          clear hK K
          try simp only [Act.put, List.setIfInBounds_toArray, List.set_cons_zero, List.set_cons_succ]
          refine wpAnyH_ready (rs := [4]) (by kernel_rfl) (by simp) ?_
          refine AllReadyH.cons (o := { dst := some 3, op := _, type := _, pos := _, after := _, guard := _ }) rfl (fun K hK => ?_) ?_
          · refine step_allocM (d := 3) rfl rfl rfl ?_
            intro g U hG hb hg
            have gg : w.heap.size < g := Nat.lt_of_lt_of_le HR.sz hg
            have hne : g ≠ m := ne_old hM hg
            replace hM := keepB hM hb
            replace HR := HR.on hb
            clear hb hg
            refine hK.out _ _ HR (fun hHeld => ?_)
            clear hK K
            try simp only [Act.put, List.setIfInBounds_toArray, List.set_cons_zero, List.set_cons_succ]
            refine wpAnyH_ready (rs := [6]) (by kernel_rfl) (by simp) ?_
            refine AllReadyH.cons (o := { dst := none, op := _, type := _, pos := _, after := _, guard := _ }) rfl (fun K hK => ?_) ?_
            · refine step_storeM rfl _ _ rfl g rfl rfl hG ?_
              clear hG
              intro U hG hk hb
              replace hM := (hk _ hne.symm).trans hM
              replace HR := HR.onB gg (hb _ (Nat.le_refl _))
              clear hk hb
              refine hK.out _ _ HR (fun hHeld => ?_)
              clear hK K
              try simp only [Act.put]
              refine wpAnyH_ready (rs := [7]) (by kernel_rfl) (by simp) ?_
              refine AllReadyH.cons (o := { dst := none, op := _, type := _, pos := _, after := _, guard := _ }) rfl (fun K hK => ?_) ?_
              · refine step_storeM rfl _ _ rfl m rfl rfl hM ?_
                clear hM
                intro U hM hk hb
                replace hG := (hk _ hne).trans hG
                replace HR := HR.onB gm (hb _ (Nat.le_refl _))
                clear hk hb
                refine hK.out _ _ HR (fun hHeld => ?_)
                clear hK K
                try simp only [Act.put]
                refine wpAnyH_done (by kernel_rfl) ?_ _
                exact ⟨rfl, g, m, rfl, hG, hM, hne, gg, gm, HR⟩
              exact AllReadyH.nil
            exact AllReadyH.nil
          exact AllReadyH.nil
        exact AllReadyH.nil
      refine AllReadyH.cons (o := { dst := some 3, op := _, type := _, pos := _, after := _, guard := _ }) rfl (fun K hK => ?_) ?_
      · refine step_allocM (d := 3) rfl rfl rfl ?_
        intro g U hG hb hg
        have gg : w.heap.size < g := Nat.lt_of_lt_of_le HR.sz hg
        replace HR := HR.on hb
        clear hb hg
        refine hK.out _ _ HR (fun hHeld => ?_)
        clear hK K
        try simp only [Act.put, List.setIfInBounds_toArray, List.set_cons_zero, List.set_cons_succ]
        refine wpAnyH_ready (rs := [3, 5]) (by kernel_rfl) (by simp) ?_
        refine AllReadyH.cons (o := { dst := some 8, op := _, type := _, pos := _, after := _, guard := _ }) rfl (fun K hK => ?_) ?_
        · refine step_msg rfl _ _ _ rfl o a c 6 2 rfl rfl rfl ?_
          intro U hb
          replace hG := keepB hG hb
          replace HR := HR.on hb
          clear hb
          refine hK.out _ _ HR (fun hHeld => ?_)
          clear hK K
          try simp only [Act.put, List.setIfInBounds_toArray, List.set_cons_zero, List.set_cons_succ]
          refine wpAnyH_ready (rs := [5]) (by kernel_rfl) (by simp) ?_
          refine AllReadyH.cons (o := { dst := some 4, op := _, type := _, pos := _, after := _, guard := _ }) rfl (fun K hK => ?_) ?_
          · refine step_allocM (d := 4) rfl rfl rfl ?_
            intro m U hM hb hg
            have gm : w.heap.size < m := Nat.lt_of_lt_of_le HR.sz hg
            have hne : g ≠ m := (ne_old hG hg).symm
            replace hG := keepB hG hb
            replace HR := HR.on hb
            clear hb hg
            refine hK.out _ _ HR (fun hHeld => ?_)
            clear hK K
            try simp only [Act.put, List.setIfInBounds_toArray, List.set_cons_zero, List.set_cons_succ]
            refine wpAnyH_ready (rs := [6]) (by kernel_rfl) (by simp) ?_
            refine AllReadyH.cons (o := { dst := none, op := _, type := _, pos := _, after := _, guard := _ }) rfl (fun K hK => ?_) ?_
            · refine step_storeM rfl _ _ rfl g rfl rfl hG ?_
              clear hG
              intro U hG hk hb
              replace hM := (hk _ hne.symm).trans hM
              replace HR := HR.onB gg (hb _ (Nat.le_refl _))
              clear hk hb
              refine hK.out _ _ HR (fun hHeld => ?_)
              clear hK K
              try simp only [Act.put]
              refine wpAnyH_ready (rs := [7]) (by kernel_rfl) (by simp) ?_
              refine AllReadyH.cons (o := { dst := none, op := _, type := _, pos := _, after := _, guard := _ }) rfl (fun K hK => ?_) ?_
              · refine step_storeM rfl _ _ rfl m rfl rfl hM ?_
                clear hM
                intro U hM hk hb
                replace hG := (hk _ hne).trans hG
                replace HR := HR.onB gm (hb _ (Nat.le_refl _))
                clear hk hb
                refine hK.out _ _ HR (fun hHeld => ?_)
                clear hK K
                try simp only [Act.put]
                refine wpAnyH_done (by kernel_rfl) ?_ _
                exact ⟨rfl, g, m, rfl, hG, hM, hne, gg, gm, HR⟩
              exact AllReadyH.nil
            exact AllReadyH.nil
          exact AllReadyH.nil
        refine AllReadyH.cons (o := { dst := some 4, op := _, type := _, pos := _, after := _, guard := _ }) rfl (fun K hK => ?_) ?_
        · refine step_allocM (d := 4) rfl rfl rfl ?_
          intro m U hM hb hg
          have gm : w.heap.size < m := Nat.lt_of_lt_of_le HR.sz hg
          have hne : g ≠ m := (ne_old hG hg).symm
          replace hG := keepB hG hb
          replace HR := HR.on hb
          clear hb hg
          refine hK.out _ _ HR (fun hHeld => ?_)
          clear hK K
          try simp only [Act.put, List.setIfInBounds_toArray, List.set_cons_zero, List.set_cons_succ]
          refine wpAnyH_ready (rs := [3]) (by kernel_rfl) (by simp) ?_
          refine AllReadyH.cons (o := { dst := some 8, op := _, type := _, pos := _, after := _, guard := _ }) rfl (fun K hK => ?_) ?_
          · refine step_msg rfl _ _ _ rfl o a c 6 2 rfl rfl rfl ?_
            intro U hb
            replace hG := keepB hG hb
            replace hM := keepB hM hb
            replace HR := HR.on hb
            clear hb
            refine hK.out _ _ HR (fun hHeld => ?_)
            clear hK K
            try simp only [Act.put, List.setIfInBounds_toArray, List.set_cons_zero, List.set_cons_succ]
            refine wpAnyH_ready (rs := [6]) (by kernel_rfl) (by simp) ?_
            refine AllReadyH.cons (o := { dst := none, op := _, type := _, pos := _, after := _, guard := _ }) rfl (fun K hK => ?_) ?_
            · refine step_storeM rfl _ _ rfl g rfl rfl hG ?_
              clear hG
              intro U hG hk hb
              replace hM := (hk _ hne.symm).trans hM
              replace HR := HR.onB gg (hb _ (Nat.le_refl _))
              clear hk hb
              refine hK.out _ _ HR (fun hHeld => ?_)
              clear hK K
              try simp only [Act.put]
              refine wpAnyH_ready (rs := [7]) (by kernel_rfl) (by simp) ?_
              refine AllReadyH.cons (o := { dst := none, op := _, type := _, pos := _, after := _, guard := _ }) rfl (fun K hK => ?_) ?_
              · refine step_storeM rfl _ _ rfl m rfl rfl hM ?_
                clear hM
                intro U hM hk hb
                replace hG := (hk _ hne).trans hG
                replace HR := HR.onB gm (hb _ (Nat.le_refl _))
                clear hk hb
                refine hK.out _ _ HR (fun hHeld => ?_)
                clear hK K
                try simp only [Act.put]
                refine wpAnyH_done (by kernel_rfl) ?_ _
                exact ⟨rfl, g, m, rfl, hG, hM, hne, gg, gm, HR⟩
              exact AllReadyH.nil
            exact AllReadyH.nil
          exact AllReadyH.nil
        exact AllReadyH.nil
      refine AllReadyH.cons (o := { dst := some 4, op := _, type := _, pos := _, after := _, guard := _ }) rfl (fun K hK => ?_) ?_
      · refine step_allocM (d := 4) rfl rfl rfl ?_
        intro m U hM hb hg
        have gm : w.heap.size < m := Nat.lt_of_lt_of_le HR.sz hg
        replace HR := HR.on hb
        clear hb hg
        refine hK.out _ _ HR (fun hHeld => ?_)
        clear hK K
        try simp only [Act.put, List.setIfInBounds_toArray, List.set_cons_zero, List.set_cons_succ]
        refine wpAnyH_ready (rs := [3, 4]) (by kernel_rfl) (by simp) ?_
        refine AllReadyH.cons (o := { dst := some 8, op := _, type := _, pos := _, after := _, guard := _ }) rfl (fun K hK => ?_) ?_
        · refine step_msg rfl _ _ _ rfl o a c 6 2 rfl rfl rfl ?_
          intro U hb
          replace hM := keepB hM hb
          replace HR := HR.on hb
          clear hb
          refine hK.out _ _ HR (fun hHeld => ?_)
          clear hK K
          try simp only [Act.put, List.setIfInBounds_toArray, List.set_cons_zero, List.set_cons_succ]
          refine wpAnyH_ready (rs := [4]) (by kernel_rfl) (by simp) ?_
          refine AllReadyH.cons (o := { dst := some 3, op := _, type := _, pos := _, after := _, guard := _ }) rfl (fun K hK => ?_) ?_
          · refine step_allocM (d := 3) rfl rfl rfl ?_
            intro g U hG hb hg
            have gg : w.heap.size < g := Nat.lt_of_lt_of_le HR.sz hg
            have hne : g ≠ m := ne_old hM hg
            replace hM := keepB hM hb
            replace HR := HR.on hb
            clear hb hg
            refine hK.out _ _ HR (fun hHeld => ?_)
            clear hK K
            try simp only [Act.put, List.setIfInBounds_toArray, List.set_cons_zero, List.set_cons_succ]
            refine wpAnyH_ready (rs := [6]) (by kernel_rfl) (by simp) ?_
            refine AllReadyH.cons (o := { dst := none, op := _, type := _, pos := _, after := _, guard := _ }) rfl (fun K hK => ?_) ?_
            · refine step_storeM rfl _ _ rfl g rfl rfl hG ?_
              clear hG
              intro U hG hk hb
              replace hM := (hk _ hne.symm).trans hM
              replace HR := HR.onB gg (hb _ (Nat.le_refl _))
              clear hk hb
              refine hK.out _ _ HR (fun hHeld => ?_)
              clear hK K
              try simp only [Act.put]
              refine wpAnyH_ready (rs := [7]) (by kernel_rfl) (by simp) ?_
              refine AllReadyH.cons (o := { dst := none, op := _, type := _, pos := _, after := _, guard := _ }) rfl (fun K hK => ?_) ?_
              · refine step_storeM rfl _ _ rfl m rfl rfl hM ?_
                clear hM
                intro U hM hk hb
                replace hG := (hk _ hne).trans hG
                replace HR := HR.onB gm (hb _ (Nat.le_refl _))
                clear hk hb
                refine hK.out _ _ HR (fun hHeld => ?_)
                clear hK K
                try simp only [Act.put]
                refine wpAnyH_done (by kernel_rfl) ?_ _
                exact ⟨rfl, g, m, rfl, hG, hM, hne, gg, gm, HR⟩
              exact AllReadyH.nil
            exact AllReadyH.nil
          exact AllReadyH.nil
        refine AllReadyH.cons (o := { dst := some 3, op := _, type := _, pos := _, after := _, guard := _ }) rfl (fun K hK => ?_) ?_
        · refine step_allocM (d := 3) rfl rfl rfl ?_
          intro g U hG hb hg
          have gg : w.heap.size < g := Nat.lt_of_lt_of_le HR.sz hg
          have hne : g ≠ m := ne_old hM hg
          replace hM := keepB hM hb
          replace HR := HR.on hb
          clear hb hg
          refine hK.out _ _ HR (fun hHeld => ?_)
          clear hK K
          try simp only [Act.put, List.setIfInBounds_toArray, List.set_cons_zero, List.set_cons_succ]
          refine wpAnyH_ready (rs := [3]) (by kernel_rfl) (by simp) ?_
          refine AllReadyH.cons (o := { dst := some 8, op := _, type := _, pos := _, after := _, guard := _ }) rfl (fun K hK => ?_) ?_
          · refine step_msg rfl _ _ _ rfl o a c 6 2 rfl rfl rfl ?_
            intro U hb
            replace hG := keepB hG hb
            replace hM := keepB hM hb
            replace HR := HR.on hb
            clear hb
            refine hK.out _ _ HR (fun hHeld => ?_)
            clear hK K
            try simp only [Act.put, List.setIfInBounds_toArray, List.set_cons_zero, List.set_cons_succ]
            refine wpAnyH_ready (rs := [6]) (by kernel_rfl) (by simp) ?_
            refine AllReadyH.cons (o := { dst := none, op := _, type := _, pos := _, after := _, guard := _ }) rfl (fun K hK => ?_) ?_
            · refine step_storeM rfl _ _ rfl g rfl rfl hG ?_
              clear hG
              intro U hG hk hb
              replace hM := (hk _ hne.symm).trans hM
              replace HR := HR.onB gg (hb _ (Nat.le_refl _))
              clear hk hb
              refine hK.out _ _ HR (fun hHeld => ?_)
              clear hK K
              try simp only [Act.put]
              refine wpAnyH_ready (rs := [7]) (by kernel_rfl) (by simp) ?_
              refine AllReadyH.cons (o := { dst := none, op := _, type := _, pos := _, after := _, guard := _ }) rfl (fun K hK => ?_) ?_
              · refine step_storeM rfl _ _ rfl m rfl rfl hM ?_
                clear hM
                intro U hM hk hb
                replace hG := (hk _ hne).trans hG
                replace HR := HR.onB gm (hb _ (Nat.le_refl _))
                clear hk hb
                refine hK.out _ _ HR (fun hHeld => ?_)
                clear hK K
                try simp only [Act.put]
                refine wpAnyH_done (by kernel_rfl) ?_ _
                exact ⟨rfl, g, m, rfl, hG, hM, hne, gg, gm, HR⟩
              exact AllReadyH.nil
            exact AllReadyH.nil
          exact AllReadyH.nil
        exact AllReadyH.nil
      exact AllReadyH.nil
    refine AllReadyH.cons (o := { dst := some 3, op := _, type := _, pos := _, after := _, guard := _ }) rfl (fun K hK => ?_) ?_
    · refine step_allocM (d := 3) rfl rfl rfl ?_
      intro g U hG hb hg
      have gg : w.heap.size < g := Nat.lt_of_lt_of_le HR.sz hg
      replace HR := HR.on hb
      clear hb hg
      refine hK.out _ _ HR (fun hHeld => ?_)
      clear hK K
      try simp only [Act.put, List.setIfInBounds_toArray, List.set_cons_zero, List.set_cons_succ]
      refine wpAnyH_ready (rs := [1, 5]) (by kernel_rfl) (by simp) ?_
      refine AllReadyH.cons (o := { dst := some 6, op := _, type := _, pos := _, after := _, guard := _ }) rfl (fun K hK => ?_) ?_
      · refine step_msg rfl _ _ _ rfl o a c 6 1 rfl rfl rfl ?_
        intro U hb
        replace hG := keepB hG hb
        replace HR := HR.on hb
        clear hb
        refine hK.out _ _ HR (fun hHeld => ?_)
        clear hK K
        try simp only [Act.put, List.setIfInBounds_toArray, List.set_cons_zero, List.set_cons_succ]
        refine wpAnyH_ready (rs := [3, 5]) (by kernel_rfl) (by simp) ?_
        refine AllReadyH.cons (o := { dst := some 8, op := _, type := _, pos := _, after := _, guard := _ }) rfl (fun K hK => ?_) ?_
        · refine step_msg rfl _ _ _ rfl o a c 6 2 rfl rfl rfl ?_
          intro U hb
          replace hG := keepB hG hb
          replace HR := HR.on hb
          clear hb
          refine hK.out _ _ HR (fun hHeld => ?_)
          clear hK K
          try simp only [Act.put, List.setIfInBounds_toArray, List.set_cons_zero, List.set_cons_succ]
          refine wpAnyH_ready (rs := [5]) (by kernel_rfl) (by simp) ?_
          refine AllReadyH.cons (o := { dst := some 4, op := _, type := _, pos := _, after := _, guard := _ }) rfl (fun K hK => ?_) ?_
          · refine step_allocM (d := 4) rfl rfl rfl ?_
            intro m U hM hb hg
            have gm : w.heap.size < m := Nat.lt_of_lt_of_le HR.sz hg
            have hne : g ≠ m := (ne_old hG hg).symm
            replace hG := keepB hG hb
            replace HR := HR.on hb
            clear hb hg
            refine hK.out _ _ HR (fun hHeld => ?_)
            clear hK K
            try simp only [Act.put, List.setIfInBounds_toArray, List.set_cons_zero, List.set_cons_succ]
            refine wpAnyH_ready (rs := [6]) (by kernel_rfl) (by simp) ?_
            refine AllReadyH.cons (o := { dst := none, op := _, type := _, pos := _, after := _, guard := _ }) rfl (fun K hK => ?_) ?_
            · refine step_storeM rfl _ _ rfl g rfl rfl hG ?_
              clear hG
              intro U hG hk hb
              replace hM := (hk _ hne.symm).trans hM
              replace HR := HR.onB gg (hb _ (Nat.le_refl _))
              clear hk hb
              refine hK.out _ _ HR (fun hHeld => ?_)
              clear hK K
              try simp only [Act.put]
              refine wpAnyH_ready (rs := [7]) (by kernel_rfl) (by simp) ?_
              refine AllReadyH.cons (o := { dst := none, op := _, type := _, pos := _, after := _, guard := _ }) rfl (fun K hK => ?_) ?_
              · refine step_storeM rfl _ _ rfl m rfl rfl hM ?_
                clear hM
                intro U hM hk hb
                replace hG := (hk _ hne).trans hG
                replace HR := HR.onB gm (hb _ (Nat.le_refl _))
                clear hk hb
                refine hK.out _ _ HR (fun hHeld => ?_)
                clear hK K
                try simp only [Act.put]
                refine wpAnyH_done (by kernel_rfl) ?_ _
                exact ⟨rfl, g, m, rfl, hG, hM, hne, gg, gm, HR⟩
              exact AllReadyH.nil
            exact AllReadyH.nil
          exact AllReadyH.nil
        refine AllReadyH.cons (o := { dst := some 4, op := _, type := _, pos := _, after := _, guard := _ }) rfl (fun K hK => ?_) ?_
        · refine step_allocM (d := 4) rfl rfl rfl ?_
          intro m U hM hb hg
          have gm : w.heap.size < m := Nat.lt_of_lt_of_le HR.sz hg
          have hne : g ≠ m := (ne_old hG hg).symm
          replace hG := keepB hG hb
          replace HR := HR.on hb
          clear hb hg
          refine hK.out _ _ HR (fun hHeld => ?_)
          clear hK K
          try simp only [Act.put, List.setIfInBounds_toArray, List.set_cons_zero, List.set_cons_succ]
          refine wpAnyH_ready (rs := [3]) (by kernel_rfl) (by simp) ?_
          refine AllReadyH.cons (o := { dst := some 8, op := _, type := _, pos := _, after := _, guard := _ }) rfl (fun K hK => ?_) ?_
          · refine step_msg rfl _ _ _ rfl o a c 6 2 rfl rfl rfl ?_
            intro U hb
            replace hG := keepB hG hb
            replace hM := keepB hM hb
            replace HR := HR.on hb
            clear hb
            refine hK.out _ _ HR (fun hHeld => ?_)
            clear hK K
            try simp only [Act.put, List.setIfInBounds_toArray, List.set_cons_zero, List.set_cons_succ]
            refine wpAnyH_ready (rs := [6]) (by kernel_rfl) (by simp) ?_
            refine AllReadyH.cons (o := { dst := none, op := _, type := _, pos := _, after := _, guard := _ }) rfl (fun K hK => ?_) ?_
            · refine step_storeM rfl _ _ rfl g rfl rfl hG ?_
              clear hG
              intro U hG hk hb
              replace hM := (hk _ hne.symm).trans hM
              replace HR := HR.onB gg (hb _ (Nat.le_refl _))
              clear hk hb
              refine hK.out _ _ HR (fun hHeld => ?_)
              clear hK K
              try simp only [Act.put]
              refine wpAnyH_ready (rs := [7]) (by kernel_rfl) (by simp) ?_
              refine AllReadyH.cons (o := { dst := none, op := _, type := _, pos := _, after := _, guard := _ }) rfl (fun K hK => ?_) ?_
              · refine step_storeM rfl _ _ rfl m rfl rfl hM ?_
                clear hM
                intro U hM hk hb
                replace hG := (hk _ hne).trans hG
                replace HR := HR.onB gm (hb _ (Nat.le_refl _))
                clear hk hb
                refine hK.out _ _ HR (fun hHeld => ?_)
                clear hK K
                try simp only [Act.put]
                refine wpAnyH_done (by kernel_rfl) ?_ _
                exact ⟨rfl, g, m, rfl, hG, hM, hne, gg, gm, HR⟩
              exact AllReadyH.nil
            exact AllReadyH.nil
          exact AllReadyH.nil
        exact AllReadyH.nil
      refine AllReadyH.cons (o := { dst := some 4, op := _, type := _, pos := _, after := _, guard := _ }) rfl (fun K hK => ?_) ?_
      · refine step_allocM (d := 4) rfl rfl rfl ?_
        intro m U hM hb hg
        have gm : w.heap.size < m := Nat.lt_of_lt_of_le HR.sz hg
        have hne : g ≠ m := (ne_old hG hg).symm
        replace hG := keepB hG hb
        replace HR := HR.on hb
        clear hb hg
        refine hK.out _ _ HR (fun hHeld => ?_)
        clear hK K
        try simp only [Act.put, List.setIfInBounds_toArray, List.set_cons_zero, List.set_cons_succ]
        refine wpAnyH_ready (rs := [1]) (by kernel_rfl) (by simp) ?_
        refine AllReadyH.cons (o := { dst := some 6, op := _, type := _, pos := _, after := _, guard := _ }) rfl (fun K hK => ?_) ?_
        · refine step_msg rfl _ _ _ rfl o a c 6 1 rfl rfl rfl ?_
          intro U hb
          replace hG := keepB hG hb
          replace hM := keepB hM hb
          replace HR := HR.on hb
          clear hb
          refine hK.out _ _ HR (fun hHeld => ?_)
          clear hK K
          try simp only [Act.put, List.setIfInBounds_toArray, List.set_cons_zero, List.set_cons_succ]
          refine wpAnyH_ready (rs := [3]) (by kernel_rfl) (by simp) ?_
          refine AllReadyH.cons (o := { dst := some 8, op := _, type := _, pos := _, after := _, guard := _ }) rfl (fun K hK => ?_) ?_
          · refine step_msg rfl _ _ _ rfl o a c 6 2 rfl rfl rfl ?_
            intro U hb
            replace hG := keepB hG hb
            replace hM := keepB hM hb
            replace HR := HR.on hb
            clear hb
            refine hK.out _ _ HR (fun hHeld => ?_)
            clear hK K
            try simp only [Act.put, List.setIfInBounds_toArray, List.set_cons_zero, List.set_cons_succ]
            refine wpAnyH_ready (rs := [6]) (by kernel_rfl) (by simp) ?_
            refine AllReadyH.cons (o := { dst := none, op := _, type := _, pos := _, after := _, guard := _ }) rfl (fun K hK => ?_) ?_
            · refine step_storeM rfl _ _ rfl g rfl rfl hG ?_
              clear hG
              intro U hG hk hb
              replace hM := (hk _ hne.symm).trans hM
              replace HR := HR.onB gg (hb _ (Nat.le_refl _))
              clear hk hb
              refine hK.out _ _ HR (fun hHeld => ?_)
              clear hK K
              try simp only [Act.put]
              refine wpAnyH_ready (rs := [7]) (by kernel_rfl) (by simp) ?_
              refine AllReadyH.cons (o := { dst := none, op := _, type := _, pos := _, after := _, guard := _ }) rfl (fun K hK => ?_) ?_
              · refine step_storeM rfl _ _ rfl m rfl rfl hM ?_
                clear hM
                intro U hM hk hb
                replace hG := (hk _ hne).trans hG
                replace HR := HR.onB gm (hb _ (Nat.le_refl _))
                clear hk hb
                refine hK.out _ _ HR (fun hHeld => ?_)
                clear hK K
                try simp only [Act.put]
                refine wpAnyH_done (by kernel_rfl) ?_ _
                exact ⟨rfl, g, m, rfl, hG, hM, hne, gg, gm, HR⟩
              exact AllReadyH.nil
            exact AllReadyH.nil
          exact AllReadyH.nil
        exact AllReadyH.nil
      exact AllReadyH.nil
    refine AllReadyH.cons (o := { dst := some 4, op := _, type := _, pos := _, after := _, guard := _ }) rfl (fun K hK => ?_) ?_
    · refine step_allocM (d := 4) rfl rfl rfl ?_
      intro m U hM hb hg
      have gm : w.heap.size < m := Nat.lt_of_lt_of_le HR.sz hg
      replace HR := HR.on hb
      clear hb hg
      refine hK.out _ _ HR (fun hHeld => ?_)
      clear hK K
      try simp only [Act.put, List.setIfInBounds_toArray, List.set_cons_zero, List.set_cons_succ]
      refine wpAnyH_ready (rs := [1, 4]) (by kernel_rfl) (by simp) ?_
      refine AllReadyH.cons (o := { dst := some 6, op := _, type := _, pos := _, after := _, guard := _ }) rfl (fun K hK => ?_) ?_
      · refine step_msg rfl _ _ _ rfl o a c 6 1 rfl rfl rfl ?_
        intro U hb
        replace hM := keepB hM hb
        replace HR := HR.on hb
        clear hb
        refine hK.out _ _ HR (fun hHeld => ?_)
        clear hK K
        try simp only [Act.put, List.setIfInBounds_toArray, List.set_cons_zero, List.set_cons_succ]
        refine wpAnyH_ready (rs := [3, 4]) (by kernel_rfl) (by simp) ?_
        refine AllReadyH.cons (o := { dst := some 8, op := _, type := _, pos := _, after := _, guard := _ }) rfl (fun K hK => ?_) ?_
        · refine step_msg rfl _ _ _ rfl o a c 6 2 rfl rfl rfl ?_
          intro U hb
          replace hM := keepB hM hb
          replace HR := HR.on hb
          clear hb
          refine hK.out _ _ HR (fun hHeld => ?_)
          clear hK K
          try simp only [Act.put, List.setIfInBounds_toArray, List.set_cons_zero, List.set_cons_succ]
          refine wpAnyH_ready (rs := [4]) (by kernel_rfl) (by simp) ?_
          refine AllReadyH.cons (o := { dst := some 3, op := _, type := _, pos := _, after := _, guard := _ }) rfl (fun K hK => ?_) ?_
          · refine step_allocM (d := 3) rfl rfl rfl ?_
            intro g U hG hb hg
            have gg : w.heap.size < g := Nat.lt_of_lt_of_le HR.sz hg
            have hne : g ≠ m := ne_old hM hg
            replace hM := keepB hM hb
            replace HR := HR.on hb
            clear hb hg
            refine hK.out _ _ HR (fun hHeld => ?_)
            clear hK K
            try simp only [Act.put, List.setIfInBounds_toArray, List.set_cons_zero, List.set_cons_succ]
            refine wpAnyH_ready (rs := [6]) (by kernel_rfl) (by simp) ?_
            refine AllReadyH.cons (o := { dst := none, op := _, type := _, pos := _, after := _, guard := _ }) rfl (fun K hK => ?_) ?_
            · refine step_storeM rfl _ _ rfl g rfl rfl hG ?_
              clear hG
              intro U hG hk hb
              replace hM := (hk _ hne.symm).trans hM
              replace HR := HR.onB gg (hb _ (Nat.le_refl _))
              clear hk hb
              refine hK.out _ _ HR (fun hHeld => ?_)
              clear hK K
              try simp only [Act.put]
              refine wpAnyH_ready (rs := [7]) (by kernel_rfl) (by simp) ?_
              refine AllReadyH.cons (o := { dst := none, op := _, type := _, pos := _, after := _, guard := _ }) rfl (fun K hK => ?_) ?_
              · refine step_storeM rfl _ _ rfl m rfl rfl hM ?_
                clear hM
                intro U hM hk hb
                replace hG := (hk _ hne).trans hG
                replace HR := HR.onB gm (hb _ (Nat.le_refl _))
                clear hk hb
                refine hK.out _ _ HR (fun hHeld => ?_)
                clear hK K
                try simp only [Act.put]
                refine wpAnyH_done (by kernel_rfl) ?_ _
                exact ⟨rfl, g, m, rfl, hG, hM, hne, gg, gm, HR⟩
              exact AllReadyH.nil
            exact AllReadyH.nil
          exact AllReadyH.nil
        refine AllReadyH.cons (o := { dst := some 3, op := _, type := _, pos := _, after := _, guard := _ }) rfl (fun K hK => ?_) ?_
        · refine step_allocM (d := 3) rfl rfl rfl ?_
          intro g U hG hb hg
          have gg : w.heap.size < g := Nat.lt_of_lt_of_le HR.sz hg
          have hne : g ≠ m := ne_old hM hg
          replace hM := keepB hM hb
          replace HR := HR.on hb
          clear hb hg
          refine hK.out _ _ HR (fun hHeld => ?_)
          clear hK K
          try simp only [Act.put, List.setIfInBounds_toArray, List.set_cons_zero, List.set_cons_succ]
          refine wpAnyH_ready (rs := [3]) (by kernel_rfl) (by simp) ?_
          refine AllReadyH.cons (o := { dst := some 8, op := _, type := _, pos := _, after := _, guard := _ }) rfl (fun K hK => ?_) ?_
          · refine step_msg rfl _ _ _ rfl o a c 6 2 rfl rfl rfl ?_
            intro U hb
            replace hG := keepB hG hb
            replace hM := keepB hM hb
            replace HR := HR.on hb
            clear hb
            refine hK.out _ _ HR (fun hHeld => ?_)
            clear hK K
            try simp only [Act.put, List.setIfInBounds_toArray, List.set_cons_zero, List.set_cons_succ]
            refine wpAnyH_ready (rs := [6]) (by kernel_rfl) (by simp) ?_
            refine AllReadyH.cons (o := { dst := none, op := _, type := _, pos := _, after := _, guard := _ }) rfl (fun K hK => ?_) ?_
            · refine step_storeM rfl _ _ rfl g rfl rfl hG ?_
              clear hG
              intro U hG hk hb
              replace hM := (hk _ hne.symm).trans hM
              replace HR := HR.onB gg (hb _ (Nat.le_refl _))
              clear hk hb
              refine hK.out _ _ HR (fun hHeld => ?_)
              clear hK K
              try simp only [Act.put]
              refine wpAnyH_ready (rs := [7]) (by kernel_rfl) (by simp) ?_
              refine AllReadyH.cons (o := { dst := none, op := _, type := _, pos := _, after := _, guard := _ }) rfl (fun K hK => ?_) ?_
              · refine step_storeM rfl _ _ rfl m rfl rfl hM ?_
                clear hM
                intro U hM hk hb
                replace hG := (hk _ hne).trans hG
                replace HR := HR.onB gm (hb _ (Nat.le_refl _))
                clear hk hb
                refine hK.out _ _ HR (fun hHeld => ?_)
                clear hK K
                try simp only [Act.put]
                refine wpAnyH_done (by kernel_rfl) ?_ _
                exact ⟨rfl, g, m, rfl, hG, hM, hne, gg, gm, HR⟩
              exact AllReadyH.nil
            exact AllReadyH.nil
          exact AllReadyH.nil
        exact AllReadyH.nil
      refine AllReadyH.cons (o := { dst := some 3, op := _, type := _, pos := _, after := _, guard := _ }) rfl (fun K hK => ?_) ?_
      · refine step_allocM (d := 3) rfl rfl rfl ?_
        intro g U hG hb hg
        have gg : w.heap.size < g := Nat.lt_of_lt_of_le HR.sz hg
        have hne : g ≠ m := ne_old hM hg
        replace hM := keepB hM hb
        replace HR := HR.on hb
        clear hb hg
        refine hK.out _ _ HR (fun hHeld => ?_)
        clear hK K
        try simp only [Act.put, List.setIfInBounds_toArray, List.set_cons_zero, List.set_cons_succ]
        refine wpAnyH_ready (rs := [1]) (by kernel_rfl) (by simp) ?_
        refine AllReadyH.cons (o := { dst := some 6, op := _, type := _, pos := _, after := _, guard := _ }) rfl (fun K hK => ?_) ?_
        · refine step_msg rfl _ _ _ rfl o a c 6 1 rfl rfl rfl ?_
          intro U hb
          replace hG := keepB hG hb
          replace hM := keepB hM hb
          replace HR := HR.on hb
          clear hb
          refine hK.out _ _ HR (fun hHeld => ?_)
          clear hK K
          try simp only [Act.put, List.setIfInBounds_toArray, List.set_cons_zero, List.set_cons_succ]
          refine wpAnyH_ready (rs := [3]) (by kernel_rfl) (by simp) ?_
          refine AllReadyH.cons (o := { dst := some 8, op := _, type := _, pos := _, after := _, guard := _ }) rfl (fun K hK => ?_) ?_
          · refine step_msg rfl _ _ _ rfl o a c 6 2 rfl rfl rfl ?_
            intro U hb
            replace hG := keepB hG hb
            replace hM := keepB hM hb
            replace HR := HR.on hb
            clear hb
            refine hK.out _ _ HR (fun hHeld => ?_)
            clear hK K
            try simp only [Act.put, List.setIfInBounds_toArray, List.set_cons_zero, List.set_cons_succ]
            refine wpAnyH_ready (rs := [6]) (by kernel_rfl) (by simp) ?_
            refine AllReadyH.cons (o := { dst := none, op := _, type := _, pos := _, after := _, guard := _ }) rfl (fun K hK => ?_) ?_
            · refine step_storeM rfl _ _ rfl g rfl rfl hG ?_
              clear hG
              intro U hG hk hb
              replace hM := (hk _ hne.symm).trans hM
              replace HR := HR.onB gg (hb _ (Nat.le_refl _))
              clear hk hb
              refine hK.out _ _ HR (fun hHeld => ?_)
              clear hK K
              try simp only [Act.put]
              refine wpAnyH_ready (rs := [7]) (by kernel_rfl) (by simp) ?_
              refine AllReadyH.cons (o := { dst := none, op := _, type := _, pos := _, after := _, guard := _ }) rfl (fun K hK => ?_) ?_
              · refine step_storeM rfl _ _ rfl m rfl rfl hM ?_
                clear hM
                intro U hM hk hb
                replace hG := (hk _ hne).trans hG
                replace HR := HR.onB gm (hb _ (Nat.le_refl _))
                clear hk hb
                refine hK.out _ _ HR (fun hHeld => ?_)
                clear hK K
                try simp only [Act.put]
                refine wpAnyH_done (by kernel_rfl) ?_ _
                exact ⟨rfl, g, m, rfl, hG, hM, hne, gg, gm, HR⟩
              exact AllReadyH.nil
            exact AllReadyH.nil
          exact AllReadyH.nil
        exact AllReadyH.nil
      exact AllReadyH.nil
    exact AllReadyH.nil
  · rintro a' W ⟨g, m, rfl, hG, hM, hne, gg, gm, HR⟩
    obtain ⟨⟨m0, m1, m2, m3, m4, m5, m6⟩, n0, n1, n2, n3, n4, n5, n6⟩ := seven_cells hG
    obtain ⟨⟨j0, j1, j2, j3, j4, j5, j6⟩, k0, k1, k2, k3, k4, k5, k6⟩ := seven_cells hM
    obtain ⟨d0, d1, d2, d3, d4, d5⟩ := six_cells HR.ob
    have hne' := hne.symm
    have x1 : g ≠ w.heap.size := by omega
    have x2 : m ≠ w.heap.size := by omega
    have x3 := x1.symm
    have x4 := x2.symm
    have HG := hide gg
    have HM := hide gm
    clear gg gm
    go_wp2_with fail
    go_region
    go_wp2_with fail
    go_region
    have hB := (((HR.bel.setCell (p := ⟨g, 5, none⟩) (Nat.le_of_lt HG.out) (.int .i64 o.item)).setCell (p := ⟨g, 6, none⟩) (Nat.le_of_lt HG.out) (.int .i64 o.qty)).setCell (p := ⟨m, 5, none⟩) (Nat.le_of_lt HM.out) (.int .i64 o.client)).setCell (p := ⟨m, 6, none⟩) (Nat.le_of_lt HM.out) (.int .i64 o.price)
    have HBX := hide hB
    clear hB
    go_wp2
    go_ret
    exact prep_end HBX.out (by simp)
end Go.Proofs.Ytinbmnefdhkdfaa
