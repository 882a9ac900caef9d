/-
  Contracts: package saga's forward.
-/
import Derived.Test.YtinbmnefdhkdfaaSgbB
namespace Go.Proofs.Ytinbmnefdhkdfaa
open Go.ChangeShapes Go.WideShapes Go.ChangeAt Go.RowKit Go.Shelf

attribute [local go_sem] Oper.semAt_some
theorem up_mem (k : Int) {x : Int × Int} : ∀ (m j : Nat), x ∈ upL k j m → ∃ i : Nat, j ≤ i ∧ i < j + m ∧ x = (k, (i : Int))
  | 0, _, h => by simp [upL] at h
  | m + 1, j, h => by
    rw [upL, List.mem_cons] at h
    rcases h with rfl | h
    · exact ⟨j, Nat.le_refl _, by omega, rfl⟩
    · obtain ⟨i, h1, h2, rfl⟩ := up_mem k m (j + 1) h
      exact ⟨i, by omega, by omega, rfl⟩
theorem plan_mem {o : Od} (hm : mayO o = true) {pre : List (Int × Int)} {x : Int × Int} (h : pre ++ [x] <+: planL o) : (∃ j : Nat, j < o.steps.length ∧ x = (1, (j : Int))) ∨ x = (6, 0) ∨ x = (9, 0) ∨ x = (15, 0) := by
  have hx : x ∈ planL o := h.subset (by simp)
  rw [planL_may hm, List.mem_append] at hx
  rcases hx with hx | hx
  · obtain ⟨i, _, h2, rfl⟩ := up_mem 1 _ _ hx
    exact .inl ⟨i, by omega, rfl⟩
  · simp at hx
    exact .inr hx
theorem may_three' {o : Od} (h : mayO o = true) : o.steps.length ≤ 3 := by
  unfold mayO stepsB at h
  simp at h
  exact h.2.1
theorem plan_few {o : Od} (hm : mayO o = true) {pre : List (Int × Int)} {x : Int × Int} (h : pre ++ [x] <+: planL o) : pre.length ≤ 5 := by
  have h1 := h.length_le
  rw [planL_may hm] at h1
  have := may_three' hm
  simp [upL_len] at h1
  omega

set_option maxRecDepth 100000 in
set_option maxHeartbeats 8000000 in
theorem forward_any (o : Od) (a : Option Addr) (c : Nat) (f : Fa) (da : Option Addr) (dc : Nat) (ua : Option Addr) (uc : Nat) (w : World) (ha : Sts w a o.steps) (hl : o.steps.length ≤ 9223372036854775807) (hi : FaIn w f da dc ua uc) (hm : mayO o = true) (h1 : f.dn.length = o.steps.length) (h2 : f.un.length = o.steps.length) :
    Calls Try.prog 32 #[.agg #[.int .i64 o.id, .int .i64 o.item, .int .i64 o.qty, .int .i64 o.client, .int .i64 o.price, .slice a o.steps.length c], .agg #[.slice da f.dn.length dc, .slice ua f.un.length uc, .bool f.asked, .bool f.yes, .bool f.turned, .bool f.k0, .bool f.k1, .bool f.ship, .bool f.d0, .bool f.d1, .bool f.acc]] w (OwnM w (runS (fwdS o f) (planL o) [])) := by
  refine (callsIn_wide (n := 5)).1 ?_
  obtain ⟨U, hU⟩ : ∃ U, U = ((w.alloc (.cells #[.int .i64 o.id, .int .i64 o.item, .int .i64 o.qty, .int .i64 o.client, .int .i64 o.price, .slice a o.steps.length c] 24)).alloc (.cells #[.slice da f.dn.length dc, .slice ua f.un.length uc, .bool f.asked, .bool f.yes, .bool f.turned, .bool f.k0, .bool f.k1, .bool f.ship, .bool f.d0, .bool f.d1, .bool f.acc] 28)).alloc (.cells #[.slice none 0 0] 37) := ⟨_, rfl⟩
  have hbU : Below w.heap.size w U := by rw [hU]; exact (((Below.refl _ _).alloc (Nat.le_refl _) _).alloc (by simp) _).alloc (by simp; omega) _
  have hsz : U.heap.size = w.heap.size + 1 + 1 + 1 := by rw [hU]; simp
  have hal := allocs_at [.cells #[.int .i64 o.id, .int .i64 o.item, .int .i64 o.qty, .int .i64 o.client, .int .i64 o.price, .slice a o.steps.length c] 24 (0, 0), .cells #[.slice da f.dn.length dc, .slice ua f.un.length uc, .bool f.asked, .bool f.yes, .bool f.turned, .bool f.k0, .bool f.k1, .bool f.ship, .bool f.d0, .bool f.d1, .bool f.acc] 28 (0, 0), .cells #[.slice none 0 0] 37 (0, 0)] w
  have hb0 : U.heap[w.heap.size]? = some (.cells #[.int .i64 o.id, .int .i64 o.item, .int .i64 o.qty, .int .i64 o.client, .int .i64 o.price, .slice a o.steps.length c] 24 (0, 0)) := by rw [hU]; exact hal 0 _ rfl
  have hb1 : U.heap[w.heap.size + 1]? = some (.cells #[.slice da f.dn.length dc, .slice ua f.un.length uc, .bool f.asked, .bool f.yes, .bool f.turned, .bool f.k0, .bool f.k1, .bool f.ship, .bool f.d0, .bool f.d1, .bool f.acc] 28 (0, 0)) := by rw [hU]; exact hal 1 _ rfl
  have hb2 : U.heap[w.heap.size + 1 + 1]? = some (.cells #[.slice none 0 0] 37 (0, 0)) := by rw [hU]; exact hal 2 _ rfl
  have HAU := (callsIn_wide (n := 4)).2 (plan_any o a c U (ha.below hbU) hl)
  have HUW := hide hU
  have HL := hide hl
  have HA := hide ha
  have HI := hide hi
  have HMY := hide hm
  have HDN := hide h1
  have HUN := hide h2
  rw [hU] at HAU
  clear hU ha hl hal hi hm h1 h2
  refine callsIn_of_wp_marks Try.func32 rfl trivial ?_ rfl
  simp only [Try.ntmps32, List.size_toArray, List.length_cons, List.length_nil, Nat.reduceAdd, Nat.reduceSub, Array.replicate_succ, Array.replicate_zero, List.push_toArray, List.append_toArray, List.nil_append, List.cons_append]
  gi_wp2_with fail
  refine wpIn_wide.2 (wp_scope_straight ((wpIn_wide (n := 5)).1 ?_))
  gi_wp2_with fail
  refine wpIn_label ?_
  gi_wp2_with fail
  refine ⟨trivial, HAU.mono ?_⟩
  rintro e w1 ⟨Bp, rfl, hb, hsq⟩
  rw [← HUW.out] at hb hsq
  clear HAU
  have hB1 : Below w.heap.size w w1 := bel_on' hbU hb
  have hN1 : w.heap.size + 1 + 1 < w1.heap.size := by have := hb.size; omega
  have h0 : TI w w1.heap.size o a c f da dc ua uc (fwdS o f) (planL o) [] w1 := ⟨⟨keepB hb0 hb, keepB hb1 hb, hB1, Nat.le_refl _, hN1⟩, _, [], ⟨keepB hb2 hb, World.ownsRow_nil _ _ _ _⟩, rfl, Nat.le_refl _⟩
  have ES := hsq (fun k => k = w.heap.size + 1 + 1) (fun k h => by omega)
  clear hb0 hb1 hb2 hb hbU hsq
  gi_wp2_with fail
  refine range_acts (t := 43) (X := fun k => k = w.heap.size + 1 + 1) (enc := encA) (L := planL o) (I := TI w w1.heap.size o a c f da dc ua uc (fwdS o f) (planL o)) (Ix := fun c' _ W => c' = .exit 0 ∧ TX w w1.heap.size o a c f da dc ua uc (fwdS o f) (planL o) W)
    (Ax := fun x a' W => ∃ Bx, W.heap[Bx]? = some (.cells #[.int .i64 x.1, .int .i64 x.2] 60 (0, 0)) ∧ a' = { tmps := #[.agg #[.int .i64 o.id, .int .i64 o.item, .int .i64 o.qty, .int .i64 o.client, .int .i64 o.price, .slice a o.steps.length c], .agg #[.slice da f.dn.length dc, .slice ua f.un.length uc, .bool f.asked, .bool f.yes, .bool f.turned, .bool f.k0, .bool f.k1, .bool f.ship, .bool f.d0, .bool f.d1, .bool f.acc], .pointer (some ⟨w.heap.size, 0, none⟩), .pointer (some ⟨w.heap.size + 1, 0, none⟩), .slice none 0 0, .pointer (some ⟨w.heap.size + 1 + 1, 0, none⟩), .pointer (some ⟨Bx, 0, none⟩), .agg #[.int .i64 o.id, .int .i64 o.item, .int .i64 o.qty, .int .i64 o.client, .int .i64 o.price, .slice a o.steps.length c], .func (.func 57) #[] #[.pointer (some ⟨Bp, 0, none⟩)], encA x, undef, undef, undef, undef, undef, undef, undef, undef, undef, undef, undef, undef, undef, undef, undef, undef, undef, undef, undef, undef, undef, undef, undef, undef, undef, undef, undef, undef, undef, undef, undef, undef, undef, undef, undef, undef, undef, undef, undef, undef, undef, undef, undef], defers := [] })
    (gf := 57) (lb := #[.pointer (some ⟨Bp, 0, none⟩)]) rfl (enters_of Try.func57 (by kernel_rfl) rfl) ES (fun k h => by omega) rfl
    (TI.own hB1.size) (fun c' W0 W W' row hs hg hr => ?ix) (fun x a' => ?ax) h0 ?assign ?body ?done ?stop
  case ix => exact ⟨hs.1, TX.own (β := Unit) hB1.size () W W' row hs.2 hg hr⟩
  case ax =>
    intro _ W W' row hs hg hr
    obtain ⟨Bx, h1, h2⟩ := hs
    exact ⟨Bx, (cells_stay hg hr h1).trans h1, h2⟩
  case assign =>
    intro l pre x W K hI hK
    have hbA : Below W.heap.size W (W.alloc (.cells #[.int .i64 x.1, .int .i64 x.2] 60)) := (Below.refl _ _).alloc (Nat.le_refl _) _
    have HK := hK { tmps := #[.agg #[.int .i64 o.id, .int .i64 o.item, .int .i64 o.qty, .int .i64 o.client, .int .i64 o.price, .slice a o.steps.length c], .agg #[.slice da f.dn.length dc, .slice ua f.un.length uc, .bool f.asked, .bool f.yes, .bool f.turned, .bool f.k0, .bool f.k1, .bool f.ship, .bool f.d0, .bool f.d1, .bool f.acc], .pointer (some ⟨w.heap.size, 0, none⟩), .pointer (some ⟨w.heap.size + 1, 0, none⟩), .slice none 0 0, .pointer (some ⟨w.heap.size + 1 + 1, 0, none⟩), .pointer (some ⟨W.heap.size, 0, none⟩), .agg #[.int .i64 o.id, .int .i64 o.item, .int .i64 o.qty, .int .i64 o.client, .int .i64 o.price, .slice a o.steps.length c], .func (.func 57) #[] #[.pointer (some ⟨Bp, 0, none⟩)], encA x, undef, undef, undef, undef, undef, undef, undef, undef, undef, undef, undef, undef, undef, undef, undef, undef, undef, undef, undef, undef, undef, undef, undef, undef, undef, undef, undef, undef, undef, undef, undef, undef, undef, undef, undef, undef, undef, undef, undef, undef, undef, undef, undef], defers := [] } _ (Kept.of_below hbA) (own_grows (TI.own (X := w1.heap.size) hB1.size) hI hbA) ⟨W.heap.size, World.alloc_heap_new W _, rfl⟩
    clear hK
    unfold encA at HK ⊢
    gi_wp2
    exact HK
  case done =>
    rintro D W hD hT hK
    obtain ⟨av, cv, hc, hO⟩ := hT.end.back hD hK
    have HO := hide hO
    clear hO hT
    gi_wp2
    refine ⟨by simp, .inl ⟨_, _, rfl, run_takeDeferred hK, ?_⟩⟩
    refine ⟨_, results_tmp rfl _ _ _, ?_⟩
    exact HO.out
  case stop =>
    rintro D c' pre W hD - - ⟨rfl, hT⟩ hK
    obtain ⟨av, cv, hc, hO⟩ := hT.back hD hK
    have HO := hide hO
    clear hO hT
    gi_wp2
    refine ⟨by simp, .inl ⟨_, _, rfl, run_takeDeferred hK, ?_⟩⟩
    refine ⟨_, results_tmp rfl _ _ _, ?_⟩
    exact HO.out
  case body =>
    rintro l pre x a' W hI ⟨Bx, hbx, rfl⟩ hpq
    have hfew := plan_few HMY.out hpq
    obtain ⟨hTF, v, acc, HND, h3, h4⟩ := id hI
    have hacc : acc.length ≤ 10 := by omega
    clear hfew
    unfold encA
    rcases plan_mem HMY.out hpq with ⟨j, hj, rfl⟩ | rfl | rfl | rfl
    · have q0 : W.cell? ⟨Bx, 0, none⟩ = some (.int .i64 1) := by rw [cell_of hbx]; rfl
      have q1 : W.cell? ⟨Bx, 1, none⟩ = some (.int .i64 (j : Int)) := by rw [cell_of hbx]; rfl
      obtain ⟨e0, e1, e2, e3, e4, e5, e6, e7, e8, e9, e10⟩ := ten_cells hTF.fb
      obtain ⟨d0, d1, d2, d3, d4, d5⟩ := six_cells hTF.ob
      have hdl : j < f.dn.length := by rw [HDN.out]; exact hj
      obtain ⟨db, doff, y, rfl, hy, hc⟩ := (HI.out.below hTF.bel).dn.get hdl
      have qj : (j : Int) < (f.dn.length : Int) := by omega
      have HG : Hid (fwdS o f (1, (j : Int)) = if y then ([], false) else ([doM o j], true)) := by
        show _ = _
        unfold fwdS
        simp [List.getD, hy]
      cases y
      · have HTF := hide hTF
        have HRR : Rr w w1.heap.size o a c f (some ⟨db, doff, none⟩) dc ua uc W Bx (1, (j : Int)) W := ⟨hTF, hbx, Kept.refl _ _ _⟩
        have HH := hide (And.intro h3 (And.intro h4 hpq))
        have HIJ := hide hj
        clear hI hbx hTF hpq hj hdl hy h3 h4
        gi_wp2_with fail
        obtain ⟨h3, h4, hpq⟩ := HH.out
        have hj := HIJ.out
        clear q0 q1 d0 d1 d2 d3 d4 d5 e0 e1 e2 e3 e4 e5 e6 e7 e8 e9 e10 hc
        refine region_round (S := fun u => Rr w w1.heap.size o a c f (some ⟨db, doff, none⟩) dc ua uc W Bx (1, (j : Int)) u) (fun _ W' => Rr w w1.heap.size o a c f (some ⟨db, doff, none⟩) dc ua uc W Bx (1, (j : Int)) W' ∧ ∃ v', Nd w w1.heap.size v' (acc ++ [doM o j]) W') (by kernel_rfl) (by kernel_rfl) HRR.drew (fun hHeld => ?_) ?_
        · have hn := Nd.on HND (u' := W.drew) (Below.refl _ _).drew
          replace HRR := HRR.drew
          refine wpAnyH_take (i := 1) (oi := { dst := some 21, op := _, type := _, pos := _, after := _, guard := _ }) (v := .agg #[.int .i64 o.id, .int .i64 o.item, .int .i64 o.qty, .int .i64 o.client, .int .i64 o.price, .slice a o.steps.length c]) rfl (by kernel_rfl) (by kernel_rfl) (by kernel_rfl) (fun _ _ _ h => absurd h.1 (by simp)) (Or.inl ⟨by kernel_rfl, ?_⟩) hHeld ?_
          · intro u hu
            obtain ⟨d0, d1, d2, d3, d4, d5⟩ := six_cells hu.tf.ob
            go_simp
          try simp only [Act.put, List.setIfInBounds_toArray, List.set_cons_zero, List.set_cons_succ]
          refine wpAnyH_take (i := 2) (oi := { dst := some 22, op := _, type := _, pos := _, after := _, guard := _ }) (v := .pointer (some ⟨Bx, 1, none⟩)) rfl (by kernel_rfl) (by kernel_rfl) (by kernel_rfl) (fun _ _ _ h => absurd h.1 (by simp)) (Or.inl ⟨by kernel_rfl, ?_⟩) hHeld ?_
          · intro u hu
            go_simp
          try simp only [Act.put, List.setIfInBounds_toArray, List.set_cons_zero, List.set_cons_succ]
          refine wpAnyH_take (i := 3) (oi := { dst := some 23, op := _, type := _, pos := _, after := _, guard := _ }) (v := .int .i64 (j : Int)) rfl (by kernel_rfl) (by kernel_rfl) (by kernel_rfl) (fun _ _ _ h => absurd h.1 (by simp)) (Or.inl ⟨by kernel_rfl, ?_⟩) hHeld ?_
          · intro u hu
            have q0 : u.cell? ⟨Bx, 0, none⟩ = some (.int .i64 1) := by rw [cell_of hu.ab]; rfl
            have q1 : u.cell? ⟨Bx, 1, none⟩ = some (.int .i64 (j : Int)) := by rw [cell_of hu.ab]; rfl
            go_simp
          try simp only [Act.put, List.setIfInBounds_toArray, List.set_cons_zero, List.set_cons_succ]
          refine wpAnyH_ready (rs := [0, 4]) (by kernel_rfl) (by simp) ?_
          refine AllReadyH.cons (o := { dst := some 20, op := _, type := _, pos := _, after := _, guard := _ }) rfl (fun K hK => ?_) ?_
          · refine step_load rfl (v := v) (by have hc := hn.1.cell; go_simp) ?_
            refine hK.out _ _ HRR (fun hHeld => ?_)
            clear hK K
            try simp only [Act.put, List.setIfInBounds_toArray, List.set_cons_zero, List.set_cons_succ]
            refine wpAnyH_ready (rs := [4]) (by kernel_rfl) (by simp) ?_
            refine AllReadyH.cons (o := { dst := some 24, op := _, type := _, pos := _, after := _, guard := _ }) rfl (fun K hK => ?_) ?_
            · refine step_go rfl (run_go2 _ _ rfl rfl rfl (enters_of Try.func45 (by kernel_rfl) rfl)) (do_any o a c j _ (HA.out.below HRR.tf.bel) hj) ?_
              rintro e u2 ⟨rfl, hb⟩
              refine ⟨_, rfl, ?_⟩
              replace HRR := HRR.on hb
              replace hn := hn.on hb
              clear hb
              refine hK.out _ _ HRR (fun hHeld => ?_)
              clear hK K
              try simp only [Act.put, List.setIfInBounds_toArray, List.set_cons_zero, List.set_cons_succ]
              refine wpAnyH_ready (rs := [5]) (by kernel_rfl) (by simp) ?_
              refine AllReadyH.cons (o := { dst := some 25, op := _, type := _, pos := _, after := _, guard := _ }) rfl (fun K hK => ?_) ?_
              · refine step_build rfl _ rfl (doM o j) rfl ?_
                intro p2 u3 hms hb
                replace HRR := HRR.on hb
                replace hn := hn.on hb
                clear hb
                refine hK.out _ _ HRR (fun hHeld => ?_)
                clear hK K
                try simp only [Act.put, List.setIfInBounds_toArray, List.set_cons_zero, List.set_cons_succ]
                refine wpAnyH_ready (rs := [6]) (by kernel_rfl) (by simp) ?_
                refine AllReadyH.cons (o := { dst := some 26, op := _, type := _, pos := _, after := _, guard := _ }) rfl (fun K hK => ?_) ?_
                · refine step_app rfl _ _ rfl w1.heap.size v acc rfl hn.2 (some ⟨p2, 0, none⟩) ([doM o j]) 1 rfl (fun h => by cases h) hms (by have := hacc; simp only [List.length_cons, List.length_nil]; omega) HRR.tf.sz ?_
                  intro a4 c4 w4 hown hg
                  obtain ⟨HR4, hb4⟩ := HRR.grown hn hg
                  replace HRR := HR4
                  clear HR4 hn hms hg
                  refine hK.out _ _ HRR (fun hHeld => ?_)
                  clear hK K
                  try simp only [Act.put, List.setIfInBounds_toArray, List.set_cons_zero, List.set_cons_succ]
                  refine wpAnyH_ready (rs := [7]) (by kernel_rfl) (by simp) ?_
                  refine AllReadyH.cons (o := { dst := none, op := _, type := _, pos := _, after := _, guard := _ }) rfl (fun K hK => ?_) ?_
                  · refine step_put rfl _ _ rfl (w.heap.size + 1 + 1) rfl a4 _ c4 rfl hb4 ?_
                    obtain ⟨HR5, hn5⟩ := HRR.put hb4 hown
                    replace HRR := HR5
                    clear HR5 hb4 hown
                    refine hK.out _ _ HRR (fun hHeld => ?_)
                    clear hK K
                    try simp only [Act.put]
                    refine wpAnyH_done (by kernel_rfl) ?_ _
                    exact ⟨rfl, HRR, _, hn5⟩
                  exact AllReadyH.nil
                exact AllReadyH.nil
              exact AllReadyH.nil
            exact AllReadyH.nil
          refine AllReadyH.cons (o := { dst := some 24, op := _, type := _, pos := _, after := _, guard := _ }) rfl (fun K hK => ?_) ?_
          · refine step_go rfl (run_go2 _ _ rfl rfl rfl (enters_of Try.func45 (by kernel_rfl) rfl)) (do_any o a c j _ (HA.out.below HRR.tf.bel) hj) ?_
            rintro e u2 ⟨rfl, hb⟩
            refine ⟨_, rfl, ?_⟩
            replace HRR := HRR.on hb
            replace hn := hn.on hb
            clear hb
            refine hK.out _ _ HRR (fun hHeld => ?_)
            clear hK K
            try simp only [Act.put, List.setIfInBounds_toArray, List.set_cons_zero, List.set_cons_succ]
            refine wpAnyH_ready (rs := [0, 5]) (by kernel_rfl) (by simp) ?_
            refine AllReadyH.cons (o := { dst := some 20, op := _, type := _, pos := _, after := _, guard := _ }) rfl (fun K hK => ?_) ?_
            · refine step_load rfl (v := v) (by have hc := hn.1.cell; go_simp) ?_
              refine hK.out _ _ HRR (fun hHeld => ?_)
              clear hK K
              try simp only [Act.put, List.setIfInBounds_toArray, List.set_cons_zero, List.set_cons_succ]
              refine wpAnyH_ready (rs := [5]) (by kernel_rfl) (by simp) ?_
              refine AllReadyH.cons (o := { dst := some 25, op := _, type := _, pos := _, after := _, guard := _ }) rfl (fun K hK => ?_) ?_
              · refine step_build rfl _ rfl (doM o j) rfl ?_
                intro p2 u3 hms hb
                replace HRR := HRR.on hb
                replace hn := hn.on hb
                clear hb
                refine hK.out _ _ HRR (fun hHeld => ?_)
                clear hK K
                try simp only [Act.put, List.setIfInBounds_toArray, List.set_cons_zero, List.set_cons_succ]
                refine wpAnyH_ready (rs := [6]) (by kernel_rfl) (by simp) ?_
                refine AllReadyH.cons (o := { dst := some 26, op := _, type := _, pos := _, after := _, guard := _ }) rfl (fun K hK => ?_) ?_
                · refine step_app rfl _ _ rfl w1.heap.size v acc rfl hn.2 (some ⟨p2, 0, none⟩) ([doM o j]) 1 rfl (fun h => by cases h) hms (by have := hacc; simp only [List.length_cons, List.length_nil]; omega) HRR.tf.sz ?_
                  intro a4 c4 w4 hown hg
                  obtain ⟨HR4, hb4⟩ := HRR.grown hn hg
                  replace HRR := HR4
                  clear HR4 hn hms hg
                  refine hK.out _ _ HRR (fun hHeld => ?_)
                  clear hK K
                  try simp only [Act.put, List.setIfInBounds_toArray, List.set_cons_zero, List.set_cons_succ]
                  refine wpAnyH_ready (rs := [7]) (by kernel_rfl) (by simp) ?_
                  refine AllReadyH.cons (o := { dst := none, op := _, type := _, pos := _, after := _, guard := _ }) rfl (fun K hK => ?_) ?_
                  · refine step_put rfl _ _ rfl (w.heap.size + 1 + 1) rfl a4 _ c4 rfl hb4 ?_
                    obtain ⟨HR5, hn5⟩ := HRR.put hb4 hown
                    replace HRR := HR5
                    clear HR5 hb4 hown
                    refine hK.out _ _ HRR (fun hHeld => ?_)
                    clear hK K
                    try simp only [Act.put]
                    refine wpAnyH_done (by kernel_rfl) ?_ _
                    exact ⟨rfl, HRR, _, hn5⟩
                  exact AllReadyH.nil
                exact AllReadyH.nil
              exact AllReadyH.nil
            refine AllReadyH.cons (o := { dst := some 25, op := _, type := _, pos := _, after := _, guard := _ }) rfl (fun K hK => ?_) ?_
            · refine step_build rfl _ rfl (doM o j) rfl ?_
              intro p2 u3 hms hb
              replace HRR := HRR.on hb
              replace hn := hn.on hb
              clear hb
              refine hK.out _ _ HRR (fun hHeld => ?_)
              clear hK K
              try simp only [Act.put, List.setIfInBounds_toArray, List.set_cons_zero, List.set_cons_succ]
              refine wpAnyH_ready (rs := [0]) (by kernel_rfl) (by simp) ?_
              refine AllReadyH.cons (o := { dst := some 20, op := _, type := _, pos := _, after := _, guard := _ }) rfl (fun K hK => ?_) ?_
              · refine step_load rfl (v := v) (by have hc := hn.1.cell; go_simp) ?_
                refine hK.out _ _ HRR (fun hHeld => ?_)
                clear hK K
                try simp only [Act.put, List.setIfInBounds_toArray, List.set_cons_zero, List.set_cons_succ]
                refine wpAnyH_ready (rs := [6]) (by kernel_rfl) (by simp) ?_
                refine AllReadyH.cons (o := { dst := some 26, op := _, type := _, pos := _, after := _, guard := _ }) rfl (fun K hK => ?_) ?_
                · refine step_app rfl _ _ rfl w1.heap.size v acc rfl hn.2 (some ⟨p2, 0, none⟩) ([doM o j]) 1 rfl (fun h => by cases h) hms (by have := hacc; simp only [List.length_cons, List.length_nil]; omega) HRR.tf.sz ?_
                  intro a4 c4 w4 hown hg
                  obtain ⟨HR4, hb4⟩ := HRR.grown hn hg
                  replace HRR := HR4
                  clear HR4 hn hms hg
                  refine hK.out _ _ HRR (fun hHeld => ?_)
                  clear hK K
                  try simp only [Act.put, List.setIfInBounds_toArray, List.set_cons_zero, List.set_cons_succ]
                  refine wpAnyH_ready (rs := [7]) (by kernel_rfl) (by simp) ?_
                  refine AllReadyH.cons (o := { dst := none, op := _, type := _, pos := _, after := _, guard := _ }) rfl (fun K hK => ?_) ?_
                  · refine step_put rfl _ _ rfl (w.heap.size + 1 + 1) rfl a4 _ c4 rfl hb4 ?_
                    obtain ⟨HR5, hn5⟩ := HRR.put hb4 hown
                    replace HRR := HR5
                    clear HR5 hb4 hown
                    refine hK.out _ _ HRR (fun hHeld => ?_)
                    clear hK K
                    try simp only [Act.put]
                    refine wpAnyH_done (by kernel_rfl) ?_ _
                    exact ⟨rfl, HRR, _, hn5⟩
                  exact AllReadyH.nil
                exact AllReadyH.nil
              exact AllReadyH.nil
            exact AllReadyH.nil
          exact AllReadyH.nil
        · rintro a' W' ⟨HR5, v', hn5⟩
          gi_wp2
          exact ⟨HR5.kp, rfl, TX.more HR5.tf hn5 h3 hpq HG.out⟩
      · have HNX := hide (hI.next hpq HG.out)
        clear hI hbx hTF hpq HND h3 h4 hj hdl hy
        gi_wp2
        exact ⟨Kept.refl _ _ _, HNX.out⟩
    · have q0 : W.cell? ⟨Bx, 0, none⟩ = some (.int .i64 6) := by rw [cell_of hbx]; rfl
      have q1 : W.cell? ⟨Bx, 1, none⟩ = some (.int .i64 0) := by rw [cell_of hbx]; rfl
      obtain ⟨e0, e1, e2, e3, e4, e5, e6, e7, e8, e9, e10⟩ := ten_cells hTF.fb
      obtain ⟨d0, d1, d2, d3, d4, d5⟩ := six_cells hTF.ob
      cases hy : f.yes
      · have HG : Hid (fwdS o f (6, 0) = (prepL o, true)) := by show _ = _; unfold fwdS; simp [hy]
        rw [hy] at e3
        have HRR : Rr w w1.heap.size o a c f da dc ua uc W Bx (6, 0) W := ⟨hTF, hbx, Kept.refl _ _ _⟩
        have HH := hide (And.intro h3 (And.intro h4 hpq))
        clear hI hbx hTF hpq h3 h4 hy
        gi_wp2_with fail
        obtain ⟨h3, h4, hpq⟩ := HH.out
        clear q0 q1 d0 d1 d2 d3 d4 d5 e0 e1 e2 e3 e4 e5 e6 e7 e8 e9 e10
        refine region_round (S := fun u => Rr w w1.heap.size o a c f da dc ua uc W Bx (6, 0) u) (fun _ W' => Rr w w1.heap.size o a c f da dc ua uc W Bx (6, 0) W' ∧ ∃ v', Nd w w1.heap.size v' (acc ++ prepL o) W') (by kernel_rfl) (by kernel_rfl) HRR.drew (fun hHeld => ?_) ?_
        · have hn := Nd.on HND (u' := W.drew) (Below.refl _ _).drew
          replace HRR := HRR.drew
          refine wpAnyH_take (i := 1) (oi := { dst := some 32, op := _, type := _, pos := _, after := _, guard := _ }) (v := .agg #[.int .i64 o.id, .int .i64 o.item, .int .i64 o.qty, .int .i64 o.client, .int .i64 o.price, .slice a o.steps.length c]) rfl (by kernel_rfl) (by kernel_rfl) (by kernel_rfl) (fun _ _ _ h => absurd h.1 (by simp)) (Or.inl ⟨by kernel_rfl, ?_⟩) hHeld ?_
          · intro u hu
            obtain ⟨d0, d1, d2, d3, d4, d5⟩ := six_cells hu.tf.ob
            go_simp
          try simp only [Act.put, List.setIfInBounds_toArray, List.set_cons_zero, List.set_cons_succ]
          refine wpAnyH_ready (rs := [0, 2]) (by kernel_rfl) (by simp) ?_
          refine AllReadyH.cons (o := { dst := some 31, op := _, type := _, pos := _, after := _, guard := _ }) rfl (fun K hK => ?_) ?_
          · refine step_load rfl (v := v) (by have hc := hn.1.cell; go_simp) ?_
            refine hK.out _ _ HRR (fun hHeld => ?_)
            clear hK K
            try simp only [Act.put, List.setIfInBounds_toArray, List.set_cons_zero, List.set_cons_succ]
            refine wpAnyH_ready (rs := [2]) (by kernel_rfl) (by simp) ?_
            refine AllReadyH.cons (o := { dst := some 33, op := _, type := _, pos := _, after := _, guard := _ }) rfl (fun K hK => ?_) ?_
            · refine step_go rfl (run_go1 _ rfl rfl (enters_of Try.func46 (by kernel_rfl) rfl)) (prep_any o a c _) ?_
              rintro e u2 ⟨a2, c2, rfl, h21, h22, h23, hb⟩
              refine ⟨_, rfl, ?_⟩
              replace HRR := HRR.on hb
              replace hn := hn.on hb
              have hms := row_mgs h23
              clear hb
              refine hK.out _ _ HRR (fun hHeld => ?_)
              clear hK K
              try simp only [Act.put, List.setIfInBounds_toArray, List.set_cons_zero, List.set_cons_succ]
              refine wpAnyH_ready (rs := [3]) (by kernel_rfl) (by simp) ?_
              refine AllReadyH.cons (o := { dst := some 34, op := _, type := _, pos := _, after := _, guard := _ }) rfl (fun K hK => ?_) ?_
              · refine step_app rfl _ _ rfl w1.heap.size v acc rfl hn.2 a2 (prepL o) c2 rfl h22 hms (by have := hacc; show _ + 2 ≤ _; omega) HRR.tf.sz ?_
                intro a4 c4 w4 hown hg
                obtain ⟨HR4, hb4⟩ := HRR.grown hn hg
                replace HRR := HR4
                clear HR4 hn hms hg
                refine hK.out _ _ HRR (fun hHeld => ?_)
                clear hK K
                try simp only [Act.put, List.setIfInBounds_toArray, List.set_cons_zero, List.set_cons_succ]
                refine wpAnyH_ready (rs := [4]) (by kernel_rfl) (by simp) ?_
                refine AllReadyH.cons (o := { dst := none, op := _, type := _, pos := _, after := _, guard := _ }) rfl (fun K hK => ?_) ?_
                · refine step_put rfl _ _ rfl (w.heap.size + 1 + 1) rfl a4 _ c4 rfl hb4 ?_
                  obtain ⟨HR5, hn5⟩ := HRR.put hb4 hown
                  replace HRR := HR5
                  clear HR5 hb4 hown
                  refine hK.out _ _ HRR (fun hHeld => ?_)
                  clear hK K
                  try simp only [Act.put]
                  refine wpAnyH_done (by kernel_rfl) ?_ _
                  exact ⟨rfl, HRR, _, hn5⟩
                exact AllReadyH.nil
              exact AllReadyH.nil
            exact AllReadyH.nil
          refine AllReadyH.cons (o := { dst := some 33, op := _, type := _, pos := _, after := _, guard := _ }) rfl (fun K hK => ?_) ?_
          · refine step_go rfl (run_go1 _ rfl rfl (enters_of Try.func46 (by kernel_rfl) rfl)) (prep_any o a c _) ?_
            rintro e u2 ⟨a2, c2, rfl, h21, h22, h23, hb⟩
            refine ⟨_, rfl, ?_⟩
            replace HRR := HRR.on hb
            replace hn := hn.on hb
            have hms := row_mgs h23
            clear hb
            refine hK.out _ _ HRR (fun hHeld => ?_)
            clear hK K
            try simp only [Act.put, List.setIfInBounds_toArray, List.set_cons_zero, List.set_cons_succ]
            refine wpAnyH_ready (rs := [0]) (by kernel_rfl) (by simp) ?_
            refine AllReadyH.cons (o := { dst := some 31, op := _, type := _, pos := _, after := _, guard := _ }) rfl (fun K hK => ?_) ?_
            · refine step_load rfl (v := v) (by have hc := hn.1.cell; go_simp) ?_
              refine hK.out _ _ HRR (fun hHeld => ?_)
              clear hK K
              try simp only [Act.put, List.setIfInBounds_toArray, List.set_cons_zero, List.set_cons_succ]
              refine wpAnyH_ready (rs := [3]) (by kernel_rfl) (by simp) ?_
              refine AllReadyH.cons (o := { dst := some 34, op := _, type := _, pos := _, after := _, guard := _ }) rfl (fun K hK => ?_) ?_
              · refine step_app rfl _ _ rfl w1.heap.size v acc rfl hn.2 a2 (prepL o) c2 rfl h22 hms (by have := hacc; show _ + 2 ≤ _; omega) HRR.tf.sz ?_
                intro a4 c4 w4 hown hg
                obtain ⟨HR4, hb4⟩ := HRR.grown hn hg
                replace HRR := HR4
                clear HR4 hn hms hg
                refine hK.out _ _ HRR (fun hHeld => ?_)
                clear hK K
                try simp only [Act.put, List.setIfInBounds_toArray, List.set_cons_zero, List.set_cons_succ]
                refine wpAnyH_ready (rs := [4]) (by kernel_rfl) (by simp) ?_
                refine AllReadyH.cons (o := { dst := none, op := _, type := _, pos := _, after := _, guard := _ }) rfl (fun K hK => ?_) ?_
                · refine step_put rfl _ _ rfl (w.heap.size + 1 + 1) rfl a4 _ c4 rfl hb4 ?_
                  obtain ⟨HR5, hn5⟩ := HRR.put hb4 hown
                  replace HRR := HR5
                  clear HR5 hb4 hown
                  refine hK.out _ _ HRR (fun hHeld => ?_)
                  clear hK K
                  try simp only [Act.put]
                  refine wpAnyH_done (by kernel_rfl) ?_ _
                  exact ⟨rfl, HRR, _, hn5⟩
                exact AllReadyH.nil
              exact AllReadyH.nil
            exact AllReadyH.nil
          exact AllReadyH.nil
        · rintro a' W' ⟨HR5, v', hn5⟩
          gi_wp2
          exact ⟨HR5.kp, rfl, TX.more HR5.tf hn5 h3 hpq HG.out⟩
      · have HG : Hid (fwdS o f (6, 0) = ([], false)) := by show _ = _; unfold fwdS; simp [hy]
        rw [hy] at e3
        have HNX := hide (hI.next hpq HG.out)
        clear hI hbx hTF hpq HND h3 h4 hy
        gi_wp2
        exact ⟨Kept.refl _ _ _, HNX.out⟩
    · have q0 : W.cell? ⟨Bx, 0, none⟩ = some (.int .i64 9) := by rw [cell_of hbx]; rfl
      have q1 : W.cell? ⟨Bx, 1, none⟩ = some (.int .i64 0) := by rw [cell_of hbx]; rfl
      obtain ⟨e0, e1, e2, e3, e4, e5, e6, e7, e8, e9, e10⟩ := ten_cells hTF.fb
      obtain ⟨d0, d1, d2, d3, d4, d5⟩ := six_cells hTF.ob
      have HG : Hid (fwdS o f (9, 0) = (decL o f 9, false)) := rfl
      have HDL := hide (decP_len o f 9 2)
      have HRR : Rr w w1.heap.size o a c f da dc ua uc W Bx (9, 0) W := ⟨hTF, hbx, Kept.refl _ _ _⟩
      have HH := hide (And.intro h3 (And.intro h4 hpq))
      clear hI hbx hTF hpq h3 h4
      gi_wp2_with fail
      obtain ⟨h3, h4, hpq⟩ := HH.out
      clear q0 q1 d0 d1 d2 d3 d4 d5 e0 e1 e2 e3 e4 e5 e6 e7 e8 e9 e10
      refine region_round (S := fun u => Rr w w1.heap.size o a c f da dc ua uc W Bx (9, 0) u) (fun _ W' => Rr w w1.heap.size o a c f da dc ua uc W Bx (9, 0) W' ∧ ∃ v', Nd w w1.heap.size v' (acc ++ decL o f 9) W') (by kernel_rfl) (by kernel_rfl) HRR.drew (fun hHeld => ?_) ?_
      · have hn := Nd.on HND (u' := W.drew) (Below.refl _ _).drew
        replace HRR := HRR.drew
        refine wpAnyH_take (i := 1) (oi := { dst := some 38, op := _, type := _, pos := _, after := _, guard := _ }) (v := .agg #[.int .i64 o.id, .int .i64 o.item, .int .i64 o.qty, .int .i64 o.client, .int .i64 o.price, .slice a o.steps.length c]) rfl (by kernel_rfl) (by kernel_rfl) (by kernel_rfl) (fun _ _ _ h => absurd h.1 (by simp)) (Or.inl ⟨by kernel_rfl, ?_⟩) hHeld ?_
        · intro u hu
          obtain ⟨d0, d1, d2, d3, d4, d5⟩ := six_cells hu.tf.ob
          go_simp
        try simp only [Act.put, List.setIfInBounds_toArray, List.set_cons_zero, List.set_cons_succ]
        refine wpAnyH_take (i := 2) (oi := { dst := some 39, op := _, type := _, pos := _, after := _, guard := _ }) (v := .agg #[.slice da f.dn.length dc, .slice ua f.un.length uc, .bool f.asked, .bool f.yes, .bool f.turned, .bool f.k0, .bool f.k1, .bool f.ship, .bool f.d0, .bool f.d1, .bool f.acc]) rfl (by kernel_rfl) (by kernel_rfl) (by kernel_rfl) (fun _ _ _ h => absurd h.1 (by simp)) (Or.inl ⟨by kernel_rfl, ?_⟩) hHeld ?_
        · intro u hu
          obtain ⟨e0, e1, e2, e3, e4, e5, e6, e7, e8, e9, e10⟩ := ten_cells hu.tf.fb
          go_simp
        try simp only [Act.put, List.setIfInBounds_toArray, List.set_cons_zero, List.set_cons_succ]
        refine wpAnyH_ready (rs := [0, 3]) (by kernel_rfl) (by simp) ?_
        refine AllReadyH.cons (o := { dst := some 37, op := _, type := _, pos := _, after := _, guard := _ }) rfl (fun K hK => ?_) ?_
        · refine step_load rfl (v := v) (by have hc := hn.1.cell; go_simp) ?_
          refine hK.out _ _ HRR (fun hHeld => ?_)
          clear hK K
          try simp only [Act.put, List.setIfInBounds_toArray, List.set_cons_zero, List.set_cons_succ]
          refine wpAnyH_ready (rs := [3]) (by kernel_rfl) (by simp) ?_
          refine AllReadyH.cons (o := { dst := some 40, op := _, type := _, pos := _, after := _, guard := _ }) rfl (fun K hK => ?_) ?_
          · refine step_go rfl (run_go3 _ _ _ rfl rfl rfl rfl (enters_of Try.func42 (by kernel_rfl) rfl)) (deci_any o a c f da dc ua uc 9 _ (HA.out.below HRR.tf.bel) HL.out (HI.out.below HRR.tf.bel)) ?_
            rintro e u2 ⟨a2, c2, rfl, h21, h22, h23, hb⟩
            refine ⟨_, rfl, ?_⟩
            replace HRR := HRR.on hb
            replace hn := hn.on hb
            have hms := row_mgs h23
            clear hb
            refine hK.out _ _ HRR (fun hHeld => ?_)
            clear hK K
            try simp only [Act.put, List.setIfInBounds_toArray, List.set_cons_zero, List.set_cons_succ]
            refine wpAnyH_ready (rs := [4]) (by kernel_rfl) (by simp) ?_
            refine AllReadyH.cons (o := { dst := some 41, op := _, type := _, pos := _, after := _, guard := _ }) rfl (fun K hK => ?_) ?_
            · refine step_app rfl _ _ rfl w1.heap.size v acc rfl hn.2 a2 (decL o f 9) c2 rfl h22 hms (by have := hacc; have : (decL o f 9).length ≤ 2 := HDL.out; omega) HRR.tf.sz ?_
              intro a4 c4 w4 hown hg
              obtain ⟨HR4, hb4⟩ := HRR.grown hn hg
              replace HRR := HR4
              clear HR4 hn hms hg
              refine hK.out _ _ HRR (fun hHeld => ?_)
              clear hK K
              try simp only [Act.put, List.setIfInBounds_toArray, List.set_cons_zero, List.set_cons_succ]
              refine wpAnyH_ready (rs := [5]) (by kernel_rfl) (by simp) ?_
              refine AllReadyH.cons (o := { dst := none, op := _, type := _, pos := _, after := _, guard := _ }) rfl (fun K hK => ?_) ?_
              · refine step_put rfl _ _ rfl (w.heap.size + 1 + 1) rfl a4 _ c4 rfl hb4 ?_
                obtain ⟨HR5, hn5⟩ := HRR.put hb4 hown
                replace HRR := HR5
                clear HR5 hb4 hown
                refine hK.out _ _ HRR (fun hHeld => ?_)
                clear hK K
                try simp only [Act.put]
                refine wpAnyH_done (by kernel_rfl) ?_ _
                exact ⟨rfl, HRR, _, hn5⟩
              exact AllReadyH.nil
            exact AllReadyH.nil
          exact AllReadyH.nil
        refine AllReadyH.cons (o := { dst := some 40, op := _, type := _, pos := _, after := _, guard := _ }) rfl (fun K hK => ?_) ?_
        · refine step_go rfl (run_go3 _ _ _ rfl rfl rfl rfl (enters_of Try.func42 (by kernel_rfl) rfl)) (deci_any o a c f da dc ua uc 9 _ (HA.out.below HRR.tf.bel) HL.out (HI.out.below HRR.tf.bel)) ?_
          rintro e u2 ⟨a2, c2, rfl, h21, h22, h23, hb⟩
          refine ⟨_, rfl, ?_⟩
          replace HRR := HRR.on hb
          replace hn := hn.on hb
          have hms := row_mgs h23
          clear hb
          refine hK.out _ _ HRR (fun hHeld => ?_)
          clear hK K
          try simp only [Act.put, List.setIfInBounds_toArray, List.set_cons_zero, List.set_cons_succ]
          refine wpAnyH_ready (rs := [0]) (by kernel_rfl) (by simp) ?_
          refine AllReadyH.cons (o := { dst := some 37, op := _, type := _, pos := _, after := _, guard := _ }) rfl (fun K hK => ?_) ?_
          · refine step_load rfl (v := v) (by have hc := hn.1.cell; go_simp) ?_
            refine hK.out _ _ HRR (fun hHeld => ?_)
            clear hK K
            try simp only [Act.put, List.setIfInBounds_toArray, List.set_cons_zero, List.set_cons_succ]
            refine wpAnyH_ready (rs := [4]) (by kernel_rfl) (by simp) ?_
            refine AllReadyH.cons (o := { dst := some 41, op := _, type := _, pos := _, after := _, guard := _ }) rfl (fun K hK => ?_) ?_
            · refine step_app rfl _ _ rfl w1.heap.size v acc rfl hn.2 a2 (decL o f 9) c2 rfl h22 hms (by have := hacc; have : (decL o f 9).length ≤ 2 := HDL.out; omega) HRR.tf.sz ?_
              intro a4 c4 w4 hown hg
              obtain ⟨HR4, hb4⟩ := HRR.grown hn hg
              replace HRR := HR4
              clear HR4 hn hms hg
              refine hK.out _ _ HRR (fun hHeld => ?_)
              clear hK K
              try simp only [Act.put, List.setIfInBounds_toArray, List.set_cons_zero, List.set_cons_succ]
              refine wpAnyH_ready (rs := [5]) (by kernel_rfl) (by simp) ?_
              refine AllReadyH.cons (o := { dst := none, op := _, type := _, pos := _, after := _, guard := _ }) rfl (fun K hK => ?_) ?_
              · refine step_put rfl _ _ rfl (w.heap.size + 1 + 1) rfl a4 _ c4 rfl hb4 ?_
                obtain ⟨HR5, hn5⟩ := HRR.put hb4 hown
                replace HRR := HR5
                clear HR5 hb4 hown
                refine hK.out _ _ HRR (fun hHeld => ?_)
                clear hK K
                try simp only [Act.put]
                refine wpAnyH_done (by kernel_rfl) ?_ _
                exact ⟨rfl, HRR, _, hn5⟩
              exact AllReadyH.nil
            exact AllReadyH.nil
          exact AllReadyH.nil
        exact AllReadyH.nil
      · rintro a' W' ⟨HR5, v', hn5⟩
        gi_wp2
        exact ⟨HR5.kp, TI.more HR5.tf hn5 h3 h4 hpq HG.out (HDL.out)⟩
    · have q0 : W.cell? ⟨Bx, 0, none⟩ = some (.int .i64 15) := by rw [cell_of hbx]; rfl
      have q1 : W.cell? ⟨Bx, 1, none⟩ = some (.int .i64 0) := by rw [cell_of hbx]; rfl
      obtain ⟨e0, e1, e2, e3, e4, e5, e6, e7, e8, e9, e10⟩ := ten_cells hTF.fb
      obtain ⟨d0, d1, d2, d3, d4, d5⟩ := six_cells hTF.ob
      cases hy : f.ship
      · have HG : Hid (fwdS o f (15, 0) = ([shipM o], false)) := by show _ = _; unfold fwdS; simp [hy]
        rw [hy] at e7
        have HRR : Rr w w1.heap.size o a c f da dc ua uc W Bx (15, 0) W := ⟨hTF, hbx, Kept.refl _ _ _⟩
        have HH := hide (And.intro h3 (And.intro h4 hpq))
        clear hI hbx hTF hpq h3 h4 hy
        gi_wp2_with fail
        obtain ⟨h3, h4, hpq⟩ := HH.out
        clear q0 q1 d0 d1 d2 d3 d4 d5 e0 e1 e2 e3 e4 e5 e6 e7 e8 e9 e10
        refine region_round (S := fun u => Rr w w1.heap.size o a c f da dc ua uc W Bx (15, 0) u) (fun _ W' => Rr w w1.heap.size o a c f da dc ua uc W Bx (15, 0) W' ∧ ∃ v', Nd w w1.heap.size v' (acc ++ [shipM o]) W') (by kernel_rfl) (by kernel_rfl) HRR.drew (fun hHeld => ?_) ?_
        · have hn := Nd.on HND (u' := W.drew) (Below.refl _ _).drew
          replace HRR := HRR.drew
          refine wpAnyH_take (i := 1) (oi := { dst := some 48, op := _, type := _, pos := _, after := _, guard := _ }) (v := .agg #[.int .i64 o.id, .int .i64 o.item, .int .i64 o.qty, .int .i64 o.client, .int .i64 o.price, .slice a o.steps.length c]) rfl (by kernel_rfl) (by kernel_rfl) (by kernel_rfl) (fun _ _ _ h => absurd h.1 (by simp)) (Or.inl ⟨by kernel_rfl, ?_⟩) hHeld ?_
          · intro u hu
            obtain ⟨d0, d1, d2, d3, d4, d5⟩ := six_cells hu.tf.ob
            go_simp
          try simp only [Act.put, List.setIfInBounds_toArray, List.set_cons_zero, List.set_cons_succ]
          refine wpAnyH_ready (rs := [0, 2]) (by kernel_rfl) (by simp) ?_
          refine AllReadyH.cons (o := { dst := some 47, op := _, type := _, pos := _, after := _, guard := _ }) rfl (fun K hK => ?_) ?_
          · refine step_load rfl (v := v) (by have hc := hn.1.cell; go_simp) ?_
            refine hK.out _ _ HRR (fun hHeld => ?_)
            clear hK K
            try simp only [Act.put, List.setIfInBounds_toArray, List.set_cons_zero, List.set_cons_succ]
            refine wpAnyH_ready (rs := [2]) (by kernel_rfl) (by simp) ?_
            refine AllReadyH.cons (o := { dst := some 49, op := _, type := _, pos := _, after := _, guard := _ }) rfl (fun K hK => ?_) ?_
            · refine step_go rfl (run_go1 _ rfl rfl (enters_of Try.func47 (by kernel_rfl) rfl)) (ship_any o a c _) ?_
              rintro e u2 ⟨rfl, hb⟩
              refine ⟨_, rfl, ?_⟩
              replace HRR := HRR.on hb
              replace hn := hn.on hb
              clear hb
              refine hK.out _ _ HRR (fun hHeld => ?_)
              clear hK K
              try simp only [Act.put, List.setIfInBounds_toArray, List.set_cons_zero, List.set_cons_succ]
              refine wpAnyH_ready (rs := [3]) (by kernel_rfl) (by simp) ?_
              refine AllReadyH.cons (o := { dst := some 50, op := _, type := _, pos := _, after := _, guard := _ }) rfl (fun K hK => ?_) ?_
              · refine step_build rfl _ rfl (shipM o) rfl ?_
                intro p2 u3 hms hb
                replace HRR := HRR.on hb
                replace hn := hn.on hb
                clear hb
                refine hK.out _ _ HRR (fun hHeld => ?_)
                clear hK K
                try simp only [Act.put, List.setIfInBounds_toArray, List.set_cons_zero, List.set_cons_succ]
                refine wpAnyH_ready (rs := [4]) (by kernel_rfl) (by simp) ?_
                refine AllReadyH.cons (o := { dst := some 51, op := _, type := _, pos := _, after := _, guard := _ }) rfl (fun K hK => ?_) ?_
                · refine step_app rfl _ _ rfl w1.heap.size v acc rfl hn.2 (some ⟨p2, 0, none⟩) ([shipM o]) 1 rfl (fun h => by cases h) hms (by have := hacc; simp only [List.length_cons, List.length_nil]; omega) HRR.tf.sz ?_
                  intro a4 c4 w4 hown hg
                  obtain ⟨HR4, hb4⟩ := HRR.grown hn hg
                  replace HRR := HR4
                  clear HR4 hn hms hg
                  refine hK.out _ _ HRR (fun hHeld => ?_)
                  clear hK K
                  try simp only [Act.put, List.setIfInBounds_toArray, List.set_cons_zero, List.set_cons_succ]
                  refine wpAnyH_ready (rs := [5]) (by kernel_rfl) (by simp) ?_
                  refine AllReadyH.cons (o := { dst := none, op := _, type := _, pos := _, after := _, guard := _ }) rfl (fun K hK => ?_) ?_
                  · refine step_put rfl _ _ rfl (w.heap.size + 1 + 1) rfl a4 _ c4 rfl hb4 ?_
                    obtain ⟨HR5, hn5⟩ := HRR.put hb4 hown
                    replace HRR := HR5
                    clear HR5 hb4 hown
                    refine hK.out _ _ HRR (fun hHeld => ?_)
                    clear hK K
                    try simp only [Act.put]
                    refine wpAnyH_done (by kernel_rfl) ?_ _
                    exact ⟨rfl, HRR, _, hn5⟩
                  exact AllReadyH.nil
                exact AllReadyH.nil
              exact AllReadyH.nil
            exact AllReadyH.nil
          refine AllReadyH.cons (o := { dst := some 49, op := _, type := _, pos := _, after := _, guard := _ }) rfl (fun K hK => ?_) ?_
          · refine step_go rfl (run_go1 _ rfl rfl (enters_of Try.func47 (by kernel_rfl) rfl)) (ship_any o a c _) ?_
            rintro e u2 ⟨rfl, hb⟩
            refine ⟨_, rfl, ?_⟩
            replace HRR := HRR.on hb
            replace hn := hn.on hb
            clear hb
            refine hK.out _ _ HRR (fun hHeld => ?_)
            clear hK K
            try simp only [Act.put, List.setIfInBounds_toArray, List.set_cons_zero, List.set_cons_succ]
            refine wpAnyH_ready (rs := [0, 3]) (by kernel_rfl) (by simp) ?_
            refine AllReadyH.cons (o := { dst := some 47, op := _, type := _, pos := _, after := _, guard := _ }) rfl (fun K hK => ?_) ?_
            · refine step_load rfl (v := v) (by have hc := hn.1.cell; go_simp) ?_
              refine hK.out _ _ HRR (fun hHeld => ?_)
              clear hK K
              try simp only [Act.put, List.setIfInBounds_toArray, List.set_cons_zero, List.set_cons_succ]
              refine wpAnyH_ready (rs := [3]) (by kernel_rfl) (by simp) ?_
              refine AllReadyH.cons (o := { dst := some 50, op := _, type := _, pos := _, after := _, guard := _ }) rfl (fun K hK => ?_) ?_
              · refine step_build rfl _ rfl (shipM o) rfl ?_
                intro p2 u3 hms hb
                replace HRR := HRR.on hb
                replace hn := hn.on hb
                clear hb
                refine hK.out _ _ HRR (fun hHeld => ?_)
                clear hK K
                try simp only [Act.put, List.setIfInBounds_toArray, List.set_cons_zero, List.set_cons_succ]
                refine wpAnyH_ready (rs := [4]) (by kernel_rfl) (by simp) ?_
                refine AllReadyH.cons (o := { dst := some 51, op := _, type := _, pos := _, after := _, guard := _ }) rfl (fun K hK => ?_) ?_
                · refine step_app rfl _ _ rfl w1.heap.size v acc rfl hn.2 (some ⟨p2, 0, none⟩) ([shipM o]) 1 rfl (fun h => by cases h) hms (by have := hacc; simp only [List.length_cons, List.length_nil]; omega) HRR.tf.sz ?_
                  intro a4 c4 w4 hown hg
                  obtain ⟨HR4, hb4⟩ := HRR.grown hn hg
                  replace HRR := HR4
                  clear HR4 hn hms hg
                  refine hK.out _ _ HRR (fun hHeld => ?_)
                  clear hK K
                  try simp only [Act.put, List.setIfInBounds_toArray, List.set_cons_zero, List.set_cons_succ]
                  refine wpAnyH_ready (rs := [5]) (by kernel_rfl) (by simp) ?_
                  refine AllReadyH.cons (o := { dst := none, op := _, type := _, pos := _, after := _, guard := _ }) rfl (fun K hK => ?_) ?_
                  · refine step_put rfl _ _ rfl (w.heap.size + 1 + 1) rfl a4 _ c4 rfl hb4 ?_
                    obtain ⟨HR5, hn5⟩ := HRR.put hb4 hown
                    replace HRR := HR5
                    clear HR5 hb4 hown
                    refine hK.out _ _ HRR (fun hHeld => ?_)
                    clear hK K
                    try simp only [Act.put]
                    refine wpAnyH_done (by kernel_rfl) ?_ _
                    exact ⟨rfl, HRR, _, hn5⟩
                  exact AllReadyH.nil
                exact AllReadyH.nil
              exact AllReadyH.nil
            refine AllReadyH.cons (o := { dst := some 50, op := _, type := _, pos := _, after := _, guard := _ }) rfl (fun K hK => ?_) ?_
            · refine step_build rfl _ rfl (shipM o) rfl ?_
              intro p2 u3 hms hb
              replace HRR := HRR.on hb
              replace hn := hn.on hb
              clear hb
              refine hK.out _ _ HRR (fun hHeld => ?_)
              clear hK K
              try simp only [Act.put, List.setIfInBounds_toArray, List.set_cons_zero, List.set_cons_succ]
              refine wpAnyH_ready (rs := [0]) (by kernel_rfl) (by simp) ?_
              refine AllReadyH.cons (o := { dst := some 47, op := _, type := _, pos := _, after := _, guard := _ }) rfl (fun K hK => ?_) ?_
              · refine step_load rfl (v := v) (by have hc := hn.1.cell; go_simp) ?_
                refine hK.out _ _ HRR (fun hHeld => ?_)
                clear hK K
                try simp only [Act.put, List.setIfInBounds_toArray, List.set_cons_zero, List.set_cons_succ]
                refine wpAnyH_ready (rs := [4]) (by kernel_rfl) (by simp) ?_
                refine AllReadyH.cons (o := { dst := some 51, op := _, type := _, pos := _, after := _, guard := _ }) rfl (fun K hK => ?_) ?_
                · refine step_app rfl _ _ rfl w1.heap.size v acc rfl hn.2 (some ⟨p2, 0, none⟩) ([shipM o]) 1 rfl (fun h => by cases h) hms (by have := hacc; simp only [List.length_cons, List.length_nil]; omega) HRR.tf.sz ?_
                  intro a4 c4 w4 hown hg
                  obtain ⟨HR4, hb4⟩ := HRR.grown hn hg
                  replace HRR := HR4
                  clear HR4 hn hms hg
                  refine hK.out _ _ HRR (fun hHeld => ?_)
                  clear hK K
                  try simp only [Act.put, List.setIfInBounds_toArray, List.set_cons_zero, List.set_cons_succ]
                  refine wpAnyH_ready (rs := [5]) (by kernel_rfl) (by simp) ?_
                  refine AllReadyH.cons (o := { dst := none, op := _, type := _, pos := _, after := _, guard := _ }) rfl (fun K hK => ?_) ?_
                  · refine step_put rfl _ _ rfl (w.heap.size + 1 + 1) rfl a4 _ c4 rfl hb4 ?_
                    obtain ⟨HR5, hn5⟩ := HRR.put hb4 hown
                    replace HRR := HR5
                    clear HR5 hb4 hown
                    refine hK.out _ _ HRR (fun hHeld => ?_)
                    clear hK K
                    try simp only [Act.put]
                    refine wpAnyH_done (by kernel_rfl) ?_ _
                    exact ⟨rfl, HRR, _, hn5⟩
                  exact AllReadyH.nil
                exact AllReadyH.nil
              exact AllReadyH.nil
            exact AllReadyH.nil
          exact AllReadyH.nil
        · rintro a' W' ⟨HR5, v', hn5⟩
          gi_wp2
          exact ⟨HR5.kp, TI.more HR5.tf hn5 h3 h4 hpq HG.out (by simp)⟩
      · have HG : Hid (fwdS o f (15, 0) = ([], false)) := by show _ = _; unfold fwdS; simp [hy]
        rw [hy] at e7
        have HNX := hide (hI.next hpq HG.out)
        clear hI hbx hTF hpq HND h3 h4 hy
        gi_wp2
        exact ⟨Kept.refl _ _ _, HNX.out⟩
end Go.Proofs.Ytinbmnefdhkdfaa
