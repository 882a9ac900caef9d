/-
  Contract of the reference's Ship.
-/
import Derived.Test.YtkaniplkobnpjaaPclR
namespace Go.Proofs.Ytkaniplkobnpjaa
open Go.ChangeShapes Go.WideShapes Go.ChangeAt Go.RowKit Go.Maps

/-- A row of one's own, more behind it: what has turned. -/
theorem row_moreS {B s : Nat} {E : Nat → Prop} {U w4 : World} {v v' : Value} {n m : Nat} {xs ys : List Value} {t : TypeId} (hE : ∀ k, v.ownBlock = some k → E k) (hr : U.ownsRow B t s v n xs) {o : Obj} (hg : (U.alloc o).grownBy w4 v.ownBlock) (hown : w4.ownsRow B t s v' m ys) (hblk : v'.ownBlock = v.ownBlock ∨ v'.ownBlock = some (U.alloc o).heap.size) :
    Rg.Kept (fun i o => E i ∧ ∃ cs, o = .cells cs t (0, 0)) U w4 ∧ (∀ k, v'.ownBlock = some k → E k ∨ (U.heap.size ≤ k ∧ k < w4.heap.size)) := by
  have hvb : ∀ k, v.ownBlock = some k → ∃ cs, U.heap[k]? = some (Obj.cells cs t (0, 0)) := fun k e => by
    rcases hr.2 with ⟨rfl, _⟩ | ⟨g, cap, cur, rfl, _, hc, _⟩
    · simp [Value.ownBlock] at e
    · simp [Value.ownBlock] at e; subst e; exact ⟨cur, hc⟩
  refine ⟨⟨hg.os, hg.tape, hg.output, by have := hg.size; simp at this; omega, fun k o' hk hx => ?_⟩, fun k e => ?_⟩
  · have hlt : k < U.heap.size := (Array.getElem?_eq_some_iff.1 hk).1
    rw [hg.block k (by simp; omega) (fun e => ?_), Below.heap_alloc _ _ _ hlt]
    · exact hk
    · obtain ⟨cs, hcs⟩ := hvb k e.symm
      rw [hk] at hcs
      cases hcs
      exact hx ⟨hE k e.symm, cs, rfl⟩
  · rcases hblk with h | h
    · exact .inl (hE k (h ▸ e))
    · rw [h] at e
      have h1 := (hown.lt k (h.trans e)).2
      have h2 : (U.alloc o).heap.size = k := Option.some.inj e
      simp at h2
      exact .inr ⟨by omega, h1⟩
theorem typ_neP : 28 ≠ 35 := by decide
/-- One parcel more. -/
theorem append_pcl1 {w : World} {ops : Array Oper} {rest : List Oper} {o : Oper} {a : Act} {Q : Exit → Act → World → Prop} (hgd : o.guard = none) (s x : Operand)
    (ho : o.op = .call { callee := .builtin .append, args := #[s, x], argTypes := #[26, 26] })
    (base : Nat) (v : Value) (n : Nat) (L : List Value) (hs : a.eval s = v) (hown : w.ownsRow base 35 3 v n L) (z0 z1 z2 : Int)
    {ab : Nat} (hx : a.eval x = .slice (some ⟨ab, 0, none⟩) 1 1) (hab : ab = w.heap.size) (hb : n ≤ 1000000) (hbase : base ≤ w.heap.size)
    (h : ∀ a' c' w', w'.ownsRow base 35 3 (.slice a' (n + 1) c') (n + 1) (L ++ [.int .i64 z0, .int .i64 z1, .int .i64 z2]) → (w.alloc (.cells #[.int .i64 z0, .int .i64 z1, .int .i64 z2] 35)).grownBy w' v.ownBlock → ((Value.slice a' (n + 1) c').ownBlock = v.ownBlock ∨ (Value.slice a' (n + 1) c').ownBlock = some (w.alloc (.cells #[.int .i64 z0, .int .i64 z1, .int .i64 z2] 35)).heap.size) → wpList Try.prog ops Q rest (a.put o.dst (.slice a' (n + 1) c')) w') : wpList Try.prog ops Q (o :: rest) a (w.alloc (.cells #[.int .i64 z0, .int .i64 z1, .int .i64 z2] 35)) := by
  subst hab
  obtain ⟨i0, hi, hz0, hz1, hz2⟩ := info_parts Try.infoPcl
  refine wpList_append_own_at _ hgd s x 26 ho base 35 i0 _ 3 24 Try.underlying26 hi hz0 hz1 hz2 rfl (by decide) v n L hs (hown.alloc _) ⟨w.heap.size, 0, none⟩ 1 1 [.int .i64 z0, .int .i64 z1, .int .i64 z2] hx rfl ?_ (by simp [Value.oneCell']) (by unfold maxLen; omega) (by omega) (by simp; omega) ?_
  · intro j u hj
    have e : (w.alloc (.cells #[.int .i64 z0, .int .i64 z1, .int .i64 z2] 35)).heap[w.heap.size]? = some (.cells #[.int .i64 z0, .int .i64 z1, .int .i64 z2] 35 (0, 0)) := World.alloc_heap_new w _
    rw [st_add', Nat.zero_add, cell_of e]
    simpa using hj
  · intro v' w' h1 h2 _ h4
    obtain ⟨a', c', rfl, _⟩ := row_slice h1
    exact h a' c' w' h1 h2 h4
/-- Behind the append and the store. -/
theorem rship_next {B : Nat} {E : Nat → Prop} {U w4 : World} {q : Nat} {l : List (Int × Int × Int)} {v v' : Value} {id item qty : Int} (hv : RcV B E U q l v) (hE : ∀ k, E k → B ≤ k ∧ k < U.heap.size) (hq : E q)
    {o : Obj} (hg : (U.alloc o).grownBy w4 v.ownBlock) (hown : w4.ownsRow B 35 3 v' (l.length + 1) (tcells l ++ [.int .i64 id, .int .i64 item, .int .i64 qty])) (hblk : v'.ownBlock = v.ownBlock ∨ v'.ownBlock = some (U.alloc o).heap.size) :
    w4.cell? ⟨q, 0, none⟩ = some v ∧ w4.frozen? ⟨q, 0, none⟩ = false ∧ Rc B (growE E U (w4.setCell ⟨q, 0, none⟩ v')) (w4.setCell ⟨q, 0, none⟩ v') q (l ++ [(id, item, qty)]) ∧ Rg.Kept (fun i _ => E i) U (w4.setCell ⟨q, 0, none⟩ v') := by
  obtain ⟨kp, hvb⟩ := row_moreS hv.2.2 hv.2.1 hg hown hblk
  have hnp : ¬ (E q ∧ ∃ cs, Obj.cells #[v] 28 (0, 0) = .cells cs 35 (0, 0)) := by
    rintro ⟨_, cs, e⟩
    simp only [Obj.cells.injEq] at e
    exact typ_neP e.2.1
  have h4 := kp.block _ _ hv.1 hnp
  have h5 : (w4.setCell ⟨q, 0, none⟩ v').heap[q]? = some (.cells #[v'] 28 (0, 0)) := by
    rw [heap_setCell_same _ _ _ _ _ _ h4]
    rfl
  have hvp : ∀ k, v'.ownBlock = some k → k ≠ q := fun k e e2 => by
    subst e2
    rcases hown.2 with ⟨e1, _⟩ | ⟨g, cap, cur, rfl, _, hc, _⟩
    · rw [e1] at e; simp [Value.ownBlock] at e
    · simp [Value.ownBlock] at e
      subst e
      rw [h4] at hc
      simp only [Option.some.injEq, Obj.cells.injEq] at hc
      exact typ_neP hc.2.1
  have k5 : Rg.Kept (fun i _ => E i) U (w4.setCell ⟨q, 0, none⟩ v') := (kp.mono (fun _ _ e => e.1)).trans (Rg.Kept.setCell _ (fun _ => hq))
  refine ⟨by rw [cell_of h4]; rfl, frozen_of_row _ _ _ _ _ h4, ⟨fun k e => ?_, .inl hq, v', h5, ?_, fun k e => ?_⟩, k5⟩
  · rcases e with e | e
    · have := hE k e
      have := k5.size
      omega
    · have := hE q hq
      omega
  · have e1 : tcells (l ++ [(id, item, qty)]) = tcells l ++ [.int .i64 id, .int .i64 item, .int .i64 qty] := by rw [tcells_app]; rfl
    rw [List.length_append, List.length_singleton, e1]
    refine ⟨hown.1, ?_⟩
    rcases hown.2 with h | ⟨g, cap, cur, rfl, hb, hc, rest⟩
    · exact .inl h
    · refine .inr ⟨g, cap, cur, rfl, hb, ?_, rest⟩
      rw [Below.heap_setCell _ _ _ _ (show g ≠ (⟨q, 0, none⟩ : Addr).block from hvp g rfl)]
      exact hc
  · rcases hvb k e with e | e
    · exact .inl e
    · exact .inr ⟨e.1, by simpa using e.2⟩

set_option maxHeartbeats 1000000 in
theorem rship_any {B : Nat} {E : Nat → Prop} {w : World} {q : Nat} {l : List (Int × Int × Int)} (k : Rc B E w q l) (hl : l.length ≤ 1000) (id item qty : Int) :
    Calls Try.prog 9 #[.pointer (some ⟨q, 0, none⟩), .int .i64 id, .int .i64 item, .int .i64 qty] w fun e w' => e = .returned (.int .i64 (shipE l id item qty)) ∧ Rc B (growE E w w') w' q (shipL l id item qty) ∧ Rg.Kept (fun i _ => E i) w w' := by
  have P1 := rid_any id w
  have P2 := rplace_any item w
  have P3 := rabove_any qty w
  have HLW := hide k.low
  by_cases hg : isI id = true ∧ isIt item = true ∧ 1 ≤ qty ∧ qty ≤ 1000000000
  · have g1 := hg.1
    have g2 := hg.2.1
    have g3 : aboveB qty = true := by unfold aboveB; simp; exact hg.2.2
    rw [g1] at P1
    rw [g2] at P2
    rw [g3] at P3
    clear g1 g2 g3
    have FI := rfind_any k hl id
    cases hf : findP l id with
    | some c =>
      have e8 : shipE l id item qty = 8 := by rw [shipE_of hg, hf]; rfl
      rw [e8, shipL_no (by omega)]
      rw [hf] at FI
      obtain ⟨x, y⟩ := c
      dsimp only [Option.getD, Option.isSome] at FI
      have HK := hide k
      clear hf hg e8 k
      go_enter Try.func9, Try.ntmps9
      go_wp2_with (first
        | (go_at_call 21; refine P1.mono ?_; rintro e w1 ⟨rfl, rfl⟩)
        | (go_at_call 22; refine P2.mono ?_; rintro e w1 ⟨rfl, rfl⟩)
        | (go_at_call 23; refine P3.mono ?_; rintro e w1 ⟨rfl, rfl⟩)
        | (go_at_call 11; refine FI.mono ?_; clear FI; rintro e w2 ⟨z, rfl, b2⟩; have HB2 := hide b2; clear b2))
      go_ret
      first
        | exact ⟨rfl, (HK.out.on HB2.out).grow HLW.out, Rg.Kept.of_below HB2.out⟩
        | exact ⟨rfl, (HK.out.on (bel_al HB2.out _)).grow HLW.out, Rg.Kept.of_below (bel_al HB2.out _)⟩
    | none =>
      have e0 : shipE l id item qty = 0 := by rw [shipE_of hg, hf]; rfl
      rw [e0, shipL_ok e0]
      rw [hf] at FI
      dsimp only [Option.getD, Option.isSome] at FI
      have HNX : Hid (∀ (w2 : World) (z : Int), Below w.heap.size w w2 → ∃ a c, w2.cell? ⟨q, 0, none⟩ = some (.slice a l.length c) ∧ q < w2.heap.size ∧ (w2.alloc (.cells #[.int .i64 z, .int .i64 0, .int .i64 0] 35)).ownsRow B 35 3 (.slice a l.length c) l.length (tcells l) ∧ B ≤ (w2.alloc (.cells #[.int .i64 z, .int .i64 0, .int .i64 0] 35)).heap.size ∧
          ∀ (w4 : World) (v' : Value) (o : Obj), ((w2.alloc (.cells #[.int .i64 z, .int .i64 0, .int .i64 0] 35)).alloc o).grownBy w4 (Value.slice a l.length c).ownBlock → w4.ownsRow B 35 3 v' (l.length + 1) (tcells l ++ [.int .i64 id, .int .i64 item, .int .i64 qty]) → (v'.ownBlock = (Value.slice a l.length c).ownBlock ∨ v'.ownBlock = some ((w2.alloc (.cells #[.int .i64 z, .int .i64 0, .int .i64 0] 35)).alloc o).heap.size) →
            w4.cell? ⟨q, 0, none⟩ = some (.slice a l.length c) ∧ w4.frozen? ⟨q, 0, none⟩ = false ∧ Rc B (growE E w (w4.setCell ⟨q, 0, none⟩ v')) (w4.setCell ⟨q, 0, none⟩ v') q (l ++ [(id, item, qty)]) ∧ Rg.Kept (fun i _ => E i) w (w4.setCell ⟨q, 0, none⟩ v')) := fun w2 z b2 => by
        obtain ⟨hE, hq, v, hv⟩ := k.on b2
        have bU : Below w2.heap.size w2 (w2.alloc (.cells #[.int .i64 z, .int .i64 0, .int .i64 0] 35)) := bel_al (Below.refl _ _) _
        obtain ⟨a, c, rfl, -⟩ := row_slice hv.2.1
        have hvU := hv.kept (F := fun _ _ => False) hq (Rg.Kept.of_below bU) (fun _ _ _ h => h)
        have hzU := bU.size
        have hzw := b2.size
        have hlow := HLW.out
        refine ⟨a, c, by rw [cell_of hv.1]; rfl, (hE q hq).2, hvU.2.1, by omega, fun w4 v' o g1 g2 g3 => ?_⟩
        obtain ⟨s1, s2, s3, s4⟩ := rship_next hvU (fun k e => ⟨(hE k e).1, Nat.lt_of_lt_of_le (hE k e).2 hzU⟩) hq g1 g2 g3
        have s5 := s4.size
        obtain ⟨t1, t2, v3, t3, t4, t5⟩ := s3
        refine ⟨s1, s2, ⟨fun k e => ?_, .inl hq, v3, t3, t4, fun k e => ?_⟩, (Rg.Kept.of_below (bel_on' b2 bU)).trans s4⟩
        · rcases e with e | e
          · have := hE k e
            omega
          · omega
        · rcases t5 k e with e | e
          · exact .inl e
          · exact .inr ⟨by omega, e.2⟩
      clear hf hg e0 k HLW
      go_enter Try.func9, Try.ntmps9
      go_wp2_with (first
        | (go_at_call 21; refine P1.mono ?_; rintro e w1 ⟨rfl, rfl⟩)
        | (go_at_call 22; refine P2.mono ?_; rintro e w1 ⟨rfl, rfl⟩)
        | (go_at_call 23; refine P3.mono ?_; rintro e w1 ⟨rfl, rfl⟩)
        | (go_at_call 11; refine FI.mono ?_; clear FI; rintro e w2 ⟨z, rfl, b2⟩; obtain ⟨av, cv, d0, hq2, hrU, hlU, hfin⟩ := HNX.out w2 z b2; have HFIN := hide hfin; have HLU := hide hlU; clear b2 hfin HNX hlU)
        | (at_builtin; refine append_pcl1 rfl (.tmp 35) (.tmp 40) rfl B (.slice av l.length cv) l.length (tcells l) rfl hrU id item qty rfl (by simp) (by omega) HLU.out ?_; intro a4 c4 w4 hown4 hg4 hblk4; obtain ⟨d4, f4, k4, o4⟩ := HFIN.out w4 _ _ hg4 hown4 hblk4; have HK4 := hide k4; have HO4 := hide o4; clear hown4 hg4 hblk4 k4 o4))
      go_ret
      exact ⟨rfl, HK4.out, HO4.out⟩
  · have e1 : shipE l id item qty = 1 := shipE_arg hg
    rw [e1, shipL_no (by omega)]
    have HK := hide k
    clear k e1
    cases h1 : isI id with
    | false =>
      rw [h1] at P1
      clear P2 P3 hg
      go_enter Try.func9, Try.ntmps9
      go_wp2_with (go_at_call 21; refine P1.mono ?_; rintro e w1 ⟨rfl, rfl⟩)
      go_ret
      exact ⟨rfl, HK.out.grow HLW.out, Rg.Kept.refl _ _⟩
    | true =>
      rw [h1] at P1
      cases h2 : isIt item with
      | false =>
        rw [h2] at P2
        clear P3 hg
        go_enter Try.func9, Try.ntmps9
        go_wp2_with (first
          | (go_at_call 21; refine P1.mono ?_; rintro e w1 ⟨rfl, rfl⟩)
          | (go_at_call 22; refine P2.mono ?_; rintro e w1 ⟨rfl, rfl⟩))
        go_ret
        exact ⟨rfl, HK.out.grow HLW.out, Rg.Kept.refl _ _⟩
      | true =>
        rw [h2] at P2
        have h3 : aboveB qty = false := by
          unfold aboveB
          simp only [decide_eq_false_iff_not]
          exact fun h => hg ⟨h1, h2, h⟩
        rw [h3] at P3
        clear hg h3
        go_enter Try.func9, Try.ntmps9
        go_wp2_with (first
          | (go_at_call 21; refine P1.mono ?_; rintro e w1 ⟨rfl, rfl⟩)
          | (go_at_call 22; refine P2.mono ?_; rintro e w1 ⟨rfl, rfl⟩)
          | (go_at_call 23; refine P3.mono ?_; rintro e w1 ⟨rfl, rfl⟩))
        go_ret
        exact ⟨rfl, HK.out.grow HLW.out, Rg.Kept.refl _ _⟩
end Go.Proofs.Ytkaniplkobnpjaa
