/-
  Contract of post's Put.
-/
import Derived.Test.YtmndemjjfhdfdaaPstS
import Derived.Deep.RegionLaw
import Derived.Deep.CutBlock
namespace Go.Proofs.Ytmndemjjfhdfdaa
open Go.ChangeShapes Go.WideShapes Go.ChangeAt Go.RowKit

theorem cell_kept {F : Nat → Obj → Prop} {w w' : World} (hk : Rg.Kept F w w') {ad : Addr} {u : Value} (h : w.cell? ad = some u) (hx : ∀ o, ¬ F ad.block o) : w'.cell? ad = some u := by
  have hlt := World.block_lt_of_cell? _ _ h
  rw [← h]
  refine World.cell?_of_block ?_
  have e : w.heap[ad.block]? = some w.heap[ad.block] := Array.getElem?_eq_getElem hlt
  rw [e]
  exact hk.block _ _ e (hx _)
theorem Mgs.kept {F : Nat → Obj → Prop} {w w' : World} {a : Option Addr} {l : List Mg} (h : Mgs w a l) (hk : Rg.Kept F w w') (hx : l ≠ [] → ∀ ad, a = some ad → ∀ o, ¬ F ad.block o) : Mgs w' a l := by
  by_cases h0 : l = []
  · exact .inl h0
  rcases h with h | ⟨b, off, ha, hc⟩
  · exact .inl h
  · exact .inr ⟨b, off, ha, fun j u hu => cell_kept hk (hc j u hu) (fun o => hx h0 _ ha o)⟩
theorem mgs_one (w : World) (m : Mg) : Mgs (w.alloc (.cells #[.int .i64 m.k, .int .i64 m.fr, .int .i64 m.to, .int .i64 m.id, .int .i64 m.st, .int .i64 m.a, .int .i64 m.b] 35)) (some ⟨w.heap.size, 0, none⟩) [m] := mgs_new w [m] _ (by simp [mgCells, mgC])
/-- One message more. -/
theorem append_mg1 {w : World} {ops : Array Oper} {rest : List Oper} {o : Oper} {a : Act} {Q : Exit → Act → World → Prop} (hgd : o.guard = none) (s x : Operand)
    (ho : o.op = .call { callee := .builtin .append, args := #[s, x], argTypes := #[30, 30] })
    (base : Nat) (v : Value) (L : List Mg) (hs : a.eval s = v) (hown : w.ownsRow base 35 7 v L.length (mgCells L)) (m : Mg)
    {ab : Nat} (hx : a.eval x = .slice (some ⟨ab, 0, none⟩) 1 1) (hab : ab = w.heap.size) (hb : L.length ≤ 1000000) (hbase : base ≤ w.heap.size)
    (h : ∀ a' c' w', w'.ownsRow base 35 7 (.slice a' (L.length + 1) c') (L ++ [m]).length (mgCells (L ++ [m])) → (w.alloc (.cells #[.int .i64 m.k, .int .i64 m.fr, .int .i64 m.to, .int .i64 m.id, .int .i64 m.st, .int .i64 m.a, .int .i64 m.b] 35)).grownBy w' v.ownBlock → ((Value.slice a' (L.length + 1) c').ownBlock = v.ownBlock ∨ (Value.slice a' (L.length + 1) c').ownBlock = some (w.alloc (.cells #[.int .i64 m.k, .int .i64 m.fr, .int .i64 m.to, .int .i64 m.id, .int .i64 m.st, .int .i64 m.a, .int .i64 m.b] 35)).heap.size) → wpList Try.prog ops Q rest (a.put o.dst (.slice a' (L.length + 1) c')) w') : wpList Try.prog ops Q (o :: rest) a (w.alloc (.cells #[.int .i64 m.k, .int .i64 m.fr, .int .i64 m.to, .int .i64 m.id, .int .i64 m.st, .int .i64 m.a, .int .i64 m.b] 35)) := by
  subst hab
  obtain ⟨i0, hi, hz0, hz1, hz2⟩ := info_parts Try.infoMsg
  refine wpList_append_own_at _ hgd s x 30 ho base 35 i0 _ 7 56 Try.underlying30 hi hz0 hz1 hz2 rfl (by decide) v L.length (mgCells L) hs (hown.alloc _) ⟨w.heap.size, 0, none⟩ 1 1 (mgCells [m]) hx rfl (mgs_news (mgs_one w m)) (fun u hu => mgCells_one hu) (by unfold maxLen; omega) (by omega) (by simp; omega) ?_
  intro v' w' h1 h2 _ h4
  obtain ⟨a', c', rfl, _⟩ := row_slice h1
  refine h a' c' w' ?_ h2 h4
  rw [mgCells_append, List.length_append]
  exact h1
/-- The same, as a step of a region that draws its order. -/
theorem step_mg1 {ops : Array Oper} {o : Oper} {a : Act} {w : World} {K : Act → World → Prop} {Q : Exit → Act → World → Prop} {E : Prop} (hgd : o.guard = none) (s x : Operand)
    (ho : o.op = .call { callee := .builtin .append, args := #[s, x], argTypes := #[30, 30] })
    (base : Nat) (v : Value) (L : List Mg) (hs : a.eval s = v) (hown : w.ownsRow base 35 7 v L.length (mgCells L)) (ad : Addr) (m : Mg) (c : Nat) (hx : a.eval x = .slice (some ad) 1 c)
    (hm : Mgs w (some ad) [m]) (hb : L.length ≤ 1000000) (hbase : base ≤ w.heap.size)
    (h : ∀ a' c' w', w'.ownsRow base 35 7 (.slice a' (L.length + 1) c') (L ++ [m]).length (mgCells (L ++ [m])) → w.grownBy w' v.ownBlock → ((Value.slice a' (L.length + 1) c').ownBlock = v.ownBlock ∨ (Value.slice a' (L.length + 1) c').ownBlock = some w.heap.size) → K (a.put o.dst (.slice a' (L.length + 1) c')) w') :
    if Region.wanted o (yielded ops a.tmps) = true then Oper.wp Try.prog o a w K Q else E := by
  have hw : Region.wanted o (yielded ops a.tmps) = true := by simp [Region.wanted, hgd]
  rw [if_pos hw]
  obtain ⟨i0, hi, hz0, hz1, hz2⟩ := info_parts Try.infoMsg
  obtain ⟨v', w', hr, h2, h3, h4, h5⟩ := run_append_own_at (P := Try.prog) w base 30 o.type 35 i0 _ 7 56 Try.underlying30 hi hz0 hz1 hz2 rfl (by decide) v L.length (mgCells L) hown ad 1 c (mgCells [m]) (mgCells_len [m]) (mgs_news hm) (fun u hu => mgCells_one hu) (by unfold maxLen; omega) (by omega) hbase
  unfold Oper.wp execOp
  simp only [ho, resolve, invoke, builtin, Sem.run_bind, Sem.run_pure, Result.andThen_ok, List.map_toArray, List.map_cons, List.map_nil, hs, hx, hr]
  obtain ⟨a', c', rfl, _⟩ := row_slice h2
  refine h a' c' w' ?_ h3 h5
  rw [mgCells_append, List.length_append]
  exact h2
/-- A row of one's own, one more behind it: what has turned. -/
theorem row_moreM {B : Nat} {E : Nat → Prop} {U w4 : World} {v v' : Value} {n m : Nat} {xs ys : List Value} (hE : ∀ k, v.ownBlock = some k → E k) (hr : U.ownsRow B 35 7 v n xs) {o : Obj} (hg : (U.alloc o).grownBy w4 v.ownBlock) (hown : w4.ownsRow B 35 7 v' m ys) (hblk : v'.ownBlock = v.ownBlock ∨ v'.ownBlock = some (U.alloc o).heap.size) :
    Rg.Kept (fun i o => E i ∧ ∃ cs, o = .cells cs 35 (0, 0)) U w4 ∧ (∀ k, v'.ownBlock = some k → E k ∨ (U.heap.size ≤ k ∧ k < w4.heap.size)) := by
  refine ⟨(Rg.Kept.alloc o).trans (row_kept (hr.alloc o) hE hg), fun k e => ?_⟩
  rcases hblk with h | h
  · exact .inl (hE k (h ▸ e))
  · rw [h] at e
    have h1 := (hown.lt k (h.trans e)).2
    have h2 : (U.alloc o).heap.size = k := Option.some.inj e
    simp at h2
    exact .inr ⟨by omega, h1⟩
/-- The row has grown by one; its value is stored. -/
theorem PsV.more {B : Nat} {E : Nat → Prop} {w U w4 : World} {p : Nat} {s : Ps} {v v' : Value} {m : Mg} (hv : PsV B E w p s v) (hp : E p) (hb : Below w.heap.size w U) {o : Obj} (hg : (U.alloc o).grownBy w4 v.ownBlock)
    (hown : w4.ownsRow B 35 7 v' (s.l ++ [m]).length (mgCells (s.l ++ [m]))) (hblk : v'.ownBlock = v.ownBlock ∨ v'.ownBlock = some (U.alloc o).heap.size) :
    w4.heap[p]? = some (.cells #[.int .i64 s.most, v, .int .i64 s.lost] 52 (0, 0)) ∧ PsV B (growE E w w4) (w4.setCell ⟨p, 1, none⟩ v') p ⟨s.most, s.l ++ [m], s.lost⟩ v' ∧ Rg.Kept (fun i _ => E i) w (w4.setCell ⟨p, 1, none⟩ v') := by
  have hvU := hv.kept (F := fun _ _ => False) hp (Rg.Kept.of_below hb) (fun _ _ _ h => h)
  obtain ⟨kp, hvb⟩ := row_moreM hvU.2.2 hvU.2.1 hg hown hblk
  obtain ⟨h1, h2, h3⟩ := hvU.turn (E' := growE E w w4) hp kp hown (fun k e => (hvb k e).imp id (fun e => ⟨Nat.le_trans hb.size e.1, e.2⟩))
  exact ⟨h1, h2, (Rg.Kept.of_below hb).trans h3⟩

theorem PsV.drewN {B : Nat} {E : Nat → Prop} {w : World} {p : Nat} {s : Ps} {v : Value} (h : PsV B E w p s v) (q : Nat) : PsV B E (w.drewN q) p s v := h
theorem Pt.drewN {B : Nat} {E : Nat → Prop} {w : World} {p : Nat} {s : Ps} (h : Pt B E w p s) (q : Nat) : Pt B E (w.drewN q) p s := h
theorem Kept.drewN {F : Nat → Obj → Prop} {w w' : World} (h : Rg.Kept F w w') (q : Nat) : Rg.Kept F w (w'.drewN q) := ⟨h.os, h.tape, h.output, h.size, h.block⟩
theorem Kept.atN {F : Nat → Obj → Prop} {w w' : World} {q : Nat} (h : Rg.Kept F (w.drewN q) w') : Rg.Kept F w w' := ⟨h.os, h.tape, h.output, h.size, h.block⟩
theorem grow_in {B : Nat} {E : Nat → Prop} {w wx : World} {p : Nat} {s : Ps} (k : Pt B E w p s) {F : Nat → Obj → Prop} (h : Rg.Kept F w wx) : ∀ i, growE E w wx i → B ≤ i ∧ i < wx.heap.size := fun i e => by
  have h1 := h.size
  have h2 := k.low
  rcases e with e | e
  · have := k.1 i e; omega
  · omega
theorem grow_on {E : Nat → Prop} {w wr w4 : World} {v' : Value} {p i : Nat} {F : Nat → Obj → Prop} (h1 : Rg.Kept F w wr) {G : Nat → Obj → Prop} (_h2 : Rg.Kept G wr (w4.setCell ⟨p, i, none⟩ v')) {k : Nat} (e : growE (growE E w wr) wr w4 k) : growE E w (w4.setCell ⟨p, i, none⟩ v') k := by
  have h3 := h1.size
  have h4 := _h2.size
  simp at h4
  rcases e with (e | e) | e
  · exact .inl e
  · exact .inr ⟨e.1, by simp; omega⟩
  · exact .inr ⟨by omega, by simpa using e.2⟩
theorem grow_kept {E : Nat → Prop} {w wr wx : World} (h1 : Rg.Kept (fun i _ => E i) w wr) (h2 : Rg.Kept (fun i _ => growE E w wr i) wr wx) : Rg.Kept (fun i _ => E i) w wx :=
  kept_more h1 h2 (fun _ _ e => e.imp id (fun e => e.1))
set_option maxHeartbeats 4000000 in
set_option maxRecDepth 100000 in
theorem tput_any {B : Nat} {E : Nat → Prop} {w : World} {p : Nat} {s : Ps} (k : Pt B E w p s) {a : Option Addr} {c : Nat} {ms : List Mg} (hm : Mgs w a ms) (hx : ms ≠ [] → ∀ ad, a = some ad → ¬ E ad.block) (hl : ms.length ≤ 9223372036854775807) :
    Calls Try.prog 12 #[.pointer (some ⟨p, 0, none⟩), .slice a ms.length c] w fun e w' => e = .returned (.tuple #[]) ∧ Pt B (growE E w w') w' p (putPs s ms) ∧ Rg.Kept (fun i _ => E i) w w' := by
  have HK := hide k
  have HM := hide hm
  have HX := hide hx
  obtain ⟨n, hn⟩ : ∃ n, ms.length = n := ⟨_, rfl⟩
  have HN := hide hn
  rw [hn] at hl ⊢
  clear k hm hx hn
  go_enter Try.func12, Try.ntmps12
  go_wp2_with fail
  go_loopw [10] (fun i wr => ∃ j : Nat, i = .int .i64 j ∧ j ≤ n ∧ Hid (Pt B (growE E w wr) wr p (putPs s (ms.take j))) ∧ Hid (Rg.Kept (fun i _ => E i) w wr)) (fun i _ => n - (intOf i).toNat)
  case atStart => exact ⟨0, rfl, Nat.zero_le _, HK.out.grow HK.out.low, Rg.Kept.refl _ _⟩
  case round =>
    obtain ⟨j, rfl, hj, HP, HKP⟩ := hrel
    by_cases hlt : j < n
    rotate_left
    · have hq : ¬ (j : Int) < (n : Int) := by omega
      have HE : Hid (ms.take j = ms) := List.take_of_length_le (by have := HN.out; omega)
      go_wp2
      go_end0
      refine ⟨rfl, ?_, HKP.out⟩
      have := HP.out
      rwa [HE.out] at this
    have hkl : j < ms.length := by have := HN.out; omega
    obtain ⟨m, hmj⟩ : ∃ m, ms[j]? = some m := ⟨_, List.getElem?_eq_getElem hkl⟩
    obtain ⟨ba, oa, rfl, p0, p1, p2, p3, p4, p5, p6⟩ := (HM.out.kept HKP.out (fun h0 ad e o => HX.out h0 ad e)).get hmj
    have HT : Hid (ms.take (j + 1) = ms.take j ++ [m]) := by
      show _ = _
      obtain ⟨h1, h2⟩ := List.getElem?_eq_some_iff.1 hmj
      rw [List.take_succ_eq_append_getElem h1, h2]
    obtain ⟨S, hS⟩ : ∃ S, putPs s (ms.take j) = S := ⟨_, rfl⟩
    have HS : Hid (putPs s (ms.take (j + 1)) = put1 S m) := by show _ = _; rw [HT.out, putPs_app, hS]; rfl
    rw [hS] at HP
    clear hS hmj hkl HT
    obtain ⟨hE1, hp1, hG1, v, hv⟩ := HP.out
    obtain ⟨av, cv, rfl, -⟩ := row_slice hv.2.1
    have HE1 := hide hE1
    have HP1 := hide hp1
    have HG1 := hide hG1
    have HV := hide hv
    have c0 := hv.cell0
    have c1 := hv.cell1
    have c2 := hv.cell2
    have hb1 : ba < wr.heap.size := World.block_lt_of_cell? _ _ p0
    have hpl : p < wr.heap.size := hv.lt
    clear hE1 hp1 hG1 hv
    have hq : (j : Int) < (n : Int) := by omega
    have M7 : Hid (∀ W : World, W = (wr.alloc (.cells #[.int .i64 m.k, .int .i64 m.fr, .int .i64 m.to, .int .i64 m.id, .int .i64 m.st, .int .i64 m.a, .int .i64 m.b] 35)).alloc (.cells #[.int .i64 m.k, .int .i64 m.fr, .int .i64 m.to, .int .i64 m.id, .int .i64 m.st, .int .i64 m.a, .int .i64 m.b] 35) → W.ownsRow B 35 7 (.slice av S.l.length cv) S.l.length (mgCells S.l) ∧ Mgs W (some ⟨wr.heap.size + 1, 0, none⟩) [m] ∧ B ≤ W.heap.size) := fun W e => by
      subst e
      refine ⟨(HV.out.2.1.alloc _).alloc _, ?_, ?_⟩
      · have := mgs_one (wr.alloc (.cells #[.int .i64 m.k, .int .i64 m.fr, .int .i64 m.to, .int .i64 m.id, .int .i64 m.st, .int .i64 m.a, .int .i64 m.b] 35)) m
        rwa [World.size_alloc] at this
      · have := (HE1.out p HP1.out).1
        simp
        omega
    have HL : Hid (S.l.length ≤ 1000000) := by have h1 := HG1.out.len; have h2 := HG1.out.m2; show _ ≤ _; omega
    have HMORE : Hid (∀ (w4 : World) (v' : Value), ((wr.alloc (.cells #[.int .i64 m.k, .int .i64 m.fr, .int .i64 m.to, .int .i64 m.id, .int .i64 m.st, .int .i64 m.a, .int .i64 m.b] 35)).alloc (.cells #[.int .i64 m.k, .int .i64 m.fr, .int .i64 m.to, .int .i64 m.id, .int .i64 m.st, .int .i64 m.a, .int .i64 m.b] 35)).drew.grownBy w4 (Value.slice av S.l.length cv).ownBlock → w4.ownsRow B 35 7 v' (S.l ++ [m]).length (mgCells (S.l ++ [m])) → (v'.ownBlock = (Value.slice av S.l.length cv).ownBlock ∨ v'.ownBlock = some ((wr.alloc (.cells #[.int .i64 m.k, .int .i64 m.fr, .int .i64 m.to, .int .i64 m.id, .int .i64 m.st, .int .i64 m.a, .int .i64 m.b] 35)).alloc (.cells #[.int .i64 m.k, .int .i64 m.fr, .int .i64 m.to, .int .i64 m.id, .int .i64 m.st, .int .i64 m.a, .int .i64 m.b] 35)).drew.heap.size) → _) :=
      fun w4 v' g h b => HV.out.more HP1.out (bel_al (Below.refl _ _) (.cells #[.int .i64 m.k, .int .i64 m.fr, .int .i64 m.to, .int .i64 m.id, .int .i64 m.st, .int .i64 m.a, .int .i64 m.b] 35)) (o := .cells #[.int .i64 m.k, .int .i64 m.fr, .int .i64 m.to, .int .i64 m.id, .int .i64 m.st, .int .i64 m.a, .int .i64 m.b] 35) ⟨g.os, g.tape, g.output, g.size, g.block⟩ h b
    go_upto_region 4 with fail
    go_cut [21] from 14 to 23 (fun _ wx => ∃ v', Hid (PsV B (growE E w wx) wx p ⟨S.most, S.l ++ [m], S.lost⟩ v') ∧ Hid (Rg.Kept (fun i _ => growE E w wr i) wr wx))
    case first =>
      go_region_law (refine step_mg1 rfl (.tmp 18) (.tmp 20) rfl B (.slice av S.l.length cv) S.l rfl (M7.out _ rfl).1 ⟨wr.heap.size + 1, 0, none⟩ m 1 rfl (M7.out _ rfl).2.1 HL.out (M7.out _ rfl).2.2 ?_; intro a4 c4 w4 h4 g4 b4; obtain ⟨b1, k1, o1⟩ := HMORE.out w4 _ g4 h4 b4; have d1 := (cell_of (i := 1) b1); have f1 : w4.frozen? ⟨p, 1, none⟩ = false := frozen_of_row _ _ _ _ _ b1; simp at d1; have HK1 := hide k1; have HO1 := hide o1; clear h4 g4 b4 k1 o1 b1)
      all_goals (go_wp2_with fail; go_meet; exact ⟨_, hide (HK1.out.mono (fun _ e => grow_on HKP.out (HO1.out) e)), HO1⟩)
    case rest =>
      obtain ⟨v1, HV1, HO1⟩ := hcut
      have HK1 := hide (grow_kept HKP.out HO1.out)
      clear p0 p1 p2 p3 p4 p5 p6 c0 c1 c2 hb1 hpl M7 HMORE
      have hGm := HG1.out.m1
      obtain ⟨a1, e1, rfl, -⟩ := row_slice HV1.out.2.1
      have c0 := HV1.out.cell0
      have c1 := HV1.out.cell1
      have c2 := HV1.out.cell2
      have hpl : p < wc.heap.size := HV1.out.lt
      dsimp only at c0 c1 c2
      rw [List.length_append, List.length_singleton] at c1
      by_cases hf : S.l.length < S.most
      · have q1 : ¬ ((S.l.length : Int) + 1 > (S.most : Int)) := by omega
        have HE : Hid (put1 S m = ⟨S.most, S.l ++ [m], S.lost⟩) := if_pos hf
        go_wp2_with fail
        go_quiet (fail)
        go_wp2
        go_roundw
        case rel =>
          refine ⟨j + 1, by go_num, by omega, ?_, ?_⟩
          · rw [HS.out]
            have hg := HG1.out.put1 m
            rw [HE.out] at hg ⊢
            exact ⟨grow_in HK.out (Kept.drewN HK1.out _), .inl HK.out.2.1, hg, _, HV1.out⟩
          · exact Kept.drewN HK1.out _
        case measure => simp [intOf]; omega
      · have q1 : ((S.l.length : Int) + 1 > (S.most : Int)) := by omega
        have D : ∀ q, Calls Try.prog 22 #[.pointer (some ⟨p, 0, none⟩), .int .i64 0] (wc.drewN q) _ := fun q => tcut_any (i := 0) (.inl HK.out.2.1) (HV1.out.drewN q) (by simp)
        have HG5 := hide (HG1.out.put1 m)
        have HS5 : Hid (putPs s (ms.take (j + 1)) = ⟨S.most, (S.l ++ [m]).eraseIdx 0, min (S.lost + 1) 1000000⟩) := by show _ = _; rw [HS.out]; exact if_neg hf
        have HE5 : Hid (put1 S m = ⟨S.most, (S.l ++ [m]).eraseIdx 0, min (S.lost + 1) 1000000⟩) := if_neg hf
        rw [HE5.out] at HG5
        have HLO := HG1.out.lo
        clear HS HE5 HV1
        go_wp2_with fail
        go_quiet (fail)
        go_wp2_with fail
        refine (D _).mono ?_
        rintro e w5 ⟨rfl, ⟨v5, hv5⟩, ho5⟩
        have HO5 := hide (grow_kept HK1.out (Kept.atN ho5))
        have HZ5 : Hid (wc.heap.size ≤ w5.heap.size) := ho5.size
        have HV5 := hide (hv5.mono (E' := growE E w w5) (fun i e => e.imp id (fun e => ⟨e.1, Nat.lt_of_lt_of_le e.2 ho5.size⟩)))
        clear hv5 ho5 D c0 c1 c2 hpl
        have c2 := HV5.out.cell2
        have f2 := HV5.out.frozen 2
        have HPW := hide HV5.out.lt
        dsimp only at c2
        have HFIN : Hid (∀ n5 : Nat, n5 = min (S.lost + 1) 1000000 → Pt B (growE E w (w5.setCell ⟨p, 2, none⟩ (.int .i64 n5))) (w5.setCell ⟨p, 2, none⟩ (.int .i64 n5)) p (putPs s (ms.take (j + 1))) ∧ Rg.Kept (fun i _ => E i) w (w5.setCell ⟨p, 2, none⟩ (.int .i64 n5))) := fun n5 e5 => by
          have hk : Rg.Kept (fun i _ => E i) w (w5.setCell ⟨p, 2, none⟩ (.int .i64 n5)) := HO5.out.trans (Rg.Kept.setCell _ (fun _ => HK.out.2.1))
          refine ⟨⟨grow_in HK.out hk, .inl HK.out.2.1, ?_, v5, ?_⟩, hk⟩
          · rw [HS5.out]; exact HG5.out
          · rw [HS5.out, ← e5]
            exact (HV5.out.lost n5).mono (fun i e => e.imp id (fun e => ⟨e.1, by simpa using e.2⟩))
        clear HV5 HS5 HG5
        by_cases hlo : S.lost < 1000000
        · have q3 : ¬ (1000000 : Int) < (S.lost : Int) + 1 := by omega
          have HFF := hide (HFIN.out (S.lost + 1) (by omega))
          rw [show ((S.lost + 1 : Nat) : Int) = (S.lost : Int) + 1 by omega] at HFF
          clear HFIN
          go_wp2
          go_roundw
          case rel => exact ⟨j + 1, by go_num, by omega, HFF.out.1, HFF.out.2⟩
          case measure => simp [intOf]; omega
        · have q3 : (1000000 : Int) < (S.lost : Int) + 1 := by omega
          have HFF := hide (HFIN.out 1000000 (by omega))
          rw [show ((1000000 : Nat) : Int) = 1000000 by omega] at HFF
          clear HFIN
          go_wp2
          go_roundw
          case rel => exact ⟨j + 1, by go_num, by omega, HFF.out.1, HFF.out.2⟩
          case measure => simp [intOf]; omega
end Go.Proofs.Ytmndemjjfhdfdaa
