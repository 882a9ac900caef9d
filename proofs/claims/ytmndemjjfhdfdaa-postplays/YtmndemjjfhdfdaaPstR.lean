/-
  The reference's post in memory; contracts of its NewPost, Put.
-/
import Derived.Test.YtmndemjjfhdfdaaPstB
import Derived.Test.YtmndemjjfhdfdaaMsgR
namespace Go.Proofs.Ytmndemjjfhdfdaa
open Go.ChangeShapes Go.WideShapes Go.ChangeAt Go.RowKit

/-- The post's block, its row at a. -/
def RqV (F : Nat → Prop) (w : World) (q : Nat) (s : Ps) (a : Option Addr) (c : Nat) : Prop :=
  w.heap[q]? = some (.cells #[.int .i64 s.most, .slice a s.l.length c, .int .i64 s.lost] 42 (0, 0)) ∧ s.l.length ≤ c ∧ (a = none → s.l = [] ∧ c = 0) ∧ Mgs w a s.l ∧ (s.l ≠ [] → ∀ ad, a = some ad → F ad.block ∧ ad.block ≠ q)
/-- The reference's post at q; all its blocks are of F. -/
def Rq (B : Nat) (F : Nat → Prop) (w : World) (q : Nat) (s : Ps) : Prop :=
  (∀ k, F k → B ≤ k ∧ k < w.heap.size) ∧ F q ∧ GoodPs s ∧ ∃ a c, RqV F w q s a c
section
variable {B : Nat} {F F' : Nat → Prop} {w w' : World} {q : Nat} {s : Ps} {a : Option Addr} {c : Nat}
theorem RqV.kept {G : Nat → Obj → Prop} (k : RqV F w q s a c) (hp : F q) (hk : Rg.Kept G w w') (hF : ∀ k o, F k → ¬ G k o) : RqV F w' q s a c := by
  obtain ⟨h1, h2, h3, h4, h5⟩ := k
  exact ⟨hk.block _ _ h1 (hF _ _ hp), h2, h3, h4.kept hk (fun h0 ad e o => hF _ _ (h5 h0 ad e).1), h5⟩
theorem RqV.mono (k : RqV F w q s a c) (hE : ∀ k, F k → F' k) : RqV F' w q s a c := ⟨k.1, k.2.1, k.2.2.1, k.2.2.2.1, fun h0 ad e => ⟨hE _ (k.2.2.2.2 h0 ad e).1, (k.2.2.2.2 h0 ad e).2⟩⟩
theorem Rq.good (k : Rq B F w q s) : GoodPs s := k.2.2.1
theorem Rq.low (k : Rq B F w q s) : B ≤ w.heap.size := by have := k.1 q k.2.1; omega
theorem Rq.kept {G : Nat → Obj → Prop} (k : Rq B F w q s) (hk : Rg.Kept G w w') (hF : ∀ k o, F k → ¬ G k o) : Rq B F w' q s := by
  obtain ⟨h1, h2, h3, a, c, h4⟩ := k
  exact ⟨fun k e => ⟨(h1 k e).1, Nat.lt_of_lt_of_le (h1 k e).2 hk.size⟩, h2, h3, a, c, h4.kept h2 hk hF⟩
theorem Rq.on (k : Rq B F w q s) (hb : Below w.heap.size w w') : Rq B F w' q s := k.kept (G := fun _ _ => False) (Rg.Kept.of_below hb) (fun _ _ _ h => h)
theorem Rq.wide (k : Rq B F w q s) (h : ∀ k, F k → F' k) (h' : ∀ k, F' k → B ≤ k ∧ k < w.heap.size) : Rq B F' w q s := by
  obtain ⟨_, h2, h3, a, c, h4⟩ := k
  exact ⟨h', h _ h2, h3, a, c, h4.mono h⟩
theorem Rq.grow {W : World} (k : Rq B F w q s) (hB : B ≤ W.heap.size) : Rq B (growE F W w) w q s :=
  k.wide (fun _ e => .inl e) (fun i e => e.elim (k.1 i) (fun e => ⟨by omega, e.2⟩))
theorem Rq.bel (k : Rq B F w q s) (hk : Rg.Kept (fun i _ => F i) w w') : Below B w w' := hk.bel k.low (fun i _ e => (k.1 i e).1)
theorem RqV.cell0 (k : RqV F w q s a c) : w.cell? ⟨q, 0, none⟩ = some (.int .i64 s.most) := by rw [cell_of k.1]; rfl
theorem RqV.cell1 (k : RqV F w q s a c) : w.cell? ⟨q, 1, none⟩ = some (.slice a s.l.length c) := by rw [cell_of k.1]; rfl
theorem RqV.cell2 (k : RqV F w q s a c) : w.cell? ⟨q, 2, none⟩ = some (.int .i64 s.lost) := by rw [cell_of k.1]; rfl
theorem RqV.frozen (k : RqV F w q s a c) (i : Nat) : w.frozen? ⟨q, i, none⟩ = false := frozen_of_row _ _ _ _ _ k.1
theorem RqV.lt (k : RqV F w q s a c) : q < w.heap.size := (Array.getElem?_eq_some_iff.1 k.1).1
end
theorem typ_neQ : 42 ≠ 35 := by decide
theorem rgrow_in {B : Nat} {F : Nat → Prop} {w wx : World} {q : Nat} {s : Ps} (k : Rq B F w q s) {G : Nat → Obj → Prop} (h : Rg.Kept G w wx) : ∀ i, growE F w wx i → B ≤ i ∧ i < wx.heap.size := fun i e => by
  have h1 := h.size
  have h2 := k.low
  rcases e with e | e
  · have := k.1 i e; omega
  · omega
/-- A new row is stored: it lies beyond V. -/
theorem RqV.turn {F : Nat → Prop} {w V w1 : World} {q : Nat} {s : Ps} {a : Option Addr} {c N : Nat} {a' : Option Addr} {c' : Nat} {l' : List Mg} (hv : RqV F w q s a c) (hq : F q) (hbV : Below w.heap.size w V) (hr : RowX V w1 (.slice a' N c') N l') :
    w1.heap[q]? = some (.cells #[.int .i64 s.most, .slice a s.l.length c, .int .i64 s.lost] 42 (0, 0)) ∧ RqV (growE F V (w1.setCell ⟨q, 1, none⟩ (.slice a' N c'))) (w1.setCell ⟨q, 1, none⟩ (.slice a' N c')) q ⟨s.most, l', s.lost⟩ a' c' ∧ Rg.Kept (fun i _ => F i) w (w1.setCell ⟨q, 1, none⟩ (.slice a' N c')) := by
  have hb := bel_on' hbV hr.bel
  obtain ⟨hl, ho⟩ := hr.own
  subst hl
  have hlt := hv.lt
  have h4 := (hb.block q hlt).trans hv.1
  have hr2 : (w1.setCell ⟨q, 1, none⟩ (.slice a' l'.length c')).ownsRow V.heap.size 35 7 (.slice a' l'.length c') l'.length (mgCells l') := row_stays ho (fun k cs hk hc => Below.heap_setCell _ _ _ _ (fun e => by have h1 := hbV.size; have e : k = q := e; omega))
  obtain ⟨a2, c2, e2, hc2⟩ := row_slice ho
  cases e2
  refine ⟨h4, ⟨?_, hc2, fun e => ?_, row_mgs hr2, fun _ ad e => ?_⟩, (Rg.Kept.of_below hb).trans (Rg.Kept.setCell _ (fun _ => hq))⟩
  · rw [heap_setCell_same _ _ _ _ _ _ h4]
    rfl
  · subst e
    obtain ⟨g1, g2⟩ := row_none ho
    exact ⟨List.eq_nil_of_length_eq_zero g1, g2⟩
  · subst e
    have h1 := ho.lt ad.block rfl
    have h2 := hbV.size
    exact ⟨.inr ⟨h1.1, by simpa using h1.2⟩, by omega⟩
/-- The first one is cut off; the row is stored. -/
theorem RqV.cut {F : Nat → Prop} {w : World} {q : Nat} {s : Ps} {a : Option Addr} {c : Nat} (hv : RqV F w q s a c) (h1 : 1 ≤ s.l.length) :
    RqV F (w.setCell ⟨q, 1, none⟩ (.slice (tailM a c 1) (s.l.length - 1) (c - 1))) q ⟨s.most, s.l.drop 1, s.lost⟩ (tailM a c 1) (c - 1) := by
  obtain ⟨g1, g2, g3, g4, g5⟩ := hv
  have tail_in : ∀ {ad : Addr}, s.l.drop 1 ≠ [] → tailM a c 1 = some ad → F ad.block ∧ ad.block ≠ q := fun {ad} h0 e => by
    have hl : s.l ≠ [] := fun h => h0 (by rw [h]; rfl)
    unfold tailM at e
    split at e
    · exact g5 hl ad e
    · cases a with
      | none => cases e
      | some x =>
        cases e
        have := g5 hl x rfl
        simpa [Addr.add] using this
  refine ⟨?_, by dsimp only; rw [List.length_drop]; omega, fun e => ?_, ?_, fun h0 ad e => ?_⟩
  · rw [heap_setCell_same _ _ _ _ _ _ g1]
    simp
  · obtain ⟨h2, h3⟩ := g3 (tailM_nil e)
    rw [h2] at h1
    simp at h1
  · exact (g4.tail c 1 g2).kept (F := fun k _ => k = q) (Rg.Kept.setCell _ (fun _ => rfl)) (fun h0 ad e _ he => (tail_in h0 e).2 he)
  · exact tail_in h0 e
/-- How many were lost is stored. -/
theorem RqV.lost {F : Nat → Prop} {w : World} {q : Nat} {s : Ps} {a : Option Addr} {c : Nat} (hv : RqV F w q s a c) (n : Nat) : RqV F (w.setCell ⟨q, 2, none⟩ (.int .i64 n)) q ⟨s.most, s.l, n⟩ a c := by
  obtain ⟨g1, g2, g3, g4, g5⟩ := hv
  refine ⟨?_, g2, g3, g4.kept (F := fun k _ => k = q) (Rg.Kept.setCell _ (fun _ => rfl)) (fun h0 ad e _ he => (g5 h0 ad e).2 he), g5⟩
  rw [heap_setCell_same _ _ _ _ _ _ g1]
  rfl
theorem rnew_any (most : Int) (w : World) : Calls Try.prog 11 #[.int .i64 most] w fun e w' => e = .returned (.pointer (some ⟨w.heap.size, 0, none⟩)) ∧ Rq w.heap.size (fun k => k = w.heap.size) w' w.heap.size (newPs most) ∧ Below w.heap.size w w' := by
  have HF : Hid (∀ n : Nat, clampP most = n → Rq w.heap.size (fun k => k = w.heap.size) (w.alloc (.cells #[.int .i64 n, .slice none 0 0, .int .i64 0] 42)) w.heap.size (newPs most)) := fun n hn => by
    refine ⟨fun k e => ?_, rfl, GoodPs.new most, none, 0, ?_, Nat.le_refl _, fun _ => ⟨rfl, rfl⟩, .inl rfl, fun h0 => (h0 rfl).elim⟩
    · subst e
      exact ⟨Nat.le_refl _, by simp⟩
    · unfold newPs
      rw [hn]
      exact World.alloc_heap_new _ _
  by_cases h0 : 256 < most
  · have hc : clampP most = 256 := by unfold clampP; rw [if_neg (by omega), if_pos h0]
    have HP := hide (HF.out 256 hc)
    clear HF hc
    go_enter Try.func11, Try.ntmps11
    go_wp2
    go_ret
    exact ⟨rfl, HP.out, bel_al (Below.refl _ _) _⟩
  by_cases h1 : most ≤ 1
  · have hc : clampP most = 1 := by unfold clampP; split; (· rfl); (· omega)
    have HP := hide (HF.out 1 hc)
    clear HF hc
    go_enter Try.func11, Try.ntmps11
    go_wp2
    go_ret
    exact ⟨rfl, HP.out, bel_al (Below.refl _ _) _⟩
  obtain ⟨n, rfl⟩ : ∃ n : Nat, most = n := ⟨most.toNat, by omega⟩
  have hc : clampP n = n := by unfold clampP; rw [if_neg (by omega), if_neg (by omega)]; rfl
  have HP := hide (HF.out n hc)
  clear HF hc
  go_enter Try.func11, Try.ntmps11
  go_wp2
  go_ret
  exact ⟨rfl, HP.out, bel_al (Below.refl _ _) _⟩

theorem grow_tr {E : Nat → Prop} {w wr wx : World} {F G : Nat → Obj → Prop} (h1 : Rg.Kept F w wr) (h2 : Rg.Kept G wr wx) {k : Nat} (e : growE (growE E w wr) wr wx k) : growE E w wx k := by
  have h3 := h1.size
  have h4 := h2.size
  rcases e with (e | e) | e
  · exact .inl e
  · exact .inr ⟨e.1, by omega⟩
  · exact .inr ⟨by omega, e.2⟩
theorem grow_low {E : Nat → Prop} {w V wx : World} (h : Below w.heap.size w V) {k : Nat} (e : growE E V wx k) : growE E w wx k := e.imp id (fun e => ⟨Nat.le_trans h.size e.1, e.2⟩)
theorem RqV.drewN {F : Nat → Prop} {w : World} {q : Nat} {s : Ps} {a : Option Addr} {c : Nat} (h : RqV F w q s a c) (n : Nat) : RqV F (w.drewN n) q s a c := h

set_option maxHeartbeats 4000000 in
set_option maxRecDepth 100000 in
theorem rput_any {B : Nat} {F : Nat → Prop} {w : World} {q : Nat} {s : Ps} (k : Rq B F w q s) {a : Option Addr} {c : Nat} {ms : List Mg} (hm : Mgs w a ms) (hx : ms ≠ [] → ∀ ad, a = some ad → ¬ F ad.block) (hl : ms.length ≤ 9223372036854775807) :
    Calls Try.prog 13 #[.pointer (some ⟨q, 0, none⟩), .slice a ms.length c] w fun e w' => e = .returned (.tuple #[]) ∧ Rq B (growE F w w') w' q (putPs s ms) ∧ Rg.Kept (fun i _ => F i) w w' := by
  have HK := hide k
  have HM := hide hm
  have HX := hide hx
  obtain ⟨n, hn⟩ : ∃ n, ms.length = n := ⟨_, rfl⟩
  have HN := hide hn
  rw [hn] at hl ⊢
  clear k hm hx hn
  go_enter Try.func13, Try.ntmps13
  go_wp2_with fail
  go_loopw [8] (fun i wr => ∃ j : Nat, i = .int .i64 j ∧ j ≤ n ∧ Hid (Rq B (growE F w wr) wr q (putPs s (ms.take j))) ∧ Hid (Rg.Kept (fun i _ => F i) w wr)) (fun i _ => n - (intOf i).toNat)
  case atStart => exact ⟨0, rfl, Nat.zero_le _, HK.out.grow HK.out.low, Rg.Kept.refl _ _⟩
  case round =>
    obtain ⟨j, rfl, hj, HP, HKP⟩ := hrel
    by_cases hlt : j < n
    rotate_left
    · have hq : ¬ (j : Int) < (n : Int) := by omega
      have HE : Hid (ms.take j = ms) := List.take_of_length_le (by have := HN.out; omega)
      go_wp2
      go_end0
      refine ⟨rfl, ?_, HKP.out⟩
      have := HP.out
      rwa [HE.out] at this
    have hkl : j < ms.length := by have := HN.out; omega
    obtain ⟨m, hmj⟩ : ∃ m, ms[j]? = some m := ⟨_, List.getElem?_eq_getElem hkl⟩
    obtain ⟨ba, oa, rfl, p0, p1, p2, p3, p4, p5, p6⟩ := (HM.out.kept HKP.out (fun h0 ad e o => HX.out h0 ad e)).get hmj
    have HT : Hid (ms.take (j + 1) = ms.take j ++ [m]) := by
      show _ = _
      obtain ⟨h1, h2⟩ := List.getElem?_eq_some_iff.1 hmj
      rw [List.take_succ_eq_append_getElem h1, h2]
    obtain ⟨S, hS⟩ : ∃ S, putPs s (ms.take j) = S := ⟨_, rfl⟩
    have HS : Hid (putPs s (ms.take (j + 1)) = put1 S m) := by show _ = _; rw [HT.out, putPs_app, hS]; rfl
    rw [hS] at HP
    clear hS hmj hkl HT
    obtain ⟨hE1, hp1, hG1, av, cv, hv⟩ := HP.out
    have HE1 := hide hE1
    have HP1 := hide hp1
    have HG1 := hide hG1
    have HV := hide hv
    have hb1 : ba < wr.heap.size := World.block_lt_of_cell? _ _ p0
    have hq : (j : Int) < (n : Int) := by omega
    have hpl : q < wr.heap.size := hv.lt
    clear hE1 hp1 hG1 hv
    go_upto_region 3 with fail
    obtain ⟨V, hV⟩ : ∃ V, wr.alloc (.cells #[.int .i64 m.k, .int .i64 m.fr, .int .i64 m.to, .int .i64 m.id, .int .i64 m.st, .int .i64 m.a, .int .i64 m.b] 35) = V := ⟨_, rfl⟩
    have HBV : Hid (Below wr.heap.size wr V) := by show Below _ _ _; rw [← hV]; exact bel_al (Below.refl _ _) _
    have HXV : Hid (V.heap[wr.heap.size]? = some (.cells #[.int .i64 m.k, .int .i64 m.fr, .int .i64 m.to, .int .i64 m.id, .int .i64 m.st, .int .i64 m.a, .int .i64 m.b] 35 (0, 0))) := by show _ = _; rw [← hV]; exact World.alloc_heap_new _ _
    have HZV : Hid (V.heap.size = wr.heap.size + 1) := by show _ = _; rw [← hV]; simp
    rw [hV]
    clear hV
    go_cut [20] from 12 to 22 (fun _ wx => ∃ a' c', Hid (RqV (growE F w wx) wx q ⟨S.most, S.l ++ [m], S.lost⟩ a' c') ∧ Hid (Rg.Kept (fun i _ => growE F w wr i) wr wx))
    case first =>
      have HSS : Hid (∀ u, Below V.heap.size V u → (u.cell? ⟨wr.heap.size, 0, none⟩ = some (.int .i64 m.k) ∧ u.cell? ⟨wr.heap.size, 1, none⟩ = some (.int .i64 m.fr) ∧ u.cell? ⟨wr.heap.size, 2, none⟩ = some (.int .i64 m.to) ∧ u.cell? ⟨wr.heap.size, 3, none⟩ = some (.int .i64 m.id) ∧ u.cell? ⟨wr.heap.size, 4, none⟩ = some (.int .i64 m.st) ∧ u.cell? ⟨wr.heap.size, 5, none⟩ = some (.int .i64 m.a) ∧ u.cell? ⟨wr.heap.size, 6, none⟩ = some (.int .i64 m.b)) ∧ u.cell? ⟨q, 1, none⟩ = some (.slice av S.l.length cv) ∧ u.frozen? ⟨q, 1, none⟩ = false) := fun u hu => by
        have h1 := (hu.block _ (Array.getElem?_eq_some_iff.1 HXV.out).1).trans HXV.out
        have h2 := ((bel_on' HBV.out hu).block _ HV.out.lt).trans HV.out.1
        refine ⟨box7 h1, ?_, frozen_of_row _ _ _ _ _ h2⟩
        rw [cell_of h2]
        rfl
      have HL : Hid (∀ u, Below V.heap.size V u → Mgs u av S.l) := fun u hu => (HV.out.2.2.2.1.below HBV.out).below hu
      have HLN : Hid (S.l.length ≤ 1000) := by have h1 := HG1.out.len; have h2 := HG1.out.m2; show _ ≤ _; omega
      have HNO : Hid (av = none → S.l.length = 0 ∧ cv = 0) := fun e => by obtain ⟨h1, h2⟩ := HV.out.2.2.1 e; rw [h1]; exact ⟨rfl, h2⟩
      have HFIN : Hid (∀ w9 a9 c9, RowX V w9 (.slice a9 (S.l.length + 1) c9) (S.l.length + 1) (S.l ++ [m]) → _) := fun w9 a9 c9 h => HV.out.turn HP1.out HBV.out h
      obtain ⟨N, hN⟩ : ∃ N, S.l.length = N := ⟨_, rfl⟩
      have HNN := hide hN
      rw [hN] at HSS HLN HNO HFIN
      clear hN
      obtain ⟨⟨z0, z1, z2, z3, z4, z5, z6⟩, d1, f1⟩ := HSS.out _ (Below.refl _ _)
      clear p0 p1 p2 p3 p4 p5 p6
      have hqV : q < V.heap.size := by have := HBV.out.size; omega
      have hwV : wr.heap.size < V.heap.size := by have := HZV.out; omega
      go_region_law (first
        | (refine step_mgs rfl (.const (.slice none 0 0)) (.tmp 16) rfl V.heap.size (.slice none 0 0) 0 [] rfl rfl (RowX.nil (Below.refl _ _).drew).own.2 av S.l N cv HNN.out rfl HNO.out (HL.out _ (Below.refl _ _).drew) N (Nat.zero_add N) (Nat.le_trans HLN.out (by omega)) (Nat.le_refl _) ?_; intro a8 c8 w8 o8 g8 k8; have R8 := hide ((RowX.nil (Below.refl _ _).drew).app HNN.out (Nat.zero_add N) o8 g8 k8); rw [List.nil_append] at R8; clear o8 g8 k8; have hl8 := R8.out.bel.size; have hq8 : q < w8.heap.size := Nat.lt_of_lt_of_le hqV hl8; have hw8 : wr.heap.size < w8.heap.size := Nat.lt_of_lt_of_le hwV hl8; clear z0 z1 z2 z3 z4 z5 z6 d1 f1; obtain ⟨⟨z0, z1, z2, z3, z4, z5, z6⟩, d1, f1⟩ := HSS.out _ R8.out.bel)
        | (refine step_mgs rfl (.const (.slice none 0 0)) (.tmp 16) rfl V.heap.size (.slice none 0 0) 0 [] rfl rfl (RowX.nil (bel_al (Below.refl _ _) _).drew).own.2 av S.l N cv HNN.out rfl HNO.out (HL.out _ (bel_al (Below.refl _ _) _).drew) N (Nat.zero_add N) (Nat.le_trans HLN.out (by omega)) (bel_al (Below.refl V.heap.size V) _).drew.size ?_; intro a8 c8 w8 o8 g8 k8; have R8 := hide ((RowX.nil (bel_al (Below.refl _ _) _).drew).app HNN.out (Nat.zero_add N) o8 g8 k8); rw [List.nil_append] at R8; have T8 := hide (((mgs_one V m).below (Below.refl _ _).drew).below (Rg.Kept.bel (Rg.Kept.grown (E := fun _ _ => False) g8 (fun k o e => by simp [Value.ownBlock] at e)) (Nat.le_refl _) (fun _ _ h => h.elim))); clear o8 g8 k8; have hl8 := R8.out.bel.size; have hq8 : q < w8.heap.size := Nat.lt_of_lt_of_le hqV hl8; have hw8 : wr.heap.size < w8.heap.size := Nat.lt_of_lt_of_le hwV hl8; clear z0 z1 z2 z3 z4 z5 z6 d1 f1; obtain ⟨⟨z0, z1, z2, z3, z4, z5, z6⟩, d1, f1⟩ := HSS.out _ R8.out.bel)
        | (refine step_mgs rfl (.tmp 17) (.tmp 19) rfl V.heap.size (.slice a8 N c8) N S.l HNN.out rfl (R8.out.on (bel_al (Below.refl _ _) _)).own.2 (some ⟨w8.heap.size, 0, none⟩) [m] 1 1 rfl rfl (fun h => by cases h) (mgs_one w8 m) (N + 1) rfl (by have := HLN.out; omega) (R8.out.on (bel_al (Below.refl _ _) _)).bel.size ?_; intro a9 c9 w9 o9 g9 k9; have R9 := (R8.out.on (bel_al (Below.refl _ _) _)).app rfl rfl o9 g9 k9; obtain ⟨b9, v9, e9⟩ := HFIN.out _ _ _ R9; have HK9 := hide v9; have HO9 := hide e9; have HB9 := hide R9.bel; clear o9 g9 k9 R9 v9 e9 b9 z0 z1 z2 z3 z4 z5 z6 d1 f1; obtain ⟨-, d1, f1⟩ := HSS.out _ HB9.out)
        | (refine step_mgs rfl (.tmp 17) (.tmp 19) rfl V.heap.size (.slice a8 N c8) N S.l HNN.out rfl R8.out.own.2 (some ⟨V.heap.size, 0, none⟩) [m] 1 1 rfl rfl (fun h => by cases h) T8.out (N + 1) rfl (by have := HLN.out; omega) R8.out.bel.size ?_; intro a9 c9 w9 o9 g9 k9; have R9 := R8.out.app rfl rfl o9 g9 k9; obtain ⟨b9, v9, e9⟩ := HFIN.out _ _ _ R9; have HK9 := hide v9; have HO9 := hide e9; have HB9 := hide R9.bel; clear o9 g9 k9 R9 v9 e9 b9 z0 z1 z2 z3 z4 z5 z6 d1 f1; obtain ⟨-, d1, f1⟩ := HSS.out _ HB9.out))
      all_goals (go_wp2_with fail; go_meet; exact ⟨_, _, hide (HK9.out.mono (fun _ e => grow_tr HKP.out HO9.out (grow_low HBV.out e))), HO9⟩)
    case rest =>
      obtain ⟨a1, e1, HV1, HO1⟩ := hcut
      have HK1 := hide (grow_kept HKP.out HO1.out)
      clear p0 p1 p2 p3 p4 p5 p6 hb1 hpl
      have hGm := HG1.out.m1
      have c0 := HV1.out.cell0
      have c1 := HV1.out.cell1
      have c2 := HV1.out.cell2
      have f1 := HV1.out.frozen 1
      have f2 := HV1.out.frozen 2
      have hle := HV1.out.2.1
      have hpl : q < wc.heap.size := HV1.out.lt
      dsimp only at c0 c1 c2 hle
      rw [List.length_append, List.length_singleton] at c1 hle
      by_cases hf : S.l.length < S.most
      · have q1 : ¬ ((S.l.length : Int) + 1 > (S.most : Int)) := by omega
        have HE : Hid (put1 S m = ⟨S.most, S.l ++ [m], S.lost⟩) := if_pos hf
        go_wp2_with fail
        go_quiet (fail)
        go_wp2
        go_roundw
        case rel =>
          refine ⟨j + 1, by go_num, by omega, ?_, ?_⟩
          · rw [HS.out]
            have hg := HG1.out.put1 m
            rw [HE.out] at hg ⊢
            exact ⟨rgrow_in HK.out (Kept.drewN HK1.out _), .inl HK.out.2.1, hg, _, _, HV1.out⟩
          · exact Kept.drewN HK1.out _
        case measure => simp [intOf]; omega
      · have q1 : ((S.l.length : Int) + 1 > (S.most : Int)) := by omega
        have HG5 := hide (HG1.out.put1 m)
        have HS5 : Hid (putPs s (ms.take (j + 1)) = ⟨S.most, (S.l ++ [m]).eraseIdx 0, min (S.lost + 1) 1000000⟩) := by show _ = _; rw [HS.out]; exact if_neg hf
        have HE5 : Hid (put1 S m = ⟨S.most, (S.l ++ [m]).eraseIdx 0, min (S.lost + 1) 1000000⟩) := if_neg hf
        rw [HE5.out] at HG5
        have HLO := HG1.out.lo
        have hs1 : ∀ W, (Instr.sliceAt 30 (.slice a1 (S.l.length + 1) e1) (some (.int .i64 1)) none none).run Try.prog W = .ok (.slice (tailM a1 e1 1) S.l.length (e1 - 1)) W := fun W => tail_runM W a1 (S.l.length + 1) e1 1 (by omega)
        have HFIN : Hid (∀ (n5 nq : Nat) (W : World), n5 = min (S.lost + 1) 1000000 → W = ((wc.drewN nq).setCell ⟨q, 1, none⟩ (.slice (tailM a1 e1 1) S.l.length (e1 - 1))).setCell ⟨q, 2, none⟩ (.int .i64 n5) → Rq B (growE F w W) W q (putPs s (ms.take (j + 1))) ∧ Rg.Kept (fun i _ => F i) w W) := fun n5 nq W e5 eW => by
          have hv := ((HV1.out.drewN nq).cut (by simp)).lost n5
          have hk : Rg.Kept (fun i _ => F i) w W := by
            rw [eW]
            exact ((Kept.drewN HK1.out nq).trans (Rg.Kept.setCell _ (fun _ => HK.out.2.1))).trans (Rg.Kept.setCell _ (fun _ => HK.out.2.1))
          dsimp only at hv
          rw [List.length_append, List.length_singleton, Nat.add_sub_cancel, ← eW] at hv
          have hsz : W.heap.size = wc.heap.size := by rw [eW]; simp
          refine ⟨⟨rgrow_in HK.out hk, .inl HK.out.2.1, by rw [HS5.out]; exact HG5.out, tailM a1 e1 1, e1 - 1, ?_⟩, hk⟩
          rw [HS5.out, ← e5, List.eraseIdx_zero, ← List.drop_one]
          exact hv.mono (fun i e => e.imp id (fun e => ⟨e.1, by rw [hsz]; exact e.2⟩))
        clear HS HE5 HV1
        by_cases hlo : S.lost < 1000000
        · have q3 : ¬ (1000000 : Int) < (S.lost : Int) + 1 := by omega
          have HFF : Hid (∀ (nq : Nat) (W : World), _ → _) := fun nq W e => HFIN.out (S.lost + 1) nq W (by omega) e
          rw [show ((S.lost + 1 : Nat) : Int) = (S.lost : Int) + 1 by omega] at HFF
          clear HFIN
          go_wp2_with fail
          go_quiet (fail)
          go_wp2
          go_roundw
          case rel => exact ⟨j + 1, by go_num, by omega, (HFF.out _ _ rfl).1, (HFF.out _ _ rfl).2⟩
          case measure => simp [intOf]; omega
        · have q3 : (1000000 : Int) < (S.lost : Int) + 1 := by omega
          have HFF : Hid (∀ (nq : Nat) (W : World), _ → _) := fun nq W e => HFIN.out 1000000 nq W (by omega) e
          rw [show ((1000000 : Nat) : Int) = 1000000 by omega] at HFF
          clear HFIN
          go_wp2_with fail
          go_quiet (fail)
          go_wp2
          go_roundw
          case rel => exact ⟨j + 1, by go_num, by omega, (HFF.out _ _ rfl).1, (HFF.out _ _ rfl).2⟩
          case measure => simp [intOf]; omega
end Go.Proofs.Ytmndemjjfhdfdaa
