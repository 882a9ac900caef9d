/-
  PostPlays: the walk.
-/
import Derived.Test.YtmndemjjfhdfdaaPstL
import Derived.Test.YtmndemjjfhdfdaaPstC
import Derived.Test.YtmndemjjfhdfdaaPstQ
import Derived.Test.YtmndemjjfhdfdaaMsgE
import Derived.Test.YtmndemjjfhdfdaaNum
namespace Go.Proofs.Ytmndemjjfhdfdaa
open Go.ChangeShapes Go.WideShapes Go.ChangeAt Go.RowKit Go.Shelf

theorem same_at {a b : Option Addr} {l : List Mg} {n1 n2 ca cb : Nat} {w : World} (h1 : l.length = n1) (h2 : l.length = n2) (hl : l.length ≤ 9223372036854775807) (ha : Mgs w a l) (hb : Mgs w b l) :
    Calls Try.prog 18 #[.slice a n1 ca, .slice b n2 cb] w fun e w' => e = .returned (.bool true) ∧ Below w.heap.size w w' := by
  subst h1
  rw [← h2]
  exact same_msgs a b l ca cb w hl ha hb
set_option maxRecDepth 100000 in
set_option maxHeartbeats 4000000 in
theorem few_any (a : Option Addr) (cl : List Cm) (ca : Nat) (w : World) (hl : cl.length ≤ 9223372036854775807) (ha : CmsAt w a cl) :
    Calls Try.prog 8 #[.slice a cl.length ca] w fun e w' => (e = .returned (.bool true) ∨ e = .returned (.bool false)) ∧ Below w.heap.size w w' := by
  have HA := hide ha
  clear ha
  go_enter Try.func8, Try.ntmps8
  go_wp2_with fail
  go_loopw [3, 8] (fun v i wr => ∃ (z : Int) (j : Nat), v = .int .i64 z ∧ i = .int .i64 j ∧ j ≤ cl.length ∧ Hid (Below w.heap.size w wr)) (fun _ i _ => cl.length - (intOf i).toNat)
  case atStart => exact ⟨0, 0, rfl, rfl, Nat.zero_le _, Below.refl _ _⟩
  case round =>
    obtain ⟨z, j, rfl, rfl, hj, HB⟩ := hrel
    by_cases hlt : j < cl.length
    · have ql : (j : Int) < (cl.length : Int) := by omega
      obtain ⟨c, hc⟩ : ∃ c, cl[j]? = some c := ⟨cl[j], by simp [hlt]⟩
      rcases HA.out.below HB.out with h | ⟨b, off, rfl, hca⟩
      · subst h; simp at hlt
      obtain ⟨⟨c0, c1, c2⟩, hin⟩ := hca j c hc
      have hcl := hin.1
      have HBA : Hid (Below w.heap.size w (wr.alloc (.cells #[.int .i64 c.d, .int .i64 c.i, .slice c.av c.l.length c.cv] 32))) := bel_al HB.out _
      clear hca hc hin
      obtain ⟨y, hy⟩ : ∃ y, wrap64 (z + (c.l.length : Int)) = y := ⟨_, rfl⟩
      by_cases h100 : (j : Int) ≥ 100
      · go_wp2
        go_ret
        exact ⟨.inr rfl, HBA.out⟩
      by_cases h6 : y > 600
      · go_wp2
        go_ret
        exact ⟨.inr rfl, HBA.out⟩
      go_wp2
      go_roundw
      case rel => exact ⟨_, j + 1, rfl, by go_num, by omega, HBA⟩
      case measure => simp [intOf]; omega
    · have ql : ¬ (j : Int) < (cl.length : Int) := by omega
      go_wp2
      go_ret
      exact ⟨.inl rfl, HB.out⟩
theorem own_low {w : World} {B B' : Nat} {e : TypeId} {sz : Nat} {v : Value} {n : Nat} {xs : List Value} (h : w.ownsRow B e sz v n xs) (hB : B' ≤ B) : w.ownsRow B' e sz v n xs := by
  refine ⟨h.1, ?_⟩
  rcases h.2 with h2 | ⟨g, cap, cur, h3, h4, h5⟩
  · exact .inl h2
  · exact .inr ⟨g, cap, cur, h3, Nat.le_trans hB h4, h5⟩
/-- Both posts beside each other. -/
def Two (w : World) (p q : Nat) (wr : World) (s : Ps) : Prop :=
  ∃ E F, Pt w.heap.size E wr p s ∧ Rq w.heap.size F wr q s ∧ (∀ k, E k → ¬ F k) ∧ Below w.heap.size w wr
theorem Two.bel {w : World} {p q : Nat} {wr : World} {s : Ps} (h : Two w p q wr s) : Below w.heap.size w wr := by
  obtain ⟨E, F, _, _, _, h4⟩ := h
  exact h4
theorem Two.on {w : World} {p q : Nat} {wr u : World} {s : Ps} (h : Two w p q wr s) (hb : Below wr.heap.size wr u) : Two w p q u s := by
  obtain ⟨E, F, h1, h2, h3, h4⟩ := h
  exact ⟨E, F, h1.on hb, h2.on hb, h3, bel_on' h4 hb⟩
/-- The program's has gone its step, the reference's has not; V's blocks from N on lie as they lay. -/
def Mid (w : World) (p q N : Nat) (V w1 : World) (s s' : Ps) : Prop :=
  ∃ E F, Pt w.heap.size E w1 p s' ∧ Rq w.heap.size F w1 q s ∧ (∀ k, E k → ¬ F k) ∧ (∀ k, F k → k < N) ∧ Below w.heap.size w w1 ∧ V.heap.size ≤ w1.heap.size ∧ ∀ (k : Nat) (o : Obj), N ≤ k → V.heap[k]? = some o → w1.heap[k]? = some o
theorem Mid.old {w : World} {p q N : Nat} {V w1 : World} {s s' : Ps} (h : Mid w p q N V w1 s s') : ∀ (k : Nat) (o : Obj), N ≤ k → V.heap[k]? = some o → w1.heap[k]? = some o := by
  obtain ⟨E, F, _, _, _, _, _, _, h7⟩ := h
  exact h7
theorem Mid.bel {w : World} {p q N : Nat} {V w1 : World} {s s' : Ps} (h : Mid w p q N V w1 s s') : Below w.heap.size w w1 := by
  obtain ⟨E, F, _, _, _, _, h5, _, _⟩ := h
  exact h5
theorem Two.p {w : World} {p q : Nat} {wr V : World} {s s' : Ps} (h : Two w p q wr s) (hV : Below wr.heap.size wr V) {f : Nat} {args : Array Value} {r : Ending}
    (hc : ∀ E, Pt w.heap.size E V p s → Calls Try.prog f args V fun e w' => e = r ∧ (∃ E', Pt w.heap.size E' w' p s' ∧ ∀ k, E' k → E k ∨ V.heap.size ≤ k) ∧ Rg.Kept (fun i _ => E i) V w') : Calls Try.prog f args V fun e w' => e = r ∧ Mid w p q wr.heap.size V w' s s' := by
  obtain ⟨E, F, h1, h2, h3, h4⟩ := h
  refine (hc E (h1.on hV)).mono ?_
  rintro e w' ⟨rfl, ⟨E', k1, k2⟩, k3⟩
  have hF : ∀ k, F k → k < wr.heap.size := fun k e => (h2.1 k e).2
  refine ⟨rfl, E', F, k1, (h2.on hV).kept k3 (fun k _ e e2 => h3 k e2 e), fun k e e2 => ?_, hF, (bel_on' h4 hV).trans ((h1.on hV).bel k3), k3.size, fun k o hk ho => k3.block k o ho (fun e => ?_)⟩
  · rcases k2 k e with e | e
    · exact h3 k e e2
    · have h5 := hF k e2
      have h6 := hV.size
      omega
  · have := (h1.1 k e).2
    omega
theorem Mid.q {w : World} {p q N : Nat} {V w1 U : World} {s s' : Ps} (h : Mid w p q N V w1 s s') (hU : Below w1.heap.size w1 U) {f : Nat} {args : Array Value} {r : Ending}
    (hc : ∀ F, Rq w.heap.size F U q s → Calls Try.prog f args U fun e w' => e = r ∧ (∃ F', Rq w.heap.size F' w' q s' ∧ ∀ k, F' k → F k ∨ U.heap.size ≤ k) ∧ Rg.Kept (fun i _ => F i) U w') : Calls Try.prog f args U fun e w' => e = r ∧ Two w p q w' s' ∧ ∀ (k : Nat) (o : Obj), N ≤ k → U.heap[k]? = some o → w'.heap[k]? = some o := by
  obtain ⟨E, F, h1, h2, h3, h4, h5, h6, h7⟩ := h
  refine (hc F (h2.on hU)).mono ?_
  rintro e w' ⟨rfl, ⟨F', k1, k2⟩, k3⟩
  refine ⟨rfl, ⟨E, F', (h1.on hU).kept k3 (fun k _ e e2 => h3 k e e2), k1, fun k e e2 => ?_, (bel_on' h5 hU).trans ((h2.on hU).bel k3)⟩, fun k o hk ho => k3.block k o ho (fun e => ?_)⟩
  · rcases k2 k e2 with e2 | e2
    · exact h3 k e e2
    · have h8 := (h1.1 k e).2
      have h9 := hU.size
      omega
  · have := h4 k e
    omega

set_option maxRecDepth 100000 in
set_option maxHeartbeats 4000000 in
theorem postPlays_walk (a0 : Int) (l1 : List Cm) (a1 : Option Addr) (cap1 : Nat) (a2 : Int) (w : World) (_w0 : (Lit.int .i64 a0).wf = true) (w1 : CmsIn w l1 a1) (_w2 : (Lit.int .i64 a2).wf = true) :
    Calls Try.prog 3 #[.int .i64 a0, .slice a1 l1.length cap1, .int .i64 a2] w fun e w' => e = .returned (.bool true) ∧ Below w.heap.size w w' := by
  clear _w0 _w2
  obtain ⟨hlen, hcl⟩ := w1
  have HCL := hide hcl
  have FW := few_any a1 l1 cap1 w hlen hcl
  have HW := hide tawake_any
  obtain ⟨b3, b4⟩ := um_bd a2 5 (by omega) (by omega)
  obtain ⟨S, hS⟩ : ∃ S, um a2 5 = S := ⟨_, rfl⟩
  rw [hS] at b3 b4
  unfold um at hS
  obtain ⟨t, rfl⟩ : ∃ t : Nat, S = t := ⟨S.toNat, by omega⟩
  clear hcl
  go_enter Try.func3, Try.ntmps3
  go_wp2_with fail
  refine FW.mono ?_
  clear FW
  rintro e u0 ⟨rfl | rfl, b0⟩
  rotate_left
  · have HB0 := hide b0
    clear b0
    go_wp2_with (go_at_call 9; refine (HW.out _).mono ?_; rintro e u6 ⟨rfl, b6⟩; have HB6 := hide b6; clear b6)
    go_ret
    exact ⟨rfl, bel_on' HB0.out HB6.out⟩
  have HB0 := hide b0
  have N1 := tnew_any a0 u0
  clear b0
  go_wp2_with fail
  refine N1.mono ?_
  rintro e u1 ⟨rfl, k1, b1⟩
  have HK1 := hide k1
  have HB1 := hide b1
  have N2 := rnew_any a0 u1
  clear N1 k1 b1
  go_wp2_with fail
  refine N2.mono ?_
  rintro e u2 ⟨rfl, k2, b2⟩
  have HT0 : Hid (Two w u0.heap.size u1.heap.size u2 (newPs a0)) := by
    have hz := HB0.out.size
    have hz1 := (HK1.out.1 _ HK1.out.2.1).2
    refine ⟨fun k => k = u0.heap.size, fun k => k = u1.heap.size, ?_, ?_, fun k e e2 => by omega, bel_on' (bel_on' HB0.out HB1.out) b2⟩
    · obtain ⟨h1, h2, h3, v, h4⟩ := HK1.out.on b2
      exact ⟨fun k e => ⟨by omega, (h1 k e).2⟩, h2, h3, v, h4.1, own_low h4.2.1 hz, h4.2.2⟩
    · obtain ⟨h1, h2, h3, h4⟩ := k2
      exact ⟨fun k e => ⟨by omega, (h1 k e).2⟩, h2, h3, h4⟩
  clear N2 k2 b2 HK1 HB1 HB0
  obtain ⟨p, hp⟩ : ∃ p, u0.heap.size = p := ⟨_, rfl⟩
  obtain ⟨q, hq⟩ : ∃ q, u1.heap.size = q := ⟨_, rfl⟩
  rw [hp, hq] at HT0
  rw [hp, hq]
  clear hp hq
  go_wp2_with fail
  rw [hS]
  clear hS
  have ht : t < 5 := by omega
  clear b3 b4
  go_loopw [32] (fun i wr => ∃ (j : Nat) (s : Ps), i = .int .i64 j ∧ j ≤ l1.length ∧ Hid (Two w p q wr s)) (fun i _ => l1.length - (intOf i).toNat)
  case atStart => exact ⟨0, _, rfl, Nat.zero_le _, HT0⟩
  case round =>
    obtain ⟨j, s, rfl, hj, HT⟩ := hrel
    clear HT0
    by_cases hlt : j < l1.length
    rotate_left
    · have ql : ¬ (j : Int) < (l1.length : Int) := by omega
      go_wp2_with (go_at_call 9; refine (HW.out _).mono ?_; rintro e u6 ⟨rfl, b6⟩; have HB6 := hide b6; clear b6)
      go_ret
      exact ⟨rfl, bel_on' HT.out.bel HB6.out⟩
    have ql : (j : Int) < (l1.length : Int) := by omega
    obtain ⟨c, hc⟩ : ∃ c, l1[j]? = some c := ⟨l1[j], by simp [hlt]⟩
    rcases HCL.out.below HT.out.bel with h | ⟨b, off, rfl, hca⟩
    · subst h; simp at hlt
    obtain ⟨⟨c0, c1, c2⟩, -⟩ := hca j c hc
    have hin : CmIn w c := by
      rcases HCL.out with h | ⟨b', off', hb', hca'⟩
      · subst h; simp at hlt
      · exact (hca' j c hc).2
    have HIN := hide hin
    obtain ⟨V, hV⟩ : ∃ V, wr.alloc (.cells #[.int .i64 c.d, .int .i64 c.i, .slice c.av c.l.length c.cv] 32) = V := ⟨_, rfl⟩
    have HBV : Hid (Below wr.heap.size wr V) := by show Below _ _ _; rw [← hV]; exact bel_al (Below.refl _ _) _
    have HXV : Hid (V.heap[wr.heap.size]? = some (.cells #[.int .i64 c.d, .int .i64 c.i, .slice c.av c.l.length c.cv] 32 (0, 0))) := by show _ = _; rw [← hV]; exact World.alloc_heap_new _ _
    clear hca hc hin
    have d0 : V.cell? ⟨wr.heap.size, 0, none⟩ = some (.int .i64 c.d) := by rw [cell_of HXV.out]; rfl
    have d1 : V.cell? ⟨wr.heap.size, 1, none⟩ = some (.int .i64 c.i) := by rw [cell_of HXV.out]; rfl
    have d2 : V.cell? ⟨wr.heap.size, 2, none⟩ = some (.slice c.av c.l.length c.cv) := by rw [cell_of HXV.out]; rfl
    go_upto_block 2 with fail
    clear hV c0 c1 c2
    go_cut [11, 12, 13, 14, 15] from 38 to 80 (fun k _ _ _ _ wx => ∃ s' : Ps, k = .bool true ∧ Hid (Two w p q wx s'))
    case first =>
      by_cases h0 : c.d = 0
      · have P1 := HT.out.p (s' := putPs s c.l) HBV.out (fun E k => (tput_any (c := c.cv) k (HIN.out.2.1.below (bel_on' HT.out.bel HBV.out)) (fun h ad e he => by have h1 := HIN.out.2.1.lt h ad e; have h2 := (k.1 _ he).1; omega) HIN.out.1).mono (fun e w' h => ⟨h.1, ⟨_, h.2.1, fun k e => e.imp id (fun e => e.1)⟩, h.2.2⟩))
        have e0 : (c.d == 0) = true := by simp [h0]
        clear h0
        go_wp2_with fail
        refine P1.mono ?_
        rintro e v1 ⟨rfl, m1⟩
        have HM1 := hide m1
        have HX1 := hide (m1.old _ _ (Nat.le_refl _) HXV.out)
        have d2' : v1.cell? ⟨wr.heap.size, 2, none⟩ = some (.slice c.av c.l.length c.cv) := by rw [cell_of HX1.out]; rfl
        have P2 := m1.q (Below.refl _ _) (fun F k => (rput_any (c := c.cv) k (HIN.out.2.1.below m1.bel) (fun h ad e he => by have h1 := HIN.out.2.1.lt h ad e; have h2 := (k.1 _ he).1; omega) HIN.out.1).mono (fun e w' h => ⟨h.1, ⟨_, h.2.1, fun k e => e.imp id (fun e => e.1)⟩, h.2.2⟩))
        clear P1 m1
        go_wp2_with fail
        refine P2.mono ?_
        rintro e v2 ⟨rfl, m2, -⟩
        have HM2 := hide m2
        clear P2 m2
        go_wp2_with fail
        go_meet
        exact ⟨_, rfl, HM2⟩
      have e0 : (c.d == 0) = false := by simp [h0]
      by_cases h1 : c.d = 1
      · have e1 : (c.d == 1) = true := by simp [h1]
        clear h0 h1
        obtain ⟨m, hm⟩ : ∃ m, atPs s.l c.i = m := ⟨_, rfl⟩
        obtain ⟨y, hy⟩ : ∃ y, inP s.l c.i = y := ⟨_, rfl⟩
        have P1 := HT.out.p (s' := takPs s c.i) (r := .returned (.tuple #[.agg #[.int .i64 m.k, .int .i64 m.fr, .int .i64 m.to, .int .i64 m.id, .int .i64 m.st, .int .i64 m.a, .int .i64 m.b], .bool y])) HBV.out (fun E k => (ttake_any k c.i).mono (fun e w' h => ⟨by rw [h.1, hm, hy], ⟨_, h.2.1, fun k e => .inl e⟩, h.2.2⟩))
        have HMY : Hid (atPs s.l c.i = m ∧ inP s.l c.i = y) := ⟨hm, hy⟩
        clear hm hy
        go_wp2_with fail
        refine P1.mono ?_
        rintro e v1 ⟨rfl, m1⟩
        have HM1 := hide m1
        have hx1 := m1.old _ _ (Nat.le_refl _) HXV.out
        have hl1 := (Array.getElem?_eq_some_iff.1 hx1).1
        have d1' : v1.cell? ⟨wr.heap.size, 1, none⟩ = some (.int .i64 c.i) := by rw [cell_of hx1]; rfl
        have P2 := m1.q (bel_al (Below.refl v1.heap.size v1) (.cells #[.int .i64 m.k, .int .i64 m.fr, .int .i64 m.to, .int .i64 m.id, .int .i64 m.st, .int .i64 m.a, .int .i64 m.b] 35)) (r := .returned (.tuple #[.agg #[.int .i64 m.k, .int .i64 m.fr, .int .i64 m.to, .int .i64 m.id, .int .i64 m.st, .int .i64 m.a, .int .i64 m.b], .bool y])) (fun F k => (rtake_any k c.i).mono (fun e w' h => ⟨by rw [h.1, HMY.out.1, HMY.out.2], ⟨_, h.2.1, fun k e => e.imp id (fun e => e.1)⟩, h.2.2⟩))
        clear P1 m1 hx1
        go_wp2_with fail
        refine P2.mono ?_
        rintro e v2 ⟨rfl, m2, o2⟩
        have HM2 := hide m2
        have hb2 := o2 v1.heap.size _ (Nat.le_of_lt hl1) (World.alloc_heap_new _ _)
        have hl2 : v1.heap.size < v2.heap.size := (Array.getElem?_eq_some_iff.1 hb2).1
        obtain ⟨r0, r1, r2, r3, r4, r5, r6⟩ := box7 hb2
        have heq := eql_msg
        have hgd := guard_msg
        have hqq : (m.k == m.k && m.fr == m.fr && m.to == m.to && m.id == m.id && m.st == m.st && m.a == m.a && m.b == m.b) = true := by simp
        have hyy : (y == y) = true := by simp
        clear P2 m2 hb2 o2 d0 d1 d2 d1'
        go_wp2_with fail
        go_meet
        exact ⟨_, rfl, HM2.out.on (bel_al (Below.refl _ _) _)⟩
      · have e1 : (c.d == 1) = false := by simp [h1]
        clear h0 h1
        obtain ⟨y, hy⟩ : ∃ y, inP s.l c.i = y := ⟨_, rfl⟩
        have P1 := HT.out.p (s' := dblPs s c.i) (r := .returned (.bool y)) (V := V.drew) (bel_on' HBV.out (Below.refl _ _).drew) (fun E k => (tdbl_any k c.i).mono (fun e w' h => ⟨by rw [h.1, hy], ⟨_, h.2.1, fun k e => e.imp id (fun e => e.1)⟩, h.2.2⟩))
        have HY := hide hy
        have HP2 : Hid (∀ v1, Mid w p q wr.heap.size V.drew v1 s (dblPs s c.i) → Calls Try.prog 17 #[.pointer (some ⟨q, 0, none⟩), .int .i64 c.i] v1 fun e w' => e = .returned (.bool y) ∧ Two w p q w' (dblPs s c.i) ∧ ∀ (k : Nat) (o : Obj), wr.heap.size ≤ k → v1.heap[k]? = some o → w'.heap[k]? = some o) := fun v1 m1 => m1.q (r := .returned (.bool y)) (Below.refl _ _) (fun F k => (rdbl_any k c.i).mono (fun e w' h => ⟨by rw [h.1, HY.out], ⟨_, h.2.1, fun k e => e.imp id (fun e => e.1)⟩, h.2.2⟩))
        have hyy : (y == y) = true := by simp
        clear hy
        go_wp2_with fail
        go_region_held3 (fun w' => w'.cell? ⟨wr.heap.size, 1, none⟩ = some (.int .i64 c.i)) (go_keep) (first
          | (go_at_call 16; refine P1.mono ?_; clear P1; rintro e v1 ⟨rfl, m1⟩; have P2 := HP2.out _ m1; have HX1 := hide (m1.old _ _ (Nat.le_refl _) HXV.out); clear m1 d0 d1 d2; have d1 : v1.cell? ⟨wr.heap.size, 1, none⟩ = some (.int .i64 c.i) := (by rw [cell_of HX1.out]; rfl))
          | (go_at_call 17; refine P2.mono ?_; clear P2; rintro e v2 ⟨rfl, m2, o2⟩; have HM2 := hide m2; have HX2 := hide (o2 _ _ (Nat.le_refl _) HX1.out); clear m2 o2 d1; have d1 : v2.cell? ⟨wr.heap.size, 1, none⟩ = some (.int .i64 c.i) := (by rw [cell_of HX2.out]; rfl))
          | fail)
        all_goals (go_wp2_with fail; go_meet; exact ⟨_, rfl, HM2⟩)
    case rest =>
      obtain ⟨s', rfl, HT2⟩ := hcut
      clear d0 d1 d2 HXV HBV HT
      obtain ⟨E, F, hE, hF, hEF, hB⟩ := HT2.out
      have HE := hide hE
      have HB := hide hB
      obtain ⟨-, -, hG, av, cv, hv⟩ := id hF
      have g1 := hv.cell1
      have g2 := hv.cell2
      have hLL : s'.l.length ≤ 1000 := by have h1 := hG.len; have h2 := hG.m2; omega
      have HQC : Hid (∀ u, Below wc.heap.size wc u → u.cell? ⟨q, 1, none⟩ = some (.slice av s'.l.length cv) ∧ u.cell? ⟨q, 2, none⟩ = some (.int .i64 s'.lost)) := fun u hu => ⟨cellL g1 hu, cellL g2 hu⟩
      have HMR : Hid (∀ u, Below wc.heap.size wc u → Mgs u av s'.l) := fun u hu => hv.2.2.2.1.below hu
      have HA1 : Hid (∀ u, Below wc.heap.size wc u → Calls Try.prog 19 #[.pointer (some ⟨p, 0, none⟩), .int .i64 1000] u (OwnM u s'.l)) := fun u hu => by
        have := tlall_any (HE.out.on hu) 1000 (by omega)
        rwa [List.take_of_length_le hLL] at this
      have HLen : Hid (∀ u, Below wc.heap.size wc u → Calls Try.prog 20 #[.pointer (some ⟨p, 0, none⟩)] u fun e w' => e = .returned (.int .i64 s'.l.length) ∧ u = w') := fun u hu => tlen_any (HE.out.on hu)
      have HLost : Hid (∀ u, Below wc.heap.size wc u → Calls Try.prog 21 #[.pointer (some ⟨p, 0, none⟩)] u fun e w' => e = .returned (.int .i64 s'.lost) ∧ u = w') := fun u hu => tlost_any (HE.out.on hu)
      have HA2 : Hid (∀ u, Below wc.heap.size wc u → Calls Try.prog 19 #[.pointer (some ⟨p, 0, none⟩), .int .i64 t] u fun e w' => ∃ a c, e = .returned (.slice a (min t s'.l.length) c) ∧ Below u.heap.size u w') := fun u hu => by
        refine (tlall_any (HE.out.on hu) t (by omega)).mono ?_
        rintro e w' ⟨a, c, rfl, -, -, -, b⟩
        exact ⟨a, c, by rw [List.length_take], b⟩
      have HTW : Hid (∀ u, Below wc.heap.size wc u → Two w p q u s') := fun u hu => HT2.out.on hu
      obtain ⟨N, hN⟩ : ∃ N, s'.l.length = N := ⟨_, rfl⟩
      have HNN := hide hN
      rw [hN] at g1 HQC HLen HA2 hLL
      have HNL : Hid (N ≤ 1000) := hLL
      clear hE hF hEF hB hG hv hN HT2 HB hLL
      have hnn : ((N : Int) != (N : Int)) = false := by simp
      have hll : ((s'.lost : Int) != (s'.lost : Int)) = false := by simp
      have htt : ((t : Int) != (t : Int)) = false := by simp
      by_cases hmin : (N : Int) < (t : Int)
      · rw [show min t N = N by omega] at HA2
        go_wp2_with fail
        go_region_held3 (fun w' => w'.cell? ⟨q, 1, none⟩ = some (.slice av N cv) ∧ w'.cell? ⟨q, 2, none⟩ = some (.int .i64 s'.lost)) (go_keep) (first
          | (go_at_call 19; refine (HA1.out _ (Below.refl _ _).drew).mono ?_; clear HA1; rintro e v1 ⟨x1, y1, rfl, -, -, r1, b1⟩; have HB1 := hide (bel_on' (Below.refl _ _).drew b1); have SM := same_at (ca := y1) (cb := cv) rfl HNN.out (by rw [HNN.out]; have := HNL.out; omega) (row_mgs r1) (HMR.out _ HB1.out); clear r1 b1 g1 g2; obtain ⟨g1, g2⟩ := HQC.out _ HB1.out)
          | (go_at_call 18; refine SM.mono ?_; clear SM; rintro e v2 ⟨rfl, b2⟩; have HB2 := hide (bel_on' HB1.out b2); clear b2 g1 g2; obtain ⟨g1, g2⟩ := HQC.out _ HB2.out)
          | (go_at_call 20; refine (HLen.out _ HB2.out).mono ?_; rintro e v3 ⟨rfl, rfl⟩)
          | (go_at_call 21; refine (HLost.out _ HB2.out).mono ?_; rintro e v3 ⟨rfl, rfl⟩)
          | (go_at_call 19; refine (HA2.out _ HB2.out).mono ?_; rintro e v4 ⟨x4, y4, rfl, b4⟩; have HB4 := hide (bel_on' HB2.out b4); clear b4 g1 g2; obtain ⟨g1, g2⟩ := HQC.out _ HB4.out)
          | fail)
        all_goals go_wp2
        all_goals go_roundw
        all_goals first | exact ⟨j + 1, _, by go_num, by omega, HTW.out _ HB4.out⟩ | (simp [intOf]; omega)
      · rw [show min t N = t by omega] at HA2
        go_wp2_with fail
        go_region_held3 (fun w' => w'.cell? ⟨q, 1, none⟩ = some (.slice av N cv) ∧ w'.cell? ⟨q, 2, none⟩ = some (.int .i64 s'.lost)) (go_keep) (first
          | (go_at_call 19; refine (HA1.out _ (Below.refl _ _).drew).mono ?_; clear HA1; rintro e v1 ⟨x1, y1, rfl, -, -, r1, b1⟩; have HB1 := hide (bel_on' (Below.refl _ _).drew b1); have SM := same_at (ca := y1) (cb := cv) rfl HNN.out (by rw [HNN.out]; have := HNL.out; omega) (row_mgs r1) (HMR.out _ HB1.out); clear r1 b1 g1 g2; obtain ⟨g1, g2⟩ := HQC.out _ HB1.out)
          | (go_at_call 18; refine SM.mono ?_; clear SM; rintro e v2 ⟨rfl, b2⟩; have HB2 := hide (bel_on' HB1.out b2); clear b2 g1 g2; obtain ⟨g1, g2⟩ := HQC.out _ HB2.out)
          | (go_at_call 20; refine (HLen.out _ HB2.out).mono ?_; rintro e v3 ⟨rfl, rfl⟩)
          | (go_at_call 21; refine (HLost.out _ HB2.out).mono ?_; rintro e v3 ⟨rfl, rfl⟩)
          | (go_at_call 19; refine (HA2.out _ HB2.out).mono ?_; rintro e v4 ⟨x4, y4, rfl, b4⟩; have HB4 := hide (bel_on' HB2.out b4); clear b4 g1 g2; obtain ⟨g1, g2⟩ := HQC.out _ HB4.out)
          | fail)
        all_goals go_wp2
        all_goals go_roundw
        all_goals first | exact ⟨j + 1, _, by go_num, by omega, HTW.out _ HB4.out⟩ | (simp [intOf]; omega)
end Go.Proofs.Ytmndemjjfhdfdaa
