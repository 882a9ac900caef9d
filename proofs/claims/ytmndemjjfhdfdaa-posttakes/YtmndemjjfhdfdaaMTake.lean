/-
  PostTakes: the walk.
-/
import Derived.Test.YtmndemjjfhdfdaaPstL
import Derived.Test.YtmndemjjfhdfdaaPstC
import Derived.Test.YtmndemjjfhdfdaaMsgE
import Derived.Test.YtmndemjjfhdfdaaMsgR
import Derived.Test.YtmndemjjfhdfdaaNum
namespace Go.Proofs.Ytmndemjjfhdfdaa
open Go.ChangeShapes Go.WideShapes Go.ChangeAt Go.RowKit Go.Shelf

theorem put_all (M : Nat) : ∀ (l m : List Mg) (lo : Nat), m.length + l.length ≤ M → putPs ⟨M, m, lo⟩ l = ⟨M, m ++ l, lo⟩
  | [], m, lo, _ => by simp [putPs]
  | x :: l, m, lo, h => by
    have h' : m.length + (l.length + 1) ≤ M := h
    rw [putPs]
    have e : put1 ⟨M, m, lo⟩ x = ⟨M, m ++ [x], lo⟩ := if_pos (show m.length < M by omega)
    rw [e, put_all M l (m ++ [x]) lo (by rw [List.length_append, List.length_singleton]; omega), List.append_assoc]
    rfl

theorem same_at {a b : Option Addr} {l : List Mg} {n1 n2 ca cb : Nat} {w : World} (h1 : l.length = n1) (h2 : l.length = n2) (hl : l.length ≤ 9223372036854775807) (ha : Mgs w a l) (hb : Mgs w b l) :
    Calls Try.prog 18 #[.slice a n1 ca, .slice b n2 cb] w fun e w' => e = .returned (.bool true) ∧ Below w.heap.size w w' := by
  subst h1
  rw [← h2]
  exact same_msgs a b l ca cb w hl ha hb
theorem row_mgs' {W : World} {base n : Nat} {a : Option Addr} {c : Nat} {l : List Mg} (hl : l.length = n) (h : W.ownsRow base 35 7 (.slice a n c) n (mgCells l)) : Mgs W a l := by
  subst hl
  exact row_mgs h
/-- Take of what is none. -/
theorem tnone_any {B : Nat} {E : Nat → Prop} {w : World} {p : Nat} {s : Ps} (k : Pt B E w p s) {i : Int} (h : inP s.l i = false) :
    Calls Try.prog 14 #[.pointer (some ⟨p, 0, none⟩), .int .i64 i] w fun e w' => e = .returned (.tuple #[.agg #[.int .i64 zeroM.k, .int .i64 zeroM.fr, .int .i64 zeroM.to, .int .i64 zeroM.id, .int .i64 zeroM.st, .int .i64 zeroM.a, .int .i64 zeroM.b], .bool false]) ∧ Pt B E w' p s ∧ Rg.Kept (fun i _ => E i) w w' := by
  have T := ttake_any k i
  rw [atPs_no h, h, show takPs s i = s by unfold takPs; rw [h]; rfl] at T
  exact T

set_option maxHeartbeats 4000000 in
set_option maxRecDepth 100000 in
theorem postTakes_walk (l0 : List Mg) (a0 : Option Addr) (cap0 : Nat) (a1 : Int) (w : World) (w0 : MsIn w l0 a0 cap0) (_w1 : (Lit.int .i64 a1).wf = true) :
    Calls Try.prog 7 #[.slice a0 l0.length cap0, .int .i64 a1] w fun e w' => e = .returned (.bool true) ∧ Below w.heap.size w w' := by
  clear _w1
  obtain ⟨hlen, hM, hnone, hcap, -⟩ := w0
  have HW := hide tawake_any
  have HM := hide hM
  have HNO := hide hnone
  clear hM hnone
  obtain ⟨n, hn⟩ : ∃ n, l0.length = n := ⟨_, rfl⟩
  have HN := hide hn
  rw [hn] at hlen hcap ⊢
  clear hn
  by_cases h0 : n = 0
  · subst h0
    go_enter Try.func7, Try.ntmps7
    go_wp2_with (go_at_call 9; refine (HW.out _).mono ?_; rintro e u6 ⟨rfl, b6⟩; have HB6 := hide b6; clear b6)
    go_ret
    exact ⟨rfl, HB6.out⟩
  by_cases h60 : (n : Int) > 60
  · have q0 : ((n : Int) == 0) = false := by simp only [beq_eq_false_iff_ne]; omega
    go_enter Try.func7, Try.ntmps7
    go_wp2_with (go_at_call 9; refine (HW.out _).mono ?_; rintro e u6 ⟨rfl, b6⟩; have HB6 := hide b6; clear b6)
    go_ret
    exact ⟨rfl, HB6.out⟩
  have q0 : ((n : Int) == 0) = false := by simp only [beq_eq_false_iff_ne]; omega
  obtain ⟨b1, b2⟩ := um_bd a1 n (by omega) (by omega)
  obtain ⟨R, hR⟩ : ∃ R, um a1 n = R := ⟨_, rfl⟩
  rw [hR] at b1 b2
  unfold um at hR
  obtain ⟨i, rfl⟩ : ∃ i : Nat, R = i := ⟨R.toNat, by omega⟩
  have HNW := tnew_any 256 w
  rw [show newPs 256 = ⟨256, [], 0⟩ from rfl] at HNW
  go_enter Try.func7, Try.ntmps7
  go_wp2_with fail
  refine HNW.mono ?_
  rintro e u1 ⟨rfl, k1, b1'⟩
  have HB1 := hide b1'
  have P2 := tput_any (c := cap0) k1 (HM.out.below b1') (fun h ad e he => by have := HM.out.lt h ad e; omega) (by have := HN.out; omega)
  rw [put_all 256 l0 [] 0 (by have := HN.out; simp; omega), List.nil_append, HN.out] at P2
  have HK1 := hide k1
  clear HNW k1 b1' hR
  go_wp2_with fail
  refine P2.mono ?_
  rintro e u2 ⟨rfl, k2, o2⟩
  have HB2 := hide (HB1.out.trans (HK1.out.bel o2))
  have HK2 := hide k2
  obtain ⟨m, hm⟩ : ∃ m, l0[i]? = some m := ⟨_, List.getElem?_eq_getElem (show i < l0.length by have := HN.out; omega)⟩
  have T3 := ttake_any k2 i
  rw [atPs_nat hm, inP_nat (l := l0) (show i < l0.length by have := HN.out; omega)] at T3
  have et : takPs ⟨256, l0, 0⟩ i = ⟨256, l0.eraseIdx i, 0⟩ := by
    unfold takPs
    rw [inP_nat (show i < l0.length by have := HN.out; omega)]
    rfl
  rw [et] at T3
  have HMI := hide hm
  clear P2 k2 o2 et hm HB1 HK1
  go_wp2_with fail
  refine T3.mono ?_
  rintro e u3 ⟨rfl, k3, o3⟩
  have HB3 := hide (HB2.out.trans (HK2.out.bel o3))
  generalize growE (fun k => k = w.heap.size) u1 u2 = E3 at k3
  have HK3 := hide k3
  have hb4 : Below u3.heap.size u3 (u3.alloc (.cells #[.int .i64 m.k, .int .i64 m.fr, .int .i64 m.to, .int .i64 m.id, .int .i64 m.st, .int .i64 m.a, .int .i64 m.b] 35)) := bel_al (Below.refl _ _) _
  have hLE : (l0.eraseIdx i).length = n - 1 := by rw [List.length_eraseIdx, if_pos (by have := HN.out; omega), HN.out]
  have T4 := tnone_any (k3.on hb4) (i := -1) (inP_no (fun h => by omega))
  have HK4 := hide (k3.on hb4)
  have HB4 := hide (bel_al HB3.out (.cells #[.int .i64 m.k, .int .i64 m.fr, .int .i64 m.to, .int .i64 m.id, .int .i64 m.st, .int .i64 m.a, .int .i64 m.b] 35))
  have HX4 : Hid ((u3.alloc (.cells #[.int .i64 m.k, .int .i64 m.fr, .int .i64 m.to, .int .i64 m.id, .int .i64 m.st, .int .i64 m.a, .int .i64 m.b] 35)).heap[u3.heap.size]? = some (.cells #[.int .i64 m.k, .int .i64 m.fr, .int .i64 m.to, .int .i64 m.id, .int .i64 m.st, .int .i64 m.a, .int .i64 m.b] 35 (0, 0))) := World.alloc_heap_new _ _
  have HE3 : Hid (∀ k, E3 k → k < u3.heap.size) := fun k e => (k3.1 k e).2
  clear T3 k3 o3 HK2 HB2 hb4
  go_wp2_with fail
  refine T4.mono ?_
  rintro e u5 ⟨rfl, k5, o5⟩
  have hb5 : Below u5.heap.size u5 (u5.alloc (.cells #[.int .i64 zeroM.k, .int .i64 zeroM.fr, .int .i64 zeroM.to, .int .i64 zeroM.id, .int .i64 zeroM.st, .int .i64 zeroM.a, .int .i64 zeroM.b] 35)) := bel_al (Below.refl _ _) _
  have HB5 := hide (bel_al (HB4.out.trans (HK4.out.bel o5)) (.cells #[.int .i64 zeroM.k, .int .i64 zeroM.fr, .int .i64 zeroM.to, .int .i64 zeroM.id, .int .i64 zeroM.st, .int .i64 zeroM.a, .int .i64 zeroM.b] 35))
  have hx5 := o5.block _ _ HX4.out (fun e => by have := HE3.out _ e; omega)
  have HX5 := hide ((hb5.block _ (Array.getElem?_eq_some_iff.1 hx5).1).trans hx5)
  have HK5 := hide (k5.on hb5)
  have T5 := tnone_any (k5.on hb5) (i := (n : Int) - 1) (inP_no (fun h => by have h2 : (n : Int) - 1 < ((l0.eraseIdx i).length : Int) := h.2; rw [hLE] at h2; omega))
  clear T4 k5 o5 HK4 HB4 HX4 hx5 hb5
  go_wp2_with fail
  refine T5.mono ?_
  rintro e u6 ⟨rfl, k6, o6⟩
  have HB6 := hide (HB5.out.trans (HK5.out.bel o6))
  have HX6 := hide (o6.block _ _ HX5.out (fun e => by have := HE3.out _ e; omega))
  have HK6 := hide k6
  clear T5 k6 o6 HK5 HB5 HX5 HE3
  go_wp2_with fail
  obtain ⟨V, hV⟩ : ∃ V, u6.alloc (.cells #[.int .i64 zeroM.k, .int .i64 zeroM.fr, .int .i64 zeroM.to, .int .i64 zeroM.id, .int .i64 zeroM.st, .int .i64 zeroM.a, .int .i64 zeroM.b] 35) = V := ⟨_, rfl⟩
  have hbV : Below u6.heap.size u6 V := by rw [← hV]; exact bel_al (Below.refl _ _) _
  rw [hV]
  have HBV := hide (bel_on' HB6.out hbV)
  obtain ⟨b0, b1, b2', b3, b4, b5, b6⟩ := box7 ((hbV.block _ (Array.getElem?_eq_some_iff.1 HX6.out).1).trans HX6.out)
  obtain ⟨ba, oa, rfl, p0, p1, p2, p3, p4, p5, p6⟩ := (HM.out.below HBV.out).get HMI.out
  have HLE : Hid ((l0.eraseIdx i).length = n - 1) := hLE
  have HLL : Hid (l0.take i ++ l0.drop (i + 1) = l0.eraseIdx i) := (List.eraseIdx_eq_take_drop_succ ..).symm
  have HA : Hid (∀ u, Below V.heap.size V u → Calls Try.prog 19 #[.pointer (some ⟨w.heap.size, 0, none⟩), .int .i64 100] u (OwnM u (l0.eraseIdx i))) := fun u hu => by
    have := tlall_any ((HK6.out.on hbV).on hu) 100 (by omega)
    rwa [List.take_of_length_le (show (l0.eraseIdx i).length ≤ 100 by rw [hLE]; omega)] at this
  have HH : Hid (∀ u, Below V.heap.size V u → Mgs u (some ⟨ba, oa, none⟩) (l0.take i)) := fun u hu => ((HM.out.below HBV.out).below hu).head i
  have HT : Hid (∀ u, Below V.heap.size V u → Mgs u (tailM (some ⟨ba, oa, none⟩) cap0 (i + 1)) (l0.drop (i + 1))) := fun u hu => ((HM.out.below HBV.out).below hu).tail cap0 (i + 1) (by have := HN.out; omega)
  have KT : Hid (tailM (some ⟨ba, oa, none⟩) cap0 (i + 1) = none → n - (i + 1) = 0 ∧ cap0 - (i + 1) = 0) := fun h => by have := tailM_nil h; cases this
  have L1 : Hid ((l0.take i).length = i) := by show _ = _; rw [List.length_take]; have := HN.out; omega
  have L2 : Hid ((l0.drop (i + 1)).length = n - (i + 1)) := by show _ = _; rw [List.length_drop, HN.out]
  have hs1 := fun W => head_runM W (some ⟨ba, oa, none⟩) n cap0 i (by omega)
  have hs2 := fun W => tail_runM1 W (some ⟨ba, oa, none⟩) n cap0 i (by omega)
  have hwi : IntKind.i64.wrap ((i : Int) + 1) = (i : Int) + 1 := by rw [IntKind.wrap_i64]; omega
  have HS : Hid (∀ u, Below V.heap.size V u → (u.cell? ⟨u3.heap.size, 0, none⟩ = some (.int .i64 m.k) ∧ u.cell? ⟨u3.heap.size, 1, none⟩ = some (.int .i64 m.fr) ∧ u.cell? ⟨u3.heap.size, 2, none⟩ = some (.int .i64 m.to) ∧ u.cell? ⟨u3.heap.size, 3, none⟩ = some (.int .i64 m.id) ∧ u.cell? ⟨u3.heap.size, 4, none⟩ = some (.int .i64 m.st) ∧ u.cell? ⟨u3.heap.size, 5, none⟩ = some (.int .i64 m.a) ∧ u.cell? ⟨u3.heap.size, 6, none⟩ = some (.int .i64 m.b) ∧ u.cell? ⟨ba, oa + i * 7, none⟩ = some (.int .i64 m.k) ∧ u.cell? ⟨ba, oa + i * 7 + 1, none⟩ = some (.int .i64 m.fr) ∧ u.cell? ⟨ba, oa + i * 7 + 2, none⟩ = some (.int .i64 m.to) ∧ u.cell? ⟨ba, oa + i * 7 + 3, none⟩ = some (.int .i64 m.id) ∧ u.cell? ⟨ba, oa + i * 7 + 4, none⟩ = some (.int .i64 m.st) ∧ u.cell? ⟨ba, oa + i * 7 + 5, none⟩ = some (.int .i64 m.a) ∧ u.cell? ⟨ba, oa + i * 7 + 6, none⟩ = some (.int .i64 m.b))) := fun u hu => ⟨cellL b0 hu, cellL b1 hu, cellL b2' hu, cellL b3 hu, cellL b4 hu, cellL b5 hu, cellL b6 hu, cellL p0 hu, cellL p1 hu, cellL p2 hu, cellL p3 hu, cellL p4 hu, cellL p5 hu, cellL p6 hu⟩
  have heq := eql_msg
  have hgd := guard_msg
  have hqq : (m.k == m.k && m.fr == m.fr && m.to == m.to && m.id == m.id && m.st == m.st && m.a == m.a && m.b == m.b) = true := by simp
  have qi : (i : Int) < (n : Int) := by omega
  clear hbV hV hLE HK6 HX6 HB6
  have NN : Hid (i + (n - (i + 1)) = n - 1) := by show _ = _; omega
  go_region_held3 (fun w' => w'.cell? ⟨u3.heap.size, 0, none⟩ = some (.int .i64 m.k) ∧ w'.cell? ⟨u3.heap.size, 1, none⟩ = some (.int .i64 m.fr) ∧ w'.cell? ⟨u3.heap.size, 2, none⟩ = some (.int .i64 m.to) ∧ w'.cell? ⟨u3.heap.size, 3, none⟩ = some (.int .i64 m.id) ∧ w'.cell? ⟨u3.heap.size, 4, none⟩ = some (.int .i64 m.st) ∧ w'.cell? ⟨u3.heap.size, 5, none⟩ = some (.int .i64 m.a) ∧ w'.cell? ⟨u3.heap.size, 6, none⟩ = some (.int .i64 m.b) ∧ w'.cell? ⟨ba, oa + i * 7, none⟩ = some (.int .i64 m.k) ∧ w'.cell? ⟨ba, oa + i * 7 + 1, none⟩ = some (.int .i64 m.fr) ∧ w'.cell? ⟨ba, oa + i * 7 + 2, none⟩ = some (.int .i64 m.to) ∧ w'.cell? ⟨ba, oa + i * 7 + 3, none⟩ = some (.int .i64 m.id) ∧ w'.cell? ⟨ba, oa + i * 7 + 4, none⟩ = some (.int .i64 m.st) ∧ w'.cell? ⟨ba, oa + i * 7 + 5, none⟩ = some (.int .i64 m.a) ∧ w'.cell? ⟨ba, oa + i * 7 + 6, none⟩ = some (.int .i64 m.b)) (go_keep) (first
    | (go_at_call 19; refine (HA.out _ (Below.refl _ _).drew).mono ?_; rintro e u7 ⟨a7, c7, rfl, -, -, r7, b7⟩; have B7 := hide (bel_on' (Below.refl _ _).drew b7); have G7 := hide (row_mgs r7); clear r7 b7; have KS := HS.out _ B7.out; clear b0 b1 b2' b3 b4 b5 b6 p0 p1 p2 p3 p4 p5 p6; obtain ⟨b0, b1, b2', b3, b4, b5, b6, p0, p1, p2, p3, p4, p5, p6⟩ := KS)
    | (go_at_call 19; refine (HA.out _ (bel_al (Below.refl _ _) _).drew).mono ?_; rintro e u7 ⟨a7, c7, rfl, -, -, r7, b7⟩; have B7 := hide (bel_on' (bel_al (Below.refl _ _) _).drew b7); have Q7 := hide ((RowX.new (Below.refl _ _)).drew.both b7 r7); clear r7 b7; have KS := HS.out _ B7.out; clear b0 b1 b2' b3 b4 b5 b6 p0 p1 p2 p3 p4 p5 p6; obtain ⟨b0, b1, b2', b3, b4, b5, b6, p0, p1, p2, p3, p4, p5, p6⟩ := KS)
    | (go_at_call 19; refine (HA.out _ R8.out.bel).mono ?_; rintro e u7 ⟨a7, c7, rfl, -, -, r7, b7⟩; have B7 := hide (bel_on' R8.out.bel b7); have Q8 := hide (R8.out.both b7 r7); clear r7 b7 R8; have KS := HS.out _ B7.out; clear b0 b1 b2' b3 b4 b5 b6 p0 p1 p2 p3 p4 p5 p6; obtain ⟨b0, b1, b2', b3, b4, b5, b6, p0, p1, p2, p3, p4, p5, p6⟩ := KS)
    | (go_at_call 19; refine (HA.out _ R9.out.bel).mono ?_; rintro e u7 ⟨a7, c7, rfl, -, -, r7, b7⟩; have B7 := hide (bel_on' R9.out.bel b7); have Q9 := hide (R9.out.both b7 r7); clear r7 b7 R9; have KS := HS.out _ B7.out; clear b0 b1 b2' b3 b4 b5 b6 p0 p1 p2 p3 p4 p5 p6; obtain ⟨b0, b1, b2', b3, b4, b5, b6, p0, p1, p2, p3, p4, p5, p6⟩ := KS)
    | (refine step_mgs rfl (.tmp 71) (.tmp 74) rfl V.heap.size _ 0 [] rfl rfl ((RowX.new (Below.refl _ _)).drew).own.2 (some ⟨ba, oa, none⟩) (l0.take i) i cap0 L1.out rfl (fun h => by cases h) (HH.out _ ((RowX.new (Below.refl _ _)).drew).bel) i (Nat.zero_add i) (by omega) ((RowX.new (Below.refl _ _)).drew).bel.size ?_; intro a8 c8 w8 o8 g8 k8; have R8 := hide (((RowX.new (Below.refl _ _)).drew).app L1.out (Nat.zero_add i) o8 g8 k8); have B8 := hide R8.out.bel; have KS := HS.out _ B8.out; clear b0 b1 b2' b3 b4 b5 b6 p0 p1 p2 p3 p4 p5 p6; obtain ⟨b0, b1, b2', b3, b4, b5, b6, p0, p1, p2, p3, p4, p5, p6⟩ := KS; clear o8 g8 k8)
    | (refine step_mgs rfl (.tmp 71) (.tmp 74) rfl V.heap.size _ 0 [] rfl rfl ((Both.new B7.out G7.out).row).own.2 (some ⟨ba, oa, none⟩) (l0.take i) i cap0 L1.out rfl (fun h => by cases h) (HH.out _ ((Both.new B7.out G7.out).row).bel) i (Nat.zero_add i) (by omega) ((Both.new B7.out G7.out).row).bel.size ?_; intro a8 c8 w8 o8 g8 k8; have Q8 := hide ((Both.new B7.out G7.out).app L1.out (Nat.zero_add i) o8 g8 k8); have B8 := hide Q8.out.row.bel; have KS := HS.out _ B8.out; clear b0 b1 b2' b3 b4 b5 b6 p0 p1 p2 p3 p4 p5 p6; obtain ⟨b0, b1, b2', b3, b4, b5, b6, p0, p1, p2, p3, p4, p5, p6⟩ := KS; clear o8 g8 k8)
    | (refine step_mgs rfl (.tmp 71) (.tmp 74) rfl V.heap.size _ 0 [] rfl rfl (Q7.out.row).own.2 (some ⟨ba, oa, none⟩) (l0.take i) i cap0 L1.out rfl (fun h => by cases h) (HH.out _ (Q7.out.row).bel) i (Nat.zero_add i) (by omega) (Q7.out.row).bel.size ?_; intro a8 c8 w8 o8 g8 k8; have Q8 := hide (Q7.out.app L1.out (Nat.zero_add i) o8 g8 k8); have B8 := hide Q8.out.row.bel; have KS := HS.out _ B8.out; clear b0 b1 b2' b3 b4 b5 b6 p0 p1 p2 p3 p4 p5 p6; obtain ⟨b0, b1, b2', b3, b4, b5, b6, p0, p1, p2, p3, p4, p5, p6⟩ := KS; clear Q7; clear o8 g8 k8)
    | (refine step_mgs rfl (.tmp 75) (.tmp 79) rfl V.heap.size _ i ([] ++ l0.take i) (R8.out).own.1 rfl (R8.out).own.2 (tailM (some ⟨ba, oa, none⟩) cap0 (i + 1)) (l0.drop (i + 1)) (n - (i + 1)) (cap0 - (i + 1)) L2.out rfl KT.out (HT.out _ (R8.out).bel) (n - 1) NN.out (by omega) (R8.out).bel.size ?_; intro a9 c9 w9 o9 g9 k9; have R9 := hide (R8.out.app L2.out NN.out o9 g9 k9); rw [List.nil_append, HLL.out] at R9; have B9 := hide R9.out.bel; have KS := HS.out _ B9.out; clear b0 b1 b2' b3 b4 b5 b6 p0 p1 p2 p3 p4 p5 p6; obtain ⟨b0, b1, b2', b3, b4, b5, b6, p0, p1, p2, p3, p4, p5, p6⟩ := KS; clear R8; clear o9 g9 k9)
    | (refine step_mgs rfl (.tmp 75) (.tmp 79) rfl V.heap.size _ i ([] ++ l0.take i) (Q8.out.row).own.1 rfl (Q8.out.row).own.2 (tailM (some ⟨ba, oa, none⟩) cap0 (i + 1)) (l0.drop (i + 1)) (n - (i + 1)) (cap0 - (i + 1)) L2.out rfl KT.out (HT.out _ (Q8.out.row).bel) (n - 1) NN.out (by omega) (Q8.out.row).bel.size ?_; intro a9 c9 w9 o9 g9 k9; have Q9 := hide (Q8.out.app L2.out NN.out o9 g9 k9); rw [List.nil_append, HLL.out] at Q9; have B9 := hide Q9.out.row.bel; have KS := HS.out _ B9.out; clear b0 b1 b2' b3 b4 b5 b6 p0 p1 p2 p3 p4 p5 p6; obtain ⟨b0, b1, b2', b3, b4, b5, b6, p0, p1, p2, p3, p4, p5, p6⟩ := KS; clear Q8; clear o9 g9 k9)
    | (go_at_call 18; obtain ⟨z1, z2⟩ := Q9.out.row.own; refine (same_at rfl z1 (by rw [z1]; omega) Q9.out.got (row_mgs' z1 z2)).mono ?_; rintro e u10 ⟨rfl, b10⟩; have B10 := hide (bel_on' Q9.out.row.bel b10); clear b10 z1 z2 Q9; have KS := HS.out _ B10.out; clear b0 b1 b2' b3 b4 b5 b6 p0 p1 p2 p3 p4 p5 p6; obtain ⟨b0, b1, b2', b3, b4, b5, b6, p0, p1, p2, p3, p4, p5, p6⟩ := KS)
    | (go_at_call 9; refine (HW.out _).mono ?_; rintro e u11 ⟨rfl, b11⟩; have B11 := hide (bel_on' B10.out b11); clear b11; have KS := HS.out _ B11.out; clear b0 b1 b2' b3 b4 b5 b6 p0 p1 p2 p3 p4 p5 p6; obtain ⟨b0, b1, b2', b3, b4, b5, b6, p0, p1, p2, p3, p4, p5, p6⟩ := KS)
    | fail)
  all_goals go_wp2
  all_goals go_ret
  all_goals exact ⟨rfl, bel_on' HBV.out B11.out⟩
end Go.Proofs.Ytmndemjjfhdfdaa
