/-
  JournalPlays: any calls: each answer, all lines, all entries; a loop that ends early.
-/
import Derived.Test.YthjcedbjjphleaaGreatDoorJrnP
namespace Go.Proofs.YthjcedbjjphleaaGreatDoor
open Go.ChangeShapes Go.WideShapes Go.ChangeAt Go.RowKit

theorem strs_row {w : World} {B : Nat} {a : Option Addr} {c : Nat} {L : List ByteArray} (h : w.ownsRow B 9 1 (.slice a L.length c) L.length (L.map Value.string)) : Strs w a L := by
  obtain ⟨a', c', e, _, _, hs⟩ := owned_strs h
  simp only [Value.slice.injEq] at e
  obtain ⟨rfl, _, rfl⟩ := e
  exact hs
def PRel (w : World) (p q : Nat) (room : Int) (n : Nat) (i : Value) (wr : World) : Prop :=
  ∃ (j s : Nat) (d : Bool) (v1 v2 : Value) (L : List ByteArray), i = .int .i64 j ∧ j ≤ n ∧ Hid (Inv L s d) ∧ Hid (Jr w.heap.size wr p v1 room L s d) ∧ Hid (R.Jr w.heap.size wr q v2 room L s d) ∧ Hid (Apart v1 v2) ∧ Hid (Below w.heap.size w wr)

set_option maxRecDepth 100000 in
set_option maxHeartbeats 4000000 in
theorem journalPlays_walk (a0 : Int) (a1 : Option Addr) (len1 cap1 : Nat) (cl1 : List Cv) (a2 : Int) (w : World) (_w0 : (Lit.int .i64 a0).wf = true) (e1 : cl1.length = len1) (m1 : len1 ≤ 9223372036854775807) (w1 : CallsAt w a1 cl1) (_w2 : (Lit.int .i64 a2).wf = true) (hg : Gl w) :
    Calls Tryz.prog 3 #[.int .i64 a0, .slice a1 len1 cap1, .int .i64 a2] w fun e w' => e = .returned (.bool true) ∧ Below w.heap.size w w' := by
  subst e1
  obtain ⟨b0, b1⟩ := um_bd a2 5 (by omega) (by omega)
  obtain ⟨t, ht⟩ : ∃ t : Nat, um a2 5 = t := ⟨(um a2 5).toNat, by omega⟩
  have ht' : wrap64 ((IntKind.u64.wrap a2).tmod 5) = (t : Int) := ht
  clear b0 b1 ht _w0 _w2
  have HG := hide hg
  have HC := hide w1
  have HF := few_any a1 cl1 cap1 w m1 w1
  clear hg w1
  go_enter Tryz.func3, Tryz.ntmps3
  go_wp2_with fail
  refine HF.mono ?_
  rintro e u1 ⟨⟨rfl, hfew⟩ | rfl, hb1⟩
  rotate_left
  · have HB1 := hide hb1
    clear hb1 HF
    go_wp2_with fail
    refine (jawake_any _ (HG.out.on HB1.out)).mono ?_
    rintro e u2 ⟨rfl, hb2⟩
    go_wp2
    go_ret
    exact ⟨rfl, bel_on' HB1.out hb2⟩
  have HFW := hide hfew
  have HN := new_any a0 u1
  have hrm := roomV_in a0
  obtain ⟨room, hroom⟩ : ∃ room, roomV a0 = room := ⟨_, rfl⟩
  rw [hroom] at hrm HN
  obtain ⟨W1, hW1⟩ : ∃ W1, W1 = u1.alloc (.cells #[.int .i64 room, .slice none 0 0, .int .i64 0, .bool false] 51) := ⟨_, rfl⟩
  have HN2 := R.new_any a0 W1
  rw [hroom] at HN2
  obtain ⟨W2, hW2⟩ : ∃ W2, W2 = W1.alloc (.cells #[.int .i64 room, .slice none 0 0, .int .i64 0, .bool false] 46) := ⟨_, rfl⟩
  have hbW1 : Below w.heap.size w W1 := by rw [hW1]; exact hb1.alloc hb1.size _
  have HBW : Hid (Below w.heap.size w W2) := by show Below w.heap.size w W2; rw [hW2]; exact hbW1.alloc hbW1.size _
  have hj0 : Jr w.heap.size W1 u1.heap.size (.slice none 0 0) room [] 0 false := by rw [hW1]; exact Jr.new u1 w.heap.size hb1.size room hrm.1 hrm.2
  have hr0 : R.Jr w.heap.size W2 W1.heap.size (.slice none 0 0) room [] 0 false := by rw [hW2]; exact R.Jr.new W1 w.heap.size hbW1.size room hrm.1 hrm.2
  have hj1 : Jr w.heap.size W2 u1.heap.size (.slice none 0 0) room [] 0 false := hj0.on (by rw [hW2]; exact (Below.refl _ _).alloc (Nat.le_refl _) _)
  obtain ⟨p, hp⟩ : ∃ p, u1.heap.size = p := ⟨_, rfl⟩
  obtain ⟨q, hq⟩ : ∃ q, W1.heap.size = q := ⟨_, rfl⟩
  rw [hp] at hj1 HN
  rw [hq] at hr0 HN2
  have HJ1 := hide hj1
  have HR1 := hide hr0
  rw [← hW1] at HN
  rw [← hW2] at HN2
  clear hj0 hj1 hr0 hbW1 hb1 HF hfew hroom hrm hW1 hW2 hp hq
  go_wp2_with fail
  refine HN.mono ?_
  rintro e u2 ⟨rfl, rfl⟩
  clear HN
  go_wp2_with fail
  refine HN2.mono ?_
  rintro e u3 ⟨rfl, rfl⟩
  clear HN2
  have HBc : Hid (∀ u, Below w.heap.size w u → CallsAt u a1 cl1) := fun u hu => HC.out.below hu
  go_wp2_with fail
  rw [ht']
  clear ht'
  go_loopw [29] (fun i wr => PRel w p q room cl1.length i wr) (fun i _ => cl1.length - (intOf i).toNat)
  case atStart => exact ⟨0, 0, false, .slice none 0 0, .slice none 0 0, [], rfl, Nat.zero_le _, (fun _ => ⟨Nat.le_refl _, fun x hx => by cases hx⟩), HJ1, HR1, (fun k hk => by cases hk), HBW⟩
  case round =>
    obtain ⟨j, s, d, v1, v2, L, rfl, hj, HI, HJ, HRJ, HAP, HB⟩ := hrel
    by_cases hlt : j < cl1.length
    · have ql : (j : Int) < (cl1.length : Int) := by omega
      obtain ⟨c, hc⟩ : ∃ c, cl1[j]? = some c := ⟨cl1[j], by simp [hlt]⟩
      rcases HBc.out wr HB.out with h | ⟨b, off, rfl, hca⟩
      · subst h; simp at hlt
      obtain ⟨⟨c0, c1, c2, c3, c4, c5⟩, hin⟩ := hca j c hc
      have hfc := HFW.out.2 c (List.mem_of_getElem? hc)
      have HCW : Hid (Ints w c.av c.l) := by
        rcases HC.out with h | ⟨b', off', h1, h2⟩
        · subst h; simp at hlt
        · exact (h2 j c hc).2.2.1
      obtain ⟨U, hU⟩ : ∃ U, U = wr.alloc (.cells #[.int .i64 c.d, .int .i64 c.s, .int .i64 c.t, .string c.k, .int .i64 c.id, .slice c.av c.l.length c.cv] 34) := ⟨_, rfl⟩
      have hbU : Below wr.heap.size wr U := by rw [hU]; exact (Below.refl _ _).alloc (Nat.le_refl _) _
      have HJU := hide (HJ.out.on hbU)
      have HRU := hide (HRJ.out.on hbU)
      have HBU := hide (bel_on' HB.out hbU)
      have HUW := hide hU
      have hvl : v1.ownBlock ≠ some wr.heap.size := fun e => by have := (HJ.out.2.2.1.lt _ e).2; omega
      have hpl : wr.heap.size ≠ p := by have := HJ.out.lt; omega
      have hvr : v2.ownBlock ≠ some wr.heap.size := fun e => by have := (HRJ.out.2.2.1.lt _ e).2; omega
      have hqr : wr.heap.size ≠ q := by have := HRJ.out.lt; omega
      clear hca hc hbU hin HJ1 HR1 HBW
      by_cases hd0 : c.d = 0
      · have q0 : (c.d == 0) = true := by simp [hd0]
        clear hd0
        obtain ⟨L4, hL4⟩ : ∃ L4, addL room L d c.k c.id c.l = L4 := ⟨_, rfl⟩
        obtain ⟨E, hE⟩ : ∃ E, addE room L d c.k c.id c.l = E := ⟨_, rfl⟩
        have HI4 : Hid (Inv L4 s d) := by show Inv L4 s d; rw [← hL4]; exact HI.out.add room c.k c.id c.l
        have HLQ := hide hL4
        have HEE := hide hE
        have hbD : Below U.heap.size U U.drew := (Below.refl _ _).drew
        have HJD := hide (HJU.out.on hbD)
        have HRD := hide (HRU.out.on hbD)
        have HBD := hide (bel_on' HBU.out hbD)
        have A := add_any HJD.out c.k c.id c.av c.l c.cv (by unfold maxLen; omega) (HCW.out.below HBD.out) (by omega) (HG.out.on HBD.out)
        rw [hL4, hE] at A
        have k3 : U.cell? ⟨wr.heap.size, 3, none⟩ = some (.string c.k) := by rw [hU]; simp
        have k4 : U.cell? ⟨wr.heap.size, 4, none⟩ = some (.int .i64 c.id) := by rw [hU]; simp
        have k5 : U.cell? ⟨wr.heap.size, 5, none⟩ = some (.slice c.av c.l.length c.cv) := by rw [hU]; simp
        have NA : Hid (∀ u v, Off p v1 v U.drew u → (u.cell? ⟨wr.heap.size, 3, none⟩ = some (.string c.k) ∧ u.cell? ⟨wr.heap.size, 4, none⟩ = some (.int .i64 c.id) ∧ u.cell? ⟨wr.heap.size, 5, none⟩ = some (.slice c.av c.l.length c.cv)) ∧ R.Jr w.heap.size u q v2 room L s d ∧ Apart v v2 ∧ Below w.heap.size w u ∧
            Calls Tryz.prog 9 #[.pointer (some ⟨q, 0, none⟩), .agg #[.string c.k, .int .i64 c.id, .slice c.av c.l.length c.cv]] u fun e w' => ∃ v', e = .returned (.int .i64 E) ∧ R.Jr w.heap.size w' q v' room L4 s d ∧ Off q v2 v' u w') := fun u v ho => by
          obtain ⟨h1, h2⟩ := R.Jr.other HJD.out HRD.out HAP.out ho
          have h3 := HBD.out.trans (HJD.out.bel ho)
          have h4 := R.add_any h1 c.k c.id c.av c.l c.cv (by unfold maxLen; omega) (HCW.out.below h3) (by omega) (HG.out.on h3)
          rw [HLQ.out, HEE.out] at h4
          exact ⟨⟨ho.cell (cellL k3 hbD) hpl hvl, ho.cell (cellL k4 hbD) hpl hvl, ho.cell (cellL k5 hbD) hpl hvl⟩, h1, h2, h3, h4⟩
        have NB : Hid (∀ u v u' v', Jr w.heap.size u p v room L4 s d → R.Jr w.heap.size u q v2 room L s d → Apart v v2 → (u.cell? ⟨wr.heap.size, 3, none⟩ = some (.string c.k) ∧ u.cell? ⟨wr.heap.size, 4, none⟩ = some (.int .i64 c.id) ∧ u.cell? ⟨wr.heap.size, 5, none⟩ = some (.slice c.av c.l.length c.cv)) → Off q v2 v' u u' →
            (u'.cell? ⟨wr.heap.size, 3, none⟩ = some (.string c.k) ∧ u'.cell? ⟨wr.heap.size, 4, none⟩ = some (.int .i64 c.id) ∧ u'.cell? ⟨wr.heap.size, 5, none⟩ = some (.slice c.av c.l.length c.cv)) ∧ Jr w.heap.size u' p v room L4 s d ∧ Apart v v') := fun u v u' v' h1 h2 h3 ⟨x3, x4, x5⟩ ho => by
          obtain ⟨y1, y2⟩ := h1.other h2 h3 ho
          exact ⟨⟨ho.cell x3 hqr hvr, ho.cell x4 hqr hvr, ho.cell x5 hqr hvr⟩, y1, y2⟩
        clear hL4 hE hbD hU
        go_wp2_with fail
        rw [← HUW.out]
        go_region_held3 (fun w' => w'.cell? ⟨wr.heap.size, 3, none⟩ = some (.string c.k) ∧ w'.cell? ⟨wr.heap.size, 4, none⟩ = some (.int .i64 c.id) ∧ w'.cell? ⟨wr.heap.size, 5, none⟩ = some (.slice c.av c.l.length c.cv)) (go_keep) (first
          | (go_at_call 8; refine A.mono ?_; clear A; rintro e u3 ⟨v3, rfl, hj3, ho3⟩; clear k3 k4 k5; obtain ⟨⟨k3, k4, k5⟩, hr3, ha3, hb3, A4⟩ := NA.out u3 v3 ho3; have HJ3 := hide hj3; have HR3 := hide hr3; have HA3 := hide ha3; have HB3 := hide hb3; have K345 := hide (And.intro k3 (And.intro k4 k5)); clear hj3 hr3 ha3 hb3 ho3)
          | (go_at_call 9; refine A4.mono ?_; clear A4; rintro e u4 ⟨v4, rfl, hr4, ho4⟩; clear k3 k4 k5; obtain ⟨⟨k3, k4, k5⟩, hj4, ha4⟩ := NB.out u3 v3 u4 v4 HJ3.out HR3.out HA3.out K345.out ho4; have HJ4 := hide hj4; have HR4 := hide hr4; have HA4 := hide ha4; have HB4 := hide (HB3.out.trans (HR3.out.bel ho4)); clear hj4 hr4 ha4 ho4))
        have qE : (E == E) = true := by simp
        clear k3 k4 k5 NA NB
        obtain ⟨b4, c4, rfl, -, -⟩ := HR4.out.row
        have RA := rall_any HG.out HB4.out HR4.out
        have hL4 : L4.length ≤ 4096 := HR4.out.2.2.2.2.1
        go_wp2_with fail
        refine RA.mono ?_
        rintro e u5 ⟨ys, ay, cy, rfl, hyl, hry, hey, hb5⟩
        have HN5 : Hid (∀ u, Below u5.heap.size u5 u → (u.cell? ⟨q, 1, none⟩ = some (.slice b4 L4.length c4) ∧ u.cell? ⟨q, 2, none⟩ = some (.int .i64 (s : Nat)) ∧ u.cell? ⟨q, 3, none⟩ = some (.bool d)) ∧ Jr w.heap.size u p v3 room L4 s d ∧ Below w.heap.size w u ∧ Strs u b4 L4 ∧ Ents u ay ys) := fun u hu => by
          have h1 := HR4.out.on (bel_on' hb5 hu)
          obtain ⟨⟨-, x1, x2, x3⟩, -⟩ := h1.cells
          exact ⟨⟨x1, x2, x3⟩, HJ4.out.on (bel_on' hb5 hu), bel_on' HB4.out (bel_on' hb5 hu), strs_row h1.2.2.1, hey.below hu⟩
        have HRY := hide hry
        have HR5B := hide hb5
        have HMY : Hid (min 5000 ((wholeD fun s => Classical.propDecidable (Ok s)) L4) = ys.length) := by show _ = _; have := whole_le L4; omega
        have HMT : Hid (min t ((wholeD fun s => Classical.propDecidable (Ok s)) L4) = min t ys.length) := by show _ = _; rw [hyl]
        have HY4 : Hid (ys.length ≤ 4096) := by show _ ≤ _; have := whole_le L4; omega
        have HL4 := hide hL4
        have H5 := hide ((Below.refl u5.heap.size u5).drew)
        have L1 := lines_any (HN5.out _ H5.out).2.1
        clear RA hb5 hyl hry hey hL4
        obtain ⟨⟨d1, d2, d3⟩, -⟩ := HN5.out u5 (Below.refl _ _)
        go_wp2_with fail
        go_region_held3 (fun w' => w'.cell? ⟨q, 1, none⟩ = some (.slice b4 L4.length c4) ∧ w'.cell? ⟨q, 2, none⟩ = some (.int .i64 (s : Nat)) ∧ w'.cell? ⟨q, 3, none⟩ = some (.bool d)) (go_keep) (first
          | (go_at_call 18; refine L1.mono ?_; clear L1; rintro e u7 ⟨a7, c7, rfl, ho7, hb7⟩; have HB7 := hide (bel_on' H5.out hb7); clear d1 d2 d3; obtain ⟨⟨d1, d2, d3⟩, -, -, hs7, -⟩ := HN5.out u7 HB7.out; have T7 := texts_any a7 b4 L4 c7 c4 u7 HL4.out (strs_row ho7) hs7; clear ho7 hb7 hs7)
          | (go_at_call 17; refine T7.mono ?_; clear T7; rintro e u8 ⟨rfl, hb8⟩; have HB8 := hide (bel_on' HB7.out hb8); clear d1 d2 d3; obtain ⟨⟨d1, d2, d3⟩, hj8, -⟩ := HN5.out u8 HB8.out; have S8 := sure_any hj8; clear hb8 hj8)
          | (go_at_call 19; refine S8.mono ?_; clear S8; rintro e u9 ⟨rfl, hb9⟩; have HB9 := hide (bel_on' HB8.out hb9); clear d1 d2 d3; obtain ⟨⟨d1, d2, d3⟩, hj9, -⟩ := HN5.out u9 HB9.out; have D9 := down_any hj9; clear hb9 hj9)
          | (go_at_call 20; refine D9.mono ?_; clear D9; rintro e u10 ⟨rfl, hb10⟩; have HB10 := hide (bel_on' HB9.out hb10); clear d1 d2 d3; obtain ⟨⟨d1, d2, d3⟩, hj10, hw10, -⟩ := HN5.out u10 HB10.out; have A10 := told_any HG.out hw10 hj10 5000; clear hb10 hj10 hw10)
          | (go_at_call 22; refine A10.mono ?_; clear A10; rintro e u11 ⟨xs, a11, c11, rfl, hxl, -, hrx, hrow, hgd, hb11⟩; have HB11 := hide (bel_on' HB10.out hb11); clear d1 d2 d3; obtain ⟨⟨d1, d2, d3⟩, -, -, -, he11⟩ := HN5.out u11 HB11.out; have M11 := jsame_any a11 ay xs ys c11 cy u11 (by have := HMY.out; have := HY4.out; omega) (ents_of hrow hgd) he11 (rd_alike (hxl.trans HMY.out) hrx HRY.out); clear hxl hrx hrow hgd hb11 he11)
          | (go_at_call 21; refine M11.mono ?_; clear M11; rintro e u12 ⟨rfl, hb12⟩; have HB12 := hide (bel_on' HB11.out hb12); clear d1 d2 d3; obtain ⟨⟨d1, d2, d3⟩, hj12, hw12, -⟩ := HN5.out u12 HB12.out; have A12 := told_any HG.out hw12 hj12 t; clear hb12 hj12 hw12)
          | (go_at_call 22; refine A12.mono ?_; clear A12; rintro e u13 ⟨zs, a13, c13, rfl, hzl, -, -, -, -, hb13⟩; have HB13 := hide (bel_on' HB12.out hb13); clear d1 d2 d3; obtain ⟨⟨d1, d2, d3⟩, -⟩ := HN5.out u13 HB13.out; have qz : ((zs.length : Int) == min (t : Int) (ys.length : Int)) = true := (by have := HMT.out; simp; omega); have qy : ((zs.length : Int) != min (t : Int) (ys.length : Int)) = false := (by have := HMT.out; simp; omega); clear hzl hb13))
        go_wp2
        all_goals go_roundw
        all_goals (first | exact ⟨j + 1, s, d, v3, .slice b4 L4.length c4, L4, by go_num, by omega, HI4, (HN5.out u13 HB13.out).2.1, HR4.out.on (bel_on' HR5B.out HB13.out), HA4, (HN5.out u13 HB13.out).2.2.1⟩ | (simp [intOf]; omega))
      have q0 : (c.d == 0) = false := by simp [hd0]
      by_cases hd1 : c.d = 1
      · have q1 : (c.d == 1) = true := by simp [hd1]
        clear hd0 hd1
        have A := sync_all HJU.out
        obtain ⟨S4, hS4⟩ : ∃ S4, syS L s d = S4 := ⟨_, rfl⟩
        obtain ⟨E, hE⟩ : ∃ E, syE d = E := ⟨_, rfl⟩
        have HI4 : Hid (Inv L S4 d) := by show Inv L S4 d; rw [← hS4]; exact HI.out.sync
        have HSS := hide hS4
        have HEE := hide hE
        rw [hU, hS4, hE] at A
        clear hU hS4 hE
        go_wp2_with fail
        refine A.mono ?_
        rintro e u3 ⟨v3, rfl, hj3, ho3⟩
        rw [← HUW.out] at ho3
        obtain ⟨hr3, ha3⟩ := R.Jr.other HJU.out HRU.out HAP.out ho3
        have HJ3 := hide hj3
        have HR3 := hide hr3
        have HA3 := hide ha3
        have HB3 := hide (HBU.out.trans (HJU.out.bel ho3))
        have A4 := R.sync_all hr3
        rw [HSS.out, HEE.out] at A4
        clear A hj3 hr3 ha3 ho3
        go_wp2_with fail
        refine A4.mono ?_
        rintro e u4 ⟨v4, rfl, hr4, ho4⟩
        obtain ⟨hj4, ha4⟩ := HJ3.out.other HR3.out HA3.out ho4
        have HJ4 := hide hj4
        have HR4 := hide hr4
        have HA4 := hide ha4
        have HB4 := hide (HB3.out.trans (HR3.out.bel ho4))
        have qE : (E == E) = true := by simp
        clear A4 hj4 hr4 ha4 ho4
        obtain ⟨b4, c4, rfl, -, -⟩ := HR4.out.row
        have RA := rall_any HG.out HB4.out HR4.out
        have hL4 : L.length ≤ 4096 := HR4.out.2.2.2.2.1
        go_wp2_with fail
        refine RA.mono ?_
        rintro e u5 ⟨ys, ay, cy, rfl, hyl, hry, hey, hb5⟩
        have HN5 : Hid (∀ u, Below u5.heap.size u5 u → (u.cell? ⟨q, 1, none⟩ = some (.slice b4 L.length c4) ∧ u.cell? ⟨q, 2, none⟩ = some (.int .i64 (S4 : Nat)) ∧ u.cell? ⟨q, 3, none⟩ = some (.bool d)) ∧ Jr w.heap.size u p v3 room L S4 d ∧ Below w.heap.size w u ∧ Strs u b4 L ∧ Ents u ay ys) := fun u hu => by
          have h1 := HR4.out.on (bel_on' hb5 hu)
          obtain ⟨⟨-, x1, x2, x3⟩, -⟩ := h1.cells
          exact ⟨⟨x1, x2, x3⟩, HJ4.out.on (bel_on' hb5 hu), bel_on' HB4.out (bel_on' hb5 hu), strs_row h1.2.2.1, hey.below hu⟩
        have HRY := hide hry
        have HR5B := hide hb5
        have HMY : Hid (min 5000 ((wholeD fun s => Classical.propDecidable (Ok s)) L) = ys.length) := by show _ = _; have := whole_le L; omega
        have HMT : Hid (min t ((wholeD fun s => Classical.propDecidable (Ok s)) L) = min t ys.length) := by show _ = _; rw [hyl]
        have HY4 : Hid (ys.length ≤ 4096) := by show _ ≤ _; have := whole_le L; omega
        have HL := hide hL4
        have H5 := hide ((Below.refl u5.heap.size u5).drew)
        have L1 := lines_any (HN5.out _ H5.out).2.1
        clear RA hb5 hyl hry hey hL4
        obtain ⟨⟨d1, d2, d3⟩, -⟩ := HN5.out u5 (Below.refl _ _)
        go_wp2_with fail
        go_region_held3 (fun w' => w'.cell? ⟨q, 1, none⟩ = some (.slice b4 L.length c4) ∧ w'.cell? ⟨q, 2, none⟩ = some (.int .i64 (S4 : Nat)) ∧ w'.cell? ⟨q, 3, none⟩ = some (.bool d)) (go_keep) (first
          | (go_at_call 18; refine L1.mono ?_; clear L1; rintro e u7 ⟨a7, c7, rfl, ho7, hb7⟩; have HB7 := hide (bel_on' H5.out hb7); clear d1 d2 d3; obtain ⟨⟨d1, d2, d3⟩, -, -, hs7, -⟩ := HN5.out u7 HB7.out; have T7 := texts_any a7 b4 L c7 c4 u7 HL.out (strs_row ho7) hs7; clear ho7 hb7 hs7)
          | (go_at_call 17; refine T7.mono ?_; clear T7; rintro e u8 ⟨rfl, hb8⟩; have HB8 := hide (bel_on' HB7.out hb8); clear d1 d2 d3; obtain ⟨⟨d1, d2, d3⟩, hj8, -⟩ := HN5.out u8 HB8.out; have S8 := sure_any hj8; clear hb8 hj8)
          | (go_at_call 19; refine S8.mono ?_; clear S8; rintro e u9 ⟨rfl, hb9⟩; have HB9 := hide (bel_on' HB8.out hb9); clear d1 d2 d3; obtain ⟨⟨d1, d2, d3⟩, hj9, -⟩ := HN5.out u9 HB9.out; have D9 := down_any hj9; clear hb9 hj9)
          | (go_at_call 20; refine D9.mono ?_; clear D9; rintro e u10 ⟨rfl, hb10⟩; have HB10 := hide (bel_on' HB9.out hb10); clear d1 d2 d3; obtain ⟨⟨d1, d2, d3⟩, hj10, hw10, -⟩ := HN5.out u10 HB10.out; have A10 := told_any HG.out hw10 hj10 5000; clear hb10 hj10 hw10)
          | (go_at_call 22; refine A10.mono ?_; clear A10; rintro e u11 ⟨xs, a11, c11, rfl, hxl, -, hrx, hrow, hgd, hb11⟩; have HB11 := hide (bel_on' HB10.out hb11); clear d1 d2 d3; obtain ⟨⟨d1, d2, d3⟩, -, -, -, he11⟩ := HN5.out u11 HB11.out; have M11 := jsame_any a11 ay xs ys c11 cy u11 (by have := HMY.out; have := HY4.out; omega) (ents_of hrow hgd) he11 (rd_alike (hxl.trans HMY.out) hrx HRY.out); clear hxl hrx hrow hgd hb11 he11)
          | (go_at_call 21; refine M11.mono ?_; clear M11; rintro e u12 ⟨rfl, hb12⟩; have HB12 := hide (bel_on' HB11.out hb12); clear d1 d2 d3; obtain ⟨⟨d1, d2, d3⟩, hj12, hw12, -⟩ := HN5.out u12 HB12.out; have A12 := told_any HG.out hw12 hj12 t; clear hb12 hj12 hw12)
          | (go_at_call 22; refine A12.mono ?_; clear A12; rintro e u13 ⟨zs, a13, c13, rfl, hzl, -, -, -, -, hb13⟩; have HB13 := hide (bel_on' HB12.out hb13); clear d1 d2 d3; obtain ⟨⟨d1, d2, d3⟩, -⟩ := HN5.out u13 HB13.out; have qz : ((zs.length : Int) == min (t : Int) (ys.length : Int)) = true := (by have := HMT.out; simp; omega); have qy : ((zs.length : Int) != min (t : Int) (ys.length : Int)) = false := (by have := HMT.out; simp; omega); clear hzl hb13))
        go_wp2
        all_goals go_roundw
        all_goals (first | exact ⟨j + 1, S4, d, v3, .slice b4 L.length c4, L, by go_num, by omega, HI4, (HN5.out u13 HB13.out).2.1, HR4.out.on (bel_on' HR5B.out HB13.out), HA4, (HN5.out u13 HB13.out).2.2.1⟩ | (simp [intOf]; omega))
      have q1 : (c.d == 1) = false := by simp [hd1]
      by_cases hd2 : c.d = 2
      · have q2 : (c.d == 2) = true := by simp [hd2]
        clear hd0 hd1 hd2
        have A := crash_all HJU.out HI.out c.s c.t
        obtain ⟨L4, hL4⟩ : ∃ L4, crL L s d c.s c.t = L4 := ⟨_, rfl⟩
        have HI4 : Hid (Inv L4 s true) := Inv.down L4 s
        have HLQ := hide hL4
        have k1 : U.cell? ⟨wr.heap.size, 1, none⟩ = some (.int .i64 c.s) := by rw [hU]; simp
        have k2 : U.cell? ⟨wr.heap.size, 2, none⟩ = some (.int .i64 c.t) := by rw [hU]; simp
        have K1 := hide k1
        have K2 := hide k2
        rw [hU, hL4] at A
        clear hU hL4 k1 k2
        go_wp2_with fail
        refine A.mono ?_
        rintro e u3 ⟨v3, ⟨x3, rfl⟩, hj3, ho3⟩
        rw [← HUW.out] at ho3
        have k1 := ho3.cell K1.out hpl hvl
        have k2 := ho3.cell K2.out hpl hvl
        obtain ⟨hr3, ha3⟩ := R.Jr.other HJU.out HRU.out HAP.out ho3
        have HJ3 := hide hj3
        have HR3 := hide hr3
        have HA3 := hide ha3
        have HB3 := hide (HBU.out.trans (HJU.out.bel ho3))
        have A4 := R.crash_all hr3 HI.out c.s c.t
        rw [HLQ.out] at A4
        clear A hj3 hr3 ha3 ho3
        go_wp2_with fail
        refine A4.mono ?_
        rintro e u4 ⟨v4, ⟨x4, rfl⟩, hr4, ho4⟩
        obtain ⟨hj4, ha4⟩ := HJ3.out.other HR3.out HA3.out ho4
        have HJ4 := hide hj4
        have HR4 := hide hr4
        have HA4 := hide ha4
        have HB4 := hide (HB3.out.trans (HR3.out.bel ho4))
        clear A4 hj4 hr4 ha4 ho4 k1 k2
        obtain ⟨b4, c4, rfl, -, -⟩ := HR4.out.row
        have RA := rall_any HG.out HB4.out HR4.out
        have hL4 : L4.length ≤ 4096 := HR4.out.2.2.2.2.1
        go_wp2_with fail
        refine RA.mono ?_
        rintro e u5 ⟨ys, ay, cy, rfl, hyl, hry, hey, hb5⟩
        have HN5 : Hid (∀ u, Below u5.heap.size u5 u → (u.cell? ⟨q, 1, none⟩ = some (.slice b4 L4.length c4) ∧ u.cell? ⟨q, 2, none⟩ = some (.int .i64 (s : Nat)) ∧ u.cell? ⟨q, 3, none⟩ = some (.bool true)) ∧ Jr w.heap.size u p v3 room L4 s true ∧ Below w.heap.size w u ∧ Strs u b4 L4 ∧ Ents u ay ys) := fun u hu => by
          have h1 := HR4.out.on (bel_on' hb5 hu)
          obtain ⟨⟨-, x1, x2, x3⟩, -⟩ := h1.cells
          exact ⟨⟨x1, x2, x3⟩, HJ4.out.on (bel_on' hb5 hu), bel_on' HB4.out (bel_on' hb5 hu), strs_row h1.2.2.1, hey.below hu⟩
        have HRY := hide hry
        have HR5B := hide hb5
        have HMY : Hid (min 5000 ((wholeD fun s => Classical.propDecidable (Ok s)) L4) = ys.length) := by show _ = _; have := whole_le L4; omega
        have HMT : Hid (min t ((wholeD fun s => Classical.propDecidable (Ok s)) L4) = min t ys.length) := by show _ = _; rw [hyl]
        have HY4 : Hid (ys.length ≤ 4096) := by show _ ≤ _; have := whole_le L4; omega
        have HL4 := hide hL4
        have H5 := hide ((Below.refl u5.heap.size u5).drew)
        have L1 := lines_any (HN5.out _ H5.out).2.1
        clear RA hb5 hyl hry hey hL4
        obtain ⟨⟨d1, d2, d3⟩, -⟩ := HN5.out u5 (Below.refl _ _)
        go_wp2_with fail
        go_region_held3 (fun w' => w'.cell? ⟨q, 1, none⟩ = some (.slice b4 L4.length c4) ∧ w'.cell? ⟨q, 2, none⟩ = some (.int .i64 (s : Nat)) ∧ w'.cell? ⟨q, 3, none⟩ = some (.bool true)) (go_keep) (first
          | (go_at_call 18; refine L1.mono ?_; clear L1; rintro e u7 ⟨a7, c7, rfl, ho7, hb7⟩; have HB7 := hide (bel_on' H5.out hb7); clear d1 d2 d3; obtain ⟨⟨d1, d2, d3⟩, -, -, hs7, -⟩ := HN5.out u7 HB7.out; have T7 := texts_any a7 b4 L4 c7 c4 u7 HL4.out (strs_row ho7) hs7; clear ho7 hb7 hs7)
          | (go_at_call 17; refine T7.mono ?_; clear T7; rintro e u8 ⟨rfl, hb8⟩; have HB8 := hide (bel_on' HB7.out hb8); clear d1 d2 d3; obtain ⟨⟨d1, d2, d3⟩, hj8, -⟩ := HN5.out u8 HB8.out; have S8 := sure_any hj8; clear hb8 hj8)
          | (go_at_call 19; refine S8.mono ?_; clear S8; rintro e u9 ⟨rfl, hb9⟩; have HB9 := hide (bel_on' HB8.out hb9); clear d1 d2 d3; obtain ⟨⟨d1, d2, d3⟩, hj9, -⟩ := HN5.out u9 HB9.out; have D9 := down_any hj9; clear hb9 hj9)
          | (go_at_call 20; refine D9.mono ?_; clear D9; rintro e u10 ⟨rfl, hb10⟩; have HB10 := hide (bel_on' HB9.out hb10); clear d1 d2 d3; obtain ⟨⟨d1, d2, d3⟩, hj10, hw10, -⟩ := HN5.out u10 HB10.out; have A10 := told_any HG.out hw10 hj10 5000; clear hb10 hj10 hw10)
          | (go_at_call 22; refine A10.mono ?_; clear A10; rintro e u11 ⟨xs, a11, c11, rfl, hxl, -, hrx, hrow, hgd, hb11⟩; have HB11 := hide (bel_on' HB10.out hb11); clear d1 d2 d3; obtain ⟨⟨d1, d2, d3⟩, -, -, -, he11⟩ := HN5.out u11 HB11.out; have M11 := jsame_any a11 ay xs ys c11 cy u11 (by have := HMY.out; have := HY4.out; omega) (ents_of hrow hgd) he11 (rd_alike (hxl.trans HMY.out) hrx HRY.out); clear hxl hrx hrow hgd hb11 he11)
          | (go_at_call 21; refine M11.mono ?_; clear M11; rintro e u12 ⟨rfl, hb12⟩; have HB12 := hide (bel_on' HB11.out hb12); clear d1 d2 d3; obtain ⟨⟨d1, d2, d3⟩, hj12, hw12, -⟩ := HN5.out u12 HB12.out; have A12 := told_any HG.out hw12 hj12 t; clear hb12 hj12 hw12)
          | (go_at_call 22; refine A12.mono ?_; clear A12; rintro e u13 ⟨zs, a13, c13, rfl, hzl, -, -, -, -, hb13⟩; have HB13 := hide (bel_on' HB12.out hb13); clear d1 d2 d3; obtain ⟨⟨d1, d2, d3⟩, -⟩ := HN5.out u13 HB13.out; have qz : ((zs.length : Int) == min (t : Int) (ys.length : Int)) = true := (by have := HMT.out; simp; omega); have qy : ((zs.length : Int) != min (t : Int) (ys.length : Int)) = false := (by have := HMT.out; simp; omega); clear hzl hb13))
        go_wp2
        all_goals go_roundw
        all_goals (first | exact ⟨j + 1, s, true, v3, .slice b4 L4.length c4, L4, by go_num, by omega, HI4, (HN5.out u13 HB13.out).2.1, HR4.out.on (bel_on' HR5B.out HB13.out), HA4, (HN5.out u13 HB13.out).2.2.1⟩ | (simp [intOf]; omega))
      · have q2 : (c.d == 2) = false := by simp [hd2]
        clear hd0 hd1 hd2
        have A := recover_all HG.out HBU.out HJU.out
        obtain ⟨S4, hS4⟩ : ∃ S4, reS ((wholeD fun s => Classical.propDecidable (Ok s)) L) s d = S4 := ⟨_, rfl⟩
        obtain ⟨L4, hL4⟩ : ∃ L4, reL ((wholeD fun s => Classical.propDecidable (Ok s)) L) L d = L4 := ⟨_, rfl⟩
        obtain ⟨E, hE⟩ : ∃ E, reE ((wholeD fun s => Classical.propDecidable (Ok s)) L) L d = E := ⟨_, rfl⟩
        have HI4 : Hid (Inv L4 S4 false) := by show Inv L4 S4 false; rw [← hS4, ← hL4]; exact HI.out.recover
        have HSS := hide hS4
        have HLQ := hide hL4
        have HEE := hide hE
        rw [hU, hS4, hL4, hE] at A
        clear hU hS4 hE hL4
        go_wp2_with fail
        refine A.mono ?_
        rintro e u3 ⟨v3, rfl, hj3, ho3⟩
        rw [← HUW.out] at ho3
        obtain ⟨hr3, ha3⟩ := R.Jr.other HJU.out HRU.out HAP.out ho3
        have HJ3 := hide hj3
        have HR3 := hide hr3
        have HA3 := hide ha3
        have HB3 := hide (HBU.out.trans (HJU.out.bel ho3))
        have A4 := R.recover_all HG.out HB3.out hr3
        rw [HSS.out, HLQ.out, HEE.out] at A4
        clear A hj3 hr3 ha3 ho3
        go_wp2_with fail
        refine A4.mono ?_
        rintro e u4 ⟨v4, rfl, hr4, ho4⟩
        obtain ⟨hj4, ha4⟩ := HJ3.out.other HR3.out HA3.out ho4
        have HJ4 := hide hj4
        have HR4 := hide hr4
        have HA4 := hide ha4
        have HB4 := hide (HB3.out.trans (HR3.out.bel ho4))
        have qE : (E == E) = true := by simp
        clear A4 hj4 hr4 ha4 ho4
        obtain ⟨b4, c4, rfl, -, -⟩ := HR4.out.row
        have RA := rall_any HG.out HB4.out HR4.out
        have hL4 : L4.length ≤ 4096 := HR4.out.2.2.2.2.1
        go_wp2_with fail
        refine RA.mono ?_
        rintro e u5 ⟨ys, ay, cy, rfl, hyl, hry, hey, hb5⟩
        have HN5 : Hid (∀ u, Below u5.heap.size u5 u → (u.cell? ⟨q, 1, none⟩ = some (.slice b4 L4.length c4) ∧ u.cell? ⟨q, 2, none⟩ = some (.int .i64 (S4 : Nat)) ∧ u.cell? ⟨q, 3, none⟩ = some (.bool false)) ∧ Jr w.heap.size u p v3 room L4 S4 false ∧ Below w.heap.size w u ∧ Strs u b4 L4 ∧ Ents u ay ys) := fun u hu => by
          have h1 := HR4.out.on (bel_on' hb5 hu)
          obtain ⟨⟨-, x1, x2, x3⟩, -⟩ := h1.cells
          exact ⟨⟨x1, x2, x3⟩, HJ4.out.on (bel_on' hb5 hu), bel_on' HB4.out (bel_on' hb5 hu), strs_row h1.2.2.1, hey.below hu⟩
        have HRY := hide hry
        have HR5B := hide hb5
        have HMY : Hid (min 5000 ((wholeD fun s => Classical.propDecidable (Ok s)) L4) = ys.length) := by show _ = _; have := whole_le L4; omega
        have HMT : Hid (min t ((wholeD fun s => Classical.propDecidable (Ok s)) L4) = min t ys.length) := by show _ = _; rw [hyl]
        have HY4 : Hid (ys.length ≤ 4096) := by show _ ≤ _; have := whole_le L4; omega
        have HL4 := hide hL4
        have H5 := hide ((Below.refl u5.heap.size u5).drew)
        have L1 := lines_any (HN5.out _ H5.out).2.1
        clear RA hb5 hyl hry hey hL4
        obtain ⟨⟨d1, d2, d3⟩, -⟩ := HN5.out u5 (Below.refl _ _)
        go_wp2_with fail
        go_region_held3 (fun w' => w'.cell? ⟨q, 1, none⟩ = some (.slice b4 L4.length c4) ∧ w'.cell? ⟨q, 2, none⟩ = some (.int .i64 (S4 : Nat)) ∧ w'.cell? ⟨q, 3, none⟩ = some (.bool false)) (go_keep) (first
          | (go_at_call 18; refine L1.mono ?_; clear L1; rintro e u7 ⟨a7, c7, rfl, ho7, hb7⟩; have HB7 := hide (bel_on' H5.out hb7); clear d1 d2 d3; obtain ⟨⟨d1, d2, d3⟩, -, -, hs7, -⟩ := HN5.out u7 HB7.out; have T7 := texts_any a7 b4 L4 c7 c4 u7 HL4.out (strs_row ho7) hs7; clear ho7 hb7 hs7)
          | (go_at_call 17; refine T7.mono ?_; clear T7; rintro e u8 ⟨rfl, hb8⟩; have HB8 := hide (bel_on' HB7.out hb8); clear d1 d2 d3; obtain ⟨⟨d1, d2, d3⟩, hj8, -⟩ := HN5.out u8 HB8.out; have S8 := sure_any hj8; clear hb8 hj8)
          | (go_at_call 19; refine S8.mono ?_; clear S8; rintro e u9 ⟨rfl, hb9⟩; have HB9 := hide (bel_on' HB8.out hb9); clear d1 d2 d3; obtain ⟨⟨d1, d2, d3⟩, hj9, -⟩ := HN5.out u9 HB9.out; have D9 := down_any hj9; clear hb9 hj9)
          | (go_at_call 20; refine D9.mono ?_; clear D9; rintro e u10 ⟨rfl, hb10⟩; have HB10 := hide (bel_on' HB9.out hb10); clear d1 d2 d3; obtain ⟨⟨d1, d2, d3⟩, hj10, hw10, -⟩ := HN5.out u10 HB10.out; have A10 := told_any HG.out hw10 hj10 5000; clear hb10 hj10 hw10)
          | (go_at_call 22; refine A10.mono ?_; clear A10; rintro e u11 ⟨xs, a11, c11, rfl, hxl, -, hrx, hrow, hgd, hb11⟩; have HB11 := hide (bel_on' HB10.out hb11); clear d1 d2 d3; obtain ⟨⟨d1, d2, d3⟩, -, -, -, he11⟩ := HN5.out u11 HB11.out; have M11 := jsame_any a11 ay xs ys c11 cy u11 (by have := HMY.out; have := HY4.out; omega) (ents_of hrow hgd) he11 (rd_alike (hxl.trans HMY.out) hrx HRY.out); clear hxl hrx hrow hgd hb11 he11)
          | (go_at_call 21; refine M11.mono ?_; clear M11; rintro e u12 ⟨rfl, hb12⟩; have HB12 := hide (bel_on' HB11.out hb12); clear d1 d2 d3; obtain ⟨⟨d1, d2, d3⟩, hj12, hw12, -⟩ := HN5.out u12 HB12.out; have A12 := told_any HG.out hw12 hj12 t; clear hb12 hj12 hw12)
          | (go_at_call 22; refine A12.mono ?_; clear A12; rintro e u13 ⟨zs, a13, c13, rfl, hzl, -, -, -, -, hb13⟩; have HB13 := hide (bel_on' HB12.out hb13); clear d1 d2 d3; obtain ⟨⟨d1, d2, d3⟩, -⟩ := HN5.out u13 HB13.out; have qz : ((zs.length : Int) == min (t : Int) (ys.length : Int)) = true := (by have := HMT.out; simp; omega); have qy : ((zs.length : Int) != min (t : Int) (ys.length : Int)) = false := (by have := HMT.out; simp; omega); clear hzl hb13))
        go_wp2
        all_goals go_roundw
        all_goals (first | exact ⟨j + 1, S4, false, v3, .slice b4 L4.length c4, L4, by go_num, by omega, HI4, (HN5.out u13 HB13.out).2.1, HR4.out.on (bel_on' HR5B.out HB13.out), HA4, (HN5.out u13 HB13.out).2.2.1⟩ | (simp [intOf]; omega))
    · have ql : ¬ (j : Int) < (cl1.length : Int) := by omega
      go_wp2_with fail
      refine (jawake_any _ (HG.out.on HB.out)).mono ?_
      rintro e u3 ⟨rfl, hb3⟩
      go_wp2
      go_ret
      exact ⟨rfl, bel_on' HB.out hb3⟩
end Go.Proofs.YthjcedbjjphleaaGreatDoor
