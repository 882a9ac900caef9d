/-
  ParcelOrder's walk.
-/
import Derived.Test.YtkaniplkobnpjaaPclA
import Derived.Test.YtkaniplkobnpjaaNum
namespace Go.Proofs.Ytkaniplkobnpjaa
open Go.ChangeShapes Go.WideShapes Go.ChangeAt Go.RowKit Go.Maps

theorem row_kept {F : Nat → Obj → Prop} {W W' : World} {base : Nat} {e : TypeId} {s : Nat} {v : Value} {n : Nat} {xs : List Value} (h : W.ownsRow base e s v n xs) (hk : Rg.Kept F W W') (hF : ∀ k o, v.ownBlock = some k → ¬ F k o) : W'.ownsRow base e s v n xs := by
  refine ⟨h.1, ?_⟩
  rcases h.2 with h | ⟨g, cap, cur, rfl, hg, hc, rest⟩
  · exact .inl h
  · exact .inr ⟨g, cap, cur, rfl, hg, hk.block _ _ hc (hF _ _ rfl), rest⟩
/-- The book, and beside it the law's own row of the same ids. -/
def OSt (w wr : World) (p : Nat) (E : Nat → Prop) (l : List (Int × Int × Int)) (v : Value) : Prop :=
  Pc w.heap.size E wr p l ∧ wr.ownsRow w.heap.size 3 1 v l.length ((idsP l).map (Value.int .i64)) ∧ (∀ k, v.ownBlock = some k → ¬ E k) ∧ Below w.heap.size w wr
theorem OSt.same {w wr V : World} {p : Nat} {E : Nat → Prop} {l : List (Int × Int × Int)} {v : Value} (k : OSt w wr p E l v) (kV : Pc w.heap.size (growE E wr V) V p l) (hk : Rg.Kept (fun i _ => E i) wr V) : OSt w V p (growE E wr V) l v := by
  obtain ⟨h1, h2, h3, h4⟩ := k
  refine ⟨kV, row_kept h2 hk (fun k _ e => h3 k e), fun k e => ?_, h4.trans (h1.bel hk)⟩
  have := (h2.lt k e).2
  rintro (h | h)
  · exact h3 k e h
  · omega
theorem OSt.more {w wr V w4 : World} {p : Nat} {E : Nat → Prop} {l : List (Int × Int × Int)} {v v' : Value} {id k q : Int} (s : OSt w wr p E l v) (kV : Pc w.heap.size (growE E wr V) V p (l ++ [(id, k, q)])) (hk : Rg.Kept (fun i _ => E i) wr V)
    {o : Obj} (hg : (V.alloc o).grownBy w4 v.ownBlock) (hown : w4.ownsRow w.heap.size 3 1 v' (l.length + 1) ((idsP l).map (Value.int .i64) ++ [.int .i64 id])) (hblk : v'.ownBlock = v.ownBlock ∨ v'.ownBlock = some (V.alloc o).heap.size) : OSt w w4 p (growE E wr V) (l ++ [(id, k, q)]) v' := by
  obtain ⟨h1, h2, h3, h4⟩ := s
  have r2 := row_kept h2 hk (fun k _ e => h3 k e)
  have hne : ∀ k, v.ownBlock = some k → ¬ growE E wr V k := fun k e => by
    have := (h2.lt k e).2
    rintro (h | h)
    · exact h3 k e h
    · omega
  obtain ⟨kp, hvb⟩ := row_more (E := fun k => v.ownBlock = some k) (fun _ e => e) r2 hg hown hblk
  have hw4 := kp.size
  refine ⟨kV.kept kp (fun i _ e h => hne i h.1 e), ?_, fun i e => ?_, (h4.trans (h1.bel hk)).trans (kp.bel (by have := h4.size; have := hk.size; omega) (fun i _ e => (h2.lt i e.1).1))⟩
  · rw [List.length_append, List.length_singleton]
    have e1 : (idsP (l ++ [(id, k, q)])).map (Value.int .i64) = (idsP l).map (Value.int .i64) ++ [.int .i64 id] := by simp [idsP]
    rw [e1]
    exact hown
  · rcases hvb i e with h | h
    · exact hne i h
    · intro h'
      have := (kV.1 i h').2
      omega
def ORel (w : World) (p : Nat) (len : Nat) (wv i : Value) (wr : World) : Prop :=
  ∃ (j : Nat) (l : List (Int × Int × Int)) (E : Nat → Prop), i = .int .i64 j ∧ j ≤ len ∧ j ≤ 60 ∧ Hid (OSt w wr p E l wv)

theorem OSt.on {w wr V : World} {p : Nat} {E : Nat → Prop} {l : List (Int × Int × Int)} {v : Value} (k : OSt w wr p E l v) (hb : Below wr.heap.size wr V) : OSt w V p E l v :=
  ⟨k.1.on hb, owned_on k.2.1 hb, k.2.2.1, bel_on' k.2.2.2 hb⟩
theorem bel_drewN {w u : World} (h : Below w.heap.size w u) (n : Nat) : Below w.heap.size w (u.drewN n) := by
  induction n with
  | zero => exact h
  | succ n ih => exact ih.drew
/-- A row of one's own, a number of it written. -/
theorem own_set {w : World} {base n cap g m : Nat} {ys : List Int} (h : w.ownsRow base 3 1 (.slice (some ⟨g, 0, none⟩) n cap) n (ys.map (Value.int .i64))) (hm : m < n) (z : Int) :
    w.frozen? ⟨g, m, none⟩ = false ∧ (w.setCell ⟨g, m, none⟩ (.int .i64 z)).ownsRow base 3 1 (.slice (some ⟨g, 0, none⟩) n cap) n ((ys.set m z).map (Value.int .i64)) := by
  obtain ⟨h1, h2⟩ := h
  rcases h2 with ⟨e, _⟩ | ⟨g', cap', cur, e, hg, hc, h3, h4, h5, h6⟩
  · cases e
  · cases e
    refine ⟨frozen_of_row _ _ _ _ _ hc, by simpa using h1, .inr ⟨g, cap, cur.setIfInBounds m (.int .i64 z), rfl, hg, heap_setCell_same _ _ _ _ _ _ hc, h3, h4, by simpa using h5, ?_⟩⟩
    rw [Array.toList_setIfInBounds, List.map_set, ← h6, Nat.mul_one]
    apply List.ext_getElem?
    intro i
    rw [List.getElem?_take, List.getElem?_set, List.getElem?_set]
    by_cases hi : i < n
    · rw [if_pos hi]
      by_cases e : m = i
      · subst e
        have : m < min n cur.size := by omega
        simp [this]
        omega
      · rw [if_neg e, if_neg e, List.getElem?_take, if_pos hi]
    · rw [if_neg hi, if_neg (by omega), List.getElem?_take, if_neg hi]
/-- What stands while the law writes into the row that it was told. -/
def GSt (wr vr : World) (ag : Option Addr) (cg : Nat) (n : Nat) : Prop :=
  ∃ ys : List Int, ys.length = n ∧ vr.ownsRow wr.heap.size 3 1 (.slice ag n cg) n (ys.map (Value.int .i64)) ∧ Below wr.heap.size wr vr

set_option maxRecDepth 100000 in
set_option maxHeartbeats 4000000 in
theorem parcelOrder_walk (a0 : Option Addr) (len0 cap0 : Nat) (z0 : List Int) (w : World) (w0 : IsRow .i64 w a0 len0 cap0 z0) :
    Calls Try.prog 6 #[.slice a0 len0 cap0] w fun e w' => e = .returned (.bool true) ∧ Below w.heap.size w w' := by
  obtain ⟨l0, rfl, hlen, hin⟩ := w0.ints
  clear w0
  have HCL := hide hin
  clear hin
  have N1 := pnew_any w
  go_enter Try.func6, Try.ntmps6
  go_wp2_with (go_at_call 7; refine N1.mono ?_; clear N1; rintro e u1 ⟨p, rfl, -, k1, hb1⟩; have HST : Hid (OSt w u1 p (fun k => k = p) [] (.slice none 0 0)) := ⟨k1, World.ownsRow_nil _ _ _ _, fun k e => by simp [Value.ownBlock] at e, hb1⟩; clear k1 hb1)
  go_loopw [4, 13] (fun wv i wr => ORel w p l0.length wv i wr) (fun _ i _ => l0.length - (Go.RowKit.intOf i).toNat)
  case atStart => exact ⟨0, [], _, rfl, Nat.zero_le _, Nat.zero_le _, HST⟩
  case round =>
    obtain ⟨j, l, E, rfl, hj, hj60, HS⟩ := hrel
    clear HST
    obtain ⟨av, cv, hsl, -⟩ := row_slice HS.out.2.1
    subst hsl
    by_cases hlt : j < l0.length
    · have ql : (j : Int) < (l0.length : Int) := by omega
      have hin := HCL.out.below HS.out.2.2.2
      rcases hin with h0 | ⟨bc, off, rfl, hca⟩
      · subst h0; simp at hlt
      have c0 := hca j hlt
      obtain ⟨y, hy⟩ : ∃ y, l0.getD j 0 = y := ⟨_, rfl⟩
      rw [hy] at c0
      clear hca hy
      by_cases h60 : j < 60
      · have q60 : ¬ (j : Int) ≥ 60 := by omega
        obtain ⟨bX1, bX2⟩ := um_bd y 30 (by omega) (by omega)
        obtain ⟨X, hX⟩ : ∃ X, um y 30 = X := ⟨_, rfl⟩
        rw [hX] at bX1 bX2
        unfold um at hX
        have hwj : (Lit.int .i64 (1 + X)).wf = true := wf_of (by omega) (by omega)
        obtain ⟨it, hit⟩ : ∃ it, (1 + X).tmod 8 = it := ⟨_, rfl⟩
        have hl60 : l.length ≤ 1000000 := by have := HS.out.1.good.len; omega
        have HLW : Hid (w.heap.size ≤ wr.heap.size) := HS.out.1.low
        by_cases he : shipE l (1 + X) it (1 + X) = 0
        · have A := ship_by HS.out.1 hwj he (shipL_ok he)
          have HNX : Hid (∀ V, Rg.Kept (fun i _ => E i) wr V → V.ownsRow w.heap.size 3 1 (.slice av l.length cv) l.length ((idsP l).map (Value.int .i64)) ∧ w.heap.size ≤ V.heap.size) := fun V hk => ⟨row_kept HS.out.2.1 hk (fun k _ e => HS.out.2.2.1 k e), Nat.le_trans HLW.out hk.size⟩
          clear he hwj
          go_wp2_with (first
            | (go_at_call 8; refine A.mono ?_; clear A; rintro e V ⟨rfl, K2, O2⟩; obtain ⟨hrV, hlV⟩ := HNX.out V O2; have HK2 := hide K2; have HO2 := hide O2; have HLV := hide hlV; clear K2 O2 HNX hlV)
            | (at_builtin; refine append_num1 rfl (.tmp 32) (.tmp 34) rfl w.heap.size (.slice av l.length cv) l.length ((idsP l).map (Value.int .i64)) rfl hrV (1 + X) rfl rfl (by omega) HLV.out ?_; intro a4 c4 w4 hown4 hg4 hblk4; have HS4 := hide (HS.out.more HK2.out HO2.out hg4 hown4 hblk4); clear hown4 hg4 hblk4))
          go_roundw
          case rel => exact ⟨j + 1, _, _, by go_num, by omega, by omega, HS4⟩
          case measure => simp [Go.RowKit.intOf]; omega
        · have A := ship_by HS.out.1 hwj (item := it) (qty := 1 + X) rfl (shipL_no he)
          obtain ⟨ev, hev⟩ : ∃ ev, shipE l (1 + X) it (1 + X) = ev := ⟨_, rfl⟩
          rw [hev] at A he
          have qe : (ev == 0) = false := by simp [he]
          clear he hwj hev
          go_wp2_with (go_at_call 8; refine A.mono ?_; clear A; rintro e V ⟨rfl, K2, O2⟩; have HS4 := hide (HS.out.same K2 O2); clear K2 O2)
          go_roundw
          case rel => exact ⟨j + 1, _, _, by go_num, by omega, by omega, HS4⟩
          case measure => simp [Go.RowKit.intOf]; omega
      · have q60 : (j : Int) ≥ 60 := by omega
        clear HCL
        obtain ⟨W0, hW0⟩ : ∃ W0, W0 = wr := ⟨_, rfl⟩
        subst hW0
        have LI := pids_any HS.out.1
        have HIDS : Hid (∀ u, Below W0.heap.size W0 u → Calls Try.prog 15 #[.pointer (some ⟨p, 0, none⟩)] u (OwnInts u (idsP l))) := fun u hu => pids_any (HS.out.1.on hu)
        have hlL : l.length = (idsP l).length := (idsP_len l).symm
        have hl1000 : (idsP l).length ≤ 1000 := by rw [idsP_len]; exact HS.out.1.good.len
        rw [hlL] at HS ⊢
        have HWI : Hid (∀ u, Below W0.heap.size W0 u → Ints u av (idsP l)) := fun u hu => by
          have h1 := owned_on HS.out.2.1 hu
          rw [hlL] at h1
          obtain ⟨a', c', e1, -, e2⟩ := owned_nums h1
          cases e1
          exact e2
        have HWB := hide HS.out.2.2.2
        obtain ⟨L, hL⟩ : ∃ L, idsP l = L := ⟨_, rfl⟩
        rw [hL] at LI HIDS hl1000 HWI ⊢
        clear HS hL hlL
        have HSAME : Hid (∀ (u : World) (x : Option Addr) (c1 : Nat), Ints u x L → Ints u av L → Calls Try.prog 14 #[.slice x L.length c1, .slice av L.length cv] u fun e w' => e = .returned (.bool true) ∧ ∃ n, w' = u.drewN n) := fun u x c1 h1 h2 => by
          have := same_any x av L L c1 cv u (by omega) h1 h2
          rwa [decide_eq_true (rfl : L = L)] at this
        have HAW := hide pawake_any
        go_wp2_with (first
          | (go_at_call 15; refine LI.mono ?_; clear LI; rintro e V ⟨ag, cg, rfl, -, hrg, bV⟩; have SM := HSAME.out V ag cg (by obtain ⟨a', c', e1, -, e2⟩ := owned_nums hrg; cases e1; exact e2) (HWI.out V bV); have HGS := hide (show GSt W0 V ag cg L.length from ⟨L, rfl, hrg, bV⟩); clear hrg bV)
          | (go_at_call 14; refine SM.mono ?_; clear SM; rintro e V2 ⟨rfl, n2, hV2⟩; have HG2 : Hid (GSt W0 V2 ag cg L.length) := (by obtain ⟨ys, h1, h2, h3⟩ := HGS.out; rw [hV2]; exact ⟨ys, h1, owned_on h2 (bel_drewN (Below.refl _ _) n2), bel_drewN h3 n2⟩); clear hV2))
        clear HGS
        go_loopw [45] (fun i wr => ∃ m : Nat, m ≤ L.length ∧ i = .int .i64 m ∧ Hid (GSt W0 wr ag cg L.length)) (fun i _ => L.length - (Go.RowKit.intOf i).toNat)
        case atStart => exact ⟨0, Nat.zero_le _, rfl, HG2⟩
        case round =>
          obtain ⟨m, hm, rfl, HGS⟩ := hrel
          clear HG2
          by_cases hml : m < L.length
          · have qm : (m : Int) < (L.length : Int) := by omega
            obtain ⟨ys, hy1, hy2, hy3⟩ := HGS.out
            obtain ⟨a', c', e1, -, hi⟩ := owned_nums hy2
            cases e1
            rcases hi with hi | ⟨bi, oi, rfl, hci⟩
            · rw [hi] at hy1; simp at hy1; omega
            have hoi : oi = 0 := by
              rcases hy2.2 with ⟨e, _⟩ | ⟨g', cap', cur, e, _⟩
              · cases e
              · cases e; rfl
            subst hoi
            have d0 := hci m (by omega)
            rw [Nat.zero_add] at d0
            obtain ⟨f0, s0⟩ := own_set hy2 hml 0
            have HGS2 : Hid (GSt W0 (wr.setCell ⟨bi, m, none⟩ (.int .i64 0)) (some ⟨bi, 0, none⟩) cg L.length) := ⟨ys.set m 0, by rw [List.length_set]; exact hy1, s0, hy3.setCell (p := ⟨bi, m, none⟩) (hy2.lt bi rfl).1 _⟩
            obtain ⟨x0, hx0⟩ : ∃ x0, ys.getD m 0 = x0 := ⟨_, rfl⟩
            rw [hx0] at d0
            clear hx0 hci hy1 hy2 hy3 s0 HGS
            go_wp2
            go_roundw
            case rel => exact ⟨m + 1, by omega, by go_num, HGS2⟩
            case measure => simp [Go.RowKit.intOf]; omega
          · have qm : ¬ (m : Int) < (L.length : Int) := by omega
            have HBV : Hid (Below W0.heap.size W0 wr) := by obtain ⟨ys, hy1, hy2, hy3⟩ := HGS.out; exact hy3
            have LI2 := HIDS.out wr HBV.out
            clear HGS
            go_wp2_with (first
              | (go_at_call 15; refine LI2.mono ?_; clear LI2; rintro e V3 ⟨ag3, cg3, rfl, -, hrg, bV3⟩; have HB3 := hide (bel_on' HBV.out bV3); have SM := HSAME.out V3 ag3 cg3 (by obtain ⟨a', c', e1, -, e2⟩ := owned_nums hrg; cases e1; exact e2) (HWI.out V3 HB3.out); clear hrg bV3)
              | (go_at_call 14; refine SM.mono ?_; clear SM; rintro e V4 ⟨rfl, n4, hV4⟩; have HB4 : Hid (Below W0.heap.size W0 V4) := (by rw [hV4]; exact bel_drewN HB3.out n4); clear hV4)
              | (go_at_call 17; refine (HAW.out _).mono ?_; rintro e V5 ⟨rfl, b5⟩; have HB5 := hide b5; clear b5))
            go_ret
            exact ⟨rfl, bel_on' HWB.out (bel_on' HB4.out HB5.out)⟩
    · have ql : ¬ (j : Int) < (l0.length : Int) := by omega
      clear HCL
      obtain ⟨W0, hW0⟩ : ∃ W0, W0 = wr := ⟨_, rfl⟩
      subst hW0
      have LI := pids_any HS.out.1
      have HIDS : Hid (∀ u, Below W0.heap.size W0 u → Calls Try.prog 15 #[.pointer (some ⟨p, 0, none⟩)] u (OwnInts u (idsP l))) := fun u hu => pids_any (HS.out.1.on hu)
      have hlL : l.length = (idsP l).length := (idsP_len l).symm
      have hl1000 : (idsP l).length ≤ 1000 := by rw [idsP_len]; exact HS.out.1.good.len
      rw [hlL] at HS ⊢
      have HWI : Hid (∀ u, Below W0.heap.size W0 u → Ints u av (idsP l)) := fun u hu => by
        have h1 := owned_on HS.out.2.1 hu
        rw [hlL] at h1
        obtain ⟨a', c', e1, -, e2⟩ := owned_nums h1
        cases e1
        exact e2
      have HWB := hide HS.out.2.2.2
      obtain ⟨L, hL⟩ : ∃ L, idsP l = L := ⟨_, rfl⟩
      rw [hL] at LI HIDS hl1000 HWI ⊢
      clear HS hL hlL
      have HSAME : Hid (∀ (u : World) (x : Option Addr) (c1 : Nat), Ints u x L → Ints u av L → Calls Try.prog 14 #[.slice x L.length c1, .slice av L.length cv] u fun e w' => e = .returned (.bool true) ∧ ∃ n, w' = u.drewN n) := fun u x c1 h1 h2 => by
        have := same_any x av L L c1 cv u (by omega) h1 h2
        rwa [decide_eq_true (rfl : L = L)] at this
      have HAW := hide pawake_any
      go_wp2_with (first
        | (go_at_call 15; refine LI.mono ?_; clear LI; rintro e V ⟨ag, cg, rfl, -, hrg, bV⟩; have SM := HSAME.out V ag cg (by obtain ⟨a', c', e1, -, e2⟩ := owned_nums hrg; cases e1; exact e2) (HWI.out V bV); have HGS := hide (show GSt W0 V ag cg L.length from ⟨L, rfl, hrg, bV⟩); clear hrg bV)
        | (go_at_call 14; refine SM.mono ?_; clear SM; rintro e V2 ⟨rfl, n2, hV2⟩; have HG2 : Hid (GSt W0 V2 ag cg L.length) := (by obtain ⟨ys, h1, h2, h3⟩ := HGS.out; rw [hV2]; exact ⟨ys, h1, owned_on h2 (bel_drewN (Below.refl _ _) n2), bel_drewN h3 n2⟩); clear hV2))
      clear HGS
      go_loopw [45] (fun i wr => ∃ m : Nat, m ≤ L.length ∧ i = .int .i64 m ∧ Hid (GSt W0 wr ag cg L.length)) (fun i _ => L.length - (Go.RowKit.intOf i).toNat)
      case atStart => exact ⟨0, Nat.zero_le _, rfl, HG2⟩
      case round =>
        obtain ⟨m, hm, rfl, HGS⟩ := hrel
        clear HG2
        by_cases hml : m < L.length
        · have qm : (m : Int) < (L.length : Int) := by omega
          obtain ⟨ys, hy1, hy2, hy3⟩ := HGS.out
          obtain ⟨a', c', e1, -, hi⟩ := owned_nums hy2
          cases e1
          rcases hi with hi | ⟨bi, oi, rfl, hci⟩
          · rw [hi] at hy1; simp at hy1; omega
          have hoi : oi = 0 := by
            rcases hy2.2 with ⟨e, _⟩ | ⟨g', cap', cur, e, _⟩
            · cases e
            · cases e; rfl
          subst hoi
          have d0 := hci m (by omega)
          rw [Nat.zero_add] at d0
          obtain ⟨f0, s0⟩ := own_set hy2 hml 0
          have HGS2 : Hid (GSt W0 (wr.setCell ⟨bi, m, none⟩ (.int .i64 0)) (some ⟨bi, 0, none⟩) cg L.length) := ⟨ys.set m 0, by rw [List.length_set]; exact hy1, s0, hy3.setCell (p := ⟨bi, m, none⟩) (hy2.lt bi rfl).1 _⟩
          obtain ⟨x0, hx0⟩ : ∃ x0, ys.getD m 0 = x0 := ⟨_, rfl⟩
          rw [hx0] at d0
          clear hx0 hci hy1 hy2 hy3 s0 HGS
          go_wp2
          go_roundw
          case rel => exact ⟨m + 1, by omega, by go_num, HGS2⟩
          case measure => simp [Go.RowKit.intOf]; omega
        · have qm : ¬ (m : Int) < (L.length : Int) := by omega
          have HBV : Hid (Below W0.heap.size W0 wr) := by obtain ⟨ys, hy1, hy2, hy3⟩ := HGS.out; exact hy3
          have LI2 := HIDS.out wr HBV.out
          clear HGS
          go_wp2_with (first
            | (go_at_call 15; refine LI2.mono ?_; clear LI2; rintro e V3 ⟨ag3, cg3, rfl, -, hrg, bV3⟩; have HB3 := hide (bel_on' HBV.out bV3); have SM := HSAME.out V3 ag3 cg3 (by obtain ⟨a', c', e1, -, e2⟩ := owned_nums hrg; cases e1; exact e2) (HWI.out V3 HB3.out); clear hrg bV3)
            | (go_at_call 14; refine SM.mono ?_; clear SM; rintro e V4 ⟨rfl, n4, hV4⟩; have HB4 : Hid (Below W0.heap.size W0 V4) := (by rw [hV4]; exact bel_drewN HB3.out n4); clear hV4)
            | (go_at_call 17; refine (HAW.out _).mono ?_; rintro e V5 ⟨rfl, b5⟩; have HB5 := hide b5; clear b5))
          go_ret
          exact ⟨rfl, bel_on' HWB.out (bel_on' HB4.out HB5.out)⟩
end Go.Proofs.Ytkaniplkobnpjaa
