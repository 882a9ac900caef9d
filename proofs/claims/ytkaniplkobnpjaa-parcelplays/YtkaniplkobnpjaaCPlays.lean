/-
  ParcelPlays's walk.
-/
import Derived.Test.YtkaniplkobnpjaaPclW
import Derived.Test.YtkaniplkobnpjaaPclD
import Derived.Test.YtkaniplkobnpjaaLater
import Derived.Deep.RegionHeld3
import Derived.Deep.QuietTactic
import Derived.BigQuiet
namespace Go.Proofs.Ytkaniplkobnpjaa
open Go.ChangeShapes Go.WideShapes Go.ChangeAt Go.RowKit Go.Maps

/-- Both books beside each other. -/
def PSt (w wr : World) (p q : Nat) (E F : Nat → Prop) (l : List (Int × Int × Int)) : Prop :=
  Pc w.heap.size E wr p l ∧ Rc w.heap.size F wr q l ∧ (∀ k, E k → ¬ F k) ∧ Below w.heap.size w wr
theorem PSt.on {w wr V : World} {p q : Nat} {E F : Nat → Prop} {l : List (Int × Int × Int)} (k : PSt w wr p q E F l) (hb : Below wr.heap.size wr V) : PSt w V p q E F l :=
  ⟨k.1.on hb, k.2.1.on hb, k.2.2.1, bel_on' k.2.2.2 hb⟩
/-- Behind the one's Ship, and then the other's. -/
theorem PSt.step {w wr V : World} {p q : Nat} {E F : Nat → Prop} {l l' : List (Int × Int × Int)} (k : PSt w wr p q E F l) (k2 : Pc w.heap.size (growE E wr V) V p l') (o2 : Rg.Kept (fun i _ => E i) wr V) : Rc w.heap.size F V q l ∧ Below w.heap.size w V ∧
    ∀ X, Rc w.heap.size (growE F V X) X q l' → Rg.Kept (fun i _ => F i) V X → PSt w X p q (growE E wr V) (growE F V X) l' := by
  obtain ⟨h1, h2, h3, h4⟩ := k
  have r2 := h2.kept o2 (fun k _ e h => h3 k h e)
  have hd : ∀ k, growE E wr V k → ¬ F k := fun k e h => by
    rcases e with e | e
    · exact h3 k e h
    · have := (h2.1 k h).2
      omega
  refine ⟨r2, h4.trans (h1.bel o2), fun X k3 o3 => ⟨k2.kept o3 (fun k _ e h => hd k e h), k3, fun k e h => ?_, (h4.trans (h1.bel o2)).trans (r2.bel o3)⟩⟩
  rcases h with h | h
  · exact hd k e h
  · have := (k2.1 k e).2
    omega
def PRel (w : World) (p q : Nat) (len : Nat) (i : Value) (wr : World) : Prop :=
  ∃ (j : Nat) (l : List (Int × Int × Int)) (E F : Nat → Prop), i = .int .i64 j ∧ j ≤ len ∧ j ≤ 100 ∧ Hid (PSt w wr p q E F l)

theorem kept_cell {X Y : World} {E : Nat → Obj → Prop} {B i : Nat} {v : Value} (hk : Rg.Kept E X Y) (hn : ∀ o, ¬ E B o) (hc : X.cell? ⟨B, i, none⟩ = some v) : Y.cell? ⟨B, i, none⟩ = some v := by
  have hlt : B < X.heap.size := World.block_lt_of_cell? _ _ hc
  have e : X.heap[B]? = some X.heap[B] := Array.getElem?_eq_getElem hlt
  rw [World.cell?_of_block (a := ⟨B, i, none⟩) ((hk.block _ _ e (hn _)).trans e.symm)]
  exact hc

theorem bel_drewN {w u : World} (h : Below w.heap.size w u) (n : Nat) : Below w.heap.size w (u.drewN n) := by
  induction n with
  | zero => exact h
  | succ n ih => exact ih.drew
theorem same_of {u : World} {B B' : Nat} {L : List Int} {a b : Option Addr} {c c' : Nat} (hL : L.length ≤ 1000) (h1 : u.ownsRow B 3 1 (.slice a L.length c) L.length (L.map (Value.int .i64))) (h2 : u.ownsRow B' 3 1 (.slice b L.length c') L.length (L.map (Value.int .i64))) :
    Calls Try.prog 14 #[.slice a L.length c, .slice b L.length c'] u fun e w' => e = .returned (.bool true) ∧ Below u.heap.size u w' := by
  obtain ⟨a', c'', e1, -, e2⟩ := owned_nums h1
  cases e1
  obtain ⟨a', c'', e1, -, e3⟩ := owned_nums h2
  cases e1
  refine (same_any a b L L c c' u (by omega) e2 e3).mono ?_
  rintro e w' ⟨rfl, n, rfl⟩
  exact ⟨by simp, bel_drewN (Below.refl _ _) n⟩

set_option maxRecDepth 100000 in
set_option maxHeartbeats 8000000 in
theorem parcelPlays_walk (l0 : List Cl) (a0 : Option Addr) (cap0 : Nat) (w : World) (w0 : ClsIn w l0 a0) :
    Calls Try.prog 3 #[.slice a0 l0.length cap0] w fun e w' => e = .returned (.bool true) ∧ Below w.heap.size w w' := by
  obtain ⟨hlen, hcl⟩ := w0
  have HCL := hide hcl
  clear hcl
  have N1 := pnew_any w
  go_enter Try.func3, Try.ntmps3
  go_wp2_with (go_at_call 7; refine N1.mono ?_; clear N1; rintro e u1 ⟨p, rfl, -, k1, hb1⟩; have HK1 := hide k1; have HB1 := hide hb1; clear k1 hb1)
  obtain ⟨q, hq⟩ : ∃ q, u1.heap.size = q := ⟨_, rfl⟩
  have HST : Hid (PSt w (u1.alloc (.cells #[.slice none 0 0] 28)) p q (fun k => k = p) (fun k => k = q) []) := by
    have hb : Below u1.heap.size u1 (u1.alloc (.cells #[.slice none 0 0] 28)) := bel_al (Below.refl _ _) _
    have h1 := HK1.out.1 p rfl
    have h2 := HB1.out.size
    refine ⟨HK1.out.on hb, ⟨fun k e => ?_, rfl, .slice none 0 0, ?_, World.ownsRow_nil _ _ _ _, fun k e => by simp [Value.ownBlock] at e⟩, fun k e h => by omega, bel_on' HB1.out hb⟩
    · rw [World.size_alloc]; omega
    · rw [← hq]; exact World.alloc_heap_new _ _
  rw [hq]
  clear HK1 HB1 hq
  go_loopw [21] (fun i wr => PRel w p q l0.length i wr) (fun i _ => l0.length - (Go.RowKit.intOf i).toNat)
  case atStart => exact ⟨0, [], _, _, rfl, Nat.zero_le _, Nat.zero_le _, HST⟩
  case round =>
    obtain ⟨j, l, E, F, rfl, hj, hj100, HS⟩ := hrel
    clear HST
    have HAW := hide pawake_any
    by_cases hlt : j < l0.length
    · have ql : (j : Int) < (l0.length : Int) := by omega
      obtain ⟨cl, hc⟩ : ∃ cl, l0[j]? = some cl := ⟨l0[j], by simp [hlt]⟩
      rcases HCL.out.below HS.out.2.2.2 with h0 | ⟨bc, off, rfl, hca⟩
      · subst h0; simp at hlt
      obtain ⟨⟨c0, c1, c2⟩, hok⟩ := hca j cl hc
      obtain ⟨id, it, qt⟩ := cl
      dsimp only at c0 c1 c2 hok
      have hwi := hok.1
      clear hca hc hok
      by_cases h100 : j < 100
      · have q100 : ¬ (j : Int) ≥ 100 := by omega
        obtain ⟨U, hU⟩ : ∃ U, U = wr.alloc (.cells #[.int .i64 id, .int .i64 it, .int .i64 qt] 30) := ⟨_, rfl⟩
        have hbU : Below wr.heap.size wr U := by rw [hU]; exact bel_al (Below.refl _ _) _
        have hbD : Below wr.heap.size wr U.drew := hbU.drew
        have HSD := hide (HS.out.on hbD)
        obtain ⟨e2, he2⟩ : ∃ e2, shipE l id it qt = e2 := ⟨_, rfl⟩
        obtain ⟨l2, hl2⟩ : ∃ l2, shipL l id it qt = l2 := ⟨_, rfl⟩
        have A := ship_by HSD.out.1 hwi he2 hl2
        have HGL := hide HS.out.1.good
        have k0 : U.cell? ⟨wr.heap.size, 0, none⟩ = some (.int .i64 id) := by rw [hU]; simp
        have k1 : U.cell? ⟨wr.heap.size, 1, none⟩ = some (.int .i64 it) := by rw [hU]; simp
        have k2 : U.cell? ⟨wr.heap.size, 2, none⟩ = some (.int .i64 qt) := by rw [hU]; simp
        have kd0 : U.drew.cell? ⟨wr.heap.size, 0, none⟩ = some (.int .i64 id) := by simpa using k0
        have kd1 : U.drew.cell? ⟨wr.heap.size, 1, none⟩ = some (.int .i64 it) := by simpa using k1
        have kd2 : U.drew.cell? ⟨wr.heap.size, 2, none⟩ = some (.int .i64 qt) := by simpa using k2
        have NA : Hid (∀ V, Pc w.heap.size (growE E U.drew V) V p l2 → Rg.Kept (fun i _ => E i) U.drew V →
            V.cell? ⟨wr.heap.size, 0, none⟩ = some (.int .i64 id) ∧ V.cell? ⟨wr.heap.size, 1, none⟩ = some (.int .i64 it) ∧ V.cell? ⟨wr.heap.size, 2, none⟩ = some (.int .i64 qt) ∧
            (Calls Try.prog 9 #[.pointer (some ⟨q, 0, none⟩), .int .i64 id, .int .i64 it, .int .i64 qt] V fun e w' => e = .returned (.int .i64 e2) ∧ Rc w.heap.size (growE F V w') w' q l2 ∧ Rg.Kept (fun i _ => F i) V w') ∧
            ∀ X, Rc w.heap.size (growE F V X) X q l2 → Rg.Kept (fun i _ => F i) V X → PSt w X p q (growE E U.drew V) (growE F V X) l2 ∧ X.cell? ⟨wr.heap.size, 0, none⟩ = some (.int .i64 id) ∧ X.cell? ⟨wr.heap.size, 1, none⟩ = some (.int .i64 it) ∧ X.cell? ⟨wr.heap.size, 2, none⟩ = some (.int .i64 qt)) := fun V K2 O2 => by
          have hne : ∀ o, ¬ (fun (i : Nat) (_ : Obj) => E i) wr.heap.size o := fun _ e => by have := (HS.out.1.1 _ e).2; omega
          have hnf : ∀ o, ¬ (fun (i : Nat) (_ : Obj) => F i) wr.heap.size o := fun _ e => by have := (HS.out.2.1.1 _ e).2; omega
          obtain ⟨s1, s2, s3⟩ := HSD.out.step K2 O2
          have v0 := kept_cell O2 hne kd0
          have v1 := kept_cell O2 hne kd1
          have v2 := kept_cell O2 hne kd2
          have RS := rship_any s1 HGL.out.len id it qt
          rw [he2, hl2] at RS
          exact ⟨v0, v1, v2, RS, fun X K3 O3 => ⟨s3 X K3 O3, kept_cell O3 hnf v0, kept_cell O3 hnf v1, kept_cell O3 hnf v2⟩⟩
        have HUW := hide hU
        have HWI := hide hwi
        clear hU hbU hbD HSD HS he2 hl2 kd0 kd1 kd2 HGL hwi
        go_wp2_with fail
        rw [← HUW.out]
        go_region_held3 (fun w' => w'.cell? ⟨wr.heap.size, 0, none⟩ = some (.int .i64 id) ∧ w'.cell? ⟨wr.heap.size, 1, none⟩ = some (.int .i64 it) ∧ w'.cell? ⟨wr.heap.size, 2, none⟩ = some (.int .i64 qt)) (go_keep) (first
          | (go_at_call 8; refine A.mono ?_; clear A; rintro e V ⟨rfl, K2, O2⟩; clear k0 k1 k2; obtain ⟨k0, k1, k2, A2, hnx⟩ := NA.out V K2 O2; have HNX := hide hnx; clear K2 O2 hnx)
          | (go_at_call 9; refine A2.mono ?_; clear A2; rintro e X ⟨rfl, K3, O3⟩; clear k0 k1 k2; obtain ⟨hs3, k0, k1, k2⟩ := HNX.out X K3 O3; have HS3 := hide hs3; clear K3 O3 hs3))
        clear NA HNX HUW
        have HC := hide k1
        have PH := phas_any HS3.out.1 HWI.out
        have HFN : Hid (∀ u, Below X.heap.size X u → u.cell? ⟨wr.heap.size, 0, none⟩ = some (.int .i64 id) ∧ Calls Try.prog 11 #[.pointer (some ⟨q, 0, none⟩), .int .i64 id] u fun e w' => ∃ z, e = .returned (.tuple #[.agg #[.int .i64 z, .int .i64 ((findP l2 id).getD (0, 0)).1, .int .i64 ((findP l2 id).getD (0, 0)).2], .bool (findP l2 id).isSome]) ∧ Below u.heap.size u w') := fun u hu => ⟨cellL k0 hu, rfind_any (HS3.out.2.1.on hu) HS3.out.1.good.len id⟩
        obtain ⟨⟨y1, y2⟩, hy⟩ : ∃ c, (findP l2 id).getD (0, 0) = c := ⟨_, rfl⟩
        obtain ⟨ok, hok⟩ : ∃ o, (findP l2 id).isSome = o := ⟨_, rfl⟩
        rw [hy, hok] at PH HFN
        dsimp only at PH HFN
        clear hy hok k1 k2
        go_wp2_with (first
          | (go_at_call 10; refine PH.mono ?_; clear PH; rintro e u5 ⟨rfl, b5⟩; obtain ⟨m0, FN⟩ := HFN.out u5 b5; have HB5 := hide b5; clear b5 HFN)
          | (go_at_call 11; refine FN.mono ?_; clear FN; rintro e u6 ⟨z, rfl, b6⟩; have HB6 := hide (bel_on' HB5.out b6); clear b6 HB5))
        obtain ⟨U6, hU6⟩ : ∃ U6, u6.alloc (.cells #[.int .i64 z, .int .i64 y1, .int .i64 y2] 35) = U6 := ⟨_, rfl⟩
        have hb6 : Below u6.heap.size u6 U6 := by rw [← hU6]; exact bel_al (Below.refl _ _) _
        have p1 : U6.cell? ⟨u6.heap.size, 1, none⟩ = some (.int .i64 y1) := by rw [← hU6]; simp
        have p2 : U6.cell? ⟨u6.heap.size, 2, none⟩ = some (.int .i64 y2) := by rw [← hU6]; simp
        have HNN : Hid (∀ u, Below U6.heap.size U6 u → u.cell? ⟨wr.heap.size, 1, none⟩ = some (.int .i64 it) ∧ u.cell? ⟨u6.heap.size, 1, none⟩ = some (.int .i64 y1) ∧ u.cell? ⟨u6.heap.size, 2, none⟩ = some (.int .i64 y2) ∧
            PSt w u p q (growE E U.drew V) (growE F V X) l2 ∧
            (Calls Try.prog 12 #[.pointer (some ⟨p, 0, none⟩), .int .i64 it] u fun e w' => e = .returned (.int .i64 (wentP l2 it)) ∧ Below u.heap.size u w') ∧
            (Calls Try.prog 13 #[.pointer (some ⟨q, 0, none⟩), .int .i64 it] u fun e w' => e = .returned (.int .i64 (wentP l2 it)) ∧ Below u.heap.size u w') ∧
            (Calls Try.prog 15 #[.pointer (some ⟨p, 0, none⟩)] u (OwnInts u (idsP l2))) ∧
            (Calls Try.prog 16 #[.pointer (some ⟨q, 0, none⟩)] u (OwnInts u (idsP l2)))) := fun u hu => by
          have hx : Below X.heap.size X u := bel_on' (bel_on' HB6.out hb6) hu
          have hs := HS3.out.on hx
          have hg := hs.1.good
          exact ⟨cellL HC.out hx, cellL p1 hu, cellL p2 hu, hs, pwent_any hs.1 it, rwent_any hs.2.1 hg it, pids_any hs.1, rids_any hs.2.1 hg.len⟩
        have hLn : (idsP l2).length ≤ 1000 := by rw [idsP_len]; exact HS3.out.1.good.len
        obtain ⟨L, hL⟩ : ∃ L, idsP l2 = L := ⟨_, rfl⟩
        obtain ⟨S, hS⟩ : ∃ S, wentP l2 it = S := ⟨_, rfl⟩
        rw [hL] at HNN hLn
        rw [hS] at HNN
        rw [hU6]
        have H6 := hide ((Below.refl U6.heap.size U6).drew)
        have i1 := (HNN.out U6 (Below.refl _ _)).1
        have W1 := (HNN.out U6.drew H6.out).2.2.2.2.1
        have qe : (e2 != e2) = false := by simp
        have qo : (ok != ok) = false := by simp
        have qy1 : (y1 != y1) = false := by simp
        have qy2 : (y2 != y2) = false := by simp
        have qs : (S != S) = false := by simp
        clear hL hS hU6 hb6 HS3 HC HB6 m0 k0 h100 hlt
        go_region_held3 (fun w' => w'.cell? ⟨wr.heap.size, 1, none⟩ = some (.int .i64 it) ∧ w'.cell? ⟨u6.heap.size, 1, none⟩ = some (.int .i64 y1) ∧ w'.cell? ⟨u6.heap.size, 2, none⟩ = some (.int .i64 y2)) (go_keep) (first
          | (go_at_call 12; refine W1.mono ?_; clear W1; rintro e u7 ⟨rfl, hb7⟩; have HB7 := hide (bel_on' H6.out hb7); clear i1 p1 p2; obtain ⟨i1, p1, p2, -, -, W2, -⟩ := HNN.out u7 HB7.out; clear hb7)
          | (go_at_call 13; refine W2.mono ?_; clear W2; rintro e u8 ⟨rfl, hb8⟩; have HB8 := hide (bel_on' HB7.out hb8); clear i1 p1 p2; obtain ⟨i1, p1, p2, -, -, -, I1, -⟩ := HNN.out u8 HB8.out; clear hb8)
          | (go_at_call 15; refine I1.mono ?_; clear I1; rintro e u9 ⟨a9, c9, rfl, -, hrow9, hb9⟩; have HB9 := hide (bel_on' HB8.out hb9); have HR9 := hide hrow9; clear i1 p1 p2; obtain ⟨i1, p1, p2, -, -, -, -, I2⟩ := HNN.out u9 HB9.out; clear hb9 hrow9)
          | (go_at_call 16; refine I2.mono ?_; clear I2; rintro e u10 ⟨a10, c10, rfl, -, hrow10, hb10⟩; have HB10 := hide (bel_on' HB9.out hb10); have SM := same_of hLn (owned_on HR9.out hb10) hrow10; clear i1 p1 p2; obtain ⟨i1, p1, p2, -⟩ := HNN.out u10 HB10.out; clear hb10 hrow10)
          | (go_at_call 14; refine SM.mono ?_; clear SM; rintro e u11 ⟨rfl, hb11⟩; have HB11 := hide (bel_on' HB10.out hb11); clear i1 p1 p2; obtain ⟨i1, p1, p2, -⟩ := HNN.out u11 HB11.out; clear hb11))
        go_wp2
        all_goals go_roundw
        all_goals (first | exact ⟨j + 1, l2, _, _, by go_num, by omega, by omega, (HNN.out u11 HB11.out).2.2.2.1⟩ | (simp [Go.RowKit.intOf]; omega))
      · have q100 : (j : Int) ≥ 100 := by omega
        have HB := hide HS.out.2.2.2
        clear HS HCL
        go_wp2_with (go_at_call 17; refine (HAW.out _).mono ?_; rintro e V5 ⟨rfl, b5⟩; have HB5 := hide b5; clear b5)
        go_ret
        exact ⟨rfl, bel_on' (by first | exact HB.out | exact bel_al HB.out _) HB5.out⟩
    · have ql : ¬ (j : Int) < (l0.length : Int) := by omega
      have HB := hide HS.out.2.2.2
      clear HS HCL
      go_wp2_with (go_at_call 17; refine (HAW.out _).mono ?_; rintro e V5 ⟨rfl, b5⟩; have HB5 := hide b5; clear b5)
      go_ret
      exact ⟨rfl, bel_on' (by first | exact HB.out | exact bel_al HB.out _) HB5.out⟩
end Go.Proofs.Ytkaniplkobnpjaa
