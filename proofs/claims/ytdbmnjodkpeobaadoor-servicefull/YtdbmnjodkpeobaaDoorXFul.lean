/-
  ServiceFull: the walk.
-/
import Derived.Test.YtdbmnjodkpeobaaDoorSvdC
import Derived.Test.YtdbmnjodkpeobaaDoorSvdG
import Derived.Test.YtdbmnjodkpeobaaDoorNum
namespace Go.Proofs.YtdbmnjodkpeobaaDoor
open Go.ChangeShapes Go.WideShapes Go.ChangeAt Go.RowKit Go.Maps

/-- A service of this law behind i messages. -/
structure Fc (v : Sv) (room : Int) (i : Nat) : Prop where
  nd : v.node = 6
  dn : v.down = false
  rm : v.room = room
  ln : v.T.length = i
  lf : v.st.left = 1000 - i
  on : ∀ x : Int, 1 ≤ x → x ≤ i → v.st.s x = 1
  off : ∀ x : Int, (i : Int) < x → v.st.s x = 0 ∧ v.st.h x = 0
theorem fc_new {room : Int} (h : 1 ≤ room ∧ room ≤ 20) : Fc (newSv 6 1000 room) room 0 := by
  refine ⟨rfl, rfl, ?_, rfl, rfl, fun x h1 h2 => by omega, fun _ _ => ⟨rfl, rfl⟩⟩
  show roomV room = room
  unfold roomV
  omega
theorem fc_step {v : Sv} {room : Int} {i : Nat} (h : Fc v room i) (hi : (i : Int) < room) (hr : room ≤ 20) : ∃ v', hdS v ⟨1, 0, 6, 1 + i, 0, 1, 0⟩ = v' ∧ hdA v ⟨1, 0, 6, 1 + i, 0, 1, 0⟩ = [⟨2, 6, 0, 1 + i, 0, 0, 0⟩] ∧ Fc v' room (i + 1) := by
  have hrm : hasRoom v = true := hasRoom_iff.2 (by rw [h.rm, h.ln]; exact hi)
  obtain ⟨o1, o2⟩ := h.off (1 + i) (by omega)
  have ht : Hd.takeE v.st.left v.st.h (1 + i) 1 = 0 := takeE_zero (by omega) (by omega) o2 (by rw [h.lf]; omega)
  obtain ⟨e1, e2⟩ := hd_did (v := v) (m := ⟨1, 0, 6, 1 + i, 0, 1, 0⟩) (hears_mk h.dn h.nd.symm rfl (by show 1 ≤ (1 + i : Int) ∧ (1 + i : Int) ≤ 999; omega)) rfl o1 hrm ht
  rw [h.nd] at e2
  refine ⟨_, e1, e2, ?_⟩
  unfold putS
  rw [stp_did ht]
  refine ⟨h.nd, h.dn, h.rm, by simp [h.ln], ?_, fun x h1 h2 => ?_, fun x h1 => ?_⟩
  · show v.st.left - 1 = _
    rw [h.lf]
    omega
  · show Hd.upd v.st.s (1 + i) 1 x = 1
    by_cases e : x = 1 + i
    · rw [e, Hd.upd_same]
    · rw [Hd.upd_other _ _ e]
      exact h.on x h1 (by omega)
  · show Hd.upd v.st.s (1 + i) 1 x = 0 ∧ Hd.upd v.st.h (1 + i) 1 x = 0
    rw [Hd.upd_other _ _ (by omega), Hd.upd_other _ _ (by omega)]
    exact h.off x (by omega)
section
variable {v : Sv} {room : Int} {i : Nat}
theorem fc_more (h : Fc v room i) (hi : (i : Int) = room) (hr : 1 ≤ room ∧ room ≤ 20) : hdS v ⟨1, 0, 6, 500, 0, 1, 0⟩ = v ∧ hdA v ⟨1, 0, 6, 500, 0, 1, 0⟩ = [] := by
  have hrm : hasRoom v = false := hasRoom_not.2 (by rw [h.rm, h.ln]; omega)
  exact hd_did_full (v := v) (m := ⟨1, 0, 6, 500, 0, 1, 0⟩) (hears_mk h.dn h.nd.symm rfl (by show (1 : Int) ≤ 500 ∧ (500 : Int) ≤ 999; omega)) rfl (h.off 500 (by omega)).1 hrm
theorem fc_undo (h : Fc v room i) (hi : (i : Int) = room) (hr : 1 ≤ room ∧ room ≤ 20) : hdS v ⟨4, 0, 6, 1, 0, 0, 0⟩ = v ∧ hdA v ⟨4, 0, 6, 1, 0, 0, 0⟩ = [] := by
  have hrm : hasRoom v = false := hasRoom_not.2 (by rw [h.rm, h.ln]; omega)
  exact hd_undid_full (v := v) (m := ⟨4, 0, 6, 1, 0, 0, 0⟩) (hears_mk h.dn h.nd.symm rfl (by show (1 : Int) ≤ 1 ∧ (1 : Int) ≤ 999; omega)) rfl (.inr (h.on 1 (by omega) (by omega))) hrm
theorem fc_again (h : Fc v room i) (hi : (i : Int) = room) (hr : 1 ≤ room ∧ room ≤ 20) : hdS v ⟨1, 0, 6, 1, 0, 1, 0⟩ = v ∧ hdA v ⟨1, 0, 6, 1, 0, 1, 0⟩ = [⟨2, 6, 0, 1, 0, 0, 0⟩] := by
  have hs : v.st.s 1 = 1 := h.on 1 (by omega) (by omega)
  obtain ⟨e1, e2⟩ := hd_did_again (v := v) (m := ⟨1, 0, 6, 1, 0, 1, 0⟩) (hears_mk h.dn h.nd.symm rfl (by show (1 : Int) ≤ 1 ∧ (1 : Int) ≤ 999; omega)) rfl (by show v.st.s 1 ≠ 0; rw [hs]; decide)
  rw [h.nd] at e2
  refine ⟨e1, e2.trans ?_⟩
  show [(⟨if v.st.s 1 = 1 then 2 else 3, 6, 0, 1, 0, 0, 0⟩ : Ms.Mg)] = _
  rw [if_pos hs]
end
def FuRel (w : World) (p : Nat) (room : Int) (i : Value) (wr : World) : Prop :=
  ∃ (j : Nat) (v : Sv) (E : Nat → Prop), i = .int .i64 j ∧ (j : Int) ≤ room ∧ Hid (Sn w E wr p v (3 * j)) ∧ Hid (Fc v room j)

set_option maxHeartbeats 4000000 in
theorem serviceFull_walk (a : Int) (undo : Bool) (w : World) (_h0 : (Lit.int .i64 a).wf = true) (hg : Gl w) :
    Calls Tryd.prog 3 #[.int .i64 a, .bool undo] w fun e w' => e = .returned (.bool true) ∧ Below w.heap.size w w' := by
  obtain ⟨ba1, ba2⟩ := um_bd a 20 (by omega) (by omega)
  obtain ⟨A, hA⟩ : ∃ A, um a 20 = A := ⟨_, rfl⟩
  rw [hA] at ba1 ba2
  unfold um at hA
  have N := Sn.new (w0 := w) (node := 6) (hold := 1000) (room := 1 + A) (by omega)
  have HR : Hid (1 ≤ 1 + A ∧ 1 + A ≤ 20) := by show (1 : Int) ≤ _ ∧ _ ≤ (20 : Int); omega
  clear _h0
  go_enter Tryd.func3, Tryd.ntmps3
  go_wp2_with fail
  refine N.mono ?_
  clear N
  rintro e w1 ⟨p, E0, rfl, k0⟩
  have K0 := hide k0
  clear k0
  go_wp2_with fail
  go_loopw [19] (fun i wr => FuRel w p (1 + A) i wr) (fun i _ => (1 + A).toNat - (intOf i).toNat)
  case atStart => exact ⟨0, _, _, rfl, by omega, K0, fc_new HR.out⟩
  case round =>
    obtain ⟨j, v, E, rfl, hj, HK, HF⟩ := hrel
    clear K0
    by_cases hlt : (j : Int) < 1 + A
    · obtain ⟨v', hv', hx', hF'⟩ := fc_step HF.out hlt HR.out.2
      have H1 := HK.out.handle hg (by omega) ⟨1, 0, 6, 1 + j, 0, 1, 0⟩ hx' hv'
      have HF' := hide hF'
      clear hF' HF HK hx' hv'
      go_wp2_with (go_at_call 6; refine H1.mono ?_; clear H1; rintro e u1 ⟨a1, c1, E1, rfl, -, k1, -, -⟩; have HK1 := hide k1; clear k1)
      go_roundw
      case rel => exact ⟨j + 1, v', E1, by go_num, by omega, HK1, HF'⟩
      case measure => simp [intOf]; omega
    have hje : (j : Int) = 1 + A := by omega
    have HJE := hide hje
    have H20 : Hid (3 * j ≤ 60) := by show 3 * j ≤ 60; have := HR.out; omega
    have HL := hide HF.out.lf
    have HS5 := hide (HF.out.off 500 (by have := HR.out; omega)).1
    obtain ⟨hv3, hx3⟩ := fc_again HF.out HJE.out HR.out
    clear hje hj
    cases undo
    · obtain ⟨hv2, hx2⟩ := fc_more HF.out HJE.out HR.out
      have HB1 : Hid (Below wr.heap.size wr (wr.alloc (.cells #[.int .i64 1, .int .i64 0, .int .i64 6, .int .i64 500, .int .i64 0, .int .i64 1, .int .i64 0] 28))) := (Below.refl _ _).alloc (Nat.le_refl _) _
      have K1 := hide (HK.out.on HB1.out)
      have L1 := K1.out.left HL.out
      clear HK HF
      have qq : (1000 - (j : Int) == 1000 - (j : Int)) = true := by simp
      go_wp2_with (first
        | (go_at_call 7; refine L1.mono ?_; clear L1; rintro e w' ⟨rfl, rfl⟩; have H2 := K1.out.handle hg (by have := H20.out; omega) ⟨1, 0, 6, 500, 0, 1, 0⟩ hx2 hv2; clear K1)
        | (go_at_call 6; refine H2.mono ?_; clear H2; rintro e u2 ⟨a2, c2, E2, rfl, -, k2, -, -⟩; have H3 := k2.handle hg (by have := H20.out; omega) ⟨1, 0, 6, 1, 0, 1, 0⟩ hx3 hv3; clear k2)
        | (go_at_call 6; refine H3.mono ?_; clear H3; rintro e u3 ⟨a3, c3, E3, rfl, x3, k3, -, -⟩; obtain ⟨b3, o3, rfl, y0, -⟩ := x3.one; have L4 := k3.left HL.out; have S4 := k3.state (id := 500) (by decide) HS5.out; have W4 := hide k3.2; clear k3 x3)
        | (go_at_call 7; refine L4.mono ?_; clear L4; rintro e w' ⟨rfl, rfl⟩)
        | (go_at_call 8; refine S4.mono ?_; clear S4; rintro e w' ⟨rfl, rfl⟩)
        | (go_at_call 9; refine (swake_any _ (hg.on W4.out)).mono ?_; rintro e u7 ⟨rfl, hb7⟩; have HB7 := hide (bel_on' W4.out hb7); clear hb7))
      go_ret
      exact ⟨rfl, HB7.out⟩
    · obtain ⟨hv2, hx2⟩ := fc_undo HF.out HJE.out HR.out
      have HB1 : Hid (Below wr.heap.size wr (wr.alloc (.cells #[.int .i64 4, .int .i64 0, .int .i64 6, .int .i64 1, .int .i64 0, .int .i64 0, .int .i64 0] 28))) := (Below.refl _ _).alloc (Nat.le_refl _) _
      have K1 := hide (HK.out.on HB1.out)
      have L1 := K1.out.left HL.out
      clear HK HF
      have qq : (1000 - (j : Int) == 1000 - (j : Int)) = true := by simp
      go_wp2_with (first
        | (go_at_call 7; refine L1.mono ?_; clear L1; rintro e w' ⟨rfl, rfl⟩; have H2 := K1.out.handle hg (by have := H20.out; omega) ⟨4, 0, 6, 1, 0, 0, 0⟩ hx2 hv2; clear K1)
        | (go_at_call 6; refine H2.mono ?_; clear H2; rintro e u2 ⟨a2, c2, E2, rfl, -, k2, -, -⟩; have H3 := k2.handle hg (by have := H20.out; omega) ⟨1, 0, 6, 1, 0, 1, 0⟩ hx3 hv3; clear k2)
        | (go_at_call 6; refine H3.mono ?_; clear H3; rintro e u3 ⟨a3, c3, E3, rfl, x3, k3, -, -⟩; obtain ⟨b3, o3, rfl, y0, -⟩ := x3.one; have L4 := k3.left HL.out; have S4 := k3.state (id := 500) (by decide) HS5.out; have W4 := hide k3.2; clear k3 x3)
        | (go_at_call 7; refine L4.mono ?_; clear L4; rintro e w' ⟨rfl, rfl⟩)
        | (go_at_call 8; refine S4.mono ?_; clear S4; rintro e w' ⟨rfl, rfl⟩)
        | (go_at_call 9; refine (swake_any _ (hg.on W4.out)).mono ?_; rintro e u7 ⟨rfl, hb7⟩; have HB7 := hide (bel_on' W4.out hb7); clear hb7))
      go_ret
      exact ⟨rfl, HB7.out⟩
end Go.Proofs.YtdbmnjodkpeobaaDoor
