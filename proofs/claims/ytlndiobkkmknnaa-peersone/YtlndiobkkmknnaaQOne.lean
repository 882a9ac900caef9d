/-
  PeersOne's walk.
-/
import Derived.Test.YtlndiobkkmknnaaPerA
import Derived.Test.YtlndiobkkmknnaaPerB
import Derived.Test.YtlndiobkkmknnaaNum
namespace Go.Proofs.Ytlndiobkkmknnaa
open Go.ChangeShapes Go.WideShapes Go.ChangeAt Go.RowKit

/-- Who waits or was forced. -/
def quiet (x : Int) : Prop := x = 1 ∨ x = 4 ∨ x = 5
theorem quiet_tel {x : Int} (h : quiet x) : telV x = 0 ∧ mayV x = true := by
  rcases h with rfl | rfl | rfl <;> decide
theorem quiet_dec {l : List Int} (h : ∀ x ∈ l, quiet x) : decV l = 0 := (dec_zero l).2 fun x hx => (quiet_tel (h x hx)).1
theorem quiet_dec1 {l : List Int} (h : ∀ x ∈ l, quiet x) (s : Int) : decV (l ++ [s]) = telV s := by
  rw [dec_app, if_pos (quiet_dec h)]
  show (if telV s = 0 then (0 : Int) else telV s) = telV s
  split
  · rename_i e; exact e.symm
  · rfl
theorem quiet_saf {l : List Int} (h : ∀ x ∈ l, quiet x) : safV l = true := by
  refine (saf_iff l).2 ⟨fun x hx => (quiet_tel (h x hx)).2, fun ⟨a, _⟩ => ?_⟩
  obtain ⟨x, hx, e⟩ := (has_iff _ _).1 a
  have := (quiet_tel (h x hx)).1
  omega
theorem dec_one (s : Int) : decV [s] = telV s := quiet_dec1 (l := []) (by simp) s
theorem ints_oneN (w : World) (n : Nat) (hn : w.heap.size = n) (z : Int) : Ints (w.alloc (.cells #[.int .i64 z] 3)) (some ⟨n, 0, none⟩) [z] := by
  subst hn; exact ints_one w z
theorem third (q : Int) : (IntKind.u64.wrap q).tmod 3 = 0 ∨ (IntKind.u64.wrap q).tmod 3 = 1 ∨ (IntKind.u64.wrap q).tmod 3 = 2 := by
  have h0 : 0 ≤ IntKind.u64.wrap q := by rw [IntKind.wrap_u64]; omega
  rw [Int.tmod_eq_emod_of_nonneg h0]
  omega
/-- What stands behind j numbers: a row of one's own that holds j quiet ones. -/
structure OneS (w wr : World) (j : Nat) (a : Option Addr) (c : Nat) (L : List Int) : Prop where
  own : OwnI w wr (.slice a j c) L
  len : L.length = j
  qui : ∀ x ∈ L, quiet x
def OneR (w : World) (len : Nat) (v i : Value) (wr : World) : Prop :=
  ∃ (j : Nat) (a : Option Addr) (c : Nat) (L : List Int), i = .int .i64 j ∧ v = .slice a j c ∧ j ≤ len ∧ Hid (OneS w wr j a c L)
theorem OneS.ints {w wr : World} {j : Nat} {a : Option Addr} {c : Nat} {L : List Int} (h : OneS w wr j a c L) : (a = none → j = 0 ∧ c = 0) ∧ Ints wr a L := by
  obtain ⟨_, _, e, _, h1, h2⟩ := h.own.ints
  rw [h.len] at e
  cases e
  exact ⟨fun h' => ⟨by rw [← h.len]; exact (h1 h').1, (h1 h').2⟩, h2⟩
theorem OneS.more {w wr u : World} {j : Nat} {a : Option Addr} {c : Nat} {L : List Int} {o1 o2 : Obj} {v' : Value} {x : Int} (h : OneS w wr j a c L) (hq : quiet x)
    (ho : u.ownsRow w.heap.size 3 1 v' (j + 1) ((L ++ [x]).map (Value.int .i64))) (hg : ((wr.alloc o1).alloc o2).grownBy u (Value.slice a j c).ownBlock) : ∃ a' c', v' = .slice a' (j + 1) c' ∧ OneS w u (j + 1) a' c' (L ++ [x]) := by
  have k := ((h.own.alloc o1).alloc o2).more (m := [x]) (n := j + 1) (by rw [h.len]; rfl) ho hg
  obtain ⟨a', c', rfl, _⟩ := row_slice ho
  refine ⟨a', c', rfl, k, by rw [List.length_append, h.len]; rfl, fun y hy => ?_⟩
  rcases List.mem_append.1 hy with hy | hy
  · exact h.qui y hy
  · rw [List.mem_singleton] at hy; rw [hy]; exact hq
set_option maxHeartbeats 4000000 in
theorem peersOne_walk (a0 : Int) (a1 : Option Addr) (len1 cap1 : Nat) (z1 : List Int) (w : World) (_w0 : (Lit.int .i64 a0).wf = true) (w1 : IsRow .i64 w a1 len1 cap1 z1) :
    Calls Try.prog 6 #[.int .i64 a0, .slice a1 len1 cap1] w fun e w' => e = .returned (.bool true) ∧ Below w.heap.size w w' := by
  obtain ⟨l, rfl, hl9, hi⟩ := w1.ints
  clear w1 _w0
  by_cases hbig : 40 < l.length
  · clear hi
    go_enter Try.func6, Try.ntmps6
    go_wp2_with (go_at_call 7; refine (pawake_any _).mono ?_; rintro e u ⟨rfl, hb⟩)
    go_ret
    exact ⟨rfl, hb⟩
  have HI := hide hi
  have HS0 : Hid (OneS w w 0 none 0 []) := ⟨⟨nums_nil w _, Below.refl _ _⟩, rfl, by simp⟩
  clear hi hl9
  go_enter Try.func6, Try.ntmps6
  go_wp2
  go_loopw [5, 14] (fun v i wr => OneR w l.length v i wr) (fun _ i _ => (l.length - intOf i).toNat)
  case atStart => exact ⟨0, none, 0, [], rfl, rfl, Nat.zero_le _, HS0⟩
  case round =>
    obtain ⟨j, a, c, L, rfl, rfl, hj, HS⟩ := hrel
    clear HS0
    by_cases hlt : j < l.length
    · have ql : (j : Int) < (l.length : Int) := by omega
      rcases HI.out.below HS.out.own.bel with h0 | ⟨bi, oi, rfl, hci⟩
      · subst h0; simp at hlt
      have c0 := hci j hlt
      obtain ⟨q, hq⟩ : ∃ k, l.getD j 0 = k := ⟨_, rfl⟩
      rw [hq] at c0
      clear hci hq
      have HO : Hid (wr.ownsRow w.heap.size 3 1 (.slice a j c) j (L.map (Value.int .i64))) := by have := HS.out.own.own; rw [HS.out.len] at this; exact this
      rcases third q with e | e | e
      · go_wp2_with (at_builtin; refine append_nums rfl (.tmp 18) (.tmp 25) rfl w.heap.size (.slice a j c) j L rfl ((HO.out.alloc _).alloc _) ⟨wr.heap.size + 1, 0, none⟩ 1 1 [1] rfl rfl (ints_oneN _ _ (by simp) _) (by omega) (by have := HS.out.own.bel.size; simp; omega) ?_
                     intro v4 w4 o4 g4
                     obtain ⟨a4, c4, rfl, K4⟩ := HS.out.more (x := 1) (by unfold quiet; omega) o4 g4
                     have HS4 := hide K4
                     clear o4 g4 K4)
        go_roundw
        case rel => exact ⟨j + 1, a4, c4, L ++ [1], by go_num, rfl, by omega, HS4⟩
        case measure => simp [intOf]; omega
      · go_wp2_with (at_builtin; refine append_nums rfl (.tmp 18) (.tmp 25) rfl w.heap.size (.slice a j c) j L rfl ((HO.out.alloc _).alloc _) ⟨wr.heap.size + 1, 0, none⟩ 1 1 [4] rfl rfl (ints_oneN _ _ (by simp) _) (by omega) (by have := HS.out.own.bel.size; simp; omega) ?_
                     intro v4 w4 o4 g4
                     obtain ⟨a4, c4, rfl, K4⟩ := HS.out.more (x := 4) (by unfold quiet; omega) o4 g4
                     have HS4 := hide K4
                     clear o4 g4 K4)
        go_roundw
        case rel => exact ⟨j + 1, a4, c4, L ++ [4], by go_num, rfl, by omega, HS4⟩
        case measure => simp [intOf]; omega
      · go_wp2_with (at_builtin; refine append_nums rfl (.tmp 18) (.tmp 25) rfl w.heap.size (.slice a j c) j L rfl ((HO.out.alloc _).alloc _) ⟨wr.heap.size + 1, 0, none⟩ 1 1 [5] rfl rfl (ints_oneN _ _ (by simp) _) (by omega) (by have := HS.out.own.bel.size; simp; omega) ?_
                     intro v4 w4 o4 g4
                     obtain ⟨a4, c4, rfl, K4⟩ := HS.out.more (x := 5) (by unfold quiet; omega) o4 g4
                     have HS4 := hide K4
                     clear o4 g4 K4)
        go_roundw
        case rel => exact ⟨j + 1, a4, c4, L ++ [5], by go_num, rfl, by omega, HS4⟩
        case measure => simp [intOf]; omega
    · have ql : ¬ (j : Int) < (l.length : Int) := by omega
      obtain ⟨hn, hints⟩ := HS.out.ints
      have HN := hide hn
      have HL := hide HS.out.len
      obtain ⟨t, ht⟩ : ∃ t, telV a0 = t := ⟨_, rfl⟩
      have HT := hide (fun u => ptell_any a0 u)
      rw [ht] at HT
      have Q0 : Hid (Calls Try.prog 10 #[.slice a j c] wr fun e w' => e = .returned (.int .i64 0) ∧ wr = w') := by
        have := pdec_any a L c wr (by rw [HL.out]; omega) hints
        rw [quiet_dec HS.out.qui, HL.out] at this
        exact this
      have KA : Hid (Ints (wr.alloc (.cells #[] 3)) a L) := hints.below ((Below.refl _ _).alloc (Nat.le_refl _) _)
      have qt : (t == t) = true := by simp
      have HTT := hide ht
      have HII := hide hints
      clear hn hints ht
      go_wp2_with fail
      refine Q0.out.mono ?_
      rintro e u ⟨rfl, rfl⟩
      clear Q0
      go_wp2_with (first
        | (at_builtin; refine wpList_unguard (by kernel_rfl) ?_; refine append_numsN rfl (.tmp 32) (.tmp 33) rfl wr.heap.size _ 0 [] rfl (nums_empty wr _ (Nat.le_refl _)) a j c L HL.out rfl HN.out KA.out (by omega) (by simp) ?_
           intro v1 w1 o1 g1
           have K1 : Hid (OwnI wr w1 v1 L) := (OwnI.fresh (Below.refl _ _)).more (m := L) (by simp [HL.out]) o1 g1
           have HO1 : Hid (w1.ownsRow wr.heap.size 3 1 v1 j (L.map (Value.int .i64))) := by have := K1.out.own; rw [HL.out] at this; exact this
           clear o1 g1)
        | (at_builtin; refine wpList_unguard (by kernel_rfl) ?_; refine append_nums rfl (.tmp 34) (.tmp 36) rfl wr.heap.size v1 j L rfl (HO1.out.alloc _) ⟨w1.heap.size, 0, none⟩ 1 1 [a0] rfl rfl (ints_one _ _) (by omega) (by have := K1.out.bel.size; simp; omega) ?_
           intro v2 w2 o2 g2
           obtain ⟨L2, hL2⟩ : ∃ L', L' = L ++ [a0] := ⟨_, rfl⟩
           have K2 : OwnI wr w2 v2 (L ++ [a0]) := (K1.out.alloc _).more (m := [a0]) (by simp [HL.out]) o2 g2
           rw [← hL2] at K2
           obtain ⟨b2, d2, rfl, -, -, i2⟩ := K2.ints
           have Q2 : Hid (Calls Try.prog 10 #[.slice b2 L2.length d2] w2 fun e w' => e = .returned (.int .i64 t) ∧ w2 = w') := by
             have := pdec_any b2 L2 d2 w2 (by rw [hL2, List.length_append, HL.out, List.length_singleton]; omega) i2
             rw [show decV L2 = t by rw [hL2, quiet_dec1 HS.out.qui, HTT.out]] at this
             exact this
           have HB2 := hide K2.bel
           clear o2 g2 K2 i2 hL2))
      refine Q2.out.mono ?_
      rintro e u ⟨rfl, rfl⟩
      clear Q2
      have HB3 := hide (HB2.out.alloc HB2.out.size (.cells #[.int .i64 a0] 3))
      have Q3 : Hid (Calls Try.prog 10 #[.slice (some ⟨w2.heap.size, 0, none⟩) 1 1] (w2.alloc (.cells #[.int .i64 a0] 3)) fun e w' => e = .returned (.int .i64 t) ∧ (w2.alloc (.cells #[.int .i64 a0] 3)) = w') := by
        have := pdec_any _ [a0] 1 _ (by simp) (ints_one w2 a0)
        rw [dec_one, HTT.out] at this
        exact this
      have Q4 : Hid (Calls Try.prog 12 #[.slice a j c] (w2.alloc (.cells #[.int .i64 a0] 3)) fun e w' => e = .returned (.bool true) ∧ (w2.alloc (.cells #[.int .i64 a0] 3)) = w') := by
        have := psafe_any a L c _ (by rw [HL.out]; omega) (HII.out.below HB3.out)
        rw [quiet_saf HS.out.qui, HL.out] at this
        exact this
      go_wp2_with (first
        | (go_at_call 8; refine (HT.out _).mono ?_; rintro e u ⟨rfl, rfl⟩)
        | (go_at_call 10; refine Q3.out.mono ?_; rintro e u ⟨rfl, rfl⟩)
        | (go_at_call 12; refine Q4.out.mono ?_; rintro e u ⟨rfl, rfl⟩)
        | (go_at_call 7; refine (pawake_any _).mono ?_; rintro e u ⟨rfl, hb⟩; have HE := hide (bel_on' HS.out.own.bel (bel_on' HB3.out hb)); clear hb))
      go_ret
      exact ⟨rfl, HE.out⟩
end Go.Proofs.Ytlndiobkkmknnaa
