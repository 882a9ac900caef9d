/-
  Contracts: slices.Index, slices.Contains of bools; package saga's all, stays, bothAcked, decisionMay, doneMay, undoneMay.
-/
import Derived.Test.YtinbmnefdhkdfaaSgaM
import Derived.Test.YtinbmnefdhkdfaaAgnD
import Derived.Deep.Light
import Derived.Laws.StructEq
import Derived.Laws.Slices
namespace Go.Proofs.Ytinbmnefdhkdfaa
open Go.ChangeShapes Go.WideShapes Go.ChangeAt Go.RowKit

theorem Bls.get {w : World} {a : Option Addr} {l : List Bool} (h : Bls w a l) {i : Nat} (hi : i < l.length) : ∃ b off x, a = some ⟨b, off, none⟩ ∧ l[i]? = some x ∧ w.cell? ⟨b, off + i, none⟩ = some (.bool x) := by
  rcases h with h | ⟨b, off, ha, hc⟩
  · subst h; simp at hi
  · exact ⟨b, off, l[i], ha, List.getElem?_eq_getElem hi, hc i _ (List.getElem?_eq_getElem hi)⟩
theorem ne_of_beq {b x : Bool} (h : (b == x) = false) : x ≠ b := by simpa using fun e : x = b => by subst e; simp at h
theorem Bls.drop {w : World} {b off : Nat} {l : List Bool} (h : Bls w (some ⟨b, off, none⟩) l) (n : Nat) : Bls w (some ⟨b, off + n, none⟩) (l.drop n) := by
  rcases h with h | ⟨b', off', ha, hc⟩
  · exact .inl (by rw [h]; simp)
  · cases ha
    refine .inr ⟨b, off + n, rfl, fun i c hi => ?_⟩
    rw [List.getElem?_drop] at hi
    rw [Nat.add_assoc]
    exact hc _ _ hi

set_option maxHeartbeats 1000000 in
theorem index_any (l : List Bool) (a : Option Addr) (c : Nat) (b : Bool) (w : World) (ha : Bls w a l) (hl : l.length ≤ 9223372036854775807) :
    Calls Try.prog 51 #[.slice a l.length c, .bool b] w fun e w' => e = .returned (.int .i64 (idxB l b)) ∧ w = w' := by
  have HI := hide ha
  clear ha
  go_enter Try.func51, Try.ntmps51
  go_wp2
  go_loopw [8] (fun i wr => ∃ j : Nat, i = .int .i64 j ∧ j ≤ l.length ∧ wr = w ∧ Hid (b ∉ l.take j)) (fun i _ => l.length - (intOf i).toNat)
  case atStart => exact ⟨0, rfl, Nat.zero_le _, rfl, by show ¬ _; simp⟩
  case round =>
    obtain ⟨j, rfl, hj, rfl, HN⟩ := hrel
    by_cases hlt : j < l.length
    · obtain ⟨bb, off, x, rfl, hx, hc⟩ := HI.out.get hlt
      have HX := hide hx
      clear hx
      cases hs : (b == x)
      · have HS := hide (not_snoc HX.out (ne_of_beq hs) HN.out)
        go_wp2
        go_roundw
        case rel => exact ⟨j + 1, by go_num, by omega, by trivial, HS⟩
        case measure => simp [intOf]; omega
      · have HF : Hid ((j : Int) = idxB l b) := by
          show _ = _
          symm
          refine idxB_hit ?_ HN.out
          rw [HX.out]
          simp at hs
          rw [hs]
        go_wp2
        go_ret
        exact ⟨ret_int HF.out, rfl⟩
    · have HF : Hid (-1 = idxB l b) := (idxB_none (by have := HN.out; rwa [List.take_of_length_le (by omega)] at this)).symm
      go_wp2
      go_ret
      exact ⟨ret_int HF.out, rfl⟩

theorem contains_any (l : List Bool) (a : Option Addr) (c : Nat) (b : Bool) (w : World) (ha : Bls w a l) (hl : l.length ≤ 9223372036854775807) :
    Calls Try.prog 40 #[.slice a l.length c, .bool b] w fun e w' => e = .returned (.bool (hasB l b)) ∧ w = w' := by
  have IX := index_any l a c b w ha hl
  have HH := hide (idxB_has l b)
  obtain ⟨r, hr⟩ : ∃ r, idxB l b = r := ⟨_, rfl⟩
  rw [hr] at IX HH
  clear ha hr
  go_enter Try.func40, Try.ntmps40
  go_wp2_with (go_at_call 51; refine IX.mono ?_; rintro e w1 ⟨rfl, rfl⟩)
  go_ret
  exact ⟨ret_bool (by rw [← HH.out]), rfl⟩

theorem sall_any (l : List Bool) (a : Option Addr) (c : Nat) (w : World) (ha : Bls w a l) (hl : l.length ≤ 9223372036854775807) :
    Calls Try.prog 29 #[.slice a l.length c] w fun e w' => e = .returned (.bool (allB l)) ∧ w = w' := by
  have CT := contains_any l a c false w ha hl
  clear ha
  unfold allB
  go_enter Try.func29, Try.ntmps29
  go_wp2_with (go_at_call 40; refine CT.mono ?_; rintro e w1 ⟨rfl, rfl⟩)
  go_ret
  exact ⟨rfl, rfl⟩

theorem drop_run (W : World) (b off n cap k : Nat) (hk : k ≤ n) (hc : k < cap) : (Instr.sliceAt 25 (.slice (some ⟨b, off, none⟩) n cap) (some (.int .i64 (k : Int))) none none).run Try.prog W = .ok (.slice (some ⟨b, off + k, none⟩) (n - k) (cap - k)) W := by
  have hu : Try.prog.underlying 25 = some (.slice (Try.prog.elem 25)) := by kernel_rfl
  have hz : (sizeOf (Try.prog.elem 25)).run Try.prog W = .ok 1 W := by kernel_rfl
  rw [run_sliceAt_slice _ _ _ _ _ _ hu, run_slice_l _ _ _ _ _ hu _ _ (by omega) (by omega), hz]
  show Result.ok (sliced (some ⟨b, off, none⟩) (k : Int).toNat n cap 1) W = _
  unfold sliced
  have : ¬ cap = k := by omega
  simp [this, hc_add]
set_option maxHeartbeats 1000000 in
theorem stays_any (l : List Bool) (a : Option Addr) (c : Nat) (so : Bool) (w : World) (ha : Bls w a l) (hl : l.length ≤ c) (hc : c ≤ 9223372036854775807) :
    Calls Try.prog 39 #[.slice a l.length c, .bool so] w fun e w' => e = .returned (.bool (staysB l so)) ∧ w = w' := by
  have IX := index_any l a c so w ha (by omega)
  rcases idxB_cases l so with ⟨e, hn⟩ | ⟨n, h1, h2, h3, h4⟩
  · have HF : Hid (true = staysB l so) := by show _ = _; unfold staysB; rw [e]; simp
    rw [e] at IX
    clear ha
    go_enter Try.func39, Try.ntmps39
    go_wp2_with (go_at_call 51; refine IX.mono ?_; rintro e w1 ⟨rfl, rfl⟩)
    go_ret
    exact ⟨ret_bool HF.out, rfl⟩
  · obtain ⟨b, off, x, rfl, -, -⟩ := ha.get h1
    have CT := contains_any (l.drop n) (some ⟨b, off + n, none⟩) (c - n) (!so) w (ha.drop n) (by simp; omega)
    rw [List.length_drop] at CT
    have HF : Hid ((!hasB (l.drop n) (!so)) = staysB l so) := by show _ = _; unfold staysB; rw [h2]; simp; omega
    rw [h2] at IX
    have q1 : ¬ (n : Int) < 0 := by omega
    have hs := fun W => drop_run W b off l.length c n (by omega) (by omega)
    clear ha h2 h3 h4
    go_enter Try.func39, Try.ntmps39
    go_wp2_with (first
      | (go_at_call 51; refine IX.mono ?_; rintro e w1 ⟨rfl, rfl⟩)
      | (go_at_call 40; refine CT.mono ?_; rintro e w1 ⟨rfl, rfl⟩))
    go_ret
    exact ⟨ret_bool HF.out, rfl⟩

theorem eql_two (x y : Bool) (u : World) : (binOp .eql 26 (.agg #[.bool x, .bool y]) (.agg #[.bool false, .bool false])).run Try.prog u = .ok (.bool (!x && !y)) u := by
  cases x <;> cases y <;> kernel_rfl
theorem eql_both (x y : Bool) (u : World) : (binOp .eql 26 (.agg #[.bool x, .bool y]) (.agg #[.bool true, .bool true])).run Try.prog u = .ok (.bool (x && y)) u := by
  cases x <;> cases y <;> kernel_rfl

theorem acked_any (f : Fa) (da : Option Addr) (dc : Nat) (ua : Option Addr) (uc : Nat) (w : World) :
    Calls Try.prog 28 #[.agg #[.slice da f.dn.length dc, .slice ua f.un.length uc, .bool f.asked, .bool f.yes, .bool f.turned, .bool f.k0, .bool f.k1, .bool f.ship, .bool f.d0, .bool f.d1, .bool f.acc]] w fun e w' => e = .returned (.bool (f.k0 && f.k1)) ∧ Below w.heap.size w w' := by
  have HB : Hid (Below w.heap.size w (w.alloc (.cells #[.slice da f.dn.length dc, .slice ua f.un.length uc, .bool f.asked, .bool f.yes, .bool f.turned, .bool f.k0, .bool f.k1, .bool f.ship, .bool f.d0, .bool f.d1, .bool f.acc] 28))) := (Below.refl _ _).alloc (Nat.le_refl _) _
  have q := eql_both f.k0 f.k1
  go_enter Try.func28, Try.ntmps28
  go_wp2
  go_ret
  exact ⟨rfl, HB.out⟩

theorem decM_any (f : Fa) (da : Option Addr) (dc : Nat) (ua : Option Addr) (uc : Nat) (w : World) :
    Calls Try.prog 23 #[.agg #[.slice da f.dn.length dc, .slice ua f.un.length uc, .bool f.asked, .bool f.yes, .bool f.turned, .bool f.k0, .bool f.k1, .bool f.ship, .bool f.d0, .bool f.d1, .bool f.acc]] w fun e w' => e = .returned (.bool (decF f)) ∧ Below w.heap.size w w' := by
  have HB : Hid (Below w.heap.size w (w.alloc (.cells #[.slice da f.dn.length dc, .slice ua f.un.length uc, .bool f.asked, .bool f.yes, .bool f.turned, .bool f.k0, .bool f.k1, .bool f.ship, .bool f.d0, .bool f.d1, .bool f.acc] 28))) := (Below.refl _ _).alloc (Nat.le_refl _) _
  have q := eql_two f.k0 f.k1
  have q2 := eql_two f.d0 f.d1
  obtain ⟨dn, un, asked, yes, turned, k0, k1, ship, d0, d1, acc⟩ := f
  unfold decF
  dsimp only at *
  cases turned
  · cases yes
    · cases ship
      · cases k0
        · cases k1
          · go_enter Try.func23, Try.ntmps23
            go_wp2
            go_ret
            exact ⟨rfl, HB.out⟩
          · go_enter Try.func23, Try.ntmps23
            go_wp2
            go_ret
            exact ⟨rfl, HB.out⟩
        · go_enter Try.func23, Try.ntmps23
          go_wp2
          go_ret
          exact ⟨rfl, HB.out⟩
      · go_enter Try.func23, Try.ntmps23
        go_wp2
        go_ret
        exact ⟨rfl, HB.out⟩
    · go_enter Try.func23, Try.ntmps23
      go_wp2
      go_ret
      exact ⟨rfl, HB.out⟩
  · cases yes
    · go_enter Try.func23, Try.ntmps23
      go_wp2
      go_ret
      exact ⟨rfl, HB.out⟩
    · go_enter Try.func23, Try.ntmps23
      go_wp2
      go_ret
      exact ⟨rfl, HB.out⟩

/-- The two rows of what is known. -/
structure FaIn (w : World) (f : Fa) (da : Option Addr) (dc : Nat) (ua : Option Addr) (uc : Nat) : Prop where
  dn : Bls w da f.dn
  un : Bls w ua f.un
  dl : f.dn.length ≤ dc
  ul : f.un.length ≤ uc
  dm : dc ≤ 9223372036854775807
  um : uc ≤ 9223372036854775807
theorem FaIn.below {w w' : World} {f : Fa} {da : Option Addr} {dc : Nat} {ua : Option Addr} {uc : Nat} (h : FaIn w f da dc ua uc) (hb : Below w.heap.size w w') : FaIn w' f da dc ua uc :=
  ⟨h.dn.below hb, h.un.below hb, h.dl, h.ul, h.dm, h.um⟩

theorem donM_any (f : Fa) (da : Option Addr) (dc : Nat) (ua : Option Addr) (uc : Nat) (w : World) (hi : FaIn w f da dc ua uc) :
    Calls Try.prog 24 #[.agg #[.slice da f.dn.length dc, .slice ua f.un.length uc, .bool f.asked, .bool f.yes, .bool f.turned, .bool f.k0, .bool f.k1, .bool f.ship, .bool f.d0, .bool f.d1, .bool f.acc]] w fun e w' => e = .returned (.bool (donF f)) ∧ Below w.heap.size w w' := by
  have HB : Hid (Below w.heap.size w (w.alloc (.cells #[.slice da f.dn.length dc, .slice ua f.un.length uc, .bool f.asked, .bool f.yes, .bool f.turned, .bool f.k0, .bool f.k1, .bool f.ship, .bool f.d0, .bool f.d1, .bool f.acc] 28))) := (Below.refl _ _).alloc (Nat.le_refl _) _
  have h2 := hi.below HB.out
  have AL := sall_any f.dn da dc _ h2.dn (by have := h2.dl; have := h2.dm; omega)
  have ST := stays_any f.dn da dc false _ h2.dn h2.dl h2.dm
  clear h2 hi
  obtain ⟨dn, un, asked, yes, turned, k0, k1, ship, d0, d1, acc⟩ := f
  unfold donF
  dsimp only at *
  cases turned
  · cases yes
    · go_enter Try.func24, Try.ntmps24
      go_wp2_with (go_at_call 39; refine ST.mono ?_; rintro e w1 ⟨rfl, rfl⟩)
      go_ret
      exact ⟨rfl, HB.out⟩
    · go_enter Try.func24, Try.ntmps24
      go_wp2_with (go_at_call 29; refine AL.mono ?_; rintro e w1 ⟨rfl, rfl⟩)
      go_ret
      exact ⟨rfl, HB.out⟩
  · go_enter Try.func24, Try.ntmps24
    go_wp2
    go_ret
    exact ⟨rfl, HB.out⟩
theorem undM_any (f : Fa) (da : Option Addr) (dc : Nat) (ua : Option Addr) (uc : Nat) (w : World) (hi : FaIn w f da dc ua uc) :
    Calls Try.prog 25 #[.agg #[.slice da f.dn.length dc, .slice ua f.un.length uc, .bool f.asked, .bool f.yes, .bool f.turned, .bool f.k0, .bool f.k1, .bool f.ship, .bool f.d0, .bool f.d1, .bool f.acc]] w fun e w' => e = .returned (.bool (undF f)) ∧ Below w.heap.size w w' := by
  have HB : Hid (Below w.heap.size w (w.alloc (.cells #[.slice da f.dn.length dc, .slice ua f.un.length uc, .bool f.asked, .bool f.yes, .bool f.turned, .bool f.k0, .bool f.k1, .bool f.ship, .bool f.d0, .bool f.d1, .bool f.acc] 28))) := (Below.refl _ _).alloc (Nat.le_refl _) _
  have h2 := hi.below HB.out
  have AL := contains_any f.un ua uc true _ h2.un (by have := h2.ul; have := h2.um; omega)
  have ST := stays_any f.un ua uc true _ h2.un h2.ul h2.um
  clear h2 hi
  obtain ⟨dn, un, asked, yes, turned, k0, k1, ship, d0, d1, acc⟩ := f
  unfold undF
  dsimp only at *
  cases turned
  · go_enter Try.func25, Try.ntmps25
    go_wp2_with (go_at_call 40; refine AL.mono ?_; rintro e w1 ⟨rfl, rfl⟩)
    go_ret
    exact ⟨rfl, HB.out⟩
  · go_enter Try.func25, Try.ntmps25
    go_wp2_with (go_at_call 39; refine ST.mono ?_; rintro e w1 ⟨rfl, rfl⟩)
    go_ret
    exact ⟨rfl, HB.out⟩
end Go.Proofs.Ytinbmnefdhkdfaa
