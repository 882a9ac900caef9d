/-
  Own texts put together: XLasM, Num.
-/
import Derived.Test.YtdbmnjodkpeobaaGreatDoorSvdG
import Derived.Test.YtdbmnjodkpeobaaGreatDoorRows
import Derived.WalkKit
import Derived.ProofKit
/-
  ServiceLasts, plainly: what the law keeps of each order, and what each message makes of it.
-/
namespace Go.Proofs.YtdbmnjodkpeobaaGreatDoor
open Go.RowKit

def updN (f : Nat → Int) (i : Nat) (x : Int) : Nat → Int := fun k => if k = i then x else f k
theorem updN_same (f : Nat → Int) (i : Nat) (x : Int) : updN f i x i = x := by simp [updN]
theorem updN_other (f : Nat → Int) {i k : Nat} (x : Int) (h : k ≠ i) : updN f i x k = f k := by simp [updN, h]
/-- The service v beside what the law has written down of the ids below ten. -/
structure Lc (v : Sv) (hold : Int) (n : Nat) (st mu : Nat → Int) : Prop where
  nd : v.node = 5
  dn : v.down = false
  rm : v.room = 4096
  ln : v.T.length ≤ n
  eq : v.st.left + Hd.sumTo v.st.h 10 = hold
  pos : 0 ≤ v.st.left
  ss : ∀ x : Nat, x < 10 → v.st.s x = st x
  hs : ∀ x : Nat, x < 10 → v.st.h x = if st x = 1 then mu x else 0
  z : st 0 = 0
  may : ∀ x : Nat, x < 10 → 0 ≤ st x ∧ st x ≤ 3
  mu_ : ∀ x : Nat, x < 10 → 0 ≤ mu x ∧ mu x ≤ 300
theorem lc_new {hold : Int} (h : 0 ≤ hold ∧ hold < 1000) : Lc (newSv 5 hold 4096) hold 0 (fun _ => 0) (fun _ => 0) := by
  have e : Hd.clampA hold = hold := by unfold Hd.clampA; split <;> (try split) <;> omega
  refine ⟨rfl, rfl, rfl, Nat.le_refl _, ?_, ?_, fun _ _ => rfl, fun _ _ => rfl, rfl, fun _ _ => by omega, fun _ _ => by omega⟩
  · show Hd.clampA hold + Hd.sumTo (fun _ => 0) 10 = hold
    rw [Hd.sumTo_zero, e]
    omega
  · show 0 ≤ Hd.clampA hold
    omega
section
variable {v : Sv} {hold : Int} {n : Nat} {st mu : Nat → Int}
theorem Lc.more (h : Lc v hold n st mu) {n' : Nat} (hn : n ≤ n') : Lc v hold n' st mu := ⟨h.nd, h.dn, h.rm, Nat.le_trans h.ln hn, h.eq, h.pos, h.ss, h.hs, h.z, h.may, h.mu_⟩
theorem Lc.room (h : Lc v hold n st mu) (hn : n < 4096) : hasRoom v = true := hasRoom_iff.2 (by rw [h.rm]; have := h.ln; omega)
theorem upd_cast (f : Int → Int) (i : Nat) (y : Int) (x : Nat) : Hd.upd f i y x = if x = i then y else f x := by
  by_cases e : x = i
  · subst e; rw [Hd.upd_same, if_pos rfl]
  · rw [Hd.upd_other _ _ (by omega), if_neg e]
theorem updN_if (f : Nat → Int) (i : Nat) (y : Int) (x : Nat) : updN f i y x = if x = i then y else f x := rfl
/-- An id's state and what it holds, changed. -/
theorem Lc.put (h : Lc v hold n st mu) {i : Nat} (hi : 1 ≤ i ∧ i < 10) {e : En} {left' : Int} {h' s' : Int} {m' : Int} (he : stp v.st e = ⟨left', Hd.upd v.st.h i h', Hd.upd v.st.s i s'⟩) (hl : left' = v.st.left + v.st.h i - h') (hp : 0 ≤ left') (hs : 0 ≤ s' ∧ s' ≤ 3) (hh : h' = if s' = 1 then m' else 0) (hm : 0 ≤ m' ∧ m' ≤ 300) :
    Lc (putS v e) hold (n + 1) (updN st i s') (updN mu i m') := by
  unfold putS
  rw [he]
  refine ⟨h.nd, h.dn, h.rm, by have := h.ln; simp; omega, ?_, hp, fun x hx => ?_, fun x hx => ?_, ?_, fun x hx => ?_, fun x hx => ?_⟩
  · show left' + Hd.sumTo (Hd.upd v.st.h i h') 10 = hold
    rw [Hd.sumTo_upd, if_pos (by omega), hl]
    have := h.eq
    omega
  · show Hd.upd v.st.s i s' x = _
    rw [upd_cast, updN_if]
    split
    · rfl
    · exact h.ss x hx
  · show Hd.upd v.st.h i h' x = _
    rw [upd_cast, updN_if, updN_if]
    split
    · exact hh
    · exact h.hs x hx
  · rw [updN_if, if_neg (by omega)]
    exact h.z
  · rw [updN_if]
    split
    · exact hs
    · exact h.may x hx
  · rw [updN_if]
    split
    · exact hm
    · exact h.mu_ x hx
theorem Lc.hears (h : Lc v hold n st mu) {i : Nat} (hi : 1 ≤ i ∧ i < 10) (k a : Int) : hearsB v ⟨k, 0, 5, i, 2, a, 0⟩ = true :=
  hears_mk h.dn h.nd.symm rfl (by show 1 ≤ (i : Int) ∧ (i : Int) ≤ 999; omega)
/-- What is left is what there was, less what is done. -/
def leftK (hold : Int) (st mu : Nat → Int) : Nat → Int
  | 0 => hold
  | k + 1 => leftK hold st mu k - (if st (k + 1) = 1 then mu (k + 1) else 0)
theorem left_sum (h : Lc v hold n st mu) : ∀ k : Nat, k < 10 → leftK hold st mu k = hold - Hd.sumTo v.st.h (k + 1)
  | 0, _ => by
    show hold = hold - (Hd.sumTo v.st.h 0 + v.st.h (0 : Nat))
    rw [h.hs 0 (by omega), h.z]
    show hold = hold - (0 + _)
    simp
  | k + 1, hk => by
    show leftK hold st mu k - _ = hold - (Hd.sumTo v.st.h (k + 1) + v.st.h ((k + 1 : Nat)))
    rw [left_sum h k (by omega), h.hs (k + 1) hk]
    omega
theorem Lc.left (h : Lc v hold n st mu) : v.st.left = leftK hold st mu 9 := by
  rw [left_sum h 9 (by omega)]
  have := h.eq
  show _ = hold - Hd.sumTo v.st.h 10
  omega
theorem leftK_bd (hm : ∀ x : Nat, x < 10 → 0 ≤ mu x ∧ mu x ≤ 300) (hh : 0 ≤ hold ∧ hold < 1000) : ∀ k : Nat, k < 10 → 0 ≤ leftK hold st mu k + 300 * (k : Int) ∧ leftK hold st mu k ≤ 1000
  | 0, _ => by show _ ≤ hold + _ ∧ hold ≤ 1000; omega
  | k + 1, hk => by
    have := leftK_bd hm hh k (by omega)
    have h2 := hm (k + 1) hk
    show _ ≤ leftK hold st mu k - _ + _ ∧ leftK hold st mu k - _ ≤ 1000
    split <;> omega
/-- Undone. -/
theorem Lc.undo (h : Lc v hold n st mu) (hn : n < 4096) {i : Nat} (hi : 1 ≤ i ∧ i < 10) (a : Int) :
    ∃ v', hdS v ⟨4, 0, 5, i, 2, a, 0⟩ = v' ∧ hdA v ⟨4, 0, 5, i, 2, a, 0⟩ = [⟨5, 5, 0, i, 2, 0, 0⟩] ∧ Lc v' hold (n + 1) (if st i = 2 then st else updN st i 3) mu := by
  have hh := h.hears hi 4 a
  have hsi := h.ss i hi.2
  have hm := h.may i hi.2
  by_cases hs : v.st.s (i : Int) = 0 ∨ v.st.s (i : Int) = 1
  · obtain ⟨e1, e2⟩ := hd_undid (v := v) (m := ⟨4, 0, 5, i, 2, a, 0⟩) hh rfl hs (h.room hn)
    rw [h.nd] at e2
    refine ⟨_, e1, e2, ?_⟩
    rw [if_neg (by omega)]
    have k := h.put hi (e := ⟨3, i, 0⟩) (m' := mu i) (stp_undid v.st i 0) (by omega) (by
      have h1 := h.hs i hi.2
      have h2 := h.mu_ i hi.2
      have h3 := h.pos
      rw [h1]
      split <;> omega) (by omega) (by simp) (h.mu_ i hi.2)
    have e3 : updN mu i (mu i) = mu := by
      funext x
      rw [updN_if]
      split
      · next e => rw [e]
      · rfl
    rw [e3] at k
    exact k
  · obtain ⟨e1, e2⟩ := hd_undid_again (v := v) (m := ⟨4, 0, 5, i, 2, a, 0⟩) hh rfl hs
    rw [h.nd] at e2
    refine ⟨_, e1, e2, ?_⟩
    have k := h.more (Nat.le_succ n)
    split
    · exact k
    · have e3 : updN st i 3 = st := by
        funext x
        rw [updN_if]
        split
        · next e => rw [e]; omega
        · rfl
      rw [e3]
      exact k
/-- Done, or not. -/
theorem Lc.do_new (h : Lc v hold n st mu) (hn : n < 4096) {i : Nat} (hi : 1 ≤ i ∧ i < 10) {a : Int} (ha : 1 ≤ a ∧ a ≤ 300) (hs : st i = 0) :
    ∃ v' k, hdS v ⟨1, 0, 5, i, 2, a, 0⟩ = v' ∧ hdA v ⟨1, 0, 5, i, 2, a, 0⟩ = [⟨k, 5, 0, i, 2, 0, 0⟩] ∧ ((k = 2 ∧ Lc v' hold (n + 1) (updN st i 1) (updN mu i a)) ∨ (k = 3 ∧ Lc v' hold (n + 1) (updN st i 2) (updN mu i a))) := by
  have hh := h.hears hi 1 a
  have hsi := h.ss i hi.2
  have hhi : v.st.h (i : Int) = 0 := by rw [h.hs i hi.2, if_neg (by omega)]
  by_cases hl : a ≤ v.st.left
  · have ht : Hd.takeE v.st.left v.st.h i a = 0 := takeE_zero (by omega) (by omega) hhi hl
    obtain ⟨e1, e2⟩ := hd_did (v := v) (m := ⟨1, 0, 5, i, 2, a, 0⟩) hh rfl (by show v.st.s (i : Int) = 0; omega) (h.room hn) ht
    rw [h.nd] at e2
    refine ⟨_, 2, e1, e2, .inl ⟨rfl, ?_⟩⟩
    exact h.put hi (e := ⟨1, i, a⟩) (m' := a) (stp_did ht) (by omega) (by omega) (by omega) (by simp) (by omega)
  · have ht : Hd.takeE v.st.left v.st.h i a ≠ 0 := by rw [takeE_less (by omega) (by omega) hhi (by omega)]; decide
    obtain ⟨e1, e2⟩ := hd_cant (v := v) (m := ⟨1, 0, 5, i, 2, a, 0⟩) hh rfl (by show v.st.s (i : Int) = 0; omega) (h.room hn) ht
    rw [h.nd] at e2
    refine ⟨_, 3, e1, e2, .inr ⟨rfl, ?_⟩⟩
    have e0 : stp v.st ⟨2, i, 0⟩ = ⟨v.st.left, Hd.upd v.st.h i 0, Hd.upd v.st.s i 2⟩ := by
      rw [stp_cant, Hd.upd_id hhi]
    exact h.put hi (e := ⟨2, i, 0⟩) (m' := a) e0 (by omega) h.pos (by omega) (by simp) (by omega)
theorem Lc.do_again (h : Lc v hold n st mu) {i : Nat} (hi : 1 ≤ i ∧ i < 10) (a : Int) (hs : st i ≠ 0) :
    hdS v ⟨1, 0, 5, i, 2, a, 0⟩ = v ∧ hdA v ⟨1, 0, 5, i, 2, a, 0⟩ = [⟨if st i = 1 then 2 else 3, 5, 0, i, 2, 0, 0⟩] := by
  have hh := h.hears hi 1 a
  have hsi := h.ss i hi.2
  obtain ⟨e1, e2⟩ := hd_did_again (v := v) (m := ⟨1, 0, 5, i, 2, a, 0⟩) hh rfl (by show v.st.s (i : Int) ≠ 0; omega)
  rw [h.nd] at e2
  refine ⟨e1, e2.trans ?_⟩
  show [(⟨if v.st.s (i : Int) = 1 then 2 else 3, 5, 0, i, 2, 0, 0⟩ : Ms.Mg)] = _
  rw [hsi]
/-- Down it answers nothing. -/
theorem cr_deaf (v : Sv) (m : Ms.Mg) : hdA (crS v) m = [] ∧ hdS (crS v) m = crS v := by
  have := hd_deaf (v := crS v) (m := m) (by unfold hearsB crS; simp)
  exact ⟨this.2, this.1⟩
end
end Go.Proofs.YtdbmnjodkpeobaaGreatDoor
/-
  Plain facts on the numbers that a law makes of any integer: int(uint64(a) % m).
-/
namespace Go.Proofs.YtdbmnjodkpeobaaGreatDoor
open Go.RowKit

/-- int(uint64(a) % m) -/
def um (a m : Int) : Int := wrap64 ((IntKind.u64.wrap a).tmod m)
theorem um_bd (a m : Int) (h1 : 0 < m) (h2 : m ≤ 4611686018427387904) : 0 ≤ um a m ∧ um a m < m := by
  unfold um
  have h0 : 0 ≤ IntKind.u64.wrap a := by rw [IntKind.wrap_u64]; omega
  have h3 : 0 ≤ (IntKind.u64.wrap a).tmod m := by rw [Int.tmod_eq_emod_of_nonneg h0]; exact Int.emod_nonneg _ (by omega)
  have h4 : (IntKind.u64.wrap a).tmod m < m := by rw [Int.tmod_eq_emod_of_nonneg h0]; exact Int.emod_lt_of_pos _ h1
  rw [IntWalk.wrap64_in _ (by omega)]
  exact ⟨h3, h4⟩
end Go.Proofs.YtdbmnjodkpeobaaGreatDoor
