/-
  The calls on a book of money over a lower base, with equations for the answers; contract of wharfingerlaw9's awake.
-/
import Derived.Test.YtpahgoehpkohiaaPrsN
import Derived.Test.YtpahgoehpkohiaaPrsV
import Derived.Test.YtpahgoehpkohiaaStrs
namespace Go.Proofs.Ytpahgoehpkohiaa
open Go.ChangeShapes Go.WideShapes Go.ChangeAt Go.RowKit Go.Maps

section
variable {w0 w : World} {p b c : Nat} {s s' : Qb} {n : Nat} {id E : Int}
theorem alw_on (k : Pk w0.heap.size w p b c s n) (hb : Below w0.heap.size w0 w) (hw : (Lit.int .i64 id).wf = true) {x q : Int} (hn : n < 1000000) (hE : alwE (toP s) id x q = E) (hS : alwQ s id x q = s') :
    Calls Try.prog 16 #[.pointer (some ⟨p, 0, none⟩), .int .i64 id, .int .i64 x, .int .i64 q] w fun e w' => e = .returned (.int .i64 E) ∧ Pk w0.heap.size w' p b c s' (n + 1) ∧ Below w0.heap.size w0 w' := by
  subst hE hS
  exact (pallow_any k hw x q hn).mono (fun _ w' ⟨h1, h2, h3⟩ => ⟨h1, h2, hb.trans (k.bel h3)⟩)
theorem cap_on (k : Pk w0.heap.size w p b c s n) (hb : Below w0.heap.size w0 w) (hw : (Lit.int .i64 id).wf = true) (hn : n < 1000000) (hE : capE (toP s) id = E) (hS : capQ s id = s') :
    Calls Try.prog 12 #[.pointer (some ⟨p, 0, none⟩), .int .i64 id] w fun e w' => e = .returned (.int .i64 E) ∧ Pk w0.heap.size w' p b c s' (n + 1) ∧ Below w0.heap.size w0 w' := by
  subst hE hS
  exact (pcap_any k hw hn).mono (fun _ w' ⟨h1, h2, h3⟩ => ⟨h1, h2, hb.trans (k.bel h3)⟩)
theorem void_on (k : Pk w0.heap.size w p b c s n) (hb : Below w0.heap.size w0 w) (hw : (Lit.int .i64 id).wf = true) (hE : capE (toP s) id = E) (hS : voidQ s id = s') :
    Calls Try.prog 14 #[.pointer (some ⟨p, 0, none⟩), .int .i64 id] w fun e w' => e = .returned (.int .i64 E) ∧ Pk w0.heap.size w' p b c s' (n + 1) ∧ Below w0.heap.size w0 w' := by
  subst hE hS
  exact (pvoid_any k hw).mono (fun _ w' ⟨h1, h2, h3⟩ => ⟨h1, h2.mono (Nat.le_succ _), hb.trans (k.bel h3)⟩)
theorem money_on (k : Pk w0.heap.size w p b c s n) (hb : Below w0.heap.size w0 w) {x v : Int} (hx : isIt x = true) (hv : (toP s).m x = v) : Calls Try.prog 20 #[.pointer (some ⟨p, 0, none⟩), .int .i64 x] w fun e w' => e = .returned (.int .i64 v) ∧ Pk w0.heap.size w' p b c s n ∧ Below w0.heap.size w0 w' := by
  subst hv
  have M := pmoney_any k x
  rw [show monV s x = moneyK s x from if_pos hx] at M
  exact M.mono (fun _ w' ⟨h1, h2⟩ => ⟨h1, k.on h2, bel_on' hb h2⟩)
theorem allowed_on (k : Pk w0.heap.size w p b c s n) (hb : Below w0.heap.size w0 w) {x v : Int} (hv : alwK (toP s) x = v) : Calls Try.prog 21 #[.pointer (some ⟨p, 0, none⟩), .int .i64 x] w fun e w' => e = .returned (.int .i64 v) ∧ Pk w0.heap.size w' p b c s n ∧ Below w0.heap.size w0 w' := by
  subst hv
  exact (pallowed_any k x).mono (fun _ w' ⟨h1, h2⟩ => ⟨h1, k.on h2, bel_on' hb h2⟩)
theorem till_on (k : Pk w0.heap.size w p b c s n) (hb : Below w0.heap.size w0 w) {v : Int} (hv : (toP s).till = v) : Calls Try.prog 19 #[.pointer (some ⟨p, 0, none⟩)] w fun e w' => e = .returned (.int .i64 v) ∧ Pk w0.heap.size w' p b c s n ∧ Below w0.heap.size w0 w' := by
  subst hv
  exact (ptill_any k).mono (fun _ w' ⟨h1, h2⟩ => ⟨h1, k.on h2, bel_on' hb h2⟩)
theorem paid_on (k : Pk w0.heap.size w p b c s n) (hb : Below w0.heap.size w0 w) (hw : (Lit.int .i64 id).wf = true) {v : Int} {o : Bool} (hv : (toP s).p id = v) (ho : decide ((toP s).p id ≠ 0) = o) : Calls Try.prog 18 #[.pointer (some ⟨p, 0, none⟩), .int .i64 id] w fun e w' => e = .returned (.tuple #[.int .i64 v, .bool o]) ∧ Pk w0.heap.size w' p b c s n ∧ Below w0.heap.size w0 w' := by
  subst hv ho
  have P := ppaid_any k hw
  rw [k.2.dd.isSome id] at P
  exact P.mono (fun _ w' ⟨h1, h2⟩ => ⟨h1, k.on h2, bel_on' hb h2⟩)
end
/-- A book of a row that was just made: its numbers l. -/
theorem pnew_on (w0 w : World) (l : List Int) (hb : Below w0.heap.size w0 w) (b : Nat) (ha : Ints w (some ⟨b, 0, none⟩) l) (hl : l.length ≤ 1000) :
    Calls Try.prog 10 #[.slice (some ⟨b, 0, none⟩) l.length l.length] w fun e w' => ∃ p b c, e = .returned (.pointer (some ⟨p, 0, none⟩)) ∧ Pk w0.heap.size w' p b c (newQ l) 0 ∧ Below w0.heap.size w0 w' :=
  (pnew_any _ l _ w ha (Nat.le_refl _) (by omega) (fun e => by cases e)).mono (fun _ w' ⟨p, b, c, h1, ⟨⟨h2, ⟨h3, h4, h5, h6⟩, h7⟩, h8⟩, h9⟩ => ⟨p, b, c, h1, ⟨⟨h2, ⟨Nat.le_trans hb.size h3, Nat.le_trans hb.size h4, Nat.le_trans hb.size h5, h6⟩, h7⟩, h8⟩, bel_on' hb h9⟩)
theorem awake_plain : ∃ s2 s3 : Qb, (alwE (toP (newQ [5])) 1 0 4 = 0 ∧ alwQ (newQ [5]) 1 0 4 = s2) ∧ (alwE (toP s2) 2 0 2 = 9 ∧ alwQ s2 2 0 2 = s2) ∧ (capE (toP s2) 1 = 0 ∧ capQ s2 1 = s3) ∧ (toP s3).till = 4 ∧ (toP s3).m 0 = 1 := by
  have g1 := GoodQ.new [5]
  have t1 := toP_new [5]
  obtain ⟨v1, v2, v3, v4, v5, v6⟩ := new_view [5]
  have m1 : (newP [5]).m 0 = 5 := (v1 0).trans (clampA_id (a := 5) (by omega) (by omega))
  have e1 : alwE (newP [5]) 1 0 4 = 0 := by rw [alwE_of (by omega), v6, v5, if_neg (by simp), v2, v3, v4, m1, if_pos (by omega), if_pos (by omega)]
  have t2 : toP (alwQ (newQ [5]) 1 0 4) = alwS (newP [5]) 1 0 4 := by rw [toP_alw, t1]
  obtain ⟨s2, hs2⟩ : ∃ s2, alwQ (newQ [5]) 1 0 4 = s2 := ⟨_, rfl⟩
  have g2 : GoodQ s2 := by rw [← hs2]; exact g1.allow 1 0 4
  rw [hs2] at t2
  obtain ⟨a1, a2, a3, a4, a5, a6⟩ := alw_view e1
  rw [← t2] at a1 a2 a3 a4 a5 a6
  have e2 : alwE (toP s2) 2 0 2 = 9 := by rw [alwE_of (by omega), a4, updO_other _ _ (by omega), v6, a3, v5, if_neg (by simp), a1, m1, a5, v2, if_neg (by simp)]
  have ha : s2.a 1 = some (0, 4) := by show (toP s2).a 1 = _; rw [a4, updO_same]
  obtain ⟨s3, hs3⟩ : ∃ s3, capQ s2 1 = s3 := ⟨_, rfl⟩
  have t3 : toP s3 = capS (toP s2) 1 := by rw [← hs3, toP_cap g2]
  obtain ⟨b1, b2, b3, b4, b5, b6⟩ := cap_view g2.gp (id := 1) (k := 0) (q := 4) ha
  rw [← t3] at b1 b2
  refine ⟨s2, s3, ⟨by rw [t1]; exact e1, hs2⟩, ⟨e2, alwQ_no (by omega)⟩, ⟨capE_some (s := toP s2) ha, hs3⟩, ?_, ?_⟩
  · rw [b2, a2, v4]; rfl
  · rw [b1, upd_same, a1, m1]; rfl

set_option maxHeartbeats 1000000 in
theorem pawake_any (w : World) : Calls Try.prog 9 #[] w fun e w' => e = .returned (.bool true) ∧ Below w.heap.size w w' := by
  have HN := hide (pnew_on w (w.alloc (.cells #[.int .i64 5] 3)) [5] (bel_al (Below.refl _ _) _) w.heap.size (ints_one w 5) (by simp))
  have PL := hide awake_plain
  go_enter Try.func9, Try.ntmps9
  go_wp2_with fail
  refine HN.out.mono ?_
  rintro e w1 ⟨p, b, c, rfl, k1, hb1⟩
  obtain ⟨s2, s3, ⟨e1, E1⟩, ⟨e2, E2⟩, ⟨e3, E3⟩, e4, e5⟩ := PL.out
  have t1 := alw_on k1 hb1 (by decide) (by omega) e1 E1
  have T2 := hide (fun u (k : Pk w.heap.size u p b c s2 1) hb => alw_on k hb (by decide) (by omega) e2 E2)
  have T3 := hide (fun u (k : Pk w.heap.size u p b c s2 2) hb => cap_on k hb (by decide) (by omega) e3 E3)
  have T4 := hide (fun u (k : Pk w.heap.size u p b c s3 3) hb => till_on k hb e4)
  have T5 := hide (fun u (k : Pk w.heap.size u p b c s3 3) hb => money_on k hb (by decide) e5)
  clear PL e1 E1 e2 E2 e3 E3 e4 e5 k1 hb1 HN
  go_wp2_with (first
    | (go_at_call 16; refine t1.mono ?_; clear t1; rintro e w2 ⟨rfl, k, hb⟩; have t2 := T2.out w2 k hb; clear k hb)
    | (go_at_call 16; refine t2.mono ?_; clear t2; rintro e w3 ⟨rfl, k, hb⟩; have t3 := T3.out w3 k hb; clear k hb)
    | (go_at_call 12; refine t3.mono ?_; clear t3; rintro e w4 ⟨rfl, k, hb⟩; have t4 := T4.out w4 k hb; clear k hb)
    | (go_at_call 19; refine t4.mono ?_; clear t4; rintro e w5 ⟨rfl, k, hb⟩; have t5 := T5.out w5 k hb; clear k hb)
    | (go_at_call 20; refine t5.mono ?_; clear t5; rintro e w6 ⟨rfl, k, hb⟩; have HB6 := hide hb; clear k hb))
  go_ret
  exact ⟨rfl, HB6.out⟩
end Go.Proofs.Ytpahgoehpkohiaa
