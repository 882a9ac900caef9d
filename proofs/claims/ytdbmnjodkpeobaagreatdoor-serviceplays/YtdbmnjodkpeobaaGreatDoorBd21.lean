/-
  Own texts put together: MzE, XPlaM.
-/
import Derived.Test.YtdbmnjodkpeobaaGreatDoorBd1
import Derived.Laws.StructEq
import Derived.Deep.QuietTactic
import Derived.BigQuiet
import Derived.Test.YtdbmnjodkpeobaaGreatDoorSvrI
import Derived.Test.YtdbmnjodkpeobaaGreatDoorSvdC
import Derived.Test.YtdbmnjodkpeobaaGreatDoorSvdD
import Derived.Test.YtdbmnjodkpeobaaGreatDoorBd3
/-
  Messages that are the same: '==', '!=', the reference's SameMsgs.
-/
namespace Go.Proofs.YtdbmnjodkpeobaaGreatDoor.Ms
open Go.ChangeShapes Go.WideShapes Go.ChangeAt Go.RowKit

theorem neq_msg (x0 x1 x2 x3 x4 x5 x6 y0 y1 y2 y3 y4 y5 y6 : Int) (w : World) : Sem.run Tryz.prog (binOp .neq 29 (.agg #[.int .i64 x0, .int .i64 x1, .int .i64 x2, .int .i64 x3, .int .i64 x4, .int .i64 x5, .int .i64 x6]) (.agg #[.int .i64 y0, .int .i64 y1, .int .i64 y2, .int .i64 y3, .int .i64 y4, .int .i64 y5, .int .i64 y6])) w = .ok (.bool (!(x0 == y0 && x1 == y1 && x2 == y2 && x3 == y3 && x4 == y4 && x5 == y5 && x6 == y6))) w := by
  have u3 := Tryz.underlying3
  have a3 := Tryz.isAgg3
  have z3 := Tryz.sizeOf3
  have hS : Tryz.prog.underlying 29 = some (.struct (Tryz.prog.fieldsOf 29)) := by kernel_rfl
  have hp : Tryz.prog.stoodInHeld 29 = false := by kernel_rfl
  rw [run_neq_struct, show (10000 : Nat) = 9999 + 1 from rfl, run_equalIn_agg w 9999 29 _ _ hS hp]
  simp only [Program.fieldsOf, Tryz.underlying29]
  go_simp
  by_cases h0 : x0 = y0 <;> by_cases h1 : x1 = y1 <;> by_cases h2 : x2 = y2 <;> by_cases h3 : x3 = y3 <;> by_cases h4 : x4 = y4 <;> by_cases h5 : x5 = y5 <;> by_cases h6 : x6 = y6 <;> simp [h0, h1, h2, h3, h4, h5, h6]
theorem eql_msg (x0 x1 x2 x3 x4 x5 x6 y0 y1 y2 y3 y4 y5 y6 : Int) (w : World) : Sem.run Tryz.prog (binOp .eql 29 (.agg #[.int .i64 x0, .int .i64 x1, .int .i64 x2, .int .i64 x3, .int .i64 x4, .int .i64 x5, .int .i64 x6]) (.agg #[.int .i64 y0, .int .i64 y1, .int .i64 y2, .int .i64 y3, .int .i64 y4, .int .i64 y5, .int .i64 y6])) w = .ok (.bool (x0 == y0 && x1 == y1 && x2 == y2 && x3 == y3 && x4 == y4 && x5 == y5 && x6 == y6)) w := by
  have u3 := Tryz.underlying3
  have a3 := Tryz.isAgg3
  have z3 := Tryz.sizeOf3
  have hS : Tryz.prog.underlying 29 = some (.struct (Tryz.prog.fieldsOf 29)) := by kernel_rfl
  have hp : Tryz.prog.stoodInHeld 29 = false := by kernel_rfl
  rw [run_eql_struct, show (10000 : Nat) = 9999 + 1 from rfl, run_equalIn_agg w 9999 29 _ _ hS hp]
  simp only [Program.fieldsOf, Tryz.underlying29]
  go_simp
  by_cases h0 : x0 = y0 <;> by_cases h1 : x1 = y1 <;> by_cases h2 : x2 = y2 <;> by_cases h3 : x3 = y3 <;> by_cases h4 : x4 = y4 <;> by_cases h5 : x5 = y5 <;> by_cases h6 : x6 = y6 <;> simp [h0, h1, h2, h3, h4, h5, h6]
theorem guard_msg (op : BinOp) (a b : Operand) (xs ys : Array Value) (w : World) : Sem.run Tryz.prog (eqGuard op 29 a b (.agg xs) (.agg ys)) w = .ok () w := run_eqGuard_agg w op 29 a b xs ys (by kernel_rfl)
theorem belM {w w' : World} (h : Below w.heap.size w w') (n : Nat) : Below w.heap.size w (w'.drewN n) := ⟨h.os, h.tape, h.output, h.size, h.block⟩

set_option maxHeartbeats 4000000 in
/-- Two rows that are the same. -/
theorem same_msgs (a b : Option Addr) (l : List Mg) (ca cb : Nat) (w : World) (hl : l.length ≤ 9223372036854775807) (ha : Mgs w a l) (hb : Mgs w b l) :
    Calls Tryz.prog 14 #[.slice a l.length ca, .slice b l.length cb] w fun e w' => e = .returned (.bool true) ∧ Below w.heap.size w w' := by
  have hne := neq_msg
  have hgd := guard_msg
  obtain ⟨n, hn⟩ : ∃ n, l.length = n := ⟨_, rfl⟩
  rw [hn] at hl ⊢
  have q0 : ((n : Int) != (n : Int)) = false := by simp
  have HN := hide hn
  have HA := hide ha
  have HB := hide hb
  clear hn ha hb
  go_enter Tryz.func14, Tryz.ntmps14
  go_wp2_with fail
  go_loopw [13] (fun i wr => ∃ k : Nat, i = .int .i64 k ∧ k ≤ n ∧ Hid (Below w.heap.size w wr)) (fun i _ => n - (intOf i).toNat)
  case atStart => exact ⟨0, rfl, Nat.zero_le _, Below.refl _ _⟩
  case round =>
    obtain ⟨k, rfl, hk, HR⟩ := hrel
    by_cases hlt : k < n
    rotate_left
    · have hq : ¬ (k : Int) < (n : Int) := by omega
      go_wp2
      go_ret
      exact ⟨rfl, HR.out⟩
    have hkl : k < l.length := by have := HN.out; omega
    obtain ⟨m, hm⟩ : ∃ m, l[k]? = some m := ⟨_, List.getElem?_eq_getElem hkl⟩
    obtain ⟨ba, oa, rfl, p0, p1, p2, p3, p4, p5, p6⟩ := (HA.out.below HR.out).get hm
    obtain ⟨bb, ob, rfl, r0, r1, r2, r3, r4, r5, r6⟩ := (HB.out.below HR.out).get hm
    have hq : (k : Int) < (n : Int) := by omega
    obtain ⟨x0, x1, x2, x3, x4, x5, x6⟩ := m
    simp only at p0 p1 p2 p3 p4 p5 p6 r0 r1 r2 r3 r4 r5 r6
    clear hm hkl
    have qe : (!(x0 == x0 && x1 == x1 && x2 == x2 && x3 == x3 && x4 == x4 && x5 == x5 && x6 == x6)) = false := by simp
    go_wp2_with fail
    go_quiet (fail)
    go_wp2
    go_roundw
    case rel => exact ⟨k + 1, by go_num, by omega, belM HR.out _⟩
    case measure => simp [intOf]; omega
end Go.Proofs.YtdbmnjodkpeobaaGreatDoor.Ms
/-
  ServicePlays: both services beside each other.
-/
namespace Go.Proofs.YtdbmnjodkpeobaaGreatDoor
open Go.ChangeShapes Go.WideShapes Go.ChangeAt Go.RowKit Go.Maps

theorem hdS_down (v : Sv) (m : Ms.Mg) : (hdS v m).down = v.down := by
  unfold hdS doS undoS noteS
  split
  · split
    · split
      · split <;> rfl
      · rfl
    · split
      · split
        · split <;> rfl
        · rfl
      · rfl
  · rfl
/-- The program's service at p, the reference's at q. -/
structure Tb (w0 V : World) (E F : Nat → Prop) (p q : Nat) (vp vq : Sv) (n : Nat) : Prop where
  a : Nd w0.heap.size E V p vp n
  b : Rs w0.heap.size F V q vq
  dj : ∀ k, E k → ¬ F k
  bel : Below w0.heap.size w0 V
section
variable {w0 V u : World} {E F E' F' : Nat → Prop} {p q : Nat} {vp vq vp' vq' : Sv} {n n' : Nat} {c : Nat} {o : Obj}
theorem Tb.on (t : Tb w0 V E F p q vp vq n) (hb : Below V.heap.size V u) : Tb w0 u E F p q vp vq n := ⟨t.a.on hb, t.b.on hb, t.dj, bel_on' t.bel hb⟩
theorem Tb.stepP (t : Tb w0 V E F p q vp vq n) (a' : Nd w0.heap.size E' u p vp' n') (hE : ∀ k, E' k → growE E V u k) (hk : Rg.Kept (fun k _ => E k) V u) : Tb w0 u E' F p q vp' vq n' :=
  ⟨a', t.b.kept hk (fun k _ hF hE => t.dj k hE hF), fun k e hF => (hE k e).elim (fun e => t.dj k e hF) (fun e => by have := (t.b.1 k hF).2; omega), t.bel.trans (t.a.bel hk)⟩
theorem Tb.stepQ (t : Tb w0 V E F p q vp vq n) (b' : Rs w0.heap.size F' u q vq') (hF : ∀ k, F' k → growE F V u k) (hk : Rg.Kept (fun k _ => F k) V u) : Tb w0 u E F' p q vp vq' n :=
  ⟨t.a.kept hk (fun k _ hE hF => t.dj k hE hF), b', fun k hE e => (hF k e).elim (fun e => t.dj k hE e) (fun e => by have := (t.a.1 k hE).2; omega), t.bel.trans (t.b.bel hk)⟩
/-- A block of neither. -/
def Ac (V : World) (E F : Nat → Prop) (c : Nat) (o : Obj) : Prop := V.heap[c]? = some o ∧ ¬ E c ∧ ¬ F c
theorem Ac.lt (h : Ac V E F c o) : c < V.heap.size := (Array.getElem?_eq_some_iff.1 h.1).1
theorem Ac.on (h : Ac V E F c o) (hb : Below V.heap.size V u) : Ac u E F c o := ⟨(hb.block _ h.lt).trans h.1, h.2⟩
theorem Ac.stepP (h : Ac V E F c o) (hE : ∀ k, E' k → growE E V u k) (hk : Rg.Kept (fun k _ => E k) V u) : Ac u E' F c o :=
  ⟨hk.block _ _ h.1 h.2.1, fun e => (hE c e).elim h.2.1 (fun e => by have := h.lt; omega), h.2.2⟩
theorem Ac.stepQ (h : Ac V E F c o) (hF : ∀ k, F' k → growE F V u k) (hk : Rg.Kept (fun k _ => F k) V u) : Ac u E F' c o :=
  ⟨hk.block _ _ h.1 h.2.2, h.2.1, fun e => (hF c e).elim h.2.2 (fun e => by have := h.lt; omega)⟩
theorem ten_of {w : World} {g : Nat} {x0 x1 x2 x3 x4 x5 x6 x7 x8 x9 : Value} {t : TypeId} (e : w.heap[g]? = some (.cells #[x0, x1, x2, x3, x4, x5, x6, x7, x8, x9] t (0, 0))) :
    (w.cell? ⟨g, 0, none⟩ = some x0 ∧ w.cell? ⟨g, 1, none⟩ = some x1 ∧ w.cell? ⟨g, 2, none⟩ = some x2) ∧ w.cell? ⟨g, 3, none⟩ = some x3 ∧ w.cell? ⟨g, 4, none⟩ = some x4 ∧ w.cell? ⟨g, 5, none⟩ = some x5 ∧ w.cell? ⟨g, 6, none⟩ = some x6 ∧ w.cell? ⟨g, 7, none⟩ = some x7 ∧ w.cell? ⟨g, 8, none⟩ = some x8 ∧ w.cell? ⟨g, 9, none⟩ = some x9 := by
  refine ⟨⟨?_, ?_, ?_⟩, ?_, ?_, ?_, ?_, ?_, ?_, ?_⟩ <;> (rw [cell_of e]; rfl)
/-- Each call on the program's side. -/
theorem Tb.crashP (t : Tb w0 V E F p q vp vq n) (h : Ac V E F c o) (sy tn : Int) :
    Calls Tryz.prog 10 #[.pointer (some ⟨p, 0, none⟩), .int .i64 sy, .int .i64 tn] V fun e u => (∃ x, e = .returned x) ∧ ∃ E', Tb w0 u E' F p q (crS vp) vq 0 ∧ Ac u E' F c o :=
  (scrash_any t.a sy tn).mono (fun _ _ ⟨h1, h2, h3⟩ => ⟨h1, _, t.stepP h2 (fun _ e => e) h3, h.stepP (fun _ e => e) h3⟩)
theorem Tb.crashQ (t : Tb w0 V E F p q vp vq n) (h : Ac V E F c o) (sy tn : Int) :
    Calls Tryz.prog 11 #[.pointer (some ⟨q, 0, none⟩), .int .i64 sy, .int .i64 tn] V fun e u => (∃ x, e = .returned x) ∧ ∃ F', Tb w0 u E F' p q vp (crS vq) n ∧ Ac u E F' c o :=
  (rscrash_any t.b sy tn).mono (fun _ _ ⟨h1, h2, h3⟩ => ⟨h1, _, t.stepQ h2 (fun _ e => e) h3, h.stepQ (fun _ e => e) h3⟩)
theorem Tb.startP (hg : Gl w0) (t : Tb w0 V E F p q vp vq n) (h : Ac V E F c o) (hn : n < 600000) :
    Calls Tryz.prog 12 #[.pointer (some ⟨p, 0, none⟩)] V fun e u => (∃ x, e = .returned x) ∧ ∃ E', Tb w0 u E' F p q (upS vp) vq (if vp.down = true then n + 10000 else n) ∧ Ac u E' F c o := by
  cases hd : vp.down
  · refine (sstart_up t.a hd).mono ?_
    rintro e u ⟨h1, h2⟩
    have e1 : upS vp = vp := by unfold upS; rw [hd]; rfl
    rw [e1, if_neg (by decide)]
    exact ⟨h1, E, t.on h2, h.on h2⟩
  · refine (sstart_down hg t.bel t.a hd hn).mono ?_
    rintro e u ⟨h1, h2, h3⟩
    rw [if_pos rfl]
    exact ⟨h1, _, t.stepP h2 (fun _ e => e) h3, h.stepP (fun _ e => e) h3⟩
theorem Tb.startQ (hg : Gl w0) (t : Tb w0 V E F p q vp vq n) (h : Ac V E F c o) :
    Calls Tryz.prog 13 #[.pointer (some ⟨q, 0, none⟩)] V fun e u => (∃ x, e = .returned x) ∧ ∃ F', Tb w0 u E F' p q vp (upS vq) n ∧ Ac u E F' c o := by
  cases hd : vq.down
  · refine (rsstart_up t.b hd).mono ?_
    rintro e u ⟨h1, h2⟩
    have e1 : upS vq = vq := by unfold upS; rw [hd]; rfl
    rw [e1]
    exact ⟨h1, F, t.on h2, h.on h2⟩
  · refine (rsstart_down hg t.bel t.b hd).mono ?_
    rintro e u ⟨h1, h2, h3⟩
    exact ⟨h1, _, t.stepQ h2 (fun _ e => e) h3, h.stepQ (fun _ e => e) h3⟩
theorem Tb.handleP (hg : Gl w0) (t : Tb w0 V E F p q vp vq n) (h : Ac V E F c o) (hn : n < 700000) (m : Ms.Mg) :
    Calls Tryz.prog 15 #[.pointer (some ⟨p, 0, none⟩), .agg #[.int .i64 m.k, .int .i64 m.fr, .int .i64 m.to, .int .i64 m.id, .int .i64 m.st, .int .i64 m.a, .int .i64 m.b]] V fun e u => ∃ a ca E', e = .returned (.slice a (hdA vp m).length ca) ∧ Tb w0 u E' F p q (hdS vp m) vq (n + 3) ∧ Ac u E' F c o ∧ Ms.Mgs u a (hdA vp m) ∧ (∀ ad, a = some ad → ¬ F ad.block) := by
  refine (shandle_any t.a (fun u hu => hg.on (t.bel.trans (t.a.bel hu))) m hn).mono ?_
  rintro e u ⟨a, ca, E', h1, h2, h3, h4, h5, h6, h7⟩
  exact ⟨a, ca, E', h1, t.stepP h6 h5 h7, h.stepP h5 h7, h2, fun ad e hF => by have h8 := (h4 ad e).2; have h9 := (t.b.1 _ hF).2; omega⟩
theorem Tb.handleQ (hg : Gl w0) (t : Tb w0 V E F p q vp vq n) (h : Ac V E F c o) (m : Ms.Mg) {a : Option Addr} {xs : List Ms.Mg} (hm : Ms.Mgs V a xs) (ha : ∀ ad, a = some ad → ¬ F ad.block) :
    Calls Tryz.prog 16 #[.pointer (some ⟨q, 0, none⟩), .agg #[.int .i64 m.k, .int .i64 m.fr, .int .i64 m.to, .int .i64 m.id, .int .i64 m.st, .int .i64 m.a, .int .i64 m.b]] V fun e u => ∃ b cb F', e = .returned (.slice b (hdA vq m).length cb) ∧ Tb w0 u E F' p q vp (hdS vq m) n ∧ Ac u E F' c o ∧ Ms.Mgs u a xs ∧ Ms.Mgs u b (hdA vq m) := by
  refine (rshandle_any t.b (fun u hu => hg.on (t.bel.trans (t.b.bel hu))) m).mono ?_
  rintro e u ⟨b, cb, h1, h2, h3, h4⟩
  refine ⟨b, cb, _, h1, t.stepQ h3 (fun _ e => e) h4, h.stepQ (fun _ e => e) h4, ?_, h2⟩
  rcases hm with hm | ⟨b', off, rfl, hc⟩
  · exact .inl hm
  · exact .inr ⟨b', off, rfl, fun j x hj => kept_cellR h4 (fun _ e => ha _ rfl e) (hc j x hj)⟩
/-- What is asked of both in the round's end. -/
theorem Tb.cellsQ (t : Tb w0 V E F p q vp vq n) : ∃ qb j, V.cell? ⟨q, 3, none⟩ = some (.pointer (some ⟨qb, 0, none⟩)) ∧ V.cell? ⟨qb, 0, none⟩ = some (.int .i64 vq.st.left) ∧ V.cell? ⟨q, 2, none⟩ = some (.pointer (some ⟨j, 0, none⟩)) ∧ V.cell? ⟨j, 3, none⟩ = some (.bool vq.down) := by
  obtain ⟨_, _, jq, r, pb, h⟩ := t.b
  obtain ⟨-, -, h2, h3⟩ := h.cells
  obtain ⟨⟨-, -, -, j3⟩, -⟩ := h.jr.cells
  exact ⟨pb, jq, h3, h.rb.cell0, h2, j3⟩
end
end Go.Proofs.YtdbmnjodkpeobaaGreatDoor
