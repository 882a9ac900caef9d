/-
  KeeperPlays: both keepers beside each other.
-/
import Derived.Test.YtepclljoiccieaaGreatDoorSghgaccn
import Derived.Test.YtepclljoiccieaaGreatDoorSgcgkjko
import Derived.Test.YtepclljoiccieaaGreatDoorSgcpemig
import Derived.Test.YtepclljoiccieaaGreatDoorSgigalom
import Derived.Test.YtepclljoiccieaaGreatDoorSgfihjge
import Derived.Test.YtepclljoiccieaaGreatDoorSgfcaaoo
import Derived.Test.YtepclljoiccieaaGreatDoorSgnjbmek
namespace Go.Proofs.YtepclljoiccieaaGreatDoor
open Go.ChangeShapes Go.WideShapes Go.ChangeAt Go.RowKit Go.Maps

theorem rkhandle_any {B : Nat} {E : Nat → Prop} {w : World} {p : Nat} {v : Kv} {n : Nat} (k : Rk B E w p v n) (m : Ms.Mg) (hg : ∀ u, Rg.Kept (fun k _ => E k) w u → Gl u) (hn : n < 700000) :
    Calls Tryz.prog 17 #[.pointer (some ⟨p, 0, none⟩), .agg #[.int .i64 m.k, .int .i64 m.fr, .int .i64 m.to, .int .i64 m.id, .int .i64 m.st, .int .i64 m.a, .int .i64 m.b]] w (RHandK B E w p (hkS v m) (n + 4) (hkA v m)) := by
  cases hh : hearsK v m
  · have e1 : hkS v m = v := by unfold hkS; rw [hh]; rfl
    have e2 : hkA v m = [] := by unfold hkA hkK; rw [hh]; rfl
    rw [e1, e2]
    exact rkh_deaf k m hh
  · exact rkh_hears k m hh hg hn
theorem Rk.more {B : Nat} {E : Nat → Prop} {w : World} {p : Nat} {v : Kv} {n n' : Nat} (k : Rk B E w p v n) (hn : n ≤ n') : Rk B E w p v n' := by
  obtain ⟨h1, h2, a, l, lc, q, r, pb, mb, mc, h⟩ := k
  exact ⟨h1, h2, a, l, lc, q, r, pb, mb, mc, h.more hn⟩
/-- The program's keeper at p, the reference's at q. -/
structure Ty (w0 V : World) (E F : Nat → Prop) (p q : Nat) (vp vq : Kv) (n : Nat) : Prop where
  a : Kd w0.heap.size E V p vp n
  b : Rk w0.heap.size F V q vq n
  dj : ∀ k, E k → ¬ F k
  bel : Below w0.heap.size w0 V
/-- A block of neither. -/
def Ay (V : World) (E F : Nat → Prop) (c : Nat) (o : Obj) : Prop := V.heap[c]? = some o ∧ ¬ E c ∧ ¬ F c
section
variable {w0 V u : World} {E F E' F' : Nat → Prop} {p q : Nat} {vp vq vp' vq' : Kv} {n n' : Nat} {c : Nat} {o : Obj}
theorem Ty.on (t : Ty w0 V E F p q vp vq n) (hb : Below V.heap.size V u) : Ty w0 u E F p q vp vq n := ⟨t.a.on hb, t.b.on hb, t.dj, bel_on' t.bel hb⟩
theorem Ty.stepP (t : Ty w0 V E F p q vp vq n) (a' : Kd w0.heap.size E' u p vp' n') (hn : n ≤ n') (hE : ∀ k, E' k → growE E V u k) (hk : Rg.Kept (fun k _ => E k) V u) : Ty w0 u E' F p q vp' vq n' :=
  ⟨a', (t.b.kept hk (fun k _ hF hE => t.dj k hE hF)).more hn, fun k e hF => (hE k e).elim (fun e => t.dj k e hF) (fun e => by have := (t.b.1 k hF).2; omega), t.bel.trans (t.a.bel hk)⟩
theorem Ty.stepQ (t : Ty w0 V E F p q vp vq n) (b' : Rk w0.heap.size F' u q vq' n') (hn : n ≤ n') (hF : ∀ k, F' k → growE F V u k) (hk : Rg.Kept (fun k _ => F k) V u) : Ty w0 u E F' p q vp vq' n' :=
  ⟨(t.a.kept hk (fun k _ hE hF => t.dj k hE hF)).more hn, b', fun k hE e => (hF k e).elim (fun e => t.dj k hE e) (fun e => by have := (t.a.1 k hE).2; omega), t.bel.trans (t.b.bel hk)⟩
theorem Ay.lt (h : Ay V E F c o) : c < V.heap.size := (Array.getElem?_eq_some_iff.1 h.1).1
theorem Ay.on (h : Ay V E F c o) (hb : Below V.heap.size V u) : Ay u E F c o := ⟨(hb.block _ h.lt).trans h.1, h.2⟩
theorem Ay.stepP (h : Ay V E F c o) (hE : ∀ k, E' k → growE E V u k) (hk : Rg.Kept (fun k _ => E k) V u) : Ay u E' F c o :=
  ⟨hk.block _ _ h.1 h.2.1, fun e => (hE c e).elim h.2.1 (fun e => by have := h.lt; omega), h.2.2⟩
theorem Ay.stepQ (h : Ay V E F c o) (hF : ∀ k, F' k → growE F V u k) (hk : Rg.Kept (fun k _ => F k) V u) : Ay u E F' c o :=
  ⟨hk.block _ _ h.1 h.2.2, h.2.1, fun e => (hF c e).elim h.2.2 (fun e => by have := h.lt; omega)⟩
/-- Each call on each side. -/
theorem Ty.crashP (t : Ty w0 V E F p q vp vq n) (h : Ay V E F c o) (sy tn : Int) :
    Calls Tryz.prog 7 #[.pointer (some ⟨p, 0, none⟩), .int .i64 sy, .int .i64 tn] V fun e u => (∃ x, e = .returned x) ∧ ∃ E', Ty w0 u E' F p q (crK vp) vq n ∧ Ay u E' F c o :=
  (kcrash_any t.a sy tn).mono (fun _ _ ⟨h1, h2, h3⟩ => ⟨h1, _, t.stepP (h2.more (Nat.zero_le _)) (Nat.le_refl _) (fun _ e => e) h3, h.stepP (fun _ e => e) h3⟩)
theorem Ty.crashQ (t : Ty w0 V E F p q vp vq n) (h : Ay V E F c o) (sy tn : Int) :
    Calls Tryz.prog 8 #[.pointer (some ⟨q, 0, none⟩), .int .i64 sy, .int .i64 tn] V fun e u => (∃ x, e = .returned x) ∧ ∃ F', Ty w0 u E F' p q vp (crK vq) n ∧ Ay u E F' c o :=
  (rkcrash_any t.b sy tn).mono (fun _ _ ⟨h1, ⟨_, h4, h2⟩, h3⟩ => ⟨h1, _, t.stepQ (h2.more h4) (Nat.le_refl _) (fun _ e => e) h3, h.stepQ (fun _ e => e) h3⟩)
theorem Ty.startP (hg : Gl w0) (t : Ty w0 V E F p q vp vq n) (h : Ay V E F c o) (hn : n < 600000) :
    Calls Tryz.prog 9 #[.pointer (some ⟨p, 0, none⟩)] V fun e u => (∃ x, e = .returned x) ∧ ∃ E', Ty w0 u E' F p q (upK vp) vq (if vp.down = true then n + 10000 else n) ∧ Ay u E' F c o ∧ Rk w0.heap.size F u q vq n := by
  cases hd : vp.down
  · refine (kstart_up t.a hd).mono ?_
    rintro e u ⟨h1, h2⟩
    have e1 : upK vp = vp := by unfold upK; rw [hd]; rfl
    rw [e1, if_neg (by decide)]
    exact ⟨h1, E, t.on h2, h.on h2, t.b.on h2⟩
  · refine (kstart_down hg t.bel t.a hd hn).mono ?_
    rintro e u ⟨h1, h2, h3⟩
    rw [if_pos rfl]
    exact ⟨h1, _, t.stepP h2 (by omega) (fun _ e => e) h3, h.stepP (fun _ e => e) h3, t.b.kept h3 (fun k _ hF hE => t.dj k hE hF)⟩
theorem Ty.startQ (hg : Gl w0) (t : Ty w0 V E F p q vp vq n) (h : Ay V E F c o) {n0 : Nat} (hn0 : n0 < 600000) (hb : Rk w0.heap.size F V q vq n0) (hn : (if vq.down = true then n0 + 10000 else n0) ≤ n) :
    Calls Tryz.prog 10 #[.pointer (some ⟨q, 0, none⟩)] V fun e u => (∃ x, e = .returned x) ∧ ∃ F', Ty w0 u E F' p q vp (upK vq) n ∧ Ay u E F' c o := by
  cases hd : vq.down
  · refine (rkstart_up t.b hd).mono ?_
    rintro e u ⟨h1, h2⟩
    have e1 : upK vq = vq := by unfold upK; rw [hd]; rfl
    rw [e1]
    exact ⟨h1, F, t.on h2, h.on h2⟩
  · rw [hd, if_pos rfl] at hn
    refine (rkstart_down hg t.bel hb hd (by omega)).mono ?_
    rintro e u ⟨h1, h2, h3⟩
    exact ⟨h1, _, t.stepQ (h2.more hn) (Nat.le_refl _) (fun _ e => e) h3, h.stepQ (fun _ e => e) h3⟩
theorem Ty.handleP (hg : Gl w0) (t : Ty w0 V E F p q vp vq n) (h : Ay V E F c o) (hn : n < 700000) {m : Ms.Mg} (hw : (Lit.int .i64 m.id).wf = true) :
    Calls Tryz.prog 16 #[.pointer (some ⟨p, 0, none⟩), .agg #[.int .i64 m.k, .int .i64 m.fr, .int .i64 m.to, .int .i64 m.id, .int .i64 m.st, .int .i64 m.a, .int .i64 m.b]] V fun e u => ∃ a ca E', e = .returned (.slice a (hkA vp m).length ca) ∧ Ty w0 u E' F p q (hkS vp m) vq (n + 4) ∧ Ay u E' F c o ∧ Ms.Mgs u a (hkA vp m) ∧ (∀ ad, a = some ad → ¬ F ad.block) ∧ Rk w0.heap.size F u q vq n := by
  refine (khandle_any t.a (fun u hu => hg.on (t.bel.trans (t.a.bel hu))) hw hn).mono ?_
  rintro e u ⟨a, ca, E', h1, h2, h4, h5, h6, h7⟩
  exact ⟨a, ca, E', h1, t.stepP h6 (by omega) h5 h7, h.stepP h5 h7, h2, fun ad e hF => by have h8 := (h4 ad e).2; have h9 := (t.b.1 _ hF).2; omega, t.b.kept h7 (fun k _ hF hE => t.dj k hE hF)⟩
theorem Ty.handleQ (hg : Gl w0) (t : Ty w0 V E F p q vp vq (n + 4)) (h : Ay V E F c o) (hn : n < 700000) (hb : Rk w0.heap.size F V q vq n) (m : Ms.Mg) {a : Option Addr} {xs : List Ms.Mg} (hm : Ms.Mgs V a xs) (ha : ∀ ad, a = some ad → ¬ F ad.block) :
    Calls Tryz.prog 17 #[.pointer (some ⟨q, 0, none⟩), .agg #[.int .i64 m.k, .int .i64 m.fr, .int .i64 m.to, .int .i64 m.id, .int .i64 m.st, .int .i64 m.a, .int .i64 m.b]] V fun e u => ∃ b cb F', e = .returned (.slice b (hkA vq m).length cb) ∧ Ty w0 u E F' p q vp (hkS vq m) (n + 4) ∧ Ay u E F' c o ∧ Ms.Mgs u a xs ∧ Ms.Mgs u b (hkA vq m) := by
  refine (rkhandle_any hb m (fun u hu => hg.on (t.bel.trans (t.b.bel hu))) hn).mono ?_
  rintro e u ⟨b, cb, h1, h2, h3, h4⟩
  refine ⟨b, cb, _, h1, t.stepQ h3 (Nat.le_refl _) (fun _ e => e) h4, h.stepQ (fun _ e => e) h4, ?_, h2⟩
  rcases hm with hm | ⟨b', off, rfl, hc⟩
  · exact .inl hm
  · exact .inr ⟨b', off, rfl, fun j x hj => kept_cellR h4 (fun _ e => ha _ rfl e) (hc j x hj)⟩
theorem Ty.ringP (t : Ty w0 V E F p q vp vq n) {id : Int} (hw : (Lit.int .i64 id).wf = true) :
    Calls Tryz.prog 12 #[.pointer (some ⟨p, 0, none⟩), .int .i64 id] V (TellM V (rgA vp id)) := by
  obtain ⟨_, _, q', r, pb, mb, mc, sb, k0⟩ := t.a
  exact kring_any k0 hw
theorem Ty.ringQ (t : Ty w0 V E F p q vp vq n) (id : Int) :
    Calls Tryz.prog 13 #[.pointer (some ⟨q, 0, none⟩), .int .i64 id] V (TellM V (rgA vq id)) := by
  obtain ⟨_, hG, a, l, lc, q', r, pb, mb, mc, k0⟩ := t.b
  exact rkring_any k0 hG id
theorem Ty.forceP (hg : Gl w0) (t : Ty w0 V E F p q vp vq n) (h : Ay V E F c o) (hn : n < 700000) {id : Int} (hw : (Lit.int .i64 id).wf = true) (y : Bool) :
    Calls Tryz.prog 14 #[.pointer (some ⟨p, 0, none⟩), .int .i64 id, .bool y] V fun e u => e = .returned (.int .i64 (fcE vp id)) ∧ ∃ E', Ty w0 u E' F p q (fcS vp id y) vq (n + 4) ∧ Ay u E' F c o ∧ Rk w0.heap.size F u q vq n :=
  (kforce_any t.a (fun u hu => hg.on (t.bel.trans (t.a.bel hu))) hw y hn).mono (fun _ _ ⟨h1, h2, h3⟩ => ⟨h1, _, t.stepP (h2.more (by omega)) (by omega) (fun _ e => e) h3, h.stepP (fun _ e => e) h3, t.b.kept h3 (fun k _ hF hE => t.dj k hE hF)⟩)
theorem Ty.forceQ (hg : Gl w0) (t : Ty w0 V E F p q vp vq (n + 4)) (h : Ay V E F c o) (hn : n < 700000) (hb : Rk w0.heap.size F V q vq n) (id : Int) (y : Bool) :
    Calls Tryz.prog 15 #[.pointer (some ⟨q, 0, none⟩), .int .i64 id, .bool y] V fun e u => e = .returned (.int .i64 (fcE vq id)) ∧ ∃ F', Ty w0 u E F' p q vp (fcS vq id y) (n + 4) ∧ Ay u E F' c o :=
  (rkforce_any hb (fun u hu => hg.on (t.bel.trans (t.b.bel hu))) id y (by omega)).mono (fun _ _ ⟨h1, h2, h3⟩ => ⟨h1, _, t.stepQ (h2.more (by omega)) (Nat.le_refl _) (fun _ e => e) h3, h.stepQ (fun _ e => e) h3⟩)
end
theorem eleven_of {w : World} {g : Nat} {x0 x1 x2 x3 x4 x5 x6 x7 x8 x9 x10 : Value} {t : TypeId} (e : w.heap[g]? = some (.cells #[x0, x1, x2, x3, x4, x5, x6, x7, x8, x9, x10] t (0, 0))) :
    (w.cell? ⟨g, 0, none⟩ = some x0 ∧ w.cell? ⟨g, 1, none⟩ = some x1 ∧ w.cell? ⟨g, 2, none⟩ = some x2 ∧ w.cell? ⟨g, 3, none⟩ = some x3) ∧ w.cell? ⟨g, 4, none⟩ = some x4 ∧ w.cell? ⟨g, 5, none⟩ = some x5 ∧ w.cell? ⟨g, 6, none⟩ = some x6 ∧ w.cell? ⟨g, 7, none⟩ = some x7 ∧ w.cell? ⟨g, 8, none⟩ = some x8 ∧ w.cell? ⟨g, 9, none⟩ = some x9 ∧ w.cell? ⟨g, 10, none⟩ = some x10 := by
  refine ⟨⟨?_, ?_, ?_, ?_⟩, ?_, ?_, ?_, ?_, ?_, ?_, ?_⟩ <;> (rw [cell_of e]; rfl)
theorem same_ofY {u : World} {B B' : Nat} {L : List Int} {a b : Option Addr} {c c' : Nat} (hL : L.length ≤ 1000) (h1 : u.ownsRow B 3 1 (.slice a L.length c) L.length (L.map (Value.int .i64))) (h2 : u.ownsRow B' 3 1 (.slice b L.length c') L.length (L.map (Value.int .i64))) :
    Calls Tryz.prog 23 #[.slice a L.length c, .slice b L.length c'] u fun e w' => e = .returned (.bool true) ∧ Below u.heap.size u w' := by
  obtain ⟨a', c'', e1, -, e2⟩ := owned_nums h1
  cases e1
  obtain ⟨a', c'', e1, -, e3⟩ := owned_nums h2
  cases e1
  refine (same_any a b L L c c' u (by omega) e2 e3).mono ?_
  rintro e w' ⟨rfl, n, rfl⟩
  exact ⟨by simp, belowN (Below.refl _ _) n⟩
end Go.Proofs.YtepclljoiccieaaGreatDoor
