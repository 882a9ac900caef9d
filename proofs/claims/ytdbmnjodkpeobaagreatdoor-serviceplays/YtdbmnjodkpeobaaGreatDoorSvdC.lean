/-
  The service's steps above a world w0, with answers named; what an answer reads as behind later steps; the law's awake.
-/
import Derived.Test.YtdbmnjodkpeobaaGreatDoorSvdB
namespace Go.Proofs.YtdbmnjodkpeobaaGreatDoor
open Go.ChangeShapes Go.WideShapes Go.ChangeAt Go.RowKit Go.Maps

/-- The answer at a reads as xs; its block is none of E. -/
def An (w : World) (E : Nat → Prop) (a : Option Addr) (xs : List Ms.Mg) : Prop :=
  xs = [] ∨ ∃ b off, a = some ⟨b, off, none⟩ ∧ ¬ E b ∧ ∀ j u, (Ms.mgCells xs)[j]? = some u → w.cell? ⟨b, off + j, none⟩ = some u
theorem An.lt {w : World} {E : Nat → Prop} {a : Option Addr} {x : Ms.Mg} {xs : List Ms.Mg} (h : An w E a (x :: xs)) : ∃ b off, a = some ⟨b, off, none⟩ ∧ b < w.heap.size := by
  rcases h with h | ⟨b, off, h1, h2, h3⟩
  · cases h
  · exact ⟨b, off, h1, World.block_lt_of_cell? _ _ (h3 0 _ rfl)⟩
theorem An.step {w w' : World} {E E' : Nat → Prop} {a : Option Addr} {xs : List Ms.Mg} (h : An w E a xs) (hk : Rg.Kept (fun k _ => E k) w w') (hE : ∀ k, E' k → growE E w w' k) : An w' E' a xs := by
  rcases h with h | ⟨b, off, h1, h2, h3⟩
  · exact .inl h
  · cases xs with
    | nil => exact .inl rfl
    | cons x xs =>
      have hb : b < w.heap.size := World.block_lt_of_cell? _ _ (h3 0 _ rfl)
      exact .inr ⟨b, off, h1, fun e => (hE b e).elim h2 (fun e => by omega), fun j u hu => kept_cellR hk (fun _ => h2) (h3 j u hu)⟩
theorem An.on {w w' : World} {E : Nat → Prop} {a : Option Addr} {xs : List Ms.Mg} (h : An w E a xs) (hb : Below w.heap.size w w') : An w' E a xs := h.step (Rg.Kept.of_below hb) (fun _ e => .inl e)
theorem An.one {w : World} {E : Nat → Prop} {a : Option Addr} {m : Ms.Mg} (h : An w E a [m]) : ∃ b off, a = some ⟨b, off, none⟩ ∧
    (w.cell? ⟨b, off, none⟩ = some (.int .i64 m.k) ∧ w.cell? ⟨b, off + 1, none⟩ = some (.int .i64 m.fr) ∧ w.cell? ⟨b, off + 2, none⟩ = some (.int .i64 m.to) ∧ w.cell? ⟨b, off + 3, none⟩ = some (.int .i64 m.id) ∧ w.cell? ⟨b, off + 4, none⟩ = some (.int .i64 m.st)) := by
  rcases h with h | ⟨b, off, h1, h2, h3⟩
  · cases h
  · exact ⟨b, off, h1, h3 0 _ rfl, h3 1 _ rfl, h3 2 _ rfl, h3 3 _ rfl, h3 4 _ rfl⟩

/-- The service above w0. -/
def Sn (w0 : World) (E : Nat → Prop) (w : World) (p : Nat) (v : Sv) (n : Nat) : Prop := Nd w0.heap.size E w p v n ∧ Below w0.heap.size w0 w
section
variable {w0 : World} {E : Nat → Prop} {w : World} {p : Nat} {v : Sv} {n : Nat}
theorem Sn.on {w' : World} (k : Sn w0 E w p v n) (hb : Below w.heap.size w w') : Sn w0 E w' p v n := ⟨k.1.on hb, bel_on' k.2 hb⟩
theorem Sn.gl (hg : Gl w0) (k : Sn w0 E w p v n) : ∀ u, Rg.Kept (fun k _ => E k) w u → Gl u := fun _ h => hg.on (k.2.trans (k.1.bel h))
theorem Sn.new {node hold room : Int} (h : 4 ≤ node ∧ node ≤ 6) :
    Calls Tryz.prog 7 #[.int .i64 node, .int .i64 hold, .int .i64 room] w0 fun e w' => ∃ p E, e = .returned (.pointer (some ⟨p, 0, none⟩)) ∧ Sn w0 E w' p (newSv node hold room) 0 :=
  (snew_any node hold room h w0).mono (fun _ _ ⟨p, E, h1, h2, h3⟩ => ⟨p, E, h1, h2, h3⟩)
theorem Sn.handle (hg : Gl w0) (k : Sn w0 E w p v n) (hn : n < 700000) (m : Ms.Mg) {xs : List Ms.Mg} {v' : Sv} (hx : hdA v m = xs) (hv : hdS v m = v') :
    Calls Tryz.prog 15 #[.pointer (some ⟨p, 0, none⟩), .agg #[.int .i64 m.k, .int .i64 m.fr, .int .i64 m.to, .int .i64 m.id, .int .i64 m.st, .int .i64 m.a, .int .i64 m.b]] w fun e w' => ∃ a c E', e = .returned (.slice a xs.length c) ∧ An w' E' a xs ∧ Sn w0 E' w' p v' (n + 3) ∧ (∀ k, E' k → growE E w w' k) ∧ Rg.Kept (fun k _ => E k) w w' := by
  subst hx hv
  refine (shandle_any k.1 (k.gl hg) m hn).mono ?_
  rintro e w' ⟨a, c, E', h1, h2, h3, h4, h5, h6, h7⟩
  refine ⟨a, c, E', h1, ?_, ⟨h6, k.2.trans (k.1.bel h7)⟩, h5, h7⟩
  rcases h2 with h2 | ⟨b, off, h8, h9⟩
  · exact .inl h2
  · exact .inr ⟨b, off, h8, (h4 _ h8).1, h9⟩
theorem Sn.state (k : Sn w0 E w p v n) {id : Int} (hw : (Lit.int .i64 id).wf = true) {x : Int} (hx : v.st.s id = x) :
    Calls Tryz.prog 17 #[.pointer (some ⟨p, 0, none⟩), .int .i64 id] w fun e w' => e = .returned (.int .i64 x) ∧ w = w' := by
  obtain ⟨⟨_, _, q, r, pb, mb, sb, h⟩, _⟩ := k
  subst hx
  exact sstate_any h hw
theorem Sn.left (k : Sn w0 E w p v n) {x : Int} (hx : v.st.left = x) :
    Calls Tryz.prog 19 #[.pointer (some ⟨p, 0, none⟩)] w fun e w' => e = .returned (.int .i64 x) ∧ w = w' := by
  obtain ⟨⟨_, _, q, r, pb, mb, sb, h⟩, _⟩ := k
  subst hx
  exact sleft_any h
theorem Sn.dn (k : Sn w0 E w p v n) {x : Bool} (hx : v.down = x) :
    Calls Tryz.prog 20 #[.pointer (some ⟨p, 0, none⟩)] w fun e w' => e = .returned (.bool x) ∧ w = w' := by
  obtain ⟨⟨_, _, q, r, pb, mb, sb, h⟩, _⟩ := k
  subst hx
  exact sdown_any h
theorem Sn.crash (k : Sn w0 E w p v n) (stay torn : Int) :
    Calls Tryz.prog 10 #[.pointer (some ⟨p, 0, none⟩), .int .i64 stay, .int .i64 torn] w fun e w' => (∃ x, e = .returned x) ∧ ∃ E', Sn w0 E' w' p (crS v) 0 ∧ (∀ k, E' k → growE E w w' k) ∧ Rg.Kept (fun k _ => E k) w w' :=
  (scrash_any k.1 stay torn).mono (fun _ w' ⟨h1, h2, h3⟩ => ⟨h1, growE E w w', ⟨h2, k.2.trans (k.1.bel h3)⟩, fun _ e => e, h3⟩)
theorem Sn.start (hg : Gl w0) (k : Sn w0 E w p v n) (hn : n < 600000) :
    Calls Tryz.prog 12 #[.pointer (some ⟨p, 0, none⟩)] w fun e w' => (∃ x, e = .returned x) ∧ ∃ E', Sn w0 E' w' p (upS v) (n + 10000) ∧ (∀ k, E' k → growE E w w' k) ∧ Rg.Kept (fun k _ => E k) w w' := by
  cases hd : v.down
  · refine (sstart_up k.1 hd).mono ?_
    rintro e w' ⟨h1, h2⟩
    have e1 : upS v = v := by unfold upS; rw [hd]; rfl
    rw [e1]
    exact ⟨h1, E, ⟨(k.1.on h2).more (by omega), bel_on' k.2 h2⟩, fun _ e => .inl e, Rg.Kept.of_below h2⟩
  · refine (sstart_down hg k.2 k.1 hd hn).mono ?_
    rintro e w' ⟨h1, h2, h3⟩
    exact ⟨h1, growE E w w', ⟨h2, k.2.trans (k.1.bel h3)⟩, fun _ e => e, h3⟩
end

theorem aw1 : hdA (newSv 4 5 20) ⟨4, 0, 4, 7, 0, 0, 0⟩ = [⟨5, 4, 0, 7, 0, 0, 0⟩] := by rfl
theorem aw2 : hdA (hdS (newSv 4 5 20) ⟨4, 0, 4, 7, 0, 0, 0⟩) ⟨1, 0, 4, 7, 0, 1, 0⟩ = [⟨3, 4, 0, 7, 0, 0, 0⟩] := by rfl
theorem aw3 : (hdS (hdS (newSv 4 5 20) ⟨4, 0, 4, 7, 0, 0, 0⟩) ⟨1, 0, 4, 7, 0, 1, 0⟩).st.s 7 = 3 := by rfl
set_option maxHeartbeats 2000000 in
theorem swake_any (w : World) (hg : Gl w) : Calls Tryz.prog 9 #[] w fun e w' => e = .returned (.bool true) ∧ Below w.heap.size w w' := by
  have N := Sn.new (w0 := w) (node := 4) (hold := 5) (room := 20) (by omega)
  go_enter Tryz.func9, Tryz.ntmps9
  go_wp2_with fail
  refine N.mono ?_
  rintro e w1 ⟨p, E1, rfl, k1⟩
  obtain ⟨v1, hv1⟩ : ∃ v1, hdS (newSv 4 5 20) ⟨4, 0, 4, 7, 0, 0, 0⟩ = v1 := ⟨_, rfl⟩
  have A2 := aw2
  have A3 := aw3
  rw [hv1] at A2 A3
  obtain ⟨v2, hv2⟩ : ∃ v2, hdS v1 ⟨1, 0, 4, 7, 0, 1, 0⟩ = v2 := ⟨_, rfl⟩
  rw [hv2] at A3
  have H1 := k1.handle hg (by omega) ⟨4, 0, 4, 7, 0, 0, 0⟩ aw1 hv1
  have NX : Hid (∀ u a E', Sn w E' u p v1 3 → An u E' a [⟨5, 4, 0, 7, 0, 0, 0⟩] → Calls Tryz.prog 15 #[.pointer (some ⟨p, 0, none⟩), .agg #[.int .i64 1, .int .i64 0, .int .i64 4, .int .i64 7, .int .i64 0, .int .i64 1, .int .i64 0]] u fun e w' => ∃ a2 c2 E2, e = .returned (.slice a2 1 c2) ∧ An w' E2 a2 [⟨3, 4, 0, 7, 0, 0, 0⟩] ∧ An w' E2 a [⟨5, 4, 0, 7, 0, 0, 0⟩] ∧ Sn w E2 w' p v2 6) := fun u a E' h1 h2 =>
    (h1.handle hg (by omega) ⟨1, 0, 4, 7, 0, 1, 0⟩ A2 hv2).mono (fun _ w' ⟨a2, c2, E2, e1, e2, e3, e4, e5⟩ => ⟨a2, c2, E2, e1, e2, h2.step e5 e4, e3⟩)
  have HA3 := hide A3
  clear N k1 A2 A3 hv1 hv2
  go_wp2_with (first
    | (go_at_call 15; refine H1.mono ?_; clear H1; rintro e u1 ⟨a1, c1, E1', rfl, h1, h2, -, -⟩; have H2 := NX.out u1 a1 E1' h2 h1; clear h1 h2 NX)
    | (go_at_call 15; refine H2.mono ?_; clear H2; rintro e u2 ⟨a2, c2, E2, rfl, h1, h2, h3⟩; obtain ⟨b1, o1, rfl, x0, -⟩ := h2.one; obtain ⟨b2, o2, rfl, y0, -⟩ := h1.one; have S := h3.state (id := 7) (by decide) HA3.out; have HB := hide h3.2; clear h1 h2 h3))
  refine S.mono ?_
  rintro e w' ⟨rfl, rfl⟩
  go_wp2
  go_ret
  exact ⟨rfl, HB.out⟩
end Go.Proofs.YtdbmnjodkpeobaaGreatDoor
