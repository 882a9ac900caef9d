/-
  Own texts put together: RshA, RshN, RshB, RshC, RshD, ZPlaM, ZPla.
-/
import Derived.Test.YtihddekjicpihaaGreatDoorSgpgolde
import Derived.Test.YtihddekjicpihaaGreatDoorSgfnndcj
import Derived.Test.YtihddekjicpihaaGreatDoorSgaopmkk
import Derived.Test.YtihddekjicpihaaGreatDoorSgnjbmek
import Derived.Deep.RegionHeld3
import Derived.Deep.CutBlock
import Derived.Test.YtihddekjicpihaaGreatDoorSgnddbcf
import Derived.Test.YtihddekjicpihaaGreatDoorSgfcaaoo
import Derived.Deep.CutRange
/-
  The reference's shipper in memory: its block, its journal, its book; NewShipper, Crash; entry, Note.
-/
namespace Go.Proofs.YtihddekjicpihaaGreatDoor
open Go.ChangeShapes Go.WideShapes Go.ChangeAt Go.RowKit Go.Maps Gd.Pu

theorem R.Jr.kept {B : Nat} {w w' : World} {p : Nat} {v : Value} {room : Int} {L : List ByteArray} {sure : Nat} {down : Bool} {F : Nat → Obj → Prop} (h : R.Jr B w p v room L sure down) (hk : Rg.Kept F w w') (hp : ∀ o, ¬ F p o) (hv : ∀ k o, v.ownBlock = some k → ¬ F k o) : R.Jr B w' p v room L sure down := by
  obtain ⟨h1, h2, h3, h4⟩ := h
  refine ⟨hk.block _ _ h1 (hp _), h2, ⟨h3.1, ?_⟩, h4⟩
  rcases h3.2 with h | ⟨g, cap, cur, rfl, hg, hc, rest⟩
  · exact .inl h
  · exact .inr ⟨g, cap, cur, rfl, hg, hk.block _ _ hc (hv g _ rfl), rest⟩
theorem R.Jr.rowObj {B : Nat} {w : World} {p : Nat} {v : Value} {room : Int} {L : List ByteArray} {sure : Nat} {down : Bool} (h : R.Jr B w p v room L sure down) {k : Nat} (e : v.ownBlock = some k) : ∃ cs, w.heap[k]? = some (.cells cs 9 (0, 0)) := by
  obtain ⟨_, _, ⟨_, h3⟩, _⟩ := h
  rcases h3 with ⟨rfl, _⟩ | ⟨g, cap, cur, rfl, _, hg, _⟩
  · simp [Value.ownBlock] at e
  · simp [Value.ownBlock] at e
    subst e
    exact ⟨cur, hg⟩
/-- The reference's shipper at p: its journal at q with the row r; its book at pb, of the blocks Eb; all its blocks are of E. -/
structure RnV (B : Nat) (E : Nat → Prop) (w : World) (p : Nat) (v : Sh) (Eb : Nat → Prop) (q : Nat) (r : Value) (pb : Nat) : Prop where
  blk : w.heap[p]? = some (.cells #[.pointer (some ⟨q, 0, none⟩), .pointer (some ⟨pb, 0, none⟩)] 67 (0, 0))
  jr : R.Jr B w q r v.room (v.T.map lnP) v.T.length v.down
  bk : Pa.Rc B Eb w pb v.l
  gc : Pa.GoodC v.l
  ep : E p
  sub : ∀ k, Eb k → E k
  eq : E q
  er : ∀ k, r.ownBlock = some k → E k
  np : ¬ Eb p
  nq : ¬ Eb q
  nr : ∀ k, r.ownBlock = some k → ¬ Eb k
theorem typ_neR : 67 ≠ 45 ∧ 67 ≠ 9 := by decide
section
variable {B : Nat} {E E' : Nat → Prop} {w w' : World} {p : Nat} {v : Sh} {Eb : Nat → Prop} {q : Nat} {r : Value} {pb : Nat}
theorem RnV.apart (k : RnV B E w p v Eb q r pb) : p ≠ q ∧ ∀ i, r.ownBlock = some i → i ≠ p := by
  refine ⟨two_cells k.blk k.jr.1 typ_neR.1, fun i e => ?_⟩
  obtain ⟨cs, hr⟩ := k.jr.rowObj e
  exact two_cells hr k.blk typ_neR.2.symm
theorem RnV.wide (k : RnV B E w p v Eb q r pb) (h : ∀ k, E k → E' k) : RnV B E' w p v Eb q r pb := ⟨k.blk, k.jr, k.bk, k.gc, h _ k.ep, fun i e => h _ (k.sub i e), h _ k.eq, fun i e => h _ (k.er i e), k.np, k.nq, k.nr⟩
theorem RnV.kept {F : Nat → Obj → Prop} (k : RnV B E w p v Eb q r pb) (hk : Rg.Kept F w w') (hE : ∀ k o, E k → ¬ F k o) : RnV B E w' p v Eb q r pb :=
  ⟨hk.block _ _ k.blk (hE _ _ k.ep), k.jr.kept hk (fun o => hE _ o k.eq) (fun i o e => hE _ o (k.er i e)), k.bk.kept hk (fun i o e => hE i o (k.sub i e)), k.gc, k.ep, k.sub, k.eq, k.er, k.np, k.nq, k.nr⟩
theorem RnV.on (k : RnV B E w p v Eb q r pb) (hb : Below w.heap.size w w') : RnV B E w' p v Eb q r pb := k.kept (F := fun _ _ => False) (Rg.Kept.of_below hb) (fun _ _ _ h => h)
theorem RnV.lt (k : RnV B E w p v Eb q r pb) : p < w.heap.size := (Array.getElem?_eq_some_iff.1 k.blk).1
theorem RnV.cells (k : RnV B E w p v Eb q r pb) : w.cell? ⟨p, 0, none⟩ = some (.pointer (some ⟨q, 0, none⟩)) ∧ w.cell? ⟨p, 1, none⟩ = some (.pointer (some ⟨pb, 0, none⟩)) := by
  refine ⟨?_, ?_⟩
  all_goals (rw [cell_of k.blk]; rfl)
/-- A step on its journal. -/
theorem RnV.jstep (k : RnV B E w p v Eb q r pb) {T' : List (Int × Int × Int)} {d' : Bool} {r' : Value} (j : R.Jr B w' q r' v.room (T'.map lnP) T'.length d') (ho : Off q r r' w w') :
    RnV B (growE E w w') w' p ⟨v.room, T', d', v.l⟩ Eb q r' pb ∧ Rg.Kept (fun k _ => E k) w w' := by
  obtain ⟨a1, d1⟩ := k.apart
  have hk := ho.kept
  have hb : ∀ i, Eb i → i < w.heap.size := fun i e => (k.bk.1 i e).2
  have hr : ∀ i, r'.ownBlock = some i → growE E w w' i ∧ ¬ Eb i := fun i e => by
    by_cases hi : i < w.heap.size
    · by_cases h1 : i = q
      · subst h1; exact ⟨.inl k.eq, k.nq⟩
      · by_cases h2 : r.ownBlock = some i
        · exact ⟨.inl (k.er i h2), k.nr i h2⟩
        · exact absurd e (ho.2 i hi h1 h2).2
    · exact ⟨.inr ⟨by omega, (j.2.2.1.lt i e).2⟩, fun e => hi (hb i e)⟩
  exact ⟨⟨hk.block _ _ k.blk (fun e => e.elim a1 (fun e => d1 p e rfl)), j, k.bk.kept hk (fun i o e h => h.elim (fun h => k.nq (h ▸ e)) (fun h => k.nr i h e)), k.gc, .inl k.ep, fun i e => .inl (k.sub i e), .inl k.eq, fun i e => (hr i e).1, k.np, k.nq, fun i e => (hr i e).2⟩, hk.mono (fun i _ e => e.elim (fun e => e ▸ k.eq) (fun e => k.er i e))⟩
/-- A step on its book. -/
theorem RnV.bstep (k : RnV B E w p v Eb q r pb) {l' : List (Int × Int × Int)} (g : Pa.GoodC l') (b : Pa.Rc B (growE Eb w w') w' pb l') (hk : Rg.Kept (fun i _ => Eb i) w w') :
    RnV B (growE E w w') w' p ⟨v.room, v.T, v.down, l'⟩ (growE Eb w w') q r pb ∧ Rg.Kept (fun k _ => E k) w w' := by
  have hp := k.lt
  have hq : q < w.heap.size := k.jr.lt
  have hr : ∀ i, r.ownBlock = some i → i < w.heap.size := fun i e => (k.jr.2.2.1.lt i e).2
  exact ⟨⟨hk.block _ _ k.blk k.np, k.jr.kept hk (fun _ => k.nq) (fun i _ e => k.nr i e), b, g, .inl k.ep, fun i e => e.imp (k.sub i) (fun e => e), .inl k.eq, fun i e => .inl (k.er i e), fun e => e.elim k.np (fun e => by omega), fun e => e.elim k.nq (fun e => by omega), fun i h e => e.elim (k.nr i h) (fun e => by have := hr i h; omega)⟩, hk.mono (fun i _ e => k.sub i e)⟩
theorem RnV.ship (k : RnV B E w p v Eb q r pb) (id item qty : Int) :
    Calls Tryz.prog 84 #[.pointer (some ⟨pb, 0, none⟩), .int .i64 id, .int .i64 item, .int .i64 qty] w fun e w' => e = .returned (.int .i64 (shE v id item qty)) ∧ RnV B (growE E w w') w' p ⟨v.room, v.T, v.down, Pa.shipL v.l id item qty⟩ (growE Eb w w') q r pb ∧ Rg.Kept (fun k _ => E k) w w' := by
  refine (Pa.rship_any k.bk k.gc.len id item qty).mono ?_
  rintro e w' ⟨h1, h2, h3⟩
  exact ⟨h1, k.bstep (k.gc.ship id item qty) h2 h3⟩
end
/-- The reference's shipper at p; all its blocks are of E. -/
def Rn (B : Nat) (E : Nat → Prop) (w : World) (p : Nat) (v : Sh) : Prop :=
  (∀ k, E k → B ≤ k ∧ k < w.heap.size) ∧ GoodSh v ∧ ∃ Eb q r pb, RnV B E w p v Eb q r pb
section
variable {B : Nat} {E E' : Nat → Prop} {w w' : World} {p : Nat} {v : Sh}
theorem Rn.good (k : Rn B E w p v) : GoodSh v := k.2.1
theorem Rn.ep (k : Rn B E w p v) : E p := by obtain ⟨_, _, Eb, q, r, pb, h⟩ := k; exact h.ep
theorem Rn.low (k : Rn B E w p v) : B ≤ w.heap.size := by have := k.1 p k.ep; omega
theorem Rn.kept {F : Nat → Obj → Prop} (k : Rn B E w p v) (hk : Rg.Kept F w w') (hE : ∀ k o, E k → ¬ F k o) : Rn B E w' p v := by
  obtain ⟨h1, h2, Eb, q, r, pb, h⟩ := k
  exact ⟨fun k e => ⟨(h1 k e).1, Nat.lt_of_lt_of_le (h1 k e).2 hk.size⟩, h2, Eb, q, r, pb, h.kept hk hE⟩
theorem Rn.on (k : Rn B E w p v) (hb : Below w.heap.size w w') : Rn B E w' p v := k.kept (F := fun _ _ => False) (Rg.Kept.of_below hb) (fun _ _ _ h => h)
theorem Rn.grow {W : World} (k : Rn B E w p v) (hB : B ≤ W.heap.size) : Rn B (growE E W w) w p v := by
  obtain ⟨h1, h2, Eb, q, r, pb, h4⟩ := k
  exact ⟨fun i e => e.elim (h1 i) (fun e => ⟨by omega, e.2⟩), h2, Eb, q, r, pb, h4.wide (fun _ e => .inl e)⟩
theorem Rn.bel (k : Rn B E w p v) (hk : Rg.Kept (fun i _ => E i) w w') : Below B w w' := hk.bel k.low (fun i _ e => (k.1 i e).1)
theorem rgrow_in (h : ∀ k, E k → B ≤ k ∧ k < w.heap.size) (hB : B ≤ w.heap.size) (hs : w.heap.size ≤ w'.heap.size) : ∀ k, growE E w w' k → B ≤ k ∧ k < w'.heap.size := fun k e => by
  rcases e with e | e
  · have := h k e; omega
  · omega
end
/-- A book in which nothing went. -/
theorem rc_empty {B : Nat} {E : Nat → Prop} {w : World} {q : Nat} (hE : ∀ k, E k → B ≤ k ∧ k < w.heap.size) (hq : E q) (h : w.heap[q]? = some (.cells #[.slice none 0 0] 129 (0, 0))) : Pa.Rc B E w q [] :=
  ⟨hE, hq, .slice none 0 0, h, World.ownsRow_nil _ _ _ _, fun k e => by simp [Value.ownBlock] at e⟩
theorem size_ln {x : Int × Int × Int} (h : OkP x) : 2 ≤ (lnP x).size := by
  unfold lnP lineV
  rw [if_pos (may_sh h), sign_size]
  omega
theorem rnnew_any (room : Int) (w : World) :
    Calls Tryz.prog 29 #[.int .i64 room] w fun e w' => ∃ p E, e = .returned (.pointer (some ⟨p, 0, none⟩)) ∧ Rn w.heap.size E w' p (newSh room) ∧ Below w.heap.size w w' := by
  have N := R.new_any room w
  have HR := hide (roomV_in room)
  unfold newSh
  generalize roomV room = rm at N HR ⊢
  go_enter Tryz.func29, Tryz.ntmps29
  go_wp2_with (go_at_call 47; refine N.mono ?_; clear N; rintro e w1 ⟨rfl, rfl⟩)
  go_ret
  obtain ⟨U, hU⟩ : ∃ U, U = w.alloc (.cells #[.int .i64 rm, .slice none 0 0, .int .i64 0, .bool false] 45) := ⟨_, rfl⟩
  have j0 : R.Jr w.heap.size U w.heap.size (.slice none 0 0) rm [] 0 false := by rw [hU]; exact R.Jr.new w w.heap.size (Nat.le_refl _) rm HR.out.1 HR.out.2
  have hz : U.heap.size = w.heap.size + 1 := by rw [hU]; simp
  have hb0 : Below w.heap.size w U := by rw [hU]; exact (Below.refl _ _).alloc (Nat.le_refl _) _
  rw [← hU]
  have e1 := World.alloc_heap_new U (.cells #[.slice none 0 0] 129)
  have hb1 : Below U.heap.size U (U.alloc (.cells #[.slice none 0 0] 129)) := (Below.refl _ _).alloc (Nat.le_refl _) _
  have e2 := World.alloc_heap_new (U.alloc (.cells #[.slice none 0 0] 129)) (.cells #[.pointer (some ⟨w.heap.size, 0, none⟩), .pointer (some ⟨w.heap.size + 1, 0, none⟩)] 67)
  have hb2 : Below (U.alloc (.cells #[.slice none 0 0] 129)).heap.size (U.alloc (.cells #[.slice none 0 0] 129)) ((U.alloc (.cells #[.slice none 0 0] 129)).alloc (.cells #[.pointer (some ⟨w.heap.size, 0, none⟩), .pointer (some ⟨w.heap.size + 1, 0, none⟩)] 67)) := (Below.refl _ _).alloc (Nat.le_refl _) _
  have s1 : (U.alloc (.cells #[.slice none 0 0] 129)).heap.size = w.heap.size + 2 := by simp [hz]
  have s2 : ((U.alloc (.cells #[.slice none 0 0] 129)).alloc (.cells #[.pointer (some ⟨w.heap.size, 0, none⟩), .pointer (some ⟨w.heap.size + 1, 0, none⟩)] 67)).heap.size = w.heap.size + 3 := by simp [hz]
  rw [hz] at e1
  rw [s1] at e2
  have e1' := (hb2.block _ (by omega)).trans e1
  refine ⟨w.heap.size + 2, fun k => w.heap.size ≤ k ∧ k < w.heap.size + 3, rfl, ⟨fun k e => by rw [s2]; exact e, ⟨HR.out, by have := HR.out.1; simp; omega, Pa.GoodC.new, rfl⟩, fun k => k = w.heap.size + 1, w.heap.size, .slice none 0 0, w.heap.size + 1, e2, (j0.on hb1).on hb2, rc_empty (fun k e => by rw [s2]; omega) rfl e1', Pa.GoodC.new, ⟨by omega, by omega⟩, (fun k e => ⟨by omega, by omega⟩), ⟨by omega, by omega⟩, (fun k e => by simp [Value.ownBlock] at e), (by show ¬ _ = _; omega), (by show ¬ _ = _; omega), (fun k e => by simp [Value.ownBlock] at e)⟩, bel_on' (bel_on' hb0 hb1) hb2⟩
section
variable {B : Nat} {E : Nat → Prop} {w : World} {p : Nat} {v : Sh}
/-- All is forgotten but the journal: the new book lies at g. -/
theorem RnV.forget {u : World} {Eb : Nat → Prop} {q : Nat} {r : Value} {pb : Nat} (hE : ∀ k, E k → B ≤ k ∧ k < w.heap.size) (hG : GoodSh v) (hB : B ≤ w.heap.size) (k : RnV B (growE E w u) u p ⟨v.room, v.T, true, v.l⟩ Eb q r pb) (hk : Rg.Kept (fun k _ => E k) w u) (hp : E p) :
    Rn B (growE E w ((u.setCell ⟨p, 1, none⟩ (.pointer (some ⟨u.heap.size, 0, none⟩))).alloc (.cells #[.slice none 0 0] 129))) ((u.setCell ⟨p, 1, none⟩ (.pointer (some ⟨u.heap.size, 0, none⟩))).alloc (.cells #[.slice none 0 0] 129)) p (crP v) ∧ Rg.Kept (fun k _ => E k) w ((u.setCell ⟨p, 1, none⟩ (.pointer (some ⟨u.heap.size, 0, none⟩))).alloc (.cells #[.slice none 0 0] 129)) := by
  obtain ⟨U, hU⟩ : ∃ U, U = u.setCell ⟨p, 1, none⟩ (.pointer (some ⟨u.heap.size, 0, none⟩)) := ⟨_, rfl⟩
  rw [← hU]
  have hz : U.heap.size = u.heap.size := by rw [hU]; simp
  have e1 : U.heap[p]? = some (.cells #[.pointer (some ⟨q, 0, none⟩), .pointer (some ⟨u.heap.size, 0, none⟩)] 67 (0, 0)) := by rw [hU, heap_setCell_same _ _ _ _ _ _ k.blk]; rfl
  have k1 : Rg.Kept (fun k _ => k = p) u U := by rw [hU]; exact Rg.Kept.setCell _ (fun _ => rfl)
  have hb2 : Below U.heap.size U (U.alloc (.cells #[.slice none 0 0] 129)) := (Below.refl _ _).alloc (Nat.le_refl _) _
  have e3 := World.alloc_heap_new U (.cells #[.slice none 0 0] 129)
  rw [hz] at e3
  have kA := k1.trans (Rg.Kept.of_below (E := fun k _ => k = p) hb2)
  have s0 := hk.size
  have s2 : (U.alloc (.cells #[.slice none 0 0] 129)).heap.size = u.heap.size + 1 := by simp [hz]
  obtain ⟨a1, d1⟩ := k.apart
  have hpl := k.lt
  have hql : q < u.heap.size := k.jr.lt
  have hrl : ∀ i, r.ownBlock = some i → i < u.heap.size := fun i e => (k.jr.2.2.1.lt i e).2
  generalize U.alloc (.cells #[.slice none 0 0] 129) = W at *
  have up : ∀ i, growE E w u i → growE E w W i := fun i e => e.imp (fun e => e) (fun e => ⟨e.1, by omega⟩)
  exact ⟨⟨rgrow_in hE hB (by omega), crP_good hG, fun k => k = u.heap.size, q, r, u.heap.size, (hb2.block _ (by omega)).trans e1, k.jr.kept kA (fun _ e => a1 e.symm) (fun i _ e => d1 i e), rc_empty (fun i e => by omega) rfl e3, Pa.GoodC.new, .inl hp, (fun i e => .inr ⟨by omega, by omega⟩), up _ k.eq, fun i e => up _ (k.er i e), (by show ¬ _ = _; omega), (by show ¬ _ = _; omega), (fun i e => by have := hrl i e; show ¬ _ = _; omega)⟩, hk.trans (kA.mono (fun i _ e => by subst e; exact hp))⟩
theorem rncrash_any (k : Rn B E w p v) (stay torn : Int) :
    Calls Tryz.prog 31 #[.pointer (some ⟨p, 0, none⟩), .int .i64 stay, .int .i64 torn] w fun e w' => (∃ x, e = .returned x) ∧ Rn B (growE E w w') w' p (crP v) ∧ Rg.Kept (fun k _ => E k) w w' := by
  obtain ⟨hE, hG, Eb, q, r, pb, k0⟩ := id k
  have hB := k.low
  have hln : (v.T.map lnP).length = v.T.length := List.length_map _
  obtain ⟨c0, c1⟩ := k0.cells
  obtain ⟨⟨-, -, -, j3⟩, -⟩ := k0.jr.cells
  cases hd : v.down
  · have j := k0.jr
    rw [hd] at j j3
    have cs := crash_sure (v.T.map lnP) stay torn
    rw [hln] at cs
    have h2 : ∀ x ∈ v.T.map lnP, 2 ≤ x.size := fun x hx => by obtain ⟨e, he, rfl⟩ := List.mem_map.1 hx; exact size_ln (hG.ok e he)
    have C : Calls Tryz.prog 50 #[.pointer (some ⟨q, 0, none⟩), .int .i64 stay, .int .i64 torn] w fun e w' => (∃ x, e = .returned x) ∧ ∃ r', RnV B (growE E w w') w' p ⟨v.room, v.T, true, v.l⟩ Eb q r' pb ∧ Rg.Kept (fun k _ => E k) w w' := by
      refine (R.crash_up j (by rw [hln]; exact Nat.le_refl _) h2 stay torn).mono ?_
      rintro e w' ⟨h1, r', h2, h3⟩
      rw [cs] at h2
      exact ⟨h1, r', k0.jstep h2 h3⟩
    have FX : Hid (∀ u r', RnV B (growE E w u) u p ⟨v.room, v.T, true, v.l⟩ Eb q r' pb → Rg.Kept (fun k _ => E k) w u → (u.cell? ⟨p, 1, none⟩ = some (.pointer (some ⟨pb, 0, none⟩)) ∧ u.frozen? ⟨p, 1, none⟩ = false ∧ p < u.heap.size) ∧ _) := fun u r' h1 h3 => ⟨⟨h1.cells.2, frozen_of_row _ _ _ _ _ h1.blk, h1.lt⟩, RnV.forget hE hG hB h1 h3 k0.ep⟩
    clear k k0 hE hG hB j cs h2 hln
    go_enter Tryz.func31, Tryz.ntmps31
    go_wp2_with (go_at_call 50; refine C.mono ?_; clear C; rintro e u1 ⟨⟨x, rfl⟩, r', h1, h2⟩; clear c0 c1 j3; obtain ⟨⟨c1, f1, hlt⟩, hx⟩ := FX.out u1 r' h1 h2; have HX := hide hx; clear h1 h2 hx FX)
    go_end0
    exact ⟨⟨_, rfl⟩, HX.out⟩
  · rw [hd] at j3
    have e1 : crP v = v := by
      have := hG.l_
      rw [hd] at this
      simp only [if_true] at this
      unfold crP
      rw [← this, ← hd]
    rw [e1]
    have HK := hide (k.grow (W := w) hB)
    clear k k0 hE hG hB hln e1 hd
    go_enter Tryz.func31, Tryz.ntmps31
    go_wp2
    go_end0
    exact ⟨⟨_, rfl⟩, HK.out, Rg.Kept.refl _ _⟩
end
end Go.Proofs.YtihddekjicpihaaGreatDoor
/-
  The reference's shipper: entry, Note.
-/
namespace Go.Proofs.YtihddekjicpihaaGreatDoor
open Go.ChangeShapes Go.WideShapes Go.ChangeAt Go.RowKit Go.Maps Gd.Pu

theorem rentry_any (k : ByteArray) (id : Int) (a : Option Addr) (n c : Nat) (w : World) :
    Calls Tryz.prog 66 #[.string k, .int .i64 id, .slice a n c] w fun e w' => e = .returned (.agg #[.string k, .int .i64 id, .slice a n c]) ∧ Below w.heap.size w w' := by
  go_enter Tryz.func66, Tryz.ntmps66
  go_wp2
  refine bodyPost_ret (results_cell_row Tryz.results66 _ _ w.heap.size 94 _ (0, 0) _ rfl (World.alloc_heap_new w _) Tryz.underlying94 rfl (by kernel_rfl)) rfl ?_
  exact ⟨rfl, (Below.refl _ _).alloc (Nat.le_refl _) _⟩

section
variable {B : Nat} {w : World} {q : Nat} {r : Value} {room : Int} {L : List ByteArray} {sure : Nat}
theorem rnote_full (h : R.Jr B w q r room L sure false) (hr : room ≤ (L.length : Int)) (a : Option Addr) (c : Nat) :
    Calls Tryz.prog 65 #[.pointer (some ⟨q, 0, none⟩), .bool true, .slice a 1 c] w fun e w' => e = .returned (.bool false) ∧ Below w.heap.size w w' := by
  obtain ⟨⟨c0, c1, c2, c3⟩, f1, f2, f3⟩ := h.cells
  obtain ⟨av, cv, rfl, -, -⟩ := h.row
  have hl4 : L.length ≤ 4096 := h.2.2.2.2.1
  have hx : (L.length : Int) + 1 > room := by omega
  have hb : (L.length : Int) + 1 ≤ 4097 := by omega
  clear h hr hl4
  go_enter Tryz.func65, Tryz.ntmps65
  go_wp2_with fail
  go_quiet (fail)
  go_wp2
  go_ret
  exact ⟨rfl, belowN (Below.refl _ _) _⟩
/-- What stands in Note's loop. -/
def NtRel (B : Nat) (w : World) (q : Nat) (r : Value) (room : Int) (L : List ByteArray) (X : ByteArray) (sure : Nat) (i : Value) (wr : World) : Prop :=
  (i = .int .i64 0 ∧ Hid (Below w.heap.size w wr)) ∨ (i = .int .i64 1 ∧ ∃ r', Hid (R.Jr B wr q r' room (L ++ [X]) sure false ∧ Off q r r' w wr))
set_option maxRecDepth 100000 in
set_option maxHeartbeats 2000000 in
theorem rnote_room (h : R.Jr B w q r room L sure false) (hr : (L.length : Int) < room) {y : Int × Int × Int} (he : OkP y) {a : Option Addr} {c g : Nat} (ha : Ints w a (nP y)) (hg : Gl w)
    (hx : w.heap[g]? = some (.cells #[.string (kS), .int .i64 y.1, .slice a (nP y).length c] 94 (0, 0))) :
    Calls Tryz.prog 65 #[.pointer (some ⟨q, 0, none⟩), .bool true, .slice (some ⟨g, 0, none⟩) 1 1] w fun x w' => x = .returned (.bool true) ∧ ∃ r', R.Jr B w' q r' room (L ++ [lnP y]) (L.length + 1) false ∧ Off q r r' w w' := by
  obtain ⟨⟨c0, c1, c2, c3⟩, f1, f2, f3⟩ := h.cells
  obtain ⟨av, cv, rfl, -, -⟩ := h.row
  have hl4 : L.length ≤ 4096 := h.2.2.2.2.1
  have hx1 : ¬ (L.length : Int) + 1 > room := by omega
  have hb : (L.length : Int) + 1 ≤ 4097 := by omega
  have HJ := hide h
  have hm := may_sh he
  have HA : Hid (∀ u, Below w.heap.size w u → Calls Tryz.prog 113 #[.pointer (some ⟨q, 0, none⟩), .agg #[.string (kS), .int .i64 y.1, .slice a (nP y).length c]] u fun x w' => ∃ r', x = .returned (.int .i64 0) ∧ R.Jr B w' q r' room (L ++ [lnP y]) sure false ∧ Off q (.slice av L.length cv) r' w w') := fun u hu => by
    refine (R.add_any (h.on hu) (kS) y.1 a (nP y) c (by decide) (ha.below hu) (by unfold nP; simp) (hg.on hu)).mono ?_
    rintro x w' ⟨r', h1, h2, h3⟩
    unfold addL addE at h2
    unfold addE at h1
    rw [hm] at h1 h2
    simp only [if_neg (show ¬ (false = true) by decide), if_true, if_neg (show ¬ room ≤ (L.length : Int) by omega)] at h1 h2
    exact ⟨r', h1, h2, (Off.of_below hu).trans h3⟩
  have HX : Hid (∀ u, Below w.heap.size w u → u.cell? ⟨g, 0, none⟩ = some (.string (kS)) ∧ u.cell? ⟨g, 1, none⟩ = some (.int .i64 y.1) ∧ u.cell? ⟨g, 2, none⟩ = some (.slice a (nP y).length c)) := fun u hu => by
    have e1 := (hu.block _ (Array.getElem?_eq_some_iff.1 hx).1).trans hx
    refine ⟨?_, ?_, ?_⟩ <;> (rw [cell_of e1]; rfl)
  have HLN : Hid ((L ++ [lnP y]).length = L.length + 1) := by show _ = _; simp
  generalize lnP y = X at HA HLN ⊢
  generalize kS = K at HA HX ⊢
  generalize y.1 = ei at HA HX ⊢
  generalize (nP y).length = ln at HA HX ⊢
  clear h ha hg hx hm he hl4 hr
  go_enter Tryz.func65, Tryz.ntmps65
  go_wp2_with fail
  go_quiet (fail)
  go_wp2_with fail
  have HB0 : Hid (Below w.heap.size w (w.drewN nq)) := belowN (Below.refl _ _) nq
  generalize w.drewN nq = W at HB0 ⊢
  clear c0 c1 c2 c3 f1 f2 f3
  go_loopw [30] (fun i wr => NtRel B w q (.slice av L.length cv) room L X sure i wr) (fun i _ => 1 - (Go.RowKit.intOf i).toNat)
  case atStart => exact .inl ⟨rfl, HB0⟩
  case round =>
    rcases hrel with ⟨rfl, HB⟩ | ⟨rfl, r', HR⟩
    · obtain ⟨y0, y1, y2⟩ := HX.out wr HB.out
      have hbA : Hid (Below w.heap.size w (wr.alloc (.cells #[.string K, .int .i64 ei, .slice a ln c] 94))) := bel_on' HB.out ((Below.refl _ _).alloc (Nat.le_refl _) _)
      have A := HA.out _ hbA.out
      clear HA
      go_wp2_with (go_at_call 113; refine A.mono ?_; clear A; rintro e u1 ⟨r', rfl, hj, ho⟩; have HJ1 := hide (And.intro hj ho); clear hj ho)
      go_roundw
      case rel => exact .inr ⟨by go_num, r', HJ1⟩
      case measure => simp [Go.RowKit.intOf]
    · have S := R.sync_up HR.out.1
      go_wp2_with (go_at_call 114; refine S.mono ?_; clear S; rintro e u1 ⟨rfl, hj, ho⟩; rw [HLN.out] at hj; have HJ1 := hide (And.intro hj (HR.out.2.trans ho)); clear hj ho)
      go_ret
      exact ⟨rfl, r', HJ1.out⟩
end
end Go.Proofs.YtihddekjicpihaaGreatDoor
/-
  The reference's shipper: Handle.
-/
namespace Go.Proofs.YtihddekjicpihaaGreatDoor
open Go.ChangeShapes Go.WideShapes Go.ChangeAt Go.RowKit Go.Maps Gd.Pu

/-- What the reference's Handle leaves. -/
def RHandP (B : Nat) (E : Nat → Prop) (w : World) (p : Nat) (v' : Sh) (xs : List Ms.Mg) (e : Ending) (w' : World) : Prop :=
  ∃ a c, e = .returned (.slice a xs.length c) ∧ Ms.Mgs w' a xs ∧ Rn B (growE E w w') w' p v' ∧ Rg.Kept (fun k _ => E k) w w'
theorem rhandp_no {B : Nat} {E : Nat → Prop} {w u : World} {p : Nat} {v : Sh} (k : Rn B (growE E w u) u p v) (hk : Rg.Kept (fun k _ => E k) w u) : RHandP B E w p v [] (.returned (.slice none 0 0)) u := ⟨none, 0, rfl, .inl rfl, k, hk⟩
theorem rhandp_one {B : Nat} {E : Nat → Prop} {w u u' : World} {p : Nat} {v : Sh} {K nd m3 : Int} (k : Rn B (growE E w u) u p v) (hk : Rg.Kept (fun k _ => E k) w u)
    (e1 : Below (u.alloc (.cells #[.int .i64 K, .int .i64 nd, .int .i64 0, .int .i64 m3, .int .i64 0, .int .i64 0, .int .i64 0] 31)).heap.size (u.alloc (.cells #[.int .i64 K, .int .i64 nd, .int .i64 0, .int .i64 m3, .int .i64 0, .int .i64 0, .int .i64 0] 31)) u') :
    RHandP B E w p v [⟨K, nd, 0, m3, 0, 0, 0⟩] (.returned (.slice (some ⟨u.heap.size, 0, none⟩) 1 1)) u' := by
  have hbA : Below u.heap.size u u' := bel_on' ((Below.refl _ _).alloc (Nat.le_refl _) _) e1
  have hm := (Ms.mgs_new u [⟨K, nd, 0, m3, 0, 0, 0⟩] #[.int .i64 K, .int .i64 nd, .int .i64 0, .int .i64 m3, .int .i64 0, .int .i64 0, .int .i64 0] rfl).below e1
  have k1 := k.on hbA
  obtain ⟨h1, h2, Eb, q, r, pb, h3⟩ := k1
  have hs := hbA.size
  refine ⟨_, 1, rfl, hm, ⟨fun i e => ?_, h2, Eb, q, r, pb, h3.wide (fun i e => e.imp (fun e => e) (fun e => ⟨e.1, by omega⟩))⟩, hk.trans (Rg.Kept.of_below hbA)⟩
  rcases e with e | e
  · exact h1 i (.inl e)
  · have := k.low
    have := hk.size
    by_cases hi : i < u.heap.size
    · exact h1 i (.inr ⟨e.1, hi⟩)
    · exact ⟨by omega, e.2⟩
section
variable {B : Nat} {E : Nat → Prop} {w : World} {p : Nat} {v : Sh}
theorem rnh_deaf (k : Rn B E w p v) (m : Ms.Mg) (hh : hearS v m = false) :
    Calls Tryz.prog 35 #[.pointer (some ⟨p, 0, none⟩), .agg #[.int .i64 m.k, .int .i64 m.fr, .int .i64 m.to, .int .i64 m.id, .int .i64 m.st, .int .i64 m.a, .int .i64 m.b]] w (RHandP B E w p v []) := by
  obtain ⟨hE, hG, Eb, q, r, pb, k0⟩ := id k
  obtain ⟨W, hW⟩ : ∃ W, W = w.alloc (.cells #[.int .i64 m.k, .int .i64 m.fr, .int .i64 m.to, .int .i64 m.id, .int .i64 m.st, .int .i64 m.a, .int .i64 m.b] 31) := ⟨_, rfl⟩
  have hb0 : Below w.heap.size w W := by rw [hW]; exact (Below.refl _ _).alloc (Nat.le_refl _) _
  have hbx : W.heap[w.heap.size]? = some (.cells #[.int .i64 m.k, .int .i64 m.fr, .int .i64 m.to, .int .i64 m.id, .int .i64 m.st, .int .i64 m.a, .int .i64 m.b] 31 (0, 0)) := by rw [hW]; exact World.alloc_heap_new w _
  have kW := k0.on hb0
  obtain ⟨a0, a1, a2, a3, a4, a5, a6⟩ := seven_of hbx
  obtain ⟨c0, -⟩ := kW.cells
  obtain ⟨⟨-, -, -, j3⟩, -⟩ := kW.jr.cells
  have I := Gd.rid_any m.id W
  rw [hW] at I a0 a1 a2 a3 c0 j3
  have FIN : Hid (RHandP B E w p v [] (.returned (.slice none 0 0)) (w.alloc (.cells #[.int .i64 m.k, .int .i64 m.fr, .int .i64 m.to, .int .i64 m.id, .int .i64 m.st, .int .i64 m.a, .int .i64 m.b] 31))) := by
    show RHandP _ _ _ _ _ _ _ _
    rw [← hW]
    exact rhandp_no ((k.on hb0).grow k.low) (Rg.Kept.of_below hb0)
  unfold hearS at hh
  obtain ⟨m0, m1, m2, m3, m4, m5, m6⟩ := m
  simp only at *
  generalize v.down = d at j3 hh
  generalize Gd.isI m3 = ii at I hh
  obtain ⟨b0, h0⟩ : ∃ b0, (m0 == 15) = b0 := ⟨_, rfl⟩
  obtain ⟨b1, h1⟩ : ∃ b1, (m2 == 3) = b1 := ⟨_, rfl⟩
  obtain ⟨b2, h2⟩ : ∃ b2, (m1 == 0) = b2 := ⟨_, rfl⟩
  rw [h0, h1, h2] at hh
  have g0 : (m0 != 15) = !b0 := by rw [← h0]; rfl
  have g1 : (m2 != 3) = !b1 := by rw [← h1]; rfl
  have g2 : (m1 != 0) = !b2 := by rw [← h2]; rfl
  clear k k0 kW hW hb0 hbx a4 a5 a6 hE hG h0 h1 h2
  cases d
  rotate_left
  · clear hh
    go_enter Tryz.func35, Tryz.ntmps35
    go_wp2
    go_ret
    exact FIN.out
  cases b1
  · clear hh
    simp only [Bool.not_false] at g1
    go_enter Tryz.func35, Tryz.ntmps35
    go_wp2
    go_ret
    exact FIN.out
  cases b2
  · clear hh
    simp only [Bool.not_false, Bool.not_true] at g1 g2
    go_enter Tryz.func35, Tryz.ntmps35
    go_wp2
    go_ret
    exact FIN.out
  cases ii
  · clear hh
    simp only [Bool.not_true] at g1 g2
    go_enter Tryz.func35, Tryz.ntmps35
    go_wp2_with (go_at_call 63; refine I.mono ?_; rintro e w' ⟨rfl, rfl⟩)
    go_ret
    exact FIN.out
  cases b0
  · clear hh
    simp only [Bool.not_false, Bool.not_true] at g0 g1 g2
    go_enter Tryz.func35, Tryz.ntmps35
    go_wp2_with (go_at_call 63; refine I.mono ?_; rintro e w' ⟨rfl, rfl⟩)
    go_ret
    exact FIN.out
  · cases hh
theorem bel_dr {X u : World} (h : Below X.drew.heap.size X.drew u) : Below X.heap.size X u := bel_on' (Below.refl _ _).drew h
/-- The shipper at V, some steps behind w; the message's box beside it. -/
structure RD (B : Nat) (E : Nat → Prop) (w V : World) (p : Nat) (v : Sh) (m : Ms.Mg) (E1 Eb : Nat → Prop) (q : Nat) (r : Value) (pb : Nat) : Prop where
  k : RnV B E1 V p v Eb q r pb
  sub : ∀ i, E1 i → growE E w V i
  kp : Rg.Kept (fun i _ => E i) w V
  bx : V.heap[w.heap.size]? = some (.cells #[.int .i64 m.k, .int .i64 m.fr, .int .i64 m.to, .int .i64 m.id, .int .i64 m.st, .int .i64 m.a, .int .i64 m.b] 31 (0, 0))
  ne : ¬ E1 w.heap.size
section
variable {V u : World} {m : Ms.Mg} {E1 Eb E2 Eb2 : Nat → Prop} {q : Nat} {r r2 : Value} {pb : Nat} {v2 : Sh}
theorem RD.step (t : RD B E w V p v m E1 Eb q r pb) (k2 : RnV B E2 u p v2 Eb2 q r2 pb) (hk : Rg.Kept (fun i _ => E1 i) V u) (hs : ∀ i, E2 i → growE E1 V u i) : RD B E w u p v2 m E2 Eb2 q r2 pb := by
  have hl : w.heap.size < V.heap.size := (Array.getElem?_eq_some_iff.1 t.bx).1
  have h1 := t.kp.size
  have h2 := hk.size
  refine ⟨k2, fun i e => ?_, kept_grow t.kp (hk.mono (fun i _ e => t.sub i e)), hk.block _ _ t.bx t.ne, fun e => (hs _ e).elim t.ne (fun e => by omega)⟩
  rcases hs i e with e | e
  · exact (t.sub i e).imp (fun e => e) (fun e => ⟨e.1, by omega⟩)
  · exact .inr ⟨by omega, e.2⟩
theorem RD.on (t : RD B E w V p v m E1 Eb q r pb) (hb : Below V.heap.size V u) : RD B E w u p v m E1 Eb q r pb := t.step (t.k.on hb) (Rg.Kept.of_below hb) (fun _ e => .inl e)
theorem RD.rn (t : RD B E w V p v m E1 Eb q r pb) (hE : ∀ k, E k → B ≤ k ∧ k < w.heap.size) (hB : B ≤ w.heap.size) (hG : GoodSh v) : Rn B (growE E w V) V p v := ⟨rgrow_in hE hB t.kp.size, hG, Eb, q, r, pb, t.k.wide t.sub⟩
theorem RD.cells (t : RD B E w V p v m E1 Eb q r pb) : (V.cell? ⟨p, 0, none⟩ = some (.pointer (some ⟨q, 0, none⟩)) ∧ V.cell? ⟨p, 1, none⟩ = some (.pointer (some ⟨pb, 0, none⟩))) ∧ V.cell? ⟨w.heap.size, 3, none⟩ = some (.int .i64 m.id) ∧ V.cell? ⟨w.heap.size, 5, none⟩ = some (.int .i64 m.a) ∧ V.cell? ⟨w.heap.size, 6, none⟩ = some (.int .i64 m.b) := by
  obtain ⟨a0, a1, a2, a3, a4, a5, a6⟩ := seven_of t.bx
  exact ⟨t.k.cells, a3, a5, a6⟩
end
set_option maxRecDepth 100000 in
set_option maxHeartbeats 4000000 in
theorem rnh_some (k : Rn B E w p v) (m : Ms.Mg) (hh : hearS v m = true) {c : Int × Int} (hf : Pa.findP v.l m.id = some c) :
    Calls Tryz.prog 35 #[.pointer (some ⟨p, 0, none⟩), .agg #[.int .i64 m.k, .int .i64 m.fr, .int .i64 m.to, .int .i64 m.id, .int .i64 m.st, .int .i64 m.a, .int .i64 m.b]] w (RHandP B E w p v (hsA v m)) := by
  obtain ⟨hE, hG, Eb, q, r, pb, k0⟩ := id k
  have hB := k.low
  obtain ⟨hd, h15, hfr, hto, hi⟩ := hearS_of hh
  obtain ⟨W, hW⟩ : ∃ W, W = w.alloc (.cells #[.int .i64 m.k, .int .i64 m.fr, .int .i64 m.to, .int .i64 m.id, .int .i64 m.st, .int .i64 m.a, .int .i64 m.b] 31) := ⟨_, rfl⟩
  have hb0 : Below w.heap.size w W := by rw [hW]; exact (Below.refl _ _).alloc (Nat.le_refl _) _
  have hbx : W.heap[w.heap.size]? = some (.cells #[.int .i64 m.k, .int .i64 m.fr, .int .i64 m.to, .int .i64 m.id, .int .i64 m.st, .int .i64 m.a, .int .i64 m.b] 31 (0, 0)) := by rw [hW]; exact World.alloc_heap_new w _
  have t0 : RD B E w W p v m E Eb q r pb := ⟨k0.on hb0, fun _ e => .inl e, Rg.Kept.of_below hb0, hbx, fun e => by have := (hE _ e).2; omega⟩
  obtain ⟨a0, a1, a2, a3, a4, a5, a6⟩ := seven_of hbx
  obtain ⟨c0, c1⟩ := t0.k.cells
  obtain ⟨⟨-, -, -, j3⟩, -⟩ := t0.k.jr.cells
  rw [hd] at j3
  have I := Gd.rid_any m.id W
  rw [show Gd.isI m.id = true from Gd.isI_iff.2 hi] at I
  have FI : Hid (∀ u, Below W.heap.size W u → Calls Tryz.prog 87 #[.pointer (some ⟨pb, 0, none⟩), .int .i64 m.id] u fun e w' => ∃ z, e = .returned (.tuple #[.agg #[.int .i64 z, .int .i64 c.1, .int .i64 c.2], .bool true]) ∧ Below u.heap.size u w') := fun u hu => by
    have h := Pa.rfind_any (t0.on hu).k.bk hG.cl.len m.id
    rw [hf] at h
    exact h
  have HT := hide t0
  have HW := hide hW
  have e1 : hsA v m = if Pa.shipE [] m.id m.a m.b = 0 then [⟨16, 3, 0, m.id, 0, 0, 0⟩] else [] := by
    have h8 : shE v m.id m.a m.b = if Pa.shipE [] m.id m.a m.b = 0 then 8 else 1 := by
      unfold shE Pa.shipE
      rw [hf]
      split
      · rfl
      · rfl
    unfold hsA hsB shB
    rw [hh, h8]
    by_cases h : Pa.shipE [] m.id m.a m.b = 0
    · rw [if_pos h, if_pos h]; rfl
    · rw [if_neg h, if_neg h]; rfl
  rw [e1]
  have SH : Hid (∀ u, Below W.heap.size W u → ∀ X, X = u.alloc (.cells #[.slice none 0 0] 129) → Calls Tryz.prog 84 #[.pointer (some ⟨u.heap.size, 0, none⟩), .int .i64 m.id, .int .i64 m.a, .int .i64 m.b] X fun e w' => e = .returned (.int .i64 (Pa.shipE [] m.id m.a m.b)) ∧ Below W.heap.size W w') := fun u hu X hX => by
    have ex : X.heap[u.heap.size]? = some (.cells #[.slice none 0 0] 129 (0, 0)) := by rw [hX]; exact World.alloc_heap_new u _
    have hbX : Below u.heap.size u X := by rw [hX]; exact (Below.refl _ _).alloc (Nat.le_refl _) _
    have rc : Pa.Rc u.heap.size (fun k => k = u.heap.size) X u.heap.size [] := rc_empty (fun k e => by have := (Array.getElem?_eq_some_iff.1 ex).1; omega) rfl ex
    refine (Pa.rship_any rc (by simp) m.id m.a m.b).mono ?_
    rintro e w' ⟨h1, _, h3⟩
    exact ⟨h1, (bel_on' hu hbX).trans (h3.bel (bel_on' hu hbX).size (fun i _ e => by have := hu.size; omega))⟩
  have NO : Hid (∀ u, Below W.heap.size W u → RHandP B E w p v [] (.returned (.slice none 0 0)) u) := fun u hu => rhandp_no ((t0.on hu).rn hE hB hG) (t0.on hu).kp
  have YES : Hid (∀ u, Below W.heap.size W u → ∀ u', Below (u.alloc (.cells #[.int .i64 16, .int .i64 3, .int .i64 0, .int .i64 m.id, .int .i64 0, .int .i64 0, .int .i64 0] 31)).heap.size (u.alloc (.cells #[.int .i64 16, .int .i64 3, .int .i64 0, .int .i64 m.id, .int .i64 0, .int .i64 0, .int .i64 0] 31)) u' → RHandP B E w p v [⟨16, 3, 0, m.id, 0, 0, 0⟩] (.returned (.slice (some ⟨u.heap.size, 0, none⟩) 1 1)) u') := fun u hu u' hu' => rhandp_one ((t0.on hu).rn hE hB hG) (t0.on hu).kp hu'
  have CU : Hid (∀ u, Below W.heap.size W u → (u.cell? ⟨p, 0, none⟩ = some (.pointer (some ⟨q, 0, none⟩)) ∧ u.cell? ⟨p, 1, none⟩ = some (.pointer (some ⟨pb, 0, none⟩))) ∧ u.cell? ⟨w.heap.size, 3, none⟩ = some (.int .i64 m.id) ∧ u.cell? ⟨w.heap.size, 5, none⟩ = some (.int .i64 m.a) ∧ u.cell? ⟨w.heap.size, 6, none⟩ = some (.int .i64 m.b)) := fun u hu => (t0.on hu).cells
  obtain ⟨z, hz⟩ : ∃ z, Pa.shipE [] m.id m.a m.b = z := ⟨_, rfl⟩
  rw [hz] at SH ⊢
  have g0 : (m.k != 15) = false := by simp [h15]
  have g1 : (m.to != 3) = false := by simp [hto]
  have g2 : (m.fr != 0) = false := by simp [hfr]
  rw [hW] at I
  clear k k0 hE hG hB hd h15 hfr hto hi hb0 hbx t0 e1 hz hf hh
  obtain ⟨m0, m1, m2, m3, m4, m5, m6⟩ := m
  obtain ⟨c1', c2'⟩ := c
  simp only at *
  go_enter Tryz.func35, Tryz.ntmps35
  go_upto_region 1 with fail
  rw [← hW]
  rw [← hW] at I
  clear hW
  go_upto_region 3 with (go_at_call 63; refine I.mono ?_; rintro e w' ⟨rfl, rfl⟩)
  clear c0 j3 a0 a1 a2 a4
  have AB : Hid (∀ u X, X = W.alloc (.cells #[.int .i64 0, .int .i64 0, .int .i64 0] 133) ∨ X = (W.alloc (.cells #[.int .i64 0, .int .i64 0, .int .i64 0] 133)).drew → Below X.heap.size X u → Below W.heap.size W u ∧ (u.cell? ⟨W.heap.size, 0, none⟩ = some (.int .i64 0) ∧ u.cell? ⟨W.heap.size, 1, none⟩ = some (.int .i64 0) ∧ u.cell? ⟨W.heap.size, 2, none⟩ = some (.int .i64 0)) ∧ u.frozen? ⟨W.heap.size, 0, none⟩ = false ∧ u.frozen? ⟨W.heap.size, 1, none⟩ = false ∧ u.frozen? ⟨W.heap.size, 2, none⟩ = false ∧ W.heap.size < u.heap.size) := fun u X hX hu => by
    have e1 := World.alloc_heap_new W (.cells #[.int .i64 0, .int .i64 0, .int .i64 0] 133)
    have e2 : X.heap[W.heap.size]? = some (.cells #[.int .i64 0, .int .i64 0, .int .i64 0] 133 (0, 0)) := by rcases hX with rfl | rfl <;> exact e1
    have hbX : Below W.heap.size W X := by rcases hX with rfl | rfl; exact (Below.refl _ _).alloc (Nat.le_refl _) _; exact ((Below.refl _ _).alloc (Nat.le_refl _) _).drew
    have e3 := (hu.block _ (Array.getElem?_eq_some_iff.1 e2).1).trans e2
    refine ⟨bel_on' hbX hu, ⟨?_, ?_, ?_⟩, frozen_of_row _ _ _ _ _ e3, frozen_of_row _ _ _ _ _ e3, frozen_of_row _ _ _ _ _ e3, (Array.getElem?_eq_some_iff.1 e3).1⟩ <;> (rw [cell_of e3]; rfl)
  go_cut [5, 6] from 35 to 44 (fun _ y wx => y = .bool true ∧ Hid (Below W.heap.size W wx))
  case first =>
    have n1 := World.new_ne W _ c1
    have n2 := World.new_ne W _ a3
    go_region_held3 (fun w' => w'.cell? ⟨p, 1, none⟩ = some (.pointer (some ⟨pb, 0, none⟩)) ∧ w'.cell? ⟨w.heap.size, 3, none⟩ = some (.int .i64 m3)) (go_keep) (first
      | (go_at_call 87; refine (FI.out _ ?_).mono ?_; (· first | exact Below.refl _ _ | exact (Below.refl _ _).drew); clear FI; rintro e u1 ⟨z1, rfl, hb1⟩; replace hb1 := bel_dr hb1; have HB1 := hide hb1; clear c1 a3 hb1 n1 n2; obtain ⟨⟨-, c1⟩, a3, -, -⟩ := CU.out u1 HB1.out; have n1 := World.new_ne u1 _ c1; have n2 := World.new_ne u1 _ a3)
      | (go_at_call 87; refine (FI.out _ ?_).mono ?_; (· first | exact (Below.refl _ _).alloc (Nat.le_refl _) _ | exact ((Below.refl _ _).alloc (Nat.le_refl _) _).drew); clear FI; rintro e u1 ⟨z1, rfl, hb1⟩; replace hb1 := bel_dr hb1; have hab := AB.out u1 _ (.inl rfl) hb1; obtain ⟨hb2, ⟨y0, y1, y2⟩, f0, f1, f2, hl2⟩ := hab; have HB1 := hide hb2; clear c1 a3 hb1 hb2; obtain ⟨⟨-, c1⟩, a3, -, -⟩ := CU.out u1 HB1.out))
    · go_wp2
      go_meet
      exact ⟨rfl, HB1.out.alloc HB1.out.size _⟩
    · go_wp2
      go_meet
      exact ⟨rfl, ((HB1.out.setCell (p := ⟨W.heap.size, 0, none⟩) (Nat.le_refl _) _).setCell (p := ⟨W.heap.size, 1, none⟩) (Nat.le_refl _) _).setCell (p := ⟨W.heap.size, 2, none⟩) (Nat.le_refl _) _⟩
  case rest =>
    obtain ⟨rfl, HBC⟩ := hcut
    clear c1 a3 a5 a6 AB FI
    obtain ⟨-, a3, a5, a6⟩ := CU.out wc HBC.out
    have hlc : w.heap.size < wc.heap.size := World.block_lt_of_cell? _ _ a3
    have SX := SH.out wc HBC.out _ rfl
    by_cases hz : z = 0
    · have qz : (z != 0) = false := by simp [hz]
      have HZ := hide hz
      go_wp2_with (go_at_call 84; refine SX.mono ?_; clear SX; rintro e u2 ⟨rfl, hb2⟩; have HB2 := hide hb2; clear a3 a5 a6; obtain ⟨-, a3, a5, a6⟩ := CU.out u2 hb2; clear hb2)
      go_ret
      exact YES.out _ HB2.out _ (Below.refl _ _)
    · have qz : (z != 0) = true := by simp [hz]
      have HZ := hide hz
      go_wp2_with (go_at_call 84; refine SX.mono ?_; clear SX; rintro e u2 ⟨rfl, hb2⟩; have HB2 := hide hb2; clear a3 a5 a6 hb2)
      go_ret
      exact NO.out _ HB2.out
end
end Go.Proofs.YtihddekjicpihaaGreatDoor
/-
  The reference's shipper: Start.
-/
namespace Go.Proofs.YtihddekjicpihaaGreatDoor
open Go.ChangeShapes Go.WideShapes Go.ChangeAt Go.RowKit Go.Maps Gd.Pu

/-- What Start's loop has behind i entries: its blocks are of E1, or came in the loop. -/
def RPt (B : Nat) (E1 : Nat → Prop) (u2 wr : World) (p : Nat) (v : Sh) (q : Nat) (r : Value) (pb : Nat) (i : Nat) : Prop :=
  ∃ E2 Eb2 : Nat → Prop, RnV B E2 wr p ⟨v.room, v.T, false, v.T.take i⟩ Eb2 q r pb ∧ (∀ k, E2 k → growE E1 u2 wr k) ∧ Rg.Kept (fun k _ => E1 k) u2 wr
def RpRel (B : Nat) (E : Nat → Prop) (u2 : World) (p : Nat) (v : Sh) (q : Nat) (r : Value) (pb len : Nat) (i : Value) (wr : World) : Prop :=
  ∃ j : Nat, i = .int .i64 j ∧ j ≤ len ∧ Hid (RPt B E u2 wr p v q r pb j)
/-- The entries as they lie beside the shipper. -/
theorem ents_at {B N : Nat} {E : Nat → Prop} {w u : World} {a : Option Addr} {xs : List Ev} (h : EntsF N w a xs) (hk : Rg.Kept (fun k _ => E k) w u) (hE : ∀ k, E k → k < N) (_hB : B ≤ N) {i : Nat} {x : Ev} (hx : xs[i]? = some x) :
    ∃ g off, a = some ⟨g, off, none⟩ ∧ (u.cell? ⟨g, off + i * 3, none⟩ = some (.string x.k) ∧ u.cell? ⟨g, off + i * 3 + 1, none⟩ = some (.int .i64 x.id) ∧ u.cell? ⟨g, off + i * 3 + 2, none⟩ = some (.slice x.av x.l.length x.cv)) ∧ Ints u x.av x.l ∧ (x.l ≠ [] → ∀ ad, x.av = some ad → N ≤ ad.block ∧ ad.block < w.heap.size) := by
  rcases h with h | ⟨g, off, ha, hg, hc⟩
  · subst h; simp at hx
  obtain ⟨⟨h1, h2, h3⟩, h4, _⟩ := hc i x hx
  have no : ∀ (o : Obj), ¬ E g := fun _ e => by have := hE _ e; omega
  refine ⟨g, off, ha, ⟨kept_cellR hk no h1, kept_cellR hk no h2, kept_cellR hk no h3⟩, ?_, fun hne ad e => ?_⟩
  · rcases h4 with h4 | ⟨b, o', hb1, hb2, hb3, hb4⟩
    · exact .inl h4
    · exact .inr ⟨b, o', hb1, fun i hi => kept_cellR hk (fun _ e => by have : b < N := hE _ e; omega) (hb4 i hi)⟩
  · rcases h4 with h4 | ⟨b, o', hb1, hb2, _, hb4⟩
    · exact absurd h4 hne
    · rw [hb1] at e
      cases e
      exact ⟨hb2, World.block_lt_of_cell? _ _ (hb4 0 (List.length_pos_iff.2 hne))⟩
theorem rnstart_up {B : Nat} {E : Nat → Prop} {w : World} {p : Nat} {v : Sh} (k : Rn B E w p v) (hd : v.down = false) :
    Calls Tryz.prog 33 #[.pointer (some ⟨p, 0, none⟩)] w fun e w' => (∃ x, e = .returned x) ∧ Below w.heap.size w w' := by
  obtain ⟨_, _, Eb, q, r, pb, k0⟩ := k
  obtain ⟨c2, -⟩ := k0.cells
  obtain ⟨⟨-, -, -, j3⟩, -⟩ := k0.jr.cells
  rw [hd] at j3
  clear k0 hd
  go_enter Tryz.func33, Tryz.ntmps33
  go_wp2
  refine bodyPost_ret (results_none rfl _ _ _) rfl ?_
  exact ⟨⟨_, rfl⟩, Below.refl _ _⟩
set_option maxRecDepth 100000 in
set_option maxHeartbeats 4000000 in
theorem rnstart_down {w0 w : World} {E : Nat → Prop} {p : Nat} {v : Sh} (hg0 : Gl w0) (hw : Below w0.heap.size w0 w) (k : Rn w0.heap.size E w p v) (hd : v.down = true) :
    Calls Tryz.prog 33 #[.pointer (some ⟨p, 0, none⟩)] w fun e w' => (∃ x, e = .returned x) ∧ Rn w0.heap.size (growE E w w') w' p (upP v) ∧ Rg.Kept (fun k _ => E k) w w' := by
  obtain ⟨hE, hG, Eb, q, r, pb, k0⟩ := id k
  have hB := k.low
  have hln : (v.T.map lnP).length = v.T.length := List.length_map _
  have hok : ∀ x ∈ v.T.map lnP, Ok x := fun x hx => by obtain ⟨e, he, rfl⟩ := List.mem_map.1 hx; exact ok_sh (hG.ok e he)
  have hwh := whole_ok _ hok
  have hst : v.l = [] := by have := hG.l_; rw [hd] at this; exact this
  have j := k0.jr
  obtain ⟨c2, -⟩ := k0.cells
  obtain ⟨⟨-, -, -, j3⟩, -⟩ := j.cells
  rw [hd] at j j3
  have R : Calls Tryz.prog 54 #[.pointer (some ⟨q, 0, none⟩)] w fun e w' => (∃ x, e = .returned x) ∧ ∃ r', RnV w0.heap.size (growE E w w') w' p ⟨v.room, v.T, false, v.l⟩ Eb q r' pb ∧ Rg.Kept (fun k _ => E k) w w' := by
    refine (R.recover_down hg0 hw j).mono ?_
    rintro e w' ⟨h1, r', h2, h3⟩
    rw [hwh, List.take_length, hln] at h2
    exact ⟨⟨_, h1⟩, r', k0.jstep h2 h3⟩
  have HA : Hid (∀ u r', RnV w0.heap.size (growE E w u) u p ⟨v.room, v.T, false, v.l⟩ Eb q r' pb → Rg.Kept (fun k _ => E k) w u → u.cell? ⟨p, 0, none⟩ = some (.pointer (some ⟨q, 0, none⟩)) ∧ Calls Tryz.prog 55 #[.pointer (some ⟨q, 0, none⟩)] u (RAllF u (v.T.map lnP))) := fun u r' h1 h2 => ⟨h1.cells.1, rallF_any hg0 (hw.trans (k.bel h2)) h1.jr⟩
  have HGD := hide hG
  have HE := hide hE
  have HBB := hide hB
  have HWH := hide hwh
  have HLN := hide hln
  have HST := hide hst
  have HD := hide hd
  have HP := hide k0.ep
  clear hg0 hw k k0 hE hB hln hok hwh hst j hG hd
  go_enter Tryz.func33, Tryz.ntmps33
  go_wp2_with fail
  refine R.mono ?_
  clear R
  rintro e u1 ⟨⟨x, rfl⟩, r', h1, h2⟩
  clear c2 j3
  obtain ⟨c2, A⟩ := HA.out u1 r' h1 h2
  have H1 := hide h1
  have H2 := hide h2
  clear h1 h2 HA
  go_wp2_with fail
  refine A.mono ?_
  clear A c2
  rintro e u2 ⟨ys, a, c, rfl, hyl, hrd, hen, hb2⟩
  have hyn : ys.length = v.T.length := by rw [hyl, HWH.out, HLN.out]
  have HYN := hide hyn
  have HRD := hide hrd
  have HEN := hide hen
  obtain ⟨E1, hE1⟩ : ∃ E1, growE E w u1 = E1 := ⟨_, rfl⟩
  rw [hE1] at H1
  have hs1 := H2.out.size
  have HE1 : Hid (∀ k, E1 k → w0.heap.size ≤ k ∧ k < u1.heap.size) := by show ∀ k, _; rw [← hE1]; exact rgrow_in HE.out HBB.out hs1
  have HEX := hide hE1
  have HS0 : Hid (RPt w0.heap.size E1 u2 u2 p v q r' pb 0) := ⟨E1, Eb, by have := H1.out.on hb2; rw [HST.out] at this; exact this, fun _ e => .inl e, Rg.Kept.refl _ _⟩
  have HB2 := hide hb2
  have hl4 : ys.length ≤ 4096 := by rw [hyn, ← HLN.out]; exact H1.out.jr.2.2.2.2.1
  have HLE : Hid (w0.heap.size ≤ u1.heap.size) := by show _ ≤ _; have := HBB.out; omega
  clear hyl hrd hen hb2 hyn hE1 hs1
  obtain ⟨n, hn⟩ : ∃ n, ys.length = n := ⟨_, rfl⟩
  rw [hn] at hl4 HYN
  rw [hn]
  have HN := hide hn
  clear hn
  go_wp2_with fail
  go_loopw [23] (fun i wr => RpRel w0.heap.size E1 u2 p v q r' pb n i wr) (fun i _ => n - (Go.RowKit.intOf i).toNat)
  case atStart => exact ⟨0, rfl, Nat.zero_le _, HS0⟩
  case round =>
    obtain ⟨j, rfl, hj, HS⟩ := hrel
    clear HS0
    by_cases hlt : j < n
    rotate_left
    · have ql : ¬ (j : Int) < (n : Int) := by omega
      obtain rfl : j = n := by omega
      have HF : Hid (Rn w0.heap.size (growE E w wr) wr p (upP v) ∧ Rg.Kept (fun k _ => E k) w wr) := by
        obtain ⟨E2, Eb2, h3, h6, h4⟩ := HS.out
        have h5 : Rg.Kept (fun k _ => E k) w wr := by
          refine kept_grow H2.out ?_
          rw [HEX.out]
          exact (Rg.Kept.of_below HB2.out).trans h4
        rw [HYN.out, List.take_length] at h3
        refine ⟨⟨rgrow_in HE.out HBB.out h5.size, upP_good HGD.out, Eb2, q, r', pb, ?_⟩, h5⟩
        refine h3.wide (fun i e => ?_)
        have e := h6 i e
        have := HB2.out.size
        have := h4.size
        have := H2.out.size
        rcases e with e | e
        · rw [← HEX.out] at e
          exact e.imp (fun e => e) (fun e => ⟨e.1, by omega⟩)
        · exact .inr ⟨by omega, e.2⟩
      go_wp2
      go_end0
      exact ⟨⟨_, rfl⟩, HF.out⟩
    have ql : (j : Int) < (n : Int) := by omega
    obtain ⟨y, hy⟩ : ∃ y, ys[j]? = some y := ⟨ys[j]'(by rw [HN.out]; exact hlt), List.getElem?_eq_getElem _⟩
    obtain ⟨en, hen⟩ : ∃ en, v.T[j]? = some en := ⟨v.T[j]'(by rw [← HYN.out]; exact hlt), List.getElem?_eq_getElem _⟩
    have he : OkP en := HGD.out.ok en (List.mem_of_getElem? hen)
    have hpar := HRD.out j y hy
    have hgd : (v.T.map lnP).getD j ByteArray.empty = lnP en := by rw [List.getD_eq_getElem?_getD, List.getElem?_map, hen]; rfl
    rw [hgd] at hpar
    obtain ⟨p1, p2, p3⟩ := sh_parse he hpar
    obtain ⟨E2, Eb2, hk0, hs2, hkp⟩ := HS.out
    clear HS
    obtain ⟨g, off, rfl, ⟨g0, g1, g2⟩, hin, hblk⟩ := ents_at HEN.out hkp (fun k e => (HE1.out k e).2) HLE.out hy
    rw [p1] at g0
    rw [p2] at g1
    rw [p3] at g2 hin hblk
    have hst := (ship_take HGD.out.c hen).2
    obtain ⟨av, cv⟩ : ∃ av, y.av = av := ⟨_, rfl⟩
    rw [cv] at g2 hin hblk
    clear cv
    generalize y.cv = cv at g2
    obtain ⟨x0, x1, x2⟩ := en
    simp only [nP, List.length_cons, List.length_nil, Nat.reduceAdd] at g0 g1 g2 hin hblk hst
    obtain ⟨W, hW⟩ : ∃ W, W = wr.alloc (.cells #[.string kS, .int .i64 x0, .slice av 2 cv] 94) := ⟨_, rfl⟩
    have hbW : Below wr.heap.size wr W := by rw [hW]; exact (Below.refl _ _).alloc (Nat.le_refl _) _
    have aW := hin.below hbW
    obtain ⟨b, o5, rfl, d0, d1⟩ : ∃ b off, av = some ⟨b, off, none⟩ ∧ W.cell? ⟨b, off, none⟩ = some (.int .i64 x1) ∧ W.cell? ⟨b, off + 1, none⟩ = some (.int .i64 x2) := by
      rcases aW with h | ⟨b, off, h1, h2⟩
      · cases h
      · exact ⟨b, off, h1, by simpa using h2 0 (by simp), by simpa using h2 1 (by simp)⟩
    obtain ⟨hbl1, hbl2⟩ := hblk (by simp) _ rfl
    simp only at hbl1 hbl2
    have hnE : ¬ E2 b := fun e => (hs2 b e).elim (fun e => by have := (HE1.out b e).2; omega) (fun e => by omega)
    have hnW : ¬ E2 wr.heap.size := fun e => (hs2 _ e).elim (fun e => by have := (HE1.out _ e).2; have h8 := HB2.out.size; have h9 := hkp.size; omega) (fun e => by omega)
    obtain ⟨b0, b1, b2⟩ := three_new wr (.string kS) (.int .i64 x0) (.slice (some ⟨b, o5, none⟩) 2 cv) 94
    rw [← hW] at b0 b1 b2
    obtain ⟨-, c3⟩ := (hk0.on hbW).cells
    have SP : Hid (∀ u, Below W.heap.size W u → Calls Tryz.prog 84 #[.pointer (some ⟨pb, 0, none⟩), .int .i64 x0, .int .i64 x1, .int .i64 x2] u fun e w' => (∃ z, e = .returned (.int .i64 z)) ∧ RPt w0.heap.size E1 u2 w' p v q r' pb (j + 1) ∧ (w'.cell? ⟨p, 1, none⟩ = some (.pointer (some ⟨pb, 0, none⟩)) ∧ w'.cell? ⟨wr.heap.size, 1, none⟩ = some (.int .i64 x0) ∧ w'.cell? ⟨wr.heap.size, 2, none⟩ = some (.slice (some ⟨b, o5, none⟩) 2 cv) ∧ w'.cell? ⟨b, o5, none⟩ = some (.int .i64 x1) ∧ w'.cell? ⟨b, o5 + 1, none⟩ = some (.int .i64 x2))) := fun u hu => by
      have hbu := bel_on' hbW hu
      refine ((hk0.on hbu).ship x0 x1 x2).mono ?_
      rintro e w' ⟨h1, h2, h3⟩
      rw [show Pa.shipL (v.T.take j) x0 x1 x2 = v.T.take (j + 1) from hst] at h2
      have hkw : Rg.Kept (fun k _ => E2 k) wr w' := (Rg.Kept.of_below hbu).trans h3
      refine ⟨⟨_, h1⟩, ⟨_, _, h2, fun i e => ?_, ?_⟩, h2.cells.2, kept_cellR h3 (fun _ => hnW) (cellL b1 hu), kept_cellR h3 (fun _ => hnW) (cellL b2 hu), kept_cellR h3 (fun _ => hnE) (cellL d0 hu), kept_cellR h3 (fun _ => hnE) (cellL d1 hu)⟩
      · have s1 := hkp.size
        have s2 := hbu.size
        have s3 := h3.size
        rcases e with e | e
        · exact (hs2 i e).imp (fun e => e) (fun e => ⟨e.1, by omega⟩)
        · exact .inr ⟨by omega, e.2⟩
      · exact kept_grow hkp (hkw.mono (fun i _ e => hs2 i e))
    have HWW := hide hW
    have HSP := hide hst
    clear hk0 hin aW hblk hst hbW hW hs2 hkp hnE hnW hbl1 hbl2 he hen hpar hgd p1 p2 p3 hy
    have HKS : Hid ((kS : ByteArray) = kS) := rfl
    generalize kS = K at g0 b0 HWW HKS
    go_wp2_with fail
    rw [← HWW.out]
    go_region_held3 (fun w' => w'.cell? ⟨p, 1, none⟩ = some (.pointer (some ⟨pb, 0, none⟩)) ∧ w'.cell? ⟨wr.heap.size, 1, none⟩ = some (.int .i64 x0) ∧ w'.cell? ⟨wr.heap.size, 2, none⟩ = some (.slice (some ⟨b, o5, none⟩) 2 cv) ∧ w'.cell? ⟨b, o5, none⟩ = some (.int .i64 x1) ∧ w'.cell? ⟨b, o5 + 1, none⟩ = some (.int .i64 x2)) (go_keep) (first
      | (go_at_call 84; refine (SP.out _ ?_).mono ?_; (· first | exact Below.refl _ _ | exact (Below.refl _ _).drew); clear SP; rintro e v1 ⟨⟨z, rfl⟩, hR, hc⟩; clear c3 b1 b2 d0 d1; obtain ⟨c3, b1, b2, d0, d1⟩ := hc; have HR := hide hR; clear hR))
    clear c3 b1 b2 d0 d1
    go_wp2
    go_roundw
    case rel => exact ⟨j + 1, by go_num, by omega, HR⟩
    case measure => simp [Go.RowKit.intOf]; omega
end Go.Proofs.YtihddekjicpihaaGreatDoor
/-
  The reference's shipper: Handle of a parcel that did not go yet.
-/
namespace Go.Proofs.YtihddekjicpihaaGreatDoor
open Go.ChangeShapes Go.WideShapes Go.ChangeAt Go.RowKit Go.Maps Gd.Pu

theorem shE_none {v : Sh} {id : Int} (hf : Pa.findP v.l id = none) (a b : Int) : shE v id a b = 0 ∨ shE v id a b = 1 := by
  unfold shE Pa.shipE
  rw [hf]
  split
  · exact .inl rfl
  · exact .inr rfl
/-- The row of two numbers at g, above W. -/
def Rowed (W : World) (x y : Int) (V : World) (g : Nat) : Prop := Below W.heap.size W V ∧ W.heap.size ≤ g ∧ V.cell? ⟨g, 0, none⟩ = some (.int .i64 x) ∧ V.cell? ⟨g, 1, none⟩ = some (.int .i64 y)
theorem rowed_of {W U V : World} {x y : Int} (h : Below W.heap.size W U) (h5 : Below (U.alloc (.cells #[.int .i64 x, .int .i64 y] 3)).heap.size (U.alloc (.cells #[.int .i64 x, .int .i64 y] 3)) V) : Rowed W x y V U.heap.size := by
  have e := World.alloc_heap_new U (.cells #[.int .i64 x, .int .i64 y] 3)
  have e1 := (h5.block _ (Array.getElem?_eq_some_iff.1 e).1).trans e
  refine ⟨bel_on' (bel_on' h ((Below.refl _ _).alloc (Nat.le_refl _) _)) h5, h.size, ?_, ?_⟩ <;> (rw [cell_of e1]; rfl)
section
variable {B : Nat} {E : Nat → Prop} {w : World} {p : Nat} {v : Sh}
set_option maxRecDepth 100000 in
set_option maxHeartbeats 8000000 in
theorem rnh_none (k : Rn B E w p v) (hg : ∀ u, Rg.Kept (fun k _ => E k) w u → Gl u) (m : Ms.Mg) (hh : hearS v m = true) (hf : Pa.findP v.l m.id = none) :
    Calls Tryz.prog 35 #[.pointer (some ⟨p, 0, none⟩), .agg #[.int .i64 m.k, .int .i64 m.fr, .int .i64 m.to, .int .i64 m.id, .int .i64 m.st, .int .i64 m.a, .int .i64 m.b]] w (RHandP B E w p (hsS v m) (hsA v m)) := by
  obtain ⟨hE, hG, Eb, q, r, pb, k0⟩ := id k
  have hB := k.low
  obtain ⟨hd, h15, hfr, hto, hi⟩ := hearS_of hh
  obtain ⟨W, hW⟩ : ∃ W, W = w.alloc (.cells #[.int .i64 m.k, .int .i64 m.fr, .int .i64 m.to, .int .i64 m.id, .int .i64 m.st, .int .i64 m.a, .int .i64 m.b] 31) := ⟨_, rfl⟩
  have hb0 : Below w.heap.size w W := by rw [hW]; exact (Below.refl _ _).alloc (Nat.le_refl _) _
  have hbx : W.heap[w.heap.size]? = some (.cells #[.int .i64 m.k, .int .i64 m.fr, .int .i64 m.to, .int .i64 m.id, .int .i64 m.st, .int .i64 m.a, .int .i64 m.b] 31 (0, 0)) := by rw [hW]; exact World.alloc_heap_new w _
  have t0 : RD B E w W p v m E Eb q r pb := ⟨k0.on hb0, fun _ e => .inl e, Rg.Kept.of_below hb0, hbx, fun e => by have := (hE _ e).2; omega⟩
  obtain ⟨a0, a1, a2, a3, a4, a5, a6⟩ := seven_of hbx
  obtain ⟨c0, c1⟩ := t0.k.cells
  obtain ⟨⟨-, -, -, j3⟩, -⟩ := t0.k.jr.cells
  rw [hd] at j3
  have I := Gd.rid_any m.id W
  rw [show Gd.isI m.id = true from Gd.isI_iff.2 hi] at I
  have FI : Hid (∀ u, Below W.heap.size W u → Calls Tryz.prog 87 #[.pointer (some ⟨pb, 0, none⟩), .int .i64 m.id] u fun e w' => ∃ z, e = .returned (.tuple #[.agg #[.int .i64 z, .int .i64 0, .int .i64 0], .bool false]) ∧ Below u.heap.size u w') := fun u hu => by
    have h := Pa.rfind_any (t0.on hu).k.bk hG.cl.len m.id
    rw [hf] at h
    exact h
  obtain ⟨tl, htl⟩ : ∃ tl, v.T.length = tl := ⟨_, rfl⟩
  have hl4 : tl ≤ 4096 := by rw [← htl]; have := k0.jr.2.2.2.2.1; rw [List.length_map] at this; exact this
  have CU : Hid (∀ u, Below W.heap.size W u → (u.cell? ⟨p, 0, none⟩ = some (.pointer (some ⟨q, 0, none⟩)) ∧ u.cell? ⟨p, 1, none⟩ = some (.pointer (some ⟨pb, 0, none⟩))) ∧ u.cell? ⟨w.heap.size, 3, none⟩ = some (.int .i64 m.id) ∧ u.cell? ⟨w.heap.size, 5, none⟩ = some (.int .i64 m.a) ∧ u.cell? ⟨w.heap.size, 6, none⟩ = some (.int .i64 m.b)) := fun u hu => (t0.on hu).cells
  obtain ⟨ra, rc, hr0, -, -⟩ := k0.jr.row
  rw [List.length_map, htl] at hr0
  have JU : Hid (∀ (V : World) (vv : Sh) (E1 Eb1 : Nat → Prop), vv.room = v.room → RD B E w V p vv m E1 Eb1 q r pb → V.cell? ⟨q, 0, none⟩ = some (.int .i64 v.room) ∧ V.cell? ⟨q, 1, none⟩ = some (.slice ra tl rc)) := fun V vv E1 Eb1 hv t => by
    obtain ⟨⟨j0, j1, _, _⟩, _⟩ := t.k.jr.cells
    rw [hv] at j0
    rw [hr0] at j1
    exact ⟨j0, j1⟩
  have HT := hide t0
  have HW := hide hW
  have HE := hide hE
  have HB := hide hB
  have HG := hide hG
  have HGS := hide (hsS_good hG m)
  have HGL := hide hg
  have HD := hide hd
  have HH := hide hh
  have HTL := hide htl
  have HF := hide hf
  have g0 : (m.k != 15) = false := by simp [h15]
  have g1 : (m.to != 3) = false := by simp [hto]
  have g2 : (m.fr != 0) = false := by simp [hfr]
  clear k k0 hE hG hB hd h15 hfr hto hi hb0 hbx t0 hf hh hg htl hr0
  obtain ⟨m0, m1, m2, m3, m4, m5, m6⟩ := m
  simp only at *
  go_enter Tryz.func35, Tryz.ntmps35
  go_upto_region 1 with fail
  rw [← hW]
  clear hW
  go_upto_region 3 with (go_at_call 63; refine I.mono ?_; rintro e w' ⟨rfl, rfl⟩)
  clear c0 j3 a0 a1 a2 a4
  have AB : Hid (∀ u X, X = W.alloc (.cells #[.int .i64 0, .int .i64 0, .int .i64 0] 133) ∨ X = (W.alloc (.cells #[.int .i64 0, .int .i64 0, .int .i64 0] 133)).drew → Below X.heap.size X u → Below W.heap.size W u ∧ (u.cell? ⟨W.heap.size, 0, none⟩ = some (.int .i64 0) ∧ u.cell? ⟨W.heap.size, 1, none⟩ = some (.int .i64 0) ∧ u.cell? ⟨W.heap.size, 2, none⟩ = some (.int .i64 0)) ∧ u.frozen? ⟨W.heap.size, 0, none⟩ = false ∧ u.frozen? ⟨W.heap.size, 1, none⟩ = false ∧ u.frozen? ⟨W.heap.size, 2, none⟩ = false ∧ W.heap.size < u.heap.size) := fun u X hX hu => by
    have e1 := World.alloc_heap_new W (.cells #[.int .i64 0, .int .i64 0, .int .i64 0] 133)
    have e2 : X.heap[W.heap.size]? = some (.cells #[.int .i64 0, .int .i64 0, .int .i64 0] 133 (0, 0)) := by rcases hX with rfl | rfl <;> exact e1
    have hbX : Below W.heap.size W X := by rcases hX with rfl | rfl; exact (Below.refl _ _).alloc (Nat.le_refl _) _; exact ((Below.refl _ _).alloc (Nat.le_refl _) _).drew
    have e3 := (hu.block _ (Array.getElem?_eq_some_iff.1 e2).1).trans e2
    refine ⟨bel_on' hbX hu, ⟨?_, ?_, ?_⟩, frozen_of_row _ _ _ _ _ e3, frozen_of_row _ _ _ _ _ e3, frozen_of_row _ _ _ _ _ e3, (Array.getElem?_eq_some_iff.1 e3).1⟩ <;> (rw [cell_of e3]; rfl)
  go_cut [5, 6] from 35 to 44 (fun _ y wx => y = .bool false ∧ Hid (Below W.heap.size W wx))
  case first =>
    have n1 := World.new_ne W _ c1
    have n2 := World.new_ne W _ a3
    go_region_held3 (fun w' => w'.cell? ⟨p, 1, none⟩ = some (.pointer (some ⟨pb, 0, none⟩)) ∧ w'.cell? ⟨w.heap.size, 3, none⟩ = some (.int .i64 m3)) (go_keep) (first
      | (go_at_call 87; refine (FI.out _ ?_).mono ?_; (· first | exact Below.refl _ _ | exact (Below.refl _ _).drew); clear FI; rintro e u1 ⟨z1, rfl, hb1⟩; replace hb1 := bel_dr hb1; have HB1 := hide hb1; clear c1 a3 hb1 n1 n2; obtain ⟨⟨-, c1⟩, a3, -, -⟩ := CU.out u1 HB1.out; have n1 := World.new_ne u1 _ c1; have n2 := World.new_ne u1 _ a3)
      | (go_at_call 87; refine (FI.out _ ?_).mono ?_; (· first | exact (Below.refl _ _).alloc (Nat.le_refl _) _ | exact ((Below.refl _ _).alloc (Nat.le_refl _) _).drew); clear FI; rintro e u1 ⟨z1, rfl, hb1⟩; replace hb1 := bel_dr hb1; have hab := AB.out u1 _ (.inl rfl) hb1; obtain ⟨hb2, ⟨y0, y1, y2⟩, f0, f1, f2, hl2⟩ := hab; have HB1 := hide hb2; clear c1 a3 hb1 hb2; obtain ⟨⟨-, c1⟩, a3, -, -⟩ := CU.out u1 HB1.out))
    · go_wp2
      go_meet
      exact ⟨rfl, HB1.out.alloc HB1.out.size _⟩
    · go_wp2
      go_meet
      exact ⟨rfl, ((HB1.out.setCell (p := ⟨W.heap.size, 0, none⟩) (Nat.le_refl _) _).setCell (p := ⟨W.heap.size, 1, none⟩) (Nat.le_refl _) _).setCell (p := ⟨W.heap.size, 2, none⟩) (Nat.le_refl _) _⟩
  case rest =>
    obtain ⟨rfl, HBC⟩ := hcut
    clear c1 a3 a5 a6 AB FI I
    have HTC := hide (HT.out.on HBC.out)
    clear HT
    obtain ⟨⟨c0, c1⟩, a3, a5, a6⟩ := HTC.out.cells
    obtain ⟨j0, j1⟩ := JU.out wc v _ _ rfl HTC.out
    by_cases hr : (tl : Int) ≥ v.room
    · have hRR : hasR v = false := by unfold hasR; rw [HTL.out]; simp; omega
      have e1 : hsS v ⟨m0, m1, m2, m3, m4, m5, m6⟩ = v := by
        unfold hsS shS noteP
        rw [hRR]
        split
        · split <;> rfl
        · rfl
      have e2 : hsA v ⟨m0, m1, m2, m3, m4, m5, m6⟩ = [] := by
        unfold hsA hsB shB
        rw [hRR, HH.out]
        rcases shE_none HF.out m5 m6 with h | h
        · simp [h]
        · simp [h]
      have NO : Hid (∀ u, Below wc.heap.size wc u → RHandP B E w p v [] (.returned (.slice none 0 0)) u) := fun u hu => rhandp_no ((HTC.out.on hu).rn HE.out HB.out HG.out) (HTC.out.on hu).kp
      have H1 := hide e1
      have H2 := hide e2
      clear e1 e2 hRR
      generalize v.room = rm at j0 hr
      go_upto_region 5 with fail
      go_quiet (fail)
      go_wp2
      go_ret
      rw [H1.out, H2.out]
      exact NO.out _ (belowN (Below.refl _ _) _)
    · have hRR : hasR v = true := by unfold hasR; rw [HTL.out]; simp; omega
      have SP : Hid (∀ u, Below wc.heap.size wc u → Calls Tryz.prog 84 #[.pointer (some ⟨pb, 0, none⟩), .int .i64 m3, .int .i64 m5, .int .i64 m6] u fun e w' => e = .returned (.int .i64 (shE v m3 m5 m6)) ∧ ∃ E1 Eb1, RD B E w w' p ⟨v.room, v.T, v.down, Pa.shipL v.l m3 m5 m6⟩ ⟨m0, m1, m2, m3, m4, m5, m6⟩ E1 Eb1 q r pb) := fun u hu => by
        have t := HTC.out.on hu
        refine (t.k.ship m3 m5 m6).mono ?_
        rintro e w' ⟨h1, h2, h3⟩
        exact ⟨h1, _, _, t.step h2 h3 (fun _ e => e)⟩
      obtain ⟨z, hz⟩ : ∃ z, shE v m3 m5 m6 = z := ⟨_, rfl⟩
      rw [hz] at SP
      have HZ := hide hz
      have HRM := hide hRR
      clear hz hRR
      generalize hrm : v.room = rm at j0 hr JU
      have HRO := hide hrm
      clear hrm
      go_upto_region 5 with fail
      go_region_held3 (fun w' => w'.cell? ⟨p, 0, none⟩ = some (.pointer (some ⟨q, 0, none⟩)) ∧ w'.cell? ⟨p, 1, none⟩ = some (.pointer (some ⟨pb, 0, none⟩)) ∧ w'.cell? ⟨q, 0, none⟩ = some (.int .i64 rm) ∧ w'.cell? ⟨q, 1, none⟩ = some (.slice ra tl rc) ∧ w'.cell? ⟨w.heap.size, 3, none⟩ = some (.int .i64 m3) ∧ w'.cell? ⟨w.heap.size, 5, none⟩ = some (.int .i64 m5) ∧ w'.cell? ⟨w.heap.size, 6, none⟩ = some (.int .i64 m6)) (go_keep) (first
        | (go_at_call 84; refine (SP.out _ ?_).mono ?_; (· first | exact Below.refl _ _ | exact (Below.refl _ _).drew); clear SP; rintro e u1 ⟨rfl, E1, Eb1, t1⟩; clear c0 c1 j0 j1 a3 a5 a6; obtain ⟨⟨c0, c1⟩, a3, a5, a6⟩ := t1.cells; obtain ⟨j0, j1⟩ := JU.out u1 ⟨v.room, v.T, v.down, Pa.shipL v.l m3 m5 m6⟩ E1 Eb1 HRO.out t1; have HT1 := hide t1; clear t1))
      have hz01 : z = 0 ∨ z = 1 := by rw [← HZ.out]; exact shE_none HF.out m5 m6
      clear c1 j0 j1 JU HTC
      rcases hz01 with rfl | rfl
      · have e1 : hsS v ⟨m0, m1, m2, m3, m4, m5, m6⟩ = ⟨v.room, v.T ++ [(m3, m5, m6)], v.down, Pa.shipL v.l m3 m5 m6⟩ := by
          unfold hsS shS noteP
          rw [HH.out, if_pos rfl, if_pos HZ.out, if_pos HRM.out]
        have e2 : hsA v ⟨m0, m1, m2, m3, m4, m5, m6⟩ = [⟨16, 3, 0, m3, 0, 0, 0⟩] := by
          unfold hsA hsB shB
          rw [HH.out, if_pos HZ.out, HRM.out]
          rfl
        have H1 := hide e1
        have H2 := hide e2
        have HOK : Hid (OkP (m3, m5, m6)) := by obtain ⟨h1, h2, h3, _⟩ := Pa.shipE_ok HZ.out; exact ⟨h1, h2, h3⟩
        have HGP : Hid (GoodSh ⟨v.room, v.T ++ [(m3, m5, m6)], v.down, Pa.shipL v.l m3 m5 m6⟩) := by show GoodSh _; rw [← e1]; exact HGS.out
        clear e1 e2
        have CE : Hid (∀ u, Below u1.heap.size u1 u → u.cell? ⟨p, 0, none⟩ = some (.pointer (some ⟨q, 0, none⟩)) ∧ u.cell? ⟨w.heap.size, 3, none⟩ = some (.int .i64 m3) ∧ u.cell? ⟨w.heap.size, 5, none⟩ = some (.int .i64 m5) ∧ u.cell? ⟨w.heap.size, 6, none⟩ = some (.int .i64 m6)) := fun u hu => by
          obtain ⟨⟨h1, _⟩, h2, h3, h4⟩ := (HT1.out.on hu).cells
          exact ⟨h1, h2, h3, h4⟩
        have NT : Hid (∀ V5 g, Rowed u1 m5 m6 V5 g → ∀ X, X = V5.alloc (.cells #[.string ⟨#[115, 101, 110, 116]⟩, .int .i64 m3, .slice (some ⟨g, 0, none⟩) 2 2] 94) → Calls Tryz.prog 65 #[.pointer (some ⟨q, 0, none⟩), .bool true, .slice (some ⟨V5.heap.size, 0, none⟩) 1 1] X fun e u => (∃ b, e = .returned (.bool b)) ∧ ∃ E2 r2, RD B E w u p ⟨v.room, v.T ++ [(m3, m5, m6)], v.down, Pa.shipL v.l m3 m5 m6⟩ ⟨m0, m1, m2, m3, m4, m5, m6⟩ E2 Eb1 q r2 pb) := fun V5 g hR X hX => by
          have hbX : Below V5.heap.size V5 X := by rw [hX]; exact (Below.refl _ _).alloc (Nat.le_refl _) _
          have hx := World.alloc_heap_new V5 (.cells #[.string ⟨#[115, 101, 110, 116]⟩, .int .i64 m3, .slice (some ⟨g, 0, none⟩) 2 2] 94)
          rw [← hX] at hx
          have t2 := HT1.out.on (bel_on' hR.1 hbX)
          have j := t2.k.jr
          simp only at j
          rw [HD.out] at j
          have ha : Ints X (some ⟨g, 0, none⟩) (nP (m3, m5, m6)) := .inr ⟨g, 0, rfl, fun i hi => by
            have hi2 : i < 2 := hi
            rcases (show i = 0 ∨ i = 1 by omega) with rfl | rfl
            · exact cellL hR.2.2.1 hbX
            · exact cellL hR.2.2.2 hbX⟩
          refine (rnote_room j (by rw [List.length_map, HTL.out, HRO.out]; omega) HOK.out ha (HGL.out _ t2.kp) hx).mono ?_
          rintro e u ⟨h1, r2, h2, h3⟩
          have e1 : v.T.map lnP ++ [lnP (m3, m5, m6)] = (v.T ++ [(m3, m5, m6)]).map lnP := by rw [List.map_append]; rfl
          rw [e1, List.length_map, show v.T.length + 1 = (v.T ++ [(m3, m5, m6)]).length by simp, ← HD.out] at h2
          obtain ⟨h4, h5⟩ := t2.k.jstep h2 h3
          exact ⟨⟨_, h1⟩, _, r2, t2.step h4 h5 (fun _ e => e)⟩
        have RE : Hid (∀ g X, Calls Tryz.prog 66 #[.string ⟨#[115, 101, 110, 116]⟩, .int .i64 m3, .slice (some ⟨g, 0, none⟩) 2 2] X fun e w' => e = .returned (.agg #[.string ⟨#[115, 101, 110, 116]⟩, .int .i64 m3, .slice (some ⟨g, 0, none⟩) 2 2]) ∧ Below X.heap.size X w') := fun g X => rentry_any _ _ _ _ _ X
        have n1 := World.new_ne u1 _ c0
        have n2 := World.new_ne u1 _ a3
        have n3 := World.new_ne u1 _ a5
        have n4 := World.new_ne u1 _ a6
        go_upto_region 7 with fail
        go_region_held3 (fun w' => w'.cell? ⟨p, 0, none⟩ = some (.pointer (some ⟨q, 0, none⟩)) ∧ w'.cell? ⟨w.heap.size, 3, none⟩ = some (.int .i64 m3) ∧ w'.cell? ⟨w.heap.size, 5, none⟩ = some (.int .i64 m5) ∧ w'.cell? ⟨w.heap.size, 6, none⟩ = some (.int .i64 m6)) (go_keep) (first
          | (go_at_call 66; refine (RE.out _ _).mono ?_; clear RE; rintro e V5 ⟨rfl, hb5⟩; have HR5 : Hid (Rowed u1 m5 m6 V5 u1.heap.size) := (by first | exact rowed_of (Below.refl _ _) hb5 | exact rowed_of (Below.refl _ _) (bel_dr hb5) | exact rowed_of (Below.refl _ _).drew hb5 | exact rowed_of (Below.refl _ _).drew (bel_dr hb5)); clear c0 a3 a5 a6 n1 n2 n3 n4 hb5; obtain ⟨c0, a3, a5, a6⟩ := CE.out V5 HR5.out.1; have n1 := World.new_ne V5 _ c0; have n2 := World.new_ne V5 _ a3; have n3 := World.new_ne V5 _ a5; have n4 := World.new_ne V5 _ a6)
          | (go_at_call 65; refine (NT.out V5 _ HR5.out _ rfl).mono ?_; clear NT; rintro e u3 ⟨⟨b3, rfl⟩, E2, r2, t3⟩; clear c0 a3 a5 a6 n1 n2 n3 n4; obtain ⟨⟨c0, -⟩, a3, a5, a6⟩ := t3.cells; have HT3 := hide t3; clear t3))
        have hlt3 : w.heap.size < u3.heap.size := World.block_lt_of_cell? _ _ a3
        go_wp2
        go_ret
        rw [H1.out, H2.out]
        exact rhandp_one (HT3.out.rn HE.out HB.out HGP.out) HT3.out.kp (Below.refl _ _)
      · have e1 : hsS v ⟨m0, m1, m2, m3, m4, m5, m6⟩ = v := by
          unfold hsS shS
          rw [HZ.out]
          split <;> rfl
        have e2 : hsA v ⟨m0, m1, m2, m3, m4, m5, m6⟩ = [] := by
          unfold hsA hsB shB
          rw [HZ.out]
          simp
        have e3 : (⟨v.room, v.T, v.down, Pa.shipL v.l m3 m5 m6⟩ : Sh) = v := by
          rw [Pa.shipL_no (by have := HZ.out; unfold shE at this; omega)]
        rw [e3] at HT1
        have H1 := hide e1
        have H2 := hide e2
        clear e1 e2 e3
        go_wp2
        go_ret
        rw [H1.out, H2.out]
        exact rhandp_no (HT1.out.rn HE.out HB.out HG.out) HT1.out.kp
theorem rnhandle_any (k : Rn B E w p v) (hg : ∀ u, Rg.Kept (fun k _ => E k) w u → Gl u) (m : Ms.Mg) :
    Calls Tryz.prog 35 #[.pointer (some ⟨p, 0, none⟩), .agg #[.int .i64 m.k, .int .i64 m.fr, .int .i64 m.to, .int .i64 m.id, .int .i64 m.st, .int .i64 m.a, .int .i64 m.b]] w (RHandP B E w p (hsS v m) (hsA v m)) := by
  cases hh : hearS v m
  · have e1 : hsS v m = v := by unfold hsS; rw [hh]; rfl
    have e2 : hsA v m = [] := by unfold hsA hsB; rw [hh]; rfl
    rw [e1, e2]
    exact rnh_deaf k m hh
  · cases hf : Pa.findP v.l m.id with
    | none => exact rnh_none k hg m hh hf
    | some c =>
      have e1 : hsS v m = v := by
        have h0 : ¬ shE v m.id m.a m.b = 0 := by
          unfold shE Pa.shipE
          rw [hf]
          split
          · simp
          · simp
        unfold hsS shS
        rw [hh, if_pos rfl, if_neg h0]
      rw [e1]
      exact rnh_some k m hh hf
end
end Go.Proofs.YtihddekjicpihaaGreatDoor
/-
  ShipperPlays: both shippers beside each other.
-/
namespace Go.Proofs.YtihddekjicpihaaGreatDoor
open Go.ChangeShapes Go.WideShapes Go.ChangeAt Go.RowKit Go.Maps Gd.Pu

/-- The program's shipper at p, the reference's at q. -/
structure Tp (w0 V : World) (E F : Nat → Prop) (p q : Nat) (vp vq : Sh) : Prop where
  a : Ns w0.heap.size E V p vp
  b : Rn w0.heap.size F V q vq
  dj : ∀ k, E k → ¬ F k
  bel : Below w0.heap.size w0 V
section
variable {w0 V u : World} {E F E' F' : Nat → Prop} {p q : Nat} {vp vq vp' vq' : Sh} {c : Nat} {o : Obj}
theorem Tp.on (t : Tp w0 V E F p q vp vq) (hb : Below V.heap.size V u) : Tp w0 u E F p q vp vq := ⟨t.a.on hb, t.b.on hb, t.dj, bel_on' t.bel hb⟩
theorem Tp.stepP (t : Tp w0 V E F p q vp vq) (a' : Ns w0.heap.size E' u p vp') (hE : ∀ k, E' k → growE E V u k) (hk : Rg.Kept (fun k _ => E k) V u) : Tp w0 u E' F p q vp' vq :=
  ⟨a', t.b.kept hk (fun k _ hF hE => t.dj k hE hF), fun k e hF => (hE k e).elim (fun e => t.dj k e hF) (fun e => by have := (t.b.1 k hF).2; omega), t.bel.trans (t.a.bel hk)⟩
theorem Tp.stepQ (t : Tp w0 V E F p q vp vq) (b' : Rn w0.heap.size F' u q vq') (hF : ∀ k, F' k → growE F V u k) (hk : Rg.Kept (fun k _ => F k) V u) : Tp w0 u E F' p q vp vq' :=
  ⟨t.a.kept hk (fun k _ hE hF => t.dj k hE hF), b', fun k hE e => (hF k e).elim (fun e => t.dj k hE e) (fun e => by have := (t.a.1 k hE).2; omega), t.bel.trans (t.b.bel hk)⟩
/-- A block of neither. -/
def Aq (V : World) (E F : Nat → Prop) (c : Nat) (o : Obj) : Prop := V.heap[c]? = some o ∧ ¬ E c ∧ ¬ F c
theorem Aq.lt (h : Aq V E F c o) : c < V.heap.size := (Array.getElem?_eq_some_iff.1 h.1).1
theorem Aq.on (h : Aq V E F c o) (hb : Below V.heap.size V u) : Aq u E F c o := ⟨(hb.block _ h.lt).trans h.1, h.2⟩
theorem Aq.stepP (h : Aq V E F c o) (hE : ∀ k, E' k → growE E V u k) (hk : Rg.Kept (fun k _ => E k) V u) : Aq u E' F c o :=
  ⟨hk.block _ _ h.1 h.2.1, fun e => (hE c e).elim h.2.1 (fun e => by have := h.lt; omega), h.2.2⟩
theorem Aq.stepQ (h : Aq V E F c o) (hF : ∀ k, F' k → growE F V u k) (hk : Rg.Kept (fun k _ => F k) V u) : Aq u E F' c o :=
  ⟨hk.block _ _ h.1 h.2.2, h.2.1, fun e => (hF c e).elim h.2.2 (fun e => by have := h.lt; omega)⟩
theorem ten_of {w : World} {g : Nat} {x0 x1 x2 x3 x4 x5 x6 x7 x8 x9 : Value} {t : TypeId} (e : w.heap[g]? = some (.cells #[x0, x1, x2, x3, x4, x5, x6, x7, x8, x9] t (0, 0))) :
    (w.cell? ⟨g, 0, none⟩ = some x0 ∧ w.cell? ⟨g, 1, none⟩ = some x1 ∧ w.cell? ⟨g, 2, none⟩ = some x2) ∧ w.cell? ⟨g, 3, none⟩ = some x3 ∧ w.cell? ⟨g, 4, none⟩ = some x4 ∧ w.cell? ⟨g, 5, none⟩ = some x5 ∧ w.cell? ⟨g, 6, none⟩ = some x6 ∧ w.cell? ⟨g, 7, none⟩ = some x7 ∧ w.cell? ⟨g, 8, none⟩ = some x8 ∧ w.cell? ⟨g, 9, none⟩ = some x9 := by
  refine ⟨⟨?_, ?_, ?_⟩, ?_, ?_, ?_, ?_, ?_, ?_, ?_⟩ <;> (rw [cell_of e]; rfl)
/-- Each call on the program's side. -/
theorem Tp.crashP (t : Tp w0 V E F p q vp vq) (h : Aq V E F c o) (sy tn : Int) :
    Calls Tryz.prog 30 #[.pointer (some ⟨p, 0, none⟩), .int .i64 sy, .int .i64 tn] V fun e u => (∃ x, e = .returned x) ∧ ∃ E', Tp w0 u E' F p q (crP vp) vq ∧ Aq u E' F c o :=
  (shcrash_any t.a sy tn).mono (fun _ _ ⟨h1, h2, h3⟩ => ⟨h1, _, t.stepP h2 (fun _ e => e) h3, h.stepP (fun _ e => e) h3⟩)
theorem Tp.crashQ (t : Tp w0 V E F p q vp vq) (h : Aq V E F c o) (sy tn : Int) :
    Calls Tryz.prog 31 #[.pointer (some ⟨q, 0, none⟩), .int .i64 sy, .int .i64 tn] V fun e u => (∃ x, e = .returned x) ∧ ∃ F', Tp w0 u E F' p q vp (crP vq) ∧ Aq u E F' c o :=
  (rncrash_any t.b sy tn).mono (fun _ _ ⟨h1, h2, h3⟩ => ⟨h1, _, t.stepQ h2 (fun _ e => e) h3, h.stepQ (fun _ e => e) h3⟩)
theorem Tp.startP (hg : Gl w0) (t : Tp w0 V E F p q vp vq) (h : Aq V E F c o) :
    Calls Tryz.prog 32 #[.pointer (some ⟨p, 0, none⟩)] V fun e u => (∃ x, e = .returned x) ∧ ∃ E', Tp w0 u E' F p q (upP vp) vq ∧ Aq u E' F c o := by
  cases hd : vp.down
  · refine (shstart_up t.a hd).mono ?_
    rintro e u ⟨h1, h2⟩
    rw [up_up t.a.good hd]
    exact ⟨h1, E, t.on h2, h.on h2⟩
  · refine (shstart_down hg t.bel t.a hd).mono ?_
    rintro e u ⟨h1, h2, h3⟩
    exact ⟨h1, _, t.stepP h2 (fun _ e => e) h3, h.stepP (fun _ e => e) h3⟩
theorem Tp.startQ (hg : Gl w0) (t : Tp w0 V E F p q vp vq) (h : Aq V E F c o) :
    Calls Tryz.prog 33 #[.pointer (some ⟨q, 0, none⟩)] V fun e u => (∃ x, e = .returned x) ∧ ∃ F', Tp w0 u E F' p q vp (upP vq) ∧ Aq u E F' c o := by
  cases hd : vq.down
  · refine (rnstart_up t.b hd).mono ?_
    rintro e u ⟨h1, h2⟩
    rw [up_up t.b.good hd]
    exact ⟨h1, F, t.on h2, h.on h2⟩
  · refine (rnstart_down hg t.bel t.b hd).mono ?_
    rintro e u ⟨h1, h2, h3⟩
    exact ⟨h1, _, t.stepQ h2 (fun _ e => e) h3, h.stepQ (fun _ e => e) h3⟩
theorem Tp.handleP (hg : Gl w0) (t : Tp w0 V E F p q vp vq) (h : Aq V E F c o) (m : Ms.Mg) :
    Calls Tryz.prog 34 #[.pointer (some ⟨p, 0, none⟩), .agg #[.int .i64 m.k, .int .i64 m.fr, .int .i64 m.to, .int .i64 m.id, .int .i64 m.st, .int .i64 m.a, .int .i64 m.b]] V fun e u => ∃ a ca E', e = .returned (.slice a (hsA vp m).length ca) ∧ Tp w0 u E' F p q (hsS vp m) vq ∧ Aq u E' F c o ∧ Ms.Mgs u a (hsA vp m) ∧ (∀ ad, a = some ad → ¬ F ad.block) := by
  refine (shhandle_any t.a (fun u hu => hg.on (t.bel.trans (t.a.bel hu))) m).mono ?_
  rintro e u ⟨a, ca, E', h1, h2, h3, h4, h5, h6, h7⟩
  exact ⟨a, ca, E', h1, t.stepP h6 h5 h7, h.stepP h5 h7, h2, fun ad e hF => by have h8 := (h4 ad e).2; have h9 := (t.b.1 _ hF).2; omega⟩
theorem Tp.handleQ (hg : Gl w0) (t : Tp w0 V E F p q vp vq) (h : Aq V E F c o) (m : Ms.Mg) {a : Option Addr} {xs : List Ms.Mg} (hm : Ms.Mgs V a xs) (ha : ∀ ad, a = some ad → ¬ F ad.block) :
    Calls Tryz.prog 35 #[.pointer (some ⟨q, 0, none⟩), .agg #[.int .i64 m.k, .int .i64 m.fr, .int .i64 m.to, .int .i64 m.id, .int .i64 m.st, .int .i64 m.a, .int .i64 m.b]] V fun e u => ∃ b cb F', e = .returned (.slice b (hsA vq m).length cb) ∧ Tp w0 u E F' p q vp (hsS vq m) ∧ Aq u E F' c o ∧ Ms.Mgs u a xs ∧ Ms.Mgs u b (hsA vq m) := by
  refine (rnhandle_any t.b (fun u hu => hg.on (t.bel.trans (t.b.bel hu))) m).mono ?_
  rintro e u ⟨b, cb, h1, h2, h3, h4⟩
  refine ⟨b, cb, _, h1, t.stepQ h3 (fun _ e => e) h4, h.stepQ (fun _ e => e) h4, ?_, h2⟩
  rcases hm with hm | ⟨b', off, rfl, hc⟩
  · exact .inl hm
  · exact .inr ⟨b', off, rfl, fun j x hj => kept_cellR h4 (fun _ e => ha _ rfl e) (hc j x hj)⟩
/-- What is asked of the reference's in the round's end. -/
theorem Tp.cellsQ (t : Tp w0 V E F p q vp vq) : ∃ qb j, V.cell? ⟨q, 1, none⟩ = some (.pointer (some ⟨qb, 0, none⟩)) ∧ V.cell? ⟨q, 0, none⟩ = some (.pointer (some ⟨j, 0, none⟩)) ∧ V.cell? ⟨j, 3, none⟩ = some (.bool vq.down) ∧ ∃ Fb, Pa.Rc w0.heap.size Fb V qb vq.l := by
  obtain ⟨_, _, Eb, jq, r, pb, h⟩ := t.b
  obtain ⟨h2, h3⟩ := h.cells
  obtain ⟨⟨-, -, -, j3⟩, -⟩ := h.jr.cells
  exact ⟨pb, jq, h3, h2, j3, Eb, h.bk⟩
theorem Tp.sp (t : Tp w0 V E F p q vp vq) : Sp w0 E V p vp := ⟨t.a, t.bel⟩
end
theorem same_ofP {u : World} {B B' : Nat} {L : List Int} {a b : Option Addr} {c c' : Nat} (hL : L.length ≤ 1000) (h1 : u.ownsRow B 3 1 (.slice a L.length c) L.length (L.map (Value.int .i64))) (h2 : u.ownsRow B' 3 1 (.slice b L.length c') L.length (L.map (Value.int .i64))) :
    Calls Tryz.prog 26 #[.slice a L.length c, .slice b L.length c'] u fun e w' => e = .returned (.bool true) ∧ Below u.heap.size u w' := by
  obtain ⟨a', c'', e1, -, e2⟩ := owned_nums h1
  cases e1
  obtain ⟨a', c'', e1, -, e3⟩ := owned_nums h2
  cases e1
  refine (same_any a b L L c c' u (by omega) e2 e3).mono ?_
  rintro e w' ⟨rfl, n, rfl⟩
  exact ⟨by simp, belowN (Below.refl _ _) n⟩
end Go.Proofs.YtihddekjicpihaaGreatDoor
/-
  ShipperPlays: the walk.
-/
namespace Go.Proofs.YtihddekjicpihaaGreatDoor
open Go.ChangeShapes Go.WideShapes Go.ChangeAt Go.RowKit Go.Maps Gd.Pu

theorem hsA_len (v : Sh) (m : Ms.Mg) : (hsA v m).length ≤ 1 := by unfold hsA; split <;> simp
def PpRel (w : World) (p q : Nat) (len : Nat) (i : Value) (wr : World) : Prop :=
  ∃ (j : Nat) (E F : Nat → Prop) (v : Sh), i = .int .i64 j ∧ j ≤ len ∧ j ≤ 80 ∧ Hid (Tp w wr E F p q v v)

set_option maxRecDepth 100000 in
set_option maxHeartbeats 8000000 in
theorem shipperPlays_walk (a0 : Int) (l1 : List C21.Cl) (a1 : Option Addr) (cap1 : Nat) (w : World) (_w0 : (Lit.int .i64 a0).wf = true) (w1 : C21.ClsIn w l1 a1) (hg : Gl w) :
    Calls Tryz.prog 4 #[.int .i64 a0, .slice a1 l1.length cap1] w fun e w' => e = .returned (.bool true) ∧ Below w.heap.size w w' := by
  obtain ⟨hlen, hcl⟩ := w1
  have HCL := hide hcl
  clear _w0 hcl
  have N1 := shnew_any a0 w
  have HN2 : Hid (∀ u, Calls Tryz.prog 29 #[.int .i64 a0] u fun e w' => ∃ p E, e = .returned (.pointer (some ⟨p, 0, none⟩)) ∧ Rn u.heap.size E w' p (newSh a0) ∧ Below u.heap.size u w') := fun u => rnnew_any a0 u
  go_enter Tryz.func4, Tryz.ntmps4
  go_wp2_with (first
    | (go_at_call 28; refine N1.mono ?_; clear N1; rintro e u1 ⟨p, E0, rfl, k1, hb1⟩; have K1 := hide k1; have HB1 := hide hb1; have N2 := HN2.out u1; clear k1 hb1 HN2)
    | (go_at_call 29; refine N2.mono ?_; clear N2; rintro e u2 ⟨q, F0, rfl, k2, hb2⟩; have K2 := hide k2; have HB2 := hide hb2; clear k2 hb2))
  have HT0 : Hid (Tp w u2 E0 F0 p q (newSh a0) (newSh a0)) := by
    obtain ⟨h1, h2, Eb, jq, r, pb, h3⟩ := K2.out
    have hs := HB1.out.size
    have lowJ : ∀ {B B' : Nat} {V : World} {P : Nat} {vv : Value} {room : Int} {L : List ByteArray} {su : Nat} {dn : Bool}, B' ≤ B → R.Jr B V P vv room L su dn → R.Jr B' V P vv room L su dn := fun hl h => by
      obtain ⟨h1, h2, ⟨h3, h4⟩, h5⟩ := h
      refine ⟨h1, Nat.le_trans hl h2, ⟨h3, ?_⟩, h5⟩
      rcases h4 with h4 | ⟨g, cp, cur, e, hg, rest⟩
      · exact .inl h4
      · exact .inr ⟨g, cp, cur, e, Nat.le_trans hl hg, rest⟩
    have lowC : ∀ {B B' : Nat} {V : World} {F : Nat → Prop} {b : Nat} {l : List (Int × Int × Int)}, B' ≤ B → Pa.Rc B F V b l → Pa.Rc B' F V b l := fun hl h => by
      obtain ⟨g1, g2, vv, g3, ⟨g4, g5⟩, g6⟩ := h
      refine ⟨fun k e => ⟨Nat.le_trans hl (g1 k e).1, (g1 k e).2⟩, g2, vv, g3, ⟨g4, ?_⟩, g6⟩
      rcases g5 with g5 | ⟨g, cp, cur, e, hg, rest⟩
      · exact .inl g5
      · exact .inr ⟨g, cp, cur, e, Nat.le_trans hl hg, rest⟩
    refine ⟨K1.out.on HB2.out, ⟨fun k e => ⟨by have := (h1 k e).1; omega, (h1 k e).2⟩, h2, Eb, jq, r, pb, ⟨h3.blk, lowJ hs h3.jr, lowC hs h3.bk, h3.gc, h3.ep, h3.sub, h3.eq, h3.er, h3.np, h3.nq, h3.nr⟩⟩, fun k e hF => ?_, bel_on' HB1.out HB2.out⟩
    have := (K1.out.1 k e).2
    have := (h1 k hF).1
    omega
  clear K1 K2 HB1 HB2
  go_loopw [18] (fun i wr => PpRel w p q l1.length i wr) (fun i _ => l1.length - (Go.RowKit.intOf i).toNat)
  case atStart => exact ⟨0, E0, F0, _, rfl, Nat.zero_le _, by omega, HT0⟩
  case round =>
    obtain ⟨j, E, F, v, rfl, hj, hj80, HT⟩ := hrel
    clear HT0
    by_cases hlt : j < l1.length
    rotate_left
    · have ql : ¬ (j : Int) < (l1.length : Int) := by omega
      go_wp2_with (go_at_call 42; refine (shwake_any _ (hg.on HT.out.bel)).mono ?_; rintro e u6 ⟨rfl, b6⟩; have HB6 := hide b6; clear b6)
      go_ret
      exact ⟨rfl, bel_on' HT.out.bel HB6.out⟩
    have ql : (j : Int) < (l1.length : Int) := by omega
    obtain ⟨⟨cd, sy, tn, m⟩, hc⟩ : ∃ c, l1[j]? = some c := ⟨l1[j], by simp [hlt]⟩
    rcases HCL.out.below HT.out.bel with hh | ⟨bb, off, rfl, hca⟩
    · subst hh; simp at hlt
    have hx := hca j _ hc
    dsimp only at hx
    obtain ⟨⟨c0, c1, c2, c3, c4, c5, c6, c7, c8, c9⟩, -⟩ := hx
    obtain ⟨V, hV⟩ : ∃ V, wr.alloc (.cells #[.int .i64 cd, .int .i64 sy, .int .i64 tn, .int .i64 m.k, .int .i64 m.fr, .int .i64 m.to, .int .i64 m.id, .int .i64 m.st, .int .i64 m.a, .int .i64 m.b] 62) = V := ⟨_, rfl⟩
    have hbV : Below wr.heap.size wr V := by rw [← hV]; exact (Below.refl _ _).alloc (Nat.le_refl _) _
    have HXV : Hid (Aq V E F wr.heap.size (.cells #[.int .i64 cd, .int .i64 sy, .int .i64 tn, .int .i64 m.k, .int .i64 m.fr, .int .i64 m.to, .int .i64 m.id, .int .i64 m.st, .int .i64 m.a, .int .i64 m.b] 62 (0, 0))) := ⟨by rw [← hV]; exact World.alloc_heap_new _ _, fun e => by have := (HT.out.a.1 _ e).2; omega, fun e => by have := (HT.out.b.1 _ e).2; omega⟩
    have KV := hide (HT.out.on hbV)
    obtain ⟨⟨d0, d1, d2⟩, d3, d4, d5, d6, d7, d8, d9⟩ := ten_of HXV.out.1
    clear hca hc hbV HT
    by_cases h80 : j < 80
    rotate_left
    · have qj : (j : Int) ≥ 80 := by omega
      go_wp2_with (go_at_call 42; refine (shwake_any _ (hg.on KV.out.bel)).mono ?_; rintro e u6 ⟨rfl, b6⟩; have HB6 := hide b6; clear b6)
      go_ret
      exact ⟨rfl, bel_on' KV.out.bel HB6.out⟩
    have qj : ¬ (j : Int) ≥ 80 := by omega
    go_upto_block 2 with fail
    clear hV c0 c1 c2 c3 c4 c5 c6 c7 c8 c9
    go_cut [9] from 27 to 55 (fun k wx => ∃ (E' F' : Nat → Prop) (v' : Sh), k = .bool true ∧ Hid (Tp w wx E' F' p q v' v') ∧ Hid (Aq wx E' F' wr.heap.size (.cells #[.int .i64 cd, .int .i64 sy, .int .i64 tn, .int .i64 m.k, .int .i64 m.fr, .int .i64 m.to, .int .i64 m.id, .int .i64 m.st, .int .i64 m.a, .int .i64 m.b] 62 (0, 0))))
    case first =>
      by_cases h0 : cd = 0
      · have e0 : (cd == 0) = true := by simp [h0]
        clear h0
        have C1 := KV.out.crashP HXV.out sy tn
        go_wp2_with (first
          | (go_at_call 30; refine C1.mono ?_; clear C1; rintro e u1 ⟨⟨z1, rfl⟩, E1, t1, x1⟩; clear d0 d1 d2 d3 d4 d5 d6 d7 d8 d9; obtain ⟨⟨d0, d1, d2⟩, d3, d4, d5, d6, d7, d8, d9⟩ := ten_of x1.1; have C2 := t1.crashQ x1 sy tn; clear t1 x1)
          | (go_at_call 31; refine C2.mono ?_; clear C2; rintro e u2 ⟨⟨z2, rfl⟩, F1, t2, x2⟩; have HT2 := hide t2; have HX2 := hide x2; clear t2 x2))
        go_meet
        exact ⟨_, _, _, rfl, HT2, HX2⟩
      have e0 : (cd == 0) = false := by simp [h0]
      by_cases h1 : cd = 1
      · have e1 : (cd == 1) = true := by simp [h1]
        clear h0 h1
        have C1 := KV.out.startP hg HXV.out
        go_wp2_with (first
          | (go_at_call 32; refine C1.mono ?_; clear C1; rintro e u1 ⟨⟨z1, rfl⟩, E1, t1, x1⟩; have C2 := t1.startQ hg x1; clear t1 x1)
          | (go_at_call 33; refine C2.mono ?_; clear C2; rintro e u2 ⟨⟨z2, rfl⟩, F1, t2, x2⟩; have HT2 := hide t2; have HX2 := hide x2; clear t2 x2))
        go_meet
        exact ⟨_, _, _, rfl, HT2, HX2⟩
      have e1 : (cd == 1) = false := by simp [h1]
      clear h0 h1
      have hbD : Below V.heap.size V V.drew := (Below.refl _ _).drew
      have C1 := (KV.out.on hbD).handleP hg (HXV.out.on hbD) m
      have hlx : Hid ((hsA v m).length ≤ 1) := hsA_len v m
      have HQ0 : ∀ u E1 a, Tp w u E1 F p q (hsS v m) v → Aq u E1 F wr.heap.size (.cells #[.int .i64 cd, .int .i64 sy, .int .i64 tn, .int .i64 m.k, .int .i64 m.fr, .int .i64 m.to, .int .i64 m.id, .int .i64 m.st, .int .i64 m.a, .int .i64 m.b] 62 (0, 0)) → Ms.Mgs u a (hsA v m) → (∀ ad, a = some ad → ¬ F ad.block) → _ := fun u E1 a h1 h2 h3 h4 => h1.handleQ hg h2 m h3 h4
      generalize hsA v m = xs at C1 hlx HQ0
      have HQ : Hid (∀ u E1 a, Tp w u E1 F p q (hsS v m) v → Aq u E1 F wr.heap.size (.cells #[.int .i64 cd, .int .i64 sy, .int .i64 tn, .int .i64 m.k, .int .i64 m.fr, .int .i64 m.to, .int .i64 m.id, .int .i64 m.st, .int .i64 m.a, .int .i64 m.b] 62 (0, 0)) → Ms.Mgs u a xs → (∀ ad, a = some ad → ¬ F ad.block) → Calls Tryz.prog 35 #[.pointer (some ⟨q, 0, none⟩), .agg #[.int .i64 m.k, .int .i64 m.fr, .int .i64 m.to, .int .i64 m.id, .int .i64 m.st, .int .i64 m.a, .int .i64 m.b]] u fun e u2 => ∃ b cb F', e = .returned (.slice b xs.length cb) ∧ Tp w u2 E1 F' p q (hsS v m) (hsS v m) ∧ Aq u2 E1 F' wr.heap.size (.cells #[.int .i64 cd, .int .i64 sy, .int .i64 tn, .int .i64 m.k, .int .i64 m.fr, .int .i64 m.to, .int .i64 m.id, .int .i64 m.st, .int .i64 m.a, .int .i64 m.b] 62 (0, 0)) ∧ Ms.Mgs u2 a xs ∧ Ms.Mgs u2 b xs) := HQ0
      clear hbD HQ0
      go_wp2_with fail
      go_region_held3 (fun w' => w'.cell? ⟨wr.heap.size, 3, none⟩ = some (.int .i64 m.k) ∧ w'.cell? ⟨wr.heap.size, 4, none⟩ = some (.int .i64 m.fr) ∧ w'.cell? ⟨wr.heap.size, 5, none⟩ = some (.int .i64 m.to) ∧ w'.cell? ⟨wr.heap.size, 6, none⟩ = some (.int .i64 m.id) ∧ w'.cell? ⟨wr.heap.size, 7, none⟩ = some (.int .i64 m.st) ∧ w'.cell? ⟨wr.heap.size, 8, none⟩ = some (.int .i64 m.a) ∧ w'.cell? ⟨wr.heap.size, 9, none⟩ = some (.int .i64 m.b)) (go_keep) (first
        | (go_at_call 34; refine C1.mono ?_; clear C1; rintro e u1 ⟨av, ca, E1, rfl, t1, x1, m1, h1⟩; clear d3 d4 d5 d6 d7 d8 d9; obtain ⟨-, d3, d4, d5, d6, d7, d8, d9⟩ := ten_of x1.1; have C2 := HQ.out u1 E1 av t1 x1 m1 h1; clear t1 x1 m1 h1)
        | (go_at_call 35; refine C2.mono ?_; clear C2; rintro e u2 ⟨bv, cb, F1, rfl, t2, x2, m2, n2⟩; clear d3 d4 d5 d6 d7 d8 d9; obtain ⟨-, d3, d4, d5, d6, d7, d8, d9⟩ := ten_of x2.1; have SM := Ms.same_msgs av bv xs ca cb u2 (by have := hlx.out; omega) m2 n2; have HT2 := hide t2; have HX2 := hide x2; clear t2 x2 m2 n2)
        | (go_at_call 14; refine SM.mono ?_; clear SM; rintro e u3 ⟨rfl, hb3⟩; have HT3 := hide (HT2.out.on hb3); have HX3 := hide (HX2.out.on hb3); clear d3 d4 d5 d6 d7 d8 d9; obtain ⟨-, d3, d4, d5, d6, d7, d8, d9⟩ := ten_of HX3.out.1; clear hb3))
      all_goals (go_wp2_with fail; go_meet; exact ⟨_, _, _, rfl, HT3, HX3⟩)
    case rest =>
      obtain ⟨E1, F1, v1, rfl, HT1, HX1⟩ := hcut
      clear d0 d1 d2 d3 d4 d5 d6 d7 d8 d9 KV HXV
      obtain ⟨qb, jq, q1, q0, j3, Fb, hrc⟩ := HT1.out.cellsQ
      obtain ⟨L, hL⟩ : ∃ L, Pa.idsP v1.l = L := ⟨_, rfl⟩
      obtain ⟨S, hS⟩ : ∃ S, Pa.wentP v1.l m.a = S := ⟨_, rfl⟩
      have hLn : L.length ≤ 1000 := by rw [← hL, Pa.idsP_len]; exact HT1.out.a.good.cl.len
      have HNN : Hid (∀ u, Below wc.heap.size wc u →
          (u.cell? ⟨q, 1, none⟩ = some (.pointer (some ⟨qb, 0, none⟩)) ∧ u.cell? ⟨q, 0, none⟩ = some (.pointer (some ⟨jq, 0, none⟩)) ∧ u.cell? ⟨jq, 3, none⟩ = some (.bool v1.down) ∧ u.cell? ⟨wr.heap.size, 8, none⟩ = some (.int .i64 m.a)) ∧
          Tp w u E1 F1 p q v1 v1 ∧
          Calls Tryz.prog 37 #[.pointer (some ⟨p, 1, none⟩)] u (Pa.OwnInts u L) ∧
          Calls Tryz.prog 38 #[.pointer (some ⟨qb, 0, none⟩)] u (Pa.OwnInts u L) ∧
          (Calls Tryz.prog 39 #[.pointer (some ⟨p, 1, none⟩), .int .i64 m.a] u fun e w' => e = .returned (.int .i64 S) ∧ Below u.heap.size u w') ∧
          (Calls Tryz.prog 40 #[.pointer (some ⟨qb, 0, none⟩), .int .i64 m.a] u fun e w' => e = .returned (.int .i64 S) ∧ Below u.heap.size u w') ∧
          (Calls Tryz.prog 41 #[.pointer (some ⟨p, 0, none⟩)] u fun e w' => e = .returned (.bool v1.down) ∧ u = w')) := fun u hu => by
        have t := HT1.out.on hu
        have rc := hrc.on hu
        have gl := HT1.out.a.good.cl
        obtain ⟨-, -, -, -, -, -, d8, -⟩ := ten_of (HX1.out.on hu).1
        refine ⟨⟨cellL q1 hu, cellL q0 hu, cellL j3 hu, d8⟩, t, t.sp.ids hL, ?_, t.sp.went m.a hS, ?_, t.sp.dn rfl⟩
        · have := Pa.rids_any rc gl.len
          rw [hL] at this
          exact this
        · have := Pa.rwent_any rc gl m.a
          rw [hS] at this
          exact this
      obtain ⟨⟨-, -, -, d8⟩, -, -⟩ := HNN.out wc (Below.refl _ _)
      have H6 := hide ((Below.refl wc.heap.size wc).drew)
      have qs : (S != S) = false := by simp
      have qd : (v1.down != v1.down) = false := by simp
      clear hL hS HT1 HX1 hrc
      generalize v1.down = dn at HNN j3 qd
      have I1 := (HNN.out _ H6.out).2.2.1
      go_wp2_with fail
      go_region_held3 (fun w' => w'.cell? ⟨q, 1, none⟩ = some (.pointer (some ⟨qb, 0, none⟩)) ∧ w'.cell? ⟨q, 0, none⟩ = some (.pointer (some ⟨jq, 0, none⟩)) ∧ w'.cell? ⟨jq, 3, none⟩ = some (.bool dn) ∧ w'.cell? ⟨wr.heap.size, 8, none⟩ = some (.int .i64 m.a)) (go_keep) (first
        | (go_at_call 36; refine (shparcels_any p _).mono ?_; rintro e w' ⟨rfl, rfl⟩)
        | (go_at_call 37; refine I1.mono ?_; clear I1; rintro e u7 ⟨a7, c7, rfl, -, hrow7, hb7⟩; have HB7 := hide (bel_on' H6.out hb7); have HR7 := hide hrow7; clear q1 q0 j3 d8; obtain ⟨⟨q1, q0, j3, d8⟩, -, -, I2, -⟩ := HNN.out u7 HB7.out; clear hb7 hrow7)
        | (go_at_call 38; refine I2.mono ?_; clear I2; rintro e u8 ⟨a8, c8, rfl, -, hrow8, hb8⟩; have HB8 := hide (bel_on' HB7.out hb8); have SM := same_ofP hLn (owned_on HR7.out hb8) hrow8; clear q1 q0 j3 d8; obtain ⟨⟨q1, q0, j3, d8⟩, -⟩ := HNN.out u8 HB8.out; clear hb8 hrow8)
        | (go_at_call 26; refine SM.mono ?_; clear SM; rintro e u9 ⟨rfl, hb9⟩; have HB9 := hide (bel_on' HB8.out hb9); clear q1 q0 j3 d8; obtain ⟨⟨q1, q0, j3, d8⟩, -, -, -, W1, -⟩ := HNN.out u9 HB9.out; clear hb9)
        | (go_at_call 39; refine W1.mono ?_; clear W1; rintro e u10 ⟨rfl, hb10⟩; have HB10 := hide (bel_on' HB9.out hb10); clear q1 q0 j3 d8; obtain ⟨⟨q1, q0, j3, d8⟩, -, -, -, -, W2, -⟩ := HNN.out u10 HB10.out; clear hb10)
        | (go_at_call 40; refine W2.mono ?_; clear W2; rintro e u11 ⟨rfl, hb11⟩; have HB11 := hide (bel_on' HB10.out hb11); clear q1 q0 j3 d8; obtain ⟨⟨q1, q0, j3, d8⟩, -, -, -, -, -, DN⟩ := HNN.out u11 HB11.out; clear hb11)
        | (go_at_call 41; refine DN.mono ?_; clear DN; rintro e w' ⟨rfl, rfl⟩))
      go_wp2
      all_goals go_roundw
      all_goals (first | exact ⟨j + 1, E1, F1, v1, by go_num, by omega, by omega, (HNN.out u11 HB11.out).2.1⟩ | (simp [Go.RowKit.intOf]; omega))
end Go.Proofs.YtihddekjicpihaaGreatDoor
