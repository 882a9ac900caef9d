/-
  Own texts put together: ShpM, PaS, PaT, PaI, PaQ, PaR, PaW, ShpS, ShpT, ShpU, ShpV, ShpW, ShpX, ShpC.
-/
import Derived.Test.YtihddekjicpihaaGreatDoorSgaopmkk
import Derived.Test.YtihddekjicpihaaGreatDoorSghhflai
import Derived.Test.YtihddekjicpihaaGreatDoorSggaolnb
import Derived.Test.YtihddekjicpihaaGreatDoorSgmhhcne
import Derived.Test.YtihddekjicpihaaGreatDoorSgnejbka
import Derived.Test.YtihddekjicpihaaGreatDoorSgaofemp
import Derived.Maps.OwnIn
import Derived.Test.YtihddekjicpihaaGreatDoorSgnjbmek
import Derived.Laws.Rows
import Derived.Test.YtihddekjicpihaaGreatDoorSgkananl
/-
  A shipper, plainly: what its entries say, what it answers, what it is behind each call.
-/
namespace Go.Proofs.YtihddekjicpihaaGreatDoor
open Go.RowKit Gd.Pu

/-- What an entry is written as: all are of one kind. -/
def kS : ByteArray := ⟨#[115, 101, 110, 116]⟩
def nP (x : Int × Int × Int) : List Int := [x.2.1, x.2.2]
def lnP (x : Int × Int × Int) : ByteArray := lineV kS x.1 (nP x)
def OkP (x : Int × Int × Int) : Prop := (1 ≤ x.1 ∧ x.1 ≤ 999) ∧ (0 ≤ x.2.1 ∧ x.2.1 < 8) ∧ 1 ≤ x.2.2 ∧ x.2.2 ≤ 1000000000
theorem may_sh {x : Int × Int × Int} (h : OkP x) : mayB kS x.1 (nP x) = true := by
  have h1 : idB x.1 = true := by have := h.1; unfold idB; simp; omega
  have h2 : numsB (nP x) = true := by
    obtain ⟨_, h2, h3⟩ := h
    unfold numsB nP
    simp [numB]
    omega
  have h3 : kindB kS = true := by decide
  unfold mayB
  rw [h3, h1, h2]
  rfl
theorem ok_sh {x : Int × Int × Int} (h : OkP x) : Ok (lnP x) := by
  unfold lnP lineV
  rw [if_pos (may_sh h)]
  exact ⟨_, _, _, parse_line (may_sh h)⟩
theorem sh_parse {x : Int × Int × Int} (h : OkP x) {k : ByteArray} {id : Int} {l : List Int} (hp : ParseR (lnP x) k id l 0) : k = kS ∧ id = x.1 ∧ l = nP x := by
  unfold lnP lineV at hp
  rw [if_pos (may_sh h)] at hp
  obtain ⟨h1, h2, h3, _⟩ := hp.uniq (parse_line (may_sh h))
  exact ⟨h1, h2, h3⟩

/-- The shipper: room, what its journal says, whether it is down, its book. -/
structure Sh where
  room : Int
  T : List (Int × Int × Int)
  down : Bool
  l : List (Int × Int × Int)
/-- What a shipper keeps to. -/
structure GoodSh (v : Sh) : Prop where
  rm : 1 ≤ v.room ∧ v.room ≤ 4096
  len : (v.T.length : Int) ≤ v.room
  c : Pa.GoodC v.T
  l_ : v.l = if v.down = true then [] else v.T
theorem GoodSh.ok {v : Sh} (h : GoodSh v) : ∀ x ∈ v.T, OkP x := fun x hx => h.c.at_ x hx
theorem GoodSh.cl {v : Sh} (h : GoodSh v) : Pa.GoodC v.l := by
  rw [h.l_]
  split
  · exact Pa.GoodC.new
  · exact h.c
/-- A beginning of what keeps to it. -/
theorem goodC_take {l : List (Int × Int × Int)} (h : Pa.GoodC l) (j : Nat) : Pa.GoodC (l.take j) := by
  refine ⟨?_, fun p hp => h.at_ p (List.mem_of_mem_take hp)⟩
  have : Pa.idsP (l.take j) = (Pa.idsP l).take j := by unfold Pa.idsP; rw [List.map_take]
  rw [this]
  exact h.nd.sublist (List.take_sublist _ _)
/-- One more of it goes. -/
theorem ship_take {l : List (Int × Int × Int)} (h : Pa.GoodC l) {j : Nat} {x : Int × Int × Int} (hx : l[j]? = some x) : Pa.shipE (l.take j) x.1 x.2.1 x.2.2 = 0 ∧ Pa.shipL (l.take j) x.1 x.2.1 x.2.2 = l.take (j + 1) := by
  obtain ⟨hlt, e⟩ := List.getElem?_eq_some_iff.1 hx
  obtain ⟨h1, h2, h3⟩ := h.at_ x (List.mem_of_getElem? hx)
  have hf : Pa.findP (l.take j) x.1 = none := by
    rw [Pa.findP_none]
    intro hm
    have hn := (goodC_take h (j + 1)).nd
    rw [List.take_succ_eq_append_getElem hlt, e] at hn
    unfold Pa.idsP at hn hm
    rw [List.map_append, List.nodup_append] at hn
    exact hn.2.2 _ hm _ (by simp) rfl
  have h0 : Pa.shipE (l.take j) x.1 x.2.1 x.2.2 = 0 := by
    rw [Pa.shipE_of ⟨Gd.isI_iff.2 h1, Gd.isIt_iff.2 h2, h3⟩, hf]
    rfl
  refine ⟨h0, ?_⟩
  rw [Pa.shipL_ok h0, List.take_succ_eq_append_getElem hlt, e]
/-- What a book that knows of id alone tells. -/
theorem would_none {l : List (Int × Int × Int)} {id : Int} (h : Pa.findP l id = none) (a b : Int) : Pa.shipE [] id a b = Pa.shipE l id a b := by
  unfold Pa.shipE
  rw [h, show Pa.findP [] id = none from rfl]
theorem would_some {l : List (Int × Int × Int)} (g : Pa.GoodC l) {id : Int} {c : Int × Int} (h : Pa.findP l id = some c) (a b : Int) : Pa.shipE (Pa.shipL [] id c.1 c.2) id a b = Pa.shipE l id a b := by
  obtain ⟨h1, h2, h3⟩ := g.at_ _ (Pa.findP_at h)
  have h0 : Pa.shipE [] id c.1 c.2 = 0 := by
    rw [Pa.shipE_of ⟨Gd.isI_iff.2 h1, Gd.isIt_iff.2 h2, h3⟩]
    rfl
  have hf := Pa.findP_ship h0 id
  rw [if_pos rfl] at hf
  unfold Pa.shipE
  rw [hf, h]

def hasR (v : Sh) : Bool := decide ((v.T.length : Int) < v.room)
def noteP (v : Sh) (x : Int × Int × Int) : Sh := if hasR v = true then ⟨v.room, v.T ++ [x], v.down, Pa.shipL v.l x.1 x.2.1 x.2.2⟩ else v
def shE (v : Sh) (id a b : Int) : Int := Pa.shipE v.l id a b
def shS (v : Sh) (id a b : Int) : Sh := if shE v id a b = 0 then noteP v (id, a, b) else v
def shB (v : Sh) (id a b : Int) : Bool := if shE v id a b = 0 then hasR v else decide (shE v id a b = 8)
def hearS (v : Sh) (m : Ms.Mg) : Bool := !v.down && m.k == 15 && m.fr == 0 && m.to == 3 && Gd.isI m.id
def hsS (v : Sh) (m : Ms.Mg) : Sh := if hearS v m = true then shS v m.id m.a m.b else v
def hsB (v : Sh) (m : Ms.Mg) : Bool := hearS v m && shB v m.id m.a m.b
def hsA (v : Sh) (m : Ms.Mg) : List Ms.Mg := if hsB v m = true then [⟨16, 3, 0, m.id, 0, 0, 0⟩] else []
def crP (v : Sh) : Sh := ⟨v.room, v.T, true, []⟩
def upP (v : Sh) : Sh := ⟨v.room, v.T, false, v.T⟩
def newSh (room : Int) : Sh := ⟨roomV room, [], false, []⟩
theorem shE_three (v : Sh) (id a b : Int) : shE v id a b = 0 ∨ shE v id a b = 1 ∨ shE v id a b = 8 := by
  unfold shE Pa.shipE
  split
  · split
    · exact .inr (.inr rfl)
    · exact .inl rfl
  · exact .inr (.inl rfl)
theorem newSh_good (room : Int) : GoodSh (newSh room) := ⟨roomV_in room, by have := (roomV_in room).1; simp [newSh]; omega, Pa.GoodC.new, rfl⟩
theorem crP_good {v : Sh} (h : GoodSh v) : GoodSh (crP v) := ⟨h.rm, h.len, h.c, rfl⟩
theorem upP_good {v : Sh} (h : GoodSh v) : GoodSh (upP v) := ⟨h.rm, h.len, h.c, rfl⟩
theorem up_up {v : Sh} (h : GoodSh v) (hd : v.down = false) : upP v = v := by
  have := h.l_
  rw [hd] at this
  unfold upP
  cases v
  simp at this hd
  subst this hd
  rfl
theorem up_crP {v : Sh} (h : GoodSh v) (hd : v.down = false) : upP (crP v) = v := up_up h hd
theorem noteP_good {v : Sh} (h : GoodSh v) (hd : v.down = false) {x : Int × Int × Int} (he : Pa.shipE v.l x.1 x.2.1 x.2.2 = 0) : GoodSh (noteP v x) := by
  unfold noteP
  split
  · rename_i hr
    unfold hasR at hr
    simp at hr
    have hl := h.l_
    rw [hd] at hl
    simp only [if_neg (show ¬ (false = true) by decide)] at hl
    have g := h.c.ship x.1 x.2.1 x.2.2
    rw [hl] at he
    rw [Pa.shipL_ok he] at g
    refine ⟨h.rm, by simp; omega, g, ?_⟩
    simp only [hd, hl]
    rw [Pa.shipL_ok he]
    rfl
  · exact h
theorem shS_good {v : Sh} (h : GoodSh v) (hd : v.down = false) (id a b : Int) : GoodSh (shS v id a b) := by
  unfold shS
  split
  · rename_i e; exact noteP_good h hd e
  · exact h
theorem hearS_of {v : Sh} {m : Ms.Mg} (h : hearS v m = true) : v.down = false ∧ m.k = 15 ∧ m.fr = 0 ∧ m.to = 3 ∧ (1 ≤ m.id ∧ m.id ≤ 999) := by
  unfold hearS at h
  simp only [Bool.and_eq_true, Bool.not_eq_true', beq_iff_eq] at h
  obtain ⟨⟨⟨⟨h1, h2⟩, h3⟩, h4⟩, h5⟩ := h
  exact ⟨h1, h2, h3, h4, Gd.isI_iff.1 h5⟩
theorem hsS_good {v : Sh} (h : GoodSh v) (m : Ms.Mg) : GoodSh (hsS v m) := by
  unfold hsS
  split
  · rename_i e; exact shS_good h (hearS_of e).1 _ _ _
  · exact h
theorem hsS_down (v : Sh) (m : Ms.Mg) : (hsS v m).down = v.down := by
  unfold hsS shS noteP
  split
  · split
    · split <;> rfl
    · rfl
  · rfl
end Go.Proofs.YtihddekjicpihaaGreatDoor
/-
  A book of parcels in memory: its block, its row of ids, its map of what went. Contracts of parcel's New, isId, isItem, isQty, Has; those of a nil book.
-/
namespace Go.Proofs.YtihddekjicpihaaGreatDoor.Gd.Pu.Pa
open Go.ChangeShapes Go.WideShapes Go.ChangeAt Go.RowKit Go.Maps

/-- A type that is no number's: of the block in which the book lies. -/
def NotI : Type := {x : TypeId // x ≠ 3}
def tBook : NotI := ⟨124, by decide⟩
theorem jat0 (J : List Value) (v mv : Value) : (J ++ [v, mv]).toArray[J.length]? = some v := by simp
theorem jat1 (J : List Value) (v mv : Value) : (J ++ [v, mv]).toArray[J.length + 1]? = some mv := by simp
theorem jset0 (J : List Value) (v mv x : Value) : (J ++ [v, mv]).toArray.setIfInBounds J.length x = (J ++ [x, mv]).toArray := by
  simp
theorem jset1 (J : List Value) (v mv x : Value) : (J ++ [v, mv]).toArray.setIfInBounds (J.length + 1) x = (J ++ [v, x]).toArray := by
  simp
/-- The book's block (behind the cells J), its row v, its map mv. -/
def PcV (B : Nat) (E : Nat → Prop) (w : World) (p : Nat) (t : NotI) (J : List Value) (l : List (Int × Int × Int)) (v mv : Value) : Prop :=
  w.heap[p]? = some (.cells (J ++ [v, mv]).toArray t.1 (0, 0)) ∧
  w.ownsRow B 3 1 v l.length ((idsP l).map (Value.int .i64)) ∧ (∀ k, v.ownBlock = some k → E k) ∧
  ((mv = .map none ∧ l = []) ∨ ∃ b, mv = .map (some b) ∧ E b ∧ Mx pairOf Tryz.prog 3 w b l.length (findP l))
/-- The book at p; all its blocks are of E. -/
def Pc (B : Nat) (E : Nat → Prop) (w : World) (p : Nat) (t : NotI) (J : List Value) (l : List (Int × Int × Int)) : Prop :=
  (∀ k, E k → B ≤ k ∧ k < w.heap.size) ∧ E p ∧ GoodC l ∧ ∃ v mv, PcV B E w p t J l v mv
section
variable {B : Nat} {E E' : Nat → Prop} {w w' : World} {p : Nat} {t : NotI} {J : List Value} {l : List (Int × Int × Int)} {v mv : Value}
theorem PcV.kept {F : Nat → Obj → Prop} (k : PcV B E w p t J l v mv) (hp : E p) (hk : Rg.Kept F w w') (hE : ∀ k o, E k → ¬ F k o) : PcV B E w' p t J l v mv := by
  obtain ⟨h1, h2, h3, h4⟩ := k
  refine ⟨hk.block _ _ h1 (hE _ _ hp), ⟨h2.1, ?_⟩, h3, ?_⟩
  · rcases h2.2 with h | ⟨g, cap, cur, rfl, hg, hc, rest⟩
    · exact .inl h
    · exact .inr ⟨g, cap, cur, rfl, hg, hk.block _ _ hc (hE _ _ (h3 g rfl)), rest⟩
  · rcases h4 with h | ⟨b, e1, e2, e3⟩
    · exact .inl h
    · exact .inr ⟨b, e1, e2, e3.kept hk (fun o => hE _ _ e2)⟩
theorem PcV.mono (k : PcV B E w p t J l v mv) (hE : ∀ k, E k → E' k) : PcV B E' w p t J l v mv := by
  obtain ⟨h1, h2, h3, h4⟩ := k
  exact ⟨h1, h2, fun k e => hE _ (h3 k e), h4.imp id (fun ⟨b, e1, e2, e3⟩ => ⟨b, e1, hE _ e2, e3⟩)⟩
theorem Pc.good (k : Pc B E w p t J l) : GoodC l := k.2.2.1
theorem Pc.low (k : Pc B E w p t J l) : B ≤ w.heap.size := by have := k.1 p k.2.1; omega
theorem Pc.kept {F : Nat → Obj → Prop} (k : Pc B E w p t J l) (hk : Rg.Kept F w w') (hE : ∀ k o, E k → ¬ F k o) : Pc B E w' p t J l := by
  obtain ⟨h1, h2, h3, v, mv, h4⟩ := k
  exact ⟨fun k e => ⟨(h1 k e).1, Nat.lt_of_lt_of_le (h1 k e).2 hk.size⟩, h2, h3, v, mv, h4.kept h2 hk hE⟩
theorem Pc.on (k : Pc B E w p t J l) (hb : Below w.heap.size w w') : Pc B E w' p t J l := k.kept (F := fun _ _ => False) (Rg.Kept.of_below hb) (fun _ _ _ h => h)
theorem Pc.grow {W : World} (k : Pc B E w p t J l) (hB : B ≤ W.heap.size) : Pc B (growE E W w) w p t J l := by
  obtain ⟨h1, h2, h3, v, mv, h4⟩ := k
  exact ⟨fun k e => e.elim (h1 k) (fun e => ⟨by omega, e.2⟩), .inl h2, h3, v, mv, h4.mono (fun _ e => .inl e)⟩
theorem Pc.bel (k : Pc B E w p t J l) (hk : Rg.Kept (fun i _ => E i) w w') : Below B w w' := hk.bel k.low (fun i _ e => (k.1 i e).1)
theorem PcV.cellI (k : PcV B E w p t J l v mv) : w.cell? ⟨p, J.length, none⟩ = some v := by rw [cell_of k.1]; exact jat0 J v mv
theorem PcV.cellM (k : PcV B E w p t J l v mv) : w.cell? ⟨p, J.length + 1, none⟩ = some mv := by rw [cell_of k.1]; exact jat1 J v mv
theorem PcV.frozen (k : PcV B E w p t J l v mv) (i : Nat) : w.frozen? ⟨p, i, none⟩ = false := frozen_of_row _ _ _ _ _ k.1
theorem PcV.lt (k : PcV B E w p t J l v mv) : p < w.heap.size := (Array.getElem?_eq_some_iff.1 k.1).1
end
theorem zeroL (w : World) : (zeroValue 140).run Tryz.prog w = .ok (pairV (0, 0)) w := by kernel_rfl
/-- A look-up in the book's map. -/
theorem PcV.look {B : Nat} {E : Nat → Prop} {w : World} {p : Nat} {t : NotI} {J : List Value} {l : List (Int × Int × Int)} {v mv : Value} (k : PcV B E w p t J l v mv) {id : Int} (hw : (Lit.int .i64 id).wf = true) :
    (Instr.lookup 122 mv (.int .i64 id) true).run Tryz.prog w = .ok (.tuple #[pairV ((findP l id).getD (0, 0)), .bool (findP l id).isSome]) w := by
  rcases k.2.2.2 with ⟨rfl, rfl⟩ | ⟨b, rfl, _, h⟩
  · show _ = Result.ok (Value.tuple #[pairV (0, 0), .bool false]) w
    kernel_rfl
  · exact h.look_ok Tryz.underlying3 Tryz.underlying122 (zeroL _) hw

theorem pnew_any (w : World) : Calls Tryz.prog 124 #[] w fun e w' => ∃ p, e = .returned (.pointer (some ⟨p, 0, none⟩)) ∧ p = w.heap.size ∧ Pc w.heap.size (fun k => k = p) w' p tBook [] [] ∧ Below w.heap.size w w' ∧ w' = w.alloc (.cells #[.slice none 0 0, .map none] 124) := by
  go_enter Tryz.func124, Tryz.ntmps124
  go_wp2
  go_ret
  refine ⟨_, rfl, rfl, ⟨fun k e => ?_, rfl, GoodC.new, .slice none 0 0, .map none, World.alloc_heap_new _ _, World.ownsRow_nil _ _ _ _, fun k e => by simp [Value.ownBlock] at e, .inl ⟨rfl, rfl⟩⟩, bel_al (Below.refl _ _) _, rfl⟩
  subst e
  exact ⟨Nat.le_refl _, by simp⟩
theorem pisid_any (id : Int) (w : World) : Calls Tryz.prog 153 #[.int .i64 id] w fun e w' => e = .returned (.bool (isI id)) ∧ w = w' := by
  by_cases h0 : 1 ≤ id
  · by_cases h1 : id ≤ 999
    · have hm : true = isI id := (isI_iff.2 ⟨h0, h1⟩).symm
      rw [← hm]
      clear hm
      go_enter Tryz.func153, Tryz.ntmps153
      go_wp2
      go_ret
      exact ⟨rfl, rfl⟩
    · have hm : false = isI id := by unfold isI; simp; omega
      rw [← hm]
      clear hm
      go_enter Tryz.func153, Tryz.ntmps153
      go_wp2
      go_ret
      exact ⟨rfl, rfl⟩
  · have hm : false = isI id := by unfold isI; simp; omega
    rw [← hm]
    clear hm
    go_enter Tryz.func153, Tryz.ntmps153
    go_wp2
    go_ret
    exact ⟨rfl, rfl⟩
theorem pisitem_any (id : Int) (w : World) : Calls Tryz.prog 154 #[.int .i64 id] w fun e w' => e = .returned (.bool (isIt id)) ∧ w = w' := by
  by_cases h0 : 0 ≤ id
  · by_cases h1 : id < 8
    · have hm : true = isIt id := (isIt_iff.2 ⟨h0, h1⟩).symm
      rw [← hm]
      clear hm
      go_enter Tryz.func154, Tryz.ntmps154
      go_wp2
      go_ret
      exact ⟨rfl, rfl⟩
    · have hm : false = isIt id := by unfold isIt; simp; omega
      rw [← hm]
      clear hm
      go_enter Tryz.func154, Tryz.ntmps154
      go_wp2
      go_ret
      exact ⟨rfl, rfl⟩
  · have hm : false = isIt id := by unfold isIt; simp; omega
    rw [← hm]
    clear hm
    go_enter Tryz.func154, Tryz.ntmps154
    go_wp2
    go_ret
    exact ⟨rfl, rfl⟩
theorem pisqty_any (q : Int) (w : World) : Calls Tryz.prog 155 #[.int .i64 q] w fun e w' => e = .returned (.bool (decide (1 ≤ q ∧ q ≤ 1000000000))) ∧ w = w' := by
  by_cases h0 : 1 ≤ q
  · by_cases h1 : q ≤ 1000000000
    · have hm : true = decide (1 ≤ q ∧ q ≤ 1000000000) := by simp; omega
      rw [← hm]
      clear hm
      go_enter Tryz.func155, Tryz.ntmps155
      go_wp2
      go_ret
      exact ⟨rfl, rfl⟩
    · have hm : false = decide (1 ≤ q ∧ q ≤ 1000000000) := by simp; omega
      rw [← hm]
      clear hm
      go_enter Tryz.func155, Tryz.ntmps155
      go_wp2
      go_ret
      exact ⟨rfl, rfl⟩
  · have hm : false = decide (1 ≤ q ∧ q ≤ 1000000000) := by simp; omega
    rw [← hm]
    clear hm
    go_enter Tryz.func155, Tryz.ntmps155
    go_wp2
    go_ret
    exact ⟨rfl, rfl⟩

set_option maxHeartbeats 400000 in
theorem phas_any {B : Nat} {E : Nat → Prop} {w : World} {p : Nat} {t : NotI} {J : List Value} {l : List (Int × Int × Int)} (k : Pc B E w p t J l) {id : Int} (hw : (Lit.int .i64 id).wf = true) :
    Calls Tryz.prog 156 #[.pointer (some ⟨p, J.length, none⟩), .int .i64 id] w fun e w' => e = .returned (.tuple #[.int .i64 ((findP l id).getD (0, 0)).1, .int .i64 ((findP l id).getD (0, 0)).2, .bool (findP l id).isSome]) ∧ Below w.heap.size w w' := by
  obtain ⟨-, -, -, v, mv, hv⟩ := k
  have c1 := hv.cellM
  have hl := hv.look hw
  obtain ⟨o, ho⟩ : ∃ o, (findP l id).isSome = o := ⟨_, rfl⟩
  obtain ⟨⟨x, y⟩, hc⟩ : ∃ c, (findP l id).getD (0, 0) = c := ⟨_, rfl⟩
  rw [ho, hc] at hl ⊢
  unfold pairV at hl
  clear hv hc ho
  dsimp only at hl ⊢
  go_enter Tryz.func156, Tryz.ntmps156
  go_wp2
  go_region
  go_wp2
  go_ret3
  exact ⟨rfl, by first | exact Below.refl _ _ | exact bel_al (Below.refl _ _) _ | exact (bel_al (Below.refl _ _) _).drew⟩
theorem phasnil_any (id : Int) (w : World) :
    Calls Tryz.prog 156 #[.pointer none, .int .i64 id] w fun e w' => e = .returned (.tuple #[.int .i64 0, .int .i64 0, .bool false]) ∧ w = w' := by
  go_enter Tryz.func156, Tryz.ntmps156
  go_wp2
  go_ret3
  exact ⟨rfl, rfl⟩
theorem pshipnil_any (id item qty : Int) (w : World) :
    Calls Tryz.prog 125 #[.pointer none, .int .i64 id, .int .i64 item, .int .i64 qty] w fun e w' => e = .returned (.int .i64 1) ∧ w = w' := by
  go_enter Tryz.func125, Tryz.ntmps125
  go_wp2
  go_ret
  exact ⟨rfl, rfl⟩
end Go.Proofs.YtihddekjicpihaaGreatDoor.Gd.Pu.Pa
/-
  Contract of parcel's Ship.
-/
namespace Go.Proofs.YtihddekjicpihaaGreatDoor.Gd.Pu.Pa
open Go.ChangeShapes Go.WideShapes Go.ChangeAt Go.RowKit Go.Maps

theorem cell_one_newI (w : World) (x : Value) (t : TypeId) : ∀ j u, [x][j]? = some u → (w.alloc (.cells #[x] t)).cell? ((⟨w.heap.size, 0, none⟩ : Addr).add j) = some u := by
  intro j u hj
  rw [st_add', Nat.zero_add]
  have e : (w.alloc (.cells #[x] t)).heap[w.heap.size]? = some (.cells #[x] t (0, 0)) := World.alloc_heap_new w _
  rw [cell_of e]
  simpa using hj
/-- A row of numbers of one's own, one more behind it: what has turned. -/
theorem row_more {B : Nat} {E : Nat → Prop} {U w4 : World} {v v' : Value} {n m : Nat} {xs ys : List Value} {t : TypeId} (hE : ∀ k, v.ownBlock = some k → E k) (hr : U.ownsRow B t 1 v n xs) {o : Obj} (hg : (U.alloc o).grownBy w4 v.ownBlock) (hown : w4.ownsRow B t 1 v' m ys) (hblk : v'.ownBlock = v.ownBlock ∨ v'.ownBlock = some (U.alloc o).heap.size) :
    Rg.Kept (fun i o => E i ∧ ∃ cs, o = .cells cs t (0, 0)) U w4 ∧ (∀ k, v'.ownBlock = some k → E k ∨ (U.heap.size ≤ k ∧ k < w4.heap.size)) := by
  have hvb : ∀ k, v.ownBlock = some k → ∃ cs, U.heap[k]? = some (Obj.cells cs t (0, 0)) := fun k e => by
    rcases hr.2 with ⟨rfl, _⟩ | ⟨g, cap, cur, rfl, _, hc, _⟩
    · simp [Value.ownBlock] at e
    · simp [Value.ownBlock] at e; subst e; exact ⟨cur, hc⟩
  refine ⟨⟨hg.os, hg.tape, hg.output, by have := hg.size; simp at this; omega, fun k o' hk hx => ?_⟩, fun k e => ?_⟩
  · have hlt : k < U.heap.size := (Array.getElem?_eq_some_iff.1 hk).1
    rw [hg.block k (by simp; omega) (fun e => ?_), Below.heap_alloc _ _ _ hlt]
    · exact hk
    · obtain ⟨cs, hcs⟩ := hvb k e.symm
      rw [hk] at hcs
      cases hcs
      exact hx ⟨hE k e.symm, cs, rfl⟩
  · rcases hblk with h | h
    · exact .inl (hE k (h ▸ e))
    · rw [h] at e
      have h1 := (hown.lt k (h.trans e)).2
      have h2 : (U.alloc o).heap.size = k := Option.some.inj e
      simp at h2
      exact .inr ⟨by omega, h1⟩
/-- One number more. -/
theorem append_num1 {w : World} {ops : Array Oper} {rest : List Oper} {o : Oper} {a : Act} {Q : Exit → Act → World → Prop} (hgd : o.guard = none) (s x : Operand)
    (ho : o.op = .call { callee := .builtin .append, args := #[s, x], argTypes := #[22, 22] })
    (base : Nat) (v : Value) (n : Nat) (L : List Value) (hs : a.eval s = v) (hown : w.ownsRow base 3 1 v n L) (z : Int)
    {ab : Nat} (hx : a.eval x = .slice (some ⟨ab, 0, none⟩) 1 1) (hab : ab = w.heap.size) (hb : n ≤ 1000000) (hbase : base ≤ w.heap.size)
    (h : ∀ a' c' w', w'.ownsRow base 3 1 (.slice a' (n + 1) c') (n + 1) (L ++ [.int .i64 z]) → (w.alloc (.cells #[.int .i64 z] 3)).grownBy w' v.ownBlock → ((Value.slice a' (n + 1) c').ownBlock = v.ownBlock ∨ (Value.slice a' (n + 1) c').ownBlock = some (w.alloc (.cells #[.int .i64 z] 3)).heap.size) → wpList Tryz.prog ops Q rest (a.put o.dst (.slice a' (n + 1) c')) w') : wpList Tryz.prog ops Q (o :: rest) a (w.alloc (.cells #[.int .i64 z] 3)) := by
  subst hab
  obtain ⟨i0, hi, hz0, hz1, hz2⟩ := info_parts Tryz.infoNum
  refine wpList_append_own_at _ hgd s x 22 ho base 3 i0 _ 1 8 Tryz.underlying22 hi hz0 hz1 hz2 rfl (by decide) v n L hs (hown.alloc _) ⟨w.heap.size, 0, none⟩ 1 1 [.int .i64 z] hx rfl (cell_one_newI _ _ _) (by simp [Value.oneCell']) (by unfold maxLen; omega) (by omega) (by simp; omega) ?_
  intro v' w' h1 h2 _ h4
  obtain ⟨a', c', rfl, _⟩ := row_slice h1
  exact h a' c' w' h1 h2 h4
theorem Pc.wide {B : Nat} {E E' : Nat → Prop} {w : World} {p : Nat} {t : NotI} {J : List Value} {l : List (Int × Int × Int)} (k : Pc B E w p t J l) (h : ∀ k, E k → E' k) (h' : ∀ k, E' k → B ≤ k ∧ k < w.heap.size) : Pc B E' w p t J l := by
  obtain ⟨_, h2, h3, v, mv, h4⟩ := k
  exact ⟨h', h _ h2, h3, v, mv, h4.mono h⟩
/-- What is turned behind all that lay is no matter. -/
theorem kept_more {E F : Nat → Obj → Prop} {w V U : World} (h : Rg.Kept E w V) (k : Rg.Kept F V U) (hF : ∀ i o, F i o → E i o ∨ w.heap.size ≤ i) : Rg.Kept E w U :=
  ⟨k.os.trans h.os, k.tape.trans h.tape, k.output.trans h.output, Nat.le_trans h.size k.size, fun i o hi hx => k.block i o (h.block i o hi hx) (fun e => (hF i o e).elim hx (fun e => by have := (Array.getElem?_eq_some_iff.1 hi).1; omega))⟩
/-- Behind the append and the store of the row; then what a store into the map makes. -/
theorem ship_next {B : Nat} {E : Nat → Prop} {U w4 : World} {p b : Nat} {t : NotI} {J : List Value} {l : List (Int × Int × Int)} {v v' : Value} {id item qty : Int} (hv : PcV B E U p t J l v (.map (some b))) (hE : ∀ k, E k → B ≤ k ∧ k < U.heap.size) (hp : E p) (hf : findP l id = none) (hG : GoodC (l ++ [(id, item, qty)])) (hw : (Lit.int .i64 id).wf = true)
    {o : Obj} (hg : (U.alloc o).grownBy w4 v.ownBlock) (hown : w4.ownsRow B 3 1 v' (l.length + 1) ((idsP l).map (Value.int .i64) ++ [.int .i64 id])) (hblk : v'.ownBlock = v.ownBlock ∨ v'.ownBlock = some (U.alloc o).heap.size) :
    w4.cell? ⟨p, J.length, none⟩ = some v ∧ w4.frozen? ⟨p, J.length, none⟩ = false ∧ (w4.setCell ⟨p, J.length, none⟩ v').cell? ⟨p, J.length + 1, none⟩ = some (.map (some b)) ∧ p < w4.heap.size ∧
    ∀ X, Below w4.heap.size (w4.setCell ⟨p, J.length, none⟩ v') X → ∃ w6, (Instr.mapUpdate 122 (.map (some b)) (.int .i64 id) (.agg #[.int .i64 item, .int .i64 qty])).run Tryz.prog X = .ok () w6 ∧ Pc B (growE E U w6) w6 p t J (l ++ [(id, item, qty)]) ∧ Rg.Kept (fun i _ => E i) U w6 := by
  obtain ⟨kp, hvb⟩ := row_more hv.2.2.1 hv.2.1 hg hown hblk
  have hm := hv.2.2.2
  obtain ⟨b', eb, hEb, hmx⟩ : ∃ b', Value.map (some b) = .map (some b') ∧ E b' ∧ Mx pairOf Tryz.prog 3 U b' l.length (findP l) := by
    rcases hm with ⟨e, _⟩ | h
    · cases e
    · exact h
  cases eb
  have hnp : ¬ (E p ∧ ∃ cs, Obj.cells (J ++ [v, .map (some b)]).toArray t.1 (0, 0) = .cells cs 3 (0, 0)) := by
    rintro ⟨_, cs, e⟩
    simp only [Obj.cells.injEq] at e
    exact t.2 e.2.1
  have h4 := kp.block _ _ hv.1 hnp
  have hlt : p < w4.heap.size := (Array.getElem?_eq_some_iff.1 h4).1
  have h5 : (w4.setCell ⟨p, J.length, none⟩ v').heap[p]? = some (.cells (J ++ [v', .map (some b)]).toArray t.1 (0, 0)) := by
    rw [heap_setCell_same _ _ _ _ _ _ h4, jset0]
  have m4 : Mx pairOf Tryz.prog 3 w4 b l.length (findP l) := by
    obtain ⟨D, ⟨es, c, h1, h2⟩, hft⟩ := hmx
    exact ⟨D, ⟨es, c, kp.block _ _ h1 (fun ⟨_, cs, e⟩ => by cases e), h2⟩, hft⟩
  have m5 := m4.set (a := ⟨p, J.length, none⟩) (m4.ne h4) v'
  have hvp : ∀ k, v'.ownBlock = some k → k ≠ p := fun k e e2 => by
    subst e2
    rcases hown.2 with ⟨e1, _⟩ | ⟨g, cap, cur, rfl, _, hc, _⟩
    · rw [e1] at e; simp [Value.ownBlock] at e
    · simp [Value.ownBlock] at e
      subst e
      rw [h4] at hc
      simp only [Option.some.injEq, Obj.cells.injEq] at hc
      exact t.2 hc.2.1
  refine ⟨by rw [cell_of h4]; exact jat0 J _ _, frozen_of_row _ _ _ _ _ h4, by rw [cell_of h5]; exact jat1 J _ _, hlt, fun X hX => ?_⟩
  have hX' : Below (w4.setCell ⟨p, J.length, none⟩ v').heap.size (w4.setCell ⟨p, J.length, none⟩ v') X := by simpa using hX
  have hlen := hG.len
  rw [List.length_append, List.length_singleton] at hlen
  obtain ⟨w6, hr, m6, k6⟩ := (m5.on hX').put Tryz.underlying3 Tryz.underlying122 hw (by omega) (item, qty)
  have k5 : Rg.Kept (fun i _ => E i) U (w4.setCell ⟨p, J.length, none⟩ v') := (kp.mono (fun _ _ e => e.1)).trans (Rg.Kept.setCell _ (fun _ => hp))
  have k66 : Rg.Kept (fun i _ => E i) U w6 := (k5.trans (Rg.Kept.of_below hX')).trans (k6.mono (fun _ _ e => by rw [e]; exact hEb))
  have h6 : Rg.Kept (fun i _ => i = b) (w4.setCell ⟨p, J.length, none⟩ v') w6 := (Rg.Kept.of_below hX').trans k6
  have s6 : w4.heap.size ≤ w6.heap.size := by have := h6.size; simpa using this
  refine ⟨w6, hr, ⟨fun k e => ?_, .inl hp, hG, v', .map (some b), h6.block _ _ h5 (m4.ne h4).symm, ?_, fun k e => ?_, .inr ⟨b, rfl, .inl hEb, ?_⟩⟩, k66⟩
  · rcases e with e | e
    · have := hE k e
      have := k66.size
      omega
    · have := hE p hp
      omega
  · have e1 : (idsP (l ++ [(id, item, qty)])).map (Value.int .i64) = (idsP l).map (Value.int .i64) ++ [.int .i64 id] := by simp [idsP]
    rw [List.length_append, List.length_singleton, e1]
    refine ⟨hown.1, ?_⟩
    rcases hown.2 with h | ⟨g, cap, cur, rfl, hb, hc, rest⟩
    · exact .inl h
    · refine .inr ⟨g, cap, cur, rfl, hb, h6.block _ _ ?_ (fun e => ?_), rest⟩
      · rw [Below.heap_setCell _ _ _ _ (show g ≠ (⟨p, J.length, none⟩ : Addr).block from hvp g rfl)]
        exact hc
      · subst e
        exact m4.ne hc rfl
  · rcases hvb k e with e | e
    · exact .inl e
    · exact .inr ⟨e.1, by omega⟩
  · rw [List.length_append, List.length_singleton]
    have e2 : findP (l ++ [(id, item, qty)]) = updO (findP l) id (some (item, qty)) := by
      funext x
      rw [findP_app, findP_one]
      by_cases e : x = id
      · subst e; rw [updO_same, if_pos rfl, hf]; rfl
      · rw [updO_other _ _ e, if_neg (fun h => e h.symm)]; cases findP l x <;> rfl
    rw [e2]
    exact m6
set_option maxRecDepth 100000 in
set_option maxHeartbeats 1000000 in
theorem pship_any {B : Nat} {E : Nat → Prop} {w : World} {p : Nat} {t : NotI} {J : List Value} {l : List (Int × Int × Int)} (k : Pc B E w p t J l) {id : Int} (hw : (Lit.int .i64 id).wf = true) (item qty : Int) :
    Calls Tryz.prog 125 #[.pointer (some ⟨p, J.length, none⟩), .int .i64 id, .int .i64 item, .int .i64 qty] w fun e w' => e = .returned (.int .i64 (shipE l id item qty)) ∧ Pc B (growE E w w') w' p t J (shipL l id item qty) ∧ Rg.Kept (fun i _ => E i) w w' := by
  have P1 := pisid_any id w
  have P2 := pisitem_any item w
  have P3 := pisqty_any qty w
  have HLW := hide k.low
  by_cases hg : isI id = true ∧ isIt item = true ∧ 1 ≤ qty ∧ qty ≤ 1000000000
  · have g1 := hg.1
    have g2 := hg.2.1
    have g3 : decide (1 ≤ qty ∧ qty ≤ 1000000000) = true := by simp; exact hg.2.2
    rw [g1] at P1
    rw [g2] at P2
    rw [g3] at P3
    clear g1 g2 g3
    cases hf : findP l id with
    | some c =>
      have e8 : shipE l id item qty = 8 := by rw [shipE_of hg, hf]; rfl
      rw [e8, shipL_no (by omega)]
      have HK := hide k
      obtain ⟨-, -, -, v, mv, hv⟩ := k
      have c1 := hv.cellM
      have hl := hv.look hw
      rw [hf] at hl
      obtain ⟨x, y⟩ := c
      unfold pairV at hl
      dsimp only [Option.getD, Option.isSome] at hl
      clear hv hf hg e8
      go_enter Tryz.func125, Tryz.ntmps125
      go_wp2_with (first
        | (go_at_call 153; refine P1.mono ?_; rintro e w1 ⟨rfl, rfl⟩)
        | (go_at_call 154; refine P2.mono ?_; rintro e w1 ⟨rfl, rfl⟩)
        | (go_at_call 155; refine P3.mono ?_; rintro e w1 ⟨rfl, rfl⟩))
      go_ret
      first
        | exact ⟨rfl, HK.out.grow HLW.out, Rg.Kept.refl _ _⟩
        | exact ⟨rfl, (HK.out.on (bel_al (Below.refl _ _) _)).grow HLW.out, Rg.Kept.of_below (bel_al (Below.refl _ _) _)⟩
    | none =>
      have e0 : shipE l id item qty = 0 := by rw [shipE_of hg, hf]; rfl
      rw [e0]
      have HG := hide (k.good.ship id item qty)
      rw [shipL_ok e0] at HG ⊢
      obtain ⟨hE, hp, -, v, mv, hv⟩ := k
      have hlen : l.length ≤ 1000000 := by have := HG.out.len; simp at this; omega
      have c1 := hv.cellM
      have hl := hv.look hw
      rw [hf] at hl
      unfold pairV at hl
      dsimp only [Option.getD, Option.isSome] at hl
      have hm := hv.2.2.2
      rcases hm with ⟨rfl, hl0⟩ | ⟨b, rfl, hEb, hmx⟩
      · subst hl0
        have hrow := hv.2.1
        obtain ⟨av, cv, rfl, -⟩ := row_slice hrow
        have c0 := hv.cellI
        have hlt := hv.lt
        have f1 := hv.frozen (J.length + 1)
        have hnm : ∀ u : World, (binOp BinOp.eql 122 (.map none) (.map none)).run Tryz.prog u = .ok (.bool true) u := fun _ => by kernel_rfl
        have hmm := @run_makeMap Tryz.prog
        obtain ⟨V, hV⟩ : ∃ V, V = ((w.alloc (.cells #[.int .i64 0, .int .i64 0] 140)).alloc (.map #[] 0)).setCell ⟨p, J.length + 1, none⟩ (.map (some (w.heap.size + 1))) := ⟨_, rfl⟩
        have hb2 : Below w.heap.size w ((w.alloc (.cells #[.int .i64 0, .int .i64 0] 140)).alloc (.map #[] 0)) := bel_al (bel_al (Below.refl _ _) _) _
        have hkV : Rg.Kept (fun i _ => E i) w V := by rw [hV]; exact (Rg.Kept.of_below hb2).trans (Rg.Kept.setCell _ (fun _ => hp))
        have hzV : V.heap.size = w.heap.size + 2 := by rw [hV]; simp
        have hvV : PcV B (fun k => E k ∨ k = w.heap.size + 1) V p t J [] (.slice av 0 cv) (.map (some (w.heap.size + 1))) := by
          have h2 := hv.kept (F := fun _ _ => False) hp (Rg.Kept.of_below hb2) (fun _ _ _ h => h)
          refine ⟨?_, ⟨hrow.1, ?_⟩, fun k e => .inl (hv.2.2.1 k e), .inr ⟨_, rfl, .inr rfl, ?_⟩⟩
          · rw [hV, heap_setCell_same _ _ _ _ _ _ h2.1, jset1]
            rfl
          · rcases h2.2.1.2 with h | ⟨g, cap, cur, e, hg', hc, rest⟩
            · exact .inl h
            · refine .inr ⟨g, cap, cur, e, hg', ?_, rest⟩
              rw [hV, Below.heap_setCell _ _ _ _ (show g ≠ (⟨p, J.length + 1, none⟩ : Addr).block from ?_)]
              · exact hc
              · rintro rfl
                have h3 := h2.1
                rw [hc] at h3
                simp only [Option.some.injEq, Obj.cells.injEq] at h3
                exact t.2 h3.2.1.symm
          · have m := Mx.new pairOf Tryz.prog 3 (w.alloc (.cells #[.int .i64 0, .int .i64 0] 140))
            rw [World.size_alloc] at m
            have m2 := m.set (a := ⟨p, J.length + 1, none⟩) (show w.heap.size + 1 ≠ p by omega) (.map (some (w.heap.size + 1)))
            rw [← hV] at m2
            exact m2
        have hrV := hvV.2.1
        have HLV : Hid (B ≤ V.heap.size) := by show B ≤ _; rw [hzV]; exact Nat.le_trans HLW.out (by omega)
        have HFIN : Hid (∀ (w4 : World) (v' : Value) (o : Obj), (V.alloc o).grownBy w4 (Value.slice av 0 cv).ownBlock → w4.ownsRow B 3 1 v' (0 + 1) (List.map (Value.int .i64) (idsP []) ++ [.int .i64 id]) → (v'.ownBlock = (Value.slice av 0 cv).ownBlock ∨ v'.ownBlock = some (V.alloc o).heap.size) → _) := fun w4 v' o g1 g2 g3 => ship_next hvV (fun k e => e.elim (fun e => ⟨(hE k e).1, by have := (hE k e).2; omega⟩) (fun e => ⟨by have := HLW.out; omega, by omega⟩)) (.inl hp) hf HG.out hw g1 g2 g3
        have HKV := hide hkV
        have HZV := hide hzV
        have dV : V.cell? ⟨p, J.length, none⟩ = some (.slice av 0 cv) := hvV.cellI
        have HVW : Hid (V = ((w.setCell ⟨p, J.length + 1, none⟩ (.map (some (w.heap.size + 1)))).alloc (.cells #[.int .i64 0, .int .i64 0] 140)).alloc (.map #[] 0)) := by show V = _; rw [hV]; simp [go_sem, hlt, show p < w.heap.size + 1 by omega]
        clear hvV hkV hzV hV hrow
        go_enter Tryz.func125, Tryz.ntmps125
        go_wp2_with (first
          | (go_at_call 153; refine P1.mono ?_; rintro e w1 ⟨rfl, rfl⟩)
          | (go_at_call 154; refine P2.mono ?_; rintro e w1 ⟨rfl, rfl⟩)
          | (go_at_call 155; refine P3.mono ?_; rintro e w1 ⟨rfl, rfl⟩)
          | (at_builtin; rw [← HVW.out]; refine append_num1 rfl (.tmp 51) (.tmp 53) rfl B (.slice av 0 cv) 0 (List.map (Value.int .i64) (idsP [])) rfl hrV id rfl (by rw [HZV.out]) (by omega) HLV.out ?_; intro a4 c4 w4 hown4 hg4 hblk4; obtain ⟨d0, f0, d1, hlt4, hX⟩ := HFIN.out w4 _ _ hg4 hown4 hblk4; obtain ⟨w6, hr6, k6, o6⟩ := hX _ (Below.refl _ _); have HK6 := hide k6; have HO6 := hide o6; clear hX hown4 hg4 hblk4 k6 o6))
        go_ret
        refine ⟨rfl, HK6.out.wide (fun k e => ?_) (fun k e => ?_), kept_more HKV.out HO6.out (fun i _ e => e.imp (fun e => e) (fun e => by omega))⟩
        · have h1 := HZV.out
          have h2 := HO6.out.size
          rcases e with (e | e) | e
          · exact .inl e
          · exact .inr ⟨by omega, by omega⟩
          · exact .inr ⟨by omega, e.2⟩
        · have h1 := HZV.out
          have h2 := HO6.out.size
          rcases e with e | e
          · have := hE k e
            omega
          · have := HLW.out
            omega
      · have HV := hide hv
        have hrow := hv.2.1
        obtain ⟨av, cv, rfl, -⟩ := row_slice hrow
        have c0 := hv.cellI
        have hlt := hv.lt
        have hnm : ∀ u : World, (binOp BinOp.eql 122 (.map (some b)) (.map none)).run Tryz.prog u = .ok (.bool false) u := fun _ => by kernel_rfl
        have hbU : Below w.heap.size w (w.alloc (.cells #[.int .i64 0, .int .i64 0] 140)) := bel_al (Below.refl _ _) _
        have hrU := hrow.alloc (.cells #[.int .i64 0, .int .i64 0] 140)
        have HLU : Hid (B ≤ (w.alloc (.cells #[.int .i64 0, .int .i64 0] 140)).heap.size) := by show B ≤ _; rw [World.size_alloc]; exact Nat.le_succ_of_le HLW.out
        have HFIN : Hid (∀ (w4 : World) (v' : Value) (o : Obj), ((w.alloc (.cells #[.int .i64 0, .int .i64 0] 140)).alloc o).grownBy w4 (Value.slice av l.length cv).ownBlock → w4.ownsRow B 3 1 v' (l.length + 1) ((idsP l).map (Value.int .i64) ++ [.int .i64 id]) → (v'.ownBlock = (Value.slice av l.length cv).ownBlock ∨ v'.ownBlock = some ((w.alloc (.cells #[.int .i64 0, .int .i64 0] 140)).alloc o).heap.size) → _) := fun w4 v' o g1 g2 g3 => ship_next (hv.kept (F := fun _ _ => False) hp (Rg.Kept.of_below hbU) (fun _ _ _ h => h)) (fun k e => ⟨(hE k e).1, by have := (hE k e).2; simp; omega⟩) hp hf HG.out hw g1 g2 g3
        go_enter Tryz.func125, Tryz.ntmps125
        go_wp2_with (first
          | (go_at_call 153; refine P1.mono ?_; rintro e w1 ⟨rfl, rfl⟩)
          | (go_at_call 154; refine P2.mono ?_; rintro e w1 ⟨rfl, rfl⟩)
          | (go_at_call 155; refine P3.mono ?_; rintro e w1 ⟨rfl, rfl⟩)
          | (at_builtin; refine append_num1 rfl (.tmp 51) (.tmp 53) rfl B (.slice av l.length cv) l.length ((idsP l).map (Value.int .i64)) rfl hrU id rfl (by simp) (by omega) HLU.out ?_; intro a4 c4 w4 hown4 hg4 hblk4; obtain ⟨d0, f0, d1, hlt4, hX⟩ := HFIN.out w4 _ _ hg4 hown4 hblk4; obtain ⟨w6, hr6, k6, o6⟩ := hX _ (Below.refl _ _); have HK6 := hide k6; have HO6 := hide o6; clear hX hown4 hg4 hblk4 k6 o6))
        go_ret
        refine ⟨rfl, HK6.out.wide (fun k e => ?_) (fun k e => ?_), (Rg.Kept.of_below hbU).trans HO6.out⟩
        · rcases e with e | e
          · exact .inl e
          · exact .inr ⟨Nat.le_trans hbU.size e.1, e.2⟩
        · rcases e with e | e
          · have := hE k e
            have := HO6.out.size
            have := hbU.size
            omega
          · have := HLW.out
            omega
  · have e1 : shipE l id item qty = 1 := shipE_arg hg
    rw [e1, shipL_no (by omega)]
    have HK := hide k
    clear k e1
    cases h1 : isI id with
    | false =>
      rw [h1] at P1
      clear P2 P3 hg
      go_enter Tryz.func125, Tryz.ntmps125
      go_wp2_with (go_at_call 153; refine P1.mono ?_; rintro e w1 ⟨rfl, rfl⟩)
      go_ret
      exact ⟨rfl, HK.out.grow HLW.out, Rg.Kept.refl _ _⟩
    | true =>
      rw [h1] at P1
      cases h2 : isIt item with
      | false =>
        rw [h2] at P2
        clear P3 hg
        go_enter Tryz.func125, Tryz.ntmps125
        go_wp2_with (first
          | (go_at_call 153; refine P1.mono ?_; rintro e w1 ⟨rfl, rfl⟩)
          | (go_at_call 154; refine P2.mono ?_; rintro e w1 ⟨rfl, rfl⟩))
        go_ret
        exact ⟨rfl, HK.out.grow HLW.out, Rg.Kept.refl _ _⟩
      | true =>
        rw [h2] at P2
        have h3 : decide (1 ≤ qty ∧ qty ≤ 1000000000) = false := by
          simp only [decide_eq_false_iff_not]
          exact fun h => hg ⟨h1, h2, h⟩
        rw [h3] at P3
        clear hg h3
        go_enter Tryz.func125, Tryz.ntmps125
        go_wp2_with (first
          | (go_at_call 153; refine P1.mono ?_; rintro e w1 ⟨rfl, rfl⟩)
          | (go_at_call 154; refine P2.mono ?_; rintro e w1 ⟨rfl, rfl⟩)
          | (go_at_call 155; refine P3.mono ?_; rintro e w1 ⟨rfl, rfl⟩))
        go_ret
        exact ⟨rfl, HK.out.grow HLW.out, Rg.Kept.refl _ _⟩
end Go.Proofs.YtihddekjicpihaaGreatDoor.Gd.Pu.Pa
/-
  Contracts of parcel's all: an iterator over what went, in order.
-/
namespace Go.Proofs.YtihddekjicpihaaGreatDoor.Gd.Pu.Pa
open Go.ChangeShapes Go.WideShapes Go.ChangeAt Go.RowKit Go.Shelf Go.Maps

theorem findP_get {l : List (Int × Int × Int)} (hn : (idsP l).Nodup) {j : Nat} {x : Int × Int × Int} (h : l[j]? = some x) : findP l x.1 = some x.2 := by
  induction l generalizing j with
  | nil => simp at h
  | cons p l ih =>
    unfold idsP at hn
    rw [List.map_cons, List.nodup_cons] at hn
    rw [findP]
    cases j with
    | zero =>
      simp at h
      subst h
      rw [if_pos rfl]
    | succ j =>
      simp at h
      rw [if_neg (fun e => hn.1 (by rw [e]; exact List.mem_map.2 ⟨x, List.mem_of_getElem? h, rfl⟩))]
      exact ih hn.2 h
def encA (x : Int × Int × Int) : Array Value := #[.int .i64 x.1, pairV x.2]
theorem all_any (pv : Option Addr) (w : World) :
    Calls Tryz.prog 88 #[.pointer pv] w fun e w' => e = .returned (.func (.func 130) #[] #[.pointer (some ⟨w.heap.size, 0, none⟩)]) ∧ w' = w.alloc (.cells #[.pointer pv] 63) := by
  go_enter Tryz.func88, Tryz.ntmps88
  go_wp2
  go_ret
  exact ⟨rfl, rfl⟩
theorem take_preA {L : List (Int × Int × Int)} {j : Nat} {x : Int × Int × Int} (h : L[j]? = some x) : L.take j ++ [x] = L.take (j + 1) := by
  obtain ⟨hlt, e⟩ := List.getElem?_eq_some_iff.1 h
  rw [List.take_succ_eq_append_getElem hlt, e]
/-- A look-up in the book's map, without ok. -/
theorem PcV.look1 {B : Nat} {E : Nat → Prop} {w : World} {p : Nat} {t : NotI} {JH : List Value} {l : List (Int × Int × Int)} {v mv : Value} (k : PcV B E w p t JH l v mv) {id : Int} (hw : (Lit.int .i64 id).wf = true) :
    (Instr.lookup 122 mv (.int .i64 id) false).run Tryz.prog w = .ok (pairV ((findP l id).getD (0, 0))) w := by
  rcases k.2.2.2 with ⟨rfl, rfl⟩ | ⟨b, rfl, _, h⟩
  · show _ = Result.ok (pairV (0, 0)) w
    kernel_rfl
  · exact h.look Tryz.underlying3 Tryz.underlying122 (zeroL _) hw

set_option maxHeartbeats 1000000 in
theorem allnil_seq {F : Nat → Obj → Prop} {w : World} {Bi : Nat} (hbi : w.heap[Bi]? = some (.cells #[.pointer none] 63 (0, 0))) : Rg2.SeqA Tryz.prog F 130 #[.pointer (some ⟨Bi, 0, none⟩)] encA [] w := by
  intro l J Jx W hW hwl hlW hJ hJx hY h0
  have hb : W.heap[Bi]? = some (.cells #[.pointer none] 63 (0, 0)) := (hW.block _ (Array.getElem?_eq_some_iff.1 hbi).1).trans hbi
  have c0 : W.cell? ⟨Bi, 0, none⟩ = some (.pointer none) := by rw [cell_of hb]; rfl
  refine callsIn_wide.2 ((callsIn_wide (n := 5)).1 ?_)
  have HJ0 := hide h0
  clear hY hJ hJx h0 hW hbi hb
  refine callsIn_of_wp Tryz.func130 rfl trivial ?_ rfl
  simp only [Tryz.ntmps130, List.size_toArray, List.length_cons, List.length_nil, Nat.reduceAdd, Nat.reduceSub, Array.replicate_succ, Array.replicate_zero, List.push_toArray, List.append_toArray, List.nil_append, List.cons_append]
  gi_wp2
  refine bodyPost_ret (results_none rfl _ _ _) rfl ?_
  exact ⟨⟨_, rfl⟩, .inl HJ0.out⟩

set_option maxRecDepth 100000 in
set_option maxHeartbeats 2000000 in
theorem all_seq {F : Nat → Obj → Prop} {B : Nat} {E : Nat → Prop} {w : World} {p Bi : Nat} {t : NotI} {JH : List Value} {L : List (Int × Int × Int)} (k : Pc B E w p t JH L) (hbi : w.heap[Bi]? = some (.cells #[.pointer (some ⟨p, JH.length, none⟩)] 63 (0, 0))) (hF : ∀ k o, E k → ¬ F k o) (hFi : ∀ o, ¬ F Bi o) :
    Rg2.SeqA Tryz.prog F 130 #[.pointer (some ⟨Bi, 0, none⟩)] encA L w := by
  intro l J Jx W hW hwl hlW hJ hJx hY h0
  have kW := k.on hW
  have hlow := k.1
  obtain ⟨-, hp, hG, v, mv, hv⟩ := kW
  have hb : W.heap[Bi]? = some (.cells #[.pointer (some ⟨p, JH.length, none⟩)] 63 (0, 0)) := (hW.block _ (Array.getElem?_eq_some_iff.1 hbi).1).trans hbi
  have hBl : Bi < w.heap.size := (Array.getElem?_eq_some_iff.1 hbi).1
  have c0 : W.cell? ⟨Bi, 0, none⟩ = some (.pointer (some ⟨p, JH.length, none⟩)) := by rw [cell_of hb]; rfl
  have HEA := hide hv
  have HBX := hide hb
  have hlen := hG.len
  have HG := hide hG
  have HP := hide hp
  have HKE : Hid (∀ k o, E k → ¬ (F k o ∨ k = l)) := fun k o h1 h4 => h4.elim (hF k o h1) (fun e => by have := (hlow k h1).2; omega)
  have HKB : Hid (∀ o, ¬ (F Bi o ∨ Bi = l)) := fun o h4 => h4.elim (hFi o) (fun e => by omega)
  obtain ⟨a, c, rfl, -, hi0⟩ := owned_nums hv.2.1
  have c1 := hv.cellI
  refine callsIn_wide.2 ((callsIn_wide (n := 5)).1 ?_)
  have HY : Hid (∀ pre x W1, J pre W1 → pre ++ [x] <+: L → YieldAt Fence.wide 4 Tryz.prog l (encA x) W1 fun e W' => Rg.Kept (fun k o => F k o ∨ k = l) W1 W' ∧ ((e = .returned (.bool true) ∧ J (pre ++ [x]) W') ∨ (e = .returned (.bool false) ∧ Jx (pre ++ [x]) W'))) := fun pre x W1 h1 h2 => Rg.yield_any0 (hY pre x W1 h1 h2)
  have HJ0 := hide h0
  clear hY hJ hJx h0 hW hi0 hv hb hbi k hF hFi hG hp hlow
  refine callsIn_of_wp Tryz.func130 rfl trivial ?_ rfl
  simp only [Tryz.ntmps130, List.size_toArray, List.length_cons, List.length_nil, Nat.reduceAdd, Nat.reduceSub, Array.replicate_succ, Array.replicate_zero, List.push_toArray, List.append_toArray, List.nil_append, List.cons_append]
  gi_wp2
  gi_loopw [12] (fun i wr => ∃ j : Nat, i = .int .i64 j ∧ j ≤ L.length ∧ Hid (J (L.take j) wr) ∧ Hid (PcV B E wr p t JH L (.slice a L.length c) mv) ∧ Hid (wr.heap[Bi]? = some (.cells #[.pointer (some ⟨p, JH.length, none⟩)] 63 (0, 0)))) (fun i _ => L.length - (Go.RowKit.intOf i).toNat)
  case atStart => exact ⟨0, rfl, Nat.zero_le _, HJ0, HEA, HBX⟩
  case round =>
    obtain ⟨j, rfl, hj, HJ, HV, HB⟩ := hrel
    clear c0 c1 HJ0 HEA HBX
    by_cases hlt : j < L.length
    · obtain ⟨x, hx⟩ : ∃ x, L[j]? = some x := ⟨L[j], by simp [hlt]⟩
      have hfx := findP_get HG.out.nd hx
      have hat := (HG.out.at_ x (List.mem_of_getElem? hx)).1
      have hl := HV.out.look1 (id := x.1) (wf_of (by omega) (by omega))
      rw [hfx] at hl
      obtain ⟨a', c', ev, -, hi⟩ := owned_nums HV.out.2.1
      cases ev
      rcases hi with hi | ⟨ba, oa, rfl, hca⟩
      · exfalso; rw [← List.length_eq_zero_iff, idsP_len] at hi; omega
      have h1 := hca j (by rw [idsP_len]; exact hlt)
      have hxd : (idsP L).getD j 0 = x.1 := by simp [idsP, List.getD, hx]
      rw [hxd] at h1
      have hpre : L.take j ++ [x] = L.take (j + 1) := take_preA hx
      obtain ⟨fn, tmps, assign, body, hy, hR⟩ := HY.out (L.take j) x wr HJ.out (by rw [hpre]; exact List.take_prefix _ _)
      rw [hpre] at hR
      have HPE := hide hpre
      have c0 : wr.cell? ⟨Bi, 0, none⟩ = some (.pointer (some ⟨p, JH.length, none⟩)) := by rw [cell_of HB.out]; rfl
      have c1 := HV.out.cellM
      obtain ⟨x0, x1, x2⟩ := x
      clear hpre hx hca hxd hfx hat
      unfold pairV at hl
      dsimp only [encA, pairV, Option.getD] at hy hl h1
      have q1 : (j : Int) < (L.length : Int) := by omega
      gi_wp2
      refine hR.mono ?_
      rintro e W3 ⟨hk3, (⟨rfl, hJ3⟩ | ⟨rfl, hJ3⟩)⟩
      · have HJ3 := hide hJ3
        have HV3 := hide (HV.out.kept HP.out hk3 HKE.out)
        have HB3 := hide (hk3.block _ _ HB.out (HKB.out _))
        clear hJ3 hk3 hR h1
        gi_wp2
        go_roundw
        case rel => exact ⟨j + 1, by go_num, by omega, HJ3, HV3, HB3⟩
        case measure => simp [Go.RowKit.intOf]; omega
      · have HJ3 := hide hJ3
        clear hJ3 hk3 hR h1
        gi_wp2
        refine bodyPost_ret (results_none rfl _ _ _) rfl ?_
        exact ⟨⟨_, rfl⟩, .inr ⟨_, by rw [← HPE.out]; simp, List.take_prefix _ _, HJ3.out⟩⟩
    · have q1 : ¬ (j : Int) < (L.length : Int) := by omega
      have HJ3 : Hid (J L wr) := by
        have := HJ.out
        rwa [List.take_of_length_le (by omega)] at this
      gi_wp2
      go_end0
      exact ⟨⟨_, rfl⟩, .inl HJ3.out⟩
end Go.Proofs.YtihddekjicpihaaGreatDoor.Gd.Pu.Pa
/-
  Contracts of parcel's Went and Ids.
-/
namespace Go.Proofs.YtihddekjicpihaaGreatDoor.Gd.Pu.Pa
open Go.ChangeShapes Go.WideShapes Go.ChangeAt Go.RowKit Go.Shelf Go.Maps

attribute [local go_sem] Oper.semAt_some

theorem cells_stay {W W' : World} {row : Option Nat} {X : Nat} (hg : W.grownBy W' row) (hr : ∀ r, row = some r → X ≤ r ∧ ∃ o : Obj, W.heap[r]? = some o ∧ o.isCells = false) {k : Nat} {cs : Array Value} {t : TypeId} {f : Nat × Nat} (h : W.heap[k]? = some (.cells cs t f)) : W'.heap[k]? = W.heap[k]? :=
  hg.block k (Array.getElem?_eq_some_iff.1 h).1 (fun e => by
    obtain ⟨_, o, ho, hc⟩ := hr k e.symm
    rw [h] at ho
    cases ho
    cases hc)
/-- What Went's loop has, pre having come: the boxes of item and sum. -/
def WI (w : World) (item : Int) (pre : List (Int × Int × Int)) (W : World) : Prop :=
  Boxed W w.heap.size 3 (.int .i64 item) ∧ Boxed W (w.heap.size + 1) 3 (.int .i64 (wentP pre item)) ∧ Below w.heap.size w W ∧ w.heap.size + 2 ≤ W.heap.size
theorem WI.own {w : World} {item : Int} {X : Nat} (hX : w.heap.size ≤ X) : OwnFrom X (WI w item) := fun pre W W' row hs hg hr => by
  obtain ⟨h1, h3, h6, h7⟩ := hs
  refine ⟨(cells_stay hg hr h1).trans h1, (cells_stay hg hr h3).trans h3, ?_, Nat.le_trans h7 hg.size⟩
  exact h6.grown hg h6.size (fun k e => Nat.le_trans hX (hr k e).1)

/-- The frame of a round of Went's: the box of what came lies at q. -/
def WA (w : World) (pv : Option Addr) (item : Int) (x : Int × Int × Int) (q : Nat) : Act :=
  { tmps := #[.pointer pv, .int .i64 item, undef, .pointer (some ⟨w.heap.size, 0, none⟩), .int .i64 0, .pointer (some ⟨w.heap.size + 1, 0, none⟩), undef, .pointer (some ⟨q, 0, none⟩), .pointer pv, .func (.func 130) #[] #[.pointer (some ⟨w.heap.size + 1 + 1, 0, none⟩)], .int .i64 x.1, .agg #[.int .i64 x.2.1, .int .i64 x.2.2], undef, undef, undef, undef, undef, undef, undef, undef, undef], defers := [] }
def WX (w : World) (pv : Option Addr) (item : Int) (x : Int × Int × Int) (a' : Act) (W : World) : Prop :=
  ∃ q, W.heap[q]? = some (.cells #[.int .i64 x.2.1, .int .i64 x.2.2] 140 (0, 0)) ∧ a' = WA w pv item x q
theorem typ_neL : 140 ≠ 3 := by decide
theorem went_pre {L pre : List (Int × Int × Int)} (g : GoodC L) (h : pre <+: L) (item : Int) : 0 ≤ wentP pre item ∧ wentP pre item ≤ 1000000000000 := by
  obtain ⟨r, rfl⟩ := h
  have h1 := g.went item
  have h2 := wentP_pre (l := pre) (l' := r) (fun p hp => by have := (g.at_ p (List.mem_append_right _ hp)).2.2; omega) item
  have h3 := (wentP_bd (l := pre) (fun p hp => by have := (g.at_ p (List.mem_append_left _ hp)).2.2; omega) item).1
  omega

set_option maxRecDepth 100000 in
set_option maxHeartbeats 4000000 in
theorem went_gen (pv : Option Addr) (L : List (Int × Int × Int)) (hL : GoodC L) (w : World) (item : Int)
    (hS : ∀ (U : World) (Bi : Nat), Below w.heap.size w U → w.heap.size + 2 ≤ Bi → U.heap[Bi]? = some (.cells #[.pointer pv] 63 (0, 0)) → Rg2.SeqA Tryz.prog (fun k _ => k = w.heap.size + 1) 130 #[.pointer (some ⟨Bi, 0, none⟩)] encA L U) :
    Calls Tryz.prog 39 #[.pointer pv, .int .i64 item] w fun e w' => e = .returned (.int .i64 (wentP L item)) ∧ Below w.heap.size w w' := by
  refine (callsIn_wide (n := 5)).1 ?_
  obtain ⟨U, hU⟩ : ∃ U, U = (w.alloc (.cells #[.int .i64 item] 3)).alloc (.cells #[.int .i64 0] 3) := ⟨_, rfl⟩
  have hbU : Below w.heap.size w U := by rw [hU]; exact ((Below.refl _ _).alloc (Nat.le_refl _) _).alloc (by simp) _
  have hsz : U.heap.size = w.heap.size + 2 := by rw [hU]; simp
  have hbn : Boxed U w.heap.size 3 (.int .i64 item) := by rw [hU]; exact (Below.heap_alloc _ _ _ (by simp)).trans (World.alloc_heap_new w _)
  have hbl : Boxed U (w.heap.size + 1) 3 (.int .i64 0) := by
    have h2 := World.alloc_heap_new (w.alloc (.cells #[.int .i64 item] 3)) (.cells #[.int .i64 0] 3)
    rw [World.size_alloc] at h2
    rw [hU]; exact h2
  have HAU := (callsIn_wide (n := 4)).2 (all_any pv U)
  have HUW := hide hU
  have HL := hide hL
  have HS := hide hS
  rw [hU] at HAU
  clear hU hS hL
  have hnf : ∀ (u : World) (b : Nat), (binOp BinOp.eql 137 (.func (.func 130) #[] #[.pointer (some ⟨b, 0, none⟩)]) .nilFunc).run Tryz.prog u = .ok (.bool false) u := fun _ _ => by kernel_rfl
  refine callsIn_of_wp_marks Tryz.func39 rfl trivial ?_ rfl
  simp only [Tryz.ntmps39, List.size_toArray, List.length_cons, List.length_nil, Nat.reduceAdd, Nat.reduceSub, Array.replicate_succ, Array.replicate_zero, List.push_toArray, List.append_toArray, List.nil_append, List.cons_append]
  gi_wp2_with fail
  refine ⟨trivial, HAU.mono ?_⟩
  rintro e w1 ⟨rfl, hw1⟩
  rw [← HUW.out] at hw1
  clear HAU
  have hb : Below U.heap.size U w1 := by rw [hw1]; exact bel_al (Below.refl _ _) _
  have hB1 : Below w.heap.size w w1 := bel_on' hbU hb
  have hN1 : w1.heap.size = w.heap.size + 3 := by rw [hw1, World.size_alloc, hsz]
  have hb11 : Boxed w1 (w.heap.size + 1) 3 (.int .i64 0) := (hb.block _ (by omega)).trans hbl
  have hbn1 : Boxed w1 w.heap.size 3 (.int .i64 item) := (hb.block _ (by omega)).trans hbn
  have h0 : WI w item [] w1 := ⟨hbn1, hb11, hB1, by omega⟩
  have ES := HS.out w1 (w.heap.size + 2) hB1 (Nat.le_refl _) (by rw [hw1, ← hsz]; exact World.alloc_heap_new _ _)
  clear hbl hbn hb hbU hb11 hbn1 hw1 HS
  gi_wp2_with fail
  refine Rg2.range_acts (E := fun k _ => k = w.heap.size + 1) (enc := encA) (L := L) (I := WI w item) (Ix := fun _ _ _ => False) (Ax := WX w pv item)
    (gf := 130) (lb := #[.pointer (some ⟨w.heap.size + 2, 0, none⟩)]) rfl (enters_of Tryz.func130 (by kernel_rfl) rfl) ES (fun k o h1 h2 h3 => by omega) (fun _ => rfl)
    (WI.own (by omega)) (fun c' W0 W W' row hs hg hr => hs) (fun x a' => ?ax) h0 ?assign ?body ?done ?stop
  case ax =>
    rintro _ W W' row ⟨q, hq, hs⟩ hg hr
    exact ⟨q, (cells_stay hg hr hq).trans hq, hs⟩
  case assign =>
    intro l pre x W K hI hK
    obtain ⟨x0, x1, x2⟩ := x
    have HK := hK (WA w pv item (x0, x1, x2) W.heap.size) (W.alloc (.cells #[.int .i64 x1, .int .i64 x2] 140)) (Rg.Kept.alloc _) (Rg.own_grows (WI.own (Nat.le_refl _)) hI (bel_al (Below.refl _ _) _)) ⟨_, World.alloc_heap_new _ _, rfl⟩
    clear hK
    unfold WA at HK
    unfold encA pairV
    dsimp only at HK ⊢
    gi_wp2
    exact HK
  case body =>
    rintro l pre ⟨x0, x1, x2⟩ a' W ⟨hbn, hbl, hB, hNW⟩ ⟨q, hq, rfl⟩ hpq
    have hcl := hbl.cell
    have hfl := hbl.frozen
    have hcn := hbn.cell
    have d0 : W.cell? ⟨q, 0, none⟩ = some (.int .i64 x1) := by rw [cell_of hq]; rfl
    have d1 : W.cell? ⟨q, 1, none⟩ = some (.int .i64 x2) := by rw [cell_of hq]; rfl
    have b1 := went_pre HL.out ((List.prefix_append pre [(x0, x1, x2)]).trans hpq) item
    have b2 := went_pre HL.out hpq item
    have b3 := (HL.out.at_ (x0, x1, x2) (by obtain ⟨r, hr⟩ := hpq; rw [← hr]; simp)).2.2
    rw [wentP_app, wentP_one] at b2
    dsimp only at b3
    obtain ⟨S, hSv⟩ : ∃ S, wentP pre item = S := ⟨_, rfl⟩
    have HSV := hide hSv
    rw [hSv] at hcl b1 b2
    have HBX := hide hbl
    have HBN := hide hbn
    have HB := hide hB
    clear hbl hbn hq hpq hSv hB
    unfold WA
    by_cases hx : x1 = item
    · have qx : (x1 == item) = true := by simp [hx]
      rw [if_pos hx] at b2
      obtain ⟨b11, b12⟩ := b1
      obtain ⟨b21, b22⟩ := b2
      have HX := hide hx
      clear hx
      gi_wp2
      refine ⟨Rg.Kept.setCell _ (fun _ => rfl), ?_, ?_, HB.out.setCell (p := ⟨w.heap.size + 1, 0, none⟩) (by show w.heap.size ≤ w.heap.size + 1; omega) _, by simpa using hNW⟩
      · exact (Below.heap_setCell _ _ _ _ (show w.heap.size ≠ w.heap.size + 1 by omega)).trans HBN.out
      · rw [wentP_app, wentP_one, if_pos HX.out, HSV.out]
        exact HBX.out.set _
    · have qx : (x1 == item) = false := by simp [hx]
      have HX := hide hx
      clear b2 hx
      gi_wp2
      refine ⟨Rg.Kept.refl _ _, HBN.out, ?_, HB.out, hNW⟩
      rw [wentP_app, wentP_one, if_neg HX.out, Int.add_zero]
      exact HBX.out
  case done =>
    rintro D W hD hT hK
    obtain ⟨hbn, hbl, hB, -⟩ := hT
    have hcl := hbl.cell
    gi_wp2
    refine ⟨by simp, .inl ⟨_, _, rfl, run_takeDeferred hK, ?_⟩⟩
    refine ⟨_, results_tmp rfl _ _ _, ?_⟩
    exact ⟨rfl, hB.trans ⟨rfl, rfl, rfl, by simp, fun k hk => World.putObj_heap_other (by omega)⟩⟩
  case stop =>
    rintro D c' pre W hD - hpr h hK
    exact h.elim
theorem pwent_any {B : Nat} {E : Nat → Prop} {w : World} {p : Nat} {t : NotI} {J : List Value} {l : List (Int × Int × Int)} (k : Pc B E w p t J l) (item : Int) :
    Calls Tryz.prog 39 #[.pointer (some ⟨p, J.length, none⟩), .int .i64 item] w fun e w' => e = .returned (.int .i64 (wentP l item)) ∧ Below w.heap.size w w' :=
  went_gen _ l k.good w item (fun _ _ hU hB hb => all_seq (k.on hU) hb (fun i _ e h => by have := (k.1 i e).2; omega) (fun _ h => by omega))
theorem pwentnil_any (w : World) (item : Int) :
    Calls Tryz.prog 39 #[.pointer none, .int .i64 item] w fun e w' => e = .returned (.int .i64 0) ∧ Below w.heap.size w w' :=
  went_gen none [] GoodC.new w item (fun _ _ _ _ hb => allnil_seq hb)

/-- What Ids' loop has, pre having come: the box of ids, the row. -/
def TI (w : World) (N1 : Nat) (pre : List (Int × Int × Int)) (W : World) : Prop :=
  (∃ v, Boxed W w.heap.size 22 v ∧ W.ownsRow N1 3 1 v pre.length ((idsP pre).map (Value.int .i64))) ∧ Below w.heap.size w W ∧ N1 ≤ W.heap.size
theorem TI.own {w : World} {N1 X : Nat} (hX : w.heap.size ≤ X) : OwnFrom X (TI w N1) := fun pre W W' row hs hg hr => by
  obtain ⟨⟨v, h1, h2⟩, h6, h7⟩ := hs
  refine ⟨⟨v, (cells_stay hg hr h1).trans h1, row_stays h2 (fun k cs _ hc => cells_stay hg hr hc)⟩, ?_, Nat.le_trans h7 hg.size⟩
  exact h6.grown hg h6.size (fun k e => Nat.le_trans hX (hr k e).1)
theorem typ_neI : 22 ≠ 3 := by decide
/-- What is handed back: the row of xs, the call's own. -/
def OwnInts (w : World) (xs : List Int) (e : Ending) (w' : World) : Prop :=
  ∃ a c, e = .returned (.slice a xs.length c) ∧ xs.length ≤ c ∧ w'.ownsRow w.heap.size 3 1 (.slice a xs.length c) xs.length (xs.map (Value.int .i64)) ∧ Below w.heap.size w w'
theorem ids_end {w W : World} {N1 D : Nat} {L : List (Int × Int × Int)} {a : Option Addr} {c : Nat} (hN : w.heap.size ≤ N1) (hD : N1 ≤ D) (hK : W.heap[D]? = some (.deferred (some []))) (hrow : W.ownsRow N1 3 1 (.slice a L.length c) L.length ((idsP L).map (Value.int .i64))) (hT : TI w N1 L W) :
    OwnInts w (idsP L) (.returned (.slice a L.length c)) (W.putObj D (.deferred none)) := by
  obtain ⟨_, h6, h7⟩ := hT
  have h8 := ownsRow_putObj hrow (.deferred none) hK rfl
  unfold OwnInts
  rw [idsP_len]
  refine ⟨a, c, rfl, ?_, ⟨h8.1, ?_⟩, h6.trans ⟨rfl, rfl, rfl, by simp, fun k hk => World.putObj_heap_other (by omega)⟩⟩
  · obtain ⟨a', c', e, hc⟩ := row_slice hrow
    cases e
    exact hc
  · rcases h8.2 with h | ⟨g, cap, cur, h1, h2, h3⟩
    · exact .inl h
    · exact .inr ⟨g, cap, cur, h1, Nat.le_trans hN h2, h3⟩
/-- What a round may turn. -/
def EI (w : World) (N1 : Nat) (k : Nat) (o : Obj) : Prop := k = w.heap.size ∨ (N1 ≤ k ∧ o.isCells = true)
/-- A number appended. -/
theorem ids_step {w W w4 : World} {N1 : Nat} {pre : List (Int × Int × Int)} {x : Int × Int × Int} {v v' : Value} (hN1 : w.heap.size + 1 ≤ N1) (hNW : N1 ≤ W.heap.size)
    (hbx : Boxed W w.heap.size 22 v) (hrow : W.ownsRow N1 3 1 v pre.length ((idsP pre).map (Value.int .i64))) (hB : Below w.heap.size w W)
    {o : Obj} (hg : (W.alloc o).grownBy w4 v.ownBlock) (hown : w4.ownsRow N1 3 1 v' (pre.length + 1) ((idsP pre).map (Value.int .i64) ++ [.int .i64 x.1])) :
    Boxed w4 w.heap.size 22 v ∧ TI w N1 (pre ++ [x]) (w4.setCell ⟨w.heap.size, 0, none⟩ v') ∧ Rg.Kept (EI w N1) W (w4.setCell ⟨w.heap.size, 0, none⟩ v') := by
  have hvb : ∀ k, v.ownBlock = some k → N1 ≤ k ∧ ∃ cs, W.heap[k]? = some (Obj.cells cs 3 (0, 0)) := fun k e => by
    refine ⟨(hrow.lt k e).1, ?_⟩
    rcases hrow.2 with ⟨rfl, _⟩ | ⟨g, cap, cur, rfl, _, hc, _⟩
    · simp [Value.ownBlock] at e
    · simp [Value.ownBlock] at e; subst e; exact ⟨cur, hc⟩
  have k4 : ∀ k, k < W.heap.size → v.ownBlock ≠ some k → w4.heap[k]? = W.heap[k]? := fun k hk hne => by
    rw [hg.block k (by simp; omega) (fun e => hne e.symm)]
    exact Below.heap_alloc _ _ _ hk
  have hbx4 : Boxed w4 w.heap.size 22 v := (k4 _ hbx.lt (fun e => by have := (hvb _ e).1; omega)).trans hbx
  have k5 : ∀ k, k < W.heap.size → v.ownBlock ≠ some k → k ≠ w.heap.size → (w4.setCell ⟨w.heap.size, 0, none⟩ v').heap[k]? = W.heap[k]? := fun k hk hne hk1 => by
    rw [Below.heap_setCell _ _ _ _ (show k ≠ (⟨w.heap.size, 0, none⟩ : Addr).block from hk1)]
    exact k4 k hk hne
  have hsz : W.heap.size ≤ w4.heap.size := by have := hg.size; simp at this; omega
  have e1 : (idsP (pre ++ [x])).map (Value.int .i64) = (idsP pre).map (Value.int .i64) ++ [.int .i64 x.1] := by simp [idsP]
  refine ⟨hbx4, ⟨⟨v', hbx4.set v', ?_⟩, ?_, by simp; omega⟩, ⟨hg.os, hg.tape, hg.output, by simpa using hsz, fun k o hk hx => ?_⟩⟩
  · rw [e1, List.length_append, List.length_singleton]
    refine row_stays hown (fun k cs _ hc => Below.heap_setCell _ _ _ _ (fun e => ?_))
    subst e
    rw [show w4.heap[w.heap.size]? = _ from hbx4] at hc
    simp only [Option.some.injEq, Obj.cells.injEq] at hc
    exact typ_neI hc.2.1
  · exact ⟨hg.os.trans hB.os, hg.tape.trans hB.tape, hg.output.trans hB.output, by have := hB.size; simp; omega, fun k hk => (k5 k (by have := hB.size; omega) (fun e => by have := (hvb k e).1; omega) (by omega)).trans (hB.block k hk)⟩
  · refine (k5 k (Array.getElem?_eq_some_iff.1 hk).1 (fun e => ?_) (fun e => hx (.inl e))).trans hk
    obtain ⟨h1, cs, hcs⟩ := hvb k e
    rw [hk] at hcs
    cases hcs
    exact hx (.inr ⟨h1, rfl⟩)

set_option maxRecDepth 100000 in
set_option maxHeartbeats 4000000 in
theorem ids_gen (pv : Option Addr) (L : List (Int × Int × Int)) (hL : L.length ≤ 1000) (w : World)
    (hS : ∀ (U : World) (Bi N1 : Nat), Below w.heap.size w U → w.heap.size + 1 ≤ Bi → Bi < N1 → U.heap[Bi]? = some (.cells #[.pointer pv] 63 (0, 0)) → Rg2.SeqA Tryz.prog (EI w N1) 130 #[.pointer (some ⟨Bi, 0, none⟩)] encA L U) :
    Calls Tryz.prog 37 #[.pointer pv] w (OwnInts w (idsP L)) := by
  refine (callsIn_wide (n := 5)).1 ?_
  obtain ⟨U, hU⟩ : ∃ U, U = w.alloc (.cells #[.slice none 0 0] 22) := ⟨_, rfl⟩
  have hbU : Below w.heap.size w U := by rw [hU]; exact bel_al (Below.refl _ _) _
  have hsz : U.heap.size = w.heap.size + 1 := by rw [hU]; simp
  have hbl : Boxed U w.heap.size 22 (.slice none 0 0) := by rw [hU]; exact World.alloc_heap_new w _
  have HAU := (callsIn_wide (n := 4)).2 (all_any pv U)
  have HUW := hide hU
  have HS := hide hS
  rw [hU] at HAU
  clear hU hS
  have hnf : ∀ (u : World) (b : Nat), (binOp BinOp.eql 137 (.func (.func 130) #[] #[.pointer (some ⟨b, 0, none⟩)]) .nilFunc).run Tryz.prog u = .ok (.bool false) u := fun _ _ => by kernel_rfl
  refine callsIn_of_wp_marks Tryz.func37 rfl trivial ?_ rfl
  simp only [Tryz.ntmps37, List.size_toArray, List.length_cons, List.length_nil, Nat.reduceAdd, Nat.reduceSub, Array.replicate_succ, Array.replicate_zero, List.push_toArray, List.append_toArray, List.nil_append, List.cons_append]
  gi_wp2_with fail
  refine ⟨trivial, HAU.mono ?_⟩
  rintro e w1 ⟨rfl, hw1⟩
  rw [← HUW.out] at hw1
  clear HAU
  have hb : Below U.heap.size U w1 := by rw [hw1]; exact bel_al (Below.refl _ _) _
  have hB1 : Below w.heap.size w w1 := bel_on' hbU hb
  have hN1 : w1.heap.size = w.heap.size + 2 := by rw [hw1, World.size_alloc, hsz]
  have hb11 : Boxed w1 w.heap.size 22 (.slice none 0 0) := (hb.block _ (by omega)).trans hbl
  have h0 : TI w w1.heap.size [] w1 := ⟨⟨_, hb11, World.ownsRow_nil _ _ _ _⟩, hB1, Nat.le_refl _⟩
  have ES := HS.out w1 (w.heap.size + 1) w1.heap.size hB1 (Nat.le_refl _) (by omega) (by rw [hw1, ← hsz]; exact World.alloc_heap_new _ _)
  obtain ⟨i0, hi, hz0, hz1, hz2⟩ := info_parts Tryz.infoNum
  clear hbl hb hbU hb11 hw1 HS
  gi_wp2_with fail
  refine Rg2.range_acts (E := EI w w1.heap.size) (enc := encA) (L := L) (I := TI w w1.heap.size) (Ix := fun _ _ _ => False)
    (Ax := fun x a' _ => a' = { tmps := #[.pointer pv, undef, .slice none 0 0, .pointer (some ⟨w.heap.size, 0, none⟩), .int .i64 x.1, .pointer pv, .func (.func 130) #[] #[.pointer (some ⟨w.heap.size + 1, 0, none⟩)], .int .i64 x.1, .agg #[.int .i64 x.2.1, .int .i64 x.2.2], undef, undef, undef, undef, undef], defers := [] })
    (gf := 130) (lb := #[.pointer (some ⟨w.heap.size + 1, 0, none⟩)]) rfl (enters_of Tryz.func130 (by kernel_rfl) rfl) ES (fun k o h1 h2 h3 => ?he) (fun _ => rfl)
    (TI.own (by omega)) (fun c' W0 W W' row hs hg hr => hs) (fun x a' => ?ax) h0 ?assign ?body ?done ?stop
  case he =>
    rcases h3 with h3 | ⟨_, h3⟩
    · omega
    · rw [h2] at h3; cases h3
  case ax =>
    intro _ W W' row hs hg hr
    exact hs
  case assign =>
    intro l pre x W K hI hK
    obtain ⟨x0, x1, x2⟩ := x
    have HK := hK _ _ (Rg.Kept.refl _ _) hI rfl
    clear hK
    unfold encA pairV
    dsimp only at HK ⊢
    gi_wp2
    exact HK
  case body =>
    rintro l pre x a' W ⟨⟨v, hbl, hrow⟩, hB, hNW⟩ rfl hpq
    obtain ⟨av, cv, rfl, -⟩ := row_slice hrow
    have hcl := hbl.cell
    have hpl : pre.length ≤ 1000 := by have := hpq.length_le; simp at this; omega
    have hN2 : w.heap.size + 1 ≤ w1.heap.size := by omega
    clear hpq
    gi_wp2_with (gi_at_builtin; refine wpListIn_append_own_at _ rfl (.tmp 9) (.tmp 11) 22 rfl w1.heap.size 3 i0 _ 1 8 Tryz.underlying22 hi hz0 hz1 hz2 rfl (by decide) (.slice av pre.length cv) pre.length ((idsP pre).map (Value.int .i64)) rfl (hrow.alloc _) ⟨W.heap.size, 0, none⟩ 1 1 [.int .i64 x.1] rfl rfl (cell_one_newI _ _ _) (by simp [Value.oneCell']) (by unfold maxLen; omega) (by omega) (by simp; omega) ?_; intro v' w4 hown' hgrow _ _; obtain ⟨a4, c4, rfl, -⟩ := row_slice hown'; obtain ⟨hb4, hT4, hp4⟩ := ids_step (x := x) hN2 hNW hbl hrow hB hgrow hown'; have hc4 := hb4.cell; have hf4 := hb4.frozen)
    exact ⟨hp4, hT4⟩
  case done =>
    rintro D W hD hT hK
    obtain ⟨⟨v, hbl, hrow⟩, -⟩ := id hT
    obtain ⟨av, cv, rfl, -⟩ := row_slice hrow
    have hcl := hbl.cell
    gi_wp2
    refine ⟨by simp, .inl ⟨_, _, rfl, run_takeDeferred hK, ?_⟩⟩
    refine ⟨_, results_tmp rfl _ _ _, ?_⟩
    exact ids_end (by omega) hD hK hrow hT
  case stop =>
    rintro D c' pre W hD - hpr h hK
    exact h.elim
theorem pids_any {B : Nat} {E : Nat → Prop} {w : World} {p : Nat} {t : NotI} {J : List Value} {l : List (Int × Int × Int)} (k : Pc B E w p t J l) :
    Calls Tryz.prog 37 #[.pointer (some ⟨p, J.length, none⟩)] w (OwnInts w (idsP l)) :=
  ids_gen _ l k.good.len w (fun _ _ N1 hU hB hN hb => all_seq (k.on hU) hb (fun i _ e h => by
    have := (k.1 i e).2
    rcases h with h | ⟨h, _⟩ <;> omega) (fun _ h => by rcases h with h | ⟨h, _⟩ <;> omega))
theorem pidsnil_any (w : World) : Calls Tryz.prog 37 #[.pointer none] w (OwnInts w []) :=
  ids_gen none [] (by simp) w (fun _ _ _ _ _ _ hb => allnil_seq hb)
end Go.Proofs.YtihddekjicpihaaGreatDoor.Gd.Pu.Pa
/-
  The reference's book of parcels in memory: its block, its row of parcels. Contract of its Find.
-/
namespace Go.Proofs.YtihddekjicpihaaGreatDoor.Gd.Pu.Pa
open Go.ChangeShapes Go.WideShapes Go.ChangeAt Go.RowKit Go.Maps

theorem Tryz.infoPcl : (Tryz.prog.info? 133).map (fun i => (i.zero, i.size, i.bytes)) = some (some (.agg #[.int .i64 0, .int .i64 0, .int .i64 0]), 3, 24) := by kernel_rfl
/-- A row of parcels, as cells. -/
def tcells (l : List (Int × Int × Int)) : List Value := l.flatMap fun x => [.int .i64 x.1, .int .i64 x.2.1, .int .i64 x.2.2]
theorem tcells_app (l m : List (Int × Int × Int)) : tcells (l ++ m) = tcells l ++ tcells m := by simp [tcells]
theorem tcells_len (l : List (Int × Int × Int)) : (tcells l).length = l.length * 3 := by
  induction l with
  | nil => rfl
  | cons x l ih => rw [show tcells (x :: l) = [.int .i64 x.1, .int .i64 x.2.1, .int .i64 x.2.2] ++ tcells l by simp [tcells]]; simp [ih]; omega
theorem tcells_at : ∀ (l : List (Int × Int × Int)) (i : Nat) (x : Int × Int × Int), l[i]? = some x → (tcells l)[i * 3]? = some (.int .i64 x.1) ∧ (tcells l)[i * 3 + 1]? = some (.int .i64 x.2.1) ∧ (tcells l)[i * 3 + 2]? = some (.int .i64 x.2.2)
  | [], i, x, h => by simp at h
  | y :: r, 0, x, h => by simp at h; subst h; simp [tcells]
  | y :: r, i + 1, x, h => by
    have ih := tcells_at r i x (by simpa using h)
    have e : tcells (y :: r) = [.int .i64 y.1, .int .i64 y.2.1, .int .i64 y.2.2] ++ tcells r := by simp [tcells]
    rw [e, show (i + 1) * 3 = i * 3 + 3 by omega]
    refine ⟨?_, ?_, ?_⟩
    · rw [List.getElem?_append_right (by simp)]; simpa using ih.1
    · rw [List.getElem?_append_right (by simp)]; simpa using ih.2.1
    · rw [List.getElem?_append_right (by simp)]; simpa using ih.2.2
/-- The slice at a reads as the parcels l. -/
def Tri (w : World) (a : Option Addr) (l : List (Int × Int × Int)) : Prop :=
  l = [] ∨ ∃ b, a = some ⟨b, 0, none⟩ ∧ ∀ (i : Nat) (x : Int × Int × Int), l[i]? = some x → w.cell? ⟨b, i * 3, none⟩ = some (.int .i64 x.1) ∧ w.cell? ⟨b, i * 3 + 1, none⟩ = some (.int .i64 x.2.1) ∧ w.cell? ⟨b, i * 3 + 2, none⟩ = some (.int .i64 x.2.2)
theorem Tri.below {w w' : World} {a : Option Addr} {l : List (Int × Int × Int)} (h : Tri w a l) (hb : Below w.heap.size w w') : Tri w' a l := by
  rcases h with h | ⟨b, ha, hc⟩
  · exact .inl h
  · exact .inr ⟨b, ha, fun i x hx => by obtain ⟨h0, h1, h2⟩ := hc i x hx; exact ⟨cellL h0 hb, cellL h1 hb, cellL h2 hb⟩⟩
theorem row_tri {W : World} {base : Nat} {a : Option Addr} {n c : Nat} {l : List (Int × Int × Int)} (h : W.ownsRow base 133 3 (.slice a n c) n (tcells l)) (hn : n = l.length) : Tri W a l := by
  have hc := fun g hg => h.cells (g := g) hg
  rcases h.2 with ⟨_, h1⟩ | ⟨g, cap, cur, e, hb, hcur, _⟩
  · exact .inl (List.eq_nil_of_length_eq_zero (by omega))
  · cases e
    refine .inr ⟨g, rfl, fun i x hx => ?_⟩
    obtain ⟨e1, e2, e3⟩ := tcells_at l i x hx
    have c1 := hc g rfl _ _ e1
    have c2 := hc g rfl _ _ e2
    have c3 := hc g rfl _ _ e3
    rw [st_add', Nat.zero_add] at c1 c2 c3
    exact ⟨c1, c2, c3⟩
/-- The reference's book at q. -/
def RcV (B : Nat) (E : Nat → Prop) (w : World) (q : Nat) (l : List (Int × Int × Int)) (v : Value) : Prop :=
  w.heap[q]? = some (.cells #[v] 129 (0, 0)) ∧ w.ownsRow B 133 3 v l.length (tcells l) ∧ (∀ k, v.ownBlock = some k → E k)
def Rc (B : Nat) (E : Nat → Prop) (w : World) (q : Nat) (l : List (Int × Int × Int)) : Prop :=
  (∀ k, E k → B ≤ k ∧ k < w.heap.size) ∧ E q ∧ ∃ v, RcV B E w q l v
section
variable {B : Nat} {E E' : Nat → Prop} {w w' : World} {q : Nat} {l : List (Int × Int × Int)} {v : Value}
theorem RcV.kept {F : Nat → Obj → Prop} (k : RcV B E w q l v) (hq : E q) (hk : Rg.Kept F w w') (hE : ∀ k o, E k → ¬ F k o) : RcV B E w' q l v := by
  obtain ⟨h1, h2, h3⟩ := k
  refine ⟨hk.block _ _ h1 (hE _ _ hq), ⟨h2.1, ?_⟩, h3⟩
  rcases h2.2 with h | ⟨g, cap, cur, rfl, hg, hc, rest⟩
  · exact .inl h
  · exact .inr ⟨g, cap, cur, rfl, hg, hk.block _ _ hc (hE _ _ (h3 g rfl)), rest⟩
theorem Rc.low (k : Rc B E w q l) : B ≤ w.heap.size := by have := k.1 q k.2.1; omega
theorem Rc.kept {F : Nat → Obj → Prop} (k : Rc B E w q l) (hk : Rg.Kept F w w') (hE : ∀ k o, E k → ¬ F k o) : Rc B E w' q l := by
  obtain ⟨h1, h2, v, h4⟩ := k
  exact ⟨fun k e => ⟨(h1 k e).1, Nat.lt_of_lt_of_le (h1 k e).2 hk.size⟩, h2, v, h4.kept h2 hk hE⟩
theorem Rc.on (k : Rc B E w q l) (hb : Below w.heap.size w w') : Rc B E w' q l := k.kept (F := fun _ _ => False) (Rg.Kept.of_below hb) (fun _ _ _ h => h)
theorem Rc.grow {W : World} (k : Rc B E w q l) (hB : B ≤ W.heap.size) : Rc B (growE E W w) w q l := by
  obtain ⟨h1, h2, v, h3, h4, h5⟩ := k
  exact ⟨fun k e => e.elim (h1 k) (fun e => ⟨by omega, e.2⟩), .inl h2, v, h3, h4, fun k e => .inl (h5 k e)⟩
theorem Rc.bel (k : Rc B E w q l) (hk : Rg.Kept (fun i _ => E i) w w') : Below B w w' := hk.bel k.low (fun i _ e => (k.1 i e).1)
/-- Its row, as a slice. -/
theorem Rc.row (k : Rc B E w q l) : ∃ a c, w.cell? ⟨q, 0, none⟩ = some (.slice a l.length c) ∧ Tri w a l := by
  obtain ⟨-, -, v, h1, h2, -⟩ := k
  obtain ⟨a, c, rfl, -⟩ := row_slice h2
  exact ⟨a, c, by rw [cell_of h1]; rfl, row_tri h2 rfl⟩
end
theorem findP_take {l : List (Int × Int × Int)} {j : Nat} {x : Int × Int × Int} {id : Int} (h : l[j]? = some x) : findP (l.take (j + 1)) id = (findP (l.take j) id).or (if x.1 = id then some x.2 else none) := by
  rw [← take_preA h, findP_app]
  rfl

set_option maxRecDepth 100000 in
set_option maxHeartbeats 1000000 in
theorem rfind_any {B : Nat} {E : Nat → Prop} {w : World} {q : Nat} {l : List (Int × Int × Int)} (k : Rc B E w q l) (hl : l.length ≤ 1000) (id : Int) :
    Calls Tryz.prog 87 #[.pointer (some ⟨q, 0, none⟩), .int .i64 id] w fun e w' => ∃ z, e = .returned (.tuple #[.agg #[.int .i64 z, .int .i64 ((findP l id).getD (0, 0)).1, .int .i64 ((findP l id).getD (0, 0)).2], .bool (findP l id).isSome]) ∧ Below w.heap.size w w' := by
  have hlt := (k.1 q k.2.1).2
  obtain ⟨a, c, c0, ht⟩ := k.row
  have HT := hide ht
  obtain ⟨r, hr⟩ : ∃ r, findP l id = r := ⟨_, rfl⟩
  rw [hr]
  have HR := hide hr
  clear k ht hr
  go_enter Tryz.func87, Tryz.ntmps87
  go_wp2
  have HZ0 : Hid ((w.alloc (.cells #[.int .i64 0, .int .i64 0, .int .i64 0] 133)).heap[w.heap.size]? = some (.cells #[.int .i64 0, .int .i64 0, .int .i64 0] 133 (0, 0))) := World.alloc_heap_new _ _
  have HB0 : Hid (Below w.heap.size w (w.alloc (.cells #[.int .i64 0, .int .i64 0, .int .i64 0] 133))) := bel_al (Below.refl _ _) _
  go_loopw [13] (fun i wr => ∃ j : Nat, i = .int .i64 j ∧ j ≤ l.length ∧ Hid (findP (l.take j) id = none) ∧ Hid (Below w.heap.size w wr) ∧ Hid (wr.heap[w.heap.size]? = some (.cells #[.int .i64 0, .int .i64 0, .int .i64 0] 133 (0, 0)))) (fun i _ => l.length - (Go.RowKit.intOf i).toNat)
  case atStart => exact ⟨0, rfl, Nat.zero_le _, by rw [List.take_zero]; rfl, HB0, HZ0⟩
  case round =>
    obtain ⟨j, rfl, hj, HF, HB, HZ⟩ := hrel
    clear HZ0 HB0 c0
    have hs : w.heap.size < wr.heap.size := (Array.getElem?_eq_some_iff.1 HZ.out).1
    by_cases hjl : j < l.length
    · have qj : (j : Int) < (l.length : Int) := by omega
      obtain ⟨x, hx⟩ : ∃ x, l[j]? = some x := ⟨l[j], by simp [hjl]⟩
      rcases HT.out.below HB.out with h0 | ⟨b, rfl, hc⟩
      · subst h0; simp at hjl
      obtain ⟨d0, d1, d2⟩ := hc j x hx
      have hft := findP_take (id := id) hx
      rw [HF.out] at hft
      obtain ⟨x0, x1, x2⟩ := x
      dsimp only at d0 d1 d2 hft
      by_cases he : x0 = id
      · have qe : (x0 == id) = true := by simp [he]
        rw [if_pos he] at hft
        have hfl : findP l id = some (x1, x2) := by
          rw [← List.take_append_drop (j + 1) l, findP_app, hft]
          rfl
        rw [HR.out] at hfl
        subst hfl
        have z0 : wr.cell? ⟨w.heap.size, 0, none⟩ = some (.int .i64 0) := by rw [cell_of HZ.out]; rfl
        have z1 : wr.cell? ⟨w.heap.size, 1, none⟩ = some (.int .i64 0) := by rw [cell_of HZ.out]; rfl
        have z2 : wr.cell? ⟨w.heap.size, 2, none⟩ = some (.int .i64 0) := by rw [cell_of HZ.out]; rfl
        have y0 : wr.frozen? ⟨w.heap.size, 0, none⟩ = false := frozen_of_row _ _ _ _ _ HZ.out
        have y1 : wr.frozen? ⟨w.heap.size, 1, none⟩ = false := frozen_of_row _ _ _ _ _ HZ.out
        have y2 : wr.frozen? ⟨w.heap.size, 2, none⟩ = false := frozen_of_row _ _ _ _ _ HZ.out
        clear hc hx hft he HF HT HR
        go_wp2
        refine bodyPost_ret (v := .tuple #[.agg #[.int .i64 x0, .int .i64 x1, .int .i64 x2], .bool true]) ?_ rfl ?_
        · rw [results_cell_tmp Tryz.results87]
          simp [go_sem, z0, z1, z2, hs]
        · exact ⟨x0, rfl, bel_al (((HB.out.setCell (p := ⟨w.heap.size, 0, none⟩) (Nat.le_refl _) _).setCell (p := ⟨w.heap.size, 1, none⟩) (Nat.le_refl _) _).setCell (p := ⟨w.heap.size, 2, none⟩) (Nat.le_refl _) _) _⟩
      · have qe : (x0 == id) = false := by simp [he]
        rw [if_neg he] at hft
        have HF2 : Hid (findP (l.take (j + 1)) id = none) := hft
        have HB2 : Hid (Below w.heap.size w (wr.alloc (.cells #[.int .i64 x0, .int .i64 x1, .int .i64 x2] 133))) := bel_al HB.out _
        have HZ2 : Hid ((wr.alloc (.cells #[.int .i64 x0, .int .i64 x1, .int .i64 x2] 133)).heap[w.heap.size]? = some (.cells #[.int .i64 0, .int .i64 0, .int .i64 0] 133 (0, 0))) := (Below.heap_alloc _ _ _ hs).trans HZ.out
        clear hc hx hft he HF HT
        go_wp2
        go_roundw
        case rel => exact ⟨j + 1, by go_num, by omega, HF2, HB2, HZ2⟩
        case measure => simp [Go.RowKit.intOf]; omega
    · have qj : ¬ (j : Int) < (l.length : Int) := by omega
      have hfl : findP l id = none := by have := HF.out; rwa [List.take_of_length_le (by omega)] at this
      rw [HR.out] at hfl
      subst hfl
      have z0 : wr.cell? ⟨w.heap.size, 0, none⟩ = some (.int .i64 0) := by rw [cell_of HZ.out]; rfl
      have z1 : wr.cell? ⟨w.heap.size, 1, none⟩ = some (.int .i64 0) := by rw [cell_of HZ.out]; rfl
      have z2 : wr.cell? ⟨w.heap.size, 2, none⟩ = some (.int .i64 0) := by rw [cell_of HZ.out]; rfl
      have y0 : wr.frozen? ⟨w.heap.size, 0, none⟩ = false := frozen_of_row _ _ _ _ _ HZ.out
      have y1 : wr.frozen? ⟨w.heap.size, 1, none⟩ = false := frozen_of_row _ _ _ _ _ HZ.out
      have y2 : wr.frozen? ⟨w.heap.size, 2, none⟩ = false := frozen_of_row _ _ _ _ _ HZ.out
      clear HF HT HR
      go_wp2
      refine bodyPost_ret (v := .tuple #[.agg #[.int .i64 0, .int .i64 0, .int .i64 0], .bool false]) ?_ rfl ?_
      · rw [results_cell_tmp Tryz.results87]
        simp [go_sem, z0, z1, z2]
      · exact ⟨⟨0, rfl⟩, ((HB.out.setCell (p := ⟨w.heap.size, 0, none⟩) (Nat.le_refl _) _).setCell (p := ⟨w.heap.size, 1, none⟩) (Nat.le_refl _) _).setCell (p := ⟨w.heap.size, 2, none⟩) (Nat.le_refl _) _⟩
/-- A prefix with what stands next. -/
theorem wentP_take {l : List (Int × Int × Int)} {j : Nat} {x : Int × Int × Int} (h : l[j]? = some x) (k : Int) : wentP (l.take (j + 1)) k = wentP (l.take j) k + if x.2.1 = k then x.2.2 else 0 := by
  rw [← take_preA h, wentP_app]
  obtain ⟨x0, x1, x2⟩ := x
  rw [wentP_one]
theorem idsP_take {l : List (Int × Int × Int)} {j : Nat} {x : Int × Int × Int} (h : l[j]? = some x) : idsP (l.take (j + 1)) = idsP (l.take j) ++ [x.1] := by
  rw [← take_preA h]
  unfold idsP
  rw [List.map_append]
  rfl
set_option maxRecDepth 100000 in
set_option maxHeartbeats 1000000 in
theorem rwent_any {B : Nat} {E : Nat → Prop} {w : World} {q : Nat} {l : List (Int × Int × Int)} (k : Rc B E w q l) (g : GoodC l) (item : Int) :
    Calls Tryz.prog 40 #[.pointer (some ⟨q, 0, none⟩), .int .i64 item] w fun e w' => e = .returned (.int .i64 (wentP l item)) ∧ Below w.heap.size w w' := by
  have hlt := (k.1 q k.2.1).2
  obtain ⟨a, c, c0, ht⟩ := k.row
  have HT := hide ht
  have hl := g.len
  have HG := hide g
  clear k ht g
  go_enter Tryz.func40, Tryz.ntmps40
  go_wp2
  go_loopw [5, 13] (fun n i wr => ∃ j : Nat, i = .int .i64 j ∧ j ≤ l.length ∧ n = .int .i64 (wentP (l.take j) item) ∧ Hid (Below w.heap.size w wr)) (fun _ i _ => l.length - (Go.RowKit.intOf i).toNat)
  case atStart => exact ⟨0, rfl, Nat.zero_le _, by rw [List.take_zero]; rfl, Below.refl _ _⟩
  case round =>
    obtain ⟨j, rfl, hj, rfl, HB⟩ := hrel
    clear c0
    by_cases hjl : j < l.length
    · have qj : (j : Int) < (l.length : Int) := by omega
      obtain ⟨x, hx⟩ : ∃ x, l[j]? = some x := ⟨l[j], by simp [hjl]⟩
      rcases HT.out.below HB.out with h0 | ⟨b, rfl, hc⟩
      · subst h0; simp at hjl
      obtain ⟨d0, d1, d2⟩ := hc j x hx
      have hwt := wentP_take hx item
      have b1 := went_pre HG.out (List.take_prefix j l) item
      have b2 := went_pre HG.out (List.take_prefix (j + 1) l) item
      have b3 := (HG.out.at_ x (List.mem_of_getElem? hx)).2.2
      obtain ⟨x0, x1, x2⟩ := x
      dsimp only at d0 d1 d2 hwt b3
      obtain ⟨S, hS⟩ : ∃ S, wentP (l.take j) item = S := ⟨_, rfl⟩
      rw [hS] at hwt b1 ⊢
      rw [hwt] at b2
      obtain ⟨b11, b12⟩ := b1
      obtain ⟨b21, b22⟩ := b2
      have HB2 : Hid (Below w.heap.size w (wr.alloc (.cells #[.int .i64 x0, .int .i64 x1, .int .i64 x2] 133))) := bel_al HB.out _
      by_cases he : x1 = item
      · have qe : (x1 == item) = true := by simp [he]
        rw [if_pos he] at hwt b21 b22
        have HWT := hide hwt
        clear hc hx hwt he HT hS
        go_wp2
        go_roundw
        case rel => exact ⟨j + 1, by go_num, by omega, by rw [HWT.out], HB2⟩
        case measure => simp [Go.RowKit.intOf]; omega
      · have qe : (x1 == item) = false := by simp [he]
        rw [if_neg he, Int.add_zero] at hwt
        have HWT := hide hwt
        clear hc hx hwt he HT hS b21 b22
        go_wp2
        go_roundw
        case rel => exact ⟨j + 1, by go_num, by omega, by rw [HWT.out], HB2⟩
        case measure => simp [Go.RowKit.intOf]; omega
    · have qj : ¬ (j : Int) < (l.length : Int) := by omega
      have HWT : Hid (wentP (l.take j) item = wentP l item) := by show _ = _; rw [List.take_of_length_le (by omega)]
      go_wp2
      go_ret
      exact ⟨ret_int HWT.out, HB.out⟩
set_option maxRecDepth 100000 in
set_option maxHeartbeats 1000000 in
theorem rids_any {B : Nat} {E : Nat → Prop} {w : World} {q : Nat} {l : List (Int × Int × Int)} (k : Rc B E w q l) (hl : l.length ≤ 1000) :
    Calls Tryz.prog 38 #[.pointer (some ⟨q, 0, none⟩)] w (OwnInts w (idsP l)) := by
  have hlt := (k.1 q k.2.1).2
  obtain ⟨a, c, c0, ht⟩ := k.row
  have HT := hide ht
  clear k ht
  go_enter Tryz.func38, Tryz.ntmps38
  go_wp2
  go_loopw [3, 11] (fun v i wr => ∃ (j : Nat) (av : Option Addr) (cv : Nat), i = .int .i64 j ∧ v = .slice av (idsP (l.take j)).length cv ∧ j ≤ l.length ∧ Hid (wr.ownsRow w.heap.size 3 1 (.slice av (idsP (l.take j)).length cv) (idsP (l.take j)).length ((idsP (l.take j)).map (Value.int .i64))) ∧ Hid (Below w.heap.size w wr)) (fun _ i _ => l.length - (Go.RowKit.intOf i).toNat)
  case atStart => exact ⟨0, none, 0, rfl, by rw [List.take_zero]; rfl, Nat.zero_le _, by rw [List.take_zero]; exact World.ownsRow_nil _ _ _ _, Below.refl _ _⟩
  case round =>
    obtain ⟨j, av, cv, rfl, rfl, hj, HR, HB⟩ := hrel
    clear c0
    by_cases hjl : j < l.length
    · have qj : (j : Int) < (l.length : Int) := by omega
      obtain ⟨x, hx⟩ : ∃ x, l[j]? = some x := ⟨l[j], by simp [hjl]⟩
      rcases HT.out.below HB.out with h0 | ⟨b, rfl, hc⟩
      · subst h0; simp at hjl
      obtain ⟨d0, d1, d2⟩ := hc j x hx
      have hit := idsP_take hx
      obtain ⟨x0, x1, x2⟩ := x
      dsimp only at d0 d1 d2 hit
      have hnl : (idsP (l.take j)).length ≤ 1000000 := by rw [idsP_len, List.length_take]; omega
      obtain ⟨L, hL⟩ : ∃ L, idsP (l.take j) = L := ⟨_, rfl⟩
      rw [hL] at hit HR hnl ⊢
      have HIT := hide hit
      have HB2 : Hid (Below w.heap.size w (wr.alloc (.cells #[.int .i64 x0, .int .i64 x1, .int .i64 x2] 133))) := bel_al HB.out _
      have hr2 := HR.out.alloc (.cells #[.int .i64 x0, .int .i64 x1, .int .i64 x2] 133)
      clear hc hx hit HT hL
      go_wp2_with (at_builtin; refine append_num1 rfl (.tmp 15) (.tmp 18) rfl w.heap.size (.slice av L.length cv) L.length (L.map (Value.int .i64)) rfl hr2 x0 rfl (by simp) (by omega) HB2.out.size ?_; intro a4 c4 w4 hown4 hg4 hblk4; have HB4 : Hid (Below w.heap.size w w4) := (HB2.out.alloc HB2.out.size _).grown hg4 (HB2.out.alloc HB2.out.size _).size (fun k e => (hr2.lt k e).1); have HO4 := hide hown4; clear hown4 hg4 hblk4)
      go_roundw
      case rel =>
        refine ⟨j + 1, a4, c4, by go_num, ?_, by omega, ?_, HB4⟩
        · rw [HIT.out, List.length_append, List.length_singleton]
        · show World.ownsRow _ _ _ _ _ _ _
          rw [HIT.out, List.length_append, List.length_singleton, List.map_append]
          exact HO4.out
      case measure => simp [Go.RowKit.intOf]; omega
    · have qj : ¬ (j : Int) < (l.length : Int) := by omega
      have e : l.take j = l := List.take_of_length_le (by omega)
      rw [e] at HR ⊢
      clear e
      go_wp2
      go_ret
      obtain ⟨a', c', e1, hc⟩ := row_slice HR.out
      cases e1
      exact ⟨av, cv, rfl, hc, HR.out, HB.out⟩
end Go.Proofs.YtihddekjicpihaaGreatDoor.Gd.Pu.Pa
/-
  Contract of the reference's Ship.
-/
namespace Go.Proofs.YtihddekjicpihaaGreatDoor.Gd.Pu.Pa
open Go.ChangeShapes Go.WideShapes Go.ChangeAt Go.RowKit Go.Maps

/-- A row of one's own, more behind it: what has turned. -/
theorem row_moreS {B s : Nat} {E : Nat → Prop} {U w4 : World} {v v' : Value} {n m : Nat} {xs ys : List Value} {t : TypeId} (hE : ∀ k, v.ownBlock = some k → E k) (hr : U.ownsRow B t s v n xs) {o : Obj} (hg : (U.alloc o).grownBy w4 v.ownBlock) (hown : w4.ownsRow B t s v' m ys) (hblk : v'.ownBlock = v.ownBlock ∨ v'.ownBlock = some (U.alloc o).heap.size) :
    Rg.Kept (fun i o => E i ∧ ∃ cs, o = .cells cs t (0, 0)) U w4 ∧ (∀ k, v'.ownBlock = some k → E k ∨ (U.heap.size ≤ k ∧ k < w4.heap.size)) := by
  have hvb : ∀ k, v.ownBlock = some k → ∃ cs, U.heap[k]? = some (Obj.cells cs t (0, 0)) := fun k e => by
    rcases hr.2 with ⟨rfl, _⟩ | ⟨g, cap, cur, rfl, _, hc, _⟩
    · simp [Value.ownBlock] at e
    · simp [Value.ownBlock] at e; subst e; exact ⟨cur, hc⟩
  refine ⟨⟨hg.os, hg.tape, hg.output, by have := hg.size; simp at this; omega, fun k o' hk hx => ?_⟩, fun k e => ?_⟩
  · have hlt : k < U.heap.size := (Array.getElem?_eq_some_iff.1 hk).1
    rw [hg.block k (by simp; omega) (fun e => ?_), Below.heap_alloc _ _ _ hlt]
    · exact hk
    · obtain ⟨cs, hcs⟩ := hvb k e.symm
      rw [hk] at hcs
      cases hcs
      exact hx ⟨hE k e.symm, cs, rfl⟩
  · rcases hblk with h | h
    · exact .inl (hE k (h ▸ e))
    · rw [h] at e
      have h1 := (hown.lt k (h.trans e)).2
      have h2 : (U.alloc o).heap.size = k := Option.some.inj e
      simp at h2
      exact .inr ⟨by omega, h1⟩
theorem typ_neP : 129 ≠ 133 := by decide
/-- One parcel more. -/
theorem append_pcl1 {w : World} {ops : Array Oper} {rest : List Oper} {o : Oper} {a : Act} {Q : Exit → Act → World → Prop} (hgd : o.guard = none) (s x : Operand)
    (ho : o.op = .call { callee := .builtin .append, args := #[s, x], argTypes := #[127, 127] })
    (base : Nat) (v : Value) (n : Nat) (L : List Value) (hs : a.eval s = v) (hown : w.ownsRow base 133 3 v n L) (z0 z1 z2 : Int)
    {ab : Nat} (hx : a.eval x = .slice (some ⟨ab, 0, none⟩) 1 1) (hab : ab = w.heap.size) (hb : n ≤ 1000000) (hbase : base ≤ w.heap.size)
    (h : ∀ a' c' w', w'.ownsRow base 133 3 (.slice a' (n + 1) c') (n + 1) (L ++ [.int .i64 z0, .int .i64 z1, .int .i64 z2]) → (w.alloc (.cells #[.int .i64 z0, .int .i64 z1, .int .i64 z2] 133)).grownBy w' v.ownBlock → ((Value.slice a' (n + 1) c').ownBlock = v.ownBlock ∨ (Value.slice a' (n + 1) c').ownBlock = some (w.alloc (.cells #[.int .i64 z0, .int .i64 z1, .int .i64 z2] 133)).heap.size) → wpList Tryz.prog ops Q rest (a.put o.dst (.slice a' (n + 1) c')) w') : wpList Tryz.prog ops Q (o :: rest) a (w.alloc (.cells #[.int .i64 z0, .int .i64 z1, .int .i64 z2] 133)) := by
  subst hab
  obtain ⟨i0, hi, hz0, hz1, hz2⟩ := info_parts Tryz.infoPcl
  refine wpList_append_own_at _ hgd s x 127 ho base 133 i0 _ 3 24 Tryz.underlying127 hi hz0 hz1 hz2 rfl (by decide) v n L hs (hown.alloc _) ⟨w.heap.size, 0, none⟩ 1 1 [.int .i64 z0, .int .i64 z1, .int .i64 z2] hx rfl ?_ (by simp [Value.oneCell']) (by unfold maxLen; omega) (by omega) (by simp; omega) ?_
  · intro j u hj
    have e : (w.alloc (.cells #[.int .i64 z0, .int .i64 z1, .int .i64 z2] 133)).heap[w.heap.size]? = some (.cells #[.int .i64 z0, .int .i64 z1, .int .i64 z2] 133 (0, 0)) := World.alloc_heap_new w _
    rw [st_add', Nat.zero_add, cell_of e]
    simpa using hj
  · intro v' w' h1 h2 _ h4
    obtain ⟨a', c', rfl, _⟩ := row_slice h1
    exact h a' c' w' h1 h2 h4
/-- Behind the append and the store. -/
theorem rship_next {B : Nat} {E : Nat → Prop} {U w4 : World} {q : Nat} {l : List (Int × Int × Int)} {v v' : Value} {id item qty : Int} (hv : RcV B E U q l v) (hE : ∀ k, E k → B ≤ k ∧ k < U.heap.size) (hq : E q)
    {o : Obj} (hg : (U.alloc o).grownBy w4 v.ownBlock) (hown : w4.ownsRow B 133 3 v' (l.length + 1) (tcells l ++ [.int .i64 id, .int .i64 item, .int .i64 qty])) (hblk : v'.ownBlock = v.ownBlock ∨ v'.ownBlock = some (U.alloc o).heap.size) :
    w4.cell? ⟨q, 0, none⟩ = some v ∧ w4.frozen? ⟨q, 0, none⟩ = false ∧ Rc B (growE E U (w4.setCell ⟨q, 0, none⟩ v')) (w4.setCell ⟨q, 0, none⟩ v') q (l ++ [(id, item, qty)]) ∧ Rg.Kept (fun i _ => E i) U (w4.setCell ⟨q, 0, none⟩ v') := by
  obtain ⟨kp, hvb⟩ := row_moreS hv.2.2 hv.2.1 hg hown hblk
  have hnp : ¬ (E q ∧ ∃ cs, Obj.cells #[v] 129 (0, 0) = .cells cs 133 (0, 0)) := by
    rintro ⟨_, cs, e⟩
    simp only [Obj.cells.injEq] at e
    exact typ_neP e.2.1
  have h4 := kp.block _ _ hv.1 hnp
  have h5 : (w4.setCell ⟨q, 0, none⟩ v').heap[q]? = some (.cells #[v'] 129 (0, 0)) := by
    rw [heap_setCell_same _ _ _ _ _ _ h4]
    rfl
  have hvp : ∀ k, v'.ownBlock = some k → k ≠ q := fun k e e2 => by
    subst e2
    rcases hown.2 with ⟨e1, _⟩ | ⟨g, cap, cur, rfl, _, hc, _⟩
    · rw [e1] at e; simp [Value.ownBlock] at e
    · simp [Value.ownBlock] at e
      subst e
      rw [h4] at hc
      simp only [Option.some.injEq, Obj.cells.injEq] at hc
      exact typ_neP hc.2.1
  have k5 : Rg.Kept (fun i _ => E i) U (w4.setCell ⟨q, 0, none⟩ v') := (kp.mono (fun _ _ e => e.1)).trans (Rg.Kept.setCell _ (fun _ => hq))
  refine ⟨by rw [cell_of h4]; rfl, frozen_of_row _ _ _ _ _ h4, ⟨fun k e => ?_, .inl hq, v', h5, ?_, fun k e => ?_⟩, k5⟩
  · rcases e with e | e
    · have := hE k e
      have := k5.size
      omega
    · have := hE q hq
      omega
  · have e1 : tcells (l ++ [(id, item, qty)]) = tcells l ++ [.int .i64 id, .int .i64 item, .int .i64 qty] := by rw [tcells_app]; rfl
    rw [List.length_append, List.length_singleton, e1]
    refine ⟨hown.1, ?_⟩
    rcases hown.2 with h | ⟨g, cap, cur, rfl, hb, hc, rest⟩
    · exact .inl h
    · refine .inr ⟨g, cap, cur, rfl, hb, ?_, rest⟩
      rw [Below.heap_setCell _ _ _ _ (show g ≠ (⟨q, 0, none⟩ : Addr).block from hvp g rfl)]
      exact hc
  · rcases hvb k e with e | e
    · exact .inl e
    · exact .inr ⟨e.1, by simpa using e.2⟩

set_option maxHeartbeats 1000000 in
theorem rship_any {B : Nat} {E : Nat → Prop} {w : World} {q : Nat} {l : List (Int × Int × Int)} (k : Rc B E w q l) (hl : l.length ≤ 1000) (id item qty : Int) :
    Calls Tryz.prog 84 #[.pointer (some ⟨q, 0, none⟩), .int .i64 id, .int .i64 item, .int .i64 qty] w fun e w' => e = .returned (.int .i64 (shipE l id item qty)) ∧ Rc B (growE E w w') w' q (shipL l id item qty) ∧ Rg.Kept (fun i _ => E i) w w' := by
  have P1 := rid_any id w
  have P2 := rplace_any item w
  have P3 := rabove_any qty w
  have HLW := hide k.low
  by_cases hg : isI id = true ∧ isIt item = true ∧ 1 ≤ qty ∧ qty ≤ 1000000000
  · have g1 := hg.1
    have g2 := hg.2.1
    have g3 : aboveB qty = true := by unfold aboveB; simp; exact hg.2.2
    rw [g1] at P1
    rw [g2] at P2
    rw [g3] at P3
    clear g1 g2 g3
    have FI := rfind_any k hl id
    cases hf : findP l id with
    | some c =>
      have e8 : shipE l id item qty = 8 := by rw [shipE_of hg, hf]; rfl
      rw [e8, shipL_no (by omega)]
      rw [hf] at FI
      obtain ⟨x, y⟩ := c
      dsimp only [Option.getD, Option.isSome] at FI
      have HK := hide k
      clear hf hg e8 k
      go_enter Tryz.func84, Tryz.ntmps84
      go_wp2_with (first
        | (go_at_call 63; refine P1.mono ?_; rintro e w1 ⟨rfl, rfl⟩)
        | (go_at_call 117; refine P2.mono ?_; rintro e w1 ⟨rfl, rfl⟩)
        | (go_at_call 126; refine P3.mono ?_; rintro e w1 ⟨rfl, rfl⟩)
        | (go_at_call 87; refine FI.mono ?_; clear FI; rintro e w2 ⟨z, rfl, b2⟩; have HB2 := hide b2; clear b2))
      go_ret
      first
        | exact ⟨rfl, (HK.out.on HB2.out).grow HLW.out, Rg.Kept.of_below HB2.out⟩
        | exact ⟨rfl, (HK.out.on (bel_al HB2.out _)).grow HLW.out, Rg.Kept.of_below (bel_al HB2.out _)⟩
    | none =>
      have e0 : shipE l id item qty = 0 := by rw [shipE_of hg, hf]; rfl
      rw [e0, shipL_ok e0]
      rw [hf] at FI
      dsimp only [Option.getD, Option.isSome] at FI
      have HNX : Hid (∀ (w2 : World) (z : Int), Below w.heap.size w w2 → ∃ a c, w2.cell? ⟨q, 0, none⟩ = some (.slice a l.length c) ∧ q < w2.heap.size ∧ (w2.alloc (.cells #[.int .i64 z, .int .i64 0, .int .i64 0] 133)).ownsRow B 133 3 (.slice a l.length c) l.length (tcells l) ∧ B ≤ (w2.alloc (.cells #[.int .i64 z, .int .i64 0, .int .i64 0] 133)).heap.size ∧
          ∀ (w4 : World) (v' : Value) (o : Obj), ((w2.alloc (.cells #[.int .i64 z, .int .i64 0, .int .i64 0] 133)).alloc o).grownBy w4 (Value.slice a l.length c).ownBlock → w4.ownsRow B 133 3 v' (l.length + 1) (tcells l ++ [.int .i64 id, .int .i64 item, .int .i64 qty]) → (v'.ownBlock = (Value.slice a l.length c).ownBlock ∨ v'.ownBlock = some ((w2.alloc (.cells #[.int .i64 z, .int .i64 0, .int .i64 0] 133)).alloc o).heap.size) →
            w4.cell? ⟨q, 0, none⟩ = some (.slice a l.length c) ∧ w4.frozen? ⟨q, 0, none⟩ = false ∧ Rc B (growE E w (w4.setCell ⟨q, 0, none⟩ v')) (w4.setCell ⟨q, 0, none⟩ v') q (l ++ [(id, item, qty)]) ∧ Rg.Kept (fun i _ => E i) w (w4.setCell ⟨q, 0, none⟩ v')) := fun w2 z b2 => by
        obtain ⟨hE, hq, v, hv⟩ := k.on b2
        have bU : Below w2.heap.size w2 (w2.alloc (.cells #[.int .i64 z, .int .i64 0, .int .i64 0] 133)) := bel_al (Below.refl _ _) _
        obtain ⟨a, c, rfl, -⟩ := row_slice hv.2.1
        have hvU := hv.kept (F := fun _ _ => False) hq (Rg.Kept.of_below bU) (fun _ _ _ h => h)
        have hzU := bU.size
        have hzw := b2.size
        have hlow := HLW.out
        refine ⟨a, c, by rw [cell_of hv.1]; rfl, (hE q hq).2, hvU.2.1, by omega, fun w4 v' o g1 g2 g3 => ?_⟩
        obtain ⟨s1, s2, s3, s4⟩ := rship_next hvU (fun k e => ⟨(hE k e).1, Nat.lt_of_lt_of_le (hE k e).2 hzU⟩) hq g1 g2 g3
        have s5 := s4.size
        obtain ⟨t1, t2, v3, t3, t4, t5⟩ := s3
        refine ⟨s1, s2, ⟨fun k e => ?_, .inl hq, v3, t3, t4, fun k e => ?_⟩, (Rg.Kept.of_below (bel_on' b2 bU)).trans s4⟩
        · rcases e with e | e
          · have := hE k e
            omega
          · omega
        · rcases t5 k e with e | e
          · exact .inl e
          · exact .inr ⟨by omega, e.2⟩
      clear hf hg e0 k HLW
      go_enter Tryz.func84, Tryz.ntmps84
      go_wp2_with (first
        | (go_at_call 63; refine P1.mono ?_; rintro e w1 ⟨rfl, rfl⟩)
        | (go_at_call 117; refine P2.mono ?_; rintro e w1 ⟨rfl, rfl⟩)
        | (go_at_call 126; refine P3.mono ?_; rintro e w1 ⟨rfl, rfl⟩)
        | (go_at_call 87; refine FI.mono ?_; clear FI; rintro e w2 ⟨z, rfl, b2⟩; obtain ⟨av, cv, d0, hq2, hrU, hlU, hfin⟩ := HNX.out w2 z b2; have HFIN := hide hfin; have HLU := hide hlU; clear b2 hfin HNX hlU)
        | (at_builtin; refine append_pcl1 rfl (.tmp 35) (.tmp 40) rfl B (.slice av l.length cv) l.length (tcells l) rfl hrU id item qty rfl (by simp) (by omega) HLU.out ?_; intro a4 c4 w4 hown4 hg4 hblk4; obtain ⟨d4, f4, k4, o4⟩ := HFIN.out w4 _ _ hg4 hown4 hblk4; have HK4 := hide k4; have HO4 := hide o4; clear hown4 hg4 hblk4 k4 o4))
      go_ret
      exact ⟨rfl, HK4.out, HO4.out⟩
  · have e1 : shipE l id item qty = 1 := shipE_arg hg
    rw [e1, shipL_no (by omega)]
    have HK := hide k
    clear k e1
    cases h1 : isI id with
    | false =>
      rw [h1] at P1
      clear P2 P3 hg
      go_enter Tryz.func84, Tryz.ntmps84
      go_wp2_with (go_at_call 63; refine P1.mono ?_; rintro e w1 ⟨rfl, rfl⟩)
      go_ret
      exact ⟨rfl, HK.out.grow HLW.out, Rg.Kept.refl _ _⟩
    | true =>
      rw [h1] at P1
      cases h2 : isIt item with
      | false =>
        rw [h2] at P2
        clear P3 hg
        go_enter Tryz.func84, Tryz.ntmps84
        go_wp2_with (first
          | (go_at_call 63; refine P1.mono ?_; rintro e w1 ⟨rfl, rfl⟩)
          | (go_at_call 117; refine P2.mono ?_; rintro e w1 ⟨rfl, rfl⟩))
        go_ret
        exact ⟨rfl, HK.out.grow HLW.out, Rg.Kept.refl _ _⟩
      | true =>
        rw [h2] at P2
        have h3 : aboveB qty = false := by
          unfold aboveB
          simp only [decide_eq_false_iff_not]
          exact fun h => hg ⟨h1, h2, h⟩
        rw [h3] at P3
        clear hg h3
        go_enter Tryz.func84, Tryz.ntmps84
        go_wp2_with (first
          | (go_at_call 63; refine P1.mono ?_; rintro e w1 ⟨rfl, rfl⟩)
          | (go_at_call 117; refine P2.mono ?_; rintro e w1 ⟨rfl, rfl⟩)
          | (go_at_call 126; refine P3.mono ?_; rintro e w1 ⟨rfl, rfl⟩))
        go_ret
        exact ⟨rfl, HK.out.grow HLW.out, Rg.Kept.refl _ _⟩
end Go.Proofs.YtihddekjicpihaaGreatDoor.Gd.Pu.Pa
/-
  A shipper in memory: its block with the book in it, its journal; what a step on each leaves of the other.
-/
namespace Go.Proofs.YtihddekjicpihaaGreatDoor
open Go.ChangeShapes Go.WideShapes Go.ChangeAt Go.RowKit Go.Maps Gd.Pu

def tNode : Pa.NotI := ⟨126, by decide⟩
/-- The cell ahead of the book. -/
def Jq (q : Nat) : List Value := [.pointer (some ⟨q, 0, none⟩)]
/-- The shipper at p: its journal at q with the row r; the book's blocks are Eb; all its blocks are of E. -/
structure NsV (B : Nat) (E : Nat → Prop) (w : World) (p : Nat) (v : Sh) (Eb : Nat → Prop) (q : Nat) (r : Value) : Prop where
  bk : Pa.Pc B Eb w p tNode (Jq q) v.l
  jr : Jr B w q r v.room (v.T.map lnP) v.T.length v.down
  sub : ∀ k, Eb k → E k
  eq : E q
  er : ∀ k, r.ownBlock = some k → E k
  nq : ¬ Eb q
  nr : ∀ k, r.ownBlock = some k → ¬ Eb k
section
variable {B : Nat} {E E' : Nat → Prop} {w w' : World} {p : Nat} {v : Sh} {Eb : Nat → Prop} {q : Nat} {r : Value}
theorem NsV.ep (k : NsV B E w p v Eb q r) : E p := k.sub _ k.bk.2.1
theorem NsV.blk (k : NsV B E w p v Eb q r) : ∃ bv mv, w.heap[p]? = some (.cells #[.pointer (some ⟨q, 0, none⟩), bv, mv] 126 (0, 0)) := by
  obtain ⟨_, _, _, bv, mv, h, _⟩ := k.bk
  exact ⟨bv, mv, h⟩
theorem NsV.cell (k : NsV B E w p v Eb q r) : w.cell? ⟨p, 0, none⟩ = some (.pointer (some ⟨q, 0, none⟩)) := by
  obtain ⟨bv, mv, h⟩ := k.blk
  rw [cell_of h]
  rfl
theorem NsV.lt (k : NsV B E w p v Eb q r) : p < w.heap.size := (k.bk.1 p k.bk.2.1).2
theorem NsV.wide (k : NsV B E w p v Eb q r) (h : ∀ k, E k → E' k) : NsV B E' w p v Eb q r := ⟨k.bk, k.jr, fun i e => h _ (k.sub i e), h _ k.eq, fun i e => h _ (k.er i e), k.nq, k.nr⟩
theorem NsV.kept {F : Nat → Obj → Prop} (k : NsV B E w p v Eb q r) (hk : Rg.Kept F w w') (hE : ∀ k o, E k → ¬ F k o) : NsV B E w' p v Eb q r :=
  ⟨k.bk.kept hk (fun i o e => hE i o (k.sub i e)), k.jr.kept hk (fun o => hE _ o k.eq) (fun i o e => hE _ o (k.er i e)), k.sub, k.eq, k.er, k.nq, k.nr⟩
theorem NsV.on (k : NsV B E w p v Eb q r) (hb : Below w.heap.size w w') : NsV B E w' p v Eb q r := k.kept (F := fun _ _ => False) (Rg.Kept.of_below hb) (fun _ _ _ h => h)
/-- A step on its journal. -/
theorem NsV.jstep (k : NsV B E w p v Eb q r) {T' : List (Int × Int × Int)} {d' : Bool} {r' : Value} (j : Jr B w' q r' v.room (T'.map lnP) T'.length d') (ho : Off q r r' w w') :
    NsV B (growE E w w') w' p ⟨v.room, T', d', v.l⟩ Eb q r' ∧ Rg.Kept (fun k _ => E k) w w' := by
  have hk := ho.kept
  have hb : ∀ i, Eb i → i < w.heap.size := fun i e => (k.bk.1 i e).2
  have hr : ∀ i, r'.ownBlock = some i → growE E w w' i ∧ ¬ Eb i := fun i e => by
    by_cases hi : i < w.heap.size
    · by_cases h1 : i = q
      · subst h1; exact ⟨.inl k.eq, k.nq⟩
      · by_cases h2 : r.ownBlock = some i
        · exact ⟨.inl (k.er i h2), k.nr i h2⟩
        · exact absurd e (ho.2 i hi h1 h2).2
    · exact ⟨.inr ⟨by omega, (j.2.2.1.lt i e).2⟩, fun e => hi (hb i e)⟩
  refine ⟨⟨k.bk.kept hk (fun i o e h => h.elim (fun h => k.nq (h ▸ e)) (fun h => k.nr i h e)), j, fun i e => .inl (k.sub i e), .inl k.eq, fun i e => (hr i e).1, k.nq, fun i e => (hr i e).2⟩, hk.mono (fun i _ e => e.elim (fun e => e ▸ k.eq) (fun e => k.er i e))⟩
/-- A step on its book. -/
theorem NsV.bstep (k : NsV B E w p v Eb q r) {l' : List (Int × Int × Int)} (b : Pa.Pc B (growE Eb w w') w' p tNode (Jq q) l') (hk : Rg.Kept (fun i _ => Eb i) w w') :
    NsV B (growE E w w') w' p ⟨v.room, v.T, v.down, l'⟩ (growE Eb w w') q r ∧ Rg.Kept (fun k _ => E k) w w' := by
  have hq : q < w.heap.size := k.jr.lt
  have hr : ∀ i, r.ownBlock = some i → i < w.heap.size := fun i e => (k.jr.2.2.1.lt i e).2
  refine ⟨⟨b, k.jr.kept hk (fun _ => k.nq) (fun i _ e => k.nr i e), fun i e => e.imp (k.sub i) (fun e => e), .inl k.eq, fun i e => .inl (k.er i e), fun e => e.elim k.nq (fun e => by omega), fun i h e => e.elim (k.nr i h) (fun e => by have := hr i h; omega)⟩, hk.mono (fun i _ e => k.sub i e)⟩
end
/-- The shipper at p; all its blocks are of E. -/
def Ns (B : Nat) (E : Nat → Prop) (w : World) (p : Nat) (v : Sh) : Prop :=
  (∀ k, E k → B ≤ k ∧ k < w.heap.size) ∧ GoodSh v ∧ ∃ Eb q r, NsV B E w p v Eb q r
section
variable {B : Nat} {E E' : Nat → Prop} {w w' : World} {p : Nat} {v : Sh}
theorem Ns.good (k : Ns B E w p v) : GoodSh v := k.2.1
theorem Ns.ep (k : Ns B E w p v) : E p := by obtain ⟨_, _, Eb, q, r, h⟩ := k; exact h.ep
theorem Ns.low (k : Ns B E w p v) : B ≤ w.heap.size := by have := k.1 p k.ep; omega
theorem Ns.kept {F : Nat → Obj → Prop} (k : Ns B E w p v) (hk : Rg.Kept F w w') (hE : ∀ k o, E k → ¬ F k o) : Ns B E w' p v := by
  obtain ⟨h1, h2, Eb, q, r, h⟩ := k
  exact ⟨fun k e => ⟨(h1 k e).1, Nat.lt_of_lt_of_le (h1 k e).2 hk.size⟩, h2, Eb, q, r, h.kept hk hE⟩
theorem Ns.on (k : Ns B E w p v) (hb : Below w.heap.size w w') : Ns B E w' p v := k.kept (F := fun _ _ => False) (Rg.Kept.of_below hb) (fun _ _ _ h => h)
theorem Ns.wide (k : Ns B E w p v) (h : ∀ k, E k → E' k) (h' : ∀ k, E' k → B ≤ k ∧ k < w.heap.size) : Ns B E' w p v := by
  obtain ⟨_, h2, Eb, q, r, h4⟩ := k
  exact ⟨h', h2, Eb, q, r, h4.wide h⟩
theorem Ns.grow {W : World} (k : Ns B E w p v) (hB : B ≤ W.heap.size) : Ns B (growE E W w) w p v :=
  k.wide (fun _ e => .inl e) (fun i e => e.elim (k.1 i) (fun e => ⟨by omega, e.2⟩))
theorem Ns.bel (k : Ns B E w p v) (hk : Rg.Kept (fun i _ => E i) w w') : Below B w w' := hk.bel k.low (fun i _ e => (k.1 i e).1)
theorem sgrow_in (h : ∀ k, E k → B ≤ k ∧ k < w.heap.size) (hB : B ≤ w.heap.size) (hs : w.heap.size ≤ w'.heap.size) : ∀ k, growE E w w' k → B ≤ k ∧ k < w'.heap.size := fun k e => by
  rcases e with e | e
  · have := h k e; omega
  · omega
end
end Go.Proofs.YtihddekjicpihaaGreatDoor
/-
  Contracts of shipper's isId, Down, Parcels, forget; those of a shipper that there isn't.
-/
namespace Go.Proofs.YtihddekjicpihaaGreatDoor
open Go.ChangeShapes Go.WideShapes Go.ChangeAt Go.RowKit Go.Maps Gd.Pu

theorem shisid_any (id : Int) (w : World) : Calls Tryz.prog 127 #[.int .i64 id] w fun e w' => e = .returned (.bool (Gd.isI id)) ∧ w = w' := by
  by_cases h0 : 1 ≤ id
  · by_cases h1 : id ≤ 999
    · have hm : true = Gd.isI id := (Gd.isI_iff.2 ⟨h0, h1⟩).symm
      rw [← hm]
      clear hm
      go_enter Tryz.func127, Tryz.ntmps127
      go_wp2
      go_ret
      exact ⟨rfl, rfl⟩
    · have hm : false = Gd.isI id := by unfold Gd.isI; simp; omega
      rw [← hm]
      clear hm
      go_enter Tryz.func127, Tryz.ntmps127
      go_wp2
      go_ret
      exact ⟨rfl, rfl⟩
  · have hm : false = Gd.isI id := by unfold Gd.isI; simp; omega
    rw [← hm]
    clear hm
    go_enter Tryz.func127, Tryz.ntmps127
    go_wp2
    go_ret
    exact ⟨rfl, rfl⟩
section
variable {B : Nat} {E : Nat → Prop} {w : World} {p : Nat} {v : Sh} {Eb : Nat → Prop} {q : Nat} {r : Value}
theorem shdown_any (k : NsV B E w p v Eb q r) :
    Calls Tryz.prog 41 #[.pointer (some ⟨p, 0, none⟩)] w fun e w' => e = .returned (.bool v.down) ∧ w = w' := by
  have c0 := k.cell
  have H := jdown_any k.jr
  clear k
  generalize v.down = d at H ⊢
  go_enter Tryz.func41, Tryz.ntmps41
  go_wp2_with (go_at_call 73; refine H.mono ?_; rintro e w' ⟨rfl, rfl⟩)
  go_ret
  exact ⟨rfl, rfl⟩
theorem shdown_nil (w : World) : Calls Tryz.prog 41 #[.pointer none] w fun e w' => e = .returned (.bool false) ∧ w = w' := by
  go_enter Tryz.func41, Tryz.ntmps41
  go_wp2
  go_ret
  exact ⟨rfl, rfl⟩
theorem shparcels_any (p : Nat) (w : World) : Calls Tryz.prog 36 #[.pointer (some ⟨p, 0, none⟩)] w fun e w' => e = .returned (.pointer (some ⟨p, 1, none⟩)) ∧ w = w' := by
  go_enter Tryz.func36, Tryz.ntmps36
  go_wp2
  go_ret
  exact ⟨rfl, rfl⟩
theorem shparcels_nil (w : World) : Calls Tryz.prog 36 #[.pointer none] w fun e w' => e = .returned (.pointer none) ∧ w = w' := by
  go_enter Tryz.func36, Tryz.ntmps36
  go_wp2
  go_ret
  exact ⟨rfl, rfl⟩
end
theorem shcrash_nil (stay torn : Int) (w : World) : Calls Tryz.prog 30 #[.pointer none, .int .i64 stay, .int .i64 torn] w fun e w' => (∃ x, e = .returned x) ∧ w = w' := by
  go_enter Tryz.func30, Tryz.ntmps30
  go_wp2
  refine bodyPost_ret (results_none rfl _ _ _) rfl ?_
  exact ⟨⟨_, rfl⟩, rfl⟩
theorem shstart_nil (w : World) : Calls Tryz.prog 32 #[.pointer none] w fun e w' => (∃ x, e = .returned x) ∧ Below w.heap.size w w' := by
  have D := shdown_nil (w.alloc (.cells #[.pointer none] 57))
  have hb0 : Below w.heap.size w (w.alloc (.cells #[.pointer none] 57)) := (Below.refl _ _).alloc (Nat.le_refl _) _
  have HB := hide hb0
  clear hb0
  go_enter Tryz.func32, Tryz.ntmps32
  go_wp2_with (go_at_call 41; refine D.mono ?_; clear D; rintro e w' ⟨rfl, rfl⟩)
  refine bodyPost_ret (results_none rfl _ _ _) rfl ?_
  exact ⟨⟨_, rfl⟩, HB.out⟩
theorem shhears_nil (m : Ms.Mg) (w : World) : Calls Tryz.prog 85 #[.pointer none, .agg #[.int .i64 m.k, .int .i64 m.fr, .int .i64 m.to, .int .i64 m.id, .int .i64 m.st, .int .i64 m.a, .int .i64 m.b]] w fun e w' => e = .returned (.bool false) ∧ Below w.heap.size w w' := by
  have hb0 : Below w.heap.size w (w.alloc (.cells #[.int .i64 m.k, .int .i64 m.fr, .int .i64 m.to, .int .i64 m.id, .int .i64 m.st, .int .i64 m.a, .int .i64 m.b] 31)) := (Below.refl _ _).alloc (Nat.le_refl _) _
  have HB := hide hb0
  clear hb0
  go_enter Tryz.func85, Tryz.ntmps85
  go_wp2
  go_ret
  exact ⟨rfl, HB.out⟩
theorem shhandle_nil (m : Ms.Mg) (w : World) : Calls Tryz.prog 34 #[.pointer none, .agg #[.int .i64 m.k, .int .i64 m.fr, .int .i64 m.to, .int .i64 m.id, .int .i64 m.st, .int .i64 m.a, .int .i64 m.b]] w fun e w' => e = .returned (.slice none 0 0) ∧ Below w.heap.size w w' := by
  have H := shhears_nil m (w.alloc (.cells #[.int .i64 m.k, .int .i64 m.fr, .int .i64 m.to, .int .i64 m.id, .int .i64 m.st, .int .i64 m.a, .int .i64 m.b] 31))
  have hb0 : Below w.heap.size w (w.alloc (.cells #[.int .i64 m.k, .int .i64 m.fr, .int .i64 m.to, .int .i64 m.id, .int .i64 m.st, .int .i64 m.a, .int .i64 m.b] 31)) := (Below.refl _ _).alloc (Nat.le_refl _) _
  have HB := hide hb0
  clear hb0
  go_enter Tryz.func34, Tryz.ntmps34
  go_wp2_with (go_at_call 85; refine H.mono ?_; clear H; rintro e w' ⟨rfl, hb⟩; have HX := hide (bel_on' HB.out hb); clear hb)
  go_ret
  exact ⟨rfl, HX.out⟩
end Go.Proofs.YtihddekjicpihaaGreatDoor
/-
  Contracts of shipper's hears, would, follow, note.
-/
namespace Go.Proofs.YtihddekjicpihaaGreatDoor
open Go.ChangeShapes Go.WideShapes Go.ChangeAt Go.RowKit Go.Maps Gd.Pu

section
variable {B : Nat} {E : Nat → Prop} {w : World} {p : Nat} {v : Sh} {Eb : Nat → Prop} {q : Nat} {r : Value}
theorem jq_len (q : Nat) : (Jq q).length = 1 := rfl
/-- The book is asked where the node keeps it. -/
theorem NsV.has (k : NsV B E w p v Eb q r) {id : Int} (hw : (Lit.int .i64 id).wf = true) :
    Calls Tryz.prog 156 #[.pointer (some ⟨p, 1, none⟩), .int .i64 id] w fun e w' => e = .returned (.tuple #[.int .i64 ((Pa.findP v.l id).getD (0, 0)).1, .int .i64 ((Pa.findP v.l id).getD (0, 0)).2, .bool (Pa.findP v.l id).isSome]) ∧ Below w.heap.size w w' := by
  have h := Pa.phas_any k.bk hw
  rw [jq_len] at h
  exact h
theorem NsV.went (k : NsV B E w p v Eb q r) (item : Int) :
    Calls Tryz.prog 39 #[.pointer (some ⟨p, 1, none⟩), .int .i64 item] w fun e w' => e = .returned (.int .i64 (Pa.wentP v.l item)) ∧ Below w.heap.size w w' := by
  have h := Pa.pwent_any k.bk item
  rw [jq_len] at h
  exact h
theorem NsV.ids (k : NsV B E w p v Eb q r) : Calls Tryz.prog 37 #[.pointer (some ⟨p, 1, none⟩)] w (Pa.OwnInts w (Pa.idsP v.l)) := by
  have h := Pa.pids_any k.bk
  rw [jq_len] at h
  exact h
theorem NsV.ship (k : NsV B E w p v Eb q r) {id : Int} (hw : (Lit.int .i64 id).wf = true) (item qty : Int) :
    Calls Tryz.prog 125 #[.pointer (some ⟨p, 1, none⟩), .int .i64 id, .int .i64 item, .int .i64 qty] w fun e w' => e = .returned (.int .i64 (shE v id item qty)) ∧ NsV B (growE E w w') w' p ⟨v.room, v.T, v.down, Pa.shipL v.l id item qty⟩ (growE Eb w w') q r ∧ Rg.Kept (fun k _ => E k) w w' ∧ Rg.Kept (fun k _ => Eb k) w w' := by
  have h := Pa.pship_any k.bk hw item qty
  rw [jq_len] at h
  refine h.mono ?_
  rintro e w' ⟨h1, h2, h3⟩
  exact ⟨h1, (k.bstep h2 h3).1, (k.bstep h2 h3).2, h3⟩
theorem shhears_any (k : NsV B E w p v Eb q r) (m : Ms.Mg) :
    Calls Tryz.prog 85 #[.pointer (some ⟨p, 0, none⟩), .agg #[.int .i64 m.k, .int .i64 m.fr, .int .i64 m.to, .int .i64 m.id, .int .i64 m.st, .int .i64 m.a, .int .i64 m.b]] w fun e w' => e = .returned (.bool (hearS v m)) ∧ Below w.heap.size w w' := by
  obtain ⟨W, hW⟩ : ∃ W, W = w.alloc (.cells #[.int .i64 m.k, .int .i64 m.fr, .int .i64 m.to, .int .i64 m.id, .int .i64 m.st, .int .i64 m.a, .int .i64 m.b] 31) := ⟨_, rfl⟩
  have hb0 : Below w.heap.size w W := by rw [hW]; exact (Below.refl _ _).alloc (Nat.le_refl _) _
  have hbx : W.heap[w.heap.size]? = some (.cells #[.int .i64 m.k, .int .i64 m.fr, .int .i64 m.to, .int .i64 m.id, .int .i64 m.st, .int .i64 m.a, .int .i64 m.b] 31 (0, 0)) := by rw [hW]; exact World.alloc_heap_new w _
  have kW := k.on hb0
  obtain ⟨a0, a1, a2, a3, a4, a5, a6⟩ := seven_of hbx
  have D := shdown_any kW
  have I := shisid_any m.id W
  rw [hW] at D I
  have HB0 := hide hb0
  rw [hW] at a0 a1 a2 a3
  have HB1 := hide hW
  unfold hearS
  obtain ⟨m0, m1, m2, m3, m4, m5, m6⟩ := m
  simp only at *
  generalize v.down = d at D ⊢
  generalize Gd.isI m3 = ii at I ⊢
  obtain ⟨b0, h0⟩ : ∃ b0, (m0 == 15) = b0 := ⟨_, rfl⟩
  obtain ⟨b1, h1⟩ : ∃ b1, (m2 == 3) = b1 := ⟨_, rfl⟩
  obtain ⟨b2, h2⟩ : ∃ b2, (m1 == 0) = b2 := ⟨_, rfl⟩
  rw [h0, h1, h2]
  clear k kW hW hb0 hbx a4 a5 a6
  cases d <;> cases b0 <;> cases b2 <;> cases b1 <;> cases ii
  all_goals go_enter Tryz.func85, Tryz.ntmps85
  all_goals go_wp2_with (first
    | (go_at_call 41; refine D.mono ?_; rintro e w' ⟨rfl, rfl⟩)
    | (go_at_call 127; refine I.mono ?_; rintro e w' ⟨rfl, rfl⟩))
  all_goals go_ret
  all_goals exact ⟨rfl, by rw [← HB1.out]; exact HB0.out⟩

/-- What is turned behind all that lay there is no matter. -/
theorem bel_new {w u u' : World} {F : Nat → Prop} (h : Below w.heap.size w u) (hk : Rg.Kept (fun i _ => F i) u u') (hF : ∀ i, F i → w.heap.size ≤ i) : Below w.heap.size w u' := h.trans (hk.bel h.size (fun i _ e => hF i e))
theorem shwould_any (k : NsV B E w p v Eb q r) (hG : Pa.GoodC v.l) {id : Int} (hw : (Lit.int .i64 id).wf = true) (x y : Int) :
    Calls Tryz.prog 128 #[.pointer (some ⟨p, 0, none⟩), .int .i64 id, .int .i64 x, .int .i64 y] w fun e w' => e = .returned (.int .i64 (shE v id x y)) ∧ Below w.heap.size w w' := by
  have HN := Pa.pnew_any w
  have HS : Hid (∀ (l : List (Int × Int × Int)) (F : Nat → Prop) (u : World) (g : Nat), Pa.Pc w.heap.size F u g Pa.tBook [] l → Below w.heap.size w u → ∀ a b : Int, Calls Tryz.prog 125 #[.pointer (some ⟨g, 0, none⟩), .int .i64 id, .int .i64 a, .int .i64 b] u fun e w' => e = .returned (.int .i64 (Pa.shipE l id a b)) ∧ (∃ F', Pa.Pc w.heap.size F' w' g Pa.tBook [] (Pa.shipL l id a b)) ∧ Below w.heap.size w w') := fun l F u g hc hu a b => by
    have h := Pa.pship_any hc hw a b
    rw [List.length_nil] at h
    refine h.mono ?_
    rintro e w' ⟨h1, h2, h3⟩
    exact ⟨h1, ⟨_, h2⟩, bel_new hu h3 (fun i e => (hc.1 i e).1)⟩
  unfold shE
  cases hf : Pa.findP v.l id with
  | none =>
    have HH : Hid (∀ u, Below w.heap.size w u → Calls Tryz.prog 156 #[.pointer (some ⟨p, 1, none⟩), .int .i64 id] u fun e w' => e = .returned (.tuple #[.int .i64 0, .int .i64 0, .bool false]) ∧ Below u.heap.size u w') := fun u hu => by
      have := (k.on hu).has hw
      rw [hf] at this
      exact this
    have H0 := hide (would_none hf x y)
    clear k hf hw hG
    go_enter Tryz.func128, Tryz.ntmps128
    go_wp2_with (first
      | (go_at_call 124; refine HN.mono ?_; clear HN; rintro e u1 ⟨g, rfl, -, hc1, hb1, -⟩; have HC1 := hide hc1; have HB1 := hide hb1; have H1 := HH.out u1 hb1; clear hc1 hb1 HH)
      | (go_at_call 156; refine H1.mono ?_; clear H1; rintro e u2 ⟨rfl, hb2⟩; have S2 := HS.out [] _ u2 g (HC1.out.on hb2) (bel_on' HB1.out hb2) x y; clear hb2 HS)
      | (go_at_call 125; refine S2.mono ?_; clear S2; rintro e u3 ⟨rfl, -, hb3⟩; have HB3 := hide hb3; clear hb3))
    go_ret
    exact ⟨by rw [H0.out]; rfl, HB3.out⟩
  | some c =>
    obtain ⟨c1, c2⟩ := c
    have HH : Hid (∀ u, Below w.heap.size w u → Calls Tryz.prog 156 #[.pointer (some ⟨p, 1, none⟩), .int .i64 id] u fun e w' => e = .returned (.tuple #[.int .i64 c1, .int .i64 c2, .bool true]) ∧ Below u.heap.size u w') := fun u hu => by
      have := (k.on hu).has hw
      rw [hf] at this
      exact this
    have H0 := hide (would_some hG hf x y)
    clear k hf hw hG
    go_enter Tryz.func128, Tryz.ntmps128
    go_wp2_with (first
      | (go_at_call 124; refine HN.mono ?_; clear HN; rintro e u1 ⟨g, rfl, -, hc1, hb1, -⟩; have HC1 := hide hc1; have HB1 := hide hb1; have H1 := HH.out u1 hb1; clear hc1 hb1 HH)
      | (go_at_call 156; refine H1.mono ?_; clear H1; rintro e u2 ⟨rfl, hb2⟩; have S2 := HS.out [] _ u2 g (HC1.out.on hb2) (bel_on' HB1.out hb2) c1 c2; clear hb2)
      | (go_at_call 125; refine S2.mono ?_; clear S2; rintro e u3 ⟨rfl, ⟨F3, hc3⟩, hb3⟩; have S3 := HS.out _ _ u3 g hc3 hb3 x y; clear hc3 hb3 HS)
      | (go_at_call 125; refine S3.mono ?_; clear S3; rintro e u4 ⟨rfl, -, hb4⟩; have HB4 := hide hb4; clear hb4))
    go_ret
    exact ⟨by rw [H0.out]; rfl, HB4.out⟩
/-- What an entry says is followed. -/
theorem shfollow_any (k : NsV B E w p v Eb q r) {x : Int × Int × Int} (hx : OkP x) {b off c : Nat} {K : ByteArray} (hb : ¬ Eb b) (h0 : w.cell? ⟨b, off, none⟩ = some (.int .i64 x.2.1)) (h1 : w.cell? ⟨b, off + 1, none⟩ = some (.int .i64 x.2.2)) :
    Calls Tryz.prog 83 #[.pointer (some ⟨p, 0, none⟩), .agg #[.string K, .int .i64 x.1, .slice (some ⟨b, off, none⟩) 2 c]] w fun e w' => (∃ y, e = .returned y) ∧ (∃ Eb', NsV B (growE E w w') w' p ⟨v.room, v.T, v.down, Pa.shipL v.l x.1 x.2.1 x.2.2⟩ Eb' q r ∧ ∀ i, Eb' i → growE Eb w w' i) ∧ Rg.Kept (fun k _ => E k) w w' ∧ Rg.Kept (fun k _ => Eb k) w w' := by
  have hw : (Lit.int .i64 x.1).wf = true := wf_of (by have := hx.1; omega) (by have := hx.1; omega)
  obtain ⟨W, hW⟩ : ∃ W, W = w.alloc (.cells #[.string K, .int .i64 x.1, .slice (some ⟨b, off, none⟩) 2 c] 94) := ⟨_, rfl⟩
  have hbW : Below w.heap.size w W := by rw [hW]; exact (Below.refl _ _).alloc (Nat.le_refl _) _
  have c0 := cellL h0 hbW
  have c1 := cellL h1 hbW
  obtain ⟨b0, b1, b2⟩ := three_new w (.string K) (.int .i64 x.1) (.slice (some ⟨b, off, none⟩) 2 c) 94
  rw [← hW] at b0 b1 b2
  have SH : Hid (∀ u, Below w.heap.size w u → Calls Tryz.prog 125 #[.pointer (some ⟨p, 1, none⟩), .int .i64 x.1, .int .i64 x.2.1, .int .i64 x.2.2] u fun e w' => (∃ y, e = .returned (.int .i64 y)) ∧ (∃ Eb', NsV B (growE E w w') w' p ⟨v.room, v.T, v.down, Pa.shipL v.l x.1 x.2.1 x.2.2⟩ Eb' q r ∧ ∀ i, Eb' i → growE Eb w w' i) ∧ Rg.Kept (fun k _ => E k) w w' ∧ Rg.Kept (fun k _ => Eb k) u w') := fun u hu => by
    refine ((k.on hu).ship hw x.2.1 x.2.2).mono ?_
    rintro e w' ⟨g1, g2, g3, g4⟩
    exact ⟨⟨_, g1⟩, ⟨_, g2.wide (fun i e => e.imp (fun e => e) (fun e => ⟨Nat.le_trans hu.size e.1, e.2⟩)), fun i e => e.imp (fun e => e) (fun e => ⟨Nat.le_trans hu.size e.1, e.2⟩)⟩, (Rg.Kept.of_below hu).trans g3, g4⟩
  have NX : Hid (∀ u u1, Below W.heap.size W u → Rg.Kept (fun k _ => Eb k) u u1 → (u1.cell? ⟨w.heap.size, 1, none⟩ = some (.int .i64 x.1) ∧ u1.cell? ⟨w.heap.size, 2, none⟩ = some (.slice (some ⟨b, off, none⟩) 2 c) ∧ u1.cell? ⟨b, off, none⟩ = some (.int .i64 x.2.1) ∧ u1.cell? ⟨b, off + 1, none⟩ = some (.int .i64 x.2.2))) := fun u u1 hu hk =>
    have ne : ∀ _ : Obj, ¬ Eb w.heap.size := fun _ e => by have := (k.bk.1 _ e).2; omega
    ⟨kept_cellR hk ne (cellL b1 hu), kept_cellR hk ne (cellL b2 hu), kept_cellR hk (fun _ => hb) (cellL c0 hu), kept_cellR hk (fun _ => hb) (cellL c1 hu)⟩
  have HWW := hide hW
  have HBW := hide hbW
  have KW : Hid (Rg.Kept (fun k _ => Eb k) w W) := Rg.Kept.of_below hbW
  obtain ⟨x0, x1, x2⟩ := x
  simp only at *
  clear k hx hW hbW h0 h1 hw hb
  go_enter Tryz.func83, Tryz.ntmps83
  go_wp2_with fail
  rw [← HWW.out]
  go_region_held3 (fun w' => w'.cell? ⟨w.heap.size, 1, none⟩ = some (.int .i64 x0) ∧ w'.cell? ⟨w.heap.size, 2, none⟩ = some (.slice (some ⟨b, off, none⟩) 2 c) ∧ w'.cell? ⟨b, off, none⟩ = some (.int .i64 x1) ∧ w'.cell? ⟨b, off + 1, none⟩ = some (.int .i64 x2)) (go_keep) (first
    | (go_at_call 125; refine (SH.out _ (by first | exact HBW.out | exact bel_on' HBW.out (Below.refl _ _).drew)).mono ?_; clear SH; rintro e u1 ⟨⟨y, rfl⟩, hx1, hx2, hx3⟩; clear b1 b2 c0 c1; obtain ⟨b1, b2, c0, c1⟩ := NX.out _ u1 (by first | exact Below.refl _ _ | exact (Below.refl _ _).drew) hx3; have HX1 := hide hx1; have HX2 := hide hx2; have HX3 := hide (KW.out.trans (by first | exact hx3 | exact (Rg.Kept.of_below (Below.refl _ _).drew).trans hx3)); clear hx1 hx2 hx3))
  clear b1 b2 c0 c1 NX
  go_wp2
  go_end0
  exact ⟨⟨_, rfl⟩, HX1.out, HX2.out, HX3.out⟩
end
end Go.Proofs.YtihddekjicpihaaGreatDoor
/-
  Contracts of shipper's note, ship.
-/
namespace Go.Proofs.YtihddekjicpihaaGreatDoor
open Go.ChangeShapes Go.WideShapes Go.ChangeAt Go.RowKit Go.Maps Gd.Pu

theorem ints_two' {w : World} {b off : Nat} {x y : Int} (h0 : w.cell? ⟨b, off, none⟩ = some (.int .i64 x)) (h1 : w.cell? ⟨b, off + 1, none⟩ = some (.int .i64 y)) : Ints w (some ⟨b, off, none⟩) [x, y] := .inr ⟨b, off, rfl, fun i hi => by
  have hi2 : i < 2 := hi
  rcases (show i = 0 ∨ i = 1 by omega) with rfl | rfl
  · exact h0
  · exact h1⟩
section
variable {B : Nat} {E : Nat → Prop} {w : World} {p : Nat} {v : Sh} {Eb : Nat → Prop} {q : Nat} {r : Value}
set_option maxRecDepth 100000 in
set_option maxHeartbeats 2000000 in
theorem shnote_any (k : NsV B E w p v Eb q r) (hE : ∀ k, E k → k < w.heap.size) (hg : Gl w) (hd : v.down = false) {x : Int × Int × Int} (hx : OkP x) {b off c : Nat} (hb : ¬ E b) (h0 : w.cell? ⟨b, off, none⟩ = some (.int .i64 x.2.1)) (h1 : w.cell? ⟨b, off + 1, none⟩ = some (.int .i64 x.2.2)) :
    Calls Tryz.prog 129 #[.pointer (some ⟨p, 0, none⟩), .agg #[.string kS, .int .i64 x.1, .slice (some ⟨b, off, none⟩) 2 c]] w fun e w' => e = .returned (.bool (hasR v)) ∧ (∃ Eb' r', NsV B (growE E w w') w' p (noteP v x) Eb' q r') ∧ Rg.Kept (fun k _ => E k) w w' := by
  obtain ⟨W, hW⟩ : ∃ W, W = w.alloc (.cells #[.string kS, .int .i64 x.1, .slice (some ⟨b, off, none⟩) 2 c] 94) := ⟨_, rfl⟩
  have hb0 : Below w.heap.size w W := by rw [hW]; exact (Below.refl _ _).alloc (Nat.le_refl _) _
  have hbD : Below W.heap.size W W.drew := (Below.refl _ _).drew
  have hbW : Below w.heap.size w W.drew := bel_on' hb0 hbD
  have hbx : W.heap[w.heap.size]? = some (.cells #[.string kS, .int .i64 x.1, .slice (some ⟨b, off, none⟩) 2 c] 94 (0, 0)) := by rw [hW]; exact World.alloc_heap_new w _
  have hbxD : W.drew.heap[w.heap.size]? = some (.cells #[.string kS, .int .i64 x.1, .slice (some ⟨b, off, none⟩) 2 c] 94 (0, 0)) := (hbD.block _ (Array.getElem?_eq_some_iff.1 hbx).1).trans hbx
  have kW := k.on hbW
  have ha : Ints w (some ⟨b, off, none⟩) (nP x) := ints_two' h0 h1
  have hqr : q < w.heap.size ∧ ∀ i, r.ownBlock = some i → i < w.heap.size := ⟨hE _ k.eq, fun i e => hE _ (k.er i e)⟩
  have A : Calls Tryz.prog 110 #[.pointer (some ⟨q, 0, none⟩), .agg #[.string kS, .int .i64 x.1, .slice (some ⟨b, off, none⟩) 2 c]] W.drew _ := add_any kW.jr kS x.1 (some ⟨b, off, none⟩) (nP x) c (by decide) (ha.below hbW) (by unfold nP; simp) (hg.on hbW)
  have c0 := (k.on hb0).cell
  have b0 : W.cell? ⟨w.heap.size, 0, none⟩ = some (.string kS) := by rw [cell_of hbx]; rfl
  have b1 : W.cell? ⟨w.heap.size, 1, none⟩ = some (.int .i64 x.1) := by rw [cell_of hbx]; rfl
  have b2 : W.cell? ⟨w.heap.size, 2, none⟩ = some (.slice (some ⟨b, off, none⟩) 2 c) := by rw [cell_of hbx]; rfl
  have hln : (v.T.map lnP).length = v.T.length := List.length_map _
  have hm := may_sh hx
  unfold addL addE at A
  rw [hd, hln, hm] at A
  have HWW := hide hW
  have CE : Hid (∀ u r', Off q r r' W.drew u → (u.cell? ⟨p, 0, none⟩ = some (.pointer (some ⟨q, 0, none⟩)) ∧ u.cell? ⟨w.heap.size, 0, none⟩ = some (.string kS) ∧ u.cell? ⟨w.heap.size, 1, none⟩ = some (.int .i64 x.1) ∧ u.cell? ⟨w.heap.size, 2, none⟩ = some (.slice (some ⟨b, off, none⟩) 2 c))) := fun u r' ho => by
    have e2 := ho.heap (k := w.heap.size) (Array.getElem?_eq_some_iff.1 hbxD).1 (by omega) (fun e => by have := hqr.2 _ e; omega)
    have e3 := e2.trans hbxD
    refine ⟨ho.cell kW.cell (fun e => kW.nq (by rw [← show p = q from e]; exact kW.bk.2.1)) (fun e => kW.nr p e kW.bk.2.1), ?_, ?_, ?_⟩
    all_goals (rw [cell_of e3]; rfl)
  by_cases hr : v.room ≤ (v.T.length : Int)
  · have hR : hasR v = false := by unfold hasR; simp; omega
    have hN : noteP v x = v := by unfold noteP; rw [hR]; rfl
    rw [hR, hN]
    have kB0 := k.on hb0
    have AF : ∀ u : Later W, Calls Tryz.prog 110 #[.pointer (some ⟨q, 0, none⟩), .agg #[.string kS, .int .i64 x.1, .slice (some ⟨b, off, none⟩) 2 c]] u.w fun x w' => x = .returned (.int .i64 5) ∧ ∃ u' : Later W, w' = u'.w := fun u => calls_later u (by
      have j1 := (kB0.on u.below).jr
      rw [hd] at j1
      exact add_full j1 kS x.1 (some ⟨b, off, none⟩) (nP x) c (by decide) ((ha.below hb0).below u.below) (by unfold nP; simp) ((hg.on hb0).on u.below) hm (by rw [hln]; exact hr))
    have NX : Hid (∀ u : Later W, (∃ Eb' r', NsV B (growE E w u.w) u.w p v Eb' q r') ∧ Rg.Kept (fun k _ => E k) w u.w) := fun u =>
      ⟨⟨Eb, r, (kB0.on u.below).wide (fun i e => .inl e)⟩, (Rg.Kept.of_below hb0).trans (Rg.Kept.of_below u.below)⟩
    generalize kS = K at AF b0 HWW ⊢
    generalize x.1 = ei at AF b1 HWW ⊢
    have z0 := Later.cell c0
    have z1 := Later.cell b0
    have z2 := Later.cell b1
    have z3 := Later.cell b2
    have hne : Nonempty (Later W) := ⟨Later.now W⟩
    clear hW hbW hbx hbxD hb0 hbD kW hqr ha hg hm hln hN hR hr hx hb k hE hd kB0 A CE h0 h1
    go_enter Tryz.func129, Tryz.ntmps129
    go_wp2_with fail
    rw [← HWW.out]
    refine region_later (by kernel_rfl) (by kernel_rfl) ?_
    repeat (first | go_big_quiet_step (exact AF _) | quiet_step (exact AF _))
    refine wpQuiet_nil ?_
    intro u
    go_wp2
    go_ret
    exact ⟨rfl, NX.out u⟩
  · have hR : hasR v = true := by unfold hasR; simp; omega
    have hN : noteP v x = ⟨v.room, v.T ++ [x], v.down, Pa.shipL v.l x.1 x.2.1 x.2.2⟩ := by unfold noteP; rw [hR]; rfl
    rw [hR, hN]
    simp only [if_neg (show ¬ (false = true) by decide), if_true, if_neg hr] at A
    have NX : Hid (∀ u1 r1 u2, Off q r r1 W.drew u1 → Jr B u2 q r1 v.room (v.T.map lnP ++ [lineV kS x.1 (nP x)]) (v.T.map lnP ++ [lineV kS x.1 (nP x)]).length false → Off q r1 r1 u1 u2 →
        Calls Tryz.prog 83 #[.pointer (some ⟨p, 0, none⟩), .agg #[.string kS, .int .i64 x.1, .slice (some ⟨b, off, none⟩) 2 c]] u2 fun e w' => (∃ y, e = .returned y) ∧ (∃ Eb' r', NsV B (growE E w w') w' p ⟨v.room, v.T ++ [x], v.down, Pa.shipL v.l x.1 x.2.1 x.2.2⟩ Eb' q r') ∧ Rg.Kept (fun k _ => E k) w w') := fun u1 r1 u2 g1 g2 g3 => by
      have ho := g1.trans g3
      have e1 : v.T.map lnP ++ [lineV kS x.1 (nP x)] = (v.T ++ [x]).map lnP := by rw [List.map_append]; rfl
      rw [e1, List.length_map, ← hd] at g2
      obtain ⟨h4, h5⟩ := kW.jstep g2 ho
      have h6 : Rg.Kept (fun k _ => E k) w u2 := (Rg.Kept.of_below hbW).trans h5
      have h7 : NsV B (growE E w u2) u2 p ⟨v.room, v.T ++ [x], v.down, v.l⟩ Eb q r1 := h4.wide (fun i e => e.imp id (fun e => ⟨Nat.le_trans hbW.size e.1, e.2⟩))
      refine (shfollow_any h7 hx (c := c) (K := kS) (fun e => hb (k.sub _ e)) (kept_cellR h6 (fun _ => hb) h0) (kept_cellR h6 (fun _ => hb) h1)).mono ?_
      rintro e u3 ⟨y, ⟨Eb', k3, -⟩, hk3, -⟩
      exact ⟨y, ⟨Eb', r1, k3.wide (fun i e => e.elim (fun e => e.imp id (fun e => ⟨e.1, Nat.lt_of_lt_of_le e.2 hk3.size⟩)) (fun e => .inr ⟨Nat.le_trans h6.size e.1, e.2⟩))⟩, kept_grow h6 hk3⟩
    generalize v.T.map lnP ++ [lineV kS x.1 (nP x)] = L' at A NX
    have SY : Hid (∀ u1 r1, Jr B u1 q r1 v.room L' v.T.length false → Calls Tryz.prog 111 #[.pointer (some ⟨q, 0, none⟩)] u1 fun e w' => e = .returned (.int .i64 0) ∧ Jr B w' q r1 v.room L' L'.length false ∧ Off q r1 r1 u1 w') := fun u1 r1 h => sync_up h
    generalize kS = K at A b0 HWW CE NX ⊢
    generalize x.1 = ei at A b1 HWW CE NX ⊢
    clear hW hbW hbx hbxD hb0 hbD kW hqr ha hg hm hln hN hR hr hx hb k hE hd h0 h1
    go_enter Tryz.func129, Tryz.ntmps129
    go_wp2_with fail
    rw [← HWW.out]
    go_region_held3 (fun w' => w'.cell? ⟨p, 0, none⟩ = some (.pointer (some ⟨q, 0, none⟩)) ∧ w'.cell? ⟨w.heap.size, 0, none⟩ = some (.string K) ∧ w'.cell? ⟨w.heap.size, 1, none⟩ = some (.int .i64 ei) ∧ w'.cell? ⟨w.heap.size, 2, none⟩ = some (.slice (some ⟨b, off, none⟩) 2 c)) (go_keep) (first
      | (go_at_call 110; refine A.mono ?_; clear A; rintro e u1 ⟨r1, rfl, hj, ho⟩; clear c0 b0 b1 b2; obtain ⟨c0, b0, b1, b2⟩ := CE.out u1 r1 ho; have HO1 := hide ho; have S2 := SY.out u1 r1 hj; clear hj ho)
      | (go_at_call 111; refine S2.mono ?_; clear S2; rintro e u2 ⟨rfl, hj, ho⟩; clear c0 b0 b1 b2; obtain ⟨c0, b0, b1, b2⟩ := CE.out u2 r1 (HO1.out.trans ho); have FX := NX.out u1 r1 u2 HO1.out hj ho; clear hj ho))
    clear NX SY CE
    go_wp2_with (go_at_call 83; refine FX.mono ?_; clear FX; rintro e u3 ⟨⟨y, rfl⟩, hx⟩; have HX := hide hx; clear hx)
    go_ret
    exact ⟨rfl, HX.out⟩
theorem shship_any (k : NsV B E w p v Eb q r) (hE : ∀ k, E k → k < w.heap.size) (hG : Pa.GoodC v.l) (hg : ∀ u, Rg.Kept (fun k _ => E k) w u → Gl u) (hd : v.down = false) {id : Int} (hi : 1 ≤ id ∧ id ≤ 999) (x y : Int) :
    Calls Tryz.prog 86 #[.pointer (some ⟨p, 0, none⟩), .int .i64 id, .int .i64 x, .int .i64 y] w fun e w' => e = .returned (.bool (shB v id x y)) ∧ (∃ Eb' r', NsV B (growE E w w') w' p (shS v id x y) Eb' q r') ∧ Rg.Kept (fun k _ => E k) w w' := by
  have WD := shwould_any k hG (wf_of (by omega) (by omega) : (Lit.int .i64 id).wf = true) x y
  have SAME : Hid (∀ u, Below w.heap.size w u → (∃ Eb' r', NsV B (growE E w u) u p v Eb' q r') ∧ Rg.Kept (fun k _ => E k) w u) := fun u hu => ⟨⟨Eb, r, (k.on hu).wide (fun i e => .inl e)⟩, Rg.Kept.of_below hu⟩
  unfold shB shS
  rcases shE_three v id x y with h | h | h
  · rw [if_pos h, if_pos h]
    have hok : OkP (id, x, y) := by obtain ⟨h1, h2, h3, _⟩ := Pa.shipE_ok h; exact ⟨h1, h2, h3⟩
    rw [h] at WD
    have NT : Hid (∀ u, Below w.heap.size w u → ∀ X, X = u.alloc (.cells #[.int .i64 x, .int .i64 y] 3) → Calls Tryz.prog 129 #[.pointer (some ⟨p, 0, none⟩), .agg #[.string ⟨#[115, 101, 110, 116]⟩, .int .i64 id, .slice (some ⟨u.heap.size, 0, none⟩) 2 2]] X fun e w' => e = .returned (.bool (hasR v)) ∧ (∃ Eb' r', NsV B (growE E w w') w' p (noteP v (id, x, y)) Eb' q r') ∧ Rg.Kept (fun k _ => E k) w w') := fun u hu X hX => by
      have hbX : Below w.heap.size w X := by rw [hX]; exact bel_on' hu ((Below.refl _ _).alloc (Nat.le_refl _) _)
      have ex : X.heap[u.heap.size]? = some (.cells #[.int .i64 x, .int .i64 y] 3 (0, 0)) := by rw [hX]; exact World.alloc_heap_new u _
      have kX : Rg.Kept (fun k _ => E k) w X := Rg.Kept.of_below hbX
      refine (shnote_any (k.on hbX) (fun i e => Nat.lt_of_lt_of_le (hE i e) hbX.size) (hg X kX) hd hok (b := u.heap.size) (off := 0) (c := 2) (fun e => by have := hE _ e; have := hu.size; omega) (by rw [cell_of ex]; rfl) (by rw [cell_of ex]; rfl)).mono ?_
      rintro e w' ⟨h1, ⟨Eb', r', h2⟩, h3⟩
      exact ⟨h1, ⟨Eb', r', h2.wide (fun i e => e.imp (fun e => e) (fun e => ⟨Nat.le_trans hbX.size e.1, e.2⟩))⟩, kX.trans h3⟩
    clear h hok k hE hG hg hd hi SAME
    go_enter Tryz.func86, Tryz.ntmps86
    go_wp2_with (first
      | (go_at_call 128; refine WD.mono ?_; clear WD; rintro e u1 ⟨rfl, hb1⟩; have N1 := NT.out u1 hb1 _ rfl; clear hb1 NT)
      | (go_at_call 129; refine N1.mono ?_; clear N1; rintro e u2 ⟨rfl, hx⟩; have HX := hide hx; clear hx))
    go_ret
    exact ⟨rfl, HX.out⟩
  · rw [if_neg (by omega), if_neg (by omega), show decide (shE v id x y = 8) = false by simp [h]]
    rw [h] at WD
    clear h k hE hG hg hd hi
    go_enter Tryz.func86, Tryz.ntmps86
    go_wp2_with (first
      | (go_at_call 128; refine WD.mono ?_; clear WD; rintro e u1 ⟨rfl, hb1⟩; have HX := hide (SAME.out u1 hb1); clear hb1))
    go_ret
    exact ⟨rfl, HX.out⟩
  · rw [if_neg (by omega), if_neg (by omega), show decide (shE v id x y = 8) = true by simp [h]]
    rw [h] at WD
    clear h k hE hG hg hd hi
    go_enter Tryz.func86, Tryz.ntmps86
    go_wp2_with (first
      | (go_at_call 128; refine WD.mono ?_; clear WD; rintro e u1 ⟨rfl, hb1⟩; have HX := hide (SAME.out u1 hb1); clear hb1))
    go_ret
    exact ⟨rfl, HX.out⟩
end
end Go.Proofs.YtihddekjicpihaaGreatDoor
/-
  Contracts of shipper's Handle, forget, New, Crash.
-/
namespace Go.Proofs.YtihddekjicpihaaGreatDoor
open Go.ChangeShapes Go.WideShapes Go.ChangeAt Go.RowKit Go.Maps Gd.Pu

/-- What Handle leaves: its answer, a row of its own; the shipper behind it. -/
def HandP (B : Nat) (E : Nat → Prop) (w : World) (p : Nat) (v' : Sh) (xs : List Ms.Mg) (e : Ending) (w' : World) : Prop :=
  ∃ a c E', e = .returned (.slice a xs.length c) ∧ Ms.Mgs w' a xs ∧ (a = none → xs = []) ∧ (∀ ad, a = some ad → ¬ E' ad.block ∧ w.heap.size ≤ ad.block) ∧ (∀ k, E' k → growE E w w' k) ∧ Ns B E' w' p v' ∧ Rg.Kept (fun k _ => E k) w w'
theorem handp_no {B : Nat} {E E' : Nat → Prop} {w w' : World} {p : Nat} {v' : Sh} (k : Ns B E' w' p v') (hE : ∀ k, E' k → growE E w w' k) (hk : Rg.Kept (fun k _ => E k) w w') : HandP B E w p v' [] (.returned (.slice none 0 0)) w' :=
  ⟨none, 0, E', rfl, .inl rfl, fun _ => rfl, (fun _ e => by cases e), hE, k, hk⟩
theorem handp_one {B : Nat} {E : Nat → Prop} {w u u' : World} {p : Nat} {v' : Sh} {K nd m3 : Int} (k : Ns B (growE E w u) u p v') (hk : Rg.Kept (fun k _ => E k) w u)
    (e1 : Below (u.alloc (.cells #[.int .i64 K, .int .i64 nd, .int .i64 0, .int .i64 m3, .int .i64 0, .int .i64 0, .int .i64 0] 31)).heap.size (u.alloc (.cells #[.int .i64 K, .int .i64 nd, .int .i64 0, .int .i64 m3, .int .i64 0, .int .i64 0, .int .i64 0] 31)) u') :
    HandP B E w p v' [⟨K, nd, 0, m3, 0, 0, 0⟩] (.returned (.slice (some ⟨u.heap.size, 0, none⟩) 1 1)) u' := by
  have hbA : Below u.heap.size u u' := bel_on' ((Below.refl _ _).alloc (Nat.le_refl _) _) e1
  have hm := (Ms.mgs_new u [⟨K, nd, 0, m3, 0, 0, 0⟩] #[.int .i64 K, .int .i64 nd, .int .i64 0, .int .i64 m3, .int .i64 0, .int .i64 0, .int .i64 0] rfl).below e1
  refine ⟨_, 1, growE E w u, rfl, hm, (fun e => by cases e), fun ad e => ?_, fun k e => e.imp (fun e => e) (fun e => ⟨e.1, Nat.lt_of_lt_of_le e.2 hbA.size⟩), k.on hbA, hk.trans (Rg.Kept.of_below hbA)⟩
  cases e
  have h0 := hk.size
  exact ⟨fun e => by have : u.heap.size < u.heap.size := (k.1 _ e).2; omega, h0⟩
section
variable {B : Nat} {E : Nat → Prop} {w : World} {p : Nat} {v : Sh}
set_option maxHeartbeats 2000000 in
theorem shhandle_any (k : Ns B E w p v) (hg : ∀ u, Rg.Kept (fun k _ => E k) w u → Gl u) (m : Ms.Mg) :
    Calls Tryz.prog 34 #[.pointer (some ⟨p, 0, none⟩), .agg #[.int .i64 m.k, .int .i64 m.fr, .int .i64 m.to, .int .i64 m.id, .int .i64 m.st, .int .i64 m.a, .int .i64 m.b]] w (HandP B E w p (hsS v m) (hsA v m)) := by
  obtain ⟨hE, hG, Eb, q, r, k0⟩ := id k
  obtain ⟨W, hW⟩ : ∃ W, W = w.alloc (.cells #[.int .i64 m.k, .int .i64 m.fr, .int .i64 m.to, .int .i64 m.id, .int .i64 m.st, .int .i64 m.a, .int .i64 m.b] 31) := ⟨_, rfl⟩
  have hb0 : Below w.heap.size w W := by rw [hW]; exact (Below.refl _ _).alloc (Nat.le_refl _) _
  have hbx : W.heap[w.heap.size]? = some (.cells #[.int .i64 m.k, .int .i64 m.fr, .int .i64 m.to, .int .i64 m.id, .int .i64 m.st, .int .i64 m.a, .int .i64 m.b] 31 (0, 0)) := by rw [hW]; exact World.alloc_heap_new w _
  have H := shhears_any (k0.on hb0) m
  have HW := hide hW
  have NO : Hid (∀ u, Below W.heap.size W u → HandP B E w p v [] (.returned (.slice none 0 0)) u) := fun u hu =>
      handp_no (k.on (bel_on' hb0 hu)) (fun _ e => .inl e) (Rg.Kept.of_below (bel_on' hb0 hu))
  cases hh : hearS v m
  · have e1 : hsS v m = v := by unfold hsS; rw [hh]; rfl
    have e2 : hsA v m = [] := by unfold hsA hsB; rw [hh]; rfl
    rw [e1, e2]
    rw [hh] at H
    rw [hW] at H
    clear hh hE hG k0 k hg hbx hb0 e1 e2
    go_enter Tryz.func34, Tryz.ntmps34
    go_wp2_with (go_at_call 85; refine H.mono ?_; clear H; rintro e u1 ⟨rfl, hb1⟩; rw [← HW.out] at hb1; have HX := hide (NO.out u1 hb1); clear hb1 NO)
    go_ret
    exact HX.out
  · obtain ⟨hd, hk1, hfr, hto, hi⟩ := hearS_of hh
    rw [hh] at H
    have e1 : hsS v m = shS v m.id m.a m.b := by unfold hsS; rw [hh]; rfl
    have e2 : hsA v m = if shB v m.id m.a m.b = true then [⟨16, 3, 0, m.id, 0, 0, 0⟩] else [] := by unfold hsA hsB; rw [hh, Bool.true_and]
    rw [e1, e2]
    clear e1 e2 NO
    have NX : Hid (∀ u, Below W.heap.size W u → Calls Tryz.prog 86 #[.pointer (some ⟨p, 0, none⟩), .int .i64 m.id, .int .i64 m.a, .int .i64 m.b] u fun e w' => e = .returned (.bool (shB v m.id m.a m.b)) ∧ w'.heap[w.heap.size]? = some (.cells #[.int .i64 m.k, .int .i64 m.fr, .int .i64 m.to, .int .i64 m.id, .int .i64 m.st, .int .i64 m.a, .int .i64 m.b] 31 (0, 0)) ∧ Ns B (growE E w w') w' p (shS v m.id m.a m.b) ∧ Rg.Kept (fun k _ => E k) w w') := fun u hu => by
      have hbu := bel_on' hb0 hu
      have hku : Rg.Kept (fun k _ => E k) w u := Rg.Kept.of_below hbu
      refine (shship_any (k0.on hbu) (fun i e => Nat.lt_of_lt_of_le (hE i e).2 hbu.size) hG.cl (fun u' h' => hg u' (hku.trans h')) hd hi m.a m.b).mono ?_
      rintro e w' ⟨h1, ⟨Eb', r', h2⟩, h3⟩
      have h4 := h2.wide (E' := growE E w w') (fun i e => e.imp (fun e => e) (fun e => ⟨Nat.le_trans hbu.size e.1, e.2⟩))
      exact ⟨h1, h3.block _ _ ((hu.block _ (Array.getElem?_eq_some_iff.1 hbx).1).trans hbx) (fun e => by have := (hE _ e).2; omega), ⟨sgrow_in hE k.low (Nat.le_trans hbu.size h3.size), shS_good hG hd _ _ _, Eb', q, r', h4⟩, hku.trans h3⟩
    generalize shS v m.id m.a m.b = v2 at NX ⊢
    generalize shB v m.id m.a m.b = K at NX ⊢
    have CU : Hid (∀ u, Below W.heap.size W u → u.cell? ⟨w.heap.size, 0, none⟩ = some (.int .i64 m.k) ∧ u.cell? ⟨w.heap.size, 1, none⟩ = some (.int .i64 m.fr) ∧ u.cell? ⟨w.heap.size, 2, none⟩ = some (.int .i64 m.to) ∧ u.cell? ⟨w.heap.size, 3, none⟩ = some (.int .i64 m.id) ∧ u.cell? ⟨w.heap.size, 4, none⟩ = some (.int .i64 m.st) ∧ u.cell? ⟨w.heap.size, 5, none⟩ = some (.int .i64 m.a) ∧ u.cell? ⟨w.heap.size, 6, none⟩ = some (.int .i64 m.b)) := fun u hu => seven_of ((hu.block _ (Array.getElem?_eq_some_iff.1 hbx).1).trans hbx)
    rw [hW] at H
    clear hh hE hG k0 k hg hbx hb0 hto hfr hi hd hW hk1
    obtain ⟨m0, m1, m2, m3, m4, m5, m6⟩ := m
    simp only at *
    cases K
    · rw [if_neg (by decide)]
      have FX : Hid (∀ u, Ns B (growE E w u) u p v2 → Rg.Kept (fun k _ => E k) w u → HandP B E w p v2 [] (.returned (.slice none 0 0)) u) := fun u h1 h2 => handp_no h1 (fun _ e => e) h2
      go_enter Tryz.func34, Tryz.ntmps34
      go_wp2_with (first
        | (go_at_call 85; refine H.mono ?_; clear H; rintro e u1 ⟨rfl, hb1⟩; rw [← HW.out] at hb1; have DX := NX.out u1 hb1; obtain ⟨a0, a1, a2, a3, a4, a5, a6⟩ := CU.out u1 hb1; clear hb1 NX CU)
        | (go_at_call 86; refine DX.mono ?_; clear DX; rintro e u2 ⟨rfl, hx, hnd, hkk⟩; clear a0 a1 a2 a3 a4 a5 a6; have HX := hide (FX.out u2 hnd hkk); clear hnd hkk FX hx))
      go_ret
      exact HX.out
    · rw [if_pos rfl]
      have FX : Hid (∀ u, Ns B (growE E w u) u p v2 → Rg.Kept (fun k _ => E k) w u → ∀ u' : World, Below (u.alloc (.cells #[.int .i64 16, .int .i64 3, .int .i64 0, .int .i64 m3, .int .i64 0, .int .i64 0, .int .i64 0] 31)).heap.size (u.alloc (.cells #[.int .i64 16, .int .i64 3, .int .i64 0, .int .i64 m3, .int .i64 0, .int .i64 0, .int .i64 0] 31)) u' → HandP B E w p v2 [⟨16, 3, 0, m3, 0, 0, 0⟩] (.returned (.slice (some ⟨u.heap.size, 0, none⟩) 1 1)) u') := fun u h1 h2 u' e1 => handp_one h1 h2 e1
      go_enter Tryz.func34, Tryz.ntmps34
      go_wp2_with (first
        | (go_at_call 85; refine H.mono ?_; clear H; rintro e u1 ⟨rfl, hb1⟩; rw [← HW.out] at hb1; have DX := NX.out u1 hb1; obtain ⟨a0, a1, a2, a3, a4, a5, a6⟩ := CU.out u1 hb1; clear hb1 NX CU)
        | (go_at_call 86; refine DX.mono ?_; clear DX; rintro e u2 ⟨rfl, hx, hnd, hkk⟩; clear a0 a1 a2 a3 a4 a5 a6; obtain ⟨a0, a1, a2, a3, a4, a5, a6⟩ := seven_of hx; have HX := hide (FX.out u2 hnd hkk); clear hnd hkk FX hx))
      go_ret
      exact HX.out _ (Below.refl _ _)
end
theorem shforget_any {w : World} {p q : Nat} {x1 x2 : Value} (hb : w.heap[p]? = some (.cells #[.pointer (some ⟨q, 0, none⟩), x1, x2] 126 (0, 0))) :
    Calls Tryz.prog 82 #[.pointer (some ⟨p, 0, none⟩)] w fun e w' => (∃ x, e = .returned x) ∧
      w'.heap[p]? = some (.cells #[.pointer (some ⟨q, 0, none⟩), .slice none 0 0, .map none] 126 (0, 0)) ∧ Rg.Kept (fun k _ => k = p) w w' := by
  have HB := hide hb
  have HN := Pa.pnew_any w
  clear hb
  go_enter Tryz.func82, Tryz.ntmps82
  go_wp2_with fail
  refine HN.mono ?_
  clear HN
  rintro e w1 ⟨g, rfl, hg, -, hb1, hw1⟩
  have e1 : w1.heap[g]? = some (.cells #[.slice none 0 0, .map none] 124 (0, 0)) := by rw [hw1, hg]; exact World.alloc_heap_new w _
  have hp1 := (hb1.block p (Array.getElem?_eq_some_iff.1 HB.out).1).trans HB.out
  have c0 : w1.cell? ⟨g, 0, none⟩ = some (.slice none 0 0) := by rw [cell_of e1]; rfl
  have c1 : w1.cell? ⟨g, 1, none⟩ = some (.map none) := by rw [cell_of e1]; rfl
  have d1 : w1.cell? ⟨p, 1, none⟩ = some x1 := by rw [cell_of hp1]; rfl
  have d2 : w1.cell? ⟨p, 2, none⟩ = some x2 := by rw [cell_of hp1]; rfl
  have f1 : w1.frozen? ⟨p, 1, none⟩ = false := frozen_of_row _ _ _ _ _ hp1
  have f2 : w1.frozen? ⟨p, 2, none⟩ = false := frozen_of_row _ _ _ _ _ hp1
  have hlt : p < w1.heap.size := (Array.getElem?_eq_some_iff.1 hp1).1
  have HK : Hid (Rg.Kept (fun k _ => k = p) w w1) := Rg.Kept.of_below hb1
  have HP1 := hide hp1
  clear e1 hp1 hb1 hw1 hg HB
  go_wp2
  go_end0
  have e1 : (w1.setCell ⟨p, 1, none⟩ (.slice none 0 0)).heap[p]? = some (.cells #[.pointer (some ⟨q, 0, none⟩), .slice none 0 0, x2] 126 (0, 0)) := by rw [heap_setCell_same _ _ _ _ _ _ HP1.out]; rfl
  refine ⟨⟨_, rfl⟩, by rw [heap_setCell_same _ _ _ _ _ _ e1]; rfl, HK.out.trans ((Rg.Kept.setCell (a := ⟨p, 1, none⟩) _ (fun _ => rfl)).trans (Rg.Kept.setCell (a := ⟨p, 2, none⟩) _ (fun _ => rfl)))⟩
/-- A book in which nothing went. -/
theorem pc_empty {B : Nat} {E : Nat → Prop} {w : World} {p q : Nat} (hE : ∀ k, E k → B ≤ k ∧ k < w.heap.size) (hp : E p) (h : w.heap[p]? = some (.cells #[.pointer (some ⟨q, 0, none⟩), .slice none 0 0, .map none] 126 (0, 0))) : Pa.Pc B E w p tNode (Jq q) [] :=
  ⟨hE, hp, Pa.GoodC.new, .slice none 0 0, .map none, h, World.ownsRow_nil _ _ _ _, (fun k e => by simp [Value.ownBlock] at e), .inl ⟨rfl, rfl⟩⟩
/-- A shipper that was just made. -/
def MadeP (w : World) (v : Sh) (e : Ending) (w' : World) : Prop :=
  ∃ p E, e = .returned (.pointer (some ⟨p, 0, none⟩)) ∧ Ns w.heap.size E w' p v ∧ Below w.heap.size w w'
theorem madep_of {w w1 : World} {room : Int} {u : World}
    (hu : u = (w.alloc (.cells #[.int .i64 (roomV room), .slice none 0 0, .int .i64 0, .bool false] 142)).alloc (.cells #[.pointer (some ⟨w.heap.size, 0, none⟩), .slice none 0 0, .map none] 126))
    (h : w1.heap[w.heap.size + 1]? = some (.cells #[.pointer (some ⟨w.heap.size, 0, none⟩), .slice none 0 0, .map none] 126 (0, 0)) ∧ Rg.Kept (fun k _ => k = w.heap.size + 1) u w1) :
    MadeP w (newSh room) (.returned (.pointer (some ⟨w.heap.size + 1, 0, none⟩))) w1 := by
  obtain ⟨h1, h6⟩ := h
  have hus : u.heap.size = w.heap.size + 2 := by rw [hu]; simp
  have hbu : Below w.heap.size w u := by rw [hu]; exact ((Below.refl _ _).alloc (Nat.le_refl _) _).alloc (by simp) _
  have j0 : Jr w.heap.size u w.heap.size (.slice none 0 0) (roomV room) [] 0 false := by
    rw [hu]
    exact (Jr.new w w.heap.size (Nat.le_refl _) (roomV room) (roomV_in room).1 (roomV_in room).2).on ((Below.refl _ _).alloc (Nat.le_refl _) _)
  have j1 : Jr w.heap.size w1 w.heap.size (.slice none 0 0) (roomV room) [] 0 false := j0.kept h6 (fun _ e => by omega) (fun k _ e => by simp [Value.ownBlock] at e)
  have hs := h6.size
  refine ⟨w.heap.size + 1, fun k => w.heap.size ≤ k ∧ k < w1.heap.size, rfl, ⟨fun k e => e, newSh_good room, fun k => k = w.heap.size + 1, w.heap.size, .slice none 0 0, pc_empty (fun k e => by omega) rfl h1, j1, (fun k e => by omega), ⟨by omega, by omega⟩, (fun k e => by simp [Value.ownBlock] at e), by omega, (fun k e => by simp [Value.ownBlock] at e)⟩, ?_⟩
  exact hbu.trans (h6.bel (by omega) (fun k _ e => by omega))
theorem shnew_any (room : Int) (w : World) :
    Calls Tryz.prog 28 #[.int .i64 room] w (MadeP w (newSh room)) := by
  obtain ⟨u, hu⟩ : ∃ u, u = (w.alloc (.cells #[.int .i64 (roomV room), .slice none 0 0, .int .i64 0, .bool false] 142)).alloc (.cells #[.pointer (some ⟨w.heap.size, 0, none⟩), .slice none 0 0, .map none] 126) := ⟨_, rfl⟩
  have e1 : u.heap[w.heap.size + 1]? = some (.cells #[.pointer (some ⟨w.heap.size, 0, none⟩), .slice none 0 0, .map none] 126 (0, 0)) := by
    rw [hu]
    have := World.alloc_heap_new (w.alloc (.cells #[.int .i64 (roomV room), .slice none 0 0, .int .i64 0, .bool false] 142)) (.cells #[.pointer (some ⟨w.heap.size, 0, none⟩), .slice none 0 0, .map none] 126)
    rwa [World.size_alloc] at this
  have F := shforget_any e1
  have MK := hide (fun w1 => madep_of (w1 := w1) hu)
  have N := new_any room w
  generalize roomV room = rm at hu MK N ⊢
  have HU := hide hu
  clear e1
  rw [hu] at F
  clear hu
  go_enter Tryz.func28, Tryz.ntmps28
  go_wp2_with (first
    | (go_at_call 45; refine N.mono ?_; clear N; rintro e w1 ⟨rfl, rfl⟩)
    | (go_at_call 82; refine F.mono ?_; clear F; rintro e w2 ⟨⟨x, rfl⟩, hx⟩; rw [← HU.out] at hx; have HX := hide (MK.out w2 hx); clear hx))
  go_ret
  exact HX.out
section
variable {B : Nat} {E : Nat → Prop} {w : World} {p : Nat} {v : Sh}
/-- All is forgotten but the journal. -/
theorem forgotp_of {E Eb : Nat → Prop} {w w1 w2 : World} {v : Sh} {q : Nat} {r : Value} (hE : ∀ k, E k → B ≤ k ∧ k < w.heap.size) (hG : GoodSh v) (hB : B ≤ w.heap.size) (k : NsV B (growE E w w1) w1 p ⟨v.room, v.T, true, v.l⟩ Eb q r) (hk : Rg.Kept (fun k _ => E k) w w1) (hp : E p)
    (h : w2.heap[p]? = some (.cells #[.pointer (some ⟨q, 0, none⟩), .slice none 0 0, .map none] 126 (0, 0)) ∧ Rg.Kept (fun k _ => k = p) w1 w2) :
    Ns B (growE E w w2) w2 p (crP v) ∧ Rg.Kept (fun k _ => E k) w w2 := by
  obtain ⟨h1, h6⟩ := h
  have s1 := hk.size
  have s2 := h6.size
  have j := k.jr.kept h6 (fun _ e => k.nq (by rw [show q = p from e]; exact k.bk.2.1)) (fun i _ e e2 => k.nr i e (by rw [show i = p from e2]; exact k.bk.2.1))
  have up : ∀ i, growE E w w1 i → growE E w w2 i := fun i e => e.imp (fun e => e) (fun e => ⟨e.1, by omega⟩)
  exact ⟨⟨sgrow_in hE hB (by omega), crP_good hG, Eb, q, r, pc_empty (fun i e => ⟨(k.bk.1 i e).1, by have := (k.bk.1 i e).2; omega⟩) k.bk.2.1 h1, j, fun i e => up i (k.sub i e), up _ k.eq, fun i e => up _ (k.er i e), k.nq, k.nr⟩, hk.trans (h6.mono (fun i _ e => by subst e; exact hp))⟩
theorem shcrash_any (k : Ns B E w p v) (stay torn : Int) :
    Calls Tryz.prog 30 #[.pointer (some ⟨p, 0, none⟩), .int .i64 stay, .int .i64 torn] w fun e w' => (∃ x, e = .returned x) ∧ Ns B (growE E w w') w' p (crP v) ∧ Rg.Kept (fun k _ => E k) w w' := by
  obtain ⟨hE, hG, Eb, q, r, k0⟩ := id k
  have hB := k.low
  have hln : (v.T.map lnP).length = v.T.length := List.length_map _
  have C : Calls Tryz.prog 49 #[.pointer (some ⟨q, 0, none⟩), .int .i64 stay, .int .i64 torn] w fun e w' => (∃ x, e = .returned x) ∧ ∃ r', NsV B (growE E w w') w' p ⟨v.room, v.T, true, v.l⟩ Eb q r' ∧ Rg.Kept (fun k _ => E k) w w' := by
    cases hd : v.down
    · have j := k0.jr
      rw [hd] at j
      have cs := crash_sure (v.T.map lnP) stay torn
      rw [hln] at cs
      refine (crash_up j (by rw [hln]; exact Nat.le_refl _) stay torn).mono ?_
      rintro e w' ⟨h1, r', h2, h3⟩
      rw [cs] at h2
      exact ⟨h1, r', k0.jstep h2 h3⟩
    · have j := k0.jr
      rw [hd] at j
      refine (crash_down j stay torn).mono ?_
      rintro e w' ⟨h1, h2⟩
      have k1 := (k0.on h2).wide (E' := growE E w w') (fun i e => .inl e)
      have e1 : (⟨v.room, v.T, true, v.l⟩ : Sh) = v := by rw [← hd]
      rw [e1]
      exact ⟨h1, r, k1, Rg.Kept.of_below h2⟩
  have FX : Hid (∀ w1 r', NsV B (growE E w w1) w1 p ⟨v.room, v.T, true, v.l⟩ Eb q r' → Rg.Kept (fun k _ => E k) w w1 → Calls Tryz.prog 82 #[.pointer (some ⟨p, 0, none⟩)] w1 fun e w' => (∃ x, e = .returned x) ∧ Ns B (growE E w w') w' p (crP v) ∧ Rg.Kept (fun k _ => E k) w w') := fun w1 r' h1 h2 => by
    obtain ⟨bv, mv, hbk⟩ := h1.blk
    exact (shforget_any hbk).mono (fun _ w2 ⟨h3, h4⟩ => ⟨h3, forgotp_of hE hG hB h1 h2 k0.ep h4⟩)
  have c2 := k0.cell
  clear k0 hE hG hB hln k
  go_enter Tryz.func30, Tryz.ntmps30
  go_wp2_with (first
    | (go_at_call 49; refine C.mono ?_; clear C; rintro e w1 ⟨⟨x, rfl⟩, r', h1, h2⟩; have F := FX.out w1 r' h1 h2; clear h1 h2 FX)
    | (go_at_call 82; refine F.mono ?_; clear F; rintro e w2 ⟨⟨x, rfl⟩, hx⟩; have HX := hide hx; clear hx))
  go_end0
  exact ⟨⟨_, rfl⟩, HX.out⟩
end
end Go.Proofs.YtihddekjicpihaaGreatDoor
/-
  Contract of shipper's Start.
-/
namespace Go.Proofs.YtihddekjicpihaaGreatDoor
open Go.ChangeShapes Go.WideShapes Go.ChangeAt Go.RowKit Go.Shelf Go.Maps Gd.Pu

attribute [local go_sem] Oper.semAt_some

/-- At i there lie cells, or a map. -/
def PlainAt (w : World) (i : Nat) : Prop := (∃ cs t f, w.heap[i]? = some (.cells cs t f)) ∨ ∃ es c, w.heap[i]? = some (.map es c)
theorem PlainAt.kept {F : Nat → Obj → Prop} {w w' : World} {i : Nat} (h : PlainAt w i) (hk : Rg.Kept F w w') (hF : ∀ o, ¬ F i o) : PlainAt w' i := by
  rcases h with ⟨cs, t, f, h⟩ | ⟨es, c, h⟩
  · exact .inl ⟨cs, t, f, hk.block _ _ h (hF _)⟩
  · exact .inr ⟨es, c, hk.block _ _ h (hF _)⟩
/-- No more than the blocks that it has. -/
theorem NsV.exact {B : Nat} {E : Nat → Prop} {w : World} {p : Nat} {v : Sh} {Eb : Nat → Prop} {q : Nat} {r : Value} (k : NsV B E w p v Eb q r) :
    ∃ F : Nat → Prop, (∀ i, F i → Eb i ∧ PlainAt w i) ∧ ∀ E' : Nat → Prop, (∀ i, F i → E' i) → E' q → (∀ i, r.ownBlock = some i → E' i) → NsV B E' w p v F q r := by
  obtain ⟨⟨h1, h2, h3, bv, mv, h4, h5, h6, h7⟩, k2, k3, k4, k5, k6, k7⟩ := k
  refine ⟨fun i => i = p ∨ bv.ownBlock = some i ∨ mv = .map (some i), fun i e => ?_, fun E' g1 g2 g3 => ?_⟩
  · rcases e with rfl | e | rfl
    · exact ⟨h2, .inl ⟨_, _, _, h4⟩⟩
    · refine ⟨h6 i e, ?_⟩
      rcases h5.2 with ⟨rfl, _⟩ | ⟨g, cap, cur, rfl, _, hc, _⟩
      · simp [Value.ownBlock] at e
      · simp [Value.ownBlock] at e; subst e; exact .inl ⟨_, _, _, hc⟩
    · rcases h7 with ⟨e, _⟩ | ⟨b, e, hb, hm⟩
      · cases e
      · cases e
        obtain ⟨D, ⟨es, c, hh, _⟩, _⟩ := hm
        exact ⟨hb, .inr ⟨es, c, hh⟩⟩
  · have sub : ∀ i, (i = p ∨ bv.ownBlock = some i ∨ mv = .map (some i)) → Eb i := fun i e => by
      rcases e with rfl | e | rfl
      · exact h2
      · exact h6 i e
      · rcases h7 with ⟨e, _⟩ | ⟨b, e, hb, _⟩
        · cases e
        · cases e; exact hb
    refine ⟨⟨fun i e => h1 i (sub i e), .inl rfl, h3, bv, mv, h4, h5, fun i e => .inr (.inl e), ?_⟩, k2, g1, g2, g3, fun e => k6 (sub _ e), fun i e e2 => k7 i e (sub _ e2)⟩
    rcases h7 with h | ⟨b, e, hb, hm⟩
    · exact .inl h
    · exact .inr ⟨b, e, .inr (.inr e), hm⟩
theorem kept_put {F : Nat → Obj → Prop} {W : World} {l : Nat} {o : Obj} (o' : Obj) (ho : W.heap[l]? = some o) (hF : F l o) : Rg.Kept F W (W.putObj l o') :=
  ⟨rfl, rfl, rfl, by simp, fun k o2 hk hx => (World.putObj_heap_other (fun e => hx (by subst e; rw [ho] at hk; cases hk; exact hF))).trans hk⟩
/-- What the loop of Start has, pre having come. -/
def SIp (w0 w : World) (E1 : Nat → Prop) (v : Sh) (p q : Nat) (r : Value) (w2 : World) (M : Nat) (pre : List Ev) (W : World) : Prop :=
  (∃ Eb : Nat → Prop, NsV w0.heap.size (fun k => E1 k ∨ Eb k) W p ⟨v.room, v.T, false, v.T.take pre.length⟩ Eb q r ∧ ∀ k, Eb k → ((E1 k ∨ w2.heap.size ≤ k) ∧ k < M) ∧ PlainAt W k) ∧ Boxed W w.heap.size 57 (.pointer (some ⟨p, 0, none⟩)) ∧ Rg.Kept (fun k _ => E1 k) w2 W ∧ pre.length ≤ v.T.length ∧ w2.heap.size ≤ W.heap.size
theorem SIp.above {w0 w : World} {E1 : Nat → Prop} {v : Sh} {p q : Nat} {r : Value} {w1 w2 : World} {M : Nat} {pre : List Ev} {W W' : World} (hE : ∀ k, E1 k → (w0.heap.size ≤ k ∧ k < w1.heap.size) ∧ k ≠ w.heap.size) (hs : w.heap.size < w2.heap.size ∧ w1.heap.size ≤ w2.heap.size) (h : SIp w0 w E1 v p q r w2 M pre W) (hk : Rg.Kept (fun k o => w2.heap.size ≤ k ∧ o.isCells = false ∧ ∀ es c, o ≠ .map es c) W W') : SIp w0 w E1 v p q r w2 M pre W' := by
  obtain ⟨⟨Eb, h1, h6⟩, h2, h3, h4, h5⟩ := h
  have kF : ∀ {i : Nat} (o : Obj), W.heap[i]? = some o → PlainAt W i → ¬ (w2.heap.size ≤ i ∧ o.isCells = false ∧ ∀ es c, o ≠ .map es c) := fun {i} o ho hp e => by
    rcases hp with ⟨cs, t, f, hc⟩ | ⟨es, c, hc⟩
    · rw [ho] at hc; cases hc; cases e.2.1
    · rw [ho] at hc; cases hc; exact e.2.2 _ _ rfl
  have hkF : Rg.Kept (fun k _ => w2.heap.size ≤ k ∧ ¬ PlainAt W k) W W' := ⟨hk.os, hk.tape, hk.output, hk.size, fun k o ho hx => hk.block k o ho (fun e => hx ⟨e.1, fun hp => kF o ho hp e⟩)⟩
  have k2 : NsV w0.heap.size (fun k => E1 k ∨ Eb k) W' p ⟨v.room, v.T, false, v.T.take pre.length⟩ Eb q r := h1.kept hkF (fun k _ e1 e2 => by
    rcases e1 with e1 | e1
    · have := hE k e1; omega
    · exact e2.2 (h6 k e1).2)
  exact ⟨⟨Eb, k2, fun k e => ⟨(h6 k e).1, (h6 k e).2.kept hkF (fun _ e2 => e2.2 (h6 k e).2)⟩⟩, hk.block _ _ h2 (fun e => by omega), ⟨hk.os.trans h3.os, hk.tape.trans h3.tape, hk.output.trans h3.output, Nat.le_trans h3.size hk.size, fun k o hk' hx => hk.block k o (h3.block k o hk' hx) (fun e => by have := (Array.getElem?_eq_some_iff.1 hk').1; omega)⟩, h4, Nat.le_trans h5 hk.size⟩

section
variable {E : Nat → Prop} {w0 w : World} {p : Nat} {v : Sh}
theorem shstart_up {B : Nat} (k : Ns B E w p v) (hd : v.down = false) :
    Calls Tryz.prog 32 #[.pointer (some ⟨p, 0, none⟩)] w fun e w' => (∃ x, e = .returned x) ∧ Below w.heap.size w w' := by
  have hb0 : Below w.heap.size w (w.alloc (.cells #[.pointer (some ⟨p, 0, none⟩)] 57)) := (Below.refl _ _).alloc (Nat.le_refl _) _
  obtain ⟨hE, hG, Eb, q, r, k0⟩ := id (k.on hb0)
  have D := shdown_any k0
  rw [hd] at D
  have HB := hide hb0
  clear k0 k hE hG hd hb0
  go_enter Tryz.func32, Tryz.ntmps32
  go_wp2_with (go_at_call 41; refine D.mono ?_; clear D; rintro e w' ⟨rfl, rfl⟩)
  refine bodyPost_ret (results_none rfl _ _ _) rfl ?_
  exact ⟨⟨_, rfl⟩, HB.out⟩

set_option maxRecDepth 100000 in
set_option maxHeartbeats 4000000 in
theorem shstart_down (hg0 : Gl w0) (hw : Below w0.heap.size w0 w) (k : Ns w0.heap.size E w p v) (hd : v.down = true) :
    Calls Tryz.prog 32 #[.pointer (some ⟨p, 0, none⟩)] w fun e w' => (∃ x, e = .returned x) ∧ Ns w0.heap.size (growE E w w') w' p (upP v) ∧ Rg.Kept (fun k _ => E k) w w' := by
  refine (callsIn_wide (n := 5)).1 ?_
  obtain ⟨hE, hG, Eb0, q, r, k00⟩ := id k
  obtain ⟨U, hU⟩ : ∃ U, U = w.alloc (.cells #[.pointer (some ⟨p, 0, none⟩)] 57) := ⟨_, rfl⟩
  have hbU : Below w.heap.size w U := by rw [hU]; exact (Below.refl _ _).alloc (Nat.le_refl _) _
  have hbx : Boxed U w.heap.size 57 (.pointer (some ⟨p, 0, none⟩)) := by
    show U.heap[w.heap.size]? = _
    rw [hU]
    exact World.alloc_heap_new w _
  have k0 := k00.on hbU
  have D := shdown_any k0
  have hln : (v.T.map lnP).length = v.T.length := List.length_map _
  have hok : ∀ x ∈ v.T.map lnP, Ok x := fun x hx => by obtain ⟨e, he, rfl⟩ := List.mem_map.1 hx; exact ok_sh (hG.ok e he)
  have hwh := whole_ok _ hok
  have j := k0.jr
  rw [hd] at j D
  have R : Calls Tryz.prog 51 #[.pointer (some ⟨q, 0, none⟩)] U fun e w' => (∃ x, e = .returned x) ∧ ∃ r', NsV w0.heap.size (fun k => growE E w w' k ∧ k ≠ w.heap.size) w' p ⟨v.room, v.T, false, v.l⟩ Eb0 q r' ∧ Rg.Kept (fun k _ => E k) w w' ∧ Boxed w' w.heap.size 57 (.pointer (some ⟨p, 0, none⟩)) := by
    refine (recover_down hg0 (bel_on' hw hbU) j).mono ?_
    rintro e w' ⟨h1, r', h2, h3⟩
    rw [hwh, List.take_length, hln] at h2
    obtain ⟨h4, h5⟩ := k0.jstep h2 h3
    have h6 : Boxed w' w.heap.size 57 (.pointer (some ⟨p, 0, none⟩)) := h5.block _ _ hbx (fun e => by have := (hE _ e).2; omega)
    have wd : ∀ i, growE E U w' i → growE E w w' i := fun i e => e.imp (fun e => e) (fun e => ⟨Nat.le_trans hbU.size e.1, e.2⟩)
    have ne : ∀ i, E i → i ≠ w.heap.size := fun i e => by have := (hE _ e).2; omega
    refine ⟨⟨_, h1⟩, r', ⟨h4.bk, h4.jr, fun i e => ⟨.inl (k0.sub i e), ne _ (k0.sub i e)⟩, ⟨.inl k0.eq, ne _ k0.eq⟩, fun i e => ⟨wd i (h4.er i e), ?_⟩, h4.nq, h4.nr⟩, (Rg.Kept.of_below hbU).trans h5, h6⟩
    obtain ⟨cs, hr⟩ := h2.rowObj e
    exact two_cells hr h6 (by decide)
  have c2 := k00.cell
  have hpl := k00.lt
  have HG := hide hg0
  have HW := hide hw
  have HE := hide hE
  have HGD := hide hG
  have HK := hide k
  have HUW := hide hU
  rw [hU] at D
  clear hg0 hw k hE hG k00 k0 hbU hbx hU j
  rw [HUW.out] at R
  refine callsIn_of_wp_marks Tryz.func32 rfl trivial ?_ rfl
  simp only [Tryz.ntmps32, List.size_toArray, List.length_cons, List.length_nil, Nat.reduceAdd, Nat.reduceSub, Array.replicate_succ, Array.replicate_zero, List.push_toArray, List.append_toArray, List.nil_append, List.cons_append]
  gi_wp2_with fail
  refine ⟨trivial, (callsIn_wide.2 D).mono ?_⟩
  rintro e w' ⟨rfl, rfl⟩
  gi_wp2_with fail
  refine ⟨trivial, (callsIn_wide.2 R).mono ?_⟩
  rintro e w1 ⟨⟨x0, rfl⟩, r', k1, hk1, hbx1⟩
  have d2 := k1.cell
  have hb1 := hbx1.cell
  gi_wp2_with fail
  refine ⟨trivial, (all_in 4 (by omega) k1.jr).mono ?_⟩
  rintro e w2 ⟨a, c, Bs, rfl, hcb, hla, hbs, hb⟩
  have hs01 := hk1.size
  have hs12 := hb.size
  have hL4 : (v.T.map lnP).length ≤ 4096 := k1.jr.2.2.2.2.1
  have hX : ∀ x ∈ v.T.map lnP, x.size ≤ 63 := fun x hx => (k1.jr.2.2.2.2.2 x hx).2
  have hw0 : w0.heap.size ≤ w.heap.size := HW.out.size
  have hW2 : Below w0.heap.size w0 w2 := (HW.out.trans (HK.out.bel hk1)).trans (hb.mono (by omega))
  have ES := Rl.entries_tells 4 (by omega) Bs w1.heap.size w2.heap.size w0 HG.out a c (v.T.map lnP) hL4 hX w2 hcb hla hW2 (Nat.le_refl _)
  obtain ⟨E1, hE1⟩ : ∃ E1 : Nat → Prop, (fun k => growE E w w1 k ∧ k ≠ w.heap.size) = E1 := ⟨_, rfl⟩
  have bE1 : ∀ k, E1 k → (w0.heap.size ≤ k ∧ k < w1.heap.size) ∧ k ≠ w.heap.size := fun k e => by
    rw [← hE1] at e
    refine ⟨?_, e.2⟩
    rcases e.1 with e | e
    · have := HE.out k e; omega
    · omega
  have sE1 : ∀ k, E1 k → growE E w w1 k := fun k e => by rw [← hE1] at e; exact e.1
  rw [hE1] at k1
  have i0 : Rl.Ex (SIp w0 w E1 v p q r' w2) [] w2 := by
    have e1 : v.l = [] := by rw [HGD.out.l_, hd]; rfl
    rw [e1] at k1
    obtain ⟨F, f1, f2⟩ := (k1.on hb).exact
    exact ⟨w2.heap.size, Nat.le_refl _, ⟨F, f2 _ (fun i e => .inr e) (.inl k1.eq) (fun i e => .inl (k1.er i e)), fun i e => ⟨⟨.inl (k1.sub i (f1 i e).1), by have := (bE1 i (k1.sub i (f1 i e).1)).1; omega⟩, (f1 i e).2⟩⟩, (hb.block _ hbx1.lt).trans hbx1, Rg.Kept.refl _ _, Nat.zero_le _, Nat.le_refl _⟩
  have K1 := hide k1
  have HI := hide i0
  have hlnT : v.T.length ≤ 4096 := by omega
  clear k1 i0 hcb hla hbx1 hb1 d2 hE1 hok hX
  gi_wp2_with fail
  refine Rl.range_tells (I := SIp w0 w E1 v p q r' w2) (Ix := fun _ _ _ => False)
    (Ax := fun x a' W => ∃ Bx, w2.heap.size ≤ Bx ∧ W.heap[Bx]? = some (.cells #[.string x.k, .int .i64 x.id, .slice x.av x.l.length x.cv] 94 (0, 0)) ∧
      a' = { tmps := #[Value.pointer (some { block := p, off := 0 }), Value.pointer (some { block := w.heap.size, off := 0 }), Value.pointer (some { block := Bx, off := 0 }),
          Value.pointer (some { block := p, off := 0 }), Value.bool true, Value.bool false,
          Value.pointer (some { block := p, off := 0 }), Value.pointer (some { block := p, off := 0 }),
          Value.pointer (some { block := p, off := 0 }), Value.pointer (some { block := q, off := 0 }), x0,
          Value.pointer (some { block := p, off := 0 }), Value.pointer (some { block := p, off := 0 }),
          Value.pointer (some { block := p, off := 0 }), Value.pointer (some { block := q, off := 0 }),
          Value.func (Fn.func 134) #[] #[Value.pointer (some { block := Bs, off := 0 })], x.enc, undef, undef, undef], defers := [] })
    rfl (by omega) (gf := 134) (lb := #[.pointer (some ⟨Bs, 0, none⟩)]) rfl trivial (enters_of Tryz.func134 (by kernel_rfl) rfl) ES
    (fun h k => h.trans k) (fun W l o o' hl' ho hc => ⟨⟨rfl, rfl, rfl, by simp, fun k hk => World.putObj_heap_other (by omega)⟩, fun k _ hk => World.putObj_heap_other (by omega)⟩) (fun _ => rfl)
    (fun M pre W l r1 r2 hs hl hr => SIp.above bE1 (by omega) hs (kept_put _ hr ⟨hl, rfl, fun _ _ e => by cases e⟩)) (fun M pre A B hs hb => SIp.above bE1 (by omega) hs (Rg.Kept.of_below hb)) (fun c s W W' row hs hg hr => hs.elim) (fun x a' => ?ax) (fun M pre x s W W' row hs hg hr => ⟨good_own _ _ x () W W' row hs.1 hg hr, good_own _ _ x () W W' row hs.2.1 hg hr, hs.2.2⟩) HI.out ?assign ?body ?done ?stop
  case ax =>
    refine ownFrom_kept (fun _ W W' hs hk => ?_)
    obtain ⟨Bx, h0, h1, h2⟩ := hs
    exact ⟨Bx, h0, hk.block _ _ h1 (fun e => by cases e.2), h2⟩
  case assign =>
    intro l M pre x W K hI hG hK
    have hW7 := hI.2.2.2.2
    have hbA : Below W.heap.size W (W.alloc (.cells #[.string x.k, .int .i64 x.id, .slice x.av x.l.length x.cv] 94)) := (Below.refl _ _).alloc (Nat.le_refl _) _
    have HK' := hK { tmps := #[Value.pointer (some { block := p, off := 0 }), Value.pointer (some { block := w.heap.size, off := 0 }), Value.pointer (some { block := W.heap.size, off := 0 }),
          Value.pointer (some { block := p, off := 0 }), Value.bool true, Value.bool false,
          Value.pointer (some { block := p, off := 0 }), Value.pointer (some { block := p, off := 0 }),
          Value.pointer (some { block := p, off := 0 }), Value.pointer (some { block := q, off := 0 }), x0,
          Value.pointer (some { block := p, off := 0 }), Value.pointer (some { block := p, off := 0 }),
          Value.pointer (some { block := p, off := 0 }), Value.pointer (some { block := q, off := 0 }),
          Value.func (Fn.func 134) #[] #[Value.pointer (some { block := Bs, off := 0 })], x.enc, undef, undef, undef], defers := [] } _
      (Rl.keepsLp_below hbA) (Keep.of_below hbA (by omega) hW7) (SIp.above bE1 (by omega) hI (Rg.Kept.of_below hbA)) ⟨⟨hG.1.1.below hbA, hG.1.2⟩, ⟨hG.2.1.1.below hbA, hG.2.1.2⟩, hG.2.2⟩ ⟨W.heap.size, hW7, World.alloc_heap_new W _, rfl⟩
    clear hK
    unfold Ev.enc at HK' ⊢
    gi_wp2
    exact HK'
  case body =>
    rintro l M pre x a' W hI ⟨Bx, hB0, hbx, rfl⟩ ⟨hGm, hGd, hpr⟩ hlt
    have hltT : pre.length < v.T.length := by omega
    obtain ⟨⟨Eb, hN, hEb⟩, hI2, hI3, hI4, hI5⟩ := hI
    obtain ⟨e, he⟩ : ∃ e, v.T[pre.length]? = some e := ⟨_, List.getElem?_eq_getElem hltT⟩
    have hoe : OkP e := HGD.out.ok e (List.mem_of_getElem? he)
    have hgd : (v.T.map lnP).getD pre.length ByteArray.empty = lnP e := by simp [List.getD, he]
    rw [hgd] at hpr
    obtain ⟨ek, ei, el⟩ := sh_parse hoe hpr
    obtain ⟨xk, xi, xl, xa, xc⟩ := x
    simp only [Ev.enc] at *
    subst ek ei el
    have hst := (ship_take HGD.out.c he).2
    obtain ⟨b, off, rfl, hbM, g0, g1⟩ : ∃ b off, xa = some ⟨b, off, none⟩ ∧ M ≤ b ∧ W.cell? ⟨b, off, none⟩ = some (.int .i64 e.2.1) ∧ W.cell? ⟨b, off + 1, none⟩ = some (.int .i64 e.2.2) := by
      rcases hGm.1 with h0 | ⟨b, off, h1, h2, h3⟩
      · cases h0
      · rcases hGm.1.ints with h0 | ⟨b', off', h4, h5⟩
        · cases h0
        · rw [h1] at h4
          cases h4
          exact ⟨b, off, h1, h2, h5 0 (by unfold nP; simp), h5 1 (by unfold nP; simp)⟩
    have eq1 : E1 q := hN.eq.elim (fun e => e) (fun e => absurd e hN.nq)
    have er1 : ∀ i, r'.ownBlock = some i → E1 i := fun i e => (hN.er i e).elim (fun e => e) (fun e2 => absurd e2 (hN.nr i e))
    have FW := (shfollow_any hN hoe (c := xc) (K := kS) (fun e => by have := (hEb b e).1.2; omega) g0 g1).mono (R' := fun x w' => (∃ y, x = .returned y) ∧ Rl.KeepsLp W w' ∧ Keep w0.heap.size w1.heap.size w2.heap.size W w' ∧ Rl.Ex (SIp w0 w E1 v p q r' w2) (pre ++ [⟨kS, e.1, nP e, some ⟨b, off, none⟩, xc⟩]) w') (fun y w' ⟨z1, ⟨Eb', z2, z4⟩, _, z3⟩ => by
        obtain ⟨F, f1, f2⟩ := z2.exact
        have n3 := f2 (fun k => E1 k ∨ F k) (fun i e => .inr e) (.inl eq1) (fun i e => .inl (er1 i e))
        have nE : ∀ k o, W.heap[k]? = some o → o.isCells = false → (∀ es c, o ≠ .map es c) → ¬ Eb k := fun k o ho h1 h2 e => by
          rcases (hEb k e).2 with ⟨cs, t, f, hc⟩ | ⟨es, c, hc⟩
          · rw [ho] at hc; cases hc; cases h1
          · rw [ho] at hc; cases hc; exact h2 _ _ rfl
        have lowE : ∀ k, Eb k → w0.heap.size ≤ k := fun k e => by
          rcases (hEb k e).1.1 with h | h
          · exact (bE1 k h).1.1
          · omega
        refine ⟨z1, ⟨z3.size, fun k o hk h1 h2 => z3.block k o hk (nE k o hk h1 h2)⟩, ⟨z3.bel (by omega) (fun k _ e => lowE k e), fun k h0 h1 => ?_⟩, w'.heap.size, Nat.le_refl _, ⟨F, ?_, fun i e => ⟨⟨?_, (n3.bk.1 i e).2⟩, (f1 i e).2⟩⟩, z3.block _ _ hI2 (fun e => ?_), ?_, by simp; omega, Nat.le_trans hI5 z3.size⟩
        · have hlk : k < W.heap.size := by omega
          have ek : W.heap[k]? = some W.heap[k] := Array.getElem?_eq_getElem hlk
          rw [ek]
          refine z3.block k _ ek (fun e => ?_)
          rcases (hEb k e).1.1 with h | h
          · have := bE1 k h; omega
          · omega
        · simp only at n3
          rw [hst] at n3
          rw [List.length_append, List.length_singleton]
          exact n3
        · rcases z4 i (f1 i e).1 with h | h
          · exact (hEb i h).1.1
          · exact .inr (by omega)
        · rcases (hEb _ e).1.1 with h | h
          · exact (bE1 _ h).2 rfl
          · omega
        · exact ⟨z3.os.trans hI3.os, z3.tape.trans hI3.tape, z3.output.trans hI3.output, Nat.le_trans hI3.size z3.size, fun k o hk hx => z3.block k o (hI3.block k o hk hx) (fun e => by
            rcases (hEb k e).1.1 with h | h
            · exact hx h
            · have := (Array.getElem?_eq_some_iff.1 hk).1; omega)⟩)
    have hcb1 := hI2.cell
    have e0 : W.cell? ⟨Bx, 0, none⟩ = some (.string kS) := by rw [cell_of hbx]; rfl
    have e1 : W.cell? ⟨Bx, 1, none⟩ = some (.int .i64 e.1) := by rw [cell_of hbx]; rfl
    have e2 : W.cell? ⟨Bx, 2, none⟩ = some (.slice (some ⟨b, off, none⟩) 2 xc) := by rw [cell_of hbx]; rfl
    clear hst hgd he hoe hGd hpr hGm g0 g1 hN hEb hI2 hI3 eq1 er1 hbx
    generalize kS = K0 at *
    generalize e.1 = K1' at *
    gi_wp2_with fail
    refine ⟨trivial, (CallsIn.inRound l (callsIn_wide.2 FW)).mono ?_⟩
    rintro y w3 ⟨⟨z, rfl⟩, hz1, hz2, hz3⟩
    clear FW
    gi_wp2
    exact ⟨hz1, hz2, hz3⟩
  case done =>
    rintro D xs W hD ⟨hlen, -⟩ ⟨M, -, hI⟩ hK
    rw [hwh, hln] at hlen
    have FIN : Hid (Ns w0.heap.size (growE E w (W.putObj D (.deferred none))) (W.putObj D (.deferred none)) p (upP v) ∧ Rg.Kept (fun k _ => E k) w (W.putObj D (.deferred none))) := by
      obtain ⟨⟨Eb, h1, h6⟩, h2, h3, h4, h5⟩ := SIp.above bE1 (by omega) hI (kept_put (.deferred none) hK ⟨hD, rfl, fun _ _ e => by cases e⟩)
      rw [hlen, List.take_length] at h1
      have hsz := h3.size
      refine ⟨⟨sgrow_in HE.out HK.out.low (by omega), upP_good HGD.out, Eb, q, r', ?_⟩, ?_⟩
      · refine h1.wide (fun i e => ?_)
        have up : E1 i → growE E w (W.putObj D (.deferred none)) i := fun e => (sE1 i e).imp (fun e => e) (fun e => ⟨e.1, by omega⟩)
        rcases e with e | e
        · exact up e
        · rcases (h6 i e).1.1 with h | h
          · exact up h
          · exact .inr ⟨by omega, (h1.bk.1 i e).2⟩
      · have kb : Rg.Kept (fun k _ => E k) w w2 := hk1.trans (Rg.Kept.of_below hb)
        refine kept_grow kb (h3.mono (fun i _ e => (sE1 i e).imp (fun e => e) (fun e => ⟨e.1, by omega⟩)))
    gi_wp2
    refine ⟨by simp, .inl ⟨_, _, rfl, run_takeDeferred hK, ?_⟩⟩
    exact ⟨_, results_none rfl _ _ _, ⟨_, rfl⟩, FIN.out⟩
  case stop => exact fun D c pre W _ _ h _ => h.elim
end
end Go.Proofs.YtihddekjicpihaaGreatDoor
/-
  The shipper's steps above a world w0, with answers named; the law's awake.
-/
namespace Go.Proofs.YtihddekjicpihaaGreatDoor
open Go.ChangeShapes Go.WideShapes Go.ChangeAt Go.RowKit Go.Maps Gd.Pu

/-- The shipper above w0. -/
def Sp (w0 : World) (E : Nat → Prop) (w : World) (p : Nat) (v : Sh) : Prop := Ns w0.heap.size E w p v ∧ Below w0.heap.size w0 w
section
variable {w0 : World} {E : Nat → Prop} {w : World} {p : Nat} {v : Sh}
theorem Sp.on {w' : World} (k : Sp w0 E w p v) (hb : Below w.heap.size w w') : Sp w0 E w' p v := ⟨k.1.on hb, bel_on' k.2 hb⟩
theorem Sp.good (k : Sp w0 E w p v) : GoodSh v := k.1.good
theorem Sp.gl (hg : Gl w0) (k : Sp w0 E w p v) : ∀ u, Rg.Kept (fun k _ => E k) w u → Gl u := fun _ h => hg.on (k.2.trans (k.1.bel h))
theorem Sp.new (room : Int) :
    Calls Tryz.prog 28 #[.int .i64 room] w0 fun e w' => ∃ p E, e = .returned (.pointer (some ⟨p, 0, none⟩)) ∧ Sp w0 E w' p (newSh room) :=
  (shnew_any room w0).mono (fun _ _ ⟨p, E, h1, h2, h3⟩ => ⟨p, E, h1, h2, h3⟩)
theorem Sp.handle (hg : Gl w0) (k : Sp w0 E w p v) (m : Ms.Mg) {xs : List Ms.Mg} {v' : Sh} (hx : hsA v m = xs) (hv : hsS v m = v') :
    Calls Tryz.prog 34 #[.pointer (some ⟨p, 0, none⟩), .agg #[.int .i64 m.k, .int .i64 m.fr, .int .i64 m.to, .int .i64 m.id, .int .i64 m.st, .int .i64 m.a, .int .i64 m.b]] w fun e w' => ∃ a c E', e = .returned (.slice a xs.length c) ∧ An w' E' a xs ∧ Sp w0 E' w' p v' ∧ (∀ k, E' k → growE E w w' k) ∧ Rg.Kept (fun k _ => E k) w w' := by
  subst hx hv
  refine (shhandle_any k.1 (k.gl hg) m).mono ?_
  rintro e w' ⟨a, c, E', h1, h2, h3, h4, h5, h6, h7⟩
  refine ⟨a, c, E', h1, ?_, ⟨h6, k.2.trans (k.1.bel h7)⟩, h5, h7⟩
  rcases h2 with h2 | ⟨b, off, h8, h9⟩
  · exact .inl h2
  · exact .inr ⟨b, off, h8, (h4 _ h8).1, h9⟩
theorem Sp.went (k : Sp w0 E w p v) (item : Int) {x : Int} (hx : Pa.wentP v.l item = x) :
    Calls Tryz.prog 39 #[.pointer (some ⟨p, 1, none⟩), .int .i64 item] w fun e w' => e = .returned (.int .i64 x) ∧ Below w.heap.size w w' := by
  obtain ⟨⟨_, _, Eb, q, r, h⟩, _⟩ := k
  subst hx
  exact h.went item
theorem Sp.ids (k : Sp w0 E w p v) {l : List Int} (hl : Pa.idsP v.l = l) : Calls Tryz.prog 37 #[.pointer (some ⟨p, 1, none⟩)] w (Pa.OwnInts w l) := by
  obtain ⟨⟨_, _, Eb, q, r, h⟩, _⟩ := k
  subst hl
  exact h.ids
theorem Sp.dn (k : Sp w0 E w p v) {x : Bool} (hx : v.down = x) :
    Calls Tryz.prog 41 #[.pointer (some ⟨p, 0, none⟩)] w fun e w' => e = .returned (.bool x) ∧ w = w' := by
  obtain ⟨⟨_, _, Eb, q, r, h⟩, _⟩ := k
  subst hx
  exact shdown_any h
theorem Sp.crash (k : Sp w0 E w p v) (stay torn : Int) :
    Calls Tryz.prog 30 #[.pointer (some ⟨p, 0, none⟩), .int .i64 stay, .int .i64 torn] w fun e w' => (∃ x, e = .returned x) ∧ ∃ E', Sp w0 E' w' p (crP v) ∧ (∀ k, E' k → growE E w w' k) ∧ Rg.Kept (fun k _ => E k) w w' :=
  (shcrash_any k.1 stay torn).mono (fun _ w' ⟨h1, h2, h3⟩ => ⟨h1, growE E w w', ⟨h2, k.2.trans (k.1.bel h3)⟩, fun _ e => e, h3⟩)
theorem Sp.start (hg : Gl w0) (k : Sp w0 E w p v) :
    Calls Tryz.prog 32 #[.pointer (some ⟨p, 0, none⟩)] w fun e w' => (∃ x, e = .returned x) ∧ ∃ E', Sp w0 E' w' p (upP v) ∧ (∀ k, E' k → growE E w w' k) ∧ Rg.Kept (fun k _ => E k) w w' := by
  cases hd : v.down
  · refine (shstart_up k.1 hd).mono ?_
    rintro e w' ⟨h1, h2⟩
    rw [up_up k.good hd]
    exact ⟨h1, E, k.on h2, fun _ e => .inl e, Rg.Kept.of_below h2⟩
  · refine (shstart_down hg k.2 k.1 hd).mono ?_
    rintro e w' ⟨h1, h2, h3⟩
    exact ⟨h1, growE E w w', ⟨h2, k.2.trans (k.1.bel h3)⟩, fun _ e => e, h3⟩
end
/-- The block k has the object o; it is none of E. -/
def Abq (w : World) (E : Nat → Prop) (k : Nat) (o : Obj) : Prop := w.heap[k]? = some o ∧ ¬ E k
theorem Abq.step {w w' : World} {E E' : Nat → Prop} {k : Nat} {o : Obj} (h : Abq w E k o) (hk : Rg.Kept (fun k _ => E k) w w') (hE : ∀ k, E' k → growE E w w' k) : Abq w' E' k o :=
  ⟨hk.block _ _ h.1 h.2, fun e => (hE k e).elim h.2 (fun e => by have := (Array.getElem?_eq_some_iff.1 h.1).1; omega)⟩
theorem Abq.on {w w' : World} {E : Nat → Prop} {k : Nat} {o : Obj} (h : Abq w E k o) (hb : Below w.heap.size w w') : Abq w' E k o := h.step (Rg.Kept.of_below hb) (fun _ e => .inl e)
theorem ap1 : hsA (newSh 20) ⟨15, 0, 3, 7, 0, 0, 2⟩ = [⟨16, 3, 0, 7, 0, 0, 0⟩] := by rfl
theorem ap2 : hsA (hsS (newSh 20) ⟨15, 0, 3, 7, 0, 0, 2⟩) ⟨15, 0, 3, 7, 0, 0, 2⟩ = [⟨16, 3, 0, 7, 0, 0, 0⟩] := by rfl
theorem ap3 : Pa.wentP (hsS (hsS (newSh 20) ⟨15, 0, 3, 7, 0, 0, 2⟩) ⟨15, 0, 3, 7, 0, 0, 2⟩).l 0 = 2 := by rfl
set_option maxHeartbeats 2000000 in
theorem shwake_any (w : World) (hg : Gl w) : Calls Tryz.prog 42 #[] w fun e w' => e = .returned (.bool true) ∧ Below w.heap.size w w' := by
  have N := Sp.new (w0 := w) 20
  go_enter Tryz.func42, Tryz.ntmps42
  go_wp2_with fail
  refine N.mono ?_
  rintro e w1 ⟨p, E1, rfl, k1⟩
  obtain ⟨v1, hv1⟩ : ∃ v1, hsS (newSh 20) ⟨15, 0, 3, 7, 0, 0, 2⟩ = v1 := ⟨_, rfl⟩
  have A2 := ap2
  have A3 := ap3
  rw [hv1] at A2 A3
  obtain ⟨v2, hv2⟩ : ∃ v2, hsS v1 ⟨15, 0, 3, 7, 0, 0, 2⟩ = v2 := ⟨_, rfl⟩
  rw [hv2] at A3
  obtain ⟨W1, hW1⟩ : ∃ W1, W1 = w1.alloc (.cells #[.int .i64 15, .int .i64 0, .int .i64 3, .int .i64 7, .int .i64 0, .int .i64 0, .int .i64 2] 31) := ⟨_, rfl⟩
  have hb1 : Below w1.heap.size w1 W1 := by rw [hW1]; exact (Below.refl _ _).alloc (Nat.le_refl _) _
  have hx1 : W1.heap[w1.heap.size]? = some (.cells #[.int .i64 15, .int .i64 0, .int .i64 3, .int .i64 7, .int .i64 0, .int .i64 0, .int .i64 2] 31 (0, 0)) := by rw [hW1]; exact World.alloc_heap_new w1 _
  have hx1 : Abq W1 E1 w1.heap.size (.cells #[.int .i64 15, .int .i64 0, .int .i64 3, .int .i64 7, .int .i64 0, .int .i64 0, .int .i64 2] 31 (0, 0)) := ⟨hx1, fun e => by have := (k1.1.1 _ e).2; omega⟩
  obtain ⟨a0, a1, a2, a3, a4, a5, a6⟩ := seven_of hx1.1
  have kW := k1.on hb1
  have H1 : Hid (∀ u, Below W1.heap.size W1 u → Calls Tryz.prog 34 #[.pointer (some ⟨p, 0, none⟩), .agg #[.int .i64 15, .int .i64 0, .int .i64 3, .int .i64 7, .int .i64 0, .int .i64 0, .int .i64 2]] u fun e w' => ∃ a c E', e = .returned (.slice a 1 c) ∧ Sp w E' w' p v1 ∧ Abq w' E' w1.heap.size (.cells #[.int .i64 15, .int .i64 0, .int .i64 3, .int .i64 7, .int .i64 0, .int .i64 0, .int .i64 2] 31 (0, 0))) := fun u hu =>
    ((kW.on hu).handle hg ⟨15, 0, 3, 7, 0, 0, 2⟩ ap1 hv1).mono (fun _ w' ⟨a, c, E', e1, _, e3, e4, e5⟩ => ⟨a, c, E', e1, e3, (hx1.on hu).step e5 e4⟩)
  have H2 : Hid (∀ u E', Sp w E' u p v1 → Abq u E' w1.heap.size (.cells #[.int .i64 15, .int .i64 0, .int .i64 3, .int .i64 7, .int .i64 0, .int .i64 0, .int .i64 2] 31 (0, 0)) → ∀ U, Below u.heap.size u U → Calls Tryz.prog 34 #[.pointer (some ⟨p, 0, none⟩), .agg #[.int .i64 15, .int .i64 0, .int .i64 3, .int .i64 7, .int .i64 0, .int .i64 0, .int .i64 2]] U fun e w' => ∃ a c E', e = .returned (.slice a 1 c) ∧ An w' E' a [⟨16, 3, 0, 7, 0, 0, 0⟩] ∧ Sp w E' w' p v2 ∧ Abq w' E' w1.heap.size (.cells #[.int .i64 15, .int .i64 0, .int .i64 3, .int .i64 7, .int .i64 0, .int .i64 0, .int .i64 2] 31 (0, 0))) := fun u E' h1 h2 U hU =>
    ((h1.on hU).handle hg ⟨15, 0, 3, 7, 0, 0, 2⟩ A2 hv2).mono (fun _ w' ⟨a, c, E', e1, e2, e3, e4, e5⟩ => ⟨a, c, E', e1, e2, e3, (h2.on hU).step e5 e4⟩)
  have HW1 := hide hW1
  have HA3 := hide A3
  clear N k1 A2 A3 hv1 hv2 hb1 hx1 hW1 kW
  go_wp2_with fail
  rw [← HW1.out]
  go_region_held3 (fun w' => w'.cell? ⟨w1.heap.size, 0, none⟩ = some (.int .i64 15) ∧ w'.cell? ⟨w1.heap.size, 1, none⟩ = some (.int .i64 0) ∧ w'.cell? ⟨w1.heap.size, 2, none⟩ = some (.int .i64 3) ∧ w'.cell? ⟨w1.heap.size, 3, none⟩ = some (.int .i64 7) ∧ w'.cell? ⟨w1.heap.size, 4, none⟩ = some (.int .i64 0) ∧ w'.cell? ⟨w1.heap.size, 5, none⟩ = some (.int .i64 0) ∧ w'.cell? ⟨w1.heap.size, 6, none⟩ = some (.int .i64 2)) (go_keep) (first
    | (go_at_call 34; refine (H1.out _ (by first | exact Below.refl _ _ | exact (Below.refl _ _).drew)).mono ?_; clear H1; rintro e u1 ⟨b1, c1, E1', rfl, h1, h2⟩; clear a0 a1 a2 a3 a4 a5 a6; obtain ⟨a0, a1, a2, a3, a4, a5, a6⟩ := seven_of h2.1; have N2 := hide (H2.out u1 E1' h1 h2); clear h1 h2 H2)
    | (go_at_call 34; refine (N2.out _ (by first | exact Below.refl _ _ | exact (Below.refl _ _).drew)).mono ?_; clear N2; rintro e u2 ⟨b2, c2, E2, rfl, h1, h2, h3⟩; clear a0 a1 a2 a3 a4 a5 a6; obtain ⟨a0, a1, a2, a3, a4, a5, a6⟩ := seven_of h3.1; obtain ⟨g2, o2, rfl, y0, -⟩ := h1.one; have K2 := hide h2; clear h1 h2 h3))
  clear a0 a1 a2 a3 a4 a5 a6
  have WE := K2.out.went 0 HA3.out
  have HB2 := hide K2.out.2
  go_wp2_with (first
    | (go_at_call 36; refine (shparcels_any p _).mono ?_; rintro e w' ⟨rfl, rfl⟩)
    | (go_at_call 39; refine WE.mono ?_; clear WE; rintro e u3 ⟨rfl, hb3⟩; have HB3 := hide (bel_on' HB2.out hb3); clear hb3))
  go_ret
  exact ⟨rfl, HB3.out⟩
end Go.Proofs.YtihddekjicpihaaGreatDoor
