/-
  Own texts put together: KprM, KprS, KprT, KprU, KprV, KprW, KprH, KprJ, KprF, KprN, KprE, RkpL, KprO, KprP, KprQ.
-/
import Derived.Test.YtepclljoiccieaaGreatDoorSgpipldo
import Derived.Test.YtepclljoiccieaaGreatDoorSghpcgle
import Derived.Test.YtepclljoiccieaaGreatDoorSghaagjg
import Derived.Test.YtepclljoiccieaaGreatDoorSgonlcng
import Derived.Test.YtepclljoiccieaaGreatDoorSgngijfd
import Derived.Test.YtepclljoiccieaaGreatDoorSgmfmfhe
import Derived.Deep.RegionHeld3
import Derived.Deep.MidRow
import Derived.Laws.CopyRow
import Derived.Maps.OwnIn
/-
  A keeper, plainly: what its entries say, what it answers, what it is behind each call.
-/
namespace Go.Proofs.YtepclljoiccieaaGreatDoor
open Go.RowKit

/-- A book: of goods, of money; which of them counts hangs on the node (1: goods). -/
structure Bo where
  g : Gd.Sb
  m : Gd.Pu.Qb
def lst (f : Int → Int) : List Int := (List.range 8).map (fun k : Nat => f k)
theorem lst_len (f : Int → Int) : (lst f).length = 8 := by simp [lst]
theorem lst_at (f : Int → Int) {k : Nat} (h : k < 8) : (lst f).getD k 0 = f k := by simp [lst, List.getD, h]
def iniB (f : Int → Int) : Bo := ⟨Gd.newS (lst f), Gd.Pu.newQ (lst f)⟩
def tkE (nd : Int) (o : Bo) (id a b : Int) : Int := if nd = 1 then Gd.resE o.g id a b else Gd.Pu.alwE (Gd.Pu.toP o.m) id a b
def tkS (nd : Int) (o : Bo) (id a b : Int) : Bo := if nd = 1 then ⟨Gd.resS o.g id a b, o.m⟩ else ⟨o.g, Gd.Pu.alwQ o.m id a b⟩
def enE (nd : Int) (o : Bo) (id : Int) : Int := if nd = 1 then Gd.unE o.g id else Gd.Pu.capE (Gd.Pu.toP o.m) id
def slS (nd : Int) (o : Bo) (id : Int) : Bo := if nd = 1 then ⟨Gd.comS o.g id, o.m⟩ else ⟨o.g, Gd.Pu.capQ o.m id⟩
def frS (nd : Int) (o : Bo) (id : Int) : Bo := if nd = 1 then ⟨Gd.relS o.g id, o.m⟩ else ⟨o.g, Gd.Pu.voidQ o.m id⟩
structure GoodB (o : Bo) : Prop where
  g : Gd.GoodS o.g
  m : Gd.Pu.GoodQ o.m
theorem GoodB.ini (f : Int → Int) : GoodB (iniB f) := ⟨Gd.GoodS.new _, Gd.Pu.GoodQ.new _⟩
theorem GoodB.tk {o : Bo} (h : GoodB o) (nd id a b : Int) : GoodB (tkS nd o id a b) := by
  unfold tkS
  split
  · exact ⟨h.g.res id a b, h.m⟩
  · exact ⟨h.g, h.m.allow id a b⟩
theorem GoodB.sl {o : Bo} (h : GoodB o) (nd id : Int) : GoodB (slS nd o id) := by
  unfold slS
  split
  · exact ⟨h.g.com id, h.m⟩
  · exact ⟨h.g, h.m.cap id⟩
theorem GoodB.fr {o : Bo} (h : GoodB o) (nd id : Int) : GoodB (frS nd o id) := by
  unfold frS
  split
  · exact ⟨h.g.rel id, h.m⟩
  · exact ⟨h.g, h.m.void id⟩
theorem tkS_no {nd : Int} {o : Bo} {id a b : Int} (h : tkE nd o id a b ≠ 0) : tkS nd o id a b = o := by
  unfold tkE at h
  unfold tkS
  split at h
  · rename_i e; rw [if_pos e, Gd.resS_no h]
  · rename_i e; rw [if_neg e, Gd.Pu.alwQ_no h]
theorem tkE_ok {nd : Int} {o : Bo} (g : GoodB o) {id a b : Int} (h : tkE nd o id a b = 0) : (1 ≤ id ∧ id ≤ 999) ∧ (0 ≤ a ∧ a ≤ 7) ∧ 1 ≤ b ∧ b ≤ 1000000000 := by
  unfold tkE at h
  split at h
  · obtain ⟨h1, h2, h3, _⟩ := Gd.resE_ok h
    have := g.g.top a h2.1 h2.2
    have := g.g.frle h2.1 h2.2
    omega
  · obtain ⟨h1, h2, h3, _, _, h4, h5⟩ := Gd.Pu.alwE_ok h
    have := g.m.money h2.1 h2.2
    have e1 : (Gd.Pu.toP o.m).m a = Gd.Pu.moneyK o.m a := rfl
    have e2 : Gd.Pu.alwK (Gd.Pu.toP o.m) a = Gd.sumTo (Gd.resv o.m.a a) 1000 := rfl
    rw [e1, e2] at h4
    omega
/-- What is taken and given back at once. -/
theorem tk_back {nd : Int} {o : Bo} {id a b : Int} (h : tkE nd o id a b = 0) : enE nd (tkS nd o id a b) id = 0 ∧ frS nd (tkS nd o id a b) id = o := by
  unfold tkE at h
  unfold enE frS tkS
  by_cases e : nd = 1
  · rw [if_pos e] at h
    obtain ⟨_, _, _, h4⟩ := Gd.resE_ok h
    simp only [if_pos e, Gd.resS_ok h]
    have e1 : Gd.updO o.g.r id (some (a, b)) id = some (a, b) := Gd.updO_same _ _ _
    refine ⟨Gd.unE_some e1, ?_⟩
    rw [Gd.relS_some e1]
    have e2 : Gd.upd (Gd.upd o.g.fr a (o.g.fr a - b)) a (Gd.upd o.g.fr a (o.g.fr a - b) a + b) = o.g.fr := by
      funext x
      by_cases ex : x = a
      · subst ex; rw [Gd.upd_same, Gd.upd_same]; omega
      · rw [Gd.upd_other _ _ ex, Gd.upd_other _ _ ex]
    have e3 : Gd.updO (Gd.updO o.g.r id (some (a, b))) id none = o.g.r := by
      funext x
      by_cases ex : x = id
      · subst ex; rw [Gd.updO_same, h4]
      · rw [Gd.updO_other _ _ ex, Gd.updO_other _ _ ex]
    simp only [e2, e3]
  · rw [if_neg e] at h
    obtain ⟨_, _, _, h4, _⟩ := Gd.Pu.alwE_ok h
    simp only [if_neg e, Gd.Pu.alwQ_ok h]
    have e1 : Gd.updO o.m.a id (some (a, b)) id = some (a, b) := Gd.updO_same _ _ _
    refine ⟨Gd.Pu.capE_some e1, ?_⟩
    rw [Gd.Pu.voidQ_some e1]
    have e3 : Gd.updO (Gd.updO o.m.a id (some (a, b))) id none = o.m.a := by
      funext x
      by_cases ex : x = id
      · subst ex
        rw [Gd.updO_same]
        exact h4.symm
      · rw [Gd.updO_other _ _ ex, Gd.updO_other _ _ ex]
    simp only [e3]

/-- An entry: the state c that it says (1 ready, with a and b; 2 yes, 3 no, 4 fyes, 5 fno). -/
structure Ke where
  c : Int
  id : Int
  a : Int
  b : Int
def wB (c : Int) : ByteArray := if c = 1 then ⟨#[114, 101, 97, 100, 121]⟩ else if c = 2 then ⟨#[121, 101, 115]⟩ else if c = 3 then ⟨#[110, 111]⟩ else if c = 4 then ⟨#[102, 121, 101, 115]⟩ else ⟨#[102, 110, 111]⟩
def nK (e : Ke) : List Int := if e.c = 1 then [e.a, e.b] else []
structure OkK (e : Ke) : Prop where
  c : 1 ≤ e.c ∧ e.c ≤ 5
  id : 1 ≤ e.id ∧ e.id ≤ 999
  a : e.c = 1 → (0 ≤ e.a ∧ e.a ≤ 7) ∧ 1 ≤ e.b ∧ e.b ≤ 1000000000
def lnK (e : Ke) : ByteArray := lineV (wB e.c) e.id (nK e)
theorem wB_may (c : Int) : kindB (wB c) = true := by
  unfold wB
  (repeat' split) <;> decide
theorem wB_size (c : Int) : (wB c).size ≤ 5 := by
  unfold wB
  (repeat' split) <;> decide
theorem nK_len (e : Ke) : (nK e).length ≤ 2 := by unfold nK; split <;> simp
theorem may_ke {e : Ke} (h : OkK e) : mayB (wB e.c) e.id (nK e) = true := by
  have h1 : idB e.id = true := by have := h.id; unfold idB; simp; omega
  have h2 : numsB (nK e) = true := by
    unfold numsB nK
    split
    · rename_i hc
      have := h.a hc
      simp [numB]
      omega
    · simp
  unfold mayB
  rw [wB_may, h1, h2]
  rfl
theorem ok_ke {e : Ke} (h : OkK e) : Ok (lnK e) := by
  unfold lnK lineV
  rw [if_pos (may_ke h)]
  exact ⟨_, _, _, parse_line (may_ke h)⟩
theorem ke_parse {e : Ke} (h : OkK e) {k : ByteArray} {id : Int} {l : List Int} (hp : ParseR (lnK e) k id l 0) : k = wB e.c ∧ id = e.id ∧ l = nK e := by
  unfold lnK lineV at hp
  rw [if_pos (may_ke h)] at hp
  obtain ⟨h1, h2, h3, _⟩ := hp.uniq (parse_line (may_ke h))
  exact ⟨h1, h2, h3⟩

/-- Book and states. -/
structure Kt where
  o : Bo
  s : Int → Int
def kini (f : Int → Int) : Kt := ⟨iniB f, fun _ => 0⟩
/-- What an entry makes of the book. -/
def kbo (nd : Int) (o : Bo) (e : Ke) : Bo := if e.c = 1 then tkS nd o e.id e.a e.b else if yesV e.c = true then slS nd o e.id else frS nd o e.id
def kstp (nd : Int) (t : Kt) (e : Ke) : Kt := ⟨kbo nd t.o e, Hd.upd t.s e.id e.c⟩
def krun (nd : Int) (f : Int → Int) (T : List Ke) : Kt := T.foldl (kstp nd) (kini f)
theorem krun_snoc (nd : Int) (f : Int → Int) (T : List Ke) (e : Ke) : krun nd f (T ++ [e]) = kstp nd (krun nd f T) e := by unfold krun; rw [List.foldl_append]; rfl
/-- A state is one, and of an id; the book is good. -/
structure GoodKt (t : Kt) : Prop where
  o : GoodB t.o
  s : ∀ x, (0 ≤ t.s x ∧ t.s x ≤ 5) ∧ (t.s x ≠ 0 → 1 ≤ x ∧ x ≤ 999)
theorem kini_good (f : Int → Int) : GoodKt (kini f) := ⟨GoodB.ini f, fun x => ⟨⟨Int.le_refl _, by show (0 : Int) ≤ 5; omega⟩, fun h => absurd rfl h⟩⟩
theorem kbo_good {nd : Int} {o : Bo} (h : GoodB o) (e : Ke) : GoodB (kbo nd o e) := by
  unfold kbo
  split
  · exact h.tk _ _ _ _
  · split
    · exact h.sl _ _
    · exact h.fr _ _
theorem kstp_good {nd : Int} {t : Kt} (h : GoodKt t) {e : Ke} (he : OkK e) : GoodKt (kstp nd t e) := by
  refine ⟨kbo_good h.o e, fun x => ?_⟩
  show (0 ≤ Hd.upd t.s e.id e.c x ∧ Hd.upd t.s e.id e.c x ≤ 5) ∧ (Hd.upd t.s e.id e.c x ≠ 0 → 1 ≤ x ∧ x ≤ 999)
  by_cases ex : x = e.id
  · subst ex
    rw [Hd.upd_same]
    exact ⟨by have := he.c; omega, fun _ => he.id⟩
  · rw [Hd.upd_other _ _ ex]
    exact h.s x
theorem kfold_good (nd : Int) : ∀ (T : List Ke) (t : Kt), GoodKt t → (∀ e ∈ T, OkK e) → GoodKt (T.foldl (kstp nd) t)
  | [], _, h, _ => h
  | e :: r, t, h, ho => kfold_good nd r (kstp nd t e) (kstp_good h (ho e (List.mem_cons_self ..))) (fun x hx => ho x (List.mem_cons_of_mem _ hx))

structure Kv where
  node : Int
  f : Int → Int
  room : Int
  T : List Ke
  down : Bool
  st : Kt
/-- What a keeper keeps to. -/
structure GoodKv (v : Kv) : Prop where
  nd : v.node = 1 ∨ v.node = 2
  rm : 1 ≤ v.room ∧ v.room ≤ 4096
  len : (v.T.length : Int) ≤ v.room
  ok : ∀ e ∈ v.T, OkK e
  st_ : v.st = if v.down = true then kini v.f else krun v.node v.f v.T
theorem GoodKv.goodT {v : Kv} (h : GoodKv v) : GoodKt v.st := by
  rw [h.st_]
  split
  · exact kini_good _
  · exact kfold_good _ _ _ (kini_good _) h.ok
theorem GoodKv.may {v : Kv} (h : GoodKv v) (x : Int) : mayV (v.st.s x) = true := by
  have := (h.goodT.s x).1
  unfold mayV
  simp
  omega

/-- There is room for one more. -/
def roomK (v : Kv) : Bool := decide ((v.T.length : Int) < v.room)
def noteK (v : Kv) (e : Ke) : Kv := if roomK v = true then ⟨v.node, v.f, v.room, v.T ++ [e], v.down, kstp v.node v.st e⟩ else v
theorem noteK_good {v : Kv} (h : GoodKv v) (hd : v.down = false) {e : Ke} (he : OkK e) : GoodKv (noteK v e) := by
  unfold noteK
  split
  · rename_i hr
    unfold roomK at hr
    simp at hr
    refine ⟨h.nd, h.rm, by simp; omega, fun x hx => ?_, ?_⟩
    · rcases List.mem_append.1 hx with hx | hx
      · exact h.ok x hx
      · simp at hx; subst hx; exact he
    · have := h.st_
      rw [hd] at this
      simp only [hd, krun_snoc]
      rw [if_neg (by decide), ← show v.st = krun v.node v.f v.T from this]
  · exact h
theorem noteK_node (v : Kv) (e : Ke) : (noteK v e).node = v.node := by unfold noteK; split <;> rfl
theorem noteK_down (v : Kv) (e : Ke) : (noteK v e).down = v.down := by unfold noteK; split <;> rfl
/-- Can it, if it is asked? -/
def canK (v : Kv) (m : Ms.Mg) : Bool := decide (m.k = 6) && decide (v.st.s m.id = 0) && decide (tkE v.node v.st.o m.id m.a m.b = 0)
def nxt (v : Kv) (m : Ms.Mg) : Int := nxS (v.st.s m.id) (mnt m.k) (canK v m)
def ansK (v : Kv) (m : Ms.Mg) : Int := nxK (v.st.s m.id) (mnt m.k) (canK v m)
def entK (v : Kv) (m : Ms.Mg) : Ke := ⟨nxt v m, m.id, m.a, m.b⟩
def hearsK (v : Kv) (m : Ms.Mg) : Bool := !v.down && m.to == v.node && Hd.isI m.id && (m.fr == 0 || m.fr == 3 - v.node)
theorem hearsK_of {v : Kv} {m : Ms.Mg} (h : hearsK v m = true) : v.down = false ∧ m.to = v.node ∧ (1 ≤ m.id ∧ m.id ≤ 999) := by
  unfold hearsK at h
  simp only [Bool.and_eq_true, Bool.not_eq_true', beq_iff_eq] at h
  obtain ⟨⟨⟨h1, h2⟩, h3⟩, -⟩ := h
  exact ⟨h1, h2, Hd.isI_iff.1 h3⟩
def hkS (v : Kv) (m : Ms.Mg) : Kv := if hearsK v m = true then (if nxt v m = v.st.s m.id then v else noteK v (entK v m)) else v
def hkK (v : Kv) (m : Ms.Mg) : Int := if hearsK v m = true then (if nxt v m ≠ v.st.s m.id ∧ roomK v = false then 0 else ansK v m) else 0
def toK (k fr : Int) : Int := if k = 11 ∨ k = 17 then 0 else fr
def hkA (v : Kv) (m : Ms.Mg) : List Ms.Mg := if hkK v m = 0 then [] else [⟨hkK v m, v.node, toK (hkK v m) m.fr, m.id, 0, 0, 0⟩]
/-- The state that it comes to may stand in an entry. -/
theorem ent_ok {v : Kv} (h : GoodKv v) {m : Ms.Mg} (hi : 1 ≤ m.id ∧ m.id ≤ 999) (hn : nxt v m ≠ v.st.s m.id) : OkK (entK v m) := by
  have hm := (h.goodT.s m.id).1
  have h1 : 1 ≤ nxt v m ∧ nxt v m ≤ 5 := by
    unfold nxt nxS at hn ⊢
    revert hn
    (repeat' split) <;> intro hn <;> omega
  refine ⟨h1, hi, fun (hc : nxt v m = 1) => ?_⟩
  have hcan : canK v m = true := by
    unfold nxt nxS at hc hn
    revert hc hn
    (repeat' split) <;> intro hc hn <;> first | assumption | omega
  unfold canK at hcan
  simp at hcan
  exact (tkE_ok h.goodT.o hcan.2).2
theorem hkS_good {v : Kv} (h : GoodKv v) (m : Ms.Mg) : GoodKv (hkS v m) := by
  unfold hkS
  split
  · rename_i hh
    obtain ⟨hd, _, hi⟩ := hearsK_of hh
    split
    · exact h
    · rename_i hn
      exact noteK_good h hd (ent_ok h hi hn)
  · exact h
theorem hkS_node (v : Kv) (m : Ms.Mg) : (hkS v m).node = v.node := by
  unfold hkS
  split
  · split
    · rfl
    · exact noteK_node _ _
  · rfl
def rgA (v : Kv) (id : Int) : List Ms.Mg := if v.st.s id = 1 then [⟨12, v.node, 0, id, 0, 0, 0⟩, ⟨12, v.node, 3 - v.node, id, 0, 0, 0⟩] else []
def fcE (v : Kv) (id : Int) : Int := if v.down = true then 10 else if Hd.isI id = true then (if frcE (v.st.s id) = 0 then (if roomK v = true then 0 else 5) else frcE (v.st.s id)) else 1
def fcS (v : Kv) (id : Int) (y : Bool) : Kv := if v.down = false ∧ v.st.s id = 1 then noteK v ⟨frcS 1 y, id, 0, 0⟩ else v
theorem frc_ok {id : Int} (hi : 1 ≤ id ∧ id ≤ 999) (y : Bool) : OkK ⟨frcS 1 y, id, 0, 0⟩ := by
  refine ⟨?_, hi, fun h => ?_⟩
  · show 1 ≤ frcS 1 y ∧ frcS 1 y ≤ 5
    cases y <;> decide
  · cases y <;> cases h
theorem fcS_good {v : Kv} (h : GoodKv v) (id : Int) (y : Bool) : GoodKv (fcS v id y) := by
  unfold fcS
  split
  · rename_i hc
    exact noteK_good h hc.1 (frc_ok ((h.goodT.s id).2 (by omega)) y)
  · exact h
def crK (v : Kv) : Kv := ⟨v.node, v.f, v.room, v.T, true, kini v.f⟩
def upK (v : Kv) : Kv := if v.down = true then ⟨v.node, v.f, v.room, v.T, false, krun v.node v.f v.T⟩ else v
def newKv (node : Int) (f : Int → Int) (room : Int) : Kv := ⟨node, f, roomV room, [], false, kini f⟩
theorem newKv_good {node : Int} {f : Int → Int} {room : Int} (h : node = 1 ∨ node = 2) : GoodKv (newKv node f room) :=
  ⟨h, roomV_in room, by have := (roomV_in room).1; simp [newKv]; omega, (fun e he => by cases he), rfl⟩
theorem crK_good {v : Kv} (h : GoodKv v) : GoodKv (crK v) := ⟨h.nd, h.rm, h.len, h.ok, rfl⟩
theorem upK_good {v : Kv} (h : GoodKv v) : GoodKv (upK v) := by
  unfold upK
  split
  · exact ⟨h.nd, h.rm, h.len, h.ok, rfl⟩
  · exact h
/-- Up again it is what it was. -/
theorem up_crK {v : Kv} (h : GoodKv v) (hd : v.down = false) : upK (crK v) = v := by
  have := h.st_
  rw [hd] at this
  simp only [if_neg (show ¬ (false = true) by decide)] at this
  unfold upK crK
  simp only [if_pos]
  rw [← this]
  cases v
  simp at hd
  subst hd
  rfl
end Go.Proofs.YtepclljoiccieaaGreatDoor
/-
  A keeper in memory: its block, its journal, its book, its states; what a step on each leaves of the others.
-/
namespace Go.Proofs.YtepclljoiccieaaGreatDoor
open Go.ChangeShapes Go.WideShapes Go.ChangeAt Go.RowKit Go.Maps

/-- The block's cells. -/
def kcs (nd : Int) (f : Int → Int) (j g m s : Value) : List Value := .int .i64 nd :: (Gd.rowc f ++ [j, g, m, s])
theorem kcs_len (nd : Int) (f : Int → Int) (j g m s : Value) : (kcs nd f j g m s).length = 13 := by simp [kcs, Gd.rowc_len]
theorem kcs_0 (nd : Int) (f : Int → Int) (j g m s : Value) : (kcs nd f j g m s)[0]? = some (.int .i64 nd) := rfl
theorem kcs_f (nd : Int) (f : Int → Int) (j g m s : Value) {i : Nat} (hi : i < 8) : (kcs nd f j g m s)[1 + i]? = some (.int .i64 (f i)) := by
  unfold kcs
  rw [Nat.add_comm, List.getElem?_cons_succ, List.getElem?_append_left (by rw [Gd.rowc_len]; exact hi), Gd.rowc_at _ hi]
theorem kcs_e (nd : Int) (f : Int → Int) (j g m s : Value) {i : Nat} (hi : i < 4) : (kcs nd f j g m s)[9 + i]? = [j, g, m, s][i]? := by
  unfold kcs
  rw [show 9 + i = (8 + i) + 1 by omega, List.getElem?_cons_succ, List.getElem?_append_right (by rw [Gd.rowc_len]; omega), Gd.rowc_len]
  congr 1
  omega
theorem kcs_set (nd : Int) (f : Int → Int) (j g m s x : Value) : (kcs nd f j g m s).set 9 x = kcs nd f x g m s ∧ (kcs nd f j g m s).set 10 x = kcs nd f j x m s ∧ (kcs nd f j g m s).set 11 x = kcs nd f j g x s ∧ (kcs nd f j g m s).set 12 x = kcs nd f j g m x := ⟨rfl, rfl, rfl, rfl⟩

/-- The book at pb: of goods with its map at mb; of money with its maps at mb and mc. -/
def BkK (B : Nat) (w : World) (nd : Int) (pb mb mc : Nat) (o : Bo) (n : Nat) : Prop := (nd = 1 ∧ Gd.Sk B w pb mb o.g n ∧ mc = mb) ∨ (nd = 2 ∧ Gd.Pu.Pk B w pb mb mc o.m n)
/-- The blocks that a step on it may turn. -/
def Own3 (pb mb mc : Nat) (k : Nat) (_ : Obj) : Prop := k = pb ∨ k = mb ∨ k = mc
def goodsV (nd : Int) (pb : Nat) : Value := if nd = 1 then .pointer (some ⟨pb, 0, none⟩) else .pointer none
def moneyV (nd : Int) (pb : Nat) : Value := if nd = 1 then .pointer none else .pointer (some ⟨pb, 0, none⟩)
theorem pu_obj {w : World} {b n : Nat} {r : Int → Option (Int × Int)} (h : Gd.Pu.Mp w b n r) : ∃ es c, w.heap[b]? = some (.map es c) := by obtain ⟨D, ⟨es, c, hb, _⟩, _⟩ := h; exact ⟨es, c, hb⟩
section
variable {B : Nat} {w w' : World} {nd : Int} {pb mb mc : Nat} {o : Bo} {n : Nat}
theorem BkK.obj (k : BkK B w nd pb mb mc o n) : (∃ cs t, w.heap[pb]? = some (.cells cs t (0, 0)) ∧ (t = 67 ∨ t = 71)) ∧ (∃ es c, w.heap[mb]? = some (.map es c)) ∧ (∃ es c, w.heap[mc]? = some (.map es c)) := by
  rcases k with ⟨_, h, rfl⟩ | ⟨_, h⟩
  · have hm : ∃ es c, w.heap[mc]? = some (.map es c) := by obtain ⟨⟨_, _, _, D, ⟨es, c, hb, _⟩, _⟩, _⟩ := h; exact ⟨es, c, hb⟩
    exact ⟨⟨_, _, h.1.1, .inl rfl⟩, hm, hm⟩
  · exact ⟨⟨_, _, h.1.1, .inr rfl⟩, pu_obj h.1.2.2.1, pu_obj h.1.2.2.2⟩
theorem BkK.kept {F : Nat → Obj → Prop} (k : BkK B w nd pb mb mc o n) (hk : Rg.Kept F w w') (hp : ∀ x, ¬ F pb x) (hb : ∀ x, ¬ F mb x) (hc : ∀ x, ¬ F mc x) : BkK B w' nd pb mb mc o n := by
  rcases k with ⟨e, h, e2⟩ | ⟨e, h⟩
  · exact .inl ⟨e, h.kept hk hp hb, e2⟩
  · exact .inr ⟨e, h.kept hk hp hb hc⟩
theorem BkK.mono (k : BkK B w nd pb mb mc o n) {n' : Nat} (hn : n ≤ n') : BkK B w nd pb mb mc o n' := by
  rcases k with ⟨e, h, e2⟩ | ⟨e, h⟩
  · exact .inl ⟨e, h.mono hn, e2⟩
  · exact .inr ⟨e, h.mono hn⟩
theorem BkK.lt (k : BkK B w nd pb mb mc o n) : pb < w.heap.size ∧ mb < w.heap.size ∧ mc < w.heap.size := by
  obtain ⟨⟨cs, t, h1, _⟩, ⟨es, c, h2⟩, ⟨es', c', h3⟩⟩ := k.obj
  exact ⟨(Array.getElem?_eq_some_iff.1 h1).1, (Array.getElem?_eq_some_iff.1 h2).1, (Array.getElem?_eq_some_iff.1 h3).1⟩
end

/-- The keeper at p: its journal at q with the row r, its book at pb with the maps mb, mc, its states at sb; all its blocks are of E. -/
structure KdV (B : Nat) (E : Nat → Prop) (w : World) (p : Nat) (v : Kv) (n q : Nat) (r : Value) (pb mb mc sb : Nat) : Prop where
  blk : w.heap[p]? = some (.cells (kcs v.node v.f (.pointer (some ⟨q, 0, none⟩)) (goodsV v.node pb) (moneyV v.node pb) (.map (some sb))).toArray 64 (0, 0))
  jr : Jr B w q r v.room (v.T.map lnK) v.T.length v.down
  bk : BkK B w v.node pb mb mc v.st.o n
  mp : Mp w sb n v.st.s
  ne : mb ≠ sb ∧ mc ≠ sb
  ep : E p
  eq : E q
  er : ∀ k, r.ownBlock = some k → E k
  eb : E pb
  em : E mb
  ec : E mc
  es : E sb

theorem typ_neK : (64 ≠ 107 ∧ 64 ≠ 9 ∧ 64 ≠ 67 ∧ 64 ≠ 71) ∧ (107 ≠ 9 ∧ 107 ≠ 67 ∧ 107 ≠ 71) ∧ 9 ≠ 67 ∧ 9 ≠ 71 := by decide

section
variable {B : Nat} {E E' : Nat → Prop} {w w' : World} {p : Nat} {v : Kv} {n q : Nat} {r : Value} {pb mb mc sb : Nat}
/-- No two of its blocks are one. -/
theorem KdV.apart (k : KdV B E w p v n q r pb mb mc sb) :
    (p ≠ q ∧ p ≠ pb ∧ p ≠ mb ∧ p ≠ mc ∧ p ≠ sb) ∧ (q ≠ pb ∧ q ≠ mb ∧ q ≠ mc ∧ q ≠ sb) ∧ (pb ≠ mb ∧ pb ≠ mc ∧ pb ≠ sb) ∧ ∀ i, r.ownBlock = some i → i ≠ p ∧ i ≠ q ∧ i ≠ pb ∧ i ≠ mb ∧ i ≠ mc ∧ i ≠ sb := by
  obtain ⟨⟨t1, t2, t3, t3'⟩, ⟨t4, t5, t5'⟩, t6, t6'⟩ := typ_neK
  obtain ⟨⟨cs, t, hb, ht⟩, ⟨es, c, hm⟩, ⟨es2, c2, hm2⟩⟩ := k.bk.obj
  obtain ⟨es', c', hs⟩ := k.mp.obj
  have n3 : 64 ≠ t := ht.elim (fun e => e ▸ t3) (fun e => e ▸ t3')
  have n5 : 107 ≠ t := ht.elim (fun e => e ▸ t5) (fun e => e ▸ t5')
  have n6 : 9 ≠ t := ht.elim (fun e => e ▸ t6) (fun e => e ▸ t6')
  refine ⟨⟨two_cells k.blk k.jr.1 t1, two_cells k.blk hb n3, cells_map k.blk hm, cells_map k.blk hm2, cells_map k.blk hs⟩, ⟨two_cells k.jr.1 hb n5, cells_map k.jr.1 hm, cells_map k.jr.1 hm2, cells_map k.jr.1 hs⟩, ⟨cells_map hb hm, cells_map hb hm2, cells_map hb hs⟩, fun i e => ?_⟩
  obtain ⟨cs, hr⟩ := k.jr.rowObj e
  exact ⟨two_cells hr k.blk t2.symm, two_cells hr k.jr.1 t4.symm, two_cells hr hb n6, cells_map hr hm, cells_map hr hm2, cells_map hr hs⟩
theorem KdV.wide (k : KdV B E w p v n q r pb mb mc sb) (h : ∀ k, E k → E' k) : KdV B E' w p v n q r pb mb mc sb :=
  ⟨k.blk, k.jr, k.bk, k.mp, k.ne, h _ k.ep, h _ k.eq, fun i e => h _ (k.er i e), h _ k.eb, h _ k.em, h _ k.ec, h _ k.es⟩
theorem KdV.kept {F : Nat → Obj → Prop} (k : KdV B E w p v n q r pb mb mc sb) (hk : Rg.Kept F w w') (hE : ∀ k o, E k → ¬ F k o) : KdV B E w' p v n q r pb mb mc sb :=
  ⟨hk.block _ _ k.blk (hE _ _ k.ep), k.jr.kept hk (fun o => hE _ o k.eq) (fun i o e => hE _ o (k.er i e)), k.bk.kept hk (fun o => hE _ o k.eb) (fun o => hE _ o k.em) (fun o => hE _ o k.ec), k.mp.kept hk (fun o => hE _ o k.es), k.ne, k.ep, k.eq, k.er, k.eb, k.em, k.ec, k.es⟩
theorem KdV.on (k : KdV B E w p v n q r pb mb mc sb) (hb : Below w.heap.size w w') : KdV B E w' p v n q r pb mb mc sb := k.kept (F := fun _ _ => False) (Rg.Kept.of_below hb) (fun _ _ _ h => h)
theorem KdV.more (k : KdV B E w p v n q r pb mb mc sb) {n' : Nat} (hn : n ≤ n') : KdV B E w p v n' q r pb mb mc sb :=
  ⟨k.blk, k.jr, k.bk.mono hn, k.mp.mono hn, k.ne, k.ep, k.eq, k.er, k.eb, k.em, k.ec, k.es⟩
theorem KdV.lt (k : KdV B E w p v n q r pb mb mc sb) : p < w.heap.size := (Array.getElem?_eq_some_iff.1 k.blk).1
theorem KdV.cells (k : KdV B E w p v n q r pb mb mc sb) :
    w.cell? ⟨p, 0, none⟩ = some (.int .i64 v.node) ∧ w.cell? ⟨p, 9, none⟩ = some (.pointer (some ⟨q, 0, none⟩)) ∧ w.cell? ⟨p, 10, none⟩ = some (goodsV v.node pb) ∧ w.cell? ⟨p, 11, none⟩ = some (moneyV v.node pb) ∧ w.cell? ⟨p, 12, none⟩ = some (.map (some sb)) := by
  refine ⟨?_, ?_, ?_, ?_, ?_⟩
  all_goals (rw [cell_of k.blk, List.getElem?_toArray]; rfl)
theorem KdV.nd (k : KdV B E w p v n q r pb mb mc sb) : v.node = 1 ∨ v.node = 2 := k.bk.elim (fun h => .inl h.1) (fun h => .inr h.1)
/-- A step on its journal. -/
theorem KdV.jstep (k : KdV B E w p v n q r pb mb mc sb) {T' : List Ke} {d' : Bool} {r' : Value} (j : Jr B w' q r' v.room (T'.map lnK) T'.length d') (ho : Off q r r' w w') :
    KdV B (growE E w w') w' p ⟨v.node, v.f, v.room, T', d', v.st⟩ n q r' pb mb mc sb ∧ Rg.Kept (fun k _ => E k) w w' := by
  obtain ⟨⟨a1, a2, a3, a4, a5⟩, ⟨b1, b2, b3, b4⟩, ⟨c1, c2, c3⟩, d1⟩ := k.apart
  have hk := ho.kept
  have no : ∀ i (_ : Obj), i ≠ q → (∀ g, r.ownBlock = some g → g ≠ i) → ¬ (i = q ∨ r.ownBlock = some i) := fun i _ h1 h2 e => e.elim h1 (fun e => h2 i e rfl)
  refine ⟨⟨hk.block _ _ k.blk (no p default a1 (fun g e => (d1 g e).1)), j, k.bk.kept hk (fun o => no pb o b1.symm (fun g e => (d1 g e).2.2.1)) (fun o => no mb o b2.symm (fun g e => (d1 g e).2.2.2.1)) (fun o => no mc o b3.symm (fun g e => (d1 g e).2.2.2.2.1)), k.mp.kept hk (fun o => no sb o b4.symm (fun g e => (d1 g e).2.2.2.2.2)), k.ne, .inl k.ep, .inl k.eq, fun i e => ?_, .inl k.eb, .inl k.em, .inl k.ec, .inl k.es⟩, hk.mono (fun i _ e => e.elim (fun e => e ▸ k.eq) (fun e => k.er i e))⟩
  by_cases hi : i < w.heap.size
  · by_cases h1 : i = q
    · subst h1; exact .inl k.eq
    · by_cases h2 : r.ownBlock = some i
      · exact .inl (k.er i h2)
      · exact absurd e (ho.2 i hi h1 h2).2
  · exact .inr ⟨by omega, (j.2.2.1.lt i e).2⟩
/-- A step on its book. -/
theorem KdV.bstep (k : KdV B E w p v n q r pb mb mc sb) {o' : Bo} {n' : Nat} (hn : n ≤ n') (b : BkK B w' v.node pb mb mc o' n') (hk : Rg.Kept (Own3 pb mb mc) w w') :
    KdV B E w' p ⟨v.node, v.f, v.room, v.T, v.down, ⟨o', v.st.s⟩⟩ n' q r pb mb mc sb ∧ Rg.Kept (fun k _ => E k) w w' := by
  obtain ⟨⟨a1, a2, a3, a4, a5⟩, ⟨b1, b2, b3, b4⟩, ⟨c1, c2, c3⟩, d1⟩ := k.apart
  have no : ∀ i (o : Obj), i ≠ pb → i ≠ mb → i ≠ mc → ¬ Own3 pb mb mc i o := fun i _ h1 h2 h3 e => e.elim h1 (fun e => e.elim h2 h3)
  exact ⟨⟨hk.block _ _ k.blk (no _ _ a2 a3 a4), k.jr.kept hk (fun o => no _ o b1 b2 b3) (fun i o e => no _ o (d1 i e).2.2.1 (d1 i e).2.2.2.1 (d1 i e).2.2.2.2.1), b, (k.mp.kept hk (fun o => no _ o c3.symm k.ne.1.symm k.ne.2.symm)).mono hn, k.ne, k.ep, k.eq, k.er, k.eb, k.em, k.ec, k.es⟩, hk.mono (fun i _ e => e.elim (fun e => e ▸ k.eb) (fun e => e.elim (fun e => e ▸ k.em) (fun e => e ▸ k.ec)))⟩
/-- A step on its states. -/
theorem KdV.mstep (k : KdV B E w p v n q r pb mb mc sb) {s' : Int → Int} {n' : Nat} (hn : n ≤ n') (b : Mp w' sb n' s') (hk : Rg.Kept (fun k _ => k = sb) w w') :
    KdV B E w' p ⟨v.node, v.f, v.room, v.T, v.down, ⟨v.st.o, s'⟩⟩ n' q r pb mb mc sb ∧ Rg.Kept (fun k _ => E k) w w' := by
  obtain ⟨⟨a1, a2, a3, a4, a5⟩, ⟨b1, b2, b3, b4⟩, ⟨c1, c2, c3⟩, d1⟩ := k.apart
  exact ⟨⟨hk.block _ _ k.blk a5, k.jr.kept hk (fun o => b4) (fun i o e => (d1 i e).2.2.2.2.2), (k.bk.kept hk (fun o => c3) (fun o => k.ne.1) (fun o => k.ne.2)).mono hn, b, k.ne, k.ep, k.eq, k.er, k.eb, k.em, k.ec, k.es⟩, hk.mono (fun i _ e => by subst e; exact k.es)⟩
end

/-- The keeper at p; all its blocks are of E. -/
def Kd (B : Nat) (E : Nat → Prop) (w : World) (p : Nat) (v : Kv) (n : Nat) : Prop :=
  (∀ k, E k → B ≤ k ∧ k < w.heap.size) ∧ GoodKv v ∧ ∃ q r pb mb mc sb, KdV B E w p v n q r pb mb mc sb
section
variable {B : Nat} {E E' : Nat → Prop} {w w' : World} {p : Nat} {v : Kv} {n : Nat}
theorem Kd.good (k : Kd B E w p v n) : GoodKv v := k.2.1
theorem Kd.ep (k : Kd B E w p v n) : E p := by obtain ⟨_, _, q, r, pb, mb, mc, sb, h⟩ := k; exact h.ep
theorem Kd.low (k : Kd B E w p v n) : B ≤ w.heap.size := by have := k.1 p k.ep; omega
theorem Kd.kept {F : Nat → Obj → Prop} (k : Kd B E w p v n) (hk : Rg.Kept F w w') (hE : ∀ k o, E k → ¬ F k o) : Kd B E w' p v n := by
  obtain ⟨h1, h2, q, r, pb, mb, mc, sb, h⟩ := k
  exact ⟨fun k e => ⟨(h1 k e).1, Nat.lt_of_lt_of_le (h1 k e).2 hk.size⟩, h2, q, r, pb, mb, mc, sb, h.kept hk hE⟩
theorem Kd.on (k : Kd B E w p v n) (hb : Below w.heap.size w w') : Kd B E w' p v n := k.kept (F := fun _ _ => False) (Rg.Kept.of_below hb) (fun _ _ _ h => h)
theorem Kd.wide (k : Kd B E w p v n) (h : ∀ k, E k → E' k) (h' : ∀ k, E' k → B ≤ k ∧ k < w.heap.size) : Kd B E' w p v n := by
  obtain ⟨_, h2, q, r, pb, mb, mc, sb, h4⟩ := k
  exact ⟨h', h2, q, r, pb, mb, mc, sb, h4.wide h⟩
theorem Kd.grow {W : World} (k : Kd B E w p v n) (hB : B ≤ W.heap.size) : Kd B (growE E W w) w p v n :=
  k.wide (fun _ e => .inl e) (fun i e => e.elim (k.1 i) (fun e => ⟨by omega, e.2⟩))
theorem Kd.more (k : Kd B E w p v n) {n' : Nat} (hn : n ≤ n') : Kd B E w p v n' := by
  obtain ⟨h1, h2, q, r, pb, mb, mc, sb, h⟩ := k
  exact ⟨h1, h2, q, r, pb, mb, mc, sb, h.more hn⟩
theorem Kd.bel (k : Kd B E w p v n) (hk : Rg.Kept (fun i _ => E i) w w') : Below B w w' := hk.bel k.low (fun i _ e => (k.1 i e).1)
theorem kgrow_in (h : ∀ k, E k → B ≤ k ∧ k < w.heap.size) (hB : B ≤ w.heap.size) (hs : w.heap.size ≤ w'.heap.size) : ∀ k, growE E w w' k → B ≤ k ∧ k < w'.heap.size := fun k e => by
  rcases e with e | e
  · have := h k e; omega
  · omega
end
end Go.Proofs.YtepclljoiccieaaGreatDoor
/-
  Contracts of keeper's isId, other, State, Down, Goods, Money, take, sell, free; those of a keeper that there isn't.
-/
namespace Go.Proofs.YtepclljoiccieaaGreatDoor
open Go.ChangeShapes Go.WideShapes Go.ChangeAt Go.RowKit Go.Maps

theorem kisid_any (id : Int) (w : World) : Calls Tryz.prog 42 #[.int .i64 id] w fun e w' => e = .returned (.bool (Hd.isI id)) ∧ w = w' := by
  by_cases h0 : 1 ≤ id
  · by_cases h1 : id ≤ 999
    · have hm : true = Hd.isI id := (Hd.isI_iff.2 ⟨h0, h1⟩).symm
      rw [← hm]
      clear hm
      go_enter Tryz.func42, Tryz.ntmps42
      go_wp2
      go_ret
      exact ⟨rfl, rfl⟩
    · have hm : false = Hd.isI id := by unfold Hd.isI; simp; omega
      rw [← hm]
      clear hm
      go_enter Tryz.func42, Tryz.ntmps42
      go_wp2
      go_ret
      exact ⟨rfl, rfl⟩
  · have hm : false = Hd.isI id := by unfold Hd.isI; simp; omega
    rw [← hm]
    clear hm
    go_enter Tryz.func42, Tryz.ntmps42
    go_wp2
    go_ret
    exact ⟨rfl, rfl⟩

section
variable {B : Nat} {E : Nat → Prop} {w : World} {p : Nat} {v : Kv} {n q : Nat} {r : Value} {pb mb mc sb : Nat}
theorem kother_any (k : KdV B E w p v n q r pb mb mc sb) : Calls Tryz.prog 41 #[.pointer (some ⟨p, 0, none⟩)] w fun e w' => e = .returned (.int .i64 (3 - v.node)) ∧ w = w' := by
  obtain ⟨c0, -⟩ := k.cells
  have hn := k.nd
  clear k
  rcases hn with hn | hn
  all_goals rw [hn] at c0 ⊢
  all_goals clear hn
  all_goals go_enter Tryz.func41, Tryz.ntmps41
  all_goals go_wp2
  all_goals go_ret
  all_goals exact ⟨rfl, rfl⟩
theorem kstate_any (k : KdV B E w p v n q r pb mb mc sb) {id : Int} (hw : (Lit.int .i64 id).wf = true) :
    Calls Tryz.prog 19 #[.pointer (some ⟨p, 0, none⟩), .int .i64 id] w fun e w' => e = .returned (.int .i64 (v.st.s id)) ∧ w = w' := by
  obtain ⟨c0, c1, c2, c3, c4⟩ := k.cells
  have hl := k.mp.look hw
  clear k
  generalize v.st.s id = x at hl ⊢
  go_enter Tryz.func19, Tryz.ntmps19
  go_wp2
  go_ret
  exact ⟨rfl, rfl⟩
theorem kstate_nil (id : Int) (w : World) : Calls Tryz.prog 19 #[.pointer none, .int .i64 id] w fun e w' => e = .returned (.int .i64 0) ∧ w = w' := by
  go_enter Tryz.func19, Tryz.ntmps19
  go_wp2
  go_ret
  exact ⟨rfl, rfl⟩
theorem kdown_any (k : KdV B E w p v n q r pb mb mc sb) : Calls Tryz.prog 21 #[.pointer (some ⟨p, 0, none⟩)] w fun e w' => e = .returned (.bool v.down) ∧ w = w' := by
  obtain ⟨c0, c1, c2, c3, c4⟩ := k.cells
  have H := jdown_any k.jr
  clear k
  generalize v.down = d at H ⊢
  go_enter Tryz.func21, Tryz.ntmps21
  go_wp2_with (go_at_call 55; refine H.mono ?_; rintro e w' ⟨rfl, rfl⟩)
  go_ret
  exact ⟨rfl, rfl⟩
theorem kdown_nil (w : World) : Calls Tryz.prog 21 #[.pointer none] w fun e w' => e = .returned (.bool false) ∧ w = w' := by
  go_enter Tryz.func21, Tryz.ntmps21
  go_wp2
  go_ret
  exact ⟨rfl, rfl⟩
theorem kgoods_any (k : KdV B E w p v n q r pb mb mc sb) : Calls Tryz.prog 25 #[.pointer (some ⟨p, 0, none⟩)] w fun e w' => e = .returned (goodsV v.node pb) ∧ w = w' := by
  obtain ⟨c0, c1, c2, c3, c4⟩ := k.cells
  clear k
  generalize goodsV v.node pb = x at c2 ⊢
  go_enter Tryz.func25, Tryz.ntmps25
  go_wp2
  go_ret
  exact ⟨rfl, rfl⟩
theorem kgoods_nil (w : World) : Calls Tryz.prog 25 #[.pointer none] w fun e w' => e = .returned (.pointer none) ∧ w = w' := by
  go_enter Tryz.func25, Tryz.ntmps25
  go_wp2
  go_ret
  exact ⟨rfl, rfl⟩
theorem kmoney_any (k : KdV B E w p v n q r pb mb mc sb) : Calls Tryz.prog 56 #[.pointer (some ⟨p, 0, none⟩)] w fun e w' => e = .returned (moneyV v.node pb) ∧ w = w' := by
  obtain ⟨c0, c1, c2, c3, c4⟩ := k.cells
  clear k
  generalize moneyV v.node pb = x at c3 ⊢
  go_enter Tryz.func56, Tryz.ntmps56
  go_wp2
  go_ret
  exact ⟨rfl, rfl⟩
theorem kmoney_nil (w : World) : Calls Tryz.prog 56 #[.pointer none] w fun e w' => e = .returned (.pointer none) ∧ w = w' := by
  go_enter Tryz.func56, Tryz.ntmps56
  go_wp2
  go_ret
  exact ⟨rfl, rfl⟩
theorem ktake_any (k : KdV B E w p v n q r pb mb mc sb) {id a b : Int} (hw : (Lit.int .i64 id).wf = true) (hn : n < 900000) :
    Calls Tryz.prog 74 #[.pointer (some ⟨p, 0, none⟩), .int .i64 id, .int .i64 a, .int .i64 b] w fun e w' => e = .returned (.int .i64 (tkE v.node v.st.o id a b)) ∧ KdV B E w' p ⟨v.node, v.f, v.room, v.T, v.down, ⟨tkS v.node v.st.o id a b, v.st.s⟩⟩ (n + 1) q r pb mb mc sb ∧ Rg.Kept (fun k _ => E k) w w' := by
  obtain ⟨c0, c1, c2, c3, c4⟩ := k.cells
  have HK := hide k
  rcases k.bk with ⟨e1, hb, e2⟩ | ⟨e1, hb⟩
  · have T := Gd.res_any hb hw a b (by omega)
    have eE : tkE v.node v.st.o id a b = Gd.resE v.st.o.g id a b := by unfold tkE; rw [if_pos e1]
    have eS : tkS v.node v.st.o id a b = ⟨Gd.resS v.st.o.g id a b, v.st.o.m⟩ := by unfold tkS; rw [if_pos e1]
    have FX : Hid (∀ u, Gd.Sk B u pb mb (Gd.resS v.st.o.g id a b) (n + 1) → Rg.Kept (Gd.Own2 pb mb) w u → KdV B E u p ⟨v.node, v.f, v.room, v.T, v.down, ⟨tkS v.node v.st.o id a b, v.st.s⟩⟩ (n + 1) q r pb mb mc sb ∧ Rg.Kept (fun k _ => E k) w u) := fun u h1 h2 =>
      HK.out.bstep (by omega) (.inl ⟨e1, by rw [eS]; exact h1.mono (by omega), e2⟩) (h2.mono (fun i _ e => e.elim .inl (fun e => .inr (.inl e))))
    have g1 : goodsV v.node pb = .pointer (some ⟨pb, 0, none⟩) := by unfold goodsV; rw [if_pos e1]
    rw [g1] at c2
    rw [eE]
    rw [e1] at c0
    clear k hb e1 e2 eE eS c1 c3 c4 g1 HK
    generalize Gd.resE v.st.o.g id a b = x at T ⊢
    generalize tkS v.node v.st.o id a b = o' at FX ⊢
    go_enter Tryz.func74, Tryz.ntmps74
    go_wp2_with (go_at_call 105; refine T.mono ?_; clear T; rintro e u ⟨rfl, h1, h2⟩; have HX := hide (FX.out u h1 h2); clear h1 h2 FX)
    go_ret
    exact ⟨rfl, HX.out⟩
  · have T := Gd.Pu.pallow_any hb hw a b (by omega)
    have ne1 : ¬ v.node = 1 := by omega
    have eE : tkE v.node v.st.o id a b = Gd.Pu.alwE (Gd.Pu.toP v.st.o.m) id a b := by unfold tkE; rw [if_neg ne1]
    have eS : tkS v.node v.st.o id a b = ⟨v.st.o.g, Gd.Pu.alwQ v.st.o.m id a b⟩ := by unfold tkS; rw [if_neg ne1]
    have FX : Hid (∀ u, Gd.Pu.Pk B u pb mb mc (Gd.Pu.alwQ v.st.o.m id a b) (n + 1) → Rg.Kept (Gd.Pu.Own2 mb mc) w u → KdV B E u p ⟨v.node, v.f, v.room, v.T, v.down, ⟨tkS v.node v.st.o id a b, v.st.s⟩⟩ (n + 1) q r pb mb mc sb ∧ Rg.Kept (fun k _ => E k) w u) := fun u h1 h2 =>
      HK.out.bstep (by omega) (.inr ⟨e1, by rw [eS]; exact h1.mono (by omega)⟩) (h2.mono (fun i _ e => .inr e))
    have g1 : moneyV v.node pb = .pointer (some ⟨pb, 0, none⟩) := by unfold moneyV; rw [if_neg ne1]
    rw [g1] at c3
    rw [eE]
    rw [e1] at c0
    clear k hb e1 ne1 eE eS c1 c2 c4 g1 HK
    generalize Gd.Pu.alwE (Gd.Pu.toP v.st.o.m) id a b = x at T ⊢
    generalize tkS v.node v.st.o id a b = o' at FX ⊢
    go_enter Tryz.func74, Tryz.ntmps74
    go_wp2_with (go_at_call 106; refine T.mono ?_; clear T; rintro e u ⟨rfl, h1, h2⟩; have HX := hide (FX.out u h1 h2); clear h1 h2 FX)
    go_ret
    exact ⟨rfl, HX.out⟩
theorem ksell_any (k : KdV B E w p v n q r pb mb mc sb) {id : Int} (hw : (Lit.int .i64 id).wf = true) (hn : n < 900000) :
    Calls Tryz.prog 75 #[.pointer (some ⟨p, 0, none⟩), .int .i64 id] w fun e w' => e = .returned (.int .i64 (enE v.node v.st.o id)) ∧ KdV B E w' p ⟨v.node, v.f, v.room, v.T, v.down, ⟨slS v.node v.st.o id, v.st.s⟩⟩ (n + 1) q r pb mb mc sb ∧ Rg.Kept (fun k _ => E k) w w' := by
  obtain ⟨c0, c1, c2, c3, c4⟩ := k.cells
  have HK := hide k
  rcases k.bk with ⟨e1, hb, e2⟩ | ⟨e1, hb⟩
  · have T := Gd.com_any hb hw
    have eE : enE v.node v.st.o id = Gd.unE v.st.o.g id := by unfold enE; rw [if_pos e1]
    have eS : slS v.node v.st.o id = ⟨Gd.comS v.st.o.g id, v.st.o.m⟩ := by unfold slS; rw [if_pos e1]
    have FX : Hid (∀ u, Gd.Sk B u pb mb (Gd.comS v.st.o.g id) (n) → Rg.Kept (Gd.Own2 pb mb) w u → KdV B E u p ⟨v.node, v.f, v.room, v.T, v.down, ⟨slS v.node v.st.o id, v.st.s⟩⟩ (n + 1) q r pb mb mc sb ∧ Rg.Kept (fun k _ => E k) w u) := fun u h1 h2 =>
      HK.out.bstep (by omega) (.inl ⟨e1, by rw [eS]; exact h1.mono (by omega), e2⟩) (h2.mono (fun i _ e => e.elim .inl (fun e => .inr (.inl e))))
    have g1 : goodsV v.node pb = .pointer (some ⟨pb, 0, none⟩) := by unfold goodsV; rw [if_pos e1]
    rw [g1] at c2
    rw [eE]
    rw [e1] at c0
    clear k hb e1 e2 eE eS c1 c3 c4 g1 HK
    generalize Gd.unE v.st.o.g id = x at T ⊢
    generalize slS v.node v.st.o id = o' at FX ⊢
    go_enter Tryz.func75, Tryz.ntmps75
    go_wp2_with (go_at_call 107; refine T.mono ?_; clear T; rintro e u ⟨rfl, h1, h2⟩; have HX := hide (FX.out u h1 h2); clear h1 h2 FX)
    go_ret
    exact ⟨rfl, HX.out⟩
  · have T := Gd.Pu.pcap_any hb hw (by omega)
    have ne1 : ¬ v.node = 1 := by omega
    have eE : enE v.node v.st.o id = Gd.Pu.capE (Gd.Pu.toP v.st.o.m) id := by unfold enE; rw [if_neg ne1]
    have eS : slS v.node v.st.o id = ⟨v.st.o.g, Gd.Pu.capQ v.st.o.m id⟩ := by unfold slS; rw [if_neg ne1]
    have FX : Hid (∀ u, Gd.Pu.Pk B u pb mb mc (Gd.Pu.capQ v.st.o.m id) (n + 1) → Rg.Kept (Gd.Pu.Own2 mb mc) w u → KdV B E u p ⟨v.node, v.f, v.room, v.T, v.down, ⟨slS v.node v.st.o id, v.st.s⟩⟩ (n + 1) q r pb mb mc sb ∧ Rg.Kept (fun k _ => E k) w u) := fun u h1 h2 =>
      HK.out.bstep (by omega) (.inr ⟨e1, by rw [eS]; exact h1.mono (by omega)⟩) (h2.mono (fun i _ e => .inr e))
    have g1 : moneyV v.node pb = .pointer (some ⟨pb, 0, none⟩) := by unfold moneyV; rw [if_neg ne1]
    rw [g1] at c3
    rw [eE]
    rw [e1] at c0
    clear k hb e1 ne1 eE eS c1 c2 c4 g1 HK
    generalize Gd.Pu.capE (Gd.Pu.toP v.st.o.m) id = x at T ⊢
    generalize slS v.node v.st.o id = o' at FX ⊢
    go_enter Tryz.func75, Tryz.ntmps75
    go_wp2_with (go_at_call 108; refine T.mono ?_; clear T; rintro e u ⟨rfl, h1, h2⟩; have HX := hide (FX.out u h1 h2); clear h1 h2 FX)
    go_ret
    exact ⟨rfl, HX.out⟩
theorem kfree_any (k : KdV B E w p v n q r pb mb mc sb) {id : Int} (hw : (Lit.int .i64 id).wf = true) (_hn : n < 900000) :
    Calls Tryz.prog 76 #[.pointer (some ⟨p, 0, none⟩), .int .i64 id] w fun e w' => e = .returned (.int .i64 (enE v.node v.st.o id)) ∧ KdV B E w' p ⟨v.node, v.f, v.room, v.T, v.down, ⟨frS v.node v.st.o id, v.st.s⟩⟩ (n + 1) q r pb mb mc sb ∧ Rg.Kept (fun k _ => E k) w w' := by
  obtain ⟨c0, c1, c2, c3, c4⟩ := k.cells
  have HK := hide k
  rcases k.bk with ⟨e1, hb, e2⟩ | ⟨e1, hb⟩
  · have T := Gd.rel_any hb hw
    have eE : enE v.node v.st.o id = Gd.unE v.st.o.g id := by unfold enE; rw [if_pos e1]
    have eS : frS v.node v.st.o id = ⟨Gd.relS v.st.o.g id, v.st.o.m⟩ := by unfold frS; rw [if_pos e1]
    have FX : Hid (∀ u, Gd.Sk B u pb mb (Gd.relS v.st.o.g id) (n) → Rg.Kept (Gd.Own2 pb mb) w u → KdV B E u p ⟨v.node, v.f, v.room, v.T, v.down, ⟨frS v.node v.st.o id, v.st.s⟩⟩ (n + 1) q r pb mb mc sb ∧ Rg.Kept (fun k _ => E k) w u) := fun u h1 h2 =>
      HK.out.bstep (by omega) (.inl ⟨e1, by rw [eS]; exact h1.mono (by omega), e2⟩) (h2.mono (fun i _ e => e.elim .inl (fun e => .inr (.inl e))))
    have g1 : goodsV v.node pb = .pointer (some ⟨pb, 0, none⟩) := by unfold goodsV; rw [if_pos e1]
    rw [g1] at c2
    rw [eE]
    rw [e1] at c0
    clear k hb e1 e2 eE eS c1 c3 c4 g1 HK
    generalize Gd.unE v.st.o.g id = x at T ⊢
    generalize frS v.node v.st.o id = o' at FX ⊢
    go_enter Tryz.func76, Tryz.ntmps76
    go_wp2_with (go_at_call 109; refine T.mono ?_; clear T; rintro e u ⟨rfl, h1, h2⟩; have HX := hide (FX.out u h1 h2); clear h1 h2 FX)
    go_ret
    exact ⟨rfl, HX.out⟩
  · have T := Gd.Pu.pvoid_any hb hw
    have ne1 : ¬ v.node = 1 := by omega
    have eE : enE v.node v.st.o id = Gd.Pu.capE (Gd.Pu.toP v.st.o.m) id := by unfold enE; rw [if_neg ne1]
    have eS : frS v.node v.st.o id = ⟨v.st.o.g, Gd.Pu.voidQ v.st.o.m id⟩ := by unfold frS; rw [if_neg ne1]
    have FX : Hid (∀ u, Gd.Pu.Pk B u pb mb mc (Gd.Pu.voidQ v.st.o.m id) (n) → Rg.Kept (Gd.Pu.Own2 mb mc) w u → KdV B E u p ⟨v.node, v.f, v.room, v.T, v.down, ⟨frS v.node v.st.o id, v.st.s⟩⟩ (n + 1) q r pb mb mc sb ∧ Rg.Kept (fun k _ => E k) w u) := fun u h1 h2 =>
      HK.out.bstep (by omega) (.inr ⟨e1, by rw [eS]; exact h1.mono (by omega)⟩) (h2.mono (fun i _ e => .inr e))
    have g1 : moneyV v.node pb = .pointer (some ⟨pb, 0, none⟩) := by unfold moneyV; rw [if_neg ne1]
    rw [g1] at c3
    rw [eE]
    rw [e1] at c0
    clear k hb e1 ne1 eE eS c1 c2 c4 g1 HK
    generalize Gd.Pu.capE (Gd.Pu.toP v.st.o.m) id = x at T ⊢
    generalize frS v.node v.st.o id = o' at FX ⊢
    go_enter Tryz.func76, Tryz.ntmps76
    go_wp2_with (go_at_call 110; refine T.mono ?_; clear T; rintro e u ⟨rfl, h1, h2⟩; have HX := hide (FX.out u h1 h2); clear h1 h2 FX)
    go_ret
    exact ⟨rfl, HX.out⟩
end
end Go.Proofs.YtepclljoiccieaaGreatDoor
/-
  Contracts of keeper's couldNow, numbersOf, follow.
-/
namespace Go.Proofs.YtepclljoiccieaaGreatDoor
open Go.ChangeShapes Go.WideShapes Go.ChangeAt Go.RowKit Go.Maps

theorem canK_no {v : Kv} {m : Ms.Mg} (h : ¬ (m.k = 6 ∧ v.st.s m.id = 0)) : canK v m = false := by
  unfold canK
  by_cases h1 : m.k = 6
  · simp [h1]; intro h2; exact absurd ⟨h1, h2⟩ h
  · simp [h1]
theorem canK_at {v : Kv} {m : Ms.Mg} (h1 : m.k = 6) (h2 : v.st.s m.id = 0) : canK v m = decide (tkE v.node v.st.o m.id m.a m.b = 0) := by
  unfold canK
  simp [h1, h2]

section
variable {B : Nat} {E : Nat → Prop} {w : World} {p : Nat} {v : Kv} {n q : Nat} {r : Value} {pb mb mc sb : Nat}
set_option maxHeartbeats 1000000 in
theorem kcould_any (k : KdV B E w p v n q r pb mb mc sb) (hE : ∀ k, E k → k < w.heap.size) {m : Ms.Mg} (hw : (Lit.int .i64 m.id).wf = true) (hn : n < 800000) :
    Calls Tryz.prog 51 #[.pointer (some ⟨p, 0, none⟩), .agg #[.int .i64 m.k, .int .i64 m.fr, .int .i64 m.to, .int .i64 m.id, .int .i64 m.st, .int .i64 m.a, .int .i64 m.b]] w fun e w' => e = .returned (.bool (canK v m)) ∧ KdV B E w' p v (n + 2) q r pb mb mc sb ∧ Rg.Kept (fun k _ => E k) w w' := by
  obtain ⟨W, hW⟩ : ∃ W, W = w.alloc (.cells #[.int .i64 m.k, .int .i64 m.fr, .int .i64 m.to, .int .i64 m.id, .int .i64 m.st, .int .i64 m.a, .int .i64 m.b] 31) := ⟨_, rfl⟩
  have hb0 : Below w.heap.size w W := by rw [hW]; exact (Below.refl _ _).alloc (Nat.le_refl _) _
  have hbx : W.heap[w.heap.size]? = some (.cells #[.int .i64 m.k, .int .i64 m.fr, .int .i64 m.to, .int .i64 m.id, .int .i64 m.st, .int .i64 m.a, .int .i64 m.b] 31 (0, 0)) := by rw [hW]; exact World.alloc_heap_new w _
  have kW := k.on hb0
  have hKW : Rg.Kept (fun k _ => E k) w W := Rg.Kept.of_below hb0
  obtain ⟨a0, a1, a2, a3, a4, a5, a6⟩ := seven_of hbx
  have S := kstate_any kW hw
  have HX := hide (kW.more (show n ≤ n + 2 by omega))
  have HKW := hide hKW
  have HW := hide hW
  by_cases h6 : m.k = 6
  rotate_left
  · rw [canK_no (fun h => h6 h.1)]
    have q6 : (m.k != 6) = true := by simpa using h6
    rw [hW] at a0
    obtain ⟨m0, m1, m2, m3, m4, m5, m6⟩ := m
    simp only at *
    clear k kW hKW hb0 hbx h6 S a1 a2 a3 a4 a5 a6 hW hE hw
    go_enter Tryz.func51, Tryz.ntmps51
    go_wp2
    go_ret
    rw [← HW.out]
    exact ⟨rfl, HX.out, HKW.out⟩
  by_cases hs : v.st.s m.id = 0
  rotate_left
  · rw [canK_no (fun h => hs h.2)]
    have q0 : (v.st.s m.id != 0) = true := by simpa using hs
    generalize v.st.s m.id = x at S q0
    rw [hW] at a0 a3 S
    obtain ⟨m0, m1, m2, m3, m4, m5, m6⟩ := m
    obtain rfl : m0 = 6 := h6
    simp only at *
    clear k kW hKW hb0 hbx hs a1 a2 a4 a5 a6 hW hE hw
    go_enter Tryz.func51, Tryz.ntmps51
    go_wp2_with (go_at_call 19; refine S.mono ?_; clear S; rintro e w' ⟨rfl, rfl⟩)
    go_ret
    rw [← HW.out]
    exact ⟨rfl, HX.out, HKW.out⟩
  rw [canK_at h6 hs]
  rw [hs] at S
  have T := ktake_any kW (a := m.a) (b := m.b) hw (by omega)
  have CE : Hid (∀ u, Rg.Kept (fun k _ => E k) W u → u.cell? ⟨w.heap.size, 3, none⟩ = some (.int .i64 m.id)) := fun u hu => (seven_of (hu.block _ _ hbx (fun e => by have := hE _ e; omega))).2.2.2.1
  by_cases ht : tkE v.node v.st.o m.id m.a m.b = 0
  · have ed : decide (tkE v.node v.st.o m.id m.a m.b = 0) = true := by simp [ht]
    obtain ⟨t1, t2⟩ := tk_back ht
    rw [ed]
    rw [ht] at T
    have FR : Hid (∀ u, KdV B E u p ⟨v.node, v.f, v.room, v.T, v.down, ⟨tkS v.node v.st.o m.id m.a m.b, v.st.s⟩⟩ (n + 1) q r pb mb mc sb → Rg.Kept (fun k _ => E k) W u → Calls Tryz.prog 76 #[.pointer (some ⟨p, 0, none⟩), .int .i64 m.id] u fun e w' => e = .returned (.int .i64 0) ∧ KdV B E w' p v (n + 2) q r pb mb mc sb ∧ Rg.Kept (fun k _ => E k) w w') := fun u h1 h2 => by
      refine (kfree_any h1 hw (by omega)).mono ?_
      rintro e w' ⟨h3, h4, h5⟩
      dsimp only at h3 h4
      rw [t1] at h3
      rw [t2] at h4
      exact ⟨h3, h4, (hKW.trans h2).trans h5⟩
    rw [hW] at a0 a3 a5 a6 S T
    obtain ⟨m0, m1, m2, m3, m4, m5, m6⟩ := m
    obtain rfl : m0 = 6 := h6
    simp only at *
    generalize tkS v.node v.st.o m3 m5 m6 = o1 at T FR
    clear k kW hKW hb0 hbx hs a1 a2 a4 hW hE hw ht ed t1 t2 HX HKW
    go_enter Tryz.func51, Tryz.ntmps51
    go_wp2_with (first
      | (go_at_call 19; refine S.mono ?_; clear S; rintro e w' ⟨rfl, rfl⟩)
      | (go_at_call 74; refine T.mono ?_; clear T; rintro e u1 ⟨rfl, h1, h2⟩; rw [← HW.out] at h2; have F1 := FR.out u1 h1 h2; have c3 := CE.out u1 h2; clear a0 a3 a5 a6 h1 h2 FR CE)
      | (go_at_call 76; refine F1.mono ?_; clear F1; rintro e u2 ⟨rfl, hx⟩; have HX := hide hx; clear hx))
    go_ret
    exact ⟨rfl, HX.out⟩
  · have ed : decide (tkE v.node v.st.o m.id m.a m.b = 0) = false := by simp [ht]
    rw [ed]
    rw [tkS_no ht] at T
    have qe : (tkE v.node v.st.o m.id m.a m.b == 0) = false := by simp [ht]
    generalize tkE v.node v.st.o m.id m.a m.b = x at T qe
    rw [hW] at a0 a3 a5 a6 S T
    obtain ⟨m0, m1, m2, m3, m4, m5, m6⟩ := m
    obtain rfl : m0 = 6 := h6
    simp only at *
    clear k kW hKW hb0 hbx hs a1 a2 a4 hW hE hw ht ed HX CE
    go_enter Tryz.func51, Tryz.ntmps51
    go_wp2_with (first
      | (go_at_call 19; refine S.mono ?_; clear S; rintro e w' ⟨rfl, rfl⟩)
      | (go_at_call 74; refine T.mono ?_; clear T; rintro e u1 ⟨rfl, h1, h2⟩; rw [← HW.out] at h2; have HX := hide (h1.more (show n + 1 ≤ n + 2 by omega)); have HK2 := hide (HKW.out.trans h2); clear h1 h2))
    go_ret
    exact ⟨rfl, HX.out, HK2.out⟩

theorem knums_any (s : Int) (m : Ms.Mg) (w : World) :
    Calls Tryz.prog 52 #[.int .i64 s, .agg #[.int .i64 m.k, .int .i64 m.fr, .int .i64 m.to, .int .i64 m.id, .int .i64 m.st, .int .i64 m.a, .int .i64 m.b]] w fun e w' => ∃ a c, e = .returned (.slice a (nK ⟨s, m.id, m.a, m.b⟩).length c) ∧ Ints w' a (nK ⟨s, m.id, m.a, m.b⟩) ∧ (∀ ad, a = some ad → w.heap.size ≤ ad.block ∧ ad.block < w'.heap.size) ∧ Below w.heap.size w w' := by
  obtain ⟨W, hW⟩ : ∃ W, W = w.alloc (.cells #[.int .i64 m.k, .int .i64 m.fr, .int .i64 m.to, .int .i64 m.id, .int .i64 m.st, .int .i64 m.a, .int .i64 m.b] 31) := ⟨_, rfl⟩
  have hb0 : Below w.heap.size w W := by rw [hW]; exact (Below.refl _ _).alloc (Nat.le_refl _) _
  have hbx : W.heap[w.heap.size]? = some (.cells #[.int .i64 m.k, .int .i64 m.fr, .int .i64 m.to, .int .i64 m.id, .int .i64 m.st, .int .i64 m.a, .int .i64 m.b] 31 (0, 0)) := by rw [hW]; exact World.alloc_heap_new w _
  obtain ⟨a0, a1, a2, a3, a4, a5, a6⟩ := seven_of hbx
  have HW := hide hW
  have HB := hide hb0
  have hs1 : W.heap.size = w.heap.size + 1 := by rw [hW]; simp
  by_cases h1 : s = 1
  · subst h1
    rw [show nK ⟨1, m.id, m.a, m.b⟩ = [m.a, m.b] from rfl]
    have e1 := hide (World.alloc_heap_new W (.cells #[.int .i64 m.a, .int .i64 m.b] 3))
    rw [hW] at a5 a6
    obtain ⟨m0, m1, m2, m3, m4, m5, m6⟩ := m
    simp only at *
    have HS := hide hs1
    clear hW hb0 hbx a0 a1 a2 a3 a4 hs1
    go_enter Tryz.func52, Tryz.ntmps52
    go_wp2
    go_ret
    rw [← HW.out]
    have hs2 : (W.alloc (.cells #[.int .i64 m5, .int .i64 m6] 3)).heap.size = W.heap.size + 1 := by simp
    refine ⟨some ⟨W.heap.size, 0, none⟩, 2, by simp [HS.out], .inr ⟨W.heap.size, 0, rfl, fun i hi => ?_⟩, fun ad e => ?_, bel_on' HB.out ((Below.refl _ _).alloc (Nat.le_refl _) _)⟩
    · rw [cell_of e1.out]
      match i, hi with
      | 0, _ => rfl
      | 1, _ => rfl
    · cases e
      have := HS.out
      exact ⟨by show w.heap.size ≤ W.heap.size; omega, by show W.heap.size < _; omega⟩
  · rw [show nK ⟨s, m.id, m.a, m.b⟩ = [] by unfold nK; rw [if_neg h1]]
    have q1 : (s != 1) = true := by simpa using h1
    obtain ⟨m0, m1, m2, m3, m4, m5, m6⟩ := m
    simp only at *
    clear hW hb0 hbx a0 a1 a2 a3 a4 a5 a6 hs1 h1
    go_enter Tryz.func52, Tryz.ntmps52
    go_wp2
    go_ret
    rw [← HW.out]
    exact ⟨none, _, rfl, .inl rfl, (fun ad e => by cases e), HB.out⟩

/-- The states behind an entry is followed, at any world with the same memory. -/
theorem KdV.put (k : KdV B E w p v n q r pb mb mc sb) (hn : n < 900000) {id x : Int} (hw : (Lit.int .i64 id).wf = true) (hx : x ≠ 0) (hwx : (Lit.int .i64 x).wf = true) :
    ∃ w', (Instr.mapUpdate 62 (.map (some sb)) (.int .i64 id) (.int .i64 x)).run Tryz.prog w.drew = .ok () w' ∧ KdV B E w' p ⟨v.node, v.f, v.room, v.T, v.down, ⟨v.st.o, Hd.upd v.st.s id x⟩⟩ (n + 1) q r pb mb mc sb ∧ Rg.Kept (fun k _ => E k) w w' := by
  have hb : Below w.heap.size w w.drew := (Below.refl _ _).drew
  obtain ⟨w', h1, h2, h3⟩ := (k.on hb).mp.put (by omega) hw hx hwx
  obtain ⟨h4, h5⟩ := (k.on hb).mstep (Nat.le_succ n) h2 h3
  exact ⟨w', h1, h4, (Rg.Kept.of_below hb).trans h5⟩
theorem ints_two {w : World} {a : Option Addr} {x y : Int} (h : Ints w a [x, y]) : ∃ b off, a = some ⟨b, off, none⟩ ∧ w.cell? ⟨b, off, none⟩ = some (.int .i64 x) ∧ w.cell? ⟨b, off + 1, none⟩ = some (.int .i64 y) := by
  rcases h with h | ⟨b, off, h1, h2⟩
  · cases h
  · exact ⟨b, off, h1, by simpa using h2 0 (by simp), by simpa using h2 1 (by simp)⟩

/-- What an entry says is followed. -/
theorem kfollow_any (k : KdV B E w p v n q r pb mb mc sb) (hE : ∀ k, E k → k < w.heap.size) {e : Ke} (he : OkK e) {KD : ByteArray} {a : Option Addr} {c : Nat} (ha : Ints w a (nK e)) (hna : e.c = 1 → ∀ ad, a = some ad → ¬ E ad.block) (hn : n < 800000) :
    Calls Tryz.prog 35 #[.pointer (some ⟨p, 0, none⟩), .int .i64 e.c, .agg #[.string KD, .int .i64 e.id, .slice a (nK e).length c]] w fun x w' => (∃ y, x = .returned y) ∧ KdV B E w' p ⟨v.node, v.f, v.room, v.T, v.down, kstp v.node v.st e⟩ (n + 2) q r pb mb mc sb ∧ Rg.Kept (fun k _ => E k) w w' := by
  have hw : (Lit.int .i64 e.id).wf = true := Hd.wf_of (by have := he.id; omega) (by have := he.id; omega)
  obtain ⟨W, hW⟩ : ∃ W, W = w.alloc (.cells #[.string KD, .int .i64 e.id, .slice a (nK e).length c] 78) := ⟨_, rfl⟩
  have hbW : Below w.heap.size w W := by rw [hW]; exact (Below.refl _ _).alloc (Nat.le_refl _) _
  have kW := k.on hbW
  have aW := ha.below hbW
  have hKW : Rg.Kept (fun k _ => E k) w W := Rg.Kept.of_below hbW
  have e1 : W.heap[w.heap.size]? = some (.cells #[.string KD, .int .i64 e.id, .slice a (nK e).length c] 78 (0, 0)) := by rw [hW]; exact World.alloc_heap_new w _
  have DC := vdec_any e.c W
  have hep := kW.ep
  clear k ha
  obtain ⟨ec, ei, ea, eb⟩ := e
  have hc := he.c
  simp only at hc hw hW aW e1 DC ⊢
  -- behind the step on the book
  have NX : Hid (∀ u o', KdV B E u p ⟨v.node, v.f, v.room, v.T, v.down, ⟨o', v.st.s⟩⟩ (n + 1) q r pb mb mc sb → Rg.Kept (fun k _ => E k) W u → Rg.Kept (fun k _ => E k) w u ∧ u.cell? ⟨p, 12, none⟩ = some (.map (some sb)) ∧ u.cell? ⟨w.heap.size, 1, none⟩ = some (.int .i64 ei) ∧
      ∀ x : Int, x ≠ 0 → (Lit.int .i64 x).wf = true → ∃ u', (Instr.mapUpdate 62 (.map (some sb)) (.int .i64 ei) (.int .i64 x)).run Tryz.prog u.drew = .ok () u' ∧ KdV B E u' p ⟨v.node, v.f, v.room, v.T, v.down, ⟨o', Hd.upd v.st.s ei x⟩⟩ (n + 2) q r pb mb mc sb ∧ Rg.Kept (fun k _ => E k) w u') := fun u o' h1 h2 => by
    have h3 := hKW.trans h2
    have e2 := h2.block _ _ e1 (fun e => by have := hE _ e; omega)
    refine ⟨h3, h1.cells.2.2.2.2, by rw [cell_of e2]; rfl, fun x hx hwx => ?_⟩
    obtain ⟨u', y1, y2, y3⟩ := h1.put (by omega) hw hx hwx
    exact ⟨u', y1, y2, h3.trans y3⟩
  have hc5 : ec = 1 ∨ ec = 2 ∨ ec = 3 ∨ ec = 4 ∨ ec = 5 := by omega
  have HWW := hide hW
  rcases hc5 with rfl | rfl | rfl | rfl | rfl
  · have hbD : Below W.heap.size W W.drew := (Below.refl _ _).drew
    have T := ktake_any (kW.on hbD) (a := ea) (b := eb) hw (by omega)
    rw [show nK ⟨1, ei, ea, eb⟩ = [ea, eb] from rfl] at aW
    rw [show (nK ⟨1, ei, ea, eb⟩).length = 2 from rfl] at hW HWW e1 ⊢
    obtain ⟨b, off, rfl, c5, c6⟩ := ints_two aW
    have hnb : ¬ E b := hna rfl _ rfl
    obtain ⟨b0, b1, b2⟩ := three_new w (.string KD) (.int .i64 ei) (.slice (some ⟨b, off, none⟩) 2 c) 78
    rw [← hW] at b0 b1 b2
    rw [show kstp v.node v.st ⟨1, ei, ea, eb⟩ = ⟨tkS v.node v.st.o ei ea eb, Hd.upd v.st.s ei 1⟩ from rfl]
    rw [show yesV 1 = false from rfl, show finV 1 = false from rfl, hW] at DC
    have CE : Hid (∀ u, Rg.Kept (fun k _ => E k) W.drew u → Rg.Kept (fun k _ => E k) W u ∧ (u.cell? ⟨w.heap.size, 1, none⟩ = some (.int .i64 ei) ∧ u.cell? ⟨w.heap.size, 2, none⟩ = some (.slice (some ⟨b, off, none⟩) 2 c) ∧ u.cell? ⟨b, off, none⟩ = some (.int .i64 ea) ∧ u.cell? ⟨b, off + 1, none⟩ = some (.int .i64 eb))) := fun u hu => by
      have h2 : Rg.Kept (fun k _ => E k) W u := (Rg.Kept.of_below hbD).trans hu
      have e2 := h2.block _ _ e1 (fun e => by have := hE _ e; omega)
      exact ⟨h2, by rw [cell_of e2]; rfl, by rw [cell_of e2]; rfl, kept_cellR h2 (fun _ => hnb) c5, kept_cellR h2 (fun _ => hnb) c6⟩
    clear kW aW hKW hbW hbD hW he e1 hna hE hep hc
    generalize tkS v.node v.st.o ei ea eb = o1 at T ⊢
    generalize tkE v.node v.st.o ei ea eb = x at T
    go_enter Tryz.func35, Tryz.ntmps35
    go_wp2_with (go_at_call 73; refine DC.mono ?_; clear DC; rintro e w' ⟨rfl, rfl⟩)
    rw [← HWW.out]
    go_region_held3 (fun w' => w'.cell? ⟨w.heap.size, 1, none⟩ = some (.int .i64 ei) ∧ w'.cell? ⟨w.heap.size, 2, none⟩ = some (.slice (some ⟨b, off, none⟩) 2 c) ∧ w'.cell? ⟨b, off, none⟩ = some (.int .i64 ea) ∧ w'.cell? ⟨b, off + 1, none⟩ = some (.int .i64 eb)) (go_keep) (first
      | (go_at_call 74; refine T.mono ?_; clear T; rintro e u1 ⟨rfl, hk1, ho1⟩; clear b1 b2 c5 c6; obtain ⟨hK1, b1, b2, c5, c6⟩ := CE.out u1 ho1; obtain ⟨hw1, d12, -, hp⟩ := NX.out u1 o1 hk1 hK1; obtain ⟨u2, hrun, k2, hE2⟩ := hp 1 (by decide) (by decide); have HK2 := hide k2; have HE2 := hide hE2; clear hk1 ho1 hK1 hw1 hp k2 hE2))
    clear NX CE HWW b0 b2 c5 c6
    go_wp2_with fail
    go_region
    all_goals go_wp2
    all_goals go_end0
    all_goals exact ⟨⟨_, rfl⟩, HK2.out, HE2.out⟩
  · have T := ksell_any kW hw (by omega)
    rw [show (nK ⟨2, ei, ea, eb⟩).length = 0 from rfl] at hW HWW e1 ⊢
    obtain ⟨b0, b1, b2⟩ := three_new w (.string KD) (.int .i64 ei) (.slice a 0 c) 78
    rw [show kstp v.node v.st ⟨2, ei, ea, eb⟩ = ⟨slS v.node v.st.o ei, Hd.upd v.st.s ei 2⟩ from rfl]
    rw [show yesV 2 = true from rfl, show finV 2 = true from rfl, hW] at DC
    have NX2 : Hid (∀ u o', KdV B E u p ⟨v.node, v.f, v.room, v.T, v.down, ⟨o', v.st.s⟩⟩ (n + 1) q r pb mb mc sb → Rg.Kept (fun k _ => E k) (w.alloc (.cells #[.string KD, .int .i64 ei, .slice a 0 c] 78)) u → u.cell? ⟨p, 12, none⟩ = some (.map (some sb)) ∧ u.cell? ⟨w.heap.size, 1, none⟩ = some (.int .i64 ei) ∧ ∃ u', (Instr.mapUpdate 62 (.map (some sb)) (.int .i64 ei) (.int .i64 2)).run Tryz.prog u.drew = .ok () u' ∧ KdV B E u' p ⟨v.node, v.f, v.room, v.T, v.down, ⟨o', Hd.upd v.st.s ei 2⟩⟩ (n + 2) q r pb mb mc sb ∧ Rg.Kept (fun k _ => E k) w u') := fun u o' h1 h2 => by
      rw [← hW] at h2
      obtain ⟨-, y1, y2, y3⟩ := NX.out u o' h1 h2
      exact ⟨y1, y2, y3 2 (by decide) (by decide)⟩
    rw [hW] at T
    clear kW aW hKW hbW hW he e1 hna hE hep hc NX HWW
    generalize slS v.node v.st.o ei = o1 at T ⊢
    generalize enE v.node v.st.o ei = x at T
    go_enter Tryz.func35, Tryz.ntmps35
    go_wp2_with (first
      | (go_at_call 73; refine DC.mono ?_; clear DC; rintro e w' ⟨rfl, rfl⟩)
      | (go_at_call 75; refine T.mono ?_; clear T; rintro e u1 ⟨rfl, hk1, ho1⟩; obtain ⟨d12, d1, u2, hrun, k2, hE2⟩ := NX2.out u1 o1 hk1 ho1; have HK2 := hide k2; have HE2 := hide hE2; clear hk1 ho1 k2 hE2 NX2 b0 b1 b2))
    go_region
    all_goals go_wp2
    all_goals go_end0
    all_goals exact ⟨⟨_, rfl⟩, HK2.out, HE2.out⟩
  · have T := kfree_any kW hw (by omega)
    rw [show (nK ⟨3, ei, ea, eb⟩).length = 0 from rfl] at hW HWW e1 ⊢
    obtain ⟨b0, b1, b2⟩ := three_new w (.string KD) (.int .i64 ei) (.slice a 0 c) 78
    rw [show kstp v.node v.st ⟨3, ei, ea, eb⟩ = ⟨frS v.node v.st.o ei, Hd.upd v.st.s ei 3⟩ from rfl]
    rw [show yesV 3 = false from rfl, show finV 3 = true from rfl, hW] at DC
    have NX2 : Hid (∀ u o', KdV B E u p ⟨v.node, v.f, v.room, v.T, v.down, ⟨o', v.st.s⟩⟩ (n + 1) q r pb mb mc sb → Rg.Kept (fun k _ => E k) (w.alloc (.cells #[.string KD, .int .i64 ei, .slice a 0 c] 78)) u → u.cell? ⟨p, 12, none⟩ = some (.map (some sb)) ∧ u.cell? ⟨w.heap.size, 1, none⟩ = some (.int .i64 ei) ∧ ∃ u', (Instr.mapUpdate 62 (.map (some sb)) (.int .i64 ei) (.int .i64 3)).run Tryz.prog u.drew = .ok () u' ∧ KdV B E u' p ⟨v.node, v.f, v.room, v.T, v.down, ⟨o', Hd.upd v.st.s ei 3⟩⟩ (n + 2) q r pb mb mc sb ∧ Rg.Kept (fun k _ => E k) w u') := fun u o' h1 h2 => by
      rw [← hW] at h2
      obtain ⟨-, y1, y2, y3⟩ := NX.out u o' h1 h2
      exact ⟨y1, y2, y3 3 (by decide) (by decide)⟩
    rw [hW] at T
    clear kW aW hKW hbW hW he e1 hna hE hep hc NX HWW
    generalize frS v.node v.st.o ei = o1 at T ⊢
    generalize enE v.node v.st.o ei = x at T
    go_enter Tryz.func35, Tryz.ntmps35
    go_wp2_with (first
      | (go_at_call 73; refine DC.mono ?_; clear DC; rintro e w' ⟨rfl, rfl⟩)
      | (go_at_call 76; refine T.mono ?_; clear T; rintro e u1 ⟨rfl, hk1, ho1⟩; obtain ⟨d12, d1, u2, hrun, k2, hE2⟩ := NX2.out u1 o1 hk1 ho1; have HK2 := hide k2; have HE2 := hide hE2; clear hk1 ho1 k2 hE2 NX2 b0 b1 b2))
    go_region
    all_goals go_wp2
    all_goals go_end0
    all_goals exact ⟨⟨_, rfl⟩, HK2.out, HE2.out⟩
  · have T := ksell_any kW hw (by omega)
    rw [show (nK ⟨4, ei, ea, eb⟩).length = 0 from rfl] at hW HWW e1 ⊢
    obtain ⟨b0, b1, b2⟩ := three_new w (.string KD) (.int .i64 ei) (.slice a 0 c) 78
    rw [show kstp v.node v.st ⟨4, ei, ea, eb⟩ = ⟨slS v.node v.st.o ei, Hd.upd v.st.s ei 4⟩ from rfl]
    rw [show yesV 4 = true from rfl, show finV 4 = true from rfl, hW] at DC
    have NX2 : Hid (∀ u o', KdV B E u p ⟨v.node, v.f, v.room, v.T, v.down, ⟨o', v.st.s⟩⟩ (n + 1) q r pb mb mc sb → Rg.Kept (fun k _ => E k) (w.alloc (.cells #[.string KD, .int .i64 ei, .slice a 0 c] 78)) u → u.cell? ⟨p, 12, none⟩ = some (.map (some sb)) ∧ u.cell? ⟨w.heap.size, 1, none⟩ = some (.int .i64 ei) ∧ ∃ u', (Instr.mapUpdate 62 (.map (some sb)) (.int .i64 ei) (.int .i64 4)).run Tryz.prog u.drew = .ok () u' ∧ KdV B E u' p ⟨v.node, v.f, v.room, v.T, v.down, ⟨o', Hd.upd v.st.s ei 4⟩⟩ (n + 2) q r pb mb mc sb ∧ Rg.Kept (fun k _ => E k) w u') := fun u o' h1 h2 => by
      rw [← hW] at h2
      obtain ⟨-, y1, y2, y3⟩ := NX.out u o' h1 h2
      exact ⟨y1, y2, y3 4 (by decide) (by decide)⟩
    rw [hW] at T
    clear kW aW hKW hbW hW he e1 hna hE hep hc NX HWW
    generalize slS v.node v.st.o ei = o1 at T ⊢
    generalize enE v.node v.st.o ei = x at T
    go_enter Tryz.func35, Tryz.ntmps35
    go_wp2_with (first
      | (go_at_call 73; refine DC.mono ?_; clear DC; rintro e w' ⟨rfl, rfl⟩)
      | (go_at_call 75; refine T.mono ?_; clear T; rintro e u1 ⟨rfl, hk1, ho1⟩; obtain ⟨d12, d1, u2, hrun, k2, hE2⟩ := NX2.out u1 o1 hk1 ho1; have HK2 := hide k2; have HE2 := hide hE2; clear hk1 ho1 k2 hE2 NX2 b0 b1 b2))
    go_region
    all_goals go_wp2
    all_goals go_end0
    all_goals exact ⟨⟨_, rfl⟩, HK2.out, HE2.out⟩
  · have T := kfree_any kW hw (by omega)
    rw [show (nK ⟨5, ei, ea, eb⟩).length = 0 from rfl] at hW HWW e1 ⊢
    obtain ⟨b0, b1, b2⟩ := three_new w (.string KD) (.int .i64 ei) (.slice a 0 c) 78
    rw [show kstp v.node v.st ⟨5, ei, ea, eb⟩ = ⟨frS v.node v.st.o ei, Hd.upd v.st.s ei 5⟩ from rfl]
    rw [show yesV 5 = false from rfl, show finV 5 = true from rfl, hW] at DC
    have NX2 : Hid (∀ u o', KdV B E u p ⟨v.node, v.f, v.room, v.T, v.down, ⟨o', v.st.s⟩⟩ (n + 1) q r pb mb mc sb → Rg.Kept (fun k _ => E k) (w.alloc (.cells #[.string KD, .int .i64 ei, .slice a 0 c] 78)) u → u.cell? ⟨p, 12, none⟩ = some (.map (some sb)) ∧ u.cell? ⟨w.heap.size, 1, none⟩ = some (.int .i64 ei) ∧ ∃ u', (Instr.mapUpdate 62 (.map (some sb)) (.int .i64 ei) (.int .i64 5)).run Tryz.prog u.drew = .ok () u' ∧ KdV B E u' p ⟨v.node, v.f, v.room, v.T, v.down, ⟨o', Hd.upd v.st.s ei 5⟩⟩ (n + 2) q r pb mb mc sb ∧ Rg.Kept (fun k _ => E k) w u') := fun u o' h1 h2 => by
      rw [← hW] at h2
      obtain ⟨-, y1, y2, y3⟩ := NX.out u o' h1 h2
      exact ⟨y1, y2, y3 5 (by decide) (by decide)⟩
    rw [hW] at T
    clear kW aW hKW hbW hW he e1 hna hE hep hc NX HWW
    generalize frS v.node v.st.o ei = o1 at T ⊢
    generalize enE v.node v.st.o ei = x at T
    go_enter Tryz.func35, Tryz.ntmps35
    go_wp2_with (first
      | (go_at_call 73; refine DC.mono ?_; clear DC; rintro e w' ⟨rfl, rfl⟩)
      | (go_at_call 76; refine T.mono ?_; clear T; rintro e u1 ⟨rfl, hk1, ho1⟩; obtain ⟨d12, d1, u2, hrun, k2, hE2⟩ := NX2.out u1 o1 hk1 ho1; have HK2 := hide k2; have HE2 := hide hE2; clear hk1 ho1 k2 hE2 NX2 b0 b1 b2))
    go_region
    all_goals go_wp2
    all_goals go_end0
    all_goals exact ⟨⟨_, rfl⟩, HK2.out, HE2.out⟩
end
end Go.Proofs.YtepclljoiccieaaGreatDoor
/-
  Contract of keeper's note.
-/
namespace Go.Proofs.YtepclljoiccieaaGreatDoor
open Go.ChangeShapes Go.WideShapes Go.ChangeAt Go.RowKit Go.Maps

theorem Wd.at {w : World} (h : Wd w) {c : Int} (h1 : 1 ≤ c) (h5 : c ≤ 5) : w.cell? ⟨0, c.toNat, none⟩ = some (.string (wB c)) := by
  obtain ⟨⟨-, k1, k2⟩, k3, k4, k5⟩ := h.cell
  have hc : c = 1 ∨ c = 2 ∨ c = 3 ∨ c = 4 ∨ c = 5 := by omega
  rcases hc with rfl | rfl | rfl | rfl | rfl
  · exact k1
  · exact k2
  · exact k3
  · exact k4
  · exact k5
def noteE (v : Kv) : Int := if roomK v = true then 0 else 5
section
variable {B : Nat} {E : Nat → Prop} {w : World} {p : Nat} {v : Kv} {n q : Nat} {r : Value} {pb mb mc sb : Nat}
set_option maxHeartbeats 1000000 in
theorem knote_any (k : KdV B E w p v n q r pb mb mc sb) (hE : ∀ k, E k → k < w.heap.size) (hg : Gl w) (hd : v.down = false) {e : Ke} (he : OkK e) {a : Option Addr} {c : Nat} (ha : Ints w a (nK e)) (hna : ∀ ad, a = some ad → ¬ E ad.block ∧ ad.block < w.heap.size) (hn : n < 800000) :
    Calls Tryz.prog 44 #[.pointer (some ⟨p, 0, none⟩), .int .i64 e.c, .int .i64 e.id, .slice a (nK e).length c] w fun x w' => x = .returned (.int .i64 (noteE v)) ∧ (∃ r', KdV B (growE E w w') w' p (noteK v e) (n + 2) q r' pb mb mc sb) ∧ Rg.Kept (fun k _ => E k) w w' := by
  obtain ⟨W, hW⟩ : ∃ W, W = w.alloc (.cells #[.string (wB e.c), .int .i64 e.id, .slice a (nK e).length c] 78) := ⟨_, rfl⟩
  have hb0 : Below w.heap.size w W := by rw [hW]; exact (Below.refl _ _).alloc (Nat.le_refl _) _
  have hbD : Below W.heap.size W W.drew := (Below.refl _ _).drew
  have hbW : Below w.heap.size w W.drew := bel_on' hb0 hbD
  have hbx : W.heap[w.heap.size]? = some (.cells #[.string (wB e.c), .int .i64 e.id, .slice a (nK e).length c] 78 (0, 0)) := by rw [hW]; exact World.alloc_heap_new w _
  have hbxD : W.drew.heap[w.heap.size]? = some (.cells #[.string (wB e.c), .int .i64 e.id, .slice a (nK e).length c] 78 (0, 0)) := (hbD.block _ (Array.getElem?_eq_some_iff.1 hbx).1).trans hbx
  have kW := k.on hbW
  have hqr : q < w.heap.size ∧ ∀ i, r.ownBlock = some i → i < w.heap.size := ⟨hE _ k.eq, fun i e => hE _ (k.er i e)⟩
  have A := add_any kW.jr (wB e.c) e.id a (nK e) c (by have := wB_size e.c; unfold maxLen; omega) (ha.below hbW) (by have := nK_len e; omega) (hg.on hbW)
  obtain ⟨-, c9, -, -, -⟩ := (k.on hb0).cells
  have b0 : W.cell? ⟨w.heap.size, 0, none⟩ = some (.string (wB e.c)) := by rw [cell_of hbx]; rfl
  have b1 : W.cell? ⟨w.heap.size, 1, none⟩ = some (.int .i64 e.id) := by rw [cell_of hbx]; rfl
  have b2 : W.cell? ⟨w.heap.size, 2, none⟩ = some (.slice a (nK e).length c) := by rw [cell_of hbx]; rfl
  have hln : (v.T.map lnK).length = v.T.length := List.length_map _
  have hm := may_ke he
  unfold addL addE at A
  rw [hd, hln, hm] at A
  obtain ⟨I, hI⟩ : ∃ I : Nat, e.c = I := ⟨e.c.toNat, by have := he.c; omega⟩
  have hI6 : (I : Int) < 6 := by have := he.c; omega
  have hwd : w.cell? ⟨0, I, none⟩ = some (.string (wB e.c)) := by
    have := hg.wd.at he.c.1 he.c.2
    rw [hI] at this ⊢
    simpa using this
  have HWW := hide hW
  -- the cells of S behind a step on the journal
  have CE : Hid (∀ u r', Off q r r' W.drew u → (u.cell? ⟨p, 9, none⟩ = some (.pointer (some ⟨q, 0, none⟩)) ∧ u.cell? ⟨w.heap.size, 0, none⟩ = some (.string (wB e.c)) ∧ u.cell? ⟨w.heap.size, 1, none⟩ = some (.int .i64 e.id) ∧ u.cell? ⟨w.heap.size, 2, none⟩ = some (.slice a (nK e).length c)) ∧ u.heap[w.heap.size]? = W.drew.heap[w.heap.size]? ) := fun u r' ho => by
    have e2 := ho.heap (k := w.heap.size) (Array.getElem?_eq_some_iff.1 hbxD).1 (by omega) (fun e => by have := hqr.2 _ e; omega)
    have e3 := e2.trans hbxD
    obtain ⟨⟨a1, _⟩, _, _, d1⟩ := kW.apart
    refine ⟨⟨ho.cell kW.cells.2.1 a1 (fun e => (d1 p e).1 rfl), ?_, ?_, ?_⟩, e2⟩
    all_goals (rw [cell_of e3]; rfl)
  by_cases hr : v.room ≤ (v.T.length : Int)
  · have hR : roomK v = false := by unfold roomK; simp; omega
    have hN : noteK v e = v := by unfold noteK; rw [hR]; rfl
    have hNE : noteE v = 5 := by unfold noteE; rw [hR]; rfl
    rw [hNE, hN]
    have kB0 := k.on hb0
    have AF : ∀ u : Later W, Calls Tryz.prog 85 #[.pointer (some ⟨q, 0, none⟩), .agg #[.string (wB e.c), .int .i64 e.id, .slice a (nK e).length c]] u.w fun x w' => x = .returned (.int .i64 5) ∧ ∃ u' : Later W, w' = u'.w := fun u => calls_later u (by
      have j1 := (kB0.on u.below).jr
      rw [hd] at j1
      exact add_full j1 (wB e.c) e.id a (nK e) c (by have := wB_size e.c; unfold maxLen; omega) ((ha.below hb0).below u.below) (by have := nK_len e; omega) ((hg.on hb0).on u.below) hm (by rw [hln]; exact hr))
    have NX : Hid (∀ u : Later W, (∃ r', KdV B (growE E w u.w) u.w p v (n + 2) q r' pb mb mc sb) ∧ Rg.Kept (fun k _ => E k) w u.w) := fun u =>
      ⟨⟨r, ((kB0.on u.below).more (Nat.le_add_right n 2)).wide (fun i e => .inl e)⟩, (Rg.Kept.of_below hb0).trans (Rg.Kept.of_below u.below)⟩
    rw [hI] at hwd AF b0 HWW ⊢
    generalize wB I = K at hwd AF b0 HWW
    generalize e.id = ei at AF b1 HWW ⊢
    generalize (nK e).length = ln at AF b2 HWW ⊢
    have z0 := Later.cell c9
    have z1 := Later.cell b0
    have z2 := Later.cell b1
    have z3 := Later.cell b2
    have hne : Nonempty (Later W) := ⟨Later.now W⟩
    clear hW hbW hbx hbxD hb0 hbD kW hqr ha hg hm hln hN hR hr he hna k hE hd kB0 A CE hNE hI
    go_enter Tryz.func44, Tryz.ntmps44
    go_wp2_with fail
    rw [← HWW.out]
    refine region_later (by kernel_rfl) (by kernel_rfl) ?_
    repeat (first | go_big_quiet_step (exact AF _) | quiet_step (exact AF _))
    refine wpQuiet_nil ?_
    intro u
    go_wp2
    go_ret
    exact ⟨rfl, NX.out u⟩
  · have hR : roomK v = true := by unfold roomK; simp; omega
    have hN : noteK v e = ⟨v.node, v.f, v.room, v.T ++ [e], v.down, kstp v.node v.st e⟩ := by unfold noteK; rw [hR]; rfl
    have hNE : noteE v = 0 := by unfold noteE; rw [hR]; rfl
    rw [hNE, hN]
    simp only [if_neg (show ¬ (false = true) by decide), if_true, if_neg hr] at A
    have NX : Hid (∀ u1 r1 u2, Off q r r1 W.drew u1 → Jr B u2 q r1 v.room (v.T.map lnK ++ [lineV (wB e.c) e.id (nK e)]) (v.T.map lnK ++ [lineV (wB e.c) e.id (nK e)]).length false → Off q r1 r1 u1 u2 →
        Calls Tryz.prog 35 #[.pointer (some ⟨p, 0, none⟩), .int .i64 e.c, .agg #[.string (wB e.c), .int .i64 e.id, .slice a (nK e).length c]] u2 fun x w' => (∃ y, x = .returned y) ∧ (∃ r', KdV B (growE E w w') w' p ⟨v.node, v.f, v.room, v.T ++ [e], v.down, kstp v.node v.st e⟩ (n + 2) q r' pb mb mc sb) ∧ Rg.Kept (fun k _ => E k) w w') := fun u1 r1 u2 h1 h2 h3 => by
      have ho := h1.trans h3
      have e1 : v.T.map lnK ++ [lineV (wB e.c) e.id (nK e)] = (v.T ++ [e]).map lnK := by rw [List.map_append]; rfl
      rw [e1, List.length_map, ← hd] at h2
      obtain ⟨h4, h5⟩ := kW.jstep h2 ho
      have h6 : Rg.Kept (fun k _ => E k) w u2 := (Rg.Kept.of_below hbW).trans h5
      have h7 : KdV B (growE E w u2) u2 p ⟨v.node, v.f, v.room, v.T ++ [e], v.down, v.st⟩ n q r1 pb mb mc sb := h4.wide (fun i e => e.imp id (fun e => ⟨Nat.le_trans hbW.size e.1, e.2⟩))
      have h8 : Ints u2 a (nK e) := ha.keptR h6 (fun ad o e1 => (hna ad e1).1)
      refine (kfollow_any h7 (fun i e => e.elim (fun e => Nat.lt_of_lt_of_le (hE i e) h6.size) (fun e => e.2)) he (c := c) h8 (fun _ ad e1 h => h.elim (hna ad e1).1 (fun h => by have := (hna ad e1).2; omega)) hn).mono ?_
      rintro x u3 ⟨y, k3, hk3⟩
      exact ⟨y, ⟨r1, k3.wide (fun i e => e.imp id (fun e => ⟨e.1, Nat.lt_of_lt_of_le e.2 hk3.size⟩))⟩, kept_grow h6 hk3⟩
    generalize v.T.map lnK ++ [lineV (wB e.c) e.id (nK e)] = L' at A NX
    have SY : Hid (∀ u1 r1, Jr B u1 q r1 v.room L' v.T.length false → Calls Tryz.prog 86 #[.pointer (some ⟨q, 0, none⟩)] u1 fun e w' => e = .returned (.int .i64 0) ∧ Jr B w' q r1 v.room L' L'.length false ∧ Off q r1 r1 u1 w') := fun u1 r1 h => sync_up h
    rw [hI] at hwd A b0 HWW CE NX ⊢
    generalize wB I = K at hwd A b0 HWW CE NX
    generalize e.id = ei at A b1 HWW CE NX ⊢
    generalize (nK e).length = ln at A b2 HWW CE NX ⊢
    clear hW hbW hbx hbxD hb0 hbD kW hqr ha hg hm hln hN hR hr he hna k hE hd hNE hI
    go_enter Tryz.func44, Tryz.ntmps44
    go_wp2_with fail
    rw [← HWW.out]
    go_region_held3 (fun w' => w'.cell? ⟨p, 9, none⟩ = some (.pointer (some ⟨q, 0, none⟩)) ∧ w'.cell? ⟨w.heap.size, 0, none⟩ = some (.string K) ∧ w'.cell? ⟨w.heap.size, 1, none⟩ = some (.int .i64 ei) ∧ w'.cell? ⟨w.heap.size, 2, none⟩ = some (.slice a ln c)) (go_keep) (first
      | (go_at_call 85; refine A.mono ?_; clear A; rintro x u1 ⟨r1, rfl, hj, ho⟩; clear c9 b0 b1 b2; obtain ⟨⟨c9, b0, b1, b2⟩, -⟩ := CE.out u1 r1 ho; have HO1 := hide ho; have S2 := SY.out u1 r1 hj; clear hj ho))
    go_wp2_with (first
      | (go_at_call 86; refine S2.mono ?_; clear S2; rintro x u2 ⟨rfl, hj, ho⟩; clear c9 b0 b1 b2; obtain ⟨⟨c9, b0, b1, b2⟩, -⟩ := CE.out u2 r1 (HO1.out.trans ho); have FX := NX.out u1 r1 u2 HO1.out hj ho; clear hj ho NX SY CE)
      | (go_at_call 35; refine FX.mono ?_; clear FX; rintro x u3 ⟨⟨y, rfl⟩, hx⟩; have HX := hide hx; clear hx))
    go_ret
    exact ⟨rfl, HX.out⟩
end
end Go.Proofs.YtepclljoiccieaaGreatDoor
/-
  Contracts of keeper's hears, tell, answer, Ring.
-/
namespace Go.Proofs.YtepclljoiccieaaGreatDoor
open Go.ChangeShapes Go.WideShapes Go.ChangeAt Go.RowKit Go.Maps

section
variable {B : Nat} {E : Nat → Prop} {w : World} {p : Nat} {v : Kv} {n q : Nat} {r : Value} {pb mb mc sb : Nat}
set_option maxHeartbeats 1000000 in
theorem khears_any (k : KdV B E w p v n q r pb mb mc sb) (m : Ms.Mg) :
    Calls Tryz.prog 49 #[.pointer (some ⟨p, 0, none⟩), .agg #[.int .i64 m.k, .int .i64 m.fr, .int .i64 m.to, .int .i64 m.id, .int .i64 m.st, .int .i64 m.a, .int .i64 m.b]] w fun e w' => e = .returned (.bool (hearsK v m)) ∧ Below w.heap.size w w' := by
  obtain ⟨W, hW⟩ : ∃ W, W = w.alloc (.cells #[.int .i64 m.k, .int .i64 m.fr, .int .i64 m.to, .int .i64 m.id, .int .i64 m.st, .int .i64 m.a, .int .i64 m.b] 31) := ⟨_, rfl⟩
  have hb0 : Below w.heap.size w W := by rw [hW]; exact (Below.refl _ _).alloc (Nat.le_refl _) _
  have hbx : W.heap[w.heap.size]? = some (.cells #[.int .i64 m.k, .int .i64 m.fr, .int .i64 m.to, .int .i64 m.id, .int .i64 m.st, .int .i64 m.a, .int .i64 m.b] 31 (0, 0)) := by rw [hW]; exact World.alloc_heap_new w _
  have kW := k.on hb0
  obtain ⟨a0, a1, a2, a3, a4, a5, a6⟩ := seven_of hbx
  obtain ⟨c0, -, -, -, -⟩ := kW.cells
  have D : ∀ u : Later W, Calls Tryz.prog 21 #[.pointer (some ⟨p, 0, none⟩)] u.w fun e w' => e = .returned (.bool v.down) ∧ ∃ u' : Later W, w' = u'.w := fun u => calls_later u ((kdown_any (kW.on u.below)).mono (fun _ _ ⟨h1, h2⟩ => ⟨h1, by rw [← h2]; exact Below.refl _ _⟩))
  have O : ∀ u : Later W, Calls Tryz.prog 41 #[.pointer (some ⟨p, 0, none⟩)] u.w fun e w' => e = .returned (.int .i64 (3 - v.node)) ∧ ∃ u' : Later W, w' = u'.w := fun u => calls_later u ((kother_any (kW.on u.below)).mono (fun _ _ ⟨h1, h2⟩ => ⟨h1, by rw [← h2]; exact Below.refl _ _⟩))
  have I : ∀ u : Later W, Calls Tryz.prog 42 #[.int .i64 m.id] u.w fun e w' => e = .returned (.bool (Hd.isI m.id)) ∧ ∃ u' : Later W, w' = u'.w := fun u => calls_later u ((kisid_any m.id u.w).mono (fun _ _ ⟨h1, h2⟩ => ⟨h1, by rw [← h2]; exact Below.refl _ _⟩))
  have HW := hide hW
  have HB0 := hide hb0
  unfold hearsK
  obtain ⟨m0, m1, m2, m3, m4, m5, m6⟩ := m
  simp only at *
  generalize v.down = d at D ⊢
  generalize 3 - v.node = od at O ⊢
  generalize v.node = nd at c0 ⊢
  generalize Hd.isI m3 = ii at I ⊢
  have z0 := Later.cell c0
  have z1 := Later.cell a1
  have z2 := Later.cell a2
  have z3 := Later.cell a3
  have hne : Nonempty (Later W) := ⟨Later.now W⟩
  obtain ⟨b1, h1⟩ : ∃ b1, (m2 == nd) = b1 := ⟨_, rfl⟩
  obtain ⟨b2, h2⟩ : ∃ b2, (m1 == 0) = b2 := ⟨_, rfl⟩
  obtain ⟨b3, h3⟩ : ∃ b3, (m1 == od) = b3 := ⟨_, rfl⟩
  rw [h1, h2, h3]
  clear k kW hW hb0 hbx a0 a4 a5 a6
  have hcs : d = true ∨ (d = false ∧ b1 = false) ∨ (d = false ∧ b1 = true ∧ ii = false) ∨ (d = false ∧ b1 = true ∧ ii = true ∧ b2 = true) ∨ (d = false ∧ b1 = true ∧ ii = true ∧ b2 = false ∧ b3 = true) ∨ (d = false ∧ b1 = true ∧ ii = true ∧ b2 = false ∧ b3 = false) := by
    cases d <;> cases b1 <;> cases ii <;> cases b2 <;> cases b3 <;> simp
  rcases hcs with rfl | ⟨rfl, rfl⟩ | ⟨rfl, rfl, rfl⟩ | ⟨rfl, rfl, rfl, rfl⟩ | ⟨rfl, rfl, rfl, rfl, rfl⟩ | ⟨rfl, rfl, rfl, rfl, rfl⟩
  all_goals simp only [Bool.not_true, Bool.not_false, Bool.false_and, Bool.and_false, Bool.and_true, Bool.or_true, Bool.true_or, Bool.or_false]
  all_goals go_enter Tryz.func49, Tryz.ntmps49
  all_goals go_wp2_with fail
  all_goals rw [← HW.out]
  all_goals refine region_later (by kernel_rfl) (by kernel_rfl) ?_
  all_goals (repeat (first | go_big_quiet_step (first | exact D _ | exact I _ | exact O _) | quiet_step (first | exact D _ | exact I _ | exact O _)))
  all_goals refine wpQuiet_nil ?_
  all_goals intro u
  all_goals go_wp2
  all_goals go_ret
  all_goals exact ⟨rfl, bel_on' HB0.out u.below⟩
theorem khears_nil (m : Ms.Mg) (w : World) : Calls Tryz.prog 49 #[.pointer none, .agg #[.int .i64 m.k, .int .i64 m.fr, .int .i64 m.to, .int .i64 m.id, .int .i64 m.st, .int .i64 m.a, .int .i64 m.b]] w fun e w' => e = .returned (.bool false) ∧ Below w.heap.size w w' := by
  obtain ⟨W, hW⟩ : ∃ W, W = w.alloc (.cells #[.int .i64 m.k, .int .i64 m.fr, .int .i64 m.to, .int .i64 m.id, .int .i64 m.st, .int .i64 m.a, .int .i64 m.b] 31) := ⟨_, rfl⟩
  have hb0 : Below w.heap.size w W := by rw [hW]; exact (Below.refl _ _).alloc (Nat.le_refl _) _
  have HW := hide hW
  have HB0 := hide hb0
  have hne : Nonempty (Later W) := ⟨Later.now W⟩
  clear hW hb0
  go_enter Tryz.func49, Tryz.ntmps49
  go_wp2_with fail
  rw [← HW.out]
  refine region_later (by kernel_rfl) (by kernel_rfl) ?_
  repeat (first | go_big_quiet_step (fail) | quiet_step (fail))
  refine wpQuiet_nil ?_
  intro u
  go_wp2
  go_ret
  exact ⟨rfl, bel_on' HB0.out u.below⟩

/-- What tell hands back: a row of its own. -/
def TellM (w : World) (xs : List Ms.Mg) (e : Ending) (w' : World) : Prop :=
  ∃ a c, e = .returned (.slice a xs.length c) ∧ Ms.Mgs w' a xs ∧ (∀ ad, a = some ad → w.heap.size ≤ ad.block ∧ ad.block < w'.heap.size) ∧ Below w.heap.size w w'
def tellL (nd K id : Int) (ts : List Int) : List Ms.Mg := ts.map (fun t => ⟨K, nd, t, id, 0, 0, 0⟩)
theorem tellL_step {nd K id : Int} {ts : List Int} {j : Nat} (h : j < ts.length) : (tellL nd K id ts).take j ++ [⟨K, nd, ts.getD j 0, id, 0, 0, 0⟩] = (tellL nd K id ts).take (j + 1) := by
  rw [List.take_add_one]
  congr 1
  simp [tellL, h, List.getD]
set_option maxRecDepth 100000 in
set_option maxHeartbeats 1000000 in
theorem ktell_any (k : KdV B E w p v n q r pb mb mc sb) (K id : Int) (ts : List Int) {a : Option Addr} {c : Nat} (ha : Ints w a ts) (hl : ts.length ≤ 100) :
    Calls Tryz.prog 40 #[.pointer (some ⟨p, 0, none⟩), .int .i64 K, .int .i64 id, .slice a ts.length c] w (TellM w (tellL v.node K id ts)) := by
  obtain ⟨c0, -⟩ := k.cells
  have HC := hide c0
  have HA := hide ha
  have hlen : (tellL v.node K id ts).length = ts.length := by simp [tellL]
  have HLN := hide hlen
  have HST : Hid (∀ j, j < ts.length → (tellL v.node K id ts).take j ++ [⟨K, v.node, ts.getD j 0, id, 0, 0, 0⟩] = (tellL v.node K id ts).take (j + 1)) := fun j h => tellL_step h
  have HTL : Hid (∀ j, ((tellL v.node K id ts).take j).length ≤ 100) := fun j => by rw [List.length_take]; omega
  clear k c0 ha hlen
  generalize tellL v.node K id ts = xs at *
  generalize v.node = nd at *
  go_enter Tryz.func40, Tryz.ntmps40
  go_wp2
  go_loopw [9, 14] (fun l i wr => ∃ (j : Nat) (av : Option Addr) (cv : Nat), i = .int .i64 j ∧ l = .slice av (xs.take j).length cv ∧ j ≤ ts.length ∧ Hid (wr.ownsRow w.heap.size 31 7 (.slice av (xs.take j).length cv) (xs.take j).length (Ms.mgCells (xs.take j))) ∧ Hid (Below w.heap.size w wr)) (fun _ i _ => ts.length - (Go.RowKit.intOf i).toNat)
  case atStart => exact ⟨0, none, 0, rfl, rfl, Nat.zero_le _, Ms.row_nil _ _ _ _, Below.refl _ _⟩
  case round =>
    obtain ⟨j, av, cv, rfl, rfl, hj, HR, HB⟩ := hrel
    by_cases hlt : j < ts.length
    · have ql : (j : Int) < (ts.length : Int) := by omega
      rcases HA.out.below HB.out with h0 | ⟨bi, oi, rfl, hci⟩
      · subst h0; simp at hlt
      have c0 := hci j hlt
      have cp : wr.cell? ⟨p, 0, none⟩ = some (.int .i64 nd) := cellL HC.out HB.out
      have HE := hide (HST.out j hlt)
      have htl := HTL.out j
      generalize ts.getD j 0 = t at c0 HE
      have hbb := HB.out.size
      have HE2 : Hid ((xs.take (j + 1)).length = (xs.take j).length + 1) := by show _ = _; rw [← HE.out, List.length_append]; rfl
      clear hci HA HST HTL
      go_wp2_with (at_builtin; refine Ms.append_mgs rfl _ _ rfl w.heap.size (.slice av (xs.take j).length cv) (xs.take j) rfl (HR.out.alloc _) (some ⟨wr.heap.size, 0, none⟩) [⟨K, nd, t, id, 0, 0, 0⟩] 1 rfl (fun e => by cases e) (Ms.mgs_new wr [⟨K, nd, t, id, 0, 0, 0⟩] _ rfl) (by simp; omega) (by simp; omega) ?_; intro a4 c4 w4 hown' hgrow; have HR4 := hide hown'; have HB4 : Hid (Below w.heap.size w w4) := (HB.out.alloc HB.out.size _).grown hgrow (by simp; omega) (fun i e => (HR.out.lt i e).1); clear hown' hgrow)
      go_roundw
      case rel => exact ⟨j + 1, a4, c4, by go_num, by rw [HE2.out, List.length_take], by omega, by rw [← HE.out, List.length_append]; have := HR4.out; rw [List.length_append] at this; exact this, HB4⟩
      case measure => simp [Go.RowKit.intOf]; omega
    · have ql : ¬ (j : Int) < (ts.length : Int) := by omega
      have ej : xs.take j = xs := List.take_of_length_le (by have := HLN.out; omega)
      have HT : Hid (TellM w xs (.returned (.slice av (min j xs.length) cv)) wr) := by
        rw [← List.length_take]
        rw [ej] at HR ⊢
        exact ⟨av, cv, rfl, Ms.row_mgs HR.out, fun ad e => by subst e; exact HR.out.lt _ rfl, HB.out⟩
      clear HR HB ej
      go_wp2
      go_ret
      exact HT.out
end
end Go.Proofs.YtepclljoiccieaaGreatDoor
/-
  Contracts of keeper's answer, Ring, Force, Handle.
-/
namespace Go.Proofs.YtepclljoiccieaaGreatDoor
open Go.ChangeShapes Go.WideShapes Go.ChangeAt Go.RowKit Go.Maps

theorem tellM_on {w u w' : World} {xs : List Ms.Mg} {e : Ending} (h : TellM u xs e w') (hb : Below w.heap.size w u) : TellM w xs e w' := by
  obtain ⟨a, c, h1, h2, h3, h4⟩ := h
  exact ⟨a, c, h1, h2, fun ad e => ⟨Nat.le_trans hb.size (h3 ad e).1, (h3 ad e).2⟩, bel_on' hb h4⟩
theorem tellM_nil {w w' : World} (hb : Below w.heap.size w w') : TellM w [] (.returned (.slice none 0 0)) w' := ⟨none, 0, rfl, .inl rfl, (fun _ e => by cases e), hb⟩
theorem ints_new1 (w : World) (x : Int) : Ints (w.alloc (.cells #[.int .i64 x] 3)) (some ⟨w.heap.size, 0, none⟩) [x] := by
  refine .inr ⟨w.heap.size, 0, rfl, fun i hi => ?_⟩
  rw [cell_of (World.alloc_heap_new w _)]
  match i, hi with
  | 0, _ => rfl
theorem ints_new2 (w : World) (x y : Int) : Ints (w.alloc (.cells #[.int .i64 x, .int .i64 y] 3)) (some ⟨w.heap.size, 0, none⟩) [x, y] := by
  refine .inr ⟨w.heap.size, 0, rfl, fun i hi => ?_⟩
  rw [cell_of (World.alloc_heap_new w _)]
  match i, hi with
  | 0, _ => rfl
  | 1, _ => rfl
/-- The answer of a kind to m. -/
def ansL (nd K : Int) (m : Ms.Mg) : List Ms.Mg := if K = 0 then [] else [⟨K, nd, toK K m.fr, m.id, 0, 0, 0⟩]
section
variable {B : Nat} {E : Nat → Prop} {w : World} {p : Nat} {v : Kv} {n q : Nat} {r : Value} {pb mb mc sb : Nat}
theorem kanswer_any (k : KdV B E w p v n q r pb mb mc sb) (m : Ms.Mg) (K : Int) :
    Calls Tryz.prog 53 #[.pointer (some ⟨p, 0, none⟩), .agg #[.int .i64 m.k, .int .i64 m.fr, .int .i64 m.to, .int .i64 m.id, .int .i64 m.st, .int .i64 m.a, .int .i64 m.b], .int .i64 K] w (TellM w (ansL v.node K m)) := by
  obtain ⟨W, hW⟩ : ∃ W, W = w.alloc (.cells #[.int .i64 m.k, .int .i64 m.fr, .int .i64 m.to, .int .i64 m.id, .int .i64 m.st, .int .i64 m.a, .int .i64 m.b] 31) := ⟨_, rfl⟩
  have hb0 : Below w.heap.size w W := by rw [hW]; exact (Below.refl _ _).alloc (Nat.le_refl _) _
  have hbx : W.heap[w.heap.size]? = some (.cells #[.int .i64 m.k, .int .i64 m.fr, .int .i64 m.to, .int .i64 m.id, .int .i64 m.st, .int .i64 m.a, .int .i64 m.b] 31 (0, 0)) := by rw [hW]; exact World.alloc_heap_new w _
  obtain ⟨a0, a1, a2, a3, a4, a5, a6⟩ := seven_of hbx
  have TL : Hid (∀ t : Int, Calls Tryz.prog 40 #[.pointer (some ⟨p, 0, none⟩), .int .i64 K, .int .i64 m.id, .slice (some ⟨W.heap.size, 0, none⟩) 1 1] (W.alloc (.cells #[.int .i64 t] 3)) (TellM w [⟨K, v.node, t, m.id, 0, 0, 0⟩])) := fun t => by
    have hb1 : Below w.heap.size w (W.alloc (.cells #[.int .i64 t] 3)) := bel_on' hb0 ((Below.refl _ _).alloc (Nat.le_refl _) _)
    exact (ktell_any (k.on hb1) K m.id [t] (ints_new1 W t) (by simp)).mono (fun _ _ h => tellM_on h hb1)
  have HB0 := hide hb0
  have hs1 : W.heap.size = w.heap.size + 1 := by rw [hW]; simp
  have HW := hide hW
  unfold ansL toK
  by_cases h0 : K = 0
  · subst h0
    rw [if_pos rfl]
    clear k hb0 hbx a0 a1 a2 a3 a4 a5 a6 TL hW hs1
    go_enter Tryz.func53, Tryz.ntmps53
    go_wp2
    go_ret
    rw [← HW.out]
    exact tellM_nil HB0.out
  rw [if_neg h0]
  have q0 : (K == 0) = false := by simp [h0]
  by_cases h1 : K = 11 ∨ K = 17
  · rw [if_pos h1]
    have T := TL.out 0
    rw [hs1, hW] at T
    rw [hW] at a3
    have hq : (K == 11) = true ∨ ((K == 11) = false ∧ (K == 17) = true) := by rcases h1 with h | h <;> simp [h]
    obtain ⟨m0, m1, m2, m3, m4, m5, m6⟩ := m
    simp only at *
    clear k hb0 hbx a0 a1 a2 a4 a5 a6 TL hW hs1 h0 h1 HB0 HW
    rcases hq with q1 | ⟨q1, q2⟩
    all_goals go_enter Tryz.func53, Tryz.ntmps53
    all_goals (go_wp2_with (go_at_call 40; refine T.mono ?_; clear T; rintro e u ⟨a, c, rfl, hx⟩; have HX := hide hx; clear hx))
    all_goals go_ret
    all_goals exact ⟨a, c, rfl, HX.out⟩
  · rw [if_neg h1]
    have q1 : (K == 11) = false := by simp; intro h; exact h1 (.inl h)
    have q2 : (K == 17) = false := by simp; intro h; exact h1 (.inr h)
    have T := TL.out m.fr
    rw [hs1, hW] at T
    rw [hW] at a3 a1
    obtain ⟨m0, m1, m2, m3, m4, m5, m6⟩ := m
    simp only at *
    clear k hb0 hbx a0 a2 a4 a5 a6 TL hW hs1 h0 h1 HB0 HW
    go_enter Tryz.func53, Tryz.ntmps53
    go_wp2_with (go_at_call 40; refine T.mono ?_; clear T; rintro e u ⟨a, c, rfl, hx⟩; have HX := hide hx; clear hx)
    go_ret
    exact ⟨a, c, rfl, HX.out⟩
theorem kring_any (k : KdV B E w p v n q r pb mb mc sb) {id : Int} (hw : (Lit.int .i64 id).wf = true) :
    Calls Tryz.prog 12 #[.pointer (some ⟨p, 0, none⟩), .int .i64 id] w (TellM w (rgA v id)) := by
  have S := kstate_any k hw
  have O := kother_any k
  have hb1 : Below w.heap.size w (w.alloc (.cells #[.int .i64 0, .int .i64 (3 - v.node)] 3)) := (Below.refl _ _).alloc (Nat.le_refl _) _
  have T := (ktell_any (k.on hb1) 12 id [0, 3 - v.node] (c := 2) (ints_new2 w 0 (3 - v.node)) (by simp)).mono (fun _ _ h => tellM_on h hb1)
  rw [show tellL v.node 12 id [0, 3 - v.node] = [⟨12, v.node, 0, id, 0, 0, 0⟩, ⟨12, v.node, 3 - v.node, id, 0, 0, 0⟩] from rfl] at T
  rw [show ([0, 3 - v.node] : List Int).length = 2 from rfl] at T
  unfold rgA
  clear k hb1 hw
  generalize 3 - v.node = od at O T ⊢
  by_cases h1 : v.st.s id = 1
  · rw [if_pos h1]
    rw [h1] at S
    clear h1
    go_enter Tryz.func12, Tryz.ntmps12
    go_wp2_with (first
      | (go_at_call 19; refine S.mono ?_; clear S; rintro e u ⟨rfl, rfl⟩)
      | (go_at_call 41; refine O.mono ?_; clear O; rintro e u ⟨rfl, rfl⟩)
      | (go_at_call 40; refine T.mono ?_; clear T; rintro e u ⟨a, c, rfl, hx⟩; have HX := hide hx; clear hx))
    go_ret
    exact ⟨a, c, rfl, HX.out⟩
  · rw [if_neg h1]
    have q1 : (v.st.s id != 1) = true := by simpa using h1
    generalize v.st.s id = x at S q1
    clear h1 T O
    go_enter Tryz.func12, Tryz.ntmps12
    go_wp2_with (go_at_call 19; refine S.mono ?_; clear S; rintro e u ⟨rfl, rfl⟩)
    go_ret
    exact tellM_nil (Below.refl _ _)
theorem kring_nil (id : Int) (w : World) : Calls Tryz.prog 12 #[.pointer none, .int .i64 id] w fun e w' => e = .returned (.slice none 0 0) ∧ w = w' := by
  have S := kstate_nil id w
  go_enter Tryz.func12, Tryz.ntmps12
  go_wp2_with (go_at_call 19; refine S.mono ?_; clear S; rintro e u ⟨rfl, rfl⟩)
  go_ret
  exact ⟨rfl, rfl⟩
theorem kforce_nil (id : Int) (y : Bool) (w : World) : Calls Tryz.prog 14 #[.pointer none, .int .i64 id, .bool y] w fun e w' => e = .returned (.int .i64 1) ∧ w = w' := by
  go_enter Tryz.func14, Tryz.ntmps14
  go_wp2
  go_ret
  exact ⟨rfl, rfl⟩
theorem khandle_nil (m : Ms.Mg) (w : World) : Calls Tryz.prog 16 #[.pointer none, .agg #[.int .i64 m.k, .int .i64 m.fr, .int .i64 m.to, .int .i64 m.id, .int .i64 m.st, .int .i64 m.a, .int .i64 m.b]] w fun e w' => e = .returned (.slice none 0 0) ∧ Below w.heap.size w w' := by
  have H := khears_nil m (w.alloc (.cells #[.int .i64 m.k, .int .i64 m.fr, .int .i64 m.to, .int .i64 m.id, .int .i64 m.st, .int .i64 m.a, .int .i64 m.b] 31))
  have hb : Hid (Below w.heap.size w (w.alloc (.cells #[.int .i64 m.k, .int .i64 m.fr, .int .i64 m.to, .int .i64 m.id, .int .i64 m.st, .int .i64 m.a, .int .i64 m.b] 31))) := (Below.refl _ _).alloc (Nat.le_refl _) _
  obtain ⟨m0, m1, m2, m3, m4, m5, m6⟩ := m
  simp only at *
  go_enter Tryz.func16, Tryz.ntmps16
  go_wp2_with (go_at_call 49; refine H.mono ?_; clear H; rintro e u ⟨rfl, hx⟩; have HX := hide hx; clear hx)
  go_ret
  exact ⟨rfl, bel_on' hb.out HX.out⟩
end
end Go.Proofs.YtepclljoiccieaaGreatDoor
/-
  Contracts of keeper's Force, Handle.
-/
namespace Go.Proofs.YtepclljoiccieaaGreatDoor
open Go.ChangeShapes Go.WideShapes Go.ChangeAt Go.RowKit Go.Maps

theorem frcE_one {s : Int} (hm : mayV s = true) (h : frcE s = 0) : s = 1 := by
  unfold frcE at h
  rw [if_pos hm] at h
  split at h
  · assumption
  · cases h
section
variable {B : Nat} {E : Nat → Prop} {w : World} {p : Nat} {v : Kv} {n : Nat}
set_option maxHeartbeats 1000000 in
theorem kforce_any (k : Kd B E w p v n) (hg : ∀ u, Rg.Kept (fun k _ => E k) w u → Gl u) {id : Int} (hw : (Lit.int .i64 id).wf = true) (y : Bool) (hn : n < 700000) :
    Calls Tryz.prog 14 #[.pointer (some ⟨p, 0, none⟩), .int .i64 id, .bool y] w fun e w' => e = .returned (.int .i64 (fcE v id)) ∧ Kd B (growE E w w') w' p (fcS v id y) (n + 2) ∧ Rg.Kept (fun k _ => E k) w w' := by
  have k1 := k
  obtain ⟨hE, hG, q, r, pb, mb, mc, sb, k0⟩ := k1
  have D := kdown_any k0
  have I := kisid_any id w
  have S := kstate_any k0 hw
  have HX := hide ((k.more (show n ≤ n + 2 by omega)).grow (W := w) k.low)
  cases hd : v.down
  rotate_left
  · have e1 : fcE v id = 10 := by unfold fcE; rw [hd]; rfl
    have e2 : fcS v id y = v := by unfold fcS; rw [if_neg (fun h => by rw [hd] at h; cases h.1)]
    rw [e1, e2]
    rw [hd] at D
    clear k k0 hE hG hg hw hn I S hd e1 e2
    go_enter Tryz.func14, Tryz.ntmps14
    go_wp2_with (go_at_call 21; refine D.mono ?_; clear D; rintro e u ⟨rfl, rfl⟩)
    go_ret
    exact ⟨rfl, HX.out, Rg.Kept.refl _ _⟩
  rw [hd] at D
  cases hi : Hd.isI id
  · have e1 : fcE v id = 1 := by unfold fcE; rw [hd, hi]; rfl
    have e2 : fcS v id y = v := by
      unfold fcS
      rw [if_neg (fun h => ?_)]
      have := Hd.isI_iff.2 ((hG.goodT.s id).2 (by omega))
      rw [hi] at this
      cases this
    rw [e1, e2]
    rw [hi] at I
    clear k k0 hE hG hg hw hn S hd e1 e2 hi
    go_enter Tryz.func14, Tryz.ntmps14
    go_wp2_with (first
      | (go_at_call 21; refine D.mono ?_; clear D; rintro e u ⟨rfl, rfl⟩)
      | (go_at_call 42; refine I.mono ?_; clear I; rintro e u ⟨rfl, rfl⟩))
    go_ret
    exact ⟨rfl, HX.out, Rg.Kept.refl _ _⟩
  rw [hi] at I
  have FC := ffrc_any (v.st.s id) y w
  by_cases hz : frcE (v.st.s id) = 0
  · have h1 := frcE_one (hG.may id) hz
    have e1 : fcE v id = noteE v := by unfold fcE noteE; rw [hd, hi, if_neg (by decide), if_pos rfl, if_pos hz]
    have e2 : fcS v id y = noteK v ⟨frcS 1 y, id, 0, 0⟩ := by unfold fcS; rw [if_pos ⟨hd, h1⟩]
    have hid := Hd.isI_iff.1 hi
    have hok := frc_ok hid y
    rw [h1] at S FC
    rw [show frcE 1 = 0 from rfl] at FC
    have N := knote_any k0 (fun i e => (hE i e).2) (hg w (Rg.Kept.refl _ _)) hd hok (a := none) (c := 0) (by rw [show nK ⟨frcS 1 y, id, 0, 0⟩ = [] by cases y <;> rfl]; exact .inl rfl) (fun ad e => by cases e) (by omega)
    rw [show nK ⟨frcS 1 y, id, 0, 0⟩ = [] by cases y <;> rfl] at N
    have FX : Hid (∀ u r', KdV B (growE E w u) u p (noteK v ⟨frcS 1 y, id, 0, 0⟩) (n + 2) q r' pb mb mc sb → Rg.Kept (fun k _ => E k) w u → Kd B (growE E w u) u p (noteK v ⟨frcS 1 y, id, 0, 0⟩) (n + 2) ∧ Rg.Kept (fun k _ => E k) w u) := fun u r' h1 h2 => ⟨⟨kgrow_in hE k.low h2.size, noteK_good hG hd hok, q, r', pb, mb, mc, sb, h1⟩, h2⟩
    rw [e1, e2]
    dsimp only at N
    rw [List.length_nil] at N
    generalize noteK v ⟨frcS 1 y, id, 0, 0⟩ = v2 at N FX ⊢
    generalize frcS 1 y = fs at FC N
    generalize noteE v = ne at N ⊢
    clear k k0 hE hG hg hw hn hd e1 e2 hi hid hok HX h1 hz
    go_enter Tryz.func14, Tryz.ntmps14
    go_wp2_with (first
      | (go_at_call 21; refine D.mono ?_; clear D; rintro e u ⟨rfl, rfl⟩)
      | (go_at_call 42; refine I.mono ?_; clear I; rintro e u ⟨rfl, rfl⟩)
      | (go_at_call 19; refine S.mono ?_; clear S; rintro e u ⟨rfl, rfl⟩)
      | (go_at_call 43; refine FC.mono ?_; clear FC; rintro e u ⟨rfl, rfl⟩)
      | (go_at_call 44; refine N.mono ?_; clear N; rintro e u ⟨rfl, ⟨r', hx⟩, hk⟩; have HX := hide (FX.out u r' hx hk); clear hx hk))
    go_ret
    exact ⟨rfl, HX.out⟩
  · have e1 : fcE v id = frcE (v.st.s id) := by unfold fcE; rw [hd, hi, if_neg (by decide), if_pos rfl, if_neg hz]
    have e2 : fcS v id y = v := by
      unfold fcS
      rw [if_neg (fun h => hz ?_)]
      rw [h.2]
      rfl
    rw [e1, e2]
    have qz : (frcE (v.st.s id) != 0) = true := by simpa using hz
    generalize frcE (v.st.s id) = fe at FC qz ⊢
    generalize frcS (v.st.s id) y = fs at FC
    generalize v.st.s id = x at S FC
    clear k k0 hE hG hg hw hn hd e1 e2 hi hz
    go_enter Tryz.func14, Tryz.ntmps14
    go_wp2_with (first
      | (go_at_call 21; refine D.mono ?_; clear D; rintro e u ⟨rfl, rfl⟩)
      | (go_at_call 42; refine I.mono ?_; clear I; rintro e u ⟨rfl, rfl⟩)
      | (go_at_call 19; refine S.mono ?_; clear S; rintro e u ⟨rfl, rfl⟩)
      | (go_at_call 43; refine FC.mono ?_; clear FC; rintro e u ⟨rfl, rfl⟩))
    go_ret
    exact ⟨rfl, HX.out, Rg.Kept.refl _ _⟩

/-- What Handle leaves: its answer, a row of its own; the keeper behind it. -/
def HandK (B : Nat) (E : Nat → Prop) (w : World) (p : Nat) (v' : Kv) (n' : Nat) (xs : List Ms.Mg) (e : Ending) (w' : World) : Prop :=
  ∃ a c E', e = .returned (.slice a xs.length c) ∧ Ms.Mgs w' a xs ∧ (∀ ad, a = some ad → ¬ E' ad.block ∧ w.heap.size ≤ ad.block) ∧ (∀ k, E' k → growE E w w' k) ∧ Kd B E' w' p v' n' ∧ Rg.Kept (fun k _ => E k) w w'
theorem handK_of {E' : Nat → Prop} {u w' : World} {v' : Kv} {n' : Nat} {xs : List Ms.Mg} {e : Ending} (k : Kd B E' u p v' n') (hE : ∀ k, E' k → growE E w u k) (hk : Rg.Kept (fun k _ => E k) w u) (h : TellM u xs e w') : HandK B E w p v' n' xs e w' := by
  obtain ⟨a, c, h1, h2, h3, h4⟩ := h
  refine ⟨a, c, E', h1, h2, fun ad e => ⟨fun e' => ?_, Nat.le_trans hk.size (h3 ad e).1⟩, fun i e => (hE i e).imp (fun e => e) (fun e => ⟨e.1, Nat.lt_of_lt_of_le e.2 h4.size⟩), k.on h4, hk.trans (Rg.Kept.of_below h4)⟩
  have := (k.1 _ e').2
  have := (h3 ad e).1
  omega
set_option maxHeartbeats 2000000 in
theorem khandle_any (k : Kd B E w p v n) (hg : ∀ u, Rg.Kept (fun k _ => E k) w u → Gl u) {m : Ms.Mg} (hw : (Lit.int .i64 m.id).wf = true) (hn : n < 700000) :
    Calls Tryz.prog 16 #[.pointer (some ⟨p, 0, none⟩), .agg #[.int .i64 m.k, .int .i64 m.fr, .int .i64 m.to, .int .i64 m.id, .int .i64 m.st, .int .i64 m.a, .int .i64 m.b]] w (HandK B E w p (hkS v m) (n + 4) (hkA v m)) := by
  have k1 := k
  obtain ⟨hE, hG, q, r, pb, mb, mc, sb, k0⟩ := k1
  obtain ⟨W, hW⟩ : ∃ W, W = w.alloc (.cells #[.int .i64 m.k, .int .i64 m.fr, .int .i64 m.to, .int .i64 m.id, .int .i64 m.st, .int .i64 m.a, .int .i64 m.b] 31) := ⟨_, rfl⟩
  have hb0 : Below w.heap.size w W := by rw [hW]; exact (Below.refl _ _).alloc (Nat.le_refl _) _
  have hbx : W.heap[w.heap.size]? = some (.cells #[.int .i64 m.k, .int .i64 m.fr, .int .i64 m.to, .int .i64 m.id, .int .i64 m.st, .int .i64 m.a, .int .i64 m.b] 31 (0, 0)) := by rw [hW]; exact World.alloc_heap_new w _
  have H := khears_any (k0.on hb0) m
  obtain ⟨a0, a1, a2, a3, a4, a5, a6⟩ := seven_of hbx
  have HW := hide hW
  cases hh : hearsK v m
  · have e1 : hkS v m = v := by unfold hkS; rw [hh]; rfl
    have e2 : hkA v m = [] := by unfold hkA hkK; rw [hh]; rfl
    rw [e1, e2]
    rw [hh] at H
    have NO : Hid (∀ u, Below W.heap.size W u → HandK B E w p v (n + 4) [] (.returned (.slice none 0 0)) u) := fun u hu =>
      handK_of ((k.on (bel_on' hb0 hu)).more (by omega)) (fun _ e => .inl e) (Rg.Kept.of_below (bel_on' hb0 hu)) (tellM_nil (Below.refl _ _))
    rw [hW] at H a0 a1 a2 a3 a4 a5 a6
    clear hh hE hG k0 k hg hbx hb0 e1 e2 hW hw
    obtain ⟨m0, m1, m2, m3, m4, m5, m6⟩ := m
    simp only at *
    go_enter Tryz.func16, Tryz.ntmps16
    go_wp2_with (go_at_call 49; refine H.mono ?_; clear H; rintro e u1 ⟨rfl, hb1⟩; rw [← HW.out] at hb1; have HX := hide (NO.out u1 hb1); clear hb1 NO)
    go_ret
    exact HX.out
  obtain ⟨hd, hto, hi⟩ := hearsK_of hh
  rw [hh] at H
  have CU : Hid (∀ u, Rg.Kept (fun k _ => E k) W u → u.cell? ⟨w.heap.size, 0, none⟩ = some (.int .i64 m.k) ∧ u.cell? ⟨w.heap.size, 1, none⟩ = some (.int .i64 m.fr) ∧ u.cell? ⟨w.heap.size, 2, none⟩ = some (.int .i64 m.to) ∧ u.cell? ⟨w.heap.size, 3, none⟩ = some (.int .i64 m.id) ∧ u.cell? ⟨w.heap.size, 4, none⟩ = some (.int .i64 m.st) ∧ u.cell? ⟨w.heap.size, 5, none⟩ = some (.int .i64 m.a) ∧ u.cell? ⟨w.heap.size, 6, none⟩ = some (.int .i64 m.b)) := fun u hu => seven_of (hu.block _ _ hbx (fun e => by have := (hE _ e).2; omega))
  have S1 : Hid (∀ u, Below W.heap.size W u → Rg.Kept (fun k _ => E k) W u ∧ Calls Tryz.prog 19 #[.pointer (some ⟨p, 0, none⟩), .int .i64 m.id] u (fun e w' => e = .returned (.int .i64 (v.st.s m.id)) ∧ u = w') ∧
      Calls Tryz.prog 51 #[.pointer (some ⟨p, 0, none⟩), .agg #[.int .i64 m.k, .int .i64 m.fr, .int .i64 m.to, .int .i64 m.id, .int .i64 m.st, .int .i64 m.a, .int .i64 m.b]] u.drew (fun e w' => e = .returned (.bool (canK v m)) ∧ Rg.Kept (fun k _ => E k) W w' ∧ KdV B E w' p v (n + 2) q r pb mb mc sb ∧ Rg.Kept (fun k _ => E k) w w')) := fun u hu => by
    have hbu := bel_on' hb0 hu
    have hbd : Below u.heap.size u u.drew := (Below.refl _ _).drew
    have h1 := (k0.on hbu).on hbd
    refine ⟨Rg.Kept.of_below hu, kstate_any (k0.on hbu) hw, (kcould_any h1 (fun i e => Nat.lt_of_lt_of_le (hE i e).2 (bel_on' hbu hbd).size) hw (by omega)).mono ?_⟩
    rintro e w' ⟨h2, h3, h4⟩
    exact ⟨h2, (Rg.Kept.of_below (bel_on' hu hbd)).trans h4, h3, (Rg.Kept.of_below (bel_on' hbu hbd)).trans h4⟩
  have VN := fun u => vnext_any (v.st.s m.id) m.k (canK v m) u
  by_cases hx : nxt v m = v.st.s m.id
  · -- nothing changes
    have e1 : hkS v m = v := by unfold hkS; rw [hh, if_pos rfl, if_pos hx]
    have e3 : hkK v m = ansK v m := by unfold hkK; rw [hh, if_pos rfl, if_neg (fun h => h.1 hx)]
    have e2 : hkA v m = ansL v.node (ansK v m) m := by unfold hkA ansL; rw [e3]
    rw [e1, e2]
    have AN : Hid (∀ u, KdV B E u p v (n + 2) q r pb mb mc sb → Rg.Kept (fun k _ => E k) w u → ∀ u', Below u.heap.size u u' → Calls Tryz.prog 53 #[.pointer (some ⟨p, 0, none⟩), .agg #[.int .i64 m.k, .int .i64 m.fr, .int .i64 m.to, .int .i64 m.id, .int .i64 m.st, .int .i64 m.a, .int .i64 m.b], .int .i64 (ansK v m)] u' (HandK B E w p v (n + 4) (ansL v.node (ansK v m) m))) := fun u h1 h2 u' hb' => by
      have h3 := h2.trans (Rg.Kept.of_below hb')
      have h4 : Kd B E u' p v (n + 4) := ⟨fun i e => ⟨(hE i e).1, Nat.lt_of_lt_of_le (hE i e).2 h3.size⟩, hG, q, r, pb, mb, mc, sb, (h1.on hb').more (by omega)⟩
      exact (kanswer_any (h1.on hb') m (ansK v m)).mono (fun _ _ h => handK_of h4 (fun _ e => .inl e) h3 h)
    rw [hW] at H a0 a1 a2 a3 a4 a5 a6
    have qx : (nxt v m != v.st.s m.id) = false := by simpa using hx
    unfold nxt at qx
    unfold ansK at AN ⊢
    clear hh hE hG k0 k hg hbx hb0 e1 e2 e3 hW hw hd hto hi hx
    generalize canK v m = cn at *
    generalize nxS (v.st.s m.id) (mnt m.k) cn = ns at *
    generalize nxK (v.st.s m.id) (mnt m.k) cn = nk at *
    generalize v.st.s m.id = x at *
    obtain ⟨m0, m1, m2, m3, m4, m5, m6⟩ := m
    simp only at *
    go_enter Tryz.func16, Tryz.ntmps16
    go_wp2_with (first
      | (go_at_call 49; refine H.mono ?_; clear H; rintro e u1 ⟨rfl, hb1⟩; rw [← HW.out] at hb1; obtain ⟨kW1, S, CN⟩ := S1.out u1 hb1; clear a0 a1 a2 a3 a4 a5 a6; obtain ⟨a0, a1, a2, a3, a4, a5, a6⟩ := CU.out u1 kW1; clear hb1 S1 kW1)
      | (go_at_call 19; refine S.mono ?_; clear S; rintro e u ⟨rfl, rfl⟩))
    go_region_held3 (fun w' => w'.cell? ⟨w.heap.size, 0, none⟩ = some (.int .i64 m0) ∧ w'.cell? ⟨w.heap.size, 1, none⟩ = some (.int .i64 m1) ∧ w'.cell? ⟨w.heap.size, 2, none⟩ = some (.int .i64 m2) ∧ w'.cell? ⟨w.heap.size, 3, none⟩ = some (.int .i64 m3) ∧ w'.cell? ⟨w.heap.size, 4, none⟩ = some (.int .i64 m4) ∧ w'.cell? ⟨w.heap.size, 5, none⟩ = some (.int .i64 m5) ∧ w'.cell? ⟨w.heap.size, 6, none⟩ = some (.int .i64 m6)) (go_keep) (first
      | (go_at_call 51; refine CN.mono ?_; clear CN; rintro e u2 ⟨rfl, hw2, hk2, hkk⟩; clear a0 a1 a2 a3 a4 a5 a6; obtain ⟨a0, a1, a2, a3, a4, a5, a6⟩ := CU.out u2 hw2; have A2 := hide (AN.out u2 hk2 hkk); clear hw2 hk2 hkk AN)
      | (go_at_call 50; refine (VN _).mono ?_; rintro e u ⟨rfl, rfl⟩))
    go_wp2_with fail
    go_quiet (fail)
    have HBD : Hid (Below u2.heap.size u2 (u2.drewN nq)) := belowN (Below.refl _ _) nq
    have A3 := A2.out (u2.drewN nq) HBD.out
    have d0 := cellL a0 HBD.out
    have d1 := cellL a1 HBD.out
    have d2 := cellL a2 HBD.out
    have d3 := cellL a3 HBD.out
    have d4 := cellL a4 HBD.out
    have d5 := cellL a5 HBD.out
    have d6 := cellL a6 HBD.out
    generalize u2.drewN nq = u3 at A3 d0 d1 d2 d3 d4 d5 d6 HBD ⊢
    clear a0 a1 a2 a3 a4 a5 a6 A2 HBD
    go_wp2_with (go_at_call 53; refine A3.mono ?_; clear A3; rintro e u4 ⟨a, c, E', rfl, hx⟩; have HX := hide hx; clear hx)
    go_ret
    exact ⟨a, c, E', rfl, HX.out⟩
  · have e1 : hkS v m = noteK v (entK v m) := by unfold hkS; rw [hh, if_pos rfl, if_neg hx]
    have hok := ent_ok hG hi hx
    have NB : Hid (∀ u2, KdV B E u2 p v (n + 2) q r pb mb mc sb → Rg.Kept (fun k _ => E k) w u2 → Rg.Kept (fun k _ => E k) W u2 →
        Calls Tryz.prog 52 #[.int .i64 (nxt v m), .agg #[.int .i64 m.k, .int .i64 m.fr, .int .i64 m.to, .int .i64 m.id, .int .i64 m.st, .int .i64 m.a, .int .i64 m.b]] u2.drew (fun e u3 => ∃ a c, e = .returned (.slice a (nK (entK v m)).length c) ∧ Rg.Kept (fun k _ => E k) W u3 ∧
          Calls Tryz.prog 44 #[.pointer (some ⟨p, 0, none⟩), .int .i64 (nxt v m), .int .i64 m.id, .slice a (nK (entK v m)).length c] u3 (fun e u4 => e = .returned (.int .i64 (noteE v)) ∧ Rg.Kept (fun k _ => E k) W u4 ∧ Kd B (growE E w u4) u4 p (noteK v (entK v m)) (n + 4) ∧ Rg.Kept (fun k _ => E k) w u4))) := fun u2 h1 h2 h3 => by
      have hbd : Below u2.heap.size u2 u2.drew := (Below.refl _ _).drew
      refine (knums_any (nxt v m) m u2.drew).mono ?_
      rintro e u3 ⟨a, c, h4, h5, h6, h7⟩
      have hb3 := bel_on' hbd h7
      have h8 : Rg.Kept (fun k _ => E k) w u3 := h2.trans (Rg.Kept.of_below hb3)
      refine ⟨a, c, h4, h3.trans (Rg.Kept.of_below hb3), (knote_any (h1.on hb3) (fun i e => Nat.lt_of_lt_of_le (hE i e).2 h8.size) (hg u3 h8) hd hok h5 (fun ad e => ⟨fun e' => ?_, (h6 ad e).2⟩) (by omega)).mono ?_⟩
      · have := (hE _ e').2
        have := (h6 ad e).1
        have := (h2.trans (Rg.Kept.of_below hbd)).size
        omega
      · rintro e u4 ⟨h9, ⟨r', h10⟩, h11⟩
        have h12 := h8.trans h11
        exact ⟨h9, (h3.trans (Rg.Kept.of_below hb3)).trans h11, ⟨kgrow_in hE k.low h12.size, noteK_good hG hd hok, q, r', pb, mb, mc, sb, h10.wide (fun i e => e.imp (fun e => e) (fun e => ⟨Nat.le_trans h8.size e.1, e.2⟩))⟩, h12⟩
    rw [e1]
    have qx : (nxt v m != v.st.s m.id) = true := by simpa using hx
    cases hR : roomK v
    · have e3 : hkK v m = 0 := by unfold hkK; rw [hh, if_pos rfl, if_pos ⟨hx, hR⟩]
      have e2 : hkA v m = [] := by unfold hkA; rw [e3]; rfl
      rw [e2]
      rw [show noteE v = 5 by unfold noteE; rw [hR]; rfl] at NB
      have FX : Hid (∀ u4, Kd B (growE E w u4) u4 p (noteK v (entK v m)) (n + 4) → Rg.Kept (fun k _ => E k) w u4 → HandK B E w p (noteK v (entK v m)) (n + 4) [] (.returned (.slice none 0 0)) u4) := fun u4 h1 h2 => handK_of h1 (fun _ e => e) h2 (tellM_nil (Below.refl _ _))
      rw [hW] at H a0 a1 a2 a3 a4 a5 a6
      generalize noteK v (entK v m) = v2 at NB FX ⊢
      generalize (nK (entK v m)).length = ln at NB
      unfold nxt at NB qx
      clear hh hE hG k0 k hg hbx hb0 e1 e2 e3 hW hw hd hto hi hx hok hR
      generalize canK v m = cn at *
      generalize nxS (v.st.s m.id) (mnt m.k) cn = ns at *
      generalize nxK (v.st.s m.id) (mnt m.k) cn = nk at *
      generalize v.st.s m.id = x at *
      obtain ⟨m0, m1, m2, m3, m4, m5, m6⟩ := m
      simp only at *
      go_enter Tryz.func16, Tryz.ntmps16
      go_wp2_with (first
        | (go_at_call 49; refine H.mono ?_; clear H; rintro e u1 ⟨rfl, hb1⟩; rw [← HW.out] at hb1; obtain ⟨kW1, S, CN⟩ := S1.out u1 hb1; clear a0 a1 a2 a3 a4 a5 a6; obtain ⟨a0, a1, a2, a3, a4, a5, a6⟩ := CU.out u1 kW1; clear hb1 S1 kW1)
        | (go_at_call 19; refine S.mono ?_; clear S; rintro e u ⟨rfl, rfl⟩))
      go_region_held3 (fun w' => w'.cell? ⟨w.heap.size, 0, none⟩ = some (.int .i64 m0) ∧ w'.cell? ⟨w.heap.size, 1, none⟩ = some (.int .i64 m1) ∧ w'.cell? ⟨w.heap.size, 2, none⟩ = some (.int .i64 m2) ∧ w'.cell? ⟨w.heap.size, 3, none⟩ = some (.int .i64 m3) ∧ w'.cell? ⟨w.heap.size, 4, none⟩ = some (.int .i64 m4) ∧ w'.cell? ⟨w.heap.size, 5, none⟩ = some (.int .i64 m5) ∧ w'.cell? ⟨w.heap.size, 6, none⟩ = some (.int .i64 m6)) (go_keep) (first
        | (go_at_call 51; refine CN.mono ?_; clear CN; rintro e u2 ⟨rfl, hw2, hk2, hkk⟩; clear a0 a1 a2 a3 a4 a5 a6; obtain ⟨a0, a1, a2, a3, a4, a5, a6⟩ := CU.out u2 hw2; have N2 := NB.out u2 hk2 hkk hw2; clear hw2 hk2 hkk NB)
        | (go_at_call 50; refine (VN _).mono ?_; rintro e u ⟨rfl, rfl⟩))
      go_wp2_with fail
      go_region_held3 (fun w' => w'.cell? ⟨w.heap.size, 0, none⟩ = some (.int .i64 m0) ∧ w'.cell? ⟨w.heap.size, 1, none⟩ = some (.int .i64 m1) ∧ w'.cell? ⟨w.heap.size, 2, none⟩ = some (.int .i64 m2) ∧ w'.cell? ⟨w.heap.size, 3, none⟩ = some (.int .i64 m3) ∧ w'.cell? ⟨w.heap.size, 4, none⟩ = some (.int .i64 m4) ∧ w'.cell? ⟨w.heap.size, 5, none⟩ = some (.int .i64 m5) ∧ w'.cell? ⟨w.heap.size, 6, none⟩ = some (.int .i64 m6)) (go_keep) (first
        | (go_at_call 52; refine N2.mono ?_; clear N2; rintro e u3 ⟨a, c, rfl, hw3, N3⟩; clear a0 a1 a2 a3 a4 a5 a6; obtain ⟨a0, a1, a2, a3, a4, a5, a6⟩ := CU.out u3 hw3; clear hw3)
        | (go_at_call 44; refine N3.mono ?_; clear N3; rintro e u4 ⟨rfl, hw4, hk4, hkk4⟩; clear a0 a1 a2 a3 a4 a5 a6; obtain ⟨a0, a1, a2, a3, a4, a5, a6⟩ := CU.out u4 hw4; have HX := hide (FX.out u4 hk4 hkk4); clear hw4 hk4 hkk4 FX))
      go_wp2
      go_ret
      exact HX.out
    · have e3 : hkK v m = ansK v m := by unfold hkK; rw [hh, if_pos rfl, if_neg (fun h => by rw [hR] at h; cases h.2)]
      have e2 : hkA v m = ansL v.node (ansK v m) m := by unfold hkA ansL; rw [e3]
      rw [e2]
      rw [show noteE v = 0 by unfold noteE; rw [hR]; rfl] at NB
      have FX : Hid (∀ u4, Kd B (growE E w u4) u4 p (noteK v (entK v m)) (n + 4) → Rg.Kept (fun k _ => E k) w u4 → Calls Tryz.prog 53 #[.pointer (some ⟨p, 0, none⟩), .agg #[.int .i64 m.k, .int .i64 m.fr, .int .i64 m.to, .int .i64 m.id, .int .i64 m.st, .int .i64 m.a, .int .i64 m.b], .int .i64 (ansK v m)] u4 (HandK B E w p (noteK v (entK v m)) (n + 4) (ansL v.node (ansK v m) m))) := fun u4 h1 h2 => by
        have h3 := h1
        obtain ⟨_, _, _, r', _, _, _, _, h5⟩ := h3
        have A := kanswer_any h5 m (ansK v m)
        rw [noteK_node] at A
        exact A.mono (fun _ _ h => handK_of h1 (fun _ e => e) h2 h)
      rw [hW] at H a0 a1 a2 a3 a4 a5 a6
      generalize noteK v (entK v m) = v2 at NB FX ⊢
      generalize (nK (entK v m)).length = ln at NB
      unfold nxt at NB qx
      unfold ansK at FX ⊢
      clear hh hE hG k0 k hg hbx hb0 e1 e2 e3 hW hw hd hto hi hx hok hR
      generalize canK v m = cn at *
      generalize nxS (v.st.s m.id) (mnt m.k) cn = ns at *
      generalize nxK (v.st.s m.id) (mnt m.k) cn = nk at *
      generalize v.st.s m.id = x at *
      obtain ⟨m0, m1, m2, m3, m4, m5, m6⟩ := m
      simp only at *
      go_enter Tryz.func16, Tryz.ntmps16
      go_wp2_with (first
        | (go_at_call 49; refine H.mono ?_; clear H; rintro e u1 ⟨rfl, hb1⟩; rw [← HW.out] at hb1; obtain ⟨kW1, S, CN⟩ := S1.out u1 hb1; clear a0 a1 a2 a3 a4 a5 a6; obtain ⟨a0, a1, a2, a3, a4, a5, a6⟩ := CU.out u1 kW1; clear hb1 S1 kW1)
        | (go_at_call 19; refine S.mono ?_; clear S; rintro e u ⟨rfl, rfl⟩))
      go_region_held3 (fun w' => w'.cell? ⟨w.heap.size, 0, none⟩ = some (.int .i64 m0) ∧ w'.cell? ⟨w.heap.size, 1, none⟩ = some (.int .i64 m1) ∧ w'.cell? ⟨w.heap.size, 2, none⟩ = some (.int .i64 m2) ∧ w'.cell? ⟨w.heap.size, 3, none⟩ = some (.int .i64 m3) ∧ w'.cell? ⟨w.heap.size, 4, none⟩ = some (.int .i64 m4) ∧ w'.cell? ⟨w.heap.size, 5, none⟩ = some (.int .i64 m5) ∧ w'.cell? ⟨w.heap.size, 6, none⟩ = some (.int .i64 m6)) (go_keep) (first
        | (go_at_call 51; refine CN.mono ?_; clear CN; rintro e u2 ⟨rfl, hw2, hk2, hkk⟩; clear a0 a1 a2 a3 a4 a5 a6; obtain ⟨a0, a1, a2, a3, a4, a5, a6⟩ := CU.out u2 hw2; have N2 := NB.out u2 hk2 hkk hw2; clear hw2 hk2 hkk NB)
        | (go_at_call 50; refine (VN _).mono ?_; rintro e u ⟨rfl, rfl⟩))
      go_wp2_with fail
      go_region_held3 (fun w' => w'.cell? ⟨w.heap.size, 0, none⟩ = some (.int .i64 m0) ∧ w'.cell? ⟨w.heap.size, 1, none⟩ = some (.int .i64 m1) ∧ w'.cell? ⟨w.heap.size, 2, none⟩ = some (.int .i64 m2) ∧ w'.cell? ⟨w.heap.size, 3, none⟩ = some (.int .i64 m3) ∧ w'.cell? ⟨w.heap.size, 4, none⟩ = some (.int .i64 m4) ∧ w'.cell? ⟨w.heap.size, 5, none⟩ = some (.int .i64 m5) ∧ w'.cell? ⟨w.heap.size, 6, none⟩ = some (.int .i64 m6)) (go_keep) (first
        | (go_at_call 52; refine N2.mono ?_; clear N2; rintro e u3 ⟨a, c, rfl, hw3, N3⟩; clear a0 a1 a2 a3 a4 a5 a6; obtain ⟨a0, a1, a2, a3, a4, a5, a6⟩ := CU.out u3 hw3; clear hw3)
        | (go_at_call 44; refine N3.mono ?_; clear N3; rintro e u4 ⟨rfl, hw4, hk4, hkk4⟩; clear a0 a1 a2 a3 a4 a5 a6; obtain ⟨a0, a1, a2, a3, a4, a5, a6⟩ := CU.out u4 hw4; have A4 := FX.out u4 hk4 hkk4; clear hw4 hk4 hkk4 FX))
      go_wp2_with (go_at_call 53; refine A4.mono ?_; clear A4; rintro e u5 ⟨a5', c5', E', rfl, hx⟩; have HX := hide hx; clear hx)
      go_ret
      exact ⟨a5', c5', E', rfl, HX.out⟩
end
end Go.Proofs.YtepclljoiccieaaGreatDoor
/-
  Contract of keeper's forget.
-/
namespace Go.Proofs.YtepclljoiccieaaGreatDoor
open Go.ChangeShapes Go.WideShapes Go.ChangeAt Go.RowKit Go.Maps

/-- All cells of a block written anew. -/
theorem block_anew {w : World} {g : Nat} {t : TypeId} {cs : Array Value} {vs : List Value} (h : w.heap[g]? = some (.cells cs t (0, 0))) (hs : cs.size = vs.length) :
    (w.setCells g 0 vs).heap[g]? = some (.cells vs.toArray t (0, 0)) ∧ Rg.Kept (fun k _ => k = g) w (w.setCells g 0 vs) := by
  obtain ⟨cs', h3, h4, h5⟩ := heap_setCells g t vs 0 w cs h (by omega)
  have e2 : cs' = vs.toArray := by
    apply Array.ext_getElem?
    intro j
    rw [h5 j, List.getElem?_toArray]
    by_cases hj : j < vs.length
    · rw [if_pos ⟨Nat.zero_le _, by omega⟩]; simp
    · have q1 : cs[j]? = none := Array.getElem?_eq_none (by omega)
      have q2 : vs[j]? = none := List.getElem?_eq_none (by omega)
      rw [if_neg (fun h => hj (by omega))]
      simpa [q2] using q1
  rw [e2] at h3
  refine ⟨h3, ?_⟩
  have : ∀ (vs : List Value) (o : Nat) (u : World), Rg.Kept (fun k _ => k = g) u (u.setCells g o vs) := by
    intro vs
    induction vs with
    | nil => intro o u; exact Rg.Kept.refl _ _
    | cons x r ih => intro o u; exact (Rg.Kept.setCell (a := ⟨g, o, none⟩) _ (fun _ => rfl)).trans (ih (o + 1) _)
  exact this vs 0 w
theorem bcs_ones (on fr : Int → Int) (b : Nat) : ∀ x ∈ Gd.bcs on fr b, x.oneCell' = true := by
  intro x hx
  simp only [Gd.bcs, Gd.rowc, List.mem_append, List.mem_map, List.mem_singleton] at hx
  rcases hx with ⟨_, _, rfl⟩ | ⟨_, _, rfl⟩ | rfl <;> rfl
theorem pbcs_ones (f : Int → Int) (b c : Nat) : ∀ x ∈ Gd.Pu.bcs f b c, x.oneCell' = true := by
  intro x hx
  simp only [Gd.Pu.bcs, Gd.Pu.rowc, List.mem_append, List.mem_map, List.mem_cons, List.not_mem_nil, or_false] at hx
  rcases hx with ⟨_, _, rfl⟩ | rfl | rfl <;> rfl
/-- The row that a keeper was made of, as a slice of its block. -/
theorem first_ints {w : World} {p : Nat} {nd : Int} {f : Int → Int} {j g m s : Value} (hb : w.heap[p]? = some (.cells (kcs nd f j g m s).toArray 64 (0, 0))) : Ints w (some ⟨p, 1, none⟩) (lst f) := by
  refine .inr ⟨p, 1, rfl, fun i hi => ?_⟩
  rw [lst_len] at hi
  rw [cell_of hb, List.getElem?_toArray, kcs_f _ _ _ _ _ _ hi, lst_at f hi]
theorem forget_fin {w u : World} {p sb : Nat} {nd : Int} {f : Int → Int} {j g m s : Value} (hb : u.heap[p]? = some (.cells (kcs nd f j g m s).toArray 64 (0, 0))) (hk : Rg.Kept (fun k _ => k = p ∨ k = sb) w u) {F : World → Prop} (hF : ∀ u', Rg.Kept (fun k _ => k = p) u u' → F u') (hlt : w.heap.size ≤ u.heap.size) :
    ∃ W, W = ((u.setCell ⟨p, 12, none⟩ (.map (some u.heap.size))).alloc (.map #[] 0)) ∧ W.heap[p]? = some (.cells (kcs nd f j g m (.map (some u.heap.size))).toArray 64 (0, 0)) ∧ F W ∧ Mp W u.heap.size 0 (fun _ => 0) ∧ w.heap.size ≤ u.heap.size ∧ Rg.Kept (fun k _ => k = p ∨ k = sb) w W := by
  have e1 : (u.setCell ⟨p, 12, none⟩ (.map (some u.heap.size))).heap[p]? = some (.cells (kcs nd f j g m (.map (some u.heap.size))).toArray 64 (0, 0)) := by
    rw [heap_setCell_same _ _ _ _ _ _ hb, List.setIfInBounds_toArray, (kcs_set _ _ _ _ _ _ _).2.2.2]
  have k1 : Rg.Kept (fun k _ => k = p) u ((u.setCell ⟨p, 12, none⟩ (.map (some u.heap.size))).alloc (.map #[] 0)) := (Rg.Kept.setCell (a := ⟨p, 12, none⟩) _ (fun _ => rfl)).trans (Rg.Kept.alloc _)
  have hs : (u.setCell ⟨p, 12, none⟩ (.map (some u.heap.size))).heap.size = u.heap.size := by simp
  refine ⟨_, rfl, (Below.heap_alloc _ _ _ (Array.getElem?_eq_some_iff.1 e1).1).trans e1, hF _ k1, ?_, hlt, hk.trans (k1.mono (fun i _ e => .inl e))⟩
  have := World.ownsMap_made (H := Unit) (P := Tryz.prog) (k := 3) (R := plainElem Tryz.prog 3) (u.setCell ⟨p, 12, none⟩ (.map (some u.heap.size)))
  rw [hs] at this
  exact ⟨_, this, Hd.Fits.new⟩

set_option maxRecDepth 100000 in
set_option maxHeartbeats 4000000 in
theorem kforget_1 {B : Nat} {w : World} {p : Nat} {f : Int → Int} {j s : Value} {pb : Nat} {cs : Array Value} (hb : w.heap[p]? = some (.cells (kcs 1 f j (goodsV 1 pb) (moneyV 1 pb) s).toArray 64 (0, 0))) (hbk : w.heap[pb]? = some (.cells cs 67 (0, 0))) (hcs : cs.size = 17) (hB : B ≤ pb ∧ B ≤ w.heap.size) :
    Calls Tryz.prog 28 #[.pointer (some ⟨p, 0, none⟩)] w fun e w' => (∃ x, e = .returned x) ∧ ∃ mb mc sb,
      w'.heap[p]? = some (.cells (kcs 1 f j (goodsV 1 pb) (moneyV 1 pb) (.map (some sb))).toArray 64 (0, 0)) ∧ BkK B w' 1 pb mb mc (iniB f) 0 ∧ Mp w' sb 0 (fun _ => 0) ∧ (mb ≠ sb ∧ mc ≠ sb) ∧ (w.heap.size ≤ mb ∧ w.heap.size ≤ mc ∧ w.heap.size ≤ sb) ∧ Rg.Kept (fun k _ => k = p ∨ k = pb) w w' := by
  have hne : p ≠ pb := two_cells hb hbk (by decide)
  have hbD : Below w.heap.size w w.drew := (Below.refl _ _).drew
  have N := Gd.snew_any (some ⟨p, 1, none⟩) (lst f) 8 w.drew ((first_ints hb).below hbD) (by rw [lst_len]; omega) (by rw [lst_len]; omega) (fun e => by cases e)
  rw [lst_len] at N
  have c0 : w.cell? ⟨p, 0, none⟩ = some (.int .i64 1) := by rw [cell_of hb, List.getElem?_toArray]; rfl
  have cg : w.cell? ⟨p, 10, none⟩ = some (.pointer (some ⟨pb, 0, none⟩)) := by rw [cell_of hb, List.getElem?_toArray]; rfl
  have MK : Hid (∀ (u : World) (q : Nat) (vs : List Value), Below w.drew.heap.size w.drew u → u.heap[q]? = some (.cells vs.toArray 67 (0, 0)) → vs.length = 17 → u.cell? ⟨p, 10, none⟩ = some (.pointer (some ⟨pb, 0, none⟩)) ∧ u.rangeAt q 0 vs ∧ u.there pb 0 vs.toArray.size ∧ ∃ V, V = u.setCells pb 0 vs ∧ V.heap[pb]? = some (.cells vs.toArray 67 (0, 0)) ∧ V.heap[p]? = some (.cells (kcs 1 f j (goodsV 1 pb) (moneyV 1 pb) s).toArray 64 (0, 0)) ∧ V.cell? ⟨p, 10, none⟩ = some (.pointer (some ⟨pb, 0, none⟩)) ∧ V.cell? ⟨p, 12, none⟩ = some s ∧ V.frozen? ⟨p, 12, none⟩ = false ∧ Rg.Kept (fun k _ => k = pb) u V ∧ Rg.Kept (fun k _ => k = p ∨ k = pb) w V) := fun u q vs hbu hq hl => by
    have hbw := bel_on' hbD hbu
    have h1 := (hbw.block _ (Array.getElem?_eq_some_iff.1 hbk).1).trans hbk
    have h2 := (hbw.block _ (Array.getElem?_eq_some_iff.1 hb).1).trans hb
    obtain ⟨h3, h4⟩ := block_anew h1 (show cs.size = vs.length by omega)
    have h5 := h4.block _ _ h2 hne
    refine ⟨cellL cg hbw, fun i v hv => ?_, fun i hi => ⟨?_, frozen_of_row _ _ _ _ _ h1⟩, _, rfl, h3, h5, by rw [cell_of h5, List.getElem?_toArray]; rfl, by rw [cell_of h5, List.getElem?_toArray]; rfl, frozen_of_row _ _ _ _ _ h5, h4, (Rg.Kept.of_below hbw).trans (h4.mono (fun i _ e => .inr e))⟩
    · rw [Nat.zero_add, cell_of hq, List.getElem?_toArray]; exact hv
    · rw [Nat.zero_add, cell_of h1]
      simp at hi ⊢
      omega
  have HB := hide hb
  have HBB := hide hB
  have HBD := hide hbD
  have HLT : Hid (pb < w.heap.size ∧ p < w.heap.size) := ⟨(Array.getElem?_eq_some_iff.1 hbk).1, (Array.getElem?_eq_some_iff.1 hb).1⟩
  have hmm := @run_makeMap Tryz.prog
  clear hb hbk hcs hB hbD
  go_enter Tryz.func28, Tryz.ntmps28
  go_wp2_with fail
  refine wp_region_held_drew (S := (fun w' => w'.cell? ⟨p, 10, none⟩ = some (.pointer (some ⟨pb, 0, none⟩)))) (by kernel_rfl) cg (fun hHeld => ?_)
  refine wpAnyH_take (i := 0) (oi := { dst := some 8, op := _, type := _, pos := _, after := _, guard := _ }) (v := ?va0) rfl (by kernel_rfl) (by kernel_rfl) (by kernel_rfl) (fun _ _ _ h => h) (Or.inl ⟨by kernel_rfl, ?hya0⟩) hHeld ?resta0
  case hya0 => (intro w' hSw; (try dsimp only at hSw); go_simp; all_goals (with_reducible rfl))
  try simp only [Act.put, List.setIfInBounds_toArray, List.set_cons_zero, List.set_cons_succ]
  refine wpAnyH_take (i := 1) (oi := { dst := some 9, op := _, type := _, pos := _, after := _, guard := _ }) (v := ?va1) rfl (by kernel_rfl) (by kernel_rfl) (by kernel_rfl) (fun _ _ _ h => h) (Or.inl ⟨by kernel_rfl, ?hya1⟩) hHeld ?resta1
  case hya1 => (intro w' hSw; (try dsimp only at hSw); go_simp; all_goals (with_reducible rfl))
  try simp only [Act.put, List.setIfInBounds_toArray, List.set_cons_zero, List.set_cons_succ]
  refine wpAnyH_take (i := 2) (oi := { dst := some 10, op := _, type := _, pos := _, after := _, guard := _ }) (v := ?va2) rfl (by kernel_rfl) (by kernel_rfl) (by kernel_rfl) (fun _ _ _ h => h) (Or.inl ⟨by kernel_rfl, ?hya2⟩) hHeld ?resta2
  case hya2 => (intro w' hSw; (try dsimp only at hSw); go_simp; all_goals (with_reducible rfl))
  try simp only [Act.put, List.setIfInBounds_toArray, List.set_cons_zero, List.set_cons_succ]
  refine wpAnyH_take (i := 3) (oi := { dst := some 11, op := _, type := _, pos := _, after := _, guard := _ }) (v := ?va3) rfl (by kernel_rfl) (by kernel_rfl) (by kernel_rfl) (fun _ _ _ h => h) (Or.inl ⟨by kernel_rfl, ?hya3⟩) hHeld ?resta3
  case hya3 => (intro w' hSw; (try dsimp only at hSw); go_simp; all_goals (with_reducible rfl))
  try simp only [Act.put, List.setIfInBounds_toArray, List.set_cons_zero, List.set_cons_succ]
  refine wpAnyH_take (i := 4) (oi := { dst := some 12, op := _, type := _, pos := _, after := _, guard := _ }) (v := ?va4) rfl (by kernel_rfl) (by kernel_rfl) (by kernel_rfl) (fun _ _ _ h => h) (Or.inl ⟨by kernel_rfl, ?hya4⟩) hHeld ?resta4
  case hya4 => (intro w' hSw; (try dsimp only at hSw); go_simp; all_goals (with_reducible rfl))
  try simp only [Act.put, List.setIfInBounds_toArray, List.set_cons_zero, List.set_cons_succ]
  refine wpAnyH_take (i := 5) (oi := { dst := some 13, op := _, type := _, pos := _, after := _, guard := _ }) (v := ?va5) rfl (by kernel_rfl) (by kernel_rfl) (by kernel_rfl) (fun _ _ _ h => h) (Or.inl ⟨by kernel_rfl, ?hya5⟩) hHeld ?resta5
  case hya5 => (intro w' hSw; (try dsimp only at hSw); go_simp; all_goals (with_reducible rfl))
  try simp only [Act.put, List.setIfInBounds_toArray, List.set_cons_zero, List.set_cons_succ]
  refine wpAnyH_take (i := 6) (oi := { dst := some 14, op := _, type := _, pos := _, after := _, guard := _ }) (v := ?va6) rfl (by kernel_rfl) (by kernel_rfl) (by kernel_rfl) (fun _ _ _ h => h) (Or.inl ⟨by kernel_rfl, ?hya6⟩) hHeld ?resta6
  case hya6 => (intro w' hSw; (try dsimp only at hSw); go_simp; all_goals (with_reducible rfl))
  try simp only [Act.put, List.setIfInBounds_toArray, List.set_cons_zero, List.set_cons_succ]
  refine wpAnyH_take (i := 7) (oi := { dst := some 15, op := _, type := _, pos := _, after := _, guard := _ }) (v := ?va7) rfl (by kernel_rfl) (by kernel_rfl) (by kernel_rfl) (fun _ _ _ h => h) (Or.inl ⟨by kernel_rfl, ?hya7⟩) hHeld ?resta7
  case hya7 => (intro w' hSw; (try dsimp only at hSw); go_simp; all_goals (with_reducible rfl))
  try simp only [Act.put, List.setIfInBounds_toArray, List.set_cons_zero, List.set_cons_succ]
  refine wpAnyH_ready (rs := [8]) (by kernel_rfl) (by simp) ?_
  refine AllReadyH.cons (o := { dst := some 16, op := _, type := _, pos := _, after := _, guard := _ }) rfl (fun K hK => ?_) AllReadyH.nil
  rw [if_pos (by kernel_rfl)]
  go_wp2_with (first | (go_at_call 65; refine N.mono ?_; clear N; rintro e u1 ⟨q1, m1, rfl, sk, hb1⟩; obtain ⟨vs, hvs⟩ : ∃ vs, Gd.bcs (Gd.newS (lst f)).on (Gd.newS (lst f)).fr m1 = vs := ⟨_, rfl⟩; have hq := sk.1.1; rw [hvs] at hq; have hvl : vs.length = 17 := (by rw [← hvs]; rfl); have HON : Hid (∀ x ∈ vs, x.oneCell' = true) := (by rw [← hvs]; exact bcs_ones _ _ _); obtain ⟨cg1, hrg, hth, V, hV, hV1⟩ := MK.out u1 q1 vs hb1 hq hvl; clear cg; have cg := cg1; have HV := hide hV; have HV1 := hide hV1; have HSK := hide sk; have HVS := hide hvs; have HB1 := hide hb1; clear hV1 cg1 MK hvs hq hb1 sk hV))
  clear hHeld
  refine hK.out _ _ cg (fun hHeld => ?_)
  clear hK K
  try simp only [Act.put, List.setIfInBounds_toArray, List.set_cons_zero, List.set_cons_succ]
  refine wpAnyH_take (i := 9) (oi := { dst := some 17, op := _, type := _, pos := _, after := _, guard := _ }) (v := ?va9) rfl (by kernel_rfl) (by kernel_rfl) (by kernel_rfl) (fun _ _ _ h => h) (Or.inl ⟨by kernel_rfl, ?hya9⟩) hHeld ?resta9
  case hya9 => (intro w' hSw; (try dsimp only at hSw); go_simp; all_goals (with_reducible rfl))
  try simp only [Act.put, List.setIfInBounds_toArray, List.set_cons_zero, List.set_cons_succ]
  refine wpAnyH_ready (rs := [10]) (by kernel_rfl) (by simp) ?_
  refine AllReadyH.cons (o := { dst := some 18, op := _, type := _, pos := _, after := _, guard := _ }) rfl (fun K hK => ?_) AllReadyH.nil
  rw [if_pos (by kernel_rfl)]
  refine wp_load_mid 67 (.tmp 17) rfl q1 0 rfl vs _ hrg Tryz.underlying67 rfl (by rw [hvl]; kernel_rfl) ?_
  clear hHeld
  refine hK.out _ _ cg (fun hHeld => ?_)
  clear hK K
  try simp only [Act.put, List.setIfInBounds_toArray, List.set_cons_zero, List.set_cons_succ]
  refine wpAnyH_take (i := 11) (oi := { dst := some 19, op := _, type := _, pos := _, after := _, guard := _ }) (v := ?va11) rfl (by kernel_rfl) (by kernel_rfl) (by kernel_rfl) (fun _ _ _ h => h) (Or.inl ⟨by kernel_rfl, ?hya11⟩) hHeld ?resta11
  case hya11 => (intro w' hSw; (try dsimp only at hSw); go_simp; all_goals (with_reducible rfl))
  try simp only [Act.put, List.setIfInBounds_toArray, List.set_cons_zero, List.set_cons_succ]
  refine wpAnyH_ready (rs := [12]) (by kernel_rfl) (by simp) ?_
  refine AllReadyH.cons (o := { dst := none, op := _, type := _, pos := _, after := _, guard := _ }) rfl (fun K hK => ?_) AllReadyH.nil
  rw [if_pos (by kernel_rfl)]
  refine wp_store_mid 67 (.tmp 19) (.tmp 18) rfl pb 0 vs.toArray rfl rfl hth (by rw [List.size_toArray, hvl]; kernel_rfl) (all_oneCell_toArray HON.out) ?_
  clear hHeld
  rw [List.toList_toArray, ← HV.out]
  refine hK.out _ _ HV1.out.2.2.1 (fun hHeld => ?_)
  clear hK K hHeld
  try simp only [Act.put]
  refine wpAnyH_done (by kernel_rfl) ?_ _
  have HS0 : w.drew.heap.size = w.heap.size := rfl
  have HLM : Hid (w.heap.size ≤ m1 ∧ m1 < V.heap.size) := ⟨by have := HSK.out.1.2.2.1; omega, Nat.lt_of_lt_of_le HSK.out.1.ltb HV1.out.2.2.2.2.2.1.size⟩
  have FB : ∀ W, Rg.Kept (fun k _ => k = p) V W → BkK B W 1 pb m1 m1 (iniB f) 0 := fun W hk => by
    obtain ⟨⟨_, _, hm1, D, hD, hF⟩, hG⟩ := HSK.out
    have hkv : Rg.Kept (fun k _ => k = p ∨ k = pb) u1 W := (HV1.out.2.2.2.2.2.1.mono (fun i _ e => .inr e)).trans (hk.mono (fun i _ e => .inl e))
    have hlt := HLT.out
    have hlm := HLM.out
    refine .inl ⟨rfl, ⟨⟨?_, HBB.out.1, by have := HBB.out; omega, D, Gd.own_keptG hD hkv (fun _ _ e => by omega), hF⟩, hG⟩, rfl⟩
    have := hk.block _ _ HV1.out.1 hne.symm
    rw [← HVS.out] at this
    exact this
  have hsV := HV1.out.2.2.2.2.2.2.size
  obtain ⟨W, hW, hW1⟩ := forget_fin (sb := pb) HV1.out.2.1 HV1.out.2.2.2.2.2.2 FB hsV
  have HW1 := hide hW1
  have c12 := HV1.out.2.2.2.1
  have f12 := HV1.out.2.2.2.2.1
  have hpV : p < V.heap.size := (Array.getElem?_eq_some_iff.1 HV1.out.2.1).1
  clear hW1 cg hrg hth FB hsV
  go_wp2
  go_end0
  rw [← hW]
  obtain ⟨y1, y2, y3, y4, y5⟩ := HW1.out
  exact ⟨⟨_, rfl⟩, m1, m1, V.heap.size, y1, y2, y3, ⟨by have := HLM.out; omega, by have := HLM.out; omega⟩, ⟨HLM.out.1, HLM.out.1, y4⟩, y5⟩


set_option maxRecDepth 100000 in
set_option maxHeartbeats 4000000 in
theorem kforget_2 {B : Nat} {w : World} {p : Nat} {f : Int → Int} {j s : Value} {pb : Nat} {cs : Array Value} (hb : w.heap[p]? = some (.cells (kcs 2 f j (goodsV 2 pb) (moneyV 2 pb) s).toArray 64 (0, 0))) (hbk : w.heap[pb]? = some (.cells cs 71 (0, 0))) (hcs : cs.size = 10) (hB : B ≤ pb ∧ B ≤ w.heap.size) :
    Calls Tryz.prog 28 #[.pointer (some ⟨p, 0, none⟩)] w fun e w' => (∃ x, e = .returned x) ∧ ∃ mb mc sb,
      w'.heap[p]? = some (.cells (kcs 2 f j (goodsV 2 pb) (moneyV 2 pb) (.map (some sb))).toArray 64 (0, 0)) ∧ BkK B w' 2 pb mb mc (iniB f) 0 ∧ Mp w' sb 0 (fun _ => 0) ∧ (mb ≠ sb ∧ mc ≠ sb) ∧ (w.heap.size ≤ mb ∧ w.heap.size ≤ mc ∧ w.heap.size ≤ sb) ∧ Rg.Kept (fun k _ => k = p ∨ k = pb) w w' := by
  have hne : p ≠ pb := two_cells hb hbk (by decide)
  have hbD : Below w.heap.size w w.drew := (Below.refl _ _).drew
  have N := Gd.Pu.pnew_any (some ⟨p, 1, none⟩) (lst f) 8 w.drew ((first_ints hb).below hbD) (by rw [lst_len]; omega) (by rw [lst_len]; omega) (fun e => by cases e)
  rw [lst_len] at N
  have c0 : w.cell? ⟨p, 0, none⟩ = some (.int .i64 2) := by rw [cell_of hb, List.getElem?_toArray]; rfl
  have cg : w.cell? ⟨p, 11, none⟩ = some (.pointer (some ⟨pb, 0, none⟩)) := by rw [cell_of hb, List.getElem?_toArray]; rfl
  have MK : Hid (∀ (u : World) (q : Nat) (vs : List Value), Below w.drew.heap.size w.drew u → u.heap[q]? = some (.cells vs.toArray 71 (0, 0)) → vs.length = 10 → u.cell? ⟨p, 11, none⟩ = some (.pointer (some ⟨pb, 0, none⟩)) ∧ u.rangeAt q 0 vs ∧ u.there pb 0 vs.toArray.size ∧ ∃ V, V = u.setCells pb 0 vs ∧ V.heap[pb]? = some (.cells vs.toArray 71 (0, 0)) ∧ V.heap[p]? = some (.cells (kcs 2 f j (goodsV 2 pb) (moneyV 2 pb) s).toArray 64 (0, 0)) ∧ V.cell? ⟨p, 11, none⟩ = some (.pointer (some ⟨pb, 0, none⟩)) ∧ V.cell? ⟨p, 12, none⟩ = some s ∧ V.frozen? ⟨p, 12, none⟩ = false ∧ Rg.Kept (fun k _ => k = pb) u V ∧ Rg.Kept (fun k _ => k = p ∨ k = pb) w V) := fun u q vs hbu hq hl => by
    have hbw := bel_on' hbD hbu
    have h1 := (hbw.block _ (Array.getElem?_eq_some_iff.1 hbk).1).trans hbk
    have h2 := (hbw.block _ (Array.getElem?_eq_some_iff.1 hb).1).trans hb
    obtain ⟨h3, h4⟩ := block_anew h1 (show cs.size = vs.length by omega)
    have h5 := h4.block _ _ h2 hne
    refine ⟨cellL cg hbw, fun i v hv => ?_, fun i hi => ⟨?_, frozen_of_row _ _ _ _ _ h1⟩, _, rfl, h3, h5, by rw [cell_of h5, List.getElem?_toArray]; rfl, by rw [cell_of h5, List.getElem?_toArray]; rfl, frozen_of_row _ _ _ _ _ h5, h4, (Rg.Kept.of_below hbw).trans (h4.mono (fun i _ e => .inr e))⟩
    · rw [Nat.zero_add, cell_of hq, List.getElem?_toArray]; exact hv
    · rw [Nat.zero_add, cell_of h1]
      simp at hi ⊢
      omega
  have HB := hide hb
  have HBB := hide hB
  have HBD := hide hbD
  have HLT : Hid (pb < w.heap.size ∧ p < w.heap.size) := ⟨(Array.getElem?_eq_some_iff.1 hbk).1, (Array.getElem?_eq_some_iff.1 hb).1⟩
  have hmm := @run_makeMap Tryz.prog
  clear hb hbk hcs hB hbD
  go_enter Tryz.func28, Tryz.ntmps28
  go_wp2_with fail
  refine wp_region_held_drew (S := (fun w' => w'.cell? ⟨p, 11, none⟩ = some (.pointer (some ⟨pb, 0, none⟩)))) (by kernel_rfl) cg (fun hHeld => ?_)
  refine wpAnyH_take (i := 0) (oi := { dst := some 22, op := _, type := _, pos := _, after := _, guard := _ }) (v := ?va0) rfl (by kernel_rfl) (by kernel_rfl) (by kernel_rfl) (fun _ _ _ h => h) (Or.inl ⟨by kernel_rfl, ?hya0⟩) hHeld ?resta0
  case hya0 => (intro w' hSw; (try dsimp only at hSw); go_simp; all_goals (with_reducible rfl))
  try simp only [Act.put, List.setIfInBounds_toArray, List.set_cons_zero, List.set_cons_succ]
  refine wpAnyH_take (i := 1) (oi := { dst := some 23, op := _, type := _, pos := _, after := _, guard := _ }) (v := ?va1) rfl (by kernel_rfl) (by kernel_rfl) (by kernel_rfl) (fun _ _ _ h => h) (Or.inl ⟨by kernel_rfl, ?hya1⟩) hHeld ?resta1
  case hya1 => (intro w' hSw; (try dsimp only at hSw); go_simp; all_goals (with_reducible rfl))
  try simp only [Act.put, List.setIfInBounds_toArray, List.set_cons_zero, List.set_cons_succ]
  refine wpAnyH_take (i := 2) (oi := { dst := some 24, op := _, type := _, pos := _, after := _, guard := _ }) (v := ?va2) rfl (by kernel_rfl) (by kernel_rfl) (by kernel_rfl) (fun _ _ _ h => h) (Or.inl ⟨by kernel_rfl, ?hya2⟩) hHeld ?resta2
  case hya2 => (intro w' hSw; (try dsimp only at hSw); go_simp; all_goals (with_reducible rfl))
  try simp only [Act.put, List.setIfInBounds_toArray, List.set_cons_zero, List.set_cons_succ]
  refine wpAnyH_take (i := 3) (oi := { dst := some 25, op := _, type := _, pos := _, after := _, guard := _ }) (v := ?va3) rfl (by kernel_rfl) (by kernel_rfl) (by kernel_rfl) (fun _ _ _ h => h) (Or.inl ⟨by kernel_rfl, ?hya3⟩) hHeld ?resta3
  case hya3 => (intro w' hSw; (try dsimp only at hSw); go_simp; all_goals (with_reducible rfl))
  try simp only [Act.put, List.setIfInBounds_toArray, List.set_cons_zero, List.set_cons_succ]
  refine wpAnyH_take (i := 4) (oi := { dst := some 26, op := _, type := _, pos := _, after := _, guard := _ }) (v := ?va4) rfl (by kernel_rfl) (by kernel_rfl) (by kernel_rfl) (fun _ _ _ h => h) (Or.inl ⟨by kernel_rfl, ?hya4⟩) hHeld ?resta4
  case hya4 => (intro w' hSw; (try dsimp only at hSw); go_simp; all_goals (with_reducible rfl))
  try simp only [Act.put, List.setIfInBounds_toArray, List.set_cons_zero, List.set_cons_succ]
  refine wpAnyH_take (i := 5) (oi := { dst := some 27, op := _, type := _, pos := _, after := _, guard := _ }) (v := ?va5) rfl (by kernel_rfl) (by kernel_rfl) (by kernel_rfl) (fun _ _ _ h => h) (Or.inl ⟨by kernel_rfl, ?hya5⟩) hHeld ?resta5
  case hya5 => (intro w' hSw; (try dsimp only at hSw); go_simp; all_goals (with_reducible rfl))
  try simp only [Act.put, List.setIfInBounds_toArray, List.set_cons_zero, List.set_cons_succ]
  refine wpAnyH_take (i := 6) (oi := { dst := some 28, op := _, type := _, pos := _, after := _, guard := _ }) (v := ?va6) rfl (by kernel_rfl) (by kernel_rfl) (by kernel_rfl) (fun _ _ _ h => h) (Or.inl ⟨by kernel_rfl, ?hya6⟩) hHeld ?resta6
  case hya6 => (intro w' hSw; (try dsimp only at hSw); go_simp; all_goals (with_reducible rfl))
  try simp only [Act.put, List.setIfInBounds_toArray, List.set_cons_zero, List.set_cons_succ]
  refine wpAnyH_take (i := 7) (oi := { dst := some 29, op := _, type := _, pos := _, after := _, guard := _ }) (v := ?va7) rfl (by kernel_rfl) (by kernel_rfl) (by kernel_rfl) (fun _ _ _ h => h) (Or.inl ⟨by kernel_rfl, ?hya7⟩) hHeld ?resta7
  case hya7 => (intro w' hSw; (try dsimp only at hSw); go_simp; all_goals (with_reducible rfl))
  try simp only [Act.put, List.setIfInBounds_toArray, List.set_cons_zero, List.set_cons_succ]
  refine wpAnyH_ready (rs := [8]) (by kernel_rfl) (by simp) ?_
  refine AllReadyH.cons (o := { dst := some 30, op := _, type := _, pos := _, after := _, guard := _ }) rfl (fun K hK => ?_) AllReadyH.nil
  rw [if_pos (by kernel_rfl)]
  go_wp2_with (first | (go_at_call 66; refine N.mono ?_; clear N; rintro e u1 ⟨q1, m1, n1, rfl, sk, hb1⟩; obtain ⟨vs, hvs⟩ : ∃ vs, Gd.Pu.bcs (Gd.Pu.newQ (lst f)).f m1 n1 = vs := ⟨_, rfl⟩; have hq := sk.1.1; rw [hvs] at hq; have hvl : vs.length = 10 := (by rw [← hvs]; rfl); have HON : Hid (∀ x ∈ vs, x.oneCell' = true) := (by rw [← hvs]; exact pbcs_ones _ _ _); obtain ⟨cg1, hrg, hth, V, hV, hV1⟩ := MK.out u1 q1 vs hb1 hq hvl; clear cg; have cg := cg1; have HV := hide hV; have HV1 := hide hV1; have HSK := hide sk; have HVS := hide hvs; have HB1 := hide hb1; clear hV1 cg1 MK hvs hq hb1 sk hV))
  clear hHeld
  refine hK.out _ _ cg (fun hHeld => ?_)
  clear hK K
  try simp only [Act.put, List.setIfInBounds_toArray, List.set_cons_zero, List.set_cons_succ]
  refine wpAnyH_take (i := 9) (oi := { dst := some 31, op := _, type := _, pos := _, after := _, guard := _ }) (v := ?va9) rfl (by kernel_rfl) (by kernel_rfl) (by kernel_rfl) (fun _ _ _ h => h) (Or.inl ⟨by kernel_rfl, ?hya9⟩) hHeld ?resta9
  case hya9 => (intro w' hSw; (try dsimp only at hSw); go_simp; all_goals (with_reducible rfl))
  try simp only [Act.put, List.setIfInBounds_toArray, List.set_cons_zero, List.set_cons_succ]
  refine wpAnyH_ready (rs := [10]) (by kernel_rfl) (by simp) ?_
  refine AllReadyH.cons (o := { dst := some 32, op := _, type := _, pos := _, after := _, guard := _ }) rfl (fun K hK => ?_) AllReadyH.nil
  rw [if_pos (by kernel_rfl)]
  refine wp_load_mid 71 (.tmp 31) rfl q1 0 rfl vs _ hrg Tryz.underlying71 rfl (by rw [hvl]; kernel_rfl) ?_
  clear hHeld
  refine hK.out _ _ cg (fun hHeld => ?_)
  clear hK K
  try simp only [Act.put, List.setIfInBounds_toArray, List.set_cons_zero, List.set_cons_succ]
  refine wpAnyH_take (i := 11) (oi := { dst := some 33, op := _, type := _, pos := _, after := _, guard := _ }) (v := ?va11) rfl (by kernel_rfl) (by kernel_rfl) (by kernel_rfl) (fun _ _ _ h => h) (Or.inl ⟨by kernel_rfl, ?hya11⟩) hHeld ?resta11
  case hya11 => (intro w' hSw; (try dsimp only at hSw); go_simp; all_goals (with_reducible rfl))
  try simp only [Act.put, List.setIfInBounds_toArray, List.set_cons_zero, List.set_cons_succ]
  refine wpAnyH_ready (rs := [12]) (by kernel_rfl) (by simp) ?_
  refine AllReadyH.cons (o := { dst := none, op := _, type := _, pos := _, after := _, guard := _ }) rfl (fun K hK => ?_) AllReadyH.nil
  rw [if_pos (by kernel_rfl)]
  refine wp_store_mid 71 (.tmp 33) (.tmp 32) rfl pb 0 vs.toArray rfl rfl hth (by rw [List.size_toArray, hvl]; kernel_rfl) (all_oneCell_toArray HON.out) ?_
  clear hHeld
  rw [List.toList_toArray, ← HV.out]
  refine hK.out _ _ HV1.out.2.2.1 (fun hHeld => ?_)
  clear hK K hHeld
  try simp only [Act.put]
  refine wpAnyH_done (by kernel_rfl) ?_ _
  have HS0 : w.drew.heap.size = w.heap.size := rfl
  have HLM : Hid ((w.heap.size ≤ m1 ∧ m1 < V.heap.size) ∧ w.heap.size ≤ n1 ∧ n1 < V.heap.size) := ⟨⟨by have := HSK.out.1.2.1.2.1; omega, Nat.lt_of_lt_of_le HSK.out.1.2.2.1.lt HV1.out.2.2.2.2.2.1.size⟩, by have := HSK.out.1.2.1.2.2.1; omega, Nat.lt_of_lt_of_le HSK.out.1.2.2.2.lt HV1.out.2.2.2.2.2.1.size⟩
  have FB : ∀ W, Rg.Kept (fun k _ => k = p) V W → BkK B W 2 pb m1 n1 (iniB f) 0 := fun W hk => by
    obtain ⟨⟨_, hm1, hD, hF⟩, hG⟩ := HSK.out
    have hkv : Rg.Kept (fun k _ => k = p ∨ k = pb) u1 W := (HV1.out.2.2.2.2.2.1.mono (fun i _ e => .inr e)).trans (hk.mono (fun i _ e => .inl e))
    have hlt := HLT.out
    have hlm := HLM.out
    have hbb := HBB.out
    refine .inr ⟨rfl, ⟨?_, ⟨hbb.1, by omega, by omega, hm1.2.2.2⟩, hD.kept hkv (fun _ e => by omega), hF.kept hkv (fun _ e => by omega)⟩, hG⟩
    have := hk.block _ _ HV1.out.1 hne.symm
    rw [← HVS.out] at this
    exact this
  have hsV := HV1.out.2.2.2.2.2.2.size
  obtain ⟨W, hW, hW1⟩ := forget_fin (sb := pb) HV1.out.2.1 HV1.out.2.2.2.2.2.2 FB hsV
  have HW1 := hide hW1
  have c12 := HV1.out.2.2.2.1
  have f12 := HV1.out.2.2.2.2.1
  have hpV : p < V.heap.size := (Array.getElem?_eq_some_iff.1 HV1.out.2.1).1
  clear hW1 cg hrg hth FB hsV
  go_wp2
  go_end0
  rw [← hW]
  obtain ⟨y1, y2, y3, y4, y5⟩ := HW1.out
  exact ⟨⟨_, rfl⟩, m1, n1, V.heap.size, y1, y2, y3, ⟨by have := HLM.out; omega, by have := HLM.out; omega⟩, ⟨HLM.out.1.1, HLM.out.2.1, y4⟩, y5⟩


/-- All but the journal forgotten. -/
theorem kforget_any {B : Nat} {w : World} {p : Nat} {nd : Int} {f : Int → Int} {j s : Value} {pb : Nat} {cs : Array Value} {t : TypeId} (hb : w.heap[p]? = some (.cells (kcs nd f j (goodsV nd pb) (moneyV nd pb) s).toArray 64 (0, 0))) (hbk : w.heap[pb]? = some (.cells cs t (0, 0))) (ht : (nd = 1 ∧ t = 67 ∧ cs.size = 17) ∨ (nd = 2 ∧ t = 71 ∧ cs.size = 10)) (hB : B ≤ pb ∧ B ≤ w.heap.size) :
    Calls Tryz.prog 28 #[.pointer (some ⟨p, 0, none⟩)] w fun e w' => (∃ x, e = .returned x) ∧ ∃ mb mc sb,
      w'.heap[p]? = some (.cells (kcs nd f j (goodsV nd pb) (moneyV nd pb) (.map (some sb))).toArray 64 (0, 0)) ∧ BkK B w' nd pb mb mc (iniB f) 0 ∧ Mp w' sb 0 (fun _ => 0) ∧ (mb ≠ sb ∧ mc ≠ sb) ∧ (w.heap.size ≤ mb ∧ w.heap.size ≤ mc ∧ w.heap.size ≤ sb) ∧ Rg.Kept (fun k _ => k = p ∨ k = pb) w w' := by
  rcases ht with ⟨rfl, rfl, hs⟩ | ⟨rfl, rfl, hs⟩
  · exact kforget_1 hb hbk hs hB
  · exact kforget_2 hb hbk hs hB
end Go.Proofs.YtepclljoiccieaaGreatDoor
/-
  Contracts of keeper's New, Crash; of Crash and Start where there is no keeper.
-/
namespace Go.Proofs.YtepclljoiccieaaGreatDoor
open Go.ChangeShapes Go.WideShapes Go.ChangeAt Go.RowKit Go.Maps

/-- What a keeper that is made of l has at first. -/
def fL (l : List Int) (k : Int) : Int := l.getD k.toNat 0
theorem fl_row (l : List Int) (c : Nat) (hc : c = min l.length 8) : (l.take 8).map (Value.int .i64) ++ (Gd.rowc (fun _ => 0)).drop c = Gd.rowc (fL l) := by
  have hl : ((l.take 8).map (Value.int .i64)).length = c := by rw [List.length_map, List.length_take]; omega
  apply List.ext_getElem?
  intro i
  by_cases h : i < c
  · have h8 : i < 8 := by omega
    have hll : i < l.length := by omega
    rw [List.getElem?_append_left (by omega), Gd.rowc_at _ h8, List.getElem?_map, List.getElem?_take_of_lt h8, List.getElem?_eq_getElem hll]
    simp [fL, List.getD, hll]
  · rw [List.getElem?_append_right (by omega), hl, List.getElem?_drop, show c + (i - c) = i by omega]
    by_cases h8 : i < 8
    · have hll : l.length ≤ i := by omega
      rw [Gd.rowc_at _ h8, Gd.rowc_at _ h8]
      simp [fL, List.getD, hll]
    · rw [List.getElem?_eq_none (by rw [Gd.rowc_len]; omega), List.getElem?_eq_none (by rw [Gd.rowc_len]; omega)]
theorem kept_setRow (w : World) (g : Nat) (c : Array Value) : Rg.Kept (fun k _ => k = g) w (w.setRow g c) := by
  refine ⟨rfl, rfl, rfl, by simp [World.setRow], fun k o hk hx => ?_⟩
  unfold World.setRow
  simp only
  rw [Array.getElem?_modify, if_neg (fun e => hx e.symm)]
  exact hk
/-- copy(n.first[:], l) -/
theorem copy_first {u : World} {p : Nat} {nd : Int} {j g m s : Value} (hb : u.heap[p]? = some (.cells (kcs nd (fun _ => 0) j g m s).toArray 64 (0, 0))) {a : Option Addr} {l : List Int} {cap : Nat} (ha : Ints u a l) :
    ∃ n V, (Builtin.copy_ #[22, 22] 3 #[.slice (some ⟨p, 1, none⟩) 8 8, .slice a l.length cap]).run Tryz.prog u = .ok n V ∧ V.heap[p]? = some (.cells (kcs nd (fL l) j g m s).toArray 64 (0, 0)) ∧ Rg.Kept (fun k _ => k = p) u V := by
  rcases ha with rfl | ⟨b, off, rfl, hc⟩
  · have e1 : kcs nd (fL []) j g m s = kcs nd (fun _ => 0) j g m s := by
      unfold kcs
      rw [show Gd.rowc (fL []) = Gd.rowc (fun _ => 0) from Gd.rowc_congr (fun k _ => by simp [fL])]
    refine ⟨_, u, run_copy_none (P := Tryz.prog) u _ _ _ 3 _ _ _ _ _ _ Tryz.underlying22 (by kernel_rfl) (by simp), ?_, Rg.Kept.refl _ _⟩
    rw [e1]
    exact hb
  · obtain ⟨c, hcl⟩ : ∃ c, c = min l.length 8 := ⟨_, rfl⟩
    have hl : ((l.take 8).map (Value.int .i64)).length = c := by rw [List.length_map, List.length_take]; omega
    have hk := kcs_len nd (fun _ => 0) j g m s
    have hr := run_copy_row Tryz.prog u 22 22 3 3 p 1 8 8 ⟨b, off, none⟩ l.length cap _ 64 ((l.take 8).map (Value.int .i64)) Tryz.underlying22 (by kernel_rfl) hb (by rw [hl, hcl]) (fun i v hi => by
      rw [List.getElem?_map] at hi
      have h8 : i < 8 := by
        rcases Nat.lt_or_ge i 8 with h | h
        · exact h
        · rw [List.getElem?_take, if_neg (by omega)] at hi; cases hi
      rw [List.getElem?_take_of_lt h8] at hi
      have hll : i < l.length := by
        rcases Nat.lt_or_ge i l.length with h | h
        · exact h
        · rw [List.getElem?_eq_none h] at hi; cases hi
      rw [Ms.st_add', hc i hll]
      rw [List.getElem?_eq_getElem hll] at hi
      simpa [List.getD, hll] using hi) (by rw [hl, List.size_toArray, hk]; omega) (fun v hv => by obtain ⟨x, _, rfl⟩ := List.mem_map.1 hv; rfl)
    refine ⟨_, _, hr, ?_, kept_setRow _ _ _⟩
    rw [setRow_heap u p _ _ 64 _ hb, hl]
    have e2 : (kcs nd (fun _ => 0) j g m s).toArray.toList.take 1 ++ (l.take 8).map (Value.int .i64) ++ (kcs nd (fun _ => 0) j g m s).toArray.toList.drop (1 + c) = kcs nd (fL l) j g m s := by
      unfold kcs
      rw [List.toList_toArray, show 1 + c = c + 1 by omega, List.drop_succ_cons, List.take_succ_cons, List.take_zero, List.drop_append_of_le_length (by rw [Gd.rowc_len]; omega), ← fl_row l c hcl]
      simp
    rw [e2]
/-- A keeper that was just made. -/
def MadeK (w : World) (v : Kv) (e : Ending) (w' : World) : Prop :=
  ∃ p E, e = .returned (.pointer (some ⟨p, 0, none⟩)) ∧ Kd w.heap.size E w' p v 0 ∧ Below w.heap.size w w'
theorem kmade_of {w u V w1 : World} {nd room : Int} {l : List Int} {pb : Nat} (hnd : nd = 1 ∨ nd = 2)
    (hbu : Below w.heap.size w u) (j0 : Jr w.heap.size u w.heap.size (.slice none 0 0) (roomV room) [] 0 false) (hpb : w.heap.size + 1 < pb ∧ pb < u.heap.size) (hus : w.heap.size + 1 < u.heap.size)
    (hV : Rg.Kept (fun k _ => k = w.heap.size + 1) u V)
    (h : ∃ mb mc sb, w1.heap[w.heap.size + 1]? = some (.cells (kcs nd (fL l) (.pointer (some ⟨w.heap.size, 0, none⟩)) (goodsV nd pb) (moneyV nd pb) (.map (some sb))).toArray 64 (0, 0)) ∧ BkK w.heap.size w1 nd pb mb mc (iniB (fL l)) 0 ∧ Mp w1 sb 0 (fun _ => 0) ∧ (mb ≠ sb ∧ mc ≠ sb) ∧ (V.heap.size ≤ mb ∧ V.heap.size ≤ mc ∧ V.heap.size ≤ sb) ∧ Rg.Kept (fun k _ => k = w.heap.size + 1 ∨ k = pb) V w1) :
    MadeK w (newKv nd (fL l) room) (.returned (.pointer (some ⟨w.heap.size + 1, 0, none⟩))) w1 := by
  obtain ⟨mb, mc, sb, h1, h2, h3, h4, h5, h6⟩ := h
  have h7 : Rg.Kept (fun k _ => k = w.heap.size + 1 ∨ k = pb) u w1 := (hV.mono (fun i _ e => .inl e)).trans h6
  have j1 : Jr w.heap.size w1 w.heap.size (.slice none 0 0) (roomV room) [] 0 false := j0.kept h7 (fun _ e => by omega) (fun k _ e => by simp [Value.ownBlock] at e)
  have hs := h7.size
  have hsV := hV.size
  obtain ⟨l1, l2, l3⟩ := h2.lt
  refine ⟨w.heap.size + 1, fun k => w.heap.size ≤ k ∧ k < w1.heap.size, rfl, ⟨fun k e => e, newKv_good hnd, w.heap.size, .slice none 0 0, pb, mb, mc, sb, h1, j1, h2, h3, h4, ⟨by omega, by omega⟩, ⟨by omega, by omega⟩, (fun k e => by simp [Value.ownBlock] at e), ⟨by omega, l1⟩, ⟨by omega, l2⟩, ⟨by omega, l3⟩, ⟨by omega, h3.lt⟩⟩, ?_⟩
  exact hbu.trans (h7.bel (by omega) (fun k _ e => by omega))

set_option maxRecDepth 100000 in
set_option maxHeartbeats 1000000 in
theorem knew_1 (room : Int) {a : Option Addr} {l : List Int} {cap : Nat} {w : World} (ha : Ints w a l) :
    Calls Tryz.prog 5 #[.int .i64 1, .slice a l.length cap, .int .i64 room] w (MadeK w (newKv 1 (fL l) room)) := by
  obtain ⟨U, hU⟩ : ∃ U, U = (((w.alloc (.cells #[.int .i64 (roomV room), .slice none 0 0, .int .i64 0, .bool false] 107)).alloc (.cells #[.int .i64 1, .int .i64 0, .int .i64 0, .int .i64 0, .int .i64 0, .int .i64 0, .int .i64 0, .int .i64 0, .int .i64 0, .pointer (some ⟨w.heap.size, 0, none⟩), .pointer (some ⟨w.heap.size + 1 + 1, 0, none⟩), .pointer none, .map none] 64)).alloc (.cells #[.int .i64 0, .int .i64 0, .int .i64 0, .int .i64 0, .int .i64 0, .int .i64 0, .int .i64 0, .int .i64 0, .int .i64 0, .int .i64 0, .int .i64 0, .int .i64 0, .int .i64 0, .int .i64 0, .int .i64 0, .int .i64 0, .map none] 67)) := ⟨_, rfl⟩
  have hU1 : Below w.heap.size w (w.alloc (.cells #[.int .i64 (roomV room), .slice none 0 0, .int .i64 0, .bool false] 107)) := (Below.refl _ _).alloc (Nat.le_refl _) _
  have hU2 : Below (w.alloc (.cells #[.int .i64 (roomV room), .slice none 0 0, .int .i64 0, .bool false] 107)).heap.size (w.alloc (.cells #[.int .i64 (roomV room), .slice none 0 0, .int .i64 0, .bool false] 107)) ((w.alloc (.cells #[.int .i64 (roomV room), .slice none 0 0, .int .i64 0, .bool false] 107)).alloc (.cells #[.int .i64 1, .int .i64 0, .int .i64 0, .int .i64 0, .int .i64 0, .int .i64 0, .int .i64 0, .int .i64 0, .int .i64 0, .pointer (some ⟨w.heap.size, 0, none⟩), .pointer (some ⟨w.heap.size + 1 + 1, 0, none⟩), .pointer none, .map none] 64)) := (Below.refl _ _).alloc (Nat.le_refl _) _
  have hU3 : Below ((w.alloc (.cells #[.int .i64 (roomV room), .slice none 0 0, .int .i64 0, .bool false] 107)).alloc (.cells #[.int .i64 1, .int .i64 0, .int .i64 0, .int .i64 0, .int .i64 0, .int .i64 0, .int .i64 0, .int .i64 0, .int .i64 0, .pointer (some ⟨w.heap.size, 0, none⟩), .pointer (some ⟨w.heap.size + 1 + 1, 0, none⟩), .pointer none, .map none] 64)).heap.size ((w.alloc (.cells #[.int .i64 (roomV room), .slice none 0 0, .int .i64 0, .bool false] 107)).alloc (.cells #[.int .i64 1, .int .i64 0, .int .i64 0, .int .i64 0, .int .i64 0, .int .i64 0, .int .i64 0, .int .i64 0, .int .i64 0, .pointer (some ⟨w.heap.size, 0, none⟩), .pointer (some ⟨w.heap.size + 1 + 1, 0, none⟩), .pointer none, .map none] 64)) U := by rw [hU]; exact (Below.refl _ _).alloc (Nat.le_refl _) _
  have hbu : Below w.heap.size w U := bel_on' hU1 (bel_on' hU2 hU3)
  have hus : U.heap.size = w.heap.size + 3 := by rw [hU]; simp
  have e1 : U.heap[w.heap.size + 1]? = some (.cells (kcs 1 (fun _ => 0) (.pointer (some ⟨w.heap.size, 0, none⟩)) (goodsV 1 (w.heap.size + 1 + 1)) (moneyV 1 (w.heap.size + 1 + 1)) (.map none)).toArray 64 (0, 0)) := by
    have h1 := World.alloc_heap_new (w.alloc (.cells #[.int .i64 (roomV room), .slice none 0 0, .int .i64 0, .bool false] 107)) (.cells #[.int .i64 1, .int .i64 0, .int .i64 0, .int .i64 0, .int .i64 0, .int .i64 0, .int .i64 0, .int .i64 0, .int .i64 0, .pointer (some ⟨w.heap.size, 0, none⟩), .pointer (some ⟨w.heap.size + 1 + 1, 0, none⟩), .pointer none, .map none] 64)
    rw [World.size_alloc] at h1
    exact (hU3.block _ (Array.getElem?_eq_some_iff.1 h1).1).trans h1
  have e2 : U.heap[w.heap.size + 1 + 1]? = some (.cells #[.int .i64 0, .int .i64 0, .int .i64 0, .int .i64 0, .int .i64 0, .int .i64 0, .int .i64 0, .int .i64 0, .int .i64 0, .int .i64 0, .int .i64 0, .int .i64 0, .int .i64 0, .int .i64 0, .int .i64 0, .int .i64 0, .map none] 67 (0, 0)) := by
    have h1 := World.alloc_heap_new ((w.alloc (.cells #[.int .i64 (roomV room), .slice none 0 0, .int .i64 0, .bool false] 107)).alloc (.cells #[.int .i64 1, .int .i64 0, .int .i64 0, .int .i64 0, .int .i64 0, .int .i64 0, .int .i64 0, .int .i64 0, .int .i64 0, .pointer (some ⟨w.heap.size, 0, none⟩), .pointer (some ⟨w.heap.size + 1 + 1, 0, none⟩), .pointer none, .map none] 64)) (.cells #[.int .i64 0, .int .i64 0, .int .i64 0, .int .i64 0, .int .i64 0, .int .i64 0, .int .i64 0, .int .i64 0, .int .i64 0, .int .i64 0, .int .i64 0, .int .i64 0, .int .i64 0, .int .i64 0, .int .i64 0, .int .i64 0, .map none] 67)
    rw [World.size_alloc, World.size_alloc] at h1
    rw [hU]
    exact h1
  have j0 : Jr w.heap.size U w.heap.size (.slice none 0 0) (roomV room) [] 0 false := (Jr.new w w.heap.size (Nat.le_refl _) (roomV room) (roomV_in room).1 (roomV_in room).2).on (bel_on' hU2 hU3)
  obtain ⟨cn, V, hcp, hV1, hV2⟩ := copy_first (cap := cap) e1 (ha.below hbu)
  have e3 := hV2.block _ _ e2 (by omega)
  have F := kforget_any (B := w.heap.size) hV1 e3 (.inl ⟨rfl, rfl, rfl⟩) ⟨by omega, by have := hV2.size; omega⟩
  have MK : Hid (∀ w1, _ → MadeK w (newKv 1 (fL l) room) (.returned (.pointer (some ⟨w.heap.size + 1, 0, none⟩))) w1) := fun w1 h => kmade_of (w1 := w1) (by omega) hbu j0 (show w.heap.size + 1 < w.heap.size + 1 + 1 ∧ w.heap.size + 1 + 1 < U.heap.size by omega) (by omega) hV2 h
  have N := new_any room w
  rw [hU] at hcp
  clear ha hU1 hU2 hU3 hbu hus e1 e2 j0 hV1 hV2 e3 hU
  generalize newKv 1 (fL l) room = vv at MK ⊢
  generalize roomV room = rm at hcp N
  go_enter Tryz.func5, Tryz.ntmps5
  go_wp2_with (first
    | (go_at_call 27; refine N.mono ?_; clear N; rintro e w1 ⟨rfl, rfl⟩)
    | (go_at_call 28; refine F.mono ?_; clear F; rintro e w2 ⟨⟨x, rfl⟩, hx⟩; have HX := hide (MK.out w2 hx); clear hx))
  go_ret
  exact HX.out

set_option maxRecDepth 100000 in
set_option maxHeartbeats 1000000 in
theorem knew_2 (room : Int) {a : Option Addr} {l : List Int} {cap : Nat} {w : World} (ha : Ints w a l) :
    Calls Tryz.prog 5 #[.int .i64 2, .slice a l.length cap, .int .i64 room] w (MadeK w (newKv 2 (fL l) room)) := by
  obtain ⟨U, hU⟩ : ∃ U, U = (((w.alloc (.cells #[.int .i64 (roomV room), .slice none 0 0, .int .i64 0, .bool false] 107)).alloc (.cells #[.int .i64 2, .int .i64 0, .int .i64 0, .int .i64 0, .int .i64 0, .int .i64 0, .int .i64 0, .int .i64 0, .int .i64 0, .pointer (some ⟨w.heap.size, 0, none⟩), .pointer none, .pointer (some ⟨w.heap.size + 1 + 1, 0, none⟩), .map none] 64)).alloc (.cells #[.int .i64 0, .int .i64 0, .int .i64 0, .int .i64 0, .int .i64 0, .int .i64 0, .int .i64 0, .int .i64 0, .map none, .map none] 71)) := ⟨_, rfl⟩
  have hU1 : Below w.heap.size w (w.alloc (.cells #[.int .i64 (roomV room), .slice none 0 0, .int .i64 0, .bool false] 107)) := (Below.refl _ _).alloc (Nat.le_refl _) _
  have hU2 : Below (w.alloc (.cells #[.int .i64 (roomV room), .slice none 0 0, .int .i64 0, .bool false] 107)).heap.size (w.alloc (.cells #[.int .i64 (roomV room), .slice none 0 0, .int .i64 0, .bool false] 107)) ((w.alloc (.cells #[.int .i64 (roomV room), .slice none 0 0, .int .i64 0, .bool false] 107)).alloc (.cells #[.int .i64 2, .int .i64 0, .int .i64 0, .int .i64 0, .int .i64 0, .int .i64 0, .int .i64 0, .int .i64 0, .int .i64 0, .pointer (some ⟨w.heap.size, 0, none⟩), .pointer none, .pointer (some ⟨w.heap.size + 1 + 1, 0, none⟩), .map none] 64)) := (Below.refl _ _).alloc (Nat.le_refl _) _
  have hU3 : Below ((w.alloc (.cells #[.int .i64 (roomV room), .slice none 0 0, .int .i64 0, .bool false] 107)).alloc (.cells #[.int .i64 2, .int .i64 0, .int .i64 0, .int .i64 0, .int .i64 0, .int .i64 0, .int .i64 0, .int .i64 0, .int .i64 0, .pointer (some ⟨w.heap.size, 0, none⟩), .pointer none, .pointer (some ⟨w.heap.size + 1 + 1, 0, none⟩), .map none] 64)).heap.size ((w.alloc (.cells #[.int .i64 (roomV room), .slice none 0 0, .int .i64 0, .bool false] 107)).alloc (.cells #[.int .i64 2, .int .i64 0, .int .i64 0, .int .i64 0, .int .i64 0, .int .i64 0, .int .i64 0, .int .i64 0, .int .i64 0, .pointer (some ⟨w.heap.size, 0, none⟩), .pointer none, .pointer (some ⟨w.heap.size + 1 + 1, 0, none⟩), .map none] 64)) U := by rw [hU]; exact (Below.refl _ _).alloc (Nat.le_refl _) _
  have hbu : Below w.heap.size w U := bel_on' hU1 (bel_on' hU2 hU3)
  have hus : U.heap.size = w.heap.size + 3 := by rw [hU]; simp
  have e1 : U.heap[w.heap.size + 1]? = some (.cells (kcs 2 (fun _ => 0) (.pointer (some ⟨w.heap.size, 0, none⟩)) (goodsV 2 (w.heap.size + 1 + 1)) (moneyV 2 (w.heap.size + 1 + 1)) (.map none)).toArray 64 (0, 0)) := by
    have h1 := World.alloc_heap_new (w.alloc (.cells #[.int .i64 (roomV room), .slice none 0 0, .int .i64 0, .bool false] 107)) (.cells #[.int .i64 2, .int .i64 0, .int .i64 0, .int .i64 0, .int .i64 0, .int .i64 0, .int .i64 0, .int .i64 0, .int .i64 0, .pointer (some ⟨w.heap.size, 0, none⟩), .pointer none, .pointer (some ⟨w.heap.size + 1 + 1, 0, none⟩), .map none] 64)
    rw [World.size_alloc] at h1
    exact (hU3.block _ (Array.getElem?_eq_some_iff.1 h1).1).trans h1
  have e2 : U.heap[w.heap.size + 1 + 1]? = some (.cells #[.int .i64 0, .int .i64 0, .int .i64 0, .int .i64 0, .int .i64 0, .int .i64 0, .int .i64 0, .int .i64 0, .map none, .map none] 71 (0, 0)) := by
    have h1 := World.alloc_heap_new ((w.alloc (.cells #[.int .i64 (roomV room), .slice none 0 0, .int .i64 0, .bool false] 107)).alloc (.cells #[.int .i64 2, .int .i64 0, .int .i64 0, .int .i64 0, .int .i64 0, .int .i64 0, .int .i64 0, .int .i64 0, .int .i64 0, .pointer (some ⟨w.heap.size, 0, none⟩), .pointer none, .pointer (some ⟨w.heap.size + 1 + 1, 0, none⟩), .map none] 64)) (.cells #[.int .i64 0, .int .i64 0, .int .i64 0, .int .i64 0, .int .i64 0, .int .i64 0, .int .i64 0, .int .i64 0, .map none, .map none] 71)
    rw [World.size_alloc, World.size_alloc] at h1
    rw [hU]
    exact h1
  have j0 : Jr w.heap.size U w.heap.size (.slice none 0 0) (roomV room) [] 0 false := (Jr.new w w.heap.size (Nat.le_refl _) (roomV room) (roomV_in room).1 (roomV_in room).2).on (bel_on' hU2 hU3)
  obtain ⟨cn, V, hcp, hV1, hV2⟩ := copy_first (cap := cap) e1 (ha.below hbu)
  have e3 := hV2.block _ _ e2 (by omega)
  have F := kforget_any (B := w.heap.size) hV1 e3 (.inr ⟨rfl, rfl, rfl⟩) ⟨by omega, by have := hV2.size; omega⟩
  have MK : Hid (∀ w1, _ → MadeK w (newKv 2 (fL l) room) (.returned (.pointer (some ⟨w.heap.size + 1, 0, none⟩))) w1) := fun w1 h => kmade_of (w1 := w1) (by omega) hbu j0 (show w.heap.size + 1 < w.heap.size + 1 + 1 ∧ w.heap.size + 1 + 1 < U.heap.size by omega) (by omega) hV2 h
  have N := new_any room w
  rw [hU] at hcp
  clear ha hU1 hU2 hU3 hbu hus e1 e2 j0 hV1 hV2 e3 hU
  generalize newKv 2 (fL l) room = vv at MK ⊢
  generalize roomV room = rm at hcp N
  go_enter Tryz.func5, Tryz.ntmps5
  go_wp2_with (first
    | (go_at_call 27; refine N.mono ?_; clear N; rintro e w1 ⟨rfl, rfl⟩)
    | (go_at_call 28; refine F.mono ?_; clear F; rintro e w2 ⟨⟨x, rfl⟩, hx⟩; have HX := hide (MK.out w2 hx); clear hx))
  go_ret
  exact HX.out

set_option maxRecDepth 100000 in
theorem knew_no {node : Int} (h : ¬ (node = 1 ∨ node = 2)) (room : Int) (a : Option Addr) (len cap : Nat) (w : World) :
    Calls Tryz.prog 5 #[.int .i64 node, .slice a len cap, .int .i64 room] w fun e w' => e = .returned (.pointer none) ∧ Below w.heap.size w w' := by
  have q1 : (node == 1) = false := by simp; intro e; exact h (.inl e)
  have q2 : (node == 2) = false := by simp; intro e; exact h (.inr e)
  have N := new_any room w
  clear h
  generalize roomV room = rm at N
  have HB : Hid (∀ o1 o2 : Obj, Below w.heap.size w ((w.alloc o1).alloc o2)) := fun o1 o2 => ((Below.refl _ _).alloc (Nat.le_refl _) _).alloc (by simp) _
  go_enter Tryz.func5, Tryz.ntmps5
  go_wp2_with (go_at_call 27; refine N.mono ?_; clear N; rintro e w1 ⟨rfl, rfl⟩)
  go_ret
  exact ⟨rfl, HB.out _ _⟩
theorem knew_any {node : Int} (h : node = 1 ∨ node = 2) (room : Int) {a : Option Addr} {l : List Int} {cap : Nat} {w : World} (ha : Ints w a l) :
    Calls Tryz.prog 5 #[.int .i64 node, .slice a l.length cap, .int .i64 room] w (MadeK w (newKv node (fL l) room)) := by
  rcases h with rfl | rfl
  · exact knew_1 room ha
  · exact knew_2 room ha

section
variable {B : Nat} {E : Nat → Prop} {w : World} {p : Nat} {v : Kv} {n : Nat}
/-- All is forgotten but the journal. -/
theorem kforgot_of {w w1 w2 : World} {v : Kv} {q : Nat} {r : Value} {pb mb mc sb : Nat} (hE : ∀ k, E k → B ≤ k ∧ k < w.heap.size) (hG : GoodKv v) (hB : B ≤ w.heap.size) (k : KdV B (growE E w w1) w1 p ⟨v.node, v.f, v.room, v.T, true, v.st⟩ n q r pb mb mc sb) (hk : Rg.Kept (fun k _ => E k) w w1) (hp : E p) (hpb : E pb)
    (h : ∃ mb mc sb, w2.heap[p]? = some (.cells (kcs v.node v.f (.pointer (some ⟨q, 0, none⟩)) (goodsV v.node pb) (moneyV v.node pb) (.map (some sb))).toArray 64 (0, 0)) ∧ BkK B w2 v.node pb mb mc (iniB v.f) 0 ∧ Mp w2 sb 0 (fun _ => 0) ∧ (mb ≠ sb ∧ mc ≠ sb) ∧ (w1.heap.size ≤ mb ∧ w1.heap.size ≤ mc ∧ w1.heap.size ≤ sb) ∧ Rg.Kept (fun k _ => k = p ∨ k = pb) w1 w2) :
    Kd B (growE E w w2) w2 p (crK v) 0 ∧ Rg.Kept (fun k _ => E k) w w2 := by
  obtain ⟨mb', mc', sb', h1, h2, h3, h4, h5, h6⟩ := h
  obtain ⟨⟨a1, _⟩, ⟨b1, _⟩, _, d1⟩ := k.apart
  have s1 := hk.size
  have s2 := h6.size
  obtain ⟨l1, l2, l3⟩ := h2.lt
  have j := k.jr.kept h6 (fun _ e => e.elim (fun e => a1 e.symm) b1) (fun i _ e e' => e'.elim (d1 i e).1 (d1 i e).2.2.1)
  have up : ∀ i, growE E w w1 i → growE E w w2 i := fun i e => e.imp (fun e => e) (fun e => ⟨e.1, by omega⟩)
  refine ⟨⟨kgrow_in hE hB (by omega), crK_good hG, q, r, pb, mb', mc', sb', h1, j, h2, h3, h4, .inl hp, up _ k.eq, fun i e => up _ (k.er i e), .inl hpb, .inr ⟨by omega, l2⟩, .inr ⟨by omega, l3⟩, .inr ⟨by omega, h3.lt⟩⟩, hk.trans (h6.mono (fun i _ e => e.elim (fun e => e ▸ hp) (fun e => e ▸ hpb)))⟩
theorem BkK.cellsOf {B : Nat} {w : World} {nd : Int} {pb mb mc : Nat} {o : Bo} {n : Nat} (k : BkK B w nd pb mb mc o n) : ∃ cs t, w.heap[pb]? = some (.cells cs t (0, 0)) ∧ ((nd = 1 ∧ t = 67 ∧ cs.size = 17) ∨ (nd = 2 ∧ t = 71 ∧ cs.size = 10)) ∧ B ≤ pb := by
  rcases k with ⟨e, h, _⟩ | ⟨e, h⟩
  · exact ⟨_, _, h.1.1, .inl ⟨e, rfl, by simp [Gd.bcs, Gd.rowc_len]⟩, h.1.2.1⟩
  · exact ⟨_, _, h.1.1, .inr ⟨e, rfl, by simp [Gd.Pu.bcs, Gd.Pu.rowc_len]⟩, h.1.2.1.1⟩
theorem kcrash_any (k : Kd B E w p v n) (stay torn : Int) :
    Calls Tryz.prog 7 #[.pointer (some ⟨p, 0, none⟩), .int .i64 stay, .int .i64 torn] w fun e w' => (∃ x, e = .returned x) ∧ Kd B (growE E w w') w' p (crK v) 0 ∧ Rg.Kept (fun k _ => E k) w w' := by
  obtain ⟨hE, hG, q, r, pb, mb, mc, sb, k0⟩ := id k
  have hB := k.low
  have hln : (v.T.map lnK).length = v.T.length := List.length_map _
  have C : Calls Tryz.prog 31 #[.pointer (some ⟨q, 0, none⟩), .int .i64 stay, .int .i64 torn] w fun e w' => (∃ x, e = .returned x) ∧ ∃ r', KdV B (growE E w w') w' p ⟨v.node, v.f, v.room, v.T, true, v.st⟩ n q r' pb mb mc sb ∧ Rg.Kept (fun k _ => E k) w w' := by
    cases hd : v.down
    · have j := k0.jr
      rw [hd] at j
      have cs := crash_sure (v.T.map lnK) stay torn
      rw [hln] at cs
      refine (crash_up j (by rw [hln]; exact Nat.le_refl _) stay torn).mono ?_
      rintro e w' ⟨h1, r', h2, h3⟩
      rw [cs] at h2
      exact ⟨h1, r', k0.jstep h2 h3⟩
    · have j := k0.jr
      rw [hd] at j
      refine (crash_down j stay torn).mono ?_
      rintro e w' ⟨h1, h2⟩
      have k1 := (k0.on h2).wide (E' := growE E w w') (fun i e => .inl e)
      have e1 : (⟨v.node, v.f, v.room, v.T, true, v.st⟩ : Kv) = v := by rw [← hd]
      rw [e1]
      exact ⟨h1, r, k1, Rg.Kept.of_below h2⟩
  have FX : Hid (∀ w1 r', KdV B (growE E w w1) w1 p ⟨v.node, v.f, v.room, v.T, true, v.st⟩ n q r' pb mb mc sb → Rg.Kept (fun k _ => E k) w w1 → Calls Tryz.prog 28 #[.pointer (some ⟨p, 0, none⟩)] w1 fun e w' => (∃ x, e = .returned x) ∧ Kd B (growE E w w') w' p (crK v) 0 ∧ Rg.Kept (fun k _ => E k) w w') := fun w1 r' h1 h2 => by
    obtain ⟨cs, t, y1, y2, y3⟩ := h1.bk.cellsOf
    exact (kforget_any h1.blk y1 y2 ⟨y3, by have := h2.size; omega⟩).mono (fun _ w2 ⟨h3, h4⟩ => ⟨h3, kforgot_of hE hG hB h1 h2 k0.ep k0.eb h4⟩)
  obtain ⟨-, c9, -, -, -⟩ := k0.cells
  clear k0 hE hG hB hln k
  go_enter Tryz.func7, Tryz.ntmps7
  go_wp2_with (first
    | (go_at_call 31; refine C.mono ?_; clear C; rintro e w1 ⟨⟨x, rfl⟩, r', h1, h2⟩; have F := FX.out w1 r' h1 h2; clear h1 h2 FX)
    | (go_at_call 28; refine F.mono ?_; clear F; rintro e w2 ⟨⟨x, rfl⟩, hx⟩; have HX := hide hx; clear hx))
  go_end0
  exact ⟨⟨_, rfl⟩, HX.out⟩
end
theorem kcrash_nil (stay torn : Int) (w : World) : Calls Tryz.prog 7 #[.pointer none, .int .i64 stay, .int .i64 torn] w fun e w' => (∃ x, e = .returned x) ∧ w = w' := by
  go_enter Tryz.func7, Tryz.ntmps7
  go_wp2
  refine bodyPost_ret (results_none rfl _ _ _) rfl ?_
  exact ⟨⟨_, rfl⟩, rfl⟩
theorem kstart_nil (w : World) : Calls Tryz.prog 9 #[.pointer none] w fun e w' => (∃ x, e = .returned x) ∧ Below w.heap.size w w' := by
  have D := kdown_nil (w.alloc (.cells #[.pointer none] 25))
  have hb0 : Below w.heap.size w (w.alloc (.cells #[.pointer none] 25)) := (Below.refl _ _).alloc (Nat.le_refl _) _
  have HB := hide hb0
  clear hb0
  go_enter Tryz.func9, Tryz.ntmps9
  go_wp2_with fail
  go_step3
  go_wp2_with (go_at_call 21; refine D.mono ?_; clear D; rintro e w' ⟨rfl, rfl⟩)
  rw [Exit.noGoto_ret]
  refine bodyPost_ret (results_none rfl _ _ _) rfl ?_
  exact ⟨⟨_, rfl⟩, HB.out⟩
end Go.Proofs.YtepclljoiccieaaGreatDoor
/-
  What a message comes to, way by way; a purse of 1000 with one order, plainly.
-/
namespace Go.Proofs.YtepclljoiccieaaGreatDoor
open Go.RowKit

/-- The keeper behind an entry. -/
def putK (v : Kv) (e : Ke) : Kv := ⟨v.node, v.f, v.room, v.T ++ [e], v.down, kstp v.node v.st e⟩
theorem noteK_put {v : Kv} (h : roomK v = true) (e : Ke) : noteK v e = putK v e := by unfold noteK; rw [if_pos h]; rfl
theorem noteK_full {v : Kv} (h : roomK v = false) (e : Ke) : noteK v e = v := by unfold noteK; rw [h]; rfl
theorem hears_mkK {v : Kv} {m : Ms.Mg} (h1 : v.down = false) (h2 : m.to = v.node) (h3 : 1 ≤ m.id ∧ m.id ≤ 999) (h4 : m.fr = 0 ∨ m.fr = 3 - v.node) : hearsK v m = true := by
  unfold hearsK
  rw [h1, h2, Hd.isI_iff.2 h3]
  rcases h4 with h | h <;> simp [h]
theorem hk_stay {v : Kv} {m : Ms.Mg} (hh : hearsK v m = true) (hn : nxt v m = v.st.s m.id) : hkS v m = v ∧ hkA v m = ansL v.node (ansK v m) m := by
  have e3 : hkK v m = ansK v m := by unfold hkK; rw [hh, if_pos rfl, if_neg (fun h => h.1 hn)]
  refine ⟨by unfold hkS; rw [hh, if_pos rfl, if_pos hn], by unfold hkA ansL; rw [e3]⟩
theorem hk_move {v : Kv} {m : Ms.Mg} (hh : hearsK v m = true) (hn : nxt v m ≠ v.st.s m.id) (hr : roomK v = true) : hkS v m = putK v (entK v m) ∧ hkA v m = ansL v.node (ansK v m) m := by
  have e3 : hkK v m = ansK v m := by unfold hkK; rw [hh, if_pos rfl, if_neg (fun h => by rw [hr] at h; cases h.2)]
  refine ⟨by unfold hkS; rw [hh, if_pos rfl, if_neg hn, noteK_put hr], by unfold hkA ansL; rw [e3]⟩
theorem hk_full {v : Kv} {m : Ms.Mg} (hh : hearsK v m = true) (hn : nxt v m ≠ v.st.s m.id) (hr : roomK v = false) : hkS v m = v ∧ hkA v m = [] := by
  have e3 : hkK v m = 0 := by unfold hkK; rw [hh, if_pos rfl, if_pos ⟨hn, hr⟩]
  refine ⟨by unfold hkS; rw [hh, if_pos rfl, if_neg hn, noteK_full hr], by unfold hkA; rw [e3]; rfl⟩

/-- A purse of 1000 with one order: what it stands at, what the till has. -/
structure Pv (v : Kv) (i P s : Int) (len : Nat) (till : Int) : Prop where
  nd : v.node = 2
  dn : v.down = false
  rm : v.room = 50
  ln : v.T.length = len
  st : v.st.s i = s
  a : s = 1 → v.st.o.m.a i = some (0, P)
  tl : Gd.Pu.tillQ v.st.o.m = till
  gd : GoodKv v
theorem Pv.room {v : Kv} {i P s : Int} {len : Nat} {till : Int} (h : Pv v i P s len till) (hl : len < 50) : roomK v = true := by unfold roomK; rw [h.rm, h.ln]; simp; omega
theorem pv_new (i P : Int) : Pv (newKv 2 (fL [1000]) 50) i P 0 0 0 := by
  refine ⟨rfl, rfl, rfl, rfl, rfl, fun h => (by cases h), ?_, newKv_good (.inr rfl)⟩
  show (Gd.Pu.toP (Gd.Pu.newQ _)).till = 0
  rw [Gd.Pu.toP_new]
  rfl
theorem pv_tk {i P : Int} (hi : 1 ≤ i ∧ i ≤ 999) (hP : 1 ≤ P ∧ P ≤ 1000) : tkE 2 (newKv 2 (fL [1000]) 50).st.o i 0 P = 0 := by
  show Gd.Pu.alwE (Gd.Pu.toP (Gd.Pu.newQ (lst (fL [1000])))) i 0 P = 0
  rw [Gd.Pu.toP_new]
  obtain ⟨h1, h2, h3, h4, h5, h6⟩ := Gd.Pu.new_view (lst (fL [1000]))
  rw [Gd.Pu.alwE_of ⟨hi, by omega, by omega, by omega⟩, h6, h5, h1, h2, h3, h4, if_neg (by simp)]
  have e : Gd.clampA ((lst (fL [1000])).getD (0 : Int).toNat 0) = 1000 := by rfl
  rw [e, if_pos (by omega), if_pos (by omega)]
theorem pv_prep {i P : Int} (hi : 1 ≤ i ∧ i ≤ 999) (hP : 1 ≤ P ∧ P ≤ 1000) : ∃ v1, hkS (newKv 2 (fL [1000]) 50) ⟨6, 0, 2, i, 0, 0, P⟩ = v1 ∧ hkA (newKv 2 (fL [1000]) 50) ⟨6, 0, 2, i, 0, 0, P⟩ = [⟨7, 2, 0, i, 0, 0, 0⟩] ∧ Pv v1 i P 1 1 0 := by
  have p0 := pv_new i P
  have ht := pv_tk hi hP
  generalize hv : newKv 2 (fL [1000]) 50 = v at p0 ht ⊢
  have hh : hearsK v ⟨6, 0, 2, i, 0, 0, P⟩ = true := hears_mkK p0.dn p0.nd.symm hi (.inl rfl)
  have hc : canK v ⟨6, 0, 2, i, 0, 0, P⟩ = true := by
    unfold canK
    simp only [p0.st, p0.nd, ht]
    rfl
  have hx : nxt v ⟨6, 0, 2, i, 0, 0, P⟩ = 1 := by unfold nxt; rw [hc]; simp only [p0.st]; rfl
  have ha : ansK v ⟨6, 0, 2, i, 0, 0, P⟩ = 7 := by unfold ansK; rw [hc]; simp only [p0.st]; rfl
  obtain ⟨e1, e2⟩ := hk_move hh (by rw [hx]; simp only [p0.st]; decide) (p0.room (by omega))
  have hg := hkS_good p0.gd ⟨6, 0, 2, i, 0, 0, P⟩
  refine ⟨_, rfl, ?_, ?_⟩
  · rw [e2, ha, p0.nd]
    rfl
  · rw [e1] at hg ⊢
    have ee : entK v ⟨6, 0, 2, i, 0, 0, P⟩ = ⟨1, i, 0, P⟩ := by unfold entK; rw [hx]
    rw [ee] at hg ⊢
    have hb : kbo v.node v.st.o ⟨1, i, 0, P⟩ = ⟨v.st.o.g, ⟨v.st.o.m.f, Gd.updO v.st.o.m.a i (some (0, P)), v.st.o.m.d⟩⟩ := by
      show tkS v.node v.st.o i 0 P = _
      unfold tkS tkE at *
      rw [p0.nd, if_neg (by decide)]
      rw [if_neg (by decide)] at ht
      rw [Gd.Pu.alwQ_ok ht]
    refine ⟨p0.nd, p0.dn, p0.rm, by simp [putK, p0.ln], ?_, fun _ => ?_, ?_, hg⟩
    · show Hd.upd v.st.s i 1 i = 1
      rw [Hd.upd_same]
    · show (kbo v.node v.st.o ⟨1, i, 0, P⟩).m.a i = _
      rw [hb]
      exact Gd.updO_same _ _ _
    · show Gd.Pu.tillQ (kbo v.node v.st.o ⟨1, i, 0, P⟩).m = 0
      rw [hb]
      exact p0.tl
theorem pv_move {v : Kv} {i P : Int} {len : Nat} {till : Int} (h : Pv v i P 1 len till) (hl : len < 50) (hi : 1 ≤ i ∧ i ≤ 999) {c a b : Int} (hc : 2 ≤ c ∧ c ≤ 5) : Pv (putK v ⟨c, i, a, b⟩) i P c (len + 1) (if yesV c = true then till + P else till) := by
  have hg : GoodKv (putK v ⟨c, i, a, b⟩) := by
    rw [← noteK_put (h.room hl)]
    refine noteK_good h.gd h.dn ⟨by show 1 ≤ c ∧ c ≤ 5; omega, hi, fun (e : c = 1) => by omega⟩
  have ha := h.a rfl
  refine ⟨h.nd, h.dn, h.rm, by simp [putK, h.ln], ?_, fun e => by omega, ?_, hg⟩
  · show Hd.upd v.st.s i c i = c
    rw [Hd.upd_same]
  · show Gd.Pu.tillQ (kbo v.node v.st.o ⟨c, i, a, b⟩).m = _
    have hgq := h.gd.goodT.o.m
    unfold kbo
    rw [if_neg (show ¬ c = 1 by omega)]
    by_cases hy : yesV c = true
    · rw [if_pos hy, if_pos hy]
      unfold slS
      rw [h.nd, if_neg (by decide)]
      show (Gd.Pu.toP (Gd.Pu.capQ v.st.o.m i)).till = _
      rw [Gd.Pu.toP_cap hgq, (Gd.Pu.cap_view hgq.gp (s := Gd.Pu.toP v.st.o.m) ha).2.1]
      show Gd.Pu.tillQ v.st.o.m + P = _
      rw [h.tl]
    · rw [if_neg hy, if_neg hy]
      unfold frS
      rw [h.nd, if_neg (by decide)]
      show (Gd.Pu.toP (Gd.Pu.voidQ v.st.o.m i)).till = _
      rw [Gd.Pu.toP_void, (Gd.Pu.void_view hgq.gp (s := Gd.Pu.toP v.st.o.m) ha).2.1]
      show Gd.Pu.tillQ v.st.o.m = _
      rw [h.tl]
theorem pv_ring {v : Kv} {i P s : Int} {len : Nat} {till : Int} (h : Pv v i P s len till) : rgA v i = if s = 1 then [⟨12, 2, 0, i, 0, 0, 0⟩, ⟨12, 2, 1, i, 0, 0, 0⟩] else [] := by
  unfold rgA
  rw [h.st, h.nd]
  rfl
theorem pv_force {v : Kv} {i P s : Int} {len : Nat} {till : Int} (h : Pv v i P s len till) (hl : len < 50) (hi : 1 ≤ i ∧ i ≤ 999) (y : Bool) : fcE v i = (if s = 1 then 0 else 7) ∧ fcS v i y = if s = 1 then putK v ⟨frcS 1 y, i, 0, 0⟩ else v := by
  have hm := h.gd.may i
  rw [h.st] at hm
  unfold fcE fcS frcE
  rw [h.dn, h.st, Hd.isI_iff.2 hi, if_neg (by decide), if_pos rfl, if_pos hm, h.room hl, noteK_put (h.room hl)]
  by_cases e : s = 1
  · subst e
    exact ⟨rfl, rfl⟩
  · simp only [if_neg e]
    exact ⟨by decide, if_neg (fun h => e h.2)⟩
end Go.Proofs.YtepclljoiccieaaGreatDoor
/-
  What the reference's Handle comes to, plainly.
-/
namespace Go.Proofs.YtepclljoiccieaaGreatDoor
open Go.RowKit

def askd (v : Kv) (k : Int) (I : Nat) : Bool := decide (v.st.s I = 0) && decide (k = 6) && roomK v
/-- What can is; what the keeper is behind take. -/
def cnK (v : Kv) (k : Int) (I : Nat) (x y : Int) : Bool := askd v k I && decide (tkE v.node v.st.o I x y = 0)
def vtK (v : Kv) (k : Int) (I : Nat) (x y : Int) : Kv := if askd v k I = true then ⟨v.node, v.f, v.room, v.T, v.down, ⟨tkS v.node v.st.o I x y, v.st.s⟩⟩ else v
section
variable {v : Kv} {k x y : Int} {I : Nat}
theorem vt_no (h : askd v k I = false) : vtK v k I x y = v := by unfold vtK; rw [if_neg (by rw [h]; decide)]
theorem asked_of (h : askd v k I = true) : v.st.s I = 0 ∧ k = 6 ∧ roomK v = true := by
  unfold askd at h
  simp only [Bool.and_eq_true, decide_eq_true_eq] at h
  exact ⟨h.1.1, h.1.2, h.2⟩
theorem cn_room {m1 m2 m4 : Int} (hr : roomK v = true) : cnK v k I x y = canK v ⟨k, m1, m2, I, m4, x, y⟩ := by
  unfold cnK askd canK
  rw [hr]
  simp only [Bool.and_true]
  rw [Bool.and_comm (decide (v.st.s I = 0)) (decide (k = 6))]
theorem mnt6 : mnt 6 = 6 := by rfl
theorem mnt_six (h : mnt k = 6) : k = 6 := by
  unfold mnt at h
  split at h
  · omega
  · split at h <;> omega
/-- Where it is not asked can is no matter. -/
theorem nx_any {s k : Int} (h : ¬ (s = 0 ∧ k = 6)) (c c' : Bool) : nxS s (mnt k) c = nxS s (mnt k) c' ∧ nxK s (mnt k) c = nxK s (mnt k) c' := by
  unfold nxS nxK
  by_cases h6 : mnt k = 6
  · have hk := mnt_six h6
    have hs : ¬ s = 0 := fun e => h ⟨e, hk⟩
    rw [if_pos h6, if_pos h6, if_pos h6, if_pos h6, if_neg hs, if_neg hs, if_neg hs, if_neg hs]
    exact ⟨rfl, rfl⟩
  · rw [if_neg h6, if_neg h6, if_neg h6, if_neg h6]
    exact ⟨rfl, rfl⟩
theorem nx_asked (c : Bool) : nxS 0 (mnt 6) c = (if c = true then 1 else 3) := rfl
/-- The same state: nothing was taken. -/
theorem rhk_same {m1 m2 m4 : Int} (hh : hearsK v ⟨k, m1, m2, I, m4, x, y⟩ = true) (h : nxS (v.st.s I) (mnt k) (cnK v k I x y) = v.st.s I) :
    vtK v k I x y = v ∧ hkS v ⟨k, m1, m2, I, m4, x, y⟩ = v ∧ hkK v ⟨k, m1, m2, I, m4, x, y⟩ = nxK (v.st.s I) (mnt k) (cnK v k I x y) := by
  have hna : ¬ (v.st.s I = 0 ∧ k = 6) := fun e => by
    rw [e.1, e.2, nx_asked] at h
    split at h <;> omega
  have ha : askd v k I = false := by
    cases hc : askd v k I
    · rfl
    · exact absurd ⟨(asked_of hc).1, (asked_of hc).2.1⟩ hna
  obtain ⟨e1, e2⟩ := nx_any hna (cnK v k I x y) (canK v ⟨k, m1, m2, I, m4, x, y⟩)
  have hn : nxt v ⟨k, m1, m2, I, m4, x, y⟩ = v.st.s I := e1.symm.trans h
  refine ⟨vt_no ha, ?_, ?_⟩
  · unfold hkS
    rw [if_pos hh, if_pos hn]
  · unfold hkK
    rw [if_pos hh, if_neg (fun e => e.1 hn)]
    unfold ansK
    exact e2.symm
theorem rhk_full {m1 m2 m4 : Int} (hh : hearsK v ⟨k, m1, m2, I, m4, x, y⟩ = true) (hr : roomK v = false) (h : nxS (v.st.s I) (mnt k) (cnK v k I x y) ≠ v.st.s I) :
    vtK v k I x y = v ∧ hkS v ⟨k, m1, m2, I, m4, x, y⟩ = v ∧ hkA v ⟨k, m1, m2, I, m4, x, y⟩ = [] := by
  have ha : askd v k I = false := by unfold askd; rw [hr]; simp
  have hn : nxt v ⟨k, m1, m2, I, m4, x, y⟩ ≠ v.st.s I := by
    unfold nxt
    by_cases hna : v.st.s I = 0 ∧ k = 6
    · rw [show v.st.s ((⟨k, m1, m2, I, m4, x, y⟩ : Ms.Mg).id) = 0 from hna.1, show (⟨k, m1, m2, I, m4, x, y⟩ : Ms.Mg).k = 6 from hna.2, nx_asked]
      split <;> omega
    · obtain ⟨e1, _⟩ := nx_any hna (cnK v k I x y) (canK v ⟨k, m1, m2, I, m4, x, y⟩)
      intro e
      exact h (e1.trans e)
  refine ⟨vt_no ha, ?_, ?_⟩
  · unfold hkS
    rw [if_pos hh, if_neg hn, noteK_full hr]
  · have hk0 : hkK v ⟨k, m1, m2, I, m4, x, y⟩ = 0 := by
      unfold hkK
      rw [if_pos hh, if_pos ⟨hn, hr⟩]
    unfold hkA
    rw [if_pos hk0]
/-- What is noted, and what the book is behind it. -/
theorem rhk_room {m1 m2 m4 : Int} (hG : GoodKv v) (hi : 1 ≤ I ∧ I ≤ 999) (hh : hearsK v ⟨k, m1, m2, I, m4, x, y⟩ = true) (hr : roomK v = true) {s2 : Int} (hs : nxS (v.st.s I) (mnt k) (cnK v k I x y) = s2) (h : s2 ≠ v.st.s I) :
    (s2 = 1 ∨ s2 = 2 ∨ s2 = 3) ∧ OkK ⟨s2, I, x, y⟩ ∧ hkK v ⟨k, m1, m2, I, m4, x, y⟩ = nxK (v.st.s I) (mnt k) (cnK v k I x y) ∧
    hkS v ⟨k, m1, m2, I, m4, x, y⟩ = ⟨v.node, v.f, v.room, v.T ++ [⟨s2, I, x, y⟩], v.down, ⟨(if s2 = 1 then (vtK v k I x y).st.o else if s2 = 2 then slS v.node (vtK v k I x y).st.o I else frS v.node (vtK v k I x y).st.o I), Hd.upd v.st.s I s2⟩⟩ := by
  have hc : cnK v k I x y = canK v ⟨k, m1, m2, I, m4, x, y⟩ := cn_room hr
  have hn : nxt v ⟨k, m1, m2, I, m4, x, y⟩ = s2 := by unfold nxt; rw [← hs, hc]
  have hn' : nxt v ⟨k, m1, m2, I, m4, x, y⟩ ≠ v.st.s I := by rw [hn]; exact h
  have hok := ent_ok hG (m := ⟨k, m1, m2, I, m4, x, y⟩) (by show 1 ≤ (I : Int) ∧ (I : Int) ≤ 999; omega) hn'
  unfold entK at hok
  rw [hn] at hok
  have h3 : s2 = 1 ∨ s2 = 2 ∨ s2 = 3 := by
    rw [← hs] at h ⊢
    unfold nxS at h ⊢
    revert h
    (repeat' split) <;> intro h <;> first | omega | exact absurd rfl h
  refine ⟨h3, hok, ?_, ?_⟩
  · unfold hkK
    rw [if_pos hh, if_neg (fun e => by rw [hr] at e; cases e.2)]
    unfold ansK
    rw [hc]
  · unfold hkS
    rw [if_pos hh, if_neg hn', noteK_put hr]
    unfold putK entK kstp
    rw [hn]
    have hb : kbo v.node v.st.o ⟨s2, I, x, y⟩ = if s2 = 1 then (vtK v k I x y).st.o else if s2 = 2 then slS v.node (vtK v k I x y).st.o I else frS v.node (vtK v k I x y).st.o I := by
      by_cases hna : v.st.s I = 0 ∧ k = 6
      · have ha : askd v k I = true := by unfold askd; rw [hr]; simp [hna]
        have hv : (vtK v k I x y).st.o = tkS v.node v.st.o I x y := by unfold vtK; rw [if_pos ha]
        rw [hna.1, hna.2, nx_asked] at hs
        rw [hv]
        by_cases hcn : cnK v 6 I x y = true
        · rw [if_pos hcn] at hs
          subst hs
          rfl
        · rw [if_neg hcn] at hs
          subst hs
          have ht : tkE v.node v.st.o I x y ≠ 0 := fun e => hcn (by unfold cnK; rw [← hna.2, ha, e]; rfl)
          rw [tkS_no ht]
          rfl
      · have ha : askd v k I = false := by
          cases hc : askd v k I
          · rfl
          · exact absurd ⟨(asked_of hc).1, (asked_of hc).2.1⟩ hna
        rw [vt_no ha]
        have h1 : s2 ≠ 1 := fun e => by
          rw [← hs] at e h
          unfold nxS at e h
          by_cases h6 : mnt k = 6
          · have hk := mnt_six h6
            rw [if_pos h6, if_neg (fun e => hna ⟨e, hk⟩)] at h
            exact h rfl
          · rw [if_neg h6] at e h
            revert e h
            (repeat' split) <;> intro e h <;> first | omega | exact absurd rfl h
        rcases h3 with h3 | h3 | h3
        · exact absurd h3 h1
        · subst h3; rfl
        · subst h3; rfl
    show Kv.mk v.node v.f v.room (v.T ++ [⟨s2, I, x, y⟩]) v.down ⟨kbo v.node v.st.o ⟨s2, I, x, y⟩, Hd.upd v.st.s I s2⟩ = _
    rw [hb]
end
end Go.Proofs.YtepclljoiccieaaGreatDoor
/-
  Contract of keeper's Start.
-/
namespace Go.Proofs.YtepclljoiccieaaGreatDoor
open Go.ChangeShapes Go.WideShapes Go.ChangeAt Go.RowKit Go.Shelf Go.Maps

attribute [local go_sem] Oper.semAt_some

/-- A scope that the run goes through without a goto, in a fenced walk. -/
theorem wpIn_scope {F : Fence} {n : Nat} {P : Program} {Q : Exit → Act → World → Prop} {a : Act} {w : World} {c : Code} (h : c.wpIn F n P (Exit.noGoto Q) a w) : (Code.scope c).wpIn F n P Q a w := by
  intro b k cs hro hb hr
  have h0 : (lone (b.atR a (.code (.scope c) :: k)) cs w).fenced P F := fenced_calm hb hr rfl
  have s0 : step P (lone (b.atR a (.code (.scope c) :: k)) cs w) = .next (lone (b.atR a (.code c :: .inScope c :: k)) cs w) := step_lone_go (by simp [stepG, stepG.exec, Frame.atR])
  have s1 : ∀ a w, step P (lone (b.atR a (.inScope c :: k)) cs w) = .next (lone (b.atR a k) cs w) := fun a w => step_lone_go (by simp [stepG, stepG.exec, Frame.atR])
  obtain ⟨e, a₁, w₁, hq, harr⟩ := h b (.inScope c :: k) cs hro hb hr
  cases e with
  | normal => exact ⟨.normal, a₁, w₁, hq, .head h0 s0 (StepsIn.trans harr (.one (fenced_calm hb hr rfl) (s1 _ _)))⟩
  | exit id =>
    have hx : exitTo id (.inScope c :: k) = exitTo id k := by simp [exitTo]
    exact ⟨.exit id, a₁, w₁, hq, fun k' hk => .head h0 s0 (harr.1 k' (by rw [hx]; exact hk)), fun hr' hk => let ⟨k₁, h1, h2⟩ := harr.2 hr' (by rw [hx]; exact hk); ⟨k₁, h1, .head h0 s0 h2⟩⟩
  | goto l => exact hq.elim
  | ret => exact ⟨_, a₁, w₁, hq, .of_steps (.one h0 s0) harr⟩
  | panic ch => exact ⟨_, a₁, w₁, hq, .of_steps (.one h0 s0) harr⟩
  | outgrown => exact ⟨_, a₁, w₁, hq, .of_steps (.one h0 s0) harr⟩
/-- The words of package keeper's table, by place. -/
def wdA (j : Nat) : ByteArray := if j = 0 then ⟨#[]⟩ else wB j
theorem wdI0 (w : World) : (Instr.index 79 (.agg #[.string ⟨#[]⟩, .string ⟨#[114, 101, 97, 100, 121]⟩, .string ⟨#[121, 101, 115]⟩, .string ⟨#[110, 111]⟩, .string ⟨#[102, 121, 101, 115]⟩, .string ⟨#[102, 110, 111]⟩]) (.int .i64 0)).run Tryz.prog w = .ok (.string ⟨#[]⟩) w := by kernel_rfl
theorem wdI1 (w : World) : (Instr.index 79 (.agg #[.string ⟨#[]⟩, .string ⟨#[114, 101, 97, 100, 121]⟩, .string ⟨#[121, 101, 115]⟩, .string ⟨#[110, 111]⟩, .string ⟨#[102, 121, 101, 115]⟩, .string ⟨#[102, 110, 111]⟩]) (.int .i64 1)).run Tryz.prog w = .ok (.string ⟨#[114, 101, 97, 100, 121]⟩) w := by kernel_rfl
theorem wdI2 (w : World) : (Instr.index 79 (.agg #[.string ⟨#[]⟩, .string ⟨#[114, 101, 97, 100, 121]⟩, .string ⟨#[121, 101, 115]⟩, .string ⟨#[110, 111]⟩, .string ⟨#[102, 121, 101, 115]⟩, .string ⟨#[102, 110, 111]⟩]) (.int .i64 2)).run Tryz.prog w = .ok (.string ⟨#[121, 101, 115]⟩) w := by kernel_rfl
theorem wdI3 (w : World) : (Instr.index 79 (.agg #[.string ⟨#[]⟩, .string ⟨#[114, 101, 97, 100, 121]⟩, .string ⟨#[121, 101, 115]⟩, .string ⟨#[110, 111]⟩, .string ⟨#[102, 121, 101, 115]⟩, .string ⟨#[102, 110, 111]⟩]) (.int .i64 3)).run Tryz.prog w = .ok (.string ⟨#[110, 111]⟩) w := by kernel_rfl
theorem wdI4 (w : World) : (Instr.index 79 (.agg #[.string ⟨#[]⟩, .string ⟨#[114, 101, 97, 100, 121]⟩, .string ⟨#[121, 101, 115]⟩, .string ⟨#[110, 111]⟩, .string ⟨#[102, 121, 101, 115]⟩, .string ⟨#[102, 110, 111]⟩]) (.int .i64 4)).run Tryz.prog w = .ok (.string ⟨#[102, 121, 101, 115]⟩) w := by kernel_rfl
theorem wdI5 (w : World) : (Instr.index 79 (.agg #[.string ⟨#[]⟩, .string ⟨#[114, 101, 97, 100, 121]⟩, .string ⟨#[121, 101, 115]⟩, .string ⟨#[110, 111]⟩, .string ⟨#[102, 121, 101, 115]⟩, .string ⟨#[102, 110, 111]⟩]) (.int .i64 5)).run Tryz.prog w = .ok (.string ⟨#[102, 110, 111]⟩) w := by kernel_rfl
theorem wdA_index {j : Nat} (h : j < 6) (w : World) : (Instr.index 79 (.agg #[.string ⟨#[]⟩, .string ⟨#[114, 101, 97, 100, 121]⟩, .string ⟨#[121, 101, 115]⟩, .string ⟨#[110, 111]⟩, .string ⟨#[102, 121, 101, 115]⟩, .string ⟨#[102, 110, 111]⟩]) (.int .i64 j)).run Tryz.prog w = .ok (.string (wdA j)) w := by
  have hj : j = 0 ∨ j = 1 ∨ j = 2 ∨ j = 3 ∨ j = 4 ∨ j = 5 := by omega
  rcases hj with rfl | rfl | rfl | rfl | rfl | rfl
  · exact wdI0 w
  · exact wdI1 w
  · exact wdI2 w
  · exact wdI3 w
  · exact wdI4 w
  · exact wdI5 w
theorem wdA_ne {j C : Nat} (h : j < C) (hC : C ≤ 5) : ((wdA j).toList == (wB C).toList) = false := by
  simp only [ByteArray.toList_eq]
  have hc : (C = 1 ∧ j = 0) ∨ (C = 2 ∧ (j = 0 ∨ j = 1)) ∨ (C = 3 ∧ (j = 0 ∨ j = 1 ∨ j = 2)) ∨ (C = 4 ∧ (j = 0 ∨ j = 1 ∨ j = 2 ∨ j = 3)) ∨ (C = 5 ∧ (j = 0 ∨ j = 1 ∨ j = 2 ∨ j = 3 ∨ j = 4)) := by omega
  rcases hc with ⟨rfl, rfl⟩ | ⟨rfl, rfl | rfl⟩ | ⟨rfl, rfl | rfl | rfl⟩ | ⟨rfl, rfl | rfl | rfl | rfl⟩ | ⟨rfl, rfl | rfl | rfl | rfl | rfl⟩ <;> decide
theorem wdA_eq {C : Nat} (h1 : 1 ≤ C) (_hC : C ≤ 5) : ((wdA C).toList == (wB C).toList) = true := by
  unfold wdA
  rw [if_neg (by omega)]
  simp
/-- What the loop of Start has, pre having come. -/
def SIk (w0 w : World) (E1 : Nat → Prop) (v : Kv) (p q : Nat) (r : Value) (pb mb mc sb n : Nat) (w2 : World) (pre : List Ev) (W : World) : Prop :=
  KdV w0.heap.size E1 W p ⟨v.node, v.f, v.room, v.T, false, (v.T.take pre.length).foldl (kstp v.node) (kini v.f)⟩ (n + 2 * pre.length) q r pb mb mc sb ∧ Boxed W w.heap.size 25 (.pointer (some ⟨p, 0, none⟩)) ∧ Rg.Kept (fun k _ => E1 k) w2 W ∧ pre.length ≤ v.T.length ∧ w2.heap.size ≤ W.heap.size
theorem SIk.above {w0 w : World} {E1 : Nat → Prop} {v : Kv} {p q : Nat} {r : Value} {pb mb mc sb n : Nat} {w1 w2 : World} {pre : List Ev} {W W' : World} {F : Nat → Obj → Prop} (hE : ∀ k, E1 k → (w0.heap.size ≤ k ∧ k < w1.heap.size) ∧ k ≠ w.heap.size) (hs : w.heap.size < w2.heap.size ∧ w1.heap.size ≤ w2.heap.size) (h : SIk w0 w E1 v p q r pb mb mc sb n w2 pre W) (hk : Rg.Kept (fun k o => w2.heap.size ≤ k ∧ F k o) W W') : SIk w0 w E1 v p q r pb mb mc sb n w2 pre W' := by
  obtain ⟨h1, h2, h3, h4, h5⟩ := h
  refine ⟨h1.kept hk (fun k o e1 e2 => by have := hE k e1; omega), hk.block _ _ h2 (fun e => by omega), ⟨hk.os.trans h3.os, hk.tape.trans h3.tape, hk.output.trans h3.output, Nat.le_trans h3.size hk.size, fun k o hk' hx => hk.block k o (h3.block k o hk' hx) (fun e => by have := (Array.getElem?_eq_some_iff.1 hk').1; omega)⟩, h4, Nat.le_trans h5 hk.size⟩

section
variable {E : Nat → Prop} {w0 w : World} {p : Nat} {v : Kv} {n : Nat}
theorem kstart_up {B : Nat} (k : Kd B E w p v n) (hd : v.down = false) :
    Calls Tryz.prog 9 #[.pointer (some ⟨p, 0, none⟩)] w fun e w' => (∃ x, e = .returned x) ∧ Below w.heap.size w w' := by
  have hb0 : Below w.heap.size w (w.alloc (.cells #[.pointer (some ⟨p, 0, none⟩)] 25)) := (Below.refl _ _).alloc (Nat.le_refl _) _
  obtain ⟨hE, hG, q, r, pb, mb, mc, sb, k0⟩ := id (k.on hb0)
  have D := kdown_any k0
  rw [hd] at D
  have HB := hide hb0
  clear k0 k hE hG hd hb0
  go_enter Tryz.func9, Tryz.ntmps9
  go_wp2_with fail
  go_step3
  go_wp2_with (go_at_call 21; refine D.mono ?_; clear D; rintro e w' ⟨rfl, rfl⟩)
  rw [Exit.noGoto_ret]
  refine bodyPost_ret (results_none rfl _ _ _) rfl ?_
  exact ⟨⟨_, rfl⟩, HB.out⟩

set_option maxRecDepth 100000 in
set_option maxHeartbeats 4000000 in
theorem kstart_down (hg0 : Gl w0) (hw : Below w0.heap.size w0 w) (k : Kd w0.heap.size E w p v n) (hd : v.down = true) (hn : n < 600000) :
    Calls Tryz.prog 9 #[.pointer (some ⟨p, 0, none⟩)] w fun e w' => (∃ x, e = .returned x) ∧ Kd w0.heap.size (growE E w w') w' p (upK v) (n + 10000) ∧ Rg.Kept (fun k _ => E k) w w' := by
  refine (callsIn_wide (n := 5)).1 ?_
  obtain ⟨hE, hG, q, r, pb, mb, mc, sb, k00⟩ := id k
  obtain ⟨U, hU⟩ : ∃ U, U = w.alloc (.cells #[.pointer (some ⟨p, 0, none⟩)] 25) := ⟨_, rfl⟩
  have hbU : Below w.heap.size w U := by rw [hU]; exact (Below.refl _ _).alloc (Nat.le_refl _) _
  have hbx : Boxed U w.heap.size 25 (.pointer (some ⟨p, 0, none⟩)) := by
    show U.heap[w.heap.size]? = _
    rw [hU]
    exact World.alloc_heap_new w _
  have k0 := k00.on hbU
  have D := kdown_any k0
  have hln : (v.T.map lnK).length = v.T.length := List.length_map _
  have hok : ∀ x ∈ v.T.map lnK, Ok x := fun x hx => by obtain ⟨e, he, rfl⟩ := List.mem_map.1 hx; exact ok_ke (hG.ok e he)
  have hwh := whole_ok _ hok
  have j := k0.jr
  rw [hd] at j D
  have R : Calls Tryz.prog 33 #[.pointer (some ⟨q, 0, none⟩)] U fun e w' => (∃ x, e = .returned x) ∧ ∃ r', KdV w0.heap.size (fun k => growE E w w' k ∧ k ≠ w.heap.size) w' p ⟨v.node, v.f, v.room, v.T, false, v.st⟩ n q r' pb mb mc sb ∧ Rg.Kept (fun k _ => E k) w w' ∧ Boxed w' w.heap.size 25 (.pointer (some ⟨p, 0, none⟩)) := by
    refine (recover_down hg0 (bel_on' hw hbU) j).mono ?_
    rintro e w' ⟨h1, r', h2, h3⟩
    rw [hwh, List.take_length, hln] at h2
    obtain ⟨h4, h5⟩ := k0.jstep h2 h3
    have h6 : Boxed w' w.heap.size 25 (.pointer (some ⟨p, 0, none⟩)) := h5.block _ _ hbx (fun e => by have := (hE _ e).2; omega)
    have wd : ∀ i, growE E U w' i → growE E w w' i := fun i e => e.imp (fun e => e) (fun e => ⟨Nat.le_trans hbU.size e.1, e.2⟩)
    have ne : ∀ i, E i → i ≠ w.heap.size := fun i e => by have := (hE _ e).2; omega
    refine ⟨⟨_, h1⟩, r', ⟨h4.blk, h4.jr, h4.bk, h4.mp, h4.ne, ⟨.inl k0.ep, ne _ k0.ep⟩, ⟨.inl k0.eq, ne _ k0.eq⟩, fun i e => ⟨wd i (h4.er i e), ?_⟩, ⟨.inl k0.eb, ne _ k0.eb⟩, ⟨.inl k0.em, ne _ k0.em⟩, ⟨.inl k0.ec, ne _ k0.ec⟩, ⟨.inl k0.es, ne _ k0.es⟩⟩, (Rg.Kept.of_below hbU).trans h5, h6⟩
    obtain ⟨cs, hr⟩ := h2.rowObj e
    exact two_cells hr h6 (by decide)
  obtain ⟨-, c9, -, -, -⟩ := k00.cells
  have hpl := k00.lt
  have HG := hide hg0
  have HW := hide hw
  have HE := hide hE
  have HGD := hide hG
  have HK := hide k
  have HUW := hide hU
  rw [hU] at D
  clear hg0 hw k hE hG k00 k0 hbU hbx hU j
  rw [HUW.out] at R
  refine callsIn_of_wp_marks Tryz.func9 rfl trivial ?_ rfl
  simp only [Tryz.ntmps9, List.size_toArray, List.length_cons, List.length_nil, Nat.reduceAdd, Nat.reduceSub, Array.replicate_succ, Array.replicate_zero, List.push_toArray, List.append_toArray, List.nil_append, List.cons_append]
  gi_wp2_with fail
  refine wpIn_scope ?_
  gi_wp2_with fail
  refine ⟨trivial, (callsIn_wide.2 D).mono ?_⟩
  rintro e w' ⟨rfl, rfl⟩
  gi_wp2_with fail
  refine ⟨trivial, (callsIn_wide.2 R).mono ?_⟩
  rintro e w1 ⟨⟨x0, rfl⟩, r', k1, hk1, hbx1⟩
  obtain ⟨-, d9, -, -, -⟩ := k1.cells
  have hb1 := hbx1.cell
  gi_wp2_with fail
  refine wpIn_label ?_
  gi_wp2_with fail
  refine ⟨trivial, (all_in 4 (by omega) k1.jr).mono ?_⟩
  rintro e w2 ⟨a, c, Bs, rfl, hcb, hla, hbs, hb⟩
  have hs01 := hk1.size
  have hs12 := hb.size
  have hL4 : (v.T.map lnK).length ≤ 4096 := k1.jr.2.2.2.2.1
  have hX : ∀ x ∈ v.T.map lnK, x.size ≤ 63 := fun x hx => (k1.jr.2.2.2.2.2 x hx).2
  have hw0 : w0.heap.size ≤ w.heap.size := HW.out.size
  have hW2 : Below w0.heap.size w0 w2 := (HW.out.trans (HK.out.bel hk1)).trans (hb.mono (by omega))
  have ES := Rp.entries_tells 4 (by omega) Bs w1.heap.size w2.heap.size w0 HG.out a c (v.T.map lnK) hL4 hX w2 hcb hla hW2 (Nat.le_refl _)
  obtain ⟨E1, hE1⟩ : ∃ E1 : Nat → Prop, (fun k => growE E w w1 k ∧ k ≠ w.heap.size) = E1 := ⟨_, rfl⟩
  have bE1 : ∀ k, E1 k → (w0.heap.size ≤ k ∧ k < w1.heap.size) ∧ k ≠ w.heap.size := fun k e => by
    rw [← hE1] at e
    refine ⟨?_, e.2⟩
    rcases e.1 with e | e
    · have := HE.out k e; omega
    · omega
  have sE1 : ∀ k, E1 k → growE E w w1 k := fun k e => by rw [← hE1] at e; exact e.1
  rw [hE1] at k1
  have i0 : SIk w0 w E1 v p q r' pb mb mc sb n w2 [] w2 := by
    refine ⟨?_, (hb.block _ hbx1.lt).trans hbx1, Rg.Kept.refl _ _, Nat.zero_le _, Nat.le_refl _⟩
    have e1 : v.st = kini v.f := by rw [HGD.out.st_, hd]; rfl
    have := k1.on hb
    rw [e1] at this
    exact this
  have K1 := hide k1
  have HI := hide i0
  have hlnT : v.T.length ≤ 4096 := by omega
  clear k1 i0 hcb hla hbx1 hb1 d9 hE1 hok hX
  gi_wp2_with fail
  refine Rp.range_tells (I := SIk w0 w E1 v p q r' pb mb mc sb n w2) (Ix := fun _ _ _ => False)
    (Ax := fun x a' W => ∃ Bx, w2.heap.size ≤ Bx ∧ W.heap[Bx]? = some (.cells #[.string x.k, .int .i64 x.id, .slice x.av x.l.length x.cv] 78 (0, 0)) ∧
      a' = { tmps := #[Value.pointer (some { block := p, off := 0 }), Value.pointer (some { block := w.heap.size, off := 0 }), Value.pointer (some { block := Bx, off := 0 }), undef, undef,
          Value.pointer (some { block := p, off := 0 }), Value.bool true, Value.bool false,
          Value.pointer (some { block := p, off := 0 }), Value.pointer (some { block := p, off := 0 }),
          Value.pointer (some { block := p, off := 9 }), Value.pointer (some { block := q, off := 0 }), x0,
          Value.pointer (some { block := p, off := 0 }), Value.pointer (some { block := p, off := 0 }),
          Value.pointer (some { block := p, off := 9 }), Value.pointer (some { block := q, off := 0 }),
          Value.func (Fn.func 102) #[] #[Value.pointer (some { block := Bs, off := 0 })], x.enc, undef, undef, undef, undef, undef, undef, undef, undef, undef, undef, undef, undef, undef, undef], defers := [] })
    rfl (by omega) (gf := 102) (lb := #[.pointer (some ⟨Bs, 0, none⟩)]) rfl trivial (enters_of Tryz.func102 (by kernel_rfl) rfl) ES
    (fun h k => h.trans k) (fun W l o o' hl' ho hc => ⟨⟨rfl, rfl, rfl, by simp, fun k hk => World.putObj_heap_other (by omega)⟩, fun k _ hk => World.putObj_heap_other (by omega)⟩) (fun _ => rfl)
    (ownFrom_kept (fun pre W W' hs hk => SIk.above bE1 (by omega) hs hk)) (fun c s W W' row hs hg hr => hs.elim) (fun x a' => ?ax) (fun pre x s W W' row hs hg hr => ⟨good_own _ _ x () W W' row hs.1 hg hr, hs.2⟩) HI.out ?assign ?body ?done ?stop
  case ax =>
    refine ownFrom_kept (fun _ W W' hs hk => ?_)
    obtain ⟨Bx, h0, h1, h2⟩ := hs
    exact ⟨Bx, h0, hk.block _ _ h1 (fun e => by cases e.2), h2⟩
  case assign =>
    intro l pre x W K hI hG hK
    have hW7 := hI.2.2.2.2
    have hbA : Below W.heap.size W (W.alloc (.cells #[.string x.k, .int .i64 x.id, .slice x.av x.l.length x.cv] 78)) := (Below.refl _ _).alloc (Nat.le_refl _) _
    have HK' := hK { tmps := #[Value.pointer (some { block := p, off := 0 }), Value.pointer (some { block := w.heap.size, off := 0 }), Value.pointer (some { block := W.heap.size, off := 0 }), undef, undef,
          Value.pointer (some { block := p, off := 0 }), Value.bool true, Value.bool false,
          Value.pointer (some { block := p, off := 0 }), Value.pointer (some { block := p, off := 0 }),
          Value.pointer (some { block := p, off := 9 }), Value.pointer (some { block := q, off := 0 }), x0,
          Value.pointer (some { block := p, off := 0 }), Value.pointer (some { block := p, off := 0 }),
          Value.pointer (some { block := p, off := 9 }), Value.pointer (some { block := q, off := 0 }),
          Value.func (Fn.func 102) #[] #[Value.pointer (some { block := Bs, off := 0 })], x.enc, undef, undef, undef, undef, undef, undef, undef, undef, undef, undef, undef, undef, undef, undef], defers := [] } _
      ((KeepsOthers.alloc _ _).from _) (Keep.of_below hbA (by omega) hW7) (SIk.above (F := fun _ _ => True) bE1 (by omega) hI (Rg.Kept.of_below hbA)) ⟨⟨hG.1.1.below hbA, hG.1.2⟩, hG.2⟩ ⟨W.heap.size, hW7, World.alloc_heap_new W _, rfl⟩
    clear hK
    unfold Ev.enc at HK' ⊢
    gi_wp2
    exact HK'
  case body =>
    rintro l pre x a' W hI ⟨Bx, hB0, hbx, rfl⟩ ⟨hGd, hpr⟩ hlt
    have hltT : pre.length < v.T.length := by omega
    have hWs : w2.heap.size ≤ W.heap.size := hI.2.2.2.2
    obtain ⟨e, he⟩ : ∃ e, v.T[pre.length]? = some e := ⟨_, List.getElem?_eq_getElem hltT⟩
    have hoe : OkK e := HGD.out.ok e (List.mem_of_getElem? he)
    have hgd : (v.T.map lnK).getD pre.length ByteArray.empty = lnK e := by simp [List.getD, he]
    rw [hgd] at hpr
    obtain ⟨ek, ei, el⟩ := ke_parse hoe hpr
    obtain ⟨xk, xi, xl, xa, xc⟩ := x
    simp only [Ev.enc] at *
    subst ek ei el
    have hst : (kstp v.node) ((v.T.take pre.length).foldl (kstp v.node) (kini v.f)) e = (v.T.take (pre.length + 1)).foldl (kstp v.node) (kini v.f) := by
      rw [List.take_add_one, he, List.foldl_append]
      rfl
    have FW := (kfollow_any hI.1 (fun k e => by have := bE1 k e; omega) hoe (KD := wB e.c) (c := xc) hGd.1.ints (fun hc ad e1 h => by
      rcases hGd.1 with h0 | ⟨b, off, h1, h2, _⟩
      · unfold nK at h0; rw [if_pos hc] at h0; cases h0
      · rw [h1] at e1; cases e1; have := bE1 _ h; simp only at this; omega) (by have := hI.2.2.2.1; omega)).mono (R' := fun x w' => (∃ y, x = .returned y) ∧ KeepsFrom w2.heap.size W w' ∧ Keep w0.heap.size w1.heap.size w2.heap.size W w' ∧ SIk w0 w E1 v p q r' pb mb mc sb n w2 (pre ++ [⟨wB e.c, e.id, nK e, xa, xc⟩]) w') (fun y w' ⟨z1, z2, z3⟩ => by
        refine ⟨z1, ⟨z3.size, fun k o hk ho _ => z3.block k o ho (fun e => by have := bE1 k e; omega)⟩, ⟨z3.bel (by omega) (fun k _ e => (bE1 k e).1.1), fun k h0 h1 => ?_⟩, ?_, z3.block _ _ hI.2.1 (fun e => (bE1 _ e).2 rfl), hI.2.2.1.trans z3, by simp; omega, Nat.le_trans hI.2.2.2.2 z3.size⟩
        · have hlk : k < W.heap.size := by have := hI.2.2.2.2; omega
          have ek : W.heap[k]? = some W.heap[k] := Array.getElem?_eq_getElem hlk
          rw [ek]
          exact z3.block k _ ek (fun e => by have := bE1 k e; omega)
        · rw [hst] at z2
          rw [List.length_append, List.length_singleton]
          exact z2)
    have hcb1 := hI.2.1.cell
    have e0 : W.cell? ⟨Bx, 0, none⟩ = some (.string (wB e.c)) := by rw [cell_of hbx]; rfl
    have e1 : W.cell? ⟨Bx, 1, none⟩ = some (.int .i64 e.id) := by rw [cell_of hbx]; rfl
    have e2 : W.cell? ⟨Bx, 2, none⟩ = some (.slice xa (nK e).length xc) := by rw [cell_of hbx]; rfl
    have hbW0 : Below w0.heap.size w0 W := hW2.trans (hI.2.2.1.bel (by omega) (fun k _ e => (bE1 k e).1.1))
    obtain ⟨⟨g0, g1, g2⟩, g3, g4, g5⟩ := (HG.out.on hbW0).wd.cell
    obtain ⟨C, hC⟩ : ∃ C : Nat, e.c = C := ⟨e.c.toNat, by have := hoe.c; omega⟩
    have hC5 : C ≤ 5 := by have := hoe.c; omega
    have hC1 : 1 ≤ C := by have := hoe.c; omega
    have HNE : Hid (∀ j, j < C → ((wdA j).toList == (wB e.c).toList) = false) := fun j hj => by rw [hC]; exact wdA_ne hj hC5
    have HEQ : Hid (((wdA C).toList == (wB e.c).toList) = true) := by show _ = _; rw [hC]; exact wdA_eq hC1 hC5
    clear hst hgd he hoe hGd hpr
    generalize wB e.c = K0 at *
    generalize e.id = K1' at *
    rw [hC] at FW
    clear hC
    gi_wp2_with fail
    gi_loopw [20] (fun i wr => ∃ j : Nat, i = .int .i64 j ∧ j ≤ C ∧ wr = W) (fun i _ => C - (Go.RowKit.intOf i).toNat)
    case atStart => exact ⟨0, rfl, Nat.zero_le _, rfl⟩
    case round =>
      obtain ⟨j, rfl, hj, rfl⟩ := hrel
      have hj6 : (j : Int) < 6 := by omega
      have hix := wdA_index (show j < 6 by omega) wr
      by_cases hjc : j < C
      · have hq := HNE.out j hjc
        generalize wdA j = Wj at hix hq
        gi_wp2
        go_roundw
        case rel => exact ⟨j + 1, by go_num, by omega, trivial⟩
        case measure => simp [Go.RowKit.intOf]; omega
      · obtain rfl : j = C := by omega
        have hq := HEQ.out
        generalize wdA j = Wj at hix hq
        gi_wp2_with fail
        refine ⟨trivial, (CallsIn.inRound l (callsIn_wide.2 FW)).mono ?_⟩
        rintro y w3 ⟨⟨z, rfl⟩, hz1, hz2, hz3⟩
        clear FW hI hbx
        gi_wp2
        exact ⟨hz1, hz2, hz3⟩
  case done =>
    rintro D xs W hD ⟨hlen, -⟩ hI hK
    rw [hwh, hln] at hlen
    have hDl : D < W.heap.size := (Array.getElem?_eq_some_iff.1 hK).1
    have FIN : Hid (Kd w0.heap.size (growE E w (W.putObj D (.deferred none))) (W.putObj D (.deferred none)) p (upK v) (n + 10000) ∧ Rg.Kept (fun k _ => E k) w (W.putObj D (.deferred none))) := by
      have kp : Rg.Kept (fun k o => w2.heap.size ≤ k ∧ True) W (W.putObj D (.deferred none)) := (Rg.Kept.putObj (E := fun k o => w2.heap.size ≤ k ∧ True) _ (fun _ => ⟨hD, trivial⟩))
      obtain ⟨h1, h2, h3, h4, h5⟩ := SIk.above (F := fun _ _ => True) bE1 (by omega) hI kp
      rw [hlen, List.take_length] at h1
      have eU : upK v = ⟨v.node, v.f, v.room, v.T, false, krun v.node v.f v.T⟩ := by unfold upK; rw [if_pos hd]
      have hsz := h3.size
      refine ⟨⟨kgrow_in HE.out HK.out.low (by omega), upK_good HGD.out, q, r', pb, mb, mc, sb, ?_⟩, ?_⟩
      · rw [eU]
        exact (h1.more (by omega)).wide (fun i e => (sE1 i e).imp (fun e => e) (fun e => ⟨e.1, by omega⟩))
      · have kb : Rg.Kept (fun k _ => E k) w w2 := hk1.trans (Rg.Kept.of_below hb)
        refine kept_grow kb (h3.mono (fun i _ e => (sE1 i e).imp (fun e => e) (fun e => ⟨e.1, by omega⟩)))
    gi_wp2
    refine ⟨by simp, .inl ⟨_, _, rfl, run_takeDeferred hK, ?_⟩⟩
    exact ⟨_, results_none rfl _ _ _, ⟨_, rfl⟩, FIN.out⟩
  case stop => exact fun D c pre W _ _ h _ => h.elim
end
end Go.Proofs.YtepclljoiccieaaGreatDoor
/-
  The keeper's steps above a world w0, with answers named; the answers told so far beside it; the law's awake.
-/
namespace Go.Proofs.YtepclljoiccieaaGreatDoor
open Go.ChangeShapes Go.WideShapes Go.ChangeAt Go.RowKit Go.Maps

theorem An.seven {w : World} {E : Nat → Prop} {a : Option Addr} {m : Ms.Mg} {xs : List Ms.Mg} (h : An w E a (m :: xs)) : ∃ b off, a = some ⟨b, off, none⟩ ∧
    (w.cell? ⟨b, off, none⟩ = some (.int .i64 m.k) ∧ w.cell? ⟨b, off + 1, none⟩ = some (.int .i64 m.fr) ∧ w.cell? ⟨b, off + 2, none⟩ = some (.int .i64 m.to) ∧ w.cell? ⟨b, off + 3, none⟩ = some (.int .i64 m.id) ∧ w.cell? ⟨b, off + 4, none⟩ = some (.int .i64 m.st) ∧ w.cell? ⟨b, off + 5, none⟩ = some (.int .i64 m.a) ∧ w.cell? ⟨b, off + 6, none⟩ = some (.int .i64 m.b)) := by
  rcases h with h | ⟨b, off, h1, h2, h3⟩
  · cases h
  · exact ⟨b, off, h1, h3 0 _ rfl, h3 1 _ rfl, h3 2 _ rfl, h3 3 _ rfl, h3 4 _ rfl, h3 5 _ rfl, h3 6 _ rfl⟩
theorem An.second {w : World} {E : Nat → Prop} {b off : Nat} {m m2 : Ms.Mg} (h : An w E (some ⟨b, off, none⟩) [m, m2]) :
    w.cell? ⟨b, off + 7, none⟩ = some (.int .i64 m2.k) ∧ w.cell? ⟨b, off + 8, none⟩ = some (.int .i64 m2.fr) ∧ w.cell? ⟨b, off + 9, none⟩ = some (.int .i64 m2.to) ∧ w.cell? ⟨b, off + 10, none⟩ = some (.int .i64 m2.id) := by
  rcases h with h | ⟨b', off', h1, h2, h3⟩
  · cases h
  · cases h1
    exact ⟨h3 7 _ rfl, h3 8 _ rfl, h3 9 _ rfl, h3 10 _ rfl⟩
theorem An.of {w : World} {E : Nat → Prop} {a : Option Addr} {xs : List Ms.Mg} (h : Ms.Mgs w a xs) (hE : ∀ ad, a = some ad → ¬ E ad.block) : An w E a xs := by
  rcases h with h2 | ⟨b, off, h8, h9⟩
  · exact .inl h2
  · exact .inr ⟨b, off, h8, hE _ h8, h9⟩

/-- The keeper at p above w0; what was told so far, and messages of one's own, beside it. -/
def KX (w0 w : World) (p : Nat) (v : Kv) (n : Nat) (L : List (Option Addr × List Ms.Mg)) : Prop :=
  ∃ E, (Kd w0.heap.size E w p v n ∧ Below w0.heap.size w0 w) ∧ ∀ x ∈ L, An w E x.1 x.2
section
variable {w0 w : World} {p : Nat} {v : Kv} {n : Nat} {L : List (Option Addr × List Ms.Mg)}
theorem KX.step {w' : World} {E E' : Nat → Prop} {v' : Kv} {n' : Nat} (hb : Below w0.heap.size w0 w) (kk : Kd w0.heap.size E w p v n) (hL : ∀ x ∈ L, An w E x.1 x.2) (k' : Kd w0.heap.size E' w' p v' n') (hk : Rg.Kept (fun k _ => E k) w w') (hE : ∀ k, E' k → growE E w w' k) : KX w0 w' p v' n' L :=
  ⟨E', ⟨k', hb.trans (kk.bel hk)⟩, fun x hx => (hL x hx).step hk hE⟩
theorem KX.on {w' : World} (k : KX w0 w p v n L) (hb : Below w.heap.size w w') : KX w0 w' p v n L := by
  obtain ⟨E, ⟨h1, h2⟩, h3⟩ := k
  exact ⟨E, ⟨h1.on hb, bel_on' h2 hb⟩, fun x hx => (h3 x hx).on hb⟩
theorem KX.more {n' : Nat} (k : KX w0 w p v n L) (hn : n ≤ n') : KX w0 w p v n' L := by
  obtain ⟨E, ⟨h1, h2⟩, h3⟩ := k
  exact ⟨E, ⟨h1.more hn, h2⟩, h3⟩
theorem KX.bel (k : KX w0 w p v n L) : Below w0.heap.size w0 w := by obtain ⟨E, ⟨h1, h2⟩, h3⟩ := k; exact h2
theorem KX.good (k : KX w0 w p v n L) : GoodKv v := by obtain ⟨E, ⟨h1, h2⟩, h3⟩ := k; exact h1.good
theorem KX.tail {x : Option Addr × List Ms.Mg} (k : KX w0 w p v n (x :: L)) : KX w0 w p v n L := by
  obtain ⟨E, h1, h3⟩ := k
  exact ⟨E, h1, fun y hy => h3 y (List.mem_cons_of_mem _ hy)⟩
theorem KX.head {a : Option Addr} {xs : List Ms.Mg} (k : KX w0 w p v n ((a, xs) :: L)) : ∃ E, An w E a xs := by
  obtain ⟨E, h1, h3⟩ := k
  exact ⟨E, h3 _ (List.mem_cons_self ..)⟩
theorem KX.seven {a : Option Addr} {m : Ms.Mg} {xs : List Ms.Mg} (k : KX w0 w p v n ((a, m :: xs) :: L)) : ∃ b off, a = some ⟨b, off, none⟩ ∧
    (w.cell? ⟨b, off, none⟩ = some (.int .i64 m.k) ∧ w.cell? ⟨b, off + 1, none⟩ = some (.int .i64 m.fr) ∧ w.cell? ⟨b, off + 2, none⟩ = some (.int .i64 m.to) ∧ w.cell? ⟨b, off + 3, none⟩ = some (.int .i64 m.id) ∧ w.cell? ⟨b, off + 4, none⟩ = some (.int .i64 m.st) ∧ w.cell? ⟨b, off + 5, none⟩ = some (.int .i64 m.a) ∧ w.cell? ⟨b, off + 6, none⟩ = some (.int .i64 m.b)) := by
  obtain ⟨E, h⟩ := k.head
  exact h.seven
theorem KX.second {b off : Nat} {m m2 : Ms.Mg} (k : KX w0 w p v n ((some ⟨b, off, none⟩, [m, m2]) :: L)) :
    w.cell? ⟨b, off + 7, none⟩ = some (.int .i64 m2.k) ∧ w.cell? ⟨b, off + 8, none⟩ = some (.int .i64 m2.fr) ∧ w.cell? ⟨b, off + 9, none⟩ = some (.int .i64 m2.to) ∧ w.cell? ⟨b, off + 10, none⟩ = some (.int .i64 m2.id) := by
  obtain ⟨E, h⟩ := k.head
  exact h.second
/-- A message of one's own. -/
theorem KX.box (k : KX w0 w p v n L) (m : Ms.Mg) : KX w0 (w.alloc (.cells #[.int .i64 m.k, .int .i64 m.fr, .int .i64 m.to, .int .i64 m.id, .int .i64 m.st, .int .i64 m.a, .int .i64 m.b] 31)) p v n ((some ⟨w.heap.size, 0, none⟩, [m]) :: L) := by
  have hb : Below w.heap.size w (w.alloc (.cells #[.int .i64 m.k, .int .i64 m.fr, .int .i64 m.to, .int .i64 m.id, .int .i64 m.st, .int .i64 m.a, .int .i64 m.b] 31)) := (Below.refl _ _).alloc (Nat.le_refl _) _
  obtain ⟨E, ⟨h1, h2⟩, h3⟩ := k
  refine ⟨E, ⟨h1.on hb, bel_on' h2 hb⟩, fun x hx => ?_⟩
  rcases List.mem_cons.1 hx with rfl | hx
  · refine An.of (Ms.mgs_new w [m] _ rfl) (fun ad e e' => ?_)
    cases e
    have : w.heap.size < w.heap.size := (h1.1 _ e').2
    omega
  · exact (h3 x hx).on hb
theorem KX.new {node : Int} (h : node = 1 ∨ node = 2) (room : Int) {a : Option Addr} {l : List Int} {cap : Nat} (ha : Ints w0 a l) :
    Calls Tryz.prog 5 #[.int .i64 node, .slice a l.length cap, .int .i64 room] w0 fun e w' => ∃ p, e = .returned (.pointer (some ⟨p, 0, none⟩)) ∧ KX w0 w' p (newKv node (fL l) room) 0 [] :=
  (knew_any h room ha).mono (fun _ _ ⟨p, E, h1, h2, h3⟩ => ⟨p, h1, E, ⟨h2, h3⟩, fun _ h => by cases h⟩)
theorem KX.handle (hg : Gl w0) (k : KX w0 w p v n L) (hn : n < 700000) {m : Ms.Mg} (hw : (Lit.int .i64 m.id).wf = true) {xs : List Ms.Mg} {v' : Kv} (hx : hkA v m = xs) (hv : hkS v m = v') :
    Calls Tryz.prog 16 #[.pointer (some ⟨p, 0, none⟩), .agg #[.int .i64 m.k, .int .i64 m.fr, .int .i64 m.to, .int .i64 m.id, .int .i64 m.st, .int .i64 m.a, .int .i64 m.b]] w fun e w' => ∃ a c, e = .returned (.slice a xs.length c) ∧ KX w0 w' p v' (n + 4) ((a, xs) :: L) := by
  subst hx hv
  obtain ⟨E, ⟨h1, h2⟩, h3⟩ := k
  refine (khandle_any h1 (fun u hu => hg.on (h2.trans (h1.bel hu))) hw hn).mono ?_
  rintro e w' ⟨a, c, E', y1, y2, y3, y4, y5, y6⟩
  obtain ⟨E2, y7, y8⟩ := KX.step h2 h1 h3 y5 y6 y4
  refine ⟨a, c, y1, E', ⟨y5, h2.trans (h1.bel y6)⟩, fun x hx => ?_⟩
  rcases List.mem_cons.1 hx with rfl | hx
  · exact An.of y2 (fun ad e => (y3 ad e).1)
  · exact (h3 x hx).step y6 y4
theorem KX.ring (k : KX w0 w p v n L) {id : Int} (hw : (Lit.int .i64 id).wf = true) {xs : List Ms.Mg} (hx : rgA v id = xs) :
    Calls Tryz.prog 12 #[.pointer (some ⟨p, 0, none⟩), .int .i64 id] w fun e w' => ∃ a c, e = .returned (.slice a xs.length c) ∧ KX w0 w' p v n ((a, xs) :: L) := by
  subst hx
  obtain ⟨E, ⟨h1, h2⟩, h3⟩ := k
  have k1 := h1
  obtain ⟨hE, _, q, r, pb, mb, mc, sb, k0⟩ := k1
  refine (kring_any k0 hw).mono ?_
  rintro e w' ⟨a, c, y1, y2, y3, y4⟩
  refine ⟨a, c, y1, E, ⟨h1.on y4, bel_on' h2 y4⟩, fun x hx => ?_⟩
  rcases List.mem_cons.1 hx with rfl | hx
  · exact An.of y2 (fun ad e e' => by have := (hE _ e').2; have := (y3 ad e).1; omega)
  · exact (h3 x hx).on y4
theorem KX.force (hg : Gl w0) (k : KX w0 w p v n L) (hn : n < 700000) {id : Int} (hw : (Lit.int .i64 id).wf = true) (y : Bool) {c : Int} {v' : Kv} (hx : fcE v id = c) (hv : fcS v id y = v') :
    Calls Tryz.prog 14 #[.pointer (some ⟨p, 0, none⟩), .int .i64 id, .bool y] w fun e w' => e = .returned (.int .i64 c) ∧ KX w0 w' p v' (n + 2) L := by
  subst hx hv
  obtain ⟨E, ⟨h1, h2⟩, h3⟩ := k
  refine (kforce_any h1 (fun u hu => hg.on (h2.trans (h1.bel hu))) hw y hn).mono ?_
  rintro e w' ⟨y1, y2, y3⟩
  exact ⟨y1, KX.step h2 h1 h3 y2 y3 (fun _ e => e)⟩
theorem KX.crash (k : KX w0 w p v n L) (stay torn : Int) :
    Calls Tryz.prog 7 #[.pointer (some ⟨p, 0, none⟩), .int .i64 stay, .int .i64 torn] w fun e w' => (∃ x, e = .returned x) ∧ KX w0 w' p (crK v) 0 L := by
  obtain ⟨E, ⟨h1, h2⟩, h3⟩ := k
  refine (kcrash_any h1 stay torn).mono ?_
  rintro e w' ⟨y1, y2, y3⟩
  exact ⟨y1, KX.step h2 h1 h3 y2 y3 (fun _ e => e)⟩
theorem KX.start (hg : Gl w0) (k : KX w0 w p v n L) (hn : n < 600000) :
    Calls Tryz.prog 9 #[.pointer (some ⟨p, 0, none⟩)] w fun e w' => (∃ x, e = .returned x) ∧ KX w0 w' p (upK v) (n + 10000) L := by
  obtain ⟨E, ⟨h1, h2⟩, h3⟩ := k
  cases hd : v.down
  · refine (kstart_up h1 hd).mono ?_
    rintro e w' ⟨y1, y2⟩
    have e1 : upK v = v := by unfold upK; rw [hd]; rfl
    rw [e1]
    exact ⟨y1, (KX.on ⟨E, ⟨h1, h2⟩, h3⟩ y2).more (by omega)⟩
  · refine (kstart_down hg h2 h1 hd hn).mono ?_
    rintro e w' ⟨y1, y2, y3⟩
    exact ⟨y1, KX.step h2 h1 h3 y2 y3 (fun _ e => e)⟩
theorem KX.state (k : KX w0 w p v n L) {id : Int} (hw : (Lit.int .i64 id).wf = true) {x : Int} (hx : v.st.s id = x) :
    Calls Tryz.prog 19 #[.pointer (some ⟨p, 0, none⟩), .int .i64 id] w fun e w' => e = .returned (.int .i64 x) ∧ w = w' := by
  obtain ⟨E, ⟨⟨_, _, q, r, pb, mb, mc, sb, h⟩, _⟩, _⟩ := k
  subst hx
  exact kstate_any h hw
theorem KX.dn (k : KX w0 w p v n L) {x : Bool} (hx : v.down = x) :
    Calls Tryz.prog 21 #[.pointer (some ⟨p, 0, none⟩)] w fun e w' => e = .returned (.bool x) ∧ w = w' := by
  obtain ⟨E, ⟨⟨_, _, q, r, pb, mb, mc, sb, h⟩, _⟩, _⟩ := k
  subst hx
  exact kdown_any h
/-- Stock's book, to be asked. -/
theorem KX.goods (k : KX w0 w p v n L) (hnd : v.node = 1) : ∃ pb mb, Calls Tryz.prog 25 #[.pointer (some ⟨p, 0, none⟩)] w (fun e w' => e = .returned (.pointer (some ⟨pb, 0, none⟩)) ∧ w = w') ∧ Gd.Sk w0.heap.size w pb mb v.st.o.g n := by
  obtain ⟨E, ⟨⟨_, _, q, r, pb, mb, mc, sb, h⟩, _⟩, _⟩ := k
  have G := kgoods_any h
  rcases h.bk with ⟨_, hb, _⟩ | ⟨e, _⟩
  · rw [show goodsV v.node pb = .pointer (some ⟨pb, 0, none⟩) by unfold goodsV; rw [if_pos hnd]] at G
    exact ⟨pb, mb, G, hb⟩
  · omega
/-- Purse's book, asked. -/
theorem KX.money (k : KX w0 w p v n L) (hnd : v.node = 2) : ∃ pb, Calls Tryz.prog 56 #[.pointer (some ⟨p, 0, none⟩)] w (fun e w' => e = .returned (.pointer (some ⟨pb, 0, none⟩)) ∧ w = w') ∧
    Calls Tryz.prog 62 #[.pointer (some ⟨pb, 0, none⟩)] w fun e w' => e = .returned (.int .i64 (Gd.Pu.tillQ v.st.o.m)) ∧ Below w.heap.size w w' := by
  obtain ⟨E, ⟨⟨_, _, q, r, pb, mb, mc, sb, h⟩, _⟩, _⟩ := k
  have G := kmoney_any h
  rcases h.bk with ⟨e, _⟩ | ⟨_, hb⟩
  · omega
  · rw [show moneyV v.node pb = .pointer (some ⟨pb, 0, none⟩) by unfold moneyV; rw [if_neg (by omega)]] at G
    exact ⟨pb, G, Gd.Pu.ptill_any hb⟩
end

theorem kaw1 : hkA (newKv 1 (fL [5]) 20) ⟨6, 0, 1, 7, 0, 0, 2⟩ = [⟨7, 1, 0, 7, 0, 0, 0⟩] := by rfl
theorem kaw2 : hkA (hkS (newKv 1 (fL [5]) 20) ⟨6, 0, 1, 7, 0, 0, 2⟩) ⟨10, 0, 1, 7, 0, 0, 0⟩ = [⟨11, 1, 0, 7, 0, 0, 0⟩] := by rfl
theorem kaw3 : hkA (hkS (hkS (newKv 1 (fL [5]) 20) ⟨6, 0, 1, 7, 0, 0, 2⟩) ⟨10, 0, 1, 7, 0, 0, 0⟩) ⟨6, 0, 1, 7, 0, 0, 2⟩ = [⟨8, 1, 0, 7, 0, 0, 0⟩] := by rfl
theorem kaw4 : (hkS (hkS (hkS (newKv 1 (fL [5]) 20) ⟨6, 0, 1, 7, 0, 0, 2⟩) ⟨10, 0, 1, 7, 0, 0, 0⟩) ⟨6, 0, 1, 7, 0, 0, 2⟩).node = 1 ∧ Gd.frV (hkS (hkS (hkS (newKv 1 (fL [5]) 20) ⟨6, 0, 1, 7, 0, 0, 2⟩) ⟨10, 0, 1, 7, 0, 0, 0⟩) ⟨6, 0, 1, 7, 0, 0, 2⟩).st.o.g 0 = 5 := ⟨by rfl, by rfl⟩
end Go.Proofs.YtepclljoiccieaaGreatDoor
/-
  The law's awake.
-/
namespace Go.Proofs.YtepclljoiccieaaGreatDoor
open Go.ChangeShapes Go.WideShapes Go.ChangeAt Go.RowKit Go.Maps

set_option maxRecDepth 100000 in
set_option maxHeartbeats 2000000 in
theorem kwake_any (w : World) (hg : Gl w) : Calls Tryz.prog 4 #[] w fun e w' => e = .returned (.bool true) ∧ Below w.heap.size w w' := by
  obtain ⟨w0, hw0⟩ : ∃ w0, w0 = w.alloc (.cells #[.int .i64 5] 3) := ⟨_, rfl⟩
  have hb0 : Below w.heap.size w w0 := by rw [hw0]; exact (Below.refl _ _).alloc (Nat.le_refl _) _
  have N := KX.new (w0 := w0) (node := 1) (.inl rfl) 20 (a := some ⟨w.heap.size, 0, none⟩) (l := [5]) (cap := 1) (by rw [hw0]; exact ints_new1 w 5)
  have HGL := hide (hg.on hb0)
  have HB0 := hide hb0
  obtain ⟨v1, hv1⟩ : ∃ v1, hkS (newKv 1 (fL [5]) 20) ⟨6, 0, 1, 7, 0, 0, 2⟩ = v1 := ⟨_, rfl⟩
  have A1 := kaw1
  have A2 := kaw2
  have A3 := kaw3
  have A4 := kaw4
  rw [hv1] at A2 A3 A4
  obtain ⟨v2, hv2⟩ : ∃ v2, hkS v1 ⟨10, 0, 1, 7, 0, 0, 0⟩ = v2 := ⟨_, rfl⟩
  rw [hv2] at A3 A4
  obtain ⟨v3, hv3⟩ : ∃ v3, hkS v2 ⟨6, 0, 1, 7, 0, 0, 2⟩ = v3 := ⟨_, rfl⟩
  rw [hv3] at A4
  generalize newKv 1 (fL [5]) 20 = v0 at *
  have S1 : Hid (∀ u p, KX w0 u p v0 0 [] → Calls Tryz.prog 16 #[.pointer (some ⟨p, 0, none⟩), .agg #[.int .i64 6, .int .i64 0, .int .i64 1, .int .i64 7, .int .i64 0, .int .i64 0, .int .i64 2]] (u.alloc (.cells #[.int .i64 6, .int .i64 0, .int .i64 1, .int .i64 7, .int .i64 0, .int .i64 0, .int .i64 2] 31)) fun e u1 => ∃ a c, e = .returned (.slice a 1 c) ∧ KX w0 u1 p v1 4 [(a, [⟨7, 1, 0, 7, 0, 0, 0⟩]), (some ⟨u.heap.size, 0, none⟩, [⟨6, 0, 1, 7, 0, 0, 2⟩])]) := fun u p h =>
    (h.box ⟨6, 0, 1, 7, 0, 0, 2⟩).handle HGL.out (by omega) (m := ⟨6, 0, 1, 7, 0, 0, 2⟩) (by decide) A1 hv1
  have S2 : Hid (∀ u p L, KX w0 u p v1 4 L → Calls Tryz.prog 16 #[.pointer (some ⟨p, 0, none⟩), .agg #[.int .i64 10, .int .i64 0, .int .i64 1, .int .i64 7, .int .i64 0, .int .i64 0, .int .i64 0]] u fun e u1 => ∃ a c, e = .returned (.slice a 1 c) ∧ KX w0 u1 p v2 8 ((a, [⟨11, 1, 0, 7, 0, 0, 0⟩]) :: L)) := fun u p L h =>
    h.handle HGL.out (by omega) (m := ⟨10, 0, 1, 7, 0, 0, 0⟩) (by decide) A2 hv2
  have S3 : Hid (∀ u p L, KX w0 u p v2 8 L → Calls Tryz.prog 16 #[.pointer (some ⟨p, 0, none⟩), .agg #[.int .i64 6, .int .i64 0, .int .i64 1, .int .i64 7, .int .i64 0, .int .i64 0, .int .i64 2]] u fun e u1 => ∃ a c, e = .returned (.slice a 1 c) ∧ KX w0 u1 p v3 12 ((a, [⟨8, 1, 0, 7, 0, 0, 0⟩]) :: L)) := fun u p L h =>
    h.handle HGL.out (by omega) (m := ⟨6, 0, 1, 7, 0, 0, 2⟩) (by decide) A3 hv3
  have S4 : Hid (∀ u p L, KX w0 u p v3 12 L → ∃ pb, Calls Tryz.prog 25 #[.pointer (some ⟨p, 0, none⟩)] u (fun e w' => e = .returned (.pointer (some ⟨pb, 0, none⟩)) ∧ u = w') ∧ Calls Tryz.prog 26 #[.pointer (some ⟨pb, 0, none⟩), .int .i64 0] u fun e w' => e = .returned (.int .i64 5) ∧ u = w') := fun u p L h => by
    obtain ⟨pb, mb, h1, h2⟩ := h.goods A4.1
    have h3 := Gd.free_any h2 0
    rw [A4.2] at h3
    exact ⟨pb, h1, h3⟩
  rw [hw0] at N
  have HW0 := hide hw0
  clear hg hb0 A1 A2 A3 A4 hv1 hv2 hv3 hw0
  go_enter Tryz.func4, Tryz.ntmps4
  go_wp2_with (first
    | (go_at_call 5; refine N.mono ?_; clear N; rintro e u0 ⟨p, rfl, h0⟩; rw [← HW0.out] at h0; have H1 := S1.out u0 p h0; clear h0 S1)
    | (go_at_call 16; (with_reducible refine H1.mono ?_); clear H1; rintro e u1 ⟨a1, c1, rfl, h1⟩; have H2 := S2.out u1 p _ h1; clear h1 S2)
    | (go_at_call 16; (with_reducible refine H2.mono ?_); clear H2; rintro e u2 ⟨a2, c2, rfl, h2⟩; have H3 := S3.out u2 p _ h2; obtain ⟨bm, om, em, m0, m1, m2, m3, m4, m5, m6⟩ := h2.tail.tail.seven; cases em; clear h2 S3)
    | (go_at_call 16; (with_reducible refine H3.mono ?_); clear H3; rintro e u3 ⟨a3, c3, rfl, h3⟩; obtain ⟨pb, G, FR⟩ := S4.out u3 p _ h3; clear m0 m1 m2 m3 m4 m5 m6; obtain ⟨b3, o3, rfl, x3, -⟩ := h3.seven; obtain ⟨b2, o2, rfl, x2, -⟩ := h3.tail.seven; obtain ⟨b1, o1, rfl, x1, -⟩ := h3.tail.tail.seven; have HBX := hide h3.bel; clear h3 S4)
    | (go_at_call 25; refine G.mono ?_; clear G; rintro e w' ⟨rfl, rfl⟩)
    | (go_at_call 26; refine FR.mono ?_; clear FR; rintro e w' ⟨rfl, rfl⟩))
  go_ret
  exact ⟨rfl, HB0.out.trans (HBX.out.mono HB0.out.size)⟩
end Go.Proofs.YtepclljoiccieaaGreatDoor
