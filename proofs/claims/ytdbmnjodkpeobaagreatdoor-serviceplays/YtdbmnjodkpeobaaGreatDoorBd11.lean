/-
  Own texts put together: EntA, SvcM.
-/
import Derived.Test.YtdbmnjodkpeobaaGreatDoorEntQ
import Derived.Test.YtdbmnjodkpeobaaGreatDoorBd7
import Derived.Test.YtdbmnjodkpeobaaGreatDoorBd0
import Derived.Test.YtdbmnjodkpeobaaGreatDoorBd1
import Derived.Test.YtdbmnjodkpeobaaGreatDoorBd10
/-
  A line that was written is read as it was; the law's awake returns true.
-/
namespace Go.Proofs.YtdbmnjodkpeobaaGreatDoor
open Go.ChangeShapes Go.WideShapes Go.ChangeAt Go.RowKit

theorem parse_line {k : ByteArray} {id : Int} {l : List Int} (h : mayB k id l = true) : ParseR (sign (txt k id l)) k id l 0 := by
  have hs := txt_size h
  obtain ⟨h1, h2⟩ := read_sign (txt k id l)
  exact .inl ⟨rfl, h, by rw [sign_size]; omega, h1, h2⟩

def did : ByteArray := ⟨#[100, 105, 100]⟩
def did72 : ByteArray := ⟨#[100, 105, 100, 32, 55, 32, 50]⟩
theorem itoa7 : Lib.itoa 7 = [55] := (itoa_nat 7).trans (by rw [Lib.decDigits_one (by omega)]; rfl)
theorem itoa2 : Lib.itoa 2 = [50] := (itoa_nat 2).trans (by rw [Lib.decDigits_one (by omega)]; rfl)
theorem txt_did : txt did 7 [2] = did72 := by
  apply bytes_ext
  show Lib.join [[100, 105, 100], Lib.itoa 7, Lib.itoa 2] [32] = _
  rw [itoa7, itoa2]
  rfl
theorem may_did : mayB did 7 [2] = true := by decide

theorem line_did : lineV did 7 [2] = sign did72 ∧ lineE did 7 [2] = 0 := by
  unfold lineV lineE
  rw [if_pos may_did, if_pos may_did, txt_did]
  exact ⟨rfl, rfl⟩

end Go.Proofs.YtdbmnjodkpeobaaGreatDoor
/-
  A service, plainly: what its entries say, what it answers, what it is behind each call.
-/
namespace Go.Proofs.YtdbmnjodkpeobaaGreatDoor
open Go.RowKit

/-- An entry: 1 did (a: how much), 2 cant, 3 undid. -/
structure En where
  c : Nat
  id : Int
  a : Int
def kB (c : Nat) : ByteArray := if c = 1 then ⟨#[100, 105, 100]⟩ else if c = 2 then ⟨#[99, 97, 110, 116]⟩ else ⟨#[117, 110, 100, 105, 100]⟩
def nB (e : En) : List Int := if e.c = 1 then [e.a] else []
structure OkE (e : En) : Prop where
  c : e.c = 1 ∨ e.c = 2 ∨ e.c = 3
  id : 1 ≤ e.id ∧ e.id ≤ 999
  a : e.c = 1 → 1 ≤ e.a ∧ e.a ≤ 1000000000
def lnE (e : En) : ByteArray := lineV (kB e.c) e.id (nB e)
theorem kB_may (c : Nat) : kindB (kB c) = true := by
  unfold kB
  split
  · decide
  · split <;> decide
theorem kB_size (c : Nat) : (kB c).size ≤ 5 := by
  unfold kB
  split
  · decide
  · split <;> decide
theorem nB_len (e : En) : (nB e).length ≤ 1 := by unfold nB; split <;> simp
theorem may_en {e : En} (h : OkE e) : mayB (kB e.c) e.id (nB e) = true := by
  have h1 : idB e.id = true := by have := h.id; unfold idB; simp; omega
  have h2 : numsB (nB e) = true := by
    unfold numsB nB
    split
    · rename_i hc
      have := h.a hc
      simp [numB]
      omega
    · simp
  unfold mayB
  rw [kB_may, h1, h2]
  rfl
theorem ok_en {e : En} (h : OkE e) : Ok (lnE e) := by
  unfold lnE lineV
  rw [if_pos (may_en h)]
  exact ⟨_, _, _, parse_line (may_en h)⟩
theorem en_size {e : En} (h : OkE e) : 2 ≤ (lnE e).size := by
  unfold lnE lineV
  rw [if_pos (may_en h), sign_size]
  omega
theorem en_parse {e : En} (h : OkE e) {k : ByteArray} {id : Int} {l : List Int} (hp : ParseR (lnE e) k id l 0) : k = kB e.c ∧ id = e.id ∧ l = nB e := by
  unfold lnE lineV at hp
  rw [if_pos (may_en h)] at hp
  obtain ⟨h1, h2, h3, _⟩ := hp.uniq (parse_line (may_en h))
  exact ⟨h1, h2, h3⟩
theorem whole_ok : ∀ (L : List ByteArray), (∀ x ∈ L, Ok x) → (wholeD fun s => Classical.propDecidable (Ok s)) L = L.length
  | [], _ => rfl
  | s :: r, h => by
    unfold wholeD
    rw [if_pos (h s (List.mem_cons_self ..)), whole_ok r (fun x hx => h x (List.mem_cons_of_mem _ hx))]
    rfl
/-- Where all lines are sure a crash leaves them. -/
theorem crash_sure (L : List ByteArray) (stay torn : Int) : crashL L L.length stay torn = L := by
  unfold crashL
  rw [if_pos (by unfold keptN; omega)]

/-- Book and states. -/
structure St where
  left : Int
  h : Int → Int
  s : Int → Int
def ini (hold : Int) : St := ⟨Hd.clampA hold, fun _ => 0, fun _ => 0⟩
/-- What an entry says. -/
def stp (t : St) (e : En) : St :=
  if e.c = 1 then ⟨Hd.takeL t.left t.h e.id e.a, Hd.takeH t.left t.h e.id e.a, Hd.upd t.s e.id 1⟩
  else if e.c = 2 then ⟨t.left, t.h, Hd.upd t.s e.id 2⟩
  else ⟨Hd.backL t.left t.h e.id, Hd.backH t.h e.id, Hd.upd t.s e.id 3⟩
def runT (hold : Int) (T : List En) : St := T.foldl stp (ini hold)
theorem runT_snoc (hold : Int) (T : List En) (e : En) : runT hold (T ++ [e]) = stp (runT hold T) e := by unfold runT; rw [List.foldl_append]; rfl

structure Sv where
  node : Int
  hold : Int
  room : Int
  T : List En
  down : Bool
  st : St
/-- What a service keeps to. -/
structure GoodSv (v : Sv) : Prop where
  nd : 4 ≤ v.node ∧ v.node ≤ 6
  rm : 1 ≤ v.room ∧ v.room ≤ 4096
  len : (v.T.length : Int) ≤ v.room
  ok : ∀ e ∈ v.T, OkE e
  st_ : v.st = if v.down = true then ini v.hold else runT v.hold v.T

/-- A state is one of four, and of an id. -/
def GoodT (t : St) : Prop := ∀ x, (0 ≤ t.s x ∧ t.s x ≤ 3) ∧ (t.s x ≠ 0 → 1 ≤ x ∧ x ≤ 999)
theorem ini_good (hold : Int) : GoodT (ini hold) := fun x => ⟨⟨Int.le_refl _, by show (0 : Int) ≤ 3; omega⟩, fun h => absurd rfl h⟩
theorem upd_good {s : Int → Int} {id v : Int} (h : ∀ x, (0 ≤ s x ∧ s x ≤ 3) ∧ (s x ≠ 0 → 1 ≤ x ∧ x ≤ 999)) (hi : 1 ≤ id ∧ id ≤ 999) (hv : 0 ≤ v ∧ v ≤ 3) (x : Int) : (0 ≤ Hd.upd s id v x ∧ Hd.upd s id v x ≤ 3) ∧ (Hd.upd s id v x ≠ 0 → 1 ≤ x ∧ x ≤ 999) := by
  by_cases e : x = id
  · subst e
    rw [Hd.upd_same]
    exact ⟨hv, fun _ => hi⟩
  · rw [Hd.upd_other s v e]
    exact h x
theorem stp_good {t : St} (h : GoodT t) {e : En} (he : OkE e) : GoodT (stp t e) := by
  intro x
  unfold stp
  split
  · exact upd_good h he.id (by omega) x
  · split
    · exact upd_good h he.id (by omega) x
    · exact upd_good h he.id (by omega) x
theorem fold_good : ∀ (T : List En) (t : St), GoodT t → (∀ e ∈ T, OkE e) → GoodT (T.foldl stp t)
  | [], _, h, _ => h
  | e :: r, t, h, ho => fold_good r (stp t e) (stp_good h (ho e (List.mem_cons_self ..))) (fun x hx => ho x (List.mem_cons_of_mem _ hx))
theorem run_good (hold : Int) (T : List En) (ho : ∀ e ∈ T, OkE e) : GoodT (runT hold T) := fold_good T _ (ini_good hold) ho
theorem GoodSv.goodT {v : Sv} (h : GoodSv v) : GoodT v.st := by
  rw [h.st_]
  split
  · exact ini_good _
  · exact run_good _ _ h.ok

/-- What is taken and given back at once. -/
theorem can_back {left : Int} {h : Int → Int} {id a : Int} (e : Hd.takeE left h id a = 0) :
    Hd.backE (Hd.takeH left h id a) id = 0 ∧ Hd.backL (Hd.takeL left h id a) (Hd.takeH left h id a) id = left ∧ Hd.backH (Hd.takeH left h id a) id = h := by
  obtain ⟨_, h2, h3⟩ := Hd.takeE_ok e
  unfold Hd.takeL Hd.takeH Hd.backL Hd.backH Hd.backE
  rw [if_pos e, if_pos e, Hd.upd_same]
  refine ⟨if_neg (by omega), by omega, ?_⟩
  funext x
  by_cases hx : x = id
  · subst hx; rw [Hd.upd_same, h3]
  · rw [Hd.upd_other _ _ hx, Hd.upd_other _ _ hx]

def triedE (t : St) (id a : Int) : En := if Hd.takeE t.left t.h id a = 0 then ⟨1, id, a⟩ else ⟨2, id, 0⟩
theorem tried_ok {t : St} {id a : Int} (hi : 1 ≤ id ∧ id ≤ 999) (hl : t.left ≤ 1000000000) : OkE (triedE t id a) := by
  unfold triedE
  split
  · rename_i e
    obtain ⟨h1, h2, _⟩ := Hd.takeE_ok e
    exact ⟨.inl rfl, hi, fun _ => by show 1 ≤ a ∧ a ≤ 1000000000; omega⟩
  · exact ⟨.inr (.inl rfl), hi, fun h => by simp at h⟩
theorem undid_ok {id : Int} (hi : 1 ≤ id ∧ id ≤ 999) : OkE ⟨3, id, 0⟩ := ⟨.inr (.inr rfl), hi, fun h => by simp at h⟩

/-- There is room for one more. -/
def hasRoom (v : Sv) : Bool := decide ((v.T.length : Int) < v.room)
def noteS (v : Sv) (e : En) : Sv := if hasRoom v = true then ⟨v.node, v.hold, v.room, v.T ++ [e], v.down, stp v.st e⟩ else v
theorem noteS_good {v : Sv} (h : GoodSv v) (hd : v.down = false) {e : En} (he : OkE e) : GoodSv (noteS v e) := by
  unfold noteS
  split
  · rename_i hr
    unfold hasRoom at hr
    simp at hr
    refine ⟨h.nd, h.rm, by simp; omega, fun x hx => ?_, ?_⟩
    · rcases List.mem_append.1 hx with hx | hx
      · exact h.ok x hx
      · simp at hx; subst hx; exact he
    · have := h.st_
      rw [hd] at this
      simp only [hd, runT_snoc]
      rw [if_neg (by decide), ← show v.st = runT v.hold v.T from this]
  · exact h
def doS (v : Sv) (id a : Int) : Sv := if v.st.s id = 0 then noteS v (triedE v.st id a) else v
def doK (v : Sv) (id a : Int) : Int := if v.st.s id = 0 ∧ hasRoom v = false then 0 else if (doS v id a).st.s id = 1 then 2 else 3
def undoS (v : Sv) (id : Int) : Sv := if v.st.s id = 0 ∨ v.st.s id = 1 then noteS v ⟨3, id, 0⟩ else v
def undoK (v : Sv) (id : Int) : Int := if (v.st.s id = 0 ∨ v.st.s id = 1) ∧ hasRoom v = false then 0 else 5
def hearsB (v : Sv) (m : Ms.Mg) : Bool := !v.down && m.to == v.node && m.fr == 0 && Hd.isI m.id
def hdS (v : Sv) (m : Ms.Mg) : Sv := if hearsB v m = true then (if m.k = 1 then doS v m.id m.a else if m.k = 4 then undoS v m.id else v) else v
def hdK (v : Sv) (m : Ms.Mg) : Int := if hearsB v m = true then (if m.k = 1 then doK v m.id m.a else if m.k = 4 then undoK v m.id else 0) else 0
def hdA (v : Sv) (m : Ms.Mg) : List Ms.Mg := if hdK v m = 0 then [] else [⟨hdK v m, v.node, 0, m.id, m.st, 0, 0⟩]
def crS (v : Sv) : Sv := ⟨v.node, v.hold, v.room, v.T, true, ini v.hold⟩
def upS (v : Sv) : Sv := if v.down = true then ⟨v.node, v.hold, v.room, v.T, false, runT v.hold v.T⟩ else v
def newSv (node hold room : Int) : Sv := ⟨node, hold, roomV room, [], false, ini hold⟩
theorem newSv_good {node hold room : Int} (h : 4 ≤ node ∧ node ≤ 6) : GoodSv (newSv node hold room) :=
  ⟨h, roomV_in room, by have := (roomV_in room).1; simp [newSv]; omega, (fun e he => by cases he), rfl⟩
theorem crS_good {v : Sv} (h : GoodSv v) : GoodSv (crS v) := ⟨h.nd, h.rm, h.len, h.ok, rfl⟩
theorem upS_good {v : Sv} (h : GoodSv v) : GoodSv (upS v) := by
  unfold upS
  split
  · exact ⟨h.nd, h.rm, h.len, h.ok, rfl⟩
  · exact h
theorem hears_of {v : Sv} {m : Ms.Mg} (h : hearsB v m = true) : v.down = false ∧ m.to = v.node ∧ m.fr = 0 ∧ (1 ≤ m.id ∧ m.id ≤ 999) := by
  unfold hearsB at h
  simp only [Bool.and_eq_true, Bool.not_eq_true', beq_iff_eq] at h
  obtain ⟨⟨⟨h1, h2⟩, h3⟩, h4⟩ := h
  exact ⟨h1, h2, h3, Hd.isI_iff.1 h4⟩
/-- Up again it is what it was. -/
theorem up_cr {v : Sv} (h : GoodSv v) (hd : v.down = false) : upS (crS v) = v := by
  have := h.st_
  rw [hd] at this
  simp only [if_neg (show ¬ (false = true) by decide)] at this
  unfold upS crS
  simp only [if_pos]
  rw [← this]
  cases v
  simp at hd
  subst hd
  rfl
end Go.Proofs.YtdbmnjodkpeobaaGreatDoor
