/-
  Own texts put together: HdS, MapE.
-/
import Derived.Test.YtdbmnjodkpeobaaGreatDoorBd0
import Derived.Test.YtdbmnjodkpeobaaGreatDoorRg
import Derived.Maps.OwnSet
import Derived.Deep.CutBlock
import Derived.WideKeyEntry
/-
  A book in memory: its block, its map. Contracts of hold's New, Has, Left, Take, Back.
-/
namespace Go.Proofs.YtdbmnjodkpeobaaGreatDoor.Hd
open Go.ChangeShapes Go.WideShapes Go.ChangeAt Go.RowKit Go.Maps

theorem lawI : Keyed Tryz.prog 3 := int_keyed Tryz.underlying3
theorem zeroI (w : World) : (zeroValue 3).run Tryz.prog w = .ok (.int .i64 0) w := by kernel_rfl

/-- The map reads as h. -/
def Fits (D : DataW Unit) (h : Int → Int) : Prop := IsMap D ∧ ∀ x : Int, D.atKey (.int .i64 x) (.lit (.int .i64 0)) = .lit (.int .i64 (h x)) ∧ Maps.has D (.int .i64 x) = decide (h x ≠ 0)
theorem Fits.new : Fits (.map []) (fun _ => 0) := ⟨isMap_empty, fun _ => ⟨rfl, rfl⟩⟩
theorem Fits.put {D : DataW Unit} {h : Int → Int} (f : Fits D h) (id n : Int) (hn : n ≠ 0) : Fits (D.put (.int .i64 id) (.lit (.int .i64 n))) (upd h id n) := by
  refine ⟨f.1.put _ _, fun x => ?_⟩
  by_cases e : x = id
  · subst e
    have hk : WideAt.IsKeyLit (Lit.int .i64 x) := trivial
    rw [upd_same, atKey_put_same f.1 hk, has_put_same f.1 hk]
    exact ⟨rfl, by simp [hn]⟩
  · rw [upd_other h n e, atKey_put_other (by simpa using e), has_put_other (by simpa using e)]
    exact f.2 x
theorem Fits.del {D : DataW Unit} {h : Int → Int} (f : Fits D h) (id : Int) : Fits (D.del (.int .i64 id)) (upd h id 0) := by
  refine ⟨f.1.del _, fun x => ?_⟩
  by_cases e : x = id
  · subst e
    rw [upd_same, atKey_del_same, has_del_same]
    exact ⟨rfl, by simp⟩
  · rw [upd_other h 0 e, atKey_del_other (by simpa using e), has_del_other (by simpa using e)]
    exact f.2 x

/-- The book at p, its map at b. -/
def Bk (B : Nat) (w : World) (p b : Nat) (left : Int) (h : Int → Int) (n : Nat) : Prop :=
  w.heap[p]? = some (.cells #[.int .i64 left, .map (some b)] 96 (0, 0)) ∧ B ≤ p ∧ B ≤ b ∧ Good left h ∧ ∃ D : DataW Unit, w.ownsMap Tryz.prog 3 (plainElem Tryz.prog 3) b n D ∧ Fits D h
/-- The blocks that a step on it may turn. -/
def Own2 (p b : Nat) (k : Nat) (_ : Obj) : Prop := k = p ∨ k = b
theorem Bk.lt {B : Nat} {w : World} {p b : Nat} {left : Int} {h : Int → Int} {n : Nat} (k : Bk B w p b left h n) : p < w.heap.size := (Array.getElem?_eq_some_iff.1 k.1).1
theorem Bk.ltb {B : Nat} {w : World} {p b : Nat} {left : Int} {h : Int → Int} {n : Nat} (k : Bk B w p b left h n) : b < w.heap.size := by obtain ⟨_, _, _, _, D, hD, _⟩ := k; exact hD.lt
theorem Bk.low {B : Nat} {w : World} {p b : Nat} {left : Int} {h : Int → Int} {n : Nat} (k : Bk B w p b left h n) : B ≤ w.heap.size := by have := k.lt; have := k.2.1; omega
theorem Bk.ne {B : Nat} {w : World} {p b : Nat} {left : Int} {h : Int → Int} {n : Nat} (k : Bk B w p b left h n) : b ≠ p := by
  rintro rfl
  obtain ⟨h1, _, _, _, D, ⟨es, c, hb, _⟩, _⟩ := k
  rw [h1] at hb
  cases hb
theorem Bk.good {B : Nat} {w : World} {p b : Nat} {left : Int} {h : Int → Int} {n : Nat} (k : Bk B w p b left h n) : Good left h := k.2.2.2.1
theorem Bk.mono {B : Nat} {w : World} {p b : Nat} {left : Int} {h : Int → Int} {n n' : Nat} (k : Bk B w p b left h n) (hn : n ≤ n') : Bk B w p b left h n' := by
  obtain ⟨h1, h2, h3, h4, D, h5, h6⟩ := k
  exact ⟨h1, h2, h3, h4, D, h5.mono hn, h6⟩
theorem Bk.base {B B' : Nat} {w : World} {p b : Nat} {left : Int} {h : Int → Int} {n : Nat} (k : Bk B w p b left h n) (hB : B' ≤ B) : Bk B' w p b left h n := by
  obtain ⟨h1, h2, h3, h4, h5⟩ := k
  exact ⟨h1, by omega, by omega, h4, h5⟩
theorem own_kept {w w' : World} {E : Nat → Obj → Prop} {b n : Nat} {D : DataW Unit} (h : w.ownsMap Tryz.prog 3 (plainElem Tryz.prog 3) b n D) (k : Rg.Kept E w w') (hb : ∀ es c, ¬ E b (.map es c)) : w'.ownsMap Tryz.prog 3 (plainElem Tryz.prog 3) b n D := by
  obtain ⟨es, c, h1, h2⟩ := h
  exact ⟨es, c, k.block _ _ h1 (hb _ _), h2⟩
theorem Bk.kept {B : Nat} {w w' : World} {p b : Nat} {left : Int} {h : Int → Int} {n : Nat} {E : Nat → Obj → Prop} (k : Bk B w p b left h n) (hk : Rg.Kept E w w') (hp : ∀ o, ¬ E p o) (hb : ∀ o, ¬ E b o) : Bk B w' p b left h n := by
  obtain ⟨h1, h2, h3, h4, D, h5, h6⟩ := k
  exact ⟨hk.block _ _ h1 (hp _), h2, h3, h4, D, own_kept h5 hk (fun _ _ => hb _), h6⟩
theorem Bk.on {B : Nat} {w w' : World} {p b : Nat} {left : Int} {h : Int → Int} {n : Nat} (k : Bk B w p b left h n) (hb : Below w.heap.size w w') : Bk B w' p b left h n :=
  k.kept (E := fun _ _ => False) (Rg.Kept.of_below hb) (fun _ h => h) (fun _ h => h)
theorem Bk.bel {B : Nat} {w w' : World} {p b : Nat} {left : Int} {h : Int → Int} {n : Nat} (k : Bk B w p b left h n) (hk : Rg.Kept (Own2 p b) w w') : Below B w w' :=
  hk.bel k.low (fun i _ e => by have := k.2.1; have := k.2.2.1; rcases e with e | e <;> omega)
theorem Bk.cells {B : Nat} {w : World} {p b : Nat} {left : Int} {h : Int → Int} {n : Nat} (k : Bk B w p b left h n) :
    (w.cell? ⟨p, 0, none⟩ = some (.int .i64 left) ∧ w.cell? ⟨p, 1, none⟩ = some (.map (some b))) ∧ w.frozen? ⟨p, 0, none⟩ = false := by
  obtain ⟨h1, _⟩ := k
  refine ⟨⟨?_, ?_⟩, frozen_of_row _ _ _ _ _ h1⟩
  all_goals (rw [cell_of h1]; rfl)
/-- A look-up in it. -/
theorem Bk.look {B : Nat} {w : World} {p b : Nat} {left : Int} {h : Int → Int} {n : Nat} (k : Bk B w p b left h n) {id : Int} (hw : (Lit.int .i64 id).wf = true) :
    (Instr.lookup 60 (.map (some b)) (.int .i64 id) true).run Tryz.prog w = .ok (.tuple #[.int .i64 (h id), .bool (decide (h id ≠ 0))]) w := by
  obtain ⟨_, _, _, _, D, h5, h6⟩ := k
  obtain ⟨v, ps, hrun, hv⟩ := h5.look_ok lawI Tryz.underlying60 (zeroI _) (plainElem_int Tryz.underlying3 (by decide)) (keyOf_int_mk Tryz.underlying3 hw)
  obtain ⟨c, rfl, hc, _⟩ := plainElem_int_inv Tryz.underlying3 hv
  have e1 := (h6.2 id).1
  have e2 : D.atKey (.int .i64 id) (.lit (.int .i64 0)) = .lit (.int .i64 c) := congrArg Prod.fst hc
  rw [e1] at e2
  rw [hrun, (h6.2 id).2]
  cases e2
  rfl

theorem isid_any (id : Int) (w : World) : Calls Tryz.prog 62 #[.int .i64 id] w fun e w' => e = .returned (.bool (isI id)) ∧ w = w' := by
  by_cases h0 : 1 ≤ id
  · by_cases h1 : id ≤ 999
    · have hm : true = isI id := (isI_iff.2 ⟨h0, h1⟩).symm
      rw [← hm]
      clear hm
      go_enter Tryz.func62, Tryz.ntmps62
      go_wp2
      go_ret
      exact ⟨rfl, rfl⟩
    · have hm : false = isI id := by unfold isI; simp; omega
      rw [← hm]
      clear hm
      go_enter Tryz.func62, Tryz.ntmps62
      go_wp2
      go_ret
      exact ⟨rfl, rfl⟩
  · have hm : false = isI id := by unfold isI; simp; omega
    rw [← hm]
    clear hm
    go_enter Tryz.func62, Tryz.ntmps62
    go_wp2
    go_ret
    exact ⟨rfl, rfl⟩

set_option maxHeartbeats 400000 in
theorem has_any {B : Nat} {w : World} {p b : Nat} {left : Int} {h : Int → Int} {n : Nat} (k : Bk B w p b left h n) {id : Int} (hw : (Lit.int .i64 id).wf = true) :
    Calls Tryz.prog 64 #[.pointer (some ⟨p, 0, none⟩), .int .i64 id] w fun e w' => e = .returned (.tuple #[.int .i64 (h id), .bool (decide (h id ≠ 0))]) ∧ w = w' := by
  obtain ⟨⟨c0, c1⟩, _⟩ := k.cells
  have hl := k.look hw
  clear k
  obtain ⟨v, hv⟩ : ∃ v, v = h id := ⟨_, rfl⟩
  obtain ⟨q, hq⟩ : ∃ q, q = decide (h id ≠ 0) := ⟨_, rfl⟩
  rw [← hq, ← hv] at hl ⊢
  clear hv hq
  go_enter Tryz.func64, Tryz.ntmps64
  go_wp2
  go_ret2
  exact ⟨rfl, rfl⟩
theorem hasnil_any (id : Int) (w : World) :
    Calls Tryz.prog 64 #[.pointer none, .int .i64 id] w fun e w' => e = .returned (.tuple #[.int .i64 0, .bool false]) ∧ w = w' := by
  go_enter Tryz.func64, Tryz.ntmps64
  go_wp2
  go_ret2
  exact ⟨rfl, rfl⟩
theorem left_any {B : Nat} {w : World} {p b : Nat} {left : Int} {h : Int → Int} {n : Nat} (k : Bk B w p b left h n) :
    Calls Tryz.prog 40 #[.pointer (some ⟨p, 0, none⟩)] w fun e w' => e = .returned (.int .i64 left) ∧ w = w' := by
  obtain ⟨⟨c0, c1⟩, _⟩ := k.cells
  clear k
  go_enter Tryz.func40, Tryz.ntmps40
  go_wp2
  go_ret
  exact ⟨rfl, rfl⟩
theorem leftnil_any (w : World) : Calls Tryz.prog 40 #[.pointer none] w fun e w' => e = .returned (.int .i64 0) ∧ w = w' := by
  go_enter Tryz.func40, Tryz.ntmps40
  go_wp2
  go_ret
  exact ⟨rfl, rfl⟩
theorem takenil_any (id n : Int) (w : World) : Calls Tryz.prog 48 #[.pointer none, .int .i64 id, .int .i64 n] w fun e w' => e = .returned (.int .i64 1) ∧ w = w' := by
  go_enter Tryz.func48, Tryz.ntmps48
  go_wp2
  go_ret
  exact ⟨rfl, rfl⟩
theorem backnil_any (id : Int) (w : World) : Calls Tryz.prog 49 #[.pointer none, .int .i64 id] w fun e w' => e = .returned (.int .i64 1) ∧ w = w' := by
  go_enter Tryz.func49, Tryz.ntmps49
  go_wp2
  go_ret
  exact ⟨rfl, rfl⟩
set_option maxHeartbeats 400000 in
theorem new_any (room : Int) (w : World) :
    Calls Tryz.prog 42 #[.int .i64 room] w fun e w' => ∃ p b, e = .returned (.pointer (some ⟨p, 0, none⟩)) ∧ Bk w.heap.size w' p b (clampA room) (fun _ => 0) 0 ∧ Below w.heap.size w w' := by
  have hmm := @run_makeMap Tryz.prog
  have hG : Hid (Good (clampA room) (fun _ => 0)) := Good.new
  have key : ∀ c W, c = clampA room → W = (w.alloc (.map #[] 0)).alloc (.cells #[.int .i64 c, .map (some w.heap.size)] 96) → Bk w.heap.size W (w.heap.size + 1) w.heap.size (clampA room) (fun _ => 0) 0 ∧ Below w.heap.size w W := by
    rintro c W rfl rfl
    have h2 := World.alloc_heap_new (w.alloc (.map #[] 0)) (.cells #[.int .i64 (clampA room), .map (some w.heap.size)] 96)
    rw [World.size_alloc] at h2
    exact ⟨⟨h2, by omega, Nat.le_refl _, hG.out, .map [], (World.ownsMap_made _ _ _ _).alloc _, Fits.new⟩, ((Below.refl _ w).alloc (Nat.le_refl _) _).alloc (by simp) _⟩
  have KEY := hide key
  clear key hG
  by_cases h0 : 0 ≤ room
  · by_cases h1 : room ≤ 1000000000
    · have HC : Hid (room = clampA room) := by show _ = _; unfold clampA; rw [if_neg (by omega), if_pos h1]
      go_enter Tryz.func42, Tryz.ntmps42
      go_wp2
      go_ret
      first | exact ⟨_, rfl, ⟨_, (KEY.out _ _ HC.out rfl).1⟩, (KEY.out _ _ HC.out rfl).2⟩ | exact ⟨_, _, rfl, (KEY.out _ _ HC.out rfl).1, (KEY.out _ _ HC.out rfl).2⟩
    · have HC : Hid (1000000000 = clampA room) := by show _ = _; unfold clampA; rw [if_neg (by omega), if_neg h1]
      go_enter Tryz.func42, Tryz.ntmps42
      go_wp2
      go_ret
      first | exact ⟨_, rfl, ⟨_, (KEY.out _ _ HC.out rfl).1⟩, (KEY.out _ _ HC.out rfl).2⟩ | exact ⟨_, _, rfl, (KEY.out _ _ HC.out rfl).1, (KEY.out _ _ HC.out rfl).2⟩
  · have HC : Hid (0 = clampA room) := by show _ = _; unfold clampA; rw [if_pos (by omega)]
    go_enter Tryz.func42, Tryz.ntmps42
    go_wp2
    go_ret
    first | exact ⟨_, rfl, ⟨_, (KEY.out _ _ HC.out rfl).1⟩, (KEY.out _ _ HC.out rfl).2⟩ | exact ⟨_, _, rfl, (KEY.out _ _ HC.out rfl).1, (KEY.out _ _ HC.out rfl).2⟩
end Go.Proofs.YtdbmnjodkpeobaaGreatDoor.Hd
/-
  A map's entry made and then stored into (m[k] among several assignments), where the key is not there yet.
-/
namespace Go.Proofs.YtdbmnjodkpeobaaGreatDoor
open Go Go.RowKit Go.Maps Go.WideElems Go.ChangeMaps

theorem set_twice {w : World} {b : Nat} (o o' : Obj) : setBlock (setBlock w b o) b o' = setBlock w b o' := by
  unfold setBlock
  simp
theorem own_entry {H : Type} {P : Program} {k e t : TypeId} {R : Value → Option (DataW H × List MemPlace)} {w : World} {b n : Nat} {D : DataW H} (h : w.ownsMap P k R b n D) (K : Keyed P k) (ht : P.underlying t = some (.map k e)) (hn : n < maxLen)
    {z : Value} (hz : (zeroValue e).run P w = .ok z w) {key val : Value} {kl : Lit} {d : DataW H} {ps : List MemPlace} (hkey : keyOf P k key = some kl) (hv : R val = some (d, ps)) (habs : Maps.has D kl = false) :
    ∃ (st : Int) (w1 w2 : World), (Instr.mapEntry t (.map (some b)) key).run P w = .ok (.tuple #[z, .int .i64 st]) w1 ∧ (Instr.entryStore t (.map (some b)) (.int .i64 st) val).run P w1 = .ok () w2 ∧ w2.ownsMap P k R b (n + 1) (D.put kl d) ∧ w.mapTurned w2 b := by
  obtain ⟨w', hrun, hown', hturn⟩ := h.store K ht hn hkey hv
  obtain ⟨es, clock, hb, F, hs, rfl⟩ := h
  have h2 : ∀ x ∈ es.toList, x.key ≠ key := by
    rcases Maps.fit_look true K ht hz hb F hkey with ⟨_, h2, _⟩ | ⟨e0, y, _, _, _, _, hat, _⟩
    · exact h2
    · rw [Maps.has_true_of_atKey hat] at habs; cases habs
  have h1 : (Instr.findKey k key es.toList).run P w = .ok none w := by
    rcases K.find w hkey es.toList F.keys with ⟨h1, _⟩ | ⟨j, e0, _, h3, h4⟩
    · exact h1
    · exact absurd h4 (h2 e0 (List.mem_of_getElem? h3))
  obtain ⟨s1, s2, _⟩ := F.stamped
  have hw' : w' = setBlock w b (.map (es.push ⟨key, val, clock⟩) (clock + 1)) := by
    simp [Instr.mapUpdate, run_underlying ht, MapKept.run_getObj_map hb, K.check w false hkey, h1, MapKept.run_setObj_map _ hb, Result.andThen] at hrun
    exact hrun.symm
  refine ⟨clock, setBlock w b (.map (es.push ⟨key, z, clock⟩) (clock + 1)), w', ?_, ?_, hown', hturn⟩
  · simp [Instr.mapEntry, run_underlying ht, MapKept.run_getObj_map hb, K.check w false hkey, h1, hz, MapKept.run_setObj_map _ hb, Result.andThen, setBlock, goInt]
  · have hb1 : (setBlock w b (.map (es.push ⟨key, z, clock⟩) (clock + 1))).heap[b]? = some (.map (es.push ⟨key, z, clock⟩) (clock + 1)) := heap_setBlock_same hb _
    have hidx : (es.push ⟨key, z, clock⟩).findIdx? (fun e => ((e.born : Nat) : Int) == ((clock : Nat) : Int)) = some es.size := by
      rw [findIdx_arr]
      refine findIdx_born (l := (es.push ⟨key, z, clock⟩).toList) (e0 := ⟨key, z, clock⟩) ?_ (by simp)
      rw [Array.toList_push, List.map_append]
      refine List.nodup_append.2 ⟨s2, by simp, fun a ha c hc e1 => ?_⟩
      have hc' : c = clock := by simpa using hc
      obtain ⟨x, hx, rfl⟩ := List.mem_map.1 ha
      have := s1 x hx
      omega
    have hmod : (es.push ⟨key, z, clock⟩).modify es.size (fun e => { e with val := val }) = es.push ⟨key, val, clock⟩ := by
      apply Array.ext'
      rw [Array.toList_modify, Array.toList_push, Array.toList_push, ← Array.length_toList, modify_last]
    refine Eq.trans (b := Result.ok () (setBlock (setBlock w b (.map (es.push ⟨key, z, clock⟩) (clock + 1))) b (.map (es.push ⟨key, val, clock⟩) (clock + 1)))) ?_ (by rw [hw', set_twice])
    generalize setBlock w b (.map (es.push ⟨key, z, clock⟩) (clock + 1)) = W1 at hb1
    simp [Instr.entryStore, MapKept.run_getObj_map hb1, asInt, asIntOf, hidx, hmod, MapKept.run_setObj_map _ hb1, Result.andThen, setBlock]
end Go.Proofs.YtdbmnjodkpeobaaGreatDoor
