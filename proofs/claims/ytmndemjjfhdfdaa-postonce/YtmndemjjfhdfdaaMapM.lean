/-
  Maps of ints keyed by messages: what one holds, as a function of the key's bytes (none: 0); m[k]++ and its like.
-/
import Derived.Test.YtmndemjjfhdfdaaPstC
import Derived.Test.YtmndemjjfhdfdaaRg
import Derived.Maps.OwnSet
import Derived.Maps.RangeWalk
import Derived.WideKeyEntry
import Derived.DeepKeys4
namespace Go.Proofs.Ytmndemjjfhdfdaa
open Go Go.RowKit Go.Maps Go.WideElems Go.ChangeMaps

/-- A message's bytes, as a key. -/
def kB (m : Mg) : List UInt8 := keyBytes [.int .i64 m.k, .int .i64 m.fr, .int .i64 m.to, .int .i64 m.id, .int .i64 m.st, .int .i64 m.a, .int .i64 m.b]
theorem laidM : laidOutB Try.prog = true := by kernel_rfl
theorem lawM0 : WideMaps.KeyLaw Try.prog 35 := deep_law_laid laidM (m := 2) (by omega) (of_decide_eq_true (by kernel_rfl)) (by kernel_rfl) (by kernel_rfl)
theorem lawM : Keyed Try.prog 35 := Keyed.of_law lawM0
theorem keyM {m : Mg} (h : okM m) : keyOf Try.prog 35 (.agg #[.int .i64 m.k, .int .i64 m.fr, .int .i64 m.to, .int .i64 m.id, .int .i64 m.st, .int .i64 m.a, .int .i64 m.b]) = some (.string (kB m)) := by
  obtain ⟨h0, h1, h2, h3, h4, h5, h6⟩ := h
  have e1 : Try.prog.cellsOf 3 = 1 := by kernel_rfl
  have e7 : Try.prog.cellsOf 35 = 7 := by kernel_rfl
  have hk : Try.prog.keyType 35 = true := by kernel_rfl
  obtain ⟨d, hd⟩ : ∃ d, Try.prog.types.size + 1 = d + 1 + 1 := ⟨76, by kernel_rfl⟩
  have hi : ∀ x : Int, (Lit.int .i64 x).wf = true → Try.prog.keyLits (d + 1) 3 [.int .i64 x] = some [.int .i64 x] := fun x hx => by simp [Program.keyLits, Try.underlying3, hx]
  have hl : Try.prog.keyLits (d + 1 + 1) 35 (mgC m) = some [.int .i64 m.k, .int .i64 m.fr, .int .i64 m.to, .int .i64 m.id, .int .i64 m.st, .int .i64 m.a, .int .i64 m.b] := by
    unfold Program.keyLits
    simp only [Try.underlying35]
    simp [mgC, e7, e1, hi _ h0, hi _ h1, hi _ h2, hi _ h3, hi _ h4, hi _ h5, hi _ h6]
  unfold keyOf kB
  rw [Try.underlying35]
  have hf : (Value.agg #[.int .i64 m.k, .int .i64 m.fr, .int .i64 m.to, .int .i64 m.id, .int .i64 m.st, .int .i64 m.a, .int .i64 m.b]).formed Try.prog 35 = true := by simp [Value.formed, Try.underlying35, e7]
  have hc : (Value.agg #[.int .i64 m.k, .int .i64 m.fr, .int .i64 m.to, .int .i64 m.id, .int .i64 m.st, .int .i64 m.a, .int .i64 m.b]).cells.toList = mgC m := by simp [Value.cells, mgC]
  simp only [hk, hf, hc, hd, hl, Bool.and_self, if_true, Option.map_some]
theorem set_twice {w : World} {b : Nat} (o o' : Obj) : setBlock (setBlock w b o) b o' = setBlock w b o' := by
  unfold setBlock
  simp
/-- An entry made, or found, and then stored into. -/
theorem own_entry2 {H : Type} {P : Program} {k e t : TypeId} {R : Value → Option (DataW H × List MemPlace)} {w : World} {b n : Nat} {D : DataW H} (h : w.ownsMap P k R b n D) (K : Keyed P k) (ht : P.underlying t = some (.map k e)) (hn : n < maxLen)
    {z : Value} (hz : (zeroValue e).run P w = .ok z w) {key val : Value} {kl : Lit} {d d0 : DataW H} {ps ps0 : List MemPlace} (hkey : keyOf P k key = some kl) (hv : R val = some (d, ps)) (hz0 : R z = some (d0, ps0)) :
    ∃ (v0 : Value) (st : Int) (w1 w2 : World), (Instr.mapEntry t (.map (some b)) key).run P w = .ok (.tuple #[v0, .int .i64 st]) w1 ∧ (Instr.entryStore t (.map (some b)) (.int .i64 st) val).run P w1 = .ok () w2 ∧ w2.ownsMap P k R b (n + 1) (D.put kl d) ∧ w.mapTurned w2 b ∧
      ((w1.ownsMap P k R b n D ∧ w.mapTurned w1 b) ∨ ((∀ zd, D.atKey kl zd = zd) ∧ w1.ownsMap P k R b (n + 1) (D.put kl d0) ∧ w.mapTurned w1 b)) := by
  obtain ⟨w', hrun, hown', hturn⟩ := h.store K ht hn hkey hv
  obtain ⟨w0', hrun0, hown0, hturn0⟩ := h.store K ht hn hkey hz0
  have hD := h
  obtain ⟨es, clock, hb, F, hs, rfl⟩ := h
  obtain ⟨s1, s2, _⟩ := F.stamped
  rcases K.find w hkey es.toList F.keys with ⟨h1, h2⟩ | ⟨j, e0, h1, h2, h3⟩
  · have hw' : w' = setBlock w b (.map (es.push ⟨key, val, clock⟩) (clock + 1)) := by
      simp [Instr.mapUpdate, run_underlying ht, MapKept.run_getObj_map hb, K.check w false hkey, h1, MapKept.run_setObj_map _ hb, Result.andThen] at hrun
      exact hrun.symm
    have hw0 : w0' = setBlock w b (.map (es.push ⟨key, z, clock⟩) (clock + 1)) := by
      simp [Instr.mapUpdate, run_underlying ht, MapKept.run_getObj_map hb, K.check w false hkey, h1, MapKept.run_setObj_map _ hb, Result.andThen] at hrun0
      exact hrun0.symm
    refine ⟨z, clock, w0', w', ?_, ?_, hown', hturn, .inr ⟨?_, hown0, hturn0⟩⟩
    · rw [hw0]
      simp [Instr.mapEntry, run_underlying ht, MapKept.run_getObj_map hb, K.check w false hkey, h1, hz, MapKept.run_setObj_map _ hb, Result.andThen, setBlock, goInt]
    · have hb1 : (setBlock w b (.map (es.push ⟨key, z, clock⟩) (clock + 1))).heap[b]? = some (.map (es.push ⟨key, z, clock⟩) (clock + 1)) := heap_setBlock_same hb _
      have hidx : (es.push ⟨key, z, clock⟩).findIdx? (fun e => ((e.born : Nat) : Int) == ((clock : Nat) : Int)) = some es.size := by
        rw [findIdx_arr]
        refine findIdx_born (l := (es.push ⟨key, z, clock⟩).toList) (e0 := ⟨key, z, clock⟩) ?_ (by simp)
        rw [Array.toList_push, List.map_append]
        refine List.nodup_append.2 ⟨s2, by simp, fun a ha c hc e1 => ?_⟩
        have hc' : c = clock := by simpa using hc
        obtain ⟨x, hx, rfl⟩ := List.mem_map.1 ha
        have := s1 x hx
        omega
      have hmod : (es.push ⟨key, z, clock⟩).modify es.size (fun e => { e with val := val }) = es.push ⟨key, val, clock⟩ := by
        apply Array.ext'
        rw [Array.toList_modify, Array.toList_push, Array.toList_push, ← Array.length_toList, modify_last]
      rw [hw0]
      refine Eq.trans (b := Result.ok () (setBlock (setBlock w b (.map (es.push ⟨key, z, clock⟩) (clock + 1))) b (.map (es.push ⟨key, val, clock⟩) (clock + 1)))) ?_ (by rw [hw', set_twice])
      generalize setBlock w b (.map (es.push ⟨key, z, clock⟩) (clock + 1)) = W1 at hb1
      simp [Instr.entryStore, MapKept.run_getObj_map hb1, asInt, asIntOf, hidx, hmod, MapKept.run_setObj_map _ hb1, Result.andThen, setBlock]
    · rcases Maps.fit_look false K ht hz hb F hkey with ⟨_, _, hat⟩ | ⟨e0, y, g1, g2, _, _, _, _⟩
      · exact hat
      · exact absurd g2 (h2 e0 g1)
  · have hj : es[j]? = some e0 := by simpa using h2
    have hsame : es.modify j (fun e => { e with key := key }) = es := by
      apply Array.ext'
      rw [Array.toList_modify, modify_eq_set _ _ _ _ h2]
      have : ({ e0 with key := key } : MapEntry) = e0 := by rw [← h3]
      rw [this]
      exact set_self _ _ _ h2
    have hb1 : (setBlock w b (.map es clock)).heap[b]? = some (.map es clock) := heap_setBlock_same hb _
    have hw' : w' = setBlock w b (.map (es.modify j (fun e' => { e' with key := key, val := val })) clock) := by
      simp [Instr.mapUpdate, run_underlying ht, MapKept.run_getObj_map hb, K.check w false hkey, h1, hj, h3, K.stays w hkey, MapKept.run_setObj_map _ hb, Result.andThen] at hrun
      exact hrun.symm
    refine ⟨e0.val, e0.born, setBlock w b (.map es clock), w', ?_, ?_, hown', hturn, .inl ⟨⟨es, clock, hb1, F, hs, rfl⟩, ⟨es, clock, es, clock, hb, rfl⟩⟩⟩
    · simp [Instr.mapEntry, run_underlying ht, MapKept.run_getObj_map hb, K.check w false hkey, h1, hj, h3, K.stays w hkey, hsame, MapKept.run_setObj_map _ hb, Result.andThen, setBlock, goInt]
    · have hidx : es.findIdx? (fun e => ((e.born : Nat) : Int) == ((e0.born : Nat) : Int)) = some j := by
        rw [findIdx_arr]
        exact findIdx_born s2 h2
      have hmod : es.modify j (fun e => { e with val := val }) = es.modify j (fun e' => { e' with key := key, val := val }) := by
        apply Array.ext'
        rw [Array.toList_modify, Array.toList_modify, modify_eq_set _ _ _ _ h2, modify_eq_set _ _ _ _ h2, ← h3]
      refine Eq.trans (b := Result.ok () (setBlock (setBlock w b (.map es clock)) b (.map (es.modify j (fun e' => { e' with key := key, val := val })) clock))) ?_ (by rw [hw', set_twice])
      generalize setBlock w b (.map es clock) = W1 at hb1
      simp [Instr.entryStore, MapKept.run_getObj_map hb1, asInt, asIntOf, hidx, hmod, MapKept.run_setObj_map _ hb1, Result.andThen, setBlock]
theorem zeroN (w : World) : (zeroValue 3).run Try.prog w = .ok (.int .i64 0) w := by kernel_rfl
def updS (G : List UInt8 → Int) (s : List UInt8) (v : Int) : List UInt8 → Int := fun x => if x = s then v else G x
/-- The map at b reads as G. -/
def Wt (w : World) (b n : Nat) (G : List UInt8 → Int) : Prop :=
  ∃ D : DataW Unit, w.ownsMap Try.prog 35 (plainElem Try.prog 3) b n D ∧ IsMap D ∧ ∀ s, D.atKey (.string s) (.lit (.int .i64 0)) = .lit (.int .i64 (G s))
section
variable {w w' : World} {b n : Nat} {G : List UInt8 → Int}
theorem Wt.lt (k : Wt w b n G) : b < w.heap.size := by obtain ⟨D, hD, _⟩ := k; exact hD.lt
theorem Wt.kept {E : Nat → Obj → Prop} (k : Wt w b n G) (hk : Rg.Kept E w w') (hb : ∀ o, ¬ E b o) : Wt w' b n G := by
  obtain ⟨D, ⟨es, c, h1, h2⟩, hf⟩ := k
  exact ⟨D, ⟨es, c, hk.block _ _ h1 (hb _), h2⟩, hf⟩
theorem Wt.on (k : Wt w b n G) (hb : Below w.heap.size w w') : Wt w' b n G := k.kept (E := fun _ _ => False) (Rg.Kept.of_below hb) (fun _ h => h)
theorem Wt.new (w : World) : Wt (w.alloc (.map #[] 0)) w.heap.size 0 (fun _ => 0) := ⟨.map [], World.ownsMap_made _ _ _ _, isMap_empty, fun _ => rfl⟩
theorem own_look {D : DataW Unit} (h5 : w.ownsMap Try.prog 35 (plainElem Try.prog 3) b n D) {m : Mg} (hm : okM m) {x : Int} (hx : D.atKey (.string (kB m)) (.lit (.int .i64 0)) = .lit (.int .i64 x)) :
    (Instr.lookup 47 (.map (some b)) (.agg #[.int .i64 m.k, .int .i64 m.fr, .int .i64 m.to, .int .i64 m.id, .int .i64 m.st, .int .i64 m.a, .int .i64 m.b]) false).run Try.prog w = .ok (.int .i64 x) w := by
  obtain ⟨v, ps, hrun, hv⟩ := h5.lookup lawM Try.underlying47 (zeroN _) (plainElem_int Try.underlying3 (by decide)) (keyM hm)
  obtain ⟨c, rfl, hc, _⟩ := plainElem_int_inv Try.underlying3 hv
  have e2 : D.atKey (.string (kB m)) (.lit (.int .i64 0)) = .lit (.int .i64 c) := congrArg Prod.fst hc
  rw [hx] at e2
  rw [hrun]
  cases e2
  rfl
/-- m[k] -/
theorem Wt.look (k : Wt w b n G) {m : Mg} (hm : okM m) : (Instr.lookup 47 (.map (some b)) (.agg #[.int .i64 m.k, .int .i64 m.fr, .int .i64 m.to, .int .i64 m.id, .int .i64 m.st, .int .i64 m.a, .int .i64 m.b]) false).run Try.prog w = .ok (.int .i64 (G (kB m))) w := by
  obtain ⟨D, h5, _, h6⟩ := k
  exact own_look h5 hm (h6 _)
theorem turned_kept {w w1 : World} {b : Nat} (h : w.mapTurned w1 b) : Rg.Kept (fun i _ => i = b) w w1 := Rg.Kept.grown h.grown (fun i _ e => (by cases e; rfl))
/-- m[k] = v by way of the entry; m[k] in between. -/
theorem Wt.entry (k : Wt w b n G) {m : Mg} (hm : okM m) {v : Int} (hv : (Lit.int .i64 v).wf = true) (hn : n < 1000000) :
    ∃ (v0 : Value) (st : Int) (w1 w2 : World), (Instr.mapEntry 47 (.map (some b)) (.agg #[.int .i64 m.k, .int .i64 m.fr, .int .i64 m.to, .int .i64 m.id, .int .i64 m.st, .int .i64 m.a, .int .i64 m.b])).run Try.prog w = .ok (.tuple #[v0, .int .i64 st]) w1 ∧
      (Instr.lookup 47 (.map (some b)) (.agg #[.int .i64 m.k, .int .i64 m.fr, .int .i64 m.to, .int .i64 m.id, .int .i64 m.st, .int .i64 m.a, .int .i64 m.b]) false).run Try.prog w1 = .ok (.int .i64 (G (kB m))) w1 ∧
      (Instr.entryStore 47 (.map (some b)) (.int .i64 st) (.int .i64 v)).run Try.prog w1 = .ok () w2 ∧ Wt w2 b (n + 1) (updS G (kB m) v) ∧ Rg.Kept (fun i _ => i = b) w w1 ∧ Rg.Kept (fun i _ => i = b) w w2 := by
  obtain ⟨D, h5, h6, h7⟩ := k
  obtain ⟨v0, st, w1, w2, r1, r2, o2, t2, h1⟩ := own_entry2 h5 lawM Try.underlying47 (by unfold maxLen; omega) (zeroN _) (keyM hm) (plainElem_int Try.underlying3 hv) (plainElem_int Try.underlying3 (a := 0) (by decide))
  have hkl : WideAt.IsKeyLit (Lit.string (kB m)) := lawM.key (keyM hm)
  refine ⟨v0, st, w1, w2, r1, ?_, r2, ⟨_, o2, h6.put _ _, fun s => ?_⟩, ?_, turned_kept t2⟩
  · rcases h1 with ⟨o1, _⟩ | ⟨ha, o1, _⟩
    · exact own_look o1 hm (h7 _)
    · refine own_look o1 hm ?_
      rw [atKey_put_same h6 hkl, ← h7, ha]
  · unfold updS
    by_cases e : s = kB m
    · subst e
      rw [if_pos rfl, atKey_put_same h6 hkl]
    · rw [if_neg e, atKey_put_other (by simpa using e)]
      exact h7 s
  · rcases h1 with ⟨_, t1⟩ | ⟨_, _, t1⟩
    · exact turned_kept t1
    · exact turned_kept t1
end
end Go.Proofs.Ytmndemjjfhdfdaa
