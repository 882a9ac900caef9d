/-
  Own texts put together: PuB, PuT, PuU, PuN.
-/
import Derived.Test.YthkgjggbpgkmpaaGreatDoorSgcndnnm
import Derived.Deep.RegionHeld3
/-
  A book of money in memory: its block of ten cells, its two maps. Contracts of purse's has, Money, Allowed, Till, Paid; those of a nil book.
-/
namespace Go.Proofs.YthkgjggbpgkmpaaGreatDoor.Gd.Pu
open Go.ChangeShapes Go.WideShapes Go.ChangeAt Go.RowKit Go.Maps

/-- The block's cells. -/
def bcs (f : Int → Int) (b c : Nat) : List Value := rowc f ++ [.map (some b), .map (some c)]
theorem bcs_f (f : Int → Int) (b c : Nat) {i : Nat} (hi : i < 8) : (bcs f b c)[i]? = some (.int .i64 (f i)) := by
  unfold bcs
  rw [List.getElem?_append_left (by rw [rowc_len]; exact hi), rowc_at _ hi]
theorem bcs_a (f : Int → Int) (b c : Nat) : (bcs f b c)[8]? = some (.map (some b)) := by
  unfold bcs
  rw [List.getElem?_append_right (by rw [rowc_len]; omega), rowc_len]
  rfl
theorem bcs_d (f : Int → Int) (b c : Nat) : (bcs f b c)[9]? = some (.map (some c)) := by
  unfold bcs
  rw [List.getElem?_append_right (by rw [rowc_len]; omega), rowc_len]
  rfl
theorem bcs_set (f : Int → Int) (b c : Nat) {i : Nat} (hi : i < 8) (v : Int) : (bcs f b c).set i (.int .i64 v) = bcs (upd f i v) b c := by
  unfold bcs
  rw [List.set_append_left _ _ (by rw [rowc_len]; exact hi), rowc_put _ hi]

/-- The book at p, its maps at b and c, whatever it keeps to. -/
def Pk0 (B : Nat) (w : World) (p b c : Nat) (s : Qb) (n : Nat) : Prop :=
  w.heap[p]? = some (.cells (bcs s.f b c).toArray 80 (0, 0)) ∧ (B ≤ p ∧ B ≤ b ∧ B ≤ c ∧ b ≠ c) ∧ Mp w b n s.a ∧ Mp w c n s.d
def Pk (B : Nat) (w : World) (p b c : Nat) (s : Qb) (n : Nat) : Prop := Pk0 B w p b c s n ∧ GoodQ s
/-- The blocks that a step on it may turn. -/
def Own2 (b c : Nat) (k : Nat) (_ : Obj) : Prop := k = b ∨ k = c
section
variable {B : Nat} {w w' : World} {p b c : Nat} {s : Qb} {n : Nat}
theorem Pk0.lt (k : Pk0 B w p b c s n) : p < w.heap.size := (Array.getElem?_eq_some_iff.1 k.1).1
theorem Pk0.low (k : Pk0 B w p b c s n) : B ≤ w.heap.size := by have := k.lt; have := k.2.1.1; omega
theorem Pk0.nea (k : Pk0 B w p b c s n) : b ≠ p := k.2.2.1.ne k.1
theorem Pk0.ned (k : Pk0 B w p b c s n) : c ≠ p := k.2.2.2.ne k.1
theorem Pk0.mono {n' : Nat} (k : Pk0 B w p b c s n) (hn : n ≤ n') : Pk0 B w p b c s n' := ⟨k.1, k.2.1, k.2.2.1.mono hn, k.2.2.2.mono hn⟩
theorem Pk0.kept {E : Nat → Obj → Prop} (k : Pk0 B w p b c s n) (hk : Rg.Kept E w w') (hp : ∀ o, ¬ E p o) (hb : ∀ o, ¬ E b o) (hc : ∀ o, ¬ E c o) : Pk0 B w' p b c s n :=
  ⟨hk.block _ _ k.1 (hp _), k.2.1, k.2.2.1.kept hk hb, k.2.2.2.kept hk hc⟩
theorem Pk0.on (k : Pk0 B w p b c s n) (hb : Below w.heap.size w w') : Pk0 B w' p b c s n :=
  k.kept (E := fun _ _ => False) (Rg.Kept.of_below hb) (fun _ h => h) (fun _ h => h) (fun _ h => h)
theorem Pk0.bel (k : Pk0 B w p b c s n) (hk : Rg.Kept (Own2 b c) w w') : Below B w w' :=
  hk.bel k.low (fun i _ e => by have := k.2.1; rcases e with e | e <;> omega)
theorem Pk0.cellF (k : Pk0 B w p b c s n) {i : Nat} (hi : i < 8) : w.cell? ⟨p, i, none⟩ = some (.int .i64 (s.f i)) := by
  rw [cell_of k.1, List.getElem?_toArray]; exact bcs_f _ _ _ hi
theorem Pk0.cellA (k : Pk0 B w p b c s n) : w.cell? ⟨p, 8, none⟩ = some (.map (some b)) := by
  rw [cell_of k.1, List.getElem?_toArray]; exact bcs_a _ _ _
theorem Pk0.cellD (k : Pk0 B w p b c s n) : w.cell? ⟨p, 9, none⟩ = some (.map (some c)) := by
  rw [cell_of k.1, List.getElem?_toArray]; exact bcs_d _ _ _
theorem Pk0.frozen (k : Pk0 B w p b c s n) (i : Nat) : w.frozen? ⟨p, i, none⟩ = false := frozen_of_row _ _ _ _ _ k.1
theorem Pk0.setF (k : Pk0 B w p b c s n) {i : Nat} (hi : i < 8) (v : Int) : Pk0 B (w.setCell ⟨p, i, none⟩ (.int .i64 v)) p b c ⟨upd s.f i v, s.a, s.d⟩ n := by
  have hnea := k.nea
  have hned := k.ned
  obtain ⟨h1, h2, ⟨D, h3, h4⟩, ⟨E, h5, h6⟩⟩ := k
  refine ⟨?_, h2, ⟨D, h3.setCell (a := ⟨p, i, none⟩) hnea _, h4⟩, ⟨E, h5.setCell (a := ⟨p, i, none⟩) hned _, h6⟩⟩
  rw [heap_setCell_same _ _ _ _ _ _ h1, ← bcs_set s.f b c hi v, List.setIfInBounds_toArray]
theorem Pk.good (k : Pk B w p b c s n) : GoodQ s := k.2
theorem Pk.mono {n' : Nat} (k : Pk B w p b c s n) (hn : n ≤ n') : Pk B w p b c s n' := ⟨k.1.mono hn, k.2⟩
theorem Pk.kept {E : Nat → Obj → Prop} (k : Pk B w p b c s n) (hk : Rg.Kept E w w') (hp : ∀ o, ¬ E p o) (hb : ∀ o, ¬ E b o) (hc : ∀ o, ¬ E c o) : Pk B w' p b c s n := ⟨k.1.kept hk hp hb hc, k.2⟩
theorem Pk.on (k : Pk B w p b c s n) (hb : Below w.heap.size w w') : Pk B w' p b c s n := ⟨k.1.on hb, k.2⟩
theorem Pk.bel (k : Pk B w p b c s n) (hk : Rg.Kept (Own2 b c) w w') : Below B w w' := k.1.bel hk
end
/-- A look-up in a map of deals. -/
theorem Mp.look {w : World} {b n : Nat} {r : Int → Option (Int × Int)} (k : Mp w b n r) {id : Int} (hw : (Lit.int .i64 id).wf = true) :
    (Instr.lookup 78 (.map (some b)) (.int .i64 id) true).run Tryz.prog w = .ok (.tuple #[pairV ((r id).getD (0, 0)), .bool (r id).isSome]) w := by
  obtain ⟨D, h5, h6⟩ := k
  exact look_pair_ok h5 Tryz.underlying3 Tryz.underlying78 (zeroD _) h6 hw

set_option maxHeartbeats 400000 in
theorem phas_any {w : World} {b n : Nat} {r : Int → Option (Int × Int)} (k : Mp w b n r) {id : Int} (hw : (Lit.int .i64 id).wf = true) :
    Calls Tryz.prog 137 #[.map (some b), .int .i64 id] w fun e w' => e = .returned (.bool (r id).isSome) ∧ Below w.heap.size w w' := by
  have hl := k.look hw
  obtain ⟨o, ho⟩ : ∃ o, (r id).isSome = o := ⟨_, rfl⟩
  obtain ⟨⟨x, y⟩, hc⟩ : ∃ c, (r id).getD (0, 0) = c := ⟨_, rfl⟩
  rw [ho, hc] at hl
  rw [ho]
  unfold pairV at hl
  clear k hc ho
  dsimp only at hl
  go_enter Tryz.func137, Tryz.ntmps137
  go_wp2
  go_ret
  exact ⟨rfl, by first | exact Below.refl _ _ | exact bel_al (Below.refl _ _) _⟩

set_option maxHeartbeats 400000 in
theorem ptill_any {B : Nat} {w : World} {p b c : Nat} {s : Qb} {n : Nat} (k : Pk B w p b c s n) :
    Calls Tryz.prog 34 #[.pointer (some ⟨p, 0, none⟩)] w fun e w' => e = .returned (.int .i64 (tillQ s)) ∧ Below w.heap.size w w' := by
  have c1 := k.1.cellD
  have S := psum_any k.1.2.2.2 k.2.dd (by have := k.2.sumA; omega)
  unfold tillQ
  obtain ⟨v, hv⟩ : ∃ v, sumTo (alw s.d) 1000 = v := ⟨_, rfl⟩
  rw [hv] at S ⊢
  clear k hv
  go_enter Tryz.func34, Tryz.ntmps34
  go_wp2_with (go_at_call 71; refine S.mono ?_; rintro e w1 ⟨rfl, hb1⟩)
  go_ret
  exact ⟨rfl, hb1⟩
theorem ptillnil_any (w : World) : Calls Tryz.prog 34 #[.pointer none] w fun e w' => e = .returned (.int .i64 0) ∧ w = w' := by
  go_enter Tryz.func34, Tryz.ntmps34
  go_wp2
  go_ret
  exact ⟨rfl, rfl⟩
/-- What is allowed of x. -/
def alwV (s : Qb) (x : Int) : Int := sumTo (resv s.a x) 1000
set_option maxHeartbeats 400000 in
theorem pallowed_any {B : Nat} {w : World} {p b c : Nat} {s : Qb} {n : Nat} (k : Pk B w p b c s n) (x : Int) :
    Calls Tryz.prog 66 #[.pointer (some ⟨p, 0, none⟩), .int .i64 x] w fun e w' => e = .returned (.int .i64 (alwV s x)) ∧ Below w.heap.size w w' := by
  have c1 := k.1.cellA
  have S := psumof_any k.1.2.2.1 k.2.da (by have := k.2.sumA; omega) x
  unfold alwV
  obtain ⟨v, hv⟩ : ∃ v, sumTo (resv s.a x) 1000 = v := ⟨_, rfl⟩
  rw [hv] at S ⊢
  clear k hv
  go_enter Tryz.func66, Tryz.ntmps66
  go_wp2_with (go_at_call 101; refine S.mono ?_; rintro e w1 ⟨rfl, hb1⟩)
  go_ret
  exact ⟨rfl, hb1⟩
theorem pallowednil_any (x : Int) (w : World) : Calls Tryz.prog 66 #[.pointer none, .int .i64 x] w fun e w' => e = .returned (.int .i64 0) ∧ w = w' := by
  go_enter Tryz.func66, Tryz.ntmps66
  go_wp2
  go_ret
  exact ⟨rfl, rfl⟩
/-- What x has. -/
def monV (s : Qb) (x : Int) : Int := if isIt x = true then moneyK s x else 0
set_option maxHeartbeats 1000000 in
theorem pmoney_any {B : Nat} {w : World} {p b c : Nat} {s : Qb} {n : Nat} (k : Pk B w p b c s n) (x : Int) :
    Calls Tryz.prog 65 #[.pointer (some ⟨p, 0, none⟩), .int .i64 x] w fun e w' => e = .returned (.int .i64 (monV s x)) ∧ Below w.heap.size w w' := by
  have hi := piscl_any x w
  by_cases h : isIt x = true
  · have e : monV s x = moneyK s x := if_pos h
    rw [e]
    rw [h] at hi
    obtain ⟨h0, h1⟩ := isIt_iff.1 h
    have bd := k.2.money h0 h1
    obtain ⟨i, rfl⟩ : ∃ i : Nat, x = i := ⟨x.toNat, by omega⟩
    have c0 := k.1.cellF (i := i) (by omega)
    have c1 := k.1.cellD
    have kd := k.on (Below.refl w.heap.size w).drew
    have S := psumof_any kd.1.2.2.2 kd.2.dd (by have := kd.2.sumA; omega) i
    have HL : Hid (∀ u, Below w.drew.heap.size w.drew u → u.cell? ⟨p, i, none⟩ = some (.int .i64 (s.f i)) ∧ u.cell? ⟨p, 9, none⟩ = some (.map (some c))) := fun u hu => ⟨(kd.1.on hu).cellF (by omega), (kd.1.on hu).cellD⟩
    unfold moneyK
    unfold moneyK at bd
    obtain ⟨v, hv⟩ : ∃ v, sumTo (resv s.d i) 1000 = v := ⟨_, rfl⟩
    obtain ⟨f, hf⟩ : ∃ f, s.f i = f := ⟨_, rfl⟩
    rw [hv, hf] at bd
    rw [hv] at S
    rw [hf] at c0 HL
    rw [hv, hf]
    obtain ⟨-, -, ⟨b1, b2⟩, b3⟩ := bd
    clear e h k kd hv hf h0
    go_enter Tryz.func65, Tryz.ntmps65
    go_wp2_with (go_at_call 100; refine hi.mono ?_; rintro e w' ⟨rfl, rfl⟩)
    go_region_held3 (fun w' => w'.cell? ⟨p, i, none⟩ = some (.int .i64 f) ∧ w'.cell? ⟨p, 9, none⟩ = some (.map (some c))) (go_keep) (first
      | (go_at_call 101; refine S.mono ?_; clear S; rintro e w1 ⟨rfl, hb1⟩; clear c0 c1; obtain ⟨c0, c1⟩ := HL.out w1 hb1; have HB1 := hide hb1; clear hb1))
    all_goals go_wp2
    all_goals go_ret
    all_goals exact ⟨ret_int (by rw [IntKind.wrap_i64]; omega), bel_on' (Below.refl _ w).drew HB1.out⟩
  · have e : monV s x = 0 := if_neg h
    rw [e]
    rw [show isIt x = false by simpa using h] at hi
    clear e h k
    go_enter Tryz.func65, Tryz.ntmps65
    go_wp2_with (go_at_call 100; refine hi.mono ?_; rintro e w' ⟨rfl, rfl⟩)
    go_ret
    exact ⟨rfl, Below.refl _ _⟩
theorem pmoneynil_any (x : Int) (w : World) : Calls Tryz.prog 65 #[.pointer none, .int .i64 x] w fun e w' => e = .returned (.int .i64 0) ∧ w = w' := by
  go_enter Tryz.func65, Tryz.ntmps65
  go_wp2
  go_ret
  exact ⟨rfl, rfl⟩
theorem pallownil_any (id x q : Int) (w : World) : Calls Tryz.prog 112 #[.pointer none, .int .i64 id, .int .i64 x, .int .i64 q] w fun e w' => e = .returned (.int .i64 1) ∧ w = w' := by
  go_enter Tryz.func112, Tryz.ntmps112
  go_wp2
  go_ret
  exact ⟨rfl, rfl⟩
theorem pendnil_any (id : Int) (w : World) : Calls Tryz.prog 140 #[.pointer none, .int .i64 id] w fun e w' => e = .returned (.tuple #[.agg #[.int .i64 0, .int .i64 0], .int .i64 1]) ∧ Below w.heap.size w w' := by
  go_enter Tryz.func140, Tryz.ntmps140
  go_wp2
  refine bodyPost_ret (v := .tuple #[.agg #[.int .i64 0, .int .i64 0], .int .i64 1]) ?_ rfl ?_
  · rw [results_cell_tmp Tryz.results140]
    simp [go_sem]
  · exact ⟨rfl, (Below.refl _ _).alloc (Nat.le_refl _) _⟩
theorem pcapnil_any (id : Int) (w : World) : Calls Tryz.prog 114 #[.pointer none, .int .i64 id] w fun e w' => e = .returned (.int .i64 1) ∧ Below w.heap.size w w' := by
  go_enter Tryz.func114, Tryz.ntmps114
  go_wp2_with (go_at_call 140; refine (pendnil_any _ _).mono ?_; rintro e w1 ⟨rfl, hb1⟩)
  go_ret
  exact ⟨rfl, by first | exact hb1 | exact bel_on' hb1 ((Below.refl _ _).alloc (Nat.le_refl _) _)⟩
theorem pvoidnil_any (id : Int) (w : World) : Calls Tryz.prog 116 #[.pointer none, .int .i64 id] w fun e w' => e = .returned (.int .i64 1) ∧ Below w.heap.size w w' := by
  go_enter Tryz.func116, Tryz.ntmps116
  go_wp2_with (go_at_call 140; refine (pendnil_any _ _).mono ?_; rintro e w1 ⟨rfl, hb1⟩)
  go_ret
  exact ⟨rfl, by first | exact hb1 | exact bel_on' hb1 ((Below.refl _ _).alloc (Nat.le_refl _) _)⟩
end Go.Proofs.YthkgjggbpgkmpaaGreatDoor.Gd.Pu
/-
  Contracts of purse's end, Capture, Void.
-/
namespace Go.Proofs.YthkgjggbpgkmpaaGreatDoor.Gd.Pu
open Go.ChangeShapes Go.WideShapes Go.ChangeAt Go.RowKit Go.Maps

set_option maxHeartbeats 1000000 in
theorem end_none {B : Nat} {w : World} {p b c : Nat} {s : Qb} {n : Nat} (k : Pk0 B w p b c s n) {id : Int} (hw : (Lit.int .i64 id).wf = true) (hz : s.a id = none) :
    Calls Tryz.prog 140 #[.pointer (some ⟨p, 0, none⟩), .int .i64 id] w fun e w' => e = .returned (.tuple #[.agg #[.int .i64 0, .int .i64 0], .int .i64 6]) ∧ Below w.heap.size w w' := by
  have k1 : Pk0 B (w.alloc (.cells #[.int .i64 0, .int .i64 0] 140)) p b c s n := k.on (bel_al (Below.refl _ _) _)
  have c1 := k.cellA
  have hl := k1.2.2.1.look hw
  rw [hz] at hl
  unfold pairV at hl
  dsimp only [Option.getD, Option.isSome] at hl
  have hlt := k.lt
  clear k hz k1
  go_enter Tryz.func140, Tryz.ntmps140
  go_wp2
  refine bodyPost_ret (v := .tuple #[.agg #[.int .i64 0, .int .i64 0], .int .i64 6]) ?_ rfl ?_
  · rw [results_cell_tmp Tryz.results140]
    simp [go_sem]
  · exact ⟨rfl, bel_al (bel_al (Below.refl _ _) _) _⟩

set_option maxHeartbeats 1000000 in
theorem end_some {B : Nat} {w : World} {p b c : Nat} {s : Qb} {n : Nat} (k : Pk0 B w p b c s n) {id : Int} (hw : (Lit.int .i64 id).wf = true) {x y : Int} (hz : s.a id = some (x, y)) :
    Calls Tryz.prog 140 #[.pointer (some ⟨p, 0, none⟩), .int .i64 id] w fun e w' => e = .returned (.tuple #[.agg #[.int .i64 x, .int .i64 y], .int .i64 0]) ∧ Pk0 B w' p b c ⟨s.f, updO s.a id none, s.d⟩ n ∧ Rg.Kept (Own2 b c) w w' := by
  have k1 : Pk0 B (w.alloc (.cells #[.int .i64 0, .int .i64 0] 140)) p b c s n := k.on (bel_al (Below.refl _ _) _)
  have k2 : Pk0 B ((w.alloc (.cells #[.int .i64 0, .int .i64 0] 140)).alloc (.cells #[.int .i64 x, .int .i64 y] 140)) p b c s n := k.on (bel_al (bel_al (Below.refl _ _) _) _)
  have c1 := k.cellA
  have hl := k1.2.2.1.look hw
  rw [hz] at hl
  unfold pairV at hl
  dsimp only [Option.getD, Option.isSome] at hl
  have hlt := k.lt
  have hltb := k.2.2.1.lt
  have hltc := k.2.2.2.lt
  have hkey := keyOf_int_mk Tryz.underlying3 hw
  have hne := k.nea
  obtain ⟨h1, h2, ⟨D, hown, h6⟩, h7⟩ := k2
  have FIN : Hid (∀ w1, w1.ownsMap Tryz.prog 3 pairElem b n (D.del (.int .i64 id)) → ((w.alloc (.cells #[.int .i64 0, .int .i64 0] 140)).alloc (.cells #[.int .i64 x, .int .i64 y] 140)).mapTurned w1 b →
      Pk0 B w1 p b c ⟨s.f, updO s.a id none, s.d⟩ n ∧ Rg.Kept (Own2 b c) w w1 ∧ w1.heap[w.heap.size]? = some (.cells #[.int .i64 0, .int .i64 0] 140 (0, 0)) ∧ w1.heap[w.heap.size + 1]? = some (.cells #[.int .i64 x, .int .i64 y] 140 (0, 0))) := fun w1 o1 t1 => by
    have kp : Rg.Kept (fun i _ => i = b) ((w.alloc (.cells #[.int .i64 0, .int .i64 0] 140)).alloc (.cells #[.int .i64 x, .int .i64 y] 140)) w1 := Rg.Kept.grown t1.grown (fun i _ e => (by cases e; rfl))
    refine ⟨⟨kp.block _ _ h1 (fun e => hne e.symm), h2, ⟨_, o1, h6.del id⟩, h7.kept kp (fun _ e => h2.2.2.2 e.symm)⟩, (Rg.Kept.of_below (bel_al (bel_al (Below.refl _ _) _) _)).trans (kp.mono (fun _ _ e => .inl e)), kp.block _ _ ?_ (by omega), kp.block _ _ ?_ (by omega)⟩
    · rw [Below.heap_alloc _ _ _ (by simp)]
      exact World.alloc_heap_new _ _
    · have := World.alloc_heap_new (w.alloc (.cells #[.int .i64 0, .int .i64 0] 140)) (.cells #[.int .i64 x, .int .i64 y] 140)
      rwa [World.size_alloc] at this
  clear h1 h2 h7 h6 k k1 hne hz
  go_enter Tryz.func140, Tryz.ntmps140
  go_wp2_with (at_delete; refine wpList_delete_own _ rfl _ _ 78 3 rfl 140 lawI Tryz.underlying78 _ b n D rfl hown _ _ rfl hkey ?_; intro w1 hown1 hturn1; obtain ⟨s1, s2, s3, s4⟩ := FIN.out w1 hown1 hturn1; have S1 := hide s1; have S2 := hide s2; have hs1 : w1.heap.size > w.heap.size := (Array.getElem?_eq_some_iff.1 s3).1; have S3 := hide s3; have d0 : w1.cell? ⟨w.heap.size, 0, none⟩ = some (.int .i64 0) := (by rw [cell_of s3]; rfl); have d1 : w1.cell? ⟨w.heap.size, 1, none⟩ = some (.int .i64 0) := (by rw [cell_of s3]; rfl); have d2 : w1.cell? ⟨w.heap.size + 1, 0, none⟩ = some (.int .i64 x) := (by rw [cell_of s4]; rfl); have d3 : w1.cell? ⟨w.heap.size + 1, 1, none⟩ = some (.int .i64 y) := (by rw [cell_of s4]; rfl); have f0 : w1.frozen? ⟨w.heap.size, 0, none⟩ = false := frozen_of_row _ _ _ _ _ s3; have f1 : w1.frozen? ⟨w.heap.size, 1, none⟩ = false := frozen_of_row _ _ _ _ _ s3; clear s1 s2 s3 s4 hown hown1 hturn1)
  refine bodyPost_ret (v := .tuple #[.agg #[.int .i64 x, .int .i64 y], .int .i64 0]) ?_ rfl ?_
  · rw [results_cell_tmp Tryz.results140]
    simp [go_sem, d0, d1]
  · have kq : Rg.Kept (fun i _ => i = w.heap.size) w1 ((w1.setCell ⟨w.heap.size, 0, none⟩ (.int .i64 x)).setCell ⟨w.heap.size, 1, none⟩ (.int .i64 y)) := (Rg.Kept.setCell _ (fun _ => rfl)).trans (Rg.Kept.setCell _ (fun _ => rfl))
    refine ⟨rfl, S1.out.kept kq (fun _ e => by omega) (fun _ e => by omega) (fun _ e => by omega), ?_⟩
    exact kept_new S2.out kq

/-- m[id] = deal{x, y} -/
theorem Mp.put {w : World} {b n : Nat} {r : Int → Option (Int × Int)} (k : Mp w b n r) {id : Int} (hw : (Lit.int .i64 id).wf = true) (hn : n < 1000000) (x y : Int) :
    ∃ w1, (Instr.mapUpdate 78 (.map (some b)) (.int .i64 id) (.agg #[.int .i64 x, .int .i64 y])).run Tryz.prog w = .ok () w1 ∧ Mp w1 b (n + 1) (updO r id (some (x, y))) ∧ Rg.Kept (fun i _ => i = b) w w1 := by
  obtain ⟨D, h5, h6⟩ := k
  obtain ⟨w1, hrun, o1, t1⟩ := h5.store lawI Tryz.underlying78 (by unfold maxLen; omega) (keyOf_int_mk Tryz.underlying3 hw) (pairElem_mk (x, y))
  exact ⟨w1, hrun, ⟨_, o1, h6.put id (x, y)⟩, Rg.Kept.grown t1.grown (fun i _ e => (by cases e; rfl))⟩

set_option maxHeartbeats 1000000 in
theorem pvoid_any {B : Nat} {w : World} {p b c : Nat} {s : Qb} {n : Nat} (k : Pk B w p b c s n) {id : Int} (hw : (Lit.int .i64 id).wf = true) :
    Calls Tryz.prog 116 #[.pointer (some ⟨p, 0, none⟩), .int .i64 id] w fun e w' => e = .returned (.int .i64 (capE (toP s) id)) ∧ Pk B w' p b c (voidQ s id) n ∧ Rg.Kept (Own2 b c) w w' := by
  cases hz : s.a id with
  | none =>
    rw [capE_none (s := toP s) hz, voidQ_none hz]
    have U := end_none k.1 hw hz
    have HK := hide k
    clear k hz
    go_enter Tryz.func116, Tryz.ntmps116
    go_wp2_with (go_at_call 140; refine U.mono ?_; rintro e w1 ⟨rfl, hb1⟩)
    go_ret
    exact ⟨rfl, by first | exact HK.out.on hb1 | exact HK.out.on (bel_al hb1 _), by first | exact Rg.Kept.of_below hb1 | exact Rg.Kept.of_below (bel_al hb1 _)⟩
  | some d =>
    obtain ⟨x, y⟩ := d
    rw [capE_some (s := toP s) hz, voidQ_some hz]
    have U := end_some k.1 hw hz
    have HG := hide (k.2.void id)
    rw [voidQ_some hz] at HG
    clear k hz
    go_enter Tryz.func116, Tryz.ntmps116
    go_wp2_with (go_at_call 140; refine U.mono ?_; rintro e w1 ⟨rfl, hk1, ho1⟩; have HK1 := hide hk1; have HO1 := hide ho1; clear hk1 ho1)
    go_ret
    exact ⟨rfl, by first | exact ⟨HK1.out, HG.out⟩ | exact ⟨HK1.out.on (bel_al (Below.refl _ _) _), HG.out⟩, by first | exact HO1.out | exact HO1.out.trans (Rg.Kept.of_below (bel_al (Below.refl _ _) _))⟩

set_option maxHeartbeats 1000000 in
theorem pcap_any {B : Nat} {w : World} {p b c : Nat} {s : Qb} {n : Nat} (k : Pk B w p b c s n) {id : Int} (hw : (Lit.int .i64 id).wf = true) (hn : n < 1000000) :
    Calls Tryz.prog 114 #[.pointer (some ⟨p, 0, none⟩), .int .i64 id] w fun e w' => e = .returned (.int .i64 (capE (toP s) id)) ∧ Pk B w' p b c (capQ s id) (n + 1) ∧ Rg.Kept (Own2 b c) w w' := by
  cases hz : s.a id with
  | none =>
    rw [capE_none (s := toP s) hz, capQ_none hz]
    have U := end_none k.1 hw hz
    have HK := hide (k.mono (Nat.le_succ _))
    clear k hz
    go_enter Tryz.func114, Tryz.ntmps114
    go_wp2_with (go_at_call 140; refine U.mono ?_; rintro e w1 ⟨rfl, hb1⟩)
    go_ret
    exact ⟨rfl, by first | exact HK.out.on hb1 | exact HK.out.on (bel_al hb1 _), by first | exact Rg.Kept.of_below hb1 | exact Rg.Kept.of_below (bel_al hb1 _)⟩
  | some d =>
    obtain ⟨x, y⟩ := d
    rw [capE_some (s := toP s) hz, capQ_some hz]
    have U := end_some k.1 hw hz
    have HG := hide (k.2.cap id)
    rw [capQ_some hz] at HG
    have FIN : Hid (∀ w1, Pk0 B w1 p b c ⟨s.f, updO s.a id none, s.d⟩ n → Rg.Kept (Own2 b c) w w1 → p < w1.heap.size ∧ w1.cell? ⟨p, 9, none⟩ = some (.map (some c)) ∧ ∃ w2, (Instr.mapUpdate 78 (.map (some c)) (.int .i64 id) (.agg #[.int .i64 x, .int .i64 y])).run Tryz.prog ((w1.alloc (.cells #[.int .i64 x, .int .i64 y] 140)).drew) = .ok () w2 ∧ Pk0 B w2 p b c ⟨s.f, updO s.a id none, updO s.d id (some (x, y))⟩ (n + 1) ∧ Rg.Kept (Own2 b c) w w2) := fun w1 k1 kk => by
      have hb : Below w1.heap.size w1 ((w1.alloc (.cells #[.int .i64 x, .int .i64 y] 140)).drew) := (bel_al (Below.refl _ _) _).drew
      have k2 := k1.on hb
      have hned := k2.ned
      obtain ⟨w2, hr, m2, kp⟩ := k2.2.2.2.put hw hn x y
      refine ⟨k1.lt, k1.cellD, w2, hr, ⟨kp.block _ _ k2.1 (fun e => hned e.symm), k2.2.1, (k2.2.2.1.mono (Nat.le_succ _)).kept kp (fun _ e => k2.2.1.2.2.2 e), m2⟩, (kk.trans (Rg.Kept.of_below hb)).trans (kp.mono (fun _ _ e => .inr e))⟩
    clear k hz
    go_enter Tryz.func114, Tryz.ntmps114
    go_wp2_with (go_at_call 140; refine U.mono ?_; rintro e w1 ⟨rfl, hk1, ho1⟩; obtain ⟨hlt1, c9, w2, hr2, hk2, ho2⟩ := FIN.out w1 hk1 ho1; have HK2 := hide hk2; have HO2 := hide ho2; clear hk1 ho1 hk2 ho2 U)
    go_region
    go_wp2
    go_ret
    exact ⟨rfl, ⟨HK2.out, HG.out⟩, HO2.out⟩
end Go.Proofs.YthkgjggbpgkmpaaGreatDoor.Gd.Pu
/-
  Contract of purse's Allow.
-/
namespace Go.Proofs.YthkgjggbpgkmpaaGreatDoor.Gd.Pu
open Go.ChangeShapes Go.WideShapes Go.ChangeAt Go.RowKit Go.Maps

theorem alwE_arg {s : Pb} {id k q : Int} (h : ¬ (isI id = true ∧ isIt k = true ∧ 1 ≤ q ∧ q ≤ 1000000000)) : alwE s id k q = 1 := if_neg h
theorem alwE_two {s : Pb} {id k q : Int} (h : isI id = true ∧ isIt k = true ∧ 1 ≤ q ∧ q ≤ 1000000000) (h2 : (s.a id).isSome = true ∨ s.p id ≠ 0) : alwE s id k q = 8 := by unfold alwE; rw [if_pos h, if_pos h2]
theorem alwE_less {s : Pb} {id k q : Int} (h : isI id = true ∧ isIt k = true ∧ 1 ≤ q ∧ q ≤ 1000000000) (h1 : s.a id = none) (h2 : s.p id = 0) (h3 : ¬ q ≤ s.m k - alwK s k) : alwE s id k q = 9 := by unfold alwE; rw [if_pos h, if_neg (by simp [h1, h2]), if_neg h3]
theorem alwE_over {s : Pb} {id k q : Int} (h : isI id = true ∧ isIt k = true ∧ 1 ≤ q ∧ q ≤ 1000000000) (h1 : s.a id = none) (h2 : s.p id = 0) (h3 : q ≤ s.m k - alwK s k) (h4 : ¬ s.till + allA s + q ≤ 1000000000) : alwE s id k q = 4 := by unfold alwE; rw [if_pos h, if_neg (by simp [h1, h2]), if_pos h3, if_neg h4]
theorem alwE_well {s : Pb} {id k q : Int} (h : isI id = true ∧ isIt k = true ∧ 1 ≤ q ∧ q ≤ 1000000000) (h1 : s.a id = none) (h2 : s.p id = 0) (h3 : q ≤ s.m k - alwK s k) (h4 : s.till + allA s + q ≤ 1000000000) : alwE s id k q = 0 := by unfold alwE; rw [if_pos h, if_neg (by simp [h1, h2]), if_pos h3, if_pos h4]
/-- What each call on it may count on, while memory is only added. -/
theorem allow_lay {B : Nat} {w : World} {p b c : Nat} {s : Qb} {n : Nat} (k : Pk B w p b c s n) {id x : Int} (hw : (Lit.int .i64 id).wf = true) (hx : isIt x = true) :
    ∀ u, Below w.heap.size w u → u.cell? ⟨p, 8, none⟩ = some (.map (some b)) ∧ u.cell? ⟨p, 9, none⟩ = some (.map (some c)) ∧
      (Calls Tryz.prog 137 #[.map (some b), .int .i64 id] u fun e w' => e = .returned (.bool (s.a id).isSome) ∧ Below w.heap.size w w') ∧
      (Calls Tryz.prog 137 #[.map (some c), .int .i64 id] u fun e w' => e = .returned (.bool (s.d id).isSome) ∧ Below w.heap.size w w') ∧
      (Calls Tryz.prog 65 #[.pointer (some ⟨p, 0, none⟩), .int .i64 x] u fun e w' => e = .returned (.int .i64 (moneyK s x)) ∧ Below w.heap.size w w') ∧
      (Calls Tryz.prog 66 #[.pointer (some ⟨p, 0, none⟩), .int .i64 x] u fun e w' => e = .returned (.int .i64 (alwV s x)) ∧ Below w.heap.size w w') ∧
      (Calls Tryz.prog 34 #[.pointer (some ⟨p, 0, none⟩)] u fun e w' => e = .returned (.int .i64 (tillQ s)) ∧ Below w.heap.size w w') ∧
      (Calls Tryz.prog 71 #[.map (some b)] u fun e w' => e = .returned (.int .i64 (sumTo (alw s.a) 1000)) ∧ Below w.heap.size w w') := fun u hu => by
  have k1 := k.on hu
  have M := pmoney_any k1 x
  rw [show monV s x = moneyK s x from if_pos hx] at M
  refine ⟨k1.1.cellA, k1.1.cellD, (phas_any k1.1.2.2.1 hw).mono ?_, (phas_any k1.1.2.2.2 hw).mono ?_, M.mono ?_, (pallowed_any k1 x).mono ?_, (ptill_any k1).mono ?_, (psum_any k1.1.2.2.1 k1.2.da (by have := k1.2.sumA; omega)).mono ?_⟩
  all_goals exact fun e w' h => ⟨h.1, bel_on' hu h.2⟩

set_option maxRecDepth 100000 in
set_option maxHeartbeats 2000000 in
theorem pallow_any {B : Nat} {w : World} {p b c : Nat} {s : Qb} {n : Nat} (k : Pk B w p b c s n) {id : Int} (hw : (Lit.int .i64 id).wf = true) (x q : Int) (hn : n < 1000000) :
    Calls Tryz.prog 112 #[.pointer (some ⟨p, 0, none⟩), .int .i64 id, .int .i64 x, .int .i64 q] w fun e w' => e = .returned (.int .i64 (alwE (toP s) id x q)) ∧ Pk B w' p b c (alwQ s id x q) (n + 1) ∧ Rg.Kept (Own2 b c) w w' := by
  have no : ∀ c', alwE (toP s) id x q = c' → c' ≠ 0 → ∀ w', Below w.heap.size w w' → Pk B w' p b c (alwQ s id x q) (n + 1) := fun c' e hc w' hb => by
    rw [alwQ_no (by omega)]
    exact (k.on hb).mono (by omega)
  by_cases hi : isI id = true
  · by_cases hx : isIt x = true
    · by_cases hq : 1 ≤ q ∧ q ≤ 1000000000
      · have hm : may q = true := may_iff.2 (by omega)
        have hq0 : (q == 0) = false := by simp; omega
        have hall : isI id = true ∧ isIt x = true ∧ 1 ≤ q ∧ q ≤ 1000000000 := ⟨hi, hx, hq⟩
        have LAY := hide (allow_lay k hw hx)
        obtain ⟨c8, c9, A1, -⟩ := LAY.out w (Below.refl _ _)
        obtain ⟨gx0, gx1⟩ := isIt_iff.1 hx
        obtain ⟨⟨m1, m2⟩, m3, -, -⟩ := k.2.money gx0 gx1
        obtain ⟨t1, t2, t3⟩ := k.2.sumA
        cases hz : s.a id with
        | some c1 =>
          have e0 : alwE (toP s) id x q = 8 := alwE_two hall (.inl (by show (s.a id).isSome = true; rw [hz]; rfl))
          rw [hz] at A1
          dsimp only [Option.isSome] at A1
          have NO := hide (no 8 e0 (by omega))
          rw [e0]
          clear no e0 k hz hall
          go_enter Tryz.func112, Tryz.ntmps112
          go_wp2_with (first
        | (go_at_call 136; refine (pisid_any _ _).mono ?_; rintro e w' ⟨rfl, rfl⟩)
        | (go_at_call 100; refine (piscl_any _ _).mono ?_; rintro e w' ⟨rfl, rfl⟩)
        | (go_at_call 134; refine (may_any _ _).mono ?_; rintro e w' ⟨rfl, rfl⟩)
        | (go_at_call 137; refine A1.mono ?_; clear A1; rintro e u1 ⟨rfl, b1⟩; clear c8 c9; obtain ⟨c8, c9, -⟩ := LAY.out u1 b1; have Hb1 := hide b1; clear b1))
          go_ret
          exact ⟨rfl, NO.out _ Hb1.out, Rg.Kept.of_below Hb1.out⟩
        | none =>
          rw [hz] at A1
          dsimp only [Option.isSome] at A1
          cases hy : s.d id with
          | some c1 =>
            have e0 : alwE (toP s) id x q = 8 := alwE_two hall (.inr (fun e => by have := k.2.dd.nope e; rw [hy] at this; cases this))
            rw [hy] at LAY
            dsimp only [Option.isSome] at LAY
            have NO := hide (no 8 e0 (by omega))
            rw [e0]
            clear no e0 k hz hall hy
            go_enter Tryz.func112, Tryz.ntmps112
            go_wp2_with (first
        | (go_at_call 136; refine (pisid_any _ _).mono ?_; rintro e w' ⟨rfl, rfl⟩)
        | (go_at_call 100; refine (piscl_any _ _).mono ?_; rintro e w' ⟨rfl, rfl⟩)
        | (go_at_call 134; refine (may_any _ _).mono ?_; rintro e w' ⟨rfl, rfl⟩)
        | (go_at_call 137; refine A1.mono ?_; clear A1; rintro e u1 ⟨rfl, b1⟩; clear c8 c9; obtain ⟨c8, c9, -, A2, -⟩ := LAY.out u1 b1; have Hb1 := hide b1; clear b1)
        | (go_at_call 137; refine A2.mono ?_; clear A2; rintro e u2 ⟨rfl, b2⟩; clear c8 c9; obtain ⟨c8, c9, -⟩ := LAY.out u2 b2; have Hb2 := hide b2; clear b2))
            go_ret
            exact ⟨rfl, NO.out _ Hb2.out, Rg.Kept.of_below Hb2.out⟩
          | none =>
            have hp0 : (toP s).p id = 0 := by show alw s.d id = 0; unfold alw; rw [hy]; rfl
            rw [hy] at LAY
            dsimp only [Option.isSome] at LAY
            have eK : alwK (toP s) x = alwV s x := rfl
            have eM : (toP s).m x = moneyK s x := rfl
            have eT : (toP s).till = tillQ s := rfl
            have eA : allA (toP s) = sumTo (alw s.a) 1000 := rfl
            have t2' : 0 ≤ tillQ s := t2
            have t3' : tillQ s + sumTo (alw s.a) 1000 ≤ 1000000000 := t3
            have m1' : 0 ≤ alwV s x := m1
            have m2' : alwV s x ≤ moneyK s x := m2
            clear t2 t3 m1 m2
            by_cases hle : q ≤ moneyK s x - alwV s x
            · by_cases hov : tillQ s + sumTo (alw s.a) 1000 + q ≤ 1000000000
              · have e0 : alwE (toP s) id x q = 0 := alwE_well hall hz hp0 (by rw [eM, eK]; exact hle) (by rw [eT, eA]; exact hov)
                have HG := hide (k.2.allow id x q)
                rw [alwQ_ok e0] at HG
                rw [e0, alwQ_ok e0]
                have PUT : Hid (∀ u, Below w.heap.size w u → ∃ w2, (Instr.mapUpdate 78 (.map (some b)) (.int .i64 id) (.agg #[.int .i64 x, .int .i64 q])).run Tryz.prog u = .ok () w2 ∧ Pk0 B w2 p b c ⟨s.f, updO s.a id (some (x, q)), s.d⟩ (n + 1) ∧ Rg.Kept (Own2 b c) w w2) := fun u hu => by
                  have k2 := k.1.on hu
                  have hnea := k2.nea
                  obtain ⟨w2, hr, m2, kp⟩ := k2.2.2.1.put hw hn x q
                  exact ⟨w2, hr, ⟨kp.block _ _ k2.1 (fun e => hnea e.symm), k2.2.1, m2, (k2.2.2.2.mono (Nat.le_succ _)).kept kp (fun _ e => k2.2.1.2.2.2 e.symm)⟩, (Rg.Kept.of_below hu).trans (kp.mono (fun _ _ e => .inl e))⟩
                have hml : may (moneyK s x - alwV s x) = true := may_iff.2 (by omega)
                have hmt : may (tillQ s + sumTo (alw s.a) 1000) = true := may_iff.2 (by omega)
                have hse : subE (moneyK s x - alwV s x) q = 0 := by simp [subE, hml, hm, hle]
                have hae : addE (tillQ s + sumTo (alw s.a) 1000) q = 0 := by simp [addE, hmt, hm, hov]
                obtain ⟨M, hM⟩ : ∃ M, moneyK s x = M := ⟨_, rfl⟩
                obtain ⟨V, hV⟩ : ∃ V, alwV s x = V := ⟨_, rfl⟩
                obtain ⟨Tl, hT⟩ : ∃ Tl, tillQ s = Tl := ⟨_, rfl⟩
                obtain ⟨Al, hA⟩ : ∃ Al, sumTo (alw s.a) 1000 = Al := ⟨_, rfl⟩
                rw [hM, hV, hT, hA] at LAY
                rw [hM, hV] at hse m2'
                rw [hV] at m1'
                rw [hM] at m3
                rw [hT, hA] at hae t3'
                rw [hT] at t2'
                rw [hA] at t1
                clear no e0 k hz hall hy hp0 eK eM eT eA hle hov hml hmt hM hV hT hA
                go_enter Tryz.func112, Tryz.ntmps112
                go_wp2_with (first
        | (go_at_call 136; refine (pisid_any _ _).mono ?_; rintro e w' ⟨rfl, rfl⟩)
        | (go_at_call 100; refine (piscl_any _ _).mono ?_; rintro e w' ⟨rfl, rfl⟩)
        | (go_at_call 134; refine (may_any _ _).mono ?_; rintro e w' ⟨rfl, rfl⟩)
        | (go_at_call 137; refine A1.mono ?_; clear A1; rintro e u1 ⟨rfl, b1⟩; clear c8 c9; obtain ⟨c8, c9, -, A2, -⟩ := LAY.out u1 b1; have Hb1 := hide b1; clear b1)
        | (go_at_call 137; refine A2.mono ?_; clear A2; rintro e u2 ⟨rfl, b2⟩; clear c8 c9; obtain ⟨c8, c9, -, -, A3, -⟩ := LAY.out u2 b2; have Hb2 := hide b2; clear b2)
        | (go_at_call 65; refine A3.mono ?_; clear A3; rintro e u3 ⟨rfl, b3⟩; clear c8 c9; obtain ⟨c8, c9, -, -, -, A4, -⟩ := LAY.out u3 b3; have Hb3 := hide b3; clear b3)
        | (go_at_call 66; refine A4.mono ?_; clear A4; rintro e u4 ⟨rfl, b4⟩; clear c8 c9; obtain ⟨c8, c9, -, -, -, -, A5, -⟩ := LAY.out u4 b4; have Hb4 := hide b4; clear b4)
        | (go_at_call 135; refine (sub_any _ _ _).mono ?_; rintro e w' ⟨rfl, rfl⟩))
                clear A5
                obtain ⟨-, -, -, -, -, -, A5, -⟩ := LAY.out u4.drew Hb4.out.drew
                have qw : IntKind.i64.wrap (Tl + Al) = Tl + Al := by rw [IntKind.wrap_i64]; omega
                clear c9
                go_region_held3 (fun w' => w'.cell? ⟨p, 8, none⟩ = some (.map (some b))) (go_keep) (first
        | (go_at_call 34; refine A5.mono ?_; clear A5; rintro e u5 ⟨rfl, b5⟩; clear c8; obtain ⟨c8, c9, -, -, -, -, -, A6⟩ := LAY.out u5 b5; have Hb5 := hide b5; clear b5)
        | (go_at_call 71; refine A6.mono ?_; clear A6; rintro e u6 ⟨rfl, b6⟩; clear c8 c9; obtain ⟨c8, c9, -⟩ := LAY.out u6 b6; have Hb6 := hide b6; clear b6; obtain ⟨w2, hr2, hp2⟩ := PUT.out u6 Hb6.out; have HP2 := hide hp2; clear hp2)
        | (go_at_call 138; refine (add_any _ _ _).mono ?_; rintro e w' ⟨rfl, rfl⟩))
                all_goals go_wp2
                all_goals go_ret
                all_goals exact ⟨rfl, ⟨HP2.out.1, HG.out⟩, HP2.out.2⟩
              · have e0 : alwE (toP s) id x q = 4 := alwE_over hall hz hp0 (by rw [eM, eK]; exact hle) (by rw [eT, eA]; exact hov)
                have NO := hide (no 4 e0 (by omega))
                rw [e0]
                have hml : may (moneyK s x - alwV s x) = true := may_iff.2 (by omega)
                have hmt : may (tillQ s + sumTo (alw s.a) 1000) = true := may_iff.2 (by omega)
                have hse : subE (moneyK s x - alwV s x) q = 0 := by simp [subE, hml, hm, hle]
                have hae : addE (tillQ s + sumTo (alw s.a) 1000) q = 4 := by simp [addE, hmt, hm, hov]
                obtain ⟨M, hM⟩ : ∃ M, moneyK s x = M := ⟨_, rfl⟩
                obtain ⟨V, hV⟩ : ∃ V, alwV s x = V := ⟨_, rfl⟩
                obtain ⟨Tl, hT⟩ : ∃ Tl, tillQ s = Tl := ⟨_, rfl⟩
                obtain ⟨Al, hA⟩ : ∃ Al, sumTo (alw s.a) 1000 = Al := ⟨_, rfl⟩
                rw [hM, hV, hT, hA] at LAY
                rw [hM, hV] at hse m2'
                rw [hV] at m1'
                rw [hM] at m3
                rw [hT, hA] at hae t3'
                rw [hT] at t2'
                rw [hA] at t1
                clear no e0 k hz hall hy hp0 eK eM eT eA hle hov hml hmt hM hV hT hA
                go_enter Tryz.func112, Tryz.ntmps112
                go_wp2_with (first
        | (go_at_call 136; refine (pisid_any _ _).mono ?_; rintro e w' ⟨rfl, rfl⟩)
        | (go_at_call 100; refine (piscl_any _ _).mono ?_; rintro e w' ⟨rfl, rfl⟩)
        | (go_at_call 134; refine (may_any _ _).mono ?_; rintro e w' ⟨rfl, rfl⟩)
        | (go_at_call 137; refine A1.mono ?_; clear A1; rintro e u1 ⟨rfl, b1⟩; clear c8 c9; obtain ⟨c8, c9, -, A2, -⟩ := LAY.out u1 b1; have Hb1 := hide b1; clear b1)
        | (go_at_call 137; refine A2.mono ?_; clear A2; rintro e u2 ⟨rfl, b2⟩; clear c8 c9; obtain ⟨c8, c9, -, -, A3, -⟩ := LAY.out u2 b2; have Hb2 := hide b2; clear b2)
        | (go_at_call 65; refine A3.mono ?_; clear A3; rintro e u3 ⟨rfl, b3⟩; clear c8 c9; obtain ⟨c8, c9, -, -, -, A4, -⟩ := LAY.out u3 b3; have Hb3 := hide b3; clear b3)
        | (go_at_call 66; refine A4.mono ?_; clear A4; rintro e u4 ⟨rfl, b4⟩; clear c8 c9; obtain ⟨c8, c9, -, -, -, -, A5, -⟩ := LAY.out u4 b4; have Hb4 := hide b4; clear b4)
        | (go_at_call 135; refine (sub_any _ _ _).mono ?_; rintro e w' ⟨rfl, rfl⟩))
                clear A5
                obtain ⟨-, -, -, -, -, -, A5, -⟩ := LAY.out u4.drew Hb4.out.drew
                have qw : IntKind.i64.wrap (Tl + Al) = Tl + Al := by rw [IntKind.wrap_i64]; omega
                clear c9
                go_region_held3 (fun w' => w'.cell? ⟨p, 8, none⟩ = some (.map (some b))) (go_keep) (first
        | (go_at_call 34; refine A5.mono ?_; clear A5; rintro e u5 ⟨rfl, b5⟩; clear c8; obtain ⟨c8, c9, -, -, -, -, -, A6⟩ := LAY.out u5 b5; have Hb5 := hide b5; clear b5)
        | (go_at_call 71; refine A6.mono ?_; clear A6; rintro e u6 ⟨rfl, b6⟩; clear c8 c9; obtain ⟨c8, c9, -⟩ := LAY.out u6 b6; have Hb6 := hide b6; clear b6)
        | (go_at_call 138; refine (add_any _ _ _).mono ?_; rintro e w' ⟨rfl, rfl⟩))
                all_goals go_wp2
                all_goals go_ret
                all_goals exact ⟨rfl, NO.out _ Hb6.out, Rg.Kept.of_below Hb6.out⟩
            · have e0 : alwE (toP s) id x q = 9 := alwE_less hall hz hp0 (by rw [eM, eK]; exact hle)
              have NO := hide (no 9 e0 (by omega))
              rw [e0]
              have hml : may (moneyK s x - alwV s x) = true := may_iff.2 (by omega)
              have hse : subE (moneyK s x - alwV s x) q = 9 := by simp [subE, hml, hm, hle]
              obtain ⟨M, hM⟩ : ∃ M, moneyK s x = M := ⟨_, rfl⟩
              obtain ⟨V, hV⟩ : ∃ V, alwV s x = V := ⟨_, rfl⟩
              rw [hM, hV] at LAY
              rw [hM, hV] at hse m2'
              rw [hV] at m1'
              rw [hM] at m3
              clear no e0 k hz hall hy hp0 eK eM eT eA hle hml hM hV t1 t2' t3'
              go_enter Tryz.func112, Tryz.ntmps112
              go_wp2_with (first
        | (go_at_call 136; refine (pisid_any _ _).mono ?_; rintro e w' ⟨rfl, rfl⟩)
        | (go_at_call 100; refine (piscl_any _ _).mono ?_; rintro e w' ⟨rfl, rfl⟩)
        | (go_at_call 134; refine (may_any _ _).mono ?_; rintro e w' ⟨rfl, rfl⟩)
        | (go_at_call 137; refine A1.mono ?_; clear A1; rintro e u1 ⟨rfl, b1⟩; clear c8 c9; obtain ⟨c8, c9, -, A2, -⟩ := LAY.out u1 b1; have Hb1 := hide b1; clear b1)
        | (go_at_call 137; refine A2.mono ?_; clear A2; rintro e u2 ⟨rfl, b2⟩; clear c8 c9; obtain ⟨c8, c9, -, -, A3, -⟩ := LAY.out u2 b2; have Hb2 := hide b2; clear b2)
        | (go_at_call 65; refine A3.mono ?_; clear A3; rintro e u3 ⟨rfl, b3⟩; clear c8 c9; obtain ⟨c8, c9, -, -, -, A4, -⟩ := LAY.out u3 b3; have Hb3 := hide b3; clear b3)
        | (go_at_call 66; refine A4.mono ?_; clear A4; rintro e u4 ⟨rfl, b4⟩; clear c8 c9; obtain ⟨c8, c9, -, -, -, -, A5, -⟩ := LAY.out u4 b4; have Hb4 := hide b4; clear b4)
        | (go_at_call 135; refine (sub_any _ _ _).mono ?_; rintro e w' ⟨rfl, rfl⟩))
              go_ret
              exact ⟨rfl, NO.out _ Hb4.out, Rg.Kept.of_below Hb4.out⟩
      · have e0 : alwE (toP s) id x q = 1 := alwE_arg (fun h => hq h.2.2)
        have hi0 : isI id = true := hi
        by_cases hm : may q = true
        · have hq0 : q = 0 := by have := may_iff.1 hm; omega
          subst hq0
          have NO := hide (no 1 e0 (by omega))
          rw [e0]
          clear no e0 k
          go_enter Tryz.func112, Tryz.ntmps112
          go_wp2_with (first
        | (go_at_call 136; refine (pisid_any _ _).mono ?_; rintro e w' ⟨rfl, rfl⟩)
        | (go_at_call 100; refine (piscl_any _ _).mono ?_; rintro e w' ⟨rfl, rfl⟩)
        | (go_at_call 134; refine (may_any _ _).mono ?_; rintro e w' ⟨rfl, rfl⟩))
          go_ret
          exact ⟨rfl, NO.out _ (Below.refl _ _), Rg.Kept.refl _ _⟩
        · have hm0 : may q = false := by simpa using hm
          have NO := hide (no 1 e0 (by omega))
          rw [e0]
          clear no e0 k
          go_enter Tryz.func112, Tryz.ntmps112
          go_wp2_with (first
        | (go_at_call 136; refine (pisid_any _ _).mono ?_; rintro e w' ⟨rfl, rfl⟩)
        | (go_at_call 100; refine (piscl_any _ _).mono ?_; rintro e w' ⟨rfl, rfl⟩)
        | (go_at_call 134; refine (may_any _ _).mono ?_; rintro e w' ⟨rfl, rfl⟩))
          go_ret
          exact ⟨rfl, NO.out _ (Below.refl _ _), Rg.Kept.refl _ _⟩
    · have hx0 : isIt x = false := by simpa using hx
      have e0 : alwE (toP s) id x q = 1 := alwE_arg (fun h => hx h.2.1)
      have NO := hide (no 1 e0 (by omega))
      rw [e0]
      clear no e0 k
      go_enter Tryz.func112, Tryz.ntmps112
      go_wp2_with (first
        | (go_at_call 136; refine (pisid_any _ _).mono ?_; rintro e w' ⟨rfl, rfl⟩)
        | (go_at_call 100; refine (piscl_any _ _).mono ?_; rintro e w' ⟨rfl, rfl⟩)
        | (go_at_call 134; refine (may_any _ _).mono ?_; rintro e w' ⟨rfl, rfl⟩))
      go_ret
      exact ⟨rfl, NO.out _ (Below.refl _ _), Rg.Kept.refl _ _⟩
  · have hi0 : isI id = false := by simpa using hi
    have e0 : alwE (toP s) id x q = 1 := alwE_arg (fun h => hi h.1)
    have NO := hide (no 1 e0 (by omega))
    rw [e0]
    clear no e0 k
    go_enter Tryz.func112, Tryz.ntmps112
    go_wp2_with (first
        | (go_at_call 136; refine (pisid_any _ _).mono ?_; rintro e w' ⟨rfl, rfl⟩)
        | (go_at_call 100; refine (piscl_any _ _).mono ?_; rintro e w' ⟨rfl, rfl⟩)
        | (go_at_call 134; refine (may_any _ _).mono ?_; rintro e w' ⟨rfl, rfl⟩))
    go_ret
    exact ⟨rfl, NO.out _ (Below.refl _ _), Rg.Kept.refl _ _⟩
end Go.Proofs.YthkgjggbpgkmpaaGreatDoor.Gd.Pu
/-
  Contract of purse's New.
-/
namespace Go.Proofs.YthkgjggbpgkmpaaGreatDoor.Gd.Pu
open Go.ChangeShapes Go.WideShapes Go.ChangeAt Go.RowKit Go.Maps

theorem Pk0.congr {B : Nat} {w : World} {p b c : Nat} {s s' : Qb} {n : Nat} (k : Pk0 B w p b c s n) (h1 : ∀ k : Nat, k < 8 → s.f k = s'.f k) (h2 : s.a = s'.a) (h3 : s.d = s'.d) : Pk0 B w p b c s' n := by
  unfold Pk0 bcs at *
  rw [← rowc_congr h1, ← h2, ← h3]
  exact k
theorem pk_start (w : World) (l : List Int) : Pk0 w.heap.size (((w.alloc (.map #[] 0)).alloc (.map #[] 0)).alloc (.cells #[.int .i64 0, .int .i64 0, .int .i64 0, .int .i64 0, .int .i64 0, .int .i64 0, .int .i64 0, .int .i64 0, .map (some w.heap.size), .map (some (w.heap.size + 1))] 80)) (w.heap.size + 2) w.heap.size (w.heap.size + 1) ⟨onJ l 0, fun _ => none, fun _ => none⟩ 0 := by
  have h2 := World.alloc_heap_new ((w.alloc (.map #[] 0)).alloc (.map #[] 0)) (.cells #[.int .i64 0, .int .i64 0, .int .i64 0, .int .i64 0, .int .i64 0, .int .i64 0, .int .i64 0, .int .i64 0, .map (some w.heap.size), .map (some (w.heap.size + 1))] 80)
  rw [World.size_alloc, World.size_alloc] at h2
  have m1 : Mp (((w.alloc (.map #[] 0)).alloc (.map #[] 0)).alloc (.cells #[.int .i64 0, .int .i64 0, .int .i64 0, .int .i64 0, .int .i64 0, .int .i64 0, .int .i64 0, .int .i64 0, .map (some w.heap.size), .map (some (w.heap.size + 1))] 80)) w.heap.size 0 (fun _ => none) := ⟨.map [], ((World.ownsMap_made _ _ _ _).alloc _).alloc _, FitsG.new _⟩
  have m2 : Mp (((w.alloc (.map #[] 0)).alloc (.map #[] 0)).alloc (.cells #[.int .i64 0, .int .i64 0, .int .i64 0, .int .i64 0, .int .i64 0, .int .i64 0, .int .i64 0, .int .i64 0, .map (some w.heap.size), .map (some (w.heap.size + 1))] 80)) (w.heap.size + 1) 0 (fun _ => none) := ⟨.map [], by
    have := (World.ownsMap_made (w.alloc (.map #[] 0)) Tryz.prog 3 pairElem).alloc (.cells #[.int .i64 0, .int .i64 0, .int .i64 0, .int .i64 0, .int .i64 0, .int .i64 0, .int .i64 0, .int .i64 0, .map (some w.heap.size), .map (some (w.heap.size + 1))] 80)
    rw [World.size_alloc] at this
    exact this, FitsG.new _⟩
  refine Pk0.congr (s := ⟨fun _ => 0, fun _ => none, fun _ => none⟩) ⟨h2, ⟨by omega, by omega, by omega, by omega⟩, m1, m2⟩ (fun k _ => ?_) rfl rfl
  show 0 = onJ l 0 k
  unfold onJ
  rw [if_neg (by omega)]
def NRel (w : World) (l : List Int) (m : Nat) (i : Value) (wr : World) : Prop :=
  ∃ j : Nat, i = .int .i64 j ∧ j ≤ m ∧ Hid (Pk0 w.heap.size wr (w.heap.size + 2) w.heap.size (w.heap.size + 1) ⟨onJ l j, fun _ => none, fun _ => none⟩ 0) ∧ Hid (Below w.heap.size w wr)
theorem onJ_endP {l : List Int} {m : Nat} (hm : m = min l.length 8) {k : Nat} (hk : k < 8) : onJ l m k = (newQ l).f k := by
  show onJ l m k = clampA (l.getD (k : Int).toNat 0)
  unfold onJ
  by_cases h : k < m
  · rw [if_pos (by omega)]
  · rw [if_neg (by omega)]
    have : l.length ≤ k := by omega
    rw [List.getD_eq_getElem?_getD, show ((k : Int).toNat) = k by simp, List.getElem?_eq_none this]
    rfl

set_option maxRecDepth 100000 in
set_option maxHeartbeats 2000000 in
theorem pnew_any (a : Option Addr) (l : List Int) (cap : Nat) (w : World) (ha : Ints w a l) (hcap : l.length ≤ cap) (hl : l.length ≤ 9223372036854775807) (hnil : a = none → cap = 0) :
    Calls Tryz.prog 73 #[.slice a l.length cap] w fun e w' => ∃ p b c, e = .returned (.pointer (some ⟨p, 0, none⟩)) ∧ Pk w.heap.size w' p b c (newQ l) 0 ∧ Below w.heap.size w w' := by
  have hmm := @run_makeMap Tryz.prog
  have HS := hide (pk_start w l)
  have HA := hide ha
  clear ha
  by_cases h8 : ¬ (8 : Int) < (l.length : Int)
  · skip
    go_enter Tryz.func73, Tryz.ntmps73
    go_wp2
    go_loopw [16] (fun i wr => NRel w l l.length i wr) (fun i _ => l.length - (Go.RowKit.intOf i).toNat)
    case atStart => exact ⟨0, rfl, Nat.zero_le _, HS, bel_al (bel_al (bel_al (Below.refl _ _) _) _) _⟩
    case round =>
      obtain ⟨j, rfl, hj, HK, HB⟩ := hrel
      clear HS
      by_cases hlt : j < l.length
      · have q1 : (j : Int) < ((l.length : Nat) : Int) := by omega
        have hjl : j < l.length := by omega
        have hj8 : (j : Int) < 8 := by omega
        rcases HA.out.below HB.out with h0 | ⟨ab, off, rfl, hca⟩
        · rw [h0] at hjl; simp at hjl
        have c0 := hca j hjl
        obtain ⟨x, hx⟩ : ∃ x, l.getD j 0 = x := ⟨_, rfl⟩
        rw [hx] at c0
        have c1 := HK.out.cellF (i := j) (by omega)
        have f1 := HK.out.frozen j
        have KEY : Hid (∀ v, v = clampA x → Pk0 w.heap.size (wr.setCell ⟨w.heap.size + 2, j, none⟩ (.int .i64 v)) (w.heap.size + 2) w.heap.size (w.heap.size + 1) ⟨onJ l (j + 1), fun _ => none, fun _ => none⟩ 0 ∧ Below w.heap.size w (wr.setCell ⟨w.heap.size + 2, j, none⟩ (.int .i64 v))) := fun v hv => by
          have := HK.out.setF (i := j) (by omega) v
          rw [hv, ← hx, onJ_step] at this
          rw [hv, ← hx]
          exact ⟨this, HB.out.setCell (p := ⟨w.heap.size + 2, j, none⟩) (by show w.heap.size ≤ w.heap.size + 2; omega) _⟩
        obtain ⟨y, hy⟩ : ∃ y, onJ l j j = y := ⟨_, rfl⟩
        dsimp only at c1
        rw [hy] at c1
        clear hca hx hy HA
        by_cases x0 : ¬ x < 0
        · by_cases x1 : ¬ 1000000000 < x
          · have HC : Hid (x = clampA x) := by show _ = _; unfold clampA; rw [if_neg (by omega), if_pos (by omega)]
            go_wp2
            go_roundw
            case rel => exact ⟨j + 1, by go_num, by omega, (KEY.out _ HC.out).1, (KEY.out _ HC.out).2⟩
            case measure => simp [Go.RowKit.intOf]; omega
          · have x2 : 1000000000 < x := by omega
            clear x1
            have HC : Hid (1000000000 = clampA x) := by show _ = _; unfold clampA; rw [if_neg (by omega)]; split <;> omega
            go_wp2
            go_roundw
            case rel => exact ⟨j + 1, by go_num, by omega, (KEY.out _ HC.out).1, (KEY.out _ HC.out).2⟩
            case measure => simp [Go.RowKit.intOf]; omega
        · have x2 : x < 0 := by omega
          clear x0
          have HC : Hid (0 = clampA x) := by show _ = _; unfold clampA; split <;> (try split) <;> omega
          go_wp2
          go_roundw
          case rel => exact ⟨j + 1, by go_num, by omega, (KEY.out _ HC.out).1, (KEY.out _ HC.out).2⟩
          case measure => simp [Go.RowKit.intOf]; omega
      · have q1 : ¬ (j : Int) < ((l.length : Nat) : Int) := by omega
        have hjm : j = l.length := by omega
        subst hjm
        have HE : Hid (∀ k : Nat, k < 8 → onJ l l.length k = (newQ l).f k) := fun k hk => onJ_endP (by omega) hk
        clear HA
        go_wp2
        go_ret
        first | exact ⟨_, rfl, ⟨_, _, ⟨HK.out.congr HE.out rfl rfl, GoodQ.new l⟩⟩, HB.out⟩ | exact ⟨_, _, _, rfl, ⟨HK.out.congr HE.out rfl rfl, GoodQ.new l⟩, HB.out⟩
  · have h9 : (8 : Int) < (l.length : Int) := by omega
    have hc8 : (8 : Int) ≤ (cap : Int) := by omega
    clear h8
    go_enter Tryz.func73, Tryz.ntmps73
    go_wp2
    go_loopw [16] (fun i wr => NRel w l 8 i wr) (fun i _ => 8 - (Go.RowKit.intOf i).toNat)
    case atStart => exact ⟨0, rfl, Nat.zero_le _, HS, bel_al (bel_al (bel_al (Below.refl _ _) _) _) _⟩
    case round =>
      obtain ⟨j, rfl, hj, HK, HB⟩ := hrel
      clear HS
      by_cases hlt : j < 8
      · have q1 : (j : Int) < ((8 : Nat) : Int) := by omega
        have hjl : j < l.length := by omega
        have hj8 : (j : Int) < 8 := by omega
        rcases HA.out.below HB.out with h0 | ⟨ab, off, rfl, hca⟩
        · rw [h0] at hjl; simp at hjl
        have c0 := hca j hjl
        obtain ⟨x, hx⟩ : ∃ x, l.getD j 0 = x := ⟨_, rfl⟩
        rw [hx] at c0
        have c1 := HK.out.cellF (i := j) (by omega)
        have f1 := HK.out.frozen j
        have KEY : Hid (∀ v, v = clampA x → Pk0 w.heap.size (wr.setCell ⟨w.heap.size + 2, j, none⟩ (.int .i64 v)) (w.heap.size + 2) w.heap.size (w.heap.size + 1) ⟨onJ l (j + 1), fun _ => none, fun _ => none⟩ 0 ∧ Below w.heap.size w (wr.setCell ⟨w.heap.size + 2, j, none⟩ (.int .i64 v))) := fun v hv => by
          have := HK.out.setF (i := j) (by omega) v
          rw [hv, ← hx, onJ_step] at this
          rw [hv, ← hx]
          exact ⟨this, HB.out.setCell (p := ⟨w.heap.size + 2, j, none⟩) (by show w.heap.size ≤ w.heap.size + 2; omega) _⟩
        obtain ⟨y, hy⟩ : ∃ y, onJ l j j = y := ⟨_, rfl⟩
        dsimp only at c1
        rw [hy] at c1
        clear hca hx hy HA
        by_cases x0 : ¬ x < 0
        · by_cases x1 : ¬ 1000000000 < x
          · have HC : Hid (x = clampA x) := by show _ = _; unfold clampA; rw [if_neg (by omega), if_pos (by omega)]
            go_wp2
            go_roundw
            case rel => exact ⟨j + 1, by go_num, by omega, (KEY.out _ HC.out).1, (KEY.out _ HC.out).2⟩
            case measure => simp [Go.RowKit.intOf]; omega
          · have x2 : 1000000000 < x := by omega
            clear x1
            have HC : Hid (1000000000 = clampA x) := by show _ = _; unfold clampA; rw [if_neg (by omega)]; split <;> omega
            go_wp2
            go_roundw
            case rel => exact ⟨j + 1, by go_num, by omega, (KEY.out _ HC.out).1, (KEY.out _ HC.out).2⟩
            case measure => simp [Go.RowKit.intOf]; omega
        · have x2 : x < 0 := by omega
          clear x0
          have HC : Hid (0 = clampA x) := by show _ = _; unfold clampA; split <;> (try split) <;> omega
          go_wp2
          go_roundw
          case rel => exact ⟨j + 1, by go_num, by omega, (KEY.out _ HC.out).1, (KEY.out _ HC.out).2⟩
          case measure => simp [Go.RowKit.intOf]; omega
      · have q1 : ¬ (j : Int) < ((8 : Nat) : Int) := by omega
        have hjm : j = 8 := by omega
        subst hjm
        have HE : Hid (∀ k : Nat, k < 8 → onJ l 8 k = (newQ l).f k) := fun k hk => onJ_endP (by omega) hk
        clear HA
        go_wp2
        go_ret
        first | exact ⟨_, rfl, ⟨_, _, ⟨HK.out.congr HE.out rfl rfl, GoodQ.new l⟩⟩, HB.out⟩ | exact ⟨_, _, _, rfl, ⟨HK.out.congr HE.out rfl rfl, GoodQ.new l⟩, HB.out⟩
end Go.Proofs.YthkgjggbpgkmpaaGreatDoor.Gd.Pu
