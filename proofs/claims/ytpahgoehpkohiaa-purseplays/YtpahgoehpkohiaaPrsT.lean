/-
  Contracts of purse's end, Capture, Void.
-/
import Derived.Test.YtpahgoehpkohiaaPrsB
namespace Go.Proofs.Ytpahgoehpkohiaa
open Go.ChangeShapes Go.WideShapes Go.ChangeAt Go.RowKit Go.Maps

set_option maxHeartbeats 1000000 in
theorem end_none {B : Nat} {w : World} {p b c : Nat} {s : Qb} {n : Nat} (k : Pk0 B w p b c s n) {id : Int} (hw : (Lit.int .i64 id).wf = true) (hz : s.a id = none) :
    Calls Try.prog 24 #[.pointer (some ⟨p, 0, none⟩), .int .i64 id] w fun e w' => e = .returned (.tuple #[.agg #[.int .i64 0, .int .i64 0], .int .i64 6]) ∧ Below w.heap.size w w' := by
  have k1 : Pk0 B (w.alloc (.cells #[.int .i64 0, .int .i64 0] 56)) p b c s n := k.on (bel_al (Below.refl _ _) _)
  have c1 := k.cellA
  have hl := k1.2.2.1.look hw
  rw [hz] at hl
  unfold pairV at hl
  dsimp only [Option.getD, Option.isSome] at hl
  have hlt := k.lt
  clear k hz k1
  go_enter Try.func24, Try.ntmps24
  go_wp2
  refine bodyPost_ret (v := .tuple #[.agg #[.int .i64 0, .int .i64 0], .int .i64 6]) ?_ rfl ?_
  · rw [results_cell_tmp Try.results24]
    simp [go_sem]
  · exact ⟨rfl, bel_al (bel_al (Below.refl _ _) _) _⟩

set_option maxHeartbeats 1000000 in
theorem end_some {B : Nat} {w : World} {p b c : Nat} {s : Qb} {n : Nat} (k : Pk0 B w p b c s n) {id : Int} (hw : (Lit.int .i64 id).wf = true) {x y : Int} (hz : s.a id = some (x, y)) :
    Calls Try.prog 24 #[.pointer (some ⟨p, 0, none⟩), .int .i64 id] w fun e w' => e = .returned (.tuple #[.agg #[.int .i64 x, .int .i64 y], .int .i64 0]) ∧ Pk0 B w' p b c ⟨s.f, updO s.a id none, s.d⟩ n ∧ Rg.Kept (Own2 b c) w w' := by
  have k1 : Pk0 B (w.alloc (.cells #[.int .i64 0, .int .i64 0] 56)) p b c s n := k.on (bel_al (Below.refl _ _) _)
  have k2 : Pk0 B ((w.alloc (.cells #[.int .i64 0, .int .i64 0] 56)).alloc (.cells #[.int .i64 x, .int .i64 y] 56)) p b c s n := k.on (bel_al (bel_al (Below.refl _ _) _) _)
  have c1 := k.cellA
  have hl := k1.2.2.1.look hw
  rw [hz] at hl
  unfold pairV at hl
  dsimp only [Option.getD, Option.isSome] at hl
  have hlt := k.lt
  have hltb := k.2.2.1.lt
  have hltc := k.2.2.2.lt
  have hkey := keyOf_int_mk Try.underlying3 hw
  have hne := k.nea
  obtain ⟨h1, h2, ⟨D, hown, h6⟩, h7⟩ := k2
  have FIN : Hid (∀ w1, w1.ownsMap Try.prog 3 pairElem b n (D.del (.int .i64 id)) → ((w.alloc (.cells #[.int .i64 0, .int .i64 0] 56)).alloc (.cells #[.int .i64 x, .int .i64 y] 56)).mapTurned w1 b →
      Pk0 B w1 p b c ⟨s.f, updO s.a id none, s.d⟩ n ∧ Rg.Kept (Own2 b c) w w1 ∧ w1.heap[w.heap.size]? = some (.cells #[.int .i64 0, .int .i64 0] 56 (0, 0)) ∧ w1.heap[w.heap.size + 1]? = some (.cells #[.int .i64 x, .int .i64 y] 56 (0, 0))) := fun w1 o1 t1 => by
    have kp : Rg.Kept (fun i _ => i = b) ((w.alloc (.cells #[.int .i64 0, .int .i64 0] 56)).alloc (.cells #[.int .i64 x, .int .i64 y] 56)) w1 := Rg.Kept.grown t1.grown (fun i _ e => (by cases e; rfl))
    refine ⟨⟨kp.block _ _ h1 (fun e => hne e.symm), h2, ⟨_, o1, h6.del id⟩, h7.kept kp (fun _ e => h2.2.2.2 e.symm)⟩, (Rg.Kept.of_below (bel_al (bel_al (Below.refl _ _) _) _)).trans (kp.mono (fun _ _ e => .inl e)), kp.block _ _ ?_ (by omega), kp.block _ _ ?_ (by omega)⟩
    · rw [Below.heap_alloc _ _ _ (by simp)]
      exact World.alloc_heap_new _ _
    · have := World.alloc_heap_new (w.alloc (.cells #[.int .i64 0, .int .i64 0] 56)) (.cells #[.int .i64 x, .int .i64 y] 56)
      rwa [World.size_alloc] at this
  clear h1 h2 h7 h6 k k1 hne hz
  go_enter Try.func24, Try.ntmps24
  go_wp2_with (at_delete; refine wpList_delete_own _ rfl _ _ 51 3 rfl 56 lawI Try.underlying51 _ b n D rfl hown _ _ rfl hkey ?_; intro w1 hown1 hturn1; obtain ⟨s1, s2, s3, s4⟩ := FIN.out w1 hown1 hturn1; have S1 := hide s1; have S2 := hide s2; have hs1 : w1.heap.size > w.heap.size := (Array.getElem?_eq_some_iff.1 s3).1; have S3 := hide s3; have d0 : w1.cell? ⟨w.heap.size, 0, none⟩ = some (.int .i64 0) := (by rw [cell_of s3]; rfl); have d1 : w1.cell? ⟨w.heap.size, 1, none⟩ = some (.int .i64 0) := (by rw [cell_of s3]; rfl); have d2 : w1.cell? ⟨w.heap.size + 1, 0, none⟩ = some (.int .i64 x) := (by rw [cell_of s4]; rfl); have d3 : w1.cell? ⟨w.heap.size + 1, 1, none⟩ = some (.int .i64 y) := (by rw [cell_of s4]; rfl); have f0 : w1.frozen? ⟨w.heap.size, 0, none⟩ = false := frozen_of_row _ _ _ _ _ s3; have f1 : w1.frozen? ⟨w.heap.size, 1, none⟩ = false := frozen_of_row _ _ _ _ _ s3; clear s1 s2 s3 s4 hown hown1 hturn1)
  refine bodyPost_ret (v := .tuple #[.agg #[.int .i64 x, .int .i64 y], .int .i64 0]) ?_ rfl ?_
  · rw [results_cell_tmp Try.results24]
    simp [go_sem, d0, d1]
  · have kq : Rg.Kept (fun i _ => i = w.heap.size) w1 ((w1.setCell ⟨w.heap.size, 0, none⟩ (.int .i64 x)).setCell ⟨w.heap.size, 1, none⟩ (.int .i64 y)) := (Rg.Kept.setCell _ (fun _ => rfl)).trans (Rg.Kept.setCell _ (fun _ => rfl))
    refine ⟨rfl, S1.out.kept kq (fun _ e => by omega) (fun _ e => by omega) (fun _ e => by omega), ?_⟩
    exact kept_new S2.out kq

/-- m[id] = deal{x, y} -/
theorem Mp.put {w : World} {b n : Nat} {r : Int → Option (Int × Int)} (k : Mp w b n r) {id : Int} (hw : (Lit.int .i64 id).wf = true) (hn : n < 1000000) (x y : Int) :
    ∃ w1, (Instr.mapUpdate 51 (.map (some b)) (.int .i64 id) (.agg #[.int .i64 x, .int .i64 y])).run Try.prog w = .ok () w1 ∧ Mp w1 b (n + 1) (updO r id (some (x, y))) ∧ Rg.Kept (fun i _ => i = b) w w1 := by
  obtain ⟨D, h5, h6⟩ := k
  obtain ⟨w1, hrun, o1, t1⟩ := h5.store lawI Try.underlying51 (by unfold maxLen; omega) (keyOf_int_mk Try.underlying3 hw) (pairElem_mk (x, y))
  exact ⟨w1, hrun, ⟨_, o1, h6.put id (x, y)⟩, Rg.Kept.grown t1.grown (fun i _ e => (by cases e; rfl))⟩

set_option maxHeartbeats 1000000 in
theorem pvoid_any {B : Nat} {w : World} {p b c : Nat} {s : Qb} {n : Nat} (k : Pk B w p b c s n) {id : Int} (hw : (Lit.int .i64 id).wf = true) :
    Calls Try.prog 14 #[.pointer (some ⟨p, 0, none⟩), .int .i64 id] w fun e w' => e = .returned (.int .i64 (capE (toP s) id)) ∧ Pk B w' p b c (voidQ s id) n ∧ Rg.Kept (Own2 b c) w w' := by
  cases hz : s.a id with
  | none =>
    rw [capE_none (s := toP s) hz, voidQ_none hz]
    have U := end_none k.1 hw hz
    have HK := hide k
    clear k hz
    go_enter Try.func14, Try.ntmps14
    go_wp2_with (go_at_call 24; refine U.mono ?_; rintro e w1 ⟨rfl, hb1⟩)
    go_ret
    exact ⟨rfl, by first | exact HK.out.on hb1 | exact HK.out.on (bel_al hb1 _), by first | exact Rg.Kept.of_below hb1 | exact Rg.Kept.of_below (bel_al hb1 _)⟩
  | some d =>
    obtain ⟨x, y⟩ := d
    rw [capE_some (s := toP s) hz, voidQ_some hz]
    have U := end_some k.1 hw hz
    have HG := hide (k.2.void id)
    rw [voidQ_some hz] at HG
    clear k hz
    go_enter Try.func14, Try.ntmps14
    go_wp2_with (go_at_call 24; refine U.mono ?_; rintro e w1 ⟨rfl, hk1, ho1⟩; have HK1 := hide hk1; have HO1 := hide ho1; clear hk1 ho1)
    go_ret
    exact ⟨rfl, by first | exact ⟨HK1.out, HG.out⟩ | exact ⟨HK1.out.on (bel_al (Below.refl _ _) _), HG.out⟩, by first | exact HO1.out | exact HO1.out.trans (Rg.Kept.of_below (bel_al (Below.refl _ _) _))⟩

set_option maxHeartbeats 1000000 in
theorem pcap_any {B : Nat} {w : World} {p b c : Nat} {s : Qb} {n : Nat} (k : Pk B w p b c s n) {id : Int} (hw : (Lit.int .i64 id).wf = true) (hn : n < 1000000) :
    Calls Try.prog 12 #[.pointer (some ⟨p, 0, none⟩), .int .i64 id] w fun e w' => e = .returned (.int .i64 (capE (toP s) id)) ∧ Pk B w' p b c (capQ s id) (n + 1) ∧ Rg.Kept (Own2 b c) w w' := by
  cases hz : s.a id with
  | none =>
    rw [capE_none (s := toP s) hz, capQ_none hz]
    have U := end_none k.1 hw hz
    have HK := hide (k.mono (Nat.le_succ _))
    clear k hz
    go_enter Try.func12, Try.ntmps12
    go_wp2_with (go_at_call 24; refine U.mono ?_; rintro e w1 ⟨rfl, hb1⟩)
    go_ret
    exact ⟨rfl, by first | exact HK.out.on hb1 | exact HK.out.on (bel_al hb1 _), by first | exact Rg.Kept.of_below hb1 | exact Rg.Kept.of_below (bel_al hb1 _)⟩
  | some d =>
    obtain ⟨x, y⟩ := d
    rw [capE_some (s := toP s) hz, capQ_some hz]
    have U := end_some k.1 hw hz
    have HG := hide (k.2.cap id)
    rw [capQ_some hz] at HG
    have FIN : Hid (∀ w1, Pk0 B w1 p b c ⟨s.f, updO s.a id none, s.d⟩ n → Rg.Kept (Own2 b c) w w1 → p < w1.heap.size ∧ w1.cell? ⟨p, 9, none⟩ = some (.map (some c)) ∧ ∃ w2, (Instr.mapUpdate 51 (.map (some c)) (.int .i64 id) (.agg #[.int .i64 x, .int .i64 y])).run Try.prog ((w1.alloc (.cells #[.int .i64 x, .int .i64 y] 56)).drew) = .ok () w2 ∧ Pk0 B w2 p b c ⟨s.f, updO s.a id none, updO s.d id (some (x, y))⟩ (n + 1) ∧ Rg.Kept (Own2 b c) w w2) := fun w1 k1 kk => by
      have hb : Below w1.heap.size w1 ((w1.alloc (.cells #[.int .i64 x, .int .i64 y] 56)).drew) := (bel_al (Below.refl _ _) _).drew
      have k2 := k1.on hb
      have hned := k2.ned
      obtain ⟨w2, hr, m2, kp⟩ := k2.2.2.2.put hw hn x y
      refine ⟨k1.lt, k1.cellD, w2, hr, ⟨kp.block _ _ k2.1 (fun e => hned e.symm), k2.2.1, (k2.2.2.1.mono (Nat.le_succ _)).kept kp (fun _ e => k2.2.1.2.2.2 e), m2⟩, (kk.trans (Rg.Kept.of_below hb)).trans (kp.mono (fun _ _ e => .inr e))⟩
    clear k hz
    go_enter Try.func12, Try.ntmps12
    go_wp2_with (go_at_call 24; refine U.mono ?_; rintro e w1 ⟨rfl, hk1, ho1⟩; obtain ⟨hlt1, c9, w2, hr2, hk2, ho2⟩ := FIN.out w1 hk1 ho1; have HK2 := hide hk2; have HO2 := hide ho2; clear hk1 ho1 hk2 ho2 U)
    go_region
    go_wp2
    go_ret
    exact ⟨rfl, ⟨HK2.out, HG.out⟩, HO2.out⟩
end Go.Proofs.Ytpahgoehpkohiaa
