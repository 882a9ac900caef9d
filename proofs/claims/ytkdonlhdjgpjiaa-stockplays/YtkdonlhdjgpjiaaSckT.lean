/-
  Contracts of stock's unreserve, Commit, Release, Reserve.
-/
import Derived.Test.YtkdonlhdjgpjiaaSckS
namespace Go.Proofs.Ytkdonlhdjgpjiaa
open Go.ChangeShapes Go.WideShapes Go.ChangeAt Go.RowKit Go.Maps

theorem bel_al {a w : World} (h : Below a.heap.size a w) (o : Obj) : Below a.heap.size a (w.alloc o) := h.alloc h.size o

/-- What is turned behind all that lay there is no matter. -/
theorem kept_new {E : Nat → Obj → Prop} {a w1 w2 : World} (h : Rg.Kept E a w1) (k : Rg.Kept (fun i _ => i = a.heap.size) w1 w2) : Rg.Kept E a w2 :=
  ⟨k.os.trans h.os, k.tape.trans h.tape, k.output.trans h.output, Nat.le_trans h.size k.size, fun i o hi hx => k.block i o (h.block i o hi hx) (fun e => by have := (Array.getElem?_eq_some_iff.1 hi).1; omega)⟩
set_option maxHeartbeats 1000000 in
theorem unres_none {B : Nat} {w : World} {p b : Nat} {s : Sb} {n : Nat} (k : Sk0 B w p b s n) {id : Int} (hw : (Lit.int .i64 id).wf = true) (hz : s.r id = none) :
    Calls Try.prog 23 #[.pointer (some ⟨p, 0, none⟩), .int .i64 id] w fun e w' => e = .returned (.tuple #[.agg #[.int .i64 0, .int .i64 0], .int .i64 6]) ∧ Below w.heap.size w w' := by
  have k1 : Sk0 B (w.alloc (.cells #[.int .i64 0, .int .i64 0] 56)) p b s n := k.on (bel_al (Below.refl _ _) _)
  have c1 := k.cellM
  have hl := k1.look hw
  rw [hz] at hl
  unfold pairV at hl
  dsimp only [Option.getD, Option.isSome] at hl
  have hlt := k.lt
  clear k hz k1
  go_enter Try.func23, Try.ntmps23
  go_wp2
  refine bodyPost_ret (v := .tuple #[.agg #[.int .i64 0, .int .i64 0], .int .i64 6]) ?_ rfl ?_
  · rw [results_cell_tmp Try.results23]
    simp [go_sem]
  · exact ⟨rfl, bel_al (bel_al (Below.refl _ _) _) _⟩

set_option maxHeartbeats 1000000 in
theorem unres_some {B : Nat} {w : World} {p b : Nat} {s : Sb} {n : Nat} (k : Sk0 B w p b s n) {id : Int} (hw : (Lit.int .i64 id).wf = true) {x y : Int} (hz : s.r id = some (x, y)) :
    Calls Try.prog 23 #[.pointer (some ⟨p, 0, none⟩), .int .i64 id] w fun e w' => e = .returned (.tuple #[.agg #[.int .i64 x, .int .i64 y], .int .i64 0]) ∧ Sk0 B w' p b ⟨s.on, s.fr, updO s.r id none⟩ n ∧ Rg.Kept (Own2 p b) w w' := by
  have k1 : Sk0 B (w.alloc (.cells #[.int .i64 0, .int .i64 0] 56)) p b s n := k.on (bel_al (Below.refl _ _) _)
  have k2 : Sk0 B ((w.alloc (.cells #[.int .i64 0, .int .i64 0] 56)).alloc (.cells #[.int .i64 x, .int .i64 y] 56)) p b s n := k.on (bel_al (bel_al (Below.refl _ _) _) _)
  have c1 := k.cellM
  have hl := k1.look hw
  rw [hz] at hl
  unfold pairV at hl
  dsimp only [Option.getD, Option.isSome] at hl
  have hlt := k.lt
  have hltb := k.ltb
  have hkey := keyOf_int_mk Try.underlying3 hw
  have hne := k.ne
  obtain ⟨h1, h2, h3, D, hown, h6⟩ := k2
  have FIN : Hid (∀ w1, w1.ownsMap Try.prog 3 pairElem b n (D.del (.int .i64 id)) → ((w.alloc (.cells #[.int .i64 0, .int .i64 0] 56)).alloc (.cells #[.int .i64 x, .int .i64 y] 56)).mapTurned w1 b →
      Sk0 B w1 p b ⟨s.on, s.fr, updO s.r id none⟩ n ∧ Rg.Kept (Own2 p b) w w1 ∧ w1.heap[w.heap.size]? = some (.cells #[.int .i64 0, .int .i64 0] 56 (0, 0)) ∧ w1.heap[w.heap.size + 1]? = some (.cells #[.int .i64 x, .int .i64 y] 56 (0, 0))) := fun w1 o1 t1 => by
    have kp : Rg.Kept (fun i _ => i = b) ((w.alloc (.cells #[.int .i64 0, .int .i64 0] 56)).alloc (.cells #[.int .i64 x, .int .i64 y] 56)) w1 := Rg.Kept.grown t1.grown (fun i _ e => (by cases e; rfl))
    refine ⟨⟨kp.block _ _ h1 (fun e => hne e.symm), h2, h3, _, o1, h6.del id⟩, (Rg.Kept.of_below (bel_al (bel_al (Below.refl _ _) _) _)).trans (kp.mono (fun _ _ e => .inr e)), kp.block _ _ ?_ (by omega), kp.block _ _ ?_ (by omega)⟩
    · rw [Below.heap_alloc _ _ _ (by simp)]
      exact World.alloc_heap_new _ _
    · have := World.alloc_heap_new (w.alloc (.cells #[.int .i64 0, .int .i64 0] 56)) (.cells #[.int .i64 x, .int .i64 y] 56)
      rwa [World.size_alloc] at this
  clear h1 h2 h3 h6 k k1 hne hz
  go_enter Try.func23, Try.ntmps23
  go_wp2_with (at_delete; refine wpList_delete_own _ rfl _ _ 51 3 rfl 56 lawI Try.underlying51 _ b n D rfl hown _ _ rfl hkey ?_; intro w1 hown1 hturn1; obtain ⟨s1, s2, s3, s4⟩ := FIN.out w1 hown1 hturn1; have S1 := hide s1; have S2 := hide s2; have hs1 : w1.heap.size > w.heap.size := (Array.getElem?_eq_some_iff.1 s3).1; have S3 := hide s3; have d0 : w1.cell? ⟨w.heap.size, 0, none⟩ = some (.int .i64 0) := (by rw [cell_of s3]; rfl); have d1 : w1.cell? ⟨w.heap.size, 1, none⟩ = some (.int .i64 0) := (by rw [cell_of s3]; rfl); have d2 : w1.cell? ⟨w.heap.size + 1, 0, none⟩ = some (.int .i64 x) := (by rw [cell_of s4]; rfl); have d3 : w1.cell? ⟨w.heap.size + 1, 1, none⟩ = some (.int .i64 y) := (by rw [cell_of s4]; rfl); have f0 : w1.frozen? ⟨w.heap.size, 0, none⟩ = false := frozen_of_row _ _ _ _ _ s3; have f1 : w1.frozen? ⟨w.heap.size, 1, none⟩ = false := frozen_of_row _ _ _ _ _ s3; clear s1 s2 s3 s4 hown hown1 hturn1)
  refine bodyPost_ret (v := .tuple #[.agg #[.int .i64 x, .int .i64 y], .int .i64 0]) ?_ rfl ?_
  · rw [results_cell_tmp Try.results23]
    simp [go_sem, d0, d1]
  · have kq : Rg.Kept (fun i _ => i = w.heap.size) w1 ((w1.setCell ⟨w.heap.size, 0, none⟩ (.int .i64 x)).setCell ⟨w.heap.size, 1, none⟩ (.int .i64 y)) := (Rg.Kept.setCell _ (fun _ => rfl)).trans (Rg.Kept.setCell _ (fun _ => rfl))
    refine ⟨rfl, S1.out.kept kq (fun _ e => by omega) (fun _ e => by omega), ?_⟩
    exact kept_new S2.out kq

set_option maxHeartbeats 1000000 in
theorem com_any {B : Nat} {w : World} {p b : Nat} {s : Sb} {n : Nat} (k : Sk B w p b s n) {id : Int} (hw : (Lit.int .i64 id).wf = true) :
    Calls Try.prog 12 #[.pointer (some ⟨p, 0, none⟩), .int .i64 id] w fun e w' => e = .returned (.int .i64 (unE s id)) ∧ Sk B w' p b (comS s id) n ∧ Rg.Kept (Own2 p b) w w' := by
  cases hz : s.r id with
  | none =>
    rw [unE_none hz, comS_none hz]
    have U := unres_none k.1 hw hz
    have HK := hide k
    clear k hz
    go_enter Try.func12, Try.ntmps12
    go_wp2_with (go_at_call 23; refine U.mono ?_; rintro e w1 ⟨rfl, hb1⟩)
    go_ret
    exact ⟨rfl, HK.out.on (bel_al hb1 _), Rg.Kept.of_below (bel_al hb1 _)⟩
  | some c =>
    obtain ⟨x, y⟩ := c
    rw [unE_some hz, comS_some hz]
    have U := unres_some k.1 hw hz
    have g2 := k.2.com id
    rw [comS_some hz] at g2
    obtain ⟨a1, a2, a3⟩ := k.2.at_ id _ hz
    have a4 := k.2.le hz
    dsimp only at a2 a3 a4 g2 ⊢
    have a5 := k.2.top x a2.1 a2.2
    have a6 := k.2.nn x a2.1 a2.2
    obtain ⟨i, rfl⟩ : ∃ i : Nat, x = i := ⟨x.toNat, by omega⟩
    have hi : (i : Int) < 8 := a2.2
    have hi8 : i < 8 := by omega
    have FIN : Hid (∀ w1, Sk0 B w1 p b ⟨s.on, s.fr, updO s.r id none⟩ n → Rg.Kept (Own2 p b) w w1 → p < w1.heap.size ∧ w1.cell? ⟨p, i, none⟩ = some (.int .i64 (s.on i)) ∧ w1.frozen? ⟨p, i, none⟩ = false ∧
        ∀ o v, Sk0 B (((w1.setCell ⟨p, i, none⟩ (.int .i64 v)).alloc o).drew) p b ⟨upd s.on i v, s.fr, updO s.r id none⟩ n ∧ Rg.Kept (Own2 p b) w (((w1.setCell ⟨p, i, none⟩ (.int .i64 v)).alloc o).drew)) := fun w1 k1 kk =>
      ⟨k1.lt, k1.cellOn hi8, k1.frozen _, fun o v => ⟨(k1.setOn hi8 v).on (bel_al (Below.refl _ _) _).drew, kk.trans ((Rg.Kept.setCell _ (fun _ => .inl rfl)).trans (Rg.Kept.of_below (bel_al (Below.refl _ _) _).drew))⟩⟩
    have HG := hide g2
    obtain ⟨v, hv⟩ : ∃ v, s.on i = v := ⟨_, rfl⟩
    obtain ⟨v2, hv2⟩ : ∃ v2, s.fr i = v2 := ⟨_, rfl⟩
    rw [hv] at FIN a4 HG ⊢
    rw [hv2] at a4
    first | rw [hv] at a5 | rw [hv2] at a5
    first | rw [hv] at a6 | rw [hv2] at a6
    clear k hz g2 a1 a2 hv hv2 hi8
    skip
    go_enter Try.func12, Try.ntmps12
    go_wp2_with (go_at_call 23; refine U.mono ?_; rintro e w1 ⟨rfl, hs1, hk1⟩; obtain ⟨q1, q2, q3, q4⟩ := FIN.out w1 hs1 hk1; have Q4 := hide q4; clear q4 hs1 hk1 U)
    go_region
    go_wp2
    go_ret
    exact ⟨rfl, ⟨(Q4.out _ _).1, HG.out⟩, (Q4.out _ _).2⟩

set_option maxHeartbeats 1000000 in
theorem rel_any {B : Nat} {w : World} {p b : Nat} {s : Sb} {n : Nat} (k : Sk B w p b s n) {id : Int} (hw : (Lit.int .i64 id).wf = true) :
    Calls Try.prog 14 #[.pointer (some ⟨p, 0, none⟩), .int .i64 id] w fun e w' => e = .returned (.int .i64 (unE s id)) ∧ Sk B w' p b (relS s id) n ∧ Rg.Kept (Own2 p b) w w' := by
  cases hz : s.r id with
  | none =>
    rw [unE_none hz, relS_none hz]
    have U := unres_none k.1 hw hz
    have HK := hide k
    clear k hz
    go_enter Try.func14, Try.ntmps14
    go_wp2_with (go_at_call 23; refine U.mono ?_; rintro e w1 ⟨rfl, hb1⟩)
    go_ret
    exact ⟨rfl, HK.out.on (bel_al hb1 _), Rg.Kept.of_below (bel_al hb1 _)⟩
  | some c =>
    obtain ⟨x, y⟩ := c
    rw [unE_some hz, relS_some hz]
    have U := unres_some k.1 hw hz
    have g2 := k.2.rel id
    rw [relS_some hz] at g2
    obtain ⟨a1, a2, a3⟩ := k.2.at_ id _ hz
    have a4 := k.2.le hz
    dsimp only at a2 a3 a4 g2 ⊢
    have a5 := k.2.top x a2.1 a2.2
    have a6 := k.2.nn x a2.1 a2.2
    obtain ⟨i, rfl⟩ : ∃ i : Nat, x = i := ⟨x.toNat, by omega⟩
    have hi : (i : Int) < 8 := a2.2
    have hi8 : i < 8 := by omega
    have FIN : Hid (∀ w1, Sk0 B w1 p b ⟨s.on, s.fr, updO s.r id none⟩ n → Rg.Kept (Own2 p b) w w1 → p < w1.heap.size ∧ w1.cell? ⟨p, 8 + i, none⟩ = some (.int .i64 (s.fr i)) ∧ w1.frozen? ⟨p, 8 + i, none⟩ = false ∧
        ∀ o v, Sk0 B (((w1.setCell ⟨p, 8 + i, none⟩ (.int .i64 v)).alloc o).drew) p b ⟨s.on, upd s.fr i v, updO s.r id none⟩ n ∧ Rg.Kept (Own2 p b) w (((w1.setCell ⟨p, 8 + i, none⟩ (.int .i64 v)).alloc o).drew)) := fun w1 k1 kk =>
      ⟨k1.lt, k1.cellFr hi8, k1.frozen _, fun o v => ⟨(k1.setFr hi8 v).on (bel_al (Below.refl _ _) _).drew, kk.trans ((Rg.Kept.setCell _ (fun _ => .inl rfl)).trans (Rg.Kept.of_below (bel_al (Below.refl _ _) _).drew))⟩⟩
    have HG := hide g2
    obtain ⟨v, hv⟩ : ∃ v, s.fr i = v := ⟨_, rfl⟩
    obtain ⟨v2, hv2⟩ : ∃ v2, s.on i = v2 := ⟨_, rfl⟩
    rw [hv] at FIN a4 HG ⊢
    rw [hv2] at a4
    first | rw [hv] at a5 | rw [hv2] at a5
    first | rw [hv] at a6 | rw [hv2] at a6
    clear k hz g2 a1 a2 hv hv2 hi8
    skip
    go_enter Try.func14, Try.ntmps14
    go_wp2_with (go_at_call 23; refine U.mono ?_; rintro e w1 ⟨rfl, hs1, hk1⟩; obtain ⟨q1, q2, q3, q4⟩ := FIN.out w1 hs1 hk1; have Q4 := hide q4; clear q4 hs1 hk1 U)
    go_region
    go_wp2
    go_ret
    exact ⟨rfl, ⟨(Q4.out _ _).1, HG.out⟩, (Q4.out _ _).2⟩

/-- m[id] = lot{x, y} among several assignments. -/
theorem put_any {B : Nat} {w0 w : World} {p b : Nat} {s : Sb} {n : Nat} (k : Sk0 B w p b s n) {id : Int} (hw : (Lit.int .i64 id).wf = true) {x y : Int} (hz : s.r id = none) (hn : n < 1000000) (kk : Rg.Kept (Own2 p b) w0 w) :
    ∃ (st : Int) (w1 w2 : World), (Instr.mapEntry 51 (.map (some b)) (.int .i64 id)).run Try.prog w = .ok (.tuple #[.agg #[.int .i64 0, .int .i64 0], .int .i64 st]) w1 ∧ (Instr.entryStore 51 (.map (some b)) (.int .i64 st) (.agg #[.int .i64 x, .int .i64 y])).run Try.prog w1 = .ok () w2 ∧
      Sk0 B w2 p b ⟨s.on, s.fr, updO s.r id (some (x, y))⟩ (n + 1) ∧ Rg.Kept (Own2 p b) w0 w2 := by
  have hne := k.ne
  obtain ⟨h1, h2, h3, D, h5, h6⟩ := k
  obtain ⟨st, w1, w2, hr1, hr2, ho, ht⟩ := own_entry h5 lawI Try.underlying51 (by unfold maxLen; omega) (zeroL _) (keyOf_int_mk Try.underlying3 hw) (pairElem_mk (x, y)) (by rw [(h6.2 id).2, hz]; rfl)
  have kp : Rg.Kept (fun i _ => i = b) w w2 := Rg.Kept.grown ht.grown (fun i _ e => (by cases e; rfl))
  exact ⟨st, w1, w2, hr1, hr2, ⟨kp.block _ _ h1 (fun e => hne e.symm), h2, h3, _, ho, h6.put id (x, y)⟩, kk.trans (kp.mono (fun _ _ e => .inr e))⟩

set_option maxHeartbeats 1000000 in
theorem res_any {B : Nat} {w : World} {p b : Nat} {s : Sb} {n : Nat} (k : Sk B w p b s n) {id : Int} (hw : (Lit.int .i64 id).wf = true) (it q : Int) (hn : n < 1000000) :
    Calls Try.prog 16 #[.pointer (some ⟨p, 0, none⟩), .int .i64 id, .int .i64 it, .int .i64 q] w fun e w' => e = .returned (.int .i64 (resE s id it q)) ∧ Sk B w' p b (resS s id it q) (n + 1) ∧ Rg.Kept (Own2 p b) w w' := by
  have no : ∀ c, resE s id it q = c → c ≠ 0 → ∀ w', Below w.heap.size w w' → Sk B w' p b (resS s id it q) (n + 1) := fun c e hc w' hb => by
    rw [resS_no (by omega)]
    exact (k.on hb).mono (by omega)
  by_cases hi : isI id = true
  · by_cases hx : isIt it = true
    · by_cases hq : 1 ≤ q ∧ q ≤ 1000000000
      · have hm : may q = true := may_iff.2 (by omega)
        have hq0 : (q == 0) = false := by simp; omega
        have c1 := k.1.cellM
        have hl := k.1.look hw
        have hlt := k.1.lt
        cases hz : s.r id with
        | some c =>
          have e0 : resE s id it q = 8 := by unfold resE; rw [if_pos ⟨hi, hx, hq⟩, hz]; rfl
          obtain ⟨x, y⟩ := c
          rw [hz] at hl
          unfold pairV at hl
          dsimp only [Option.getD, Option.isSome] at hl
          have NO := hide (no 8 e0 (by omega))
          rw [e0]
          clear no e0 k hz
          go_enter Try.func16, Try.ntmps16
          go_wp2_with (first
        | (go_at_call 24; refine (sisid_any _ _).mono ?_; rintro e w' ⟨rfl, rfl⟩)
        | (go_at_call 25; refine (isitem_any _ _).mono ?_; rintro e w' ⟨rfl, rfl⟩)
        | (go_at_call 26; refine (may_any _ _).mono ?_; rintro e w' ⟨rfl, rfl⟩))
          go_ret
          exact ⟨rfl, NO.out _ (bel_al (Below.refl _ _) _), Rg.Kept.of_below (bel_al (Below.refl _ _) _)⟩
        | none =>
          rw [hz] at hl
          unfold pairV at hl
          dsimp only [Option.getD, Option.isSome] at hl
          obtain ⟨g0, g1⟩ := isIt_iff.1 hx
          have hnn := k.2.nn it g0 g1
          have hml : may (s.fr it) = true := may_iff.2 ⟨hnn, by have := k.2.frle g0 g1; have := k.2.top it g0 g1; omega⟩
          obtain ⟨i, rfl⟩ : ∃ i : Nat, it = i := ⟨it.toNat, by omega⟩
          have hi8 : i < 8 := by omega
          have cf := k.1.cellFr hi8
          have ff := k.1.frozen (8 + i)
          by_cases hle : q ≤ s.fr i
          · have e0 : resE s id i q = 0 := by unfold resE; rw [if_pos ⟨hi, hx, hq⟩, hz, if_neg (by simp), if_pos hle]
            have hsv : subV (s.fr i) q = s.fr i - q := by simp [subV, hml, hm, hle]
            have hse : subE (s.fr i) q = 0 := by simp [subE, hml, hm, hle]
            have S := hide (fun u => sub_any (s.fr i) q u)
            rw [hsv, hse] at S
            have g2 := k.2.res id i q
            rw [e0, resS_ok e0]
            rw [resS_ok e0] at g2
            obtain ⟨v, hv⟩ : ∃ v, s.fr i = v := ⟨_, rfl⟩
            rw [hv] at S cf hle hnn g2 ⊢
            have HG := hide g2
            have FIN := fun W (ks : Sk0 B W p b ⟨s.on, upd s.fr i (v - q), s.r⟩ n) (kk : Rg.Kept (Own2 p b) w W) => put_any ks hw (x := (i : Int)) (y := q) hz (by omega) kk
            obtain ⟨st, W2, W3, hr1, hr2, fin⟩ := FIN (((w.setCell ⟨p, 8 + i, none⟩ (.int .i64 (v - q))).alloc (.cells #[.int .i64 0, .int .i64 0] 56)).drew) ((k.1.setFr hi8 (v - q)).on (bel_al (Below.refl _ _) _).drew) ((Rg.Kept.setCell _ (fun _ => .inl rfl)).trans (Rg.Kept.of_below (bel_al (Below.refl _ _) _).drew))
            have HF := hide fin
            have hiI : (i : Int) < 8 := g1
            clear FIN fin no hsv hse e0 hml hi8 g2 k hz hv g0 g1
            go_enter Try.func16, Try.ntmps16
            go_wp2_with (first
        | (go_at_call 24; refine (sisid_any _ _).mono ?_; rintro e w' ⟨rfl, rfl⟩)
        | (go_at_call 25; refine (isitem_any _ _).mono ?_; rintro e w' ⟨rfl, rfl⟩)
        | (go_at_call 26; refine (may_any _ _).mono ?_; rintro e w' ⟨rfl, rfl⟩)
        | (go_at_call 27; refine (S.out _).mono ?_; rintro e w' ⟨rfl, rfl⟩))
            go_region
            go_wp2
            go_ret
            exact ⟨rfl, ⟨HF.out.1, HG.out⟩, HF.out.2⟩
          · have e0 : resE s id i q = 9 := by unfold resE; rw [if_pos ⟨hi, hx, hq⟩, hz, if_neg (by simp), if_neg hle]
            have hsv : subV (s.fr i) q = 0 := by simp [subV, hle]
            have hse : subE (s.fr i) q = 9 := by simp [subE, hml, hm, hle]
            have S := hide (fun u => sub_any (s.fr i) q u)
            rw [hsv, hse] at S
            have NO := hide (no 9 e0 (by omega))
            rw [e0]
            obtain ⟨v, hv⟩ : ∃ v, s.fr i = v := ⟨_, rfl⟩
            rw [hv] at S cf
            clear no hsv hse e0 hml hi8 hle k hz hnn hv
            go_enter Try.func16, Try.ntmps16
            go_wp2_with (first
        | (go_at_call 24; refine (sisid_any _ _).mono ?_; rintro e w' ⟨rfl, rfl⟩)
        | (go_at_call 25; refine (isitem_any _ _).mono ?_; rintro e w' ⟨rfl, rfl⟩)
        | (go_at_call 26; refine (may_any _ _).mono ?_; rintro e w' ⟨rfl, rfl⟩)
        | (go_at_call 27; refine (S.out _).mono ?_; rintro e w' ⟨rfl, rfl⟩))
            go_ret
            exact ⟨rfl, NO.out _ (bel_al (Below.refl _ _) _), Rg.Kept.of_below (bel_al (Below.refl _ _) _)⟩
      · have e0 : resE s id it q = 1 := by unfold resE; rw [if_neg (fun e => hq e.2.2)]
        have NO := hide (no 1 e0 (by omega))
        rw [e0]
        clear no e0 k
        by_cases hm : may q = true
        · have hq0 : (q == 0) = true := by have := may_iff.1 hm; simp; omega
          clear hq
          go_enter Try.func16, Try.ntmps16
          go_wp2_with (first
        | (go_at_call 24; refine (sisid_any _ _).mono ?_; rintro e w' ⟨rfl, rfl⟩)
        | (go_at_call 25; refine (isitem_any _ _).mono ?_; rintro e w' ⟨rfl, rfl⟩)
        | (go_at_call 26; refine (may_any _ _).mono ?_; rintro e w' ⟨rfl, rfl⟩))
          go_ret
          exact ⟨rfl, NO.out _ (Below.refl _ _), Rg.Kept.refl _ _⟩
        · have hm0 : may q = false := by simpa using hm
          clear hq hm
          go_enter Try.func16, Try.ntmps16
          go_wp2_with (first
        | (go_at_call 24; refine (sisid_any _ _).mono ?_; rintro e w' ⟨rfl, rfl⟩)
        | (go_at_call 25; refine (isitem_any _ _).mono ?_; rintro e w' ⟨rfl, rfl⟩)
        | (go_at_call 26; refine (may_any _ _).mono ?_; rintro e w' ⟨rfl, rfl⟩))
          go_ret
          exact ⟨rfl, NO.out _ (Below.refl _ _), Rg.Kept.refl _ _⟩
    · have hx0 : isIt it = false := by simpa using hx
      have e0 : resE s id it q = 1 := by unfold resE; rw [if_neg (fun e => hx e.2.1)]
      have NO := hide (no 1 e0 (by omega))
      rw [e0]
      clear no e0 k hx
      go_enter Try.func16, Try.ntmps16
      go_wp2_with (first
        | (go_at_call 24; refine (sisid_any _ _).mono ?_; rintro e w' ⟨rfl, rfl⟩)
        | (go_at_call 25; refine (isitem_any _ _).mono ?_; rintro e w' ⟨rfl, rfl⟩)
        | (go_at_call 26; refine (may_any _ _).mono ?_; rintro e w' ⟨rfl, rfl⟩))
      go_ret
      exact ⟨rfl, NO.out _ (Below.refl _ _), Rg.Kept.refl _ _⟩
  · have hi0 : isI id = false := by simpa using hi
    have e0 : resE s id it q = 1 := by unfold resE; rw [if_neg (fun e => hi e.1)]
    have NO := hide (no 1 e0 (by omega))
    rw [e0]
    clear no e0 k hi
    go_enter Try.func16, Try.ntmps16
    go_wp2_with (first
        | (go_at_call 24; refine (sisid_any _ _).mono ?_; rintro e w' ⟨rfl, rfl⟩)
        | (go_at_call 25; refine (isitem_any _ _).mono ?_; rintro e w' ⟨rfl, rfl⟩)
        | (go_at_call 26; refine (may_any _ _).mono ?_; rintro e w' ⟨rfl, rfl⟩))
    go_ret
    exact ⟨rfl, NO.out _ (Below.refl _ _), Rg.Kept.refl _ _⟩
end Go.Proofs.Ytkdonlhdjgpjiaa
