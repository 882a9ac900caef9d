/-
  KeeperPlays: the law's books, of money.
-/
import Derived.Test.YtepclljoiccieaaGreatDoorSghgaccn
import Derived.Test.YtepclljoiccieaaGreatDoorSgcgkjko
namespace Go.Proofs.YtepclljoiccieaaGreatDoor
open Go.ChangeShapes Go.WideShapes Go.ChangeAt Go.RowKit Go.Maps

theorem isIt_of2 {j : Nat} (h : j < 8) : Gd.isIt (j : Int) = true := Gd.isIt_iff.2 (by omega)
section
variable {B B' : Nat} {E F : Nat → Prop} {w : World} {p p' : Nat} {v : Kv} {n n' q q' : Nat} {r r' : Value} {pb mb mc sb pb' mb' mc' : Nat} {a : Option Addr} {l : List Int} {lc : Nat}
set_option maxRecDepth 100000 in
set_option maxHeartbeats 80000000 in
theorem books_money (k1 : KdV B E w p v n q r pb mb mc sb) (k2 : RkV B' F w p' v n' a l lc q' r' pb' mb' mc') (hnd : v.node = 2) :
    Calls Tryz.prog 22 #[.pointer (some ⟨p, 0, none⟩), .pointer (some ⟨p', 0, none⟩)] w fun e w' => e = .returned (.bool true) ∧ Below w.heap.size w w' := by
  have eG : goodsV v.node pb = .pointer none := by unfold goodsV; rw [if_neg (show ¬ v.node = 1 by omega)]
  have eM : moneyV v.node pb = .pointer (some ⟨pb, 0, none⟩) := by unfold moneyV; rw [if_neg (show ¬ v.node = 1 by omega)]
  have eG' : goodsV v.node pb' = .pointer none := by unfold goodsV; rw [if_neg (show ¬ v.node = 1 by omega)]
  have eM' : moneyV v.node pb' = .pointer (some ⟨pb', 0, none⟩) := by unfold moneyV; rw [if_neg (show ¬ v.node = 1 by omega)]
  have HSK : Hid (∀ u, Below w.heap.size w u → Gd.Pu.Pk B u pb mb mc v.st.o.m n) := fun u hu => by
    rcases (k1.on hu).bk with ⟨e, _⟩ | ⟨_, hb⟩
    · omega
    · exact hb
  have HRS : Hid (∀ u, Below w.heap.size w u → Gd.Pu.Rp B' u pb' mb' mc' (Gd.Pu.toP v.st.o.m) n') := fun u hu => by
    rcases (k2.on hu).bk with ⟨e, _⟩ | ⟨_, hb⟩
    · omega
    · exact hb
  have HGS := hide k2.gd.m
  have KU : Hid (∀ u, Below w.heap.size w u → (u.cell? ⟨p', 3, none⟩ = some (.pointer none) ∧ u.cell? ⟨p', 4, none⟩ = some (.pointer (some ⟨pb', 0, none⟩))) ∧ (Calls Tryz.prog 25 #[.pointer (some ⟨p, 0, none⟩)] u fun e w' => e = .returned (.pointer none) ∧ u = w') ∧ (Calls Tryz.prog 56 #[.pointer (some ⟨p, 0, none⟩)] u fun e w' => e = .returned (.pointer (some ⟨pb, 0, none⟩)) ∧ u = w')) := fun u hu => by
    obtain ⟨-, -, -, c3, c4⟩ := (k2.on hu).cells
    rw [eG'] at c3
    rw [eM'] at c4
    have g := kgoods_any (k1.on hu)
    have m := kmoney_any (k1.on hu)
    rw [eG] at g
    rw [eM] at m
    exact ⟨⟨c3, c4⟩, g, m⟩
  clear k1 k2 hnd eG eM eG' eM'
  generalize v.st.o.m = s at HSK HRS HGS
  obtain ⟨⟨c3, c4⟩, -, -⟩ := KU.out w (Below.refl _ _)
  have GC : ∀ u : Later w, Calls Tryz.prog 25 #[.pointer (some ⟨p, 0, none⟩)] u.w fun e w' => e = .returned (.pointer none) ∧ ∃ u' : Later w, w' = u'.w := fun u => calls_later u ((KU.out u.w u.below).2.1.mono (fun _ _ ⟨h1, h2⟩ => ⟨h1, by rw [← h2]; exact Below.refl _ _⟩))
  have MC : ∀ u : Later w, Calls Tryz.prog 56 #[.pointer (some ⟨p, 0, none⟩)] u.w fun e w' => e = .returned (.pointer (some ⟨pb, 0, none⟩)) ∧ ∃ u' : Later w, w' = u'.w := fun u => calls_later u ((KU.out u.w u.below).2.2.mono (fun _ _ ⟨h1, h2⟩ => ⟨h1, by rw [← h2]; exact Below.refl _ _⟩))
  have z0 := Later.cell c3
  have z1 := Later.cell c4
  have hne : Nonempty (Later w) := ⟨Later.now w⟩
  have p1 : ∀ u : World, (binOp BinOp.neq 61 (.pointer (some ⟨pb, 0, none⟩)) (.pointer none)).run Tryz.prog u = .ok (.bool true) u := fun _ => by kernel_rfl
  have p2 : ∀ u : World, (binOp BinOp.neq 48 (.pointer (some ⟨pb', 0, none⟩)) (.pointer none)).run Tryz.prog u = .ok (.bool true) u := fun _ => by kernel_rfl
  go_enter Tryz.func22, Tryz.ntmps22
  go_wp2_with fail
  refine region_later (by kernel_rfl) (by kernel_rfl) ?_
  repeat (first | go_big_quiet_step (first | exact GC _ | exact MC _) | quiet_step (first | exact GC _ | exact MC _))
  refine wpQuiet_nil ?_
  intro u
  have HBU := hide u.below
  clear GC MC z0 z1 hne c3 c4
  generalize u.w = W at HBU ⊢
  go_wp2_with fail
  go_loopw [26] (fun i wr => ∃ j : Nat, i = .int .i64 j ∧ j ≤ 8 ∧ Hid (Below w.heap.size w wr)) (fun i _ => 8 - (Go.RowKit.intOf i).toNat)
  case atStart => exact ⟨0, rfl, by omega, HBU⟩
  case round =>
    obtain ⟨j, rfl, hj, HB⟩ := hrel
    clear HBU
    by_cases hlt : j < 8
    rotate_left
    · have ql : ¬ (j : Int) < 8 := by omega
      go_wp2
      go_ret
      exact ⟨rfl, HB.out⟩
    have ql : (j : Int) < 8 := by omega
    obtain ⟨⟨c3, c4⟩, -, -⟩ := KU.out wr HB.out
    have GC : ∀ u : Later wr, Calls Tryz.prog 56 #[.pointer (some ⟨p, 0, none⟩)] u.w fun e w' => e = .returned (.pointer (some ⟨pb, 0, none⟩)) ∧ ∃ u' : Later wr, w' = u'.w := fun u => calls_later u ((KU.out u.w (bel_on' HB.out u.below)).2.2.mono (fun _ _ ⟨h1, h2⟩ => ⟨h1, by rw [← h2]; exact Below.refl _ _⟩))
    have OC : ∀ u : Later wr, Calls Tryz.prog 59 #[.pointer (some ⟨pb, 0, none⟩), .int .i64 j] u.w fun e w' => e = .returned (.int .i64 ((Gd.Pu.toP s).m j)) ∧ ∃ u' : Later wr, w' = u'.w := fun u => calls_later u (by
      have h := Gd.Pu.pmoney_any (HSK.out _ (bel_on' HB.out u.below)) j
      unfold Gd.Pu.monV at h
      rw [if_pos (isIt_of2 hlt)] at h
      exact h)
    have FC : ∀ u : Later wr, Calls Tryz.prog 60 #[.pointer (some ⟨pb, 0, none⟩), .int .i64 j] u.w fun e w' => e = .returned (.int .i64 (Gd.Pu.alwV s j)) ∧ ∃ u' : Later wr, w' = u'.w := fun u => calls_later u (Gd.Pu.pallowed_any (HSK.out _ (bel_on' HB.out u.below)) j)
    have TC : ∀ u : Later wr, Calls Tryz.prog 62 #[.pointer (some ⟨pb, 0, none⟩)] u.w fun e w' => e = .returned (.int .i64 (Gd.Pu.tillQ s)) ∧ ∃ u' : Later wr, w' = u'.w := fun u => calls_later u (Gd.Pu.ptill_any (HSK.out _ (bel_on' HB.out u.below)))
    have RC : ∀ u : Later wr, Calls Tryz.prog 61 #[.pointer (some ⟨pb', 0, none⟩), .int .i64 j] u.w fun e w' => e = .returned (.int .i64 (Gd.Pu.alwV s j)) ∧ ∃ u' : Later wr, w' = u'.w := fun u => calls_later u (by
      have k := HRS.out _ (bel_on' HB.out u.below)
      have g := HGS.out
      have ho := g.gp.over
      have ht := g.gp.tnn
      exact Gd.Pu.rallowed_any k.cellA k.2.2.1 g.da (by show Gd.Pu.allA (Gd.Pu.toP s) ≤ 1000000000; omega) j)
    have c5 := (HRS.out _ HB.out).cellM hlt
    have c6 : wr.cell? ⟨pb', 9, none⟩ = some (.int .i64 (Gd.Pu.tillQ s)) := (HRS.out _ HB.out).cellT
    generalize (Gd.Pu.toP s).m (j : Int) = x1 at OC c5
    generalize Gd.Pu.alwV s (j : Int) = x2 at FC RC
    generalize Gd.Pu.tillQ s = x3 at TC c6
    have q1 : (x1 != x1) = false := by simp
    have q2 : (x2 != x2) = false := by simp
    have q3 : (x3 != x3) = false := by simp
    have z0 := Later.cell c3
    have z1 := Later.cell c4
    have z2 := Later.cell c5
    have z3 := Later.cell c6
    have hne : Nonempty (Later wr) := ⟨Later.now wr⟩
    clear c3 c4 c5 c6 KU HSK HRS HGS
    go_wp2_with fail
    dsimp only [List.append]
    refine region_later (by kernel_rfl) (by kernel_rfl) ?_
    repeat (first | go_big_quiet_step (first | exact GC _ | exact OC _ | exact FC _ | exact TC _ | exact RC _) | quiet_step (first | exact GC _ | exact OC _ | exact FC _ | exact TC _ | exact RC _))
    refine wpQuiet_nil ?_
    intro u
    go_wp2
    go_roundw
    case rel => exact ⟨j + 1, by go_num, by omega, bel_on' HB.out u.below⟩
    case measure => simp [Go.RowKit.intOf]; omega
end
end Go.Proofs.YtepclljoiccieaaGreatDoor
