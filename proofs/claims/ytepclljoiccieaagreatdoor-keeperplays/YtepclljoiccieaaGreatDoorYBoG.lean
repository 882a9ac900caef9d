/-
  KeeperPlays: the law's books, of goods.
-/
import Derived.Test.YtepclljoiccieaaGreatDoorSghgaccn
import Derived.Test.YtepclljoiccieaaGreatDoorSgcgkjko
namespace Go.Proofs.YtepclljoiccieaaGreatDoor
open Go.ChangeShapes Go.WideShapes Go.ChangeAt Go.RowKit Go.Maps

theorem isIt_of {j : Nat} (h : j < 8) : Gd.isIt (j : Int) = true := Gd.isIt_iff.2 (by omega)
section
variable {B B' : Nat} {E F : Nat → Prop} {w : World} {p p' : Nat} {v : Kv} {n n' q q' : Nat} {r r' : Value} {pb mb mc sb pb' mb' mc' : Nat} {a : Option Addr} {l : List Int} {lc : Nat}
set_option maxRecDepth 100000 in
set_option maxHeartbeats 80000000 in
theorem books_goods (k1 : KdV B E w p v n q r pb mb mc sb) (k2 : RkV B' F w p' v n' a l lc q' r' pb' mb' mc') (hnd : v.node = 1) :
    Calls Tryz.prog 22 #[.pointer (some ⟨p, 0, none⟩), .pointer (some ⟨p', 0, none⟩)] w fun e w' => e = .returned (.bool true) ∧ Below w.heap.size w w' := by
  have eG : goodsV v.node pb = .pointer (some ⟨pb, 0, none⟩) := by unfold goodsV; rw [if_pos hnd]
  have eM : moneyV v.node pb = .pointer none := by unfold moneyV; rw [if_pos hnd]
  have eG' : goodsV v.node pb' = .pointer (some ⟨pb', 0, none⟩) := by unfold goodsV; rw [if_pos hnd]
  have eM' : moneyV v.node pb' = .pointer none := by unfold moneyV; rw [if_pos hnd]
  have HSK : Hid (∀ u, Below w.heap.size w u → Gd.Sk B u pb mb v.st.o.g n) := fun u hu => by
    rcases (k1.on hu).bk with ⟨_, hb, _⟩ | ⟨e, _⟩
    · exact hb
    · omega
  have HRS : Hid (∀ u, Below w.heap.size w u → Gd.Rs B' u pb' mb' v.st.o.g.on v.st.o.g.r n') := fun u hu => by
    rcases (k2.on hu).bk with ⟨_, hb, _⟩ | ⟨e, _⟩
    · exact hb
    · omega
  have HGS := hide k2.gd.g
  have KU : Hid (∀ u, Below w.heap.size w u → (u.cell? ⟨p', 3, none⟩ = some (.pointer (some ⟨pb', 0, none⟩)) ∧ u.cell? ⟨p', 4, none⟩ = some (.pointer none)) ∧ (Calls Tryz.prog 25 #[.pointer (some ⟨p, 0, none⟩)] u fun e w' => e = .returned (.pointer (some ⟨pb, 0, none⟩)) ∧ u = w') ∧ (Calls Tryz.prog 56 #[.pointer (some ⟨p, 0, none⟩)] u fun e w' => e = .returned (.pointer none) ∧ u = w')) := fun u hu => by
    obtain ⟨-, -, -, c3, c4⟩ := (k2.on hu).cells
    rw [eG'] at c3
    rw [eM'] at c4
    have g := kgoods_any (k1.on hu)
    have m := kmoney_any (k1.on hu)
    rw [eG] at g
    rw [eM] at m
    exact ⟨⟨c3, c4⟩, g, m⟩
  clear k1 k2 hnd eG eM eG' eM'
  generalize v.st.o.g = s at HSK HRS HGS
  obtain ⟨⟨c3, c4⟩, -, -⟩ := KU.out w (Below.refl _ _)
  have GC : ∀ u : Later w, Calls Tryz.prog 25 #[.pointer (some ⟨p, 0, none⟩)] u.w fun e w' => e = .returned (.pointer (some ⟨pb, 0, none⟩)) ∧ ∃ u' : Later w, w' = u'.w := fun u => calls_later u ((KU.out u.w u.below).2.1.mono (fun _ _ ⟨h1, h2⟩ => ⟨h1, by rw [← h2]; exact Below.refl _ _⟩))
  have MC : ∀ u : Later w, Calls Tryz.prog 56 #[.pointer (some ⟨p, 0, none⟩)] u.w fun e w' => e = .returned (.pointer none) ∧ ∃ u' : Later w, w' = u'.w := fun u => calls_later u ((KU.out u.w u.below).2.2.mono (fun _ _ ⟨h1, h2⟩ => ⟨h1, by rw [← h2]; exact Below.refl _ _⟩))
  have z0 := Later.cell c3
  have z1 := Later.cell c4
  have hne : Nonempty (Later w) := ⟨Later.now w⟩
  have p1 : ∀ u : World, (binOp BinOp.neq 56 (.pointer (some ⟨pb, 0, none⟩)) (.pointer none)).run Tryz.prog u = .ok (.bool true) u := fun _ => by kernel_rfl
  have p2 : ∀ u : World, (binOp BinOp.neq 47 (.pointer (some ⟨pb', 0, none⟩)) (.pointer none)).run Tryz.prog u = .ok (.bool true) u := fun _ => by kernel_rfl
  go_enter Tryz.func22, Tryz.ntmps22
  go_wp2_with fail
  refine region_later (by kernel_rfl) (by kernel_rfl) ?_
  repeat (first | go_big_quiet_step (first | exact GC _ | exact MC _) | quiet_step (first | exact GC _ | exact MC _))
  refine wpQuiet_nil ?_
  intro u
  have HBU := hide u.below
  clear GC MC z0 z1 hne c3 c4
  generalize u.w = W at HBU ⊢
  go_wp2_with fail
  go_loopw [26] (fun i wr => ∃ j : Nat, i = .int .i64 j ∧ j ≤ 8 ∧ Hid (Below w.heap.size w wr)) (fun i _ => 8 - (Go.RowKit.intOf i).toNat)
  case atStart => exact ⟨0, rfl, by omega, HBU⟩
  case round =>
    obtain ⟨j, rfl, hj, HB⟩ := hrel
    clear HBU
    by_cases hlt : j < 8
    rotate_left
    · have ql : ¬ (j : Int) < 8 := by omega
      go_wp2
      go_ret
      exact ⟨rfl, HB.out⟩
    have ql : (j : Int) < 8 := by omega
    obtain ⟨⟨c3, c4⟩, -, -⟩ := KU.out wr HB.out
    have GC : ∀ u : Later wr, Calls Tryz.prog 25 #[.pointer (some ⟨p, 0, none⟩)] u.w fun e w' => e = .returned (.pointer (some ⟨pb, 0, none⟩)) ∧ ∃ u' : Later wr, w' = u'.w := fun u => calls_later u ((KU.out u.w (bel_on' HB.out u.below)).2.1.mono (fun _ _ ⟨h1, h2⟩ => ⟨h1, by rw [← h2]; exact Below.refl _ _⟩))
    have OC : ∀ u : Later wr, Calls Tryz.prog 57 #[.pointer (some ⟨pb, 0, none⟩), .int .i64 j] u.w fun e w' => e = .returned (.int .i64 (s.on j)) ∧ ∃ u' : Later wr, w' = u'.w := fun u => calls_later u (by
      have h := Gd.onhand_any (HSK.out _ (bel_on' HB.out u.below)) j
      unfold Gd.onV at h
      rw [if_pos (isIt_of hlt)] at h
      exact h.mono (fun _ _ ⟨h1, h2⟩ => ⟨h1, by rw [← h2]; exact Below.refl _ _⟩))
    have FC : ∀ u : Later wr, Calls Tryz.prog 26 #[.pointer (some ⟨pb, 0, none⟩), .int .i64 j] u.w fun e w' => e = .returned (.int .i64 (Gd.frV s j)) ∧ ∃ u' : Later wr, w' = u'.w := fun u => calls_later u ((Gd.free_any (HSK.out _ (bel_on' HB.out u.below)) j).mono (fun _ _ ⟨h1, h2⟩ => ⟨h1, by rw [← h2]; exact Below.refl _ _⟩))
    have RC : ∀ u : Later wr, Calls Tryz.prog 58 #[.pointer (some ⟨pb', 0, none⟩), .int .i64 j] u.w fun e w' => e = .returned (.int .i64 (Gd.frV s j)) ∧ ∃ u' : Later wr, w' = u'.w := fun u => calls_later u (Gd.rfree_any (HRS.out _ (bel_on' HB.out u.below)) HGS.out j)
    have c5 := (HRS.out _ HB.out).cellOn hlt
    generalize s.on (j : Int) = x1 at OC c5
    generalize Gd.frV s (j : Int) = x2 at FC RC
    have q1 : (x1 != x1) = false := by simp
    have q2 : (x2 != x2) = false := by simp
    have z0 := Later.cell c3
    have z1 := Later.cell c4
    have z2 := Later.cell c5
    have hne : Nonempty (Later wr) := ⟨Later.now wr⟩
    clear c3 c4 c5 KU HSK HRS HGS
    go_wp2_with fail
    dsimp only [List.append]
    refine region_later (by kernel_rfl) (by kernel_rfl) ?_
    repeat (first | go_big_quiet_step (first | exact GC _ | exact OC _ | exact FC _ | exact RC _) | quiet_step (first | exact GC _ | exact OC _ | exact FC _ | exact RC _))
    refine wpQuiet_nil ?_
    intro u
    go_wp2
    go_roundw
    case rel => exact ⟨j + 1, by go_num, by omega, bel_on' HB.out u.below⟩
    case measure => simp [Go.RowKit.intOf]; omega
end
end Go.Proofs.YtepclljoiccieaaGreatDoor
