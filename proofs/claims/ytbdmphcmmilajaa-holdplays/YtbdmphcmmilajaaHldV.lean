/-
  Contract of the reference's Ids.
-/
import Derived.Test.YtbdmphcmmilajaaHldU
import Derived.Test.YtbdmphcmmilajaaStrs
namespace Go.Proofs.Ytbdmphcmmilajaa
open Go.ChangeShapes Go.WideShapes Go.ChangeAt Go.RowKit Go.Maps

def rvs (N : Nat) (h : Int → Int) : List Value := (List.range N).map (fun k : Nat => .int .i64 (h k))
theorem rvs_len (N : Nat) (h : Int → Int) : (rvs N h).length = N := by simp [rvs]
theorem rvs_at {N : Nat} (h : Int → Int) {i : Nat} (hi : i < N) : (rvs N h)[i]? = some (.int .i64 (h i)) := by simp [rvs, hi]
theorem rcs_rvs (N : Nat) (left : Int) (h : Int → Int) : rcs N left h = .int .i64 left :: rvs N h := rfl
theorem load_row {B : Nat} {w : World} {q : Nat} {left : Int} {h : Int → Int} (k : Rb B w q left h) : (Instr.loadAt 38 (.pointer (some ⟨q, 1, none⟩))).run Try.prog w = .ok (.agg (rvs 1000 h).toArray) w := by
  have hl : (loadCells ⟨q, 1, none⟩ 1000).run Try.prog w = .ok (rvs 1000 h).toArray w := by
    have := run_loadCells_list (P := Try.prog) (w := w) ⟨q, 1, none⟩ (rvs 1000 h) (fun j v hj => by
      rw [st_add', cell_of k.1, List.getElem?_toArray, rcs_rvs, Nat.add_comm, List.getElem?_cons_succ]
      exact hj)
    rwa [rvs_len] at this
  generalize (rvs 1000 h).toArray = cs at hl
  have e : ∀ n : Nat, (loadCells ⟨q, 1, none⟩ n).run Try.prog w = .ok cs w → (sizeOf 38).run Try.prog w = .ok n w → (loadVar 38 ⟨q, 1, none⟩).run Try.prog w = .ok (.agg cs) w := fun n h1 h2 => by
    simp [loadVar, Try.isAgg38, h2, h1, Result.andThen]
  have e2 := e 1000 hl (Try.sizeOf38 w)
  simp [Instr.loadAt, Instr.sureAddr, e2]
theorem index_row (h : Int → Int) {i : Nat} (hi : i < 1000) (w : World) : (Instr.index 38 (.agg (rvs 1000 h).toArray) (.int .i64 i)).run Try.prog w = .ok (.int .i64 (h i)) w := by
  have hc : (rvs 1000 h).toArray[i]? = some (.int .i64 (h i)) := by rw [List.getElem?_toArray]; exact rvs_at h hi
  generalize (rvs 1000 h).toArray = cs at hc
  simp [Instr.index, asIntOf, run_underlying Try.underlying38, part, Try.isAgg3, Try.sizeOf3, hc, Result.andThen]
  intro h3
  omega
theorem wpList_load_row {w : World} {ops : Array Oper} {rest : List Oper} {o : Oper} {a : Act} {Q : Exit → Act → World → Prop} (hg : o.guard = none) (x : Operand) (hop : o.op = Op.load 38 x) (q : Nat) (hx : a.eval x = .pointer (some ⟨q, 1, none⟩)) {cs : Array Value}
    (hrun : (Instr.loadAt 38 (.pointer (some ⟨q, 1, none⟩))).run Try.prog w = .ok (.agg cs) w) (hK : wpList Try.prog ops Q rest (a.put o.dst (.agg cs)) w) : wpList Try.prog ops Q (o :: rest) a w := by
  refine wpList_plain hg fun K' hK' => ?_
  unfold Oper.wp
  simp only [execOp, hop]
  simp [hx, hrun, Result.andThen]
  exact hK' _ _ hK
set_option maxHeartbeats 1000000 in
theorem rids_any {B : Nat} {w : World} {q : Nat} {left : Int} {h : Int → Int} (k : Rb B w q left h) (g : Good left h) :
    Calls Try.prog 16 #[.pointer (some ⟨q, 0, none⟩)] w fun e w' => ∃ a c, e = .returned (.slice a (idsL h).length c) ∧ w'.ownsRow w.heap.size 3 1 (.slice a (idsL h).length c) (idsL h).length ((idsL h).map (Value.int .i64)) ∧ Below w.heap.size w w' := by
  have hld := load_row k
  have hix : ∀ (i : Nat), i < 1000 → ∀ W : World, (Instr.index 38 (.agg (rvs 1000 h).toArray) (.int .i64 i)).run Try.prog W = .ok (.int .i64 (h i)) W := fun i hi W => index_row h hi W
  generalize (rvs 1000 h).toArray = cs at hld hix
  have HIX := hide hix
  have HP := hide g.pos
  clear hix k g
  go_enter Try.func16, Try.ntmps16
  go_wp2_with (refine wpList_load_row rfl _ rfl q rfl hld ?_)
  go_loopw [3, 10] (fun v i wr => ∃ (j : Nat) (av : Option Addr) (cv : Nat), i = .int .i64 j ∧ v = .slice av (idsTo h j).length cv ∧ j ≤ 1000 ∧ Hid (wr.ownsRow w.heap.size 3 1 (.slice av (idsTo h j).length cv) (idsTo h j).length ((idsTo h j).map (Value.int .i64))) ∧ Hid (Below w.heap.size w wr)) (fun _ i _ => 1000 - (intOf i).toNat)
  case atStart => exact ⟨0, none, 0, rfl, rfl, Nat.zero_le _, World.ownsRow_nil _ _ _ _, Below.refl _ _⟩
  case round =>
    obtain ⟨j, av, cv, rfl, rfl, hj, HR, HB⟩ := hrel
    by_cases hlt : j < 1000
    · have hx := HIX.out j hlt wr
      have ql : (j : Int) < 1000 := by omega
      by_cases hz : h j = 0
      · have e : idsTo h (j + 1) = idsTo h j := by rw [idsTo_succ, if_neg (by simp [hz])]; simp
        have HE := hide e
        rw [hz] at hx
        clear e hz
        go_wp2
        go_roundw
        case rel => exact ⟨j + 1, av, cv, by go_num, by rw [HE.out], by omega, by rw [HE.out]; exact HR, HB⟩
        case measure => simp [intOf]; omega
      · have e : idsTo h (j + 1) = idsTo h j ++ [(j : Int)] := by rw [idsTo_succ, if_pos hz]
        have HE := hide e
        have hlen := idsTo_len h j
        have qv : h j > 0 := by have := HP.out (j : Int); omega
        obtain ⟨v, hv⟩ : ∃ v, h j = v := ⟨_, rfl⟩
        rw [hv] at hx qv
        have hbb := HB.out.size
        clear e hz hv
        go_wp2_with (at_builtin; refine append_nums rfl (.tmp 16) (.tmp 18) rfl w.heap.size (.slice av (idsTo h j).length cv) (idsTo h j).length (idsTo h j) rfl (HR.out.alloc _) ⟨wr.heap.size, 0, none⟩ 1 1 [(j : Int)] rfl rfl (ints_one _ _) (by omega) (by simp; omega) ?_; intro v' w4 hown' hgrow; obtain ⟨a4, c4, rfl, -⟩ := row_slice hown'; have HR4 := hide hown'; have HB4 : Hid (Below w.heap.size w w4) := (HB.out.alloc HB.out.size _).grown hgrow (by simp; omega) (fun i e => (HR.out.lt i e).1); clear hown' hgrow)
        go_roundw
        case rel => exact ⟨j + 1, a4, c4, by go_num, by rw [HE.out]; simp, by omega, by rw [HE.out, List.length_append]; exact HR4, HB4⟩
        case measure => simp [intOf]; omega
    · have ql : ¬ (j : Int) < 1000 := by omega
      go_wp2
      go_ret
      have e : j = 1000 := by omega
      subst e
      exact ⟨av, cv, rfl, HR.out, HB.out⟩
end Go.Proofs.Ytbdmphcmmilajaa
