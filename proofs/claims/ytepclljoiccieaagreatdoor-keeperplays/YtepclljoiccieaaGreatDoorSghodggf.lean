/-
  What the package-level variables of the library hold, as far as strconv and strings read them; that it stays where memory is only added.
-/
import Derived.Test.YtepclljoiccieaaGreatDoorRows
import Derived.Test.YtepclljoiccieaaGreatDoorSgobnjnb
import Derived.WalkKit
import Derived.Below
import Derived.Lib.LaidTab
import Derived.Stop.LaidErr
import Derived.MakeChecks
namespace Go.Proofs.YtepclljoiccieaaGreatDoor
open Go.RowKit

theorem cells_of_strs {H : Type} {enc : TypeId × Value → H} {P : Program} {w : World} {base : Nat} {sp : Nat → Bool} {held : Bool} {fuel : Nat} {t e : TypeId} {n : Nat} {cs : List Value} {zs : List (List UInt8)} {p : List MemPlace}
    (ht : P.underlying t = some (.array n e)) (he : P.underlying e = some .string) (hce : P.cellsOf e = 1) (hct : P.cellsOf t = n)
    (h : DataW.trod enc P w base sp held fuel t cs = some (.agg (zs.map fun z => .lit (.string z)), p)) : cs = zs.map fun z => Value.string ⟨z.toArray⟩ := by
  cases fuel with
  | zero => simp [DataW.trod] at h
  | succ fuel =>
    simp only [DataW.trod, ht, hce, hct, Nat.mul_one] at h
    split at h
    · rename_i hl
      obtain ⟨xs, hm, hx⟩ := Option.map_eq_some_iff.1 h
      have hxs : xs.map (·.1) = zs.map fun z => (DataW.lit (.string z) : DataW H) := by
        have := congrArg Prod.fst hx
        simpa using this
      have hxl : xs.length = n := by simpa using Lib.mapM_length hm
      have hzl : zs.length = n := by
        have := congrArg List.length hxs
        simp at this
        omega
      apply List.ext_getElem?
      intro i
      by_cases hi : i < n
      · obtain ⟨b, hb, hf⟩ := Lib.mapM_at hm i i (by simp [hi])
        obtain ⟨z, hc, rfl, _⟩ := DataW.trod_string he hf
        have h1 : cs[i]? = some (.string z) := by
          have := congrArg (·[0]?) hc
          simpa [List.getElem?_take, List.getElem?_drop] using this
        have h2 : (xs.map (·.1))[i]? = some (DataW.lit (.string z.data.toList) : DataW H) := by simp [hb]
        rw [hxs] at h2
        simp only [List.getElem?_map, Option.map_eq_some_iff, DataW.lit.injEq, Lit.string.injEq] at h2
        obtain ⟨z', hz', rfl⟩ := h2
        simp [h1, hz']
      · rw [List.getElem?_eq_none (by omega), List.getElem?_eq_none (by simp; omega)]
    · cases h
/-- The words of entries, as package keeper's table has them. -/
def Wd (w : World) : Prop := w.var? Tryz.prog "wharfinger/keeper.words" = some #[.string ⟨#[]⟩, .string ⟨#[114, 101, 97, 100, 121]⟩, .string ⟨#[121, 101, 115]⟩, .string ⟨#[110, 111]⟩, .string ⟨#[102, 121, 101, 115]⟩, .string ⟨#[102, 110, 111]⟩]
theorem wd_laid {W : World} {rest : List (String × DataW Unit)} (h : laidMet Tryz.prog (("wharfinger/keeper.words", Rows.laid_wharfinger_keeper_words) :: rest) W) : Wd W := by
  have e : (Rows.laid_wharfinger_keeper_words : DataW Unit) = .agg ([[], [114, 101, 97, 100, 121], [121, 101, 115], [110, 111], [102, 121, 101, 115], [102, 110, 111]].map fun z => .lit (.string z)) := rfl
  rw [e] at h
  obtain ⟨ps, ⟨g', t', cs, fuel, p, q, hg', ht', hvar, hd, _, _⟩, _⟩ := h
  have hg : Tryz.prog.globalNamed "wharfinger/keeper.words" = some 0 := by kernel_rfl
  have hty : (Tryz.prog.globals[0]?).map (·.type) = some 79 := by kernel_rfl
  obtain rfl := Option.some.inj (hg.symm.trans hg')
  obtain rfl := Option.some.inj (hty.symm.trans ht')
  unfold Wd
  have hcs := cells_of_strs Tryz.underlying79 Tryz.underlying9 (by kernel_rfl) (by kernel_rfl) hd
  rw [hvar, show cs = cs.toList.toArray by simp, hcs]
  rfl
theorem Wd.cell {w : World} (h : Wd w) : (w.cell? ⟨0, 0, none⟩ = some (.string ⟨#[]⟩) ∧ w.cell? ⟨0, 1, none⟩ = some (.string ⟨#[114, 101, 97, 100, 121]⟩) ∧ w.cell? ⟨0, 2, none⟩ = some (.string ⟨#[121, 101, 115]⟩)) ∧ w.cell? ⟨0, 3, none⟩ = some (.string ⟨#[110, 111]⟩) ∧ w.cell? ⟨0, 4, none⟩ = some (.string ⟨#[102, 121, 101, 115]⟩) ∧ w.cell? ⟨0, 5, none⟩ = some (.string ⟨#[102, 110, 111]⟩) := by
  have hg : Tryz.prog.globalNamed "wharfinger/keeper.words" = some 0 := by kernel_rfl
  have k := fun i => World.var?_cell hg h i
  refine ⟨⟨?_, ?_, ?_⟩, ?_, ?_, ?_⟩
  · exact k 0
  · exact k 1
  · exact k 2
  · exact k 3
  · exact k 4
  · exact k 5

def Gl (w : World) : Prop :=
  Lib.TabIs Tryz.prog w "internal/strconv.uint64pow10" .u64 Lib.pow10Tab ∧
  (∃ tp p, w.var? Tryz.prog "strconv.ErrSyntax" = some #[.iface tp p]) ∧
  (∃ tp p, w.var? Tryz.prog "strconv.ErrRange" = some #[.iface tp p]) ∧
  (∃ m, w.cell? ⟨1, 0, none⟩ = some (.int .i64 m)) ∧ Wd w
theorem Gl.mx {w : World} (h : Gl w) : ∃ m, w.cell? ⟨1, 0, none⟩ = some (.int .i64 m) := h.2.2.2.1
theorem Gl.wd {w : World} (h : Gl w) : Wd w := h.2.2.2.2

theorem var_on {w w' : World} {n : String} {cs : Array Value} (h : w.var? Tryz.prog n = some cs) (hb : Below w.heap.size w w') : w'.var? Tryz.prog n = some cs := by
  unfold World.var? at h ⊢
  cases hg : Tryz.prog.globalNamed n with
  | none => rw [hg] at h; cases h
  | some g =>
    rw [hg] at h
    simp only [Option.bind_some] at h ⊢
    by_cases hlt : g < w.heap.size
    · rw [hb.block g hlt]; exact h
    · rw [Array.getElem?_eq_none (by omega)] at h; cases h

theorem cell_lt {w : World} {b o : Nat} {v : Value} (h : w.cell? ⟨b, o, none⟩ = some v) : b < w.heap.size := by
  by_cases hlt : b < w.heap.size
  · exact hlt
  · have e : w.heap[b]? = none := Array.getElem?_eq_none (by omega)
    unfold World.cell? at h
    simp [e] at h

theorem Gl.on {w w' : World} (h : Gl w) (hb : Below w.heap.size w w') : Gl w' := by
  obtain ⟨h1, ⟨t2, p2, h2⟩, ⟨t3, p3, h3⟩, ⟨m, h4⟩, h5⟩ := h
  refine ⟨var_on h1 hb, ⟨t2, p2, var_on h2 hb⟩, ⟨t3, p3, var_on h3 hb⟩, ⟨m, ?_⟩, var_on h5 hb⟩
  rw [hb.cell (p := ⟨1, 0, none⟩) (cell_lt h4)]
  exact h4

theorem star : "*" ++ "errors.errorString" = "*errors.errorString" := by decide
theorem rowErr (u : TypeId) (h : Tryz.prog.typeName? 3 u = some "*errors.errorString") : u = 234 :=
  typeName_ptr_named (nm := "errors.errorString") (by rw [star]; kernel_rfl) (by kernel_rfl) (by decide) u (by rw [star]; exact h)

theorem gl_laid {W : World} {d1 d2 d4 d8 : DataW Unit}
    (hh : ([("math/bits.deBruijn32tab", d1), ("math/bits.deBruijn64tab", d2), ("internal/strconv.uint64pow10", Rows.laid_internal_strconv_uint64pow10), ("unicode/utf8.acceptRanges", d4), ("strconv.ErrRange", Rows.laid_strconv_ErrRange), ("strconv.ErrSyntax", Rows.laid_strconv_ErrSyntax), ("wharfinger/keeper.words", Rows.laid_wharfinger_keeper_words), ("unicode/utf8.first", d8)].all fun x => x.2.handleName?.isNone) = true)
    (h : laidMetH Tryz.prog [("math/bits.deBruijn32tab", d1), ("math/bits.deBruijn64tab", d2), ("internal/strconv.uint64pow10", Rows.laid_internal_strconv_uint64pow10), ("unicode/utf8.acceptRanges", d4), ("strconv.ErrRange", Rows.laid_strconv_ErrRange), ("strconv.ErrSyntax", Rows.laid_strconv_ErrSyntax), ("wharfinger/keeper.words", Rows.laid_wharfinger_keeper_words), ("unicode/utf8.first", d8)] W)
    (hs : W.ShapedOpen Tryz.prog) : Gl W := by
  rw [MakeChecks.laidMetH_plain _ _ _ hh] at h
  have hp := h.tail.tail
  have hr := hp.tail.tail
  have hy := hr.tail
  have t1 : Lib.TabIs Tryz.prog W "internal/strconv.uint64pow10" .u64 Lib.pow10Tab := by
    have e : (Rows.laid_internal_strconv_uint64pow10 : DataW Unit) = Lib.tabData .u64 Lib.pow10Tab := by kernel_rfl
    rw [e] at hp
    exact Lib.tabIs_of_head (g := 2) (t := 220) (e := 29) (n := 20) (by kernel_rfl) (by kernel_rfl) (by kernel_rfl) (by kernel_rfl) (by kernel_rfl) (by kernel_rfl) hp
  obtain ⟨a0, s0, hv0, -, -, -⟩ := laid_sentinel hr (g := 4) (ti := 174) (tp := 234) (te := 236) (ts := 9) (by kernel_rfl) (by kernel_rfl) Tryz.underlying174 rowErr Tryz.underlying234 Tryz.underlying236 rfl rfl Tryz.underlying9 (by kernel_rfl) (by kernel_rfl)
  obtain ⟨a1, s1, hv1, -, -, -⟩ := laid_sentinel hy (g := 3) (ti := 174) (tp := 234) (te := 236) (ts := 9) (by kernel_rfl) (by kernel_rfl) Tryz.underlying174 rowErr Tryz.underlying234 Tryz.underlying236 rfl rfl Tryz.underlying9 (by kernel_rfl) (by kernel_rfl)
  exact ⟨t1, ⟨_, _, hv1⟩, ⟨_, _, hv0⟩, Tryz.laysM146.s1_3 W hs, wd_laid hy.tail⟩
end Go.Proofs.YtepclljoiccieaaGreatDoor
