import Derived.Test.YthfgmpooehkhgaaGreatDoorRows
import Derived.Test.YthfgmpooehkhgaaGreatDoorSmodeied
import Derived.Stop.LaidErr
import Derived.MakeChecks
namespace Go.Proofs.YthfgmpooehkhgaaGreatDoor
open Go.RowKit
def Gl(w:World):Prop:=
 Lib.TabIs Tryz.prog w "internal/strconv.uint64pow10" .u64 Lib.pow10Tab∧
 (∃tp p,w.var? Tryz.prog "strconv.ErrSyntax" =some #[.iface tp p])∧
 (∃tp p,w.var? Tryz.prog "strconv.ErrRange" =some #[.iface tp p])∧
 ∃m,w.cell? ⟨3,0,none⟩=some (.int .i64 m)
theorem Gl.mx{w:World}(h:Gl w):∃m,w.cell? ⟨3,0,none⟩=some (.int .i64 m):=h.2.2.2
theorem var_on{w w':World}{n:String}{cs:Array Value}(h:w.var? Tryz.prog n=some cs)(hb:Below w.heap.size w w'):w'.var? Tryz.prog n=some cs:=by
 unfold World.var? at h ⊢
 cases hg:Tryz.prog.globalNamed n with
 |none=>rw[hg]at h;cases h
 |some g=>
  rw[hg]at h;simp only[Option.bind_some]at h ⊢;by_cases hlt:g<w.heap.size
  ·rw[hb.block g hlt];exact h
  ·rw[Array.getElem?_eq_none (by omega)]at h;cases h
theorem cell_lt{w:World}{b o:Nat}{v:Value}(h:w.cell? ⟨b,o,none⟩=some v):b<w.heap.size:=by
 by_cases hlt:b<w.heap.size
 ·exact hlt
 ·have e:w.heap[b]?=none:=Array.getElem?_eq_none (by omega)
  unfold World.cell? at h;simp[e]at h
theorem Gl.on{w w':World}(h:Gl w)(hb:Below w.heap.size w w'):Gl w':=by
 obtain⟨h1,⟨t2,p2,h2⟩,⟨t3,p3,h3⟩,m,h4⟩:=h
 refine⟨var_on h1 hb,⟨t2,p2,var_on h2 hb⟩,⟨t3,p3,var_on h3 hb⟩,m,?_⟩
 rw[hb.cell (p:=⟨3,0,none⟩) (cell_lt h4)]
 exact h4
theorem star: "*" ++ "errors.errorString" = "*errors.errorString" :=by decide
theorem rowErr(u:TypeId)(h:Tryz.prog.typeName? 3 u=some "*errors.errorString"):u=309:=
 typeName_ptr_named (nm:= "errors.errorString") (by rw[star];kernel_rfl) (by kernel_rfl) (by decide) u (by rw[star];exact h)
theorem gl_laid{W:World}{d1 d2 d4 d7:DataW Unit}
 (hh:([("math/bits.deBruijn32tab",d1),("math/bits.deBruijn64tab",d2),("internal/strconv.uint64pow10",Rows.laid_internal_strconv_uint64pow10),("unicode/utf8.acceptRanges",d4),("strconv.ErrRange",Rows.laid_strconv_ErrRange),("strconv.ErrSyntax",Rows.laid_strconv_ErrSyntax),("unicode/utf8.first",d7)].all fun x=>x.2.handleName?.isNone)=true)
 (h:laidMetH Tryz.prog [("math/bits.deBruijn32tab",d1),("math/bits.deBruijn64tab",d2),("internal/strconv.uint64pow10",Rows.laid_internal_strconv_uint64pow10),("unicode/utf8.acceptRanges",d4),("strconv.ErrRange",Rows.laid_strconv_ErrRange),("strconv.ErrSyntax",Rows.laid_strconv_ErrSyntax),("unicode/utf8.first",d7)] W)
 (hs:W.ShapedOpen Tryz.prog):Gl W:=by
 rw[MakeChecks.laidMetH_plain _ _ _ hh]at h
 have hp:=h.tail.tail
 have hr:=hp.tail.tail
 have hy:=hr.tail
 have t1:Lib.TabIs Tryz.prog W "internal/strconv.uint64pow10" .u64 Lib.pow10Tab:=by
  have e:(Rows.laid_internal_strconv_uint64pow10:DataW Unit)=Lib.tabData .u64 Lib.pow10Tab:=by kernel_rfl
  rw[e]at hp;exact Lib.tabIs_of_head (g:=0) (t:=255) (e:=45) (n:=20) (by kernel_rfl) (by kernel_rfl) (by kernel_rfl) (by kernel_rfl) (by kernel_rfl) (by kernel_rfl) hp
 obtain⟨a0,s0,hv0,-,-,-⟩:=laid_sentinel hr (g:=5) (ti:=263) (tp:=309) (te:=311) (ts:=9) (by kernel_rfl) (by kernel_rfl) Tryz.underlying263 rowErr Tryz.underlying309 Tryz.underlying311 rfl rfl Tryz.underlying9 (by kernel_rfl) (by kernel_rfl)
 obtain⟨a1,s1,hv1,-,-,-⟩:=laid_sentinel hy (g:=4) (ti:=263) (tp:=309) (te:=311) (ts:=9) (by kernel_rfl) (by kernel_rfl) Tryz.underlying263 rowErr Tryz.underlying309 Tryz.underlying311 rfl rfl Tryz.underlying9 (by kernel_rfl) (by kernel_rfl)
 exact⟨t1,⟨_,_,hv1⟩,⟨_,_,hv0⟩,Tryz.laysM146.s1_3 W hs⟩
end Go.Proofs.YthfgmpooehkhgaaGreatDoor
