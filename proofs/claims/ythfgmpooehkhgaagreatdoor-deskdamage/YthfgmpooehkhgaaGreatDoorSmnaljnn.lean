import Derived.Test.YthfgmpooehkhgaaGreatDoorRows
import Derived.WalkKit
import Derived.ProofKit
namespace Go.Proofs.YthfgmpooehkhgaaGreatDoor
open Go.RowKit
def um(a m:Int):Int:=wrap64 ((IntKind.u64.wrap a).tmod m)
theorem um_bd(a m:Int)(h1:0<m)(h2:m≤4611686018427387904):0≤um a m∧um a m<m:=by
 unfold um
 have h0:0≤IntKind.u64.wrap a:=by rw[IntKind.wrap_u64];omega
 have h3:0≤(IntKind.u64.wrap a).tmod m:=by rw[Int.tmod_eq_emod_of_nonneg h0];exact Int.emod_nonneg _ (by omega)
 have h4:(IntKind.u64.wrap a).tmod m<m:=by rw[Int.tmod_eq_emod_of_nonneg h0];exact Int.emod_lt_of_pos _ h1
 rw[IntWalk.wrap64_in _ (by omega)]
 exact⟨h3,h4⟩
end Go.Proofs.YthfgmpooehkhgaaGreatDoor
