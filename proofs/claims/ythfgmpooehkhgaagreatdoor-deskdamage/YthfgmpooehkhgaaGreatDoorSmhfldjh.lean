import Derived.Test.YthfgmpooehkhgaaGreatDoorSmdnnkme
namespace Go.Proofs.YthfgmpooehkhgaaGreatDoor
open Go.ChangeShapes Go.WideShapes Go.ChangeAt Go.RowKit Go.Maps Sg Bl
open Nat renaming le_refl→zD
open Below renaming refl→zS
open Go.IntKind renaming i64→Z
open Option renaming some→Y,none→U
open Go.Ending renaming returned→S
set_option maxRecDepth 1000000 in
set_option maxHeartbeats 8000000 in
theorem dam_4{w:World}{l:List C22.Cl}{cap d p m:Nat}{y wh:Bool}{WD:ByteArray}{g0 g1 g2 g3 g4 g5 g6 g7 g8 C0 C1 C4 C5 C6 C7 C8 C9 Ca Cb Cc Cd Ce Cf Cg Ch Ci Cj Ck Cm D0 D2 D3 D4 D5 D6 D7 D8 D9 Db Dc Dd De Df Dg Dh Di Dj Dk Dl Dm E0 E1 E2 E3 E4 E5 E6 E7 E8 E9 Ea Eb Ec Ed Ee Ef Eg Eh Ei Ej Ek El Em F0 F1 B4 B5 B6 B7 B8 B9 Ba Bb Bc Bd Be Bf Bg Bh Bi Bj Bk Bm C2 C3 F3 F4 F5 F6 F7 F8 F9 Fa Fb Fc Fd Fe Ff Fg Fh Fi Fj A0 A1 A4 A5 A6 A7 A8 A9 Aa Ab Ac Ad Ae Af Ag Ah Ai Aj Ak Al Am B0 B2 B3:Value}{wr:World}{Q0:Exit→Act→World→Prop}{j bb off1 sc:Nat}{cd ci cn ct m0 m1 m2 m3 m4 m5 m6:Int}{oo:Od}{sa:Option Addr}{T:ByteArray}(HG:Hid (Gl w))(hlen:l.length≤9223372036854775807)(hlt:j<l.length)(c0:wr.cell? ⟨bb,off1+j*17,U⟩=Y (.int Z cd))(c1:wr.cell? ⟨bb,off1+j*17+1,U⟩=Y (.int Z ci))(c2:wr.cell? ⟨bb,off1+j*17+2,U⟩=Y (.int Z cn))(c3:wr.cell? ⟨bb,off1+j*17+3,U⟩=Y (.int Z ct))(c4:wr.cell? ⟨bb,off1+j*17+4,U⟩=Y (.int Z oo.id))(c5:wr.cell? ⟨bb,off1+j*17+5,U⟩=Y (.int Z oo.item))(c6:wr.cell? ⟨bb,off1+j*17+6,U⟩=Y (.int Z oo.qty))(c7:wr.cell? ⟨bb,off1+j*17+7,U⟩=Y (.int Z oo.client))(c8:wr.cell? ⟨bb,off1+j*17+8,U⟩=Y (.int Z oo.price))(c9:wr.cell? ⟨bb,off1+j*17+9,U⟩=Y (.slice sa oo.steps.length sc))(c10:wr.cell? ⟨bb,off1+j*17+10,U⟩=Y (.int Z m0))(c11:wr.cell? ⟨bb,off1+j*17+11,U⟩=Y (.int Z m1))(c12:wr.cell? ⟨bb,off1+j*17+12,U⟩=Y (.int Z m2))(c13:wr.cell? ⟨bb,off1+j*17+13,U⟩=Y (.int Z m3))(c14:wr.cell? ⟨bb,off1+j*17+14,U⟩=Y (.int Z m4))(c15:wr.cell? ⟨bb,off1+j*17+15,U⟩=Y (.int Z m5))(c16:wr.cell? ⟨bb,off1+j*17+16,U⟩=Y (.int Z m6))
 (HD2:Hid (DS w wr d p m y wh (4+j))) (hA:AskP w d p m y wh WD (4+(j+1)) T) (e45:cd=4):
 Code.wp Tryz.prog (((Tryz.f6.body.bind (fun c=>(loopsOf c)[1]?)).getD .skip)) (Exit.then (fun a' w''=>WI w l (Y ⟨bb,off1,U⟩) cap d p m y wh WD g0 g1 g2 g3 g4 g5 g6 g7 g8 C0 C1 C4 C5 C6 C7 C8 C9 Ca Cb Cc Cd Ce Cf Cg Ch Ci Cj Ck Cm D0 D2 D3 D4 D5 D6 D7 D8 D9 Db Dc Dd De Df Dg Dh Di Dj Dk Dl Dm E0 E1 E2 E3 E4 E5 E6 E7 E8 E9 Ea Eb Ec Ed Ee Ef Eg Eh Ei Ej Ek El Em F0 F1 B4 B5 B6 B7 B8 B9 Ba Bb Bc Bd Be Bf Bg Bh Bi Bj Bk Bm a' w''∧Wmu l.length a' w''<Wmu l.length ⟨#[g0,g1,g2,g3,g4,g5,g6,g7,g8,.pointer (Y ⟨d,0,U⟩),.pointer (Y ⟨p,0,U⟩),C0,.string WD,C1,C2,C3,C4,C5,C6,C7,C8,C9,Ca,Cb,Cc,Cd,Ce,Cf,Cg,Ch,Ci,Cj,Ck,Cm,D0,D2,D3,D4,D5,D6,D7,D8,D9,Db,Dc,Dd,De,Df,Dg,Dh,Di,Dj,Dk,Dl,Dm,E0,E1,E2,E3,E4,E5,E6,E7,E8,E9,Ea,Eb,Ec,Ed,Ee,Ef,Eg,Eh,Ei,Ej,Ek,El,Em,F0,F1,.slice (Y ⟨bb,off1,U⟩) l.length cap,.int Z (l.length:Int),.int Z (j:Int),F3,F4,F5,F6,F7,F8,F9,Fa,Fb,Fc,Fd,Fe,Ff,Fg,Fh,Fi,Fj,A0,A1,A4,A5,A6,A7,A8,A9,Aa,Ab,Ac,Ad,Ae,Af,Ag,Ah,Ai,Aj,Ak,Al,Am,B0,B2,B3,B4,B5,B6,B7,B8,B9,Ba,Bb,Bc,Bd,Be,Bf,Bg,Bh,Bi,Bj,Bk,Bm],[]⟩ wr) Q0) ⟨#[g0,g1,g2,g3,g4,g5,g6,g7,g8,.pointer (Y ⟨d,0,U⟩),.pointer (Y ⟨p,0,U⟩),C0,.string WD,C1,C2,C3,C4,C5,C6,C7,C8,C9,Ca,Cb,Cc,Cd,Ce,Cf,Cg,Ch,Ci,Cj,Ck,Cm,D0,D2,D3,D4,D5,D6,D7,D8,D9,Db,Dc,Dd,De,Df,Dg,Dh,Di,Dj,Dk,Dl,Dm,E0,E1,E2,E3,E4,E5,E6,E7,E8,E9,Ea,Eb,Ec,Ed,Ee,Ef,Eg,Eh,Ei,Ej,Ek,El,Em,F0,F1,.slice (Y ⟨bb,off1,U⟩) l.length cap,.int Z (l.length:Int),.int Z (j:Int),F3,F4,F5,F6,F7,F8,F9,Fa,Fb,Fc,Fd,Fe,Ff,Fg,Fh,Fi,Fj,A0,A1,A4,A5,A6,A7,A8,A9,Aa,Ab,Ac,Ad,Ae,Af,Ag,Ah,Ai,Aj,Ak,Al,Am,B0,B2,B3,B4,B5,B6,B7,B8,B9,Ba,Bb,Bc,Bd,Be,Bf,Bg,Bh,Bi,Bj,Bk,Bm],[]⟩ wr:=by
 have ql:(j:Int)<(l.length:Int):=by omega
 obtain⟨hq,hs1,hs2,hst⟩:=hA
 have ST:=hide hst
 clear hst
 have HBV:Hid (Below wr.heap.size wr (wr.alloc (.cells #[.int Z cd,.int Z ci,.int Z cn,.int Z ct,.int Z oo.id,.int Z oo.item,.int Z oo.qty,.int Z oo.client,.int Z oo.price,.slice sa oo.steps.length sc,.int Z m0,.int Z m1,.int Z m2,.int Z m3,.int Z m4,.int Z m5,.int Z m6] 36))):=(zS _ _).alloc (zD _) _
 have HDV:=hide (HD2.out.on HBV.out)
 clear HD2
 subst e45
 have C:=HDV.out.crash HG.out cn ct
 conv=>arg 2;whnf
 go_wp2_with(first
  |(go_at_call 19;refine C.mono ?_;clear C;rintro e v5 ⟨⟨z5,rfl⟩,h1⟩;have S4:=h1;clear h1)
  |(go_at_call 21;refine S4.mono ?_;clear S4;rintro e v6 ⟨⟨z6,rfl⟩,h1⟩;have S5:=ST.out _ h1;clear h1 ST)
  |(go_at_call 41;refine S5.mono ?_;clear S5;rintro e v7 ⟨rfl,h1⟩;have T5:=h1;clear h1)
  |(go_at_call 43;refine T5.mono ?_;clear T5;rintro e v8 ⟨rfl,h1⟩;have HZ:=hide h1;clear h1))
 refine⟨⟨j+1,_,_,_,_,_,_,_,_,_,_,_,_,_,_,_,_,_,_,_,_,_,_,_,_,_,_,_,_,_,_,_,_,_,_,_,_,_,_,_,_,_,_,_,_,by go_num,by omega,HZ,rfl⟩,?_⟩
 simp[Wmu,Go.RowKit.intOf]
 omega
set_option maxRecDepth 1000000 in
set_option maxHeartbeats 8000000 in
theorem dam_5{w:World}{l:List C22.Cl}{cap d p m:Nat}{y wh:Bool}{WD:ByteArray}{g0 g1 g2 g3 g4 g5 g6 g7 g8 C0 C1 C4 C5 C6 C7 C8 C9 Ca Cb Cc Cd Ce Cf Cg Ch Ci Cj Ck Cm D0 D2 D3 D4 D5 D6 D7 D8 D9 Db Dc Dd De Df Dg Dh Di Dj Dk Dl Dm E0 E1 E2 E3 E4 E5 E6 E7 E8 E9 Ea Eb Ec Ed Ee Ef Eg Eh Ei Ej Ek El Em F0 F1 B4 B5 B6 B7 B8 B9 Ba Bb Bc Bd Be Bf Bg Bh Bi Bj Bk Bm C2 C3 F3 F4 F5 F6 F7 F8 F9 Fa Fb Fc Fd Fe Ff Fg Fh Fi Fj A0 A1 A4 A5 A6 A7 A8 A9 Aa Ab Ac Ad Ae Af Ag Ah Ai Aj Ak Al Am B0 B2 B3:Value}{wr:World}{Q0:Exit→Act→World→Prop}{j bb off1 sc:Nat}{cd ci cn ct m0 m1 m2 m3 m4 m5 m6:Int}{oo:Od}{sa:Option Addr}{T:ByteArray}(HG:Hid (Gl w))(hlen:l.length≤9223372036854775807)(hlt:j<l.length)(c0:wr.cell? ⟨bb,off1+j*17,U⟩=Y (.int Z cd))(c1:wr.cell? ⟨bb,off1+j*17+1,U⟩=Y (.int Z ci))(c2:wr.cell? ⟨bb,off1+j*17+2,U⟩=Y (.int Z cn))(c3:wr.cell? ⟨bb,off1+j*17+3,U⟩=Y (.int Z ct))(c4:wr.cell? ⟨bb,off1+j*17+4,U⟩=Y (.int Z oo.id))(c5:wr.cell? ⟨bb,off1+j*17+5,U⟩=Y (.int Z oo.item))(c6:wr.cell? ⟨bb,off1+j*17+6,U⟩=Y (.int Z oo.qty))(c7:wr.cell? ⟨bb,off1+j*17+7,U⟩=Y (.int Z oo.client))(c8:wr.cell? ⟨bb,off1+j*17+8,U⟩=Y (.int Z oo.price))(c9:wr.cell? ⟨bb,off1+j*17+9,U⟩=Y (.slice sa oo.steps.length sc))(c10:wr.cell? ⟨bb,off1+j*17+10,U⟩=Y (.int Z m0))(c11:wr.cell? ⟨bb,off1+j*17+11,U⟩=Y (.int Z m1))(c12:wr.cell? ⟨bb,off1+j*17+12,U⟩=Y (.int Z m2))(c13:wr.cell? ⟨bb,off1+j*17+13,U⟩=Y (.int Z m3))(c14:wr.cell? ⟨bb,off1+j*17+14,U⟩=Y (.int Z m4))(c15:wr.cell? ⟨bb,off1+j*17+15,U⟩=Y (.int Z m5))(c16:wr.cell? ⟨bb,off1+j*17+16,U⟩=Y (.int Z m6))
 (HD2:Hid (DS w wr d p m y wh (4+j))) (hA:AskP w d p m y wh WD (4+(j+1)) T) (e45:cd=5):
 Code.wp Tryz.prog (((Tryz.f6.body.bind (fun c=>(loopsOf c)[1]?)).getD .skip)) (Exit.then (fun a' w''=>WI w l (Y ⟨bb,off1,U⟩) cap d p m y wh WD g0 g1 g2 g3 g4 g5 g6 g7 g8 C0 C1 C4 C5 C6 C7 C8 C9 Ca Cb Cc Cd Ce Cf Cg Ch Ci Cj Ck Cm D0 D2 D3 D4 D5 D6 D7 D8 D9 Db Dc Dd De Df Dg Dh Di Dj Dk Dl Dm E0 E1 E2 E3 E4 E5 E6 E7 E8 E9 Ea Eb Ec Ed Ee Ef Eg Eh Ei Ej Ek El Em F0 F1 B4 B5 B6 B7 B8 B9 Ba Bb Bc Bd Be Bf Bg Bh Bi Bj Bk Bm a' w''∧Wmu l.length a' w''<Wmu l.length ⟨#[g0,g1,g2,g3,g4,g5,g6,g7,g8,.pointer (Y ⟨d,0,U⟩),.pointer (Y ⟨p,0,U⟩),C0,.string WD,C1,C2,C3,C4,C5,C6,C7,C8,C9,Ca,Cb,Cc,Cd,Ce,Cf,Cg,Ch,Ci,Cj,Ck,Cm,D0,D2,D3,D4,D5,D6,D7,D8,D9,Db,Dc,Dd,De,Df,Dg,Dh,Di,Dj,Dk,Dl,Dm,E0,E1,E2,E3,E4,E5,E6,E7,E8,E9,Ea,Eb,Ec,Ed,Ee,Ef,Eg,Eh,Ei,Ej,Ek,El,Em,F0,F1,.slice (Y ⟨bb,off1,U⟩) l.length cap,.int Z (l.length:Int),.int Z (j:Int),F3,F4,F5,F6,F7,F8,F9,Fa,Fb,Fc,Fd,Fe,Ff,Fg,Fh,Fi,Fj,A0,A1,A4,A5,A6,A7,A8,A9,Aa,Ab,Ac,Ad,Ae,Af,Ag,Ah,Ai,Aj,Ak,Al,Am,B0,B2,B3,B4,B5,B6,B7,B8,B9,Ba,Bb,Bc,Bd,Be,Bf,Bg,Bh,Bi,Bj,Bk,Bm],[]⟩ wr) Q0) ⟨#[g0,g1,g2,g3,g4,g5,g6,g7,g8,.pointer (Y ⟨d,0,U⟩),.pointer (Y ⟨p,0,U⟩),C0,.string WD,C1,C2,C3,C4,C5,C6,C7,C8,C9,Ca,Cb,Cc,Cd,Ce,Cf,Cg,Ch,Ci,Cj,Ck,Cm,D0,D2,D3,D4,D5,D6,D7,D8,D9,Db,Dc,Dd,De,Df,Dg,Dh,Di,Dj,Dk,Dl,Dm,E0,E1,E2,E3,E4,E5,E6,E7,E8,E9,Ea,Eb,Ec,Ed,Ee,Ef,Eg,Eh,Ei,Ej,Ek,El,Em,F0,F1,.slice (Y ⟨bb,off1,U⟩) l.length cap,.int Z (l.length:Int),.int Z (j:Int),F3,F4,F5,F6,F7,F8,F9,Fa,Fb,Fc,Fd,Fe,Ff,Fg,Fh,Fi,Fj,A0,A1,A4,A5,A6,A7,A8,A9,Aa,Ab,Ac,Ad,Ae,Af,Ag,Ah,Ai,Aj,Ak,Al,Am,B0,B2,B3,B4,B5,B6,B7,B8,B9,Ba,Bb,Bc,Bd,Be,Bf,Bg,Bh,Bi,Bj,Bk,Bm],[]⟩ wr:=by
 have ql:(j:Int)<(l.length:Int):=by omega
 obtain⟨hq,hs1,hs2,hst⟩:=hA
 have ST:=hide hst
 clear hst
 have HBV:Hid (Below wr.heap.size wr (wr.alloc (.cells #[.int Z cd,.int Z ci,.int Z cn,.int Z ct,.int Z oo.id,.int Z oo.item,.int Z oo.qty,.int Z oo.client,.int Z oo.price,.slice sa oo.steps.length sc,.int Z m0,.int Z m1,.int Z m2,.int Z m3,.int Z m4,.int Z m5,.int Z m6] 36))):=(zS _ _).alloc (zD _) _
 have HDV:=hide (HD2.out.on HBV.out)
 clear HD2
 subst e45
 have C:=HDV.out.crash HG.out cn ct
 conv=>arg 2;whnf
 go_wp2_with(first
  |(go_at_call 19;refine C.mono ?_;clear C;rintro e v5 ⟨⟨z5,rfl⟩,h1⟩;have S4:=h1;clear h1)
  |(go_at_call 21;refine S4.mono ?_;clear S4;rintro e v6 ⟨⟨z6,rfl⟩,h1⟩;have S5:=ST.out _ h1;clear h1 ST)
  |(go_at_call 41;refine S5.mono ?_;clear S5;rintro e v7 ⟨rfl,h1⟩;have T5:=h1;clear h1)
  |(go_at_call 43;refine T5.mono ?_;clear T5;rintro e v8 ⟨rfl,h1⟩;have HZ:=hide h1;clear h1))
 refine⟨⟨j+1,_,_,_,_,_,_,_,_,_,_,_,_,_,_,_,_,_,_,_,_,_,_,_,_,_,_,_,_,_,_,_,_,_,_,_,_,_,_,_,_,_,_,_,_,by go_num,by omega,HZ,rfl⟩,?_⟩
 simp[Wmu,Go.RowKit.intOf]
 omega
set_option maxRecDepth 1000000 in
set_option maxHeartbeats 8000000 in
theorem dam_n{w:World}{l:List C22.Cl}{cap d p m:Nat}{y wh:Bool}{WD:ByteArray}{g0 g1 g2 g3 g4 g5 g6 g7 g8 C0 C1 C4 C5 C6 C7 C8 C9 Ca Cb Cc Cd Ce Cf Cg Ch Ci Cj Ck Cm D0 D2 D3 D4 D5 D6 D7 D8 D9 Db Dc Dd De Df Dg Dh Di Dj Dk Dl Dm E0 E1 E2 E3 E4 E5 E6 E7 E8 E9 Ea Eb Ec Ed Ee Ef Eg Eh Ei Ej Ek El Em F0 F1 B4 B5 B6 B7 B8 B9 Ba Bb Bc Bd Be Bf Bg Bh Bi Bj Bk Bm C2 C3 F3 F4 F5 F6 F7 F8 F9 Fa Fb Fc Fd Fe Ff Fg Fh Fi Fj A0 A1 A4 A5 A6 A7 A8 A9 Aa Ab Ac Ad Ae Af Ag Ah Ai Aj Ak Al Am B0 B2 B3:Value}{wr:World}{Q0:Exit→Act→World→Prop}{j bb off1 sc:Nat}{cd ci cn ct m0 m1 m2 m3 m4 m5 m6:Int}{oo:Od}{sa:Option Addr}{T:ByteArray}(HG:Hid (Gl w))(hlen:l.length≤9223372036854775807)(hlt:j<l.length)(c0:wr.cell? ⟨bb,off1+j*17,U⟩=Y (.int Z cd))(c1:wr.cell? ⟨bb,off1+j*17+1,U⟩=Y (.int Z ci))(c2:wr.cell? ⟨bb,off1+j*17+2,U⟩=Y (.int Z cn))(c3:wr.cell? ⟨bb,off1+j*17+3,U⟩=Y (.int Z ct))(c4:wr.cell? ⟨bb,off1+j*17+4,U⟩=Y (.int Z oo.id))(c5:wr.cell? ⟨bb,off1+j*17+5,U⟩=Y (.int Z oo.item))(c6:wr.cell? ⟨bb,off1+j*17+6,U⟩=Y (.int Z oo.qty))(c7:wr.cell? ⟨bb,off1+j*17+7,U⟩=Y (.int Z oo.client))(c8:wr.cell? ⟨bb,off1+j*17+8,U⟩=Y (.int Z oo.price))(c9:wr.cell? ⟨bb,off1+j*17+9,U⟩=Y (.slice sa oo.steps.length sc))(c10:wr.cell? ⟨bb,off1+j*17+10,U⟩=Y (.int Z m0))(c11:wr.cell? ⟨bb,off1+j*17+11,U⟩=Y (.int Z m1))(c12:wr.cell? ⟨bb,off1+j*17+12,U⟩=Y (.int Z m2))(c13:wr.cell? ⟨bb,off1+j*17+13,U⟩=Y (.int Z m3))(c14:wr.cell? ⟨bb,off1+j*17+14,U⟩=Y (.int Z m4))(c15:wr.cell? ⟨bb,off1+j*17+15,U⟩=Y (.int Z m5))(c16:wr.cell? ⟨bb,off1+j*17+16,U⟩=Y (.int Z m6))
 (HD2:Hid (DS w wr d p m y wh (4+j))) (hA:AskP w d p m y wh WD (4+(j+1)) T) (e3:cd≠3) (e4:cd≠4) (e5:cd≠5) (e17:m0≠17):
 Code.wp Tryz.prog (((Tryz.f6.body.bind (fun c=>(loopsOf c)[1]?)).getD .skip)) (Exit.then (fun a' w''=>WI w l (Y ⟨bb,off1,U⟩) cap d p m y wh WD g0 g1 g2 g3 g4 g5 g6 g7 g8 C0 C1 C4 C5 C6 C7 C8 C9 Ca Cb Cc Cd Ce Cf Cg Ch Ci Cj Ck Cm D0 D2 D3 D4 D5 D6 D7 D8 D9 Db Dc Dd De Df Dg Dh Di Dj Dk Dl Dm E0 E1 E2 E3 E4 E5 E6 E7 E8 E9 Ea Eb Ec Ed Ee Ef Eg Eh Ei Ej Ek El Em F0 F1 B4 B5 B6 B7 B8 B9 Ba Bb Bc Bd Be Bf Bg Bh Bi Bj Bk Bm a' w''∧Wmu l.length a' w''<Wmu l.length ⟨#[g0,g1,g2,g3,g4,g5,g6,g7,g8,.pointer (Y ⟨d,0,U⟩),.pointer (Y ⟨p,0,U⟩),C0,.string WD,C1,C2,C3,C4,C5,C6,C7,C8,C9,Ca,Cb,Cc,Cd,Ce,Cf,Cg,Ch,Ci,Cj,Ck,Cm,D0,D2,D3,D4,D5,D6,D7,D8,D9,Db,Dc,Dd,De,Df,Dg,Dh,Di,Dj,Dk,Dl,Dm,E0,E1,E2,E3,E4,E5,E6,E7,E8,E9,Ea,Eb,Ec,Ed,Ee,Ef,Eg,Eh,Ei,Ej,Ek,El,Em,F0,F1,.slice (Y ⟨bb,off1,U⟩) l.length cap,.int Z (l.length:Int),.int Z (j:Int),F3,F4,F5,F6,F7,F8,F9,Fa,Fb,Fc,Fd,Fe,Ff,Fg,Fh,Fi,Fj,A0,A1,A4,A5,A6,A7,A8,A9,Aa,Ab,Ac,Ad,Ae,Af,Ag,Ah,Ai,Aj,Ak,Al,Am,B0,B2,B3,B4,B5,B6,B7,B8,B9,Ba,Bb,Bc,Bd,Be,Bf,Bg,Bh,Bi,Bj,Bk,Bm],[]⟩ wr) Q0) ⟨#[g0,g1,g2,g3,g4,g5,g6,g7,g8,.pointer (Y ⟨d,0,U⟩),.pointer (Y ⟨p,0,U⟩),C0,.string WD,C1,C2,C3,C4,C5,C6,C7,C8,C9,Ca,Cb,Cc,Cd,Ce,Cf,Cg,Ch,Ci,Cj,Ck,Cm,D0,D2,D3,D4,D5,D6,D7,D8,D9,Db,Dc,Dd,De,Df,Dg,Dh,Di,Dj,Dk,Dl,Dm,E0,E1,E2,E3,E4,E5,E6,E7,E8,E9,Ea,Eb,Ec,Ed,Ee,Ef,Eg,Eh,Ei,Ej,Ek,El,Em,F0,F1,.slice (Y ⟨bb,off1,U⟩) l.length cap,.int Z (l.length:Int),.int Z (j:Int),F3,F4,F5,F6,F7,F8,F9,Fa,Fb,Fc,Fd,Fe,Ff,Fg,Fh,Fi,Fj,A0,A1,A4,A5,A6,A7,A8,A9,Aa,Ab,Ac,Ad,Ae,Af,Ag,Ah,Ai,Aj,Ak,Al,Am,B0,B2,B3,B4,B5,B6,B7,B8,B9,Ba,Bb,Bc,Bd,Be,Bf,Bg,Bh,Bi,Bj,Bk,Bm],[]⟩ wr:=by
 have ql:(j:Int)<(l.length:Int):=by omega
 obtain⟨hq,hs1,hs2,hst⟩:=hA
 have ST:=hide hst
 clear hst
 have HBV:Hid (Below wr.heap.size wr (wr.alloc (.cells #[.int Z cd,.int Z ci,.int Z cn,.int Z ct,.int Z oo.id,.int Z oo.item,.int Z oo.qty,.int Z oo.client,.int Z oo.price,.slice sa oo.steps.length sc,.int Z m0,.int Z m1,.int Z m2,.int Z m3,.int Z m4,.int Z m5,.int Z m6] 36))):=(zS _ _).alloc (zD _) _
 have HDV:=hide (HD2.out.on HBV.out)
 clear HD2
 have b3:(cd==3)=false:=by simpa using e3
 have b4:(cd==4)=false:=by simpa using e4
 have b5:(cd==5)=false:=by simpa using e5
 obtain⟨V,hV⟩:∃V,wr.alloc (.cells #[.int Z cd,.int Z ci,.int Z cn,.int Z ct,.int Z oo.id,.int Z oo.item,.int Z oo.qty,.int Z oo.client,.int Z oo.price,.slice sa oo.steps.length sc,.int Z m0,.int Z m1,.int Z m2,.int Z m3,.int Z m4,.int Z m5,.int Z m6] 36)=V:=⟨_,rfl⟩
 have hVs:V.heap.size=wr.heap.size+1:=by rw[←hV];simp
 obtain⟨X,hX⟩:∃X,V.alloc (.cells #[.int Z m0,.int Z m1,.int Z 0,.int Z 5,.int Z m4,.int Z m5,.int Z m6] 34)=X:=⟨_,rfl⟩
 have hx3:X.heap[wr.heap.size+1]?=Y (.cells #[.int Z m0,.int Z m1,.int Z 0,.int Z 5,.int Z m4,.int Z m5,.int Z m6] 34 (0,0)):=by
  rw[←hX,←hVs];exact World.alloc_heap_new V _
 have HBX:Hid (Below V.heap.size V X):=by
  show Below _ _ _
  rw[←hX];exact(zS _ _).alloc (zD _) _
 rw[hV]at HDV
 have HDX:=hide (HDV.out.on HBX.out)
 have y0:X.cell? ⟨wr.heap.size+1,0,U⟩=Y (.int Z m0):=by rw[cell_of hx3];rfl
 have y1:X.cell? ⟨wr.heap.size+1,1,U⟩=Y (.int Z m1):=by rw[cell_of hx3];rfl
 have y2:X.cell? ⟨wr.heap.size+1,2,U⟩=Y (.int Z 0):=by rw[cell_of hx3];rfl
 have y3:X.cell? ⟨wr.heap.size+1,3,U⟩=Y (.int Z 5):=by rw[cell_of hx3];rfl
 have y4:X.cell? ⟨wr.heap.size+1,4,U⟩=Y (.int Z m4):=by rw[cell_of hx3];rfl
 have y5:X.cell? ⟨wr.heap.size+1,5,U⟩=Y (.int Z m5):=by rw[cell_of hx3];rfl
 have y6:X.cell? ⟨wr.heap.size+1,6,U⟩=Y (.int Z m6):=by rw[cell_of hx3];rfl
 have HX:=hide hX
 have HV:=hide hV
 clear hV hVs hx3 hX HDV HBV
 conv=>arg 2;whnf
 go_upto_region 27 with fail
 rw[HV.out,HX.out]
 have b17:(m0 != 17)=true:=by simpa using e17
 have C:=HDX.out.hd HG.out (mm:=⟨m0,m1,0,5,m4,m5,m6⟩) e17 rfl
 go_wp2_with(first
  |(go_at_call 24;refine C.mono ?_;clear C y0 y1 y2 y3 y4 y5 y6;rintro e v5 ⟨⟨z5,rfl⟩,h1⟩;have S5:=ST.out _ h1;clear h1 ST)
  |(go_at_call 41;refine S5.mono ?_;clear S5;rintro e v7 ⟨rfl,h1⟩;have T5:=h1;clear h1)
  |(go_at_call 43;refine T5.mono ?_;clear T5;rintro e v8 ⟨rfl,h1⟩;have HZ:=hide h1;clear h1))
 refine⟨⟨j+1,_,_,_,_,_,_,_,_,_,_,_,_,_,_,_,_,_,_,_,_,_,_,_,_,_,_,_,_,_,_,_,_,_,_,_,_,_,_,_,_,_,_,_,_,by go_num,by omega,HZ,rfl⟩,?_⟩
 simp[Wmu,Go.RowKit.intOf]
 omega
set_option maxRecDepth 1000000 in
set_option maxHeartbeats 8000000 in
theorem dam_17{w:World}{l:List C22.Cl}{cap d p m:Nat}{y wh:Bool}{WD:ByteArray}{g0 g1 g2 g3 g4 g5 g6 g7 g8 C0 C1 C4 C5 C6 C7 C8 C9 Ca Cb Cc Cd Ce Cf Cg Ch Ci Cj Ck Cm D0 D2 D3 D4 D5 D6 D7 D8 D9 Db Dc Dd De Df Dg Dh Di Dj Dk Dl Dm E0 E1 E2 E3 E4 E5 E6 E7 E8 E9 Ea Eb Ec Ed Ee Ef Eg Eh Ei Ej Ek El Em F0 F1 B4 B5 B6 B7 B8 B9 Ba Bb Bc Bd Be Bf Bg Bh Bi Bj Bk Bm C2 C3 F3 F4 F5 F6 F7 F8 F9 Fa Fb Fc Fd Fe Ff Fg Fh Fi Fj A0 A1 A4 A5 A6 A7 A8 A9 Aa Ab Ac Ad Ae Af Ag Ah Ai Aj Ak Al Am B0 B2 B3:Value}{wr:World}{Q0:Exit→Act→World→Prop}{j bb off1 sc:Nat}{cd ci cn ct m0 m1 m2 m3 m4 m5 m6:Int}{oo:Od}{sa:Option Addr}{T:ByteArray}(_HG:Hid (Gl w))(hlen:l.length≤9223372036854775807)(hlt:j<l.length)(c0:wr.cell? ⟨bb,off1+j*17,U⟩=Y (.int Z cd))(c1:wr.cell? ⟨bb,off1+j*17+1,U⟩=Y (.int Z ci))(c2:wr.cell? ⟨bb,off1+j*17+2,U⟩=Y (.int Z cn))(c3:wr.cell? ⟨bb,off1+j*17+3,U⟩=Y (.int Z ct))(c4:wr.cell? ⟨bb,off1+j*17+4,U⟩=Y (.int Z oo.id))(c5:wr.cell? ⟨bb,off1+j*17+5,U⟩=Y (.int Z oo.item))(c6:wr.cell? ⟨bb,off1+j*17+6,U⟩=Y (.int Z oo.qty))(c7:wr.cell? ⟨bb,off1+j*17+7,U⟩=Y (.int Z oo.client))(c8:wr.cell? ⟨bb,off1+j*17+8,U⟩=Y (.int Z oo.price))(c9:wr.cell? ⟨bb,off1+j*17+9,U⟩=Y (.slice sa oo.steps.length sc))(c10:wr.cell? ⟨bb,off1+j*17+10,U⟩=Y (.int Z m0))(c11:wr.cell? ⟨bb,off1+j*17+11,U⟩=Y (.int Z m1))(c12:wr.cell? ⟨bb,off1+j*17+12,U⟩=Y (.int Z m2))(c13:wr.cell? ⟨bb,off1+j*17+13,U⟩=Y (.int Z m3))(c14:wr.cell? ⟨bb,off1+j*17+14,U⟩=Y (.int Z m4))(c15:wr.cell? ⟨bb,off1+j*17+15,U⟩=Y (.int Z m5))(c16:wr.cell? ⟨bb,off1+j*17+16,U⟩=Y (.int Z m6))
 (HD2:Hid (DS w wr d p m y wh (4+j))) (hA:AskP w d p m y wh WD (4+(j+1)) T) (e3:cd≠3) (e4:cd≠4) (e5:cd≠5) (e17:m0=17):
 Code.wp Tryz.prog (((Tryz.f6.body.bind (fun c=>(loopsOf c)[1]?)).getD .skip)) (Exit.then (fun a' w''=>WI w l (Y ⟨bb,off1,U⟩) cap d p m y wh WD g0 g1 g2 g3 g4 g5 g6 g7 g8 C0 C1 C4 C5 C6 C7 C8 C9 Ca Cb Cc Cd Ce Cf Cg Ch Ci Cj Ck Cm D0 D2 D3 D4 D5 D6 D7 D8 D9 Db Dc Dd De Df Dg Dh Di Dj Dk Dl Dm E0 E1 E2 E3 E4 E5 E6 E7 E8 E9 Ea Eb Ec Ed Ee Ef Eg Eh Ei Ej Ek El Em F0 F1 B4 B5 B6 B7 B8 B9 Ba Bb Bc Bd Be Bf Bg Bh Bi Bj Bk Bm a' w''∧Wmu l.length a' w''<Wmu l.length ⟨#[g0,g1,g2,g3,g4,g5,g6,g7,g8,.pointer (Y ⟨d,0,U⟩),.pointer (Y ⟨p,0,U⟩),C0,.string WD,C1,C2,C3,C4,C5,C6,C7,C8,C9,Ca,Cb,Cc,Cd,Ce,Cf,Cg,Ch,Ci,Cj,Ck,Cm,D0,D2,D3,D4,D5,D6,D7,D8,D9,Db,Dc,Dd,De,Df,Dg,Dh,Di,Dj,Dk,Dl,Dm,E0,E1,E2,E3,E4,E5,E6,E7,E8,E9,Ea,Eb,Ec,Ed,Ee,Ef,Eg,Eh,Ei,Ej,Ek,El,Em,F0,F1,.slice (Y ⟨bb,off1,U⟩) l.length cap,.int Z (l.length:Int),.int Z (j:Int),F3,F4,F5,F6,F7,F8,F9,Fa,Fb,Fc,Fd,Fe,Ff,Fg,Fh,Fi,Fj,A0,A1,A4,A5,A6,A7,A8,A9,Aa,Ab,Ac,Ad,Ae,Af,Ag,Ah,Ai,Aj,Ak,Al,Am,B0,B2,B3,B4,B5,B6,B7,B8,B9,Ba,Bb,Bc,Bd,Be,Bf,Bg,Bh,Bi,Bj,Bk,Bm],[]⟩ wr) Q0) ⟨#[g0,g1,g2,g3,g4,g5,g6,g7,g8,.pointer (Y ⟨d,0,U⟩),.pointer (Y ⟨p,0,U⟩),C0,.string WD,C1,C2,C3,C4,C5,C6,C7,C8,C9,Ca,Cb,Cc,Cd,Ce,Cf,Cg,Ch,Ci,Cj,Ck,Cm,D0,D2,D3,D4,D5,D6,D7,D8,D9,Db,Dc,Dd,De,Df,Dg,Dh,Di,Dj,Dk,Dl,Dm,E0,E1,E2,E3,E4,E5,E6,E7,E8,E9,Ea,Eb,Ec,Ed,Ee,Ef,Eg,Eh,Ei,Ej,Ek,El,Em,F0,F1,.slice (Y ⟨bb,off1,U⟩) l.length cap,.int Z (l.length:Int),.int Z (j:Int),F3,F4,F5,F6,F7,F8,F9,Fa,Fb,Fc,Fd,Fe,Ff,Fg,Fh,Fi,Fj,A0,A1,A4,A5,A6,A7,A8,A9,Aa,Ab,Ac,Ad,Ae,Af,Ag,Ah,Ai,Aj,Ak,Al,Am,B0,B2,B3,B4,B5,B6,B7,B8,B9,Ba,Bb,Bc,Bd,Be,Bf,Bg,Bh,Bi,Bj,Bk,Bm],[]⟩ wr:=by
 have ql:(j:Int)<(l.length:Int):=by omega
 obtain⟨hq,hs1,hs2,hst⟩:=hA
 have ST:=hide hst
 clear hst
 have HBV:Hid (Below wr.heap.size wr (wr.alloc (.cells #[.int Z cd,.int Z ci,.int Z cn,.int Z ct,.int Z oo.id,.int Z oo.item,.int Z oo.qty,.int Z oo.client,.int Z oo.price,.slice sa oo.steps.length sc,.int Z m0,.int Z m1,.int Z m2,.int Z m3,.int Z m4,.int Z m5,.int Z m6] 36))):=(zS _ _).alloc (zD _) _
 have HDV:=hide (HD2.out.on HBV.out)
 clear HD2
 subst e17
 have b3:(cd==3)=false:=by simpa using e3
 have b4:(cd==4)=false:=by simpa using e4
 have b5:(cd==5)=false:=by simpa using e5
 obtain⟨V,hV⟩:∃V,wr.alloc (.cells #[.int Z cd,.int Z ci,.int Z cn,.int Z ct,.int Z oo.id,.int Z oo.item,.int Z oo.qty,.int Z oo.client,.int Z oo.price,.slice sa oo.steps.length sc,.int Z 17,.int Z m1,.int Z m2,.int Z m3,.int Z m4,.int Z m5,.int Z m6] 36)=V:=⟨_,rfl⟩
 have hVs:V.heap.size=wr.heap.size+1:=by rw[←hV];simp
 obtain⟨X,hX⟩:∃X,V.alloc (.cells #[.int Z 17,.int Z m1,.int Z 0,.int Z 5,.int Z m4,.int Z m5,.int Z m6] 34)=X:=⟨_,rfl⟩
 have hx3:X.heap[wr.heap.size+1]?=Y (.cells #[.int Z 17,.int Z m1,.int Z 0,.int Z 5,.int Z m4,.int Z m5,.int Z m6] 34 (0,0)):=by
  rw[←hX,←hVs];exact World.alloc_heap_new V _
 have HBX:Hid (Below V.heap.size V X):=by
  show Below _ _ _
  rw[←hX];exact(zS _ _).alloc (zD _) _
 rw[hV]at HDV
 have HDX:=hide (HDV.out.on HBX.out)
 have y0:X.cell? ⟨wr.heap.size+1,0,U⟩=Y (.int Z 17):=by rw[cell_of hx3];rfl
 have y1:X.cell? ⟨wr.heap.size+1,1,U⟩=Y (.int Z m1):=by rw[cell_of hx3];rfl
 have y2:X.cell? ⟨wr.heap.size+1,2,U⟩=Y (.int Z 0):=by rw[cell_of hx3];rfl
 have y3:X.cell? ⟨wr.heap.size+1,3,U⟩=Y (.int Z 5):=by rw[cell_of hx3];rfl
 have y4:X.cell? ⟨wr.heap.size+1,4,U⟩=Y (.int Z m4):=by rw[cell_of hx3];rfl
 have y5:X.cell? ⟨wr.heap.size+1,5,U⟩=Y (.int Z m5):=by rw[cell_of hx3];rfl
 have y6:X.cell? ⟨wr.heap.size+1,6,U⟩=Y (.int Z m6):=by rw[cell_of hx3];rfl
 have HX:=hide hX
 have HV:=hide hV
 clear hV hVs hx3 hX HDV HBV
 conv=>arg 2;whnf
 go_upto_region 27 with fail
 rw[HV.out,HX.out]
 have S5:=ST.out _ (HDX.out.le (show 4+j≤4+(j+1) by omega))
 clear ST
 go_wp2_with(first
  |(go_at_call 41;refine S5.mono ?_;clear S5;rintro e v7 ⟨rfl,h1⟩;have T5:=h1;clear h1)
  |(go_at_call 43;refine T5.mono ?_;clear T5;rintro e v8 ⟨rfl,h1⟩;have HZ:=hide h1;clear h1))
 refine⟨⟨j+1,_,_,_,_,_,_,_,_,_,_,_,_,_,_,_,_,_,_,_,_,_,_,_,_,_,_,_,_,_,_,_,_,_,_,_,_,_,_,_,_,_,_,_,_,by go_num,by omega,HZ,rfl⟩,?_⟩
 simp[Wmu,Go.RowKit.intOf]
 omega
set_option maxRecDepth 1000000 in
set_option maxHeartbeats 8000000 in
theorem dam_exit{w:World}{l:List C22.Cl}{a1:Option Addr}{cap d p m:Nat}{y wh:Bool}{WD:ByteArray}{g0 g1 g2 g3 g4 g5 g6 g7 g8 C0 C1 C4 C5 C6 C7 C8 C9 Ca Cb Cc Cd Ce Cf Cg Ch Ci Cj Ck Cm D0 D2 D3 D4 D5 D6 D7 D8 D9 Db Dc Dd De Df Dg Dh Di Dj Dk Dl Dm E0 E1 E2 E3 E4 E5 E6 E7 E8 E9 Ea Eb Ec Ed Ee Ef Eg Eh Ei Ej Ek El Em F0 F1 B4 B5 B6 B7 B8 B9 Ba Bb Bc Bd Be Bf Bg Bh Bi Bj Bk Bm C2 C3 F3 F4 F5 F6 F7 F8 F9 Fa Fb Fc Fd Fe Ff Fg Fh Fi Fj A0 A1 A4 A5 A6 A7 A8 A9 Aa Ab Ac Ad Ae Af Ag Ah Ai Aj Ak Al Am B0 B2 B3:Value}{wr:World}{Q0:Exit→Act→World→Prop}{j:Nat}(hj:j≤l.length)(hlt:¬j<l.length)(HD2:Hid (DS w wr d p m y wh (4+j)))
 (hexit:∀a' w'',WI w l a1 cap d p m y wh WD g0 g1 g2 g3 g4 g5 g6 g7 g8 C0 C1 C4 C5 C6 C7 C8 C9 Ca Cb Cc Cd Ce Cf Cg Ch Ci Cj Ck Cm D0 D2 D3 D4 D5 D6 D7 D8 D9 Db Dc Dd De Df Dg Dh Di Dj Dk Dl Dm E0 E1 E2 E3 E4 E5 E6 E7 E8 E9 Ea Eb Ec Ed Ee Ef Eg Eh Ei Ej Ek El Em F0 F1 B4 B5 B6 B7 B8 B9 Ba Bb Bc Bd Be Bf Bg Bh Bi Bj Bk Bm a' w''→Q0 (.exit 2) a' w''):Code.wp Tryz.prog (((Tryz.f6.body.bind (fun c=>(loopsOf c)[1]?)).getD .skip)) (Exit.then (fun a' w''=>WI w l a1 cap d p m y wh WD g0 g1 g2 g3 g4 g5 g6 g7 g8 C0 C1 C4 C5 C6 C7 C8 C9 Ca Cb Cc Cd Ce Cf Cg Ch Ci Cj Ck Cm D0 D2 D3 D4 D5 D6 D7 D8 D9 Db Dc Dd De Df Dg Dh Di Dj Dk Dl Dm E0 E1 E2 E3 E4 E5 E6 E7 E8 E9 Ea Eb Ec Ed Ee Ef Eg Eh Ei Ej Ek El Em F0 F1 B4 B5 B6 B7 B8 B9 Ba Bb Bc Bd Be Bf Bg Bh Bi Bj Bk Bm a' w''∧Wmu l.length a' w''<Wmu l.length ⟨#[g0,g1,g2,g3,g4,g5,g6,g7,g8,.pointer (Y ⟨d,0,U⟩),.pointer (Y ⟨p,0,U⟩),C0,.string WD,C1,C2,C3,C4,C5,C6,C7,C8,C9,Ca,Cb,Cc,Cd,Ce,Cf,Cg,Ch,Ci,Cj,Ck,Cm,D0,D2,D3,D4,D5,D6,D7,D8,D9,Db,Dc,Dd,De,Df,Dg,Dh,Di,Dj,Dk,Dl,Dm,E0,E1,E2,E3,E4,E5,E6,E7,E8,E9,Ea,Eb,Ec,Ed,Ee,Ef,Eg,Eh,Ei,Ej,Ek,El,Em,F0,F1,.slice a1 l.length cap,.int Z (l.length:Int),.int Z (j:Int),F3,F4,F5,F6,F7,F8,F9,Fa,Fb,Fc,Fd,Fe,Ff,Fg,Fh,Fi,Fj,A0,A1,A4,A5,A6,A7,A8,A9,Aa,Ab,Ac,Ad,Ae,Af,Ag,Ah,Ai,Aj,Ak,Al,Am,B0,B2,B3,B4,B5,B6,B7,B8,B9,Ba,Bb,Bc,Bd,Be,Bf,Bg,Bh,Bi,Bj,Bk,Bm],[]⟩ wr) Q0) ⟨#[g0,g1,g2,g3,g4,g5,g6,g7,g8,.pointer (Y ⟨d,0,U⟩),.pointer (Y ⟨p,0,U⟩),C0,.string WD,C1,C2,C3,C4,C5,C6,C7,C8,C9,Ca,Cb,Cc,Cd,Ce,Cf,Cg,Ch,Ci,Cj,Ck,Cm,D0,D2,D3,D4,D5,D6,D7,D8,D9,Db,Dc,Dd,De,Df,Dg,Dh,Di,Dj,Dk,Dl,Dm,E0,E1,E2,E3,E4,E5,E6,E7,E8,E9,Ea,Eb,Ec,Ed,Ee,Ef,Eg,Eh,Ei,Ej,Ek,El,Em,F0,F1,.slice a1 l.length cap,.int Z (l.length:Int),.int Z (j:Int),F3,F4,F5,F6,F7,F8,F9,Fa,Fb,Fc,Fd,Fe,Ff,Fg,Fh,Fi,Fj,A0,A1,A4,A5,A6,A7,A8,A9,Aa,Ab,Ac,Ad,Ae,Af,Ag,Ah,Ai,Aj,Ak,Al,Am,B0,B2,B3,B4,B5,B6,B7,B8,B9,Ba,Bb,Bc,Bd,Be,Bf,Bg,Bh,Bi,Bj,Bk,Bm],[]⟩ wr:=by
 have ql:¬(j:Int)<(l.length:Int):=by omega
 have HJ:=hide hj
 have HE:=hide hexit
 clear hexit hj hlt
 conv=>arg 2;whnf
 go_wp2_with fail
 exact HE.out _ _ ⟨j,_,_,_,_,_,_,_,_,_,_,_,_,_,_,_,_,_,_,_,_,_,_,_,_,_,_,_,_,_,_,_,_,_,_,_,_,_,_,_,_,_,_,_,_,rfl,HJ.out,HD2,rfl⟩
set_option maxRecDepth 1000000 in
set_option maxHeartbeats 8000000 in
theorem dam_round{w:World}{l:List C22.Cl}{a1:Option Addr}{cap d p m:Nat}{y wh:Bool}{WD:ByteArray}{g0 g1 g2 g3 g4 g5 g6 g7 g8 C0 C1 C4 C5 C6 C7 C8 C9 Ca Cb Cc Cd Ce Cf Cg Ch Ci Cj Ck Cm D0 D2 D3 D4 D5 D6 D7 D8 D9 Db Dc Dd De Df Dg Dh Di Dj Dk Dl Dm E0 E1 E2 E3 E4 E5 E6 E7 E8 E9 Ea Eb Ec Ed Ee Ef Eg Eh Ei Ej Ek El Em F0 F1 B4 B5 B6 B7 B8 B9 Ba Bb Bc Bd Be Bf Bg Bh Bi Bj Bk Bm:Value}{T:ByteArray}{Q0:Exit→Act→World→Prop}(HG:Hid (Gl w))(hlen:l.length≤9223372036854775807)(HCL:Hid (C22.Cls w a1 l))(hA:∀n,AskP w d p m y wh WD n T)(hexit:∀a' w'',WI w l a1 cap d p m y wh WD g0 g1 g2 g3 g4 g5 g6 g7 g8 C0 C1 C4 C5 C6 C7 C8 C9 Ca Cb Cc Cd Ce Cf Cg Ch Ci Cj Ck Cm D0 D2 D3 D4 D5 D6 D7 D8 D9 Db Dc Dd De Df Dg Dh Di Dj Dk Dl Dm E0 E1 E2 E3 E4 E5 E6 E7 E8 E9 Ea Eb Ec Ed Ee Ef Eg Eh Ei Ej Ek El Em F0 F1 B4 B5 B6 B7 B8 B9 Ba Bb Bc Bd Be Bf Bg Bh Bi Bj Bk Bm a' w''→Q0 (.exit 2) a' w'')(a:Act)(wr:World)(hI:WI w l a1 cap d p m y wh WD g0 g1 g2 g3 g4 g5 g6 g7 g8 C0 C1 C4 C5 C6 C7 C8 C9 Ca Cb Cc Cd Ce Cf Cg Ch Ci Cj Ck Cm D0 D2 D3 D4 D5 D6 D7 D8 D9 Db Dc Dd De Df Dg Dh Di Dj Dk Dl Dm E0 E1 E2 E3 E4 E5 E6 E7 E8 E9 Ea Eb Ec Ed Ee Ef Eg Eh Ei Ej Ek El Em F0 F1 B4 B5 B6 B7 B8 B9 Ba Bb Bc Bd Be Bf Bg Bh Bi Bj Bk Bm a wr):
 Code.wp Tryz.prog (((Tryz.f6.body.bind (fun c=>(loopsOf c)[1]?)).getD .skip)) (Exit.then (fun a' w''=>WI w l a1 cap d p m y wh WD g0 g1 g2 g3 g4 g5 g6 g7 g8 C0 C1 C4 C5 C6 C7 C8 C9 Ca Cb Cc Cd Ce Cf Cg Ch Ci Cj Ck Cm D0 D2 D3 D4 D5 D6 D7 D8 D9 Db Dc Dd De Df Dg Dh Di Dj Dk Dl Dm E0 E1 E2 E3 E4 E5 E6 E7 E8 E9 Ea Eb Ec Ed Ee Ef Eg Eh Ei Ej Ek El Em F0 F1 B4 B5 B6 B7 B8 B9 Ba Bb Bc Bd Be Bf Bg Bh Bi Bj Bk Bm a' w''∧Wmu l.length a' w''<Wmu l.length a wr) Q0) a wr:=by
 unfold WI at hI
 obtain⟨j,hI⟩:=hI
 obtain⟨F2,hI⟩:=hI
 obtain⟨C2,hI⟩:=hI
 obtain⟨C3,hI⟩:=hI
 obtain⟨F3,hI⟩:=hI
 obtain⟨F4,hI⟩:=hI
 obtain⟨F5,hI⟩:=hI
 obtain⟨F6,hI⟩:=hI
 obtain⟨F7,hI⟩:=hI
 obtain⟨F8,hI⟩:=hI
 obtain⟨F9,hI⟩:=hI
 obtain⟨Fa,hI⟩:=hI
 obtain⟨Fb,hI⟩:=hI
 obtain⟨Fc,hI⟩:=hI
 obtain⟨Fd,hI⟩:=hI
 obtain⟨Fe,hI⟩:=hI
 obtain⟨Ff,hI⟩:=hI
 obtain⟨Fg,hI⟩:=hI
 obtain⟨Fh,hI⟩:=hI
 obtain⟨Fi,hI⟩:=hI
 obtain⟨Fj,hI⟩:=hI
 obtain⟨A0,hI⟩:=hI
 obtain⟨A1,hI⟩:=hI
 obtain⟨A4,hI⟩:=hI
 obtain⟨A5,hI⟩:=hI
 obtain⟨A6,hI⟩:=hI
 obtain⟨A7,hI⟩:=hI
 obtain⟨A8,hI⟩:=hI
 obtain⟨A9,hI⟩:=hI
 obtain⟨Aa,hI⟩:=hI
 obtain⟨Ab,hI⟩:=hI
 obtain⟨Ac,hI⟩:=hI
 obtain⟨Ad,hI⟩:=hI
 obtain⟨Ae,hI⟩:=hI
 obtain⟨Af,hI⟩:=hI
 obtain⟨Ag,hI⟩:=hI
 obtain⟨Ah,hI⟩:=hI
 obtain⟨Ai,hI⟩:=hI
 obtain⟨Aj,hI⟩:=hI
 obtain⟨Ak,hI⟩:=hI
 obtain⟨Al,hI⟩:=hI
 obtain⟨Am,hI⟩:=hI
 obtain⟨B0,hI⟩:=hI
 obtain⟨B2,hI⟩:=hI
 obtain⟨B3,hI⟩:=hI
 obtain⟨rfl,hj,HD2,rfl⟩:=hI
 by_cases hlt:j<l.length
 rotate_left
 ·exact dam_exit hj hlt HD2 hexit
 obtain⟨⟨cd,ci,cn,ct,oo,sa,sc,⟨m0,m1,m2,m3,m4,m5,m6⟩⟩,hc⟩:∃c,l[j]?=Y c:=⟨l[j],by simp[hlt]⟩
 rcases HCL.out.below HD2.out.bel with hh|⟨bb,off1,rfl,hca⟩
 ·subst hh;simp at hlt
 have hx:=hca j _ hc
 dsimp only at hx
 obtain⟨⟨c0,c1,c2,c3,c4,c5,c6,c7,c8,c9,c10,c11,c12,c13,c14,c15,c16⟩,-⟩:=hx
 by_cases e3:cd=3
 ·exact dam_3 HG hlen hlt c0 c1 c2 c3 c4 c5 c6 c7 c8 c9 c10 c11 c12 c13 c14 c15 c16 HD2 (hA _) e3
 by_cases e4:cd=4
 ·exact dam_4 HG hlen hlt c0 c1 c2 c3 c4 c5 c6 c7 c8 c9 c10 c11 c12 c13 c14 c15 c16 HD2 (hA _) e4
 by_cases e5:cd=5
 ·exact dam_5 HG hlen hlt c0 c1 c2 c3 c4 c5 c6 c7 c8 c9 c10 c11 c12 c13 c14 c15 c16 HD2 (hA _) e5
 by_cases e17:m0=17
 ·exact dam_17 HG hlen hlt c0 c1 c2 c3 c4 c5 c6 c7 c8 c9 c10 c11 c12 c13 c14 c15 c16 HD2 (hA _) e3 e4 e5 e17
 ·exact dam_n HG hlen hlt c0 c1 c2 c3 c4 c5 c6 c7 c8 c9 c10 c11 c12 c13 c14 c15 c16 HD2 (hA _) e3 e4 e5 e17
set_option maxRecDepth 1000000 in
set_option maxHeartbeats 8000000 in
theorem dam_loop{w:World}{l:List C22.Cl}{a1:Option Addr}{cap d p m:Nat}{y wh:Bool}{WD:ByteArray}{g0 g1 g2 g3 g4 g5 g6 g7 g8 C0 C1 C4 C5 C6 C7 C8 C9 Ca Cb Cc Cd Ce Cf Cg Ch Ci Cj Ck Cm D0 D2 D3 D4 D5 D6 D7 D8 D9 Db Dc Dd De Df Dg Dh Di Dj Dk Dl Dm E0 E1 E2 E3 E4 E5 E6 E7 E8 E9 Ea Eb Ec Ed Ee Ef Eg Eh Ei Ej Ek El Em F0 F1 B4 B5 B6 B7 B8 B9 Ba Bb Bc Bd Be Bf Bg Bh Bi Bj Bk Bm F2 C2 C3 F3 F4 F5 F6 F7 F8 F9 Fa Fb Fc Fd Fe Ff Fg Fh Fi Fj A0 A1 A4 A5 A6 A7 A8 A9 Aa Ab Ac Ad Ae Af Ag Ah Ai Aj Ak Al Am B0 B2 B3:Value}{T:ByteArray}{Q0:Exit→Act→World→Prop}{wr:World}(HG:Hid (Gl w))(hlen:l.length≤9223372036854775807)(HCL:Hid (C22.Cls w a1 l))(hA:∀n,AskP w d p m y wh WD n T)(h82:F2= .int Z ((0:Nat):Int))(HD2:Hid (DS w wr d p m y wh (4+0)))(hexit:∀a' w'',WI w l a1 cap d p m y wh WD g0 g1 g2 g3 g4 g5 g6 g7 g8 C0 C1 C4 C5 C6 C7 C8 C9 Ca Cb Cc Cd Ce Cf Cg Ch Ci Cj Ck Cm D0 D2 D3 D4 D5 D6 D7 D8 D9 Db Dc Dd De Df Dg Dh Di Dj Dk Dl Dm E0 E1 E2 E3 E4 E5 E6 E7 E8 E9 Ea Eb Ec Ed Ee Ef Eg Eh Ei Ej Ek El Em F0 F1 B4 B5 B6 B7 B8 B9 Ba Bb Bc Bd Be Bf Bg Bh Bi Bj Bk Bm a' w''→Q0 (.exit 2) a' w''):
 Code.wp Tryz.prog (Code.loop (((Tryz.f6.body.bind (fun c=>(loopsOf c)[1]?)).getD .skip))) Q0 ⟨#[g0,g1,g2,g3,g4,g5,g6,g7,g8,.pointer (Y ⟨d,0,U⟩),.pointer (Y ⟨p,0,U⟩),C0,.string WD,C1,C2,C3,C4,C5,C6,C7,C8,C9,Ca,Cb,Cc,Cd,Ce,Cf,Cg,Ch,Ci,Cj,Ck,Cm,D0,D2,D3,D4,D5,D6,D7,D8,D9,Db,Dc,Dd,De,Df,Dg,Dh,Di,Dj,Dk,Dl,Dm,E0,E1,E2,E3,E4,E5,E6,E7,E8,E9,Ea,Eb,Ec,Ed,Ee,Ef,Eg,Eh,Ei,Ej,Ek,El,Em,F0,F1,.slice a1 l.length cap,.int Z (l.length:Int),F2,F3,F4,F5,F6,F7,F8,F9,Fa,Fb,Fc,Fd,Fe,Ff,Fg,Fh,Fi,Fj,A0,A1,A4,A5,A6,A7,A8,A9,Aa,Ab,Ac,Ad,Ae,Af,Ag,Ah,Ai,Aj,Ak,Al,Am,B0,B2,B3,B4,B5,B6,B7,B8,B9,Ba,Bb,Bc,Bd,Be,Bf,Bg,Bh,Bi,Bj,Bk,Bm],[]⟩ wr:=
 wp_loop (WI w l a1 cap d p m y wh WD g0 g1 g2 g3 g4 g5 g6 g7 g8 C0 C1 C4 C5 C6 C7 C8 C9 Ca Cb Cc Cd Ce Cf Cg Ch Ci Cj Ck Cm D0 D2 D3 D4 D5 D6 D7 D8 D9 Db Dc Dd De Df Dg Dh Di Dj Dk Dl Dm E0 E1 E2 E3 E4 E5 E6 E7 E8 E9 Ea Eb Ec Ed Ee Ef Eg Eh Ei Ej Ek El Em F0 F1 B4 B5 B6 B7 B8 B9 Ba Bb Bc Bd Be Bf Bg Bh Bi Bj Bk Bm) (Wmu l.length) ⟨0,F2,C2,C3,F3,F4,F5,F6,F7,F8,F9,Fa,Fb,Fc,Fd,Fe,Ff,Fg,Fh,Fi,Fj,A0,A1,A4,A5,A6,A7,A8,A9,Aa,Ab,Ac,Ad,Ae,Af,Ag,Ah,Ai,Aj,Ak,Al,Am,B0,B2,B3,h82,Nat.zero_le _,HD2,rfl⟩ (fun a w'' hI=>dam_round HG hlen HCL hA hexit a w'' hI)
theorem dam_ask{w:World}{d p m:Nat}{y wh:Bool}(hg:Gl w)(WL:List UInt8)(hW:dmT wh= [53,58,32,100,97,109,97,103,101,100]++WL)(hs:WL.length≤10)(n:Nat):AskP w d p m y wh (txB WL) n (txB (dmT wh)):=by
 refine⟨?_,?_,?_,fun u h=>h.status.mono (fun _ _ ⟨e1,e2⟩=>⟨e1,e2.tell hg⟩)⟩
 ·rw[show((⟨#[53,58,32,100,97,109,97,103,101,100]⟩:ByteArray)++txB WL)=txB (dmT wh)from by rw[hW];exact txB_app [53,58,32,100,97,109,97,103,101,100] WL];simp
 ·rw[txB_len,hW];simp;omega
 ·rw[txB_len];exact hs
set_option maxRecDepth 100000 in
set_option maxHeartbeats 8000000 in
theorem deskDamage_walk(a:Int)(yes:Bool)(l:List C22.Cl)(a1:Option Addr)(cap:Nat)(w:World)(_h0:(Lit.int Z a).wf =true)(w1:C22.ClsIn w l a1)(hg:Gl w):
 Calls Tryz.prog 6 #[.int Z a,.bool yes,.slice a1 l.length cap] w fun e w'=>e=S (.bool true)∧Below w.heap.size w w':=by
 obtain⟨ba1,ba2⟩:=um_bd a 2 (by omega) (by omega)
 obtain⟨A,hA⟩:∃A,um a 2=A:=⟨_,rfl⟩
 rw[hA]at ba1 ba2
 unfold um at hA
 obtain⟨hlen,hcl⟩:=w1
 have HCL:=hide hcl
 have AW:Hid (∀u,Below w.heap.size w u→Calls Tryz.prog 35 #[] u fun e w'=>e=S (.bool true)∧Below w.heap.size w w'):=fun u hu=>(dwake_any u (hg.on hu)).mono (fun _ _ ⟨e1,e2⟩=>⟨e1,bel_on' hu e2⟩)
 have H0:Hid (Below w.heap.size w w):=zS _ _
 have HG:=hide hg
 have hA01:A=0∨A=1:=by omega
 clear hcl _h0 hg
 go_enter Tryz.func6,Tryz.ntmps6
 go_wp2_with fail
 go_loopw [20] (fun i wr=>∃j:Nat,i= .int Z j∧j≤l.length∧j≤60∧Hid (Below w.heap.size w wr)) (fun i _=>l.length-(Go.RowKit.intOf i).toNat)
 case atStart=>exact⟨0,rfl,Nat.zero_le _,by omega,H0⟩
 case round=>
  obtain⟨j,rfl,hj,hj6,HB⟩:=hrel;clear H0;by_cases hlt:j<l.length
  ·have ql:(j:Int)<(l.length:Int):=by omega
   obtain⟨⟨cd,ci,cn,ct,oo,sa,sc,⟨m0,m1,m2,m3,m4,m5,m6⟩⟩,hc⟩:∃c,l[j]?=Y c:=⟨l[j],by simp[hlt]⟩
   rcases HCL.out.below HB.out with hh|⟨bb,off1,rfl,hca⟩
   ·subst hh;simp at hlt
   have hx:=hca j _ hc
   dsimp only at hx;obtain⟨⟨c0,c1,c2,c3,c4,c5,c6,c7,c8,c9,c10,c11,c12,c13,c14,c15,c16⟩,-⟩:=hx;have HBV:Hid (Below w.heap.size w (wr.alloc (.cells #[.int Z cd,.int Z ci,.int Z cn,.int Z ct,.int Z oo.id,.int Z oo.item,.int Z oo.qty,.int Z oo.client,.int Z oo.price,.slice sa oo.steps.length sc,.int Z m0,.int Z m1,.int Z m2,.int Z m3,.int Z m4,.int Z m5,.int Z m6] 36))):=bel_on' HB.out ((zS _ _).alloc (zD _) _)
   clear hca hc HB;by_cases h60:j<60
   rotate_left
   ·have q1:(j:Int)≥60:=by omega
    go_wp2_with(go_at_call 35;refine(AW.out _ HBV.out).mono ?_;rintro e v1 ⟨rfl,h1⟩;have HX:=hide h1;clear h1)
    go_ret
    exact⟨rfl,HX.out⟩
   have q1:¬(j:Int)≥60:=by omega
   by_cases h10:oo.steps.length≤10
   rotate_left
   ·have q2:(oo.steps.length:Int)>10:=by omega
    go_wp2_with(go_at_call 35;refine(AW.out _ HBV.out).mono ?_;rintro e v1 ⟨rfl,h1⟩;have HX:=hide h1;clear h1)
    go_ret
    exact⟨rfl,HX.out⟩
   have q2:¬(oo.steps.length:Int)>10:=by omega
   go_wp2_with fail
   go_roundw
   case rel=>exact⟨j+1,by go_num,by omega,by omega,HBV⟩
   case measure=>simp[Go.RowKit.intOf];omega
  have ql:¬(j:Int)<(l.length:Int):=by omega
  have hl60:l.length≤60:=by omega
  clear hlt;rcases hA01 with rfl|rfl
  ·cases yes
   ·as_aux_lemma=>
    have N:=Da.new (w0:=w) HB.out 3 4096 3
    have SB:Hid (∀u d p m O,Da w O u d p m 0 (newCh 3 4096 3) (fun _=>false)→Calls Tryz.prog 39 #[.pointer (Y ⟨d,0,U⟩),.agg #[.int Z 5,.int Z 0,.int Z 1,.int Z 0,.int Z 1,.slice U 0 0]] u fun e u'=>(∃z,e=S z)∧Calls Tryz.prog 38 #[.pointer (Y ⟨d,0,U⟩)] u' (fun e u2=>e=S (.pointer (Y ⟨p,0,U⟩))∧u'=u2)∧Da1 w u' d p m (begS (newCh 3 4096 3) (ltO 5))):=fun u d p m O h=>Da1.sub HG.out h
    have Y1:Hid (∀u d p m,Da1 w u d p m (begS (newCh 3 4096 3) (ltO 5))→Calls Tryz.prog 13 #[.pointer (Y ⟨p,0,U⟩),.int Z 5] u fun e u'=>(∃z,e=S z)∧Da1 w u' d p m (dmB false)):=fun u d p m h=>h.can HG.out rfl
    have DM:Hid (∀u d p m,Da1 w u d p m (dmB false)→Calls Tryz.prog 24 #[.pointer (Y ⟨p,0,U⟩),.agg #[.int Z 17,.int Z 1,.int Z 0,.int Z 5,.int Z 0,.int Z 0,.int Z 0]] u fun e u'=>∃b off k c,e=S (.slice (Y ⟨b,off,U⟩) k c)∧(0:Int)<((k:Nat):Int)∧u'.cell? ⟨b,off,U⟩=Y (.int Z 18)∧u'.cell? ⟨b,off+2,U⟩=Y (.int Z 1)∧DS w u' d p m false false 4):=fun u d p m h=>Da1.dmg (wh:=false) HG.out h
    generalize newCh 3 4096 3=v0 at *;generalize begS v0 (ltO 5)=x1 at *;generalize dmB false=x3 at *
    go_wp2_with(first
     |(go_at_call 36;refine N.mono ?_;clear N;rintro e u1 ⟨d,p,m,O,rfl,h1,-,-,-⟩;have B1:=SB.out _ _ _ _ _ h1;clear h1 SB HB)
     |(go_at_call 39;refine B1.mono ?_;clear B1;rintro e u2 ⟨⟨z,rfl⟩,hc,h1⟩;have CH:=hc;have Z1:=Y1.out _ _ _ _ h1;clear h1 hc Y1)
     |(go_at_call 38;refine CH.mono ?_;clear CH;rintro e u3 ⟨rfl,rfl⟩)
     |(go_at_call 13;refine Z1.mono ?_;clear Z1;rintro e u5 ⟨⟨z5,rfl⟩,h1⟩;have D1:=DM.out _ _ _ _ h1;clear h1 DM)
     |(go_at_call 24;refine D1.mono ?_;clear D1;rintro e u6 ⟨b6,off6,k6,c6,rfl,hk6,y0,y2,h1⟩;have HD:=hide h1;have q6:(((k6:Nat):Int)==0)=false:=(by simp;omega);clear h1))
    clear y0 y2;have hA:∀n,AskP w d p m false false (txB [32,115,116,111,99,107]) n (txB (dmT false)):=fun n=>dam_ask HG.out [32,115,116,111,99,107] rfl (by decide) n
    refine dam_loop (WD:=txB [32,115,116,111,99,107]) (T:=txB (dmT false)) (y:=false) (wh:=false) HG hlen HCL hA rfl HD ?_;clear HD hA;intro a' w'' hI;unfold WI at hI;obtain⟨j,hI⟩:=hI;obtain⟨F2,hI⟩:=hI;obtain⟨C2,hI⟩:=hI;obtain⟨C3,hI⟩:=hI;obtain⟨F3,hI⟩:=hI;obtain⟨F4,hI⟩:=hI;obtain⟨F5,hI⟩:=hI;obtain⟨F6,hI⟩:=hI;obtain⟨F7,hI⟩:=hI;obtain⟨F8,hI⟩:=hI;obtain⟨F9,hI⟩:=hI;obtain⟨Fa,hI⟩:=hI;obtain⟨Fb,hI⟩:=hI;obtain⟨Fc,hI⟩:=hI;obtain⟨Fd,hI⟩:=hI;obtain⟨Fe,hI⟩:=hI;obtain⟨Ff,hI⟩:=hI;obtain⟨Fg,hI⟩:=hI;obtain⟨Fh,hI⟩:=hI;obtain⟨Fi,hI⟩:=hI;obtain⟨Fj,hI⟩:=hI;obtain⟨A0,hI⟩:=hI;obtain⟨A1,hI⟩:=hI;obtain⟨A4,hI⟩:=hI;obtain⟨A5,hI⟩:=hI;obtain⟨A6,hI⟩:=hI;obtain⟨A7,hI⟩:=hI;obtain⟨A8,hI⟩:=hI;obtain⟨A9,hI⟩:=hI;obtain⟨Aa,hI⟩:=hI;obtain⟨Ab,hI⟩:=hI;obtain⟨Ac,hI⟩:=hI;obtain⟨Ad,hI⟩:=hI;obtain⟨Ae,hI⟩:=hI;obtain⟨Af,hI⟩:=hI;obtain⟨Ag,hI⟩:=hI;obtain⟨Ah,hI⟩:=hI;obtain⟨Ai,hI⟩:=hI;obtain⟨Aj,hI⟩:=hI;obtain⟨Ak,hI⟩:=hI;obtain⟨Al,hI⟩:=hI;obtain⟨Am,hI⟩:=hI;obtain⟨B0,hI⟩:=hI;obtain⟨B2,hI⟩:=hI;obtain⟨B3,hI⟩:=hI;obtain⟨rfl,hj,HD2,rfl⟩:=hI;have AC:=HD2.out.acc HG.out (by omega)
    go_wp2_with(first
     |(go_at_call 15;refine AC.mono ?_;clear AC;rintro e v1 ⟨rfl,h1⟩;have A2:=h1;clear h1)
     |(go_at_call 15;refine A2.mono ?_;clear A2;rintro e v2 ⟨rfl,h1⟩;have S2:=h1;clear h1)
     |(go_at_call 41;refine S2.mono ?_;clear S2;rintro e v3 ⟨⟨s,rfl,hs7⟩,h1⟩;have A3:=AW.out _ h1;clear h1)
     |(go_at_call 35;refine A3.mono ?_;clear A3;rintro e v4 ⟨rfl,h1⟩;have HX:=hide h1;clear h1))
    go_ret
    exact⟨rfl,HX.out⟩
   ·as_aux_lemma=>
    have N:=Da.new (w0:=w) HB.out 3 4096 3
    have SB:Hid (∀u d p m O,Da w O u d p m 0 (newCh 3 4096 3) (fun _=>false)→Calls Tryz.prog 39 #[.pointer (Y ⟨d,0,U⟩),.agg #[.int Z 5,.int Z 0,.int Z 1,.int Z 0,.int Z 1,.slice U 0 0]] u fun e u'=>(∃z,e=S z)∧Calls Tryz.prog 38 #[.pointer (Y ⟨d,0,U⟩)] u' (fun e u2=>e=S (.pointer (Y ⟨p,0,U⟩))∧u'=u2)∧Da1 w u' d p m (begS (newCh 3 4096 3) (ltO 5))):=fun u d p m O h=>Da1.sub HG.out h
    have Y1:Hid (∀u d p m,Da1 w u d p m (begS (newCh 3 4096 3) (ltO 5))→Calls Tryz.prog 24 #[.pointer (Y ⟨p,0,U⟩),.agg #[.int Z 7,.int Z 1,.int Z 0,.int Z 5,.int Z 0,.int Z 0,.int Z 0]] u fun e u'=>(∃z,e=S z)∧Da1 w u' d p m (hdSA (begS (newCh 3 4096 3) (ltO 5)) ⟨7,1,0,5,0,0,0⟩).1):=fun u d p m h=>h.hd HG.out 7 1 rfl
    have Y2:Hid (∀u d p m,Da1 w u d p m (hdSA (begS (newCh 3 4096 3) (ltO 5)) ⟨7,1,0,5,0,0,0⟩).1 →Calls Tryz.prog 24 #[.pointer (Y ⟨p,0,U⟩),.agg #[.int Z 7,.int Z 2,.int Z 0,.int Z 5,.int Z 0,.int Z 0,.int Z 0]] u fun e u'=>(∃z,e=S z)∧Da1 w u' d p m (dmB true)):=fun u d p m h=>h.hd HG.out 7 2 rfl
    have DM:Hid (∀u d p m,Da1 w u d p m (dmB true)→Calls Tryz.prog 24 #[.pointer (Y ⟨p,0,U⟩),.agg #[.int Z 17,.int Z 1,.int Z 0,.int Z 5,.int Z 0,.int Z 0,.int Z 0]] u fun e u'=>∃b off k c,e=S (.slice (Y ⟨b,off,U⟩) k c)∧(0:Int)<((k:Nat):Int)∧u'.cell? ⟨b,off,U⟩=Y (.int Z 18)∧u'.cell? ⟨b,off+2,U⟩=Y (.int Z 1)∧DS w u' d p m true false 4):=fun u d p m h=>Da1.dmg (wh:=false) HG.out h
    generalize newCh 3 4096 3=v0 at *;generalize begS v0 (ltO 5)=x1 at *;generalize (hdSA x1 ⟨7,1,0,5,0,0,0⟩).1 =x2 at *;generalize dmB true=x3 at *
    go_wp2_with(first
     |(go_at_call 36;refine N.mono ?_;clear N;rintro e u1 ⟨d,p,m,O,rfl,h1,-,-,-⟩;have B1:=SB.out _ _ _ _ _ h1;clear h1 SB HB)
     |(go_at_call 39;refine B1.mono ?_;clear B1;rintro e u2 ⟨⟨z,rfl⟩,hc,h1⟩;have CH:=hc;have Z1:=Y1.out _ _ _ _ h1;clear h1 hc Y1)
     |(go_at_call 38;refine CH.mono ?_;clear CH;rintro e u3 ⟨rfl,rfl⟩)
     |(go_at_call 24;refine Z1.mono ?_;clear Z1;rintro e u4 ⟨⟨z4,rfl⟩,h1⟩;have Z2:=Y2.out _ _ _ _ h1;clear h1 Y2)
     |(go_at_call 24;refine Z2.mono ?_;clear Z2;rintro e u5 ⟨⟨z5,rfl⟩,h1⟩;have D1:=DM.out _ _ _ _ h1;clear h1 DM)
     |(go_at_call 24;refine D1.mono ?_;clear D1;rintro e u6 ⟨b6,off6,k6,c6,rfl,hk6,y0,y2,h1⟩;have HD:=hide h1;have q6:(((k6:Nat):Int)==0)=false:=(by simp;omega);clear h1))
    clear y0 y2;have hA:∀n,AskP w d p m true false (txB [32,115,116,111,99,107]) n (txB (dmT false)):=fun n=>dam_ask HG.out [32,115,116,111,99,107] rfl (by decide) n
    refine dam_loop (WD:=txB [32,115,116,111,99,107]) (T:=txB (dmT false)) (y:=true) (wh:=false) HG hlen HCL hA rfl HD ?_;clear HD hA;intro a' w'' hI;unfold WI at hI;obtain⟨j,hI⟩:=hI;obtain⟨F2,hI⟩:=hI;obtain⟨C2,hI⟩:=hI;obtain⟨C3,hI⟩:=hI;obtain⟨F3,hI⟩:=hI;obtain⟨F4,hI⟩:=hI;obtain⟨F5,hI⟩:=hI;obtain⟨F6,hI⟩:=hI;obtain⟨F7,hI⟩:=hI;obtain⟨F8,hI⟩:=hI;obtain⟨F9,hI⟩:=hI;obtain⟨Fa,hI⟩:=hI;obtain⟨Fb,hI⟩:=hI;obtain⟨Fc,hI⟩:=hI;obtain⟨Fd,hI⟩:=hI;obtain⟨Fe,hI⟩:=hI;obtain⟨Ff,hI⟩:=hI;obtain⟨Fg,hI⟩:=hI;obtain⟨Fh,hI⟩:=hI;obtain⟨Fi,hI⟩:=hI;obtain⟨Fj,hI⟩:=hI;obtain⟨A0,hI⟩:=hI;obtain⟨A1,hI⟩:=hI;obtain⟨A4,hI⟩:=hI;obtain⟨A5,hI⟩:=hI;obtain⟨A6,hI⟩:=hI;obtain⟨A7,hI⟩:=hI;obtain⟨A8,hI⟩:=hI;obtain⟨A9,hI⟩:=hI;obtain⟨Aa,hI⟩:=hI;obtain⟨Ab,hI⟩:=hI;obtain⟨Ac,hI⟩:=hI;obtain⟨Ad,hI⟩:=hI;obtain⟨Ae,hI⟩:=hI;obtain⟨Af,hI⟩:=hI;obtain⟨Ag,hI⟩:=hI;obtain⟨Ah,hI⟩:=hI;obtain⟨Ai,hI⟩:=hI;obtain⟨Aj,hI⟩:=hI;obtain⟨Ak,hI⟩:=hI;obtain⟨Al,hI⟩:=hI;obtain⟨Am,hI⟩:=hI;obtain⟨B0,hI⟩:=hI;obtain⟨B2,hI⟩:=hI;obtain⟨B3,hI⟩:=hI;obtain⟨rfl,hj,HD2,rfl⟩:=hI;have AC:=HD2.out.acc HG.out (by omega)
    go_wp2_with(first
     |(go_at_call 15;refine AC.mono ?_;clear AC;rintro e v1 ⟨rfl,h1⟩;have A2:=h1;clear h1)
     |(go_at_call 15;refine A2.mono ?_;clear A2;rintro e v2 ⟨rfl,h1⟩;have S2:=h1;clear h1)
     |(go_at_call 41;refine S2.mono ?_;clear S2;rintro e v3 ⟨⟨s,rfl,hs7⟩,h1⟩;have A3:=AW.out _ h1;clear h1)
     |(go_at_call 35;refine A3.mono ?_;clear A3;rintro e v4 ⟨rfl,h1⟩;have HX:=hide h1;clear h1))
    go_ret
    exact⟨rfl,HX.out⟩
  ·cases yes
   ·as_aux_lemma=>
    have N:=Da.new (w0:=w) HB.out 3 4096 3
    have SB:Hid (∀u d p m O,Da w O u d p m 0 (newCh 3 4096 3) (fun _=>false)→Calls Tryz.prog 39 #[.pointer (Y ⟨d,0,U⟩),.agg #[.int Z 5,.int Z 0,.int Z 1,.int Z 0,.int Z 1,.slice U 0 0]] u fun e u'=>(∃z,e=S z)∧Calls Tryz.prog 38 #[.pointer (Y ⟨d,0,U⟩)] u' (fun e u2=>e=S (.pointer (Y ⟨p,0,U⟩))∧u'=u2)∧Da1 w u' d p m (begS (newCh 3 4096 3) (ltO 5))):=fun u d p m O h=>Da1.sub HG.out h
    have Y1:Hid (∀u d p m,Da1 w u d p m (begS (newCh 3 4096 3) (ltO 5))→Calls Tryz.prog 13 #[.pointer (Y ⟨p,0,U⟩),.int Z 5] u fun e u'=>(∃z,e=S z)∧Da1 w u' d p m (dmB false)):=fun u d p m h=>h.can HG.out rfl
    have DM:Hid (∀u d p m,Da1 w u d p m (dmB false)→Calls Tryz.prog 24 #[.pointer (Y ⟨p,0,U⟩),.agg #[.int Z 17,.int Z 2,.int Z 0,.int Z 5,.int Z 0,.int Z 0,.int Z 0]] u fun e u'=>∃b off k c,e=S (.slice (Y ⟨b,off,U⟩) k c)∧(0:Int)<((k:Nat):Int)∧u'.cell? ⟨b,off,U⟩=Y (.int Z 18)∧u'.cell? ⟨b,off+2,U⟩=Y (.int Z 2)∧DS w u' d p m false true 4):=fun u d p m h=>Da1.dmg (wh:=true) HG.out h
    generalize newCh 3 4096 3=v0 at *;generalize begS v0 (ltO 5)=x1 at *;generalize dmB false=x3 at *
    go_wp2_with(first
     |(go_at_call 36;refine N.mono ?_;clear N;rintro e u1 ⟨d,p,m,O,rfl,h1,-,-,-⟩;have B1:=SB.out _ _ _ _ _ h1;clear h1 SB HB)
     |(go_at_call 39;refine B1.mono ?_;clear B1;rintro e u2 ⟨⟨z,rfl⟩,hc,h1⟩;have CH:=hc;have Z1:=Y1.out _ _ _ _ h1;clear h1 hc Y1)
     |(go_at_call 38;refine CH.mono ?_;clear CH;rintro e u3 ⟨rfl,rfl⟩)
     |(go_at_call 13;refine Z1.mono ?_;clear Z1;rintro e u5 ⟨⟨z5,rfl⟩,h1⟩;have D1:=DM.out _ _ _ _ h1;clear h1 DM)
     |(go_at_call 24;refine D1.mono ?_;clear D1;rintro e u6 ⟨b6,off6,k6,c6,rfl,hk6,y0,y2,h1⟩;have HD:=hide h1;have q6:(((k6:Nat):Int)==0)=false:=(by simp;omega);clear h1))
    clear y0 y2;have hA:∀n,AskP w d p m false true (txB [32,112,117,114,115,101]) n (txB (dmT true)):=fun n=>dam_ask HG.out [32,112,117,114,115,101] rfl (by decide) n
    refine dam_loop (WD:=txB [32,112,117,114,115,101]) (T:=txB (dmT true)) (y:=false) (wh:=true) HG hlen HCL hA rfl HD ?_;clear HD hA;intro a' w'' hI;unfold WI at hI;obtain⟨j,hI⟩:=hI;obtain⟨F2,hI⟩:=hI;obtain⟨C2,hI⟩:=hI;obtain⟨C3,hI⟩:=hI;obtain⟨F3,hI⟩:=hI;obtain⟨F4,hI⟩:=hI;obtain⟨F5,hI⟩:=hI;obtain⟨F6,hI⟩:=hI;obtain⟨F7,hI⟩:=hI;obtain⟨F8,hI⟩:=hI;obtain⟨F9,hI⟩:=hI;obtain⟨Fa,hI⟩:=hI;obtain⟨Fb,hI⟩:=hI;obtain⟨Fc,hI⟩:=hI;obtain⟨Fd,hI⟩:=hI;obtain⟨Fe,hI⟩:=hI;obtain⟨Ff,hI⟩:=hI;obtain⟨Fg,hI⟩:=hI;obtain⟨Fh,hI⟩:=hI;obtain⟨Fi,hI⟩:=hI;obtain⟨Fj,hI⟩:=hI;obtain⟨A0,hI⟩:=hI;obtain⟨A1,hI⟩:=hI;obtain⟨A4,hI⟩:=hI;obtain⟨A5,hI⟩:=hI;obtain⟨A6,hI⟩:=hI;obtain⟨A7,hI⟩:=hI;obtain⟨A8,hI⟩:=hI;obtain⟨A9,hI⟩:=hI;obtain⟨Aa,hI⟩:=hI;obtain⟨Ab,hI⟩:=hI;obtain⟨Ac,hI⟩:=hI;obtain⟨Ad,hI⟩:=hI;obtain⟨Ae,hI⟩:=hI;obtain⟨Af,hI⟩:=hI;obtain⟨Ag,hI⟩:=hI;obtain⟨Ah,hI⟩:=hI;obtain⟨Ai,hI⟩:=hI;obtain⟨Aj,hI⟩:=hI;obtain⟨Ak,hI⟩:=hI;obtain⟨Al,hI⟩:=hI;obtain⟨Am,hI⟩:=hI;obtain⟨B0,hI⟩:=hI;obtain⟨B2,hI⟩:=hI;obtain⟨B3,hI⟩:=hI;obtain⟨rfl,hj,HD2,rfl⟩:=hI;have AC:=HD2.out.acc HG.out (by omega)
    go_wp2_with(first
     |(go_at_call 15;refine AC.mono ?_;clear AC;rintro e v1 ⟨rfl,h1⟩;have A2:=h1;clear h1)
     |(go_at_call 15;refine A2.mono ?_;clear A2;rintro e v2 ⟨rfl,h1⟩;have S2:=h1;clear h1)
     |(go_at_call 41;refine S2.mono ?_;clear S2;rintro e v3 ⟨⟨s,rfl,hs7⟩,h1⟩;have A3:=AW.out _ h1;clear h1)
     |(go_at_call 35;refine A3.mono ?_;clear A3;rintro e v4 ⟨rfl,h1⟩;have HX:=hide h1;clear h1))
    go_ret
    exact⟨rfl,HX.out⟩
   ·as_aux_lemma=>
    have N:=Da.new (w0:=w) HB.out 3 4096 3
    have SB:Hid (∀u d p m O,Da w O u d p m 0 (newCh 3 4096 3) (fun _=>false)→Calls Tryz.prog 39 #[.pointer (Y ⟨d,0,U⟩),.agg #[.int Z 5,.int Z 0,.int Z 1,.int Z 0,.int Z 1,.slice U 0 0]] u fun e u'=>(∃z,e=S z)∧Calls Tryz.prog 38 #[.pointer (Y ⟨d,0,U⟩)] u' (fun e u2=>e=S (.pointer (Y ⟨p,0,U⟩))∧u'=u2)∧Da1 w u' d p m (begS (newCh 3 4096 3) (ltO 5))):=fun u d p m O h=>Da1.sub HG.out h
    have Y1:Hid (∀u d p m,Da1 w u d p m (begS (newCh 3 4096 3) (ltO 5))→Calls Tryz.prog 24 #[.pointer (Y ⟨p,0,U⟩),.agg #[.int Z 7,.int Z 1,.int Z 0,.int Z 5,.int Z 0,.int Z 0,.int Z 0]] u fun e u'=>(∃z,e=S z)∧Da1 w u' d p m (hdSA (begS (newCh 3 4096 3) (ltO 5)) ⟨7,1,0,5,0,0,0⟩).1):=fun u d p m h=>h.hd HG.out 7 1 rfl
    have Y2:Hid (∀u d p m,Da1 w u d p m (hdSA (begS (newCh 3 4096 3) (ltO 5)) ⟨7,1,0,5,0,0,0⟩).1 →Calls Tryz.prog 24 #[.pointer (Y ⟨p,0,U⟩),.agg #[.int Z 7,.int Z 2,.int Z 0,.int Z 5,.int Z 0,.int Z 0,.int Z 0]] u fun e u'=>(∃z,e=S z)∧Da1 w u' d p m (dmB true)):=fun u d p m h=>h.hd HG.out 7 2 rfl
    have DM:Hid (∀u d p m,Da1 w u d p m (dmB true)→Calls Tryz.prog 24 #[.pointer (Y ⟨p,0,U⟩),.agg #[.int Z 17,.int Z 2,.int Z 0,.int Z 5,.int Z 0,.int Z 0,.int Z 0]] u fun e u'=>∃b off k c,e=S (.slice (Y ⟨b,off,U⟩) k c)∧(0:Int)<((k:Nat):Int)∧u'.cell? ⟨b,off,U⟩=Y (.int Z 18)∧u'.cell? ⟨b,off+2,U⟩=Y (.int Z 2)∧DS w u' d p m true true 4):=fun u d p m h=>Da1.dmg (wh:=true) HG.out h
    generalize newCh 3 4096 3=v0 at *;generalize begS v0 (ltO 5)=x1 at *;generalize (hdSA x1 ⟨7,1,0,5,0,0,0⟩).1 =x2 at *;generalize dmB true=x3 at *
    go_wp2_with(first
     |(go_at_call 36;refine N.mono ?_;clear N;rintro e u1 ⟨d,p,m,O,rfl,h1,-,-,-⟩;have B1:=SB.out _ _ _ _ _ h1;clear h1 SB HB)
     |(go_at_call 39;refine B1.mono ?_;clear B1;rintro e u2 ⟨⟨z,rfl⟩,hc,h1⟩;have CH:=hc;have Z1:=Y1.out _ _ _ _ h1;clear h1 hc Y1)
     |(go_at_call 38;refine CH.mono ?_;clear CH;rintro e u3 ⟨rfl,rfl⟩)
     |(go_at_call 24;refine Z1.mono ?_;clear Z1;rintro e u4 ⟨⟨z4,rfl⟩,h1⟩;have Z2:=Y2.out _ _ _ _ h1;clear h1 Y2)
     |(go_at_call 24;refine Z2.mono ?_;clear Z2;rintro e u5 ⟨⟨z5,rfl⟩,h1⟩;have D1:=DM.out _ _ _ _ h1;clear h1 DM)
     |(go_at_call 24;refine D1.mono ?_;clear D1;rintro e u6 ⟨b6,off6,k6,c6,rfl,hk6,y0,y2,h1⟩;have HD:=hide h1;have q6:(((k6:Nat):Int)==0)=false:=(by simp;omega);clear h1))
    clear y0 y2;have hA:∀n,AskP w d p m true true (txB [32,112,117,114,115,101]) n (txB (dmT true)):=fun n=>dam_ask HG.out [32,112,117,114,115,101] rfl (by decide) n
    refine dam_loop (WD:=txB [32,112,117,114,115,101]) (T:=txB (dmT true)) (y:=true) (wh:=true) HG hlen HCL hA rfl HD ?_;clear HD hA;intro a' w'' hI;unfold WI at hI;obtain⟨j,hI⟩:=hI;obtain⟨F2,hI⟩:=hI;obtain⟨C2,hI⟩:=hI;obtain⟨C3,hI⟩:=hI;obtain⟨F3,hI⟩:=hI;obtain⟨F4,hI⟩:=hI;obtain⟨F5,hI⟩:=hI;obtain⟨F6,hI⟩:=hI;obtain⟨F7,hI⟩:=hI;obtain⟨F8,hI⟩:=hI;obtain⟨F9,hI⟩:=hI;obtain⟨Fa,hI⟩:=hI;obtain⟨Fb,hI⟩:=hI;obtain⟨Fc,hI⟩:=hI;obtain⟨Fd,hI⟩:=hI;obtain⟨Fe,hI⟩:=hI;obtain⟨Ff,hI⟩:=hI;obtain⟨Fg,hI⟩:=hI;obtain⟨Fh,hI⟩:=hI;obtain⟨Fi,hI⟩:=hI;obtain⟨Fj,hI⟩:=hI;obtain⟨A0,hI⟩:=hI;obtain⟨A1,hI⟩:=hI;obtain⟨A4,hI⟩:=hI;obtain⟨A5,hI⟩:=hI;obtain⟨A6,hI⟩:=hI;obtain⟨A7,hI⟩:=hI;obtain⟨A8,hI⟩:=hI;obtain⟨A9,hI⟩:=hI;obtain⟨Aa,hI⟩:=hI;obtain⟨Ab,hI⟩:=hI;obtain⟨Ac,hI⟩:=hI;obtain⟨Ad,hI⟩:=hI;obtain⟨Ae,hI⟩:=hI;obtain⟨Af,hI⟩:=hI;obtain⟨Ag,hI⟩:=hI;obtain⟨Ah,hI⟩:=hI;obtain⟨Ai,hI⟩:=hI;obtain⟨Aj,hI⟩:=hI;obtain⟨Ak,hI⟩:=hI;obtain⟨Al,hI⟩:=hI;obtain⟨Am,hI⟩:=hI;obtain⟨B0,hI⟩:=hI;obtain⟨B2,hI⟩:=hI;obtain⟨B3,hI⟩:=hI;obtain⟨rfl,hj,HD2,rfl⟩:=hI;have AC:=HD2.out.acc HG.out (by omega)
    go_wp2_with(first
     |(go_at_call 15;refine AC.mono ?_;clear AC;rintro e v1 ⟨rfl,h1⟩;have A2:=h1;clear h1)
     |(go_at_call 15;refine A2.mono ?_;clear A2;rintro e v2 ⟨rfl,h1⟩;have S2:=h1;clear h1)
     |(go_at_call 41;refine S2.mono ?_;clear S2;rintro e v3 ⟨⟨s,rfl,hs7⟩,h1⟩;have A3:=AW.out _ h1;clear h1)
     |(go_at_call 35;refine A3.mono ?_;clear A3;rintro e v4 ⟨rfl,h1⟩;have HX:=hide h1;clear h1))
    go_ret
    exact⟨rfl,HX.out⟩
end Go.Proofs.YthfgmpooehkhgaaGreatDoor
