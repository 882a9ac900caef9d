import Derived.Test.YthfgmpooehkhgaaGreatDoorSmiccobp
import Derived.Test.YthfgmpooehkhgaaGreatDoorSmjmbejf
import Derived.Test.YthfgmpooehkhgaaGreatDoorSmjbjdmo
import Derived.Test.YthfgmpooehkhgaaGreatDoorSmgkjaai
import Derived.Test.YthfgmpooehkhgaaGreatDoorSmndanlg
import Derived.Test.YthfgmpooehkhgaaGreatDoorSmjhffll
namespace Go.Proofs.YthfgmpooehkhgaaGreatDoor
open Go.ChangeShapes Go.WideShapes Go.ChangeAt Go.RowKit Go.Maps Sg Bl
set_option maxRecDepth 1000000 in
set_option maxHeartbeats 8000000 in
theorem las_exit{w:World}{o:Od}{a:Option Addr}{c sk p:Nat}{l:List C22.Cl}{a1:Option Addr}{cap:Nat}{g0 g1 g3 g4 g7 g11 g18 g19 g20 g21 g22 g23 g24 g25 g26 g27 g28 g29 g30 g31 g32 g33 g34 g35 g36 g180 g12 g13 g14 g15 g16 g17 g40 g41 g42 g43 g44 g45 g46 g47 g48 g49 g50 g51 g52 g53 g54 g55 g56 g57 g58 g59 g60 g61 g62 g63 g64 g65 g66 g67 g68 g69 g70 g71 g72 g73 g74 g75 g76 g77 g78 g79 g80 g81 g82 g83 g84 g85 g86 g87 g88 g89 g90 g91 g92 g93 g94 g95 g96 g97 g98 g99 g100 g101 g102 g103 g104 g105 g106 g107 g108 g109 g110 g111 g112 g113 g114 g115 g116 g117 g118 g119 g120 g121 g122 g123 g124 g125 g126 g127 g128 g129 g130 g131 g132 g133 g134 g135 g136 g137 g138 g139 g140 g141 g142 g143 g144 g145 g146 g147 g148 g149 g150 g151 g152 g153 g154 g155 g156 g157 g158 g159 g160 g161 g162 g163 g164 g165 g166 g167 g168 g169 g170 g171 g172 g173 g174 g175 g176 g177 g178 g179:Value}{wr:World}{Q0:Exit→Act→World→Prop}{j rc:Nat}{s:Bool×Bool}{v:Ch}{O:Pt→Nat→Prop}{ra:Option Addr}{ys:List Mg}{yb nb:Bool}(hj:j≤l.length)(hlt:¬j<l.length)
 (HK:Hid (LSt w o a c sk s wr p O v)) (HA:Hid (AnI wr O ra rc ys o.id)) (HY:Hid (SaidY o v yb nb)) (hexit:∀a' w'',LI w o a c sk p l a1 cap g0 g1 g3 g4 g7 g11 g18 g19 g20 g21 g22 g23 g24 g25 g26 g27 g28 g29 g30 g31 g32 g33 g34 g35 g36 g180 a' w''→Q0 (.exit 0) a' w''):Code.wp Tryz.prog (((Tryz.f4.body.bind (fun c=>(loopsL c)[0]?)).getD .skip)) (Exit.then (fun a' w''=>LI w o a c sk p l a1 cap g0 g1 g3 g4 g7 g11 g18 g19 g20 g21 g22 g23 g24 g25 g26 g27 g28 g29 g30 g31 g32 g33 g34 g35 g36 g180 a' w''∧Lmu l.length a' w''<l.length-j) Q0) ⟨#[g0,g1,.pointer (some ⟨w.heap.size,0,none⟩),g3,g4,.pointer (some ⟨p,0,none⟩),.slice ra ys.length rc,g7,.bool yb,.bool nb,.pointer (some ⟨sk,0,none⟩),g11,g12,g13,g14,g15,g16,g17,g18,g19,g20,g21,g22,g23,g24,g25,g26,g27,g28,g29,g30,g31,g32,g33,g34,g35,g36,.slice a1 l.length cap,.int .i64 (l.length:Int),.int .i64 (j:Int),g40,g41,g42,g43,g44,g45,g46,g47,g48,g49,g50,g51,g52,g53,g54,g55,g56,g57,g58,g59,g60,g61,g62,g63,g64,g65,g66,g67,g68,g69,g70,g71,g72,g73,g74,g75,g76,g77,g78,g79,g80,g81,g82,g83,g84,g85,g86,g87,g88,g89,g90,g91,g92,g93,g94,g95,g96,g97,g98,g99,g100,g101,g102,g103,g104,g105,g106,g107,g108,g109,g110,g111,g112,g113,g114,g115,g116,g117,g118,g119,g120,g121,g122,g123,g124,g125,g126,g127,g128,g129,g130,g131,g132,g133,g134,g135,g136,g137,g138,g139,g140,g141,g142,g143,g144,g145,g146,g147,g148,g149,g150,g151,g152,g153,g154,g155,g156,g157,g158,g159,g160,g161,g162,g163,g164,g165,g166,g167,g168,g169,g170,g171,g172,g173,g174,g175,g176,g177,g178,g179,g180],[]⟩ wr:=by
 have ql:¬(j:Int)<(l.length:Int):=by omega
 have HJ:=hide hj
 have HE:=hide hexit
 clear hexit hj hlt
 conv=>arg 2;whnf
 go_wp2_with fail
 exact HE.out _ _ ⟨j,s,v,O,ra,rc,ys,yb,nb,_,_,_,_,_,_,_,_,_,_,_,_,_,_,_,_,_,_,_,_,_,_,_,_,_,_,_,_,_,_,_,_,_,_,_,_,_,_,_,_,_,_,_,_,_,_,_,_,_,_,_,_,_,_,_,_,_,_,_,_,_,_,_,_,_,_,_,_,_,_,_,_,_,_,_,_,_,_,_,_,_,_,_,_,_,_,_,_,_,_,_,_,_,_,_,_,_,_,_,_,_,_,_,_,_,_,_,_,_,_,_,_,_,_,_,_,_,_,_,_,_,_,_,_,_,_,_,_,_,_,_,_,_,_,_,_,_,_,_,_,_,_,_,_,_,_,_,rfl,HJ.out,HK,HA,HY,rfl⟩
set_option maxRecDepth 1000000 in
set_option maxHeartbeats 8000000 in
theorem las_round{w:World}{o:Od}{a:Option Addr}{c sk p:Nat}{l:List C22.Cl}{a1:Option Addr}{cap:Nat}{g0 g1 g3 g4 g7 g11 g18 g19 g20 g21 g22 g23 g24 g25 g26 g27 g28 g29 g30 g31 g32 g33 g34 g35 g36 g180:Value}{Q0:Exit→Act→World→Prop}(HG:Hid (Gl w))(HM:Hid (mayO o=true))(HOD:Hid (OdIn w o a c))(hlen:l.length≤9223372036854775807)(HCL:Hid (C22.Cls w a1 l))(hexit:∀a' w'',LI w o a c sk p l a1 cap g0 g1 g3 g4 g7 g11 g18 g19 g20 g21 g22 g23 g24 g25 g26 g27 g28 g29 g30 g31 g32 g33 g34 g35 g36 g180 a' w''→Q0 (.exit 0) a' w'')(act:Act)(wr:World)(hI:LI w o a c sk p l a1 cap g0 g1 g3 g4 g7 g11 g18 g19 g20 g21 g22 g23 g24 g25 g26 g27 g28 g29 g30 g31 g32 g33 g34 g35 g36 g180 act wr):
 Code.wp Tryz.prog (((Tryz.f4.body.bind (fun c=>(loopsL c)[0]?)).getD .skip)) (Exit.then (fun a' w''=>LI w o a c sk p l a1 cap g0 g1 g3 g4 g7 g11 g18 g19 g20 g21 g22 g23 g24 g25 g26 g27 g28 g29 g30 g31 g32 g33 g34 g35 g36 g180 a' w''∧Lmu l.length a' w''<Lmu l.length act wr) Q0) act wr:=by
 unfold LI at hI
 obtain⟨j,hI⟩:=hI
 obtain⟨s,hI⟩:=hI
 obtain⟨v,hI⟩:=hI
 obtain⟨O,hI⟩:=hI
 obtain⟨ra,hI⟩:=hI
 obtain⟨rc,hI⟩:=hI
 obtain⟨ys,hI⟩:=hI
 obtain⟨yb,hI⟩:=hI
 obtain⟨nb,hI⟩:=hI
 obtain⟨g39,hI⟩:=hI
 obtain⟨g12,hI⟩:=hI
 obtain⟨g13,hI⟩:=hI
 obtain⟨g14,hI⟩:=hI
 obtain⟨g15,hI⟩:=hI
 obtain⟨g16,hI⟩:=hI
 obtain⟨g17,hI⟩:=hI
 obtain⟨g40,hI⟩:=hI
 obtain⟨g41,hI⟩:=hI
 obtain⟨g42,hI⟩:=hI
 obtain⟨g43,hI⟩:=hI
 obtain⟨g44,hI⟩:=hI
 obtain⟨g45,hI⟩:=hI
 obtain⟨g46,hI⟩:=hI
 obtain⟨g47,hI⟩:=hI
 obtain⟨g48,hI⟩:=hI
 obtain⟨g49,hI⟩:=hI
 obtain⟨g50,hI⟩:=hI
 obtain⟨g51,hI⟩:=hI
 obtain⟨g52,hI⟩:=hI
 obtain⟨g53,hI⟩:=hI
 obtain⟨g54,hI⟩:=hI
 obtain⟨g55,hI⟩:=hI
 obtain⟨g56,hI⟩:=hI
 obtain⟨g57,hI⟩:=hI
 obtain⟨g58,hI⟩:=hI
 obtain⟨g59,hI⟩:=hI
 obtain⟨g60,hI⟩:=hI
 obtain⟨g61,hI⟩:=hI
 obtain⟨g62,hI⟩:=hI
 obtain⟨g63,hI⟩:=hI
 obtain⟨g64,hI⟩:=hI
 obtain⟨g65,hI⟩:=hI
 obtain⟨g66,hI⟩:=hI
 obtain⟨g67,hI⟩:=hI
 obtain⟨g68,hI⟩:=hI
 obtain⟨g69,hI⟩:=hI
 obtain⟨g70,hI⟩:=hI
 obtain⟨g71,hI⟩:=hI
 obtain⟨g72,hI⟩:=hI
 obtain⟨g73,hI⟩:=hI
 obtain⟨g74,hI⟩:=hI
 obtain⟨g75,hI⟩:=hI
 obtain⟨g76,hI⟩:=hI
 obtain⟨g77,hI⟩:=hI
 obtain⟨g78,hI⟩:=hI
 obtain⟨g79,hI⟩:=hI
 obtain⟨g80,hI⟩:=hI
 obtain⟨g81,hI⟩:=hI
 obtain⟨g82,hI⟩:=hI
 obtain⟨g83,hI⟩:=hI
 obtain⟨g84,hI⟩:=hI
 obtain⟨g85,hI⟩:=hI
 obtain⟨g86,hI⟩:=hI
 obtain⟨g87,hI⟩:=hI
 obtain⟨g88,hI⟩:=hI
 obtain⟨g89,hI⟩:=hI
 obtain⟨g90,hI⟩:=hI
 obtain⟨g91,hI⟩:=hI
 obtain⟨g92,hI⟩:=hI
 obtain⟨g93,hI⟩:=hI
 obtain⟨g94,hI⟩:=hI
 obtain⟨g95,hI⟩:=hI
 obtain⟨g96,hI⟩:=hI
 obtain⟨g97,hI⟩:=hI
 obtain⟨g98,hI⟩:=hI
 obtain⟨g99,hI⟩:=hI
 obtain⟨g100,hI⟩:=hI
 obtain⟨g101,hI⟩:=hI
 obtain⟨g102,hI⟩:=hI
 obtain⟨g103,hI⟩:=hI
 obtain⟨g104,hI⟩:=hI
 obtain⟨g105,hI⟩:=hI
 obtain⟨g106,hI⟩:=hI
 obtain⟨g107,hI⟩:=hI
 obtain⟨g108,hI⟩:=hI
 obtain⟨g109,hI⟩:=hI
 obtain⟨g110,hI⟩:=hI
 obtain⟨g111,hI⟩:=hI
 obtain⟨g112,hI⟩:=hI
 obtain⟨g113,hI⟩:=hI
 obtain⟨g114,hI⟩:=hI
 obtain⟨g115,hI⟩:=hI
 obtain⟨g116,hI⟩:=hI
 obtain⟨g117,hI⟩:=hI
 obtain⟨g118,hI⟩:=hI
 obtain⟨g119,hI⟩:=hI
 obtain⟨g120,hI⟩:=hI
 obtain⟨g121,hI⟩:=hI
 obtain⟨g122,hI⟩:=hI
 obtain⟨g123,hI⟩:=hI
 obtain⟨g124,hI⟩:=hI
 obtain⟨g125,hI⟩:=hI
 obtain⟨g126,hI⟩:=hI
 obtain⟨g127,hI⟩:=hI
 obtain⟨g128,hI⟩:=hI
 obtain⟨g129,hI⟩:=hI
 obtain⟨g130,hI⟩:=hI
 obtain⟨g131,hI⟩:=hI
 obtain⟨g132,hI⟩:=hI
 obtain⟨g133,hI⟩:=hI
 obtain⟨g134,hI⟩:=hI
 obtain⟨g135,hI⟩:=hI
 obtain⟨g136,hI⟩:=hI
 obtain⟨g137,hI⟩:=hI
 obtain⟨g138,hI⟩:=hI
 obtain⟨g139,hI⟩:=hI
 obtain⟨g140,hI⟩:=hI
 obtain⟨g141,hI⟩:=hI
 obtain⟨g142,hI⟩:=hI
 obtain⟨g143,hI⟩:=hI
 obtain⟨g144,hI⟩:=hI
 obtain⟨g145,hI⟩:=hI
 obtain⟨g146,hI⟩:=hI
 obtain⟨g147,hI⟩:=hI
 obtain⟨g148,hI⟩:=hI
 obtain⟨g149,hI⟩:=hI
 obtain⟨g150,hI⟩:=hI
 obtain⟨g151,hI⟩:=hI
 obtain⟨g152,hI⟩:=hI
 obtain⟨g153,hI⟩:=hI
 obtain⟨g154,hI⟩:=hI
 obtain⟨g155,hI⟩:=hI
 obtain⟨g156,hI⟩:=hI
 obtain⟨g157,hI⟩:=hI
 obtain⟨g158,hI⟩:=hI
 obtain⟨g159,hI⟩:=hI
 obtain⟨g160,hI⟩:=hI
 obtain⟨g161,hI⟩:=hI
 obtain⟨g162,hI⟩:=hI
 obtain⟨g163,hI⟩:=hI
 obtain⟨g164,hI⟩:=hI
 obtain⟨g165,hI⟩:=hI
 obtain⟨g166,hI⟩:=hI
 obtain⟨g167,hI⟩:=hI
 obtain⟨g168,hI⟩:=hI
 obtain⟨g169,hI⟩:=hI
 obtain⟨g170,hI⟩:=hI
 obtain⟨g171,hI⟩:=hI
 obtain⟨g172,hI⟩:=hI
 obtain⟨g173,hI⟩:=hI
 obtain⟨g174,hI⟩:=hI
 obtain⟨g175,hI⟩:=hI
 obtain⟨g176,hI⟩:=hI
 obtain⟨g177,hI⟩:=hI
 obtain⟨g178,hI⟩:=hI
 obtain⟨g179,hI⟩:=hI
 obtain⟨rfl,hj,HK,HA,HY,rfl⟩:=hI
 by_cases hlt:j<l.length
 rotate_left
 ·exact las_exit hj hlt HK HA HY hexit
 obtain⟨⟨cd,ci,cn,ct,oo,sa,sc,⟨m0,m1,m2,m3,m4,m5,m6⟩⟩,hc⟩:∃c,l[j]?=some c:=⟨l[j],by simp[hlt]⟩
 rcases HCL.out.below HK.out.1.below with hh|⟨bb,off1,rfl,hca⟩
 ·subst hh;simp at hlt
 have hx:=hca j _ hc
 dsimp only at hx
 obtain⟨⟨c0,c1,c2,c3,c4,c5,c6,c7,c8,c9,c10,c11,c12,c13,c14,c15,c16⟩,-⟩:=hx
 by_cases e1:cd=1
 ·exact las_1 HG HM hlen hlt c0 c1 c2 c3 c4 c5 c6 c7 c8 c9 c10 c11 c12 c13 c14 c15 c16 HK HA HY HOD e1
 by_cases e2:cd=2
 ·exact las_2 HG HM hlen hlt c0 c1 c2 c3 c4 c5 c6 c7 c8 c9 c10 c11 c12 c13 c14 c15 c16 HK HA HY HOD e2
 by_cases e3:cd=3
 ·exact las_3 HG HM hlen hlt c0 c1 c2 c3 c4 c5 c6 c7 c8 c9 c10 c11 c12 c13 c14 c15 c16 HK HA HY HOD e3
 by_cases e4:cd=4
 ·exact las_4 HG HM hlen hlt c0 c1 c2 c3 c4 c5 c6 c7 c8 c9 c10 c11 c12 c13 c14 c15 c16 HK HA HY HOD e4
 by_cases e5:cd=5
 ·exact las_5 HG HM hlen hlt c0 c1 c2 c3 c4 c5 c6 c7 c8 c9 c10 c11 c12 c13 c14 c15 c16 HK HA HY HOD e5
 by_cases hz:ys.length=0
 ·by_cases e6:m0=7
  ·by_cases e7:m1=1
   ·exact las_a1 HG HM hlen hlt c0 c1 c2 c3 c4 c5 c6 c7 c8 c9 c10 c11 c12 c13 c14 c15 c16 HK HA HY HOD e1 e2 e3 e4 e5 hz e6 e7
   by_cases e8:m1=2
   ·exact las_a2 HG HM hlen hlt c0 c1 c2 c3 c4 c5 c6 c7 c8 c9 c10 c11 c12 c13 c14 c15 c16 HK HA HY HOD e1 e2 e3 e4 e5 hz e6 e8
   ·exact las_a4 HG HM hlen hlt c0 c1 c2 c3 c4 c5 c6 c7 c8 c9 c10 c11 c12 c13 c14 c15 c16 HK HA HY HOD e1 e2 e3 e4 e5 hz e6 e7 e8
  ·exact las_a3 HG HM hlen hlt c0 c1 c2 c3 c4 c5 c6 c7 c8 c9 c10 c11 c12 c13 c14 c15 c16 HK HA HY HOD e1 e2 e3 e4 e5 hz e6
 have hz0:0<ys.length:=by omega
 by_cases ec:cd=7
 ·by_cases e6:m0=7
  ·by_cases e7:m1=1
   ·exact las_b1 HG HM hlen hlt c0 c1 c2 c3 c4 c5 c6 c7 c8 c9 c10 c11 c12 c13 c14 c15 c16 HK HA HY HOD ec hz0 e6 e7
   by_cases e8:m1=2
   ·exact las_b2 HG HM hlen hlt c0 c1 c2 c3 c4 c5 c6 c7 c8 c9 c10 c11 c12 c13 c14 c15 c16 HK HA HY HOD ec hz0 e6 e8
   ·exact las_b4 HG HM hlen hlt c0 c1 c2 c3 c4 c5 c6 c7 c8 c9 c10 c11 c12 c13 c14 c15 c16 HK HA HY HOD ec hz0 e6 e7 e8
  ·exact las_b3 HG HM hlen hlt c0 c1 c2 c3 c4 c5 c6 c7 c8 c9 c10 c11 c12 c13 c14 c15 c16 HK HA HY HOD ec hz0 e6
 ·exact las_f HG HM hlen hlt c0 c1 c2 c3 c4 c5 c6 c7 c8 c9 c10 c11 c12 c13 c14 c15 c16 HK HA HY HOD e1 e2 e3 e4 e5 ec hz0
set_option maxRecDepth 1000000 in
set_option maxHeartbeats 8000000 in
theorem las_loop{w:World}{o:Od}{a:Option Addr}{c sk p:Nat}{l:List C22.Cl}{a1:Option Addr}{cap:Nat}{g0 g1 g3 g4 g7 g11 g18 g19 g20 g21 g22 g23 g24 g25 g26 g27 g28 g29 g30 g31 g32 g33 g34 g35 g36 g180 g39 g12 g13 g14 g15 g16 g17 g40 g41 g42 g43 g44 g45 g46 g47 g48 g49 g50 g51 g52 g53 g54 g55 g56 g57 g58 g59 g60 g61 g62 g63 g64 g65 g66 g67 g68 g69 g70 g71 g72 g73 g74 g75 g76 g77 g78 g79 g80 g81 g82 g83 g84 g85 g86 g87 g88 g89 g90 g91 g92 g93 g94 g95 g96 g97 g98 g99 g100 g101 g102 g103 g104 g105 g106 g107 g108 g109 g110 g111 g112 g113 g114 g115 g116 g117 g118 g119 g120 g121 g122 g123 g124 g125 g126 g127 g128 g129 g130 g131 g132 g133 g134 g135 g136 g137 g138 g139 g140 g141 g142 g143 g144 g145 g146 g147 g148 g149 g150 g151 g152 g153 g154 g155 g156 g157 g158 g159 g160 g161 g162 g163 g164 g165 g166 g167 g168 g169 g170 g171 g172 g173 g174 g175 g176 g177 g178 g179:Value}{Q0:Exit→Act→World→Prop}{wr:World}{rc:Nat}{v:Ch}{O:Pt→Nat→Prop}{ra:Option Addr}{ys:List Mg}(HG:Hid (Gl w))(HM:Hid (mayO o=true))(HOD:Hid (OdIn w o a c))(hlen:l.length≤9223372036854775807)(HCL:Hid (C22.Cls w a1 l))(h39:g39= .int .i64 ((0:Nat):Int))(HK:Hid (LSt w o a c sk (false,false) wr p O v))(HA:Hid (AnI wr O ra rc ys o.id))(hexit:∀a' w'',LI w o a c sk p l a1 cap g0 g1 g3 g4 g7 g11 g18 g19 g20 g21 g22 g23 g24 g25 g26 g27 g28 g29 g30 g31 g32 g33 g34 g35 g36 g180 a' w''→Q0 (.exit 0) a' w''):
 Code.wp Tryz.prog (Code.loop (((Tryz.f4.body.bind (fun c=>(loopsL c)[0]?)).getD .skip))) Q0 ⟨#[g0,g1,.pointer (some ⟨w.heap.size,0,none⟩),g3,g4,.pointer (some ⟨p,0,none⟩),.slice ra ys.length rc,g7,.bool false,.bool false,.pointer (some ⟨sk,0,none⟩),g11,g12,g13,g14,g15,g16,g17,g18,g19,g20,g21,g22,g23,g24,g25,g26,g27,g28,g29,g30,g31,g32,g33,g34,g35,g36,.slice a1 l.length cap,.int .i64 (l.length:Int),g39,g40,g41,g42,g43,g44,g45,g46,g47,g48,g49,g50,g51,g52,g53,g54,g55,g56,g57,g58,g59,g60,g61,g62,g63,g64,g65,g66,g67,g68,g69,g70,g71,g72,g73,g74,g75,g76,g77,g78,g79,g80,g81,g82,g83,g84,g85,g86,g87,g88,g89,g90,g91,g92,g93,g94,g95,g96,g97,g98,g99,g100,g101,g102,g103,g104,g105,g106,g107,g108,g109,g110,g111,g112,g113,g114,g115,g116,g117,g118,g119,g120,g121,g122,g123,g124,g125,g126,g127,g128,g129,g130,g131,g132,g133,g134,g135,g136,g137,g138,g139,g140,g141,g142,g143,g144,g145,g146,g147,g148,g149,g150,g151,g152,g153,g154,g155,g156,g157,g158,g159,g160,g161,g162,g163,g164,g165,g166,g167,g168,g169,g170,g171,g172,g173,g174,g175,g176,g177,g178,g179,g180],[]⟩ wr:=
 wp_loop (LI w o a c sk p l a1 cap g0 g1 g3 g4 g7 g11 g18 g19 g20 g21 g22 g23 g24 g25 g26 g27 g28 g29 g30 g31 g32 g33 g34 g35 g36 g180) (Lmu l.length) ⟨0,(false,false),v,O,ra,rc,ys,false,false,g39,g12,g13,g14,g15,g16,g17,g40,g41,g42,g43,g44,g45,g46,g47,g48,g49,g50,g51,g52,g53,g54,g55,g56,g57,g58,g59,g60,g61,g62,g63,g64,g65,g66,g67,g68,g69,g70,g71,g72,g73,g74,g75,g76,g77,g78,g79,g80,g81,g82,g83,g84,g85,g86,g87,g88,g89,g90,g91,g92,g93,g94,g95,g96,g97,g98,g99,g100,g101,g102,g103,g104,g105,g106,g107,g108,g109,g110,g111,g112,g113,g114,g115,g116,g117,g118,g119,g120,g121,g122,g123,g124,g125,g126,g127,g128,g129,g130,g131,g132,g133,g134,g135,g136,g137,g138,g139,g140,g141,g142,g143,g144,g145,g146,g147,g148,g149,g150,g151,g152,g153,g154,g155,g156,g157,g158,g159,g160,g161,g162,g163,g164,g165,g166,g167,g168,g169,g170,g171,g172,g173,g174,g175,g176,g177,g178,g179,h39,Nat.zero_le _,HK,HA,(show Hid (SaidY o v false false)from⟨fun e=>(by cases e),fun e=>(by cases e)⟩),rfl⟩ (fun act w'' hI=>las_round HG HM HOD hlen HCL hexit act w'' hI)
set_option maxRecDepth 100000 in
set_option maxHeartbeats 8000000 in
theorem chiefLasts_walk(o:Od)(a:Option Addr)(c:Nat)(l:List C22.Cl)(a1:Option Addr)(cap:Nat)(w:World)(w0:OdIn w o a c)(w1:C22.ClsIn w l a1)(hg:Gl w):
 Calls Tryz.prog 4 #[.agg #[.int .i64 o.id,.int .i64 o.item,.int .i64 o.qty,.int .i64 o.client,.int .i64 o.price,.slice a o.steps.length c],.slice a1 l.length cap] w fun e w'=>e= .returned (.bool true)∧Below w.heap.size w w':=by
 have hb0:Below w.heap.size w (w.alloc (.cells #[.int .i64 o.id,.int .i64 o.item,.int .i64 o.qty,.int .i64 o.client,.int .i64 o.price,.slice a o.steps.length c] 32)):=(Below.refl _ _).alloc (Nat.le_refl _) _
 have hx0:=World.alloc_heap_new w (.cells #[.int .i64 o.id,.int .i64 o.item,.int .i64 o.qty,.int .i64 o.client,.int .i64 o.price,.slice a o.steps.length c] 32)
 have FW:=cfew_any l a1 cap (w.alloc (.cells #[.int .i64 o.id,.int .i64 o.item,.int .i64 o.qty,.int .i64 o.client,.int .i64 o.price,.slice a o.steps.length c] 32)) ⟨w1.1,w1.2.below hb0⟩
 have HCL:=hide w1.2
 have hlen:=w1.1
 have HX0:=hide hx0
 have HB0:=hide hb0
 have AW:Hid (∀u,Below w.heap.size w u→Calls Tryz.prog 8 #[] u fun e w'=>e= .returned (.bool true)∧Below w.heap.size w w'):=fun u hu=>(cwake_any u (hg.on hu)).mono (fun _ _ ⟨e1,e2⟩=>⟨e1,bel_on' hu e2⟩)
 have RM:Hid (∀u,Below w.heap.size w u→Calls Tryz.prog 32 #[.agg #[.int .i64 o.id,.int .i64 o.item,.int .i64 o.qty,.int .i64 o.client,.int .i64 o.price,.slice a o.steps.length c]] u fun e w'=>e= .returned (.bool (mayO o))∧Below u.heap.size u w'):=fun u hu=>ref_omay_any o a c u (w0.below hu).2.1 w0.1 w0.2.2.2
 have HW0:=hide w0
 have HG:=hide hg
 clear hb0 hx0 w0 w1
 go_enter Tryz.func4,Tryz.ntmps4
 go_wp2_with fail
 refine FW.mono ?_
 clear FW
 rintro e y1w ⟨⟨r,rfl,-⟩,hb1⟩
 have HB1:=hide (bel_on' HB0.out hb1)
 have X1:=hide (Sg.keepB HX0.out hb1)
 clear hb1 HB0 HX0
 obtain⟨x0,x1,x2,x3,x4,x5⟩:=six_cells X1.out
 cases r
 ·go_wp2_with(go_at_call 8;refine(AW.out _ HB1.out).mono ?_;rintro e y2w ⟨rfl,h1⟩;have H1:=hide h1;clear h1)
  go_ret
  exact⟨rfl,H1.out⟩
 go_wp2_with fail
 refine(RM.out _ HB1.out).mono ?_
 rintro e y2w ⟨rfl,hb2⟩
 have HB2:=hide (bel_on' HB1.out hb2)
 have X2:=hide (Sg.keepB X1.out hb2)
 clear hb2 HB1 X1 RM x0 x1 x2 x3 x4 x5
 obtain⟨x0,x1,x2,x3,x4,x5⟩:=six_cells X2.out
 cases hm:mayO o
 ·go_wp2_with(go_at_call 8;refine(AW.out _ HB2.out).mono ?_;rintro e y3w ⟨rfl,h1⟩;have H1:=hide h1;clear h1)
  go_ret
  exact⟨rfl,H1.out⟩
 have HM:=hide hm
 have HL0:=hide (LsI.new hm 3 4096 2 (by decide))
 have HE0:=(One.new hm 3 4096 2 (by decide)).1
 have N:=OSt.new (o:=o) (a:=a) (c:=c) HB2.out X2.out 3 4096 2
 obtain⟨v1,hv1⟩:∃v1,begS (newCh 3 4096 2) o=v1:=⟨_,rfl⟩
 rw[hv1]at HL0
 have BG:Hid (∀u p O,OSt w o a c u p O (newCh 3 4096 2)→Calls Tryz.prog 11 #[.pointer (some ⟨p,0,none⟩),.agg #[.int .i64 o.id,.int .i64 o.item,.int .i64 o.qty,.int .i64 o.client,.int .i64 o.price,.slice a o.steps.length c]] u fun e w'=>∃x xs y O',e= .returned (.tuple #[.slice x (List.length xs) y,.int .i64 0])∧AnI w' O' x y xs o.id∧OSt w o a c w' p O' v1):=fun u p O k=>(k.beginA hg HW0.out HM.out HE0 hv1 rfl).mono (fun _ _ ⟨x,y,O',h1,h2,h3⟩=>⟨x,_,y,O',h1,⟨h2,begA_id _ _⟩,h3⟩)
 clear hv1 HE0 hm
 go_wp2_with fail
 refine N.mono ?_
 clear N x0 x1 x2 x3 x4 x5
 rintro e y3w ⟨p,O3,rfl,k3⟩
 obtain⟨x0,x1,x2,x3,x4,x5⟩:=k3.c06
 have B3:=BG.out _ _ _ k3
 clear k3 BG HB2 X2
 go_wp2_with fail
 refine B3.mono ?_
 clear B3 x0 x1 x2 x3 x4 x5
 rintro e y4w ⟨x,xs,y,O4,rfl,hA,k4⟩
 have K4:=hide (LSt.new k4 HL0.out)
 have A4:=hide (hA.on ((Below.refl y4w.heap.size y4w).alloc (Nat.le_refl _) (.cells #[.bool false,.bool false] 65)))
 clear hA k4 HL0
 go_wp2_with fail
 obtain⟨sk,hsk⟩:∃sk,y4w.heap.size=sk:=⟨_,rfl⟩
 rw[hsk]at K4
 rw[hsk]
 generalize y4w.alloc (.cells #[.bool false,.bool false] 65)=W4 at K4 A4 ⊢
 clear hsk
 refine las_loop HG HM HW0 hlen HCL rfl K4 A4 ?_
 clear K4 A4
 intro a' w' hI
 unfold LI at hI
 obtain⟨j,hI⟩:=hI
 obtain⟨s2,hI⟩:=hI
 obtain⟨v2,hI⟩:=hI
 obtain⟨O2,hI⟩:=hI
 obtain⟨ra2,hI⟩:=hI
 obtain⟨rc2,hI⟩:=hI
 obtain⟨ys2,hI⟩:=hI
 obtain⟨yb2,hI⟩:=hI
 obtain⟨nb2,hI⟩:=hI
 obtain⟨g39,hI⟩:=hI
 obtain⟨g12,hI⟩:=hI
 obtain⟨g13,hI⟩:=hI
 obtain⟨g14,hI⟩:=hI
 obtain⟨g15,hI⟩:=hI
 obtain⟨g16,hI⟩:=hI
 obtain⟨g17,hI⟩:=hI
 obtain⟨g40,hI⟩:=hI
 obtain⟨g41,hI⟩:=hI
 obtain⟨g42,hI⟩:=hI
 obtain⟨g43,hI⟩:=hI
 obtain⟨g44,hI⟩:=hI
 obtain⟨g45,hI⟩:=hI
 obtain⟨g46,hI⟩:=hI
 obtain⟨g47,hI⟩:=hI
 obtain⟨g48,hI⟩:=hI
 obtain⟨g49,hI⟩:=hI
 obtain⟨g50,hI⟩:=hI
 obtain⟨g51,hI⟩:=hI
 obtain⟨g52,hI⟩:=hI
 obtain⟨g53,hI⟩:=hI
 obtain⟨g54,hI⟩:=hI
 obtain⟨g55,hI⟩:=hI
 obtain⟨g56,hI⟩:=hI
 obtain⟨g57,hI⟩:=hI
 obtain⟨g58,hI⟩:=hI
 obtain⟨g59,hI⟩:=hI
 obtain⟨g60,hI⟩:=hI
 obtain⟨g61,hI⟩:=hI
 obtain⟨g62,hI⟩:=hI
 obtain⟨g63,hI⟩:=hI
 obtain⟨g64,hI⟩:=hI
 obtain⟨g65,hI⟩:=hI
 obtain⟨g66,hI⟩:=hI
 obtain⟨g67,hI⟩:=hI
 obtain⟨g68,hI⟩:=hI
 obtain⟨g69,hI⟩:=hI
 obtain⟨g70,hI⟩:=hI
 obtain⟨g71,hI⟩:=hI
 obtain⟨g72,hI⟩:=hI
 obtain⟨g73,hI⟩:=hI
 obtain⟨g74,hI⟩:=hI
 obtain⟨g75,hI⟩:=hI
 obtain⟨g76,hI⟩:=hI
 obtain⟨g77,hI⟩:=hI
 obtain⟨g78,hI⟩:=hI
 obtain⟨g79,hI⟩:=hI
 obtain⟨g80,hI⟩:=hI
 obtain⟨g81,hI⟩:=hI
 obtain⟨g82,hI⟩:=hI
 obtain⟨g83,hI⟩:=hI
 obtain⟨g84,hI⟩:=hI
 obtain⟨g85,hI⟩:=hI
 obtain⟨g86,hI⟩:=hI
 obtain⟨g87,hI⟩:=hI
 obtain⟨g88,hI⟩:=hI
 obtain⟨g89,hI⟩:=hI
 obtain⟨g90,hI⟩:=hI
 obtain⟨g91,hI⟩:=hI
 obtain⟨g92,hI⟩:=hI
 obtain⟨g93,hI⟩:=hI
 obtain⟨g94,hI⟩:=hI
 obtain⟨g95,hI⟩:=hI
 obtain⟨g96,hI⟩:=hI
 obtain⟨g97,hI⟩:=hI
 obtain⟨g98,hI⟩:=hI
 obtain⟨g99,hI⟩:=hI
 obtain⟨g100,hI⟩:=hI
 obtain⟨g101,hI⟩:=hI
 obtain⟨g102,hI⟩:=hI
 obtain⟨g103,hI⟩:=hI
 obtain⟨g104,hI⟩:=hI
 obtain⟨g105,hI⟩:=hI
 obtain⟨g106,hI⟩:=hI
 obtain⟨g107,hI⟩:=hI
 obtain⟨g108,hI⟩:=hI
 obtain⟨g109,hI⟩:=hI
 obtain⟨g110,hI⟩:=hI
 obtain⟨g111,hI⟩:=hI
 obtain⟨g112,hI⟩:=hI
 obtain⟨g113,hI⟩:=hI
 obtain⟨g114,hI⟩:=hI
 obtain⟨g115,hI⟩:=hI
 obtain⟨g116,hI⟩:=hI
 obtain⟨g117,hI⟩:=hI
 obtain⟨g118,hI⟩:=hI
 obtain⟨g119,hI⟩:=hI
 obtain⟨g120,hI⟩:=hI
 obtain⟨g121,hI⟩:=hI
 obtain⟨g122,hI⟩:=hI
 obtain⟨g123,hI⟩:=hI
 obtain⟨g124,hI⟩:=hI
 obtain⟨g125,hI⟩:=hI
 obtain⟨g126,hI⟩:=hI
 obtain⟨g127,hI⟩:=hI
 obtain⟨g128,hI⟩:=hI
 obtain⟨g129,hI⟩:=hI
 obtain⟨g130,hI⟩:=hI
 obtain⟨g131,hI⟩:=hI
 obtain⟨g132,hI⟩:=hI
 obtain⟨g133,hI⟩:=hI
 obtain⟨g134,hI⟩:=hI
 obtain⟨g135,hI⟩:=hI
 obtain⟨g136,hI⟩:=hI
 obtain⟨g137,hI⟩:=hI
 obtain⟨g138,hI⟩:=hI
 obtain⟨g139,hI⟩:=hI
 obtain⟨g140,hI⟩:=hI
 obtain⟨g141,hI⟩:=hI
 obtain⟨g142,hI⟩:=hI
 obtain⟨g143,hI⟩:=hI
 obtain⟨g144,hI⟩:=hI
 obtain⟨g145,hI⟩:=hI
 obtain⟨g146,hI⟩:=hI
 obtain⟨g147,hI⟩:=hI
 obtain⟨g148,hI⟩:=hI
 obtain⟨g149,hI⟩:=hI
 obtain⟨g150,hI⟩:=hI
 obtain⟨g151,hI⟩:=hI
 obtain⟨g152,hI⟩:=hI
 obtain⟨g153,hI⟩:=hI
 obtain⟨g154,hI⟩:=hI
 obtain⟨g155,hI⟩:=hI
 obtain⟨g156,hI⟩:=hI
 obtain⟨g157,hI⟩:=hI
 obtain⟨g158,hI⟩:=hI
 obtain⟨g159,hI⟩:=hI
 obtain⟨g160,hI⟩:=hI
 obtain⟨g161,hI⟩:=hI
 obtain⟨g162,hI⟩:=hI
 obtain⟨g163,hI⟩:=hI
 obtain⟨g164,hI⟩:=hI
 obtain⟨g165,hI⟩:=hI
 obtain⟨g166,hI⟩:=hI
 obtain⟨g167,hI⟩:=hI
 obtain⟨g168,hI⟩:=hI
 obtain⟨g169,hI⟩:=hI
 obtain⟨g170,hI⟩:=hI
 obtain⟨g171,hI⟩:=hI
 obtain⟨g172,hI⟩:=hI
 obtain⟨g173,hI⟩:=hI
 obtain⟨g174,hI⟩:=hI
 obtain⟨g175,hI⟩:=hI
 obtain⟨g176,hI⟩:=hI
 obtain⟨g177,hI⟩:=hI
 obtain⟨g178,hI⟩:=hI
 obtain⟨g179,hI⟩:=hI
 obtain⟨rfl,hj,HK3,HA3,HY3,rfl⟩:=hI
 go_wp2_with(go_at_call 8;refine(AW.out _ HK3.out.1.below).mono ?_;rintro e u6 ⟨rfl,b6⟩;have HB6:=hide b6;clear b6)
 go_ret
 exact⟨rfl,HB6.out⟩
end Go.Proofs.YthfgmpooehkhgaaGreatDoor
