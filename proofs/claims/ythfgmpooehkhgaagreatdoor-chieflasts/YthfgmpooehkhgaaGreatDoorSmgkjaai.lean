import Derived.Test.YthfgmpooehkhgaaGreatDoorSmjcphkj
namespace Go.Proofs.YthfgmpooehkhgaaGreatDoor
open Go.ChangeShapes Go.WideShapes Go.ChangeAt Go.RowKit Go.Maps Sg Bl
open Nat renaming le_refl→zD
open Below renaming refl→zF,heap_setCell→zN
open Go.World renaming alloc_heap_new→zI
set_option maxRecDepth 1000000 in
set_option maxHeartbeats 8000000 in
theorem las_b1{w:World}{o:Od}{a:Option Addr}{c sk p:Nat}{l:List C22.Cl}{cap:Nat}{g0 g1 g3 g4 g7 g11 g18 g19 g20 g21 g22 g23 g24 g25 g26 g27 g28 g29 g30 g31 g32 g33 g34 g35 g36 g180 g12 g13 g14 g15 g16 g17 g40 g41 g42 g43 g44 g45 g46 g47 g48 g49 g50 g51 g52 g53 g54 g55 g56 g57 g58 g59 g60 g61 g62 g63 g64 g65 g66 g67 g68 g69 g70 g71 g72 g73 g74 g75 g76 g77 g78 g79 g80 g81 g82 g83 g84 g85 g86 g87 g88 g89 g90 g91 g92 g93 g94 g95 g96 g97 g98 g99 g100 g101 g102 g103 g104 g105 g106 g107 g108 g109 g110 g111 g112 g113 g114 g115 g116 g117 g118 g119 g120 g121 g122 g123 g124 g125 g126 g127 g128 g129 g130 g131 g132 g133 g134 g135 g136 g137 g138 g139 g140 g141 g142 g143 g144 g145 g146 g147 g148 g149 g150 g151 g152 g153 g154 g155 g156 g157 g158 g159 g160 g161 g162 g163 g164 g165 g166 g167 g168 g169 g170 g171 g172 g173 g174 g175 g176 g177 g178 g179:Value}{wr:World}{Q0:Exit→Act→World→Prop}{j bb off1 sc rc:Nat}{s:Bool×Bool}{v:Ch}{O:Pt→Nat→Prop}{ra:Option Addr}{ys:List Mg}{yb nb:Bool}{cd ci cn ct m0 m1 m2 m3 m4 m5 m6:Int}{oo:Od}{sa:Option Addr}(HG:Hid (Gl w))(HM:Hid (mayO o=true))(hlen:l.length≤9223372036854775807)(hlt:j<l.length)(c0:wr.cell? ⟨bb,off1+j*17,none⟩=some (.int .i64 cd))(c1:wr.cell? ⟨bb,off1+j*17+1,none⟩=some (.int .i64 ci))(c2:wr.cell? ⟨bb,off1+j*17+2,none⟩=some (.int .i64 cn))(c3:wr.cell? ⟨bb,off1+j*17+3,none⟩=some (.int .i64 ct))(c4:wr.cell? ⟨bb,off1+j*17+4,none⟩=some (.int .i64 oo.id))(c5:wr.cell? ⟨bb,off1+j*17+5,none⟩=some (.int .i64 oo.item))(c6:wr.cell? ⟨bb,off1+j*17+6,none⟩=some (.int .i64 oo.qty))(c7:wr.cell? ⟨bb,off1+j*17+7,none⟩=some (.int .i64 oo.client))(c8:wr.cell? ⟨bb,off1+j*17+8,none⟩=some (.int .i64 oo.price))(c9:wr.cell? ⟨bb,off1+j*17+9,none⟩=some (.slice sa oo.steps.length sc))(c10:wr.cell? ⟨bb,off1+j*17+10,none⟩=some (.int .i64 m0))(c11:wr.cell? ⟨bb,off1+j*17+11,none⟩=some (.int .i64 m1))(c12:wr.cell? ⟨bb,off1+j*17+12,none⟩=some (.int .i64 m2))(c13:wr.cell? ⟨bb,off1+j*17+13,none⟩=some (.int .i64 m3))(c14:wr.cell? ⟨bb,off1+j*17+14,none⟩=some (.int .i64 m4))(c15:wr.cell? ⟨bb,off1+j*17+15,none⟩=some (.int .i64 m5))(c16:wr.cell? ⟨bb,off1+j*17+16,none⟩=some (.int .i64 m6))
 (HK:Hid (LSt w o a c sk s wr p O v)) (HA:Hid (AnI wr O ra rc ys o.id)) (HY:Hid (SaidY o v yb nb)) (HOD:Hid (OdIn w o a c)) (e1:cd=7) (hz:0<ys.length) (e6:m0=7) (e7:m1=1):
 Code.wp Tryz.prog (((Tryz.f4.body.bind (fun c=>(loopsL c)[0]?)).getD .skip)) (Exit.then (fun a' w''=>LI w o a c sk p l (some ⟨bb,off1,none⟩) cap g0 g1 g3 g4 g7 g11 g18 g19 g20 g21 g22 g23 g24 g25 g26 g27 g28 g29 g30 g31 g32 g33 g34 g35 g36 g180 a' w''∧Lmu l.length a' w''<l.length-j) Q0) ⟨#[g0,g1,.pointer (some ⟨w.heap.size,0,none⟩),g3,g4,.pointer (some ⟨p,0,none⟩),.slice ra ys.length rc,g7,.bool yb,.bool nb,.pointer (some ⟨sk,0,none⟩),g11,g12,g13,g14,g15,g16,g17,g18,g19,g20,g21,g22,g23,g24,g25,g26,g27,g28,g29,g30,g31,g32,g33,g34,g35,g36,.slice (some ⟨bb,off1,none⟩) l.length cap,.int .i64 (l.length:Int),.int .i64 (j:Int),g40,g41,g42,g43,g44,g45,g46,g47,g48,g49,g50,g51,g52,g53,g54,g55,g56,g57,g58,g59,g60,g61,g62,g63,g64,g65,g66,g67,g68,g69,g70,g71,g72,g73,g74,g75,g76,g77,g78,g79,g80,g81,g82,g83,g84,g85,g86,g87,g88,g89,g90,g91,g92,g93,g94,g95,g96,g97,g98,g99,g100,g101,g102,g103,g104,g105,g106,g107,g108,g109,g110,g111,g112,g113,g114,g115,g116,g117,g118,g119,g120,g121,g122,g123,g124,g125,g126,g127,g128,g129,g130,g131,g132,g133,g134,g135,g136,g137,g138,g139,g140,g141,g142,g143,g144,g145,g146,g147,g148,g149,g150,g151,g152,g153,g154,g155,g156,g157,g158,g159,g160,g161,g162,g163,g164,g165,g166,g167,g168,g169,g170,g171,g172,g173,g174,g175,g176,g177,g178,g179,g180],[]⟩ wr:=by
 have ql:(j:Int)<(l.length:Int):=by omega
 obtain⟨V,hV⟩:∃V,wr.alloc (.cells #[.int .i64 cd,.int .i64 ci,.int .i64 cn,.int .i64 ct,.int .i64 oo.id,.int .i64 oo.item,.int .i64 oo.qty,.int .i64 oo.client,.int .i64 oo.price,.slice sa oo.steps.length sc,.int .i64 m0,.int .i64 m1,.int .i64 m2,.int .i64 m3,.int .i64 m4,.int .i64 m5,.int .i64 m6] 36)=V:=⟨_,rfl⟩
 have hVs:V.heap.size=wr.heap.size+1:=by rw[←hV];simp
 have HBV:Hid (Below wr.heap.size wr V):=by show Below _ _ _;rw[←hV];exact(zF _ _).alloc (zD _) _
 have HXV:Hid (V.heap[wr.heap.size]?=some (.cells #[.int .i64 cd,.int .i64 ci,.int .i64 cn,.int .i64 ct,.int .i64 oo.id,.int .i64 oo.item,.int .i64 oo.qty,.int .i64 oo.client,.int .i64 oo.price,.slice sa oo.steps.length sc,.int .i64 m0,.int .i64 m1,.int .i64 m2,.int .i64 m3,.int .i64 m4,.int .i64 m5,.int .i64 m6] 36 (0,0))):=by show _=_;rw[←hV];exact zI wr _
 have KV:=hide (HK.out.on HBV.out)
 have AV:=hide (HA.out.on HBV.out)
 subst e6 e7
 subst e1
 have q16:(ys.length:Int)>0:=by omega
 clear hz
 have d0:V.cell? ⟨wr.heap.size,0,none⟩=some (.int .i64 7):=by rw[cell_of HXV.out];rfl
 have d10:V.cell? ⟨wr.heap.size,10,none⟩=some (.int .i64 7):=by rw[cell_of HXV.out];rfl
 have d11:V.cell? ⟨wr.heap.size,11,none⟩=some (.int .i64 1):=by rw[cell_of HXV.out];rfl
 have d12:V.cell? ⟨wr.heap.size,12,none⟩=some (.int .i64 m2):=by rw[cell_of HXV.out];rfl
 have d13:V.cell? ⟨wr.heap.size,13,none⟩=some (.int .i64 m3):=by rw[cell_of HXV.out];rfl
 have d14:V.cell? ⟨wr.heap.size,14,none⟩=some (.int .i64 m4):=by rw[cell_of HXV.out];rfl
 have d15:V.cell? ⟨wr.heap.size,15,none⟩=some (.int .i64 m5):=by rw[cell_of HXV.out];rfl
 have d16:V.cell? ⟨wr.heap.size,16,none⟩=some (.int .i64 m6):=by rw[cell_of HXV.out];rfl
 have hx0:=zI V (.cells #[.int .i64 7,.int .i64 1,.int .i64 m2,.int .i64 m3,.int .i64 m4,.int .i64 m5,.int .i64 m6] 34)
 have KV0:=hide (KV.out.on ((zF _ _).alloc (zD _) (.cells #[.int .i64 7,.int .i64 1,.int .i64 m2,.int .i64 m3,.int .i64 m4,.int .i64 m5,.int .i64 m6] 34)))
 obtain⟨x0,-,-,-,-,-⟩:=KV0.out.1.c06
 obtain⟨X,hX⟩:∃X,V.alloc (.cells #[.int .i64 7,.int .i64 1,.int .i64 0,.int .i64 o.id,.int .i64 m4,.int .i64 m5,.int .i64 m6] 34)=X:=⟨_,rfl⟩
 have hx3:X.heap[V.heap.size]?=some (.cells #[.int .i64 7,.int .i64 1,.int .i64 0,.int .i64 o.id,.int .i64 m4,.int .i64 m5,.int .i64 m6] 34 (0,0)):=by
  rw[←hX];exact zI V _
 have HBX:Hid (Below V.heap.size V X):=by
  show Below _ _ _
  rw[←hX];exact(zF _ _).alloc (zD _) _
 have KX:=hide (KV.out.on HBX.out)
 have AX:=hide (AV.out.on HBX.out)
 have dX:X.cell? ⟨wr.heap.size,0,none⟩=some (.int .i64 7):=cellL d0 HBX.out
 obtain⟨hs1,hs2,hs3⟩:=KX.out.say 0 0 (.inl ⟨rfl,rfl⟩)
 obtain⟨z0,z1,f0,f1⟩:=KX.out.c2
 have ysk:X.cell? ⟨V.heap.size,0,none⟩=some (.int .i64 7):=by rw[cell_of hx3];rfl
 have ys1:X.cell? ⟨V.heap.size,1,none⟩=some (.int .i64 1):=by rw[cell_of hx3];rfl
 have hne:V.heap.size≠sk:=fun e=>two_cells hx3 KX.out.2.1.1 (by decide) e
 obtain⟨X1,hX1⟩:∃X1,X.setCell ⟨sk,0,none⟩ (.bool true)=X1:=⟨_,rfl⟩
 have hx4:X1.heap[V.heap.size]?=some (.cells #[.int .i64 7,.int .i64 1,.int .i64 0,.int .i64 o.id,.int .i64 m4,.int .i64 m5,.int .i64 m6] 34 (0,0)):=by rw[←hX1];exact(zN _ _ _ _ hne).trans hx3
 rw[hX1]at hs1 hs2
 have C:=LSt.handleI HG.out HM.out (s0:=s) (m:=⟨7,1,0,o.id,m4,m5,m6⟩) hs1 HK.out.2.2.2 rfl rfl ⟨hs2 _ _ _ AX.out.1,AX.out.2⟩
 have y0:X1.cell? ⟨V.heap.size,0,none⟩=some (.int .i64 7):=by rw[cell_of hx4];rfl
 have y1:X1.cell? ⟨V.heap.size,1,none⟩=some (.int .i64 1):=by rw[cell_of hx4];rfl
 have y2:X1.cell? ⟨V.heap.size,2,none⟩=some (.int .i64 0):=by rw[cell_of hx4];rfl
 have y3:X1.cell? ⟨V.heap.size,3,none⟩=some (.int .i64 o.id):=by rw[cell_of hx4];rfl
 have y4:X1.cell? ⟨V.heap.size,4,none⟩=some (.int .i64 m4):=by rw[cell_of hx4];rfl
 have y5:X1.cell? ⟨V.heap.size,5,none⟩=some (.int .i64 m5):=by rw[cell_of hx4];rfl
 have y6:X1.cell? ⟨V.heap.size,6,none⟩=some (.int .i64 m6):=by rw[cell_of hx4];rfl
 have HV:=hide hV
 have HX:=hide hX
 have HX1:=hide hX1
 clear hVs hx0 KV0 hx3 KX AX HBX hs1 hs2 hs3 hne hx4
 conv=>arg 2;whnf
 go_upto_block 2 with fail
 go_cut [13,14]from 40 to 179 (fun out _ wx=>∃(s':Bool×Bool)(x:Option Addr)(y:Nat)(xs:List Mg),out= .slice x xs.length y∧Hid (StI w o a c sk s' p v ra rc ys x y xs wx))
 case first=>
  clear KV AV HXV HBV HK HA HY
  go_wp2_with(go_at_call 24;refine C.mono ?_;clear C;rintro e v5 ⟨x,xs,y,rfl,h1⟩;have Z1:=hide h1;clear h1)
  go_meet
  exact⟨(sdY s 0),x,y,xs,rfl,Z1⟩
 case rest=>
  obtain⟨s',x,y,xs,rfl,HS⟩:=hcut;rename_i K hK;refine hK _ _ ?_;clear hK K;refine las_rest HM HOD HS HY ?_;intro a' w' hI;unfold LP at hI;obtain⟨s2,v2,O2,ra2,rc2,ys2,yb2,nb2,hI⟩:=hI;iterate 146 obtain⟨_,hI⟩:=hI
  obtain⟨HK3,HA3,HY3,rfl⟩:=hI;clear HS HY
  go_wp2
  refine⟨⟨j+1,s2,v2,O2,ra2,rc2,ys2,yb2,nb2,_,_,_,_,_,_,_,_,_,_,_,_,_,_,_,_,_,_,_,_,_,_,_,_,_,_,_,_,_,_,_,_,_,_,_,_,_,_,_,_,_,_,_,_,_,_,_,_,_,_,_,_,_,_,_,_,_,_,_,_,_,_,_,_,_,_,_,_,_,_,_,_,_,_,_,_,_,_,_,_,_,_,_,_,_,_,_,_,_,_,_,_,_,_,_,_,_,_,_,_,_,_,_,_,_,_,_,_,_,_,_,_,_,_,_,_,_,_,_,_,_,_,_,_,_,_,_,_,_,_,_,_,_,_,_,_,_,_,_,_,_,_,_,_,_,_,_,by go_num,by omega,HK3,HA3,HY3,rfl⟩,?_⟩;simp[Lmu,Go.RowKit.intOf];omega
set_option maxRecDepth 1000000 in
set_option maxHeartbeats 8000000 in
theorem las_b2{w:World}{o:Od}{a:Option Addr}{c sk p:Nat}{l:List C22.Cl}{cap:Nat}{g0 g1 g3 g4 g7 g11 g18 g19 g20 g21 g22 g23 g24 g25 g26 g27 g28 g29 g30 g31 g32 g33 g34 g35 g36 g180 g12 g13 g14 g15 g16 g17 g40 g41 g42 g43 g44 g45 g46 g47 g48 g49 g50 g51 g52 g53 g54 g55 g56 g57 g58 g59 g60 g61 g62 g63 g64 g65 g66 g67 g68 g69 g70 g71 g72 g73 g74 g75 g76 g77 g78 g79 g80 g81 g82 g83 g84 g85 g86 g87 g88 g89 g90 g91 g92 g93 g94 g95 g96 g97 g98 g99 g100 g101 g102 g103 g104 g105 g106 g107 g108 g109 g110 g111 g112 g113 g114 g115 g116 g117 g118 g119 g120 g121 g122 g123 g124 g125 g126 g127 g128 g129 g130 g131 g132 g133 g134 g135 g136 g137 g138 g139 g140 g141 g142 g143 g144 g145 g146 g147 g148 g149 g150 g151 g152 g153 g154 g155 g156 g157 g158 g159 g160 g161 g162 g163 g164 g165 g166 g167 g168 g169 g170 g171 g172 g173 g174 g175 g176 g177 g178 g179:Value}{wr:World}{Q0:Exit→Act→World→Prop}{j bb off1 sc rc:Nat}{s:Bool×Bool}{v:Ch}{O:Pt→Nat→Prop}{ra:Option Addr}{ys:List Mg}{yb nb:Bool}{cd ci cn ct m0 m1 m2 m3 m4 m5 m6:Int}{oo:Od}{sa:Option Addr}(HG:Hid (Gl w))(HM:Hid (mayO o=true))(hlen:l.length≤9223372036854775807)(hlt:j<l.length)(c0:wr.cell? ⟨bb,off1+j*17,none⟩=some (.int .i64 cd))(c1:wr.cell? ⟨bb,off1+j*17+1,none⟩=some (.int .i64 ci))(c2:wr.cell? ⟨bb,off1+j*17+2,none⟩=some (.int .i64 cn))(c3:wr.cell? ⟨bb,off1+j*17+3,none⟩=some (.int .i64 ct))(c4:wr.cell? ⟨bb,off1+j*17+4,none⟩=some (.int .i64 oo.id))(c5:wr.cell? ⟨bb,off1+j*17+5,none⟩=some (.int .i64 oo.item))(c6:wr.cell? ⟨bb,off1+j*17+6,none⟩=some (.int .i64 oo.qty))(c7:wr.cell? ⟨bb,off1+j*17+7,none⟩=some (.int .i64 oo.client))(c8:wr.cell? ⟨bb,off1+j*17+8,none⟩=some (.int .i64 oo.price))(c9:wr.cell? ⟨bb,off1+j*17+9,none⟩=some (.slice sa oo.steps.length sc))(c10:wr.cell? ⟨bb,off1+j*17+10,none⟩=some (.int .i64 m0))(c11:wr.cell? ⟨bb,off1+j*17+11,none⟩=some (.int .i64 m1))(c12:wr.cell? ⟨bb,off1+j*17+12,none⟩=some (.int .i64 m2))(c13:wr.cell? ⟨bb,off1+j*17+13,none⟩=some (.int .i64 m3))(c14:wr.cell? ⟨bb,off1+j*17+14,none⟩=some (.int .i64 m4))(c15:wr.cell? ⟨bb,off1+j*17+15,none⟩=some (.int .i64 m5))(c16:wr.cell? ⟨bb,off1+j*17+16,none⟩=some (.int .i64 m6))
 (HK:Hid (LSt w o a c sk s wr p O v)) (HA:Hid (AnI wr O ra rc ys o.id)) (HY:Hid (SaidY o v yb nb)) (HOD:Hid (OdIn w o a c)) (e1:cd=7) (hz:0<ys.length) (e6:m0=7) (e7:m1=2):
 Code.wp Tryz.prog (((Tryz.f4.body.bind (fun c=>(loopsL c)[0]?)).getD .skip)) (Exit.then (fun a' w''=>LI w o a c sk p l (some ⟨bb,off1,none⟩) cap g0 g1 g3 g4 g7 g11 g18 g19 g20 g21 g22 g23 g24 g25 g26 g27 g28 g29 g30 g31 g32 g33 g34 g35 g36 g180 a' w''∧Lmu l.length a' w''<l.length-j) Q0) ⟨#[g0,g1,.pointer (some ⟨w.heap.size,0,none⟩),g3,g4,.pointer (some ⟨p,0,none⟩),.slice ra ys.length rc,g7,.bool yb,.bool nb,.pointer (some ⟨sk,0,none⟩),g11,g12,g13,g14,g15,g16,g17,g18,g19,g20,g21,g22,g23,g24,g25,g26,g27,g28,g29,g30,g31,g32,g33,g34,g35,g36,.slice (some ⟨bb,off1,none⟩) l.length cap,.int .i64 (l.length:Int),.int .i64 (j:Int),g40,g41,g42,g43,g44,g45,g46,g47,g48,g49,g50,g51,g52,g53,g54,g55,g56,g57,g58,g59,g60,g61,g62,g63,g64,g65,g66,g67,g68,g69,g70,g71,g72,g73,g74,g75,g76,g77,g78,g79,g80,g81,g82,g83,g84,g85,g86,g87,g88,g89,g90,g91,g92,g93,g94,g95,g96,g97,g98,g99,g100,g101,g102,g103,g104,g105,g106,g107,g108,g109,g110,g111,g112,g113,g114,g115,g116,g117,g118,g119,g120,g121,g122,g123,g124,g125,g126,g127,g128,g129,g130,g131,g132,g133,g134,g135,g136,g137,g138,g139,g140,g141,g142,g143,g144,g145,g146,g147,g148,g149,g150,g151,g152,g153,g154,g155,g156,g157,g158,g159,g160,g161,g162,g163,g164,g165,g166,g167,g168,g169,g170,g171,g172,g173,g174,g175,g176,g177,g178,g179,g180],[]⟩ wr:=by
 have ql:(j:Int)<(l.length:Int):=by omega
 obtain⟨V,hV⟩:∃V,wr.alloc (.cells #[.int .i64 cd,.int .i64 ci,.int .i64 cn,.int .i64 ct,.int .i64 oo.id,.int .i64 oo.item,.int .i64 oo.qty,.int .i64 oo.client,.int .i64 oo.price,.slice sa oo.steps.length sc,.int .i64 m0,.int .i64 m1,.int .i64 m2,.int .i64 m3,.int .i64 m4,.int .i64 m5,.int .i64 m6] 36)=V:=⟨_,rfl⟩
 have hVs:V.heap.size=wr.heap.size+1:=by rw[←hV];simp
 have HBV:Hid (Below wr.heap.size wr V):=by show Below _ _ _;rw[←hV];exact(zF _ _).alloc (zD _) _
 have HXV:Hid (V.heap[wr.heap.size]?=some (.cells #[.int .i64 cd,.int .i64 ci,.int .i64 cn,.int .i64 ct,.int .i64 oo.id,.int .i64 oo.item,.int .i64 oo.qty,.int .i64 oo.client,.int .i64 oo.price,.slice sa oo.steps.length sc,.int .i64 m0,.int .i64 m1,.int .i64 m2,.int .i64 m3,.int .i64 m4,.int .i64 m5,.int .i64 m6] 36 (0,0))):=by show _=_;rw[←hV];exact zI wr _
 have KV:=hide (HK.out.on HBV.out)
 have AV:=hide (HA.out.on HBV.out)
 subst e6 e7
 subst e1
 have q16:(ys.length:Int)>0:=by omega
 clear hz
 have d0:V.cell? ⟨wr.heap.size,0,none⟩=some (.int .i64 7):=by rw[cell_of HXV.out];rfl
 have d10:V.cell? ⟨wr.heap.size,10,none⟩=some (.int .i64 7):=by rw[cell_of HXV.out];rfl
 have d11:V.cell? ⟨wr.heap.size,11,none⟩=some (.int .i64 2):=by rw[cell_of HXV.out];rfl
 have d12:V.cell? ⟨wr.heap.size,12,none⟩=some (.int .i64 m2):=by rw[cell_of HXV.out];rfl
 have d13:V.cell? ⟨wr.heap.size,13,none⟩=some (.int .i64 m3):=by rw[cell_of HXV.out];rfl
 have d14:V.cell? ⟨wr.heap.size,14,none⟩=some (.int .i64 m4):=by rw[cell_of HXV.out];rfl
 have d15:V.cell? ⟨wr.heap.size,15,none⟩=some (.int .i64 m5):=by rw[cell_of HXV.out];rfl
 have d16:V.cell? ⟨wr.heap.size,16,none⟩=some (.int .i64 m6):=by rw[cell_of HXV.out];rfl
 have hx0:=zI V (.cells #[.int .i64 7,.int .i64 2,.int .i64 m2,.int .i64 m3,.int .i64 m4,.int .i64 m5,.int .i64 m6] 34)
 have KV0:=hide (KV.out.on ((zF _ _).alloc (zD _) (.cells #[.int .i64 7,.int .i64 2,.int .i64 m2,.int .i64 m3,.int .i64 m4,.int .i64 m5,.int .i64 m6] 34)))
 obtain⟨x0,-,-,-,-,-⟩:=KV0.out.1.c06
 obtain⟨X,hX⟩:∃X,V.alloc (.cells #[.int .i64 7,.int .i64 2,.int .i64 0,.int .i64 o.id,.int .i64 m4,.int .i64 m5,.int .i64 m6] 34)=X:=⟨_,rfl⟩
 have hx3:X.heap[V.heap.size]?=some (.cells #[.int .i64 7,.int .i64 2,.int .i64 0,.int .i64 o.id,.int .i64 m4,.int .i64 m5,.int .i64 m6] 34 (0,0)):=by
  rw[←hX];exact zI V _
 have HBX:Hid (Below V.heap.size V X):=by
  show Below _ _ _
  rw[←hX];exact(zF _ _).alloc (zD _) _
 have KX:=hide (KV.out.on HBX.out)
 have AX:=hide (AV.out.on HBX.out)
 have dX:X.cell? ⟨wr.heap.size,0,none⟩=some (.int .i64 7):=cellL d0 HBX.out
 obtain⟨hs1,hs2,hs3⟩:=KX.out.say 1 1 (.inr ⟨by decide,rfl⟩)
 obtain⟨z0,z1,f0,f1⟩:=KX.out.c2
 have ysk:X.cell? ⟨V.heap.size,0,none⟩=some (.int .i64 7):=by rw[cell_of hx3];rfl
 have ys1:X.cell? ⟨V.heap.size,1,none⟩=some (.int .i64 2):=by rw[cell_of hx3];rfl
 have hne:V.heap.size≠sk:=fun e=>two_cells hx3 KX.out.2.1.1 (by decide) e
 obtain⟨X1,hX1⟩:∃X1,X.setCell ⟨sk,1,none⟩ (.bool true)=X1:=⟨_,rfl⟩
 have hx4:X1.heap[V.heap.size]?=some (.cells #[.int .i64 7,.int .i64 2,.int .i64 0,.int .i64 o.id,.int .i64 m4,.int .i64 m5,.int .i64 m6] 34 (0,0)):=by rw[←hX1];exact(zN _ _ _ _ hne).trans hx3
 rw[hX1]at hs1 hs2
 have C:=LSt.handleI HG.out HM.out (s0:=s) (m:=⟨7,2,0,o.id,m4,m5,m6⟩) hs1 HK.out.2.2.2 rfl rfl ⟨hs2 _ _ _ AX.out.1,AX.out.2⟩
 have y0:X1.cell? ⟨V.heap.size,0,none⟩=some (.int .i64 7):=by rw[cell_of hx4];rfl
 have y1:X1.cell? ⟨V.heap.size,1,none⟩=some (.int .i64 2):=by rw[cell_of hx4];rfl
 have y2:X1.cell? ⟨V.heap.size,2,none⟩=some (.int .i64 0):=by rw[cell_of hx4];rfl
 have y3:X1.cell? ⟨V.heap.size,3,none⟩=some (.int .i64 o.id):=by rw[cell_of hx4];rfl
 have y4:X1.cell? ⟨V.heap.size,4,none⟩=some (.int .i64 m4):=by rw[cell_of hx4];rfl
 have y5:X1.cell? ⟨V.heap.size,5,none⟩=some (.int .i64 m5):=by rw[cell_of hx4];rfl
 have y6:X1.cell? ⟨V.heap.size,6,none⟩=some (.int .i64 m6):=by rw[cell_of hx4];rfl
 have HV:=hide hV
 have HX:=hide hX
 have HX1:=hide hX1
 clear hVs hx0 KV0 hx3 KX AX HBX hs1 hs2 hs3 hne hx4
 conv=>arg 2;whnf
 go_upto_block 2 with fail
 go_cut [13,14]from 40 to 179 (fun out _ wx=>∃(s':Bool×Bool)(x:Option Addr)(y:Nat)(xs:List Mg),out= .slice x xs.length y∧Hid (StI w o a c sk s' p v ra rc ys x y xs wx))
 case first=>
  clear KV AV HXV HBV HK HA HY
  go_wp2_with(go_at_call 24;refine C.mono ?_;clear C;rintro e v5 ⟨x,xs,y,rfl,h1⟩;have Z1:=hide h1;clear h1)
  go_meet
  exact⟨(sdY s 1),x,y,xs,rfl,Z1⟩
 case rest=>
  obtain⟨s',x,y,xs,rfl,HS⟩:=hcut;rename_i K hK;refine hK _ _ ?_;clear hK K;refine las_rest HM HOD HS HY ?_;intro a' w' hI;unfold LP at hI;obtain⟨s2,v2,O2,ra2,rc2,ys2,yb2,nb2,hI⟩:=hI;iterate 146 obtain⟨_,hI⟩:=hI
  obtain⟨HK3,HA3,HY3,rfl⟩:=hI;clear HS HY
  go_wp2
  refine⟨⟨j+1,s2,v2,O2,ra2,rc2,ys2,yb2,nb2,_,_,_,_,_,_,_,_,_,_,_,_,_,_,_,_,_,_,_,_,_,_,_,_,_,_,_,_,_,_,_,_,_,_,_,_,_,_,_,_,_,_,_,_,_,_,_,_,_,_,_,_,_,_,_,_,_,_,_,_,_,_,_,_,_,_,_,_,_,_,_,_,_,_,_,_,_,_,_,_,_,_,_,_,_,_,_,_,_,_,_,_,_,_,_,_,_,_,_,_,_,_,_,_,_,_,_,_,_,_,_,_,_,_,_,_,_,_,_,_,_,_,_,_,_,_,_,_,_,_,_,_,_,_,_,_,_,_,_,_,_,_,_,_,_,_,_,by go_num,by omega,HK3,HA3,HY3,rfl⟩,?_⟩;simp[Lmu,Go.RowKit.intOf];omega
end Go.Proofs.YthfgmpooehkhgaaGreatDoor
