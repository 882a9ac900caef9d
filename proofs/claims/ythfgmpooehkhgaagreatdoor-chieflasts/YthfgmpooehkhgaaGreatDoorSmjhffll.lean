import Derived.Test.YthfgmpooehkhgaaGreatDoorSmjcphkj
namespace Go.Proofs.YthfgmpooehkhgaaGreatDoor
open Go.ChangeShapes Go.WideShapes Go.ChangeAt Go.RowKit Go.Maps Sg Bl
open Nat renaming le_refl→zD
open Below renaming refl→zF,heap_setCell→zN
open Go.World renaming alloc_heap_new→zI
theorem idx_run(gb gz n c k:Nat)(hk:k<n)(u:World):(Instr.indexAt 29 (.slice (some ⟨gb,gz,none⟩) n c) (.int .i64 (k:Int))).run Tryz.prog u= .ok (.pointer (some ⟨gb,gz+k*7,none⟩)) u:=by
 simp[Instr.indexAt,run_underlying Tryz.underlying29,go_sem,hk]
theorem rem_run(c:Int)(n:Nat)(h0:0<n)(u:World):(binOp BinOp.rem 45 (.int .u64 (IntKind.u64.wrap c)) (.int .u64 (n:Int))).run Tryz.prog u= .ok (.int .u64 ((IntKind.u64.wrap c).tmod (n:Int))) u:=by
 have h1:¬n=0:=by omega
 simp[binOp,Op.intDiv,h1]
theorem um_bd2(a m:Int)(h1:0<m)(h2:m≤9223372036854775807):0≤um a m∧um a m<m:=by
 unfold um
 have h0:0≤IntKind.u64.wrap a:=by rw[IntKind.wrap_u64];omega
 have h3:0≤(IntKind.u64.wrap a).tmod m:=by rw[Int.tmod_eq_emod_of_nonneg h0];exact Int.emod_nonneg _ (by omega)
 have h4:(IntKind.u64.wrap a).tmod m<m:=by rw[Int.tmod_eq_emod_of_nonneg h0];exact Int.emod_lt_of_pos _ h1
 rw[IntWalk.wrap64_in _ (by omega)]
 exact⟨h3,h4⟩
theorem AnI.len{u:World}{O:Pt→Nat→Prop}{ra:Option Addr}{rc:Nat}{ys:List Mg}{x:Int}(h:AnI u O ra rc ys x):(ys.length:Int)≤9223372036854775807:=by
 obtain⟨⟨⟨B0,h1⟩,-⟩,-⟩:=h
 rcases h1.2 with⟨-,h2⟩|⟨g,cap,cur,-,-,-,h3,h4,-⟩
 ·omega
 ·unfold maxLen at h4;omega
set_option maxRecDepth 1000000 in
set_option maxHeartbeats 8000000 in
theorem las_f{w:World}{o:Od}{a:Option Addr}{c sk p:Nat}{l:List C22.Cl}{cap:Nat}{g0 g1 g3 g4 g7 g11 g18 g19 g20 g21 g22 g23 g24 g25 g26 g27 g28 g29 g30 g31 g32 g33 g34 g35 g36 g180 g12 g13 g14 g15 g16 g17 g40 g41 g42 g43 g44 g45 g46 g47 g48 g49 g50 g51 g52 g53 g54 g55 g56 g57 g58 g59 g60 g61 g62 g63 g64 g65 g66 g67 g68 g69 g70 g71 g72 g73 g74 g75 g76 g77 g78 g79 g80 g81 g82 g83 g84 g85 g86 g87 g88 g89 g90 g91 g92 g93 g94 g95 g96 g97 g98 g99 g100 g101 g102 g103 g104 g105 g106 g107 g108 g109 g110 g111 g112 g113 g114 g115 g116 g117 g118 g119 g120 g121 g122 g123 g124 g125 g126 g127 g128 g129 g130 g131 g132 g133 g134 g135 g136 g137 g138 g139 g140 g141 g142 g143 g144 g145 g146 g147 g148 g149 g150 g151 g152 g153 g154 g155 g156 g157 g158 g159 g160 g161 g162 g163 g164 g165 g166 g167 g168 g169 g170 g171 g172 g173 g174 g175 g176 g177 g178 g179:Value}{wr:World}{Q0:Exit→Act→World→Prop}{j bb off1 sc rc:Nat}{s:Bool×Bool}{v:Ch}{O:Pt→Nat→Prop}{ra:Option Addr}{ys:List Mg}{yb nb:Bool}{cd ci cn ct m0 m1 m2 m3 m4 m5 m6:Int}{oo:Od}{sa:Option Addr}(HG:Hid (Gl w))(HM:Hid (mayO o=true))(hlen:l.length≤9223372036854775807)(hlt:j<l.length)(c0:wr.cell? ⟨bb,off1+j*17,none⟩=some (.int .i64 cd))(c1:wr.cell? ⟨bb,off1+j*17+1,none⟩=some (.int .i64 ci))(c2:wr.cell? ⟨bb,off1+j*17+2,none⟩=some (.int .i64 cn))(c3:wr.cell? ⟨bb,off1+j*17+3,none⟩=some (.int .i64 ct))(c4:wr.cell? ⟨bb,off1+j*17+4,none⟩=some (.int .i64 oo.id))(c5:wr.cell? ⟨bb,off1+j*17+5,none⟩=some (.int .i64 oo.item))(c6:wr.cell? ⟨bb,off1+j*17+6,none⟩=some (.int .i64 oo.qty))(c7:wr.cell? ⟨bb,off1+j*17+7,none⟩=some (.int .i64 oo.client))(c8:wr.cell? ⟨bb,off1+j*17+8,none⟩=some (.int .i64 oo.price))(c9:wr.cell? ⟨bb,off1+j*17+9,none⟩=some (.slice sa oo.steps.length sc))(c10:wr.cell? ⟨bb,off1+j*17+10,none⟩=some (.int .i64 m0))(c11:wr.cell? ⟨bb,off1+j*17+11,none⟩=some (.int .i64 m1))(c12:wr.cell? ⟨bb,off1+j*17+12,none⟩=some (.int .i64 m2))(c13:wr.cell? ⟨bb,off1+j*17+13,none⟩=some (.int .i64 m3))(c14:wr.cell? ⟨bb,off1+j*17+14,none⟩=some (.int .i64 m4))(c15:wr.cell? ⟨bb,off1+j*17+15,none⟩=some (.int .i64 m5))(c16:wr.cell? ⟨bb,off1+j*17+16,none⟩=some (.int .i64 m6))
 (HK:Hid (LSt w o a c sk s wr p O v)) (HA:Hid (AnI wr O ra rc ys o.id)) (HY:Hid (SaidY o v yb nb)) (HOD:Hid (OdIn w o a c)) (e1:cd≠1) (e2:cd≠2) (e3:cd≠3) (e4:cd≠4) (e5:cd≠5) (e7:cd≠7) (hz:0<ys.length):
 Code.wp Tryz.prog (((Tryz.f4.body.bind (fun c=>(loopsL c)[0]?)).getD .skip)) (Exit.then (fun a' w''=>LI w o a c sk p l (some ⟨bb,off1,none⟩) cap g0 g1 g3 g4 g7 g11 g18 g19 g20 g21 g22 g23 g24 g25 g26 g27 g28 g29 g30 g31 g32 g33 g34 g35 g36 g180 a' w''∧Lmu l.length a' w''<l.length-j) Q0) ⟨#[g0,g1,.pointer (some ⟨w.heap.size,0,none⟩),g3,g4,.pointer (some ⟨p,0,none⟩),.slice ra ys.length rc,g7,.bool yb,.bool nb,.pointer (some ⟨sk,0,none⟩),g11,g12,g13,g14,g15,g16,g17,g18,g19,g20,g21,g22,g23,g24,g25,g26,g27,g28,g29,g30,g31,g32,g33,g34,g35,g36,.slice (some ⟨bb,off1,none⟩) l.length cap,.int .i64 (l.length:Int),.int .i64 (j:Int),g40,g41,g42,g43,g44,g45,g46,g47,g48,g49,g50,g51,g52,g53,g54,g55,g56,g57,g58,g59,g60,g61,g62,g63,g64,g65,g66,g67,g68,g69,g70,g71,g72,g73,g74,g75,g76,g77,g78,g79,g80,g81,g82,g83,g84,g85,g86,g87,g88,g89,g90,g91,g92,g93,g94,g95,g96,g97,g98,g99,g100,g101,g102,g103,g104,g105,g106,g107,g108,g109,g110,g111,g112,g113,g114,g115,g116,g117,g118,g119,g120,g121,g122,g123,g124,g125,g126,g127,g128,g129,g130,g131,g132,g133,g134,g135,g136,g137,g138,g139,g140,g141,g142,g143,g144,g145,g146,g147,g148,g149,g150,g151,g152,g153,g154,g155,g156,g157,g158,g159,g160,g161,g162,g163,g164,g165,g166,g167,g168,g169,g170,g171,g172,g173,g174,g175,g176,g177,g178,g179,g180],[]⟩ wr:=by
 have ql:(j:Int)<(l.length:Int):=by omega
 obtain⟨V,hV⟩:∃V,wr.alloc (.cells #[.int .i64 cd,.int .i64 ci,.int .i64 cn,.int .i64 ct,.int .i64 oo.id,.int .i64 oo.item,.int .i64 oo.qty,.int .i64 oo.client,.int .i64 oo.price,.slice sa oo.steps.length sc,.int .i64 m0,.int .i64 m1,.int .i64 m2,.int .i64 m3,.int .i64 m4,.int .i64 m5,.int .i64 m6] 36)=V:=⟨_,rfl⟩
 have hVs:V.heap.size=wr.heap.size+1:=by rw[←hV];simp
 have HBV:Hid (Below wr.heap.size wr V):=by show Below _ _ _;rw[←hV];exact(zF _ _).alloc (zD _) _
 have HXV:Hid (V.heap[wr.heap.size]?=some (.cells #[.int .i64 cd,.int .i64 ci,.int .i64 cn,.int .i64 ct,.int .i64 oo.id,.int .i64 oo.item,.int .i64 oo.qty,.int .i64 oo.client,.int .i64 oo.price,.slice sa oo.steps.length sc,.int .i64 m0,.int .i64 m1,.int .i64 m2,.int .i64 m3,.int .i64 m4,.int .i64 m5,.int .i64 m6] 36 (0,0))):=by show _=_;rw[←hV];exact zI wr _
 have KV:=hide (HK.out.on HBV.out)
 have AV:=hide (HA.out.on HBV.out)
 have b1:(cd==1)=false:=by simpa using e1
 have b2:(cd==2)=false:=by simpa using e2
 have b3:(cd==3)=false:=by simpa using e3
 have b4:(cd==4)=false:=by simpa using e4
 have b5:(cd==5)=false:=by simpa using e5
 have b7:(cd != 7)=true:=by simpa using e7
 have q16:(ys.length:Int)>0:=by omega
 have q17:¬(ys.length:Int)=0:=by omega
 have d0:V.cell? ⟨wr.heap.size,0,none⟩=some (.int .i64 cd):=by rw[cell_of HXV.out];rfl
 have d2:V.cell? ⟨wr.heap.size,2,none⟩=some (.int .i64 cn):=by rw[cell_of HXV.out];rfl
 have d10:V.cell? ⟨wr.heap.size,10,none⟩=some (.int .i64 m0):=by rw[cell_of HXV.out];rfl
 have d11:V.cell? ⟨wr.heap.size,11,none⟩=some (.int .i64 m1):=by rw[cell_of HXV.out];rfl
 have d12:V.cell? ⟨wr.heap.size,12,none⟩=some (.int .i64 m2):=by rw[cell_of HXV.out];rfl
 have d13:V.cell? ⟨wr.heap.size,13,none⟩=some (.int .i64 m3):=by rw[cell_of HXV.out];rfl
 have d14:V.cell? ⟨wr.heap.size,14,none⟩=some (.int .i64 m4):=by rw[cell_of HXV.out];rfl
 have d15:V.cell? ⟨wr.heap.size,15,none⟩=some (.int .i64 m5):=by rw[cell_of HXV.out];rfl
 have d16:V.cell? ⟨wr.heap.size,16,none⟩=some (.int .i64 m6):=by rw[cell_of HXV.out];rfl
 have hx0:=zI V (.cells #[.int .i64 m0,.int .i64 m1,.int .i64 m2,.int .i64 m3,.int .i64 m4,.int .i64 m5,.int .i64 m6] 34)
 have KV0:=hide (KV.out.on ((zF _ _).alloc (zD _) (.cells #[.int .i64 m0,.int .i64 m1,.int .i64 m2,.int .i64 m3,.int .i64 m4,.int .i64 m5,.int .i64 m6] 34)))
 obtain⟨x0,-,-,-,-,-⟩:=KV0.out.1.c06
 obtain⟨X,hX⟩:∃X,V.alloc (.cells #[.int .i64 m0,.int .i64 m1,.int .i64 0,.int .i64 o.id,.int .i64 m4,.int .i64 m5,.int .i64 m6] 34)=X:=⟨_,rfl⟩
 have hx3:X.heap[V.heap.size]?=some (.cells #[.int .i64 m0,.int .i64 m1,.int .i64 0,.int .i64 o.id,.int .i64 m4,.int .i64 m5,.int .i64 m6] 34 (0,0)):=by
  rw[←hX];exact zI V _
 have HBX:Hid (Below V.heap.size V X):=by
  show Below _ _ _
  rw[←hX];exact(zF _ _).alloc (zD _) _
 have dX0:X.cell? ⟨wr.heap.size,0,none⟩=some (.int .i64 cd):=cellL d0 HBX.out
 have dX2:X.cell? ⟨wr.heap.size,2,none⟩=some (.int .i64 cn):=cellL d2 HBX.out
 have hlen2:=(AV.out.on HBX.out).len
 obtain⟨hi0,hi1⟩:=um_bd2 cn ys.length (by omega) hlen2
 obtain⟨k,hk⟩:∃k:Nat,um cn ys.length=(k:Int):=⟨(um cn ys.length).toNat,by omega⟩
 have hkl:k<ys.length:=by omega
 have hk1:(k:Int)<(ys.length:Int):=by omega
 obtain⟨⟨n0,n1,n2,n3,n4,n5,n6⟩,hn⟩:∃m,ys[k]?=some m:=⟨ys[k],by simp[hkl]⟩
 have hid:=(AV.out.on HBX.out).2 _ (List.mem_of_getElem? hn)
 obtain⟨gb,gz,rfl,r0,r1,r2,r3,r4,r5,r6⟩:=(AV.out.on HBX.out).1.mgs.get hn
 dsimp only at hid r0 r1 r2 r3 r4 r5 r6
 rw[hid]at r3
 unfold um at hk
 have q18:¬ys= []:=fun e=>by rw[e]at hkl;simp at hkl
 have q19:IntKind.u64.wrap (ys.length:Int)=(ys.length:Int):=by rw[IntKind.wrap_u64];omega
 have q20:=rem_run cn ys.length (by omega)
 have q21:=idx_run gb gz ys.length rc k hkl
 have hk2:IntKind.i64.wrap ((IntKind.u64.wrap cn).tmod (ys.length:Int))=(k:Int):=by rw[IntWalk.i64_left];exact hk
 have hgb:gb<V.heap.size:=by
  obtain⟨⟨⟨B0,q1⟩,-⟩,-⟩:=AV.out;exact(q1.lt gb rfl).2
 have hw1:¬wr.heap.size=V.heap.size:=by omega
 have hw2:¬V.heap.size=wr.heap.size:=by omega
 have hw3:¬gb=V.heap.size:=by omega
 have hw4:¬V.heap.size=gb:=by omega
 have hw5:wr.heap.size≠V.heap.size:=hw1
 have hw6:gb≠V.heap.size:=hw3
 have FT:Hid (∀(i:Int)(u:World),Below X.heap.size X u→Calls Tryz.prog 23 #[.agg #[.int .i64 n0,.int .i64 n1,.int .i64 n2,.int .i64 o.id,.int .i64 n4,.int .i64 n5,.int .i64 n6],.int .i64 i] u fun e w'=>∃kk:Int,e= .returned (.agg #[.int .i64 kk,.int .i64 n2,.int .i64 0,.int .i64 o.id,.int .i64 n4,.int .i64 0,.int .i64 0])∧Below X.heap.size X w'∧w'.heap[V.heap.size]?=some (.cells #[.int .i64 m0,.int .i64 m1,.int .i64 0,.int .i64 o.id,.int .i64 m4,.int .i64 m5,.int .i64 m6] 34 (0,0))∧(w'.cell? ⟨wr.heap.size,2,none⟩=some (.int .i64 cn)∧w'.cell? ⟨gb,gz+k*7,none⟩=some (.int .i64 n0)∧w'.cell? ⟨gb,gz+k*7+1,none⟩=some (.int .i64 n1)∧w'.cell? ⟨gb,gz+k*7+2,none⟩=some (.int .i64 n2)∧w'.cell? ⟨gb,gz+k*7+3,none⟩=some (.int .i64 o.id)∧w'.cell? ⟨gb,gz+k*7+4,none⟩=some (.int .i64 n4)∧w'.cell? ⟨gb,gz+k*7+5,none⟩=some (.int .i64 n5)∧w'.cell? ⟨gb,gz+k*7+6,none⟩=some (.int .i64 n6))):=fun i u hu=>by
  refine(cfits_any ⟨n0,n1,n2,o.id,n4,n5,n6⟩ i u).mono ?_;rintro e w' ⟨kk,f1,f2⟩;have hb:=bel_on' hu f2
  exact⟨kk,f1,hb,Sg.keepB hx3 hb,cellL dX2 hb,cellL r0 hb,cellL r1 hb,cellL r2 hb,cellL r3 hb,cellL r4 hb,cellL r5 hb,cellL r6 hb⟩
 have HV:=hide hV
 have HX:=hide hX
 have hk0:(0:Int)≤(k:Int):=by omega
 clear hz hVs hx0 KV0 hn hid hi0 hi1 d2
 conv=>arg 2;whnf
 go_upto_block 2 with fail
 go_cut [13,14]from 40 to 179 (fun out _ wx=>∃(s':Bool×Bool)(x:Option Addr)(y:Nat)(xs:List Mg),out= .slice x xs.length y∧Hid (StI w o a c sk s' p v (some ⟨gb,gz,none⟩) rc ys x y xs wx))
 case first=>
  go_upto_region 17 with fail
  go_region_held3(fun w'=>w'.cell? ⟨wr.heap.size,2,none⟩=some (.int .i64 cn)∧w'.cell? ⟨gb,gz+k*7,none⟩=some (.int .i64 n0)∧w'.cell? ⟨gb,gz+k*7+1,none⟩=some (.int .i64 n1)∧w'.cell? ⟨gb,gz+k*7+2,none⟩=some (.int .i64 n2)∧w'.cell? ⟨gb,gz+k*7+3,none⟩=some (.int .i64 o.id)∧w'.cell? ⟨gb,gz+k*7+4,none⟩=some (.int .i64 n4)∧w'.cell? ⟨gb,gz+k*7+5,none⟩=some (.int .i64 n5)∧w'.cell? ⟨gb,gz+k*7+6,none⟩=some (.int .i64 n6)) (go_keep) (first
   |(go_at_call 23;refine(FT.out _ _ (by first|exact zF _ _|exact(zF _ _).drew)).mono ?_;clear FT;rintro e u5 ⟨kk,rfl,hb5,hx5,h2,h3,h4,h5,h6,h7,h8,h9⟩;clear dX2 r0 r1 r2 r3 r4 r5 r6;have dX2:=h2;have r0:=h3;have r1:=h4;have r2:=h5;have r3:=h6;have r4:=h7;have r5:=h8;have r6:=h9;have e0:u5.cell? ⟨V.heap.size,0,none⟩=some (.int .i64 m0):=(by rw[cell_of hx5];rfl);have f0:u5.frozen? ⟨V.heap.size,0,none⟩=false:=frozen_of_row _ _ _ _ _ hx5;have e1:u5.cell? ⟨V.heap.size,1,none⟩=some (.int .i64 m1):=(by rw[cell_of hx5];rfl);have f1:u5.frozen? ⟨V.heap.size,1,none⟩=false:=frozen_of_row _ _ _ _ _ hx5;have e2:u5.cell? ⟨V.heap.size,2,none⟩=some (.int .i64 0):=(by rw[cell_of hx5];rfl);have f2:u5.frozen? ⟨V.heap.size,2,none⟩=false:=frozen_of_row _ _ _ _ _ hx5;have e3:u5.cell? ⟨V.heap.size,3,none⟩=some (.int .i64 o.id):=(by rw[cell_of hx5];rfl);have f3:u5.frozen? ⟨V.heap.size,3,none⟩=false:=frozen_of_row _ _ _ _ _ hx5;have e4:u5.cell? ⟨V.heap.size,4,none⟩=some (.int .i64 m4):=(by rw[cell_of hx5];rfl);have f4:u5.frozen? ⟨V.heap.size,4,none⟩=false:=frozen_of_row _ _ _ _ _ hx5;have e5:u5.cell? ⟨V.heap.size,5,none⟩=some (.int .i64 m5):=(by rw[cell_of hx5];rfl);have f5:u5.frozen? ⟨V.heap.size,5,none⟩=false:=frozen_of_row _ _ _ _ _ hx5;have e6:u5.cell? ⟨V.heap.size,6,none⟩=some (.int .i64 m6):=(by rw[cell_of hx5];rfl);have f6:u5.frozen? ⟨V.heap.size,6,none⟩=false:=frozen_of_row _ _ _ _ _ hx5;have HB5:=hide hb5;have HX5:=hide hx5;clear h2 h3 h4 h5 h6 h7 h8 h9 hb5 hx5))
  obtain⟨X6,hX6⟩:∃X6,((((((u5.setCell ⟨V.heap.size,0,none⟩ (.int .i64 kk)).setCell ⟨V.heap.size,1,none⟩ (.int .i64 n2)).setCell ⟨V.heap.size,2,none⟩ (.int .i64 0)).setCell ⟨V.heap.size,3,none⟩ (.int .i64 o.id)).setCell ⟨V.heap.size,4,none⟩ (.int .i64 n4)).setCell ⟨V.heap.size,5,none⟩ (.int .i64 0)).setCell ⟨V.heap.size,6,none⟩ (.int .i64 0)=X6:=⟨_,rfl⟩
  have hx6:X6.heap[V.heap.size]?=some (.cells #[.int .i64 kk,.int .i64 n2,.int .i64 0,.int .i64 o.id,.int .i64 n4,.int .i64 0,.int .i64 0] 34 (0,0)):=by
   rw[←hX6];exact heap_setCell_same _ _ 6 _ _ _ (heap_setCell_same _ _ 5 _ _ _ (heap_setCell_same _ _ 4 _ _ _ (heap_setCell_same _ _ 3 _ _ _ (heap_setCell_same _ _ 2 _ _ _ (heap_setCell_same _ _ 1 _ _ _ (heap_setCell_same _ _ 0 _ _ _ HX5.out))))))
  have hb6:Below V.heap.size V X6:=by
   rw[←hX6];have hb:=bel_on' HBX.out HB5.out
   exact(((((((hb.setCell (zD _) _).setCell (zD _) _).setCell (zD _) _).setCell (zD _) _).setCell (zD _) _).setCell (zD _) _).setCell (zD _) _)
  have K6:=hide (KV.out.on hb6)
  have A6:=hide (AV.out.on hb6)
  rw[hX6];have H6:=hide hx6
  clear hX6 hb6 hx6 e0 e1 e2 e3 e4 e5 e6 f0 f1 f2 f3 f4 f5 f6 dX0 dX2 r0 r1 r2 r3 r4 r5 r6 q18 q19 q20 q21 hk hk2 hgb hw1 hw2 hw3 hw4 hw5 hw6 HBX KV AV HB5 HX5;by_cases ek:kk=7
  ·subst ek;by_cases en1:n2=1
   ·subst en1;obtain⟨hs1,hs2,hs3⟩:=K6.out.say 0 0 (.inl ⟨rfl,rfl⟩);obtain⟨z0,z1,f0,f1⟩:=K6.out.c2;have yk:X6.cell? ⟨V.heap.size,0,none⟩=some (.int .i64 7):=by rw[cell_of H6.out];rfl
    have yf:X6.cell? ⟨V.heap.size,1,none⟩=some (.int .i64 1):=by rw[cell_of H6.out];rfl
    have hne:V.heap.size≠sk:=fun e=>two_cells H6.out K6.out.2.1.1 (by decide) e
    obtain⟨X1,hX1⟩:∃X1,X6.setCell ⟨sk,0,none⟩ (.bool true)=X1:=⟨_,rfl⟩
    have hx4:X1.heap[V.heap.size]?=some (.cells #[.int .i64 7,.int .i64 1,.int .i64 0,.int .i64 o.id,.int .i64 n4,.int .i64 0,.int .i64 0] 34 (0,0)):=by rw[←hX1];exact(zN _ _ _ _ hne).trans H6.out
    rw[hX1]at hs1 hs2;have C:=LSt.handleI HG.out HM.out (s0:=s) (m:=⟨7,1,0,o.id,n4,0,0⟩) hs1 HK.out.2.2.2 rfl rfl ⟨hs2 _ _ _ A6.out.1,A6.out.2⟩
    have y0:X1.cell? ⟨V.heap.size,0,none⟩=some (.int .i64 7):=by rw[cell_of hx4];rfl
    have y1:X1.cell? ⟨V.heap.size,1,none⟩=some (.int .i64 1):=by rw[cell_of hx4];rfl
    have y2:X1.cell? ⟨V.heap.size,2,none⟩=some (.int .i64 0):=by rw[cell_of hx4];rfl
    have y3:X1.cell? ⟨V.heap.size,3,none⟩=some (.int .i64 o.id):=by rw[cell_of hx4];rfl
    have y4:X1.cell? ⟨V.heap.size,4,none⟩=some (.int .i64 n4):=by rw[cell_of hx4];rfl
    have y5:X1.cell? ⟨V.heap.size,5,none⟩=some (.int .i64 0):=by rw[cell_of hx4];rfl
    have y6:X1.cell? ⟨V.heap.size,6,none⟩=some (.int .i64 0):=by rw[cell_of hx4];rfl
    clear hs1 hs2 hs3 hne hx4;clear K6 A6 H6 HK HA HY HXV HBV
    go_wp2_with(go_at_call 24;refine C.mono ?_;clear C;rintro e v5 ⟨x,xs,y,rfl,h1⟩;have Z1:=hide h1;clear h1)
    go_meet
    exact⟨(sdY s 0),x,y,xs,rfl,Z1⟩
   by_cases en2:n2=2
   ·subst en2;obtain⟨hs1,hs2,hs3⟩:=K6.out.say 1 1 (.inr ⟨by decide,rfl⟩);obtain⟨z0,z1,f0,f1⟩:=K6.out.c2;have yk:X6.cell? ⟨V.heap.size,0,none⟩=some (.int .i64 7):=by rw[cell_of H6.out];rfl
    have yf:X6.cell? ⟨V.heap.size,1,none⟩=some (.int .i64 2):=by rw[cell_of H6.out];rfl
    have hne:V.heap.size≠sk:=fun e=>two_cells H6.out K6.out.2.1.1 (by decide) e
    obtain⟨X1,hX1⟩:∃X1,X6.setCell ⟨sk,1,none⟩ (.bool true)=X1:=⟨_,rfl⟩
    have hx4:X1.heap[V.heap.size]?=some (.cells #[.int .i64 7,.int .i64 2,.int .i64 0,.int .i64 o.id,.int .i64 n4,.int .i64 0,.int .i64 0] 34 (0,0)):=by rw[←hX1];exact(zN _ _ _ _ hne).trans H6.out
    rw[hX1]at hs1 hs2;have C:=LSt.handleI HG.out HM.out (s0:=s) (m:=⟨7,2,0,o.id,n4,0,0⟩) hs1 HK.out.2.2.2 rfl rfl ⟨hs2 _ _ _ A6.out.1,A6.out.2⟩
    have y0:X1.cell? ⟨V.heap.size,0,none⟩=some (.int .i64 7):=by rw[cell_of hx4];rfl
    have y1:X1.cell? ⟨V.heap.size,1,none⟩=some (.int .i64 2):=by rw[cell_of hx4];rfl
    have y2:X1.cell? ⟨V.heap.size,2,none⟩=some (.int .i64 0):=by rw[cell_of hx4];rfl
    have y3:X1.cell? ⟨V.heap.size,3,none⟩=some (.int .i64 o.id):=by rw[cell_of hx4];rfl
    have y4:X1.cell? ⟨V.heap.size,4,none⟩=some (.int .i64 n4):=by rw[cell_of hx4];rfl
    have y5:X1.cell? ⟨V.heap.size,5,none⟩=some (.int .i64 0):=by rw[cell_of hx4];rfl
    have y6:X1.cell? ⟨V.heap.size,6,none⟩=some (.int .i64 0):=by rw[cell_of hx4];rfl
    clear hs1 hs2 hs3 hne hx4;clear K6 A6 H6 HK HA HY HXV HBV
    go_wp2_with(go_at_call 24;refine C.mono ?_;clear C;rintro e v5 ⟨x,xs,y,rfl,h1⟩;have Z1:=hide h1;clear h1)
    go_meet
    exact⟨(sdY s 1),x,y,xs,rfl,Z1⟩
   have C:=LSt.handleI HG.out HM.out (s0:=s) (m:=⟨7,n2,0,o.id,n4,0,0⟩) K6.out HK.out.2.2.2 (by unfold sdM;rw[if_neg (fun e=>by have:=e.2;unfold keepB at this;simp[en1,en2]at this)]) rfl A6.out
   have y0:X6.cell? ⟨V.heap.size,0,none⟩=some (.int .i64 7):=by rw[cell_of H6.out];rfl
   have y1:X6.cell? ⟨V.heap.size,1,none⟩=some (.int .i64 n2):=by rw[cell_of H6.out];rfl
   have y2:X6.cell? ⟨V.heap.size,2,none⟩=some (.int .i64 0):=by rw[cell_of H6.out];rfl
   have y3:X6.cell? ⟨V.heap.size,3,none⟩=some (.int .i64 o.id):=by rw[cell_of H6.out];rfl
   have y4:X6.cell? ⟨V.heap.size,4,none⟩=some (.int .i64 n4):=by rw[cell_of H6.out];rfl
   have y5:X6.cell? ⟨V.heap.size,5,none⟩=some (.int .i64 0):=by rw[cell_of H6.out];rfl
   have y6:X6.cell? ⟨V.heap.size,6,none⟩=some (.int .i64 0):=by rw[cell_of H6.out];rfl
   have bn1:(n2==1)=false:=by simpa using en1
   have bn2:(n2==2)=false:=by simpa using en2
   clear K6 A6 H6 HK HA HY HXV HBV
   go_wp2_with(go_at_call 24;refine C.mono ?_;clear C;rintro e v5 ⟨x,xs,y,rfl,h1⟩;have Z1:=hide h1;clear h1)
   go_meet
   exact⟨s,x,y,xs,rfl,Z1⟩
  ·have C:=LSt.handleI HG.out HM.out (s0:=s) (m:=⟨kk,n2,0,o.id,n4,0,0⟩) K6.out HK.out.2.2.2 (by unfold sdM;rw[if_neg (fun e=>ek e.1)]) rfl A6.out
   have y0:X6.cell? ⟨V.heap.size,0,none⟩=some (.int .i64 kk):=by rw[cell_of H6.out];rfl
   have y1:X6.cell? ⟨V.heap.size,1,none⟩=some (.int .i64 n2):=by rw[cell_of H6.out];rfl
   have y2:X6.cell? ⟨V.heap.size,2,none⟩=some (.int .i64 0):=by rw[cell_of H6.out];rfl
   have y3:X6.cell? ⟨V.heap.size,3,none⟩=some (.int .i64 o.id):=by rw[cell_of H6.out];rfl
   have y4:X6.cell? ⟨V.heap.size,4,none⟩=some (.int .i64 n4):=by rw[cell_of H6.out];rfl
   have y5:X6.cell? ⟨V.heap.size,5,none⟩=some (.int .i64 0):=by rw[cell_of H6.out];rfl
   have y6:X6.cell? ⟨V.heap.size,6,none⟩=some (.int .i64 0):=by rw[cell_of H6.out];rfl
   have bk:(kk==7)=false:=by simpa using ek
   clear K6 A6 H6 HK HA HY HXV HBV
   go_wp2_with(go_at_call 24;refine C.mono ?_;clear C;rintro e v5 ⟨x,xs,y,rfl,h1⟩;have Z1:=hide h1;clear h1)
   go_meet
   exact⟨s,x,y,xs,rfl,Z1⟩
 case rest=>
  obtain⟨s',x,y,xs,rfl,HS⟩:=hcut;rename_i K hK;refine hK _ _ ?_;clear hK K;refine las_rest HM HOD HS HY ?_;intro a' w' hI;unfold LP at hI;obtain⟨s2,v2,O2,ra2,rc2,ys2,yb2,nb2,hI⟩:=hI;iterate 146 obtain⟨_,hI⟩:=hI
  obtain⟨HK3,HA3,HY3,rfl⟩:=hI;clear HS HY
  go_wp2
  refine⟨⟨j+1,s2,v2,O2,ra2,rc2,ys2,yb2,nb2,_,_,_,_,_,_,_,_,_,_,_,_,_,_,_,_,_,_,_,_,_,_,_,_,_,_,_,_,_,_,_,_,_,_,_,_,_,_,_,_,_,_,_,_,_,_,_,_,_,_,_,_,_,_,_,_,_,_,_,_,_,_,_,_,_,_,_,_,_,_,_,_,_,_,_,_,_,_,_,_,_,_,_,_,_,_,_,_,_,_,_,_,_,_,_,_,_,_,_,_,_,_,_,_,_,_,_,_,_,_,_,_,_,_,_,_,_,_,_,_,_,_,_,_,_,_,_,_,_,_,_,_,_,_,_,_,_,_,_,_,_,_,_,_,_,_,_,by go_num,by omega,HK3,HA3,HY3,rfl⟩,?_⟩;simp[Lmu,Go.RowKit.intOf];omega
end Go.Proofs.YthfgmpooehkhgaaGreatDoor
