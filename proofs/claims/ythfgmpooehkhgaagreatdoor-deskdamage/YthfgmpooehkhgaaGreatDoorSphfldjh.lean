/-
  Own texts put together: ZdDmD, ZdDmE, ZdDmF, ZdDmC, ZdDam.
-/
import Derived.Test.YthfgmpooehkhgaaGreatDoorSpdnnkme
import Derived.Test.YthfgmpooehkhgaaGreatDoorSpnaljnn
/-
  DeskDamage: taken down, and up again.
-/
namespace Go.Proofs.YthfgmpooehkhgaaGreatDoor
open Go.ChangeShapes Go.WideShapes Go.ChangeAt Go.RowKit Go.Maps Sg Bl

set_option maxRecDepth 1000000 in
set_option maxHeartbeats 8000000 in
theorem dam_4 {w : World} {l : List C22.Cl} {cap d p m : Nat} {y wh : Bool} {WD : ByteArray} {g0 g1 g2 g3 g4 g5 g6 g7 g8 g11 g13 g16 g17 g18 g19 g20 g21 g22 g23 g24 g25 g26 g27 g28 g29 g30 g31 g32 g33 g34 g35 g36 g37 g38 g39 g40 g41 g42 g43 g44 g45 g46 g47 g48 g49 g50 g51 g52 g53 g54 g55 g56 g57 g58 g59 g60 g61 g62 g63 g64 g65 g66 g67 g68 g69 g70 g71 g72 g73 g74 g75 g76 g77 g78 g79 g124 g125 g126 g127 g128 g129 g130 g131 g132 g133 g134 g135 g136 g137 g138 g139 g140 g141 g14 g15 g83 g84 g85 g86 g87 g88 g89 g90 g91 g92 g93 g94 g95 g96 g97 g98 g99 g100 g101 g102 g103 g104 g105 g106 g107 g108 g109 g110 g111 g112 g113 g114 g115 g116 g117 g118 g119 g120 g121 g122 g123 : Value} {wr : World} {Q0 : Exit → Act → World → Prop} {j bb off1 sc : Nat} {cd ci cn ct m0 m1 m2 m3 m4 m5 m6 : Int} {oo : Od} {sa : Option Addr} {T : ByteArray} (HG : Hid (Gl w)) (hlen : l.length ≤ 9223372036854775807) (hlt : j < l.length) (c0 : wr.cell? ⟨bb, off1 + j * 17, none⟩ = some (.int .i64 cd)) (c1 : wr.cell? ⟨bb, off1 + j * 17 + 1, none⟩ = some (.int .i64 ci)) (c2 : wr.cell? ⟨bb, off1 + j * 17 + 2, none⟩ = some (.int .i64 cn)) (c3 : wr.cell? ⟨bb, off1 + j * 17 + 3, none⟩ = some (.int .i64 ct)) (c4 : wr.cell? ⟨bb, off1 + j * 17 + 4, none⟩ = some (.int .i64 oo.id)) (c5 : wr.cell? ⟨bb, off1 + j * 17 + 5, none⟩ = some (.int .i64 oo.item)) (c6 : wr.cell? ⟨bb, off1 + j * 17 + 6, none⟩ = some (.int .i64 oo.qty)) (c7 : wr.cell? ⟨bb, off1 + j * 17 + 7, none⟩ = some (.int .i64 oo.client)) (c8 : wr.cell? ⟨bb, off1 + j * 17 + 8, none⟩ = some (.int .i64 oo.price)) (c9 : wr.cell? ⟨bb, off1 + j * 17 + 9, none⟩ = some (.slice sa oo.steps.length sc)) (c10 : wr.cell? ⟨bb, off1 + j * 17 + 10, none⟩ = some (.int .i64 m0)) (c11 : wr.cell? ⟨bb, off1 + j * 17 + 11, none⟩ = some (.int .i64 m1)) (c12 : wr.cell? ⟨bb, off1 + j * 17 + 12, none⟩ = some (.int .i64 m2)) (c13 : wr.cell? ⟨bb, off1 + j * 17 + 13, none⟩ = some (.int .i64 m3)) (c14 : wr.cell? ⟨bb, off1 + j * 17 + 14, none⟩ = some (.int .i64 m4)) (c15 : wr.cell? ⟨bb, off1 + j * 17 + 15, none⟩ = some (.int .i64 m5)) (c16 : wr.cell? ⟨bb, off1 + j * 17 + 16, none⟩ = some (.int .i64 m6))
    (HD2 : Hid (DS w wr d p m y wh (4 + j))) (hA : AskP w d p m y wh WD (4 + (j + 1)) T) (e45 : cd = 4) :
    Code.wp Tryz.prog damBody (Exit.then (fun a' w'' => WI w l (some ⟨bb, off1, none⟩) cap d p m y wh WD g0 g1 g2 g3 g4 g5 g6 g7 g8 g11 g13 g16 g17 g18 g19 g20 g21 g22 g23 g24 g25 g26 g27 g28 g29 g30 g31 g32 g33 g34 g35 g36 g37 g38 g39 g40 g41 g42 g43 g44 g45 g46 g47 g48 g49 g50 g51 g52 g53 g54 g55 g56 g57 g58 g59 g60 g61 g62 g63 g64 g65 g66 g67 g68 g69 g70 g71 g72 g73 g74 g75 g76 g77 g78 g79 g124 g125 g126 g127 g128 g129 g130 g131 g132 g133 g134 g135 g136 g137 g138 g139 g140 g141 a' w'' ∧ Wmu l.length a' w'' < Wmu l.length ⟨#[g0, g1, g2, g3, g4, g5, g6, g7, g8, .pointer (some ⟨d, 0, none⟩), .pointer (some ⟨p, 0, none⟩), g11, .string WD, g13, g14, g15, g16, g17, g18, g19, g20, g21, g22, g23, g24, g25, g26, g27, g28, g29, g30, g31, g32, g33, g34, g35, g36, g37, g38, g39, g40, g41, g42, g43, g44, g45, g46, g47, g48, g49, g50, g51, g52, g53, g54, g55, g56, g57, g58, g59, g60, g61, g62, g63, g64, g65, g66, g67, g68, g69, g70, g71, g72, g73, g74, g75, g76, g77, g78, g79, .slice (some ⟨bb, off1, none⟩) l.length cap, .int .i64 (l.length : Int), .int .i64 (j : Int), g83, g84, g85, g86, g87, g88, g89, g90, g91, g92, g93, g94, g95, g96, g97, g98, g99, g100, g101, g102, g103, g104, g105, g106, g107, g108, g109, g110, g111, g112, g113, g114, g115, g116, g117, g118, g119, g120, g121, g122, g123, g124, g125, g126, g127, g128, g129, g130, g131, g132, g133, g134, g135, g136, g137, g138, g139, g140, g141], []⟩ wr) Q0) ⟨#[g0, g1, g2, g3, g4, g5, g6, g7, g8, .pointer (some ⟨d, 0, none⟩), .pointer (some ⟨p, 0, none⟩), g11, .string WD, g13, g14, g15, g16, g17, g18, g19, g20, g21, g22, g23, g24, g25, g26, g27, g28, g29, g30, g31, g32, g33, g34, g35, g36, g37, g38, g39, g40, g41, g42, g43, g44, g45, g46, g47, g48, g49, g50, g51, g52, g53, g54, g55, g56, g57, g58, g59, g60, g61, g62, g63, g64, g65, g66, g67, g68, g69, g70, g71, g72, g73, g74, g75, g76, g77, g78, g79, .slice (some ⟨bb, off1, none⟩) l.length cap, .int .i64 (l.length : Int), .int .i64 (j : Int), g83, g84, g85, g86, g87, g88, g89, g90, g91, g92, g93, g94, g95, g96, g97, g98, g99, g100, g101, g102, g103, g104, g105, g106, g107, g108, g109, g110, g111, g112, g113, g114, g115, g116, g117, g118, g119, g120, g121, g122, g123, g124, g125, g126, g127, g128, g129, g130, g131, g132, g133, g134, g135, g136, g137, g138, g139, g140, g141], []⟩ wr := by
  have ql : (j : Int) < (l.length : Int) := by omega
  obtain ⟨hq, hs1, hs2, hst⟩ := hA
  have ST := hide hst
  clear hst
  have HBV : Hid (Below wr.heap.size wr (wr.alloc (.cells #[.int .i64 cd, .int .i64 ci, .int .i64 cn, .int .i64 ct, .int .i64 oo.id, .int .i64 oo.item, .int .i64 oo.qty, .int .i64 oo.client, .int .i64 oo.price, .slice sa oo.steps.length sc, .int .i64 m0, .int .i64 m1, .int .i64 m2, .int .i64 m3, .int .i64 m4, .int .i64 m5, .int .i64 m6] 36))) := (Below.refl _ _).alloc (Nat.le_refl _) _
  have HDV := hide (HD2.out.on HBV.out)
  clear HD2
  subst e45
  have C := HDV.out.crash HG.out cn ct
  conv => arg 2; whnf
  go_wp2_with (first
    | (go_at_call 19; refine C.mono ?_; clear C; rintro e v5 ⟨⟨z5, rfl⟩, h1⟩; have S4 := h1; clear h1)
    | (go_at_call 21; refine S4.mono ?_; clear S4; rintro e v6 ⟨⟨z6, rfl⟩, h1⟩; have S5 := ST.out _ h1; clear h1 ST)
    | (go_at_call 41; refine S5.mono ?_; clear S5; rintro e v7 ⟨rfl, h1⟩; have T5 := h1; clear h1)
    | (go_at_call 43; refine T5.mono ?_; clear T5; rintro e v8 ⟨rfl, h1⟩; have HZ := hide h1; clear h1))
  refine ⟨⟨j + 1, _, _, _, _, _, _, _, _, _, _, _, _, _, _, _, _, _, _, _, _, _, _, _, _, _, _, _, _, _, _, _, _, _, _, _, _, _, _, _, _, _, _, _, _, by go_num, by omega, HZ, rfl⟩, ?_⟩
  simp [Wmu, Go.RowKit.intOf]
  omega
set_option maxRecDepth 1000000 in
set_option maxHeartbeats 8000000 in
theorem dam_5 {w : World} {l : List C22.Cl} {cap d p m : Nat} {y wh : Bool} {WD : ByteArray} {g0 g1 g2 g3 g4 g5 g6 g7 g8 g11 g13 g16 g17 g18 g19 g20 g21 g22 g23 g24 g25 g26 g27 g28 g29 g30 g31 g32 g33 g34 g35 g36 g37 g38 g39 g40 g41 g42 g43 g44 g45 g46 g47 g48 g49 g50 g51 g52 g53 g54 g55 g56 g57 g58 g59 g60 g61 g62 g63 g64 g65 g66 g67 g68 g69 g70 g71 g72 g73 g74 g75 g76 g77 g78 g79 g124 g125 g126 g127 g128 g129 g130 g131 g132 g133 g134 g135 g136 g137 g138 g139 g140 g141 g14 g15 g83 g84 g85 g86 g87 g88 g89 g90 g91 g92 g93 g94 g95 g96 g97 g98 g99 g100 g101 g102 g103 g104 g105 g106 g107 g108 g109 g110 g111 g112 g113 g114 g115 g116 g117 g118 g119 g120 g121 g122 g123 : Value} {wr : World} {Q0 : Exit → Act → World → Prop} {j bb off1 sc : Nat} {cd ci cn ct m0 m1 m2 m3 m4 m5 m6 : Int} {oo : Od} {sa : Option Addr} {T : ByteArray} (HG : Hid (Gl w)) (hlen : l.length ≤ 9223372036854775807) (hlt : j < l.length) (c0 : wr.cell? ⟨bb, off1 + j * 17, none⟩ = some (.int .i64 cd)) (c1 : wr.cell? ⟨bb, off1 + j * 17 + 1, none⟩ = some (.int .i64 ci)) (c2 : wr.cell? ⟨bb, off1 + j * 17 + 2, none⟩ = some (.int .i64 cn)) (c3 : wr.cell? ⟨bb, off1 + j * 17 + 3, none⟩ = some (.int .i64 ct)) (c4 : wr.cell? ⟨bb, off1 + j * 17 + 4, none⟩ = some (.int .i64 oo.id)) (c5 : wr.cell? ⟨bb, off1 + j * 17 + 5, none⟩ = some (.int .i64 oo.item)) (c6 : wr.cell? ⟨bb, off1 + j * 17 + 6, none⟩ = some (.int .i64 oo.qty)) (c7 : wr.cell? ⟨bb, off1 + j * 17 + 7, none⟩ = some (.int .i64 oo.client)) (c8 : wr.cell? ⟨bb, off1 + j * 17 + 8, none⟩ = some (.int .i64 oo.price)) (c9 : wr.cell? ⟨bb, off1 + j * 17 + 9, none⟩ = some (.slice sa oo.steps.length sc)) (c10 : wr.cell? ⟨bb, off1 + j * 17 + 10, none⟩ = some (.int .i64 m0)) (c11 : wr.cell? ⟨bb, off1 + j * 17 + 11, none⟩ = some (.int .i64 m1)) (c12 : wr.cell? ⟨bb, off1 + j * 17 + 12, none⟩ = some (.int .i64 m2)) (c13 : wr.cell? ⟨bb, off1 + j * 17 + 13, none⟩ = some (.int .i64 m3)) (c14 : wr.cell? ⟨bb, off1 + j * 17 + 14, none⟩ = some (.int .i64 m4)) (c15 : wr.cell? ⟨bb, off1 + j * 17 + 15, none⟩ = some (.int .i64 m5)) (c16 : wr.cell? ⟨bb, off1 + j * 17 + 16, none⟩ = some (.int .i64 m6))
    (HD2 : Hid (DS w wr d p m y wh (4 + j))) (hA : AskP w d p m y wh WD (4 + (j + 1)) T) (e45 : cd = 5) :
    Code.wp Tryz.prog damBody (Exit.then (fun a' w'' => WI w l (some ⟨bb, off1, none⟩) cap d p m y wh WD g0 g1 g2 g3 g4 g5 g6 g7 g8 g11 g13 g16 g17 g18 g19 g20 g21 g22 g23 g24 g25 g26 g27 g28 g29 g30 g31 g32 g33 g34 g35 g36 g37 g38 g39 g40 g41 g42 g43 g44 g45 g46 g47 g48 g49 g50 g51 g52 g53 g54 g55 g56 g57 g58 g59 g60 g61 g62 g63 g64 g65 g66 g67 g68 g69 g70 g71 g72 g73 g74 g75 g76 g77 g78 g79 g124 g125 g126 g127 g128 g129 g130 g131 g132 g133 g134 g135 g136 g137 g138 g139 g140 g141 a' w'' ∧ Wmu l.length a' w'' < Wmu l.length ⟨#[g0, g1, g2, g3, g4, g5, g6, g7, g8, .pointer (some ⟨d, 0, none⟩), .pointer (some ⟨p, 0, none⟩), g11, .string WD, g13, g14, g15, g16, g17, g18, g19, g20, g21, g22, g23, g24, g25, g26, g27, g28, g29, g30, g31, g32, g33, g34, g35, g36, g37, g38, g39, g40, g41, g42, g43, g44, g45, g46, g47, g48, g49, g50, g51, g52, g53, g54, g55, g56, g57, g58, g59, g60, g61, g62, g63, g64, g65, g66, g67, g68, g69, g70, g71, g72, g73, g74, g75, g76, g77, g78, g79, .slice (some ⟨bb, off1, none⟩) l.length cap, .int .i64 (l.length : Int), .int .i64 (j : Int), g83, g84, g85, g86, g87, g88, g89, g90, g91, g92, g93, g94, g95, g96, g97, g98, g99, g100, g101, g102, g103, g104, g105, g106, g107, g108, g109, g110, g111, g112, g113, g114, g115, g116, g117, g118, g119, g120, g121, g122, g123, g124, g125, g126, g127, g128, g129, g130, g131, g132, g133, g134, g135, g136, g137, g138, g139, g140, g141], []⟩ wr) Q0) ⟨#[g0, g1, g2, g3, g4, g5, g6, g7, g8, .pointer (some ⟨d, 0, none⟩), .pointer (some ⟨p, 0, none⟩), g11, .string WD, g13, g14, g15, g16, g17, g18, g19, g20, g21, g22, g23, g24, g25, g26, g27, g28, g29, g30, g31, g32, g33, g34, g35, g36, g37, g38, g39, g40, g41, g42, g43, g44, g45, g46, g47, g48, g49, g50, g51, g52, g53, g54, g55, g56, g57, g58, g59, g60, g61, g62, g63, g64, g65, g66, g67, g68, g69, g70, g71, g72, g73, g74, g75, g76, g77, g78, g79, .slice (some ⟨bb, off1, none⟩) l.length cap, .int .i64 (l.length : Int), .int .i64 (j : Int), g83, g84, g85, g86, g87, g88, g89, g90, g91, g92, g93, g94, g95, g96, g97, g98, g99, g100, g101, g102, g103, g104, g105, g106, g107, g108, g109, g110, g111, g112, g113, g114, g115, g116, g117, g118, g119, g120, g121, g122, g123, g124, g125, g126, g127, g128, g129, g130, g131, g132, g133, g134, g135, g136, g137, g138, g139, g140, g141], []⟩ wr := by
  have ql : (j : Int) < (l.length : Int) := by omega
  obtain ⟨hq, hs1, hs2, hst⟩ := hA
  have ST := hide hst
  clear hst
  have HBV : Hid (Below wr.heap.size wr (wr.alloc (.cells #[.int .i64 cd, .int .i64 ci, .int .i64 cn, .int .i64 ct, .int .i64 oo.id, .int .i64 oo.item, .int .i64 oo.qty, .int .i64 oo.client, .int .i64 oo.price, .slice sa oo.steps.length sc, .int .i64 m0, .int .i64 m1, .int .i64 m2, .int .i64 m3, .int .i64 m4, .int .i64 m5, .int .i64 m6] 36))) := (Below.refl _ _).alloc (Nat.le_refl _) _
  have HDV := hide (HD2.out.on HBV.out)
  clear HD2
  subst e45
  have C := HDV.out.crash HG.out cn ct
  conv => arg 2; whnf
  go_wp2_with (first
    | (go_at_call 19; refine C.mono ?_; clear C; rintro e v5 ⟨⟨z5, rfl⟩, h1⟩; have S4 := h1; clear h1)
    | (go_at_call 21; refine S4.mono ?_; clear S4; rintro e v6 ⟨⟨z6, rfl⟩, h1⟩; have S5 := ST.out _ h1; clear h1 ST)
    | (go_at_call 41; refine S5.mono ?_; clear S5; rintro e v7 ⟨rfl, h1⟩; have T5 := h1; clear h1)
    | (go_at_call 43; refine T5.mono ?_; clear T5; rintro e v8 ⟨rfl, h1⟩; have HZ := hide h1; clear h1))
  refine ⟨⟨j + 1, _, _, _, _, _, _, _, _, _, _, _, _, _, _, _, _, _, _, _, _, _, _, _, _, _, _, _, _, _, _, _, _, _, _, _, _, _, _, _, _, _, _, _, _, by go_num, by omega, HZ, rfl⟩, ?_⟩
  simp [Wmu, Go.RowKit.intOf]
  omega

end Go.Proofs.YthfgmpooehkhgaaGreatDoor
/-
  DeskDamage: a message.
-/
namespace Go.Proofs.YthfgmpooehkhgaaGreatDoor
open Go.ChangeShapes Go.WideShapes Go.ChangeAt Go.RowKit Go.Maps Sg Bl

set_option maxRecDepth 1000000 in
set_option maxHeartbeats 8000000 in
theorem dam_n {w : World} {l : List C22.Cl} {cap d p m : Nat} {y wh : Bool} {WD : ByteArray} {g0 g1 g2 g3 g4 g5 g6 g7 g8 g11 g13 g16 g17 g18 g19 g20 g21 g22 g23 g24 g25 g26 g27 g28 g29 g30 g31 g32 g33 g34 g35 g36 g37 g38 g39 g40 g41 g42 g43 g44 g45 g46 g47 g48 g49 g50 g51 g52 g53 g54 g55 g56 g57 g58 g59 g60 g61 g62 g63 g64 g65 g66 g67 g68 g69 g70 g71 g72 g73 g74 g75 g76 g77 g78 g79 g124 g125 g126 g127 g128 g129 g130 g131 g132 g133 g134 g135 g136 g137 g138 g139 g140 g141 g14 g15 g83 g84 g85 g86 g87 g88 g89 g90 g91 g92 g93 g94 g95 g96 g97 g98 g99 g100 g101 g102 g103 g104 g105 g106 g107 g108 g109 g110 g111 g112 g113 g114 g115 g116 g117 g118 g119 g120 g121 g122 g123 : Value} {wr : World} {Q0 : Exit → Act → World → Prop} {j bb off1 sc : Nat} {cd ci cn ct m0 m1 m2 m3 m4 m5 m6 : Int} {oo : Od} {sa : Option Addr} {T : ByteArray} (HG : Hid (Gl w)) (hlen : l.length ≤ 9223372036854775807) (hlt : j < l.length) (c0 : wr.cell? ⟨bb, off1 + j * 17, none⟩ = some (.int .i64 cd)) (c1 : wr.cell? ⟨bb, off1 + j * 17 + 1, none⟩ = some (.int .i64 ci)) (c2 : wr.cell? ⟨bb, off1 + j * 17 + 2, none⟩ = some (.int .i64 cn)) (c3 : wr.cell? ⟨bb, off1 + j * 17 + 3, none⟩ = some (.int .i64 ct)) (c4 : wr.cell? ⟨bb, off1 + j * 17 + 4, none⟩ = some (.int .i64 oo.id)) (c5 : wr.cell? ⟨bb, off1 + j * 17 + 5, none⟩ = some (.int .i64 oo.item)) (c6 : wr.cell? ⟨bb, off1 + j * 17 + 6, none⟩ = some (.int .i64 oo.qty)) (c7 : wr.cell? ⟨bb, off1 + j * 17 + 7, none⟩ = some (.int .i64 oo.client)) (c8 : wr.cell? ⟨bb, off1 + j * 17 + 8, none⟩ = some (.int .i64 oo.price)) (c9 : wr.cell? ⟨bb, off1 + j * 17 + 9, none⟩ = some (.slice sa oo.steps.length sc)) (c10 : wr.cell? ⟨bb, off1 + j * 17 + 10, none⟩ = some (.int .i64 m0)) (c11 : wr.cell? ⟨bb, off1 + j * 17 + 11, none⟩ = some (.int .i64 m1)) (c12 : wr.cell? ⟨bb, off1 + j * 17 + 12, none⟩ = some (.int .i64 m2)) (c13 : wr.cell? ⟨bb, off1 + j * 17 + 13, none⟩ = some (.int .i64 m3)) (c14 : wr.cell? ⟨bb, off1 + j * 17 + 14, none⟩ = some (.int .i64 m4)) (c15 : wr.cell? ⟨bb, off1 + j * 17 + 15, none⟩ = some (.int .i64 m5)) (c16 : wr.cell? ⟨bb, off1 + j * 17 + 16, none⟩ = some (.int .i64 m6))
    (HD2 : Hid (DS w wr d p m y wh (4 + j))) (hA : AskP w d p m y wh WD (4 + (j + 1)) T) (e3 : cd ≠ 3) (e4 : cd ≠ 4) (e5 : cd ≠ 5) (e17 : m0 ≠ 17) :
    Code.wp Tryz.prog damBody (Exit.then (fun a' w'' => WI w l (some ⟨bb, off1, none⟩) cap d p m y wh WD g0 g1 g2 g3 g4 g5 g6 g7 g8 g11 g13 g16 g17 g18 g19 g20 g21 g22 g23 g24 g25 g26 g27 g28 g29 g30 g31 g32 g33 g34 g35 g36 g37 g38 g39 g40 g41 g42 g43 g44 g45 g46 g47 g48 g49 g50 g51 g52 g53 g54 g55 g56 g57 g58 g59 g60 g61 g62 g63 g64 g65 g66 g67 g68 g69 g70 g71 g72 g73 g74 g75 g76 g77 g78 g79 g124 g125 g126 g127 g128 g129 g130 g131 g132 g133 g134 g135 g136 g137 g138 g139 g140 g141 a' w'' ∧ Wmu l.length a' w'' < Wmu l.length ⟨#[g0, g1, g2, g3, g4, g5, g6, g7, g8, .pointer (some ⟨d, 0, none⟩), .pointer (some ⟨p, 0, none⟩), g11, .string WD, g13, g14, g15, g16, g17, g18, g19, g20, g21, g22, g23, g24, g25, g26, g27, g28, g29, g30, g31, g32, g33, g34, g35, g36, g37, g38, g39, g40, g41, g42, g43, g44, g45, g46, g47, g48, g49, g50, g51, g52, g53, g54, g55, g56, g57, g58, g59, g60, g61, g62, g63, g64, g65, g66, g67, g68, g69, g70, g71, g72, g73, g74, g75, g76, g77, g78, g79, .slice (some ⟨bb, off1, none⟩) l.length cap, .int .i64 (l.length : Int), .int .i64 (j : Int), g83, g84, g85, g86, g87, g88, g89, g90, g91, g92, g93, g94, g95, g96, g97, g98, g99, g100, g101, g102, g103, g104, g105, g106, g107, g108, g109, g110, g111, g112, g113, g114, g115, g116, g117, g118, g119, g120, g121, g122, g123, g124, g125, g126, g127, g128, g129, g130, g131, g132, g133, g134, g135, g136, g137, g138, g139, g140, g141], []⟩ wr) Q0) ⟨#[g0, g1, g2, g3, g4, g5, g6, g7, g8, .pointer (some ⟨d, 0, none⟩), .pointer (some ⟨p, 0, none⟩), g11, .string WD, g13, g14, g15, g16, g17, g18, g19, g20, g21, g22, g23, g24, g25, g26, g27, g28, g29, g30, g31, g32, g33, g34, g35, g36, g37, g38, g39, g40, g41, g42, g43, g44, g45, g46, g47, g48, g49, g50, g51, g52, g53, g54, g55, g56, g57, g58, g59, g60, g61, g62, g63, g64, g65, g66, g67, g68, g69, g70, g71, g72, g73, g74, g75, g76, g77, g78, g79, .slice (some ⟨bb, off1, none⟩) l.length cap, .int .i64 (l.length : Int), .int .i64 (j : Int), g83, g84, g85, g86, g87, g88, g89, g90, g91, g92, g93, g94, g95, g96, g97, g98, g99, g100, g101, g102, g103, g104, g105, g106, g107, g108, g109, g110, g111, g112, g113, g114, g115, g116, g117, g118, g119, g120, g121, g122, g123, g124, g125, g126, g127, g128, g129, g130, g131, g132, g133, g134, g135, g136, g137, g138, g139, g140, g141], []⟩ wr := by
  have ql : (j : Int) < (l.length : Int) := by omega
  obtain ⟨hq, hs1, hs2, hst⟩ := hA
  have ST := hide hst
  clear hst
  have HBV : Hid (Below wr.heap.size wr (wr.alloc (.cells #[.int .i64 cd, .int .i64 ci, .int .i64 cn, .int .i64 ct, .int .i64 oo.id, .int .i64 oo.item, .int .i64 oo.qty, .int .i64 oo.client, .int .i64 oo.price, .slice sa oo.steps.length sc, .int .i64 m0, .int .i64 m1, .int .i64 m2, .int .i64 m3, .int .i64 m4, .int .i64 m5, .int .i64 m6] 36))) := (Below.refl _ _).alloc (Nat.le_refl _) _
  have HDV := hide (HD2.out.on HBV.out)
  clear HD2
  have b3 : (cd == 3) = false := by simpa using e3
  have b4 : (cd == 4) = false := by simpa using e4
  have b5 : (cd == 5) = false := by simpa using e5
  obtain ⟨V, hV⟩ : ∃ V, wr.alloc (.cells #[.int .i64 cd, .int .i64 ci, .int .i64 cn, .int .i64 ct, .int .i64 oo.id, .int .i64 oo.item, .int .i64 oo.qty, .int .i64 oo.client, .int .i64 oo.price, .slice sa oo.steps.length sc, .int .i64 m0, .int .i64 m1, .int .i64 m2, .int .i64 m3, .int .i64 m4, .int .i64 m5, .int .i64 m6] 36) = V := ⟨_, rfl⟩
  have hVs : V.heap.size = wr.heap.size + 1 := by rw [← hV]; simp
  obtain ⟨X, hX⟩ : ∃ X, V.alloc (.cells #[.int .i64 m0, .int .i64 m1, .int .i64 0, .int .i64 5, .int .i64 m4, .int .i64 m5, .int .i64 m6] 34) = X := ⟨_, rfl⟩
  have hx3 : X.heap[wr.heap.size + 1]? = some (.cells #[.int .i64 m0, .int .i64 m1, .int .i64 0, .int .i64 5, .int .i64 m4, .int .i64 m5, .int .i64 m6] 34 (0, 0)) := by
    rw [← hX, ← hVs]
    exact World.alloc_heap_new V _
  have HBX : Hid (Below V.heap.size V X) := by
    show Below _ _ _
    rw [← hX]
    exact (Below.refl _ _).alloc (Nat.le_refl _) _
  rw [hV] at HDV
  have HDX := hide (HDV.out.on HBX.out)
  have y0 : X.cell? ⟨wr.heap.size + 1, 0, none⟩ = some (.int .i64 m0) := by rw [cell_of hx3]; rfl
  have y1 : X.cell? ⟨wr.heap.size + 1, 1, none⟩ = some (.int .i64 m1) := by rw [cell_of hx3]; rfl
  have y2 : X.cell? ⟨wr.heap.size + 1, 2, none⟩ = some (.int .i64 0) := by rw [cell_of hx3]; rfl
  have y3 : X.cell? ⟨wr.heap.size + 1, 3, none⟩ = some (.int .i64 5) := by rw [cell_of hx3]; rfl
  have y4 : X.cell? ⟨wr.heap.size + 1, 4, none⟩ = some (.int .i64 m4) := by rw [cell_of hx3]; rfl
  have y5 : X.cell? ⟨wr.heap.size + 1, 5, none⟩ = some (.int .i64 m5) := by rw [cell_of hx3]; rfl
  have y6 : X.cell? ⟨wr.heap.size + 1, 6, none⟩ = some (.int .i64 m6) := by rw [cell_of hx3]; rfl
  have HX := hide hX
  have HV := hide hV
  clear hV hVs hx3 hX HDV HBV
  conv => arg 2; whnf
  go_upto_region 27 with fail
  rw [HV.out, HX.out]
  have b17 : (m0 != 17) = true := by simpa using e17
  have C := HDX.out.hd HG.out (mm := ⟨m0, m1, 0, 5, m4, m5, m6⟩) e17 rfl
  go_wp2_with (first
    | (go_at_call 24; refine C.mono ?_; clear C y0 y1 y2 y3 y4 y5 y6; rintro e v5 ⟨⟨z5, rfl⟩, h1⟩; have S5 := ST.out _ h1; clear h1 ST)
    | (go_at_call 41; refine S5.mono ?_; clear S5; rintro e v7 ⟨rfl, h1⟩; have T5 := h1; clear h1)
    | (go_at_call 43; refine T5.mono ?_; clear T5; rintro e v8 ⟨rfl, h1⟩; have HZ := hide h1; clear h1))
  refine ⟨⟨j + 1, _, _, _, _, _, _, _, _, _, _, _, _, _, _, _, _, _, _, _, _, _, _, _, _, _, _, _, _, _, _, _, _, _, _, _, _, _, _, _, _, _, _, _, _, by go_num, by omega, HZ, rfl⟩, ?_⟩
  simp [Wmu, Go.RowKit.intOf]
  omega

end Go.Proofs.YthfgmpooehkhgaaGreatDoor
/-
  DeskDamage: a message of damage.
-/
namespace Go.Proofs.YthfgmpooehkhgaaGreatDoor
open Go.ChangeShapes Go.WideShapes Go.ChangeAt Go.RowKit Go.Maps Sg Bl

set_option maxRecDepth 1000000 in
set_option maxHeartbeats 8000000 in
theorem dam_17 {w : World} {l : List C22.Cl} {cap d p m : Nat} {y wh : Bool} {WD : ByteArray} {g0 g1 g2 g3 g4 g5 g6 g7 g8 g11 g13 g16 g17 g18 g19 g20 g21 g22 g23 g24 g25 g26 g27 g28 g29 g30 g31 g32 g33 g34 g35 g36 g37 g38 g39 g40 g41 g42 g43 g44 g45 g46 g47 g48 g49 g50 g51 g52 g53 g54 g55 g56 g57 g58 g59 g60 g61 g62 g63 g64 g65 g66 g67 g68 g69 g70 g71 g72 g73 g74 g75 g76 g77 g78 g79 g124 g125 g126 g127 g128 g129 g130 g131 g132 g133 g134 g135 g136 g137 g138 g139 g140 g141 g14 g15 g83 g84 g85 g86 g87 g88 g89 g90 g91 g92 g93 g94 g95 g96 g97 g98 g99 g100 g101 g102 g103 g104 g105 g106 g107 g108 g109 g110 g111 g112 g113 g114 g115 g116 g117 g118 g119 g120 g121 g122 g123 : Value} {wr : World} {Q0 : Exit → Act → World → Prop} {j bb off1 sc : Nat} {cd ci cn ct m0 m1 m2 m3 m4 m5 m6 : Int} {oo : Od} {sa : Option Addr} {T : ByteArray} (_HG : Hid (Gl w)) (hlen : l.length ≤ 9223372036854775807) (hlt : j < l.length) (c0 : wr.cell? ⟨bb, off1 + j * 17, none⟩ = some (.int .i64 cd)) (c1 : wr.cell? ⟨bb, off1 + j * 17 + 1, none⟩ = some (.int .i64 ci)) (c2 : wr.cell? ⟨bb, off1 + j * 17 + 2, none⟩ = some (.int .i64 cn)) (c3 : wr.cell? ⟨bb, off1 + j * 17 + 3, none⟩ = some (.int .i64 ct)) (c4 : wr.cell? ⟨bb, off1 + j * 17 + 4, none⟩ = some (.int .i64 oo.id)) (c5 : wr.cell? ⟨bb, off1 + j * 17 + 5, none⟩ = some (.int .i64 oo.item)) (c6 : wr.cell? ⟨bb, off1 + j * 17 + 6, none⟩ = some (.int .i64 oo.qty)) (c7 : wr.cell? ⟨bb, off1 + j * 17 + 7, none⟩ = some (.int .i64 oo.client)) (c8 : wr.cell? ⟨bb, off1 + j * 17 + 8, none⟩ = some (.int .i64 oo.price)) (c9 : wr.cell? ⟨bb, off1 + j * 17 + 9, none⟩ = some (.slice sa oo.steps.length sc)) (c10 : wr.cell? ⟨bb, off1 + j * 17 + 10, none⟩ = some (.int .i64 m0)) (c11 : wr.cell? ⟨bb, off1 + j * 17 + 11, none⟩ = some (.int .i64 m1)) (c12 : wr.cell? ⟨bb, off1 + j * 17 + 12, none⟩ = some (.int .i64 m2)) (c13 : wr.cell? ⟨bb, off1 + j * 17 + 13, none⟩ = some (.int .i64 m3)) (c14 : wr.cell? ⟨bb, off1 + j * 17 + 14, none⟩ = some (.int .i64 m4)) (c15 : wr.cell? ⟨bb, off1 + j * 17 + 15, none⟩ = some (.int .i64 m5)) (c16 : wr.cell? ⟨bb, off1 + j * 17 + 16, none⟩ = some (.int .i64 m6))
    (HD2 : Hid (DS w wr d p m y wh (4 + j))) (hA : AskP w d p m y wh WD (4 + (j + 1)) T) (e3 : cd ≠ 3) (e4 : cd ≠ 4) (e5 : cd ≠ 5) (e17 : m0 = 17) :
    Code.wp Tryz.prog damBody (Exit.then (fun a' w'' => WI w l (some ⟨bb, off1, none⟩) cap d p m y wh WD g0 g1 g2 g3 g4 g5 g6 g7 g8 g11 g13 g16 g17 g18 g19 g20 g21 g22 g23 g24 g25 g26 g27 g28 g29 g30 g31 g32 g33 g34 g35 g36 g37 g38 g39 g40 g41 g42 g43 g44 g45 g46 g47 g48 g49 g50 g51 g52 g53 g54 g55 g56 g57 g58 g59 g60 g61 g62 g63 g64 g65 g66 g67 g68 g69 g70 g71 g72 g73 g74 g75 g76 g77 g78 g79 g124 g125 g126 g127 g128 g129 g130 g131 g132 g133 g134 g135 g136 g137 g138 g139 g140 g141 a' w'' ∧ Wmu l.length a' w'' < Wmu l.length ⟨#[g0, g1, g2, g3, g4, g5, g6, g7, g8, .pointer (some ⟨d, 0, none⟩), .pointer (some ⟨p, 0, none⟩), g11, .string WD, g13, g14, g15, g16, g17, g18, g19, g20, g21, g22, g23, g24, g25, g26, g27, g28, g29, g30, g31, g32, g33, g34, g35, g36, g37, g38, g39, g40, g41, g42, g43, g44, g45, g46, g47, g48, g49, g50, g51, g52, g53, g54, g55, g56, g57, g58, g59, g60, g61, g62, g63, g64, g65, g66, g67, g68, g69, g70, g71, g72, g73, g74, g75, g76, g77, g78, g79, .slice (some ⟨bb, off1, none⟩) l.length cap, .int .i64 (l.length : Int), .int .i64 (j : Int), g83, g84, g85, g86, g87, g88, g89, g90, g91, g92, g93, g94, g95, g96, g97, g98, g99, g100, g101, g102, g103, g104, g105, g106, g107, g108, g109, g110, g111, g112, g113, g114, g115, g116, g117, g118, g119, g120, g121, g122, g123, g124, g125, g126, g127, g128, g129, g130, g131, g132, g133, g134, g135, g136, g137, g138, g139, g140, g141], []⟩ wr) Q0) ⟨#[g0, g1, g2, g3, g4, g5, g6, g7, g8, .pointer (some ⟨d, 0, none⟩), .pointer (some ⟨p, 0, none⟩), g11, .string WD, g13, g14, g15, g16, g17, g18, g19, g20, g21, g22, g23, g24, g25, g26, g27, g28, g29, g30, g31, g32, g33, g34, g35, g36, g37, g38, g39, g40, g41, g42, g43, g44, g45, g46, g47, g48, g49, g50, g51, g52, g53, g54, g55, g56, g57, g58, g59, g60, g61, g62, g63, g64, g65, g66, g67, g68, g69, g70, g71, g72, g73, g74, g75, g76, g77, g78, g79, .slice (some ⟨bb, off1, none⟩) l.length cap, .int .i64 (l.length : Int), .int .i64 (j : Int), g83, g84, g85, g86, g87, g88, g89, g90, g91, g92, g93, g94, g95, g96, g97, g98, g99, g100, g101, g102, g103, g104, g105, g106, g107, g108, g109, g110, g111, g112, g113, g114, g115, g116, g117, g118, g119, g120, g121, g122, g123, g124, g125, g126, g127, g128, g129, g130, g131, g132, g133, g134, g135, g136, g137, g138, g139, g140, g141], []⟩ wr := by
  have ql : (j : Int) < (l.length : Int) := by omega
  obtain ⟨hq, hs1, hs2, hst⟩ := hA
  have ST := hide hst
  clear hst
  have HBV : Hid (Below wr.heap.size wr (wr.alloc (.cells #[.int .i64 cd, .int .i64 ci, .int .i64 cn, .int .i64 ct, .int .i64 oo.id, .int .i64 oo.item, .int .i64 oo.qty, .int .i64 oo.client, .int .i64 oo.price, .slice sa oo.steps.length sc, .int .i64 m0, .int .i64 m1, .int .i64 m2, .int .i64 m3, .int .i64 m4, .int .i64 m5, .int .i64 m6] 36))) := (Below.refl _ _).alloc (Nat.le_refl _) _
  have HDV := hide (HD2.out.on HBV.out)
  clear HD2
  subst e17
  have b3 : (cd == 3) = false := by simpa using e3
  have b4 : (cd == 4) = false := by simpa using e4
  have b5 : (cd == 5) = false := by simpa using e5
  obtain ⟨V, hV⟩ : ∃ V, wr.alloc (.cells #[.int .i64 cd, .int .i64 ci, .int .i64 cn, .int .i64 ct, .int .i64 oo.id, .int .i64 oo.item, .int .i64 oo.qty, .int .i64 oo.client, .int .i64 oo.price, .slice sa oo.steps.length sc, .int .i64 17, .int .i64 m1, .int .i64 m2, .int .i64 m3, .int .i64 m4, .int .i64 m5, .int .i64 m6] 36) = V := ⟨_, rfl⟩
  have hVs : V.heap.size = wr.heap.size + 1 := by rw [← hV]; simp
  obtain ⟨X, hX⟩ : ∃ X, V.alloc (.cells #[.int .i64 17, .int .i64 m1, .int .i64 0, .int .i64 5, .int .i64 m4, .int .i64 m5, .int .i64 m6] 34) = X := ⟨_, rfl⟩
  have hx3 : X.heap[wr.heap.size + 1]? = some (.cells #[.int .i64 17, .int .i64 m1, .int .i64 0, .int .i64 5, .int .i64 m4, .int .i64 m5, .int .i64 m6] 34 (0, 0)) := by
    rw [← hX, ← hVs]
    exact World.alloc_heap_new V _
  have HBX : Hid (Below V.heap.size V X) := by
    show Below _ _ _
    rw [← hX]
    exact (Below.refl _ _).alloc (Nat.le_refl _) _
  rw [hV] at HDV
  have HDX := hide (HDV.out.on HBX.out)
  have y0 : X.cell? ⟨wr.heap.size + 1, 0, none⟩ = some (.int .i64 17) := by rw [cell_of hx3]; rfl
  have y1 : X.cell? ⟨wr.heap.size + 1, 1, none⟩ = some (.int .i64 m1) := by rw [cell_of hx3]; rfl
  have y2 : X.cell? ⟨wr.heap.size + 1, 2, none⟩ = some (.int .i64 0) := by rw [cell_of hx3]; rfl
  have y3 : X.cell? ⟨wr.heap.size + 1, 3, none⟩ = some (.int .i64 5) := by rw [cell_of hx3]; rfl
  have y4 : X.cell? ⟨wr.heap.size + 1, 4, none⟩ = some (.int .i64 m4) := by rw [cell_of hx3]; rfl
  have y5 : X.cell? ⟨wr.heap.size + 1, 5, none⟩ = some (.int .i64 m5) := by rw [cell_of hx3]; rfl
  have y6 : X.cell? ⟨wr.heap.size + 1, 6, none⟩ = some (.int .i64 m6) := by rw [cell_of hx3]; rfl
  have HX := hide hX
  have HV := hide hV
  clear hV hVs hx3 hX HDV HBV
  conv => arg 2; whnf
  go_upto_region 27 with fail
  rw [HV.out, HX.out]
  have S5 := ST.out _ (HDX.out.le (show 4 + j ≤ 4 + (j + 1) by omega))
  clear ST
  go_wp2_with (first
    | (go_at_call 41; refine S5.mono ?_; clear S5; rintro e v7 ⟨rfl, h1⟩; have T5 := h1; clear h1)
    | (go_at_call 43; refine T5.mono ?_; clear T5; rintro e v8 ⟨rfl, h1⟩; have HZ := hide h1; clear h1))
  refine ⟨⟨j + 1, _, _, _, _, _, _, _, _, _, _, _, _, _, _, _, _, _, _, _, _, _, _, _, _, _, _, _, _, _, _, _, _, _, _, _, _, _, _, _, _, _, _, _, _, by go_num, by omega, HZ, rfl⟩, ?_⟩
  simp [Wmu, Go.RowKit.intOf]
  omega

end Go.Proofs.YthfgmpooehkhgaaGreatDoor
/-
  DeskDamage: the loop, whole.
-/
namespace Go.Proofs.YthfgmpooehkhgaaGreatDoor
open Go.ChangeShapes Go.WideShapes Go.ChangeAt Go.RowKit Go.Maps Sg Bl

set_option maxRecDepth 1000000 in
set_option maxHeartbeats 8000000 in
theorem dam_exit {w : World} {l : List C22.Cl} {a1 : Option Addr} {cap d p m : Nat} {y wh : Bool} {WD : ByteArray} {g0 g1 g2 g3 g4 g5 g6 g7 g8 g11 g13 g16 g17 g18 g19 g20 g21 g22 g23 g24 g25 g26 g27 g28 g29 g30 g31 g32 g33 g34 g35 g36 g37 g38 g39 g40 g41 g42 g43 g44 g45 g46 g47 g48 g49 g50 g51 g52 g53 g54 g55 g56 g57 g58 g59 g60 g61 g62 g63 g64 g65 g66 g67 g68 g69 g70 g71 g72 g73 g74 g75 g76 g77 g78 g79 g124 g125 g126 g127 g128 g129 g130 g131 g132 g133 g134 g135 g136 g137 g138 g139 g140 g141 g14 g15 g83 g84 g85 g86 g87 g88 g89 g90 g91 g92 g93 g94 g95 g96 g97 g98 g99 g100 g101 g102 g103 g104 g105 g106 g107 g108 g109 g110 g111 g112 g113 g114 g115 g116 g117 g118 g119 g120 g121 g122 g123 : Value} {wr : World} {Q0 : Exit → Act → World → Prop} {j : Nat} (hj : j ≤ l.length) (hlt : ¬ j < l.length) (HD2 : Hid (DS w wr d p m y wh (4 + j)))
    (hexit : ∀ a' w'', WI w l a1 cap d p m y wh WD g0 g1 g2 g3 g4 g5 g6 g7 g8 g11 g13 g16 g17 g18 g19 g20 g21 g22 g23 g24 g25 g26 g27 g28 g29 g30 g31 g32 g33 g34 g35 g36 g37 g38 g39 g40 g41 g42 g43 g44 g45 g46 g47 g48 g49 g50 g51 g52 g53 g54 g55 g56 g57 g58 g59 g60 g61 g62 g63 g64 g65 g66 g67 g68 g69 g70 g71 g72 g73 g74 g75 g76 g77 g78 g79 g124 g125 g126 g127 g128 g129 g130 g131 g132 g133 g134 g135 g136 g137 g138 g139 g140 g141 a' w'' → Q0 (.exit 2) a' w'') : Code.wp Tryz.prog damBody (Exit.then (fun a' w'' => WI w l a1 cap d p m y wh WD g0 g1 g2 g3 g4 g5 g6 g7 g8 g11 g13 g16 g17 g18 g19 g20 g21 g22 g23 g24 g25 g26 g27 g28 g29 g30 g31 g32 g33 g34 g35 g36 g37 g38 g39 g40 g41 g42 g43 g44 g45 g46 g47 g48 g49 g50 g51 g52 g53 g54 g55 g56 g57 g58 g59 g60 g61 g62 g63 g64 g65 g66 g67 g68 g69 g70 g71 g72 g73 g74 g75 g76 g77 g78 g79 g124 g125 g126 g127 g128 g129 g130 g131 g132 g133 g134 g135 g136 g137 g138 g139 g140 g141 a' w'' ∧ Wmu l.length a' w'' < Wmu l.length ⟨#[g0, g1, g2, g3, g4, g5, g6, g7, g8, .pointer (some ⟨d, 0, none⟩), .pointer (some ⟨p, 0, none⟩), g11, .string WD, g13, g14, g15, g16, g17, g18, g19, g20, g21, g22, g23, g24, g25, g26, g27, g28, g29, g30, g31, g32, g33, g34, g35, g36, g37, g38, g39, g40, g41, g42, g43, g44, g45, g46, g47, g48, g49, g50, g51, g52, g53, g54, g55, g56, g57, g58, g59, g60, g61, g62, g63, g64, g65, g66, g67, g68, g69, g70, g71, g72, g73, g74, g75, g76, g77, g78, g79, .slice a1 l.length cap, .int .i64 (l.length : Int), .int .i64 (j : Int), g83, g84, g85, g86, g87, g88, g89, g90, g91, g92, g93, g94, g95, g96, g97, g98, g99, g100, g101, g102, g103, g104, g105, g106, g107, g108, g109, g110, g111, g112, g113, g114, g115, g116, g117, g118, g119, g120, g121, g122, g123, g124, g125, g126, g127, g128, g129, g130, g131, g132, g133, g134, g135, g136, g137, g138, g139, g140, g141], []⟩ wr) Q0) ⟨#[g0, g1, g2, g3, g4, g5, g6, g7, g8, .pointer (some ⟨d, 0, none⟩), .pointer (some ⟨p, 0, none⟩), g11, .string WD, g13, g14, g15, g16, g17, g18, g19, g20, g21, g22, g23, g24, g25, g26, g27, g28, g29, g30, g31, g32, g33, g34, g35, g36, g37, g38, g39, g40, g41, g42, g43, g44, g45, g46, g47, g48, g49, g50, g51, g52, g53, g54, g55, g56, g57, g58, g59, g60, g61, g62, g63, g64, g65, g66, g67, g68, g69, g70, g71, g72, g73, g74, g75, g76, g77, g78, g79, .slice a1 l.length cap, .int .i64 (l.length : Int), .int .i64 (j : Int), g83, g84, g85, g86, g87, g88, g89, g90, g91, g92, g93, g94, g95, g96, g97, g98, g99, g100, g101, g102, g103, g104, g105, g106, g107, g108, g109, g110, g111, g112, g113, g114, g115, g116, g117, g118, g119, g120, g121, g122, g123, g124, g125, g126, g127, g128, g129, g130, g131, g132, g133, g134, g135, g136, g137, g138, g139, g140, g141], []⟩ wr := by
  have ql : ¬ (j : Int) < (l.length : Int) := by omega
  have HJ := hide hj
  have HE := hide hexit
  clear hexit hj hlt
  conv => arg 2; whnf
  go_wp2_with fail
  exact HE.out _ _ ⟨j, _, _, _, _, _, _, _, _, _, _, _, _, _, _, _, _, _, _, _, _, _, _, _, _, _, _, _, _, _, _, _, _, _, _, _, _, _, _, _, _, _, _, _, _, rfl, HJ.out, HD2, rfl⟩
set_option maxRecDepth 1000000 in
set_option maxHeartbeats 8000000 in
theorem dam_round {w : World} {l : List C22.Cl} {a1 : Option Addr} {cap d p m : Nat} {y wh : Bool} {WD : ByteArray} {g0 g1 g2 g3 g4 g5 g6 g7 g8 g11 g13 g16 g17 g18 g19 g20 g21 g22 g23 g24 g25 g26 g27 g28 g29 g30 g31 g32 g33 g34 g35 g36 g37 g38 g39 g40 g41 g42 g43 g44 g45 g46 g47 g48 g49 g50 g51 g52 g53 g54 g55 g56 g57 g58 g59 g60 g61 g62 g63 g64 g65 g66 g67 g68 g69 g70 g71 g72 g73 g74 g75 g76 g77 g78 g79 g124 g125 g126 g127 g128 g129 g130 g131 g132 g133 g134 g135 g136 g137 g138 g139 g140 g141 : Value} {T : ByteArray} {Q0 : Exit → Act → World → Prop} (HG : Hid (Gl w)) (hlen : l.length ≤ 9223372036854775807) (HCL : Hid (C22.Cls w a1 l)) (hA : ∀ n, AskP w d p m y wh WD n T) (hexit : ∀ a' w'', WI w l a1 cap d p m y wh WD g0 g1 g2 g3 g4 g5 g6 g7 g8 g11 g13 g16 g17 g18 g19 g20 g21 g22 g23 g24 g25 g26 g27 g28 g29 g30 g31 g32 g33 g34 g35 g36 g37 g38 g39 g40 g41 g42 g43 g44 g45 g46 g47 g48 g49 g50 g51 g52 g53 g54 g55 g56 g57 g58 g59 g60 g61 g62 g63 g64 g65 g66 g67 g68 g69 g70 g71 g72 g73 g74 g75 g76 g77 g78 g79 g124 g125 g126 g127 g128 g129 g130 g131 g132 g133 g134 g135 g136 g137 g138 g139 g140 g141 a' w'' → Q0 (.exit 2) a' w'') (a : Act) (wr : World) (hI : WI w l a1 cap d p m y wh WD g0 g1 g2 g3 g4 g5 g6 g7 g8 g11 g13 g16 g17 g18 g19 g20 g21 g22 g23 g24 g25 g26 g27 g28 g29 g30 g31 g32 g33 g34 g35 g36 g37 g38 g39 g40 g41 g42 g43 g44 g45 g46 g47 g48 g49 g50 g51 g52 g53 g54 g55 g56 g57 g58 g59 g60 g61 g62 g63 g64 g65 g66 g67 g68 g69 g70 g71 g72 g73 g74 g75 g76 g77 g78 g79 g124 g125 g126 g127 g128 g129 g130 g131 g132 g133 g134 g135 g136 g137 g138 g139 g140 g141 a wr) :
    Code.wp Tryz.prog damBody (Exit.then (fun a' w'' => WI w l a1 cap d p m y wh WD g0 g1 g2 g3 g4 g5 g6 g7 g8 g11 g13 g16 g17 g18 g19 g20 g21 g22 g23 g24 g25 g26 g27 g28 g29 g30 g31 g32 g33 g34 g35 g36 g37 g38 g39 g40 g41 g42 g43 g44 g45 g46 g47 g48 g49 g50 g51 g52 g53 g54 g55 g56 g57 g58 g59 g60 g61 g62 g63 g64 g65 g66 g67 g68 g69 g70 g71 g72 g73 g74 g75 g76 g77 g78 g79 g124 g125 g126 g127 g128 g129 g130 g131 g132 g133 g134 g135 g136 g137 g138 g139 g140 g141 a' w'' ∧ Wmu l.length a' w'' < Wmu l.length a wr) Q0) a wr := by
  unfold WI at hI
  obtain ⟨j, hI⟩ := hI
  obtain ⟨g82, hI⟩ := hI
  obtain ⟨g14, hI⟩ := hI
  obtain ⟨g15, hI⟩ := hI
  obtain ⟨g83, hI⟩ := hI
  obtain ⟨g84, hI⟩ := hI
  obtain ⟨g85, hI⟩ := hI
  obtain ⟨g86, hI⟩ := hI
  obtain ⟨g87, hI⟩ := hI
  obtain ⟨g88, hI⟩ := hI
  obtain ⟨g89, hI⟩ := hI
  obtain ⟨g90, hI⟩ := hI
  obtain ⟨g91, hI⟩ := hI
  obtain ⟨g92, hI⟩ := hI
  obtain ⟨g93, hI⟩ := hI
  obtain ⟨g94, hI⟩ := hI
  obtain ⟨g95, hI⟩ := hI
  obtain ⟨g96, hI⟩ := hI
  obtain ⟨g97, hI⟩ := hI
  obtain ⟨g98, hI⟩ := hI
  obtain ⟨g99, hI⟩ := hI
  obtain ⟨g100, hI⟩ := hI
  obtain ⟨g101, hI⟩ := hI
  obtain ⟨g102, hI⟩ := hI
  obtain ⟨g103, hI⟩ := hI
  obtain ⟨g104, hI⟩ := hI
  obtain ⟨g105, hI⟩ := hI
  obtain ⟨g106, hI⟩ := hI
  obtain ⟨g107, hI⟩ := hI
  obtain ⟨g108, hI⟩ := hI
  obtain ⟨g109, hI⟩ := hI
  obtain ⟨g110, hI⟩ := hI
  obtain ⟨g111, hI⟩ := hI
  obtain ⟨g112, hI⟩ := hI
  obtain ⟨g113, hI⟩ := hI
  obtain ⟨g114, hI⟩ := hI
  obtain ⟨g115, hI⟩ := hI
  obtain ⟨g116, hI⟩ := hI
  obtain ⟨g117, hI⟩ := hI
  obtain ⟨g118, hI⟩ := hI
  obtain ⟨g119, hI⟩ := hI
  obtain ⟨g120, hI⟩ := hI
  obtain ⟨g121, hI⟩ := hI
  obtain ⟨g122, hI⟩ := hI
  obtain ⟨g123, hI⟩ := hI
  obtain ⟨rfl, hj, HD2, rfl⟩ := hI
  by_cases hlt : j < l.length
  rotate_left
  · exact dam_exit hj hlt HD2 hexit
  obtain ⟨⟨cd, ci, cn, ct, oo, sa, sc, ⟨m0, m1, m2, m3, m4, m5, m6⟩⟩, hc⟩ : ∃ c, l[j]? = some c := ⟨l[j], by simp [hlt]⟩
  rcases HCL.out.below HD2.out.bel with hh | ⟨bb, off1, rfl, hca⟩
  · subst hh; simp at hlt
  have hx := hca j _ hc
  dsimp only at hx
  obtain ⟨⟨c0, c1, c2, c3, c4, c5, c6, c7, c8, c9, c10, c11, c12, c13, c14, c15, c16⟩, -⟩ := hx
  by_cases e3 : cd = 3
  · exact dam_3 HG hlen hlt c0 c1 c2 c3 c4 c5 c6 c7 c8 c9 c10 c11 c12 c13 c14 c15 c16 HD2 (hA _) e3
  by_cases e4 : cd = 4
  · exact dam_4 HG hlen hlt c0 c1 c2 c3 c4 c5 c6 c7 c8 c9 c10 c11 c12 c13 c14 c15 c16 HD2 (hA _) e4
  by_cases e5 : cd = 5
  · exact dam_5 HG hlen hlt c0 c1 c2 c3 c4 c5 c6 c7 c8 c9 c10 c11 c12 c13 c14 c15 c16 HD2 (hA _) e5
  by_cases e17 : m0 = 17
  · exact dam_17 HG hlen hlt c0 c1 c2 c3 c4 c5 c6 c7 c8 c9 c10 c11 c12 c13 c14 c15 c16 HD2 (hA _) e3 e4 e5 e17
  · exact dam_n HG hlen hlt c0 c1 c2 c3 c4 c5 c6 c7 c8 c9 c10 c11 c12 c13 c14 c15 c16 HD2 (hA _) e3 e4 e5 e17
set_option maxRecDepth 1000000 in
set_option maxHeartbeats 8000000 in
theorem dam_loop {w : World} {l : List C22.Cl} {a1 : Option Addr} {cap d p m : Nat} {y wh : Bool} {WD : ByteArray} {g0 g1 g2 g3 g4 g5 g6 g7 g8 g11 g13 g16 g17 g18 g19 g20 g21 g22 g23 g24 g25 g26 g27 g28 g29 g30 g31 g32 g33 g34 g35 g36 g37 g38 g39 g40 g41 g42 g43 g44 g45 g46 g47 g48 g49 g50 g51 g52 g53 g54 g55 g56 g57 g58 g59 g60 g61 g62 g63 g64 g65 g66 g67 g68 g69 g70 g71 g72 g73 g74 g75 g76 g77 g78 g79 g124 g125 g126 g127 g128 g129 g130 g131 g132 g133 g134 g135 g136 g137 g138 g139 g140 g141 g82 g14 g15 g83 g84 g85 g86 g87 g88 g89 g90 g91 g92 g93 g94 g95 g96 g97 g98 g99 g100 g101 g102 g103 g104 g105 g106 g107 g108 g109 g110 g111 g112 g113 g114 g115 g116 g117 g118 g119 g120 g121 g122 g123 : Value} {T : ByteArray} {Q0 : Exit → Act → World → Prop} {wr : World} (HG : Hid (Gl w)) (hlen : l.length ≤ 9223372036854775807) (HCL : Hid (C22.Cls w a1 l)) (hA : ∀ n, AskP w d p m y wh WD n T) (h82 : g82 = .int .i64 ((0 : Nat) : Int)) (HD2 : Hid (DS w wr d p m y wh (4 + 0))) (hexit : ∀ a' w'', WI w l a1 cap d p m y wh WD g0 g1 g2 g3 g4 g5 g6 g7 g8 g11 g13 g16 g17 g18 g19 g20 g21 g22 g23 g24 g25 g26 g27 g28 g29 g30 g31 g32 g33 g34 g35 g36 g37 g38 g39 g40 g41 g42 g43 g44 g45 g46 g47 g48 g49 g50 g51 g52 g53 g54 g55 g56 g57 g58 g59 g60 g61 g62 g63 g64 g65 g66 g67 g68 g69 g70 g71 g72 g73 g74 g75 g76 g77 g78 g79 g124 g125 g126 g127 g128 g129 g130 g131 g132 g133 g134 g135 g136 g137 g138 g139 g140 g141 a' w'' → Q0 (.exit 2) a' w'') :
    Code.wp Tryz.prog (Code.loop damBody) Q0 ⟨#[g0, g1, g2, g3, g4, g5, g6, g7, g8, .pointer (some ⟨d, 0, none⟩), .pointer (some ⟨p, 0, none⟩), g11, .string WD, g13, g14, g15, g16, g17, g18, g19, g20, g21, g22, g23, g24, g25, g26, g27, g28, g29, g30, g31, g32, g33, g34, g35, g36, g37, g38, g39, g40, g41, g42, g43, g44, g45, g46, g47, g48, g49, g50, g51, g52, g53, g54, g55, g56, g57, g58, g59, g60, g61, g62, g63, g64, g65, g66, g67, g68, g69, g70, g71, g72, g73, g74, g75, g76, g77, g78, g79, .slice a1 l.length cap, .int .i64 (l.length : Int), g82, g83, g84, g85, g86, g87, g88, g89, g90, g91, g92, g93, g94, g95, g96, g97, g98, g99, g100, g101, g102, g103, g104, g105, g106, g107, g108, g109, g110, g111, g112, g113, g114, g115, g116, g117, g118, g119, g120, g121, g122, g123, g124, g125, g126, g127, g128, g129, g130, g131, g132, g133, g134, g135, g136, g137, g138, g139, g140, g141], []⟩ wr :=
  wp_loop (WI w l a1 cap d p m y wh WD g0 g1 g2 g3 g4 g5 g6 g7 g8 g11 g13 g16 g17 g18 g19 g20 g21 g22 g23 g24 g25 g26 g27 g28 g29 g30 g31 g32 g33 g34 g35 g36 g37 g38 g39 g40 g41 g42 g43 g44 g45 g46 g47 g48 g49 g50 g51 g52 g53 g54 g55 g56 g57 g58 g59 g60 g61 g62 g63 g64 g65 g66 g67 g68 g69 g70 g71 g72 g73 g74 g75 g76 g77 g78 g79 g124 g125 g126 g127 g128 g129 g130 g131 g132 g133 g134 g135 g136 g137 g138 g139 g140 g141) (Wmu l.length) ⟨0, g82, g14, g15, g83, g84, g85, g86, g87, g88, g89, g90, g91, g92, g93, g94, g95, g96, g97, g98, g99, g100, g101, g102, g103, g104, g105, g106, g107, g108, g109, g110, g111, g112, g113, g114, g115, g116, g117, g118, g119, g120, g121, g122, g123, h82, Nat.zero_le _, HD2, rfl⟩ (fun a w'' hI => dam_round HG hlen HCL hA hexit a w'' hI)

end Go.Proofs.YthfgmpooehkhgaaGreatDoor
/-
  DeskDamage: the walk.
-/
namespace Go.Proofs.YthfgmpooehkhgaaGreatDoor
open Go.ChangeShapes Go.WideShapes Go.ChangeAt Go.RowKit Go.Maps Sg Bl

theorem dam_ask {w : World} {d p m : Nat} {y wh : Bool} (hg : Gl w) (WL : List UInt8) (hW : dmT wh = [53, 58, 32, 100, 97, 109, 97, 103, 101, 100] ++ WL) (hs : WL.length ≤ 10) (n : Nat) : AskP w d p m y wh (txB WL) n (txB (dmT wh)) := by
  refine ⟨?_, ?_, ?_, fun u h => h.status.mono (fun _ _ ⟨e1, e2⟩ => ⟨e1, e2.tell hg⟩)⟩
  · rw [show ((⟨#[53, 58, 32, 100, 97, 109, 97, 103, 101, 100]⟩ : ByteArray) ++ txB WL) = txB (dmT wh) from by rw [hW]; exact txB_app [53, 58, 32, 100, 97, 109, 97, 103, 101, 100] WL]
    simp
  · rw [txB_len, hW]
    simp
    omega
  · rw [txB_len]
    exact hs
set_option maxRecDepth 100000 in
set_option maxHeartbeats 8000000 in
theorem deskDamage_walk (a : Int) (yes : Bool) (l : List C22.Cl) (a1 : Option Addr) (cap : Nat) (w : World) (_h0 : (Lit.int .i64 a).wf = true) (w1 : C22.ClsIn w l a1) (hg : Gl w) :
    Calls Tryz.prog 6 #[.int .i64 a, .bool yes, .slice a1 l.length cap] w fun e w' => e = .returned (.bool true) ∧ Below w.heap.size w w' := by
  obtain ⟨ba1, ba2⟩ := um_bd a 2 (by omega) (by omega)
  obtain ⟨A, hA⟩ : ∃ A, um a 2 = A := ⟨_, rfl⟩
  rw [hA] at ba1 ba2
  unfold um at hA
  obtain ⟨hlen, hcl⟩ := w1
  have HCL := hide hcl
  have AW : Hid (∀ u, Below w.heap.size w u → Calls Tryz.prog 35 #[] u fun e w' => e = .returned (.bool true) ∧ Below w.heap.size w w') := fun u hu => (dwake_any u (hg.on hu)).mono (fun _ _ ⟨e1, e2⟩ => ⟨e1, bel_on' hu e2⟩)
  have H0 : Hid (Below w.heap.size w w) := Below.refl _ _
  have HG := hide hg
  have hA01 : A = 0 ∨ A = 1 := by omega
  clear hcl _h0 hg
  go_enter Tryz.func6, Tryz.ntmps6
  go_wp2_with fail
  go_loopw [20] (fun i wr => ∃ j : Nat, i = .int .i64 j ∧ j ≤ l.length ∧ j ≤ 60 ∧ Hid (Below w.heap.size w wr)) (fun i _ => l.length - (Go.RowKit.intOf i).toNat)
  case atStart => exact ⟨0, rfl, Nat.zero_le _, by omega, H0⟩
  case round =>
    obtain ⟨j, rfl, hj, hj6, HB⟩ := hrel
    clear H0
    by_cases hlt : j < l.length
    · have ql : (j : Int) < (l.length : Int) := by omega
      obtain ⟨⟨cd, ci, cn, ct, oo, sa, sc, ⟨m0, m1, m2, m3, m4, m5, m6⟩⟩, hc⟩ : ∃ c, l[j]? = some c := ⟨l[j], by simp [hlt]⟩
      rcases HCL.out.below HB.out with hh | ⟨bb, off1, rfl, hca⟩
      · subst hh; simp at hlt
      have hx := hca j _ hc
      dsimp only at hx
      obtain ⟨⟨c0, c1, c2, c3, c4, c5, c6, c7, c8, c9, c10, c11, c12, c13, c14, c15, c16⟩, -⟩ := hx
      have HBV : Hid (Below w.heap.size w (wr.alloc (.cells #[.int .i64 cd, .int .i64 ci, .int .i64 cn, .int .i64 ct, .int .i64 oo.id, .int .i64 oo.item, .int .i64 oo.qty, .int .i64 oo.client, .int .i64 oo.price, .slice sa oo.steps.length sc, .int .i64 m0, .int .i64 m1, .int .i64 m2, .int .i64 m3, .int .i64 m4, .int .i64 m5, .int .i64 m6] 36))) := bel_on' HB.out ((Below.refl _ _).alloc (Nat.le_refl _) _)
      clear hca hc HB
      by_cases h60 : j < 60
      rotate_left
      · have q1 : (j : Int) ≥ 60 := by omega
        go_wp2_with (go_at_call 35; refine (AW.out _ HBV.out).mono ?_; rintro e v1 ⟨rfl, h1⟩; have HX := hide h1; clear h1)
        go_ret
        exact ⟨rfl, HX.out⟩
      have q1 : ¬ (j : Int) ≥ 60 := by omega
      by_cases h10 : oo.steps.length ≤ 10
      rotate_left
      · have q2 : (oo.steps.length : Int) > 10 := by omega
        go_wp2_with (go_at_call 35; refine (AW.out _ HBV.out).mono ?_; rintro e v1 ⟨rfl, h1⟩; have HX := hide h1; clear h1)
        go_ret
        exact ⟨rfl, HX.out⟩
      have q2 : ¬ (oo.steps.length : Int) > 10 := by omega
      go_wp2_with fail
      go_roundw
      case rel => exact ⟨j + 1, by go_num, by omega, by omega, HBV⟩
      case measure => simp [Go.RowKit.intOf]; omega
    have ql : ¬ (j : Int) < (l.length : Int) := by omega
    have hl60 : l.length ≤ 60 := by omega
    clear hlt
    rcases hA01 with rfl | rfl
    · cases yes
      · as_aux_lemma =>
        have N := Da.new (w0 := w) HB.out 3 4096 3
        have SB : Hid (∀ u d p m O, Da w O u d p m 0 (newCh 3 4096 3) (fun _ => false) → Calls Tryz.prog 39 #[.pointer (some ⟨d, 0, none⟩), .agg #[.int .i64 5, .int .i64 0, .int .i64 1, .int .i64 0, .int .i64 1, .slice none 0 0]] u fun e u' => (∃ z, e = .returned z) ∧ Calls Tryz.prog 38 #[.pointer (some ⟨d, 0, none⟩)] u' (fun e u2 => e = .returned (.pointer (some ⟨p, 0, none⟩)) ∧ u' = u2) ∧ Da1 w u' d p m (begS (newCh 3 4096 3) (ltO 5))) := fun u d p m O h => Da1.sub HG.out h
        have Y1 : Hid (∀ u d p m, Da1 w u d p m (begS (newCh 3 4096 3) (ltO 5)) → Calls Tryz.prog 13 #[.pointer (some ⟨p, 0, none⟩), .int .i64 5] u fun e u' => (∃ z, e = .returned z) ∧ Da1 w u' d p m (dmB false)) := fun u d p m h => h.can HG.out rfl
        have DM : Hid (∀ u d p m, Da1 w u d p m (dmB false) → Calls Tryz.prog 24 #[.pointer (some ⟨p, 0, none⟩), .agg #[.int .i64 17, .int .i64 1, .int .i64 0, .int .i64 5, .int .i64 0, .int .i64 0, .int .i64 0]] u fun e u' => ∃ b off k c, e = .returned (.slice (some ⟨b, off, none⟩) k c) ∧ (0 : Int) < ((k : Nat) : Int) ∧ u'.cell? ⟨b, off, none⟩ = some (.int .i64 18) ∧ u'.cell? ⟨b, off + 2, none⟩ = some (.int .i64 1) ∧ DS w u' d p m false false 4) := fun u d p m h => Da1.dmg (wh := false) HG.out h
        generalize newCh 3 4096 3 = v0 at *
        generalize begS v0 (ltO 5) = x1 at *
        generalize dmB false = x3 at *
        go_wp2_with (first
          | (go_at_call 36; refine N.mono ?_; clear N; rintro e u1 ⟨d, p, m, O, rfl, h1, -, -, -⟩; have B1 := SB.out _ _ _ _ _ h1; clear h1 SB HB)
          | (go_at_call 39; refine B1.mono ?_; clear B1; rintro e u2 ⟨⟨z, rfl⟩, hc, h1⟩; have CH := hc; have Z1 := Y1.out _ _ _ _ h1; clear h1 hc Y1)
          | (go_at_call 38; refine CH.mono ?_; clear CH; rintro e u3 ⟨rfl, rfl⟩)
          | (go_at_call 13; refine Z1.mono ?_; clear Z1; rintro e u5 ⟨⟨z5, rfl⟩, h1⟩; have D1 := DM.out _ _ _ _ h1; clear h1 DM)
          | (go_at_call 24; refine D1.mono ?_; clear D1; rintro e u6 ⟨b6, off6, k6, c6, rfl, hk6, y0, y2, h1⟩; have HD := hide h1; have q6 : (((k6 : Nat) : Int) == 0) = false := (by simp; omega); clear h1))
        clear y0 y2
        have hA : ∀ n, AskP w d p m false false (txB [32, 115, 116, 111, 99, 107]) n (txB (dmT false)) := fun n => dam_ask HG.out [32, 115, 116, 111, 99, 107] rfl (by decide) n
        refine dam_loop (WD := txB [32, 115, 116, 111, 99, 107]) (T := txB (dmT false)) (y := false) (wh := false) HG hlen HCL hA rfl HD ?_
        clear HD hA
        intro a' w'' hI
        unfold WI at hI
        obtain ⟨j, hI⟩ := hI
        obtain ⟨g82, hI⟩ := hI
        obtain ⟨g14, hI⟩ := hI
        obtain ⟨g15, hI⟩ := hI
        obtain ⟨g83, hI⟩ := hI
        obtain ⟨g84, hI⟩ := hI
        obtain ⟨g85, hI⟩ := hI
        obtain ⟨g86, hI⟩ := hI
        obtain ⟨g87, hI⟩ := hI
        obtain ⟨g88, hI⟩ := hI
        obtain ⟨g89, hI⟩ := hI
        obtain ⟨g90, hI⟩ := hI
        obtain ⟨g91, hI⟩ := hI
        obtain ⟨g92, hI⟩ := hI
        obtain ⟨g93, hI⟩ := hI
        obtain ⟨g94, hI⟩ := hI
        obtain ⟨g95, hI⟩ := hI
        obtain ⟨g96, hI⟩ := hI
        obtain ⟨g97, hI⟩ := hI
        obtain ⟨g98, hI⟩ := hI
        obtain ⟨g99, hI⟩ := hI
        obtain ⟨g100, hI⟩ := hI
        obtain ⟨g101, hI⟩ := hI
        obtain ⟨g102, hI⟩ := hI
        obtain ⟨g103, hI⟩ := hI
        obtain ⟨g104, hI⟩ := hI
        obtain ⟨g105, hI⟩ := hI
        obtain ⟨g106, hI⟩ := hI
        obtain ⟨g107, hI⟩ := hI
        obtain ⟨g108, hI⟩ := hI
        obtain ⟨g109, hI⟩ := hI
        obtain ⟨g110, hI⟩ := hI
        obtain ⟨g111, hI⟩ := hI
        obtain ⟨g112, hI⟩ := hI
        obtain ⟨g113, hI⟩ := hI
        obtain ⟨g114, hI⟩ := hI
        obtain ⟨g115, hI⟩ := hI
        obtain ⟨g116, hI⟩ := hI
        obtain ⟨g117, hI⟩ := hI
        obtain ⟨g118, hI⟩ := hI
        obtain ⟨g119, hI⟩ := hI
        obtain ⟨g120, hI⟩ := hI
        obtain ⟨g121, hI⟩ := hI
        obtain ⟨g122, hI⟩ := hI
        obtain ⟨g123, hI⟩ := hI
        obtain ⟨rfl, hj, HD2, rfl⟩ := hI
        have AC := HD2.out.acc HG.out (by omega)
        go_wp2_with (first
          | (go_at_call 15; refine AC.mono ?_; clear AC; rintro e v1 ⟨rfl, h1⟩; have A2 := h1; clear h1)
          | (go_at_call 15; refine A2.mono ?_; clear A2; rintro e v2 ⟨rfl, h1⟩; have S2 := h1; clear h1)
          | (go_at_call 41; refine S2.mono ?_; clear S2; rintro e v3 ⟨⟨s, rfl, hs7⟩, h1⟩; have A3 := AW.out _ h1; clear h1)
          | (go_at_call 35; refine A3.mono ?_; clear A3; rintro e v4 ⟨rfl, h1⟩; have HX := hide h1; clear h1))
        go_ret
        exact ⟨rfl, HX.out⟩
      · as_aux_lemma =>
        have N := Da.new (w0 := w) HB.out 3 4096 3
        have SB : Hid (∀ u d p m O, Da w O u d p m 0 (newCh 3 4096 3) (fun _ => false) → Calls Tryz.prog 39 #[.pointer (some ⟨d, 0, none⟩), .agg #[.int .i64 5, .int .i64 0, .int .i64 1, .int .i64 0, .int .i64 1, .slice none 0 0]] u fun e u' => (∃ z, e = .returned z) ∧ Calls Tryz.prog 38 #[.pointer (some ⟨d, 0, none⟩)] u' (fun e u2 => e = .returned (.pointer (some ⟨p, 0, none⟩)) ∧ u' = u2) ∧ Da1 w u' d p m (begS (newCh 3 4096 3) (ltO 5))) := fun u d p m O h => Da1.sub HG.out h
        have Y1 : Hid (∀ u d p m, Da1 w u d p m (begS (newCh 3 4096 3) (ltO 5)) → Calls Tryz.prog 24 #[.pointer (some ⟨p, 0, none⟩), .agg #[.int .i64 7, .int .i64 1, .int .i64 0, .int .i64 5, .int .i64 0, .int .i64 0, .int .i64 0]] u fun e u' => (∃ z, e = .returned z) ∧ Da1 w u' d p m (hdSA (begS (newCh 3 4096 3) (ltO 5)) ⟨7, 1, 0, 5, 0, 0, 0⟩).1) := fun u d p m h => h.hd HG.out 7 1 rfl
        have Y2 : Hid (∀ u d p m, Da1 w u d p m (hdSA (begS (newCh 3 4096 3) (ltO 5)) ⟨7, 1, 0, 5, 0, 0, 0⟩).1 → Calls Tryz.prog 24 #[.pointer (some ⟨p, 0, none⟩), .agg #[.int .i64 7, .int .i64 2, .int .i64 0, .int .i64 5, .int .i64 0, .int .i64 0, .int .i64 0]] u fun e u' => (∃ z, e = .returned z) ∧ Da1 w u' d p m (dmB true)) := fun u d p m h => h.hd HG.out 7 2 rfl
        have DM : Hid (∀ u d p m, Da1 w u d p m (dmB true) → Calls Tryz.prog 24 #[.pointer (some ⟨p, 0, none⟩), .agg #[.int .i64 17, .int .i64 1, .int .i64 0, .int .i64 5, .int .i64 0, .int .i64 0, .int .i64 0]] u fun e u' => ∃ b off k c, e = .returned (.slice (some ⟨b, off, none⟩) k c) ∧ (0 : Int) < ((k : Nat) : Int) ∧ u'.cell? ⟨b, off, none⟩ = some (.int .i64 18) ∧ u'.cell? ⟨b, off + 2, none⟩ = some (.int .i64 1) ∧ DS w u' d p m true false 4) := fun u d p m h => Da1.dmg (wh := false) HG.out h
        generalize newCh 3 4096 3 = v0 at *
        generalize begS v0 (ltO 5) = x1 at *
        generalize (hdSA x1 ⟨7, 1, 0, 5, 0, 0, 0⟩).1 = x2 at *
        generalize dmB true = x3 at *
        go_wp2_with (first
          | (go_at_call 36; refine N.mono ?_; clear N; rintro e u1 ⟨d, p, m, O, rfl, h1, -, -, -⟩; have B1 := SB.out _ _ _ _ _ h1; clear h1 SB HB)
          | (go_at_call 39; refine B1.mono ?_; clear B1; rintro e u2 ⟨⟨z, rfl⟩, hc, h1⟩; have CH := hc; have Z1 := Y1.out _ _ _ _ h1; clear h1 hc Y1)
          | (go_at_call 38; refine CH.mono ?_; clear CH; rintro e u3 ⟨rfl, rfl⟩)
          | (go_at_call 24; refine Z1.mono ?_; clear Z1; rintro e u4 ⟨⟨z4, rfl⟩, h1⟩; have Z2 := Y2.out _ _ _ _ h1; clear h1 Y2)
          | (go_at_call 24; refine Z2.mono ?_; clear Z2; rintro e u5 ⟨⟨z5, rfl⟩, h1⟩; have D1 := DM.out _ _ _ _ h1; clear h1 DM)
          | (go_at_call 24; refine D1.mono ?_; clear D1; rintro e u6 ⟨b6, off6, k6, c6, rfl, hk6, y0, y2, h1⟩; have HD := hide h1; have q6 : (((k6 : Nat) : Int) == 0) = false := (by simp; omega); clear h1))
        clear y0 y2
        have hA : ∀ n, AskP w d p m true false (txB [32, 115, 116, 111, 99, 107]) n (txB (dmT false)) := fun n => dam_ask HG.out [32, 115, 116, 111, 99, 107] rfl (by decide) n
        refine dam_loop (WD := txB [32, 115, 116, 111, 99, 107]) (T := txB (dmT false)) (y := true) (wh := false) HG hlen HCL hA rfl HD ?_
        clear HD hA
        intro a' w'' hI
        unfold WI at hI
        obtain ⟨j, hI⟩ := hI
        obtain ⟨g82, hI⟩ := hI
        obtain ⟨g14, hI⟩ := hI
        obtain ⟨g15, hI⟩ := hI
        obtain ⟨g83, hI⟩ := hI
        obtain ⟨g84, hI⟩ := hI
        obtain ⟨g85, hI⟩ := hI
        obtain ⟨g86, hI⟩ := hI
        obtain ⟨g87, hI⟩ := hI
        obtain ⟨g88, hI⟩ := hI
        obtain ⟨g89, hI⟩ := hI
        obtain ⟨g90, hI⟩ := hI
        obtain ⟨g91, hI⟩ := hI
        obtain ⟨g92, hI⟩ := hI
        obtain ⟨g93, hI⟩ := hI
        obtain ⟨g94, hI⟩ := hI
        obtain ⟨g95, hI⟩ := hI
        obtain ⟨g96, hI⟩ := hI
        obtain ⟨g97, hI⟩ := hI
        obtain ⟨g98, hI⟩ := hI
        obtain ⟨g99, hI⟩ := hI
        obtain ⟨g100, hI⟩ := hI
        obtain ⟨g101, hI⟩ := hI
        obtain ⟨g102, hI⟩ := hI
        obtain ⟨g103, hI⟩ := hI
        obtain ⟨g104, hI⟩ := hI
        obtain ⟨g105, hI⟩ := hI
        obtain ⟨g106, hI⟩ := hI
        obtain ⟨g107, hI⟩ := hI
        obtain ⟨g108, hI⟩ := hI
        obtain ⟨g109, hI⟩ := hI
        obtain ⟨g110, hI⟩ := hI
        obtain ⟨g111, hI⟩ := hI
        obtain ⟨g112, hI⟩ := hI
        obtain ⟨g113, hI⟩ := hI
        obtain ⟨g114, hI⟩ := hI
        obtain ⟨g115, hI⟩ := hI
        obtain ⟨g116, hI⟩ := hI
        obtain ⟨g117, hI⟩ := hI
        obtain ⟨g118, hI⟩ := hI
        obtain ⟨g119, hI⟩ := hI
        obtain ⟨g120, hI⟩ := hI
        obtain ⟨g121, hI⟩ := hI
        obtain ⟨g122, hI⟩ := hI
        obtain ⟨g123, hI⟩ := hI
        obtain ⟨rfl, hj, HD2, rfl⟩ := hI
        have AC := HD2.out.acc HG.out (by omega)
        go_wp2_with (first
          | (go_at_call 15; refine AC.mono ?_; clear AC; rintro e v1 ⟨rfl, h1⟩; have A2 := h1; clear h1)
          | (go_at_call 15; refine A2.mono ?_; clear A2; rintro e v2 ⟨rfl, h1⟩; have S2 := h1; clear h1)
          | (go_at_call 41; refine S2.mono ?_; clear S2; rintro e v3 ⟨⟨s, rfl, hs7⟩, h1⟩; have A3 := AW.out _ h1; clear h1)
          | (go_at_call 35; refine A3.mono ?_; clear A3; rintro e v4 ⟨rfl, h1⟩; have HX := hide h1; clear h1))
        go_ret
        exact ⟨rfl, HX.out⟩
    · cases yes
      · as_aux_lemma =>
        have N := Da.new (w0 := w) HB.out 3 4096 3
        have SB : Hid (∀ u d p m O, Da w O u d p m 0 (newCh 3 4096 3) (fun _ => false) → Calls Tryz.prog 39 #[.pointer (some ⟨d, 0, none⟩), .agg #[.int .i64 5, .int .i64 0, .int .i64 1, .int .i64 0, .int .i64 1, .slice none 0 0]] u fun e u' => (∃ z, e = .returned z) ∧ Calls Tryz.prog 38 #[.pointer (some ⟨d, 0, none⟩)] u' (fun e u2 => e = .returned (.pointer (some ⟨p, 0, none⟩)) ∧ u' = u2) ∧ Da1 w u' d p m (begS (newCh 3 4096 3) (ltO 5))) := fun u d p m O h => Da1.sub HG.out h
        have Y1 : Hid (∀ u d p m, Da1 w u d p m (begS (newCh 3 4096 3) (ltO 5)) → Calls Tryz.prog 13 #[.pointer (some ⟨p, 0, none⟩), .int .i64 5] u fun e u' => (∃ z, e = .returned z) ∧ Da1 w u' d p m (dmB false)) := fun u d p m h => h.can HG.out rfl
        have DM : Hid (∀ u d p m, Da1 w u d p m (dmB false) → Calls Tryz.prog 24 #[.pointer (some ⟨p, 0, none⟩), .agg #[.int .i64 17, .int .i64 2, .int .i64 0, .int .i64 5, .int .i64 0, .int .i64 0, .int .i64 0]] u fun e u' => ∃ b off k c, e = .returned (.slice (some ⟨b, off, none⟩) k c) ∧ (0 : Int) < ((k : Nat) : Int) ∧ u'.cell? ⟨b, off, none⟩ = some (.int .i64 18) ∧ u'.cell? ⟨b, off + 2, none⟩ = some (.int .i64 2) ∧ DS w u' d p m false true 4) := fun u d p m h => Da1.dmg (wh := true) HG.out h
        generalize newCh 3 4096 3 = v0 at *
        generalize begS v0 (ltO 5) = x1 at *
        generalize dmB false = x3 at *
        go_wp2_with (first
          | (go_at_call 36; refine N.mono ?_; clear N; rintro e u1 ⟨d, p, m, O, rfl, h1, -, -, -⟩; have B1 := SB.out _ _ _ _ _ h1; clear h1 SB HB)
          | (go_at_call 39; refine B1.mono ?_; clear B1; rintro e u2 ⟨⟨z, rfl⟩, hc, h1⟩; have CH := hc; have Z1 := Y1.out _ _ _ _ h1; clear h1 hc Y1)
          | (go_at_call 38; refine CH.mono ?_; clear CH; rintro e u3 ⟨rfl, rfl⟩)
          | (go_at_call 13; refine Z1.mono ?_; clear Z1; rintro e u5 ⟨⟨z5, rfl⟩, h1⟩; have D1 := DM.out _ _ _ _ h1; clear h1 DM)
          | (go_at_call 24; refine D1.mono ?_; clear D1; rintro e u6 ⟨b6, off6, k6, c6, rfl, hk6, y0, y2, h1⟩; have HD := hide h1; have q6 : (((k6 : Nat) : Int) == 0) = false := (by simp; omega); clear h1))
        clear y0 y2
        have hA : ∀ n, AskP w d p m false true (txB [32, 112, 117, 114, 115, 101]) n (txB (dmT true)) := fun n => dam_ask HG.out [32, 112, 117, 114, 115, 101] rfl (by decide) n
        refine dam_loop (WD := txB [32, 112, 117, 114, 115, 101]) (T := txB (dmT true)) (y := false) (wh := true) HG hlen HCL hA rfl HD ?_
        clear HD hA
        intro a' w'' hI
        unfold WI at hI
        obtain ⟨j, hI⟩ := hI
        obtain ⟨g82, hI⟩ := hI
        obtain ⟨g14, hI⟩ := hI
        obtain ⟨g15, hI⟩ := hI
        obtain ⟨g83, hI⟩ := hI
        obtain ⟨g84, hI⟩ := hI
        obtain ⟨g85, hI⟩ := hI
        obtain ⟨g86, hI⟩ := hI
        obtain ⟨g87, hI⟩ := hI
        obtain ⟨g88, hI⟩ := hI
        obtain ⟨g89, hI⟩ := hI
        obtain ⟨g90, hI⟩ := hI
        obtain ⟨g91, hI⟩ := hI
        obtain ⟨g92, hI⟩ := hI
        obtain ⟨g93, hI⟩ := hI
        obtain ⟨g94, hI⟩ := hI
        obtain ⟨g95, hI⟩ := hI
        obtain ⟨g96, hI⟩ := hI
        obtain ⟨g97, hI⟩ := hI
        obtain ⟨g98, hI⟩ := hI
        obtain ⟨g99, hI⟩ := hI
        obtain ⟨g100, hI⟩ := hI
        obtain ⟨g101, hI⟩ := hI
        obtain ⟨g102, hI⟩ := hI
        obtain ⟨g103, hI⟩ := hI
        obtain ⟨g104, hI⟩ := hI
        obtain ⟨g105, hI⟩ := hI
        obtain ⟨g106, hI⟩ := hI
        obtain ⟨g107, hI⟩ := hI
        obtain ⟨g108, hI⟩ := hI
        obtain ⟨g109, hI⟩ := hI
        obtain ⟨g110, hI⟩ := hI
        obtain ⟨g111, hI⟩ := hI
        obtain ⟨g112, hI⟩ := hI
        obtain ⟨g113, hI⟩ := hI
        obtain ⟨g114, hI⟩ := hI
        obtain ⟨g115, hI⟩ := hI
        obtain ⟨g116, hI⟩ := hI
        obtain ⟨g117, hI⟩ := hI
        obtain ⟨g118, hI⟩ := hI
        obtain ⟨g119, hI⟩ := hI
        obtain ⟨g120, hI⟩ := hI
        obtain ⟨g121, hI⟩ := hI
        obtain ⟨g122, hI⟩ := hI
        obtain ⟨g123, hI⟩ := hI
        obtain ⟨rfl, hj, HD2, rfl⟩ := hI
        have AC := HD2.out.acc HG.out (by omega)
        go_wp2_with (first
          | (go_at_call 15; refine AC.mono ?_; clear AC; rintro e v1 ⟨rfl, h1⟩; have A2 := h1; clear h1)
          | (go_at_call 15; refine A2.mono ?_; clear A2; rintro e v2 ⟨rfl, h1⟩; have S2 := h1; clear h1)
          | (go_at_call 41; refine S2.mono ?_; clear S2; rintro e v3 ⟨⟨s, rfl, hs7⟩, h1⟩; have A3 := AW.out _ h1; clear h1)
          | (go_at_call 35; refine A3.mono ?_; clear A3; rintro e v4 ⟨rfl, h1⟩; have HX := hide h1; clear h1))
        go_ret
        exact ⟨rfl, HX.out⟩
      · as_aux_lemma =>
        have N := Da.new (w0 := w) HB.out 3 4096 3
        have SB : Hid (∀ u d p m O, Da w O u d p m 0 (newCh 3 4096 3) (fun _ => false) → Calls Tryz.prog 39 #[.pointer (some ⟨d, 0, none⟩), .agg #[.int .i64 5, .int .i64 0, .int .i64 1, .int .i64 0, .int .i64 1, .slice none 0 0]] u fun e u' => (∃ z, e = .returned z) ∧ Calls Tryz.prog 38 #[.pointer (some ⟨d, 0, none⟩)] u' (fun e u2 => e = .returned (.pointer (some ⟨p, 0, none⟩)) ∧ u' = u2) ∧ Da1 w u' d p m (begS (newCh 3 4096 3) (ltO 5))) := fun u d p m O h => Da1.sub HG.out h
        have Y1 : Hid (∀ u d p m, Da1 w u d p m (begS (newCh 3 4096 3) (ltO 5)) → Calls Tryz.prog 24 #[.pointer (some ⟨p, 0, none⟩), .agg #[.int .i64 7, .int .i64 1, .int .i64 0, .int .i64 5, .int .i64 0, .int .i64 0, .int .i64 0]] u fun e u' => (∃ z, e = .returned z) ∧ Da1 w u' d p m (hdSA (begS (newCh 3 4096 3) (ltO 5)) ⟨7, 1, 0, 5, 0, 0, 0⟩).1) := fun u d p m h => h.hd HG.out 7 1 rfl
        have Y2 : Hid (∀ u d p m, Da1 w u d p m (hdSA (begS (newCh 3 4096 3) (ltO 5)) ⟨7, 1, 0, 5, 0, 0, 0⟩).1 → Calls Tryz.prog 24 #[.pointer (some ⟨p, 0, none⟩), .agg #[.int .i64 7, .int .i64 2, .int .i64 0, .int .i64 5, .int .i64 0, .int .i64 0, .int .i64 0]] u fun e u' => (∃ z, e = .returned z) ∧ Da1 w u' d p m (dmB true)) := fun u d p m h => h.hd HG.out 7 2 rfl
        have DM : Hid (∀ u d p m, Da1 w u d p m (dmB true) → Calls Tryz.prog 24 #[.pointer (some ⟨p, 0, none⟩), .agg #[.int .i64 17, .int .i64 2, .int .i64 0, .int .i64 5, .int .i64 0, .int .i64 0, .int .i64 0]] u fun e u' => ∃ b off k c, e = .returned (.slice (some ⟨b, off, none⟩) k c) ∧ (0 : Int) < ((k : Nat) : Int) ∧ u'.cell? ⟨b, off, none⟩ = some (.int .i64 18) ∧ u'.cell? ⟨b, off + 2, none⟩ = some (.int .i64 2) ∧ DS w u' d p m true true 4) := fun u d p m h => Da1.dmg (wh := true) HG.out h
        generalize newCh 3 4096 3 = v0 at *
        generalize begS v0 (ltO 5) = x1 at *
        generalize (hdSA x1 ⟨7, 1, 0, 5, 0, 0, 0⟩).1 = x2 at *
        generalize dmB true = x3 at *
        go_wp2_with (first
          | (go_at_call 36; refine N.mono ?_; clear N; rintro e u1 ⟨d, p, m, O, rfl, h1, -, -, -⟩; have B1 := SB.out _ _ _ _ _ h1; clear h1 SB HB)
          | (go_at_call 39; refine B1.mono ?_; clear B1; rintro e u2 ⟨⟨z, rfl⟩, hc, h1⟩; have CH := hc; have Z1 := Y1.out _ _ _ _ h1; clear h1 hc Y1)
          | (go_at_call 38; refine CH.mono ?_; clear CH; rintro e u3 ⟨rfl, rfl⟩)
          | (go_at_call 24; refine Z1.mono ?_; clear Z1; rintro e u4 ⟨⟨z4, rfl⟩, h1⟩; have Z2 := Y2.out _ _ _ _ h1; clear h1 Y2)
          | (go_at_call 24; refine Z2.mono ?_; clear Z2; rintro e u5 ⟨⟨z5, rfl⟩, h1⟩; have D1 := DM.out _ _ _ _ h1; clear h1 DM)
          | (go_at_call 24; refine D1.mono ?_; clear D1; rintro e u6 ⟨b6, off6, k6, c6, rfl, hk6, y0, y2, h1⟩; have HD := hide h1; have q6 : (((k6 : Nat) : Int) == 0) = false := (by simp; omega); clear h1))
        clear y0 y2
        have hA : ∀ n, AskP w d p m true true (txB [32, 112, 117, 114, 115, 101]) n (txB (dmT true)) := fun n => dam_ask HG.out [32, 112, 117, 114, 115, 101] rfl (by decide) n
        refine dam_loop (WD := txB [32, 112, 117, 114, 115, 101]) (T := txB (dmT true)) (y := true) (wh := true) HG hlen HCL hA rfl HD ?_
        clear HD hA
        intro a' w'' hI
        unfold WI at hI
        obtain ⟨j, hI⟩ := hI
        obtain ⟨g82, hI⟩ := hI
        obtain ⟨g14, hI⟩ := hI
        obtain ⟨g15, hI⟩ := hI
        obtain ⟨g83, hI⟩ := hI
        obtain ⟨g84, hI⟩ := hI
        obtain ⟨g85, hI⟩ := hI
        obtain ⟨g86, hI⟩ := hI
        obtain ⟨g87, hI⟩ := hI
        obtain ⟨g88, hI⟩ := hI
        obtain ⟨g89, hI⟩ := hI
        obtain ⟨g90, hI⟩ := hI
        obtain ⟨g91, hI⟩ := hI
        obtain ⟨g92, hI⟩ := hI
        obtain ⟨g93, hI⟩ := hI
        obtain ⟨g94, hI⟩ := hI
        obtain ⟨g95, hI⟩ := hI
        obtain ⟨g96, hI⟩ := hI
        obtain ⟨g97, hI⟩ := hI
        obtain ⟨g98, hI⟩ := hI
        obtain ⟨g99, hI⟩ := hI
        obtain ⟨g100, hI⟩ := hI
        obtain ⟨g101, hI⟩ := hI
        obtain ⟨g102, hI⟩ := hI
        obtain ⟨g103, hI⟩ := hI
        obtain ⟨g104, hI⟩ := hI
        obtain ⟨g105, hI⟩ := hI
        obtain ⟨g106, hI⟩ := hI
        obtain ⟨g107, hI⟩ := hI
        obtain ⟨g108, hI⟩ := hI
        obtain ⟨g109, hI⟩ := hI
        obtain ⟨g110, hI⟩ := hI
        obtain ⟨g111, hI⟩ := hI
        obtain ⟨g112, hI⟩ := hI
        obtain ⟨g113, hI⟩ := hI
        obtain ⟨g114, hI⟩ := hI
        obtain ⟨g115, hI⟩ := hI
        obtain ⟨g116, hI⟩ := hI
        obtain ⟨g117, hI⟩ := hI
        obtain ⟨g118, hI⟩ := hI
        obtain ⟨g119, hI⟩ := hI
        obtain ⟨g120, hI⟩ := hI
        obtain ⟨g121, hI⟩ := hI
        obtain ⟨g122, hI⟩ := hI
        obtain ⟨g123, hI⟩ := hI
        obtain ⟨rfl, hj, HD2, rfl⟩ := hI
        have AC := HD2.out.acc HG.out (by omega)
        go_wp2_with (first
          | (go_at_call 15; refine AC.mono ?_; clear AC; rintro e v1 ⟨rfl, h1⟩; have A2 := h1; clear h1)
          | (go_at_call 15; refine A2.mono ?_; clear A2; rintro e v2 ⟨rfl, h1⟩; have S2 := h1; clear h1)
          | (go_at_call 41; refine S2.mono ?_; clear S2; rintro e v3 ⟨⟨s, rfl, hs7⟩, h1⟩; have A3 := AW.out _ h1; clear h1)
          | (go_at_call 35; refine A3.mono ?_; clear A3; rintro e v4 ⟨rfl, h1⟩; have HX := hide h1; clear h1))
        go_ret
        exact ⟨rfl, HX.out⟩
end Go.Proofs.YthfgmpooehkhgaaGreatDoor
