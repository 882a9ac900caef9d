/-
  Contracts: package order's write, Text.
-/
import Derived.Test.YteefmibnkfojiaaDoorOrdC3
import Derived.Test.YteefmibnkfojiaaDoorBldO
import Derived.Test.YteefmibnkfojiaaDoorGlobO
namespace Go.Proofs.YteefmibnkfojiaaDoor
open Go.ChangeShapes Go.WideShapes Go.ChangeAt Go.RowKit

theorem bldAt_on {T e : TypeId} {B b : Nat} {p : Value} {bs : List Value} {w w' : World} (h : Lib.BuilderAtF T e B b p bs w) (hb : Below w.heap.size w w') : Lib.BuilderAtF T e B b p bs w' := by
  obtain ⟨hB, v, hbk, ⟨hl, hown⟩, hne⟩ := h
  refine ⟨hB, v, (hb.block b (Array.getElem?_eq_some_iff.1 hbk).1).trans hbk, ⟨hl, ?_⟩, hne⟩
  rcases hown with h | ⟨g, cap, cur, fz, h1, h2, h3, h4⟩
  · exact .inl h
  · exact .inr ⟨g, cap, cur, fz, h1, h2, (hb.block g (Array.getElem?_eq_some_iff.1 h3).1).trans h3, h4⟩
theorem bld_on {T e : TypeId} {B b : Nat} {bs : List Value} {w w' : World} (h : Lib.IsBuilderF T e B b bs w) (hb : Below w.heap.size w w') : Lib.IsBuilderF T e B b bs w' :=
  h.elim (fun x => .inl (bldAt_on x hb)) (fun x => .inr (bldAt_on x hb))
theorem kept_on {e : TypeId} {b : Option Nat} {a w w' : World} (h : Lib.OthersKept e b a w) (hb : Below w.heap.size w w') : Lib.OthersKept e b a w' := by
  intro k o hk hne ho
  have h1 := h k o hk hne ho
  exact (hb.block k (Array.getElem?_eq_some_iff.1 h1).1).trans h1

/-- What a write leaves. -/
def Wr (B b : Nat) (l : List UInt8) (w w' : World) : Prop := Lib.IsBuilderF 50 5 B b (Lib.byteCells l) w' ∧ Below B w w' ∧ Lib.OthersKept 5 (some b) w w'

set_option maxHeartbeats 2000000 in
theorem write_any (B b : Nat) (l : List UInt8) (k : ByteArray) (K : List UInt8) (n : Int) (w : World) (hK : k.data.toList = K) (h : Lib.IsBuilderF 50 5 B b (Lib.byteCells l) w) (h0 : 0 ≤ n) (h1 : n ≤ 1000000000) (hk : K.length ≤ 100) (hl : l.length ≤ 1000000) (hB : B ≤ w.heap.size) (hGB : ∀ w', Below B w w' → Gl w') :
    Calls Tryd.prog 29 #[.pointer (some ⟨b, 0, none⟩), .string k, .int .i64 n] w fun e w' => e = .returned (.tuple #[]) ∧ Wr B b (l ++ (K ++ Lib.itoa n)) w w' := by
  have hks : k.size ≤ 100 := by
    have : k.data.toList.length = k.size := Array.length_toList
    rw [hK] at this; omega
  have HH := hide h
  have HG := hide hGB
  have HK := hide hK
  have hi := itoa_len10 h0 h1
  have HSZ : Hid ((Lib.byteCells l ++ Lib.strCells k).length + (⟨(Lib.itoa n).toArray⟩ : ByteArray).size ≤ 140737488355328) := by
    show (Lib.byteCells l ++ Lib.strCells k).length + (⟨(Lib.itoa n).toArray⟩ : ByteArray).size ≤ 140737488355328
    have e1 : k.data.toList.length = k.size := Array.length_toList
    have e2 : (⟨(Lib.itoa n).toArray⟩ : ByteArray).size = (Lib.itoa n).length := by simp [ByteArray.size]
    rw [List.length_append, Lib.strCells_eq, Lib.byteCells_length, Lib.byteCells_length, e1, e2]
    omega
  clear h hGB hK hk hi
  go_enter Tryd.func29, Tryd.ntmps29
  go_wp2_with fail
  refine (bldWrite B b _ k _ HH.out (by rw [Lib.byteCells_length]; omega) hB).mono ?_
  rintro e w1 ⟨rfl, i1, b1, k1⟩
  have I1 := hide i1
  have B1 := hide b1
  have K1 := hide k1
  clear i1 b1 k1
  go_wp2_with fail
  refine (itoa_any n _ (by omega) (by omega) (HG.out _ B1.out)).mono ?_
  rintro e w2 ⟨rfl, b2⟩
  have I2 := hide (bldAt_on I1.out b2)
  have B2 := hide (B1.out.trans (b2.mono (Nat.le_trans hB B1.out.size)))
  have K2 := hide (kept_on K1.out b2)
  clear b2
  go_wp2_with fail
  refine (bldWrite B b _ _ _ (.inr I2.out) HSZ.out (Nat.le_trans hB B2.out.size)).mono ?_
  rintro e w3 ⟨rfl, i3, b3, k3⟩
  have e3 : Lib.byteCells l ++ Lib.strCells k ++ Lib.strCells ⟨(Lib.itoa n).toArray⟩ = Lib.byteCells (l ++ (K ++ Lib.itoa n)) := by
    rw [Lib.strCells_eq, Lib.strCells_eq, ← Lib.byteCells_append, ← Lib.byteCells_append, HK.out]; simp
  rw [e3] at i3
  go_wp2
  go_end0
  exact ⟨rfl, .inr i3, B2.out.trans b3, K2.out.trans k3⟩

theorem head_parts (o : Od) : headL o = ((((([] ++ (kId ++ Lib.itoa o.id)) ++ (kQty ++ Lib.itoa o.qty)) ++ (kItem ++ Lib.itoa o.item)) ++ (kPrice ++ Lib.itoa o.price)) ++ (kClient ++ Lib.itoa o.client)) := by
  simp [headL]
/-- The builder, and what stands beside it, while a text is written. -/
def TSt (w : World) (o : Od) (a : Option Addr) (c : Nat) (b : Nat) (l : List UInt8) (wx : World) : Prop :=
  Lib.IsBuilderF 50 5 (w.heap.size + 1) b (Lib.byteCells l) wx ∧ Below (w.heap.size + 1) (w.alloc (.cells #[.int .i64 o.id, .int .i64 o.item, .int .i64 o.qty, .int .i64 o.client, .int .i64 o.price, .slice a o.steps.length c] 24)) wx
theorem TSt.box {w : World} {o : Od} {a : Option Addr} {c b : Nat} {l : List UInt8} {wx : World} (h : TSt w o a c b l wx) : wx.heap[w.heap.size]? = some (.cells #[.int .i64 o.id, .int .i64 o.item, .int .i64 o.qty, .int .i64 o.client, .int .i64 o.price, .slice a o.steps.length c] 24 (0, 0)) := by
  rw [h.2.block _ (by simp)]
  show (w.heap.push _)[w.heap.size]? = _
  simp
theorem TSt.bel {w : World} {o : Od} {a : Option Addr} {c b : Nat} {l : List UInt8} {wx : World} (h : TSt w o a c b l wx) : Below w.heap.size w wx :=
  ((Below.refl _ _).alloc (Nat.le_refl _) _).trans (h.2.mono (by simp))
theorem TSt.wr {w : World} {o : Od} {a : Option Addr} {c b : Nat} {l l' : List UInt8} {wx wy : World} (h : TSt w o a c b l wx) (hw : Wr (w.heap.size + 1) b l' wx wy) : TSt w o a c b l' wy := ⟨hw.1, h.2.trans hw.2.1⟩
theorem TSt.size {w : World} {o : Od} {a : Option Addr} {c b : Nat} {l : List UInt8} {wx : World} (h : TSt w o a c b l wx) : w.heap.size + 1 ≤ wx.heap.size := by have := h.2.size; simpa using this
theorem TSt.gl {w : World} {o : Od} {a : Option Addr} {c b : Nat} {l : List UInt8} {wx : World} (h : TSt w o a c b l wx) (hg : Gl w) : ∀ w', Below (w.heap.size + 1) wx w' → Gl w' := fun _ hb =>
  hg.on (h.bel.trans (hb.mono (by omega)))

set_option maxHeartbeats 4000000 in
theorem otext_any (o : Od) (a : Option Addr) (c : Nat) (w : World) (ha : Sts w a o.steps) (hl : o.steps.length ≤ 9223372036854775807) (hg : Gl w) :
    Calls Tryd.prog 18 #[.agg #[.int .i64 o.id, .int .i64 o.item, .int .i64 o.qty, .int .i64 o.client, .int .i64 o.price, .slice a o.steps.length c]] w fun e w' => e = .returned (.string (byB (textV o))) ∧ Below w.heap.size w w' := by
  obtain ⟨V, hV⟩ : ∃ V, V = w.alloc (.cells #[.int .i64 o.id, .int .i64 o.item, .int .i64 o.qty, .int .i64 o.client, .int .i64 o.price, .slice a o.steps.length c] 24) := ⟨_, rfl⟩
  have hbV : Below w.heap.size w V := by rw [hV]; exact (Below.refl _ _).alloc (Nat.le_refl _) _
  have HM := omay_any o a c V (ha.below hbV) hl
  rw [hV] at HM
  have HV := hide hV
  have HBV := hide hbV
  have HI := hide ha
  have HG := hide hg
  clear hV hbV ha hg
  unfold textV
  cases hm : mayO o
  · rw [hm] at HM
    have HE : Hid (byB [] = ⟨#[]⟩) := rfl
    go_enter Tryd.func18, Tryd.ntmps18
    go_wp2_with fail
    refine HM.mono ?_
    rintro e w1 ⟨rfl, hb1⟩
    rw [← HV.out] at hb1
    go_wp2
    go_ret
    exact ⟨rfl, bel_on' HBV.out hb1⟩
  rw [hm] at HM
  have HMB := hide hm
  obtain ⟨p1, p2, p3, p4, p5, p6, p7⟩ := mayO_parts hm
  have HP7 := hide p7
  clear p7 hm
  go_enter Tryd.func18, Tryd.ntmps18
  go_wp2_with fail
  refine HM.mono ?_
  rintro e w1 ⟨rfl, hb1⟩
  rw [← HV.out] at hb1
  have hb1' : Below (w.heap.size + 1) (w.alloc (.cells #[.int .i64 o.id, .int .i64 o.item, .int .i64 o.qty, .int .i64 o.client, .int .i64 o.price, .slice a o.steps.length c] 24)) w1 := by rw [← HV.out]; exact hb1.mono (by rw [HV.out]; simp)
  have T0 : TSt w o a c w1.heap.size [] (w1.alloc (.cells #[.pointer none, .slice none 0 0] 50)) := by
    have hs := hb1'.size
    simp at hs
    refine ⟨.inl ⟨hs, .slice none 0 0, ?_, ⟨rfl, .inl ⟨rfl, rfl⟩⟩, by simp [Value.ownBlock]⟩, hb1'.alloc (by simpa using hs) _⟩
    show (w1.heap.push _)[w1.heap.size]? = _
    simp
  have HT0 := hide T0
  clear T0 hb1 hb1' HM
  obtain ⟨L1, hL1⟩ : ∃ L, L = [] ++ (kId ++ Lib.itoa o.id) := ⟨_, rfl⟩
  have hs1 : L1.length ≤ 20 := by
    have := itoa_len10 (n := o.id) (by omega) (by omega)
    rw [hL1]
    simp [kId]
    omega
  obtain ⟨L2, hL2⟩ : ∃ L, L = L1 ++ (kQty ++ Lib.itoa o.qty) := ⟨_, rfl⟩
  have hs2 : L2.length ≤ 40 := by
    have := itoa_len10 (n := o.qty) (by omega) (by omega)
    rw [hL2]
    simp [kQty]
    omega
  obtain ⟨L3, hL3⟩ : ∃ L, L = L2 ++ (kItem ++ Lib.itoa o.item) := ⟨_, rfl⟩
  have hs3 : L3.length ≤ 60 := by
    have := itoa_len10 (n := o.item) (by omega) (by omega)
    rw [hL3]
    simp [kItem]
    omega
  obtain ⟨L4, hL4⟩ : ∃ L, L = L3 ++ (kPrice ++ Lib.itoa o.price) := ⟨_, rfl⟩
  have hs4 : L4.length ≤ 80 := by
    have := itoa_len10 (n := o.price) (by omega) (by omega)
    rw [hL4]
    simp [kPrice]
    omega
  obtain ⟨L5, hL5⟩ : ∃ L, L = L4 ++ (kClient ++ Lib.itoa o.client) := ⟨_, rfl⟩
  have hs5 : L5.length ≤ 100 := by
    have := itoa_len10 (n := o.client) (by omega) (by omega)
    rw [hL5]
    simp [kClient]
    omega
  have HLL : Hid (L5 = headL o) := by show _ = _; rw [head_parts, hL5, hL4, hL3, hL2, hL1]
  have HL1 := hide hL1
  clear hL1
  have HL2 := hide hL2
  clear hL2
  have HL3 := hide hL3
  clear hL3
  have HL4 := hide hL4
  clear hL4
  have HL5 := hide hL5
  clear hL5
  have c0 : (w1.alloc (.cells #[.pointer none, .slice none 0 0] 50)).cell? ⟨w.heap.size, 0, none⟩ = some (.int .i64 o.id) := by rw [cell_of HT0.out.box]; rfl
  have c1 : (w1.alloc (.cells #[.pointer none, .slice none 0 0] 50)).cell? ⟨w.heap.size, 1, none⟩ = some (.int .i64 o.item) := by rw [cell_of HT0.out.box]; rfl
  have c2 : (w1.alloc (.cells #[.pointer none, .slice none 0 0] 50)).cell? ⟨w.heap.size, 2, none⟩ = some (.int .i64 o.qty) := by rw [cell_of HT0.out.box]; rfl
  have c3 : (w1.alloc (.cells #[.pointer none, .slice none 0 0] 50)).cell? ⟨w.heap.size, 3, none⟩ = some (.int .i64 o.client) := by rw [cell_of HT0.out.box]; rfl
  have c4 : (w1.alloc (.cells #[.pointer none, .slice none 0 0] 50)).cell? ⟨w.heap.size, 4, none⟩ = some (.int .i64 o.price) := by rw [cell_of HT0.out.box]; rfl
  go_wp2_with fail
  refine (write_any (w.heap.size + 1) w1.heap.size [] _ kId o.id _ rfl HT0.out.1 (by omega) (by omega) (by decide) (by simp) HT0.out.size (HT0.out.gl HG.out)).mono ?_
  rintro e u1 ⟨rfl, hw⟩
  rw [← HL1.out] at hw
  have HT1 := hide (HT0.out.wr hw)
  clear hw c0 c1 c2 c3 c4 HT0
  have c0 : u1.cell? ⟨w.heap.size, 0, none⟩ = some (.int .i64 o.id) := by rw [cell_of HT1.out.box]; rfl
  have c1 : u1.cell? ⟨w.heap.size, 1, none⟩ = some (.int .i64 o.item) := by rw [cell_of HT1.out.box]; rfl
  have c2 : u1.cell? ⟨w.heap.size, 2, none⟩ = some (.int .i64 o.qty) := by rw [cell_of HT1.out.box]; rfl
  have c3 : u1.cell? ⟨w.heap.size, 3, none⟩ = some (.int .i64 o.client) := by rw [cell_of HT1.out.box]; rfl
  have c4 : u1.cell? ⟨w.heap.size, 4, none⟩ = some (.int .i64 o.price) := by rw [cell_of HT1.out.box]; rfl
  go_wp2_with fail
  refine (write_any (w.heap.size + 1) w1.heap.size L1 _ kQty o.qty _ rfl HT1.out.1 (by omega) (by omega) (by decide) (by omega) HT1.out.size (HT1.out.gl HG.out)).mono ?_
  rintro e u2 ⟨rfl, hw⟩
  rw [← HL2.out] at hw
  have HT2 := hide (HT1.out.wr hw)
  clear hw c0 c1 c2 c3 c4 HT1
  have c0 : u2.cell? ⟨w.heap.size, 0, none⟩ = some (.int .i64 o.id) := by rw [cell_of HT2.out.box]; rfl
  have c1 : u2.cell? ⟨w.heap.size, 1, none⟩ = some (.int .i64 o.item) := by rw [cell_of HT2.out.box]; rfl
  have c2 : u2.cell? ⟨w.heap.size, 2, none⟩ = some (.int .i64 o.qty) := by rw [cell_of HT2.out.box]; rfl
  have c3 : u2.cell? ⟨w.heap.size, 3, none⟩ = some (.int .i64 o.client) := by rw [cell_of HT2.out.box]; rfl
  have c4 : u2.cell? ⟨w.heap.size, 4, none⟩ = some (.int .i64 o.price) := by rw [cell_of HT2.out.box]; rfl
  go_wp2_with fail
  refine (write_any (w.heap.size + 1) w1.heap.size L2 _ kItem o.item _ rfl HT2.out.1 (by omega) (by omega) (by decide) (by omega) HT2.out.size (HT2.out.gl HG.out)).mono ?_
  rintro e u3 ⟨rfl, hw⟩
  rw [← HL3.out] at hw
  have HT3 := hide (HT2.out.wr hw)
  clear hw c0 c1 c2 c3 c4 HT2
  have c0 : u3.cell? ⟨w.heap.size, 0, none⟩ = some (.int .i64 o.id) := by rw [cell_of HT3.out.box]; rfl
  have c1 : u3.cell? ⟨w.heap.size, 1, none⟩ = some (.int .i64 o.item) := by rw [cell_of HT3.out.box]; rfl
  have c2 : u3.cell? ⟨w.heap.size, 2, none⟩ = some (.int .i64 o.qty) := by rw [cell_of HT3.out.box]; rfl
  have c3 : u3.cell? ⟨w.heap.size, 3, none⟩ = some (.int .i64 o.client) := by rw [cell_of HT3.out.box]; rfl
  have c4 : u3.cell? ⟨w.heap.size, 4, none⟩ = some (.int .i64 o.price) := by rw [cell_of HT3.out.box]; rfl
  go_wp2_with fail
  refine (write_any (w.heap.size + 1) w1.heap.size L3 _ kPrice o.price _ rfl HT3.out.1 (by omega) (by omega) (by decide) (by omega) HT3.out.size (HT3.out.gl HG.out)).mono ?_
  rintro e u4 ⟨rfl, hw⟩
  rw [← HL4.out] at hw
  have HT4 := hide (HT3.out.wr hw)
  clear hw c0 c1 c2 c3 c4 HT3
  have c0 : u4.cell? ⟨w.heap.size, 0, none⟩ = some (.int .i64 o.id) := by rw [cell_of HT4.out.box]; rfl
  have c1 : u4.cell? ⟨w.heap.size, 1, none⟩ = some (.int .i64 o.item) := by rw [cell_of HT4.out.box]; rfl
  have c2 : u4.cell? ⟨w.heap.size, 2, none⟩ = some (.int .i64 o.qty) := by rw [cell_of HT4.out.box]; rfl
  have c3 : u4.cell? ⟨w.heap.size, 3, none⟩ = some (.int .i64 o.client) := by rw [cell_of HT4.out.box]; rfl
  have c4 : u4.cell? ⟨w.heap.size, 4, none⟩ = some (.int .i64 o.price) := by rw [cell_of HT4.out.box]; rfl
  go_wp2_with fail
  refine (write_any (w.heap.size + 1) w1.heap.size L4 _ kClient o.client _ rfl HT4.out.1 (by omega) (by omega) (by decide) (by omega) HT4.out.size (HT4.out.gl HG.out)).mono ?_
  rintro e u5 ⟨rfl, hw⟩
  rw [← HL5.out] at hw
  have HT5 := hide (HT4.out.wr hw)
  clear hw c0 c1 c2 c3 c4 HT4
  have c5 : u5.cell? ⟨w.heap.size, 5, none⟩ = some (.slice a o.steps.length c) := by rw [cell_of HT5.out.box]; rfl
  have H3 := hide p6
  go_wp2_with fail
  clear c5
  go_loopw [27] (fun i wr => ∃ j : Nat, i = .int .i64 j ∧ j ≤ o.steps.length ∧ Hid (TSt w o a c w1.heap.size (headL o ++ stepsL (o.steps.take j)) wr)) (fun i _ => o.steps.length - (intOf i).toNat)
  case atStart => exact ⟨0, rfl, Nat.zero_le _, by (show TSt w o a c w1.heap.size (headL o ++ stepsL (o.steps.take 0)) u5; have := HT5.out; rw [HLL.out] at this; simpa [stepsL] using this)⟩
  case round =>
    obtain ⟨j, rfl, hj, HT⟩ := hrel
    by_cases hlt : j < o.steps.length
    · obtain ⟨b, off, rfl, h0, h1⟩ := (HI.out.below HT.out.bel).at hlt
      obtain ⟨hx1, hx2⟩ := HP7.out _ (stAt_mem hlt)
      obtain ⟨x1, e1⟩ : ∃ x, x = (stAt o.steps j).1 := ⟨_, rfl⟩
      obtain ⟨x2, e2⟩ : ∃ x, x = (stAt o.steps j).2 := ⟨_, rfl⟩
      rw [← e1] at h0 hx1
      rw [← e2] at h1 hx2
      obtain ⟨L, hL⟩ : ∃ L, L = headL o ++ stepsL (o.steps.take j) := ⟨_, rfl⟩
      have HNX : Hid ((L ++ (kSvc ++ Lib.itoa x1)) ++ (kN ++ Lib.itoa x2) = headL o ++ stepsL (o.steps.take (j + 1))) := by
        show _ = _
        rw [List.take_succ_eq_append_getElem hlt, stepsL_append, ← stAt_get hlt, hL]
        simp [stepsL, stepL, e1, e2]
      have hLs : L.length ≤ 200 := by
        have h5 : (headL o).length ≤ 100 := by rw [← HLL.out]; exact hs5
        have h6 := stepsL_len (o.steps.take j) (fun x hx => by have := HP7.out x (List.mem_of_mem_take hx); omega)
        rw [hL]
        simp at h6 ⊢
        have := H3.out
        omega
      have hLs2 : (L ++ (kSvc ++ Lib.itoa x1)).length ≤ 300 := by
        have := itoa_len10 (n := x1) (by omega) (by omega)
        simp [kSvc]
        omega
      rw [← hL] at HT
      clear e1 e2 hL
      have hblt : w1.heap.size < wr.heap.size := HT.out.1.elim (fun h => h.lt) (fun h => h.lt)
      have HTU : Hid (TSt w o (some ⟨b, off, none⟩) c w1.heap.size L (wr.alloc (.cells #[.int .i64 x1, .int .i64 x2] 37))) := ⟨HT.out.1.alloc _, HT.out.2.alloc HT.out.size _⟩
      have hqU : (wr.alloc (.cells #[.int .i64 x1, .int .i64 x2] 37)).heap[wr.heap.size]? = some (.cells #[.int .i64 x1, .int .i64 x2] 37 (0, 0)) := by
        show (wr.heap.push _)[wr.heap.size]? = _
        simp
      have QU := hide hqU
      clear hqU
      go_wp2_with fail
      refine (write_any (w.heap.size + 1) w1.heap.size L _ kSvc x1 _ rfl HTU.out.1 (by omega) (by omega) (by decide) (by omega) HTU.out.size (HTU.out.gl HG.out)).mono ?_
      rintro e v1 ⟨rfl, hw⟩
      have HTV := hide (HTU.out.wr hw)
      have q1 := hw.2.2 wr.heap.size _ QU.out (by simp; omega) (by intro c' fz h; simp at h)
      have y0 : v1.cell? ⟨wr.heap.size, 0, none⟩ = some (.int .i64 x1) := by rw [cell_of q1]; rfl
      have y1 : v1.cell? ⟨wr.heap.size, 1, none⟩ = some (.int .i64 x2) := by rw [cell_of q1]; rfl
      clear hw q1
      go_wp2_with fail
      refine (write_any (w.heap.size + 1) w1.heap.size _ _ kN x2 _ rfl HTV.out.1 (by omega) (by omega) (by decide) (by omega) HTV.out.size (HTV.out.gl HG.out)).mono ?_
      rintro e v2 ⟨rfl, hw⟩
      rw [HNX.out] at hw
      have HTW := hide (HTV.out.wr hw)
      clear hw y0 y1
      go_wp2
      go_roundw
      case rel => exact ⟨j + 1, by go_num, by omega, HTW⟩
      case measure => simp [intOf]; omega
    · have HTE : Hid (TSt w o a c w1.heap.size (textL o) wr) := by
        have := HT.out
        rw [List.take_of_length_le (by omega)] at this
        exact this
      go_wp2_with fail
      refine (Tryd.Builder_String_any_k (w.heap.size + 1) w1.heap.size (textL o) _ HTE.out.1 HTE.out.size).mono ?_
      rintro e v1 ⟨rfl, -, hb, -⟩
      go_wp2
      go_ret
      exact ⟨rfl, HTE.out.bel.trans (hb.mono (by omega))⟩
end Go.Proofs.YteefmibnkfojiaaDoor
