/-
  Contracts: the law's texts, of rows that say the same; the reference's All.
-/
import Derived.Test.YtdbmnjodkpeobaaGreatDoorBd15
import Derived.Test.YtdbmnjodkpeobaaGreatDoorBd16
import Derived.Test.YtdbmnjodkpeobaaGreatDoorEntRP
namespace Go.Proofs.YtdbmnjodkpeobaaGreatDoor
open Go.ChangeShapes Go.WideShapes Go.ChangeAt Go.RowKit

theorem typ_ne3 : 70 ≠ 3 := by decide
theorem Good.grew {N base : Nat} {x : Ev} {W W' : World} {vw : Value} {n : Nat} {xs : List Value} (hx : Good N x W) (h : W.ownsRow base 70 3 vw n xs) (hg : W.grownBy W' vw.ownBlock) : Good N x W' := by
  refine ⟨hx.1.moveF (fun k _ ⟨cs, hc⟩ => hg.block k (Array.getElem?_eq_some_iff.1 hc).1 (fun e => ?_)), hx.2⟩
  rcases h.2 with ⟨rfl, _⟩ | ⟨g, cap, cur, rfl, _, hc', _⟩
  · simp [Value.ownBlock] at e
  · simp [Value.ownBlock] at e
    subst e
    rw [hc] at hc'
    simp only [Option.some.injEq, Obj.cells.injEq] at hc'
    exact typ_ne3 hc'.2.1.symm
theorem Good.on {N : Nat} {x : Ev} {W W' : World} (hx : Good N x W) (hb : Below W.heap.size W W') : Good N x W' := ⟨hx.1.below hb, hx.2⟩
theorem Rd.whole {ys : List Ev} {L : List ByteArray} (h : Rd ys L) (hl : ys.length ≤ L.length) : ys.length ≤ (wholeD fun s => Classical.propDecidable (Ok s)) L :=
  whole_ge L ys.length hl (fun i hi => ⟨_, _, _, h i ys[i] (by simp [hi])⟩)
theorem not_ok {s k : ByteArray} {id : Int} {l : List Int} {er : Int} (h : ParseR s k id l er) (he : er ≠ 0) : ¬ Ok s := fun ⟨_, _, _, h'⟩ => he (ParseR.uniq h h').2.2.2

/-- The same, with the blocks told: none below B. -/
def EntsF (B : Nat) (w : World) (a : Option Addr) (xs : List Ev) : Prop :=
  xs = [] ∨ ∃ g off, a = some ⟨g, off, none⟩ ∧ B ≤ g ∧ ∀ i x, xs[i]? = some x → (w.cell? ⟨g, off + i * 3, none⟩ = some (.string x.k) ∧ w.cell? ⟨g, off + i * 3 + 1, none⟩ = some (.int .i64 x.id) ∧ w.cell? ⟨g, off + i * 3 + 2, none⟩ = some (.slice x.av x.l.length x.cv)) ∧ IntsF B w x.av x.l ∧ x.l.length ≤ 4611686018427387904
theorem EntsF.ents {B : Nat} {w : World} {a : Option Addr} {xs : List Ev} (h : EntsF B w a xs) : Ents w a xs := by
  rcases h with h | ⟨g, off, ha, _, hc⟩
  · exact .inl h
  · exact .inr ⟨g, off, ha, fun i x hx => by obtain ⟨h1, h2, h3⟩ := hc i x hx; exact ⟨h1, h2.ints, h3⟩⟩
theorem EntsF.below {B : Nat} {w w' : World} {a : Option Addr} {xs : List Ev} (h : EntsF B w a xs) (hb : Below w.heap.size w w') : EntsF B w' a xs := by
  rcases h with h | ⟨g, off, ha, hg, hc⟩
  · exact .inl h
  · refine .inr ⟨g, off, ha, hg, fun i x hx => ?_⟩
    obtain ⟨⟨h1, h2, h3⟩, h4, h5⟩ := hc i x hx
    exact ⟨⟨cellL h1 hb, cellL h2 hb, cellL h3 hb⟩, h4.below hb, h5⟩
theorem entsF_of {W : World} {base : Nat} {a : Option Addr} {c : Nat} {xs : List Ev} (h : W.ownsRow base 70 3 (.slice a xs.length c) xs.length (evCells xs)) (hg : ∀ x ∈ xs, Good base x W) : EntsF base W a xs := by
  by_cases h0 : xs = []
  · exact .inl h0
  · obtain ⟨g, ha, hb, _, hc⟩ := ev_cells h h0
    refine .inr ⟨g, 0, ha, hb, fun i x hx => ⟨hc i x hx, (hg x (List.mem_of_getElem? hx)).1, ?_⟩⟩
    have := (hg x (List.mem_of_getElem? hx)).2.1; omega

def RAll (w : World) (L : List ByteArray) (e : Ending) (w' : World) : Prop := ∃ ys a c, e = .returned (.slice a ys.length c) ∧ ys.length = (wholeD fun s => Classical.propDecidable (Ok s)) L ∧ Rd ys L ∧ Ents w' a ys ∧ Below w.heap.size w w'
def RAllF (w : World) (L : List ByteArray) (e : Ending) (w' : World) : Prop := ∃ ys a c, e = .returned (.slice a ys.length c) ∧ ys.length = (wholeD fun s => Classical.propDecidable (Ok s)) L ∧ Rd ys L ∧ EntsF w.heap.size w' a ys ∧ Below w.heap.size w w'
set_option maxRecDepth 100000 in
set_option maxHeartbeats 2000000 in
theorem rallF_any {w0 w : World} (hg0 : Gl w0) (hw : Below w0.heap.size w0 w) {B q : Nat} {v : Value} {room : Int} {L : List ByteArray} {sure : Nat} {down : Bool} (h : R.Jr B w q v room L sure down) :
    Calls Tryz.prog 31 #[.pointer (some ⟨q, 0, none⟩)] w (RAllF w L) := by
  obtain ⟨⟨c0, c1, c2, c3⟩, -⟩ := h.cells
  obtain ⟨a, c, rfl, hc, hst⟩ := h.row
  have HG := hide hg0
  have HW := hide hw
  have HST := hide hst
  have HSZ : Hid (∀ x ∈ L, x.size ≤ 63) := fun x hx => (h.2.2.2.2.2 x hx).2
  have hl : L.length ≤ 4096 := h.2.2.2.2.1
  obtain ⟨n, hn⟩ : ∃ n, L.length = n := ⟨_, rfl⟩
  rw [hn] at c1 hl
  have HN := hide hn
  clear hg0 hw hst hc hn h
  go_enter Tryz.func31, Tryz.ntmps31
  go_wp2_with fail
  go_loopw [3, 13] (fun lv i wr => ∃ (j : Nat) (ys : List Ev), i = .int .i64 j ∧ j ≤ n ∧ Hid (ys.length = j) ∧ Hid (Rd ys L) ∧ Hid (wr.ownsRow w.heap.size 70 3 lv ys.length (evCells ys)) ∧ Hid (∀ x ∈ ys, Good w.heap.size x wr) ∧ Hid (Below w.heap.size w wr)) (fun _ i _ => n - (intOf i).toNat)
  case atStart => exact ⟨0, [], rfl, Nat.zero_le _, rfl, Rd.nil L, ⟨rfl, .inl ⟨rfl, rfl⟩⟩, (fun x hx => by cases hx), Below.refl _ _⟩
  case round =>
    obtain ⟨j, ys, rfl, hj, HYL, HRD, HR, HGD, HB⟩ := hrel
    obtain ⟨lv, lc, rfl, -⟩ := row_slice HR.out
    by_cases hlt : j < n
    · have ql : (j : Int) < (n : Int) := by omega
      have hjl : j < L.length := by rw [HN.out]; omega
      obtain ⟨ga, oa, rfl, hca⟩ : ∃ g o, a = some ⟨g, o, none⟩ ∧ ∀ i, i < L.length → w.cell? ⟨g, o + i, none⟩ = some (.string (L.getD i ByteArray.empty)) := by
        rcases HST.out with h0 | ⟨g, o, h1, h2⟩
        · subst h0; simp at hjl
        · exact ⟨g, o, h1, h2⟩
      obtain ⟨X, hX⟩ : ∃ X, L.getD j ByteArray.empty = X := ⟨_, rfl⟩
      have k1 : wr.cell? ⟨ga, oa + j, none⟩ = some (.string X) := by rw [← hX]; exact cellL (hca j hjl) HB.out
      have HX := hide hX
      have hXm : X ∈ L := by rw [← hX]; simp [List.getD, hjl]
      have hXs := HSZ.out X hXm
      have P1 := ref_parse_anyF X wr (by omega) (HG.out.on (bel_on' HW.out HB.out))
      clear hca hjl hX hXm hXs
      go_wp2_with fail
      refine P1.mono ?_
      rintro e u1 ⟨k, id, l, av, cv, er, rfl, hin, hll, hpr, hb1⟩
      have HPR := hide hpr
      have HB1 := hide (bel_on' HB.out hb1)
      have HR1 : Hid (u1.ownsRow w.heap.size 70 3 (.slice lv ys.length lc) ys.length (evCells ys)) := row_stays HR.out (fun k cs _ hk => hb1.block k (Array.getElem?_eq_some_iff.1 hk).1)
      have HGD1 : Hid (∀ x ∈ ys, Good w.heap.size x u1) := fun x hx => (HGD.out x hx).on hb1
      have HX1 : Hid (Good w.heap.size ⟨k, id, l, av, cv⟩ u1) := ⟨hin.lower HB.out.size, hll⟩
      clear hin hll hpr hb1 P1 k1 HGD HR HB
      by_cases her : er = 0
      · subst her
        obtain ⟨U, hU⟩ : ∃ U, U = (u1.alloc (.cells #[.string k, .int .i64 id, .slice av l.length cv] 70)).alloc (.cells #[.string k, .int .i64 id, .slice av l.length cv] 70) := ⟨_, rfl⟩
        have hbU : Below u1.heap.size u1 U := by rw [hU]; exact ((Below.refl _ _).alloc (Nat.le_refl _) _).alloc (by simp) _
        have HR2 : Hid (U.ownsRow w.heap.size 70 3 (.slice lv ys.length lc) ys.length (evCells ys)) := row_stays HR1.out (fun k cs _ hk => hbU.block k (Array.getElem?_eq_some_iff.1 hk).1)
        have HGD2 : Hid (∀ x ∈ ys ++ [⟨k, id, l, av, cv⟩], Good w.heap.size x U) := fun x hx => by
          rcases List.mem_append.1 hx with hx | hx
          · exact (HGD1.out x hx).on hbU
          · simp at hx; subst hx; exact HX1.out.on hbU
        have HB2 := hide (bel_on' HB1.out hbU)
        have HC2 : Hid (∀ j u, [Value.string k, .int .i64 id, .slice av l.length cv][j]? = some u → U.cell? ((⟨u1.heap.size + 1, 0, none⟩ : Addr).add j) = some u) := by
          show ∀ j u, _ → _
          have h3 := cell_three_new (u1.alloc (.cells #[.string k, .int .i64 id, .slice av l.length cv] 70)) (.string k) (.int .i64 id) (.slice av l.length cv) 70
          rw [← hU] at h3
          simpa using h3
        have HRD2 : Hid (Rd (ys ++ [⟨k, id, l, av, cv⟩]) L) := HRD.out.snoc (by rw [HYL.out, HX.out]; exact HPR.out)
        have hyn : ys.length ≤ 4096 := by rw [HYL.out]; omega
        have HYN := hide hyn
        rw [hU] at HR2 HC2 HB2 HGD2
        clear hbU hU hyn
        go_wp2_with (first
          | (at_builtin; refine append_ents rfl (.tmp 25) (.tmp 27) rfl w.heap.size (.slice lv ys.length lc) ys rfl HR2.out ⟨u1.heap.size + 1, 0, none⟩ ⟨k, id, l, av, cv⟩ rfl HC2.out ?hnn HB2.out.size ?_; (case hnn => have := HYN.out; omega); intro a6 c6 w6 o6 g6; have HR6 := hide o6; have HGD6 := hide (fun x hx => (HGD2.out x hx).grew HR2.out g6); have HB6 := hide (HB2.out.grown g6 HB2.out.size (fun k e => (HR2.out.lt k e).1)); clear o6 g6))
        go_roundw
        case rel => exact ⟨j + 1, ys ++ [⟨k, id, l, av, cv⟩], by go_num, by omega, by show _ = _; simp [HYL.out], HRD2, HR6, HGD6, HB6⟩
        case measure => simp [intOf]; omega
      · have qe : (er == 0) = false := by simp [her]
        have qn : (er != 0) = true := by simp [her]
        have HWL : Hid (ys.length = (wholeD fun s => Classical.propDecidable (Ok s)) L) := by
          show _ = _
          have h1 := HRD.out.whole (by rw [HYL.out, HN.out]; omega)
          have h2 := whole_stop L j (by rw [HN.out]; omega) (by rw [HX.out]; exact not_ok HPR.out her)
          have h3 := HYL.out
          omega
        have HE := hide (entsF_of HR1.out HGD1.out)
        have HE2 : Hid (EntsF w.heap.size (u1.alloc (.cells #[.string k, .int .i64 id, .slice av l.length cv] 70)) lv ys) := HE.out.below ((Below.refl _ _).alloc (Nat.le_refl _) _)
        have HB2 : Hid (Below w.heap.size w (u1.alloc (.cells #[.string k, .int .i64 id, .slice av l.length cv] 70))) := HB1.out.alloc HB1.out.size _
        clear her
        go_wp2
        go_ret
        exact ⟨ys, lv, lc, rfl, HWL.out, HRD.out, HE2.out, HB2.out⟩
    · have ql : ¬ (j : Int) < (n : Int) := by omega
      have HWL : Hid (ys.length = (wholeD fun s => Classical.propDecidable (Ok s)) L) := by
        show _ = _
        have h1 := HRD.out.whole (by rw [HYL.out, HN.out]; omega)
        have h2 := whole_le L
        have h3 := HYL.out
        have h4 := HN.out
        omega
      have HE := hide (entsF_of HR.out HGD.out)
      go_wp2
      go_ret
      exact ⟨ys, lv, lc, rfl, HWL.out, HRD.out, HE.out, HB.out⟩
theorem rall_any {w0 w : World} (hg0 : Gl w0) (hw : Below w0.heap.size w0 w) {B q : Nat} {v : Value} {room : Int} {L : List ByteArray} {sure : Nat} {down : Bool} (h : R.Jr B w q v room L sure down) :
    Calls Tryz.prog 31 #[.pointer (some ⟨q, 0, none⟩)] w (RAll w L) :=
  (rallF_any hg0 hw h).mono (fun _ _ ⟨ys, a, c, h1, h2, h3, h4, h5⟩ => ⟨ys, a, c, h1, h2, h3, h4.ents, h5⟩)
end Go.Proofs.YtdbmnjodkpeobaaGreatDoor
