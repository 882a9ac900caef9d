/-
  Contract: entry.fromWords: the entry that the words are, if they are one.
-/
import Derived.Test.YtdbmnjodkpeobaaGreatDoorBd6
import Derived.WalkMore
import Derived.Deep.CutBlock
import Derived.Deep.RegionHeld3
import Derived.Deep.DrawnRows
namespace Go.Proofs.YtdbmnjodkpeobaaGreatDoor
open Go.ChangeShapes Go.WideShapes Go.ChangeAt Go.RowKit
set_option linter.unusedSimpArgs false

def FromR (ws : List ByteArray) (k : ByteArray) (id : Int) (l : List Int) (b : Bool) : Prop :=
  (b = true → mayB k id l = true ∧ ws.map (·.data.toList) = wordsL k id l) ∧
  ∀ k' id' l', mayB k' id' l' = true → ws.map (·.data.toList) = wordsL k' id' l' → b = true

/-- What is read after p words. -/
def Pre (ws : List ByteArray) (p : Nat) (k : ByteArray) (id : Int) (l : List Int) : Prop :=
  (ws.take p).map (·.data.toList) = (wordsL k id l).take p ∧ l.length = p - 2 ∧ k.size ≤ 281474976710656

theorem pre_zero (ws : List ByteArray) : Pre ws 0 ⟨#[]⟩ 0 [] := ⟨rfl, rfl, Nat.zero_le _⟩
theorem take_map_succ (ws : List ByteArray) (p : Nat) (h : p < ws.length) : (ws.take (p + 1)).map (·.data.toList) = (ws.take p).map (·.data.toList) ++ [ws[p].data.toList] := by
  rw [List.take_succ_eq_append_getElem h, List.map_append]; rfl
theorem pre_kind (ws : List ByteArray) (h : 0 < ws.length) (id : Int) (hs : ws[0].size ≤ 281474976710656) : Pre ws 1 ws[0] id [] := by
  refine ⟨?_, rfl, hs⟩
  rw [take_map_succ ws 0 h]
  rfl
theorem pre_id (ws : List ByteArray) (h : 1 < ws.length) {k : ByteArray} {id v : Int} {l : List Int} (hp : Pre ws 1 k id l) (hv : ws[1].data.toList = Lib.itoa v) : Pre ws 2 k v l := by
  refine ⟨?_, hp.2⟩
  have e := hp.1
  rw [take_map_succ ws 1 h, e, hv]
  have : l = [] := List.eq_nil_of_length_eq_zero hp.2.1
  subst this
  rfl
theorem pre_num (ws : List ByteArray) {p : Nat} (h2 : 2 ≤ p) (h : p < ws.length) {k : ByteArray} {id v : Int} {l : List Int} (hp : Pre ws p k id l) (hv : ws[p].data.toList = Lib.itoa v) : Pre ws (p + 1) k id (l ++ [v]) := by
  obtain ⟨e, hl, hs⟩ := hp
  refine ⟨?_, by simp; omega, hs⟩
  rw [take_map_succ ws p h, e, hv]
  have n1 : (wordsL k id l).length = p := by simp [wordsL]; omega
  have n2 : (wordsL k id (l ++ [v])).length = p + 1 := by simp [wordsL]; omega
  rw [List.take_of_length_le (by omega), List.take_of_length_le (by omega)]
  simp [wordsL]

theorem from_stop (ws : List ByteArray) {p : Nat} (h1 : 1 ≤ p) (h : p < ws.length) {v : Int} (hn : NumR ws[p] v false) (k : ByteArray) (id : Int) (l : List Int) : FromR ws k id l false := by
  refine ⟨(fun h => by cases h), fun k' id' l' hm e => ?_⟩
  exfalso
  obtain ⟨_, _, _, hi0, hi1, _, hl⟩ := may_parts hm
  have e2 : (wordsL k' id' l')[p]? = some ws[p].data.toList := by rw [← e]; simp [h]
  have hx : ∃ n : Int, -1000000000 ≤ n ∧ n ≤ 1000000000 ∧ ws[p].data.toList = Lib.itoa n := by
    obtain ⟨q, rfl⟩ : ∃ q, p = q + 1 := ⟨p - 1, by omega⟩
    simp only [wordsL, List.getElem?_cons_succ] at e2
    cases q with
    | zero =>
      simp only [List.getElem?_cons_zero, Option.some.injEq] at e2
      exact ⟨id', by omega, by omega, e2.symm⟩
    | succ q =>
      simp only [List.getElem?_cons_succ, List.getElem?_map, Option.map_eq_some_iff] at e2
      obtain ⟨n, hn1, hn2⟩ := e2
      exact ⟨n, (hl n (List.mem_of_getElem? hn1)).1, (hl n (List.mem_of_getElem? hn1)).2, hn2.symm⟩
  obtain ⟨n, n0, n1, en⟩ := hx
  have := (hn.2 n n0 n1 en).1
  cases this

theorem from_end (ws : List ByteArray) {k : ByteArray} {id : Int} {l : List Int} (hp : Pre ws ws.length k id l) (h2 : 2 ≤ ws.length) : FromR ws k id l (mayB k id l) := by
  obtain ⟨e, hl, _⟩ := hp
  have n1 : (wordsL k id l).length = ws.length := by simp [wordsL]; omega
  rw [List.take_length, List.take_of_length_le (by omega)] at e
  refine ⟨fun h => ⟨h, e⟩, fun k' id' l' hm e' => ?_⟩
  obtain ⟨rfl, rfl, rfl⟩ := words_inj (e.symm.trans e')
  exact hm
theorem from_few (ws : List ByteArray) (h2 : ws.length < 2) (k : ByteArray) (id : Int) (l : List Int) : FromR ws k id l false := by
  refine ⟨(fun h => by cases h), fun k' id' l' _ e => ?_⟩
  have := congrArg List.length e
  simp [wordsL] at this
  omega

/-- A row of numbers that lies from block B on, in a block of numbers that may be written. -/
def IntsF (B : Nat) (w : World) (a : Option Addr) (l : List Int) : Prop :=
  l = [] ∨ ∃ b off, a = some ⟨b, off, none⟩ ∧ B ≤ b ∧ (∃ cs, w.heap[b]? = some (.cells cs 3 (0, 0))) ∧ ∀ i, i < l.length → w.cell? ⟨b, off + i, none⟩ = some (.int .i64 (l.getD i 0))
theorem IntsF.ints {B : Nat} {w : World} {a : Option Addr} {l : List Int} (h : IntsF B w a l) : Ints w a l := by
  rcases h with h | ⟨b, off, h1, _, _, h3⟩
  · exact .inl h
  · exact .inr ⟨b, off, h1, h3⟩
theorem IntsF.moveF {B : Nat} {u W : World} {a : Option Addr} {l : List Int} (h : IntsF B u a l) (hk : ∀ k, B ≤ k → (∃ cs, u.heap[k]? = some (.cells cs 3 (0, 0))) → W.heap[k]? = u.heap[k]?) : IntsF B W a l := by
  rcases h with h | ⟨b, off, h1, h2, h4, h3⟩
  · exact .inl h
  · refine .inr ⟨b, off, h1, h2, by rw [hk b h2 h4]; exact h4, fun i hi => ?_⟩
    rw [← h3 i hi]
    unfold World.cell?
    simp only [hk b h2 h4]
theorem IntsF.move {B : Nat} {u W : World} {a : Option Addr} {l : List Int} (h : IntsF B u a l) (hk : ∀ k, B ≤ k → W.heap[k]? = u.heap[k]?) : Ints W a l := (h.moveF (fun k hB _ => hk k hB)).ints
theorem IntsF.lower {B B' : Nat} {w : World} {a : Option Addr} {l : List Int} (h : IntsF B w a l) (hB : B' ≤ B) : IntsF B' w a l := by
  rcases h with h | ⟨b, off, h1, h2, h3⟩
  · exact .inl h
  · exact .inr ⟨b, off, h1, Nat.le_trans hB h2, h3⟩
theorem IntsF.below {B : Nat} {w w' : World} {a : Option Addr} {l : List Int} (h : IntsF B w a l) (hb : Below w.heap.size w w') : IntsF B w' a l :=
  h.moveF (fun k _ ⟨_, hc⟩ => hb.block k (Array.getElem?_eq_some_iff.1 hc).1)
theorem owned_numsF {w : World} {base : Nat} {v : Value} {n : Nat} {l : List Int} (h : w.ownsRow base 3 1 v n (l.map (Value.int .i64))) : ∃ a c, v = .slice a n c ∧ (l.length = n ∧ n ≤ c) ∧ IntsF base w a l := by
  have hc := fun g hg => h.cells (g := g) hg
  obtain ⟨hlen, h⟩ := id h
  rw [List.length_map, Nat.mul_one] at hlen
  rcases h with ⟨rfl, he⟩ | ⟨g, cap, cur, rfl, hg, hcur, hnc, _⟩
  · subst he
    exact ⟨none, 0, rfl, ⟨hlen, Nat.le_refl _⟩, .inl (List.eq_nil_of_length_eq_zero hlen)⟩
  · refine ⟨_, cap, rfl, ⟨hlen, hnc⟩, .inr ⟨g, 0, rfl, hg, ⟨cur, hcur⟩, fun i hi => ?_⟩⟩
    have := hc g rfl i (.int .i64 (l.getD i 0)) (by simp [List.getD, hi])
    rw [← st_add]
    exact this

/-- The world while words are read: the result's block, the entry's, and the entry's own row of numbers. -/
def FSt (w wx : World) (k : ByteArray) (id : Int) (l : List Int) (nv : Value) : Prop :=
  Below w.heap.size w wx ∧ w.heap.size + 2 ≤ wx.heap.size ∧
  wx.heap[w.heap.size]? = some (.cells #[.string ⟨#[]⟩, .int .i64 0, .slice none 0 0] 70 (0, 0)) ∧
  wx.heap[w.heap.size + 1]? = some (.cells #[.string k, .int .i64 id, nv] 70 (0, 0)) ∧
  wx.ownsRow (w.heap.size + 2) 3 1 nv l.length (l.map (Value.int .i64))

theorem FSt.start (w : World) : FSt w ((w.alloc (.cells #[.string ⟨#[]⟩, .int .i64 0, .slice none 0 0] 70)).alloc (.cells #[.string ⟨#[]⟩, .int .i64 0, .slice none 0 0] 70)) ⟨#[]⟩ 0 [] (.slice none 0 0) := by
  refine ⟨((Below.refl _ _).alloc (Nat.le_refl _) _).alloc (by simp) _, by simp, ?_, ?_, rfl, .inl ⟨rfl, rfl⟩⟩
  · show ((w.heap.push _).push _)[w.heap.size]? = _
    simp [Array.getElem?_push]
  · show ((w.heap.push _).push _)[w.heap.size + 1]? = _
    rw [Array.getElem?_push]
    simp

theorem FSt.on {w wx wy : World} {k : ByteArray} {id : Int} {l : List Int} {nv : Value} (h : FSt w wx k id l nv) (hb : Below wx.heap.size wx wy) : FSt w wy k id l nv := by
  obtain ⟨h1, h2, h3, h4, h5⟩ := h
  exact ⟨bel_on' h1 hb, Nat.le_trans h2 hb.size, by rw [hb.block _ (by omega)]; exact h3, by rw [hb.block _ (by omega)]; exact h4, owned_on h5 hb⟩

theorem owned_set {w : World} {base : Nat} {e : TypeId} {v : Value} {n : Nat} {xs : List Value} (h : w.ownsRow base e 1 v n xs) (a : Addr) (u : Value) (ha : a.block < base) : (w.setCell a u).ownsRow base e 1 v n xs := by
  obtain ⟨hlen, h⟩ := h
  refine ⟨hlen, ?_⟩
  rcases h with h | ⟨g, cap, cur, hv, hg, hc, h1, h2, h3, h4⟩
  · exact .inl h
  · exact .inr ⟨g, cap, cur, hv, hg, by rw [Below.heap_setCell _ _ _ _ (by omega)]; exact hc, h1, h2, h3, h4⟩

theorem FSt.set0 {w wx : World} {k : ByteArray} {id : Int} {l : List Int} {nv : Value} (h : FSt w wx k id l nv) (k' : ByteArray) : FSt w (wx.setCell ⟨w.heap.size + 1, 0, none⟩ (.string k')) k' id l nv := by
  obtain ⟨h1, h2, h3, h4, h5⟩ := h
  refine ⟨h1.setCell (by simp) _, by simpa using h2, ?_, ?_, owned_set h5 _ _ (by simp)⟩
  · rw [Below.heap_setCell _ _ _ _ (by simp)]; exact h3
  · rw [heap_setCell_same _ _ _ _ _ _ h4]; simp
theorem FSt.set1 {w wx : World} {k : ByteArray} {id : Int} {l : List Int} {nv : Value} (h : FSt w wx k id l nv) (id' : Int) : FSt w (wx.setCell ⟨w.heap.size + 1, 1, none⟩ (.int .i64 id')) k id' l nv := by
  obtain ⟨h1, h2, h3, h4, h5⟩ := h
  refine ⟨h1.setCell (by simp) _, by simpa using h2, ?_, ?_, owned_set h5 _ _ (by simp)⟩
  · rw [Below.heap_setCell _ _ _ _ (by simp)]; exact h3
  · rw [heap_setCell_same _ _ _ _ _ _ h4]; simp
theorem FSt.app {w w5 w6 : World} {k : ByteArray} {id : Int} {l l' : List Int} {nv nv' : Value} (h : FSt w w5 k id l nv) (g : w5.grownBy w6 nv.ownBlock) (o : w6.ownsRow (w.heap.size + 2) 3 1 nv' l'.length (l'.map (Value.int .i64))) :
    FSt w (w6.setCell ⟨w.heap.size + 1, 2, none⟩ nv') k id l' nv' := by
  obtain ⟨h1, h2, h3, h4, h5⟩ := h
  have hb : Below (w.heap.size + 2) w5 w6 := (Below.refl _ _).grown g h2 (fun j hj => (h5.lt j hj).1)
  have hs := hb.size
  refine ⟨(h1.trans (hb.mono (by omega))).setCell (by simp) _, by simp; omega, ?_, ?_, owned_set o _ _ (by simp)⟩
  · rw [Below.heap_setCell _ _ _ _ (by simp), hb.block _ (by omega)]; exact h3
  · rw [heap_setCell_same _ _ _ _ _ _ ((hb.block _ (by omega)).trans h4)]; simp
theorem FSt.still {w w5 w6 : World} {k : ByteArray} {id : Int} {l : List Int} {nv : Value} (h : FSt w w5 k id l nv) (g : w5.grownBy w6 nv.ownBlock) : w6.cell? ⟨w.heap.size + 1, 2, none⟩ = some nv := by
  obtain ⟨h1, h2, h3, h4, h5⟩ := h
  have hb : Below (w.heap.size + 2) w5 w6 := (Below.refl _ _).grown g h2 (fun j hj => (h5.lt j hj).1)
  rw [cell_of ((hb.block _ (by omega)).trans h4)]
  rfl
theorem FSt.thaw {w wx : World} {k : ByteArray} {id : Int} {l : List Int} {nv : Value} (h : FSt w wx k id l nv) (j : Nat) : wx.frozen? ⟨w.heap.size + 1, j, none⟩ = false ∧ wx.frozen? ⟨w.heap.size, j, none⟩ = false := by
  obtain ⟨h1, h2, h3, h4, h5⟩ := h
  exact ⟨frozen_of_row _ _ _ _ _ h4, frozen_of_row _ _ _ _ _ h3⟩
theorem FSt.thaw6 {w w5 w6 : World} {k : ByteArray} {id : Int} {l : List Int} {nv : Value} (h : FSt w w5 k id l nv) (g : w5.grownBy w6 nv.ownBlock) : w6.frozen? ⟨w.heap.size + 1, 2, none⟩ = false := by
  obtain ⟨h1, h2, h3, h4, h5⟩ := h
  have hb : Below (w.heap.size + 2) w5 w6 := (Below.refl _ _).grown g h2 (fun j hj => (h5.lt j hj).1)
  exact frozen_of_row _ _ _ _ _ ((hb.block _ (by omega)).trans h4)
theorem FSt.cells {w wx : World} {k : ByteArray} {id : Int} {l : List Int} {nv : Value} (h : FSt w wx k id l nv) :
    wx.cell? ⟨w.heap.size + 1, 0, none⟩ = some (.string k) ∧ wx.cell? ⟨w.heap.size + 1, 1, none⟩ = some (.int .i64 id) ∧ wx.cell? ⟨w.heap.size + 1, 2, none⟩ = some nv ∧
    wx.cell? ⟨w.heap.size, 0, none⟩ = some (.string ⟨#[]⟩) ∧ wx.cell? ⟨w.heap.size, 1, none⟩ = some (.int .i64 0) ∧ wx.cell? ⟨w.heap.size, 2, none⟩ = some (.slice none 0 0) := by
  obtain ⟨h1, h2, h3, h4, h5⟩ := h
  refine ⟨?_, ?_, ?_, ?_, ?_, ?_⟩
  all_goals first | (rw [cell_of h4]; rfl) | (rw [cell_of h3]; rfl)

theorem FSt.res {w wx : World} {k : ByteArray} {id : Int} {l : List Int} {nv : Value} (h : FSt w wx k id l nv) :
    FSt w wx k id l nv ∧ ∀ W, W = ((wx.setCell ⟨w.heap.size, 0, none⟩ (.string k)).setCell ⟨w.heap.size, 1, none⟩ (.int .i64 id)).setCell ⟨w.heap.size, 2, none⟩ nv →
      Below w.heap.size w W ∧ Below wx.heap.size (wx.setCell ⟨w.heap.size, 0, none⟩ (.string k)) (wx.setCell ⟨w.heap.size, 0, none⟩ (.string k)) ∧
      W.heap[w.heap.size]? = some (.cells #[.string k, .int .i64 id, nv] 70 (0, 0)) ∧
      W.heap[w.heap.size + 1]? = some (.cells #[.string k, .int .i64 id, nv] 70 (0, 0)) ∧
      W.ownsRow (w.heap.size + 2) 3 1 nv l.length (l.map (Value.int .i64)) := by
  refine ⟨h, fun W hW => ?_⟩
  obtain ⟨h1, h2, h3, h4, h5⟩ := h
  subst hW
  refine ⟨((h1.setCell (by simp) _).setCell (by simp) _).setCell (by simp) _, Below.refl _ _, ?_, ?_, ?_⟩
  · rw [heap_setCell_same _ _ _ _ _ _ (heap_setCell_same _ _ _ _ _ _ (heap_setCell_same _ _ _ _ _ _ h3))]
    simp
  · rw [Below.heap_setCell _ _ _ _ (by simp), Below.heap_setCell _ _ _ _ (by simp), Below.heap_setCell _ _ _ _ (by simp)]
    exact h4
  · exact owned_set (owned_set (owned_set h5 _ _ (by simp)) _ _ (by simp)) _ _ (by simp)

attribute [local go_sem ↓] Go.wp_at_zero Go.wp_at_succ
set_option maxRecDepth 100000 in
set_option maxHeartbeats 8000000 in
theorem from_any (ws : List ByteArray) (a : Option Addr) (c : Nat) (w : World) (hst : Strs w a ws) (hlen : ws.length ≤ 1000) (hsz : ∀ x ∈ ws, x.size ≤ 281474976710656) (hg : Gl w) :
    Calls Tryz.prog 76 #[.slice a ws.length c] w fun e w' => ∃ k id l av cv b, e = .returned (.tuple #[.agg #[.string k, .int .i64 id, .slice av l.length cv], .bool b]) ∧ IntsF (w.heap.size + 2) w' av l ∧ (l.length ≤ 1000 ∧ l.length ≤ cv) ∧ FromR ws k id l b ∧ Below w.heap.size w w' := by
  have HST : Hid (Strs w a ws) := hst
  have HSZ : Hid (∀ x ∈ ws, x.size ≤ 281474976710656) := hsz
  have HG : Hid (Gl w) := hg
  clear hst hsz hg
  go_enter Tryz.func76, Tryz.ntmps76
  go_wp2
  go_step3
  go_wp2
  go_step3
  go_upto_block 0 with fail
  go_cut [5] from 6 to 44 (fun r wx => ∃ (p : Nat) (k : ByteArray) (id : Int) (l : List Int) (nv : Value), r = .int .i64 p ∧ p ≤ ws.length ∧ Hid (FSt w wx k id l nv) ∧ l.length ≤ p ∧ Hid (p = ws.length → Pre ws p k id l) ∧ Hid (p ≠ ws.length → ∀ k id l, FromR ws k id l false))
  case first =>
    have HF0 : Hid _ := FSt.start w
    go_wp2_with fail
    go_loopw [5, 12] (fun r i wr => ∃ (p : Nat) (k : ByteArray) (id : Int) (l : List Int) (nv : Value), r = .int .i64 p ∧ i = .int .i64 p ∧ p ≤ ws.length ∧ Hid (FSt w wr k id l nv) ∧ Hid (Pre ws p k id l)) (fun _ i _ => ws.length - (intOf i).toNat)
    case atStart => exact ⟨0, ⟨#[]⟩, 0, [], .slice none 0 0, rfl, rfl, Nat.zero_le _, HF0.out, pre_zero ws⟩
    case round =>
      obtain ⟨p, k, id, l, nv, rfl, rfl, hp, HF, HP⟩ := hrel
      by_cases hlt : p < ws.length
      · rcases HST.out.below HF.out.1 with h | ⟨b, off, rfl, hc⟩
        · subst h; simp at hlt
        have hx := hc p hlt
        clear hc
        obtain ⟨x, ex⟩ : ∃ x, x = ws.getD p ByteArray.empty := ⟨_, rfl⟩
        rw [← ex] at hx
        have HX : Hid (ws[p] = x) := by show _ = _; rw [ex]; simp [List.getD, hlt]
        clear ex
        by_cases h0 : p = 0
        · have q0 : ((p : Int) == 0) = true := by simp; omega
          have HP1 : Hid (Pre ws (p + 1) x id []) := by
            show Pre ws (p + 1) x id []
            have := HX.out
            subst h0
            have h2 := pre_kind ws hlt id (HSZ.out _ (List.getElem_mem hlt))
            rwa [this] at h2
          obtain ⟨d0, d1, d2, d3, d4, d5⟩ := HF.out.cells
          have HF1 : Hid _ := HF.out.set0 x
          have f0 := (HF.out.thaw 0).1
          obtain rfl : l = [] := List.eq_nil_of_length_eq_zero (by rw [HP.out.2.1]; omega)
          clear h0
          go_wp2
          go_roundw
          case rel => exact ⟨p + 1, x, id, [], nv, by go_num, by go_num, by omega, HF1, HP1⟩
          case measure => simp [intOf]; omega
        · have q0 : ((p : Int) == 0) = false := by simp; omega
          have HN : ∀ u : World, Below wr.heap.size wr u → Calls Tryz.prog 82 #[.string x] u fun e w' => ∃ v b, e = .returned (.tuple #[.int .i64 v, .bool b]) ∧ NumR x v b ∧ Below u.heap.size u w' := fun u hu =>
            number_any x u (HSZ.out x (by rw [← HX.out]; exact List.getElem_mem hlt)) (HG.out.on (bel_on' HF.out.1 hu))
          go_wp2_with fail
          refine (HN _ (Below.refl _ _)).mono ?_
          rintro e w4 ⟨v, bb, rfl, hnum, hb4⟩
          have HF4 : Hid (FSt w w4 k id l nv) := HF.out.on hb4
          have HNU : Hid (NumR x v bb) := hnum
          clear hnum hb4 HN
          cases bb
          · go_wp2
            go_meet
            exact ⟨p, k, id, l, nv, rfl, hp, HF4, by have := HP.out.2.1; omega, (fun h => absurd h (by omega)), fun _ => from_stop ws (by omega) hlt (by rw [HX.out]; exact HNU.out)⟩
          · have HV : Hid (ws[p].data.toList = Lib.itoa v) := by show _ = _; rw [HX.out]; exact (HNU.out.1 rfl).1
            obtain ⟨d0, d1, d2, d3, d4, d5⟩ := HF4.out.cells
            by_cases h1 : p = 1
            · have q1 : ((p : Int) == 1) = true := by simp; omega
              have HP2 : Hid (Pre ws (p + 1) k v l) := by
                show Pre ws (p + 1) k v l
                have e1 := HP.out
                have e2 := HV.out
                subst h1
                exact pre_id ws hlt e1 e2
              have HF5 : Hid _ := HF4.out.set1 v
              have f1 := (HF4.out.thaw 1).1
              clear h1
              go_wp2
              go_roundw
              case rel => exact ⟨p + 1, k, v, l, nv, by go_num, by go_num, by omega, HF5, HP2⟩
              case measure => simp [intOf]; omega
            · have q1 : ((p : Int) == 1) = false := by simp; omega
              have HP2 : Hid _ := pre_num ws (by omega) hlt HP.out HV.out
              have HLL : Hid (l.length ≤ 1000) := by show _ ≤ _; have := HP.out.2.1; omega
              have HF5 : Hid (FSt w (w4.alloc (.cells #[.int .i64 v] 3)) k id l nv) := HF4.out.on ((Below.refl _ _).alloc (Nat.le_refl _) _)
              go_wp2_with (first
                | (at_builtin; refine append_nums rfl (.tmp 29) (.tmp 31) rfl (w.heap.size + 2) nv l.length l rfl HF5.out.2.2.2.2 ⟨w4.heap.size, 0, none⟩ 1 1 [v] rfl rfl (ints_one w4 v) ?hnn ?hba ?_; (case hnn => have := HLL.out; omega); (case hba => exact HF5.out.2.1); intro v6 w6 o6 g6; obtain ⟨a6, c6, rfl, -, -⟩ := owned_nums o6; have d6 := HF5.out.still g6; have f6 := HF5.out.thaw6 g6; have HF6 : Hid _ := HF5.out.app (l' := l ++ [v]) g6 (by simpa using o6); clear o6 g6))
              go_roundw
              case rel => exact ⟨p + 1, k, id, l ++ [v], _, by go_num, by go_num, by omega, HF6, HP2⟩
              case measure => simp [intOf]; omega
      · go_wp2
        go_meet
        have en : p = ws.length := by omega
        exact ⟨p, k, id, l, nv, rfl, hp, HF, by have := HP.out.2.1; omega, fun _ => HP.out, fun h => absurd en h⟩
  case rest =>
    obtain ⟨p, k, id, l, nv, rfl, hp, HF, hlp, HPre, HStop⟩ := hcut
    obtain ⟨av, cv, rfl, hll, hin⟩ := owned_nums HF.out.2.2.2.2
    have HIn : Hid _ := hin
    clear hin hll
    obtain ⟨d0, d1, d2, d3, d4, d5⟩ := HF.out.cells
    have f0 := (HF.out.thaw 0).2
    have f1 := (HF.out.thaw 1).2
    have f2 := (HF.out.thaw 2).2
    by_cases hp1 : (1 : Int) < (p : Int)
    · by_cases hq : ((p : Int) == (ws.length : Int)) = true
      · have hd : decide ((1 : Int) < (p : Int)) = true := by simpa using hp1
        have hpe : p = ws.length := by have := eq_of_beq hq; omega
        have HKS : Hid (k.size ≤ maxLen) := by show k.size ≤ maxLen; have := (HPre.out hpe).2.2; unfold maxLen; omega
        have HPE : Hid (p = ws.length) := hpe
        clear hpe
        go_wp2_with fail
        refine wp_region_held_drew (S := (fun w' => w'.cell? ⟨w.heap.size + 1, 0, none⟩ = some (.string k) ∧ w'.cell? ⟨w.heap.size + 1, 1, none⟩ = some (.int .i64 id) ∧ w'.cell? ⟨w.heap.size + 1, 2, none⟩ = some (.slice av l.length cv))) (by kernel_rfl) ⟨d0, d1, d2⟩ (fun hHeld => ?_)
        refine wpAnyH_take (i := 0) (oi := { dst := some 45, op := _, type := _, pos := _, after := _, guard := _ }) (v := ?v1) rfl (by kernel_rfl) (by kernel_rfl) (by kernel_rfl) (fun _ _ _ h => h) (Or.inl ⟨by kernel_rfl, ?hy1⟩) hHeld ?rest1
        case hy1 => (intro w' hSw; (try dsimp only at hSw); go_simp; all_goals (with_reducible rfl))
        try simp only [Act.put, List.setIfInBounds_toArray, List.set_cons_zero, List.set_cons_succ]
        refine wpAnyH_take (i := 1) (oi := { dst := some 46, op := _, type := _, pos := _, after := _, guard := _ }) (v := ?v2) rfl (by kernel_rfl) (by kernel_rfl) (by kernel_rfl) (fun _ _ _ h => h) (Or.inl ⟨by kernel_rfl, ?hy2⟩) hHeld ?rest2
        case hy2 => (intro w' hSw; (try dsimp only at hSw); go_simp; all_goals (with_reducible rfl))
        try simp only [Act.put, List.setIfInBounds_toArray, List.set_cons_zero, List.set_cons_succ]
        refine wpAnyH_take (i := 2) (oi := { dst := some 47, op := _, type := _, pos := _, after := _, guard := _ }) (v := ?v3) rfl (by kernel_rfl) (by kernel_rfl) (by kernel_rfl) (fun _ _ _ h => h) (Or.inl ⟨by kernel_rfl, ?hy3⟩) hHeld ?rest3
        case hy3 => (intro w' hSw; (try dsimp only at hSw); go_simp; all_goals (with_reducible rfl))
        try simp only [Act.put, List.setIfInBounds_toArray, List.set_cons_zero, List.set_cons_succ]
        refine wpAnyH_take (i := 3) (oi := { dst := some 48, op := _, type := _, pos := _, after := _, guard := _ }) (v := ?v4) rfl (by kernel_rfl) (by kernel_rfl) (by kernel_rfl) (fun _ _ _ h => h) (Or.inl ⟨by kernel_rfl, ?hy4⟩) hHeld ?rest4
        case hy4 => (intro w' hSw; (try dsimp only at hSw); go_simp; all_goals (with_reducible rfl))
        try simp only [Act.put, List.setIfInBounds_toArray, List.set_cons_zero, List.set_cons_succ]
        refine wpAnyH_take (i := 4) (oi := { dst := some 49, op := _, type := _, pos := _, after := _, guard := _ }) (v := ?v5) rfl (by kernel_rfl) (by kernel_rfl) (by kernel_rfl) (fun _ _ _ h => h) (Or.inl ⟨by kernel_rfl, ?hy5⟩) hHeld ?rest5
        case hy5 => (intro w' hSw; (try dsimp only at hSw); go_simp; all_goals (with_reducible rfl))
        try simp only [Act.put, List.setIfInBounds_toArray, List.set_cons_zero, List.set_cons_succ]
        refine wpAnyH_take (i := 5) (oi := { dst := some 50, op := _, type := _, pos := _, after := _, guard := _ }) (v := ?v6) rfl (by kernel_rfl) (by kernel_rfl) (by kernel_rfl) (fun _ _ _ h => h) (Or.inl ⟨by kernel_rfl, ?hy6⟩) hHeld ?rest6
        case hy6 => (intro w' hSw; (try dsimp only at hSw); go_simp; all_goals (with_reducible rfl))
        try simp only [Act.put, List.setIfInBounds_toArray, List.set_cons_zero, List.set_cons_succ]
        refine wpAnyH_take (i := 6) (oi := { dst := some 51, op := _, type := _, pos := _, after := _, guard := _ }) (v := ?v7) rfl (by kernel_rfl) (by kernel_rfl) (by kernel_rfl) (fun _ _ _ h => h) (Or.inl ⟨by kernel_rfl, ?hy7⟩) hHeld ?rest7
        case hy7 => (intro w' hSw; (try dsimp only at hSw); go_simp; all_goals (with_reducible rfl))
        try simp only [Act.put, List.setIfInBounds_toArray, List.set_cons_zero, List.set_cons_succ]
        refine wpAnyH_take (i := 7) (oi := { dst := some 52, op := _, type := _, pos := _, after := _, guard := _ }) (v := ?v8) rfl (by kernel_rfl) (by kernel_rfl) (by kernel_rfl) (fun _ _ _ h => h) (Or.inl ⟨by kernel_rfl, ?hy8⟩) hHeld ?rest8
        case hy8 => (intro w' hSw; (try dsimp only at hSw); go_simp; all_goals (with_reducible rfl))
        try simp only [Act.put, List.setIfInBounds_toArray, List.set_cons_zero, List.set_cons_succ]
        refine wpAnyH_take (i := 8) (oi := { dst := some 53, op := _, type := _, pos := _, after := _, guard := _ }) (v := ?v9) rfl (by kernel_rfl) (by kernel_rfl) (by kernel_rfl) (fun _ _ _ h => h) (Or.inl ⟨by kernel_rfl, ?hy9⟩) hHeld ?rest9
        case hy9 => (intro w' hSw; (try dsimp only at hSw); go_simp; all_goals (with_reducible rfl))
        try simp only [Act.put, List.setIfInBounds_toArray, List.set_cons_zero, List.set_cons_succ]
        refine wpAnyH_take (i := 9) (oi := { dst := some 54, op := _, type := _, pos := _, after := _, guard := _ }) (v := ?v10) rfl (by kernel_rfl) (by kernel_rfl) (by kernel_rfl) (fun _ _ _ h => h) (Or.inl ⟨by kernel_rfl, ?hy10⟩) hHeld ?rest10
        case hy10 => (intro w' hSw; (try dsimp only at hSw); go_simp; all_goals (with_reducible rfl))
        try simp only [Act.put, List.setIfInBounds_toArray, List.set_cons_zero, List.set_cons_succ]
        refine wpAnyH_take (i := 10) (oi := { dst := some 55, op := _, type := _, pos := _, after := _, guard := _ }) (v := ?v11) rfl (by kernel_rfl) (by kernel_rfl) (by kernel_rfl) (fun _ _ _ h => h) (Or.inl ⟨by kernel_rfl, ?hy11⟩) hHeld ?rest11
        case hy11 => (intro w' hSw; (try dsimp only at hSw); go_simp; all_goals (with_reducible rfl))
        try simp only [Act.put, List.setIfInBounds_toArray, List.set_cons_zero, List.set_cons_succ]
        obtain ⟨bm, hbm⟩ : ∃ b, mayB k id l = b := ⟨_, rfl⟩
        have HFR : Hid (FromR ws k id l bm) := by
          show FromR ws k id l bm
          have h1 := HPre.out HPE.out
          rw [HPE.out] at h1
          rw [← hbm]
          exact from_end ws h1 (by have := HPE.out; omega)
        have CM : Calls Tryz.prog 83 #[.agg #[.string k, .int .i64 id, .slice av l.length cv]] wc.drew fun e w' => e = .returned (.bool bm) ∧ Below wc.drew.heap.size wc.drew w' := by
          rw [← hbm]
          exact may_any k id av l cv wc.drew HKS.out (Ints.below (w := wc) HIn.out (Below.refl _ _).drew) (by omega)
        clear hbm
        refine wpAnyH_ready (rs := [11]) (by kernel_rfl) (by simp) ?_
        refine AllReadyH.cons (o := { dst := some 56, op := _, type := _, pos := _, after := _, guard := _ }) rfl (fun K hK => ?_) AllReadyH.nil
        rw [if_pos (by kernel_rfl)]
        go_wp2_with (first
          | (go_at_call 83; refine CM.mono ?_; rintro e w5 ⟨rfl, hb5⟩))
        have HF5 : Hid (FSt w w5 k id l (.slice av l.length cv)) := HF.out.on ((Below.refl _ _).drew.trans hb5)
        obtain ⟨g0, g1, g2, g3, g4, g5⟩ := HF5.out.cells
        have e0 := (HF5.out.thaw 0).2
        have e1 := (HF5.out.thaw 1).2
        have e2 := (HF5.out.thaw 2).2
        clear hb5 CM hHeld d0 d1 d2 d3 d4 d5 f0 f1 f2
        refine hK.out _ _ ⟨g0, g1, g2⟩ (fun hHeld => ?_)
        clear hK K
        try simp only [Act.put, List.setIfInBounds_toArray, List.set_cons_zero, List.set_cons_succ]
        refine wpAnyH_take (i := 12) (oi := { dst := some 57, op := _, type := _, pos := _, after := _, guard := _ }) (v := ?v912) rfl (by kernel_rfl) (by kernel_rfl) (by kernel_rfl) (fun _ _ _ h => h) (Or.inl ⟨by kernel_rfl, ?hy912⟩) hHeld ?rest912
        case hy912 => (intro w' hSw; (try dsimp only at hSw); go_simp; all_goals (with_reducible rfl))
        try simp only [Act.put, List.setIfInBounds_toArray, List.set_cons_zero, List.set_cons_succ]
        refine wpAnyH_ready (rs := [13]) (by kernel_rfl) (by simp) ?_
        refine AllReadyH.cons rfl (fun K hK => ?_) AllReadyH.nil
        rw [if_pos (by kernel_rfl)]
        go_wp2
        obtain ⟨W, hW⟩ : ∃ W, W = ((w5.setCell ⟨w.heap.size, 0, none⟩ (.string k)).setCell ⟨w.heap.size, 1, none⟩ (.int .i64 id)).setCell ⟨w.heap.size, 2, none⟩ (.slice av l.length cv) := ⟨_, rfl⟩
        rw [← hW]
        obtain ⟨r1, -, r3, r4, r5⟩ := HF5.out.res.2 W hW
        have t0 : W.cell? ⟨w.heap.size + 1, 0, none⟩ = some (.string k) := by rw [cell_of r4]; rfl
        have t1 : W.cell? ⟨w.heap.size + 1, 1, none⟩ = some (.int .i64 id) := by rw [cell_of r4]; rfl
        have t2 : W.cell? ⟨w.heap.size + 1, 2, none⟩ = some (.slice av l.length cv) := by rw [cell_of r4]; rfl
        have z0 : W.cell? ⟨w.heap.size, 0, none⟩ = some (.string k) := by rw [cell_of r3]; rfl
        have z1 : W.cell? ⟨w.heap.size, 1, none⟩ = some (.int .i64 id) := by rw [cell_of r3]; rfl
        have z2 : W.cell? ⟨w.heap.size, 2, none⟩ = some (.slice av l.length cv) := by rw [cell_of r3]; rfl
        have HR1 : Hid _ := r1
        obtain ⟨av', cv', e', hcap, hin⟩ := owned_numsF r5
        cases e'
        have HCP : Hid (l.length ≤ cv) := hcap.2
        have HIW : Hid (IntsF (w.heap.size + 2) W av l) := hin
        clear hW r1 r3 r4 r5 hin hcap hHeld g0 g1 g2 g3 g4 g5 e0 e1 e2
        refine hK.out _ _ ⟨t0, t1, t2⟩ (fun hHeld => ?_)
        clear hK K
        try simp only [Act.put, List.setIfInBounds_toArray, List.set_cons_zero, List.set_cons_succ]
        refine wpAnyH_take (i := 14) (oi := { dst := some 3, op := .assign (.tmp 57), type := 4, pos := _, after := _, guard := none }) (v := ?v923) rfl (by kernel_rfl) (by kernel_rfl) (by kernel_rfl) (fun _ _ _ h => h) (Or.inl ⟨by kernel_rfl, ?hy923⟩) hHeld ?rest923
        case hy923 => (intro w' hSw; (try dsimp only at hSw); go_simp; all_goals (with_reducible rfl))
        try simp only [Act.put, List.setIfInBounds_toArray, List.set_cons_zero, List.set_cons_succ]
        refine wpAnyH_done (by kernel_rfl) ?_ _
        go_wp2
        rw [Exit.noGoto_ret]
        refine bodyPost_ret (v := .tuple #[.agg #[.string k, .int .i64 id, .slice av l.length cv], .bool bm]) ?_ rfl ?_
        · rw [results_cell_tmp Tryz.results76]
          simp [go_sem, z0, z1, z2]
        · exact ⟨k, id, l, _, _, bm, rfl, HIW.out, ⟨by omega, HCP.out⟩, HFR.out, HR1.out⟩
      · have hq' : ((p : Int) == (ws.length : Int)) = false := by simpa using hq
        have HFR : Hid (FromR ws k id l false) := HStop.out (by intro h; apply hq; rw [h]; simp) k id l
        have hd : decide ((1 : Int) < (p : Int)) = true := by simpa using hp1
        clear hq
        go_wp2_with fail
        refine wp_region_held_drew (S := (fun w' => w'.cell? ⟨w.heap.size + 1, 0, none⟩ = some (.string k) ∧ w'.cell? ⟨w.heap.size + 1, 1, none⟩ = some (.int .i64 id) ∧ w'.cell? ⟨w.heap.size + 1, 2, none⟩ = some (.slice av l.length cv))) (by kernel_rfl) ⟨d0, d1, d2⟩ (fun hHeld => ?_)
        refine wpAnyH_take (i := 0) (oi := { dst := some 45, op := _, type := _, pos := _, after := _, guard := _ }) (v := ?v12) rfl (by kernel_rfl) (by kernel_rfl) (by kernel_rfl) (fun _ _ _ h => h) (Or.inl ⟨by kernel_rfl, ?hy12⟩) hHeld ?rest12
        case hy12 => (intro w' hSw; (try dsimp only at hSw); go_simp; all_goals (with_reducible rfl))
        try simp only [Act.put, List.setIfInBounds_toArray, List.set_cons_zero, List.set_cons_succ]
        refine wpAnyH_take (i := 1) (oi := { dst := some 46, op := _, type := _, pos := _, after := _, guard := _ }) (v := ?v13) rfl (by kernel_rfl) (by kernel_rfl) (by kernel_rfl) (fun _ _ _ h => h) (Or.inl ⟨by kernel_rfl, ?hy13⟩) hHeld ?rest13
        case hy13 => (intro w' hSw; (try dsimp only at hSw); go_simp; all_goals (with_reducible rfl))
        try simp only [Act.put, List.setIfInBounds_toArray, List.set_cons_zero, List.set_cons_succ]
        refine wpAnyH_take (i := 2) (oi := { dst := some 47, op := _, type := _, pos := _, after := _, guard := _ }) (v := ?v14) rfl (by kernel_rfl) (by kernel_rfl) (by kernel_rfl) (fun _ _ _ h => h) (Or.inl ⟨by kernel_rfl, ?hy14⟩) hHeld ?rest14
        case hy14 => (intro w' hSw; (try dsimp only at hSw); go_simp; all_goals (with_reducible rfl))
        try simp only [Act.put, List.setIfInBounds_toArray, List.set_cons_zero, List.set_cons_succ]
        refine wpAnyH_take (i := 3) (oi := { dst := some 48, op := _, type := _, pos := _, after := _, guard := _ }) (v := ?v15) rfl (by kernel_rfl) (by kernel_rfl) (by kernel_rfl) (fun _ _ _ h => h) (Or.inl ⟨by kernel_rfl, ?hy15⟩) hHeld ?rest15
        case hy15 => (intro w' hSw; (try dsimp only at hSw); go_simp; all_goals (with_reducible rfl))
        try simp only [Act.put, List.setIfInBounds_toArray, List.set_cons_zero, List.set_cons_succ]
        refine wpAnyH_take (i := 4) (oi := { dst := some 49, op := _, type := _, pos := _, after := _, guard := _ }) (v := ?v16) rfl (by kernel_rfl) (by kernel_rfl) (by kernel_rfl) (fun _ _ _ h => h) (Or.inl ⟨by kernel_rfl, ?hy16⟩) hHeld ?rest16
        case hy16 => (intro w' hSw; (try dsimp only at hSw); go_simp; all_goals (with_reducible rfl))
        try simp only [Act.put, List.setIfInBounds_toArray, List.set_cons_zero, List.set_cons_succ]
        refine wpAnyH_take (i := 5) (oi := { dst := some 50, op := _, type := _, pos := _, after := _, guard := _ }) (v := ?v17) rfl (by kernel_rfl) (by kernel_rfl) (by kernel_rfl) (fun _ _ _ h => h) (Or.inl ⟨by kernel_rfl, ?hy17⟩) hHeld ?rest17
        case hy17 => (intro w' hSw; (try dsimp only at hSw); go_simp; all_goals (with_reducible rfl))
        try simp only [Act.put, List.setIfInBounds_toArray, List.set_cons_zero, List.set_cons_succ]
        refine wpAnyH_take (i := 6) (oi := { dst := some 51, op := _, type := _, pos := _, after := _, guard := _ }) (v := ?v18) rfl (by kernel_rfl) (by kernel_rfl) (by kernel_rfl) (fun _ _ _ h => h) (Or.inl ⟨by kernel_rfl, ?hy18⟩) hHeld ?rest18
        case hy18 => (intro w' hSw; (try dsimp only at hSw); go_simp; all_goals (with_reducible rfl))
        try simp only [Act.put, List.setIfInBounds_toArray, List.set_cons_zero, List.set_cons_succ]
        refine wpAnyH_take (i := 7) (oi := { dst := some 52, op := _, type := _, pos := _, after := _, guard := _ }) (v := ?v19) rfl (by kernel_rfl) (by kernel_rfl) (by kernel_rfl) (fun _ _ _ h => h) (Or.inl ⟨by kernel_rfl, ?hy19⟩) hHeld ?rest19
        case hy19 => (intro w' hSw; (try dsimp only at hSw); go_simp; all_goals (with_reducible rfl))
        try simp only [Act.put, List.setIfInBounds_toArray, List.set_cons_zero, List.set_cons_succ]
        refine wpAnyH_take (i := 8) (oi := { dst := some 53, op := _, type := _, pos := _, after := _, guard := _ }) (v := ?v20) rfl (by kernel_rfl) (by kernel_rfl) (by kernel_rfl) (fun _ _ _ h => h) (Or.inl ⟨by kernel_rfl, ?hy20⟩) hHeld ?rest20
        case hy20 => (intro w' hSw; (try dsimp only at hSw); go_simp; all_goals (with_reducible rfl))
        try simp only [Act.put, List.setIfInBounds_toArray, List.set_cons_zero, List.set_cons_succ]
        refine wpAnyH_take (i := 9) (oi := { dst := some 54, op := _, type := _, pos := _, after := _, guard := _ }) (v := ?v21) rfl (by kernel_rfl) (by kernel_rfl) (by kernel_rfl) (fun _ _ _ h => h) (Or.inl ⟨by kernel_rfl, ?hy21⟩) hHeld ?rest21
        case hy21 => (intro w' hSw; (try dsimp only at hSw); go_simp; all_goals (with_reducible rfl))
        try simp only [Act.put, List.setIfInBounds_toArray, List.set_cons_zero, List.set_cons_succ]
        refine wpAnyH_take (i := 10) (oi := { dst := some 55, op := _, type := _, pos := _, after := _, guard := _ }) (v := undef) rfl (by kernel_rfl) (by kernel_rfl) (by kernel_rfl) (fun _ _ _ h => h) (Or.inr ⟨by kernel_rfl, rfl⟩) hHeld ?_
        try simp only [Act.put, List.setIfInBounds_toArray, List.set_cons_zero, List.set_cons_succ]
        refine wpAnyH_take (i := 11) (oi := { dst := some 56, op := _, type := _, pos := _, after := _, guard := _ }) (v := undef) rfl (by kernel_rfl) (by kernel_rfl) (by kernel_rfl) (fun _ _ _ h => h) (Or.inr ⟨by kernel_rfl, rfl⟩) hHeld ?_
        try simp only [Act.put, List.setIfInBounds_toArray, List.set_cons_zero, List.set_cons_succ]
        refine wpAnyH_take (i := 12) (oi := { dst := some 57, op := _, type := _, pos := _, after := _, guard := _ }) (v := ?v22) rfl (by kernel_rfl) (by kernel_rfl) (by kernel_rfl) (fun _ _ _ h => h) (Or.inl ⟨by kernel_rfl, ?hy22⟩) hHeld ?rest22
        case hy22 => (intro w' hSw; (try dsimp only at hSw); go_simp; all_goals (with_reducible rfl))
        try simp only [Act.put, List.setIfInBounds_toArray, List.set_cons_zero, List.set_cons_succ]
        refine wpAnyH_ready (rs := [13]) (by kernel_rfl) (by simp) ?_
        refine AllReadyH.cons rfl (fun K hK => ?_) AllReadyH.nil
        rw [if_pos (by kernel_rfl)]
        go_wp2
        obtain ⟨W, hW⟩ : ∃ W, W = ((wc.setCell ⟨w.heap.size, 0, none⟩ (.string k)).setCell ⟨w.heap.size, 1, none⟩ (.int .i64 id)).setCell ⟨w.heap.size, 2, none⟩ (.slice av l.length cv) := ⟨_, rfl⟩
        rw [← hW]
        obtain ⟨r1, -, r3, r4, r5⟩ := HF.out.res.2 W hW
        have t0 : W.cell? ⟨w.heap.size + 1, 0, none⟩ = some (.string k) := by rw [cell_of r4]; rfl
        have t1 : W.cell? ⟨w.heap.size + 1, 1, none⟩ = some (.int .i64 id) := by rw [cell_of r4]; rfl
        have t2 : W.cell? ⟨w.heap.size + 1, 2, none⟩ = some (.slice av l.length cv) := by rw [cell_of r4]; rfl
        have z0 : W.cell? ⟨w.heap.size, 0, none⟩ = some (.string k) := by rw [cell_of r3]; rfl
        have z1 : W.cell? ⟨w.heap.size, 1, none⟩ = some (.int .i64 id) := by rw [cell_of r3]; rfl
        have z2 : W.cell? ⟨w.heap.size, 2, none⟩ = some (.slice av l.length cv) := by rw [cell_of r3]; rfl
        have HR1 : Hid _ := r1
        obtain ⟨av', cv', e', hcap, hin⟩ := owned_numsF r5
        cases e'
        have HCP : Hid (l.length ≤ cv) := hcap.2
        have HIW : Hid (IntsF (w.heap.size + 2) W av l) := hin
        clear hW r1 r3 r4 r5 hin hcap hHeld d0 d1 d2 d3 d4 d5 f0 f1 f2
        refine hK.out _ _ ⟨t0, t1, t2⟩ (fun hHeld => ?_)
        clear hK K
        try simp only [Act.put, List.setIfInBounds_toArray, List.set_cons_zero, List.set_cons_succ]
        refine wpAnyH_take (i := 14) (oi := { dst := some 3, op := .assign (.tmp 57), type := 4, pos := _, after := _, guard := none }) (v := ?v23) rfl (by kernel_rfl) (by kernel_rfl) (by kernel_rfl) (fun _ _ _ h => h) (Or.inl ⟨by kernel_rfl, ?hy23⟩) hHeld ?rest23
        case hy23 => (intro w' hSw; (try dsimp only at hSw); go_simp; all_goals (with_reducible rfl))
        try simp only [Act.put, List.setIfInBounds_toArray, List.set_cons_zero, List.set_cons_succ]
        refine wpAnyH_done (by kernel_rfl) ?_ _
        go_wp2
        rw [Exit.noGoto_ret]
        refine bodyPost_ret (v := .tuple #[.agg #[.string k, .int .i64 id, .slice av l.length cv], .bool false]) ?_ rfl ?_
        · rw [results_cell_tmp Tryz.results76]
          simp [go_sem, z0, z1, z2]
        · exact ⟨k, id, l, _, _, false, rfl, HIW.out, ⟨by omega, HCP.out⟩, HFR.out, HR1.out.drew⟩
    · have hd : decide ((1 : Int) < (p : Int)) = false := by simpa using hp1
      have HFR : Hid (FromR ws k id l false) := by
        by_cases h : p = ws.length
        · exact from_few ws (by omega) k id l
        · exact HStop.out h k id l
      clear hp1
      go_wp2_with fail
      refine wp_region_held_drew (S := (fun w' => w'.cell? ⟨w.heap.size + 1, 0, none⟩ = some (.string k) ∧ w'.cell? ⟨w.heap.size + 1, 1, none⟩ = some (.int .i64 id) ∧ w'.cell? ⟨w.heap.size + 1, 2, none⟩ = some (.slice av l.length cv))) (by kernel_rfl) ⟨d0, d1, d2⟩ (fun hHeld => ?_)
      refine wpAnyH_take (i := 0) (oi := { dst := some 45, op := _, type := _, pos := _, after := _, guard := _ }) (v := ?v24) rfl (by kernel_rfl) (by kernel_rfl) (by kernel_rfl) (fun _ _ _ h => h) (Or.inl ⟨by kernel_rfl, ?hy24⟩) hHeld ?rest24
      case hy24 => (intro w' hSw; (try dsimp only at hSw); go_simp; all_goals (with_reducible rfl))
      try simp only [Act.put, List.setIfInBounds_toArray, List.set_cons_zero, List.set_cons_succ]
      refine wpAnyH_take (i := 1) (oi := { dst := some 46, op := _, type := _, pos := _, after := _, guard := _ }) (v := ?v25) rfl (by kernel_rfl) (by kernel_rfl) (by kernel_rfl) (fun _ _ _ h => h) (Or.inl ⟨by kernel_rfl, ?hy25⟩) hHeld ?rest25
      case hy25 => (intro w' hSw; (try dsimp only at hSw); go_simp; all_goals (with_reducible rfl))
      try simp only [Act.put, List.setIfInBounds_toArray, List.set_cons_zero, List.set_cons_succ]
      refine wpAnyH_take (i := 2) (oi := { dst := some 47, op := _, type := _, pos := _, after := _, guard := _ }) (v := ?v26) rfl (by kernel_rfl) (by kernel_rfl) (by kernel_rfl) (fun _ _ _ h => h) (Or.inl ⟨by kernel_rfl, ?hy26⟩) hHeld ?rest26
      case hy26 => (intro w' hSw; (try dsimp only at hSw); go_simp; all_goals (with_reducible rfl))
      try simp only [Act.put, List.setIfInBounds_toArray, List.set_cons_zero, List.set_cons_succ]
      refine wpAnyH_take (i := 3) (oi := { dst := some 48, op := _, type := _, pos := _, after := _, guard := _ }) (v := ?v27) rfl (by kernel_rfl) (by kernel_rfl) (by kernel_rfl) (fun _ _ _ h => h) (Or.inl ⟨by kernel_rfl, ?hy27⟩) hHeld ?rest27
      case hy27 => (intro w' hSw; (try dsimp only at hSw); go_simp; all_goals (with_reducible rfl))
      try simp only [Act.put, List.setIfInBounds_toArray, List.set_cons_zero, List.set_cons_succ]
      refine wpAnyH_take (i := 4) (oi := { dst := some 49, op := _, type := _, pos := _, after := _, guard := _ }) (v := undef) rfl (by kernel_rfl) (by kernel_rfl) (by kernel_rfl) (fun _ _ _ h => h) (Or.inr ⟨by kernel_rfl, rfl⟩) hHeld ?_
      try simp only [Act.put, List.setIfInBounds_toArray, List.set_cons_zero, List.set_cons_succ]
      refine wpAnyH_take (i := 5) (oi := { dst := some 50, op := _, type := _, pos := _, after := _, guard := _ }) (v := undef) rfl (by kernel_rfl) (by kernel_rfl) (by kernel_rfl) (fun _ _ _ h => h) (Or.inr ⟨by kernel_rfl, rfl⟩) hHeld ?_
      try simp only [Act.put, List.setIfInBounds_toArray, List.set_cons_zero, List.set_cons_succ]
      refine wpAnyH_take (i := 6) (oi := { dst := some 51, op := _, type := _, pos := _, after := _, guard := _ }) (v := undef) rfl (by kernel_rfl) (by kernel_rfl) (by kernel_rfl) (fun _ _ _ h => h) (Or.inr ⟨by kernel_rfl, rfl⟩) hHeld ?_
      try simp only [Act.put, List.setIfInBounds_toArray, List.set_cons_zero, List.set_cons_succ]
      refine wpAnyH_take (i := 7) (oi := { dst := some 52, op := _, type := _, pos := _, after := _, guard := _ }) (v := undef) rfl (by kernel_rfl) (by kernel_rfl) (by kernel_rfl) (fun _ _ _ h => h) (Or.inr ⟨by kernel_rfl, rfl⟩) hHeld ?_
      try simp only [Act.put, List.setIfInBounds_toArray, List.set_cons_zero, List.set_cons_succ]
      refine wpAnyH_take (i := 8) (oi := { dst := some 53, op := _, type := _, pos := _, after := _, guard := _ }) (v := ?v28) rfl (by kernel_rfl) (by kernel_rfl) (by kernel_rfl) (fun _ _ _ h => h) (Or.inl ⟨by kernel_rfl, ?hy28⟩) hHeld ?rest28
      case hy28 => (intro w' hSw; (try dsimp only at hSw); go_simp; all_goals (with_reducible rfl))
      try simp only [Act.put, List.setIfInBounds_toArray, List.set_cons_zero, List.set_cons_succ]
      refine wpAnyH_take (i := 9) (oi := { dst := some 54, op := _, type := _, pos := _, after := _, guard := _ }) (v := ?v29) rfl (by kernel_rfl) (by kernel_rfl) (by kernel_rfl) (fun _ _ _ h => h) (Or.inl ⟨by kernel_rfl, ?hy29⟩) hHeld ?rest29
      case hy29 => (intro w' hSw; (try dsimp only at hSw); go_simp; all_goals (with_reducible rfl))
      try simp only [Act.put, List.setIfInBounds_toArray, List.set_cons_zero, List.set_cons_succ]
      refine wpAnyH_take (i := 10) (oi := { dst := some 55, op := _, type := _, pos := _, after := _, guard := _ }) (v := undef) rfl (by kernel_rfl) (by kernel_rfl) (by kernel_rfl) (fun _ _ _ h => h) (Or.inr ⟨by kernel_rfl, rfl⟩) hHeld ?_
      try simp only [Act.put, List.setIfInBounds_toArray, List.set_cons_zero, List.set_cons_succ]
      refine wpAnyH_take (i := 11) (oi := { dst := some 56, op := _, type := _, pos := _, after := _, guard := _ }) (v := undef) rfl (by kernel_rfl) (by kernel_rfl) (by kernel_rfl) (fun _ _ _ h => h) (Or.inr ⟨by kernel_rfl, rfl⟩) hHeld ?_
      try simp only [Act.put, List.setIfInBounds_toArray, List.set_cons_zero, List.set_cons_succ]
      refine wpAnyH_take (i := 12) (oi := { dst := some 57, op := _, type := _, pos := _, after := _, guard := _ }) (v := ?v30) rfl (by kernel_rfl) (by kernel_rfl) (by kernel_rfl) (fun _ _ _ h => h) (Or.inl ⟨by kernel_rfl, ?hy30⟩) hHeld ?rest30
      case hy30 => (intro w' hSw; (try dsimp only at hSw); go_simp; all_goals (with_reducible rfl))
      try simp only [Act.put, List.setIfInBounds_toArray, List.set_cons_zero, List.set_cons_succ]
      refine wpAnyH_ready (rs := [13]) (by kernel_rfl) (by simp) ?_
      refine AllReadyH.cons rfl (fun K hK => ?_) AllReadyH.nil
      rw [if_pos (by kernel_rfl)]
      go_wp2
      obtain ⟨W, hW⟩ : ∃ W, W = ((wc.setCell ⟨w.heap.size, 0, none⟩ (.string k)).setCell ⟨w.heap.size, 1, none⟩ (.int .i64 id)).setCell ⟨w.heap.size, 2, none⟩ (.slice av l.length cv) := ⟨_, rfl⟩
      rw [← hW]
      obtain ⟨r1, -, r3, r4, r5⟩ := HF.out.res.2 W hW
      have t0 : W.cell? ⟨w.heap.size + 1, 0, none⟩ = some (.string k) := by rw [cell_of r4]; rfl
      have t1 : W.cell? ⟨w.heap.size + 1, 1, none⟩ = some (.int .i64 id) := by rw [cell_of r4]; rfl
      have t2 : W.cell? ⟨w.heap.size + 1, 2, none⟩ = some (.slice av l.length cv) := by rw [cell_of r4]; rfl
      have z0 : W.cell? ⟨w.heap.size, 0, none⟩ = some (.string k) := by rw [cell_of r3]; rfl
      have z1 : W.cell? ⟨w.heap.size, 1, none⟩ = some (.int .i64 id) := by rw [cell_of r3]; rfl
      have z2 : W.cell? ⟨w.heap.size, 2, none⟩ = some (.slice av l.length cv) := by rw [cell_of r3]; rfl
      have HR1 : Hid _ := r1
      obtain ⟨av', cv', e', hcap, hin⟩ := owned_numsF r5
      cases e'
      have HCP : Hid (l.length ≤ cv) := hcap.2
      have HIW : Hid (IntsF (w.heap.size + 2) W av l) := hin
      clear hW r1 r3 r4 r5 hin hcap hHeld d0 d1 d2 d3 d4 d5 f0 f1 f2
      refine hK.out _ _ ⟨t0, t1, t2⟩ (fun hHeld => ?_)
      clear hK K
      try simp only [Act.put, List.setIfInBounds_toArray, List.set_cons_zero, List.set_cons_succ]
      refine wpAnyH_take (i := 14) (oi := { dst := some 3, op := .assign (.tmp 57), type := 4, pos := _, after := _, guard := none }) (v := ?v31) rfl (by kernel_rfl) (by kernel_rfl) (by kernel_rfl) (fun _ _ _ h => h) (Or.inl ⟨by kernel_rfl, ?hy31⟩) hHeld ?rest31
      case hy31 => (intro w' hSw; (try dsimp only at hSw); go_simp; all_goals (with_reducible rfl))
      try simp only [Act.put, List.setIfInBounds_toArray, List.set_cons_zero, List.set_cons_succ]
      refine wpAnyH_done (by kernel_rfl) ?_ _
      go_wp2
      rw [Exit.noGoto_ret]
      refine bodyPost_ret (v := .tuple #[.agg #[.string k, .int .i64 id, .slice av l.length cv], .bool false]) ?_ rfl ?_
      · rw [results_cell_tmp Tryz.results76]
        simp [go_sem, z0, z1, z2]
      · exact ⟨k, id, l, _, _, false, rfl, HIW.out, ⟨by omega, HCP.out⟩, HFR.out, HR1.out.drew⟩
end Go.Proofs.YtdbmnjodkpeobaaGreatDoor
