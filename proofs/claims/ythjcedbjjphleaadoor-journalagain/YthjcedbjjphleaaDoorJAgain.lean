/-
  JournalAgain: behind a crash, and another one, there is just what was sure ahead of the first; what is added behind it goes on.
-/
import Derived.Test.YthjcedbjjphleaaDoorJrnI
import Derived.Test.YthjcedbjjphleaaDoorJRoom
namespace Go.Proofs.YthjcedbjjphleaaDoor
open Go.ChangeShapes Go.WideShapes Go.ChangeAt Go.RowKit

theorem add_let {w : World} (hg : Gl w) (c : UInt8) (h0 : 97 ≤ c.toNat) (h1 : c.toNat ≤ 122) {u : World} {p : Nat} {v : Value} {L : List ByteArray} {s : Nat} (hj : Jr w.heap.size u p v 4096 L s false) (hL : L.length < 4096) (hb : Below w.heap.size w u) (id : Int) (i0 : 0 ≤ id) (i1 : id ≤ 999) :
    Calls Tryd.prog 9 #[.pointer (some ⟨p, 0, none⟩), .agg #[.string ⟨#[c]⟩, .int .i64 id, .slice none 0 0]] u fun e w' =>
      ∃ v', e = .returned (.int .i64 0) ∧ Jr w.heap.size w' p v' 4096 (L ++ [lineV ⟨#[c]⟩ id []]) s false ∧ Below w.heap.size w w' := by
  have hmy := may_of h0 h1 i0 i1
  have h := add_any hj ⟨#[c]⟩ id none [] 0 (by show 1 ≤ maxLen; unfold maxLen; omega) (.inl rfl) (by simp) (hg.on hb)
  have e0 : addE 4096 L false ⟨#[c]⟩ id [] = 0 := by unfold addE; rw [if_neg (by decide), if_pos hmy, if_neg (by omega)]
  have e1 : addL 4096 L false ⟨#[c]⟩ id [] = L ++ [lineV ⟨#[c]⟩ id []] := by unfold addL; rw [if_pos e0]
  rw [e0, e1] at h
  exact h.mono fun _ _ ⟨v', h1, h2, h3⟩ => ⟨v', h1, h2, hb.trans (hj.bel h3)⟩
theorem all_snoc {L : List ByteArray} (h : ∀ x ∈ L, Ok x) {X : ByteArray} (hX : Ok X) : ∀ x ∈ L ++ [X], Ok x := fun x hx => by
  rcases List.mem_append.1 hx with hx | hx
  · exact h x hx
  · simp at hx; subst hx; exact hX
theorem crash00 {L : List ByteArray} {k : Nat} : crashL L k 0 0 = L.take k := by
  have e : keptN L k 0 = k := by unfold keptN; simp
  unfold crashL
  rw [e]
  by_cases h : k = L.length
  · rw [if_pos h, List.take_of_length_le (by omega)]
  · rw [if_neg h, if_pos (by unfold tearN; omega), List.append_nil]

theorem evCells_at : ∀ (xs : List Ev) (i : Nat) (x : Ev), xs[i]? = some x → (evCells xs)[i * 3]? = some (.string x.k) ∧ (evCells xs)[i * 3 + 1]? = some (.int .i64 x.id) ∧ (evCells xs)[i * 3 + 2]? = some (.slice x.av x.l.length x.cv)
  | [], i, x, h => by simp at h
  | y :: r, 0, x, h => by
    simp at h
    subst h
    simp [evCells]
  | y :: r, i + 1, x, h => by
    have ih := evCells_at r i x (by simpa using h)
    have e : evCells (y :: r) = [.string y.k, .int .i64 y.id, .slice y.av y.l.length y.cv] ++ evCells r := by simp [evCells]
    rw [e, show (i + 1) * 3 = i * 3 + 3 by omega]
    refine ⟨?_, ?_, ?_⟩
    · rw [List.getElem?_append_right (by simp)]; simpa using ih.1
    · rw [List.getElem?_append_right (by simp)]; simpa using ih.2.1
    · rw [List.getElem?_append_right (by simp)]; simpa using ih.2.2
theorem ev_cell {W : World} {base : Nat} {a : Option Addr} {c : Nat} {xs : List Ev} (h : W.ownsRow base 24 3 (.slice a xs.length c) xs.length (evCells xs)) {i : Nat} {x : Ev} (hx : xs[i]? = some x) :
    ∃ g, a = some ⟨g, 0, none⟩ ∧ W.cell? ⟨g, i * 3, none⟩ = some (.string x.k) := by
  have hi : i < xs.length := (List.getElem?_eq_some_iff.1 hx).1
  have hc := fun g hg => h.cells (g := g) hg
  rcases h.2 with ⟨_, h0⟩ | ⟨g, cap, cur, e, _⟩
  · omega
  · cases e
    refine ⟨g, rfl, ?_⟩
    have := hc g rfl (i * 3) _ (evCells_at xs i x hx).1
    rw [st_add, Nat.zero_add] at this
    exact this

set_option maxRecDepth 100000 in
set_option maxHeartbeats 4000000 in
theorem journalAgain_walk (a0 : Int) (a1 : Int) (w : World) (_w0 : (Lit.int .i64 a0).wf = true) (_w1 : (Lit.int .i64 a1).wf = true) (hg : Gl w) :
    Calls Tryd.prog 6 #[.int .i64 a0, .int .i64 a1] w fun e w' => e = .returned (.bool true) ∧ Below w.heap.size w w' := by
  obtain ⟨b0, b1⟩ := um_bd a0 30 (by omega) (by omega)
  obtain ⟨k, hk⟩ : ∃ k : Nat, um a0 30 = k := ⟨(um a0 30).toNat, by omega⟩
  have hk' : wrap64 ((IntKind.u64.wrap a0).tmod 30) = (k : Int) := hk
  have hk40 : k < 30 := by omega
  obtain ⟨b2, b3⟩ := um_bd a1 30 (by omega) (by omega)
  obtain ⟨m, hm⟩ : ∃ m : Nat, um a1 30 = m := ⟨(um a1 30).toNat, by omega⟩
  have hm' : wrap64 ((IntKind.u64.wrap a1).tmod 30) = (m : Int) := hm
  have hm10 : m < 30 := by omega
  clear b0 b1 b2 b3 hk hm _w0 _w1
  have HG : Hid (Gl w) := hg
  clear hg
  have HN := new_any 4096 w
  rw [show roomV 4096 = 4096 from rfl] at HN
  have HJ0 := hide (Jr.new w w.heap.size (Nat.le_refl _) 4096 (by omega) (by omega))
  go_enter Tryd.func6, Tryd.ntmps6
  go_wp2_with fail
  refine HN.mono ?_
  rintro e u1 ⟨rfl, rfl⟩
  go_wp2_with fail
  go_loopw [19] (fun i wr => ∃ (n : Nat) (v : Value) (L : List ByteArray), i = .int .i64 n ∧ n ≤ k ∧ L.length = n ∧ Hid (∀ x ∈ L, Ok x) ∧ Hid (Jr w.heap.size wr w.heap.size v 4096 L 0 false) ∧ Hid (Below w.heap.size w wr)) (fun i _ => k - (intOf i).toNat)
  case atStart => exact ⟨0, .slice none 0 0, [], rfl, by omega, by simp, (fun x hx => by cases hx), HJ0, (Below.refl _ _).alloc (Nat.le_refl _) _⟩
  case round =>
    obtain ⟨n, v, L, rfl, hn, hL, HK, HJ, HB⟩ := hrel
    by_cases hlt : n < k
    · have ql : (n : Int) < (k : Int) := by omega
      have A := add_let HG.out 97 (by decide) (by decide) HJ.out (by omega) HB.out (n : Int) (by omega) (by omega)
      have HX : Hid (Ok (lineV ⟨#[97]⟩ (n : Int) [])) := ok_line (may_of (by decide) (by decide) (by omega) (by omega))
      generalize lineV ⟨#[97]⟩ (n : Int) [] = X at A HX
      go_wp2_with fail
      refine A.mono ?_
      rintro e u2 ⟨v2, rfl, hj2, hb2⟩
      have HB2 := hide hb2
      have HJ2 := hide hj2
      clear hj2 hb2 A
      go_wp2
      go_roundw
      case rel => exact ⟨n + 1, v2, L ++ [X], by go_num, by omega, by simp; omega, all_snoc HK.out HX.out, HJ2, HB2⟩
      case measure => simp [intOf]; omega
    · have ql : ¬ (n : Int) < (k : Int) := by omega
      have en : n = k := by omega
      subst en
      go_wp2_with fail
      refine (sync_up HJ.out).mono ?_
      rintro e u3 ⟨rfl, hj3, ho3⟩
      have HJ3 : Hid (Jr w.heap.size u3 w.heap.size v 4096 L n false) := by show Jr _ _ _ _ _ _ _ _; rw [← hL]; rw [hL]; rw [hL] at hj3; exact hj3
      have HB3 := hide (HB.out.trans (HJ.out.bel ho3))
      clear hj3 ho3 ql
      go_wp2_with fail
      go_loopw [30] (fun i wr => ∃ (t : Nat) (v : Value) (L : List ByteArray), i = .int .i64 t ∧ t ≤ m ∧ L.length = n + t ∧ Hid (∀ x ∈ L, Ok x) ∧ Hid (Jr w.heap.size wr w.heap.size v 4096 L n false) ∧ Hid (Below w.heap.size w wr)) (fun i _ => m - (intOf i).toNat)
      case atStart => exact ⟨0, v, L, rfl, by omega, by omega, HK, HJ3, HB3⟩
      case round =>
        clear HJ3 HB3 HK HJ HB hL hlt
        obtain ⟨t, v, L, rfl, ht, hL, HK, HJ, HB⟩ := hrel
        by_cases hlt : t < m
        · have ql : (t : Int) < (m : Int) := by omega
          have A := add_let HG.out 98 (by decide) (by decide) HJ.out (by omega) HB.out (t : Int) (by omega) (by omega)
          have HX : Hid (Ok (lineV ⟨#[98]⟩ (t : Int) [])) := ok_line (may_of (by decide) (by decide) (by omega) (by omega))
          generalize lineV ⟨#[98]⟩ (t : Int) [] = X at A HX
          go_wp2_with fail
          refine A.mono ?_
          rintro e u4 ⟨v4, rfl, hj4, hb4⟩
          have HB4 := hide hb4
          have HJ4 := hide hj4
          clear hj4 hb4 A
          go_wp2
          go_roundw
          case rel => exact ⟨t + 1, v4, L ++ [X], by go_num, by omega, by simp; omega, all_snoc HK.out HX.out, HJ4, HB4⟩
          case measure => simp [intOf]; omega
        · have ql : ¬ (t : Int) < (m : Int) := by omega
          go_wp2_with fail
          go_loopw [38] (fun i wr => ∃ (r : Nat) (v : Value) (L : List ByteArray), i = .int .i64 r ∧ r ≤ 2 ∧ n ≤ L.length ∧ L.length ≤ 100 ∧ (1 ≤ r → L.length = n) ∧ Hid (∀ x ∈ L, Ok x) ∧ Hid (Jr w.heap.size wr w.heap.size v 4096 L n false) ∧ Hid (Below w.heap.size w wr)) (fun i _ => 2 - (intOf i).toNat)
          case atStart => exact ⟨0, v, L, rfl, by omega, by omega, by omega, by omega, HK, HJ, HB⟩
          case round =>
            clear HK HJ HB hL hlt ql ht
            obtain ⟨r, v, L, rfl, hr, hL0, hL1, hL2, HK, HJ, HB⟩ := hrel
            by_cases hlt : r < 2
            · have ql : (r : Int) < 2 := by omega
              go_wp2_with fail
              refine (crash_up HJ.out hL0 0 0).mono ?_
              rintro e u5 ⟨⟨x5, rfl⟩, v5, hj5, ho5⟩
              rw [crash00] at hj5
              have hTl : (L.take n).length = n := by simp; omega
              have HKT : Hid (∀ x ∈ L.take n, Ok x) := fun x hx => HK.out x (List.mem_of_mem_take hx)
              have hTt : (L.take n).take n = L.take n := by rw [List.take_take, Nat.min_self]
              generalize L.take n = T at hj5 hTl HKT hTt
              have HJ5 := hide hj5
              have HB5 := hide (HB.out.trans (HJ.out.bel ho5))
              have R5 := recover_down HG.out HB5.out hj5
              rw [whole_all T HKT.out, hTl, hTt] at R5
              clear hj5 ho5 hTt
              go_wp2_with fail
              refine R5.mono ?_
              rintro e u6 ⟨rfl, v6, hj6, ho6⟩
              have HJ6 := hide hj6
              have HB6 := hide (HB5.out.trans (HJ5.out.bel ho6))
              clear hj6 ho6 R5
              go_wp2_with fail
              refine (sure_any HJ6.out).mono ?_
              rintro e u7 ⟨rfl, hb7⟩
              have HJ7 := hide (HJ6.out.on hb7)
              have HB7 := hide (bel_on' HB6.out hb7)
              clear hb7
              go_wp2
              go_roundw
              case rel => exact ⟨r + 1, v6, T, by go_num, by omega, by omega, by omega, fun _ => hTl, HKT, HJ7, HB7⟩
              case measure => simp [intOf]; omega
            · have ql : ¬ (r : Int) < 2 := by omega
              have hLn : L.length = n := hL2 (by omega)
              have A := add_let HG.out 99 (by decide) (by decide) HJ.out (by omega) HB.out 7 (by omega) (by omega)
              have hmc : mayB ⟨#[99]⟩ 7 [] = true := may_of (by decide) (by decide) (by omega) (by omega)
              obtain ⟨X, hX⟩ : ∃ X, lineV ⟨#[99]⟩ 7 [] = X := ⟨_, rfl⟩
              have HPX : Hid (ParseR X ⟨#[99]⟩ 7 [] 0) := by
                show ParseR X ⟨#[99]⟩ 7 [] 0
                rw [← hX]; unfold lineV; rw [if_pos hmc]; exact parse_line hmc
              rw [hX] at A
              clear hX hmc
              go_wp2_with fail
              refine A.mono ?_
              rintro e u8 ⟨v8, rfl, hj8, hb8⟩
              have HB8 := hide hb8
              have HJ8 := hide hj8
              have T8 := told_any HG.out HB8.out hj8 100
              rw [whole_all (L ++ [X]) (all_snoc HK.out ⟨_, _, _, HPX.out⟩), List.length_append, hLn, show min 100 (n + [X].length) = n + 1 by simp; omega] at T8
              have HLX : Hid ((L ++ [X]).getD n ByteArray.empty = X) := by show _ = _; rw [← hLn]; simp [List.getD]
              clear hj8 hb8 A
              go_wp2_with fail
              refine T8.mono ?_
              rintro e u9 ⟨xs, a9, c9, rfl, hxl, hrd, hrow, -, hb9⟩
              obtain ⟨x, hx⟩ : ∃ x, xs[n]? = some x := ⟨xs[n]'(by omega), by simp [hxl]⟩
              obtain ⟨hxk, -, -, -⟩ := ParseR.uniq (hrd n x hx) (by rw [HLX.out]; exact HPX.out)
              obtain ⟨g, hga, hcell⟩ := ev_cell hrow hx
              subst hga
              rw [hxk] at hcell
              rw [hxl]
              have HB9 := hide (bel_on' HB8.out hb9)
              clear hrow hrd hx hxk hb9 T8
              have q1 : (n : Int) < ((n + 1 : Nat) : Int) := by omega
              have q2 : (((n + 1 : Nat) : Int) == (n : Int) + 1) = true := by simp
              go_wp2_with fail
              refine (jawake_any _ (HG.out.on HB9.out)).mono ?_
              rintro e u10 ⟨rfl, hb10⟩
              go_wp2
              go_ret
              exact ⟨rfl, bel_on' HB9.out hb10⟩
end Go.Proofs.YthjcedbjjphleaaDoor
