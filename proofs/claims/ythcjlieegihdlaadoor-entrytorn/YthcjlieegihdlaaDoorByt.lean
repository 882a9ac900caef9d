/-
  Rows of bytes: read as a list; copied onto a row that the call owns; turned into a string.
-/
import Derived.Test.YthcjlieegihdlaaDoorChk
import Derived.Deep.OwnRows
import Derived.Laws.AppendOwnNone
import Derived.Maps.AppendAt
import Derived.Laws.OwnMore
namespace Go.Proofs.YthcjlieegihdlaaDoor
open Go.ChangeShapes Go.WideShapes Go.ChangeAt Go.RowKit

/-- The slice at a reads as the bytes l. -/
def Bys (w : World) (a : Option Addr) (l : List UInt8) : Prop :=
  l = [] ∨ ∃ b off, a = some ⟨b, off, none⟩ ∧ ∀ i, i < l.length → w.cell? ⟨b, off + i, none⟩ = some (.int .u8 ((l.getD i 0).toNat : Int))

theorem Bys.below {w w' : World} {a : Option Addr} {l : List UInt8} (h : Bys w a l) (hb : Below w.heap.size w w') : Bys w' a l := by
  rcases h with h | ⟨b, off, ha, hc⟩
  · exact .inl h
  · refine .inr ⟨b, off, ha, fun i hi => ?_⟩
    have := hc i hi
    rw [hb.cell (p := ⟨b, off + i, none⟩) (World.block_lt_of_cell? _ _ this)]
    exact this

theorem byt_add (g o i : Nat) : (⟨g, o, none⟩ : Addr).add i = ⟨g, o + i, none⟩ := by cases i <;> simp [Addr.add]

/-- string(b), b not empty. -/
theorem Bys.conv {w : World} {a : Addr} {l : List UInt8} (cap : Nat) (h : Bys w (some a) l) :
    (convert 37 9 (.slice (some a) l.length cap)).run Tryd.prog w = .ok (.string ⟨l.toArray⟩) w := by
  refine run_convert_bytes_back (P := Tryd.prog) w 37 9 5 a cap l Tryd.underlying37 Tryd.underlying5 Tryd.underlying9 ?_
  intro j hj
  rcases h with rfl | ⟨b, off, hab, hc⟩
  · simp at hj
  · cases hab
    rw [byt_add, hc j hj]
    simp [List.getD, hj]

def cellU (b : UInt8) : Value := .int .u8 (b.toNat : Int)

theorem Tryd.infoByte : (Tryd.prog.info? 5).map (fun i => (i.zero, i.size, i.bytes)) = some (some (.int .u8 0), 1, 1) := by kernel_rfl

theorem ownedU {w : World} {base : Nat} {v : Value} {n : Nat} {l : List UInt8} (h : w.ownsRow base 5 1 v n (l.map cellU)) (h0 : 0 < n) : ∃ g c, v = .slice (some ⟨g, 0, none⟩) n c ∧ base ≤ g ∧ l.length = n ∧ Bys w (some ⟨g, 0, none⟩) l := by
  have hc := fun g hg => h.cells (g := g) hg
  obtain ⟨hlen, h⟩ := id h
  rw [List.length_map, Nat.mul_one] at hlen
  rcases h with ⟨rfl, he⟩ | ⟨g, cap, cur, rfl, hg, _⟩
  · omega
  · refine ⟨g, cap, rfl, hg, hlen, .inr ⟨g, 0, rfl, fun i hi => ?_⟩⟩
    have := hc g rfl i (cellU (l.getD i 0)) (by simp [List.getD, hi])
    rw [← byt_add]
    exact this

theorem ownedU_empty (w : World) : (w.alloc (.cells #[] 5)).ownsRow w.heap.size 5 1 (.slice (some ⟨w.heap.size, 0, none⟩) 0 0) 0 (([] : List UInt8).map cellU) :=
  ⟨rfl, .inr ⟨w.heap.size, 0, #[], rfl, Nat.le_refl _, by show (w.heap.push _)[w.heap.size]? = _; simp, Nat.le_refl _, Nat.zero_le _, rfl, rfl⟩⟩

theorem append_bytes {w : World} {ops : Array Oper} {rest : List Oper} {o : Oper} {a : Act} {Q : Exit → Act → World → Prop} (hgd : o.guard = none) (s x : Operand)
    (ho : o.op = .call { callee := .builtin .append, args := #[s, x], argTypes := #[37, 37] })
    (base : Nat) (v : Value) (n : Nat) (L : List UInt8) (hs : a.eval s = v) (hown : w.ownsRow base 5 1 v n (L.map cellU))
    (ad : Addr) (m c : Nat) (l : List UInt8) (hm : l.length = m) (hx : a.eval x = .slice (some ad) m c) (hl : Bys w (some ad) l) (hb : n + m ≤ 17592186044416) (hbase : base ≤ w.heap.size)
    (h : ∀ v' w', w'.ownsRow base 5 1 v' (n + m) ((L ++ l).map cellU) → w.grownBy w' v.ownBlock → wpList Tryd.prog ops Q rest (a.put o.dst v') w') : wpList Tryd.prog ops Q (o :: rest) a w := by
  obtain ⟨i0, hi, hz0, hz1, hz2⟩ := info_parts Tryd.infoByte
  refine wpList_append_own _ hgd s x 37 ho base 5 i0 (.int .u8 0) 1 1 Tryd.underlying37 hi hz0 hz1 hz2 rfl (by decide) v n _ hs hown ad m c (l.map cellU) hx (by simp [hm]) ?_ ?_ (by unfold maxLen; omega) (by omega) hbase ?_
  · intro j u hu
    rw [List.getElem?_map] at hu
    rcases hl with rfl | ⟨b, off, hab, hc⟩
    · simp at hu
    · cases hab
      have hj : j < l.length := by
        rcases Nat.lt_or_ge j l.length with h | h
        · exact h
        · rw [List.getElem?_eq_none h] at hu; simp at hu
      rw [byt_add, hc j hj]
      simp [hj] at hu
      simp [List.getD, hj, ← hu, cellU]
  · intro u hu
    obtain ⟨z, _, rfl⟩ := List.mem_map.1 hu
    rfl
  · intro v' w' h1 h2 _
    rw [← List.map_append] at h1
    exact h v' w' h1 h2

/-- append([]byte{}, x...), x not empty: a new row. -/
theorem append_fresh {w : World} {ops : Array Oper} {rest : List Oper} {o : Oper} {a : Act} {Q : Exit → Act → World → Prop} (hgd : o.guard = none) (s x : Operand)
    (ho : o.op = .call { callee := .builtin .append, args := #[s, x], argTypes := #[37, 37] })
    (hs : a.eval s = .slice (some ⟨w.heap.size, 0, none⟩) 0 0)
    (ad : Addr) (m c : Nat) (l : List UInt8) (hm : l.length = m) (hx : a.eval x = .slice (some ad) m c) (hl : Bys w (some ad) l) (hb : m ≤ 17592186044416) (h0 : 0 < m)
    (h : ∀ g c' w', w.heap.size ≤ g → g < w'.heap.size → w'.ownsRow w.heap.size 5 1 (.slice (some ⟨g, 0, none⟩) m c') m (l.map cellU) → Below w.heap.size w w' → (w.alloc (.cells #[] 5)).grownBy w' (some w.heap.size) →
      wpList Tryd.prog ops Q rest (a.put o.dst (.slice (some ⟨g, 0, none⟩) m c')) w') : wpList Tryd.prog ops Q (o :: rest) a (w.alloc (.cells #[] 5)) := by
  refine append_bytes hgd s x ho w.heap.size _ 0 [] hs (ownedU_empty w) ad m c l hm hx (hl.below ((Below.refl _ _).alloc (Nat.le_refl _) _)) (by omega) (by simp) ?_
  intro v' w' o1 g1
  simp only [Nat.zero_add, List.nil_append] at o1
  obtain ⟨g, c', rfl, hg, _, _⟩ := ownedU o1 h0
  exact h g c' w' hg (o1.lt g rfl).2 o1 (((Below.refl w.heap.size w).alloc (Nat.le_refl _) _).grown g1 (by simp) (fun k hk => by cases hk; exact Nat.le_refl _)) g1

/-- A row that the call owns is as it was behind another append([]byte{}, ..). -/
theorem owned_stays {w w' : World} {base g n c : Nat} {xs : List Value} (o1 : w.ownsRow base 5 1 (.slice (some ⟨g, 0, none⟩) n c) n xs) (g2 : (w.alloc (.cells #[] 5)).grownBy w' (some w.heap.size)) : w'.ownsRow base 5 1 (.slice (some ⟨g, 0, none⟩) n c) n xs :=
  (o1.alloc _).kept g2 (.inr fun e => by
    have h1 : g = w.heap.size := Option.some.inj e
    have h2 := (o1.lt g rfl).2
    omega)
end Go.Proofs.YthcjlieegihdlaaDoor
