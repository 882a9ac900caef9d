/-
  Own texts put together: JrnE, JrnF, JrnG, RGp, RGl.
-/
import Derived.Test.YtihddekjicpihaaDoorSglihalf
import Derived.RangeFuncNested
import Derived.RangeFuncBound
import Derived.RangeFuncCalls
import Derived.RangeFuncLeaves
import Derived.RangeFuncBox
import Derived.Shelf.Abstract
import Derived.Shelf.AbstractIn
import Derived.Shelf.RegionOpen
import Derived.OwnWalkIn
import Derived.TacticsInMore
import Derived.LoopNIn
import Derived.LoopIn
/-
  Contracts: journal.entries, its iterator.
-/
namespace Go.Proofs.YtihddekjicpihaaDoor
open Go.ChangeShapes Go.WideShapes Go.ChangeAt Go.RowKit Go.Shelf

attribute [local go_sem] Oper.semAt_some

/-- A text that is some entry's line. -/
def Ok (s : ByteArray) : Prop := ∃ k id l, ParseR s k id l 0
/-- So many lines, from the first one on, are entries. -/
def wholeD (d : ∀ s, Decidable (Ok s)) : List ByteArray → Nat
  | [] => 0
  | s :: r => @ite Nat (Ok s) (d s) (wholeD d r + 1) 0

theorem whole_le : ∀ L : List ByteArray, (wholeD fun s => Classical.propDecidable (Ok s)) L ≤ L.length
  | [] => Nat.le_refl _
  | s :: r => by
    unfold wholeD
    have := whole_le r
    split <;> simp <;> omega
theorem whole_ge : ∀ (L : List ByteArray) (n : Nat), n ≤ L.length → (∀ i, i < n → Ok (L.getD i ByteArray.empty)) → n ≤ (wholeD fun s => Classical.propDecidable (Ok s)) L
  | [], n, h, _ => by simp at h; omega
  | s :: r, 0, _, _ => Nat.zero_le _
  | s :: r, n + 1, h, ho => by
    have h0 := ho 0 (by omega)
    simp at h0
    unfold wholeD
    rw [if_pos h0]
    have := whole_ge r n (by simpa using h) (fun i hi => by have := ho (i + 1) (by omega); simpa using this)
    omega
theorem whole_stop : ∀ (L : List ByteArray) (n : Nat), n < L.length → ¬ Ok (L.getD n ByteArray.empty) → (wholeD fun s => Classical.propDecidable (Ok s)) L ≤ n
  | [], n, h, _ => by simp at h
  | s :: r, 0, _, hn => by
    simp at hn
    unfold wholeD
    rw [if_neg hn]
    omega
  | s :: r, n + 1, h, hn => by
    unfold wholeD
    have := whole_stop r n (by simpa using h) (by simpa using hn)
    split <;> omega

/-- An entry as a value: what it says, and where its numbers lie. -/
structure Ev where
  k : ByteArray
  id : Int
  l : List Int
  av : Option Addr
  cv : Nat
def Ev.enc (x : Ev) : Value := .agg #[.string x.k, .int .i64 x.id, .slice x.av x.l.length x.cv]
def Good (B : Nat) (x : Ev) (W : World) : Prop := IntsF B W x.av x.l ∧ x.l.length ≤ 1000 ∧ x.l.length ≤ x.cv
/-- The entries xs stand in the lines L, from the first one on. -/
def Rd (xs : List Ev) (L : List ByteArray) : Prop := ∀ i x, xs[i]? = some x → ParseR (L.getD i ByteArray.empty) x.k x.id x.l 0
theorem Rd.nil (L : List ByteArray) : Rd [] L := fun i x h => by simp at h
theorem Rd.snoc {xs : List Ev} {L : List ByteArray} (h : Rd xs L) {x : Ev} (hx : ParseR (L.getD xs.length ByteArray.empty) x.k x.id x.l 0) : Rd (xs ++ [x]) L := by
  intro i y hy
  by_cases hi : i < xs.length
  · rw [List.getElem?_append_left hi] at hy
    exact h i y hy
  · rw [List.getElem?_append_right (by omega)] at hy
    have : i - xs.length = 0 := by
      by_cases h0 : i - xs.length = 0
      · exact h0
      · rw [List.getElem?_eq_none (by simp; omega)] at hy; cases hy
    rw [this] at hy
    simp at hy
    subst hy
    rw [show i = xs.length by omega]
    exact hx
theorem Rd.ok {xs : List Ev} {L : List ByteArray} (h : Rd xs L) : ∀ i, i < xs.length → Ok (L.getD i ByteArray.empty) := fun i hi => ⟨_, _, _, h i xs[i] (by simp [hi])⟩

/-- The lines lie in a block between n₀ and n₁. -/
def LinesAt (n₀ n₁ : Nat) (W : World) (a : Option Addr) (L : List ByteArray) : Prop :=
  L = [] ∨ ∃ b off, a = some ⟨b, off, none⟩ ∧ (n₀ ≤ b ∧ b < n₁) ∧ ∀ i, i < L.length → W.cell? ⟨b, off + i, none⟩ = some (.string (L.getD i ByteArray.empty))
/-- What a round must keep: what lay below B, and what lies between n₀ and n₁. -/
def Keep (B n₀ n₁ : Nat) (W W' : World) : Prop := Below B W W' ∧ ∀ k, n₀ ≤ k → k < n₁ → W'.heap[k]? = W.heap[k]?
theorem Keep.refl (B n₀ n₁ : Nat) (W : World) : Keep B n₀ n₁ W W := ⟨Below.refl _ _, fun _ _ _ => rfl⟩
theorem Keep.trans {B n₀ n₁ : Nat} {X Y Z : World} (h : Keep B n₀ n₁ X Y) (k : Keep B n₀ n₁ Y Z) : Keep B n₀ n₁ X Z := ⟨h.1.trans k.1, fun i h0 h1 => (k.2 i h0 h1).trans (h.2 i h0 h1)⟩
theorem Keep.of_below {B n₀ n₁ : Nat} {W W' : World} (h : Below W.heap.size W W') (hB : B ≤ W.heap.size) (h1 : n₁ ≤ W.heap.size) : Keep B n₀ n₁ W W' := ⟨h.mono hB, fun k _ hk => h.block k (by omega)⟩
theorem LinesAt.keep {B n₀ n₁ : Nat} {W W' : World} {a : Option Addr} {L : List ByteArray} (h : LinesAt n₀ n₁ W a L) (hk : Keep B n₀ n₁ W W') : LinesAt n₀ n₁ W' a L := by
  rcases h with h | ⟨b, off, ha, hb, hc⟩
  · exact .inl h
  · refine .inr ⟨b, off, ha, hb, fun i hi => ?_⟩
    rw [World.cell?_of_block (hk.2 b hb.1 hb.2)]
    exact hc i hi

theorem ok_parse {s k : ByteArray} {id : Int} {l : List Int} {er : Int} (h : ParseR s k id l er) (he : er ≠ 0) : ¬ Ok s := by
  rintro ⟨k', id', l', h'⟩
  obtain ⟨_, _, _, e⟩ := h.uniq h'
  exact he e

end Go.Proofs.YtihddekjicpihaaDoor
/-
  Contracts: journal.entries, All: what it hands back goes over the entries.
-/
namespace Go.Proofs.YtihddekjicpihaaDoor
open Go.ChangeShapes Go.WideShapes Go.ChangeAt Go.RowKit Go.Shelf

attribute [local go_sem] Oper.semAt_some

theorem linesAt_of {w w1 : World} {a : Option Addr} {c : Nat} {L : List ByteArray} (h : w1.ownsRow w.heap.size 9 1 (.slice a L.length c) L.length (L.map Value.string)) : LinesAt w.heap.size w1.heap.size w1 a L := by
  obtain ⟨a', c', e, h1, h2, h3⟩ := owned_strs h
  cases e
  rcases h3 with h3 | ⟨b, off, rfl, hc⟩
  · exact .inl h3
  · have := h.lt b (by simp [Value.ownBlock])
    exact .inr ⟨b, off, rfl, this, hc⟩

theorem abides {J : List Ev → World → Prop} {X : Nat} (h : AbidesFrom X J) : ∀ s W W', J s W → Below W.heap.size W W' → J s W' :=
  fun s W W' hs hb => h s W W' none hs ⟨hb.os, hb.tape, hb.output, hb.size, fun k hk _ => hb.block k hk⟩ (fun r e => by cases e)

end Go.Proofs.YtihddekjicpihaaDoor
/-
  Contract: journal.Recover.
-/
namespace Go.Proofs.YtihddekjicpihaaDoor
open Go.ChangeShapes Go.WideShapes Go.ChangeAt Go.RowKit Go.Shelf

attribute [local go_sem] Oper.semAt_some

theorem Jr.putObj {B : Nat} {w : World} {p : Nat} {v : Value} {room : Int} {L : List ByteArray} {sure : Nat} {down : Bool} (h : Jr B w p v room L sure down) {D : Nat} {o : Obj} (ho : w.heap[D]? = some o) (hc : o.isCells = false) (o' : Obj) : Jr B (w.putObj D o') p v room L sure down := by
  obtain ⟨h1, h2, h3, h4⟩ := h
  refine ⟨?_, h2, ownsRow_putObj h3 _ ho hc, h4⟩
  rw [World.putObj_heap_other (fun e => by subst e; rw [h1] at ho; cases ho; cases hc)]
  exact h1
theorem Off.putObj {p : Nat} {v v' : Value} {w W : World} (h : Off p v v' w W) {D : Nat} (hD : w.heap.size ≤ D) (o' : Obj) : Off p v v' w (W.putObj D o') :=
  ⟨⟨h.1.1, h.1.2.1, h.1.2.2.1, by simpa using h.size⟩, fun k hk hp hv => ⟨(World.putObj_heap_other (by omega)).trans (h.2 k hk hp hv).1, (h.2 k hk hp hv).2⟩⟩
theorem keep_putObj {B n₀ n₁ X : Nat} {W : World} {l : Nat} {o o' : Obj} (hB : B ≤ X) (hX : X ≤ n₁) (hl : n₁ ≤ l) (_ho : W.heap[l]? = some o) (_hc : o.isCells = false) (_hw : o.isWalk = false) : Keep B n₀ n₁ W (W.putObj l o') :=
  ⟨⟨rfl, rfl, rfl, by simp, fun k hk => World.putObj_heap_other (by omega)⟩, fun k _ hk => World.putObj_heap_other (by omega)⟩
theorem keep_setCell {B X n₀ n₁ : Nat} {W : World} (hB : B ≤ X) (h0 : n₀ = X + 1) (v : Value) : Keep B n₀ n₁ W (W.setCell ⟨X, 0, none⟩ v) :=
  ⟨(Below.refl B W).setCell (p := ⟨X, 0, none⟩) hB _, fun k hk _ => Below.heap_setCell _ _ _ _ (show k ≠ (⟨X, 0, none⟩ : Addr).block from by show k ≠ X; omega)⟩

end Go.Proofs.YtihddekjicpihaaDoor
/-
  A range over a function whose iterator tells, of each value it hands over, a fact on the memory at that moment and on all that came ahead (drafts/gen_rgp.py writes this text out of RGood).
  The loop's record and its block for deferred calls are carried as 'At'; one lemma for a round, one for the statement.
-/
namespace Go.Proofs.YtihddekjicpihaaDoor.Rp
open Go Go.RowKit

/-- The record at l is in the state r; nothing is deferred at D. -/
def At (l D : Nat) (r : Loop) (W : World) : Prop := W.heap[l]? = some (.loop r) ∧ W.heap[D]? = some (.deferred (some []))

theorem At.turn {l D : Nat} {r : Loop} {W : World} (h : At l D r W) (hne : D ≠ l) (r' : Loop) : At l D r' (W.putObj l (.loop r')) :=
  ⟨World.putObj_heap_same (Array.getElem?_eq_some_iff.1 h.1).1, (World.putObj_heap_other hne).trans h.2⟩
theorem At.keeps {l D B : Nat} {r : Loop} {W W' : World} (h : At l D r W) (hk : KeepsFrom B W W') (hl : B ≤ l) (hD : B ≤ D) : At l D r W' := ⟨hk.same _ _ hl h.1 rfl, hk.same _ _ hD h.2 rfl⟩
theorem At.grown {l D : Nat} {r : Loop} {W W' : World} {row : Option Nat} (h : At l D r W) (hg : W.grownBy W' row) (hr : ∀ x, row = some x → ∃ o : Obj, W.heap[x]? = some o ∧ o.isWalk = true) : At l D r W' :=
  ⟨(grownBy_keeps hg hr h.1 rfl).trans h.1, (grownBy_keeps hg hr h.2 rfl).trans h.2⟩

/-- The word of an iterator: as SeqStopsK, and at each value the fact Gd. -/
def SeqTells {α : Type} (F : Fence) (n : Nat) (P : Program) (g : Nat) (lb : Array Value) (encs : α → Array Value) (Gd : List α → α → World → Prop) (Kp : World → World → Prop) (S Sp : List α → Prop) (N : Nat) (w : World) : Prop :=
  ∀ (l : Nat) (J Jx : List α → World → Prop) (W : World), Below w.heap.size w W → (∀ s A B, J s A → Below A.heap.size A B → J s B) →
    (∀ pre x W1, J pre W1 → pre.length < N → Gd pre x W1 → YieldAt F (n - 1) P l (encs x) W1 fun e W' => (e = .returned (.bool true) ∧ J (pre ++ [x]) W' ∧ Kp W1 W') ∨ (e = .returned (.bool false) ∧ Jx (pre ++ [x]) W')) →
    J [] W → CallsIn F n P g (#[.func (.yield l) #[] #[]] ++ lb) W fun e W' => (∃ v, e = .returned v) ∧ ((∃ xs, S xs ∧ J xs W') ∨ (∃ pre, Sp pre ∧ Jx pre W'))

section
variable {F : Fence} {n : Nat} {P : Program} {α : Type} {B : Nat} {ps : Array Tmp} {assign body : Code} {tmps : Array Value} {fn : FuncId} {encs : α → Array Value}
  {Gd : List α → α → World → Prop} {Kp : World → World → Prop} {I : List α → World → Prop} {Ix : Code → List α → World → Prop} {Ax : α → Act → World → Prop}

/-- What is asked of the loop's body, in the world in which the round runs. -/
def BodyDoes (F : Fence) (n : Nat) (P : Program) (B : Nat) (body : Code) (Gd : List α → α → World → Prop) (Kp : World → World → Prop) (I : List α → World → Prop) (Ix : Code → List α → World → Prop) (Ax : α → Act → World → Prop) (N : Nat) : Prop :=
  ∀ (l : Nat) (pre : List α) (x : α) (a' : Act) (W : World), I pre W → Ax x a' W → Gd pre x W → pre.length < N → body.wpIn (F.inRound l) n P (ownPostG B Kp I Ix (pre ++ [x]) W) a' W
/-- What is asked of the assignment to the loop's variables. -/
def AssignDoes (F : Fence) (n : Nat) (P : Program) (B : Nat) (assign : Code) (ps : Array Tmp) (tmps : Array Value) (encs : α → Array Value) (Gd : List α → α → World → Prop) (Kp : World → World → Prop) (I : List α → World → Prop) (Ax : α → Act → World → Prop) : Prop :=
  ∀ (l : Nat) (pre : List α) (x : α) (W : World) (K : Act → World → Prop), I pre W → Gd pre x W → (∀ a' W', KeepsFrom B W W' → Kp W W' → I pre W' → Gd pre x W' → Ax x a' W' → K a' W') →
    assign.wpIn (F.inRound l) n P (Exit.then K (fun _ _ _ => False)) { tmps := (ps.zip (encs x)).foldl (fun t (p, v) => t.setIfInBounds p v) tmps, defers := [] } W

/-- One round. -/
theorem round_tells {l D N : Nat} (hlD : D ≠ l) (hBl : B ≤ l) (hBD : B ≤ D) (hfn : F.fn fn) (hps : ∀ x, (encs x).size = ps.size)
    (hKt : ∀ {X Y Z : World}, Kp X Y → Kp Y Z → Kp X Z) (hKp : ∀ (W : World) (r r' : Loop), W.heap[l]? = some (.loop r) → Kp W (W.putObj l (.loop r')))
    (hI : ∀ s W (r r' : Loop), I s W → W.heap[l]? = some (.loop r) → I s (W.putObj l (.loop r'))) (hIx : ∀ c s W (r r' : Loop), Ix c s W → W.heap[l]? = some (.loop r) → Ix c s (W.putObj l (.loop r')))
    (hA : ∀ x a' W (r r' : Loop), Ax x a' W → W.heap[l]? = some (.loop r) → Ax x a' (W.putObj l (.loop r'))) (hG : ∀ pre x W (r r' : Loop), Gd pre x W → W.heap[l]? = some (.loop r) → Gd pre x (W.putObj l (.loop r')))
    (has : AssignDoes F n P B assign ps tmps encs Gd Kp I Ax) (hbd : BodyDoes F n P B body Gd Kp I Ix Ax N)
    {rec : LoopState → Option Code → Loop} (hrec : rec = fun st pe => { state := st, pending := pe, fn, tmps, params := ps, assign, body, defers := D })
    {pre : List α} {x : α} {W : World} (hi : I pre W) (hat : At l D (rec .ready none) W) (hlen : pre.length < N) (hg : Gd pre x W) :
    YieldAt F n P l (encs x) W fun e W' => (e = .returned (.bool true) ∧ (I (pre ++ [x]) W' ∧ At l D (rec .ready none) W') ∧ Kp W W') ∨ (e = .returned (.bool false) ∧ ∃ c, Ix c (pre ++ [x]) W' ∧ At l D (rec .done (some c)) W') := by
  have hy := run_yield (P := P) (args := encs x) hat.1 (by rw [hrec]; exact hps x)
  rw [hrec] at hy
  refine ⟨fn, _, assign, body, hy, roundIn_of_wpIn hfn (has l pre x W _ hi hg ?_)⟩
  intro a' Wa ka kp hia hga hax
  have hata := hat.keeps ka hBl hBD
  refine ⟨_, run_beginRound hata.1 (by rw [hrec]), ?_⟩
  have hatb := hata.turn hlD { rec .ready none with state := .busy }
  have kpb := hKp Wa _ { rec .ready none with state := .busy } hata.1
  refine wpIn_mono (hbd l pre x a' _ (hI _ _ _ _ hia hata.1) (hA _ _ _ _ _ hax hata.1) (hG _ _ _ _ _ hga hata.1) hlen) ?_
  have fin : ∀ (jump : Option Code) (W3 : World), KeepsFrom B (Wa.putObj l (.loop { rec .ready none with state := .busy })) W3 →
      ∃ r' r, r = { rec .ready none with state := .busy } ∧ r' = rec (if jump.isNone then .ready else .done) jump ∧ W3.heap[l]? = some (.loop r) ∧ (Instr.endRound l jump).run P W3 = .ok (.bool jump.isNone) (W3.putObj l (.loop r')) ∧ At l D r' (W3.putObj l (.loop r')) := fun jump W3 hk3 => by
    have h3 := hatb.keeps hk3 hBl hBD
    have he := run_endRound (P := P) jump h3.1
    refine ⟨_, _, rfl, rfl, h3.1, ?_, h3.turn hlD _⟩
    rw [hrec] at he ⊢
    exact he
  rintro e a3 W3 hp
  cases e with
  | normal =>
    obtain ⟨k3, kp3, i3⟩ := hp
    obtain ⟨r', r, hr, hr', hl3, he, hat3⟩ := fin none W3 k3
    subst hr'
    exact ⟨_, _, he, .inl ⟨rfl, ⟨hI _ _ _ _ i3 hl3, hat3⟩, hKt kp (hKt (hKt kpb kp3) (hKp _ _ _ hl3))⟩⟩
  | ret =>
    obtain ⟨r', r, hr, hr', hl3, he, hat3⟩ := fin (some .ret) W3 hp.1
    subst hr'
    exact ⟨_, _, he, .inr ⟨rfl, .ret, hIx _ _ _ _ _ hp.2 hl3, hat3⟩⟩
  | exit id =>
    obtain ⟨r', r, hr, hr', hl3, he, hat3⟩ := fin (some (.exit id)) W3 hp.1
    subst hr'
    exact ⟨_, _, he, .inr ⟨rfl, .exit id, hIx _ _ _ _ _ hp.2 hl3, hat3⟩⟩
  | goto t =>
    obtain ⟨r', r, hr, hr', hl3, he, hat3⟩ := fin (some (.goto t)) W3 hp.1
    subst hr'
    exact ⟨_, _, he, .inr ⟨rfl, .goto t, hIx _ _ _ _ _ hp.2 hl3, hat3⟩⟩
  | panic ch => exact hp.elim
  | outgrown => exact hp.elim

theorem At.below {l D : Nat} {r : Loop} {W W' : World} (h : At l D r W) (hb : Below W.heap.size W W') : At l D r W' :=
  ⟨(hb.block l (Array.getElem?_eq_some_iff.1 h.1).1).trans h.1, (hb.block D (Array.getElem?_eq_some_iff.1 h.2).1).trans h.2⟩
theorem ownFrom_grows {β : Type} {X : Nat} {J : β → World → Prop} (h : OwnFrom X J) {s : β} {W W' : World} (hs : J s W) (hb : Below W.heap.size W W') : J s W' :=
  h s W W' none hs ⟨hb.os, hb.tape, hb.output, hb.size, fun k hk _ => hb.block k hk⟩ (fun r e => by cases e)

/-- The statement. -/
theorem range_tells {N : Nat} {S Sp : List α → Prop} {g : Operand} {Q : Exit → Act → World → Prop} {a : Act} {w : World} (hro : F.round = none) (h1 : 1 ≤ n) {gf : Nat} {lb : Array Value} (hg : a.eval g = .func (.func gf) #[] lb) (hFg : F.fn gf)
    (eg : ∀ args w, (callFunc gf args).run P w = .ok (.enter gf args) w) (hseq : SeqTells F (n - 1) P gf lb encs Gd Kp S Sp N w) (hKt : ∀ {X Y Z : World}, Kp X Y → Kp Y Z → Kp X Z)
    (hKb : ∀ (W : World) (l : Nat) (o o' : Obj), w.heap.size ≤ l → W.heap[l]? = some o → o.isCells = false → Kp W (W.putObj l o')) (hps : ∀ x, (encs x).size = ps.size)
    (hI : OwnFrom w.heap.size I) (hIx : ∀ c, OwnFrom w.heap.size (Ix c)) (hAx : ∀ x a', OwnFrom w.heap.size (fun (_ : Unit) W => Ax x a' W)) (hGd : ∀ pre x, OwnFrom w.heap.size (fun (_ : Unit) W => Gd pre x W))
    (h0 : I [] w) (has : AssignDoes F (n - 1 - 1) P w.heap.size assign ps a.tmps encs Gd Kp I Ax) (hbd : BodyDoes F (n - 1 - 1) P w.heap.size body Gd Kp I Ix Ax N)
    (hdone : ∀ (D : Nat) (xs : List α) (W : World), w.heap.size ≤ D → S xs → I xs W → W.heap[D]? = some (.deferred (some [])) → Q .normal { a with defers := { target := .collected D, args := #[] } :: a.defers } W)
    (hstop : ∀ (D : Nat) (c : Code) (pre : List α) (W : World), w.heap.size ≤ D → Sp pre → Ix c pre W → W.heap[D]? = some (.deferred (some [])) → c.wpIn F n P Q { a with defers := { target := .collected D, args := #[] } :: a.defers } W) :
    (Code.rangeFunc g ps assign body).wpIn F n P Q a w := by
  refine wpIn_rangeFunc fun fn hfn => ?_
  rw [hro]
  obtain ⟨rec, hrec⟩ : ∃ rec : LoopState → Option Code → Loop, rec = fun st pe => { state := st, pending := pe, fn, tmps := a.tmps, params := ps, assign, body, defers := w.heap.size } := ⟨_, rfl⟩
  obtain ⟨W1, hW1⟩ : ∃ W1, W1 = (w.alloc (.deferred (some []))).alloc (.loop (rec .ready none)) := ⟨_, rfl⟩
  have hb1 : Below w.heap.size w W1 := by rw [hW1]; exact ((Below.refl _ w).alloc (Nat.le_refl _) _).alloc (by simp) _
  have hat1 : At (w.heap.size + 1) w.heap.size (rec .ready none) W1 := by
    have h2 := World.alloc_heap_new (w.alloc (.deferred (some []))) (.loop (rec .ready none))
    rw [World.size_alloc] at h2
    rw [hW1]
    exact ⟨h2, (Below.heap_alloc _ _ _ (by simp)).trans (World.alloc_heap_new w _)⟩
  have tI : ∀ {J : List α → World → Prop}, OwnFrom w.heap.size J → ∀ s W (r r' : Loop), J s W → W.heap[w.heap.size + 1]? = some (.loop r) → J s (W.putObj (w.heap.size + 1) (.loop r')) := fun h s W r r' hs hl => h.putObj _ hs (by omega) hl rfl
  refine ⟨w.heap.size + 1, [{ target := .collected w.heap.size, args := #[] }], W1, { target := .fn (.func gf) lb, args := #[.func (.yield (w.heap.size + 1)) #[] #[]] }, W1, gf, #[.func (.yield (w.heap.size + 1)) #[] #[]] ++ lb, W1, ?_, ?_, ?_, ?_, fun _ => h1, ?_⟩
  · rw [hW1, hrec]; exact run_enterLoop_outer _ _ _ _ _
  · simp only [resolve, hg]; simp [go_sem]
  · intro f' hf'; simp [Target.leads] at hf'; subst hf'; exact hFg
  · simp [invoke, go_sem, eg]
  refine (hseq (w.heap.size + 1) (fun pre W => I pre W ∧ At (w.heap.size + 1) w.heap.size (rec .ready none) W) (fun pre W => ∃ c, Ix c pre W ∧ At (w.heap.size + 1) w.heap.size (rec .done (some c)) W) W1 hb1
    (fun s A B hs hb => ⟨ownFrom_grows hI hs.1 hb, hs.2.below hb⟩) ?_ ⟨ownFrom_grows hI h0 hb1, hat1⟩).mono ?_
  · rintro pre x W ⟨hi, hat⟩ hlen hgx
    exact round_tells (Kp := Kp) (B := w.heap.size) (by omega) (by omega) (Nat.le_refl _) hfn hps (fun h k => hKt h k) (fun W r r' hl => hKb W _ _ _ (by omega) hl rfl) (tI hI) (fun c => tI (hIx c))
      (fun x a' W r r' hs hl => (hAx x a').putObj (s := ()) _ hs (by omega) hl rfl) (fun pre x W r r' hs hl => (hGd pre x).putObj (s := ()) _ hs (by omega) hl rfl) has hbd hrec hi hat hlen hgx
  · rintro e W2 ⟨⟨v, rfl⟩, (⟨xs, hS, hi, hat⟩ | ⟨pre, hSp, c, hi, hat⟩)⟩
    · have he := run_endLoop (P := P) hat.1 (by rw [hrec]; simp)
      exact ⟨none, _, by rw [hrec] at he; exact he, hdone _ xs _ (Nat.le_refl _) hS (tI hI _ _ _ _ hi hat.1) ((World.putObj_heap_other (by omega)).trans hat.2)⟩
    · have he := run_endLoop (P := P) hat.1 (by rw [hrec]; simp)
      exact ⟨some c, _, by rw [hrec] at he; exact he, hstop _ c pre _ (Nat.le_refl _) hSp (tI (hIx c) _ _ _ _ hi hat.1) ((World.putObj_heap_other (by omega)).trans hat.2)⟩
end

end Go.Proofs.YtihddekjicpihaaDoor.Rp
/-
  A range over a function, as in RGp, whose rounds may also turn maps that rounds have made (drafts/gen_rgl.py writes this text out of RGp and JrnE); a mark M parts what the invariant speaks of and what the iterator hands over.
  The loop's record and its block for deferred calls are carried as 'At'; one lemma for a round, one for the statement.
-/
namespace Go.Proofs.YtihddekjicpihaaDoor.Rl
open Go Go.RowKit Rp

/-- No loop's record, no block of deferred calls has turned. -/
structure KeepsLp (W W' : World) : Prop where
  size : W.heap.size ≤ W'.heap.size
  same : ∀ (k : Nat) (o : Obj), W.heap[k]? = some o → o.isCells = false → (∀ es c, o ≠ .map es c) → W'.heap[k]? = some o
theorem keepsLp_below {W W' : World} (h : Below W.heap.size W W') : KeepsLp W W' := ⟨h.size, fun k _ hk _ _ => (h.block k (Array.getElem?_eq_some_iff.1 hk).1).trans hk⟩
theorem at_keeps {l D : Nat} {r : Loop} {W W' : World} (h : At l D r W) (hk : KeepsLp W W') : At l D r W' := ⟨hk.same _ _ h.1 rfl (fun _ _ e => by cases e), hk.same _ _ h.2 rfl (fun _ _ e => by cases e)⟩
/-- With some mark. -/
def Ex {α : Type} (I : Nat → List α → World → Prop) (xs : List α) (W : World) : Prop := ∃ M, M ≤ W.heap.size ∧ I M xs W
/-- How a round's body ends. -/
def ownPostL {α : Type} (Kp : World → World → Prop) (I : List α → World → Prop) (Ix : Code → List α → World → Prop) (xs : List α) (W : World) : Exit → Act → World → Prop
  | .normal, _, W' => KeepsLp W W' ∧ Kp W W' ∧ I xs W'
  | .ret, _, W' => KeepsLp W W' ∧ Ix .ret xs W'
  | .exit id, _, W' => KeepsLp W W' ∧ Ix (.exit id) xs W'
  | .goto t, _, W' => KeepsLp W W' ∧ Ix (.goto t) xs W'
  | .panic _, _, _ => False
  | .outgrown, _, _ => False

/-- The word of an iterator: at each value the fact Gd, above the mark. -/
def SeqTells {α : Type} (F : Fence) (n : Nat) (P : Program) (g : Nat) (lb : Array Value) (encs : α → Array Value) (Gd : Nat → List α → α → World → Prop) (Kp : World → World → Prop) (S Sp : List α → Prop) (N : Nat) (w : World) : Prop :=
  ∀ (l : Nat) (J : Nat → List α → World → Prop) (Jx : List α → World → Prop) (W : World), Below w.heap.size w W → (∀ M s A B, J M s A → Below A.heap.size A B → J M s B) →
    (∀ M pre x W1, J M pre W1 → pre.length < N → Gd M pre x W1 → YieldAt F (n - 1) P l (encs x) W1 fun e W' => (e = .returned (.bool true) ∧ Ex J (pre ++ [x]) W' ∧ Kp W1 W') ∨ (e = .returned (.bool false) ∧ Jx (pre ++ [x]) W')) →
    Ex J [] W → CallsIn F n P g (#[.func (.yield l) #[] #[]] ++ lb) W fun e W' => (∃ v, e = .returned v) ∧ ((∃ xs, S xs ∧ Ex J xs W') ∨ (∃ pre, Sp pre ∧ Jx pre W'))

section
variable {F : Fence} {n : Nat} {P : Program} {α : Type} {ps : Array Tmp} {assign body : Code} {tmps : Array Value} {fn : FuncId} {encs : α → Array Value}
  {Gd : Nat → List α → α → World → Prop} {Kp : World → World → Prop} {I : Nat → List α → World → Prop} {Ix : Code → List α → World → Prop} {Ax : α → Act → World → Prop}

/-- What is asked of the loop's body, in the world in which the round runs. -/
def BodyDoes (F : Fence) (n : Nat) (P : Program) (body : Code) (Gd : Nat → List α → α → World → Prop) (Kp : World → World → Prop) (I : Nat → List α → World → Prop) (Ix : Code → List α → World → Prop) (Ax : α → Act → World → Prop) (N : Nat) : Prop :=
  ∀ (l M : Nat) (pre : List α) (x : α) (a' : Act) (W : World), I M pre W → Ax x a' W → Gd M pre x W → pre.length < N → body.wpIn (F.inRound l) n P (ownPostL Kp (Ex I) Ix (pre ++ [x]) W) a' W
/-- What is asked of the assignment to the loop's variables. -/
def AssignDoes (F : Fence) (n : Nat) (P : Program) (assign : Code) (ps : Array Tmp) (tmps : Array Value) (encs : α → Array Value) (Gd : Nat → List α → α → World → Prop) (Kp : World → World → Prop) (I : Nat → List α → World → Prop) (Ax : α → Act → World → Prop) : Prop :=
  ∀ (l M : Nat) (pre : List α) (x : α) (W : World) (K : Act → World → Prop), I M pre W → Gd M pre x W → (∀ a' W', KeepsLp W W' → Kp W W' → I M pre W' → Gd M pre x W' → Ax x a' W' → K a' W') →
    assign.wpIn (F.inRound l) n P (Exit.then K (fun _ _ _ => False)) { tmps := (ps.zip (encs x)).foldl (fun t (p, v) => t.setIfInBounds p v) tmps, defers := [] } W

/-- One round. -/
theorem round_tells {l D N : Nat} (hlD : D ≠ l) (hfn : F.fn fn) (hps : ∀ x, (encs x).size = ps.size)
    (hKt : ∀ {X Y Z : World}, Kp X Y → Kp Y Z → Kp X Z) (hKp : ∀ (W : World) (r r' : Loop), W.heap[l]? = some (.loop r) → Kp W (W.putObj l (.loop r')))
    (hI : ∀ M s W (r r' : Loop), I M s W → W.heap[l]? = some (.loop r) → I M s (W.putObj l (.loop r'))) (hIx : ∀ c s W (r r' : Loop), Ix c s W → W.heap[l]? = some (.loop r) → Ix c s (W.putObj l (.loop r')))
    (hA : ∀ x a' W (r r' : Loop), Ax x a' W → W.heap[l]? = some (.loop r) → Ax x a' (W.putObj l (.loop r'))) (hG : ∀ M pre x W (r r' : Loop), Gd M pre x W → W.heap[l]? = some (.loop r) → Gd M pre x (W.putObj l (.loop r')))
    (has : AssignDoes F n P assign ps tmps encs Gd Kp I Ax) (hbd : BodyDoes F n P body Gd Kp I Ix Ax N)
    {rec : LoopState → Option Code → Loop} (hrec : rec = fun st pe => { state := st, pending := pe, fn, tmps, params := ps, assign, body, defers := D })
    {M : Nat} {pre : List α} {x : α} {W : World} (hi : I M pre W) (hat : At l D (rec .ready none) W) (hlen : pre.length < N) (hg : Gd M pre x W) :
    YieldAt F n P l (encs x) W fun e W' => (e = .returned (.bool true) ∧ (Ex I (pre ++ [x]) W' ∧ At l D (rec .ready none) W') ∧ Kp W W') ∨ (e = .returned (.bool false) ∧ ∃ c, Ix c (pre ++ [x]) W' ∧ At l D (rec .done (some c)) W') := by
  have hy := run_yield (P := P) (args := encs x) hat.1 (by rw [hrec]; exact hps x)
  rw [hrec] at hy
  refine ⟨fn, _, assign, body, hy, roundIn_of_wpIn hfn (has l M pre x W _ hi hg ?_)⟩
  intro a' Wa ka kp hia hga hax
  have hata := at_keeps hat ka
  refine ⟨_, run_beginRound hata.1 (by rw [hrec]), ?_⟩
  have hatb := hata.turn hlD { rec .ready none with state := .busy }
  have kpb := hKp Wa _ { rec .ready none with state := .busy } hata.1
  refine wpIn_mono (hbd l M pre x a' _ (hI _ _ _ _ _ hia hata.1) (hA _ _ _ _ _ hax hata.1) (hG _ _ _ _ _ _ hga hata.1) hlen) ?_
  have fin : ∀ (jump : Option Code) (W3 : World), KeepsLp (Wa.putObj l (.loop { rec .ready none with state := .busy })) W3 →
      ∃ r' r, r = { rec .ready none with state := .busy } ∧ r' = rec (if jump.isNone then .ready else .done) jump ∧ W3.heap[l]? = some (.loop r) ∧ (Instr.endRound l jump).run P W3 = .ok (.bool jump.isNone) (W3.putObj l (.loop r')) ∧ At l D r' (W3.putObj l (.loop r')) := fun jump W3 hk3 => by
    have h3 := at_keeps hatb hk3
    have he := run_endRound (P := P) jump h3.1
    refine ⟨_, _, rfl, rfl, h3.1, ?_, h3.turn hlD _⟩
    rw [hrec] at he ⊢
    exact he
  rintro e a3 W3 hp
  cases e with
  | normal =>
    obtain ⟨k3, kp3, M3, m3, i3⟩ := hp
    obtain ⟨r', r, hr, hr', hl3, he, hat3⟩ := fin none W3 k3
    subst hr'
    exact ⟨_, _, he, .inl ⟨rfl, ⟨⟨M3, by simpa using m3, hI _ _ _ _ _ i3 hl3⟩, hat3⟩, hKt kp (hKt (hKt kpb kp3) (hKp _ _ _ hl3))⟩⟩
  | ret =>
    obtain ⟨r', r, hr, hr', hl3, he, hat3⟩ := fin (some .ret) W3 hp.1
    subst hr'
    exact ⟨_, _, he, .inr ⟨rfl, .ret, hIx _ _ _ _ _ hp.2 hl3, hat3⟩⟩
  | exit id =>
    obtain ⟨r', r, hr, hr', hl3, he, hat3⟩ := fin (some (.exit id)) W3 hp.1
    subst hr'
    exact ⟨_, _, he, .inr ⟨rfl, .exit id, hIx _ _ _ _ _ hp.2 hl3, hat3⟩⟩
  | goto t =>
    obtain ⟨r', r, hr, hr', hl3, he, hat3⟩ := fin (some (.goto t)) W3 hp.1
    subst hr'
    exact ⟨_, _, he, .inr ⟨rfl, .goto t, hIx _ _ _ _ _ hp.2 hl3, hat3⟩⟩
  | panic ch => exact hp.elim
  | outgrown => exact hp.elim

/-- The statement. -/
theorem range_tells {N : Nat} {S Sp : List α → Prop} {g : Operand} {Q : Exit → Act → World → Prop} {a : Act} {w : World} (hro : F.round = none) (h1 : 1 ≤ n) {gf : Nat} {lb : Array Value} (hg : a.eval g = .func (.func gf) #[] lb) (hFg : F.fn gf)
    (eg : ∀ args w, (callFunc gf args).run P w = .ok (.enter gf args) w) (hseq : SeqTells F (n - 1) P gf lb encs Gd Kp S Sp N w) (hKt : ∀ {X Y Z : World}, Kp X Y → Kp Y Z → Kp X Z)
    (hKb : ∀ (W : World) (l : Nat) (o o' : Obj), w.heap.size ≤ l → W.heap[l]? = some o → o.isCells = false → Kp W (W.putObj l o')) (hps : ∀ x, (encs x).size = ps.size)
    (hIp : ∀ M s W (l : Nat) (r r' : Loop), I M s W → w.heap.size ≤ l → W.heap[l]? = some (.loop r) → I M s (W.putObj l (.loop r'))) (hIg : ∀ M s A B, I M s A → Below A.heap.size A B → I M s B) (hIx : ∀ c, OwnFrom w.heap.size (Ix c)) (hAx : ∀ x a', OwnFrom w.heap.size (fun (_ : Unit) W => Ax x a' W)) (hGd : ∀ M pre x, OwnFrom w.heap.size (fun (_ : Unit) W => Gd M pre x W))
    (h0 : Ex I [] w) (has : AssignDoes F (n - 1 - 1) P assign ps a.tmps encs Gd Kp I Ax) (hbd : BodyDoes F (n - 1 - 1) P body Gd Kp I Ix Ax N)
    (hdone : ∀ (D : Nat) (xs : List α) (W : World), w.heap.size ≤ D → S xs → Ex I xs W → W.heap[D]? = some (.deferred (some [])) → Q .normal { a with defers := { target := .collected D, args := #[] } :: a.defers } W)
    (hstop : ∀ (D : Nat) (c : Code) (pre : List α) (W : World), w.heap.size ≤ D → Sp pre → Ix c pre W → W.heap[D]? = some (.deferred (some [])) → c.wpIn F n P Q { a with defers := { target := .collected D, args := #[] } :: a.defers } W) :
    (Code.rangeFunc g ps assign body).wpIn F n P Q a w := by
  refine wpIn_rangeFunc fun fn hfn => ?_
  rw [hro]
  obtain ⟨rec, hrec⟩ : ∃ rec : LoopState → Option Code → Loop, rec = fun st pe => { state := st, pending := pe, fn, tmps := a.tmps, params := ps, assign, body, defers := w.heap.size } := ⟨_, rfl⟩
  obtain ⟨W1, hW1⟩ : ∃ W1, W1 = (w.alloc (.deferred (some []))).alloc (.loop (rec .ready none)) := ⟨_, rfl⟩
  have hb1 : Below w.heap.size w W1 := by rw [hW1]; exact ((Below.refl _ w).alloc (Nat.le_refl _) _).alloc (by simp) _
  have hat1 : At (w.heap.size + 1) w.heap.size (rec .ready none) W1 := by
    have h2 := World.alloc_heap_new (w.alloc (.deferred (some []))) (.loop (rec .ready none))
    rw [World.size_alloc] at h2
    rw [hW1]
    exact ⟨h2, (Below.heap_alloc _ _ _ (by simp)).trans (World.alloc_heap_new w _)⟩
  have tI : ∀ {J : List α → World → Prop}, OwnFrom w.heap.size J → ∀ s W (r r' : Loop), J s W → W.heap[w.heap.size + 1]? = some (.loop r) → J s (W.putObj (w.heap.size + 1) (.loop r')) := fun h s W r r' hs hl => h.putObj _ hs (by omega) hl rfl
  refine ⟨w.heap.size + 1, [{ target := .collected w.heap.size, args := #[] }], W1, { target := .fn (.func gf) lb, args := #[.func (.yield (w.heap.size + 1)) #[] #[]] }, W1, gf, #[.func (.yield (w.heap.size + 1)) #[] #[]] ++ lb, W1, ?_, ?_, ?_, ?_, fun _ => h1, ?_⟩
  · rw [hW1, hrec]; exact run_enterLoop_outer _ _ _ _ _
  · simp only [resolve, hg]; simp [go_sem]
  · intro f' hf'; simp [Target.leads] at hf'; subst hf'; exact hFg
  · simp [invoke, go_sem, eg]
  refine (hseq (w.heap.size + 1) (fun M pre W => I M pre W ∧ At (w.heap.size + 1) w.heap.size (rec .ready none) W) (fun pre W => ∃ c, Ix c pre W ∧ At (w.heap.size + 1) w.heap.size (rec .done (some c)) W) W1 hb1
    (fun M s A B hs hb => ⟨hIg _ _ _ _ hs.1 hb, hs.2.below hb⟩) ?_ (h0.elim (fun M h => ⟨M, Nat.le_trans h.1 hb1.size, hIg _ _ _ _ h.2 hb1, hat1⟩))).mono ?_
  · rintro M pre x W ⟨hi, hat⟩ hlen hgx
    refine YieldAt.mono (round_tells (Kp := Kp) (by omega) hfn hps (fun h k => hKt h k) (fun W r r' hl => hKb W _ _ _ (by omega) hl rfl) (fun M s W r r' hs hl => hIp M s W _ r r' hs (by omega) hl) (fun c => tI (hIx c))
      (fun x a' W r r' hs hl => (hAx x a').putObj (s := ()) _ hs (by omega) hl rfl) (fun M pre x W r r' hs hl => (hGd M pre x).putObj (s := ()) _ hs (by omega) hl rfl) has hbd hrec hi hat hlen hgx) (fun e W' h => h.imp (fun ⟨h1, ⟨⟨M', h2, h3⟩, h4⟩, h5⟩ => ⟨h1, ⟨M', h2, h3, h4⟩, h5⟩) (fun h => h))
  · rintro e W2 ⟨⟨v, rfl⟩, (⟨xs, hS, M, hM, hi, hat⟩ | ⟨pre, hSp, c, hi, hat⟩)⟩
    · have he := run_endLoop (P := P) hat.1 (by rw [hrec]; simp)
      exact ⟨none, _, by rw [hrec] at he; exact he, hdone _ xs _ (Nat.le_refl _) hS ⟨M, by simpa using hM, hIp _ _ _ _ _ _ hi (by omega) hat.1⟩ ((World.putObj_heap_other (by omega)).trans hat.2)⟩
    · have he := run_endLoop (P := P) hat.1 (by rw [hrec]; simp)
      exact ⟨some c, _, by rw [hrec] at he; exact he, hstop _ c pre _ (Nat.le_refl _) hSp (tI (hIx c) _ _ _ _ hi hat.1) ((World.putObj_heap_other (by omega)).trans hat.2)⟩
end
end Go.Proofs.YtihddekjicpihaaDoor.Rl
