/-
  ParcelOnce's walk.
-/
import Derived.Test.YtkaniplkobnpjaaPclA
import Derived.Test.YtkaniplkobnpjaaPclD
import Derived.Test.YtkaniplkobnpjaaNum
namespace Go.Proofs.Ytkaniplkobnpjaa
open Go.ChangeShapes Go.WideShapes Go.ChangeAt Go.RowKit Go.Maps

/-- What went, by id, with the id beside it. -/
def tripR (l : List (Int × Int × Int)) (x : Int) : Option (Int × Int × Int) := (findP l x).map (fun c => (x, c.1, c.2))
theorem zeroC (w : World) : (zeroValue 30).run Try.prog w = .ok (tripV (0, 0, 0)) w := by kernel_rfl
theorem callIt (x y z : Int) (W : World) : (Instr.field 30 (.agg #[.int .i64 x, .int .i64 y, .int .i64 z]) 1).run Try.prog W = .ok (.int .i64 y) W := by kernel_rfl
theorem callQ (x y z : Int) (W : World) : (Instr.field 30 (.agg #[.int .i64 x, .int .i64 y, .int .i64 z]) 2).run Try.prog W = .ok (.int .i64 z) W := by kernel_rfl
/-- The book, and beside it the law's own map and sums. -/
def NSt (w wr : World) (p : Nat) (E : Nat → Prop) (l : List (Int × Int × Int)) (m s : Nat) : Prop :=
  Pc w.heap.size E wr p l ∧ Mx tripOf Try.prog 3 wr m l.length (tripR l) ∧ Row8 wr s (wentP l) ∧ (¬ E m ∧ ¬ E s ∧ w.heap.size ≤ m ∧ w.heap.size ≤ s) ∧ Below w.heap.size w wr
theorem NSt.on {w wr V : World} {p : Nat} {E : Nat → Prop} {l : List (Int × Int × Int)} {m s : Nat} (k : NSt w wr p E l m s) (hb : Below wr.heap.size wr V) : NSt w V p E l m s :=
  ⟨k.1.on hb, k.2.1.on hb, (hb.block _ k.2.2.1.lt).trans k.2.2.1, k.2.2.2.1, bel_on' k.2.2.2.2 hb⟩
theorem NSt.look {w wr : World} {p : Nat} {E : Nat → Prop} {l : List (Int × Int × Int)} {m s : Nat} (k : NSt w wr p E l m s) {id : Int} (hw : (Lit.int .i64 id).wf = true) :
    (Instr.lookup 45 (.map (some m)) (.int .i64 id) false).run Try.prog wr = .ok (tripV ((tripR l id).getD (0, 0, 0))) wr :=
  k.2.1.look Try.underlying3 Try.underlying45 (zeroC _) hw
theorem NSt.lts {w wr : World} {p : Nat} {E : Nat → Prop} {l : List (Int × Int × Int)} {m s : Nat} (k : NSt w wr p E l m s) : m < wr.heap.size ∧ s < wr.heap.size ∧ m ≠ s := ⟨k.2.1.lt, k.2.2.1.lt, k.2.1.ne k.2.2.1⟩
/-- Behind a Ship. -/
theorem NSt.ship {w U V : World} {p : Nat} {E : Nat → Prop} {l : List (Int × Int × Int)} {m s : Nat} (k : NSt w U p E l m s) (hO : Rg.Kept (fun i _ => E i) U V) :
    Mx tripOf Try.prog 3 V m l.length (tripR l) ∧ Row8 V s (wentP l) ∧ (¬ growE E U V m ∧ ¬ growE E U V s) ∧ Below w.heap.size w V := by
  obtain ⟨h1, h2, h3⟩ := k.lts
  obtain ⟨k1, k2, k3, ⟨k4, k5, k6, k7⟩, k8⟩ := k
  refine ⟨k2.kept hO (fun _ => k4), hO.block _ _ k3 k5, ⟨?_, ?_⟩, k8.trans (k1.bel hO)⟩
  · rintro (h | h)
    · exact k4 h
    · omega
  · rintro (h | h)
    · exact k5 h
    · omega
theorem NSt.same {w U V : World} {p : Nat} {E : Nat → Prop} {l : List (Int × Int × Int)} {m s : Nat} (k : NSt w U p E l m s) (kV : Pc w.heap.size (growE E U V) V p l) (hO : Rg.Kept (fun i _ => E i) U V) : NSt w V p (growE E U V) l m s := by
  obtain ⟨h1, h2, ⟨h3, h4⟩, h5⟩ := k.ship hO
  exact ⟨kV, h1, h2, ⟨h3, h4, k.2.2.2.1.2.2⟩, h5⟩
theorem tripR_more {l : List (Int × Int × Int)} {id K q : Int} (hf : findP l id = none) : tripR (l ++ [(id, K, q)]) = updO (tripR l) id (some (id, K, q)) := by
  funext x
  unfold tripR
  rw [findP_app, findP_one]
  by_cases e : x = id
  · subst e; rw [updO_same, if_pos rfl, hf]; rfl
  · rw [updO_other _ _ e, if_neg (fun h => e h.symm)]; cases findP l x <;> rfl
/-- A parcel that went: the law's map and sums behind it. -/
theorem NSt.next {w U V : World} {p : Nat} {E : Nat → Prop} {l : List (Int × Int × Int)} {m s : Nat} {id K q : Int} (k : NSt w U p E l m s) (kV : Pc w.heap.size (growE E U V) V p (l ++ [(id, K, q)])) (hO : Rg.Kept (fun i _ => E i) U V) (hf : findP l id = none) (hK : 0 ≤ K ∧ K < 8) (hw : (Lit.int .i64 id).wf = true) {V1 : World} (hb : Below V.heap.size V V1) :
    ∃ V2, (Instr.mapUpdate 45 (.map (some m)) (.int .i64 id) (.agg #[.int .i64 id, .int .i64 K, .int .i64 q])).run Try.prog V1 = .ok () V2 ∧ Rg.Kept (fun i _ => i = m) V1 V2 ∧ V2.cell? ⟨s, K.toNat, none⟩ = some (.int .i64 (wentP l K)) ∧ V2.frozen? ⟨s, K.toNat, none⟩ = false ∧
      NSt w (V2.setCell ⟨s, K.toNat, none⟩ (.int .i64 (wentP l K + q))) p (growE E U V) (l ++ [(id, K, q)]) m s := by
  obtain ⟨h1, h2, ⟨h3, h4⟩, h5⟩ := k.ship hO
  have hlen := kV.good.len
  rw [List.length_append, List.length_singleton] at hlen
  have hne : m ≠ s := k.lts.2.2
  obtain ⟨V2, hr, m2, k2⟩ := (h1.on hb).put Try.underlying3 Try.underlying45 hw (by omega) (id, K, q)
  have r1 : Row8 V1 s (wentP l) := (hb.block _ h2.lt).trans h2
  have r2 : Row8 V2 s (wentP l) := k2.block _ _ r1 hne.symm
  have hKn : K.toNat < 8 := by omega
  have eK : ((K.toNat : Nat) : Int) = K := by omega
  have c2 := r2.cell hKn
  rw [eK] at c2
  refine ⟨V2, hr, k2, c2, r2.frozen _, ?_⟩
  have kk : Rg.Kept (fun i _ => i = m ∨ i = s) V (V2.setCell ⟨s, K.toNat, none⟩ (.int .i64 (wentP l K + q))) := ((Rg.Kept.of_below hb).trans (k2.mono (fun _ _ e => .inl e))).trans (Rg.Kept.setCell _ (fun _ => .inr rfl))
  refine ⟨kV.kept kk (fun i _ e h => ?_), ?_, ?_, ⟨h3, h4, k.2.2.2.1.2.2⟩, h5.trans (kk.bel (by have := h5.size; omega) (fun i _ e => ?_))⟩
  · rcases h with rfl | rfl
    · exact h3 e
    · exact h4 e
  · rw [tripR_more hf, List.length_append, List.length_singleton]
    exact m2.set (a := ⟨s, K.toNat, none⟩) hne _
  · refine (r2.set hKn (wentP l K + q)).congr (fun i hi => ?_)
    rw [upd_at, wentP_app, wentP_one, eK]
    by_cases e : (i : Int) = K
    · rw [if_pos e, if_pos e.symm, e]
    · rw [if_neg e, if_neg (fun h => e h.symm)]; omega
  · have := k.2.2.2.1
    omega
def NRel (w : World) (p m s : Nat) (len : Nat) (i : Value) (wr : World) : Prop :=
  ∃ (j : Nat) (l : List (Int × Int × Int)) (E : Nat → Prop), i = .int .i64 j ∧ j ≤ len ∧ j ≤ 80 ∧ Hid (NSt w wr p E l m s)
theorem kept_cell {X Y : World} {E : Nat → Obj → Prop} {B i : Nat} {v : Value} (hk : Rg.Kept E X Y) (hn : ∀ o, ¬ E B o) (hc : X.cell? ⟨B, i, none⟩ = some v) : Y.cell? ⟨B, i, none⟩ = some v := by
  have hlt : B < X.heap.size := World.block_lt_of_cell? _ _ hc
  have e : X.heap[B]? = some X.heap[B] := Array.getElem?_eq_getElem hlt
  rw [World.cell?_of_block (a := ⟨B, i, none⟩) ((hk.block _ _ e (hn _)).trans e.symm)]
  exact hc

theorem index_8 (g : Nat → Int) {i : Nat} (hi : i < 8) (w : World) : (Instr.index 46 (.agg #[.int .i64 (g 0), .int .i64 (g 1), .int .i64 (g 2), .int .i64 (g 3), .int .i64 (g 4), .int .i64 (g 5), .int .i64 (g 6), .int .i64 (g 7)]) (.int .i64 i)).run Try.prog w = .ok (.int .i64 (g i)) w := by
  have hc : (#[.int .i64 (g 0), .int .i64 (g 1), .int .i64 (g 2), .int .i64 (g 3), .int .i64 (g 4), .int .i64 (g 5), .int .i64 (g 6), .int .i64 (g 7)] : Array Value)[i]? = some (.int .i64 (g i)) := by
    rcases i with _ | _ | _ | _ | _ | _ | _ | _ | i
    all_goals first | rfl | omega
  generalize (#[.int .i64 (g 0), .int .i64 (g 1), .int .i64 (g 2), .int .i64 (g 3), .int .i64 (g 4), .int .i64 (g 5), .int .i64 (g 6), .int .i64 (g 7)] : Array Value) = cs at hc ⊢
  simp [Instr.index, asIntOf, run_underlying Try.underlying46, part, Try.isAgg3, Try.sizeOf3, hc, Result.andThen]
  intro h3
  omega
theorem tripR_mem (l : List (Int × Int × Int)) (x : Int) : x ∈ idsP l ↔ (tripR l x).isSome = true := by
  unfold tripR
  rw [Option.isSome_map]
  cases h : findP l x with
  | none => simp [findP_none.1 h]
  | some c =>
    simp
    exact Decidable.byContradiction (fun hn => by rw [findP_none.2 hn] at h; cases h)
theorem NSt.len {w wr : World} {p : Nat} {E : Nat → Prop} {l : List (Int × Int × Int)} {m s : Nat} (k : NSt w wr p E l m s) (ty : TypeId) :
    (Builtin.len_ #[45] ty #[.map (some m)]).run Try.prog wr = .ok (.int .i64 (idsP l).length) wr :=
  k.2.1.len Try.underlying3 Try.underlying45 k.1.good.nd (tripR_mem l) ty

set_option maxRecDepth 100000 in
set_option maxHeartbeats 8000000 in
theorem parcelOnce_walk (l0 : List Cl) (a0 : Option Addr) (cap0 : Nat) (w : World) (w0 : ClsIn w l0 a0) :
    Calls Try.prog 5 #[.slice a0 l0.length cap0] w fun e w' => e = .returned (.bool true) ∧ Below w.heap.size w w' := by
  obtain ⟨hlen, hcl⟩ := w0
  have HCL := hide hcl
  clear hcl
  have hmm := @run_makeMap Try.prog
  have N1 := pnew_any w
  go_enter Try.func5, Try.ntmps5
  go_wp2_with (go_at_call 7; refine N1.mono ?_; clear N1; rintro e u1 ⟨p, rfl, -, k1, hb1⟩; have HK1 := hide k1; have HB1 := hide hb1; clear k1 hb1)
  obtain ⟨m, hm⟩ : ∃ m, u1.heap.size = m := ⟨_, rfl⟩
  have HST : Hid (NSt w ((u1.alloc (.map #[] 0)).alloc (.cells #[.int .i64 0, .int .i64 0, .int .i64 0, .int .i64 0, .int .i64 0, .int .i64 0, .int .i64 0, .int .i64 0] 46)) p (fun k => k = p) [] m (m + 1)) := by
    have hb : Below u1.heap.size u1 ((u1.alloc (.map #[] 0)).alloc (.cells #[.int .i64 0, .int .i64 0, .int .i64 0, .int .i64 0, .int .i64 0, .int .i64 0, .int .i64 0, .int .i64 0] 46)) := bel_al (bel_al (Below.refl _ _) _) _
    have h1 := HK1.out.1 p rfl
    have h2 := HB1.out.size
    refine ⟨HK1.out.on hb, ?_, ?_, ⟨by omega, by omega, by omega, by omega⟩, bel_on' HB1.out hb⟩
    · rw [← hm]
      exact (Mx.new tripOf Try.prog 3 u1).on (bel_al (Below.refl _ _) _)
    · have := World.alloc_heap_new (u1.alloc (.map #[] 0)) (.cells #[.int .i64 0, .int .i64 0, .int .i64 0, .int .i64 0, .int .i64 0, .int .i64 0, .int .i64 0, .int .i64 0] 46)
      rw [World.size_alloc, hm] at this
      exact this
  rw [hm]
  clear HK1 HB1 hm hmm
  go_loopw [20] (fun i wr => NRel w p m (m + 1) l0.length i wr) (fun i _ => l0.length - (Go.RowKit.intOf i).toNat)
  case atStart => exact ⟨0, [], _, rfl, Nat.zero_le _, Nat.zero_le _, HST⟩
  case round =>
    obtain ⟨j, l, E, rfl, hj, hj80, HS⟩ := hrel
    clear HST
    by_cases hlt : j < l0.length
    · have ql : (j : Int) < (l0.length : Int) := by omega
      obtain ⟨cl, hc⟩ : ∃ cl, l0[j]? = some cl := ⟨l0[j], by simp [hlt]⟩
      rcases HCL.out.below HS.out.2.2.2.2 with h0 | ⟨bc, off, rfl, hca⟩
      · subst h0; simp at hlt
      obtain ⟨⟨c0, c1, c2⟩, hok⟩ := hca j cl hc
      obtain ⟨d0, d1, d2⟩ := cl
      dsimp only at c0 c1 c2 hok
      clear hca hc hok
      by_cases h80 : j < 80
      · have q80 : ¬ (j : Int) ≥ 80 := by omega
        obtain ⟨bX1, bX2⟩ := um_bd d0 20 (by omega) (by omega)
        obtain ⟨X, hX⟩ : ∃ X, um d0 20 = X := ⟨_, rfl⟩
        rw [hX] at bX1 bX2
        obtain ⟨bK1, bK2⟩ := um_bd d1 8 (by omega) (by omega)
        obtain ⟨K, hK⟩ : ∃ K, um d1 8 = K := ⟨_, rfl⟩
        rw [hK] at bK1 bK2
        obtain ⟨bQ1, bQ2⟩ := um_bd d2 100000 (by omega) (by omega)
        obtain ⟨Q, hQ⟩ : ∃ Q, um d2 100000 = Q := ⟨_, rfl⟩
        rw [hQ] at bQ1 bQ2
        unfold um at hX hK hQ
        have hwX : (Lit.int .i64 (1 + X)).wf = true := wf_of (by omega) (by omega)
        obtain ⟨U, hU⟩ : ∃ U, U = wr.alloc (.cells #[.int .i64 (1 + X), .int .i64 K, .int .i64 (1 + Q)] 30) := ⟨_, rfl⟩
        have hbU : Below wr.heap.size wr U := by rw [hU]; exact bel_al (Below.refl _ _) _
        have HSU := hide (HS.out.on hbU)
        cases hf : findP l (1 + X) with
        | none =>
          have he : shipE l (1 + X) K (1 + Q) = 0 := by rw [shipE_of ⟨isI_iff.2 (by omega), isIt_iff.2 (by omega), by omega, by omega⟩, hf]; rfl
          have A := ship_by HSU.out.1 hwX he (shipL_ok he)
          have bS : 0 ≤ wentP l K ∧ wentP l K ≤ 1000000000000 := HSU.out.1.good.went K
          obtain ⟨bS1, bS2⟩ := bS
          obtain ⟨S, hS⟩ : ∃ S, wentP l K = S := ⟨_, rfl⟩
          rw [hS] at bS1 bS2
          have HNX : Hid (∀ V, Pc w.heap.size (growE E U V) V p (l ++ [(1 + X, K, 1 + Q)]) → Rg.Kept (fun i _ => E i) U V →
              V.cell? ⟨wr.heap.size, 0, none⟩ = some (.int .i64 (1 + X)) ∧ V.cell? ⟨wr.heap.size, 1, none⟩ = some (.int .i64 K) ∧ V.cell? ⟨wr.heap.size, 2, none⟩ = some (.int .i64 (1 + Q)) ∧ wr.heap.size < V.heap.size ∧
              (Instr.lookup 45 (.map (some m)) (.int .i64 (1 + X)) false).run Try.prog V = .ok (.agg #[.int .i64 0, .int .i64 0, .int .i64 0]) V ∧
              ∃ V2, (Instr.mapUpdate 45 (.map (some m)) (.int .i64 (1 + X)) (.agg #[.int .i64 (1 + X), .int .i64 K, .int .i64 (1 + Q)])).run Try.prog (V.alloc (.cells #[.int .i64 0, .int .i64 0, .int .i64 0] 30)) = .ok () V2 ∧
                V2.cell? ⟨wr.heap.size, 0, none⟩ = some (.int .i64 (1 + X)) ∧ V2.cell? ⟨wr.heap.size, 1, none⟩ = some (.int .i64 K) ∧ V2.cell? ⟨wr.heap.size, 2, none⟩ = some (.int .i64 (1 + Q)) ∧
                V2.cell? ⟨m + 1, K.toNat, none⟩ = some (.int .i64 S) ∧ V2.frozen? ⟨m + 1, K.toNat, none⟩ = false ∧
                NSt w (V2.setCell ⟨m + 1, K.toNat, none⟩ (.int .i64 (S + (1 + Q)))) p (growE E U V) (l ++ [(1 + X, K, 1 + Q)]) m (m + 1) ∧
                (∀ u, Below V2.heap.size (V2.setCell ⟨m + 1, K.toNat, none⟩ (.int .i64 (S + (1 + Q)))) u → Calls Try.prog 10 #[.pointer (some ⟨p, 0, none⟩), .int .i64 (1 + X)] u fun e w' => e = .returned (.tuple #[.int .i64 K, .int .i64 (1 + Q), .bool true]) ∧ Below u.heap.size u w') ∧
                (∀ u, Below V2.heap.size (V2.setCell ⟨m + 1, K.toNat, none⟩ (.int .i64 (S + (1 + Q)))) u → (Instr.lookup 45 (.map (some m)) (.int .i64 (1 + X)) false).run Try.prog u = .ok (.agg #[.int .i64 (1 + X), .int .i64 K, .int .i64 (1 + Q)]) u)) := fun V K2 O2 => by
            have hlw : ∀ o, ¬ (fun (i : Nat) (_ : Obj) => E i) wr.heap.size o := fun _ e => by have := (HS.out.1.1 _ e).2; omega
            have g0 : U.cell? ⟨wr.heap.size, 0, none⟩ = some (.int .i64 (1 + X)) := by rw [hU]; simp
            have g1 : U.cell? ⟨wr.heap.size, 1, none⟩ = some (.int .i64 K) := by rw [hU]; simp
            have g2 : U.cell? ⟨wr.heap.size, 2, none⟩ = some (.int .i64 (1 + Q)) := by rw [hU]; simp
            have v0 := kept_cell O2 hlw g0
            have v1 := kept_cell O2 hlw g1
            have v2 := kept_cell O2 hlw g2
            have hlk := (HSU.out.ship O2).1.look Try.underlying3 Try.underlying45 (z := (0, 0, 0)) (zeroC _) hwX
            rw [show tripR l (1 + X) = none by unfold tripR; rw [hf]; rfl] at hlk
            have hbA : Below V.heap.size V (V.alloc (.cells #[.int .i64 0, .int .i64 0, .int .i64 0] 30)) := bel_al (Below.refl _ _) _
            obtain ⟨V2, hr, kp, s0, s1, st⟩ := HSU.out.next K2 O2 hf ⟨bK1, bK2⟩ hwX hbA
            rw [hS] at s0 st
            have hml := HS.out.lts.1
            have hnm : ∀ o, ¬ (fun (i : Nat) (_ : Obj) => i = m) wr.heap.size o := fun _ e => by omega
            refine ⟨v0, v1, v2, World.block_lt_of_cell? _ _ v0, hlk, V2, hr, kept_cell kp hnm (cellL v0 hbA), kept_cell kp hnm (cellL v1 hbA), kept_cell kp hnm (cellL v2 hbA), s0, s1, st, fun u hu => ?_, fun u hu => ?_⟩
            · have hu' : Below (V2.setCell ⟨m + 1, K.toNat, none⟩ (.int .i64 (S + (1 + Q)))).heap.size (V2.setCell ⟨m + 1, K.toNat, none⟩ (.int .i64 (S + (1 + Q)))) u := by simpa using hu
              have := phas_any (st.1.on hu') hwX
              rwa [show findP (l ++ [(1 + X, K, 1 + Q)]) (1 + X) = some (K, 1 + Q) by rw [findP_app, hf, findP_one, if_pos rfl]; rfl] at this
            · have hu' : Below (V2.setCell ⟨m + 1, K.toNat, none⟩ (.int .i64 (S + (1 + Q)))).heap.size (V2.setCell ⟨m + 1, K.toNat, none⟩ (.int .i64 (S + (1 + Q)))) u := by simpa using hu
              have := (st.on hu').look hwX
              rwa [show tripR (l ++ [(1 + X, K, 1 + Q)]) (1 + X) = some (1 + X, K, 1 + Q) by rw [tripR_more hf, updO_same]] at this
          rw [hU] at A HNX
          have HNE : Hid (wr.heap.size ≠ m + 1) := by show _ ≠ _; have := HS.out.lts.2.1; omega
          clear hbU HS HSU hf he hwX hS
          go_wp2_with (first
            | (go_at_call 8; refine A.mono ?_; clear A; rintro e V ⟨rfl, K2, O2⟩; obtain ⟨k0, k1, k2, hsz, hlk, V2, hr2, f0, f1, f2, s0, s1, hst, hh, hlk2⟩ := HNX.out V K2 O2; have HST := hide hst; have HHH := hide hh; have HLK := hide hlk2; clear K2 O2 hst hh hlk2)
            | go_in)
          go_region
          obtain ⟨W3, hW3⟩ : ∃ W3, (V2.setCell ⟨m + 1, K.toNat, none⟩ (.int .i64 (S + (1 + Q)))).drew = W3 := ⟨_, rfl⟩
          have hb3 : Below V2.heap.size (V2.setCell ⟨m + 1, K.toNat, none⟩ (.int .i64 (S + (1 + Q)))) W3 := by rw [← hW3]; exact (Below.refl _ _).drew
          have hb3' : Below (V2.setCell ⟨m + 1, K.toNat, none⟩ (.int .i64 (S + (1 + Q)))).heap.size (V2.setCell ⟨m + 1, K.toNat, none⟩ (.int .i64 (S + (1 + Q)))) W3 := by rw [← hW3]; exact (Below.refl _ _).drew
          have hs3 : V2.heap.size ≤ W3.heap.size := by rw [← hW3]; simp
          have HS3 := hide (HST.out.on hb3')
          have hA3 := HHH.out W3 hb3
          have e0 : W3.cell? ⟨wr.heap.size, 0, none⟩ = some (.int .i64 (1 + X)) := by
            rw [← hW3]
            have := kept_cell (E := fun i _ => i = m + 1) (Rg.Kept.setCell (a := ⟨m + 1, K.toNat, none⟩) (.int .i64 (S + (1 + Q))) (fun _ => rfl)) (fun _ e => HNE.out e) f0
            simpa using this
          have HL3 : Hid (∀ u, Below W3.heap.size W3 u → (Instr.lookup 45 (.map (some m)) (.int .i64 (1 + X)) false).run Try.prog u = .ok (.agg #[.int .i64 (1 + X), .int .i64 K, .int .i64 (1 + Q)]) u) := fun u hu => HLK.out u (hb3.trans (hu.mono hs3))
          rw [hW3]
          have hc1 := callIt
          have hc2 := callQ
          clear HST HHH HLK hW3 hb3 hb3' hs3 f0 f1 f2 s0 s1 hr2 hlk k0 k1 k2
          go_wp2_with (first
            | (go_at_call 10; refine hA3.mono ?_; clear hA3; rintro e W4 ⟨rfl, b4⟩; have e4 := cellL e0 b4; have l4 := HL3.out W4 b4; have HS4 := hide (HS3.out.on b4); clear b4 HS3 HL3)
            | go_in)
          go_roundw
          case rel => exact ⟨j + 1, _, _, by go_num, by omega, by omega, HS4⟩
          case measure => simp [Go.RowKit.intOf]; omega
        | some c =>
          obtain ⟨y1, y2⟩ := c
          have he : shipE l (1 + X) K (1 + Q) = 8 := by rw [shipE_of ⟨isI_iff.2 (by omega), isIt_iff.2 (by omega), by omega, by omega⟩, hf]; rfl
          have A := ship_by HSU.out.1 hwX he (shipL_no (by omega))
          have HNX : Hid (∀ V, Pc w.heap.size (growE E U V) V p l → Rg.Kept (fun i _ => E i) U V →
              V.cell? ⟨wr.heap.size, 0, none⟩ = some (.int .i64 (1 + X)) ∧ wr.heap.size < V.heap.size ∧ NSt w V p (growE E U V) l m (m + 1) ∧
              (∀ u, Below V.heap.size V u → Calls Try.prog 10 #[.pointer (some ⟨p, 0, none⟩), .int .i64 (1 + X)] u fun e w' => e = .returned (.tuple #[.int .i64 y1, .int .i64 y2, .bool true]) ∧ Below u.heap.size u w') ∧
              (∀ u, Below V.heap.size V u → (Instr.lookup 45 (.map (some m)) (.int .i64 (1 + X)) false).run Try.prog u = .ok (.agg #[.int .i64 (1 + X), .int .i64 y1, .int .i64 y2]) u)) := fun V K2 O2 => by
            have hlw : ∀ o, ¬ (fun (i : Nat) (_ : Obj) => E i) wr.heap.size o := fun _ e => by have := (HS.out.1.1 _ e).2; omega
            have g0 : U.cell? ⟨wr.heap.size, 0, none⟩ = some (.int .i64 (1 + X)) := by rw [hU]; simp
            have v0 := kept_cell O2 hlw g0
            have st := HSU.out.same K2 O2
            refine ⟨v0, World.block_lt_of_cell? _ _ v0, st, fun u hu => ?_, fun u hu => ?_⟩
            · have := phas_any (st.1.on hu) hwX
              rwa [hf] at this
            · have := (st.on hu).look hwX
              rwa [show tripR l (1 + X) = some (1 + X, y1, y2) by unfold tripR; rw [hf]; rfl] at this
          rw [hU] at A HNX
          have qx : (1 + X == 0) = false := by simp; omega
          have hc1 := callIt
          have hc2 := callQ
          clear hbU HS HSU hf he hwX
          go_wp2_with (first
            | (go_at_call 8; refine A.mono ?_; clear A; rintro e V ⟨rfl, K2, O2⟩; obtain ⟨k0, hsz, hst, hh, hlk2⟩ := HNX.out V K2 O2; have hlk := hlk2 V (Below.refl _ _); have HST := hide hst; have HHH := hide hh; have HLK := hide hlk2; have hA3 := HHH.out (V.alloc (.cells #[.int .i64 (1 + X), .int .i64 y1, .int .i64 y2] 30)) (bel_al (Below.refl _ _) _); clear K2 O2 hst hh hlk2)
            | (go_at_call 10; refine hA3.mono ?_; clear hA3; rintro e W4 ⟨rfl, b4'⟩; have b4 : Below V.heap.size V W4 := bel_on' (bel_al (Below.refl _ _) _) b4'; have e4 := cellL k0 b4; have l4 := HLK.out W4 b4; have HS4 := hide (HST.out.on b4); clear b4 b4' HST HLK)
            | go_in)
          go_roundw
          case rel => exact ⟨j + 1, _, _, by go_num, by omega, by omega, HS4⟩
          case measure => simp [Go.RowKit.intOf]; omega
      · have q80 : (j : Int) ≥ 80 := by omega
        clear HCL
        obtain ⟨W0, hW0⟩ : ∃ W0, W0 = wr := ⟨_, rfl⟩
        subst hW0
        obtain ⟨g, hg⟩ : ∃ g : Nat → Int, g = fun k : Nat => wentP l k := ⟨_, rfl⟩
        have HGK : Hid (∀ k : Nat, g k = wentP l k) := fun k => by rw [hg]
        have hcc : ∀ k : Nat, k < 8 → W0.cell? ⟨m + 1, k, none⟩ = some (.int .i64 (g k)) := fun k hk => by rw [hg]; exact HS.out.2.2.1.cell hk
        have cc0 := hcc 0 (by omega)
        have cc1 := hcc 1 (by omega)
        have cc2 := hcc 2 (by omega)
        have cc3 := hcc 3 (by omega)
        have cc4 := hcc 4 (by omega)
        have cc5 := hcc 5 (by omega)
        have cc6 := hcc 6 (by omega)
        have cc7 := hcc 7 (by omega)
        have hlt1 := HS.out.lts.2.1
        clear hg hcc
        go_wp2
        clear cc0 cc1 cc2 cc3 cc4 cc5 cc6 cc7
        go_loopw [107] (fun i wr => ∃ k : Nat, i = .int .i64 k ∧ k ≤ 8 ∧ Hid (NSt w wr p E l m (m + 1))) (fun i _ => 8 - (Go.RowKit.intOf i).toNat)
        case atStart => exact ⟨0, rfl, Nat.zero_le _, by first | exact HS | exact HS.out.on (bel_al (Below.refl _ _) _)⟩
        case round =>
          obtain ⟨k, rfl, hk, HS2⟩ := hrel
          clear HS
          by_cases hk8 : k < 8
          · have qk : (k : Int) < 8 := by omega
            have hix := index_8 g hk8 wr
            have WE := pwent_any HS2.out.1 k
            rw [← HGK.out k] at WE
            have qg : (g k != g k) = false := by simp
            go_wp2_with (go_at_call 12; refine WE.mono ?_; clear WE; rintro e V ⟨rfl, bV⟩; have HS3 := hide (HS2.out.on bV); clear bV)
            go_roundw
            case rel => exact ⟨k + 1, by go_num, by omega, HS3⟩
            case measure => simp [Go.RowKit.intOf]; omega
          · have qk : ¬ (k : Int) < 8 := by omega
            have LI := pids_any HS2.out.1
            have HAW := hide pawake_any
            have hl1 : (idsP l).length ≤ 1000 := by rw [idsP_len]; exact HS2.out.1.good.len
            have HLN : Hid (∀ u, Below wr.heap.size wr u → ∀ ty, (Builtin.len_ #[45] ty #[.map (some m)]).run Try.prog u = .ok (.int .i64 (idsP l).length) u) := fun u hu ty => (HS2.out.on hu).len ty
            obtain ⟨L, hL⟩ : ∃ L, idsP l = L := ⟨_, rfl⟩
            rw [hL] at LI hl1 HLN
            have HB2 := hide HS2.out.2.2.2.2
            clear hL HS2
            go_wp2_with (first
              | (go_at_call 15; refine LI.mono ?_; clear LI; rintro e V ⟨ag, cg, rfl, -, -, bV⟩; have hln := HLN.out V bV; have HBV := hide bV; clear bV HLN)
              | (go_at_call 17; refine (HAW.out _).mono ?_; rintro e V5 ⟨rfl, b5⟩; have HB5 := hide b5; clear b5))
            go_ret
            exact ⟨rfl, bel_on' HB2.out (bel_on' HBV.out HB5.out)⟩
    · have ql : ¬ (j : Int) < (l0.length : Int) := by omega
      clear HCL
      obtain ⟨W0, hW0⟩ : ∃ W0, W0 = wr := ⟨_, rfl⟩
      subst hW0
      obtain ⟨g, hg⟩ : ∃ g : Nat → Int, g = fun k : Nat => wentP l k := ⟨_, rfl⟩
      have HGK : Hid (∀ k : Nat, g k = wentP l k) := fun k => by rw [hg]
      have hcc : ∀ k : Nat, k < 8 → W0.cell? ⟨m + 1, k, none⟩ = some (.int .i64 (g k)) := fun k hk => by rw [hg]; exact HS.out.2.2.1.cell hk
      have cc0 := hcc 0 (by omega)
      have cc1 := hcc 1 (by omega)
      have cc2 := hcc 2 (by omega)
      have cc3 := hcc 3 (by omega)
      have cc4 := hcc 4 (by omega)
      have cc5 := hcc 5 (by omega)
      have cc6 := hcc 6 (by omega)
      have cc7 := hcc 7 (by omega)
      have hlt1 := HS.out.lts.2.1
      clear hg hcc
      go_wp2
      clear cc0 cc1 cc2 cc3 cc4 cc5 cc6 cc7
      go_loopw [107] (fun i wr => ∃ k : Nat, i = .int .i64 k ∧ k ≤ 8 ∧ Hid (NSt w wr p E l m (m + 1))) (fun i _ => 8 - (Go.RowKit.intOf i).toNat)
      case atStart => exact ⟨0, rfl, Nat.zero_le _, by first | exact HS | exact HS.out.on (bel_al (Below.refl _ _) _)⟩
      case round =>
        obtain ⟨k, rfl, hk, HS2⟩ := hrel
        clear HS
        by_cases hk8 : k < 8
        · have qk : (k : Int) < 8 := by omega
          have hix := index_8 g hk8 wr
          have WE := pwent_any HS2.out.1 k
          rw [← HGK.out k] at WE
          have qg : (g k != g k) = false := by simp
          go_wp2_with (go_at_call 12; refine WE.mono ?_; clear WE; rintro e V ⟨rfl, bV⟩; have HS3 := hide (HS2.out.on bV); clear bV)
          go_roundw
          case rel => exact ⟨k + 1, by go_num, by omega, HS3⟩
          case measure => simp [Go.RowKit.intOf]; omega
        · have qk : ¬ (k : Int) < 8 := by omega
          have LI := pids_any HS2.out.1
          have HAW := hide pawake_any
          have hl1 : (idsP l).length ≤ 1000 := by rw [idsP_len]; exact HS2.out.1.good.len
          have HLN : Hid (∀ u, Below wr.heap.size wr u → ∀ ty, (Builtin.len_ #[45] ty #[.map (some m)]).run Try.prog u = .ok (.int .i64 (idsP l).length) u) := fun u hu ty => (HS2.out.on hu).len ty
          obtain ⟨L, hL⟩ : ∃ L, idsP l = L := ⟨_, rfl⟩
          rw [hL] at LI hl1 HLN
          have HB2 := hide HS2.out.2.2.2.2
          clear hL HS2
          go_wp2_with (first
            | (go_at_call 15; refine LI.mono ?_; clear LI; rintro e V ⟨ag, cg, rfl, -, -, bV⟩; have hln := HLN.out V bV; have HBV := hide bV; clear bV HLN)
            | (go_at_call 17; refine (HAW.out _).mono ?_; rintro e V5 ⟨rfl, b5⟩; have HB5 := hide b5; clear b5))
          go_ret
          exact ⟨rfl, bel_on' HB2.out (bel_on' HBV.out HB5.out)⟩
end Go.Proofs.Ytkaniplkobnpjaa
