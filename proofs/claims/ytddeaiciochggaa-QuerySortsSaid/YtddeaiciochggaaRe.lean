/- Gather on the two cases of the statements: no rows in one group, and the rows of the example by their first value. Conditions: the items as the statements' law lays them. -/
import Derived.Test.YtddeaiciochggaaRd
namespace Go.Proofs.Ytddeaiciochggaa
open Go.RowKit Go.Sort
set_option linter.unusedSimpArgs false
set_option linter.unusedVariables false

set_option maxHeartbeats 2000000 in
theorem grouped_nil (w : World) : Calls Try.prog 66 #[.slice none 0 0, .int .i64 (-1)] w fun e w' => e = .returned (.tuple #[.slice (some ⟨w.heap.size, 0, none⟩) 1 1, .int .i64 0]) ∧ w' = w.alloc (.cells #[.slice none 0 0] 124) := by
  go_enter Try.func66, Try.ntmps66
  go_wp2
  go_ret2
  exact ⟨rfl, rfl⟩
theorem grp_form {w : World} {B n : Nat} {u : Value} {xs : List Value} (h : w.ownsRow B 85 1 u (n + 1) xs) : ∃ g cap, u = .slice (some ⟨g, 0, none⟩) (n + 1) cap := by
  rcases h.2 with ⟨h1, h0⟩ | ⟨g, cap, cur, h1, _⟩
  · cases h0
  · exact ⟨g, cap, h1⟩
/-- The rows that Gather answers of the example, as numbers. -/
def resN : List (List Vl) := [[vN 0 (by decide)]]
def resT : List (List Vl) := [[vN 1 (by decide), vN 1 (by decide)], [vN 2 (by decide), vN 2 (by decide)]]
theorem mk_nil (w : World) (I0 : Addr) (hi : ItC w I0 (18, 0)) : Mk (w.alloc (.cells #[.slice none 0 0] 124)) ⟨w.heap.size, 0, none⟩ [.slice none 0 0] I0 [(18, 0)] resN := by
  refine ⟨fun j u h => ?_, fun k x h => ?_, rfl, fun r hr => ?_, fun W hW j k u x r v h1 h2 h3 h4 => ?_⟩
  · match j, h with
    | 0, h =>
      simp at h
      subst h
      exact ⟨by rw [add0]; exact (cell_last _ _ _ _ _ rfl).trans rfl, none, 0, 0, rfl⟩
  · match k, h with
    | 0, h =>
      simp at h
      subst h
      rw [Nat.zero_mul, add0]
      exact hi.below (below1 _ _)
  · simp [resN] at hr
    subst hr
    rfl
  · match j, k, h1, h2, h3 with
    | 0, 0, h1, h2, h3 =>
      simp [resN] at h1 h2 h3
      subst h1
      subst h2
      subst h3
      simp at h4
      subst h4
      exact rp18_any none 0 0 W (by decide)
set_option maxHeartbeats 4000000 in
theorem gather_nil (I0 : Addr) (ic : Nat) (w : World) (hi : ItC w I0 (18, 0)) : Calls Try.prog 43 #[.slice none 0 0, .int .i64 (-1), .slice (some I0) 1 ic] w fun e w' => ∃ v cs, e = .returned (.tuple #[v, .int .i64 0]) ∧ Frs w' w.heap.size v cs resN ∧ Below w.heap.size w w' := by
  have HG := Lib.hid fun W => grouped_nil W
  have HM := Lib.hid (made_any ⟨w.heap.size, 0, none⟩ I0 1 ic [.slice none 0 0] [(18, 0)] resN _ (mk_nil w I0 hi) (by decide) (by decide))
  have HL := Lib.hid (fun (v : Value) (cs : List Value) (W : World) (h : Frs W (w.heap.size + 1) v cs resN) => (⟨own_le h.own (by omega), h.len, fun j u r a b => own_le (h.rows j u r a b) (by omega)⟩ : Frs W w.heap.size v cs resN))
  simp only [World.size_alloc, List.length_cons, List.length_nil, Nat.zero_add] at HM
  clear hi
  go_enter Try.func43, Try.ntmps43
  go_wp2_with (first
    | (go_at_call 66; (with_reducible refine (HG.out _).mono ?_); rintro e w1 ⟨rfl, rfl⟩)
    | (go_at_call 67; (with_reducible refine HM.out.mono ?_); rintro e w2 ⟨v, cs, rfl, hF, hb⟩; have HF := Lib.hid hF; have HB := Lib.hid hb; clear hF hb))
  go_ret2
  exact ⟨v, cs, rfl, HL.out _ _ _ HF.out, (below1 _ _).trans (HB.out.mono (by omega))⟩
theorem mk_3 {w : World} {B : Nat} {T0 I0 B1 B2 : Addr} {gc b1 b2 : Nat} {z : Value} {us : List (Value × List Value)} (hG : GS w B (.slice (some T0) 2 gc) us) (hU : us.map Prod.snd = [[.slice (some B1) 1 b1], [.slice (some B2) 1 b2, z]]) (h1 : RdL w (some B1) r1) (h2 : RdL w (some B2) r2) (hi : ItC w I0 (1, 1)) (hj : ItC w ⟨I0.block, I0.off + 7, none⟩ (18, 0)) :
    ∃ gv, gv.length = 2 ∧ Mk w T0 gv I0 [(1, 1), (18, 0)] resT := by
  obtain ⟨⟨y0, l0⟩, ⟨y1, l1⟩, hus, e0, e1⟩ := two_of hU
  subst hus
  simp only at e0 e1
  subst e0
  subst e1
  have o0 : w.ownsRow B 85 1 y0 (0 + 1) [.slice (some B1) 1 b1] := hG.each (y0, [.slice (some B1) 1 b1]) (by simp)
  have o1 : w.ownsRow B 85 1 y1 (1 + 1) [.slice (some B2) 1 b2, z] := hG.each (y1, [.slice (some B2) 1 b2, z]) (by simp)
  have ot : w.ownsRow B 124 1 (.slice (some T0) 2 gc) 2 [y0, y1] := hG.own
  obtain ⟨g0, c0, f0⟩ := grp_form o0
  obtain ⟨g1, c1, f1⟩ := grp_form o1
  subst f0
  subst f1
  have q0 : w.cell? ⟨g0, 0, none⟩ = some (.slice (some B1) 1 b1) := (o0.cellAt 0 (by decide)).trans rfl
  have q1 : w.cell? ⟨g1, 0, none⟩ = some (.slice (some B2) 1 b2) := (o1.cellAt 0 (by decide)).trans rfl
  obtain ⟨gt, hgt⟩ : ∃ g, T0 = ⟨g, 0, none⟩ := by
    obtain ⟨g, cap, hg⟩ : ∃ g cap, Value.slice (some T0) 2 gc = .slice (some ⟨g, 0, none⟩) 2 cap := by
      rcases ot.2 with ⟨h1, h0⟩ | ⟨g, cap, cur, h1, _⟩
      · cases h0
      · exact ⟨g, cap, h1⟩
    injection hg with hg
    injection hg with hg
    exact ⟨g, hg⟩
  subst hgt
  refine ⟨[.slice (some ⟨g0, 0, none⟩) 1 c0, .slice (some ⟨g1, 0, none⟩) 2 c1], rfl, fun j u h => ?_, fun k x h => ?_, rfl, fun r hr => ?_, fun W hW j k u x r v a1 a2 a3 a4 => ?_⟩
  · match j, h with
    | 0, h =>
      simp at h
      subst h
      exact ⟨(ot.cellAt 0 (by decide)).trans rfl, _, _, _, rfl⟩
    | 1, h =>
      simp at h
      subst h
      exact ⟨(ot.cellAt 1 (by decide)).trans rfl, _, _, _, rfl⟩
  · match k, h with
    | 0, h =>
      simp at h
      subst h
      rw [Nat.zero_mul, add0]
      exact hi
    | 1, h =>
      simp at h
      subst h
      exact hj
  · simp [resT] at hr
    rcases hr with rfl | rfl <;> rfl
  · have p0 := (hW.cell (cell_lt q0)).trans q0
    have p1 := (hW.cell (cell_lt q1)).trans q1
    match j, k, a1, a2, a3 with
    | 0, 0, a1, a2, a3 =>
      simp [resT] at a1 a2 a3
      subst a1 a2 a3
      simp at a4
      subst a4
      exact rp1_any _ 1 c0 B1 b1 _ W p0 (h1.below hW) (by decide)
    | 0, 1, a1, a2, a3 =>
      simp [resT] at a1 a2 a3
      subst a1 a2 a3
      simp at a4
      subst a4
      exact rp18_any _ 1 c0 W (by decide)
    | 1, 0, a1, a2, a3 =>
      simp [resT] at a1 a2 a3
      subst a1 a2 a3
      simp at a4
      subst a4
      exact rp1_any _ 2 c1 B2 b2 _ W p1 (h2.below hW) (by decide)
    | 1, 1, a1, a2, a3 =>
      simp [resT] at a1 a2 a3
      subst a1 a2 a3
      simp at a4
      subst a4
      exact rp18_any _ 2 c1 W (by decide)
set_option maxHeartbeats 4000000 in
theorem gather_3 (A I0 : Addr) (c ic : Nat) (w : World) (hr : RdR w (some A) [r2, r1, r2]) (hi : ItC w I0 (1, 1)) (hj : ItC w ⟨I0.block, I0.off + 7, none⟩ (18, 0)) : Calls Try.prog 43 #[.slice (some A) 3 c, .int .i64 0, .slice (some I0) 2 ic] w fun e w' => ∃ v cs B, e = .returned (.tuple #[v, .int .i64 0]) ∧ Frs w' B v cs resT ∧ Below w.heap.size w w' := by
  have HG := Lib.hid (grouped_3 A c w hr)
  have HM := Lib.hid (fun (W : World) (B : Nat) (T0 B1 B2 : Addr) (gc b1 b2 : Nat) (z : Value) (us : List (Value × List Value)) (hG : GS W B (.slice (some T0) 2 gc) us) (hU : us.map Prod.snd = [[.slice (some B1) 1 b1], [.slice (some B2) 1 b2, z]]) (h1 : RdL W (some B1) r1) (h2 : RdL W (some B2) r2) (hb : Below w.heap.size w W) => (by
    obtain ⟨gv, hl, hm⟩ := mk_3 hG hU h1 h2 (hi.below hb) (hj.below hb)
    have := made_any T0 I0 gc ic gv [(1, 1), (18, 0)] resT W hm (by omega) (by decide)
    rw [hl] at this
    exact this : Calls Try.prog 67 #[.slice (some T0) 2 gc, .slice (some I0) 2 ic, .func (.func 68) #[] #[]] W fun e w' => ∃ v cs, e = .returned (.tuple #[v, .int .i64 0]) ∧ Frs w' W.heap.size v cs resT ∧ Below W.heap.size W w'))
  clear hi hj hr
  go_enter Try.func43, Try.ntmps43
  go_wp2_with (first
    | (go_at_call 66; (with_reducible refine HG.out.mono ?_); rintro e w1 ⟨T0, gc, us, B1, B2, b1, b2, z, B, rfl, hG, hU, h1, h2, hb⟩; have HMM := Lib.hid (HM.out w1 B T0 B1 B2 gc b1 b2 z us hG hU h1 h2 hb); have HB1 := Lib.hid hb; clear hG hU h1 h2 hb)
    | (go_at_call 67; (with_reducible refine HMM.out.mono ?_); rintro e w2 ⟨v, cs, rfl, hF, hb⟩; have HF := Lib.hid hF; have HB := Lib.hid (thn HB1.out hb); clear hF hb))
  go_ret2
  exact ⟨v, cs, _, rfl, HF.out, HB.out⟩
end Go.Proofs.Ytddeaiciochggaa
