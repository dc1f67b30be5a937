/- A catalog of the program's held against the statements' own, of the same tables: the walk of Unlike. Conditions: catalogs that are read in memory. -/
import Derived.Test.YtipcacplphidhaaGreatQc
import Derived.Test.YtipcacplphidhaaGreatQd
import Derived.Test.YtipcacplphidhaaGreatQb
import Derived.StillTailTactics
/- A table as a list of values: plain mathematics; the walks of text, number and truth. Conditions: texts that every machine keeps. -/
namespace Go.Proofs.YtipcacplphidhaaGreat
open Go.RowKit Go.Sort Go.Maps
set_option linter.unusedSimpArgs false
set_option linter.unusedVariables false

/-- A value. -/
structure V3 where
  k : Int
  n : Int
  s : ByteArray
@[reducible] def V3.val (v : V3) : Value := .agg #[.int .i64 v.k, .int .i64 v.n, .string v.s]
def v3C (v : V3) : List Value := [.int .i64 v.k, .int .i64 v.n, .string v.s]
theorem v3C_len (v : V3) : (v3C v).length = 3 := rfl
def eT : ByteArray := ⟨#[]⟩
def vT (s : ByteArray) : V3 := ⟨3, 0, s⟩
def vN (n : Int) : V3 := ⟨1, n, eT⟩
def vB (b : Bool) : V3 := ⟨2, if b = true then 1 else 0, eT⟩
def colV (c : Cl) : List V3 := [vT c.m, vN c.k, vB c.nn]
def ixV (x : Ix) : List V3 := [vT x.m, vN x.c]
/-- What Encode makes of a table. -/
def encV (t : Tb) : List V3 := [vT t.m, vN t.key, vN t.cols.length] ++ (t.cols.flatMap colV ++ (vN t.idx.length :: t.idx.flatMap ixV))
/-- A value's three cells at p. -/
def CellV (w : World) (p : Addr) (v : V3) : Prop := w.cell? p = some (.int .i64 v.k) ∧ w.cell? ⟨p.block, p.off + 1, none⟩ = some (.int .i64 v.n) ∧ w.cell? ⟨p.block, p.off + 2, none⟩ = some (.string v.s)
theorem CellV.below {w w' : World} {p : Addr} {v : V3} (h : CellV w p v) (hb : Below w.heap.size w w') : CellV w' p v :=
  ⟨(hb.cell (cell_lt h.1)).trans h.1, (hb.cell (p := ⟨p.block, p.off + 1, none⟩) (cell_lt h.2.1)).trans h.2.1, (hb.cell (p := ⟨p.block, p.off + 2, none⟩) (cell_lt h.2.2)).trans h.2.2⟩
def RdV (w : World) (A : Option Addr) (l : List V3) : Prop := l ≠ [] → ∃ ad, A = some ad ∧ ∀ j v, l[j]? = some v → CellV w (ad.add (j * 3)) v
theorem RdV.below {w w' : World} {A : Option Addr} {l : List V3} (h : RdV w A l) (hb : Below w.heap.size w w') : RdV w' A l := fun hl => by
  obtain ⟨ad, e, hc⟩ := h hl
  exact ⟨ad, e, fun j v hj => (hc j v hj).below hb⟩
theorem RdV.at_ {w : World} {A : Option Addr} {l : List V3} {j : Nat} (h : RdV w A l) (hj : j < l.length) : ∃ ad, A = some ad ∧ CellV w (ad.add (j * 3)) l[j] := by
  obtain ⟨ad, e, hc⟩ := h (by intro e; subst e; simp at hj)
  exact ⟨ad, e, hc j _ (List.getElem?_eq_getElem hj)⟩
/-- Values of the call's own. -/
abbrev OwnE (w : World) (B : Nat) (v : Value) (l : List V3) : Prop := w.ownsRow B 60 3 v l.length (l.flatMap v3C)
theorem v3C_one (l : List V3) : ∀ u ∈ l.flatMap v3C, u.oneCell' = true := fun u hu => by
  obtain ⟨v, _, hv⟩ := List.mem_flatMap.1 hu
  simp [v3C] at hv
  rcases hv with rfl | rfl | rfl <;> rfl
theorem ownE_rd {w : World} {B : Nat} {v : Value} {l : List V3} (h : OwnE w B v l) : ∃ A c, v = .slice A l.length c ∧ RdV w A l ∧ (A = none → l.length = 0 ∧ c = 0) ∧ l.length ≤ c := by
  rcases h.2 with ⟨rfl, h0⟩ | ⟨g, cap, cur, rfl, _, _, hle, _⟩
  · exact ⟨none, 0, by rw [h0], fun hl => absurd (List.eq_nil_of_length_eq_zero h0) hl, fun _ => ⟨h0, rfl⟩, by omega⟩
  · refine ⟨some ⟨g, 0, none⟩, cap, rfl, fun _ => ⟨_, rfl, fun j x hj => ?_⟩, (fun e => by cases e), hle⟩
    have hc := h.cells (g := g) rfl
    have h0 := hc (j * 3 + 0) _ (flatK_get v3C 3 v3C_len l j 0 x hj (by omega))
    have h1 := hc (j * 3 + 1) _ (flatK_get v3C 3 v3C_len l j 1 x hj (by omega))
    have h2 := hc (j * 3 + 2) _ (flatK_get v3C 3 v3C_len l j 2 x hj (by omega))
    rw [add_lit] at h0 h1 h2
    rw [add_lit]
    refine ⟨h0, ?_, ?_⟩
    · rw [← Nat.add_assoc] at h1; exact h1
    · rw [← Nat.add_assoc] at h2; exact h2
theorem owns_new (W : World) (B : Nat) (e : TypeId) (k n : Nat) (cs : Array Value) (xs : List Value) (hB : B ≤ W.heap.size) (h : cs.toList = xs) (hx : xs.length = n * k) (hn : n ≤ maxLen) : (W.alloc (.cells cs e)).ownsRow B e k (.slice (some ⟨W.heap.size, 0, none⟩) n n) n xs :=
  ⟨hx, .inr ⟨W.heap.size, n, cs, rfl, hB, heap_alloc_new W _, Nat.le_refl _, hn, by rw [← hx, ← h]; simp, by rw [h, ← hx, List.take_length]⟩⟩

end Go.Proofs.YtipcacplphidhaaGreat
/- Values held against themselves; a table of the program's held against the statements' own: the walks of slices.Equal and Alike. Conditions: lists that are read in memory. -/
namespace Go.Proofs.YtipcacplphidhaaGreat
open Go.RowKit Go.Sort Go.Maps
set_option linter.unusedSimpArgs false
set_option linter.unusedVariables false

theorem run_neqV (a : V3) (w : World) : (binOp .neq 60 (.agg #[.int .i64 a.k, .int .i64 a.n, .string a.s]) (.agg #[.int .i64 a.k, .int .i64 a.n, .string a.s])).run Tryz.prog w = .ok (.bool false) w := by
  rw [run_neq_struct, run_equalIn_agg w 9999 60 _ _ underV stoodV]
  simp [go_sem, Tryz.underlying60]
theorem stoodC : Tryz.prog.stoodInHeld 48 = false := by kernel_rfl
theorem underC : Tryz.prog.underlying 48 = some (.struct (Tryz.prog.fieldsOf 48)) := by simp only [Program.fieldsOf, Tryz.underlying48]
theorem guardC : Tryz.prog.eqGuardType Tryz.prog.depth 48 = false := by kernel_rfl
theorem run_neqC (a : Cl) (w : World) : (binOp .neq 48 (.agg #[.string a.m, .int .i64 a.k, .bool a.nn]) (.agg #[.string a.m, .int .i64 a.k, .bool a.nn])).run Tryz.prog w = .ok (.bool false) w := by
  rw [run_neq_struct, run_equalIn_agg w 9999 48 _ _ underC stoodC]
  simp [go_sem, Tryz.underlying48]
theorem stoodX : Tryz.prog.stoodInHeld 87 = false := by kernel_rfl
theorem underX : Tryz.prog.underlying 87 = some (.struct (Tryz.prog.fieldsOf 87)) := by simp only [Program.fieldsOf, Tryz.underlying87]
theorem guardX : Tryz.prog.eqGuardType Tryz.prog.depth 87 = false := by kernel_rfl
theorem run_neqX (a : Ix) (w : World) : (binOp .neq 87 (.agg #[.string a.m, .int .i64 a.c]) (.agg #[.string a.m, .int .i64 a.c])).run Tryz.prog w = .ok (.bool false) w := by
  rw [run_neq_struct, run_equalIn_agg w 9999 87 _ _ underX stoodX]
  simp [go_sem, Tryz.underlying87]
set_option maxRecDepth 100000 in
set_option maxHeartbeats 8000000 in
theorem alike_eq (t : Tb) (cA iA dA jA : Option Addr) (cc ic dc jc : Nat) (w : World) (hc : RdC w cA t.cols) (hx : RdX w iA t.idx) (hd : RdC w dA t.cols) (hy : RdX w jA t.idx) (hn : t.cols.length ≤ 9223372036854775807) (hm : t.idx.length ≤ 9223372036854775807) :
    Calls Tryz.prog 28 #[tbl t.m cA t.cols.length cc t.key iA t.idx.length ic, tbl t.m dA t.cols.length dc t.key jA t.idx.length jc] w fun e w' => e = .returned (.int .i64 0) ∧ Below w.heap.size w w' := by
  obtain ⟨m, cols, key, idx⟩ := t
  dsimp only at *
  have hb1 := below1 w (.cells #[.string m, .slice cA cols.length cc, .int .i64 key, .slice iA idx.length ic] 46)
  have hb2 := below1 (w.alloc (.cells #[.string m, .slice cA cols.length cc, .int .i64 key, .slice iA idx.length ic] 46)) (.cells #[.string m, .slice dA cols.length dc, .int .i64 key, .slice jA idx.length jc] 57)
  have HXA := Lib.hid ((Box4.new w m cA cols.length cc key iA idx.length ic 46).below hb2)
  have hxb := Box4.new (w.alloc (.cells #[.string m, .slice cA cols.length cc, .int .i64 key, .slice iA idx.length ic] 46)) m dA cols.length dc key jA idx.length jc 57
  rw [World.size_alloc] at hxb
  have HXB := Lib.hid hxb
  have HB2 := Lib.hid (thn hb1 hb2)
  have HC := Lib.hid (hc.below (thn hb1 hb2))
  have HX := Lib.hid (hx.below (thn hb1 hb2))
  have HD := Lib.hid (hd.below (thn hb1 hb2))
  have HY := Lib.hid (hy.below (thn hb1 hb2))
  obtain ⟨x0, x1, x2, x3⟩ := HXA.out
  obtain ⟨y0, y1, y2, y3⟩ := HXB.out
  clear hc hx hd hy hb1 hb2 hxb
  have hgc := guardC
  have hgx := guardX
  have e1 : (m.toList != m.toList) = false := by simp
  have e2 : (key != key) = false := by simp
  have e3 : ((cols.length : Int) != (cols.length : Int)) = false := by simp
  have e4 : ((idx.length : Int) != (idx.length : Int)) = false := by simp
  go_enter Tryz.func28, Tryz.ntmps28
  go_upto_region 1 with fail
  generalize (w.alloc (.cells #[.string m, .slice cA cols.length cc, .int .i64 key, .slice iA idx.length ic] 46)).alloc (.cells #[.string m, .slice dA cols.length dc, .int .i64 key, .slice jA idx.length jc] 57) = w2 at *
  go_wp2
  go_loopw [5] (fun i wr => ∃ j : Nat, i = .int .i64 j ∧ j ≤ cols.length ∧ Below w2.heap.size w2 wr) (fun i _ => cols.length - (intOf i).toNat)
  case atStart => exact ⟨0, rfl, by omega, Below.refl _ _⟩
  case round =>
    obtain ⟨j, rfl, hj, hBB⟩ := hrel
    have HBB := Lib.hid hBB
    clear hBB
    obtain ⟨x0, x1, x2, x3⟩ := HXA.out.below HBB.out
    obtain ⟨y0, y1, y2, y3⟩ := HXB.out.below HBB.out
    by_cases hlt : j < cols.length
    · obtain ⟨ad, e0, a0, a1, a2⟩ := (HC.out.below HBB.out).at_ hlt
      obtain ⟨bd, e1', b0, b1, b2⟩ := (HD.out.below HBB.out).at_ hlt
      subst e0
      subst e1'
      generalize cols[j] = x at a0 a1 a2 b0 b1 b2
      have hq := run_neqC x
      go_upto_region 6 with fail
      have p0 := cell_regrown a0
      have q0 := cell_regrown b0
      have p1 := cell_regrown a1
      have q1 := cell_regrown b1
      have p2 := cell_regrown a2
      have q2 := cell_regrown b2
      have r0 := cell_regrown x1
      have r1 := cell_regrown y1
      have hlt' : (j : Int) < (cols.length : Int) := by omega
      clear a0 a1 a2 b0 b1 b2 x0 x1 x2 x3 y0 y1 y2 y3
      refine wp_region_quiet_below (by kernel_rfl) (by kernel_rfl) ?_
      repeat (go_big_quiet_step (fail))
      refine wpQuiet_nil ?_
      intro w5 hw5
      obtain ⟨pp, rfl⟩ := hw5
      have HB5 := Lib.hid (below_regrown wr pp.d pp.os)
      clear p0 q0 p1 q1 p2 q2 r0 r1 hq
      generalize grow (redrawn wr pp.d) pp.os = W5 at HB5 ⊢
      go_wp2
      go_roundw
      case rel => exact ⟨j + 1, by go_num, hlt, HBB.out.trans (HB5.out.mono HBB.out.size)⟩
      case measure => simp [intOf]; omega
    · have HB7 := Lib.hid (thn HB2.out HBB.out)
      have HXA7 := Lib.hid (HXA.out.below HBB.out)
      have HXB7 := Lib.hid (HXB.out.below HBB.out)
      have HX7 := Lib.hid (HX.out.below HBB.out)
      have HY7 := Lib.hid (HY.out.below HBB.out)
      clear HXA HXB HX HY HC HD HBB HB2
      go_wp2
      generalize wr = wz at *
      go_loopw [6] (fun i wr => ∃ j : Nat, i = .int .i64 j ∧ j ≤ idx.length ∧ Below wz.heap.size wz wr) (fun i _ => idx.length - (intOf i).toNat)
      case atStart => exact ⟨0, rfl, by omega, Below.refl _ _⟩
      case round =>
        obtain ⟨j, rfl, hj, hBB⟩ := hrel
        have HBB := Lib.hid hBB
        clear hBB
        obtain ⟨x0, x1, x2, x3⟩ := HXA7.out.below HBB.out
        obtain ⟨y0, y1, y2, y3⟩ := HXB7.out.below HBB.out
        by_cases hlt : j < idx.length
        · obtain ⟨ad, e0, a0, a1⟩ := (HX7.out.below HBB.out).at_ hlt
          obtain ⟨bd, e1', b0, b1⟩ := (HY7.out.below HBB.out).at_ hlt
          subst e0
          subst e1'
          generalize idx[j] = x at a0 a1 b0 b1
          have hq := run_neqX x
          go_upto_region 11 with fail
          have p0 := cell_regrown a0
          have q0 := cell_regrown b0
          have p1 := cell_regrown a1
          have q1 := cell_regrown b1
          have r0 := cell_regrown x3
          have r1 := cell_regrown y3
          have hlt' : (j : Int) < (idx.length : Int) := by omega
          clear a0 a1 b0 b1 x0 x1 x2 x3 y0 y1 y2 y3
          refine wp_region_quiet_below (by kernel_rfl) (by kernel_rfl) ?_
          repeat (go_big_quiet_step (fail))
          refine wpQuiet_nil ?_
          intro w5 hw5
          obtain ⟨pp, rfl⟩ := hw5
          have HB5 := Lib.hid (below_regrown wr pp.d pp.os)
          clear p0 q0 p1 q1 r0 r1 hq
          generalize grow (redrawn wr pp.d) pp.os = W5 at HB5 ⊢
          go_wp2
          go_roundw
          case rel => exact ⟨j + 1, by go_num, hlt, HBB.out.trans (HB5.out.mono HBB.out.size)⟩
          case measure => simp [intOf]; omega
        · go_wp2
          go_ret
          exact ⟨rfl, thn HB7.out HBB.out⟩
end Go.Proofs.YtipcacplphidhaaGreat
/- What slices.Delete of one table makes of a list of tables in memory of the call's own: the walk. Conditions: a place within the list; at most 256 tables. -/
namespace Go.Proofs.YtipcacplphidhaaGreat
open Go.RowKit Go.Sort Go.Maps
set_option linter.unusedSimpArgs false
set_option linter.unusedVariables false

/-- The cells of no table. -/
def zT : List Value := [.string ⟨#[]⟩, .slice none 0 0, .int .i64 0, .slice none 0 0]
theorem trs_len (l : List Tr) : (l.flatMap trC).length = l.length * 4 := flatK_len trC 4 (fun _ => rfl) l
theorem run_clear4 (w : World) (g o c : Nat) (h : ∀ j, j < 4 → (w.cell? ⟨g, o + j, none⟩).isSome = true ∧ w.frozen? ⟨g, o + j, none⟩ = false) (ty : TypeId) :
    (Builtin.clear_ #[33] ty #[.slice (some ⟨g, o, none⟩) 1 c]).run Tryz.prog w = .ok (.tuple #[]) (w.setCells g o zT) := by
  have hst := run_storeCells_cells (P := Tryz.prog) g o zT 0 w (fun j hj => (h j hj).1) (fun j hj => (h j hj).2) (by intro v hv; simp [zT] at hv; rcases hv with rfl | rfl | rfl | rfl <;> rfl)
  simp only [Nat.add_zero] at hst
  have hz : (Builtin.zeroCells (Value.agg #[.string ⟨#[]⟩, .slice none 0 0, .int .i64 0, .slice none 0 0]).cells 1).toList = zT := by first | kernel_rfl | decide +kernel | simp [zT, Builtin.zeroCells, Value.cells]
  have hu := run_underlying Tryz.underlying33
  have hv := Tryz.zeroValue46
  simp [Builtin.clear_, hu, hv, hz, hst]
theorem flat_take : ∀ (l : List Tr) (i : Nat), (l.take i).flatMap trC = (l.flatMap trC).take (i * 4)
  | [], i => by simp
  | a :: l, 0 => by simp
  | a :: l, i + 1 => by
    rw [List.take_succ_cons, List.flatMap_cons, List.flatMap_cons, flat_take l i, List.take_append, List.take_of_length_le (l := trC a) (by rw [trC_len]; omega), trC_len, show (i + 1) * 4 - 4 = i * 4 by omega]
theorem flat_drop : ∀ (l : List Tr) (i : Nat), (l.drop i).flatMap trC = (l.flatMap trC).drop (i * 4)
  | [], i => by simp
  | a :: l, 0 => by simp
  | a :: l, i + 1 => by
    rw [List.drop_succ_cons, List.flatMap_cons, flat_drop l i, List.drop_append, List.drop_of_length_le (l := trC a) (by rw [trC_len]; omega), trC_len, List.nil_append, show (i + 1) * 4 - 4 = i * 4 by omega]
theorem take_cutK {cur cur1 cur2 : Array Value} {cs z : List Value} {p q M N : Nat} (hc : cur.toList.take N = cs) (hl : cs.length = N) (hpq : p ≤ q) (hqN : q ≤ N) (hM : M = p + (N - q)) (hz : M + z.length = N)
    (h1 : ∀ j : Nat, cur1[j]? = if p ≤ j ∧ j < p + (cs.drop q).length then (cs.drop q)[j - p]? else cur[j]?)
    (h2 : ∀ j : Nat, cur2[j]? = if M ≤ j ∧ j < M + z.length then z[j - M]? else cur1[j]?) :
    cur2.toList.take M = cs.take p ++ cs.drop q := by
  have hg : ∀ j, j < N → cur[j]? = cs[j]? := fun j hj => by
    conv => rhs; rw [← hc]
    rw [List.getElem?_take, if_pos hj, Array.getElem?_toList]
  apply List.ext_getElem?
  intro j
  have hd : (cs.drop q).length = N - q := by rw [List.length_drop, hl]
  have ht : (cs.take p).length = p := by rw [List.length_take, hl]; omega
  rw [List.getElem?_take]
  rw [hd] at h1
  by_cases c0 : j < M
  · rw [if_pos c0, Array.getElem?_toList, h2, if_neg (by omega), h1]
    by_cases c : j < p
    · rw [if_neg (by omega), List.getElem?_append_left (by omega), List.getElem?_take, if_pos c, hg j (by omega)]
    · rw [if_pos (by omega), List.getElem?_append_right (by omega), ht]
  · rw [if_neg c0, List.getElem?_eq_none]
    rw [List.length_append, ht, hd]
    omega
theorem ownsRow_some {w : World} {B : Nat} {e : TypeId} {k : Nat} {v : Value} {n : Nat} {xs : List Value} (h : w.ownsRow B e k v n xs) (hn : 0 < n) : ∃ g cap, v = .slice (some ⟨g, 0, none⟩) n cap := Go.Joins.ownsRow_form h hn
end Go.Proofs.YtipcacplphidhaaGreat
/- What slices.Insert of one table makes of a list of tables in memory of the call's own, where there is room: the walk. Conditions: a place within the list; at most 256 tables. -/
namespace Go.Proofs.YtipcacplphidhaaGreat
open Go.RowKit Go.Sort Go.Maps
set_option linter.unusedSimpArgs false
set_option linter.unusedVariables false

theorem run_copyK {P : Program} (w : World) (dT sT ty elem : TypeId) (k m b o dLen dCap : Nat) (a : Addr) (sLen sCap : Nat) (cs : List Value)
    (hu : P.underlying dT = some (.slice elem)) (hs : (P.info? elem).map (·.size) = some k) (hm : m = Nat.min sLen dLen) (hn : cs.length = m * k)
    (hsrc : ∀ j v, cs[j]? = some v → w.cell? (a.add j) = some v) (hc : ∀ j, j < cs.length → (w.cell? ⟨b, o + j, none⟩).isSome = true) (hf : ∀ j, j < cs.length → w.frozen? ⟨b, o + j, none⟩ = false) (h1 : ∀ v ∈ cs, v.oneCell' = true) :
    (Builtin.copy_ #[dT, sT] ty #[.slice (some ⟨b, o, none⟩) dLen dCap, .slice (some a) sLen sCap]).run P w = .ok (goInt m) (w.setCells b o cs) := by
  have hst := run_storeCells_cells (P := P) b o cs 0 w (by simpa using hc) (by simpa using hf) h1
  have hl := run_firstCells_some (P := P) w k m a sLen sCap cs hn hsrc
  simp only [Nat.add_zero] at hst
  cases hq : P.info? elem with
  | none => simp [hq] at hs
  | some i =>
    have hi : i.size = k := by simpa [hq] using hs
    simp [Builtin.copy_, run_underlying hu, Builtin.lenOf, sizeOf, typeInfo, hq, hi, ← hm, hl, hst]
theorem take_shiftK {cur cur1 cur2 : Array Value} {cs x : List Value} {p q N : Nat} (hc : cur.toList.take N = cs) (hl : cs.length = N) (hp : p ≤ N) (hq : q = p + x.length)
    (h1 : ∀ j : Nat, cur1[j]? = if q ≤ j ∧ j < q + (cs.drop p).length then (cs.drop p)[j - q]? else cur[j]?)
    (h2 : ∀ j : Nat, cur2[j]? = if p ≤ j ∧ j < p + x.length then x[j - p]? else cur1[j]?) :
    cur2.toList.take (N + x.length) = cs.take p ++ (x ++ cs.drop p) := by
  have hg : ∀ j, j < N → cur[j]? = cs[j]? := fun j hj => by
    conv => rhs; rw [← hc]
    rw [List.getElem?_take, if_pos hj, Array.getElem?_toList]
  apply List.ext_getElem?
  intro j
  have hd : (cs.drop p).length = N - p := by rw [List.length_drop, hl]
  have ht : (cs.take p).length = p := by rw [List.length_take, hl]; omega
  rw [List.getElem?_take]
  rw [hd] at h1
  by_cases c0 : j < N + x.length
  · rw [if_pos c0, Array.getElem?_toList, h2]
    by_cases c : j < p
    · rw [if_neg (by omega), h1, if_neg (by omega), List.getElem?_append_left (by omega), List.getElem?_take, if_pos c, hg j (by omega)]
    · rw [List.getElem?_append_right (by omega), ht]
      by_cases c2 : j < p + x.length
      · rw [if_pos (by omega), List.getElem?_append_left (by omega)]
      · rw [if_neg (by omega), h1, if_pos (by omega), List.getElem?_append_right (by omega)]
        congr 1
        omega
  · rw [if_neg c0, List.getElem?_eq_none]
    rw [List.length_append, List.length_append, ht, hd]
    omega
set_option maxRecDepth 100000 in
set_option maxHeartbeats 4000000 in
theorem insertT_shift (B i g cap : Nat) (xs : List Tr) (x : Tr) (vb : Nat) (w : World) (hown : w.ownsRow B 46 4 (.slice (some ⟨g, 0, none⟩) xs.length cap) xs.length (xs.flatMap trC)) (hi : i < xs.length) (hn : xs.length ≤ 256) (hcap : xs.length + 1 ≤ cap)
    (hx : w.heap[vb]? = some (.cells (trC x).toArray 46 (0, 0))) (hvb : vb ≠ g) :
    Calls Tryz.prog 22 #[.slice (some ⟨g, 0, none⟩) xs.length cap, .int .i64 i, .slice (some ⟨vb, 0, none⟩) 1 1] w fun e w' => e = .returned (.slice (some ⟨g, 0, none⟩) (xs.length + 1) cap) ∧ w' = (w.drew.setCells g ((i + 1) * 4) ((xs.flatMap trC).drop (i * 4))).setCells g (i * 4) (trC x) := by
  obtain ⟨i0, hi0, hz0, hz1, hz2⟩ := info_parts Tryz.infoT
  have hcl0 := trs_len xs
  obtain ⟨cs, hcs⟩ : ∃ cs, cs = xs.flatMap trC := ⟨_, rfl⟩
  have hcs1 : ∀ u ∈ cs, u.oneCell' = true := by rw [hcs]; exact trC_one xs
  rw [← hcs] at hown hcl0 ⊢
  obtain ⟨cur, hg, hcm, hsz, htk⟩ : ∃ cur, w.heap[g]? = some (.cells cur 46 (0, 0)) ∧ cap ≤ maxLen ∧ cur.size = cap * 4 ∧ cur.toList.take (xs.length * 4) = cs := by
    rcases hown.2 with ⟨h', _⟩ | ⟨g', cap', cur, h', _, h0, _, h3, h4, h5⟩
    · cases h'
    · injection h' with h6 _ h7
      injection h6 with h6
      injection h6 with h6
      subst h6 h7
      exact ⟨cur, h0, h3, by simpa using h4, by simpa using h5⟩
  clear hown
  have hcell : ∀ j, w.cell? ⟨g, j, none⟩ = cur[j]? := fun j => by rw [cell_of_row w g j cur _ (0, 0) hg]
  have hfz : ∀ j, w.frozen? ⟨g, j, none⟩ = false := fun j => frozen_of_row w g j cur _ hg
  have hcc : ∀ j v, cs[j]? = some v → w.cell? ⟨g, j, none⟩ = some v := fun j v hv => by
    have hj := (List.getElem?_eq_some_iff.1 hv).1
    rw [hcell j, ← hv]
    conv => rhs; rw [← htk]
    rw [List.getElem?_take, if_pos (by omega), Array.getElem?_toList]
  have hsp : ∀ j, j < cap * 4 → (w.cell? ⟨g, j, none⟩).isSome = true := fun j hj => by rw [hcell j, Array.getElem?_eq_getElem (by omega)]; rfl
  have hxc : ∀ j u, (trC x)[j]? = some u → w.cell? ⟨vb, j, none⟩ = some u := fun j u hu => by rw [cell_of_row w vb j _ _ (0, 0) hx]; simpa using hu
  have hsz0 : (Tryz.prog.info? 46).map (·.size) = some 4 := by rw [hi0]; simp [hz1]
  have hdl : (cs.drop (i * 4)).length = (xs.length - i) * 4 := by rw [List.length_drop, hcl0]; omega
  have hov : ∀ lb cb, (callFunc 39 #[.slice (some ⟨vb, 0, none⟩) 1 1, .slice (some ⟨g, (i + 1) * 4, none⟩) lb cb]).run Tryz.prog w = .ok (.value (.bool false)) w := fun lb cb => by
    rw [run_callFunc_extern Tryz.func39 (by kernel_rfl) (by kernel_rfl) (by kernel_rfl) (e := Extern.SlicesOverlaps.overlaps #[33, 33] #[4]) (by kernel_rfl),
      Lib.run_overlaps_apart w 33 4 46 Tryz.underlying33 4 (fun W => by simp [sizeOf, typeInfo, hi0, hz1]) ⟨vb, 0, none⟩ ⟨g, (i + 1) * 4, none⟩ 1 1 lb cb hvb 46 46 4 (cap * 4) (by simp [World.shape?, hx, trC]) (by simp [World.shape?, hg, hsz]) (by omega) (frozen_of_row w vb 0 _ _ hx) (frozen_of_row w vb 4 _ _ hx)]
    rfl
  have hcp1 : ∀ ty dc sc, (Builtin.copy_ #[33, 33] ty #[.slice (some ⟨g, (i + 1) * 4, none⟩) (xs.length - i) dc, .slice (some ⟨g, i * 4, none⟩) (xs.length + 1 - i) sc]).run Tryz.prog w.drew = .ok (goInt ((xs.length - i : Nat) : Int)) (w.drew.setCells g ((i + 1) * 4) (cs.drop (i * 4))) := fun ty dc sc =>
    run_copyK w.drew _ _ ty 46 4 (xs.length - i) g ((i + 1) * 4) (xs.length - i) dc ⟨g, i * 4, none⟩ (xs.length + 1 - i) sc (cs.drop (i * 4)) Tryz.underlying33 hsz0 (by simp only [Nat.min_def]; split <;> omega) hdl
      (fun j v hj => by rw [Addr.add_lit]; exact hcc (i * 4 + j) v (by rwa [List.getElem?_drop] at hj))
      (fun j hj => hsp _ (by omega)) (fun j hj => hfz _) (fun v hv => hcs1 v (List.mem_of_mem_drop hv))
  obtain ⟨W1, hW1⟩ : ∃ W1, W1 = w.drew.setCells g ((i + 1) * 4) (cs.drop (i * 4)) := ⟨_, rfl⟩
  have hcp2 : ∀ (W : World), (∀ p, W.cell? p = W1.cell? p) → (∀ p, W.frozen? p = W1.frozen? p) → ∀ ty dc, (Builtin.copy_ #[33, 33] ty #[.slice (some ⟨g, i * 4, none⟩) (xs.length + 1 - i) dc, .slice (some ⟨vb, 0, none⟩) 1 1]).run Tryz.prog W = .ok (goInt 1) (W.setCells g (i * 4) (trC x)) := fun W hWc hWf ty dc =>
    run_copyK W _ _ ty 46 4 1 g (i * 4) (xs.length + 1 - i) dc ⟨vb, 0, none⟩ 1 1 (trC x) Tryz.underlying33 hsz0 (by simp only [Nat.min_def]; split <;> omega) (by rw [trC_len])
      (fun j v hj => by rw [Addr.add_lit, Nat.zero_add, hWc, hW1, World.cell?_setCells_out g _ _ _ _ (fun h _ => absurd h hvb)]; exact hxc j v hj)
      (fun j hj => by rw [hWc, hW1]; exact World.isSome_setCells g _ _ _ _ (hsp _ (by rw [trC_len] at hj; omega))) (fun j hj => by rw [hWf, hW1, World.frozen?_setCells]; exact hfz _) (fun v hv => trC_one [x] v (by simpa using hv))
  rw [← hW1] at hcp1
  unfold maxLen at hcm
  have mixed : Tryz.prog.follows Departure.mixedOrders = true := by kernel_rfl
  have hz1' : ¬ ((1 : Int) = 0) := by decide
  have hz2' : ¬ ((i : Int) = (xs.length : Int)) := by omega
  have hw1 : IntKind.i64.wrap ((i : Int) + 1) = (i : Int) + 1 := by rw [IntKind.wrap_i64]; omega
  have hb1 : (0 : Int) ≤ (i : Int) + 1 := by omega
  have htn : ((i : Int) + 1).toNat = i + 1 := by omega
  have hin : i ≤ xs.length := by omega
  have hb2 : ¬ (cap = i + 1) := by omega
  have hb4 : ¬ (cap = i) := by omega
  have hb5 : xs.length ≤ cap := by omega
  have hb3 : (i : Int) ≤ (xs.length : Int) + 1 := by omega
  have hb6 : (i : Int) ≤ (xs.length : Int) := by omega
  have htn2 : ((xs.length : Int) + 1).toNat = xs.length + 1 := by omega
  clear hg hsz htk hcell hfz hcc hsp hxc hx hdl hcs hcs1 hcl0
  go_enter Tryz.func22, Tryz.ntmps22
  go_wp2_with (simp only [hov])
  go_region_law_o (refine copy_step rfl _ _ 33 33 rfl _ _ (by simp [Act.eval, Act.put]) (by simp [Act.eval, Act.put]) (hcp1 _ _ _) ?_)
  go_wp2_with (at_builtin; refine copy_list _ rfl _ _ 33 33 rfl _ _ rfl rfl (hcp2 _ (fun _ => rfl) (fun _ => rfl) _ _) ?_)
  go_ret
  first | exact ⟨rfl, rfl⟩ | exact ⟨rfl, by rw [hW1]⟩
end Go.Proofs.YtipcacplphidhaaGreat
/- What slices.Insert of one table makes of a full list of tables in memory of the call's own, and of any: the walk. Conditions: a place within the list; at most 100 tables. -/
namespace Go.Proofs.YtipcacplphidhaaGreat
open Go.RowKit Go.Sort Go.Maps
set_option linter.unusedSimpArgs false
set_option linter.unusedVariables false

/-- No table. -/
def zA : Value := .agg #[.string ⟨#[]⟩, .slice none 0 0, .int .i64 0, .slice none 0 0]
theorem zeroT_len (n : Nat) : (Builtin.zeroCells zA.cells n).size = n * 4 := by simp [Builtin.zeroCells, zA, Value.cells]
set_option maxRecDepth 100000 in
set_option maxHeartbeats 4000000 in
theorem insertT_grow (B i g : Nat) (xs : List Tr) (x : Tr) (vb : Nat) (w : World) (hown : w.ownsRow B 46 4 (.slice (some ⟨g, 0, none⟩) xs.length xs.length) xs.length (xs.flatMap trC)) (hi : i < xs.length) (hn : xs.length ≤ 100)
    (hx : ∀ j u, (trC x)[j]? = some u → w.cell? ⟨vb, j, none⟩ = some u) :
    Calls Tryz.prog 22 #[.slice (some ⟨g, 0, none⟩) xs.length xs.length, .int .i64 i, .slice (some ⟨vb, 0, none⟩) 1 1] w fun e w' =>
      e = .returned (.slice (some ⟨w.heap.size, 0, none⟩) (xs.length + 1) (grownCap w (xs.length + 1) xs.length 46)) ∧
      w' = (((w.alloc (.cells (((xs.flatMap trC).take (i * 4)).toArray ++ Builtin.zeroCells zA.cells (xs.length + 1 - i) ++ Builtin.zeroCells zA.cells (grownCap w (xs.length + 1) xs.length 46 - (xs.length + 1))) 46)).drew.setCells w.heap.size (i * 4) (trC x)).drew).setCells w.heap.size ((i + 1) * 4) ((xs.flatMap trC).drop (i * 4)) := by
  obtain ⟨i0, hi0, hz0, hzs, hzb⟩ := info_parts Tryz.infoT
  have hcl0 := trs_len xs
  obtain ⟨cs, hcs⟩ : ∃ cs, cs = xs.flatMap trC := ⟨_, rfl⟩
  have hcs1 : ∀ u ∈ cs, u.oneCell' = true := by rw [hcs]; exact trC_one xs
  rw [← hcs] at hown hcl0 ⊢
  have hcc : ∀ j v, cs[j]? = some v → w.cell? ⟨g, j, none⟩ = some v := fun j v hv => by
    have := hown.cells (g := g) rfl j v hv
    rwa [add_lit, Nat.zero_add] at this
  have mixed : Tryz.prog.follows Departure.mixedOrders = true := by kernel_rfl
  have hz1 : ¬ ((1 : Int) = 0) := by decide
  have hz2 : ¬ ((i : Int) = (xs.length : Int)) := by omega
  have hz3 : (xs.length : Int) < (xs.length : Int) + 1 := by omega
  have hsz : (Tryz.prog.info? 46).map (·.size) = some 4 := by rw [hi0]; simp [hzs]
  have hbw : g < w.heap.size := cell_lt (hcc 0 _ (List.getElem?_eq_getElem (by omega)))
  have hvw : vb < w.heap.size := cell_lt (hx 0 _ rfl)
  have hkk : (xs.length : Int) + 1 - (i : Int) = ((xs.length + 1 - i : Nat) : Int) := by omega
  have hik : i + (xs.length + 1 - i) = xs.length + 1 := by omega
  have hold : (Builtin.firstCells i0.size i (.slice (some ⟨g, 0, none⟩) i xs.length)).run Tryz.prog w.drew = .ok (cs.take (i * 4)).toArray w.drew := by
    rw [hzs]
    exact run_firstCells_some w.drew 4 i ⟨g, 0, none⟩ i xs.length (cs.take (i * 4)) (by rw [List.length_take]; omega) (fun j v hj => by
      rw [Addr.add_lit, Nat.zero_add]
      rw [List.getElem?_take] at hj
      split at hj
      · exact hcc j v hj
      · cases hj)
  have hrz : ∀ ty, (Builtin.append_ #[33, 3] ty #[.slice (some ⟨g, 0, none⟩) i xs.length, .int .i64 ((xs.length : Int) + 1 - (i : Int))]).run Tryz.prog w =
      .ok (.slice (some ⟨w.heap.size, 0, none⟩) (xs.length + 1) (grownCap w (xs.length + 1) xs.length 46)) (w.drew.alloc (.cells ((cs.take (i * 4)).toArray ++ Builtin.zeroCells zA.cells (xs.length + 1 - i) ++ Builtin.zeroCells zA.cells (grownCap w (xs.length + 1) xs.length 46 - (xs.length + 1))) 46)) := fun ty => by
    have h := Lib.run_append_grow_zeros w 33 3 ty 46 i0 _ .i64 .i64 Tryz.underlying33 Tryz.underlying3 hi0 hz0 (some ⟨g, 0, none⟩) i xs.length (cs.take (i * 4)) hold (xs.length + 1 - i) (by omega) (by omega) (by omega) (by omega) (by rw [hzb]; omega) (by rw [hzb, hik]; exact growslice_fits (by omega) (by omega))
    rw [hik] at h
    rw [hkk]
    exact h
  obtain ⟨G, hG⟩ : ∃ G, G = grownCap w (xs.length + 1) xs.length 46 := ⟨_, rfl⟩
  obtain ⟨ROW, hROW⟩ : ∃ ROW : Array Value, ROW = (cs.take (i * 4)).toArray ++ Builtin.zeroCells zA.cells (xs.length + 1 - i) ++ Builtin.zeroCells zA.cells (G - (xs.length + 1)) := ⟨_, rfl⟩
  rw [← hG] at hrz ⊢
  rw [← hROW] at hrz ⊢
  have hRl : (xs.length + 1) * 4 ≤ ROW.size := by
    rw [hROW]
    simp only [Array.size_append, List.size_toArray, List.length_take, zeroT_len]
    omega
  obtain ⟨W1, hW1⟩ : ∃ W1, W1 = w.drew.alloc (.cells ROW 46) := ⟨_, rfl⟩
  rw [← hW1] at hrz
  have hN : ∀ j, j < (xs.length + 1) * 4 → (W1.cell? ⟨w.heap.size, j, none⟩).isSome = true := fun j hj => by
    rw [hW1, World.cell?_alloc_at (w := w.drew) ROW _ w.heap.size j rfl, Array.getElem?_eq_getElem (by omega)]; rfl
  have hNf : ∀ j, W1.frozen? ⟨w.heap.size, j, none⟩ = false := fun j => by rw [hW1]; exact World.frozen?_alloc_at (w := w.drew) ROW _ w.heap.size j rfl
  have hOb : ∀ j v, w.cell? ⟨g, j, none⟩ = some v → W1.cell? ⟨g, j, none⟩ = some v := fun j v h => by rw [hW1, World.cell?_alloc_past (w := w.drew) _ g j hbw]; exact h
  have hOv : ∀ j u, (trC x)[j]? = some u → W1.cell? ⟨vb, j, none⟩ = some u := fun j u h => by rw [hW1, World.cell?_alloc_past (w := w.drew) _ vb j hvw]; exact hx j u h
  have hcpA : ∀ (W : World), (∀ p, W.cell? p = W1.cell? p) → (∀ p, W.frozen? p = W1.frozen? p) → ∀ ty dc, (Builtin.copy_ #[33, 33] ty #[.slice (some ⟨w.heap.size, i * 4, none⟩) (xs.length + 1 - i) dc, .slice (some ⟨vb, 0, none⟩) 1 1]).run Tryz.prog W = .ok (goInt 1) (W.setCells w.heap.size (i * 4) (trC x)) := fun W hWc hWf ty dc =>
    run_copyK W _ _ ty 46 4 1 w.heap.size (i * 4) (xs.length + 1 - i) dc ⟨vb, 0, none⟩ 1 1 (trC x) Tryz.underlying33 hsz (by simp only [Nat.min_def]; split <;> omega) (by rw [trC_len])
      (fun j v hj => by rw [Addr.add_lit, Nat.zero_add, hWc]; exact hOv j v hj)
      (fun j hj => by rw [hWc]; exact hN _ (by rw [trC_len] at hj; omega)) (fun j hj => by rw [hWf]; exact hNf _) (fun v hv => trC_one [x] v (by simpa using hv))
  have hGn : xs.length + 1 ≤ G := by rw [hG]; exact grownCap_ge w _ _ _
  have hG63 : G ≤ 9223372036854775807 := by
    have := grownCap_le_maxLen w (xs.length + 1) xs.length 46 (by unfold maxLen; omega)
    rw [← hG] at this
    unfold maxLen at this
    omega
  have hGi : ¬ (G = i) := by omega
  have hGim : ¬ (G = i + 1) := by omega
  have hci : ¬ (xs.length = i) := by omega
  have hbN : g ≠ w.heap.size := by omega
  have hdl : (cs.drop (i * 4)).length = (xs.length - i) * 4 := by rw [List.length_drop, hcl0]; omega
  have hcpB : ∀ (W : World), (∀ p, W.cell? p = (W1.setCells w.heap.size (i * 4) (trC x)).cell? p) → (∀ p, W.frozen? p = (W1.setCells w.heap.size (i * 4) (trC x)).frozen? p) → ∀ ty dc sc, (Builtin.copy_ #[33, 33] ty #[.slice (some ⟨w.heap.size, (i + 1) * 4, none⟩) (xs.length - i) dc, .slice (some ⟨g, i * 4, none⟩) (xs.length - i) sc]).run Tryz.prog W = .ok (goInt ((xs.length - i : Nat) : Int)) (W.setCells w.heap.size ((i + 1) * 4) (cs.drop (i * 4))) := fun W hWc hWf ty dc sc =>
    run_copyK W _ _ ty 46 4 (xs.length - i) w.heap.size ((i + 1) * 4) (xs.length - i) dc ⟨g, i * 4, none⟩ (xs.length - i) sc (cs.drop (i * 4)) Tryz.underlying33 hsz (by simp only [Nat.min_def]; split <;> omega) hdl
      (fun j v hj => by
        rw [Addr.add_lit, hWc, World.cell?_setCells_out _ _ _ _ _ (fun h _ => absurd h hbN)]
        exact hOb _ v (hcc (i * 4 + j) v (by rwa [List.getElem?_drop] at hj)))
      (fun j hj => by rw [hWc]; exact World.isSome_setCells _ _ _ _ _ (hN _ (by omega)))
      (fun j hj => by rw [hWf, World.frozen?_setCells]; exact hNf _) (fun v hv => hcs1 v (List.mem_of_mem_drop hv))
  subst hW1
  have hE1 : ∀ p, ((w.alloc (.cells ROW 46)).drew).cell? p = (w.drew.alloc (.cells ROW 46)).cell? p := fun _ => rfl
  have hE2 : ∀ p, ((w.alloc (.cells ROW 46)).drew).frozen? p = (w.drew.alloc (.cells ROW 46)).frozen? p := fun _ => rfl
  have hF1 : ∀ p, (((w.alloc (.cells ROW 46)).drew.setCells w.heap.size (i * 4) (trC x)).drew).cell? p = ((w.drew.alloc (.cells ROW 46)).setCells w.heap.size (i * 4) (trC x)).cell? p := fun _ => rfl
  have hF2 : ∀ p, (((w.alloc (.cells ROW 46)).drew.setCells w.heap.size (i * 4) (trC x)).drew).frozen? p = ((w.drew.alloc (.cells ROW 46)).setCells w.heap.size (i * 4) (trC x)).frozen? p := fun _ => rfl
  have hw1 : IntKind.i64.wrap ((i : Int) + 1) = (i : Int) + 1 := by rw [IntKind.wrap_i64]; omega
  have hb1 : (0 : Int) ≤ (i : Int) + 1 := by omega
  have hin : i ≤ xs.length := by omega
  have htn : ((i : Int) + 1).toNat = i + 1 := by omega
  have hb3 : (i : Int) ≤ (xs.length : Int) := by omega
  clear hkk hik hold hROW hG hRl hN hNf hOb hOv hcc hdl hcs hcs1 hcl0 hx
  go_enter Tryz.func22, Tryz.ntmps22
  go_wp2_with (first
    | (at_builtin; refine Lib.wpList_append_run _ rfl _ _ _ _ rfl _ _ rfl rfl _ _ (hrz _) ?_)
    | (at_builtin; refine copy_list _ rfl _ _ 33 33 rfl _ _ rfl rfl (hcpA _ hE1 hE2 _ _) ?_))
  go_region_law_o (refine copy_step rfl _ _ 33 33 rfl (.slice (some ⟨w.heap.size, (i + 1) * 4, none⟩) (xs.length - i) (G - (i + 1))) (.slice (some ⟨g, i * 4, none⟩) (xs.length - i) (xs.length - i)) (by simp [Act.eval, Act.put]) (by simp [Act.eval, Act.put]) (hcpB _ hF1 hF2 3 (G - (i + 1)) (xs.length - i)) ?_)
  go_wp2
  go_ret
  exact ⟨rfl, rfl⟩
end Go.Proofs.YtipcacplphidhaaGreat
/- slices.Insert of one table into a list of tables in memory of the call's own. Conditions: at most 100 tables. -/
namespace Go.Proofs.YtipcacplphidhaaGreat
open Go.RowKit Go.Sort Go.Maps
set_option linter.unusedSimpArgs false
set_option linter.unusedVariables false

theorem take_newK {row cur1 cur2 : Array Value} {cs x : List Value} {p q N : Nat} (hl : cs.length = N) (hp : p ≤ N) (hq : q = p + x.length) (h0 : ∀ j, j < p → row[j]? = cs[j]?)
    (h1 : ∀ j : Nat, cur1[j]? = if p ≤ j ∧ j < p + x.length then x[j - p]? else row[j]?)
    (h2 : ∀ j : Nat, cur2[j]? = if q ≤ j ∧ j < q + (cs.drop p).length then (cs.drop p)[j - q]? else cur1[j]?) :
    cur2.toList.take (N + x.length) = cs.take p ++ (x ++ cs.drop p) := by
  apply List.ext_getElem?
  intro j
  have hd : (cs.drop p).length = N - p := by rw [List.length_drop, hl]
  have ht : (cs.take p).length = p := by rw [List.length_take, hl]; omega
  rw [List.getElem?_take]
  rw [hd] at h2
  by_cases c0 : j < N + x.length
  · rw [if_pos c0, Array.getElem?_toList, h2]
    by_cases c : j < p
    · rw [if_neg (by omega), h1, if_neg (by omega), List.getElem?_append_left (by omega), List.getElem?_take, if_pos c, h0 j c]
    · rw [List.getElem?_append_right (by omega), ht]
      by_cases c2 : j < p + x.length
      · rw [if_neg (by omega), h1, if_pos (by omega), List.getElem?_append_left (by omega)]
      · rw [if_pos (by omega), List.getElem?_append_right (by omega)]
        congr 1
        omega
  · rw [if_neg c0, List.getElem?_eq_none]
    rw [List.length_append, List.length_append, ht, hd]
    omega
theorem ins_flat (xs : List Tr) (y : Tr) (i : Nat) : (xs.take i ++ y :: xs.drop i).flatMap trC = (xs.flatMap trC).take (i * 4) ++ (trC y ++ (xs.flatMap trC).drop (i * 4)) := by
  rw [List.flatMap_append, List.flatMap_cons, flat_take, flat_drop]
theorem insOk_any (n : Nat) (hn : n ≤ 100) : InsOk n := fun W B i v xs y p hl hi ht hy hB hx hvb => by
  subst hl
  have hxc := row_cells hx
  by_cases he : i = xs.length
  · subst he
    refine (insert_endT xs.length hn W B v xs y p rfl ht hy hB hxc).mono fun e w' h => ?_
    rw [List.take_length, List.drop_length]
    exact h
  · obtain ⟨g, cap, rfl⟩ := ownsRow_some ht.own (by omega)
    have hgp : p ≠ g := fun e => hvb (by rw [e]; rfl)
    have hcl := trs_len xs
    have hl : (xs.take i ++ y :: xs.drop i).length = xs.length + 1 := by simp; omega
    have hk : ∀ w', W.grownBy w' (some g) → ∀ x ∈ xs.take i ++ y :: xs.drop i, TrO w' B x := fun w' hg x hx' => by
      have hrow : ∀ k, some g = some k → ∃ cs T fr, W.heap[k]? = some (.cells cs T fr) ∧ T ≠ 48 ∧ T ≠ 50 := fun k e => by
        injection e with e
        subst e
        obtain ⟨cs, fr, h1⟩ := own_type ht.own g rfl
        exact ⟨cs, _, fr, h1, by decide, by decide⟩
      rcases List.mem_append.1 hx' with h | h
      · exact (ht.tabs x (List.mem_of_mem_take h)).kept hg hrow
      · rcases List.mem_cons.1 h with rfl | h
        · exact hy.kept hg hrow
        · exact (ht.tabs x (List.mem_of_mem_drop h)).kept hg hrow
    have hc : xs.length ≤ cap := by
      rcases ht.own.2 with ⟨h', _⟩ | ⟨g', cap', cur, h', _, _, h2, h3, _⟩
      · cases h'
      · injection h' with _ _ h'
        subst h'
        exact h2
    by_cases hcap : cap = xs.length
    · subst hcap
      refine (insertT_grow B i g xs y p W ht.own (by omega) hn hxc).mono fun e w' ⟨he', hw⟩ => ?_
      have hG := grownCap_ge W (xs.length + 1) xs.length 46
      have hG2 := grownCap_le_maxLen W (xs.length + 1) xs.length 46 (by unfold maxLen; omega)
      generalize grownCap W (xs.length + 1) xs.length 46 = G at hG hG2 hw he'
      obtain ⟨ROW, hROW⟩ : ∃ ROW : Array Value, ROW = ((xs.flatMap trC).take (i * 4)).toArray ++ Builtin.zeroCells zA.cells (xs.length + 1 - i) ++ Builtin.zeroCells zA.cells (G - (xs.length + 1)) := ⟨_, rfl⟩
      rw [← hROW] at hw
      have hs : ROW.size = G * 4 := by rw [hROW]; simp only [Array.size_append, List.size_toArray, List.length_take, zeroT_len]; omega
      have h0 : ∀ j, j < i * 4 → ROW[j]? = (xs.flatMap trC)[j]? := fun j hj => by
        rw [hROW, Array.append_assoc, Array.getElem?_append_left (by rw [List.size_toArray, List.length_take]; omega), List.getElem?_toArray, List.getElem?_take, if_pos hj]
      obtain ⟨cur1, a1, a2, a3⟩ := heap_setCells W.heap.size 46 (trC y) (i * 4) ((W.alloc (.cells ROW 46)).drew) ROW (heap_alloc_new W _) (by rw [trC_len]; omega)
      obtain ⟨cur2, b1, b2, b3⟩ := heap_setCells W.heap.size 46 ((xs.flatMap trC).drop (i * 4)) ((i + 1) * 4) (((W.alloc (.cells ROW 46)).drew.setCells W.heap.size (i * 4) (trC y)).drew) cur1 a1 (by rw [List.length_drop]; omega)
      have hgw : W.grownBy w' (some g) := by
        rw [hw]
        exact grown_some (grown_news _ _ _ _ _ (Nat.le_refl _) (grown_trans (grown_news _ _ _ _ _ (Nat.le_refl _) (grown_trans (World.grownBy_alloc W _ none) (grown_drew _ _))) (grown_drew _ _)))
      refine ⟨_, he', ⟨?_, hk w' hgw⟩, hgw⟩
      rw [hw]
      refine ⟨by rw [trs_len], .inr ⟨W.heap.size, G, cur2, by rw [hl], hB, b1, by rw [hl]; exact hG, hG2, by omega, ?_⟩⟩
      rw [hl, ins_flat]
      have h9 := take_newK (q := (i + 1) * 4) hcl (by omega) (by rw [trC_len]; omega) h0 a3 b3
      rw [trC_len] at h9
      rw [show (xs.length + 1) * 4 = xs.length * 4 + 4 by omega]
      exact h9
    · refine (insertT_shift B i g cap xs y p W ht.own (by omega) (by omega) (by omega) hx hgp).mono fun e w' ⟨he', hw⟩ => ?_
      have hgw : W.grownBy w' (some g) := by
        rw [hw]
        exact grown_trans (grown_drew W _) (grown_trans (grown_setCells g _ _ _) (grown_setCells g _ _ _))
      refine ⟨_, he', ⟨?_, hk w' hgw⟩, hgw⟩
      rcases ht.own.2 with ⟨h', _⟩ | ⟨g', cap', cur, h', hB', h0, h2, h3, h4, h5⟩
      · cases h'
      injection h' with h6 _ h7
      injection h6 with h6
      injection h6 with h6
      subst h6 h7
      obtain ⟨cur1, a1, a2, a3⟩ := heap_setCells g 46 ((xs.flatMap trC).drop (i * 4)) ((i + 1) * 4) W.drew cur h0 (by rw [List.length_drop]; omega)
      obtain ⟨cur2, b1, b2, b3⟩ := heap_setCells g 46 (trC y) (i * 4) _ cur1 a1 (by rw [trC_len]; omega)
      rw [hw]
      refine ⟨by rw [trs_len], .inr ⟨g, cap, cur2, by rw [hl], hB', b1, by rw [hl]; omega, h3, by omega, ?_⟩⟩
      rw [hl, ins_flat]
      have h9 := take_shiftK (q := (i + 1) * 4) (by simpa using h5) hcl (by omega) (by rw [trC_len]; omega) a3 b3
      rw [trC_len] at h9
      rw [show (xs.length + 1) * 4 = xs.length * 4 + 4 by omega]
      exact h9
end Go.Proofs.YtipcacplphidhaaGreat
namespace Go.Proofs.YtipcacplphidhaaGreat
open Go.RowKit Go.Sort Go.Maps
set_option linter.unusedSimpArgs false
set_option linter.unusedVariables false

set_option maxRecDepth 100000 in
set_option maxHeartbeats 8000000 in
theorem unlike_eq (A A' : Option Addr) (c c' : Nat) (ls : List Tb) (w : World) (hr : RdS w A ls) (hr' : RdS w A' ls) (hn : ls.length ≤ 9223372036854775807) :
    Calls Tryz.prog 11 #[.agg #[.slice A ls.length c], .agg #[.slice A' ls.length c']] w fun e w' => e = .returned (.int .i64 0) ∧ Below w.heap.size w w' := by
  have hb1 := below1 w (.cells #[.slice A ls.length c] 35)
  have hb2 := below1 (w.alloc (.cells #[.slice A ls.length c] 35)) (.cells #[.slice A' ls.length c'] 24)
  have h1 : Bx1 ((w.alloc (.cells #[.slice A ls.length c] 35)).alloc (.cells #[.slice A' ls.length c'] 24)) w.heap.size (.slice A ls.length c) := Bx1.below (heap_alloc_new w _) hb2
  have h2 : Bxr ((w.alloc (.cells #[.slice A ls.length c] 35)).alloc (.cells #[.slice A' ls.length c'] 24)) (w.heap.size + 1) (.slice A' ls.length c') := by
    have := heap_alloc_new (w.alloc (.cells #[.slice A ls.length c] 35)) (.cells #[.slice A' ls.length c'] 24)
    rwa [World.size_alloc] at this
  have HB2 := Lib.hid (thn hb1 hb2)
  have HX2 := Lib.hid h1
  have HY2 := Lib.hid h2
  have HR := Lib.hid hr
  have HR' := Lib.hid hr'
  obtain ⟨a0, _⟩ := h1.cells
  obtain ⟨b0, _⟩ := h2.cells
  have hle : ((ls.length : Int) != (ls.length : Int)) = false := by simp
  clear hr hr' hb1 hb2 h1 h2
  go_enter Tryz.func11, Tryz.ntmps11
  go_upto_region 1 with fail
  generalize (w.alloc (.cells #[.slice A ls.length c] 35)).alloc (.cells #[.slice A' ls.length c'] 24) = w2 at *
  go_wp2
  go_loopw [5] (fun i wr => ∃ j : Nat, i = .int .i64 j ∧ j ≤ ls.length ∧ Bx1 wr w.heap.size (.slice A ls.length c) ∧ Bxr wr (w.heap.size + 1) (.slice A' ls.length c') ∧ Below w.heap.size w wr) (fun i _ => ls.length - (intOf i).toNat)
  case atStart => exact ⟨0, rfl, by omega, HX2.out, HY2.out, HB2.out⟩
  case round =>
    obtain ⟨j, rfl, hj, hX, hY, hB⟩ := hrel
    have HX := Lib.hid hX
    have HY := Lib.hid hY
    have HB := Lib.hid hB
    clear a0 b0
    obtain ⟨a0, _⟩ := hX.cells
    obtain ⟨b0, _⟩ := hY.cells
    clear hX hY hB
    by_cases hlt : j < ls.length
    · have hjl : (j : Int) < (ls.length : Int) := by omega
      obtain ⟨ad, rfl, cA, iA, cc, ic, k0, k1, k2, k3, hT⟩ := (HR.out.below HB.out).at_ hlt
      obtain ⟨bd, rfl, dA, jA, dc, jc, m0, m1, m2, m3, hU⟩ := (HR'.out.below HB.out).at_ hlt
      generalize ls[j] = t at k0 k1 k2 k3 m0 m1 m2 m3 hT hU
      have hcb := hT.cb
      have hxb := hT.xb
      have HAK := Lib.hid (alike_eq t cA iA dA jA cc ic dc jc wr.drew hT.c hT.x hU.c hU.x (by omega) (by omega))
      have HBd := Lib.hid HB.out.drew
      have HXd := Lib.hid (HX.out.below (Below.refl _ _).drew)
      have HYd := Lib.hid (HY.out.below (Below.refl _ _).drew)
      clear hT hU
      go_upto_region 6 with fail
      go_still_tail 10, (by kernel_rfl)
      change wpList _ _ _ _ _ wr.drew
      generalize wr.drew = wd at *
      go_wp2_with (go_at_call 28; (with_reducible refine HAK.out.mono ?_); rintro e w5 ⟨rfl, hb⟩; have HX5 := Lib.hid (HXd.out.below hb); have HY5 := Lib.hid (HYd.out.below hb); have HB5 := Lib.hid (thn HBd.out hb); clear hb)
      go_roundw
      case rel => exact ⟨j + 1, by go_num, hlt, HX5.out, HY5.out, HB5.out⟩
      case measure => simp [intOf]; omega
    · obtain rfl : j = ls.length := by omega
      go_wp2
      go_ret
      exact ⟨rfl, HB.out⟩
end Go.Proofs.YtipcacplphidhaaGreat
