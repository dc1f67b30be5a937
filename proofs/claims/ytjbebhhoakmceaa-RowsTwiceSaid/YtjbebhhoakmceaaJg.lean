/- What rows' fitsColumn and fits answer of any row: the walks. Conditions: a table of few columns. -/
import Derived.Test.YtjbebhhoakmceaaJf
namespace Go.Proofs.Ytjbebhhoakmceaa
open Go.RowKit Go.Sort
set_option linter.unusedSimpArgs false
set_option linter.unusedVariables false

/-- A column. -/
structure Cl where
  m : ByteArray
  k : Int
  nn : Bool
/-- An index. -/
structure Ix where
  m : ByteArray
  c : Int
/-- A table. -/
structure Tb where
  m : ByteArray
  cols : List Cl
  key : Int
  idx : List Ix
@[reducible] def Cl.val (x : Cl) : Value := .agg #[.string x.m, .int .i64 x.k, .bool x.nn]
@[reducible] def Ix.val (x : Ix) : Value := .agg #[.string x.m, .int .i64 x.c]
def CellC (w : World) (p : Addr) (x : Cl) : Prop := w.cell? p = some (.string x.m) ∧ w.cell? ⟨p.block, p.off + 1, none⟩ = some (.int .i64 x.k) ∧ w.cell? ⟨p.block, p.off + 2, none⟩ = some (.bool x.nn)
def CellX (w : World) (p : Addr) (x : Ix) : Prop := w.cell? p = some (.string x.m) ∧ w.cell? ⟨p.block, p.off + 1, none⟩ = some (.int .i64 x.c)
def RdC (w : World) (A : Option Addr) (l : List Cl) : Prop := l ≠ [] → ∃ ad, A = some ad ∧ ∀ j x, l[j]? = some x → CellC w (ad.add (j * 3)) x
def RdX (w : World) (A : Option Addr) (l : List Ix) : Prop := l ≠ [] → ∃ ad, A = some ad ∧ ∀ j x, l[j]? = some x → CellX w (ad.add (j * 2)) x
theorem CellC.below {w w' : World} {p : Addr} {x : Cl} (h : CellC w p x) (hb : Below w.heap.size w w') : CellC w' p x :=
  have hl := cell_lt h.1
  ⟨(hb.cell hl).trans h.1, (hb.cell (p := ⟨p.block, p.off + 1, none⟩) hl).trans h.2.1, (hb.cell (p := ⟨p.block, p.off + 2, none⟩) hl).trans h.2.2⟩
theorem CellX.below {w w' : World} {p : Addr} {x : Ix} (h : CellX w p x) (hb : Below w.heap.size w w') : CellX w' p x :=
  have hl := cell_lt h.1
  ⟨(hb.cell hl).trans h.1, (hb.cell (p := ⟨p.block, p.off + 1, none⟩) hl).trans h.2⟩
theorem RdC.below {w w' : World} {A : Option Addr} {l : List Cl} (h : RdC w A l) (hb : Below w.heap.size w w') : RdC w' A l := fun hl => by
  obtain ⟨ad, e, hc⟩ := h hl
  exact ⟨ad, e, fun j v hj => (hc j v hj).below hb⟩
theorem RdX.below {w w' : World} {A : Option Addr} {l : List Ix} (h : RdX w A l) (hb : Below w.heap.size w w') : RdX w' A l := fun hl => by
  obtain ⟨ad, e, hc⟩ := h hl
  exact ⟨ad, e, fun j v hj => (hc j v hj).below hb⟩
theorem RdC.at_ {w : World} {A : Option Addr} {l : List Cl} {j : Nat} (h : RdC w A l) (hj : j < l.length) : ∃ ad, A = some ad ∧ CellC w (ad.add (j * 3)) l[j] := by
  obtain ⟨ad, e, hc⟩ := h (by intro e; subst e; simp at hj)
  exact ⟨ad, e, hc j _ (List.getElem?_eq_getElem hj)⟩
theorem RdX.at_ {w : World} {A : Option Addr} {l : List Ix} {j : Nat} (h : RdX w A l) (hj : j < l.length) : ∃ ad, A = some ad ∧ CellX w (ad.add (j * 2)) l[j] := by
  obtain ⟨ad, e, hc⟩ := h (by intro e; subst e; simp at hj)
  exact ⟨ad, e, hc j _ (List.getElem?_eq_getElem hj)⟩

/-- Whether a value may stand in a column. -/
def fitC (c : Cl) (v : Vl) : Int := if mayB v.k v.n v.s = false then 9 else if v.k = 0 ∧ c.nn = true then 86 else if v.k ≠ 0 ∧ v.k ≠ c.k then 81 else 0
/-- Whether a row may be one of a table's. -/
def fitR (cols : List Cl) (r : List Vl) : Int := if r.length ≠ cols.length then 3 else firstE (fun p => fitC p.1 p.2) (cols.zip r)
theorem fitR_len {cols : List Cl} {r : List Vl} (h : fitR cols r = 0) : r.length = cols.length := by
  unfold fitR at h
  split at h
  · cases h
  · rename_i h'
    simpa using h'
set_option maxHeartbeats 1000000 in
theorem fitC_any (c : Cl) (v : Vl) (w : World) :
    Calls Try.prog 38 #[c.val, v.val] w fun e w' => e = .returned (.int .i64 (fitC c v)) ∧ Below w.heap.size w w' := by
  have hv := fun w => vCheck_any v w
  obtain ⟨m, ck, nn⟩ := c
  have hF : fitC ⟨m, ck, nn⟩ v = if mayB v.k v.n v.s = false then 9 else if v.k = 0 ∧ nn = true then 86 else if v.k ≠ 0 ∧ v.k ≠ ck then 81 else 0 := rfl
  rw [hF]
  clear hF
  generalize mayB v.k v.n v.s = b at hv ⊢
  cases b
  · go_enter Try.func38, Try.ntmps38
    go_wp2_with (go_at_call 45; refine (hv _).mono ?_; rintro e w1 ⟨rfl, hb⟩)
    go_ret
    exact ⟨rfl, ((below1 w _).alloc (by simp) _).trans (hb.mono (by simp; omega))⟩
  · cases nn
    all_goals
      go_enter Try.func38, Try.ntmps38
      go_wp2_with (go_at_call 45; refine (hv _).mono ?_; rintro e w1 ⟨rfl, hb⟩; obtain ⟨hc, hf⟩ := bcell hb)
      all_goals go_ret
      all_goals simp only [bne_iff_ne, bne_eq_false_iff_eq, beq_iff_eq, beq_eq_false_iff_ne, ne_eq] at *
      all_goals exact ⟨ret_int (by clear hb hc hf hv; grind), ((below1 w _).alloc (by simp) _).trans (hb.mono (by simp; omega))⟩

set_option maxRecDepth 100000 in
set_option maxHeartbeats 4000000 in
theorem fits_any (m : ByteArray) (cA iA : Option Addr) (cc ic in_ : Nat) (key : Int) (lv : Value) (A : Option Addr) (n c : Nat) (cols : List Cl) (r : List Vl) (w : World) (hl : n = r.length) (hr : RdL w A r) (hc : RdC w cA cols) (hn : r.length * 32 ≤ 140737488355328) (h8 : cols.length ≤ 8) :
    Calls Try.prog 28 #[.agg #[.string m, .slice cA cols.length cc, .int .i64 key, .slice iA in_ ic, lv], .slice A n c] w fun e w' => e = .returned (.int .i64 (fitR cols r)) ∧ Below w.heap.size w w' := by
  subst hl
  by_cases hlen : r.length = cols.length
  · have hF : fitR cols r = firstE (fun p => fitC p.1 p.2) (cols.zip r) := by unfold fitR; rw [if_neg (by simpa using hlen)]
    rw [hF]
    have hz : (cols.zip r).length = cols.length := by rw [List.length_zip]; omega
    have HR := Lib.hid hr
    have HC := Lib.hid hc
    have HL := Lib.hid hlen
    have HZ := Lib.hid hz
    have hle : ((r.length : Int) != (cols.length : Int)) = false := by simp; omega
    clear hr hc hF hz hlen
    go_enter Try.func28, Try.ntmps28
    go_wp2
    go_loopw [5, 6, 7, 19] (fun _ _ _ i wr => ∃ j : Nat, i = .int .i64 j ∧ j ≤ cols.length ∧ (∀ p ∈ (cols.zip r).take j, fitC p.1 p.2 = 0) ∧ Below w.heap.size w wr) (fun _ _ _ i _ => cols.length - (intOf i).toNat)
    case atStart => exact ⟨0, rfl, by omega, by simp, below1 _ _⟩
    case round =>
      obtain ⟨j, rfl, hj, hno, hB⟩ := hrel
      have HN := Lib.hid hno
      have HB := Lib.hid hB
      clear hno hB
      by_cases hlt : j < cols.length
      · have hjr : j < r.length := by have := HL.out; omega
        obtain ⟨ad, e0, k0, k1, k2⟩ := (HC.out.below HB.out).at_ hlt
        subst e0
        obtain ⟨bd, e1, d0, d1, d2⟩ := (HR.out.below HB.out).at_ hjr
        subst e1
        have hk0 := cell_lt k0
        have hd0 := cell_lt d0
        have hf := fun W => fitC_any cols[j] r[j] W
        have hjz : j < (cols.zip r).length := by have := HZ.out; omega
        have hzj : fitC ((cols.zip r)[j]).1 ((cols.zip r)[j]).2 = fitC cols[j] r[j] := by rw [List.getElem_zip]
        have HZJ := Lib.hid hzj
        clear hzj
        generalize cols[j] = C at k0 k1 k2 hf HZJ
        generalize r[j] = V at d0 d1 d2 hf HZJ
        have hB1 := below1 wr (.cells #[.string C.m, .int .i64 C.k, .bool C.nn] 65)
        have b0 : (wr.alloc (.cells #[.string C.m, .int .i64 C.k, .bool C.nn] 65)).cell? ⟨wr.heap.size, 0, none⟩ = some (.string C.m) := by rw [cell_last _ _ _ _ _ rfl]; rfl
        have b1 : (wr.alloc (.cells #[.string C.m, .int .i64 C.k, .bool C.nn] 65)).cell? ⟨wr.heap.size, 1, none⟩ = some (.int .i64 C.k) := by rw [cell_last _ _ _ _ _ rfl]; rfl
        have b2 : (wr.alloc (.cells #[.string C.m, .int .i64 C.k, .bool C.nn] 65)).cell? ⟨wr.heap.size, 2, none⟩ = some (.bool C.nn) := by rw [cell_last _ _ _ _ _ rfl]; rfl
        have D0 := Lib.hid ((hB1.cell hd0).trans d0)
        have D1 := Lib.hid ((hB1.cell (p := ⟨(bd.add (j * 3)).block, (bd.add (j * 3)).off + 1, none⟩) hd0).trans d1)
        have D2 := Lib.hid ((hB1.cell (p := ⟨(bd.add (j * 3)).block, (bd.add (j * 3)).off + 2, none⟩) hd0).trans d2)
        have B0 := Lib.hid b0
        have B1 := Lib.hid b1
        have B2 := Lib.hid b2
        have HB1 := Lib.hid hB1
        clear b0 b1 b2 hB1 d0 d1 d2
        have hjl : (j : Int) < (r.length : Int) := by omega
        have hf' := hf
        go_wp2_with fail
        generalize wr.alloc (.cells #[.string C.m, .int .i64 C.k, .bool C.nn] 65) = W at D0 D1 D2 B0 B1 B2 HB1 ⊢
        have d0 := cell_regrown D0.out
        have d1 := cell_regrown D1.out
        have d2 := cell_regrown D2.out
        have b0 := cell_regrown B0.out
        have b1 := cell_regrown B1.out
        have b2 := cell_regrown B2.out
        generalize fitC C V = F at hf HZJ ⊢
        clear k0 k1 k2
        refine wp_region_quiet_below (by kernel_rfl) (by kernel_rfl) ?_
        repeat (go_big_quiet_step (with_reducible exact Calls.regrown_of (hf _)))
        refine wpQuiet_nil ?_
        intro w5 hw5
        obtain ⟨pp, rfl⟩ := hw5
        have HB5 := Lib.hid (below_regrown W pp.d pp.os)
        clear d0 d1 d2 b0 b1 b2 D0 D1 D2 B0 B1 B2 hf
        generalize grow (redrawn W pp.d) pp.os = W5 at HB5 ⊢
        have HBB := Lib.hid (HB.out.trans ((HB1.out.trans (HB5.out.mono HB1.out.size)).mono HB.out.size))
        by_cases hF0 : F = 0
        · have HT : Hid (∀ p ∈ (cols.zip r).take (j + 1), fitC p.1 p.2 = 0) := Lib.hid (by
            rw [List.take_succ_eq_append_getElem hjz]
            intro p hp
            rcases List.mem_append.1 hp with hp | hp
            · exact HN.out p hp
            · simp only [List.mem_singleton] at hp
              rw [hp, HZJ.out, hF0])
          subst hF0
          go_wp2
          go_roundw
          case rel => exact ⟨j + 1, by go_num, hlt, HT.out, HBB.out⟩
          case measure => simp [intOf]; omega
        · have HT : Hid (firstE (fun p => fitC p.1 p.2) (cols.zip r) = F) := Lib.hid (by
            have := firstE_at (f := fun p : Cl × Vl => fitC p.1 p.2) hjz HN.out (by rw [HZJ.out]; exact hF0)
            rw [this, HZJ.out])
          go_wp2
          go_ret
          exact ⟨ret_int HT.out.symm, HBB.out⟩
      · have HT : Hid (firstE (fun p => fitC p.1 p.2) (cols.zip r) = 0) := Lib.hid (by
          refine firstE_zero.2 fun p hp => HN.out p ?_
          rw [List.take_of_length_le (by have := HZ.out; omega)]
          exact hp)
        go_wp2
        go_ret
        exact ⟨ret_int HT.out.symm, HB.out⟩
  · have hF : fitR cols r = 3 := by unfold fitR; rw [if_pos hlen]
    rw [hF]
    have hle : ((r.length : Int) != (cols.length : Int)) = true := by simp; omega
    clear hr hc hF hlen
    go_enter Try.func28, Try.ntmps28
    go_wp2
    go_ret
    exact ⟨rfl, below1 _ _⟩
end Go.Proofs.Ytjbebhhoakmceaa
