/- Whether a table may be: the walks of catalog's isTable, mayBe and Check, and of rows' isTable. Conditions: lists that are read in memory. -/
import Derived.Test.YtipcacplphidhaaGreatJp
namespace Go.Proofs.YtipcacplphidhaaGreat
open Go.RowKit Go.Sort Go.Maps
set_option linter.unusedSimpArgs false
set_option linter.unusedVariables false

def notNullB (l : List Cl) (k : Int) : Bool := match l[k.toNat]? with
  | some x => x.nn
  | none => false
/-- Whether a table may be. -/
def tblB (t : Tb) : Bool := nameB t.m && (colsB t.cols && (idxB t.cols.length t.idx && (newB [] (t.cols.map Cl.m) && (newB [] (t.idx.map Ix.m) && (placeB t.cols.length t.key && notNullB t.cols t.key)))))
theorem nameB_16 {s : ByteArray} (h : nameB s = true) : s.size ≤ 16 := by
  rcases Nat.lt_or_ge 16 s.size with h1 | h1
  · rw [nameB_long h1] at h; cases h
  · exact h1
theorem colsB_parts {l : List Cl} (h : colsB l = true) : 0 < l.length ∧ l.length ≤ 8 ∧ ∀ x ∈ l, x.m.size ≤ 16 := by
  simp only [colsB, Bool.and_eq_true, Bool.not_eq_true', decide_eq_false_iff_not, decide_eq_true_eq] at h
  refine ⟨by omega, h.2.1, fun x hx => ?_⟩
  have := List.all_eq_true.1 h.2.2 x hx
  simp only [colB, Bool.and_eq_true] at this
  exact nameB_16 this.1
theorem idxB_parts {n : Nat} {l : List Ix} (h : idxB n l = true) : l.length ≤ 4 ∧ ∀ x ∈ l, x.m.size ≤ 16 := by
  simp only [idxB, Bool.and_eq_true, decide_eq_true_eq] at h
  refine ⟨h.1, fun x hx => ?_⟩
  have := List.all_eq_true.1 h.2 x hx
  simp only [ixB, Bool.and_eq_true] at this
  exact nameB_16 this.1
theorem placeB_parts {n : Nat} {k : Int} (h : placeB n k = true) : ∃ kk : Nat, k = kk ∧ kk < n := by
  simp only [placeB, Bool.and_eq_true, decide_eq_true_eq] at h
  exact ⟨k.toNat, by omega, by omega⟩
/-- The four cells of a table at block b. -/
structure Box4 (w : World) (b : Nat) (m : ByteArray) (cA : Option Addr) (cn cc : Nat) (k : Int) (iA : Option Addr) (in_ ic : Nat) : Prop where
  c0 : w.cell? ⟨b, 0, none⟩ = some (.string m)
  c1 : w.cell? ⟨b, 1, none⟩ = some (.slice cA cn cc)
  c2 : w.cell? ⟨b, 2, none⟩ = some (.int .i64 k)
  c3 : w.cell? ⟨b, 3, none⟩ = some (.slice iA in_ ic)
section
variable {w w' : World} {b : Nat} {m : ByteArray} {cA : Option Addr} {cn cc : Nat} {k : Int} {iA : Option Addr} {in_ ic : Nat}
theorem Box4.kept (h : Box4 w b m cA cn cc k iA in_ ic) (hk : Kp w w') : Box4 w' b m cA cn cc k iA in_ ic := ⟨hk _ _ h.c0, hk _ _ h.c1, hk _ _ h.c2, hk _ _ h.c3⟩
theorem Box4.below (h : Box4 w b m cA cn cc k iA in_ ic) (hb : Below w.heap.size w w') : Box4 w' b m cA cn cc k iA in_ ic := h.kept (Kp.of_below hb)
theorem Box4.new (w : World) (m : ByteArray) (cA : Option Addr) (cn cc : Nat) (k : Int) (iA : Option Addr) (in_ ic : Nat) (t : TypeId) : Box4 (w.alloc (.cells #[.string m, .slice cA cn cc, .int .i64 k, .slice iA in_ ic] t)) w.heap.size m cA cn cc k iA in_ ic :=
  ⟨by rw [cell_last _ _ _ _ _ rfl]; rfl, by rw [cell_last _ _ _ _ _ rfl]; rfl, by rw [cell_last _ _ _ _ _ rfl]; rfl, by rw [cell_last _ _ _ _ _ rfl]; rfl⟩
end

/-- What isTable comes to. -/
def TblPost (w : World) (b : Nat) (B : Bool) (e : Ending) (w' : World) : Prop := e = .returned (.bool B) ∧ (∃ n D, IsSet w' b n D) ∧ w.grownBy w' (some b)
/-- A table's value. -/
@[reducible] def tbl (m : ByteArray) (cA : Option Addr) (cn cc : Nat) (k : Int) (iA : Option Addr) (in_ ic : Nat) : Value := .agg #[.string m, .slice cA cn cc, .int .i64 k, .slice iA in_ ic]

set_option maxRecDepth 100000 in
set_option maxHeartbeats 8000000 in
theorem isTable_any (t : Tb) (cA iA : Option Addr) (cc ic b : Nat) (w : World) (hc : RdC w cA t.cols) (hx : RdX w iA t.idx) (hn : t.cols.length ≤ 9223372036854775807) (hset : ∃ n D, IsSet w b n D) :
    Calls Tryz.prog 60 #[tbl t.m cA t.cols.length cc t.key iA t.idx.length ic, .map (some b)] w (TblPost w b (tblB t)) := by
  obtain ⟨m, cols, key, idx⟩ := t
  dsimp only at hc hx hn ⊢
  obtain ⟨n0, D0, hs0⟩ := hset
  have HC := Lib.hid hc
  have HX := Lib.hid hx
  have HS := Lib.hid hs0
  clear hc hx hs0
  have HN := Lib.hid fun w => sName_any m w
  have HB := Lib.hid (Box4.new w m cA cols.length cc key iA idx.length ic 46)
  have hT : tblB ⟨m, cols, key, idx⟩ = (nameB m && (colsB cols && (idxB cols.length idx && (newB [] (cols.map Cl.m) && (newB [] (idx.map Ix.m) && (placeB cols.length key && notNullB cols key)))))) := rfl
  rw [hT]
  clear hT
  have HCP := Lib.hid (colsB_parts (l := cols))
  have HIP := Lib.hid (idxB_parts (n := cols.length) (l := idx))
  have HPP := Lib.hid (placeB_parts (n := cols.length) (k := key))
  have HCA := Lib.hid fun (W : World) (h : Kp w W) => areColumns_any cA cols.length cc cols W rfl (HC.out.kept h)
  have HIA := Lib.hid fun (W : World) (h : Kp w W) => areIndexes_any m cA iA cols.length cc ic idx.length key idx W rfl (HX.out.kept h) hn
  have HPA := Lib.hid fun (W : World) => isPlace_any m cA iA cols.length cc ic idx.length key key W hn
  have HNC := Lib.hid fun (W : World) (h : Kp w W) (h8 : cols.length ≤ 8) (h16 : ∀ x ∈ cols, x.m.size ≤ 16) (hs : IsSet W b 0 (setOf (.agg []) (keys []))) => newC_any cA cols.length cc b cols W rfl (HC.out.kept h) h8 h16 hs
  have HNX := Lib.hid fun (W : World) (h : Kp w W) (h8 : idx.length ≤ 8) (h16 : ∀ x ∈ idx, x.m.size ≤ 16) (hs : IsSet W b 0 (setOf (.agg []) (keys []))) => newX_any iA idx.length ic b idx W rfl (HX.out.kept h) h8 h16 hs
  generalize nameB m = N at HN ⊢
  generalize colsB cols = C at HCA HCP ⊢
  generalize idxB cols.length idx = I at HIA HIP ⊢
  generalize newB [] (cols.map Cl.m) = NC at HNC ⊢
  generalize newB [] (idx.map Ix.m) = NX at HNX ⊢
  generalize placeB cols.length key = P at HPA HPP ⊢
  cases N
  · go_enter Tryz.func60, Tryz.ntmps60
    go_wp2_with (first | (go_at_call 81; refine (HN.out _).mono ?_; rintro e w1 ⟨rfl, hb⟩; obtain ⟨x0, x1, x2, x3⟩ := HB.out.below hb; have hb1 := (below1 w _).trans (hb.mono (by simp)); have HK1 := Lib.hid (Kp.of_below hb1); have HS1 := Lib.hid (set_below HS.out hb1); have HG1 := Lib.hid (grown_below hb1 (some b)); clear hb hb1))
    go_ret
    exact ⟨ret_bool (by simp), ⟨_, _, HS1.out⟩, HG1.out⟩
  cases C
  · go_enter Tryz.func60, Tryz.ntmps60
    go_wp2_with (first | (go_at_call 81; refine (HN.out _).mono ?_; rintro e w1 ⟨rfl, hb⟩; obtain ⟨x0, x1, x2, x3⟩ := HB.out.below hb; have hb1 := (below1 w _).trans (hb.mono (by simp)); have HK1 := Lib.hid (Kp.of_below hb1); have HS1 := Lib.hid (set_below HS.out hb1); have HG1 := Lib.hid (grown_below hb1 (some b)); clear hb hb1) | (go_at_call 82; refine (HCA.out _ HK1.out).mono ?_; rintro e w2 ⟨rfl, hb⟩; obtain ⟨x0, x1, x2, x3⟩ := (Box4.mk x0 x1 x2 x3).below hb; have HK2 := Lib.hid (HK1.out.trans (Kp.of_below hb)); have HS2 := Lib.hid (set_below HS1.out hb); have HG2 := Lib.hid (grown_trans HG1.out (grown_below hb (some b))); clear hb))
    go_ret
    exact ⟨ret_bool (by simp), ⟨_, _, HS2.out⟩, HG2.out⟩
  obtain ⟨HCP0, HCP1, hcp2⟩ := HCP.out rfl
  have HCP2 := Lib.hid hcp2
  clear hcp2
  cases I
  · go_enter Tryz.func60, Tryz.ntmps60
    go_wp2_with (first | (go_at_call 81; refine (HN.out _).mono ?_; rintro e w1 ⟨rfl, hb⟩; obtain ⟨x0, x1, x2, x3⟩ := HB.out.below hb; have hb1 := (below1 w _).trans (hb.mono (by simp)); have HK1 := Lib.hid (Kp.of_below hb1); have HS1 := Lib.hid (set_below HS.out hb1); have HG1 := Lib.hid (grown_below hb1 (some b)); clear hb hb1) | (go_at_call 82; refine (HCA.out _ HK1.out).mono ?_; rintro e w2 ⟨rfl, hb⟩; obtain ⟨x0, x1, x2, x3⟩ := (Box4.mk x0 x1 x2 x3).below hb; have HK2 := Lib.hid (HK1.out.trans (Kp.of_below hb)); have HS2 := Lib.hid (set_below HS1.out hb); have HG2 := Lib.hid (grown_trans HG1.out (grown_below hb (some b))); clear hb) | (go_at_call 83; refine (HIA.out _ HK2.out).mono ?_; rintro e w3 ⟨rfl, hb⟩; obtain ⟨x0, x1, x2, x3⟩ := (Box4.mk x0 x1 x2 x3).below hb; have HK3 := Lib.hid (HK2.out.trans (Kp.of_below hb)); have HS3 := Lib.hid (set_below HS2.out hb); have HG3 := Lib.hid (grown_trans HG2.out (grown_below hb (some b))); clear hb; obtain ⟨w4, hcl3, hs, hg⟩ := run_clear_set HS3.out; have hk := Kp.of_set HS3.out hg; obtain ⟨x0, x1, x2, x3⟩ := (Box4.mk x0 x1 x2 x3).kept hk; have HK4 := Lib.hid (HK3.out.trans hk); have HS4 := Lib.hid hs; have HG4 := Lib.hid (grown_trans HG3.out hg); clear hs hg hk))
    go_ret
    exact ⟨ret_bool (by simp), ⟨_, _, HS3.out⟩, HG3.out⟩
  obtain ⟨hip1, hip2⟩ := HIP.out rfl
  have HIP1 : idx.length ≤ 8 := by omega
  have HIP2 := Lib.hid hip2
  clear hip2
  cases NC
  · go_enter Tryz.func60, Tryz.ntmps60
    go_wp2_with (first | (go_at_call 81; refine (HN.out _).mono ?_; rintro e w1 ⟨rfl, hb⟩; obtain ⟨x0, x1, x2, x3⟩ := HB.out.below hb; have hb1 := (below1 w _).trans (hb.mono (by simp)); have HK1 := Lib.hid (Kp.of_below hb1); have HS1 := Lib.hid (set_below HS.out hb1); have HG1 := Lib.hid (grown_below hb1 (some b)); clear hb hb1) | (go_at_call 82; refine (HCA.out _ HK1.out).mono ?_; rintro e w2 ⟨rfl, hb⟩; obtain ⟨x0, x1, x2, x3⟩ := (Box4.mk x0 x1 x2 x3).below hb; have HK2 := Lib.hid (HK1.out.trans (Kp.of_below hb)); have HS2 := Lib.hid (set_below HS1.out hb); have HG2 := Lib.hid (grown_trans HG1.out (grown_below hb (some b))); clear hb) | (go_at_call 83; refine (HIA.out _ HK2.out).mono ?_; rintro e w3 ⟨rfl, hb⟩; obtain ⟨x0, x1, x2, x3⟩ := (Box4.mk x0 x1 x2 x3).below hb; have HK3 := Lib.hid (HK2.out.trans (Kp.of_below hb)); have HS3 := Lib.hid (set_below HS2.out hb); have HG3 := Lib.hid (grown_trans HG2.out (grown_below hb (some b))); clear hb; obtain ⟨w4, hcl3, hs, hg⟩ := run_clear_set HS3.out; have hk := Kp.of_set HS3.out hg; obtain ⟨x0, x1, x2, x3⟩ := (Box4.mk x0 x1 x2 x3).kept hk; have HK4 := Lib.hid (HK3.out.trans hk); have HS4 := Lib.hid hs; have HG4 := Lib.hid (grown_trans HG3.out hg); clear hs hg hk) | (go_at_call 17; refine (HNC.out _ HK4.out HCP1 HCP2.out HS4.out).mono ?_; rintro e w5 ⟨rfl, hss, hg⟩; obtain ⟨n5, D5, hs⟩ := hss; have hk := Kp.of_set HS4.out hg; obtain ⟨x0, x1, x2, x3⟩ := (Box4.mk x0 x1 x2 x3).kept hk; have HK5 := Lib.hid (HK4.out.trans hk); have HS5 := Lib.hid hs; have HG5 := Lib.hid (grown_trans HG4.out hg); clear hs hg hk; obtain ⟨w6, hcl5, hs, hg⟩ := run_clear_set HS5.out; have hk := Kp.of_set HS5.out hg; obtain ⟨x0, x1, x2, x3⟩ := (Box4.mk x0 x1 x2 x3).kept hk; have HK6 := Lib.hid (HK5.out.trans hk); have HS6 := Lib.hid hs; have HG6 := Lib.hid (grown_trans HG5.out hg); clear hs hg hk))
    go_ret
    exact ⟨ret_bool (by simp), ⟨_, _, HS5.out⟩, HG5.out⟩
  cases NX
  · go_enter Tryz.func60, Tryz.ntmps60
    go_wp2_with (first | (go_at_call 81; refine (HN.out _).mono ?_; rintro e w1 ⟨rfl, hb⟩; obtain ⟨x0, x1, x2, x3⟩ := HB.out.below hb; have hb1 := (below1 w _).trans (hb.mono (by simp)); have HK1 := Lib.hid (Kp.of_below hb1); have HS1 := Lib.hid (set_below HS.out hb1); have HG1 := Lib.hid (grown_below hb1 (some b)); clear hb hb1) | (go_at_call 82; refine (HCA.out _ HK1.out).mono ?_; rintro e w2 ⟨rfl, hb⟩; obtain ⟨x0, x1, x2, x3⟩ := (Box4.mk x0 x1 x2 x3).below hb; have HK2 := Lib.hid (HK1.out.trans (Kp.of_below hb)); have HS2 := Lib.hid (set_below HS1.out hb); have HG2 := Lib.hid (grown_trans HG1.out (grown_below hb (some b))); clear hb) | (go_at_call 83; refine (HIA.out _ HK2.out).mono ?_; rintro e w3 ⟨rfl, hb⟩; obtain ⟨x0, x1, x2, x3⟩ := (Box4.mk x0 x1 x2 x3).below hb; have HK3 := Lib.hid (HK2.out.trans (Kp.of_below hb)); have HS3 := Lib.hid (set_below HS2.out hb); have HG3 := Lib.hid (grown_trans HG2.out (grown_below hb (some b))); clear hb; obtain ⟨w4, hcl3, hs, hg⟩ := run_clear_set HS3.out; have hk := Kp.of_set HS3.out hg; obtain ⟨x0, x1, x2, x3⟩ := (Box4.mk x0 x1 x2 x3).kept hk; have HK4 := Lib.hid (HK3.out.trans hk); have HS4 := Lib.hid hs; have HG4 := Lib.hid (grown_trans HG3.out hg); clear hs hg hk) | (go_at_call 17; refine (HNC.out _ HK4.out HCP1 HCP2.out HS4.out).mono ?_; rintro e w5 ⟨rfl, hss, hg⟩; obtain ⟨n5, D5, hs⟩ := hss; have hk := Kp.of_set HS4.out hg; obtain ⟨x0, x1, x2, x3⟩ := (Box4.mk x0 x1 x2 x3).kept hk; have HK5 := Lib.hid (HK4.out.trans hk); have HS5 := Lib.hid hs; have HG5 := Lib.hid (grown_trans HG4.out hg); clear hs hg hk; obtain ⟨w6, hcl5, hs, hg⟩ := run_clear_set HS5.out; have hk := Kp.of_set HS5.out hg; obtain ⟨x0, x1, x2, x3⟩ := (Box4.mk x0 x1 x2 x3).kept hk; have HK6 := Lib.hid (HK5.out.trans hk); have HS6 := Lib.hid hs; have HG6 := Lib.hid (grown_trans HG5.out hg); clear hs hg hk) | (go_at_call 61; refine (HNX.out _ HK6.out HIP1 HIP2.out HS6.out).mono ?_; rintro e w7 ⟨rfl, hss, hg⟩; obtain ⟨n7, D7, hs⟩ := hss; have hk := Kp.of_set HS6.out hg; obtain ⟨x0, x1, x2, x3⟩ := (Box4.mk x0 x1 x2 x3).kept hk; have HK7 := Lib.hid (HK6.out.trans hk); have HS7 := Lib.hid hs; have HG7 := Lib.hid (grown_trans HG6.out hg); clear hs hg hk))
    go_ret
    exact ⟨ret_bool (by simp), ⟨_, _, HS7.out⟩, HG7.out⟩
  cases P
  · go_enter Tryz.func60, Tryz.ntmps60
    go_wp2_with (first | (go_at_call 81; refine (HN.out _).mono ?_; rintro e w1 ⟨rfl, hb⟩; obtain ⟨x0, x1, x2, x3⟩ := HB.out.below hb; have hb1 := (below1 w _).trans (hb.mono (by simp)); have HK1 := Lib.hid (Kp.of_below hb1); have HS1 := Lib.hid (set_below HS.out hb1); have HG1 := Lib.hid (grown_below hb1 (some b)); clear hb hb1) | (go_at_call 82; refine (HCA.out _ HK1.out).mono ?_; rintro e w2 ⟨rfl, hb⟩; obtain ⟨x0, x1, x2, x3⟩ := (Box4.mk x0 x1 x2 x3).below hb; have HK2 := Lib.hid (HK1.out.trans (Kp.of_below hb)); have HS2 := Lib.hid (set_below HS1.out hb); have HG2 := Lib.hid (grown_trans HG1.out (grown_below hb (some b))); clear hb) | (go_at_call 83; refine (HIA.out _ HK2.out).mono ?_; rintro e w3 ⟨rfl, hb⟩; obtain ⟨x0, x1, x2, x3⟩ := (Box4.mk x0 x1 x2 x3).below hb; have HK3 := Lib.hid (HK2.out.trans (Kp.of_below hb)); have HS3 := Lib.hid (set_below HS2.out hb); have HG3 := Lib.hid (grown_trans HG2.out (grown_below hb (some b))); clear hb; obtain ⟨w4, hcl3, hs, hg⟩ := run_clear_set HS3.out; have hk := Kp.of_set HS3.out hg; obtain ⟨x0, x1, x2, x3⟩ := (Box4.mk x0 x1 x2 x3).kept hk; have HK4 := Lib.hid (HK3.out.trans hk); have HS4 := Lib.hid hs; have HG4 := Lib.hid (grown_trans HG3.out hg); clear hs hg hk) | (go_at_call 17; refine (HNC.out _ HK4.out HCP1 HCP2.out HS4.out).mono ?_; rintro e w5 ⟨rfl, hss, hg⟩; obtain ⟨n5, D5, hs⟩ := hss; have hk := Kp.of_set HS4.out hg; obtain ⟨x0, x1, x2, x3⟩ := (Box4.mk x0 x1 x2 x3).kept hk; have HK5 := Lib.hid (HK4.out.trans hk); have HS5 := Lib.hid hs; have HG5 := Lib.hid (grown_trans HG4.out hg); clear hs hg hk; obtain ⟨w6, hcl5, hs, hg⟩ := run_clear_set HS5.out; have hk := Kp.of_set HS5.out hg; obtain ⟨x0, x1, x2, x3⟩ := (Box4.mk x0 x1 x2 x3).kept hk; have HK6 := Lib.hid (HK5.out.trans hk); have HS6 := Lib.hid hs; have HG6 := Lib.hid (grown_trans HG5.out hg); clear hs hg hk) | (go_at_call 61; refine (HNX.out _ HK6.out HIP1 HIP2.out HS6.out).mono ?_; rintro e w7 ⟨rfl, hss, hg⟩; obtain ⟨n7, D7, hs⟩ := hss; have hk := Kp.of_set HS6.out hg; obtain ⟨x0, x1, x2, x3⟩ := (Box4.mk x0 x1 x2 x3).kept hk; have HK7 := Lib.hid (HK6.out.trans hk); have HS7 := Lib.hid hs; have HG7 := Lib.hid (grown_trans HG6.out hg); clear hs hg hk) | (go_at_call 84; refine (HPA.out _).mono ?_; rintro e w8 ⟨rfl, hb⟩; obtain ⟨x0, x1, x2, x3⟩ := (Box4.mk x0 x1 x2 x3).below hb; have hk8 := HK7.out.trans (Kp.of_below hb); have HK8 := Lib.hid hk8; have HS8 := Lib.hid (set_below HS7.out hb); have HG8 := Lib.hid (grown_trans HG7.out (grown_below hb (some b))); clear hb))
    go_ret
    exact ⟨ret_bool (by simp), ⟨_, _, HS8.out⟩, HG8.out⟩
  obtain ⟨kk, hkey, hkk⟩ := HPP.out rfl
  subst hkey
  have hnn : notNullB cols kk = (cols[kk]'hkk).nn := by unfold notNullB; rw [Int.toNat_natCast, List.getElem?_eq_getElem hkk]
  rw [hnn]
  clear hnn
  have hkki : (kk : Int) < (cols.length : Int) := by omega
  go_enter Tryz.func60, Tryz.ntmps60
  go_wp2_with (first | (go_at_call 81; refine (HN.out _).mono ?_; rintro e w1 ⟨rfl, hb⟩; obtain ⟨x0, x1, x2, x3⟩ := HB.out.below hb; have hb1 := (below1 w _).trans (hb.mono (by simp)); have HK1 := Lib.hid (Kp.of_below hb1); have HS1 := Lib.hid (set_below HS.out hb1); have HG1 := Lib.hid (grown_below hb1 (some b)); clear hb hb1) | (go_at_call 82; refine (HCA.out _ HK1.out).mono ?_; rintro e w2 ⟨rfl, hb⟩; obtain ⟨x0, x1, x2, x3⟩ := (Box4.mk x0 x1 x2 x3).below hb; have HK2 := Lib.hid (HK1.out.trans (Kp.of_below hb)); have HS2 := Lib.hid (set_below HS1.out hb); have HG2 := Lib.hid (grown_trans HG1.out (grown_below hb (some b))); clear hb) | (go_at_call 83; refine (HIA.out _ HK2.out).mono ?_; rintro e w3 ⟨rfl, hb⟩; obtain ⟨x0, x1, x2, x3⟩ := (Box4.mk x0 x1 x2 x3).below hb; have HK3 := Lib.hid (HK2.out.trans (Kp.of_below hb)); have HS3 := Lib.hid (set_below HS2.out hb); have HG3 := Lib.hid (grown_trans HG2.out (grown_below hb (some b))); clear hb; obtain ⟨w4, hcl3, hs, hg⟩ := run_clear_set HS3.out; have hk := Kp.of_set HS3.out hg; obtain ⟨x0, x1, x2, x3⟩ := (Box4.mk x0 x1 x2 x3).kept hk; have HK4 := Lib.hid (HK3.out.trans hk); have HS4 := Lib.hid hs; have HG4 := Lib.hid (grown_trans HG3.out hg); clear hs hg hk) | (go_at_call 17; refine (HNC.out _ HK4.out HCP1 HCP2.out HS4.out).mono ?_; rintro e w5 ⟨rfl, hss, hg⟩; obtain ⟨n5, D5, hs⟩ := hss; have hk := Kp.of_set HS4.out hg; obtain ⟨x0, x1, x2, x3⟩ := (Box4.mk x0 x1 x2 x3).kept hk; have HK5 := Lib.hid (HK4.out.trans hk); have HS5 := Lib.hid hs; have HG5 := Lib.hid (grown_trans HG4.out hg); clear hs hg hk; obtain ⟨w6, hcl5, hs, hg⟩ := run_clear_set HS5.out; have hk := Kp.of_set HS5.out hg; obtain ⟨x0, x1, x2, x3⟩ := (Box4.mk x0 x1 x2 x3).kept hk; have HK6 := Lib.hid (HK5.out.trans hk); have HS6 := Lib.hid hs; have HG6 := Lib.hid (grown_trans HG5.out hg); clear hs hg hk) | (go_at_call 61; refine (HNX.out _ HK6.out HIP1 HIP2.out HS6.out).mono ?_; rintro e w7 ⟨rfl, hss, hg⟩; obtain ⟨n7, D7, hs⟩ := hss; have hk := Kp.of_set HS6.out hg; obtain ⟨x0, x1, x2, x3⟩ := (Box4.mk x0 x1 x2 x3).kept hk; have HK7 := Lib.hid (HK6.out.trans hk); have HS7 := Lib.hid hs; have HG7 := Lib.hid (grown_trans HG6.out hg); clear hs hg hk) | (go_at_call 84; refine (HPA.out _).mono ?_; rintro e w8 ⟨rfl, hb⟩; obtain ⟨x0, x1, x2, x3⟩ := (Box4.mk x0 x1 x2 x3).below hb; have hk8 := HK7.out.trans (Kp.of_below hb); have HK8 := Lib.hid hk8; have HS8 := Lib.hid (set_below HS7.out hb); have HG8 := Lib.hid (grown_trans HG7.out (grown_below hb (some b))); clear hb; obtain ⟨ad, rfl, k0, k1, k2⟩ := (HC.out.kept hk8).at_ hkk; have hk0 := cell_lt k0; clear hk8))
  go_ret
  exact ⟨ret_bool (by simp), ⟨_, _, HS8.out⟩, HG8.out⟩
end Go.Proofs.YtipcacplphidhaaGreat
