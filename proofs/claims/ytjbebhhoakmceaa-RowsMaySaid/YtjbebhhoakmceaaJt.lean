/- What rows' turn makes of rows, and so Insert, Delete and Update: the walks. Conditions: a table and rows that are read in memory. -/
import Derived.Test.YtjbebhhoakmceaaJm
namespace Go.Proofs.Ytjbebhhoakmceaa
open Go.RowKit Go.Sort
set_option linter.unusedSimpArgs false
set_option linter.unusedVariables false

/-- What turn comes to. -/
def TurnPost (w : World) (R : Int × List (List Vl)) (e : Ending) (w' : World) : Prop :=
  (R.1 ≠ 0 → e = .returned (.tuple #[.slice none 0 0, .int .i64 R.1])) ∧ (R.1 = 0 → ∃ A c, e = .returned (.tuple #[.slice A R.2.length c, .int .i64 0]) ∧ RdR w' A R.2 ∧ (A = none → R.2.length = 0)) ∧ Below w.heap.size w w'
def trnF (t : Tb) (ls : List (List Vl)) (R : Int × List (List Vl)) : Int × List (List Vl) := if chkF t ls ≠ 0 then (chkF t ls, []) else R
/-- What is kept while the rows are laid. -/
abbrev KeepT (w1 : World) (g : Nat) (m : ByteArray) (cA : Option Addr) (cn cc : Nat) (k : Int) (iA : Option Addr) (in_ ic : Nat) (W : World) : Prop :=
  W.cell? ⟨g, 0, none⟩ = some (.string m) ∧ W.cell? ⟨g, 1, none⟩ = some (.slice cA cn cc) ∧ W.cell? ⟨g, 2, none⟩ = some (.int .i64 k) ∧ W.cell? ⟨g, 3, none⟩ = some (.slice iA in_ ic) ∧ Below w1.heap.size w1 W
theorem KeepT.below {w1 W W' : World} {g : Nat} {m : ByteArray} {cA : Option Addr} {cn cc : Nat} {k : Int} {iA : Option Addr} {in_ ic : Nat} (h : KeepT w1 g m cA cn cc k iA in_ ic W) (hb : Below W.heap.size W W') : KeepT w1 g m cA cn cc k iA in_ ic W' := by
  obtain ⟨h0, h1, h2, h3, h4⟩ := h
  have hk := Kp.of_below hb
  exact ⟨hk _ _ h0, hk _ _ h1, hk _ _ h2, hk _ _ h3, h4.trans (hb.mono h4.size)⟩
theorem KeepT.drew {w1 W : World} {g : Nat} {m : ByteArray} {cA : Option Addr} {cn cc : Nat} {k : Int} {iA : Option Addr} {in_ ic : Nat} (h : KeepT w1 g m cA cn cc k iA in_ ic W) : KeepT w1 g m cA cn cc k iA in_ ic W.drew := ⟨h.1, h.2.1, h.2.2.1, h.2.2.2.1, h.2.2.2.2.drew⟩
theorem KeepT.alloc {w1 W : World} {g : Nat} {m : ByteArray} {cA : Option Addr} {cn cc : Nat} {k : Int} {iA : Option Addr} {in_ ic : Nat} (h : KeepT w1 g m cA cn cc k iA in_ ic W) (o : Obj) : KeepT w1 g m cA cn cc k iA in_ ic (W.alloc o) := h.below (below1 W o)
theorem KeepT.set5 {w1 W : World} {g : Nat} {m : ByteArray} {cA : Option Addr} {cn cc : Nat} {k : Int} {iA : Option Addr} {in_ ic : Nat} (h : KeepT w1 g m cA cn cc k iA in_ ic W) {b : Nat} (hg : g < w1.heap.size) (hB : w1.heap.size ≤ b) (a0 a1 a2 a3 a4 : Value) :
    KeepT w1 g m cA cn cc k iA in_ ic (((((W.setCell ⟨b, 0, none⟩ a0).setCell ⟨b, 1, none⟩ a1).setCell ⟨b, 2, none⟩ a2).setCell ⟨b, 3, none⟩ a3).setCell ⟨b, 4, none⟩ a4) := by
  have hne : ∀ o, (((((W.setCell ⟨b, 0, none⟩ a0).setCell ⟨b, 1, none⟩ a1).setCell ⟨b, 2, none⟩ a2).setCell ⟨b, 3, none⟩ a3).setCell ⟨b, 4, none⟩ a4).cell? ⟨g, o, none⟩ = W.cell? ⟨g, o, none⟩ := fun o => World.cell?_setCells_out b [a0, a1, a2, a3, a4] 0 W ⟨g, o, none⟩ (fun e _ => by have : g = b := e; omega)
  obtain ⟨h0, h1, h2, h3, h4⟩ := h
  exact ⟨(hne 0).trans h0, (hne 1).trans h1, (hne 2).trans h2, (hne 3).trans h3, below_cells hB [a0, a1, a2, a3, a4] 0 h4⟩
theorem rows_fit {w : World} {cs : List Value} {ls : List (List Vl)} (hl : cs.length = ls.length) (h : ∀ (j : Nat) (v : Value) (r : List Vl), cs[j]? = some v → ls[j]? = some r → Rw w v r) : ∀ r ∈ ls, r.length * 32 ≤ 140737488355328 := fun r hr => by
  obtain ⟨j, hj, rfl⟩ := List.mem_iff_getElem.1 hr
  obtain ⟨_, _, _, _, _, hn⟩ := h j _ _ (List.getElem?_eq_getElem (by omega)) (List.getElem?_eq_getElem hj)
  exact hn
theorem new5 {W w3 : World} {a0 a1 a2 a3 a4 : Value} {T : TypeId} (hb : Below (W.alloc (.cells #[a0, a1, a2, a3, a4] T)).heap.size (W.alloc (.cells #[a0, a1, a2, a3, a4] T)) w3) : w3.heap[W.heap.size]? = some (.cells #[a0, a1, a2, a3, a4] T (0, 0)) := by
  rw [hb.block _ (by simp), heap_alloc_new]
theorem new5d {W w3 : World} {a0 a1 a2 a3 a4 : Value} {T : TypeId} (hb : Below (W.alloc (.cells #[a0, a1, a2, a3, a4] T)).drew.heap.size (W.alloc (.cells #[a0, a1, a2, a3, a4] T)).drew w3) : w3.heap[W.heap.size]? = some (.cells #[a0, a1, a2, a3, a4] T (0, 0)) :=
  new5 (W := W) ⟨hb.os, hb.tape, hb.output, hb.size, hb.block⟩
theorem cells5 {w3 : World} {g : Nat} {a0 a1 a2 a3 a4 : Value} {T : TypeId} (h : w3.heap[g]? = some (.cells #[a0, a1, a2, a3, a4] T (0, 0))) :
    w3.cell? ⟨g, 0, none⟩ = some a0 ∧ w3.cell? ⟨g, 1, none⟩ = some a1 ∧ w3.cell? ⟨g, 2, none⟩ = some a2 ∧ w3.cell? ⟨g, 3, none⟩ = some a3 ∧ w3.cell? ⟨g, 4, none⟩ = some a4 ∧
    w3.frozen? ⟨g, 0, none⟩ = false ∧ w3.frozen? ⟨g, 1, none⟩ = false ∧ w3.frozen? ⟨g, 2, none⟩ = false ∧ w3.frozen? ⟨g, 3, none⟩ = false ∧ w3.frozen? ⟨g, 4, none⟩ = false := by
  simp [World.cell?, World.frozen?, h]

theorem wayA {m : ByteArray} {cA : Option Addr} {cn cc : Nat} {kk : Int} {iA : Option Addr} {in_ ic : Nat} {w1 w3 : World} {lv : Value} {cs : List Value} {ls : List (List Vl)} (ho : Own w3 w1.heap.size lv cs) (hb : Below w1.heap.size w1 w3) (hl : cs.length = ls.length)
    (hr : ∀ (j : Nat) (v : Value) (r : List Vl), cs[j]? = some v → ls[j]? = some r → Rw w1 v r) : Way m cA cn cc kk iA in_ ic w1 (w3.alloc (.cells #[.string m, .slice cA cn cc, .int .i64 kk, .slice iA in_ ic, lv] 59)) w3.heap.size lv cs ls :=
  ⟨hb.size, heap_alloc_new w3 _, ho.alloc _, hb.alloc hb.size _, hl, hr⟩
theorem wayB {m : ByteArray} {cA : Option Addr} {cn cc : Nat} {kk : Int} {iA : Option Addr} {in_ ic : Nat} {w1 w3 : World} {b : Nat} {lv a0 a1 a2 a3 a4 : Value} {cs : List Value} {ls : List (List Vl)} (ho : Own w3 w1.heap.size lv cs) (hb : Below w1.heap.size w1 w3) (hl : cs.length = ls.length)
    (hr : ∀ (j : Nat) (v : Value) (r : List Vl), cs[j]? = some v → ls[j]? = some r → Rw w1 v r) (h5 : w3.heap[b]? = some (.cells #[a0, a1, a2, a3, a4] 59 (0, 0))) (hB : w1.heap.size ≤ b) :
    Way m cA cn cc kk iA in_ ic w1 (((((w3.setCell ⟨b, 0, none⟩ (.string m)).setCell ⟨b, 1, none⟩ (.slice cA cn cc)).setCell ⟨b, 2, none⟩ (.int .i64 kk)).setCell ⟨b, 3, none⟩ (.slice iA in_ ic)).setCell ⟨b, 4, none⟩ lv) b lv cs ls := by
  have hne : lv.ownBlock ≠ some b := Lib.ownBlock_ne ho h5 (by decide)
  refine ⟨hB, ?_, ho.kept (grown_setCells b [.string m, .slice cA cn cc, .int .i64 kk, .slice iA in_ ic, lv] 0 w3) (.inr hne), below_cells hB [.string m, .slice cA cn cc, .int .i64 kk, .slice iA in_ ic, lv] 0 hb, hl, hr⟩
  have s0 := heap_setCell_same w3 b 0 _ _ (.string m) h5
  have s1 := heap_setCell_same _ b 1 _ _ (.slice cA cn cc) s0
  have s2 := heap_setCell_same _ b 2 _ _ (.int .i64 kk) s1
  have s3 := heap_setCell_same _ b 3 _ _ (.slice iA in_ ic) s2
  exact heap_setCell_same _ b 4 _ _ lv s3

set_option maxRecDepth 100000 in
set_option maxHeartbeats 8000000 in
theorem turn_insert (t : Tb) (cA iA : Option Addr) (cc ic : Nat) (A : Option Addr) (n c p : Nat) (ls : List (List Vl)) (R : Int × List (List Vl)) (w : World) (ht : RdT w t cA iA) (hl : n = ls.length) (hr : RdR w A ls) (hA : A = none → n = 0) (hn : ls.length ≤ 9223372036854775807)
    (hF : chkF t ls = 0 → ∀ (w0 w1 : World) (b : Nat) (lv : Value) (cs : List Value), Below w.heap.size w w0 → Way t.m cA t.cols.length cc t.key iA t.idx.length ic w0 w1 b lv cs ls → Calls Try.prog 18 #[.pointer (some ⟨b, 0, none⟩), .pointer (some ⟨p, 0, none⟩)] w1 (WayPost t.m cA t.cols.length cc t.key iA t.idx.length ic w0 b R))
    (hR : chkF t ls = 0 → R.1 = 0 → R.2.length ≤ 256) :
    Calls Try.prog 17 #[tbl t.m cA t.cols.length cc t.key iA t.idx.length ic, .slice A n c, .func (.func 18) #[] #[.pointer (some ⟨p, 0, none⟩)]] w (TurnPost w (trnF t ls R)) := by
  subst hl
  have HC := Lib.hid (rCheck_any t cA iA cc ic A ls.length c ls (w.alloc (.cells #[.string t.m, .slice cA t.cols.length cc, .int .i64 t.key, .slice iA t.idx.length ic] 30)) (ht.below (below1 _ _)) rfl (hr.below (below1 _ _)) hn)
  have hX := Box4.new w t.m cA t.cols.length cc t.key iA t.idx.length ic 30
  have HX := Lib.hid hX
  have HR := Lib.hid hr
  have HTF : Hid (trnF t ls R = if chkF t ls ≠ 0 then (chkF t ls, []) else R) := Lib.hid rfl
  clear hX hr ht
  by_cases hE : chkF t ls = 0
  · have HF := Lib.hid (hF hE)
    have HR2 := Lib.hid (hR hE)
    have h256 := (chkF_zero hE).1
    have HC2 := Lib.hid HC.out
    rw [hE] at HC2
    have HTF2 : Hid (trnF t ls R = R) := Lib.hid (by rw [HTF.out, if_neg (by simpa using hE)])
    clear hF hR hE HC HTF
    obtain ⟨m, cols, key, idx⟩ := t
    dsimp only at *
    go_enter Try.func17, Try.ntmps17
    go_upto_region 4 with (go_at_call 9; refine HC2.out.mono ?_; rintro e w1 ⟨rfl, hb⟩; have hx := HX.out.below hb; have HB := Lib.hid ((below1 w _).trans (hb.mono (by simp))); clear hb)
    have hS0 : KeepT w1 w.heap.size m cA cols.length cc key iA idx.length ic w1.drew := ⟨hx.c0, hx.c1, hx.c2, hx.c3, (Below.refl _ _).drew⟩
    have HS1 : Hid (KeepT w1 w.heap.size m cA cols.length cc key iA idx.length ic w1) := Lib.hid ⟨hx.c0, hx.c1, hx.c2, hx.c3, Below.refl _ _⟩
    have hgl : w.heap.size < w1.heap.size := cell_lt hx.c0
    obtain ⟨cs, hcl, hcc, hcr⟩ := (HR.out.below HB.out).list
    have HCL := Lib.hid hcl
    have HCR := Lib.hid hcr
    have HCO : Hid (∀ W, Below w1.heap.size w1 W → Calls Try.prog 26 #[.slice A ls.length c] W fun e w' => ∃ A2 n2 c2, e = .returned (.slice A2 n2 c2) ∧ Own w' w1.heap.size (.slice A2 n2 c2) cs ∧ Below W.heap.size W w') := Lib.hid (fun W hb => by
      cases A with
      | none =>
        have h0 := hA rfl
        have e1 : cs = [] := List.eq_nil_of_length_eq_zero (by rw [hcl]; exact h0)
        subst e1
        exact (rClone_nil ls.length c W).mono fun e w' ⟨h1, h2⟩ => ⟨none, 0, 0, h1, World.ownsRow_nil _ _ _ _, h2 ▸ Below.refl _ _⟩
      | some ad =>
        refine (rClone_some ad ls.length c cs W hcl.symm (fun j u hu => (hb.cell (cell_lt (hcc ad rfl j u hu))).trans (hcc ad rfl j u hu)) (rcs_one hcl hcr) h256).mono fun e w' ⟨v, h1, h2, h3⟩ => ?_
        obtain ⟨A2, n2, c2, e2⟩ := own_form h2
        subst e2
        exact ⟨A2, n2, c2, h1, own_le h2 hb.size, h3⟩)
    clear hcl hcc hcr hx
    go_cut [9] (fun p wx => ∃ (b : Nat) (lv : Value) (cs : List Value), p = .pointer (some ⟨b, 0, none⟩) ∧ Way m cA cols.length cc key iA idx.length ic w1 wx b lv cs ls)
    case first =>
      go_region_held3 (fun W => W.cell? ⟨w.heap.size, 0, none⟩ = some (.string m) ∧ W.cell? ⟨w.heap.size, 1, none⟩ = some (.slice cA cols.length cc) ∧ W.cell? ⟨w.heap.size, 2, none⟩ = some (.int .i64 key) ∧ W.cell? ⟨w.heap.size, 3, none⟩ = some (.slice iA idx.length ic) ∧ Below w1.heap.size w1 W)
        (first | with_reducible exact hS | with_reducible exact hS0 | with_reducible exact KeepT.alloc hS _ | with_reducible exact KeepT.drew (KeepT.alloc HS1.out _) | with_reducible exact KeepT.set5 hS hgl (Nat.le_refl _) _ _ _ _ _)
        ((go_at_call 26; refine (HCO.out _ (by first | with_reducible exact hS.2.2.2.2 | with_reducible exact hS0.2.2.2.2 | with_reducible exact (KeepT.drew (KeepT.alloc HS1.out _)).2.2.2.2)).mono ?_; rintro e w3 ⟨A2, n2, c2, rfl, ho, hb⟩; have hS : KeepT w1 w.heap.size m cA cols.length cc key iA idx.length ic w3 := (by first | with_reducible exact KeepT.below hS hb | with_reducible exact KeepT.below hS0 hb | with_reducible exact KeepT.below (KeepT.drew (KeepT.alloc HS1.out _)) hb); have HBW : Hid (Below w1.heap.size w1 w3) := Lib.hid hS.2.2.2.2; have HO := Lib.hid ho; have HB3 := Lib.hid hb; first | ((with_reducible have H5 := Lib.hid (new5d hb)); obtain ⟨z0, z1, z2, z3, z4, f0, f1, f2, f3, f4⟩ := cells5 H5.out) | ((with_reducible have H5 := Lib.hid (new5 hb)); obtain ⟨z0, z1, z2, z3, z4, f0, f1, f2, f3, f4⟩ := cells5 H5.out) | skip; clear ho hb))
      all_goals go_wp2_with fail
      all_goals go_meet
      all_goals clear HCO hS0 HS1 HF HC2 HX hS
      · refine ⟨w3.heap.size, .slice A2 n2 c2, cs, rfl, ?_⟩
        exact wayA HO.out HBW.out HCL.out HCR.out
      · refine ⟨w1.heap.size, .slice A2 n2 c2, cs, rfl, ?_⟩
        exact wayB HO.out HBW.out HCL.out HCR.out H5.out (Nat.le_refl _)
    case rest =>
      obtain ⟨b, lv, cs2, rfl, hway⟩ := hcut
      have HFC := Lib.hid (HF.out w1 _ b lv cs2 HB.out hway)
      clear hS0 HS1 HCO HCL HCR hway HC2 HX HF hA
      obtain ⟨E, l2⟩ := R
      by_cases hE : E = 0
      · subst hE
        have h2 := HR2.out rfl
        dsimp only at h2
        go_wp2_with (first
          | (go_at_call 18; refine HFC.out.mono ?_; rintro e w4 ⟨rfl, hb, hw⟩; obtain ⟨lv4, cs4, hw4⟩ := hw rfl; obtain ⟨A4, c4, el4, hr4⟩ := hw4.rd; have HR4 := Lib.hid hr4; have HW4 := Lib.hid hw4.rows; have HL4 := Lib.hid hw4.len; have HB4 := Lib.hid hb; obtain ⟨y0, y1, y2, y3, y4⟩ := hw4.box; rw [el4] at y4; have hbl4 := hw4.lt; clear hb hw hw4 el4 hr4 y0 y1 y2 y3; dsimp only at y4)
          | (go_at_call 27; refine (fresh_any A4 l2.length c4 l2 _ rfl HR4.out h2).mono ?_; rintro e w5 ⟨v5, cs5, rfl, hf5, hb5⟩; obtain ⟨A5, c5, ev5, hr5, ha5⟩ := hf5.rd (rows_fit HL4.out HW4.out); subst ev5; have HR5 := Lib.hid hr5; have HA5 := Lib.hid ha5; have HB5 := Lib.hid hb5; clear hf5 hr5 ha5 hb5))
        go_ret2
        rw [HTF2.out]
        exact ⟨fun h => absurd rfl h, fun _ => ⟨A5, c5, rfl, HR5.out, HA5.out⟩, HB.out.trans ((HB4.out.trans (HB5.out.mono HB4.out.size)).mono HB.out.size)⟩
      · have HE := Lib.hid hE
        go_wp2_with (go_at_call 18; refine HFC.out.mono ?_; rintro e w4 ⟨rfl, hb, hw⟩; have HB4 := Lib.hid hb; clear hb hw; dsimp only)
        go_ret2
        rw [HTF2.out]
        exact ⟨fun _ => rfl, fun h => absurd h HE.out, HB.out.trans (HB4.out.mono HB.out.size)⟩
  · have HE := Lib.hid hE
    have HTF2 : Hid (trnF t ls R = (chkF t ls, [])) := Lib.hid (by rw [HTF.out, if_pos (by simpa using hE)])
    clear HTF hF hR HR HX
    generalize chkF t ls = E at HE HC hE HTF2
    obtain ⟨m, cols, key, idx⟩ := t
    dsimp only at *
    go_enter Try.func17, Try.ntmps17
    go_wp2_with (go_at_call 9; refine HC.out.mono ?_; rintro e w1 ⟨rfl, hb⟩; have HB := Lib.hid ((below1 w _).trans (hb.mono (by simp))); clear hb)
    go_ret2
    rw [HTF2.out]
    exact ⟨fun _ => rfl, fun h => absurd h HE.out, HB.out⟩

set_option maxRecDepth 100000 in
set_option maxHeartbeats 8000000 in
theorem turn_delete (t : Tb) (cA iA : Option Addr) (cc ic : Nat) (A : Option Addr) (n c p : Nat) (ls : List (List Vl)) (R : Int × List (List Vl)) (w : World) (ht : RdT w t cA iA) (hl : n = ls.length) (hr : RdR w A ls) (hA : A = none → n = 0) (hn : ls.length ≤ 9223372036854775807)
    (hF : chkF t ls = 0 → ∀ (w0 w1 : World) (b : Nat) (lv : Value) (cs : List Value), Below w.heap.size w w0 → Way t.m cA t.cols.length cc t.key iA t.idx.length ic w0 w1 b lv cs ls → Calls Try.prog 23 #[.pointer (some ⟨b, 0, none⟩), .pointer (some ⟨p, 0, none⟩)] w1 (WayPost t.m cA t.cols.length cc t.key iA t.idx.length ic w0 b R))
    (hR : chkF t ls = 0 → R.1 = 0 → R.2.length ≤ 256) :
    Calls Try.prog 17 #[tbl t.m cA t.cols.length cc t.key iA t.idx.length ic, .slice A n c, .func (.func 23) #[] #[.pointer (some ⟨p, 0, none⟩)]] w (TurnPost w (trnF t ls R)) := by
  subst hl
  have HC := Lib.hid (rCheck_any t cA iA cc ic A ls.length c ls (w.alloc (.cells #[.string t.m, .slice cA t.cols.length cc, .int .i64 t.key, .slice iA t.idx.length ic] 30)) (ht.below (below1 _ _)) rfl (hr.below (below1 _ _)) hn)
  have hX := Box4.new w t.m cA t.cols.length cc t.key iA t.idx.length ic 30
  have HX := Lib.hid hX
  have HR := Lib.hid hr
  have HTF : Hid (trnF t ls R = if chkF t ls ≠ 0 then (chkF t ls, []) else R) := Lib.hid rfl
  clear hX hr ht
  by_cases hE : chkF t ls = 0
  · have HF := Lib.hid (hF hE)
    have HR2 := Lib.hid (hR hE)
    have h256 := (chkF_zero hE).1
    have HC2 := Lib.hid HC.out
    rw [hE] at HC2
    have HTF2 : Hid (trnF t ls R = R) := Lib.hid (by rw [HTF.out, if_neg (by simpa using hE)])
    clear hF hR hE HC HTF
    obtain ⟨m, cols, key, idx⟩ := t
    dsimp only at *
    go_enter Try.func17, Try.ntmps17
    go_upto_region 4 with (go_at_call 9; refine HC2.out.mono ?_; rintro e w1 ⟨rfl, hb⟩; have hx := HX.out.below hb; have HB := Lib.hid ((below1 w _).trans (hb.mono (by simp))); clear hb)
    have hS0 : KeepT w1 w.heap.size m cA cols.length cc key iA idx.length ic w1.drew := ⟨hx.c0, hx.c1, hx.c2, hx.c3, (Below.refl _ _).drew⟩
    have HS1 : Hid (KeepT w1 w.heap.size m cA cols.length cc key iA idx.length ic w1) := Lib.hid ⟨hx.c0, hx.c1, hx.c2, hx.c3, Below.refl _ _⟩
    have hgl : w.heap.size < w1.heap.size := cell_lt hx.c0
    obtain ⟨cs, hcl, hcc, hcr⟩ := (HR.out.below HB.out).list
    have HCL := Lib.hid hcl
    have HCR := Lib.hid hcr
    have HCO : Hid (∀ W, Below w1.heap.size w1 W → Calls Try.prog 26 #[.slice A ls.length c] W fun e w' => ∃ A2 n2 c2, e = .returned (.slice A2 n2 c2) ∧ Own w' w1.heap.size (.slice A2 n2 c2) cs ∧ Below W.heap.size W w') := Lib.hid (fun W hb => by
      cases A with
      | none =>
        have h0 := hA rfl
        have e1 : cs = [] := List.eq_nil_of_length_eq_zero (by rw [hcl]; exact h0)
        subst e1
        exact (rClone_nil ls.length c W).mono fun e w' ⟨h1, h2⟩ => ⟨none, 0, 0, h1, World.ownsRow_nil _ _ _ _, h2 ▸ Below.refl _ _⟩
      | some ad =>
        refine (rClone_some ad ls.length c cs W hcl.symm (fun j u hu => (hb.cell (cell_lt (hcc ad rfl j u hu))).trans (hcc ad rfl j u hu)) (rcs_one hcl hcr) h256).mono fun e w' ⟨v, h1, h2, h3⟩ => ?_
        obtain ⟨A2, n2, c2, e2⟩ := own_form h2
        subst e2
        exact ⟨A2, n2, c2, h1, own_le h2 hb.size, h3⟩)
    clear hcl hcc hcr hx
    go_cut [9] (fun p wx => ∃ (b : Nat) (lv : Value) (cs : List Value), p = .pointer (some ⟨b, 0, none⟩) ∧ Way m cA cols.length cc key iA idx.length ic w1 wx b lv cs ls)
    case first =>
      go_region_held3 (fun W => W.cell? ⟨w.heap.size, 0, none⟩ = some (.string m) ∧ W.cell? ⟨w.heap.size, 1, none⟩ = some (.slice cA cols.length cc) ∧ W.cell? ⟨w.heap.size, 2, none⟩ = some (.int .i64 key) ∧ W.cell? ⟨w.heap.size, 3, none⟩ = some (.slice iA idx.length ic) ∧ Below w1.heap.size w1 W)
        (first | with_reducible exact hS | with_reducible exact hS0 | with_reducible exact KeepT.alloc hS _ | with_reducible exact KeepT.drew (KeepT.alloc HS1.out _) | with_reducible exact KeepT.set5 hS hgl (Nat.le_refl _) _ _ _ _ _)
        ((go_at_call 26; refine (HCO.out _ (by first | with_reducible exact hS.2.2.2.2 | with_reducible exact hS0.2.2.2.2 | with_reducible exact (KeepT.drew (KeepT.alloc HS1.out _)).2.2.2.2)).mono ?_; rintro e w3 ⟨A2, n2, c2, rfl, ho, hb⟩; have hS : KeepT w1 w.heap.size m cA cols.length cc key iA idx.length ic w3 := (by first | with_reducible exact KeepT.below hS hb | with_reducible exact KeepT.below hS0 hb | with_reducible exact KeepT.below (KeepT.drew (KeepT.alloc HS1.out _)) hb); have HBW : Hid (Below w1.heap.size w1 w3) := Lib.hid hS.2.2.2.2; have HO := Lib.hid ho; have HB3 := Lib.hid hb; first | ((with_reducible have H5 := Lib.hid (new5d hb)); obtain ⟨z0, z1, z2, z3, z4, f0, f1, f2, f3, f4⟩ := cells5 H5.out) | ((with_reducible have H5 := Lib.hid (new5 hb)); obtain ⟨z0, z1, z2, z3, z4, f0, f1, f2, f3, f4⟩ := cells5 H5.out) | skip; clear ho hb))
      all_goals go_wp2_with fail
      all_goals go_meet
      all_goals clear HCO hS0 HS1 HF HC2 HX hS
      · refine ⟨w3.heap.size, .slice A2 n2 c2, cs, rfl, ?_⟩
        exact wayA HO.out HBW.out HCL.out HCR.out
      · refine ⟨w1.heap.size, .slice A2 n2 c2, cs, rfl, ?_⟩
        exact wayB HO.out HBW.out HCL.out HCR.out H5.out (Nat.le_refl _)
    case rest =>
      obtain ⟨b, lv, cs2, rfl, hway⟩ := hcut
      have HFC := Lib.hid (HF.out w1 _ b lv cs2 HB.out hway)
      clear hS0 HS1 HCO HCL HCR hway HC2 HX HF hA
      obtain ⟨E, l2⟩ := R
      by_cases hE : E = 0
      · subst hE
        have h2 := HR2.out rfl
        dsimp only at h2
        go_wp2_with (first
          | (go_at_call 23; refine HFC.out.mono ?_; rintro e w4 ⟨rfl, hb, hw⟩; obtain ⟨lv4, cs4, hw4⟩ := hw rfl; obtain ⟨A4, c4, el4, hr4⟩ := hw4.rd; have HR4 := Lib.hid hr4; have HW4 := Lib.hid hw4.rows; have HL4 := Lib.hid hw4.len; have HB4 := Lib.hid hb; obtain ⟨y0, y1, y2, y3, y4⟩ := hw4.box; rw [el4] at y4; have hbl4 := hw4.lt; clear hb hw hw4 el4 hr4 y0 y1 y2 y3; dsimp only at y4)
          | (go_at_call 27; refine (fresh_any A4 l2.length c4 l2 _ rfl HR4.out h2).mono ?_; rintro e w5 ⟨v5, cs5, rfl, hf5, hb5⟩; obtain ⟨A5, c5, ev5, hr5, ha5⟩ := hf5.rd (rows_fit HL4.out HW4.out); subst ev5; have HR5 := Lib.hid hr5; have HA5 := Lib.hid ha5; have HB5 := Lib.hid hb5; clear hf5 hr5 ha5 hb5))
        go_ret2
        rw [HTF2.out]
        exact ⟨fun h => absurd rfl h, fun _ => ⟨A5, c5, rfl, HR5.out, HA5.out⟩, HB.out.trans ((HB4.out.trans (HB5.out.mono HB4.out.size)).mono HB.out.size)⟩
      · have HE := Lib.hid hE
        go_wp2_with (go_at_call 23; refine HFC.out.mono ?_; rintro e w4 ⟨rfl, hb, hw⟩; have HB4 := Lib.hid hb; clear hb hw; dsimp only)
        go_ret2
        rw [HTF2.out]
        exact ⟨fun _ => rfl, fun h => absurd h HE.out, HB.out.trans (HB4.out.mono HB.out.size)⟩
  · have HE := Lib.hid hE
    have HTF2 : Hid (trnF t ls R = (chkF t ls, [])) := Lib.hid (by rw [HTF.out, if_pos (by simpa using hE)])
    clear HTF hF hR HR HX
    generalize chkF t ls = E at HE HC hE HTF2
    obtain ⟨m, cols, key, idx⟩ := t
    dsimp only at *
    go_enter Try.func17, Try.ntmps17
    go_wp2_with (go_at_call 9; refine HC.out.mono ?_; rintro e w1 ⟨rfl, hb⟩; have HB := Lib.hid ((below1 w _).trans (hb.mono (by simp))); clear hb)
    go_ret2
    rw [HTF2.out]
    exact ⟨fun _ => rfl, fun h => absurd h HE.out, HB.out⟩

set_option maxRecDepth 100000 in
set_option maxHeartbeats 8000000 in
theorem turn_update (t : Tb) (cA iA : Option Addr) (cc ic : Nat) (A : Option Addr) (n c p q : Nat) (ls : List (List Vl)) (R : Int × List (List Vl)) (w : World) (ht : RdT w t cA iA) (hl : n = ls.length) (hr : RdR w A ls) (hA : A = none → n = 0) (hn : ls.length ≤ 9223372036854775807)
    (hF : chkF t ls = 0 → ∀ (w0 w1 : World) (b : Nat) (lv : Value) (cs : List Value), Below w.heap.size w w0 → Way t.m cA t.cols.length cc t.key iA t.idx.length ic w0 w1 b lv cs ls → Calls Try.prog 25 #[.pointer (some ⟨b, 0, none⟩), .pointer (some ⟨p, 0, none⟩), .pointer (some ⟨q, 0, none⟩)] w1 (WayPost t.m cA t.cols.length cc t.key iA t.idx.length ic w0 b R))
    (hR : chkF t ls = 0 → R.1 = 0 → R.2.length ≤ 256) :
    Calls Try.prog 17 #[tbl t.m cA t.cols.length cc t.key iA t.idx.length ic, .slice A n c, .func (.func 25) #[] #[.pointer (some ⟨p, 0, none⟩), .pointer (some ⟨q, 0, none⟩)]] w (TurnPost w (trnF t ls R)) := by
  subst hl
  have HC := Lib.hid (rCheck_any t cA iA cc ic A ls.length c ls (w.alloc (.cells #[.string t.m, .slice cA t.cols.length cc, .int .i64 t.key, .slice iA t.idx.length ic] 30)) (ht.below (below1 _ _)) rfl (hr.below (below1 _ _)) hn)
  have hX := Box4.new w t.m cA t.cols.length cc t.key iA t.idx.length ic 30
  have HX := Lib.hid hX
  have HR := Lib.hid hr
  have HTF : Hid (trnF t ls R = if chkF t ls ≠ 0 then (chkF t ls, []) else R) := Lib.hid rfl
  clear hX hr ht
  by_cases hE : chkF t ls = 0
  · have HF := Lib.hid (hF hE)
    have HR2 := Lib.hid (hR hE)
    have h256 := (chkF_zero hE).1
    have HC2 := Lib.hid HC.out
    rw [hE] at HC2
    have HTF2 : Hid (trnF t ls R = R) := Lib.hid (by rw [HTF.out, if_neg (by simpa using hE)])
    clear hF hR hE HC HTF
    obtain ⟨m, cols, key, idx⟩ := t
    dsimp only at *
    go_enter Try.func17, Try.ntmps17
    go_upto_region 4 with (go_at_call 9; refine HC2.out.mono ?_; rintro e w1 ⟨rfl, hb⟩; have hx := HX.out.below hb; have HB := Lib.hid ((below1 w _).trans (hb.mono (by simp))); clear hb)
    have hS0 : KeepT w1 w.heap.size m cA cols.length cc key iA idx.length ic w1.drew := ⟨hx.c0, hx.c1, hx.c2, hx.c3, (Below.refl _ _).drew⟩
    have HS1 : Hid (KeepT w1 w.heap.size m cA cols.length cc key iA idx.length ic w1) := Lib.hid ⟨hx.c0, hx.c1, hx.c2, hx.c3, Below.refl _ _⟩
    have hgl : w.heap.size < w1.heap.size := cell_lt hx.c0
    obtain ⟨cs, hcl, hcc, hcr⟩ := (HR.out.below HB.out).list
    have HCL := Lib.hid hcl
    have HCR := Lib.hid hcr
    have HCO : Hid (∀ W, Below w1.heap.size w1 W → Calls Try.prog 26 #[.slice A ls.length c] W fun e w' => ∃ A2 n2 c2, e = .returned (.slice A2 n2 c2) ∧ Own w' w1.heap.size (.slice A2 n2 c2) cs ∧ Below W.heap.size W w') := Lib.hid (fun W hb => by
      cases A with
      | none =>
        have h0 := hA rfl
        have e1 : cs = [] := List.eq_nil_of_length_eq_zero (by rw [hcl]; exact h0)
        subst e1
        exact (rClone_nil ls.length c W).mono fun e w' ⟨h1, h2⟩ => ⟨none, 0, 0, h1, World.ownsRow_nil _ _ _ _, h2 ▸ Below.refl _ _⟩
      | some ad =>
        refine (rClone_some ad ls.length c cs W hcl.symm (fun j u hu => (hb.cell (cell_lt (hcc ad rfl j u hu))).trans (hcc ad rfl j u hu)) (rcs_one hcl hcr) h256).mono fun e w' ⟨v, h1, h2, h3⟩ => ?_
        obtain ⟨A2, n2, c2, e2⟩ := own_form h2
        subst e2
        exact ⟨A2, n2, c2, h1, own_le h2 hb.size, h3⟩)
    clear hcl hcc hcr hx
    go_cut [9] (fun p wx => ∃ (b : Nat) (lv : Value) (cs : List Value), p = .pointer (some ⟨b, 0, none⟩) ∧ Way m cA cols.length cc key iA idx.length ic w1 wx b lv cs ls)
    case first =>
      go_region_held3 (fun W => W.cell? ⟨w.heap.size, 0, none⟩ = some (.string m) ∧ W.cell? ⟨w.heap.size, 1, none⟩ = some (.slice cA cols.length cc) ∧ W.cell? ⟨w.heap.size, 2, none⟩ = some (.int .i64 key) ∧ W.cell? ⟨w.heap.size, 3, none⟩ = some (.slice iA idx.length ic) ∧ Below w1.heap.size w1 W)
        (first | with_reducible exact hS | with_reducible exact hS0 | with_reducible exact KeepT.alloc hS _ | with_reducible exact KeepT.drew (KeepT.alloc HS1.out _) | with_reducible exact KeepT.set5 hS hgl (Nat.le_refl _) _ _ _ _ _)
        ((go_at_call 26; refine (HCO.out _ (by first | with_reducible exact hS.2.2.2.2 | with_reducible exact hS0.2.2.2.2 | with_reducible exact (KeepT.drew (KeepT.alloc HS1.out _)).2.2.2.2)).mono ?_; rintro e w3 ⟨A2, n2, c2, rfl, ho, hb⟩; have hS : KeepT w1 w.heap.size m cA cols.length cc key iA idx.length ic w3 := (by first | with_reducible exact KeepT.below hS hb | with_reducible exact KeepT.below hS0 hb | with_reducible exact KeepT.below (KeepT.drew (KeepT.alloc HS1.out _)) hb); have HBW : Hid (Below w1.heap.size w1 w3) := Lib.hid hS.2.2.2.2; have HO := Lib.hid ho; have HB3 := Lib.hid hb; first | ((with_reducible have H5 := Lib.hid (new5d hb)); obtain ⟨z0, z1, z2, z3, z4, f0, f1, f2, f3, f4⟩ := cells5 H5.out) | ((with_reducible have H5 := Lib.hid (new5 hb)); obtain ⟨z0, z1, z2, z3, z4, f0, f1, f2, f3, f4⟩ := cells5 H5.out) | skip; clear ho hb))
      all_goals go_wp2_with fail
      all_goals go_meet
      all_goals clear HCO hS0 HS1 HF HC2 HX hS
      · refine ⟨w3.heap.size, .slice A2 n2 c2, cs, rfl, ?_⟩
        exact wayA HO.out HBW.out HCL.out HCR.out
      · refine ⟨w1.heap.size, .slice A2 n2 c2, cs, rfl, ?_⟩
        exact wayB HO.out HBW.out HCL.out HCR.out H5.out (Nat.le_refl _)
    case rest =>
      obtain ⟨b, lv, cs2, rfl, hway⟩ := hcut
      have HFC := Lib.hid (HF.out w1 _ b lv cs2 HB.out hway)
      clear hS0 HS1 HCO HCL HCR hway HC2 HX HF hA
      obtain ⟨E, l2⟩ := R
      by_cases hE : E = 0
      · subst hE
        have h2 := HR2.out rfl
        dsimp only at h2
        go_wp2_with (first
          | (go_at_call 25; refine HFC.out.mono ?_; rintro e w4 ⟨rfl, hb, hw⟩; obtain ⟨lv4, cs4, hw4⟩ := hw rfl; obtain ⟨A4, c4, el4, hr4⟩ := hw4.rd; have HR4 := Lib.hid hr4; have HW4 := Lib.hid hw4.rows; have HL4 := Lib.hid hw4.len; have HB4 := Lib.hid hb; obtain ⟨y0, y1, y2, y3, y4⟩ := hw4.box; rw [el4] at y4; have hbl4 := hw4.lt; clear hb hw hw4 el4 hr4 y0 y1 y2 y3; dsimp only at y4)
          | (go_at_call 27; refine (fresh_any A4 l2.length c4 l2 _ rfl HR4.out h2).mono ?_; rintro e w5 ⟨v5, cs5, rfl, hf5, hb5⟩; obtain ⟨A5, c5, ev5, hr5, ha5⟩ := hf5.rd (rows_fit HL4.out HW4.out); subst ev5; have HR5 := Lib.hid hr5; have HA5 := Lib.hid ha5; have HB5 := Lib.hid hb5; clear hf5 hr5 ha5 hb5))
        go_ret2
        rw [HTF2.out]
        exact ⟨fun h => absurd rfl h, fun _ => ⟨A5, c5, rfl, HR5.out, HA5.out⟩, HB.out.trans ((HB4.out.trans (HB5.out.mono HB4.out.size)).mono HB.out.size)⟩
      · have HE := Lib.hid hE
        go_wp2_with (go_at_call 25; refine HFC.out.mono ?_; rintro e w4 ⟨rfl, hb, hw⟩; have HB4 := Lib.hid hb; clear hb hw; dsimp only)
        go_ret2
        rw [HTF2.out]
        exact ⟨fun _ => rfl, fun h => absurd h HE.out, HB.out.trans (HB4.out.mono HB.out.size)⟩
  · have HE := Lib.hid hE
    have HTF2 : Hid (trnF t ls R = (chkF t ls, [])) := Lib.hid (by rw [HTF.out, if_pos (by simpa using hE)])
    clear HTF hF hR HR HX
    generalize chkF t ls = E at HE HC hE HTF2
    obtain ⟨m, cols, key, idx⟩ := t
    dsimp only at *
    go_enter Try.func17, Try.ntmps17
    go_wp2_with (go_at_call 9; refine HC.out.mono ?_; rintro e w1 ⟨rfl, hb⟩; have HB := Lib.hid ((below1 w _).trans (hb.mono (by simp))); clear hb)
    go_ret2
    rw [HTF2.out]
    exact ⟨fun _ => rfl, fun h => absurd h HE.out, HB.out⟩
end Go.Proofs.Ytjbebhhoakmceaa
