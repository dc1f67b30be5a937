/- Which catalogs may be, by the reference: the walk of Check. Conditions: tables that are read in memory; room as long as the list. -/
import Derived.Test.YtipcacplphidhaaGreatJr
import Derived.Test.YtipcacplphidhaaGreatTh
import Derived.Lib.QuietBelow
import Derived.Test.YtipcacplphidhaaGreatQa
/- Which tables may be, by the reference: plain mathematics, and the walk of May. Conditions: tables that are read in memory. -/

namespace Go.Proofs.YtipcacplphidhaaGreat
open Go.RowKit Go.Sort Go.Maps
set_option linter.unusedSimpArgs false
set_option linter.unusedVariables false

theorem newB_iff : ∀ (l : List ByteArray) (acc : List (List UInt8)), newB acc l = true ↔ (octs l).Nodup ∧ ∀ o ∈ octs l, o ∉ acc
  | [], acc => by simp [newB, octs]
  | s :: l, acc => by
    have e : octs (s :: l) = s.data.toList :: octs l := rfl
    rw [e, newB, List.nodup_cons]
    by_cases h : s.data.toList ∈ acc
    · rw [if_pos (by simpa using h)]
      exact ⟨fun h' => (by cases h'), fun h' => absurd h (h'.2 _ (List.mem_cons_self ..))⟩
    · rw [if_neg (by simpa using h), newB_iff l]
      constructor
      · rintro ⟨h1, h2⟩
        refine ⟨⟨fun hm => h2 _ hm (by simp), h1⟩, fun o ho => ?_⟩
        rcases List.mem_cons.1 ho with rfl | ho
        · exact h
        · exact fun ha => h2 o ho (by simp [ha])
      · rintro ⟨⟨h1, h2⟩, h3⟩
        refine ⟨h2, fun o ho ha => ?_⟩
        rcases List.mem_append.1 ha with ha | ha
        · exact h3 o (List.mem_cons_of_mem _ ho) ha
        · simp at ha
          subst ha
          exact h1 ho
theorem octs_ne {a b : ByteArray} : a.data.toList ≠ b.data.toList ↔ a ≠ b :=
  ⟨fun h e => h (by rw [e]), fun h e => h (by cases a; cases b; simp at e; rw [e])⟩
theorem newB_pairs (l : List ByteArray) : newB [] l = true ↔ ∀ (i k : Nat) (hi : i < l.length) (hk : k < i), l[k] ≠ l[i] := by
  rw [newB_iff]
  have h1 : (octs l).Nodup ↔ l.Pairwise (fun a b => a ≠ b) := by
    unfold octs List.Nodup
    rw [List.pairwise_map]
    exact ⟨fun h => h.imp fun h => octs_ne.1 h, fun h => h.imp fun h => octs_ne.2 h⟩
  rw [h1, List.pairwise_iff_getElem]
  exact ⟨fun h i k hi hk => h.1 k i (by omega) hi hk, fun h => ⟨fun i j hi hj hij => h j i hj hij, fun o _ => by simp⟩⟩
theorem newB_twice {l : List ByteArray} {i k : Nat} (hi : i < l.length) (hk : k < i) (h : l[k] = l[i]) : newB [] l = false := by
  cases hn : newB [] l with
  | false => rfl
  | true => exact absurd h ((newB_pairs l).1 hn i k hi hk)
end Go.Proofs.YtipcacplphidhaaGreat
/- Which tables may be, by the reference: the walk of May. Conditions: tables that are read in memory. -/
namespace Go.Proofs.YtipcacplphidhaaGreat
open Go.RowKit Go.Sort Go.Maps
set_option linter.unusedSimpArgs false
set_option linter.unusedVariables false

theorem cols_one {l : List Cl} {j : Nat} (hj : j < l.length) (h : colB l[j] = false) : colsB l = false := by
  unfold colsB; rw [all_no hj h]; simp
theorem idx_one {n : Nat} {l : List Ix} {j : Nat} (hj : j < l.length) (h : ixB n l[j] = false) : idxB n l = false := by
  unfold idxB; rw [all_no hj h]; simp
theorem all_get {α : Type} {p : α → Bool} {l : List α} (h : ∀ j (hj : j < l.length), p l[j] = true) : l.all p = true :=
  List.all_eq_true.2 fun x hx => by obtain ⟨j, hj, rfl⟩ := List.mem_iff_getElem.1 hx; exact h j hj
set_option maxRecDepth 100000 in
set_option maxHeartbeats 16000000 in
theorem rMay_any (t : Tb) (cA iA : Option Addr) (cc ic : Nat) (w : World) (hc : RdC w cA t.cols) (hx : RdX w iA t.idx) :
    Calls Tryz.prog 55 #[tbl t.m cA t.cols.length cc t.key iA t.idx.length ic] w fun e w' => e = .returned (.bool (tblB t)) ∧ Below w.heap.size w w' := by
  obtain ⟨m, cols, key, idx⟩ := t
  dsimp only at hc hx ⊢
  have hb1 := below1 w (.cells #[.string m, .slice cA cols.length cc, .int .i64 key, .slice iA idx.length ic] 57)
  have HX1 := Lib.hid (Box4.new w m cA cols.length cc key iA idx.length ic 57)
  have HC := Lib.hid (hc.below hb1)
  have HX := Lib.hid (hx.below hb1)
  have HB1 := Lib.hid hb1
  have HN := Lib.hid fun (s : ByteArray) (W : World) => (Sy.rName_any s W : Calls Tryz.prog 58 #[.string s] W fun e w' => e = .returned (.bool (nameB s)) ∧ Below W.heap.size W w')
  clear hc hx hb1
  have hn1 := fun (W : World) => HN.out m W
  cases hN : Sy.nameB m
  · rw [hN] at hn1
    have HN1 := Lib.hid hn1
    clear hn1
    have HZ := Lib.hid (show tblB ⟨m, cols, key, idx⟩ = false by unfold tblB; rw [show nameB m = false from hN]; rfl)
    go_enter Tryz.func55, Tryz.ntmps55
    go_upto_region 1 with fail
    generalize (w.alloc (.cells #[.string m, .slice cA cols.length cc, .int .i64 key, .slice iA idx.length ic] 57)) = w0 at *
    obtain ⟨x0, x1, x2, x3⟩ := HX1.out
    go_wp2_with (go_at_call 58; (with_reducible refine (HN1.out _).mono ?_); rintro e w1 ⟨rfl, hb⟩; clear x0 x1 x2 x3; obtain ⟨x0, x1, x2, x3⟩ := HX1.out.below hb; have HBz := Lib.hid (HB1.out.trans (hb.mono HB1.out.size)); clear hb)
    go_ret
    exact ⟨ret_bool HZ.out.symm, HBz.out⟩
  rw [hN] at hn1
  have HN1 := Lib.hid hn1
  clear hn1
  by_cases c1 : cols.length = 0
  · have h1 : (cols.length : Int) < 1 := by omega
    have HZ := Lib.hid (show tblB ⟨m, cols, key, idx⟩ = false by unfold tblB; unfold colsB; simp [c1])
    clear c1
    go_enter Tryz.func55, Tryz.ntmps55
    go_upto_region 1 with fail
    generalize (w.alloc (.cells #[.string m, .slice cA cols.length cc, .int .i64 key, .slice iA idx.length ic] 57)) = w0 at *
    obtain ⟨x0, x1, x2, x3⟩ := HX1.out
    go_wp2_with (go_at_call 58; (with_reducible refine (HN1.out _).mono ?_); rintro e w1 ⟨rfl, hb⟩; clear x0 x1 x2 x3; obtain ⟨x0, x1, x2, x3⟩ := HX1.out.below hb; have HBz := Lib.hid (HB1.out.trans (hb.mono HB1.out.size)); clear hb)
    go_ret
    exact ⟨ret_bool HZ.out.symm, HBz.out⟩
  have h1 : ¬ (cols.length : Int) < 1 := by omega
  by_cases c2 : 8 < cols.length
  · have h2 : (8 : Int) < (cols.length : Int) := by omega
    have HZ := Lib.hid (show tblB ⟨m, cols, key, idx⟩ = false by unfold tblB; have e : colsB cols = false := (by unfold colsB; rw [decide_eq_false (show ¬ cols.length ≤ 8 by omega)]; simp); rw [e]; simp)
    clear c2
    go_enter Tryz.func55, Tryz.ntmps55
    go_upto_region 1 with fail
    generalize (w.alloc (.cells #[.string m, .slice cA cols.length cc, .int .i64 key, .slice iA idx.length ic] 57)) = w0 at *
    obtain ⟨x0, x1, x2, x3⟩ := HX1.out
    go_wp2_with (go_at_call 58; (with_reducible refine (HN1.out _).mono ?_); rintro e w1 ⟨rfl, hb⟩; clear x0 x1 x2 x3; obtain ⟨x0, x1, x2, x3⟩ := HX1.out.below hb; have HBz := Lib.hid (HB1.out.trans (hb.mono HB1.out.size)); clear hb)
    go_ret
    exact ⟨ret_bool HZ.out.symm, HBz.out⟩
  have h2 : ¬ (8 : Int) < (cols.length : Int) := by omega
  by_cases c3 : 4 < idx.length
  · have h3 : (4 : Int) < (idx.length : Int) := by omega
    have HZ := Lib.hid (show tblB ⟨m, cols, key, idx⟩ = false by unfold tblB; have e : idxB cols.length idx = false := (by unfold idxB; rw [decide_eq_false (show ¬ idx.length ≤ 4 by omega)]; simp); rw [e]; simp)
    clear c3
    go_enter Tryz.func55, Tryz.ntmps55
    go_upto_region 1 with fail
    generalize (w.alloc (.cells #[.string m, .slice cA cols.length cc, .int .i64 key, .slice iA idx.length ic] 57)) = w0 at *
    obtain ⟨x0, x1, x2, x3⟩ := HX1.out
    go_wp2_with (go_at_call 58; (with_reducible refine (HN1.out _).mono ?_); rintro e w1 ⟨rfl, hb⟩; clear x0 x1 x2 x3; obtain ⟨x0, x1, x2, x3⟩ := HX1.out.below hb; have HBz := Lib.hid (HB1.out.trans (hb.mono HB1.out.size)); clear hb)
    go_ret
    exact ⟨ret_bool HZ.out.symm, HBz.out⟩
  have h3 : ¬ (4 : Int) < (idx.length : Int) := by omega
  by_cases c4 : key < 0
  · have h4 : key < 0 := by omega
    have HZ := Lib.hid (show tblB ⟨m, cols, key, idx⟩ = false by unfold tblB; have e : placeB cols.length key = false := (by unfold placeB; rw [decide_eq_false (show ¬ 0 ≤ key by omega)]; simp); rw [e]; simp)
    clear c4
    go_enter Tryz.func55, Tryz.ntmps55
    go_upto_region 1 with fail
    generalize (w.alloc (.cells #[.string m, .slice cA cols.length cc, .int .i64 key, .slice iA idx.length ic] 57)) = w0 at *
    obtain ⟨x0, x1, x2, x3⟩ := HX1.out
    go_wp2_with (go_at_call 58; (with_reducible refine (HN1.out _).mono ?_); rintro e w1 ⟨rfl, hb⟩; clear x0 x1 x2 x3; obtain ⟨x0, x1, x2, x3⟩ := HX1.out.below hb; have HBz := Lib.hid (HB1.out.trans (hb.mono HB1.out.size)); clear hb)
    go_ret
    exact ⟨ret_bool HZ.out.symm, HBz.out⟩
  have h4 : ¬ key < 0 := by omega
  by_cases c5 : (cols.length : Int) ≤ key
  · have h5 : (cols.length : Int) ≤ key := by omega
    have HZ := Lib.hid (show tblB ⟨m, cols, key, idx⟩ = false by unfold tblB; have e : placeB cols.length key = false := (by unfold placeB; rw [decide_eq_false (show ¬ key < (cols.length : Int) by omega)]; simp); rw [e]; simp)
    clear c5
    go_enter Tryz.func55, Tryz.ntmps55
    go_upto_region 1 with fail
    generalize (w.alloc (.cells #[.string m, .slice cA cols.length cc, .int .i64 key, .slice iA idx.length ic] 57)) = w0 at *
    obtain ⟨x0, x1, x2, x3⟩ := HX1.out
    go_wp2_with (go_at_call 58; (with_reducible refine (HN1.out _).mono ?_); rintro e w1 ⟨rfl, hb⟩; clear x0 x1 x2 x3; obtain ⟨x0, x1, x2, x3⟩ := HX1.out.below hb; have HBz := Lib.hid (HB1.out.trans (hb.mono HB1.out.size)); clear hb)
    go_ret
    exact ⟨ret_bool HZ.out.symm, HBz.out⟩
  have h5 : ¬ (cols.length : Int) ≤ key := by omega
  obtain ⟨k, rfl⟩ : ∃ k : Nat, key = k := ⟨key.toNat, by omega⟩
  have hk : k < cols.length := by omega
  have hkl : (k : Int) < (cols.length : Int) := by omega
  obtain ⟨ad, e0, k0, k1, k2⟩ := HC.out.at_ hk
  subst e0
  have HKN := Lib.hid (show notNullB cols (k : Int) = cols[k].nn by unfold notNullB; rw [show ((k : Int)).toNat = k by simp, List.getElem?_eq_getElem hk])
  have HK2 := Lib.hid k2
  have HP := Lib.hid (show placeB cols.length (k : Int) = true by unfold placeB; simp; omega)
  have hkb := cell_lt k0
  clear k0 k1 k2
  generalize cols[k].nn = nn at HKN HK2
  clear c1 c2 c3 c4 c5
  cases nn
  · have HZ := Lib.hid (show tblB ⟨m, cols, (k : Int), idx⟩ = false by unfold tblB; rw [HKN.out]; simp)
    go_enter Tryz.func55, Tryz.ntmps55
    go_upto_region 1 with fail
    generalize (w.alloc (.cells #[.string m, .slice (some ad) cols.length cc, .int .i64 (k : Int), .slice iA idx.length ic] 57)) = w0 at *
    obtain ⟨x0, x1, x2, x3⟩ := HX1.out
    go_wp2_with (go_at_call 58; (with_reducible refine (HN1.out _).mono ?_); rintro e w1 ⟨rfl, hb⟩; clear x0 x1 x2 x3; obtain ⟨x0, x1, x2, x3⟩ := HX1.out.below hb; have q2 := (hb.cell (cell_lt HK2.out)).trans HK2.out; have qb := cell_lt q2; simp only [] at qb; have HBz := Lib.hid (HB1.out.trans (hb.mono HB1.out.size)); clear hb)
    go_ret
    exact ⟨ret_bool HZ.out.symm, HBz.out⟩
  · have HTB := Lib.hid (show tblB ⟨m, cols, (k : Int), idx⟩ = (colsB cols && (idxB cols.length idx && (newB [] (cols.map Cl.m) && newB [] (idx.map Ix.m)))) by unfold tblB; rw [show nameB m = true from hN, HP.out, HKN.out]; simp)
    have HCF := Lib.hid fun (h : colsB cols = false) => (show tblB ⟨m, cols, (k : Int), idx⟩ = false by rw [HTB.out, h]; rfl)
    have HCN := Lib.hid fun (h : newB [] (cols.map Cl.m) = false) => (show tblB ⟨m, cols, (k : Int), idx⟩ = false by rw [HTB.out, h]; simp)
    have HIF := Lib.hid fun (h : idxB cols.length idx = false) => (show tblB ⟨m, cols, (k : Int), idx⟩ = false by rw [HTB.out, h]; simp)
    have HIN := Lib.hid fun (h : newB [] (idx.map Ix.m) = false) => (show tblB ⟨m, cols, (k : Int), idx⟩ = false by rw [HTB.out, h]; simp)
    have HL1 := Lib.hid (show 0 < cols.length ∧ cols.length ≤ 8 ∧ idx.length ≤ 4 by omega)
    have d1 : decide ((cols.length : Int) < 1) = false := by simp; omega
    have d2 : decide ((8 : Int) < (cols.length : Int)) = false := by simp; omega
    have d3 : decide ((4 : Int) < (idx.length : Int)) = false := by simp; omega
    have d4 : decide ((k : Int) < 0) = false := by simp
    have d5 : decide ((cols.length : Int) ≤ (k : Int)) = false := by simp; omega
    have d6 : decide (cols.length ≤ k) = false := by simp; omega
    clear hN HKN HP h1 h2 h3 h4 h5
    go_enter Tryz.func55, Tryz.ntmps55
    go_upto_region 1 with fail
    generalize (w.alloc (.cells #[.string m, .slice (some ad) cols.length cc, .int .i64 (k : Int), .slice iA idx.length ic] 57)) = w0 at *
    obtain ⟨x0, x1, x2, x3⟩ := HX1.out
    go_upto_region 3 with (go_at_call 58; (with_reducible refine (HN1.out _).mono ?_); rintro e w1 ⟨rfl, hb⟩; clear x0 x1 x2 x3; obtain ⟨x0, x1, x2, x3⟩ := HX1.out.below hb; have q2 := (hb.cell (cell_lt HK2.out)).trans HK2.out; have qb := cell_lt q2; simp only [] at qb; have HBz := Lib.hid (HB1.out.trans (hb.mono HB1.out.size)); have HXz := Lib.hid (HX1.out.below hb); have HCz := Lib.hid (HC.out.below hb); have HXX := Lib.hid (HX.out.below hb); clear hb)
    clear q2 qb HX1 HC HX HB1 HK2 hkl hkb x0 x1 x2 x3
    go_wp2_with fail
    clear d1 d2 d3 d4 d5 d6 hk
    generalize w1 = v1 at *
    go_loopw [3] (fun i wr => ∃ j : Nat, i = .int .i64 j ∧ j ≤ cols.length ∧ (∀ (a : Nat) (ha : a < cols.length), a < j → colB cols[a] = true ∧ ∀ (b : Nat) (hb : b < a), cols[b].m ≠ cols[a].m) ∧ Below v1.heap.size v1 wr) (fun i _ => cols.length - (intOf i).toNat)
    case atStart => exact ⟨0, rfl, by omega, fun a _ h => absurd h (by omega), Below.refl _ _⟩
    case round =>
      obtain ⟨j, rfl, hj, hM, hBB⟩ := hrel
      have HM := Lib.hid hM
      have HBB := Lib.hid hBB
      clear hM hBB
      obtain ⟨x0, x1, x2, x3⟩ := HXz.out.below HBB.out
      by_cases hlt : j < cols.length
      · obtain ⟨ad', e0, a0, a1, a2⟩ := (HCz.out.below HBB.out).at_ hlt
        injection e0 with e0
        subst e0
        have hlt' : (j : Int) < (cols.length : Int) := by omega
        have ha0 := cell_lt a0
        rw [add_block] at ha0
        have HCO := Lib.hid fun (h : colB cols[j] = false) => HCF.out (cols_one hlt h)
        have HPR := Lib.hid fun (b : Nat) (hb : b < j) (h : cols[b].m = cols[j].m) => HCN.out (newB_twice (l := cols.map Cl.m) (i := j) (k := b) (by rw [List.length_map]; exact hlt) hb (by rw [List.getElem_map, List.getElem_map]; exact h))
        have HST := Lib.hid fun (h : colB cols[j] = true) (h' : ∀ (b : Nat) (hb : b < j), cols[b].m ≠ cols[j].m) => (fun a ha haj => (by
          rcases Nat.lt_or_ge a j with h1 | h1
          · exact HM.out a ha h1
          · obtain rfl : a = j := by omega
            exact ⟨h, h'⟩) : ∀ (a : Nat) (ha : a < cols.length), a < j + 1 → colB cols[a] = true ∧ ∀ (b : Nat) (hb : b < a), cols[b].m ≠ cols[a].m)
        generalize cols[j] = x at a0 a1 a2 HCO HPR HST
        go_upto_region 7 with fail
        have hba := below1 wr (.cells #[.string x.m, .int .i64 x.k, .bool x.nn] 48)
        have z0 : (wr.alloc (.cells #[.string x.m, .int .i64 x.k, .bool x.nn] 48)).cell? ⟨wr.heap.size, 0, none⟩ = some (.string x.m) := (cell_last _ _ _ _ _ rfl).trans rfl
        have z1 : (wr.alloc (.cells #[.string x.m, .int .i64 x.k, .bool x.nn] 48)).cell? ⟨wr.heap.size, 1, none⟩ = some (.int .i64 x.k) := (cell_last _ _ _ _ _ rfl).trans rfl
        have z2 : (wr.alloc (.cells #[.string x.m, .int .i64 x.k, .bool x.nn] 48)).cell? ⟨wr.heap.size, 2, none⟩ = some (.bool x.nn) := (cell_last _ _ _ _ _ rfl).trans rfl
        have HBa := Lib.hid (HBB.out.trans (hba.mono HBB.out.size))
        clear a0 a1 a2 hba x0 x1 x2 x3 ha0
        obtain ⟨x0, x1, x2, x3⟩ := HXz.out.below HBa.out
        have hzb := cell_lt z0
        simp only [] at hzb
        generalize wr.alloc (.cells #[.string x.m, .int .i64 x.k, .bool x.nn] 48) = wa at *
        generalize wr.heap.size = bx at *
        have hn2 := fun (W : World) => HN.out x.m W
        cases hxn : Sy.nameB x.m
        · rw [hxn] at hn2
          have HN2 := Lib.hid hn2
          clear hn2
          go_wp2_with (go_at_call 58; (with_reducible refine (HN2.out _).mono ?_); rintro e w5 ⟨rfl, hb⟩; have y0 := (hb.cell (cell_lt z0)).trans z0; have y1 := (hb.cell (cell_lt z1)).trans z1; have yb := cell_lt y0; simp only [] at yb; have HB5 := Lib.hid (HBa.out.trans (hb.mono HBa.out.size)); clear hb z0 z1 z2 x0 x1 x2 x3)
          go_ret
          exact ⟨ret_bool (HCO.out (by unfold colB; rw [show nameB x.m = false from hxn]; rfl)).symm, HBz.out.trans (HB5.out.mono HBz.out.size)⟩
        rw [hxn] at hn2
        have HN2 := Lib.hid hn2
        clear hn2
        by_cases g1 : x.k < 1
        · skip
          go_wp2_with (go_at_call 58; (with_reducible refine (HN2.out _).mono ?_); rintro e w5 ⟨rfl, hb⟩; have y0 := (hb.cell (cell_lt z0)).trans z0; have y1 := (hb.cell (cell_lt z1)).trans z1; have yb := cell_lt y0; simp only [] at yb; have HB5 := Lib.hid (HBa.out.trans (hb.mono HBa.out.size)); clear hb z0 z1 z2 x0 x1 x2 x3)
          go_ret
          exact ⟨ret_bool (HCO.out (by unfold colB; rw [decide_eq_false (show ¬ 1 ≤ x.k by omega)]; simp)).symm, HBz.out.trans (HB5.out.mono HBz.out.size)⟩
        by_cases g2 : 3 < x.k
        · skip
          go_wp2_with (go_at_call 58; (with_reducible refine (HN2.out _).mono ?_); rintro e w5 ⟨rfl, hb⟩; have y0 := (hb.cell (cell_lt z0)).trans z0; have y1 := (hb.cell (cell_lt z1)).trans z1; have yb := cell_lt y0; simp only [] at yb; have HB5 := Lib.hid (HBa.out.trans (hb.mono HBa.out.size)); clear hb z0 z1 z2 x0 x1 x2 x3)
          go_ret
          exact ⟨ret_bool (HCO.out (by unfold colB; rw [decide_eq_false (show ¬ x.k ≤ 3 by omega)]; simp)).symm, HBz.out.trans (HB5.out.mono HBz.out.size)⟩
        have hcx : colB x = true := by unfold colB; rw [show nameB x.m = true from hxn, decide_eq_true (show 1 ≤ x.k by omega), decide_eq_true (show x.k ≤ 3 by omega)]; rfl
        have HST2 := Lib.hid (HST.out hcx)
        clear hcx HST HCO
        go_upto_region 9 with (go_at_call 58; (with_reducible refine (HN2.out _).mono ?_); rintro e w5 ⟨rfl, hb⟩; clear x0 x1 x2 x3; have y0 := (hb.cell (cell_lt z0)).trans z0; have y1 := (hb.cell (cell_lt z1)).trans z1; have yb := cell_lt y0; simp only [] at yb; have HB5 := Lib.hid (HBa.out.trans (hb.mono HBa.out.size)); obtain ⟨x0, x1, x2, x3⟩ := HXz.out.below HB5.out; clear hb z0 z1 z2)
        clear g1 g2 x0 x1 x2 x3 hxn
        have HY0 := Lib.hid y0
        clear y0 y1 yb
        go_wp2_with fail
        generalize w5 = v5 at *
        go_loopw [5] (fun i wr => ∃ q : Nat, i = .int .i64 q ∧ q ≤ j ∧ (∀ (b : Nat) (hb : b < cols.length), b < q → cols[b].m ≠ x.m) ∧ Below v5.heap.size v5 wr) (fun i _ => j - (intOf i).toNat)
        case atStart => exact ⟨0, rfl, by omega, fun b _ h => absurd h (by omega), Below.refl _ _⟩
        case round =>
          obtain ⟨q, rfl, hq, hM2, hB6⟩ := hrel
          have HM2 := Lib.hid hM2
          have HB6 := Lib.hid hB6
          clear hM2 hB6
          by_cases hqj : q < j
          · have hqj' : (q : Int) < (j : Int) := by omega
            have hql : q < cols.length := by omega
            have hql' : (q : Int) < (cols.length : Int) := by omega
            obtain ⟨x0, x1, x2, x3⟩ := HXz.out.below (HB5.out.trans (HB6.out.mono HB5.out.size))
            have y0 := (HB6.out.cell (cell_lt HY0.out)).trans HY0.out
            obtain ⟨ad', e0, a0, a1, a2⟩ := (HCz.out.below (HB5.out.trans (HB6.out.mono HB5.out.size))).at_ hql
            injection e0 with e0
            subst e0
            clear a1 a2 x0 x2 x3
            have HPQ := Lib.hid (HPR.out q hqj)
            have HSQ := Lib.hid fun (h : cols[q].m ≠ x.m) => (fun b hb hbq => (by
              rcases Nat.lt_or_ge b q with h1 | h1
              · exact HM2.out b hb h1
              · obtain rfl : b = q := by omega
                exact h) : ∀ (b : Nat) (hb : b < cols.length), b < q + 1 → cols[b].m ≠ x.m)
            generalize cols[q] = y at a0 HPQ HSQ
            by_cases hey : y.m = x.m
            · have hee : (y.m.toList == x.m.toList) = true := by rw [hey]; simp
              have HZ := Lib.hid (HPQ.out hey)
              clear hey HPQ HSQ
              go_upto_region 12 with fail
              have p0 := cell_regrown a0
              have p1 := cell_regrown x1
              have p2 := cell_regrown y0
              clear a0 x1 y0
              refine wp_region_quiet_below (by kernel_rfl) (by kernel_rfl) ?_
              repeat (go_big_quiet_step (fail))
              refine wpQuiet_nil ?_
              intro w7 hw7
              obtain ⟨pp, rfl⟩ := hw7
              have HB7 := Lib.hid (below_regrown wr pp.d pp.os)
              clear p0 p1 p2
              generalize grow (redrawn wr pp.d) pp.os = W7 at HB7 ⊢
              go_wp2
              go_ret
              exact ⟨ret_bool HZ.out.symm, HBz.out.trans ((HB5.out.trans ((HB6.out.trans (HB7.out.mono HB6.out.size)).mono HB5.out.size)).mono HBz.out.size)⟩
            · have hee : (y.m.toList == x.m.toList) = false := beq_false_of_ne fun e => hey (Sy.ba_ext (by rw [ByteArray.toList_eq, ByteArray.toList_eq] at e; exact e))
              have HSS := Lib.hid (HSQ.out hey)
              clear hey HPQ HSQ
              go_upto_region 12 with fail
              have p0 := cell_regrown a0
              have p1 := cell_regrown x1
              have p2 := cell_regrown y0
              clear a0 x1 y0
              refine wp_region_quiet_below (by kernel_rfl) (by kernel_rfl) ?_
              repeat (go_big_quiet_step (fail))
              refine wpQuiet_nil ?_
              intro w7 hw7
              obtain ⟨pp, rfl⟩ := hw7
              have HB7 := Lib.hid (below_regrown wr pp.d pp.os)
              clear p0 p1 p2
              generalize grow (redrawn wr pp.d) pp.os = W7 at HB7 ⊢
              have hl8 := HL1.out.2.1
              go_wp2
              go_roundw
              case rel => exact ⟨q + 1, by go_num, hqj, HSS.out, HB6.out.trans (HB7.out.mono HB6.out.size)⟩
              case measure => simp [intOf]; omega
          · obtain rfl : q = j := by omega
            have hl8 := HL1.out.2.1
            go_wp2
            go_roundw
            case rel => exact ⟨q + 1, by go_num, hlt, HST2.out (fun b hb => HM2.out b (by omega) hb), HB5.out.trans (HB6.out.mono HB5.out.size)⟩
            case measure => simp [intOf]; omega
      · obtain rfl : j = cols.length := by omega
        have hcb : colsB cols = true := by
          unfold colsB
          have := HL1.out
          rw [decide_eq_false (show ¬ cols.length = 0 by omega), decide_eq_true (show cols.length ≤ 8 by omega), all_get (fun a ha => (HM.out a ha ha).1)]
          rfl
        have hnb : newB [] (cols.map Cl.m) = true := (newB_pairs _).2 fun i k hi hk => by
          rw [List.getElem_map, List.getElem_map]
          rw [List.length_map] at hi
          exact (HM.out i hi hi).2 k hk
        have HTC := Lib.hid (show tblB ⟨m, cols, (k : Int), idx⟩ = (idxB cols.length idx && newB [] (idx.map Ix.m)) by rw [HTB.out, hcb, hnb]; simp)
        clear hcb hnb HTB HCF HCN HM
        have HX2 := Lib.hid (HXz.out.below HBB.out)
        have HXX2 := Lib.hid (HXX.out.below HBB.out)
        have HBt := Lib.hid (HBz.out.trans (HBB.out.mono HBz.out.size))
        clear HXz HCz HXX HBz HBB
        go_wp2_with fail
        clear x0 x1 x2 x3
        generalize wr = v2 at *
        go_loopw [6] (fun i wr => ∃ j : Nat, i = .int .i64 j ∧ j ≤ idx.length ∧ (∀ (a : Nat) (ha : a < idx.length), a < j → ixB cols.length idx[a] = true ∧ ∀ (b : Nat) (hb : b < a), idx[b].m ≠ idx[a].m) ∧ Below v2.heap.size v2 wr) (fun i _ => idx.length - (intOf i).toNat)
        case atStart => exact ⟨0, rfl, by omega, fun a _ h => absurd h (by omega), Below.refl _ _⟩
        case round =>
          obtain ⟨j, rfl, hj, hM, hBB⟩ := hrel
          have HM := Lib.hid hM
          have HBB := Lib.hid hBB
          clear hM hBB
          obtain ⟨x0, x1, x2, x3⟩ := HX2.out.below HBB.out
          by_cases hlt : j < idx.length
          · obtain ⟨ae, rfl, a0, a1⟩ := (HXX2.out.below HBB.out).at_ hlt
            have hlt' : (j : Int) < (idx.length : Int) := by omega
            have ha0 := cell_lt a0
            rw [add_block] at ha0
            have HCO := Lib.hid fun (h : ixB cols.length idx[j] = false) => HIF.out (idx_one hlt h)
            have HPR := Lib.hid fun (b : Nat) (hb : b < j) (h : idx[b].m = idx[j].m) => HIN.out (newB_twice (l := idx.map Ix.m) (i := j) (k := b) (by rw [List.length_map]; exact hlt) hb (by rw [List.getElem_map, List.getElem_map]; exact h))
            have HST := Lib.hid fun (h : ixB cols.length idx[j] = true) (h' : ∀ (b : Nat) (hb : b < j), idx[b].m ≠ idx[j].m) => (fun a ha haj => (by
              rcases Nat.lt_or_ge a j with h1 | h1
              · exact HM.out a ha h1
              · obtain rfl : a = j := by omega
                exact ⟨h, h'⟩) : ∀ (a : Nat) (ha : a < idx.length), a < j + 1 → ixB cols.length idx[a] = true ∧ ∀ (b : Nat) (hb : b < a), idx[b].m ≠ idx[a].m)
            generalize idx[j] = x at a0 a1 HCO HPR HST
            go_upto_region 18 with fail
            have hba := below1 wr (.cells #[.string x.m, .int .i64 x.c] 87)
            have z0 : (wr.alloc (.cells #[.string x.m, .int .i64 x.c] 87)).cell? ⟨wr.heap.size, 0, none⟩ = some (.string x.m) := (cell_last _ _ _ _ _ rfl).trans rfl
            have z1 : (wr.alloc (.cells #[.string x.m, .int .i64 x.c] 87)).cell? ⟨wr.heap.size, 1, none⟩ = some (.int .i64 x.c) := (cell_last _ _ _ _ _ rfl).trans rfl
            have HBa := Lib.hid (HBB.out.trans (hba.mono HBB.out.size))
            clear a0 a1 hba x0 x1 x2 x3 ha0
            obtain ⟨x0, x1, x2, x3⟩ := HX2.out.below HBa.out
            have hzb := cell_lt z0
            simp only [] at hzb
            generalize wr.alloc (.cells #[.string x.m, .int .i64 x.c] 87) = wa at *
            generalize wr.heap.size = bx at *
            have hn2 := fun (W : World) => HN.out x.m W
            cases hxn : Sy.nameB x.m
            · rw [hxn] at hn2
              have HN2 := Lib.hid hn2
              clear hn2
              clear x0 x1 x2 x3
              go_wp2_with (go_at_call 58; (with_reducible refine (HN2.out _).mono ?_); rintro e w5 ⟨rfl, hb⟩; have y0 := (hb.cell (cell_lt z0)).trans z0; have y1 := (hb.cell (cell_lt z1)).trans z1; have yb := cell_lt y0; simp only [] at yb; obtain ⟨x0, x1, x2, x3⟩ := HX2.out.below (HBa.out.trans (hb.mono HBa.out.size)); have HB5 := Lib.hid (HBa.out.trans (hb.mono HBa.out.size)); clear hb z0 z1)
              go_ret
              exact ⟨ret_bool (HCO.out (by unfold ixB; rw [show nameB x.m = false from hxn]; rfl)).symm, HBt.out.trans (HB5.out.mono HBt.out.size)⟩
            rw [hxn] at hn2
            have HN2 := Lib.hid hn2
            clear hn2
            by_cases g1 : x.c < 0
            · skip
              clear x0 x1 x2 x3
              go_wp2_with (go_at_call 58; (with_reducible refine (HN2.out _).mono ?_); rintro e w5 ⟨rfl, hb⟩; have y0 := (hb.cell (cell_lt z0)).trans z0; have y1 := (hb.cell (cell_lt z1)).trans z1; have yb := cell_lt y0; simp only [] at yb; obtain ⟨x0, x1, x2, x3⟩ := HX2.out.below (HBa.out.trans (hb.mono HBa.out.size)); have HB5 := Lib.hid (HBa.out.trans (hb.mono HBa.out.size)); clear hb z0 z1)
              go_ret
              exact ⟨ret_bool (HCO.out (by unfold ixB placeB; rw [decide_eq_false (show ¬ 0 ≤ x.c by omega)]; simp)).symm, HBt.out.trans (HB5.out.mono HBt.out.size)⟩
            by_cases g2 : (cols.length : Int) ≤ x.c
            · skip
              clear x0 x1 x2 x3
              go_wp2_with (go_at_call 58; (with_reducible refine (HN2.out _).mono ?_); rintro e w5 ⟨rfl, hb⟩; have y0 := (hb.cell (cell_lt z0)).trans z0; have y1 := (hb.cell (cell_lt z1)).trans z1; have yb := cell_lt y0; simp only [] at yb; obtain ⟨x0, x1, x2, x3⟩ := HX2.out.below (HBa.out.trans (hb.mono HBa.out.size)); have HB5 := Lib.hid (HBa.out.trans (hb.mono HBa.out.size)); clear hb z0 z1)
              go_ret
              exact ⟨ret_bool (HCO.out (by unfold ixB placeB; rw [decide_eq_false (show ¬ x.c < (cols.length : Int) by omega)]; simp)).symm, HBt.out.trans (HB5.out.mono HBt.out.size)⟩
            have hcx : ixB cols.length x = true := by unfold ixB placeB; rw [show nameB x.m = true from hxn, decide_eq_true (show 0 ≤ x.c by omega), decide_eq_true (show x.c < (cols.length : Int) by omega)]; rfl
            have HST2 := Lib.hid (HST.out hcx)
            clear hcx HST HCO x0 x1 x2 x3
            go_upto_region 20 with (go_at_call 58; (with_reducible refine (HN2.out _).mono ?_); rintro e w5 ⟨rfl, hb⟩; have y0 := (hb.cell (cell_lt z0)).trans z0; have y1 := (hb.cell (cell_lt z1)).trans z1; have yb := cell_lt y0; simp only [] at yb; obtain ⟨x0, x1, x2, x3⟩ := HX2.out.below (HBa.out.trans (hb.mono HBa.out.size)); have HB5 := Lib.hid (HBa.out.trans (hb.mono HBa.out.size)); clear hb z0 z1)
            clear g1 g2 x0 x1 x2 x3 hxn
            have HY0 := Lib.hid y0
            clear y0 y1 yb
            go_wp2_with fail
            generalize w5 = v5 at *
            go_loopw [8] (fun i wr => ∃ q : Nat, i = .int .i64 q ∧ q ≤ j ∧ (∀ (b : Nat) (hb : b < idx.length), b < q → idx[b].m ≠ x.m) ∧ Below v5.heap.size v5 wr) (fun i _ => j - (intOf i).toNat)
            case atStart => exact ⟨0, rfl, by omega, fun b _ h => absurd h (by omega), Below.refl _ _⟩
            case round =>
              obtain ⟨q, rfl, hq, hM2, hB6⟩ := hrel
              have HM2 := Lib.hid hM2
              have HB6 := Lib.hid hB6
              clear hM2 hB6
              by_cases hqj : q < j
              · have hqj' : (q : Int) < (j : Int) := by omega
                have hql : q < idx.length := by omega
                have hql' : (q : Int) < (idx.length : Int) := by omega
                obtain ⟨x0, x1, x2, x3⟩ := HX2.out.below (HB5.out.trans (HB6.out.mono HB5.out.size))
                have y0 := (HB6.out.cell (cell_lt HY0.out)).trans HY0.out
                obtain ⟨ae', e0, a0, a1⟩ := (HXX2.out.below (HB5.out.trans (HB6.out.mono HB5.out.size))).at_ hql
                injection e0 with e0
                subst e0
                clear a1 x0 x1 x2
                have HPQ := Lib.hid (HPR.out q hqj)
                have HSQ := Lib.hid fun (h : idx[q].m ≠ x.m) => (fun b hb hbq => (by
                  rcases Nat.lt_or_ge b q with h1 | h1
                  · exact HM2.out b hb h1
                  · obtain rfl : b = q := by omega
                    exact h) : ∀ (b : Nat) (hb : b < idx.length), b < q + 1 → idx[b].m ≠ x.m)
                generalize idx[q] = y at a0 HPQ HSQ
                by_cases hey : y.m = x.m
                · have hee : (y.m.toList == x.m.toList) = true := by rw [hey]; simp
                  have HZ := Lib.hid (HPQ.out hey)
                  clear hey HPQ HSQ
                  go_upto_region 23 with fail
                  have p0 := cell_regrown a0
                  have p1 := cell_regrown x3
                  have p2 := cell_regrown y0
                  clear a0 x3 y0
                  refine wp_region_quiet_below (by kernel_rfl) (by kernel_rfl) ?_
                  repeat (go_big_quiet_step (fail))
                  refine wpQuiet_nil ?_
                  intro w7 hw7
                  obtain ⟨pp, rfl⟩ := hw7
                  have HB7 := Lib.hid (below_regrown wr pp.d pp.os)
                  clear p0 p1 p2
                  generalize grow (redrawn wr pp.d) pp.os = W7 at HB7 ⊢
                  go_wp2
                  go_ret
                  exact ⟨ret_bool HZ.out.symm, HBt.out.trans ((HB5.out.trans ((HB6.out.trans (HB7.out.mono HB6.out.size)).mono HB5.out.size)).mono HBt.out.size)⟩
                · have hee : (y.m.toList == x.m.toList) = false := beq_false_of_ne fun e => hey (Sy.ba_ext (by rw [ByteArray.toList_eq, ByteArray.toList_eq] at e; exact e))
                  have HSS := Lib.hid (HSQ.out hey)
                  clear hey HPQ HSQ
                  go_upto_region 23 with fail
                  have p0 := cell_regrown a0
                  have p1 := cell_regrown x3
                  have p2 := cell_regrown y0
                  clear a0 x3 y0
                  refine wp_region_quiet_below (by kernel_rfl) (by kernel_rfl) ?_
                  repeat (go_big_quiet_step (fail))
                  refine wpQuiet_nil ?_
                  intro w7 hw7
                  obtain ⟨pp, rfl⟩ := hw7
                  have HB7 := Lib.hid (below_regrown wr pp.d pp.os)
                  clear p0 p1 p2
                  generalize grow (redrawn wr pp.d) pp.os = W7 at HB7 ⊢
                  have hl8 := HL1.out.2.2
                  go_wp2
                  go_roundw
                  case rel => exact ⟨q + 1, by go_num, hqj, HSS.out, HB6.out.trans (HB7.out.mono HB6.out.size)⟩
                  case measure => simp [intOf]; omega
              · obtain rfl : q = j := by omega
                have hl8 := HL1.out.2.2
                go_wp2
                go_roundw
                case rel => exact ⟨q + 1, by go_num, hlt, HST2.out (fun b hb => HM2.out b (by omega) hb), HB5.out.trans (HB6.out.mono HB5.out.size)⟩
                case measure => simp [intOf]; omega
          · obtain rfl : j = idx.length := by omega
            have hib : idxB cols.length idx = true := by
              unfold idxB
              rw [decide_eq_true (show idx.length ≤ 4 by have := HL1.out; omega), all_get (fun a ha => (HM.out a ha ha).1)]
              rfl
            have hin : newB [] (idx.map Ix.m) = true := (newB_pairs _).2 fun i k hi hk => by
              rw [List.getElem_map, List.getElem_map]
              rw [List.length_map] at hi
              exact (HM.out i hi hi).2 k hk
            have HZ := Lib.hid (show tblB ⟨m, cols, (k : Int), idx⟩ = true by rw [HTC.out, hib, hin]; rfl)
            clear hib hin HTC HIF HIN HM
            go_wp2
            go_ret
            exact ⟨ret_bool HZ.out.symm, HBt.out.trans (HBB.out.mono HBt.out.size)⟩
end Go.Proofs.YtipcacplphidhaaGreat
/- Which names catalogs have indexes of, by the reference: the walk of indexed. Conditions: tables that are read in memory. -/
namespace Go.Proofs.YtipcacplphidhaaGreat
open Go.RowKit Go.Sort Go.Maps
set_option linter.unusedSimpArgs false
set_option linter.unusedVariables false

/-- Whether a catalog has an index of a name. -/
def idxd (ls : List Tb) (s : ByteArray) : Bool := (names ls).any fun y => y.toList == s.toList
theorem ba_eq {x y : ByteArray} (h : x.toList = y.toList) : x = y := Sy.ba_ext (by rw [ByteArray.toList_eq, ByteArray.toList_eq] at h; exact h)
theorem idxd_iff {ls : List Tb} {s : ByteArray} : idxd ls s = true ↔ ∃ t ∈ ls, ∃ x ∈ t.idx, x.m = s := by
  unfold idxd names
  rw [List.any_eq_true]
  constructor
  · rintro ⟨y, hy, he⟩
    obtain ⟨t, ht, hy⟩ := List.mem_flatMap.1 hy
    obtain ⟨x, hx, rfl⟩ := List.mem_map.1 hy
    exact ⟨t, ht, x, hx, ba_eq (by simpa using he)⟩
  · rintro ⟨t, ht, x, hx, rfl⟩
    exact ⟨x.m, List.mem_flatMap.2 ⟨t, ht, List.mem_map_of_mem hx⟩, by simp⟩
theorem idxd_yes {ls : List Tb} {s : ByteArray} {j q : Nat} (hj : j < ls.length) (hq : q < ls[j].idx.length) (h : ls[j].idx[q].m = s) : idxd ls s = true :=
  idxd_iff.2 ⟨_, List.getElem_mem hj, _, List.getElem_mem hq, h⟩
theorem idxd_no {ls : List Tb} {s : ByteArray} (h : ∀ (j : Nat) (hj : j < ls.length), ∀ x ∈ ls[j].idx, x.m ≠ s) : idxd ls s = false := by
  cases hi : idxd ls s with
  | false => rfl
  | true =>
    obtain ⟨t, ht, x, hx, e⟩ := idxd_iff.1 hi
    obtain ⟨j, hj, rfl⟩ := List.mem_iff_getElem.1 ht
    exact absurd e (h j hj x hx)
set_option maxRecDepth 100000 in
set_option maxHeartbeats 8000000 in
theorem indexed_any (A : Option Addr) (n c : Nat) (ls : List Tb) (s : ByteArray) (w : World) (hl : n = ls.length) (hr : RdS w A ls) (hn : ls.length ≤ 9223372036854775807) :
    Calls Tryz.prog 56 #[.agg #[.slice A n c], .string s] w fun e w' => e = .returned (.bool (idxd ls s)) ∧ Below w.heap.size w w' := by
  subst hl
  have hb1 := below1 w (.cells #[.slice A ls.length c] 24)
  have HR := Lib.hid (hr.below hb1)
  have HB1 := Lib.hid hb1
  have HS0 := Lib.hid (show (w.alloc (.cells #[.slice A ls.length c] 24)).cell? ⟨w.heap.size, 0, none⟩ = some (.slice A ls.length c) by rw [cell_last _ _ _ _ _ rfl]; rfl)
  clear hr hb1
  go_enter Tryz.func56, Tryz.ntmps56
  go_upto_region 1 with fail
  generalize (w.alloc (.cells #[.slice A ls.length c] 24)) = v1 at *
  go_wp2_with fail
  go_loopw [5] (fun i wr => ∃ j : Nat, i = .int .i64 j ∧ j ≤ ls.length ∧ (∀ (a : Nat) (ha : a < ls.length), a < j → ∀ x ∈ ls[a].idx, x.m ≠ s) ∧ Below v1.heap.size v1 wr) (fun i _ => ls.length - (intOf i).toNat)
  case atStart => exact ⟨0, rfl, by omega, fun a _ h => absurd h (by omega), Below.refl _ _⟩
  case round =>
    obtain ⟨j, rfl, hj, hM, hBB⟩ := hrel
    have HM := Lib.hid hM
    have HBB := Lib.hid hBB
    clear hM hBB
    have s0 := (HBB.out.cell (cell_lt HS0.out)).trans HS0.out
    have sb := cell_lt s0
    simp only [] at sb
    by_cases hlt : j < ls.length
    · have hlt' : (j : Int) < (ls.length : Int) := by omega
      have HYS := Lib.hid fun (q : Nat) (hq : q < ls[j].idx.length) (h : ls[j].idx[q].m = s) => idxd_yes hlt hq h
      have HST := Lib.hid fun (h : ∀ x ∈ ls[j].idx, x.m ≠ s) => (fun a ha haj => (by
        rcases Nat.lt_or_ge a j with h1 | h1
        · exact HM.out a ha h1
        · obtain rfl : a = j := by omega
          exact h) : ∀ (a : Nat) (ha : a < ls.length), a < j + 1 → ∀ x ∈ ls[a].idx, x.m ≠ s)
      have HAT := Lib.hid fun (W : World) (h : Below v1.heap.size v1 W) => (HR.out.below h).at_ hlt
      generalize ls[j] = t at HYS HST HAT
      go_wp2_with fail
      generalize wr = v2 at *
      go_loopw [6] (fun i wr => ∃ q : Nat, i = .int .i64 q ∧ q ≤ t.idx.length ∧ (∀ (b : Nat) (hb : b < t.idx.length), b < q → t.idx[b].m ≠ s) ∧ Below v2.heap.size v2 wr) (fun i _ => t.idx.length - (intOf i).toNat)
      case atStart => exact ⟨0, rfl, by omega, fun a _ h => absurd h (by omega), Below.refl _ _⟩
      case round =>
        obtain ⟨q, rfl, hq, hM2, hB6⟩ := hrel
        have HM2 := Lib.hid hM2
        have HB6 := Lib.hid hB6
        clear hM2 hB6 s0 sb
        have s0 := ((HBB.out.trans (HB6.out.mono HBB.out.size)).cell (cell_lt HS0.out)).trans HS0.out
        have sb := cell_lt s0
        simp only [] at sb
        obtain ⟨ad, rfl, cA, iA, cc, ic, k0, k1, k2, k3, hT⟩ := HAT.out _ (HBB.out.trans (HB6.out.mono HBB.out.size))
        have kb := cell_lt k0
        rw [add_block] at kb
        have hxb := hT.xb
        by_cases hqj : q < t.idx.length
        · have hqj' : (q : Int) < (t.idx.length : Int) := by omega
          obtain ⟨ae, rfl, a0, a1⟩ := hT.x.at_ hqj
          have ab := cell_lt a0
          rw [add_block] at ab
          have HPQ := Lib.hid (HYS.out q hqj)
          have HSQ := Lib.hid fun (h : t.idx[q].m ≠ s) => (fun b hb hbq => (by
            rcases Nat.lt_or_ge b q with h1 | h1
            · exact HM2.out b hb h1
            · obtain rfl : b = q := by omega
              exact h) : ∀ (b : Nat) (hb : b < t.idx.length), b < q + 1 → t.idx[b].m ≠ s)
          clear hT k0 k1 k2 a1
          generalize t.idx[q] = y at a0 HPQ HSQ
          by_cases hey : y.m = s
          · have hee : (y.m.toList == s.toList) = true := by rw [hey]; simp
            have HZ := Lib.hid (HPQ.out hey)
            clear hey HPQ HSQ
            go_wp2
            go_ret
            exact ⟨ret_bool HZ.out.symm, HB1.out.trans ((HBB.out.trans (HB6.out.mono HBB.out.size)).mono HB1.out.size)⟩
          · have hee : (y.m.toList == s.toList) = false := beq_false_of_ne fun e => hey (ba_eq e)
            have HSS := Lib.hid (HSQ.out hey)
            clear hey HPQ HSQ
            go_wp2
            go_roundw
            case rel => exact ⟨q + 1, by go_num, hqj, HSS.out, HB6.out⟩
            case measure => simp [intOf]; omega
        · obtain rfl : q = t.idx.length := by omega
          clear k0 k1 k2 hT
          go_wp2
          go_roundw
          case rel => exact ⟨j + 1, by go_num, hlt, HST.out (fun x hx => by obtain ⟨b, hb, rfl⟩ := List.mem_iff_getElem.1 hx; exact HM2.out b hb hb), HBB.out.trans (HB6.out.mono HBB.out.size)⟩
          case measure => simp [intOf]; omega
    · obtain rfl : j = ls.length := by omega
      have HZ := Lib.hid (idxd_no fun a ha => HM.out a ha ha)
      clear HM
      go_wp2
      go_ret
      exact ⟨ret_bool HZ.out.symm, HB1.out.trans (HBB.out.mono HB1.out.size)⟩
end Go.Proofs.YtipcacplphidhaaGreat
namespace Go.Proofs.YtipcacplphidhaaGreat
open Go.RowKit Go.Sort Go.Maps
set_option linter.unusedSimpArgs false
set_option linter.unusedVariables false

theorem names_app (l m : List Tb) : names (l ++ m) = names l ++ names m := by unfold names; rw [List.flatMap_append]
theorem mem_octs {l : List ByteArray} {s : ByteArray} : s.data.toList ∈ octs l ↔ s ∈ l := by
  unfold octs
  rw [List.mem_map]
  exact ⟨fun ⟨y, hy, e⟩ => Sy.ba_ext e ▸ hy, fun h => ⟨s, h, rfl⟩⟩
theorem idxd_mem {ls : List Tb} {s : ByteArray} : idxd ls s = true ↔ s ∈ names ls := by
  rw [idxd_iff]
  unfold names
  rw [List.mem_flatMap]
  exact ⟨fun ⟨t, ht, x, hx, e⟩ => ⟨t, ht, List.mem_map.2 ⟨x, hx, e⟩⟩, fun ⟨t, ht, h⟩ => by obtain ⟨x, hx, e⟩ := List.mem_map.1 h; exact ⟨t, ht, x, hx, e⟩⟩
theorem newB_two {l m : List ByteArray} : newB [] (l ++ m) = true ↔ newB [] l = true ∧ newB [] m = true ∧ ∀ s ∈ m, s ∉ l := by
  rw [newB_iff, newB_iff, newB_iff, octs_append, List.nodup_append]
  constructor
  · rintro ⟨⟨h1, h2, h3⟩, _⟩
    exact ⟨⟨h1, fun _ _ => by simp⟩, ⟨h2, fun _ _ => by simp⟩, fun s hs hl => h3 _ (mem_octs.2 hl) _ (mem_octs.2 hs) rfl⟩
  · rintro ⟨⟨h1, _⟩, ⟨h2, _⟩, h3⟩
    refine ⟨⟨h1, h2, fun a ha b hb e => ?_⟩, fun _ _ => by simp⟩
    subst e
    unfold octs at ha hb
    obtain ⟨x, hx, rfl⟩ := List.mem_map.1 ha
    obtain ⟨y, hy, e⟩ := List.mem_map.1 hb
    exact h3 y hy (by rw [Sy.ba_ext e]; exact hx)
theorem newB_all {ls : List Tb} : ∀ j, j ≤ ls.length → (∀ (i : Nat) (hi : i < ls.length), i < j → newB [] (ls[i].idx.map Ix.m) = true ∧ ∀ x ∈ ls[i].idx, idxd (ls.take i) x.m = false) → newB [] (names (ls.take j)) = true
  | 0, _, _ => by simp [names, newB]
  | j + 1, hj, h => by
    rw [names_take (show j < ls.length by omega)]
    refine newB_two.2 ⟨newB_all j (by omega) fun i hi hij => h i hi (by omega), (h j (by omega) (by omega)).1, fun s hs hl => ?_⟩
    obtain ⟨x, hx, rfl⟩ := List.mem_map.1 hs
    have := (h j (by omega) (by omega)).2 x hx
    rw [idxd_mem.2 hl] at this
    cases this
theorem newB_bad {ls : List Tb} {j : Nat} (hj : j < ls.length) {x : Ix} (hx : x ∈ ls[j].idx) (h : idxd (ls.take j) x.m = true) : newB [] (names ls) = false := by
  cases hn : newB [] (names ls) with
  | false => rfl
  | true =>
    rw [← List.take_append_drop j ls, names_app] at hn
    exact absurd (idxd_mem.1 h) ((newB_two.1 hn).2.2 x.m (idxd_mem.1 (idxd_iff.2 ⟨ls[j], by rw [List.drop_eq_getElem_cons hj]; exact List.mem_cons_self .., x, hx, rfl⟩)))
theorem catB_bad1 {ls : List Tb} {j : Nat} (hj : j < ls.length) (h : (risAt ls j && mayAt ls j) = false) : catB ls = false := by
  unfold catB
  rw [not_all_range hj h]
  simp
theorem catB_bad2 {ls : List Tb} (h : newB [] (names ls) = false) : catB ls = false := by
  unfold catB
  rw [h]
  simp
theorem catB_good {ls : List Tb} (h8 : ls.length ≤ 8) (h : ∀ k, k < ls.length → (risAt ls k && mayAt ls k) = true) (hn : newB [] (names ls) = true) : catB ls = true := by
  unfold catB
  rw [decide_eq_true h8, all_range h, hn]
  rfl
end Go.Proofs.YtipcacplphidhaaGreat
