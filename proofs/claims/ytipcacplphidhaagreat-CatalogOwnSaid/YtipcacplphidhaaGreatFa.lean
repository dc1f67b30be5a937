/- What the reference's Check answers: the walk. Conditions: statements that are read in memory. -/
import Derived.Test.YtipcacplphidhaaGreatEb
import Derived.Test.YtipcacplphidhaaGreatTm
import Derived.Test.YtipcacplphidhaaGreatCc
namespace Go.Proofs.YtipcacplphidhaaGreat.Sy
open Go.RowKit
set_option linter.unusedSimpArgs false
set_option linter.unusedVariables false

theorem firstE_all {α : Type} (f : α → Int) : ∀ l : List α, firstE (l.map f) = chkAll f l
  | [] => rfl
  | y :: l => by rw [List.map_cons, firstE, chkAll, firstE_all f l]
theorem firstE_flat {n : Nat} : ∀ l : List (List (Ar n)), firstE (l.flatMap fun r => r.map chk) = chkAll (chkAll chk) l
  | [] => rfl
  | r :: l => by rw [List.flatMap_cons, firstE_app, firstE_all, firstE_flat l, chkAll]
/-- The errors of a statement's expressions, list by list. -/
theorem errs_parts {n : Nat} (x : St n) : firstE (errsX x) = (if chkAll (chkAll chk) x.rows = 0 then (if chkAll (fun s => chkX s.x) x.sets = 0 then chkAll (chkAll chk) [x.items, x.on, x.wh, x.gr] else chkAll (fun s => chkX s.x) x.sets) else chkAll (chkAll chk) x.rows) := by
  unfold errsX
  rw [firstE_app, firstE_flat, firstE_app, firstE_all, firstE_app, firstE_all, firstE_app, firstE_all, firstE_app, firstE_all, firstE_all]
  simp only [chkAll]
  congr 2
  grind
theorem chkSt_in {n : Nat} {x : St n} (h1 : 1 ≤ x.kind) (h2 : x.kind ≤ 10) (hf : formedB x = true) : chkSt x = (if chkAll (chkAll chk) x.rows = 0 then (if chkAll (fun s => chkX s.x) x.sets = 0 then (if chkAll (chkAll chk) [x.items, x.on, x.wh, x.gr] = 0 then (if grBad x = true then 9 else 0) else chkAll (chkAll chk) [x.items, x.on, x.wh, x.gr]) else chkAll (fun s => chkX s.x) x.sets) else chkAll (chkAll chk) x.rows) := by
  unfold chkSt
  rw [if_neg (by omega), if_neg (by rw [hf]; simp), errs_parts]
  grind
theorem grBad_no {n : Nat} {x : St n} (h : x.gr.length = 0) : grBad x = false := by
  unfold grBad; rw [List.eq_nil_of_length_eq_zero h]
theorem grBad_at {n : Nat} {x : St n} (h : 0 < x.gr.length) : grBad x = decide (x.gr[0].e.op ≠ 1) := by
  obtain ⟨k, tb, cols, key, ix, rows, sets, items, jn, on, wh, gr, ord, lim⟩ := x
  dsimp only at h ⊢
  unfold grBad
  cases gr with
  | nil => cases h
  | cons y l => rfl
theorem zero_add7 (ad : Addr) : ad.add (0 * 7) = ad := by unfold Addr.add; rw [if_pos (by omega)]
theorem four_rows {n : Nat} {w' : World} {x : St n} {h : Hs} {g : Nat} {t : TypeId} (r : RdSt Any w' x h) (hg : w'.heap[g]? = some (.cells #[.slice h.I.a x.items.length h.I.c, .slice h.O.a x.on.length h.O.c, .slice h.W.a x.wh.length h.W.c, .slice h.G.a x.gr.length h.G.c] t (0, 0))) :
    RdK (KR n) Any w' (some ⟨g, 0, none⟩) 4 [x.items, x.on, x.wh, x.gr] := by
  have hc : ∀ (i : Nat) (v : Value), [Value.slice h.I.a x.items.length h.I.c, .slice h.O.a x.on.length h.O.c, .slice h.W.a x.wh.length h.W.c, .slice h.G.a x.gr.length h.G.c][i]? = some v → w'.cell? ((⟨g, 0, none⟩ : Addr).add i) = some v := by
    intro i v hv
    have e : (⟨g, 0, none⟩ : Addr).add i = ⟨g, i, none⟩ := by unfold Addr.add; split <;> simp_all
    rw [e]
    simp [World.cell?, hg]
    simpa using hv
  refine ⟨⟨(fun e => by cases e), by simp, by omega⟩, by simp [KR], fun ad e j y hy => ?_⟩
  injection e with e; subst e
  refine ⟨trivial, ?_⟩
  have key : ∀ (j : Nat) (u : Value), [Value.slice h.I.a x.items.length h.I.c, .slice h.O.a x.on.length h.O.c, .slice h.W.a x.wh.length h.W.c, .slice h.G.a x.gr.length h.G.c][j]? = some u → ∀ (i : Nat) (v : Value), ([u] : List Value)[i]? = some v → w'.cell? ((⟨g, 0, none⟩ : Addr).add (j * 1 + i)) = some v := by
    intro j u hu i v hv
    have hi : i = 0 := by have := (List.getElem?_eq_some_iff.1 hv).1; simp at this; omega
    subst hi
    simp at hv
    subst hv
    rw [Nat.mul_one, Nat.add_zero]
    exact hc j u hu
  match j, hy with
  | 0, hy => injection hy with hy; subst hy; exact ⟨h.I.a, h.I.c, key 0 _ rfl, r.I⟩
  | 1, hy => injection hy with hy; subst hy; exact ⟨h.O.a, h.O.c, key 1 _ rfl, r.O⟩
  | 2, hy => injection hy with hy; subst hy; exact ⟨h.W.a, h.W.c, key 2 _ rfl, r.W⟩
  | 3, hy => injection hy with hy; subst hy; exact ⟨h.G.a, h.G.c, key 3 _ rfl, r.G⟩

set_option maxHeartbeats 2000000 in
set_option maxRecDepth 100000 in
theorem rCheck_kind {n : Nat} (x : St n) (h : Hs) (w : World) (hk : x.kind < 1 ∨ 10 < x.kind) :
    Calls Tryz.prog 24 #[x.val h] w fun e w' => e = .returned (.int .i64 (chkSt x)) ∧ Below w.heap.size w w' := by
  have hz : chkSt x = 22 := by unfold chkSt; rw [if_pos hk]
  rw [hz]
  clear hz
  obtain ⟨kind, tb, cols, key, ix, rows, sets, items, jn, on, wh, gr, ord, lim⟩ := x
  obtain ⟨⟨aC, cC⟩, ⟨aR, cR⟩, ⟨aS, cS⟩, ⟨aI, cI⟩, ⟨aO, cO⟩, ⟨aW, cW⟩, ⟨aG, cG⟩, ⟨aD, cD⟩⟩ := h
  unfold St.val St.cs
  dsimp only at hk ⊢
  rcases hk with hk | hk
  · have d1 : decide (kind < 1) = true := by simpa using hk
    clear hk
    go_enter Tryz.func24, Tryz.ntmps24
    go_wp2
    go_ret
    exact ⟨rfl, below1 _ _⟩
  · have d1 : decide (kind < 1) = false := by simp; omega
    have d2 : decide (10 < kind) = true := by simpa using hk
    clear hk
    go_enter Tryz.func24, Tryz.ntmps24
    go_wp2
    go_ret
    exact ⟨rfl, below1 _ _⟩

set_option maxHeartbeats 8000000 in
set_option maxRecDepth 100000 in
theorem rCheck_in {n : Nat} (x : St n) (h : Hs) (w : World) (h1 : 1 ≤ x.kind) (h2 : x.kind ≤ 10) (hr : RdSt Any w x h) :
    Calls Tryz.prog 24 #[x.val h] w fun e w' => e = .returned (.int .i64 (chkSt x)) ∧ Below w.heap.size w w' := by
  have HN := Lib.hid (show formedB x = false → chkSt x = 9 from fun hf => by unfold chkSt; rw [if_neg (by omega), if_pos hf])
  have HY := Lib.hid fun hf => chkSt_in (x := x) h1 h2 hf
  have HQ := Lib.hid (formed_eq x h1 h2)
  have HCN := Lib.hid fun w => rcounts_any x h w
  have HNM := Lib.hid fun w => rnames_any x h w h1 h2
  have HLS := Lib.hid fun (w' : World) (hb : Below w.heap.size w w') => rlists_any x h w' (hr.below hb)
  have kR : x.rows.length ≤ 9223372036854775807 := by have := hr.R.hdr.2; omega
  have kS : x.sets.length ≤ 9223372036854775807 := by have := hr.S.hdr.2; omega
  have d1 : decide (x.kind < 1) = false := by simp; omega
  have d2 : decide (10 < x.kind) = false := by simp; omega
  have HL := Lib.hid (show limB x = (if x.kind = 7 then decide (-1 ≤ x.lim) && decide (x.lim ≤ 2147483648) else decide (x.lim = 0)) from rfl)
  have HR := Lib.hid hr
  clear hr h1 h2
  obtain ⟨kind, tb, cols, key, ix, rows, sets, items, jn, on, wh, gr, ord, lim⟩ := x
  obtain ⟨⟨aC, cC⟩, ⟨aR, cR⟩, ⟨aS, cS⟩, ⟨aI, cI⟩, ⟨aO, cO⟩, ⟨aW, cW⟩, ⟨aG, cG⟩, ⟨aD, cD⟩⟩ := h
  generalize chkSt _ = RR at *
  generalize formedB _ = FF at *
  generalize cntB _ = c1 at *
  generalize namesB _ = c2 at *
  generalize listsB _ = c3 at *
  generalize limB _ = lb at *
  unfold St.val St.cs at HCN HNM HLS ⊢
  dsimp only at HCN HNM HLS HY HQ HL kR kS d1 d2 ⊢
  go_enter Tryz.func24, Tryz.ntmps24
  go_upto_if 24 with fail
  have hX := heap_alloc_new w (.cells #[.int .i64 kind, .string tb, .slice aC cols.length cC, .string key, .string ix, .slice aR rows.length cR, .slice aS sets.length cS, .slice aI items.length cI, .string jn, .slice aO on.length cO, .slice aW wh.length cW, .slice aG gr.length cG, .slice aD ord.length cD, .int .i64 lim] 31)
  have hB := below1 w (.cells #[.int .i64 kind, .string tb, .slice aC cols.length cC, .string key, .string ix, .slice aR rows.length cR, .slice aS sets.length cS, .slice aI items.length cI, .string jn, .slice aO on.length cO, .slice aW wh.length cW, .slice aG gr.length cG, .slice aD ord.length cD, .int .i64 lim] 31)
  generalize (w.alloc (.cells #[.int .i64 kind, .string tb, .slice aC cols.length cC, .string key, .string ix, .slice aR rows.length cR, .slice aS sets.length cS, .slice aI items.length cI, .string jn, .slice aO on.length cO, .slice aW wh.length cW, .slice aG gr.length cG, .slice aD ord.length cD, .int .i64 lim] 31)) = W at hX hB ⊢
  have HB := Lib.hid hB
  clear hB
  obtain ⟨x0, x1, x2, x3, x4, x5, x6, x7, x8, x9, x10, x11, x12, x13⟩ := cells14 hX
  go_cut [3] (fun s wd => s = .bool lb ∧ wd = W)
  case first =>
    have HLL := HL.out
    clear HL HN HY HQ HCN HNM HLS HR
    by_cases h7 : kind = 7
    · rw [if_pos h7] at HLL
      have e7 : (kind == 7) = true := by simp [h7]
      have HL2 := Lib.hid HLL
      clear HLL h7
      go_wp2_with fail
      all_goals go_meet
      all_goals refine ⟨?_, rfl⟩
      all_goals (rw [HL2.out]; simp [*]; try omega)
    · rw [if_neg h7] at HLL
      have e7 : (kind == 7) = false := by simp [h7]
      have HL2 := Lib.hid HLL
      clear HLL h7
      go_wp2_with fail
      go_meet
      refine ⟨?_, rfl⟩
      rw [HL2.out]
      simp [*]
      try rfl
  case rest =>
  obtain ⟨rfl, rfl⟩ := hcut
  clear HL
  go_upto_region 6 with fail
  obtain ⟨J, hJ⟩ : ∃ J, (!jn.toList.isEmpty) = J := ⟨_, rfl⟩
  obtain ⟨O, hO⟩ : ∃ O, decide ((0 : Int) < (on.length : Int)) = O := ⟨_, rfl⟩
  have HQ2 : Hid (FF = (c1 && c2 && c3 && lb && (J == O))) := Lib.hid (by
    rw [HQ.out, ← hJ, ← hO]
    unfold ne0
    congr 2
    simp)
  clear HQ
  go_cut [59] (fun s wd => s = .bool (!FF) ∧ wd.heap[w.heap.size]? = some (.cells #[.int .i64 kind, .string tb, .slice aC cols.length cC, .string key, .string ix, .slice aR rows.length cR, .slice aS sets.length cS, .slice aI items.length cI, .string jn, .slice aO on.length cO, .slice aW wh.length cW, .slice aG gr.length cG, .slice aD ord.length cD, .int .i64 lim] 31 (0, 0)) ∧ Below w.heap.size w wd)
  case first =>
    clear HN HY HR
    go_wp2_with (first | (go_at_call 42; refine (HCN.out _).mono ?_; rintro e w3 ⟨rfl, hb⟩; have hX := (hb.block _ (heap_lt hX)).trans hX; replace HB := Lib.hid (below_call hb HB.out HB.out.size); clear hb x0 x1 x2 x3 x4 x5 x6 x7 x8 x9 x10 x11 x12 x13; obtain ⟨x0, x1, x2, x3, x4, x5, x6, x7, x8, x9, x10, x11, x12, x13⟩ := cells14 hX) | (go_at_call 43; refine (HNM.out _).mono ?_; rintro e w3 ⟨rfl, hb⟩; have hX := (hb.block _ (heap_lt hX)).trans hX; replace HB := Lib.hid (below_call hb HB.out HB.out.size); clear hb x0 x1 x2 x3 x4 x5 x6 x7 x8 x9 x10 x11 x12 x13; obtain ⟨x0, x1, x2, x3, x4, x5, x6, x7, x8, x9, x10, x11, x12, x13⟩ := cells14 hX) | (go_at_call 44; refine (HLS.out _ HB.out).mono ?_; rintro e w3 ⟨rfl, hb⟩; have hX := (hb.block _ (heap_lt hX)).trans hX; replace HB := Lib.hid (below_call hb HB.out HB.out.size); clear hb x0 x1 x2 x3 x4 x5 x6 x7 x8 x9 x10 x11 x12 x13; obtain ⟨x0, x1, x2, x3, x4, x5, x6, x7, x8, x9, x10, x11, x12, x13⟩ := cells14 hX))
    all_goals go_meet
    all_goals refine ⟨?_, hX, HB.out⟩
    all_goals go_light
    all_goals (rw [HQ2.out]; clear HQ2 hX; simp_all)
  case rest =>
  clear x0 x1 x2 x3 x4 x5 x6 x7 x8 x9 x10 x11 x12 x13 hX HB
  obtain ⟨rfl, hX, hb⟩ := hcut
  have HB := Lib.hid hb
  clear hb HQ2 HCN HNM HLS hJ hO
  cases FF
  · go_wp2_with fail
    go_ret
    exact ⟨ret_int (HN.out trivial).symm, HB.out⟩
  have HF := Lib.hid (HY.out rfl)
  clear HN HY
  obtain ⟨x0, x1, x2, x3, x4, x5, x6, x7, x8, x9, x10, x11, x12, x13⟩ := cells14 hX
  go_wp2_with fail
  clear x0 x1 x2 x3 x4 x5 x6 x7 x8 x9 x10 x11 x12 x13
  go_loopw [4, 5] (fun i _ wr => ∃ j : Nat, j ≤ rows.length ∧ i = .int .i64 j ∧ chkAll (chkAll chk) rows = chkAll (chkAll chk) (rows.drop j) ∧ wr.heap[w.heap.size]? = some (.cells #[.int .i64 kind, .string tb, .slice aC cols.length cC, .string key, .string ix, .slice aR rows.length cR, .slice aS sets.length cS, .slice aI items.length cI, .string jn, .slice aO on.length cO, .slice aW wh.length cW, .slice aG gr.length cG, .slice aD ord.length cD, .int .i64 lim] 31 (0, 0)) ∧ Below w.heap.size w wr) (fun i _ _ => rows.length - (intOf i).toNat)
  case atStart => exact ⟨0, by omega, rfl, rfl, hX, HB.out⟩
  case round =>
    clear hX HB
    obtain ⟨j, hj, rfl, hw, hX, hb⟩ := hrel
    have HW := Lib.hid hw
    have HB := Lib.hid hb
    have hz1 : w.heap.size < wr.heap.size := heap_lt hX
    clear hw hb
    obtain ⟨x0, x1, x2, x3, x4, x5, x6, x7, x8, x9, x10, x11, x12, x13⟩ := cells14 hX
    by_cases hlt : j < rows.length
    · obtain ⟨ad, a1, k1, rfl, p0, r1⟩ := (HR.out.R.below (KR_ok n) HB.out).row (j := j) hlt
      have hx : rows[j]? = some rows[j] := List.getElem?_eq_getElem hlt
      generalize rows[j] = y at p0 r1 hx
      have hc := rexprs_any a1 y.length k1 y wr rfl r1
      have HS1 : Hid (chkAll chk y = 0 → chkAll (chkAll chk) (rows.drop j) = chkAll (chkAll chk) (rows.drop (j + 1))) := Lib.hid fun h => chkAll_step hx h
      have HS2 : Hid (chkAll chk y ≠ 0 → chkAll (chkAll chk) (rows.drop j) = chkAll chk y) := Lib.hid fun h => chkAll_stop hx h
      generalize chkAll chk y = C at hc HS1 HS2
      have HC := Lib.hid hc
      clear hx r1 hc
      by_cases h0 : C = 0
      · have HN := Lib.hid (HW.out.trans (HS1.out h0))
        subst h0
        go_wp2_with (go_at_call 45; refine HC.out.mono ?_; rintro e w2 ⟨rfl, hb⟩; have HB2 := Lib.hid (below_call hb HB.out HB.out.size); have HX2 := Lib.hid ((hb.block _ hz1).trans hX); clear hb)
        go_roundw
        case rel => first | exact ⟨j + 1, by omega, by go_num, HN.out, HX2.out, HB2.out⟩ | ((repeat apply Exists.intro); exact ⟨⟨j + 1, by omega, by go_num, HN.out, HX2.out, HB2.out⟩, rfl⟩)
        case measure => simp [intOf]; omega
      · have hx0 : (C != 0) = true := by simp [h0]
        have HN := Lib.hid (HW.out.trans (HS2.out h0))
        have H0 := Lib.hid h0
        clear h0
        go_wp2_with (go_at_call 45; refine HC.out.mono ?_; rintro e w2 ⟨rfl, hb⟩; have HB2 := Lib.hid (below_call hb HB.out HB.out.size); clear hb)
        go_ret
        exact ⟨ret_int (by rw [HF.out, HN.out, if_neg H0.out]), HB2.out⟩
    · have HA := Lib.hid (HW.out.trans (chkAll_end (by omega)))
      clear HW
      go_wp2_with fail
      clear x0 x1 x2 x3 x4 x5 x6 x7 x8 x9 x10 x11 x12 x13 hlt
      go_loopw [6, 7] (fun i _ wr => ∃ j : Nat, j ≤ sets.length ∧ i = .int .i64 j ∧ chkAll (fun s : Sx n => chkX s.x) sets = chkAll (fun s : Sx n => chkX s.x) (sets.drop j) ∧ wr.heap[w.heap.size]? = some (.cells #[.int .i64 kind, .string tb, .slice aC cols.length cC, .string key, .string ix, .slice aR rows.length cR, .slice aS sets.length cS, .slice aI items.length cI, .string jn, .slice aO on.length cO, .slice aW wh.length cW, .slice aG gr.length cG, .slice aD ord.length cD, .int .i64 lim] 31 (0, 0)) ∧ Below w.heap.size w wr) (fun i _ _ => sets.length - (intOf i).toNat)
      case atStart => exact ⟨0, by omega, rfl, rfl, hX, HB.out⟩
      case round =>
        clear hX HB hz1
        obtain ⟨j, hj, rfl, hw, hX, hb⟩ := hrel
        have HW := Lib.hid hw
        have HB := Lib.hid hb
        have hz1 : w.heap.size < wr.heap.size := heap_lt hX
        clear hw hb
        obtain ⟨x0, x1, x2, x3, x4, x5, x6, x7, x8, x9, x10, x11, x12, x13⟩ := cells14 hX
        by_cases hlt : j < sets.length
        · obtain ⟨ad, a1, k1, rfl, ⟨p0, p1, p2, p3, p4, p5, p6, p7⟩, r1⟩ := (HR.out.S.below (KS_ok n) HB.out).set (j := j) hlt
          have hx : sets[j]? = some sets[j] := List.getElem?_eq_getElem hlt
          generalize sets[j] = y at p0 p1 p2 p3 p4 p5 p6 p7 r1 hx
          have hc := rCheckExpr_any y.x a1 k1 wr r1
          have HS1 : Hid (chkX y.x = 0 → chkAll (fun s : Sx n => chkX s.x) (sets.drop j) = chkAll (fun s : Sx n => chkX s.x) (sets.drop (j + 1))) := Lib.hid fun h => chkAll_step (f := fun s : Sx n => chkX s.x) hx h
          have HS2 : Hid (chkX y.x ≠ 0 → chkAll (fun s : Sx n => chkX s.x) (sets.drop j) = chkX y.x) := Lib.hid fun h => chkAll_stop (f := fun s : Sx n => chkX s.x) hx h
          generalize chkX y.x = C at hc HS1 HS2
          obtain ⟨xm, ⟨op, ⟨k, m, s, hv⟩, t, nm, ls⟩⟩ := y
          unfold ExN.val at hc
          dsimp only at p0 p1 p2 p3 p4 p5 p6 p7 hc
          have HC := Lib.hid hc
          clear hx r1 hc
          by_cases h0 : C = 0
          · have HN := Lib.hid (HW.out.trans (HS1.out h0))
            subst h0
            go_wp2_with (go_at_call 46; refine HC.out.mono ?_; rintro e w2 ⟨rfl, hb⟩; have HB2 := Lib.hid (below_call hb HB.out HB.out.size); have HX2 := Lib.hid ((hb.block _ hz1).trans hX); clear hb)
            go_roundw
            case rel => first | exact ⟨j + 1, by omega, by go_num, HN.out, HX2.out, HB2.out⟩ | ((repeat apply Exists.intro); exact ⟨⟨j + 1, by omega, by go_num, HN.out, HX2.out, HB2.out⟩, rfl⟩)
            case measure => simp [intOf]; omega
          · have hx0 : (C != 0) = true := by simp [h0]
            have HN := Lib.hid (HW.out.trans (HS2.out h0))
            have H0 := Lib.hid h0
            clear h0
            go_wp2_with (go_at_call 46; refine HC.out.mono ?_; rintro e w2 ⟨rfl, hb⟩; have HB2 := Lib.hid (below_call hb HB.out HB.out.size); clear hb)
            go_ret
            exact ⟨ret_int (by rw [HF.out, if_pos HA.out, HN.out, if_neg H0.out]), HB2.out⟩
        · have HS := Lib.hid (HW.out.trans (chkAll_end (by omega)))
          clear HW
          go_wp2_with fail
          have hX4 := heap_alloc_new wr (.cells #[.slice aI items.length cI, .slice aO on.length cO, .slice aW wh.length cW, .slice aG gr.length cG] 28)
          have hX := (Below.heap_alloc wr (.cells #[.slice aI items.length cI, .slice aO on.length cO, .slice aW wh.length cW, .slice aG gr.length cG] 28) _ hz1).trans hX
          have hB4 := HB.out.alloc HB.out.size (.cells #[.slice aI items.length cI, .slice aO on.length cO, .slice aW wh.length cW, .slice aG gr.length cG] 28)
          have hz4 : w.heap.size < (wr.alloc (.cells #[.slice aI items.length cI, .slice aO on.length cO, .slice aW wh.length cW, .slice aG gr.length cG] 28)).heap.size := by simp; omega
          have hz5 : wr.heap.size < (wr.alloc (.cells #[.slice aI items.length cI, .slice aO on.length cO, .slice aW wh.length cW, .slice aG gr.length cG] 28)).heap.size := by simp
          have hz6 : w.heap.size ≤ wr.heap.size := HB.out.size
          generalize (wr.alloc (.cells #[.slice aI items.length cI, .slice aO on.length cO, .slice aW wh.length cW, .slice aG gr.length cG] 28)) = V at hX4 hX hB4 hz4 hz5 ⊢
          generalize wr.heap.size = g at hX4 hz5 hz6 ⊢
          clear x0 x1 x2 x3 x4 x5 x6 x7 x8 x9 x10 x11 x12 x13 hlt HB hz1
          obtain ⟨G, hGG⟩ : ∃ G : Addr, G = ⟨g, 0, none⟩ := ⟨_, rfl⟩
          rw [← hGG]
          have HGG := Lib.hid hGG
          clear hGG
          go_loopw [9, 10] (fun i _ wr => ∃ j : Nat, j ≤ 4 ∧ i = .int .i64 j ∧ chkAll (chkAll chk) [items, on, wh, gr] = chkAll (chkAll chk) ([items, on, wh, gr].drop j) ∧ wr.heap[w.heap.size]? = some (.cells #[.int .i64 kind, .string tb, .slice aC cols.length cC, .string key, .string ix, .slice aR rows.length cR, .slice aS sets.length cS, .slice aI items.length cI, .string jn, .slice aO on.length cO, .slice aW wh.length cW, .slice aG gr.length cG, .slice aD ord.length cD, .int .i64 lim] 31 (0, 0)) ∧ wr.heap[g]? = some (.cells #[.slice aI items.length cI, .slice aO on.length cO, .slice aW wh.length cW, .slice aG gr.length cG] 28 (0, 0)) ∧ Below w.heap.size w wr) (fun i _ _ => 4 - (intOf i).toNat)
          case atStart => exact ⟨0, by omega, rfl, rfl, hX, hX4, hB4⟩
          case round =>
            clear hX hX4 hB4 hz4 hz5
            obtain ⟨j, hj, rfl, hw, hX, hG, hb⟩ := hrel
            have HW := Lib.hid hw
            have HB := Lib.hid hb
            have HG := Lib.hid hG
            have hz1 : w.heap.size < wr.heap.size := heap_lt hX
            have hz2 : g < wr.heap.size := heap_lt hG
            clear hw hb hG
            obtain ⟨x0, x1, x2, x3, x4, x5, x6, x7, x8, x9, x10, x11, x12, x13⟩ := cells14 hX
            by_cases hlt : j < 4
            · obtain ⟨ad, a1, k1, ee, p0, r1⟩ := (four_rows (HR.out.below HB.out) HG.out).row (j := j) (by simpa using hlt)
              injection ee with ee
              obtain rfl : G = ad := HGG.out.trans ee
              have hx : [items, on, wh, gr][j]? = some [items, on, wh, gr][j] := List.getElem?_eq_getElem (by simpa using hlt)
              dsimp only at p0 r1
              generalize [items, on, wh, gr][j] = y at p0 r1 hx
              have hc := rexprs_any a1 y.length k1 y wr rfl r1
              have HS1 : Hid (chkAll chk y = 0 → chkAll (chkAll chk) ([items, on, wh, gr].drop j) = chkAll (chkAll chk) ([items, on, wh, gr].drop (j + 1))) := Lib.hid fun h => chkAll_step hx h
              have HS2 : Hid (chkAll chk y ≠ 0 → chkAll (chkAll chk) ([items, on, wh, gr].drop j) = chkAll chk y) := Lib.hid fun h => chkAll_stop hx h
              generalize chkAll chk y = C at hc HS1 HS2
              have HC := Lib.hid hc
              clear hx r1 hc ee
              have hq := cell_lt p0
              have hq2 := hq
              rw [add_block] at hq2
              by_cases h0 : C = 0
              · have HN := Lib.hid (HW.out.trans (HS1.out h0))
                subst h0
                go_wp2_with (go_at_call 45; refine HC.out.mono ?_; rintro e w2 ⟨rfl, hb⟩; have HB2 := Lib.hid (below_call hb HB.out HB.out.size); have HX2 := Lib.hid ((hb.block _ hz1).trans hX); have HG2 := Lib.hid ((hb.block _ hz2).trans HG.out); clear hb)
                go_roundw
                case rel => first | exact ⟨j + 1, by omega, by go_num, HN.out, HX2.out, HG2.out, HB2.out⟩ | ((repeat apply Exists.intro); exact ⟨⟨j + 1, by omega, by go_num, HN.out, HX2.out, HG2.out, HB2.out⟩, rfl⟩)
                case measure => simp [intOf]; omega
              · have hx0 : (C != 0) = true := by simp [h0]
                have HN := Lib.hid (HW.out.trans (HS2.out h0))
                have H0 := Lib.hid h0
                clear h0
                go_wp2_with (go_at_call 45; refine HC.out.mono ?_; rintro e w2 ⟨rfl, hb⟩; have HB2 := Lib.hid (below_call hb HB.out HB.out.size); clear hb)
                go_ret
                exact ⟨ret_int (by rw [HF.out, if_pos HA.out, if_pos HS.out, HN.out, if_neg H0.out]), HB2.out⟩
            · have H4 := Lib.hid (HW.out.trans (chkAll_end (by simp; omega)))
              clear HW HG
              have HRR : Hid (RR = if grBad (⟨kind, tb, cols, key, ix, rows, sets, items, jn, on, wh, gr, ord, lim⟩ : St n) = true then 9 else 0) := Lib.hid (by rw [HF.out, if_pos HA.out, if_pos HS.out, if_pos H4.out])
              clear HF HA HS H4
              rcases Nat.eq_zero_or_pos gr.length with hg | hg
              · have e1 : decide ((0 : Int) < (gr.length : Int)) = false := by rw [hg]; rfl
                have e2 : decide (0 < gr.length) = false := by rw [hg]; rfl
                have HG0 := Lib.hid (grBad_no (x := (⟨kind, tb, cols, key, ix, rows, sets, items, jn, on, wh, gr, ord, lim⟩ : St n)) hg)
                clear hg
                go_wp2_with fail
                go_ret
                exact ⟨ret_int (by rw [HRR.out, HG0.out]; rfl), HB.out⟩
              · have e1 : decide ((0 : Int) < (gr.length : Int)) = true := by simp; omega
                have e2 : decide (0 < gr.length) = true := by simp; omega
                have HG0 := Lib.hid (grBad_at (x := (⟨kind, tb, cols, key, ix, rows, sets, items, jn, on, wh, gr, ord, lim⟩ : St n)) hg)
                obtain ⟨ad, a1, k1, rfl, ⟨p0, p1, p2, p3, p4, p5, p6⟩, r1⟩ := (HR.out.G.below (KE_ok n) HB.out).at_ (j := 0) hg
                rw [zero_add7] at p0
                dsimp only at p0 HG0
                generalize gr[0] = y at p0 HG0
                clear p1 p2 p3 p4 p5 p6 r1
                generalize y.e.op = op at p0 HG0
                have hq := cell_lt p0
                by_cases h1 : op = 1
                · have e3 : (op != 1) = false := by simp [h1]
                  have HG1 := Lib.hid (HG0.out.trans (show decide (op ≠ 1) = false by simp [h1]))
                  clear h1 HG0
                  go_wp2_with fail
                  go_ret
                  exact ⟨ret_int (by rw [HRR.out, HG1.out]; rfl), HB.out⟩
                · have e3 : (op != 1) = true := by simp [h1]
                  have HG1 := Lib.hid (HG0.out.trans (show decide (op ≠ 1) = true by simp [h1]))
                  clear h1 HG0
                  go_wp2_with fail
                  go_ret
                  exact ⟨ret_int (by rw [HRR.out, HG1.out]; rfl), HB.out⟩
theorem rCheck_any {n : Nat} (x : St n) (h : Hs) (w : World) (hr : RdSt Any w x h) : Calls Tryz.prog 24 #[x.val h] w fun e w' => e = .returned (.int .i64 (chkSt x)) ∧ Below w.heap.size w w' := by
  by_cases hk : x.kind < 1 ∨ 10 < x.kind
  · exact rCheck_kind x h w hk
  · exact rCheck_in x h w (by omega) (by omega) hr

end Go.Proofs.YtipcacplphidhaaGreat.Sy
