/- The reference's Add over any state, any lock: the walk. Conditions: a state that is read in memory. -/
import Derived.Test.YtmjcmeebcochgaaXc
namespace Go.Proofs.Ytmjcmeebcochgaa
open Go.RowKit Go.Sort Go.Maps
set_option linter.unusedSimpArgs false
set_option linter.unusedVariables false

theorem Frm.newR (w : World) (A : Option Addr) (n c : Nat) (x : Lk) : Frm w (((w.alloc (.cells #[.slice A n c] 24)).alloc (.cells #[.int .i64 x.t, .string x.lo.s, .string x.hi.s] 26)).alloc (.cells #[.slice none 0 0] 24)) w.heap.size (w.heap.size + 1) (w.heap.size + 2) A n c x := by
  have b1 := below1 w (.cells #[.slice A n c] 24)
  have b2 := below1 (w.alloc (.cells #[.slice A n c] 24)) (.cells #[.int .i64 x.t, .string x.lo.s, .string x.hi.s] 26)
  have b3 := below1 ((w.alloc (.cells #[.slice A n c] 24)).alloc (.cells #[.int .i64 x.t, .string x.lo.s, .string x.hi.s] 26)) (.cells #[.slice none 0 0] 24)
  have e1 : (w.alloc (.cells #[.slice A n c] 24)).heap.size = w.heap.size + 1 := by simp
  have e2 : ((w.alloc (.cells #[.slice A n c] 24)).alloc (.cells #[.int .i64 x.t, .string x.lo.s, .string x.hi.s] 26)).heap.size = w.heap.size + 2 := by simp
  refine ⟨cell_keep (cell_keep (cell_last w _ _ _ 0 rfl) b2) b3, ?_, cell_last _ _ _ _ 0 e2.symm, World.frozen?_alloc_at _ _ _ 0 e2.symm, thn (thn b1 b2) b3, by omega⟩
  exact Cell3.below (w := (w.alloc (.cells #[.slice A n c] 24)).alloc (.cells #[.int .i64 x.t, .string x.lo.s, .string x.hi.s] 26)) ⟨cell_last _ _ _ _ 0 e1.symm, cell_last _ _ _ _ 1 e1.symm, cell_last _ _ _ _ 2 e1.symm⟩ b3
theorem Frm.xs {w W : World} {gs gx gr : Nat} {A : Option Addr} {n c : Nat} {x : Lk} (h : Frm w W gs gx gr A n c x) : W.cell? ⟨gx, 0, none⟩ = some (.int .i64 x.t) ∧ W.cell? ⟨gx, 1, none⟩ = some (.string x.lo.s) ∧ W.cell? ⟨gx, 2, none⟩ = some (.string x.hi.s) := ⟨h.x.1, by simpa using h.x.2.1, by simpa using h.x.2.2⟩
theorem Frm.set {w W : World} {gs gx gr : Nat} {A : Option Addr} {n c : Nat} {x : Lk} (h : Frm w W gs gx gr A n c x) {g : Nat} (h1 : gs ≠ g) (h2 : gx ≠ g) (h3 : gr ≠ g) (h4 : w.heap.size ≤ g) (o : Nat) (u : Value) : Frm w (W.setCell ⟨g, o, none⟩ u) gs gx gr A n c x :=
  ⟨(World.cell?_setCell_other W ⟨g, o, none⟩ _ u (by simp <;> omega)).trans h.s, ⟨(World.cell?_setCell_other W ⟨g, o, none⟩ _ u (by simp <;> omega)).trans h.x.1, (World.cell?_setCell_other W ⟨g, o, none⟩ _ u (by simp <;> omega)).trans h.x.2.1, (World.cell?_setCell_other W ⟨g, o, none⟩ _ u (by simp <;> omega)).trans h.x.2.2⟩, (World.cell?_setCell_other W ⟨g, o, none⟩ _ u (by simp <;> omega)).trans h.r, by rw [World.frozen?_setCell]; exact h.f, h.b.setCell (p := ⟨g, o, none⟩) h4 u, h.g⟩
/-- An answer that is a state of a list. -/
theorem Frm.list_ {w W : World} {gs gx gr : Nat} {A A' : Option Addr} {n c n' c' : Nat} {x : Lk} {l : List Lk} (h : Frm w W gs gx gr A n c x) (hr : Rd W A' n' c' l) : PairS l 0 w (.returned (.tuple #[.agg #[.slice A' n' c'], .int .i64 0])) (W.setCell ⟨gr, 0, none⟩ (.slice A' n' c')) :=
  ⟨_, _, _, rfl, hr.slot h.r _, h.b.setCell (p := ⟨gr, 0, none⟩) h.g _⟩
theorem Frm.upto {w W W' : World} {B gs gx gr : Nat} {A : Option Addr} {n c : Nat} {x : Lk} (h : Frm w W gs gx gr A n c x) (hb : Below B W W') (h1 : gs < B) (h2 : gx < B) (h3 : gr < B) (h4 : w.heap.size ≤ B) : Frm w W' gs gx gr A n c x :=
  ⟨(hb.cell (p := ⟨gs, 0, none⟩) h1).trans h.s, ⟨(hb.cell (p := ⟨gx, 0, none⟩) h2).trans h.x.1, (hb.cell (p := ⟨gx, 0 + 1, none⟩) h2).trans h.x.2.1, (hb.cell (p := ⟨gx, 0 + 2, none⟩) h2).trans h.x.2.2⟩, (hb.cell (p := ⟨gr, 0, none⟩) h3).trans h.r, (hb.frozen (p := ⟨gr, 0, none⟩) h3).trans h.f, h.b.trans (hb.mono h4), h.g⟩
theorem Box.upto {W W' : World} {B g : Nat} {x : Lk} (h : Box W g x) (hb : Below B W W') (h1 : g < B) : Box W' g x :=
  ⟨⟨(hb.cell (p := ⟨g, 0, none⟩) h1).trans h.cells.1, (hb.cell (p := ⟨g, 0 + 1, none⟩) h1).trans h.cells.2.1, (hb.cell (p := ⟨g, 0 + 2, none⟩) h1).trans h.cells.2.2⟩, fun o => (hb.frozen (p := ⟨g, o, none⟩) h1).trans (h.free o)⟩
theorem Box.first {w : World} {g : Nat} {x : Lk} (h : Box w g x) (t : Int) : Box (w.setCell ⟨g, 0, none⟩ (.int .i64 t)) g ⟨t, x.lo, x.hi⟩ :=
  ⟨⟨World.cell?_setCell_same w ⟨g, 0, none⟩ _ h.cells.1, (World.cell?_setCell_other w ⟨g, 0, none⟩ ⟨g, 0 + 1, none⟩ _ (by simp)).trans h.cells.2.1, (World.cell?_setCell_other w ⟨g, 0, none⟩ ⟨g, 0 + 2, none⟩ _ (by simp)).trans h.cells.2.2⟩, fun o => by rw [World.frozen?_setCell]; exact h.free o⟩
theorem Box.all {w : World} {g : Nat} {x : Lk} (h : Box w g x) (y : Lk) : Box (((w.setCell ⟨g, 0, none⟩ (.int .i64 y.t)).setCell ⟨g, 1, none⟩ (.string y.lo.s)).setCell ⟨g, 2, none⟩ (.string y.hi.s)) g y := ((h.first y.t).lo y.lo).hi y.hi
theorem Box.newR (w : World) (x : Lk) : Box (w.alloc (.cells #[.int .i64 x.t, .string x.lo.s, .string x.hi.s] 26)) w.heap.size x :=
  ⟨⟨cell_last w _ _ _ 0 rfl, cell_last w _ _ _ 1 rfl, cell_last w _ _ _ 2 rfl⟩, fun o => World.frozen?_alloc_at (w := w) #[.int .i64 x.t, .string x.lo.s, .string x.hi.s] _ w.heap.size o rfl⟩
theorem own_setR {w : World} {B : Nat} {e : TypeId} {k : Nat} {v : Value} {n : Nat} {xs : List Value} (h : w.ownsRow B e k v n xs) {g : Nat} (hg : g < B) (o : Nat) (u : Value) : (w.setCell ⟨g, o, none⟩ u).ownsRow B e k v n xs :=
  h.kept (grown_setCell w g o u) (.inr fun e => by have := (h.lt g e).1; omega)
theorem wit_eq (x v : Lk) : witB x v = ((v.t == x.t) && (Op.bytesLess v.lo.s.toList x.lo.s.toList || v.lo.s.toList == x.lo.s.toList) && decide (ordE x.hi v.hi ≤ 0)) := by rw [leq_dec]; rfl
theorem hull_filter {x : Lk} {l : List Lk} {p : Lk → Bool} {j : Nat} (hj : j < l.length) : hull x ((l.take (j + 1)).filter p) = if p l[j] = true then wid (hull x ((l.take j).filter p)) l[j] else hull x ((l.take j).filter p) := by
  rw [filter_step hj]
  split
  · unfold hull
    rw [List.foldl_append]
    rfl
  · rfl
set_option maxRecDepth 100000 in
set_option maxHeartbeats 8000000 in
theorem rAdd_bad (A : Option Addr) (n c : Nat) (l : List Lk) (x : Lk) (w : World) (hr : Rd w A n c l) (h : ¬ Ok l) :
    Calls Try.prog 11 #[.agg #[.slice A n c], .agg #[.int .i64 x.t, .string x.lo.s, .string x.hi.s]] w (PairS [] 9 w) := by
  have HF0 := Lib.hid (Frm.newR w A n c x)
  have HC := Lib.hid fun W (hb : Below w.heap.size w W) => rCheck_any A n c l W (hr.below hb)
  rw [chk_bad h] at HC
  clear hr h
  go_enter Try.func11, Try.ntmps11
  go_upto_region 1 with fail
  generalize ((w.alloc (.cells #[.slice A n c] 24)).alloc (.cells #[.int .i64 x.t, .string x.lo.s, .string x.hi.s] 26)).alloc (.cells #[.slice none 0 0] 24) = W0 at *
  generalize w.heap.size + 2 = gr at *
  generalize w.heap.size + 1 = gx at *
  have hs := HF0.out.s
  go_upto_region 2 with (go_at_call 23; (with_reducible refine (HC.out _ HF0.out.b).mono ?_); rintro e w1 ⟨rfl, hb⟩; have HF1 := Lib.hid (HF0.out.below hb); clear hb)
  have hr1 := HF1.out.r
  have hf1 := HF1.out.f
  have r0 := set_same (.slice none 0 0) hr1
  go_wp2
  exact bodyPost_ret (v := .tuple #[.agg #[.slice none 0 0], .int .i64 9]) (by simp [results, Try.results11, go_sem, r0]) rfl HF1.out.none_
set_option maxRecDepth 100000 in
set_option maxHeartbeats 8000000 in
theorem rAdd_arg (A : Option Addr) (n c : Nat) (l : List Lk) (x : Lk) (w : World) (hr : Rd w A n c l) (h : Ok l) (hx : mayL x = false) :
    Calls Try.prog 11 #[.agg #[.slice A n c], .agg #[.int .i64 x.t, .string x.lo.s, .string x.hi.s]] w (PairS [] 1 w) := by
  have HF0 := Lib.hid (Frm.newR w A n c x)
  have HC := Lib.hid fun W (hb : Below w.heap.size w W) => rCheck_any A n c l W (hr.below hb)
  rw [chk_good h] at HC
  have HM := Lib.hid fun W => rmay_any x W
  rw [hx] at HM
  clear hr h hx
  go_enter Try.func11, Try.ntmps11
  go_upto_region 1 with fail
  generalize ((w.alloc (.cells #[.slice A n c] 24)).alloc (.cells #[.int .i64 x.t, .string x.lo.s, .string x.hi.s] 26)).alloc (.cells #[.slice none 0 0] 24) = W0 at *
  generalize w.heap.size + 2 = gr at *
  generalize w.heap.size + 1 = gx at *
  have hs := HF0.out.s
  go_upto_region 3 with (go_at_call 23; (with_reducible refine (HC.out _ HF0.out.b).mono ?_); rintro e w1 ⟨rfl, hb⟩; have HF1 := Lib.hid (HF0.out.below hb); clear hb)
  clear hs HF0 HC
  obtain ⟨hx0, hx1, hx2⟩ := HF1.out.xs
  go_upto_region 4 with (go_at_call 32; (with_reducible refine (HM.out _).mono ?_); rintro e w2 ⟨rfl, hb⟩; have HF2 := Lib.hid (HF1.out.below hb); clear hb)
  have hr1 := HF2.out.r
  have hf1 := HF2.out.f
  have r0 := set_same (.slice none 0 0) hr1
  go_wp2
  exact bodyPost_ret (v := .tuple #[.agg #[.slice none 0 0], .int .i64 1]) (by simp [results, Try.results11, go_sem, r0]) rfl HF2.out.none_
set_option maxRecDepth 100000 in
set_option maxHeartbeats 16000000 in
theorem rAdd_good (A : Option Addr) (n c : Nat) (l : List Lk) (x : Lk) (w : World) (hr : Rd w A n c l) (h : Ok l) (hx : mayL x = true) :
    Calls Try.prog 11 #[.agg #[.slice A n c], .agg #[.int .i64 x.t, .string x.lo.s, .string x.hi.s]] w (PairS (addR l x).1 (addR l x).2 w) := by
  obtain ⟨i0, hi, hz0, hz1, hz2⟩ := info_parts Try.infoR
  have hl := hr.len
  have hcap := hr.cap
  subst hl
  have HF0 := Lib.hid (Frm.newR w A l.length c x)
  have HR := Lib.hid hr
  have HC := Lib.hid fun W (hb : Below w.heap.size w W) => rCheck_any A l.length c l W (hr.below hb)
  rw [chk_good h] at HC
  have HM := Lib.hid fun W => rmay_any x W
  rw [hx] at HM
  have HOW := Lib.hid fun W (hb : Below w.heap.size w W) => rOwn_any A l.length c l W (hr.below hb) (by have := h.1; omega)
  have hyes : l.any (witB x) = true → addR l x = (l, 0) := fun hw => by unfold addR; simp only [h, hx, hw, if_true]
  have hno : l.any (witB x) = false → addR l x = if 512 < (asOne l x (touB x)).length then ([], 51) else (asOne l x (touB x), 0) := fun hw => by
    unfold addR
    have hw' : ¬ l.any (witB x) = true := by rw [hw]; simp
    rw [if_pos h, if_pos hx, if_neg hw']
  have hln := h.1
  have HYES := Lib.hid hyes
  have HNO := Lib.hid hno
  generalize addR l x = R at *
  clear hr h hx hyes hno
  go_enter Try.func11, Try.ntmps11
  go_upto_region 1 with fail
  generalize ((w.alloc (.cells #[.slice A l.length c] 24)).alloc (.cells #[.int .i64 x.t, .string x.lo.s, .string x.hi.s] 26)).alloc (.cells #[.slice none 0 0] 24) = W0 at *
  generalize w.heap.size + 2 = gr at *
  generalize w.heap.size + 1 = gx at *
  have hs := HF0.out.s
  go_upto_region 3 with (go_at_call 23; (with_reducible refine (HC.out _ HF0.out.b).mono ?_); rintro e w1 ⟨rfl, hb⟩; have HF1 := Lib.hid (HF0.out.below hb); clear hb)
  clear hs HF0 HC
  obtain ⟨hx0, hx1, hx2⟩ := HF1.out.xs
  go_upto_region 5 with (go_at_call 32; (with_reducible refine (HM.out _).mono ?_); rintro e w2 ⟨rfl, hb⟩; have HF2 := Lib.hid (HF1.out.below hb); clear hb)
  clear hx0 hx1 hx2 HF1 HM
  go_wp2
  go_loopw [6, 7] (fun i _ wr => ∃ j : Nat, i = .int .i64 j ∧ j ≤ l.length ∧ (∀ k (h : k < l.length), k < j → witB x l[k] = false) ∧ Frm w wr w.heap.size gx gr A l.length c x) (fun i _ _ => l.length - (intOf i).toNat)
  case atStart => exact ⟨0, rfl, by omega, fun k h h0 => by omega, HF2.out⟩
  case round =>
    obtain ⟨j, rfl, hj, hnw, hF⟩ := hrel
    have HNW := Lib.hid hnw
    have HF := Lib.hid hF
    clear hnw hF HF2
    have hs := HF.out.s
    have hgs : w.heap.size < wr.heap.size := cell_lt hs
    have hgx : gx < wr.heap.size := cell_lt HF.out.x.1
    by_cases hlt : j < l.length
    · obtain ⟨ad, rfl, k0, k1, k2⟩ := (HR.out.below HF.out.b).at_ hlt
      have hq0 := cell_lt k0
      rw [add_block] at hq0
      have HU := Lib.hid fun W => upto_any x.hi l[j].hi W
      have HWE := Lib.hid (wit_eq x l[j])
      have hyes : witB x l[j] = true → l.any (witB x) = true := fun hw => List.any_eq_true.2 ⟨_, List.getElem_mem hlt, hw⟩
      have HY := Lib.hid hyes
      have hup : witB x l[j] = false → ∀ k (h : k < l.length), k < j + 1 → witB x l[k] = false := fun hw k h h1 => by
        rcases Nat.lt_or_ge k j with h2 | h2
        · exact HNW.out k h h2
        · have e : k = j := by omega
          subst e
          exact hw
      have HUP := Lib.hid hup
      have HLT := Lib.hid hlt
      clear hyes hup
      generalize l[j] = v at *
      have hjl : (j : Int) < (l.length : Int) := by omega
      have HF3 := Lib.hid (HF.out.below (below1 wr (.cells #[.int .i64 v.t, .string v.lo.s, .string v.hi.s] 26)))
      have HV3 := Lib.hid (Box.newR wr v)
      go_upto_region 9 with fail
      clear k0 k1 k2 hs
      generalize wr.alloc (.cells #[.int .i64 v.t, .string v.lo.s, .string v.hi.s] 26) = W3 at *
      generalize wr.heap.size = gv at *
      obtain ⟨x0, x1, x2⟩ := HF3.out.xs
      obtain ⟨v0, v1, v2⟩ := HV3.out.three
      generalize decide (ordE x.hi v.hi ≤ 0) = U at *
      generalize hT : (v.t == x.t) = T at *
      generalize hL : (Op.bytesLess v.lo.s.toList x.lo.s.toList || v.lo.s.toList == x.lo.s.toList) = L at *
      cases T
      · go_wp2_with fail
        go_roundw
        case rel => exact ⟨j + 1, by go_num, HLT.out, HUP.out (by rw [HWE.out]; simp), HF3.out⟩
        case measure => simp [intOf]; omega
      · cases L
        · go_wp2_with fail
          go_roundw
          case rel => exact ⟨j + 1, by go_num, HLT.out, HUP.out (by rw [HWE.out]; simp), HF3.out⟩
          case measure => simp [intOf]; omega
        · cases U
          · go_wp2_with (go_at_call 33; (with_reducible refine (HU.out _).mono ?_); rintro e w4 ⟨rfl, rfl⟩)
            go_roundw
            case rel => exact ⟨j + 1, by go_num, HLT.out, HUP.out (by rw [HWE.out]; simp), HF3.out⟩
            case measure => simp [intOf]; omega
          · have HEQ := Lib.hid (HYES.out (HY.out (by rw [HWE.out]; simp)))
            have hs3 := HF3.out.s
            go_wp2_with (first | (go_at_call 33; (with_reducible refine (HU.out _).mono ?_); rintro e w4 ⟨rfl, rfl⟩) | (go_at_call 34; (with_reducible refine (HOW.out _ HF3.out.b).mono ?_); rintro e w5 ⟨A5, n5, c5, rfl, hr5, hb⟩; have HF5 := Lib.hid (HF3.out.below hb); have HR5 := Lib.hid hr5; have hr6 := HF5.out.r; have hf6 := HF5.out.f; have r0 := set_same (.slice A5 n5 c5) hr6; clear hb hr5))
            exact bodyPost_ret (v := .tuple #[.agg #[.slice A5 n5 c5], .int .i64 0]) (by simp [results, Try.results11, go_sem, r0]) rfl (by rw [HEQ.out]; exact HF5.out.list_ HR5.out)
    · obtain rfl : j = l.length := by omega
      have hany : l.any (witB x) = false := by
        rw [List.any_eq_false]
        intro v hv
        obtain ⟨k, hk, rfl⟩ := List.getElem_of_mem hv
        rw [HNW.out k hk hk]
        simp
      have HEQ := Lib.hid (HNO.out hany)
      have HAL : Hid (asOne l x (touB x) = ins (l.filter fun a => !touB x a) (hull x (l.filter (touB x)))) := Lib.hid rfl
      clear hany
      obtain ⟨hx0, hx1, hx2⟩ := HF.out.xs
      go_upto_region 12 with fail
      have HF3 := Lib.hid (HF.out.below (below1 wr (.cells #[.int .i64 x.t, .string x.lo.s, .string x.hi.s] 26)))
      have HV3 := Lib.hid (Box.newR wr x)
      have hgr : gr < wr.heap.size := cell_lt HF.out.r
      have HLE := Lib.hid HF.out.b.size
      have hbz : (wr.alloc (.cells #[.int .i64 x.t, .string x.lo.s, .string x.hi.s] 26)).heap.size = wr.heap.size + 1 := by simp
      go_upto_region 13 with fail
      clear hx0 hx1 hx2 hs HF
      generalize wr.alloc (.cells #[.int .i64 x.t, .string x.lo.s, .string x.hi.s] 26) = W3 at *
      generalize hg9 : wr.heap.size = g9 at *
      have HNE := Lib.hid (show w.heap.size < g9 ∧ gx < g9 ∧ gr < g9 by omega)
      have HBZ := Lib.hid hbz
      clear hgs hgx hgr hg9 hbz
      go_wp2
      go_loopw [8, 10] (fun v i wx => ∃ j : Nat, i = .int .i64 j ∧ j ≤ l.length ∧ Frm w wx w.heap.size gx gr A l.length c x ∧ wx.ownsRow (g9 + 1) 26 3 v ((l.take j).filter fun a => !touB x a).length (lks ((l.take j).filter fun a => !touB x a)) ∧ Box wx g9 (hull x ((l.take j).filter (touB x))) ∧ g9 + 1 ≤ wx.heap.size) (fun _ i _ => l.length - (intOf i).toNat)
      case atStart => exact ⟨0, rfl, by omega, HF3.out, World.ownsRow_nil _ _ _ _, HV3.out, by have := HBZ.out; omega⟩
      case round =>
        obtain ⟨j, rfl, hj, hF, hO, hX, hZ⟩ := hrel
        have HF := Lib.hid hF
        have HO := Lib.hid hO
        have HX := Lib.hid hX
        have HZ := Lib.hid hZ
        clear hF hO hX hZ HF3 HV3 HNW
        have hs := HF.out.s
        have hgs : w.heap.size < wr.heap.size := cell_lt hs
        by_cases hlt : j < l.length
        · obtain ⟨ad, rfl, k0, k1, k2⟩ := (HR.out.below HF.out.b).at_ hlt
          have hq0 := cell_lt k0
          rw [add_block] at hq0
          have HT := Lib.hid fun W => rtou_any x l[j] W
          have HF1 := Lib.hid (hull_filter (x := x) (p := touB x) hlt)
          have HF2 := Lib.hid (filter_step (p := fun a => !touB x a) hlt)
          have hm2 := Nat.le_trans (flt_len (fun a => !touB x a) l j) hln
          have HLT := Lib.hid hlt
          generalize hull x ((l.take j).filter (touB x)) = H at *
          generalize (l.take j).filter (fun a => !touB x a) = F2 at *
          generalize l[j] = v at *
          have HM2 := Lib.hid hm2
          clear hm2
          have hjl : (j : Int) < (l.length : Int) := by omega
          obtain ⟨x0, x1, x2⟩ := HF.out.xs
          have HK := Lib.hid (And.intro k0 (And.intro k1 k2))
          go_upto_region 16 with fail
          have q0 := cell_regrown k0
          have q1 := cell_regrown k1
          have q2 := cell_regrown k2
          have r0 := cell_regrown x0
          have r1 := cell_regrown x1
          have r2 := cell_regrown x2
          have t0 := cell_regrown hs
          clear k0 k1 k2 x0 x1 x2 hs
          cases hp : touB x v
          all_goals
            have HT2 := Lib.hid HT.out
            rw [hp] at HT2
            refine wp_region_quiet_below (by kernel_rfl) (by kernel_rfl) ?_
            repeat (go_big_quiet_step (with_reducible exact Calls.regrown_of (HT2.out _)))
            refine wpQuiet_nil ?_
            intro w5 hw5
            obtain ⟨pp, rfl⟩ := hw5
            have hbr := below_regrown wr pp.d pp.os
            have HF5 := Lib.hid (HF.out.below hbr)
            have HO5 := Lib.hid (own_below HO.out hbr)
            have HX5 := Lib.hid (HX.out.below hbr)
            have HZ5 := Lib.hid (Nat.le_trans HZ.out hbr.size)
            have HK5 := Lib.hid (And.intro (q0 pp.d pp.os) (And.intro (q1 pp.d pp.os) (q2 pp.d pp.os)))
            clear q0 q1 q2 r0 r1 r2 t0 hbr HT
            generalize grow (redrawn wr pp.d) pp.os = W5 at *
            have hs := HF5.out.s
            have hgs5 : w.heap.size < W5.heap.size := cell_lt hs
            obtain ⟨k0, k1, k2⟩ := HK5.out
            have hq5 := cell_lt k0
            rw [add_block] at hq5
          · have HS1 : Hid (hull x ((l.take (j + 1)).filter (touB x)) = H) := Lib.hid (by have := HF1.out; rw [hp] at this; simpa using this)
            have HS2 : Hid (((l.take (j + 1)).filter fun a => !touB x a) = F2 ++ [v]) := Lib.hid (by have := HF2.out; rw [hp] at this; simpa using this)
            have HF6 := Lib.hid (HF5.out.below (below1 W5 (.cells #[.int .i64 v.t, .string v.lo.s, .string v.hi.s] 26)))
            have HO6 := Lib.hid (own_below HO5.out (below1 W5 (.cells #[.int .i64 v.t, .string v.lo.s, .string v.hi.s] 26)))
            have HX6 := Lib.hid (HX5.out.below (below1 W5 (.cells #[.int .i64 v.t, .string v.lo.s, .string v.hi.s] 26)))
            have HZ6 := Lib.hid (show g9 + 1 ≤ (W5.alloc (.cells #[.int .i64 v.t, .string v.lo.s, .string v.hi.s] 26)).heap.size by have := HZ5.out; simp; omega)
            have HNW2 : Hid (∀ j u, (lks [v])[j]? = some u → (W5.alloc (.cells #[.int .i64 v.t, .string v.lo.s, .string v.hi.s] 26)).cell? ((⟨W5.heap.size, 0, none⟩ : Addr).add j) = some u) := Lib.hid (fun j u hu => by
              rw [add_lit, Nat.zero_add, cell_last _ _ _ _ _ rfl, ← hu]
              simp [lks, lkC])
            clear hp
            go_wp2_with (at_builtin; refine wpList_append_own_at _ rfl _ _ 22 rfl (g9 + 1) 26 i0 (.agg #[.int .i64 0, .string ⟨#[]⟩, .string ⟨#[]⟩]) 3 40 Try.underlying22 hi hz0 hz1 hz2 rfl (by decide) _ F2.length _ rfl HO6.out ⟨W5.heap.size, 0, none⟩ 1 1 (lks [v]) rfl rfl HNW2.out (lks_one _) (by have := HM2.out; unfold maxLen; omega) (by have := HM2.out; omega) HZ6.out ?_; intro v3 w3 hown3 hg3 _ _; have hb7 : Below (g9 + 1) (W5.alloc (.cells #[.int .i64 v.t, .string v.lo.s, .string v.hi.s] 26)) w3 := (Below.refl _ _).grown hg3 HZ6.out (fun k hk => (HO6.out.lt k hk).1); have HB7 := Lib.hid hb7; have HO7 := Lib.hid hown3; clear hown3 hg3 hb7)
            go_roundw
            case rel => exact ⟨j + 1, by go_num, HLT.out, HF6.out.upto HB7.out (by have := HNE.out.1; omega) (by have := HNE.out.2.1; omega) (by have := HNE.out.2.2; omega) (by have := HNE.out.1; omega), by rw [HS2.out, lks_app]; simpa using HO7.out, by rw [HS1.out]; exact HX6.out.upto HB7.out (by omega), Nat.le_trans HZ6.out HB7.out.size⟩
            case measure => simp [intOf]; omega
          · have HS1 : Hid (hull x ((l.take (j + 1)).filter (touB x)) = wid H v) := Lib.hid (by have := HF1.out; rw [hp] at this; simpa using this)
            have HS2 : Hid (((l.take (j + 1)).filter fun a => !touB x a) = F2) := Lib.hid (by have := HF2.out; rw [hp] at this; simpa using this)
            have HON := Lib.hid fun W => one_any H v W
            clear hp
            obtain ⟨y0, y1, y2⟩ := HX5.out.three
            go_upto_region 17 with fail
            go_still_tail 6, (by kernel_rfl)
            change wpList _ _ _ _ _ W5.drew
            have hbd := (Below.refl W5.heap.size W5).drew
            have HF6 := Lib.hid (HF5.out.below hbd)
            have HO6 := Lib.hid (own_below HO5.out hbd)
            have HX6 := Lib.hid (HX5.out.below hbd)
            have HZ6 := Lib.hid (Nat.le_trans HZ5.out hbd.size)
            clear hbd y0 y1 y2 k0 k1 k2 hs
            generalize W5.drew = W6 at *
            go_wp2_with (go_at_call 36; (with_reducible refine (HON.out _).mono ?_); rintro e w7 ⟨rfl, hb⟩; have HF7 := Lib.hid (HF6.out.below hb); have HO7 := Lib.hid (own_below HO6.out hb); have HX7 := Lib.hid (HX6.out.below hb); have HZ7 := Lib.hid (Nat.le_trans HZ6.out hb.size); obtain ⟨z0, z1, z2⟩ := HX7.out.three; have f0 := HX7.out.free 0; have f1 := HX7.out.free 1; have f2 := HX7.out.free 2; clear hb)
            have HN1 := Lib.hid (show w.heap.size ≠ g9 ∧ gx ≠ g9 ∧ gr ≠ g9 ∧ w.heap.size ≤ g9 by have := HNE.out; omega)
            have HFE := Lib.hid (((HF7.out.set HN1.out.1 HN1.out.2.1 HN1.out.2.2.1 HN1.out.2.2.2 0 (.int .i64 (wid H v).t)).set HN1.out.1 HN1.out.2.1 HN1.out.2.2.1 HN1.out.2.2.2 1 (.string (wid H v).lo.s)).set HN1.out.1 HN1.out.2.1 HN1.out.2.2.1 HN1.out.2.2.2 2 (.string (wid H v).hi.s))
            have HOE := Lib.hid (own_setR (own_setR (own_setR HO7.out (g := g9) (by omega) 0 (.int .i64 (wid H v).t)) (g := g9) (by omega) 1 (.string (wid H v).lo.s)) (g := g9) (by omega) 2 (.string (wid H v).hi.s))
            have HXE := Lib.hid (HX7.out.all (wid H v))
            have HZE := Lib.hid (show g9 + 1 ≤ (((w7.setCell ⟨g9, 0, none⟩ (.int .i64 (wid H v).t)).setCell ⟨g9, 1, none⟩ (.string (wid H v).lo.s)).setCell ⟨g9, 2, none⟩ (.string (wid H v).hi.s)).heap.size by have := HZ7.out; simpa using this)
            clear z0 z1 z2 f0 f1 f2
            go_roundw
            case rel => exact ⟨j + 1, by go_num, HLT.out, HFE.out, by rw [HS2.out]; exact HOE.out, by rw [HS1.out]; exact HXE.out, HZE.out⟩
            case measure => simp [intOf]; omega
        · obtain rfl : j = l.length := by omega
          have ho := HO.out
          have hx := HX.out
          rw [List.take_length] at ho hx
          obtain ⟨A7, c7, e7, hr7⟩ := Rd.of_own ho
          have hins := ins_len (l.filter fun a => !touB x a) (hull x (l.filter (touB x)))
          have hpl := List.length_filter_le (fun a => !touB x a) l
          have hE := HEQ.out
          rw [HAL.out, hins] at hE
          generalize hull x (l.filter (touB x)) = H at *
          generalize (l.filter fun a => !touB x a) = F2 at *
          have HR7 := Lib.hid hr7
          have HXL := Lib.hid hx
          have hc7 := hr7.cap
          have HPU := Lib.hid fun W (hb : Below wr.heap.size wr W) => put_any H A7 F2.length c7 F2 W (hr7.below hb) (by omega)
          have HE := Lib.hid hE
          clear ho hx hr7 hins hE HAL HEQ HO HX
          subst e7
          obtain ⟨y0, y1, y2⟩ := HXL.out.three
          have hr1 := HF.out.r
          have hf1 := HF.out.f
          by_cases hfull : 512 ≤ F2.length
          · have r0 := set_same (.slice none 0 0) hr1
            have hRR : R = ([], 51) := by rw [HE.out, if_pos (by omega)]
            subst hRR
            clear HPU
            go_wp2
            exact bodyPost_ret (v := .tuple #[.agg #[.slice none 0 0], .int .i64 51]) (by simp [results, Try.results11, go_sem, r0]) rfl HF.out.none_
          · have hRR : R = (ins F2 H, 0) := by rw [HE.out, if_neg (by omega)]
            subst hRR
            go_wp2_with (go_at_call 37; (with_reducible refine (HPU.out _ (Below.refl _ _)).mono ?_); rintro e w9 ⟨A9, n9, c9, rfl, hr9, hb⟩; have HF9 := Lib.hid (HF.out.below hb); have HR9 := Lib.hid hr9; have hr2 := HF9.out.r; have hf2 := HF9.out.f; have r0 := set_same (.slice A9 n9 c9) hr2; clear hb hr9)
            exact bodyPost_ret (v := .tuple #[.agg #[.slice A9 n9 c9], .int .i64 0]) (by simp [results, Try.results11, go_sem, r0]) rfl (HF9.out.list_ HR9.out)
/-- The reference's Add at every state, of every lock. -/
theorem rAdd_any (A : Option Addr) (n c : Nat) (l : List Lk) (x : Lk) (w : World) (hr : Rd w A n c l) :
    Calls Try.prog 11 #[.agg #[.slice A n c], .agg #[.int .i64 x.t, .string x.lo.s, .string x.hi.s]] w (PairS (addR l x).1 (addR l x).2 w) := by
  by_cases h : Ok l
  · by_cases hx : mayL x = true
    · exact rAdd_good A n c l x w hr h hx
    · unfold addR
      simp only [h, hx, if_true, if_false]
      exact rAdd_arg A n c l x w hr h (by simpa using hx)
  · unfold addR
    simp only [h, if_false]
    exact rAdd_bad A n c l x w hr h
end Go.Proofs.Ytmjcmeebcochgaa
