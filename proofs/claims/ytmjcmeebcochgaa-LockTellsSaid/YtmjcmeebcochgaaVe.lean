/- What fresh of package lock makes of a list: the walk. Conditions: a list of at most a million locks that is read in memory. -/
import Derived.Test.YtmjcmeebcochgaaVd
namespace Go.Proofs.Ytmjcmeebcochgaa
open Go.RowKit
set_option linter.unusedSimpArgs false
set_option linter.unusedVariables false

theorem set_take {l : List Lk} {n j : Nat} (hn : l.length = n) (hj : j < n) : (l.take j ++ List.replicate (n - j) zL).set j (l[j]'(by omega)) = l.take (j + 1) ++ List.replicate (n - (j + 1)) zL := by
  have e : n - j = n - (j + 1) + 1 := by omega
  rw [e, List.replicate_succ, List.set_append_right _ _ (by simp <;> omega)]
  have e2 : j - (l.take j).length = 0 := by simp; omega
  rw [e2, List.set_cons_zero, List.take_succ_eq_append_getElem (by omega), List.append_assoc]
  rfl
theorem set_same {w : World} {p : Addr} {u : Value} (v : Value) (h : w.cell? p = some u) : (w.setCell p v).cell? p = some v := World.cell?_setCell_same w p v h
/-- What a cell holds. -/
def ct (W : World) (p : Addr) : Value := (W.cell? p).getD (.bool false)
theorem ct_some {W : World} {p : Addr} (h : (W.cell? p).isSome = true) : W.cell? p = some (ct W p) := by
  obtain ⟨v, hv⟩ := Option.isSome_iff_exists.1 h
  rw [ct, hv]
  rfl
theorem ct_of {W : World} {p : Addr} {v : Value} (h : W.cell? p = some v) : W.cell? p = some (ct W p) := ct_some (by rw [h]; rfl)
theorem cell_three {h g : Nat} (hne : h ≠ g) (W : World) (o k : Nat) (a b c : Value) : (((W.setCell ⟨g, o, none⟩ a).setCell ⟨g, o + 1, none⟩ b).setCell ⟨g, o + 2, none⟩ c).cell? ⟨h, k, none⟩ = W.cell? ⟨h, k, none⟩ := by
  rw [World.cell?_setCell_other _ _ _ _ (by simp <;> omega), World.cell?_setCell_other _ _ _ _ (by simp <;> omega), World.cell?_setCell_other _ _ _ _ (by simp <;> omega)]
theorem some_set {W : World} {p : Addr} (q : Addr) (v : Value) (h : (W.cell? p).isSome = true) : ((W.setCell q v).cell? p).isSome = true := by
  by_cases e : q = p
  · subst e
    obtain ⟨u, hu⟩ := Option.isSome_iff_exists.1 h
    rw [World.cell?_setCell_same W q v hu]
    rfl
  · rw [World.cell?_setCell_other W q p v e]
    exact h
theorem some_three (W : World) (g o k : Nat) (a b c : Value) (h : W.cell? ⟨g, k, none⟩ = some (ct W ⟨g, k, none⟩)) : ((((W.setCell ⟨g, o, none⟩ a).setCell ⟨g, o + 1, none⟩ b).setCell ⟨g, o + 2, none⟩ c).cell? ⟨g, k, none⟩).isSome = true :=
  some_set _ _ (some_set _ _ (some_set _ _ (by rw [h]; rfl)))
/-- What fresh makes of a list: a state over a row of the call's own. -/
def FreshX (l : List Lk) (w : World) (e : Ending) (w' : World) : Prop := ∃ g, e = .returned (.agg #[.slice (some ⟨g, 0, none⟩) l.length l.length]) ∧ Row w' g l ∧ w.heap.size ≤ g ∧ g < w'.heap.size ∧ Below w.heap.size w w'
set_option maxRecDepth 100000 in
set_option maxHeartbeats 4000000 in
theorem fresh_any (A : Option Addr) (n c : Nat) (l : List Lk) (w : World) (hr : Rd w A n c l) (hn : n ≤ 1000000) :
    Calls Try.prog 29 #[.slice A n c] w (FreshX l w) := by
  obtain ⟨i0, hi, hz0, hz1, hz2⟩ := info_parts Try.infoV
  have hlen := hr.len
  subst hlen
  have HR := Lib.hid hr
  clear hr
  have hb0 := below1 w (.cells #[.slice none 0 0] 29)
  have hs0 := cell_last w #[.slice none 0 0] 29 w.heap.size 0 rfl
  have hf0 : (w.alloc (.cells #[.slice none 0 0] 29)).frozen? ⟨w.heap.size, 0, none⟩ = false := World.frozen?_alloc_at (w := w) #[.slice none 0 0] _ w.heap.size 0 rfl
  have hsz0 : (w.alloc (.cells #[.slice none 0 0] 29)).heap.size = w.heap.size + 1 := by simp
  go_enter Try.func29, Try.ntmps29
  go_upto_region 1 with fail
  generalize w.alloc (.cells #[.slice none 0 0] 29) = w0 at hb0 hs0 hf0 hsz0 ⊢
  have HB0 := Lib.hid hb0
  have HS0 := Lib.hid hs0
  have HF0 := Lib.hid hf0
  clear hb0 hs0 hf0
  go_wp2_with (refine wpList_make_full w0 rfl (.tmp 7) (.tmp 7) 27 rfl w0.heap.size 34 i0 (.agg #[.int .i64 0, .string ⟨#[]⟩, .string ⟨#[]⟩]) 3 Try.underlying27 hi hz0 hz1 .i64 .i64 _ _ l.length rfl rfl rfl rfl (by rw [hz2]; omega) (by unfold maxLen; omega) (Nat.le_refl _) ?_)
  intro w1 hown hg1
  have hb1 : Below w0.heap.size w0 w1 := (Below.refl _ _).grown hg1 (Nat.le_refl _) (fun k hk => by cases hk)
  have hgl : w.heap.size + 1 < w1.heap.size := (hown.lt (w.heap.size + 1) rfl).2
  have hrow : Row w1 (w.heap.size + 1) (List.replicate l.length zL) := row_of_own (by rw [← made l.length]; exact hown)
  have hs1 := cell_keep HS0.out hb1
  have HS1 := Lib.hid hs1
  have hf1 := (hb1.frozen (p := ⟨w.heap.size, 0, none⟩) (by rw [hsz0]; simp)).trans HF0.out
  have HF1 := Lib.hid hf1
  have HRW := Lib.hid hrow
  have HB1 := Lib.hid (thn HB0.out hb1)
  have HGL := Lib.hid hgl
  clear hown hg1 hb1 hgl hrow HB0 HS0 HF0 hs1 hf1
  generalize hgg : w.heap.size + 1 = g at HRW HGL ⊢
  generalize hss : w.heap.size = gs at HS1 HF1 ⊢
  have HGG := Lib.hid hgg
  have HSS := Lib.hid hss
  clear hgg hss hsz0
  go_wp2
  go_loopw [4, 5, 11] (fun _ _ i wr => ∃ j : Nat, j ≤ l.length ∧ i = .int .i64 j ∧ Row wr g (l.take j ++ List.replicate (l.length - j) zL) ∧ g < wr.heap.size ∧ Below w.heap.size w wr ∧ wr.cell? ⟨gs, 0, none⟩ = some (.slice none 0 0) ∧ wr.frozen? ⟨gs, 0, none⟩ = false) (fun _ _ i _ => l.length - (intOf i).toNat)
  case atStart => exact ⟨0, by omega, rfl, by simpa using HRW.out, HGL.out, HB1.out, HS1.out, HF1.out⟩
  case round =>
    obtain ⟨j, hj, rfl, hW, hgw, hB, hsc, hsf⟩ := hrel
    have HW := Lib.hid hW
    have HB := Lib.hid hB
    have HGW := Lib.hid hgw
    have HSC := Lib.hid hsc
    have HSF := Lib.hid hsf
    clear hW hB hgw HRW HB1 HGL HS1 HF1 hsc hsf
    by_cases hlt : j < l.length
    · obtain ⟨ad, rfl, c0, c1, c2⟩ := (HR.out.below HB.out).at_ hlt
      have hb0 := cell_lt c0
      rw [add_block] at hb0
      have HST := Lib.hid (set_take rfl hlt)
      have HC := Lib.hid fun (k : Key) W => sClone_any k W
      have HJL := Lib.hid hlt
      generalize l[j] = v at *
      have hb1 := below1 wr (.cells #[.int .i64 v.t, .string v.lo.s, .string v.hi.s] 34)
      have b0 := cell_last wr #[.int .i64 v.t, .string v.lo.s, .string v.hi.s] 34 wr.heap.size 0 rfl
      have b1 := cell_last wr #[.int .i64 v.t, .string v.lo.s, .string v.hi.s] 34 wr.heap.size 1 rfl
      have b2 := cell_last wr #[.int .i64 v.t, .string v.lo.s, .string v.hi.s] 34 wr.heap.size 2 rfl
      have B0 := Lib.hid b0
      have B1 := Lib.hid b1
      have B2 := Lib.hid b2
      have HB1 := Lib.hid hb1
      clear b0 b1 b2 hb1
      go_upto_region 5 with fail
      have hjn : j < (l.take j ++ List.replicate (l.length - j) zL).length := by simp; omega
      have HW1 := Lib.hid (HW.out.below HB1.out)
      have HGW1 := Lib.hid (Nat.lt_of_lt_of_le HGW.out HB1.out.size)
      have HSC1 := Lib.hid (cell_keep HSC.out HB1.out)
      have HSF1 := Lib.hid ((HB1.out.frozen (p := ⟨gs, 0, none⟩) (cell_lt HSC.out)).trans HSF.out)
      clear c0 c1 c2 hb0
      generalize wr.alloc (.cells #[.int .i64 v.t, .string v.lo.s, .string v.hi.s] 34) = W1 at *
      obtain ⟨z, d0, d1, d2, f0, f1, f2⟩ := HW1.out.att hjn
      have b0 := B0.out
      have b1 := B1.out
      have b2 := B2.out
      have HJN := Lib.hid hjn
      clear hjn B0 B1 B2
      have hSo : ∀ W', Below W1.heap.size W1 W' → W'.cell? ⟨wr.heap.size, 0, none⟩ = some (.int .i64 v.t) ∧ W'.cell? ⟨wr.heap.size, 1, none⟩ = some (.string v.lo.s) ∧ W'.cell? ⟨wr.heap.size, 2, none⟩ = some (.string v.hi.s) ∧ W'.cell? ⟨g, j * 3, none⟩ = some (ct W' ⟨g, j * 3, none⟩) ∧ W'.cell? ⟨g, j * 3 + 1, none⟩ = some (ct W' ⟨g, j * 3 + 1, none⟩) ∧ W'.cell? ⟨g, j * 3 + 2, none⟩ = some (ct W' ⟨g, j * 3 + 2, none⟩) ∧ W'.frozen? ⟨g, j * 3, none⟩ = false ∧ W'.frozen? ⟨g, j * 3 + 1, none⟩ = false ∧ W'.frozen? ⟨g, j * 3 + 2, none⟩ = false := fun W' hb => ⟨cell_keep b0 hb, cell_keep b1 hb, cell_keep b2 hb, ct_of (cell_keep d0 hb), ct_of (cell_keep d1 hb), ct_of (cell_keep d2 hb), (hb.frozen (p := ⟨g, j * 3, none⟩) (cell_lt d0)).trans f0, (hb.frozen (p := ⟨g, j * 3 + 1, none⟩) (cell_lt d1)).trans f1, (hb.frozen (p := ⟨g, j * 3 + 2, none⟩) (cell_lt d2)).trans f2⟩
      have hne : wr.heap.size ≠ g := by have := HGW.out; omega
      have hSt : ∀ W', Below W1.heap.size W1 W' → ∀ a b c', (((W'.setCell ⟨g, j * 3, none⟩ a).setCell ⟨g, j * 3 + 1, none⟩ b).setCell ⟨g, j * 3 + 2, none⟩ c').cell? ⟨wr.heap.size, 0, none⟩ = some (.int .i64 v.t) ∧ (((W'.setCell ⟨g, j * 3, none⟩ a).setCell ⟨g, j * 3 + 1, none⟩ b).setCell ⟨g, j * 3 + 2, none⟩ c').cell? ⟨wr.heap.size, 1, none⟩ = some (.string v.lo.s) ∧ (((W'.setCell ⟨g, j * 3, none⟩ a).setCell ⟨g, j * 3 + 1, none⟩ b).setCell ⟨g, j * 3 + 2, none⟩ c').cell? ⟨wr.heap.size, 2, none⟩ = some (.string v.hi.s) ∧ (((W'.setCell ⟨g, j * 3, none⟩ a).setCell ⟨g, j * 3 + 1, none⟩ b).setCell ⟨g, j * 3 + 2, none⟩ c').cell? ⟨g, j * 3, none⟩ = some (ct (((W'.setCell ⟨g, j * 3, none⟩ a).setCell ⟨g, j * 3 + 1, none⟩ b).setCell ⟨g, j * 3 + 2, none⟩ c') ⟨g, j * 3, none⟩) ∧ (((W'.setCell ⟨g, j * 3, none⟩ a).setCell ⟨g, j * 3 + 1, none⟩ b).setCell ⟨g, j * 3 + 2, none⟩ c').cell? ⟨g, j * 3 + 1, none⟩ = some (ct (((W'.setCell ⟨g, j * 3, none⟩ a).setCell ⟨g, j * 3 + 1, none⟩ b).setCell ⟨g, j * 3 + 2, none⟩ c') ⟨g, j * 3 + 1, none⟩) ∧ (((W'.setCell ⟨g, j * 3, none⟩ a).setCell ⟨g, j * 3 + 1, none⟩ b).setCell ⟨g, j * 3 + 2, none⟩ c').cell? ⟨g, j * 3 + 2, none⟩ = some (ct (((W'.setCell ⟨g, j * 3, none⟩ a).setCell ⟨g, j * 3 + 1, none⟩ b).setCell ⟨g, j * 3 + 2, none⟩ c') ⟨g, j * 3 + 2, none⟩) ∧ (((W'.setCell ⟨g, j * 3, none⟩ a).setCell ⟨g, j * 3 + 1, none⟩ b).setCell ⟨g, j * 3 + 2, none⟩ c').frozen? ⟨g, j * 3, none⟩ = false ∧ (((W'.setCell ⟨g, j * 3, none⟩ a).setCell ⟨g, j * 3 + 1, none⟩ b).setCell ⟨g, j * 3 + 2, none⟩ c').frozen? ⟨g, j * 3 + 1, none⟩ = false ∧ (((W'.setCell ⟨g, j * 3, none⟩ a).setCell ⟨g, j * 3 + 1, none⟩ b).setCell ⟨g, j * 3 + 2, none⟩ c').frozen? ⟨g, j * 3 + 2, none⟩ = false := fun W' hb a b c' => by
        obtain ⟨s0, s1, s2, s3, s4, s5, s6, s7, s8⟩ := hSo W' hb
        refine ⟨(cell_three hne _ _ _ _ _ _).trans s0, (cell_three hne _ _ _ _ _ _).trans s1, (cell_three hne _ _ _ _ _ _).trans s2, ct_some (some_three _ _ _ _ _ _ _ s3), ct_some (some_three _ _ _ _ _ _ _ s4), ct_some (some_three _ _ _ _ _ _ _ s5), ?_, ?_, ?_⟩
        all_goals simp only [World.frozen?_setCell]; assumption
      have hbW := (Below.refl W1.heap.size W1).drew
      have HSO := Lib.hid hSo
      have HSV := Lib.hid hSt
      clear b0 b1 b2 d0 d1 d2 f0 f1 f2 hSo hSt
      go_region_held3 (fun W' => W'.cell? ⟨wr.heap.size, 0, none⟩ = some (.int .i64 v.t) ∧ W'.cell? ⟨wr.heap.size, 1, none⟩ = some (.string v.lo.s) ∧ W'.cell? ⟨wr.heap.size, 2, none⟩ = some (.string v.hi.s) ∧ W'.cell? ⟨g, j * 3, none⟩ = some (ct W' ⟨g, j * 3, none⟩) ∧ W'.cell? ⟨g, j * 3 + 1, none⟩ = some (ct W' ⟨g, j * 3 + 1, none⟩) ∧ W'.cell? ⟨g, j * 3 + 2, none⟩ = some (ct W' ⟨g, j * 3 + 2, none⟩) ∧ W'.frozen? ⟨g, j * 3, none⟩ = false ∧ W'.frozen? ⟨g, j * 3 + 1, none⟩ = false ∧ W'.frozen? ⟨g, j * 3 + 2, none⟩ = false)
        (first | exact HSO.out _ hbW | exact HSO.out _ hq2 | exact HSV.out _ hq2 _ _ _ | assumption)
        (first | (go_at_call 46; (with_reducible refine (HC.out _ _).mono ?_); rintro e w2 ⟨rfl, hb2⟩; first | (have hq3 : Below W1.heap.size W1 w2 := thn hq2 hb2; clear hb2 hq2; have hq2 := hq3; clear hq3) | (have hq2 : Below W1.heap.size W1 w2 := thn hbW hb2; clear hb2)))
      have HQ2 := Lib.hid hq2
      have HBA := Lib.hid (thn HB.out (thn HB1.out hq2))
      have HWA := Lib.hid (HW1.out.below hq2)
      have HCA := Lib.hid ((cell_three (show gs ≠ g by have := HGG.out; have := HSS.out; omega) w2 (j * 3) 0 (.int .i64 v.t) (.string v.lo.s) (.string v.hi.s)).trans (cell_keep HSC1.out hq2))
      have HFA := Lib.hid ((hq2.frozen (p := ⟨gs, 0, none⟩) (cell_lt HSC1.out)).trans HSF1.out)
      have HGA := Lib.hid (Nat.lt_of_lt_of_le HGW1.out hq2.size)
      clear hq2 HSO HSV
      go_wp2
      go_roundw
      case rel => exact ⟨j + 1, HJL.out, by go_num, by rw [← HST.out]; exact HWA.out.set v HJN.out, by have := HGA.out; simpa using this, below_cells (by have := HGG.out; omega) (lkC v) (j * 3) HBA.out, HCA.out, by simp only [World.frozen?_setCell]; exact HFA.out⟩
      case measure => simp [intOf]; omega
    · obtain rfl : j = l.length := by omega
      have h1 := HSC.out
      have h2 := HSF.out
      have hrow := HW.out
      rw [Nat.sub_self, List.replicate_zero, List.append_nil, List.take_of_length_le (Nat.le_refl _)] at hrow
      have HRO := Lib.hid hrow
      clear hrow HW
      have r0 := set_same (.slice (some ⟨g, 0, none⟩) l.length l.length) h1
      go_wp2
      exact bodyPost_ret (v := .agg #[.slice (some ⟨g, 0, none⟩) l.length l.length]) (by simp [results, Try.results29, go_sem, r0]) rfl ⟨g, rfl, HRO.out.other _ _ (by have := HGG.out; have := HSS.out; simp; omega), by have := HGG.out; omega, by have := HGW.out; simpa using this, HB.out.setCell (by have := HSS.out; simp; omega) _⟩
end Go.Proofs.Ytmjcmeebcochgaa
