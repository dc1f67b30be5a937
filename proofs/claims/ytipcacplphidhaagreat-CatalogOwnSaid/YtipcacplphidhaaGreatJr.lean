/- Whether a catalog of one table may be: the walks of catalog's mayBe and Check, and of rows' isTable. Conditions: lists that are read in memory. -/
import Derived.Test.YtipcacplphidhaaGreatJq
import Derived.Carry
namespace Go.Proofs.YtipcacplphidhaaGreat
open Go.RowKit Go.Sort Go.Maps
set_option linter.unusedSimpArgs false
set_option linter.unusedVariables false

theorem tblB_idx {t : Tb} (h : tblB t = true) : newB [] (t.idx.map Ix.m) = true ∧ t.idx.length ≤ 4 ∧ ∀ x ∈ t.idx, x.m.size ≤ 16 := by
  simp only [tblB, Bool.and_eq_true] at h
  exact ⟨h.2.2.2.2.1, idxB_parts h.2.2.1⟩
theorem tblB_key {t : Tb} (h : tblB t = true) : 0 < t.cols.length ∧ t.cols.length ≤ 8 ∧ ∃ kk : Nat, t.key = kk ∧ kk < t.cols.length := by
  simp only [tblB, Bool.and_eq_true] at h
  obtain ⟨h1, h2, _⟩ := colsB_parts h.2.1
  exact ⟨h1, h2, placeB_parts h.2.2.2.2.2.1⟩

set_option maxRecDepth 100000 in
set_option maxHeartbeats 8000000 in
theorem cmayBe_any (t : Tb) (cA iA : Option Addr) (cc ic g : Nat) (w : World) (hc : RdC w cA t.cols) (hx : RdX w iA t.idx) (hn : t.cols.length ≤ 9223372036854775807) (hb : Box4 w g t.m cA t.cols.length cc t.key iA t.idx.length ic) :
    Calls Tryz.prog 48 #[.agg #[.slice (some ⟨g, 0, none⟩) 1 1]] w fun e w' => e = .returned (.bool (tblB t)) ∧ Below w.heap.size w w' := by
  have hmm := @run_makeMap Tryz.prog
  obtain ⟨x0, x1, x2, x3⟩ := hb
  have hgl := cell_lt x0
  have HC := Lib.hid hc
  have HX := Lib.hid hx
  clear hc hx
  go_enter Tryz.func48, Tryz.ntmps48
  go_wp2
  refine wp_loop_rounds 2 ?_
  rw [rounds_succ]
  go_wp2
  have HT := Lib.hid fun (W : World) (b : Nat) (hk : Kp w W) (hs : ∃ n D, IsSet W b n D) => isTable_any t cA iA cc ic b W (HC.out.kept hk) (HX.out.kept hk) hn hs
  have hB3 : Below w.heap.size w (((w.alloc (.cells #[.slice (some ⟨g, 0, none⟩) 1 1] 35)).alloc (.map #[] 0)).alloc (.cells #[.string t.m, .slice cA t.cols.length cc, .int .i64 t.key, .slice iA t.idx.length ic] 46)) := ((below1 w _).alloc (by simp) _).alloc (by simp; omega) _
  have hS3 : IsSet (((w.alloc (.cells #[.slice (some ⟨g, 0, none⟩) 1 1] 35)).alloc (.map #[] 0)).alloc (.cells #[.string t.m, .slice cA t.cols.length cc, .int .i64 t.key, .slice iA t.idx.length ic] 46)) (w.heap.size + 1) 0 (.map []) := by
    have h := World.ownsMap_made (w.alloc (.cells #[.slice (some ⟨g, 0, none⟩) 1 1] 35)) Tryz.prog 9 (unitElem (H := Unit))
    rw [World.size_alloc] at h
    exact h.alloc _
  have hX3 := Box4.new ((w.alloc (.cells #[.slice (some ⟨g, 0, none⟩) 1 1] 35)).alloc (.map #[] 0)) t.m cA t.cols.length cc t.key iA t.idx.length ic 46
  rw [World.size_alloc, World.size_alloc] at hX3
  have s0 : (((w.alloc (.cells #[.slice (some ⟨g, 0, none⟩) 1 1] 35)).alloc (.map #[] 0)).alloc (.cells #[.string t.m, .slice cA t.cols.length cc, .int .i64 t.key, .slice iA t.idx.length ic] 46)).cell? ⟨w.heap.size, 0, none⟩ = some (.slice (some ⟨g, 0, none⟩) 1 1) := by
    rw [(below1 _ _).cell (p := ⟨w.heap.size, 0, none⟩) (by simp; omega), (below1 _ _).cell (p := ⟨w.heap.size, 0, none⟩) (by simp), cell_last _ _ _ _ _ rfl]; rfl
  generalize ((w.alloc (.cells #[.slice (some ⟨g, 0, none⟩) 1 1] 35)).alloc (.map #[] 0)).alloc (.cells #[.string t.m, .slice cA t.cols.length cc, .int .i64 t.key, .slice iA t.idx.length ic] 46) = W at hB3 hS3 hX3 s0 ⊢
  have HB3 := Lib.hid hB3
  have HS3 := Lib.hid hS3
  have HX3 := Lib.hid hX3
  have S0 := Lib.hid s0
  have XG := Lib.hid (Box4.mk x0 x1 x2 x3)
  clear hB3 hS3 hX3 s0 x0 x1 x2 x3
  refine wp_region_quiet_below (by kernel_rfl) (by kernel_rfl) ?_
  repeat (go_big_quiet_step (fail))
  refine wpQuiet_nil ?_
  intro w5 hw5
  obtain ⟨pp, rfl⟩ := hw5
  have hb5 := below_regrown W pp.d pp.os
  generalize grow (redrawn W pp.d) pp.os = W5 at hb5 ⊢
  have HB5 := Lib.hid (HB3.out.trans (hb5.mono HB3.out.size))
  have HS5 := Lib.hid (set_below HS3.out hb5)
  obtain ⟨y0, y1, y2, y3⟩ := HX3.out.below hb5
  have s0 := (Kp.of_below hb5) _ _ S0.out
  have HT5 := Lib.hid (HT.out W5 (w.heap.size + 1) (Kp.of_below HB5.out) ⟨_, _, HS5.out⟩)
  clear hb5 HB3 HS3 HX3 S0
  cases hT : tblB t
  · rw [hT] at HT5
    have HTT := Lib.hid hT
    clear hT
    go_wp2_with (go_at_call 60; refine HT5.out.mono ?_; rintro e w6 ⟨rfl, hss, hg⟩; have HG6 := Lib.hid hg; clear hss hg)
    go_ret
    exact ⟨ret_bool HTT.out.symm, HB5.out.grown HG6.out HB5.out.size (fun k hk => by injection hk with hk; omega)⟩
  · obtain ⟨ht1, ht2, ht3⟩ := tblB_idx hT
    have HT1 := Lib.hid ht1
    have HT3 := Lib.hid ht3
    have HTT := Lib.hid hT
    rw [hT] at HT5
    clear hT ht1 ht3
    go_wp2_with (go_at_call 60; refine HT5.out.mono ?_; rintro e w6 ⟨rfl, hss, hg⟩; obtain ⟨n6, D6, hs6⟩ := hss; have hk6 := Kp.of_set HS5.out hg; obtain ⟨y0, y1, y2, y3⟩ := (Box4.mk y0 y1 y2 y3).kept hk6; have s0 := hk6 _ _ s0; have hB6 := HB5.out.grown hg HB5.out.size (fun k hk => by injection hk with hk; omega); obtain ⟨w7, hcl, hs7, hg7⟩ := run_clear_set hs6; have hk7 := Kp.of_set hs6 hg7; have s0 := hk7 _ _ s0; have hB7 := hB6.grown hg7 hB6.size (fun k hk => by injection hk with hk; omega); obtain ⟨z0, z1, z2, z3⟩ := XG.out.below hB7; have HS7 := Lib.hid hs7; have HB7 := Lib.hid hB7; clear hs6 hg hk6 hB6 hs7 hg7 hk7 hB7)
    rw [rounds_succ]
    go_wp2
    have hnx := fun (W : World) (hk : Kp w W) (hs : IsSet W (w.heap.size + 1) 0 (setOf (.agg []) (keys []))) => newX_any iA t.idx.length ic (w.heap.size + 1) t.idx W rfl (HX.out.kept hk) (by omega) HT3.out hs
    rw [HT1.out] at hnx
    have HNX := Lib.hid hnx
    clear hnx hcl
    refine wp_loop_rounds 2 ?_
    rw [rounds_succ]
    go_wp2_with (go_at_call 61; refine (HNX.out _ ((Kp.of_below HB7.out).trans (Kp.of_below (below1 _ _))) (HS7.out.alloc _)).mono ?_; rintro e w8 ⟨rfl, hss, hg⟩; have hB8 := (HB7.out.alloc HB7.out.size (.cells #[.string t.m, .slice cA t.cols.length cc, .int .i64 t.key, .slice iA t.idx.length ic] 46)).grown hg (by have := HB7.out.size; simp; omega) (fun k hk => by injection hk with hk; omega); have HB8 := Lib.hid hB8; clear hss hg hB8)
    rw [rounds_succ]
    go_wp2
    go_ret
    exact ⟨ret_bool HTT.out.symm, HB8.out⟩

end Go.Proofs.YtipcacplphidhaaGreat
