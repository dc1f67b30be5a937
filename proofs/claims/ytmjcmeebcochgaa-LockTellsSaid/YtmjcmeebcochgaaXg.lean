/- The reference's Widen over any state: the walk. Conditions: a state that is read in memory. -/
import Derived.Test.YtmjcmeebcochgaaXe
namespace Go.Proofs.Ytmjcmeebcochgaa
open Go.RowKit Go.Sort Go.Maps
set_option linter.unusedSimpArgs false
set_option linter.unusedVariables false

theorem Frn.set {w W : World} {gs gr : Nat} {A : Option Addr} {n c : Nat} (h : Frn w W gs gr A n c) {g : Nat} (h1 : gs ≠ g) (h3 : gr ≠ g) (h4 : w.heap.size ≤ g) (o : Nat) (u : Value) : Frn w (W.setCell ⟨g, o, none⟩ u) gs gr A n c :=
  ⟨(World.cell?_setCell_other W ⟨g, o, none⟩ _ u (by simp <;> omega)).trans h.s, (World.cell?_setCell_other W ⟨g, o, none⟩ _ u (by simp <;> omega)).trans h.r, by rw [World.frozen?_setCell]; exact h.f, h.b.setCell (p := ⟨g, o, none⟩) h4 u, h.g⟩
/-- Locks as one, or none. -/
def allL : List Lk → Lk
  | [] => zL
  | a :: r => hull a (a :: r)
theorem allL_first (v : Lk) : allL [v] = wid v v := rfl
theorem allL_more {M : List Lk} (h : M ≠ []) (v : Lk) : allL (M ++ [v]) = wid (allL M) v := by
  cases M with
  | nil => exact absurd rfl h
  | cons a r =>
    show hull a ((a :: r) ++ [v]) = wid (hull a (a :: r)) v
    unfold hull
    rw [List.foldl_append]
    rfl
theorem widL_all {l : List Lk} {t : Int} (h : l.filter (ownB t) ≠ []) : widL l t = ins (l.filter fun a => !ownB t a) (allL (l.filter (ownB t))) := by
  unfold widL
  cases hf : l.filter (ownB t) with
  | nil => exact absurd hf h
  | cons a r =>
    show asOne l a (ownB t) = _
    unfold asOne
    rw [hf]
    rfl
set_option maxRecDepth 100000 in
set_option maxHeartbeats 8000000 in
theorem rWiden_bad (A : Option Addr) (n c : Nat) (l : List Lk) (t k : Int) (w : World) (hr : Rd w A n c l) (h : ¬ Ok l) :
    Calls Try.prog 19 #[.agg #[.slice A n c], .int .i64 t, .int .i64 k] w (PairS [] 9 w) := by
  have HF0 := Lib.hid (Frn.newR w A n c)
  have HC := Lib.hid fun W (hb : Below w.heap.size w W) => rCheck_any A n c l W (hr.below hb)
  rw [chk_bad h] at HC
  clear hr h
  go_enter Try.func19, Try.ntmps19
  go_upto_region 1 with fail
  generalize (w.alloc (.cells #[.slice A n c] 24)).alloc (.cells #[.slice none 0 0] 24) = W0 at *
  generalize w.heap.size + 1 = gr at *
  have hs := HF0.out.s
  go_upto_region 2 with (go_at_call 23; (with_reducible refine (HC.out _ HF0.out.b).mono ?_); rintro e w1 ⟨rfl, hb⟩; have HF1 := Lib.hid (HF0.out.below hb); clear hb)
  have hr1 := HF1.out.r
  have hf1 := HF1.out.f
  have r0 := set_same (.slice none 0 0) hr1
  go_wp2
  exact bodyPost_ret (v := .tuple #[.agg #[.slice none 0 0], .int .i64 9]) (by simp [results, Try.results19, go_sem, r0]) rfl HF1.out.none_
set_option maxRecDepth 100000 in
set_option maxHeartbeats 8000000 in
theorem rWiden_range (A : Option Addr) (n c : Nat) (l : List Lk) (t k : Int) (w : World) (hr : Rd w A n c l) (h : Ok l) (hk : k < 1) :
    Calls Try.prog 19 #[.agg #[.slice A n c], .int .i64 t, .int .i64 k] w (PairS [] 4 w) := by
  have HF0 := Lib.hid (Frn.newR w A n c)
  have HC := Lib.hid fun W (hb : Below w.heap.size w W) => rCheck_any A n c l W (hr.below hb)
  rw [chk_good h] at HC
  clear hr h
  go_enter Try.func19, Try.ntmps19
  go_upto_region 1 with fail
  generalize (w.alloc (.cells #[.slice A n c] 24)).alloc (.cells #[.slice none 0 0] 24) = W0 at *
  generalize w.heap.size + 1 = gr at *
  have hs := HF0.out.s
  go_upto_region 4 with (go_at_call 23; (with_reducible refine (HC.out _ HF0.out.b).mono ?_); rintro e w1 ⟨rfl, hb⟩; have HF1 := Lib.hid (HF0.out.below hb); clear hb)
  have hr1 := HF1.out.r
  have hf1 := HF1.out.f
  have r0 := set_same (.slice none 0 0) hr1
  go_wp2
  exact bodyPost_ret (v := .tuple #[.agg #[.slice none 0 0], .int .i64 4]) (by simp [results, Try.results19, go_sem, r0]) rfl HF1.out.none_
set_option maxRecDepth 100000 in
set_option maxHeartbeats 16000000 in
theorem rWiden_good (A : Option Addr) (n c : Nat) (l : List Lk) (t k : Int) (w : World) (hr : Rd w A n c l) (h : Ok l) (hk : ¬ k < 1) (R : List Lk) (hfew : ((l.filter (ownB t)).length : Int) ≤ k → R = l) (hwide : ¬ ((l.filter (ownB t)).length : Int) ≤ k → R = widL l t) :
    Calls Try.prog 19 #[.agg #[.slice A n c], .int .i64 t, .int .i64 k] w (PairS R 0 w) := by
  have hl := hr.len
  have hcap := hr.cap
  subst hl
  have HF0 := Lib.hid (Frn.newR w A l.length c)
  have HR := Lib.hid hr
  have HC := Lib.hid fun W (hb : Below w.heap.size w W) => rCheck_any A l.length c l W (hr.below hb)
  rw [chk_good h] at HC
  have HOW := Lib.hid fun W (hb : Below w.heap.size w W) => rOwn_any A l.length c l W (hr.below hb) (by have := h.1; omega)
  have HDR := Lib.hid fun W (hb : Below w.heap.size w W) => rDrop_ok A l.length c l t W (hr.below hb) h
  have hln := h.1
  have HFEW := Lib.hid hfew
  have HWIDE := Lib.hid hwide
  have hk1 : 1 ≤ k := by omega
  clear hr h hfew hwide hk
  go_enter Try.func19, Try.ntmps19
  go_upto_region 1 with fail
  generalize (w.alloc (.cells #[.slice A l.length c] 24)).alloc (.cells #[.slice none 0 0] 24) = W0 at *
  generalize w.heap.size + 1 = gr at *
  have hs := HF0.out.s
  go_upto_region 6 with (go_at_call 23; (with_reducible refine (HC.out _ HF0.out.b).mono ?_); rintro e w1 ⟨rfl, hb⟩; have HF1 := Lib.hid (HF0.out.below hb); clear hb)
  clear hs HF0 HC
  have HF2 := Lib.hid (HF1.out.below (below1 w1 (.cells #[.int .i64 0, .string ⟨#[]⟩, .string ⟨#[]⟩] 26)))
  have HX2 := Lib.hid (show Box (w1.alloc (.cells #[.int .i64 0, .string ⟨#[]⟩, .string ⟨#[]⟩] 26)) w1.heap.size zL from Box.newR w1 zL)
  have HZ2 := Lib.hid (show w1.heap.size < (w1.alloc (.cells #[.int .i64 0, .string ⟨#[]⟩, .string ⟨#[]⟩] 26)).heap.size by simp)
  have hgs0 : w.heap.size < w1.heap.size := cell_lt HF1.out.s
  have hgr0 : gr < w1.heap.size := cell_lt HF1.out.r
  go_upto_region 7 with fail
  generalize w1.alloc (.cells #[.int .i64 0, .string ⟨#[]⟩, .string ⟨#[]⟩] 26) = W3 at *
  generalize hg9 : w1.heap.size = g9 at *
  have HN1 := Lib.hid (show w.heap.size ≠ g9 ∧ gr ≠ g9 ∧ w.heap.size ≤ g9 by omega)
  clear hg9 hgs0 hgr0 HF1
  go_wp2
  go_loopw [8, 10] (fun nv i wr => ∃ j : Nat, i = .int .i64 j ∧ j ≤ l.length ∧ nv = .int .i64 ((l.take j).filter (ownB t)).length ∧ Frn w wr w.heap.size gr A l.length c ∧ Box wr g9 (allL ((l.take j).filter (ownB t))) ∧ g9 < wr.heap.size) (fun _ i _ => l.length - (intOf i).toNat)
  case atStart => exact ⟨0, rfl, by omega, rfl, HF2.out, HX2.out, HZ2.out⟩
  case round =>
    obtain ⟨j, rfl, hj, rfl, hF, hX, hZ⟩ := hrel
    have HF := Lib.hid hF
    have HX := Lib.hid hX
    have HZ := Lib.hid hZ
    clear hF hX hZ HF2 HX2 HZ2
    have hs := HF.out.s
    have hgs : w.heap.size < wr.heap.size := cell_lt hs
    by_cases hlt : j < l.length
    · obtain ⟨ad, rfl, k0, k1, k2⟩ := (HR.out.below HF.out.b).at_ hlt
      have HK := Lib.hid fun W (hb : Below w.heap.size w W) => (HR.out.below hb).cells ad rfl j l[j] (List.getElem?_eq_getElem hlt)
      have hq0 := cell_lt k0
      rw [add_block] at hq0
      have HST := Lib.hid (filter_step (p := ownB t) hlt)
      have hm2 := Nat.le_trans (flt_len (ownB t) l j) hln
      generalize (l.take j).filter (ownB t) = M at *
      generalize l[j] = v at *
      have HM2 := Lib.hid hm2
      have hjl : (j : Int) < (l.length : Int) := by omega
      by_cases hvt : v.t = t
      · have hq : (v.t != t) = false := by simpa using hvt
        have HS1 : Hid ((l.take (j + 1)).filter (ownB t) = M ++ [v]) := Lib.hid (by rw [HST.out]; simp [ownB, hvt])
        clear hvt
        by_cases h0 : M = []
        · have hd : (((M.length : Nat) : Int) == 0) = true := by rw [h0]; rfl
          have hd2 : (M.length == 0) = true := by rw [h0]; rfl
          have HSA : Hid (allL ((l.take (j + 1)).filter (ownB t)) = wid v v) := Lib.hid (by rw [HS1.out, h0]; rfl)
          have HON := Lib.hid fun W => one_any v v W
          clear h0
          obtain ⟨y0, y1, y2⟩ := HX.out.three
          have f0 := HX.out.free 0
          have f1 := HX.out.free 1
          have f2 := HX.out.free 2
          go_upto_region 13 with fail
          clear y0 y1 y2 f0 f1 f2 k0 k1 k2 hs hq0 hgs
          have HF4 := Lib.hid (((HF.out.set HN1.out.1 HN1.out.2.1 HN1.out.2.2 0 (.int .i64 v.t)).set HN1.out.1 HN1.out.2.1 HN1.out.2.2 1 (.string v.lo.s)).set HN1.out.1 HN1.out.2.1 HN1.out.2.2 2 (.string v.hi.s))
          have HX4 := Lib.hid (HX.out.all v)
          have HZ4 := Lib.hid (show g9 < (((wr.setCell ⟨g9, 0, none⟩ (.int .i64 v.t)).setCell ⟨g9, 1, none⟩ (.string v.lo.s)).setCell ⟨g9, 2, none⟩ (.string v.hi.s)).heap.size by have := HZ.out; simpa using this)
          generalize ((wr.setCell ⟨g9, 0, none⟩ (.int .i64 v.t)).setCell ⟨g9, 1, none⟩ (.string v.lo.s)).setCell ⟨g9, 2, none⟩ (.string v.hi.s) = W5 at *
          have hs := HF4.out.s
          have hgs : w.heap.size < W5.heap.size := cell_lt hs
          obtain ⟨k0, k1, k2⟩ := HK.out _ HF4.out.b
          have hq0 := cell_lt k0
          rw [add_block] at hq0
          obtain ⟨y0, y1, y2⟩ := HX4.out.three
          go_still_tail 6, (by kernel_rfl)
          change wpList _ _ _ _ _ W5.drew
          have hbd := (Below.refl W5.heap.size W5).drew
          have HF6 := Lib.hid (HF4.out.below hbd)
          have HX6 := Lib.hid (HX4.out.below hbd)
          have HZ6 := Lib.hid (Nat.lt_of_lt_of_le HZ4.out hbd.size)
          clear hbd y0 y1 y2 k0 k1 k2 hs
          generalize W5.drew = W6 at *
          go_wp2_with (go_at_call 36; (with_reducible refine (HON.out _).mono ?_); rintro e w7 ⟨rfl, hb⟩; have HF7 := Lib.hid (HF6.out.below hb); have HX7 := Lib.hid (HX6.out.below hb); have HZ7 := Lib.hid (Nat.lt_of_lt_of_le HZ6.out hb.size); obtain ⟨z0, z1, z2⟩ := HX7.out.three; have f0 := HX7.out.free 0; have f1 := HX7.out.free 1; have f2 := HX7.out.free 2; clear hb)
          have HFE := Lib.hid (((HF7.out.set HN1.out.1 HN1.out.2.1 HN1.out.2.2 0 (.int .i64 (wid v v).t)).set HN1.out.1 HN1.out.2.1 HN1.out.2.2 1 (.string (wid v v).lo.s)).set HN1.out.1 HN1.out.2.1 HN1.out.2.2 2 (.string (wid v v).hi.s))
          have HXE := Lib.hid (HX7.out.all (wid v v))
          have HZE := Lib.hid (show g9 < (((w7.setCell ⟨g9, 0, none⟩ (.int .i64 (wid v v).t)).setCell ⟨g9, 1, none⟩ (.string (wid v v).lo.s)).setCell ⟨g9, 2, none⟩ (.string (wid v v).hi.s)).heap.size by have := HZ7.out; simpa using this)
          clear z0 z1 z2 f0 f1 f2
          go_roundw
          case rel => exact ⟨j + 1, by go_num, hlt, by rw [HS1.out, List.length_append]; go_num, HFE.out, by rw [HSA.out]; exact HXE.out, HZE.out⟩
          case measure => simp [intOf]; omega
        · have hc0 : 0 < M.length := List.length_pos_iff.2 h0
          have hd : (((M.length : Nat) : Int) == 0) = false := by simp; omega
          have hd2 : (M.length == 0) = false := by simp; omega
          have HSA : Hid (allL ((l.take (j + 1)).filter (ownB t)) = wid (allL M) v) := Lib.hid (by rw [HS1.out, allL_more h0])
          clear h0
          generalize allL M = X at *
          have HON := Lib.hid fun W => one_any X v W
          obtain ⟨y0, y1, y2⟩ := HX.out.three
          go_upto_region 13 with fail
          go_still_tail 6, (by kernel_rfl)
          change wpList _ _ _ _ _ wr.drew
          have hbd := (Below.refl wr.heap.size wr).drew
          have HF6 := Lib.hid (HF.out.below hbd)
          have HX6 := Lib.hid (HX.out.below hbd)
          have HZ6 := Lib.hid (Nat.lt_of_lt_of_le HZ.out hbd.size)
          clear hbd y0 y1 y2 k0 k1 k2 hs
          generalize wr.drew = W6 at *
          go_wp2_with (go_at_call 36; (with_reducible refine (HON.out _).mono ?_); rintro e w7 ⟨rfl, hb⟩; have HF7 := Lib.hid (HF6.out.below hb); have HX7 := Lib.hid (HX6.out.below hb); have HZ7 := Lib.hid (Nat.lt_of_lt_of_le HZ6.out hb.size); obtain ⟨z0, z1, z2⟩ := HX7.out.three; have f0 := HX7.out.free 0; have f1 := HX7.out.free 1; have f2 := HX7.out.free 2; clear hb)
          have HFE := Lib.hid (((HF7.out.set HN1.out.1 HN1.out.2.1 HN1.out.2.2 0 (.int .i64 (wid X v).t)).set HN1.out.1 HN1.out.2.1 HN1.out.2.2 1 (.string (wid X v).lo.s)).set HN1.out.1 HN1.out.2.1 HN1.out.2.2 2 (.string (wid X v).hi.s))
          have HXE := Lib.hid (HX7.out.all (wid X v))
          have HZE := Lib.hid (show g9 < (((w7.setCell ⟨g9, 0, none⟩ (.int .i64 (wid X v).t)).setCell ⟨g9, 1, none⟩ (.string (wid X v).lo.s)).setCell ⟨g9, 2, none⟩ (.string (wid X v).hi.s)).heap.size by have := HZ7.out; simpa using this)
          clear z0 z1 z2 f0 f1 f2
          go_roundw
          case rel => exact ⟨j + 1, by go_num, hlt, by rw [HS1.out, List.length_append]; go_num, HFE.out, by rw [HSA.out]; exact HXE.out, HZE.out⟩
          case measure => simp [intOf]; omega
      · have hq : (v.t != t) = true := by simpa using hvt
        have HS1 : Hid ((l.take (j + 1)).filter (ownB t) = M) := Lib.hid (by rw [HST.out]; simp [ownB, hvt])
        clear hvt
        go_wp2_with fail
        go_roundw
        case rel => exact ⟨j + 1, by go_num, hlt, by rw [HS1.out], HF.out, by rw [HS1.out]; exact HX.out, HZ.out⟩
        case measure => simp [intOf]; omega
    · obtain rfl : j = l.length := by omega
      have hx := HX.out
      rw [List.take_length] at hx ⊢
      have hwa : l.filter (ownB t) ≠ [] → widL l t = ins (l.filter fun a => !ownB t a) (allL (l.filter (ownB t))) := widL_all
      have hfl := List.length_filter_le (fun a => !ownB t a) l
      have HWA := Lib.hid hwa
      clear hwa
      generalize l.filter (ownB t) = M at *
      generalize (l.filter fun a => !ownB t a) = F at *
      generalize allL M = X at *
      have HXL := Lib.hid hx
      clear hx HX
      by_cases hm : (M.length : Int) ≤ k
      · obtain rfl := HFEW.out hm
        go_wp2_with (go_at_call 34; (with_reducible refine (HOW.out _ HF.out.b).mono ?_); rintro e w5 ⟨A5, n5, c5, rfl, hr5, hb⟩; have HF5 := Lib.hid (HF.out.below hb); have HR5 := Lib.hid hr5; have hr6 := HF5.out.r; have hf6 := HF5.out.f; have r0 := set_same (.slice A5 n5 c5) hr6; clear hb hr5)
        exact bodyPost_ret (v := .tuple #[.agg #[.slice A5 n5 c5], .int .i64 0]) (by simp [results, Try.results19, go_sem, r0]) rfl (HF5.out.list_ HR5.out)
      · have hM : M ≠ [] := fun e => by rw [e] at hm; simp at hm; omega
        have hRR : R = ins F X := by rw [HWIDE.out (by omega), HWA.out hM]
        subst hRR
        go_upto_region 18 with (go_at_call 17; (with_reducible refine (HDR.out _ HF.out.b).mono ?_); rintro e w5 ⟨A5, n5, c5, rfl, hr5, hb⟩; have HF5 := Lib.hid (HF.out.below hb); have HR5 := Lib.hid hr5; have HX5 := Lib.hid (HXL.out.below hb); clear hb hr5)
        have HS6 := Lib.hid (cell_last w5 #[.slice A5 n5 c5] 24 w5.heap.size 0 rfl)
        have HF6 := Lib.hid (HF5.out.below (below1 w5 (.cells #[.slice A5 n5 c5] 24)))
        have HX6 := Lib.hid (HX5.out.below (below1 w5 (.cells #[.slice A5 n5 c5] 24)))
        have HR6 := Lib.hid (HR5.out.below (below1 w5 (.cells #[.slice A5 n5 c5] 24)))
        clear HF5 HX5 HR5
        generalize w5.alloc (.cells #[.slice A5 n5 c5] 24) = W6 at *
        generalize w5.heap.size = g11 at *
        have hs6 : W6.cell? ⟨g11, 0, none⟩ = some (.slice A5 n5 c5) := HS6.out
        obtain ⟨y0, y1, y2⟩ := HX6.out.three
        have HPU := Lib.hid (put_any X A5 n5 c5 F W6 HR6.out (by have := HR6.out.len; omega))
        go_wp2_with (go_at_call 37; (with_reducible refine HPU.out.mono ?_); rintro e w9 ⟨A9, n9, c9, rfl, hr9, hb⟩; have HF9 := Lib.hid (HF6.out.below hb); have HR9 := Lib.hid hr9; have hr2 := HF9.out.r; have hf2 := HF9.out.f; have r0 := set_same (.slice A9 n9 c9) hr2; clear hb hr9)
        exact bodyPost_ret (v := .tuple #[.agg #[.slice A9 n9 c9], .int .i64 0]) (by simp [results, Try.results19, go_sem, r0]) rfl (HF9.out.list_ HR9.out)
/-- The reference's Widen at every state. -/
theorem rWiden_any (A : Option Addr) (n c : Nat) (l : List Lk) (t k : Int) (w : World) (hr : Rd w A n c l) :
    Calls Try.prog 19 #[.agg #[.slice A n c], .int .i64 t, .int .i64 k] w (PairS (widR l t k).1 (widR l t k).2 w) := by
  unfold widR
  by_cases h : Ok l
  · by_cases hk : k < 1
    · simp only [h, hk, if_true]
      exact rWiden_range A n c l t k w hr h hk
    · by_cases hm : ((l.filter (ownB t)).length : Int) ≤ k
      · simp only [h, hk, hm, if_true, if_false]
        exact rWiden_good A n c l t k w hr h hk l (fun _ => rfl) (fun e => absurd hm e)
      · simp only [h, hk, hm, if_true, if_false]
        exact rWiden_good A n c l t k w hr h hk (widL l t) (fun e => absurd e hm) (fun _ => rfl)
  · simp only [h, if_false]
    exact rWiden_bad A n c l t k w hr h
end Go.Proofs.Ytmjcmeebcochgaa
