/- The reference's Read and Drop over any state: the walks. Conditions: a state that is read in memory. -/
import Derived.Test.YtmjcmeebcochgaaXd
namespace Go.Proofs.Ytmjcmeebcochgaa
open Go.RowKit Go.Sort Go.Maps
set_option linter.unusedSimpArgs false
set_option linter.unusedVariables false

theorem Frn.newR (w : World) (A : Option Addr) (n c : Nat) : Frn w ((w.alloc (.cells #[.slice A n c] 24)).alloc (.cells #[.slice none 0 0] 24)) w.heap.size (w.heap.size + 1) A n c := by
  have b1 := below1 w (.cells #[.slice A n c] 24)
  have b2 := below1 (w.alloc (.cells #[.slice A n c] 24)) (.cells #[.slice none 0 0] 24)
  have e1 : (w.alloc (.cells #[.slice A n c] 24)).heap.size = w.heap.size + 1 := by simp
  exact ⟨cell_keep (cell_last w _ _ _ 0 rfl) b2, cell_last _ _ _ _ 0 e1.symm, World.frozen?_alloc_at _ _ _ 0 e1.symm, thn b1 b2, by omega⟩
theorem Frn.list_ {w W : World} {gs gr : Nat} {A A' : Option Addr} {n c n' c' : Nat} {E : Int} {l : List Lk} (h : Frn w W gs gr A n c) (hr : Rd W A' n' c' l) : PairS l E w (.returned (.tuple #[.agg #[.slice A' n' c'], .int .i64 E])) (W.setCell ⟨gr, 0, none⟩ (.slice A' n' c')) :=
  ⟨_, _, _, rfl, hr.slot h.r _, h.b.setCell (p := ⟨gr, 0, none⟩) h.g _⟩
set_option maxRecDepth 100000 in
set_option maxHeartbeats 8000000 in
theorem rRead_any (A : Option Addr) (n c : Nat) (l : List Lk) (t : Int) (k : Key) (h : k.s.size + 1 ≤ 140737488355328) (w : World) (hr : Rd w A n c l) :
    Calls Try.prog 13 #[.agg #[.slice A n c], .int .i64 t, .string k.s] w (PairS (addR l (rdL t k h)).1 (addR l (rdL t k h)).2 w) := by
  have HF0 := Lib.hid (Frn.newR w A n c)
  have HA := Lib.hid fun W (hb : Below w.heap.size w W) => rAdd_any A n c l (rdL t k h) W (hr.below hb)
  unfold rdL at HA
  have HE : Hid (addR l (rdL t k h) = addR l ⟨t, k, ⟨k.s ++ ⟨#[0]⟩, key0_size k h⟩⟩) := Lib.hid rfl
  rw [HE.out]
  clear HE
  generalize addR l ⟨t, k, ⟨k.s ++ ⟨#[0]⟩, key0_size k h⟩⟩ = R at *
  obtain ⟨m, E⟩ := R
  simp only at HA ⊢
  clear hr
  go_enter Try.func13, Try.ntmps13
  go_upto_region 1 with fail
  generalize (w.alloc (.cells #[.slice A n c] 24)).alloc (.cells #[.slice none 0 0] 24) = W0 at *
  generalize w.heap.size + 1 = gr at *
  have hs := HF0.out.s
  go_wp2_with (go_at_call 11; (with_reducible refine (HA.out _ HF0.out.b).mono ?_); rintro e w1 ⟨A1, n1, c1, rfl, hr1, hb⟩; have HF1 := Lib.hid (HF0.out.below hb); have HR1 := Lib.hid hr1; have hq1 := HF1.out.r; have hf1 := HF1.out.f; have r0 := set_same (.slice A1 n1 c1) hq1; clear hb hr1)
  exact bodyPost_ret (v := .tuple #[.agg #[.slice A1 n1 c1], .int .i64 E]) (by simp [results, Try.results13, go_sem, r0]) rfl (HF1.out.list_ HR1.out)
set_option maxRecDepth 100000 in
set_option maxHeartbeats 8000000 in
theorem rDrop_bad (A : Option Addr) (n c : Nat) (l : List Lk) (t : Int) (w : World) (hr : Rd w A n c l) (h : ¬ Ok l) :
    Calls Try.prog 17 #[.agg #[.slice A n c], .int .i64 t] w (PairS [] 9 w) := by
  have HF0 := Lib.hid (Frn.newR w A n c)
  have HC := Lib.hid fun W (hb : Below w.heap.size w W) => rCheck_any A n c l W (hr.below hb)
  rw [chk_bad h] at HC
  clear hr h
  go_enter Try.func17, Try.ntmps17
  go_upto_region 1 with fail
  generalize (w.alloc (.cells #[.slice A n c] 24)).alloc (.cells #[.slice none 0 0] 24) = W0 at *
  generalize w.heap.size + 1 = gr at *
  have hs := HF0.out.s
  go_upto_region 2 with (go_at_call 23; (with_reducible refine (HC.out _ HF0.out.b).mono ?_); rintro e w1 ⟨rfl, hb⟩; have HF1 := Lib.hid (HF0.out.below hb); clear hb)
  have hr1 := HF1.out.r
  have hf1 := HF1.out.f
  have r0 := set_same (.slice none 0 0) hr1
  go_wp2
  exact bodyPost_ret (v := .tuple #[.agg #[.slice none 0 0], .int .i64 9]) (by simp [results, Try.results17, go_sem, r0]) rfl HF1.out.none_
set_option maxRecDepth 100000 in
set_option maxHeartbeats 8000000 in
theorem rDrop_ok (A : Option Addr) (n c : Nat) (l : List Lk) (t : Int) (w : World) (hr : Rd w A n c l) (h : Ok l) :
    Calls Try.prog 17 #[.agg #[.slice A n c], .int .i64 t] w (PairS (l.filter fun a => !ownB t a) 0 w) := by
  obtain ⟨i0, hi, hz0, hz1, hz2⟩ := info_parts Try.infoR
  have hl := hr.len
  have hcap := hr.cap
  have hl5 := h.1
  subst hl
  have HF0 := Lib.hid (Frn.newR w A l.length c)
  have HR := Lib.hid hr
  have HC := Lib.hid fun W (hb : Below w.heap.size w W) => rCheck_any A l.length c l W (hr.below hb)
  rw [chk_good h] at HC
  clear hr h
  go_enter Try.func17, Try.ntmps17
  go_upto_region 1 with fail
  generalize (w.alloc (.cells #[.slice A l.length c] 24)).alloc (.cells #[.slice none 0 0] 24) = W0 at *
  generalize w.heap.size + 1 = gr at *
  have hs := HF0.out.s
  go_upto_region 3 with (go_at_call 23; (with_reducible refine (HC.out _ HF0.out.b).mono ?_); rintro e w1 ⟨rfl, hb⟩; have HF1 := Lib.hid (HF0.out.below hb); clear hb)
  clear hs HF0 HC
  have b3 := below1 w1 (.cells #[.slice none 0 0] 24)
  have hF2 := HF1.out.below b3
  have hof : OfF w (w1.alloc (.cells #[.slice none 0 0] 24)) (w1.heap.size + 1) w.heap.size gr w1.heap.size A l.length c (.slice none 0 0) :=
    ⟨hF2.s, hF2.r, hF2.f, cell_last _ _ _ _ 0 rfl, World.frozen?_alloc_at _ _ _ 0 rfl, hF2.b, by simp⟩
  have HOF := Lib.hid hof
  have hgs0 : w.heap.size < w1.heap.size := cell_lt HF1.out.s
  have hgr0 : gr < w1.heap.size := cell_lt HF1.out.r
  have hgr1 := HF1.out.g
  go_upto_region 4 with fail
  generalize w1.alloc (.cells #[.slice none 0 0] 24) = W3 at *
  generalize hgo : w1.heap.size = go at *
  have HG := Lib.hid (show w.heap.size < go + 1 ∧ gr < go + 1 ∧ go < go + 1 ∧ w.heap.size ≤ go + 1 ∧ w.heap.size ≠ go ∧ gr ≠ go ∧ w.heap.size ≤ go ∧ w.heap.size ≤ gr by omega)
  clear hgo b3 hF2 hof HF1 hgs0 hgr0 hgr1
  go_wp2
  go_loopw [7] (fun i wr => ∃ (j : Nat) (A1 : Option Addr) (c1 : Nat), i = .int .i64 j ∧ j ≤ l.length ∧ OfF w wr (go + 1) w.heap.size gr go A l.length c (.slice A1 ((l.take j).filter fun a => !ownB t a).length c1) ∧ wr.ownsRow (go + 1) 26 3 (.slice A1 ((l.take j).filter fun a => !ownB t a).length c1) ((l.take j).filter fun a => !ownB t a).length (lks ((l.take j).filter fun a => !ownB t a))) (fun i _ => l.length - (intOf i).toNat)
  case atStart => exact ⟨0, none, 0, rfl, by omega, HOF.out, World.ownsRow_nil _ _ _ _⟩
  case round =>
    obtain ⟨j, A1, c1, rfl, hj, hF, hO⟩ := hrel
    have HO := Lib.hid hO
    have HF := Lib.hid hF
    clear hO hF HOF
    have hs0 := HF.out.s
    have ho0 := HF.out.o
    have hgl : go < wr.heap.size := cell_lt ho0
    have hgl2 : w.heap.size < wr.heap.size := cell_lt hs0
    by_cases hlt : j < l.length
    · obtain ⟨ad, rfl, c0, c1', c2⟩ := (HR.out.below HF.out.b).at_ hlt
      have hb0 := cell_lt c0
      rw [add_block] at hb0
      have HST := Lib.hid (filter_step (p := fun a => !ownB t a) hlt)
      have hm2 := Nat.le_trans (flt_len (fun a => !ownB t a) l j) hl5
      generalize (l.take j).filter (fun a => !ownB t a) = F at *
      generalize l[j] = v at *
      have HM2 := Lib.hid hm2
      clear hm2
      have hjl : (j : Int) < (l.length : Int) := by omega
      by_cases hvt : v.t = t
      · have hq : (v.t != t) = false := by simpa using hvt
        have HS1 : Hid (((l.take (j + 1)).filter fun a => !ownB t a) = F) := Lib.hid (by rw [HST.out]; simp [ownB, hvt])
        clear hvt
        go_wp2_with fail
        go_roundw
        case rel => exact ⟨j + 1, A1, c1, by go_num, hlt, by rw [HS1.out]; exact HF.out, by rw [HS1.out]; exact HO.out⟩
        case measure => simp [intOf]; omega
      · have hq : (v.t != t) = true := by simpa using hvt
        have HS1 : Hid (((l.take (j + 1)).filter fun a => !ownB t a) = F ++ [v]) := Lib.hid (by rw [HST.out]; simp [ownB, hvt])
        clear hvt
        go_upto_region 8 with fail
        have hbx := (below1 wr (.cells #[.int .i64 v.t, .string v.lo.s, .string v.hi.s] 26)).drew
        have HO1 := Lib.hid (own_below HO.out hbx)
        have HF1 := Lib.hid (HF.out.below hbx)
        have HNW : Hid (∀ j u, (lks [v])[j]? = some u → (wr.alloc (.cells #[.int .i64 v.t, .string v.lo.s, .string v.hi.s] 26)).drew.cell? ((⟨wr.heap.size, 0, none⟩ : Addr).add j) = some u) := Lib.hid (fun j u hu => by
          rw [add_lit, Nat.zero_add]
          refine (cell_last wr _ _ _ _ rfl).trans ?_
          rw [← hu]
          simp [lks, lkC])
        clear hbx
        go_region_law (refine step_append_own rfl (.tmp 28) (.tmp 34) 22 rfl (go + 1) 26 i0 (.agg #[.int .i64 0, .string ⟨#[]⟩, .string ⟨#[]⟩]) 3 40 Try.underlying22 hi hz0 hz1 hz2 rfl (by decide) (.slice A1 F.length c1) F.length (lks F) rfl HO1.out ⟨wr.heap.size, 0, none⟩ 1 1 (lks [v]) rfl rfl HNW.out (lks_one _) (by have := HM2.out; unfold maxLen; omega) (by have := HM2.out; omega) HF1.out.z ?_; intro v' w5 hown hg; have hown' : w5.ownsRow (go + 1) 26 3 v' (F.length + 1) (lks (F ++ [v])) := (by rw [lks_app]; exact hown); obtain ⟨A2, c2, rfl, _⟩ := Rd.of_own hown'; have HOWN := Lib.hid hown'; have HF5 := Lib.hid (HF1.out.grown hg (fun k hk => (HO1.out.lt k hk).1) HG.out.1 HG.out.2.1 HG.out.2.2.1 HG.out.2.2.2.1); have g5 := HF5.out.o; have gf5 := HF5.out.of; clear hown hown' hg)
        all_goals
          have HF6 := Lib.hid (HF5.out.set (.slice A2 (F.length + 1) c2) HG.out.2.2.2.2.1 HG.out.2.2.2.2.2.1 HG.out.2.2.2.2.2.2.1)
          have HO6 := Lib.hid (own_setR HOWN.out (g := go) (by omega) 0 (.slice A2 (F.length + 1) c2))
          clear g5 gf5 HF5 HOWN
          go_wp2
          go_roundw
          case rel => exact ⟨j + 1, A2, c2, by go_num, hlt, by rw [HS1.out, List.length_append]; exact HF6.out, by rw [HS1.out, List.length_append]; exact HO6.out⟩
          case measure => simp [intOf]; omega
    · obtain rfl : j = l.length := by omega
      have ho := HO.out
      rw [List.take_length] at ho
      obtain ⟨A5, c5, e5, h5⟩ := Rd.of_own ho
      injection e5 with e1 _ e2
      subst e1 e2
      have HR5 := Lib.hid h5
      have ho1 := HF.out.o
      rw [List.take_length] at ho0 ho1
      generalize hFE : (l.filter fun a => !ownB t a) = F at *
      have HFE := Lib.hid hFE
      clear ho h5 hFE
      have hr1 := HF.out.r
      have hf1 := HF.out.f
      have r0 := set_same (.slice A1 F.length c1) hr1
      go_wp2
      exact bodyPost_ret (v := .tuple #[.agg #[.slice A1 F.length c1], .int .i64 0]) (by simp [results, Try.results17, go_sem, r0]) rfl ⟨A1, F.length, c1, rfl, by first | exact HR5.out.slot hr1 _ | (rw [HFE.out]; exact HR5.out.slot hr1 _), HF.out.b.setCell (p := ⟨gr, 0, none⟩) HG.out.2.2.2.2.2.2.2 _⟩
/-- The reference's Drop at every state. -/
theorem rDrop_any (A : Option Addr) (n c : Nat) (l : List Lk) (t : Int) (w : World) (hr : Rd w A n c l) :
    Calls Try.prog 17 #[.agg #[.slice A n c], .int .i64 t] w (PairS (drpR l t).1 (drpR l t).2 w) := by
  unfold drpR
  by_cases h : Ok l
  · simp only [h, if_true]
    exact rDrop_ok A n c l t w hr h
  · simp only [h, if_false]
    exact rDrop_bad A n c l t w hr h
end Go.Proofs.Ytmjcmeebcochgaa
