/- Rows put in order by the reference: the walk of its Sort. Conditions: rows and orders that are read in memory. -/
import Derived.Test.YtddeaiciochggaaQi
namespace Go.Proofs.Ytddeaiciochggaa
open Go.RowKit Go.Sort
set_option linter.unusedSimpArgs false
set_option linter.unusedVariables false

def Chk2 (w : World) (os : List Oq) (ls : List (List Vl)) (i : Value) (wr : World) : Prop :=
  ∃ j : Nat, i = .int .i64 j ∧ j ≤ ls.length ∧ (∀ r ∈ ls.take j, ∀ o ∈ os, okQ o r = true) ∧ Below w.heap.size w wr
def Chk3 (w : World) (os : List Oq) (r : List Vl) (i : Value) (wr : World) : Prop :=
  ∃ j : Nat, i = .int .i64 j ∧ j ≤ os.length ∧ (∀ o ∈ os.take j, okQ o r = true) ∧ Below w.heap.size w wr
/-- Where the insertion stands. -/
def Lp (w : World) (os : List Oq) (ls : List (List Vl)) (v i : Value) (wr : World) : Prop :=
  ∃ (j : Nat) (els : List El), i = .int .i64 j ∧ j ≤ ls.length ∧ Sof wr w.heap.size v els ∧ els.map El.r = So.sortL (ltQ os) (ls.take j) ∧ Below w.heap.size w wr
def Lq (W : World) (os : List Oq) (x : El) (els : List El) (i : Value) (wr : World) : Prop :=
  ∃ t : Nat, i = .int .i64 t ∧ t ≤ els.length ∧ (∀ j y, j < t → els[j]? = some y → So.ltc (El.cm os) x y = false) ∧ Below W.heap.size W wr
theorem own_norm {w : World} {B n : Nat} {v : Value} {xs ys : List Value} (h : w.ownsRow B 85 1 v n xs) (e : xs = ys) : Own w B v ys := by
  subst e
  have e2 : xs.length = n := by have := h.1; simpa using this
  unfold Own
  rw [e2]
  exact h
def RsPost (w : World) (os : List Oq) (ls : List (List Vl)) (k : Int) (e : Ending) (w' : World) : Prop := SrtPost w os ls k e w'
set_option maxRecDepth 100000 in
set_option maxHeartbeats 16000000 in
theorem rSort_any (A oA : Option Addr) (c oc : Nat) (ls : List (List Vl)) (os : List Oq) (k : Int) (w : World) (hr : RdR w A ls) (hA : A = none → ls.length = 0) (hn : ls.length * 24 ≤ 140737488355328 - 24) (ho : RdQ w oA os) (hon : os.length ≤ 140737488355328) (hk : k ≤ 9223372036854775807) :
    Calls Try.prog 16 #[.slice A ls.length c, .slice oA os.length oc, .int .i64 k] w (RsPost w os ls k) := by
  obtain ⟨i1, hi1, hy0, hy1, hy2⟩ := info_parts Try.infoR
  have hbds : ∀ r ∈ ls, r.length * 32 ≤ 140737488355328 := fun r hr' => by
    obtain ⟨i, hi, rfl⟩ := List.mem_iff_getElem.1 hr'
    obtain ⟨_, _, _, _, _, _, _, h⟩ := hr.at_ hi
    exact h
  have HBD := Lib.hid hbds
  have HR := Lib.hid hr
  have HO := Lib.hid ho
  have HAN := Lib.hid hA
  have HLE := Lib.hid (sortQ_len os ls)
  clear hr ho hA hbds
  go_enter Try.func16, Try.ntmps16
  go_wp2
  go_loopw [8] (fun i wr => Chk2 w os ls i wr) (fun i _ => ls.length - (intOf i).toNat)
  case atStart => exact ⟨0, rfl, by omega, by simp, Below.refl _ _⟩
  case round =>
    obtain ⟨j, rfl, hj, hok, hB⟩ := hrel
    have HOK := Lib.hid hok
    have HB := Lib.hid hB
    clear hok hB
    by_cases hlt : j < ls.length
    · have hlt' : (j : Int) < (ls.length : Int) := by omega
      have hrm := List.getElem_mem hlt
      have htm : ls.take (j + 1) = ls.take j ++ [ls[j]] := List.take_succ_eq_append_getElem hlt
      have HRM := Lib.hid hrm
      have HTM := Lib.hid htm
      clear hrm htm
      have HAT := Lib.hid fun (W : World) (hb : Below w.heap.size w W) => (HR.out.below hb).at_ hlt
      generalize ls[j] = r at HAT HRM HTM
      go_wp2_with fail
      generalize wr = W1 at *
      go_loopw [9] (fun i wr => Chk3 w os r i wr) (fun i _ => os.length - (intOf i).toNat)
      case atStart => exact ⟨0, rfl, by omega, by simp, HB.out⟩
      case round =>
        obtain ⟨m, rfl, hm, hokm, hB2⟩ := hrel
        have HOKM := Lib.hid hokm
        have HB2 := Lib.hid hB2
        clear hokm hB2
        by_cases hltm : m < os.length
        · have hltm' : (m : Int) < (os.length : Int) := by omega
          obtain ⟨ad, rfl, q0, _⟩ := (HO.out.below HB2.out).at_ hltm
          obtain ⟨rd, rB, rc, rfl, g0, _, _, gn⟩ := HAT.out _ HB2.out
          have hq0 := cell_lt q0
          have hg0 := cell_lt g0
          have hom := List.getElem_mem hltm
          have htk : os.take (m + 1) = os.take m ++ [os[m]] := List.take_succ_eq_append_getElem hltm
          have HOM := Lib.hid hom
          have HTK := Lib.hid htk
          clear hom htk
          generalize os[m] = o at q0 HOM HTK
          have p0 := cell_regrown q0
          have p1 := cell_regrown g0
          clear q0 g0
          by_cases h1 : o.n < 1
          · have hno : okQ o r = false := by unfold okQ; simp; omega
            have hal := allQ_no HOM.out HRM.out hno
            have HAL := Lib.hid hal
            have d1 : decide (o.n < 1) = true := decide_eq_true h1
            clear hal hno
            go_wp2_with fail
            refine wp_region_quiet_below (by kernel_rfl) (by kernel_rfl) ?_
            repeat (go_big_quiet_step (fail))
            refine wpQuiet_nil ?_
            intro w5 hw5
            obtain ⟨pp, rfl⟩ := hw5
            have HB5 := Lib.hid (thn HB2.out (below_regrown wr pp.d pp.os))
            generalize grow (redrawn wr pp.d) pp.os = W5 at HB5 ⊢
            go_wp2
            go_ret2
            exact ⟨fun h => absurd h (by rw [HAL.out]; decide), fun _ => rfl, HB5.out⟩
          · have d1 : decide (o.n < 1) = false := decide_eq_false h1
            by_cases h2 : (r.length : Int) < o.n
            · have hno : okQ o r = false := by unfold okQ; simp; omega
              have hal := allQ_no HOM.out HRM.out hno
              have HAL := Lib.hid hal
              have d2 : decide ((r.length : Int) < o.n) = true := decide_eq_true h2
              clear hal hno
              go_wp2_with fail
              refine wp_region_quiet_below (by kernel_rfl) (by kernel_rfl) ?_
              repeat (go_big_quiet_step (fail))
              refine wpQuiet_nil ?_
              intro w5 hw5
              obtain ⟨pp, rfl⟩ := hw5
              have HB5 := Lib.hid (thn HB2.out (below_regrown wr pp.d pp.os))
              generalize grow (redrawn wr pp.d) pp.os = W5 at HB5 ⊢
              go_wp2
              go_ret2
              exact ⟨fun h => absurd h (by rw [HAL.out]; decide), fun _ => rfl, HB5.out⟩
            · have d2 : decide ((r.length : Int) < o.n) = false := decide_eq_false h2
              have hyes : okQ o r = true := by unfold okQ; simp; omega
              have HY := Lib.hid hyes
              clear hyes
              go_wp2_with fail
              refine wp_region_quiet_below (by kernel_rfl) (by kernel_rfl) ?_
              repeat (go_big_quiet_step (fail))
              refine wpQuiet_nil ?_
              intro w5 hw5
              obtain ⟨pp, rfl⟩ := hw5
              have HB5 := Lib.hid (thn HB2.out (below_regrown wr pp.d pp.os))
              generalize grow (redrawn wr pp.d) pp.os = W5 at HB5 ⊢
              go_wp2
              go_roundw
              case rel => exact ⟨m + 1, by go_num, hltm, by
                rw [HTK.out]
                intro q hq
                rcases List.mem_append.1 hq with hq | hq
                · exact HOKM.out q hq
                · simp at hq; subst hq; exact HY.out, HB5.out⟩
              case measure => simp [intOf]; omega
        · obtain rfl : m = os.length := by omega
          go_wp2
          go_roundw
          case rel => exact ⟨j + 1, by go_num, hlt, by
            rw [HTM.out]
            intro q hq o ho
            rcases List.mem_append.1 hq with hq | hq
            · exact HOK.out q hq o ho
            · simp at hq; subst hq; exact HOKM.out o (by rw [List.take_length]; exact ho), HB2.out⟩
          case measure => simp [intOf]; omega
    · obtain rfl : j = ls.length := by omega
      have hall : allQ os ls = true := allQ_yes (by have := HOK.out; rw [List.take_length] at this; exact fun o ho r hr => this r hr o ho)
      have HALL := Lib.hid hall
      have HCP := Lib.hid (copied_any A c ls wr (HR.out.below HB.out) hn)
      clear hall
      go_upto_region 12 with (go_at_call 40; (with_reducible refine HCP.out.mono ?_); rintro e w2 ⟨va, csa, rfl, hfr, hb⟩; obtain ⟨A3, c3, rfl, hr3, hA3⟩ := hfr.rd HBD.out; have HR3 := Lib.hid hr3; have HB2 := Lib.hid (thn HB.out hb); clear hfr hr3 hA3 hb)
      clear HOK HB HCP
      go_loopw [10, 12] (fun v i wr => Lp w2 os ls v i wr) (fun _ i _ => ls.length - (intOf i).toNat)
      case atStart => exact ⟨0, [], rfl, by omega, ⟨World.ownsRow_nil _ _ _ _, fun x hx => by simp at hx⟩, rfl, Below.refl _ _⟩
      case round =>
        obtain ⟨j, els, rfl, hj, hS, he, hB⟩ := hrel
        have hlen : els.length = j := by
          have h1 := congrArg List.length he
          rw [List.length_map, sortQ_len, List.length_take] at h1
          omega
        have HSF := Lib.hid hS
        have HEL := Lib.hid he
        have HB := Lib.hid hB
        have HLN := Lib.hid hlen
        clear hS he hB hlen
        by_cases hlt : j < ls.length
        · have hlt' : (j : Int) < (ls.length : Int) := by omega
          obtain ⟨ad, rB, rc, rfl, g0, gr, gnil, gn⟩ := (HR3.out.below HB.out).at_ hlt
          have hg0 := cell_lt g0
          obtain ⟨x, hx⟩ : ∃ x : El, x = ⟨rB, rc, ls[j]⟩ := ⟨_, rfl⟩
          have hxr : x.r = ls[j] := by rw [hx]
          have g0' : wr.cell? (ad.add j) = some (.slice x.A x.r.length x.c) := by rw [hx]; exact g0
          have hxe : RdL wr x.A x.r ∧ (x.A = none → x.r.length = 0) ∧ x.r.length * 32 ≤ 140737488355328 := by rw [hx]; exact ⟨gr, gnil, gn⟩
          have hhx : Has os x.r := by rw [hxr]; exact allQ_has HALL.out _ (List.getElem_mem hlt)
          have hhe : ∀ y ∈ els, Has os y.r := fun y hy => by
            have h1 : y.r ∈ els.map El.r := List.mem_map_of_mem hy
            rw [HEL.out] at h1
            exact allQ_has HALL.out _ (List.mem_of_mem_take ((sortL_perm _ _).mem_iff.1 h1))
          have htk : So.sortL (ltQ os) (ls.take (j + 1)) = So.insL (ltQ os) x.r (So.sortL (ltQ os) (ls.take j)) := by
            rw [List.take_succ_eq_append_getElem hlt, sort_snoc, hxr]
          have HXE := Lib.hid hxe
          have HHX := Lib.hid hhx
          have HHE := Lib.hid hhe
          have HTK := Lib.hid htk
          have HXR := Lib.hid hxr
          have HG0 := Lib.hid g0'
          clear g0 gr gnil gn hx hxr hxe hhx hhe htk g0'
          rcases HSF.out.own.2 with ⟨rfl, h0⟩ | ⟨g, cap, cur, rfl, hgB, hgh, hnc, _⟩
          · rw [List.length_map] at h0
            have hj0 : j = 0 := by have := HLN.out; omega
            have he0 : els = [] := List.eq_nil_of_length_eq_zero h0
            have HE0 := Lib.hid he0
            subst hj0
            clear h0 he0
            go_wp2_with fail
            refine wp_loop_rounds 1 ?_
            rw [rounds_succ]
            go_wp2_with fail
            refine wp_region_quiet_below (by kernel_rfl) (by kernel_rfl) ?_
            repeat (go_big_quiet_step (fail))
            refine wpQuiet_nil ?_
            intro w5 hw5
            obtain ⟨pp, rfl⟩ := hw5
            have HB5 := Lib.hid (id (below_regrown wr pp.d pp.os))
            generalize grow (redrawn wr pp.d) pp.os = W5 at HB5 ⊢
            have HS5 := Lib.hid (HSF.out.below HB5.out)
            have HX5 := Lib.hid ((HB5.out.cell (cell_lt HG0.out)).trans HG0.out)
            have hxl5 := cell_lt HX5.out
            rw [add_block] at hxl5
            have HB5w := Lib.hid (thn HB.out HB5.out)
            have hwz : w2.heap.size ≤ W5.heap.size := HB5w.out.size
            have x5 := HX5.out
            have hxl5' := cell_lt x5
            have x5' := HX5.out
            rw [add0] at x5'
            go_upto_region 20 with (at_builtin; refine wpList_append_own_at _ rfl (.tmp 78) (.tmp 83) 50 rfl W5.heap.size 85 i1 (.slice none 0 0) 1 24 Try.underlying50 hi1 hy0 hy1 hy2 rfl (by decide) _ _ _ rfl (World.ownsRow_nil _ _ _ _) ⟨W5.heap.size, 0, none⟩ 1 1 [.slice x.A x.r.length x.c] rfl rfl (news_new0 W5 #[.slice x.A x.r.length x.c] 85 _ rfl) (by intro u hu; simp at hu; subst hu; rfl) (by unfold maxLen; omega) (by omega) (by simp) ?_; intro v3 w7 hown hg _ _; have HOW := Lib.hid hown; have HGR := Lib.hid hg; clear hown hg)
            go_wp2_with (at_builtin; refine wpList_append_own_none rfl (.tmp 85) (.tmp 88) 50 rfl W5.heap.size 85 i1 1 Try.underlying50 hi1 _ _ _ rfl HOW.out rfl ?_)
            have hB7 : Below W5.heap.size W5 w7 := (below1 W5 _).grown HGR.out (by simp) (fun b hb => by cases hb)
            go_roundw
            case rel =>
              refine ⟨1, [x], by go_num, hlt, ⟨own_le (by simpa [Elv] using HOW.out) hwz, fun z hz => by simp at hz; subst hz; exact ⟨HXE.out.1.below (thn HB5.out hB7), HXE.out.2⟩⟩, ?_, thn HB5w.out hB7⟩
              rw [HTK.out, ← HEL.out, HE0.out]
              rfl
            case measure => simp [intOf]; omega
          · rw [List.length_map] at hnc
            have hlj : els.length = j := HLN.out
            rw [hlj] at hnc
            have HGL := Lib.hid ((HSF.out.own.lt g rfl).2)
            rw [List.length_map, hlj] at HSF ⊢
            clear hgh hlj
            go_wp2_with fail
            generalize hW1 : wr = W1 at *
            clear hW1
            go_loopw [13] (fun i wr => Lq W1 os x els i wr) (fun i _ => els.length - (intOf i).toNat)
            case atStart => exact ⟨0, rfl, by omega, fun _ _ h => by omega, Below.refl _ _⟩
            case round =>
              obtain ⟨t, rfl, ht, hno, hB2⟩ := hrel
              have HNO := Lib.hid hno
              have HB2' := Lib.hid hB2
              have hlj : els.length = j := HLN.out
              clear hno hB2
              by_cases htl : t < j
              · have htl' : (t : Int) < (j : Int) := by omega
                have hte : t < els.length := by omega
                have hS := HSF.out.below HB2'.out
                have hyy := List.getElem?_eq_getElem hte
                have hyc := hS.own.cells (g := g) rfl t (Elv els[t]) (by rw [List.getElem?_map, hyy]; rfl)
                rw [add_lit, Nat.zero_add] at hyc
                unfold Elv at hyc
                have hye := hS.rd els[t] (List.getElem_mem hte)
                have hyh := HHE.out els[t] (List.getElem_mem hte)
                have hx2 := (HB2'.out.cell (cell_lt HG0.out)).trans HG0.out
                have p0 := cell_regrown hx2
                have p1 := cell_regrown hyc
                have HBF := Lib.hid fun (d : Nat) (os' : Array Obj) => before_any x.A els[t].A oA x.c els[t].c oc x.r els[t].r os (grow (redrawn wr d) os') ((HXE.out.1.below HB2'.out).below (below_regrown wr d os')) (hye.1.below (below_regrown wr d os')) ((HO.out.below (thn (thn HB2.out HB.out) HB2'.out)).below (below_regrown wr d os')) HHX.out hyh HXE.out.2.2 hye.2.2 (by omega)
                have HYY := Lib.hid hyy
                have hgl := cell_lt hyc
                have hxl := cell_lt hx2
                clear hS hyc hye hyh hx2 hyy hlj
                have hlv : So.ltc (El.cm os) x els[t] = decide (cmR os x.r els[t].r < 0) := rfl
                have HLV := Lib.hid hlv
                clear hlv
                generalize els[t] = y at HBF HYY HLV p1
                by_cases hlt0 : cmR os x.r y.r < 0
                · have hd : decide (cmR os x.r y.r < 0) = true := decide_eq_true hlt0
                  have INS : Hid (So.insL (So.ltc (El.cm os)) x els = els.take t ++ x :: els.drop t) := Lib.hid (ins_at _ x els t (by have := HLN.out; omega) HNO.out (fun z hz => by
                    rw [HYY.out] at hz
                    injection hz with hz
                    rw [← hz, HLV.out]; exact hd))
                  go_wp2_with fail
                  refine wp_region_quiet_below (by kernel_rfl) (by kernel_rfl) ?_
                  repeat (go_big_quiet_step ((with_reducible exact Calls.regrown_of (HBF.out _ _))))
                  refine wpQuiet_nil ?_
                  intro w5 hw5
                  obtain ⟨pp, rfl⟩ := hw5
                  have HB5 := Lib.hid (thn HB2'.out (below_regrown wr pp.d pp.os))
                  clear p0 p1 HBF HYY HLV
                  generalize grow (redrawn wr pp.d) pp.os = W5 at HB5 ⊢
                  have HS5 := Lib.hid (HSF.out.below HB5.out)
                  have HX5 := Lib.hid ((HB5.out.cell (cell_lt HG0.out)).trans HG0.out)
                  have hxl5 := cell_lt HX5.out
                  rw [add_block] at hxl5
                  have HB5w := Lib.hid (thn HB.out HB5.out)
                  have hwz : w2.heap.size ≤ W5.heap.size := HB5w.out.size
                  have x5 := HX5.out
                  have hxl5' := cell_lt x5
                  have hgW : g < W5.heap.size := by have := HGL.out; have := HB5.out.size; omega
                  have hnews : ∀ (i : Nat) (u : Value), ((els.take t).map Elv)[i]? = some u → W5.cell? ((⟨g, 0, none⟩ : Addr).add i) = some u := fun i u hu => by
                    have h := HS5.out.own.cells (g := g) rfl i u (by
                      rw [List.map_take] at hu
                      have hi : i < t := by
                        have := (List.getElem?_eq_some_iff.1 hu).1
                        simp at this; omega
                      rwa [List.getElem?_take_of_lt hi] at hu)
                    exact h
                  have htl2 : ((els.take t).map Elv).length = t * 1 := by rw [List.length_map, List.length_take]; have := HLN.out; omega
                  have HNW := Lib.hid hnews
                  have HT2 := Lib.hid htl2
                  clear hnews htl2
                  go_upto_region 19 with (at_builtin; refine wpList_append_own_at _ rfl (.tmp 73) (.tmp 76) 50 rfl W5.heap.size 85 i1 (.slice none 0 0) 1 24 Try.underlying50 hi1 hy0 hy1 hy2 rfl (by decide) _ _ _ rfl (World.ownsRow_nil _ _ _ _) ⟨g, 0, none⟩ t cap ((els.take t).map Elv) rfl HT2.out HNW.out (elv_one _) (by unfold maxLen; omega) (by omega) (Nat.le_refl _) ?_; intro v1 w6 hown hg _ _; have HOW := Lib.hid hown; have hB6 : Below W5.heap.size W5 w6 := (Below.refl _ _).grown hg (Nat.le_refl _) (fun b hb => by cases hb); have HB6 := Lib.hid hB6; clear hown hg hB6)
                  have x6 := (HB6.out.cell hxl5').trans x5
                  have hxl6 := cell_lt x6
                  rw [add_block] at hxl6
                  have hs6 := HB6.out.size
                  go_upto_region 20 with (at_builtin; refine wpList_append_own_at _ rfl (.tmp 78) (.tmp 83) 50 rfl W5.heap.size 85 i1 (.slice none 0 0) 1 24 Try.underlying50 hi1 hy0 hy1 hy2 rfl (by decide) _ _ _ rfl (HOW.out.alloc _) ⟨w6.heap.size, 0, none⟩ 1 1 [.slice x.A x.r.length x.c] rfl rfl (news_new0 w6 #[.slice x.A x.r.length x.c] 85 _ rfl) (by intro u hu; simp at hu; subst hu; rfl) (by unfold maxLen; omega) (by omega) (by simp; omega) ?_; intro v2 w7 hown hg _ _; have HOW2 := Lib.hid hown; have hB7 : Below W5.heap.size W5 w7 := (HB6.out.alloc hs6 _).grown hg (by simp; omega) (fun b hb => (HOW.out.lt b hb).1); have HB7 := Lib.hid hB7; clear hown hg hB7)
                  have hs7 := HB7.out.size
                  by_cases hcp : cap = t
                  · have hct : t = cap := hcp.symm
                    have htj : t = j := by omega
                    subst hct
                    subst htj
                    have htj' : t - t = 0 := by omega
                    go_wp2_with (at_builtin; refine wpList_append_own_at _ rfl (.tmp 85) (.tmp 88) 50 rfl W5.heap.size 85 i1 (.slice none 0 0) 1 24 Try.underlying50 hi1 hy0 hy1 hy2 rfl (by decide) _ _ _ rfl HOW2.out ⟨g, 0, none⟩ 0 0 [] rfl (by simp) (by simp) (by simp) (by unfold maxLen; omega) (by omega) hs7 ?_)
                    intro v3 w8 hown hg _ _
                    have HOW3 := Lib.hid hown
                    have hB8 : Below W5.heap.size W5 w8 := HB7.out.grown hg hs7 (fun b hb => (HOW2.out.lt b hb).1)
                    have HB8 := Lib.hid hB8
                    clear hown hg hB8
                    go_wp2
                    go_roundw
                    case rel =>
                      refine ⟨t + 1, els.take t ++ x :: els.drop t, by go_num, hlt, ⟨own_le (own_norm HOW3.out (by (have hd : els.drop t = [] := List.drop_eq_nil_of_le (by have := HLN.out; omega)); rw [hd]; simp [Elv])) hwz, fun z hz => ?_⟩, ?_, thn HB5w.out HB8.out⟩
                      · rcases List.mem_append.1 hz with hz | hz
                        · have := HS5.out.rd z (List.mem_of_mem_take hz)
                          exact ⟨this.1.below HB8.out, this.2⟩
                        · rcases List.mem_cons.1 hz with hz | hz
                          · subst hz
                            exact ⟨HXE.out.1.below (thn HB5.out HB8.out), HXE.out.2⟩
                          · have := HS5.out.rd z (List.mem_of_mem_drop hz)
                            exact ⟨this.1.below HB8.out, this.2⟩
                      · rw [HTK.out, ← HEL.out, ← ins_map, INS.out]
                    case measure => simp [intOf]; omega
                  · have hnews : ∀ (i : Nat) (u : Value), ((els.drop t).map Elv)[i]? = some u → w7.cell? ((⟨g, t, none⟩ : Addr).add i) = some u := fun i u hu => by
                      have h := HS5.out.own.cells (g := g) rfl (t + i) u (by
                        rw [List.map_drop, List.getElem?_drop] at hu
                        exact hu)
                      rw [add_lit, Nat.zero_add] at h
                      rw [add_lit]
                      exact (HB7.out.cell (p := ⟨g, t + i, none⟩) hgW).trans h
                    have htl3 : ((els.drop t).map Elv).length = (j - t) * 1 := by rw [List.length_map, List.length_drop]; have := HLN.out; omega
                    have HNW3 := Lib.hid hnews
                    have HT3 := Lib.hid htl3
                    clear hnews htl3
                    go_wp2_with (at_builtin; refine wpList_append_own_at _ rfl (.tmp 85) (.tmp 88) 50 rfl W5.heap.size 85 i1 (.slice none 0 0) 1 24 Try.underlying50 hi1 hy0 hy1 hy2 rfl (by decide) _ _ _ rfl HOW2.out ⟨g, t, none⟩ (j - t) (cap - t) ((els.drop t).map Elv) rfl HT3.out HNW3.out (elv_one _) (by unfold maxLen; omega) (by omega) hs7 ?_)
                    intro v3 w8 hown hg _ _
                    have HOW3 := Lib.hid hown
                    have hB8 : Below W5.heap.size W5 w8 := HB7.out.grown hg hs7 (fun b hb => (HOW2.out.lt b hb).1)
                    have HB8 := Lib.hid hB8
                    clear hown hg hB8
                    go_wp2
                    go_roundw
                    case rel =>
                      refine ⟨j + 1, els.take t ++ x :: els.drop t, by go_num, hlt, ⟨own_le (own_norm HOW3.out (by simp [Elv])) hwz, fun z hz => ?_⟩, ?_, thn HB5w.out HB8.out⟩
                      · rcases List.mem_append.1 hz with hz | hz
                        · have := HS5.out.rd z (List.mem_of_mem_take hz)
                          exact ⟨this.1.below HB8.out, this.2⟩
                        · rcases List.mem_cons.1 hz with hz | hz
                          · subst hz
                            exact ⟨HXE.out.1.below (thn HB5.out HB8.out), HXE.out.2⟩
                          · have := HS5.out.rd z (List.mem_of_mem_drop hz)
                            exact ⟨this.1.below HB8.out, this.2⟩
                      · rw [HTK.out, ← HEL.out, ← ins_map, INS.out]
                    case measure => simp [intOf]; omega
                · have hd : decide (cmR os x.r y.r < 0) = false := decide_eq_false hlt0
                  go_wp2_with fail
                  refine wp_region_quiet_below (by kernel_rfl) (by kernel_rfl) ?_
                  repeat (go_big_quiet_step ((with_reducible exact Calls.regrown_of (HBF.out _ _))))
                  refine wpQuiet_nil ?_
                  intro w5 hw5
                  obtain ⟨pp, rfl⟩ := hw5
                  have HB5 := Lib.hid (thn HB2'.out (below_regrown wr pp.d pp.os))
                  clear p0 p1 HBF
                  generalize grow (redrawn wr pp.d) pp.os = W5 at HB5 ⊢
                  go_wp2
                  go_roundw
                  case rel => exact ⟨t + 1, by go_num, by have := HLN.out; omega, fun i z hi hz => by
                    by_cases e : i = t
                    · subst e
                      rw [HYY.out] at hz
                      injection hz with hz
                      rw [← hz, HLV.out]; exact hd
                    · exact HNO.out i z (by omega) hz, HB5.out⟩
                  case measure => simp [intOf]; omega
              · have htj1 : t ≤ j := by have := HLN.out; omega
                have INS : Hid (So.insL (So.ltc (El.cm os)) x els = els.take t ++ x :: els.drop t) := Lib.hid (ins_at _ x els t (by have := HLN.out; omega) HNO.out (fun z hz => by
                  rw [List.getElem?_eq_none (by have := HLN.out; omega)] at hz
                  cases hz))
                have htl' : ¬ ((t : Int) < (j : Int)) := by omega
                have hd0 : decide ((t : Int) < (j : Int)) = false := decide_eq_false htl'
                go_wp2_with fail
                refine wp_region_quiet_below (by kernel_rfl) (by kernel_rfl) ?_
                repeat (go_big_quiet_step (fail))
                refine wpQuiet_nil ?_
                intro w5 hw5
                obtain ⟨pp, rfl⟩ := hw5
                have HB5 := Lib.hid (thn HB2'.out (below_regrown wr pp.d pp.os))
                generalize grow (redrawn wr pp.d) pp.os = W5 at HB5 ⊢
                clear htl htl' hd0 ht
                have HS5 := Lib.hid (HSF.out.below HB5.out)
                have HX5 := Lib.hid ((HB5.out.cell (cell_lt HG0.out)).trans HG0.out)
                have hxl5 := cell_lt HX5.out
                rw [add_block] at hxl5
                have HB5w := Lib.hid (thn HB.out HB5.out)
                have hwz : w2.heap.size ≤ W5.heap.size := HB5w.out.size
                have x5 := HX5.out
                have hxl5' := cell_lt x5
                have hgW : g < W5.heap.size := by have := HGL.out; have := HB5.out.size; omega
                have hnews : ∀ (i : Nat) (u : Value), ((els.take t).map Elv)[i]? = some u → W5.cell? ((⟨g, 0, none⟩ : Addr).add i) = some u := fun i u hu => by
                  have h := HS5.out.own.cells (g := g) rfl i u (by
                    rw [List.map_take] at hu
                    have hi : i < t := by
                      have := (List.getElem?_eq_some_iff.1 hu).1
                      simp at this; omega
                    rwa [List.getElem?_take_of_lt hi] at hu)
                  exact h
                have htl2 : ((els.take t).map Elv).length = t * 1 := by rw [List.length_map, List.length_take]; have := HLN.out; omega
                have HNW := Lib.hid hnews
                have HT2 := Lib.hid htl2
                clear hnews htl2
                go_upto_region 19 with (at_builtin; refine wpList_append_own_at _ rfl (.tmp 73) (.tmp 76) 50 rfl W5.heap.size 85 i1 (.slice none 0 0) 1 24 Try.underlying50 hi1 hy0 hy1 hy2 rfl (by decide) _ _ _ rfl (World.ownsRow_nil _ _ _ _) ⟨g, 0, none⟩ t cap ((els.take t).map Elv) rfl HT2.out HNW.out (elv_one _) (by unfold maxLen; omega) (by omega) (Nat.le_refl _) ?_; intro v1 w6 hown hg _ _; have HOW := Lib.hid hown; have hB6 : Below W5.heap.size W5 w6 := (Below.refl _ _).grown hg (Nat.le_refl _) (fun b hb => by cases hb); have HB6 := Lib.hid hB6; clear hown hg hB6)
                have x6 := (HB6.out.cell hxl5').trans x5
                have hxl6 := cell_lt x6
                rw [add_block] at hxl6
                have hs6 := HB6.out.size
                go_upto_region 20 with (at_builtin; refine wpList_append_own_at _ rfl (.tmp 78) (.tmp 83) 50 rfl W5.heap.size 85 i1 (.slice none 0 0) 1 24 Try.underlying50 hi1 hy0 hy1 hy2 rfl (by decide) _ _ _ rfl (HOW.out.alloc _) ⟨w6.heap.size, 0, none⟩ 1 1 [.slice x.A x.r.length x.c] rfl rfl (news_new0 w6 #[.slice x.A x.r.length x.c] 85 _ rfl) (by intro u hu; simp at hu; subst hu; rfl) (by unfold maxLen; omega) (by omega) (by simp; omega) ?_; intro v2 w7 hown hg _ _; have HOW2 := Lib.hid hown; have hB7 : Below W5.heap.size W5 w7 := (HB6.out.alloc hs6 _).grown hg (by simp; omega) (fun b hb => (HOW.out.lt b hb).1); have HB7 := Lib.hid hB7; clear hown hg hB7)
                have hs7 := HB7.out.size
                by_cases hcp : cap = t
                · have hct : t = cap := hcp.symm
                  have htj : t = j := by omega
                  subst hct
                  subst htj
                  have htj' : t - t = 0 := by omega
                  go_wp2_with (at_builtin; refine wpList_append_own_at _ rfl (.tmp 85) (.tmp 88) 50 rfl W5.heap.size 85 i1 (.slice none 0 0) 1 24 Try.underlying50 hi1 hy0 hy1 hy2 rfl (by decide) _ _ _ rfl HOW2.out ⟨g, 0, none⟩ 0 0 [] rfl (by simp) (by simp) (by simp) (by unfold maxLen; omega) (by omega) hs7 ?_)
                  intro v3 w8 hown hg _ _
                  have HOW3 := Lib.hid hown
                  have hB8 : Below W5.heap.size W5 w8 := HB7.out.grown hg hs7 (fun b hb => (HOW2.out.lt b hb).1)
                  have HB8 := Lib.hid hB8
                  clear hown hg hB8
                  go_wp2
                  go_roundw
                  case rel =>
                    refine ⟨t + 1, els.take t ++ x :: els.drop t, by go_num, hlt, ⟨own_le (own_norm HOW3.out (by (have hd : els.drop t = [] := List.drop_eq_nil_of_le (by have := HLN.out; omega)); rw [hd]; simp [Elv])) hwz, fun z hz => ?_⟩, ?_, thn HB5w.out HB8.out⟩
                    · rcases List.mem_append.1 hz with hz | hz
                      · have := HS5.out.rd z (List.mem_of_mem_take hz)
                        exact ⟨this.1.below HB8.out, this.2⟩
                      · rcases List.mem_cons.1 hz with hz | hz
                        · subst hz
                          exact ⟨HXE.out.1.below (thn HB5.out HB8.out), HXE.out.2⟩
                        · have := HS5.out.rd z (List.mem_of_mem_drop hz)
                          exact ⟨this.1.below HB8.out, this.2⟩
                    · rw [HTK.out, ← HEL.out, ← ins_map, INS.out]
                  case measure => simp [intOf]; omega
                · have hnews : ∀ (i : Nat) (u : Value), ((els.drop t).map Elv)[i]? = some u → w7.cell? ((⟨g, t, none⟩ : Addr).add i) = some u := fun i u hu => by
                    have h := HS5.out.own.cells (g := g) rfl (t + i) u (by
                      rw [List.map_drop, List.getElem?_drop] at hu
                      exact hu)
                    rw [add_lit, Nat.zero_add] at h
                    rw [add_lit]
                    exact (HB7.out.cell (p := ⟨g, t + i, none⟩) hgW).trans h
                  have htl3 : ((els.drop t).map Elv).length = (j - t) * 1 := by rw [List.length_map, List.length_drop]; have := HLN.out; omega
                  have HNW3 := Lib.hid hnews
                  have HT3 := Lib.hid htl3
                  clear hnews htl3
                  go_wp2_with (at_builtin; refine wpList_append_own_at _ rfl (.tmp 85) (.tmp 88) 50 rfl W5.heap.size 85 i1 (.slice none 0 0) 1 24 Try.underlying50 hi1 hy0 hy1 hy2 rfl (by decide) _ _ _ rfl HOW2.out ⟨g, t, none⟩ (j - t) (cap - t) ((els.drop t).map Elv) rfl HT3.out HNW3.out (elv_one _) (by unfold maxLen; omega) (by omega) hs7 ?_)
                  intro v3 w8 hown hg _ _
                  have HOW3 := Lib.hid hown
                  have hB8 : Below W5.heap.size W5 w8 := HB7.out.grown hg hs7 (fun b hb => (HOW2.out.lt b hb).1)
                  have HB8 := Lib.hid hB8
                  clear hown hg hB8
                  go_wp2
                  go_roundw
                  case rel =>
                    refine ⟨j + 1, els.take t ++ x :: els.drop t, by go_num, hlt, ⟨own_le (own_norm HOW3.out (by simp [Elv])) hwz, fun z hz => ?_⟩, ?_, thn HB5w.out HB8.out⟩
                    · rcases List.mem_append.1 hz with hz | hz
                      · have := HS5.out.rd z (List.mem_of_mem_take hz)
                        exact ⟨this.1.below HB8.out, this.2⟩
                      · rcases List.mem_cons.1 hz with hz | hz
                        · subst hz
                          exact ⟨HXE.out.1.below (thn HB5.out HB8.out), HXE.out.2⟩
                        · have := HS5.out.rd z (List.mem_of_mem_drop hz)
                          exact ⟨this.1.below HB8.out, this.2⟩
                    · rw [HTK.out, ← HEL.out, ← ins_map, INS.out]
                  case measure => simp [intOf]; omega
        · obtain rfl : j = ls.length := by omega
          obtain ⟨Av, cv, hv, hcv, hrd, hnn⟩ := HSF.out.rdr
          have he2 : els.map El.r = So.sortL (ltQ os) ls := by have := HEL.out; rwa [List.take_length] at this
          have hlj : els.length = ls.length := HLN.out
          rw [hlj] at hv hcv hnn
          subst hv
          have HEL2 := Lib.hid he2
          have HRD := Lib.hid hrd
          have HNN := Lib.hid hnn
          have HBW := Lib.hid (thn HB2.out HB.out)
          have hsl : (els.map El.r).length = ls.length := by rw [List.length_map]; exact hlj
          have HSL := Lib.hid hsl
          clear he2 hrd hnn hlj hsl
          by_cases hk0 : 0 ≤ k
          · by_cases hkl : k < (ls.length : Int)
            · obtain ⟨q, rfl⟩ : ∃ q : Nat, k = q := ⟨k.toNat, by omega⟩
              have HLM : Hid (limQ (q : Int) (els.map El.r) = (els.map El.r).take q) := Lib.hid (by unfold limQ; rw [if_pos hk0, Int.toNat_natCast])
              have HLX : Hid (q = ((els.map El.r).take q).length) := Lib.hid (by rw [List.length_take, HSL.out]; omega)
              have HRX := Lib.hid (HRD.out.take q)
              have hqc : q ≤ cv := by omega
              have d1 : decide ((q : Int) < (ls.length : Int)) = true := decide_eq_true hkl
              go_wp2
              go_ret2
              exact ⟨fun _ => ⟨_, _, cv, rfl, by rw [← HEL2.out, HLM.out]; exact HLX.out, by rw [← HEL2.out, HLM.out]; exact HRX.out, fun e => by have := HNN.out e; omega⟩, fun h => absurd h (by rw [HALL.out]; decide), HBW.out⟩
            · have HLM : Hid (limQ k (els.map El.r) = els.map El.r) := Lib.hid (by unfold limQ; rw [if_pos hk0, List.take_of_length_le (by rw [HSL.out]; omega)])
              have HLX : Hid (ls.length = (els.map El.r).length) := Lib.hid HSL.out.symm
              have HRX := HRD
              have d1 : decide (k < (ls.length : Int)) = false := decide_eq_false hkl
              go_wp2
              go_ret2
              exact ⟨fun _ => ⟨_, _, cv, rfl, by rw [← HEL2.out, HLM.out]; exact HLX.out, by rw [← HEL2.out, HLM.out]; exact HRX.out, HNN.out⟩, fun h => absurd h (by rw [HALL.out]; decide), HBW.out⟩
          · have HLM : Hid (limQ k (els.map El.r) = els.map El.r) := Lib.hid (by unfold limQ; rw [if_neg hk0])
            have HLX : Hid (ls.length = (els.map El.r).length) := Lib.hid HSL.out.symm
            have HRX := HRD
            go_wp2
            go_ret2
            exact ⟨fun _ => ⟨_, _, cv, rfl, by rw [← HEL2.out, HLM.out]; exact HLX.out, by rw [← HEL2.out, HLM.out]; exact HRX.out, HNN.out⟩, fun h => absurd h (by rw [HALL.out]; decide), HBW.out⟩
end Go.Proofs.Ytddeaiciochggaa
