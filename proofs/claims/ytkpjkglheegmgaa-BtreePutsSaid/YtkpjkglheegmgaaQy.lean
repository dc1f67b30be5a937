/- A tree told by the program and by the document: the walk of BtreeTells. Conditions: a state that is read in memory, whose lists a machine can hold. -/
import Derived.Test.YtkpjkglheegmgaaQw
import Derived.Test.YtkpjkglheegmgaaQx
namespace Go.Proofs.Ytkpjkglheegmgaa
open Go.RowKit Go.Sort
set_option linter.unusedSimpArgs false
set_option linter.unusedVariables false

theorem num_b (e : Int) (w : World) (hb : -9223372036854775808 ≤ e ∧ e ≤ 9223372036854775807) : Calls Try.prog 15 #[.int .i64 e] w fun r w' => r = .returned (.int .i64 e) ∧ Below w.heap.size w w' :=
  (num_any e w hb).mono fun r w' ⟨h, hw⟩ => ⟨h, hw ▸ Below.refl _ _⟩
theorem check_sum (nodes : List Nd) (n c : Nat) (A : Option Addr) (root : Int) (w : World) (hS : RdS w A n nodes) (hW : Wfn nodes) (hr : -9223372036854775808 ≤ root ∧ root ≤ 9223372036854775807) :
    Calls Try.prog 16 #[.agg #[.slice A n c, .int .i64 root]] w fun e w' => e = .returned (.int .i64 (errR (rdS nodes root))) ∧ Below w.heap.size w w' := check_state nodes n c A root w hS hW hr
/-- What a state has under a key. -/
def atK (R : Option (Nat × Tr)) (k : Key) : Option Key := match R with
  | none => none
  | some (m, t) => look k (prs m t)
theorem get_sum (nodes : List Nd) (n c : Nat) (A : Option Addr) (root : Int) (k : Key) (w : World) (hS : RdS w A n nodes) (hW : Wfn nodes) (hr : -9223372036854775808 ≤ root ∧ root ≤ 9223372036854775807) :
    Calls Try.prog 13 #[.agg #[.slice A n c, .int .i64 root], .string k.s] w fun e w' => e = .returned (.tuple #[.string ((atK (rdS nodes root) k).elim ⟨#[]⟩ Key.s), .bool (atK (rdS nodes root) k).isSome, .int .i64 (errR (rdS nodes root))]) ∧ Below w.heap.size w w' := by
  refine (get_state nodes n c A root k w hS hW hr).mono ?_
  rintro e w' ⟨hb, he⟩
  cases hR : rdS nodes root with
  | none => rw [hR] at he; exact ⟨he, hb⟩
  | some r =>
    obtain ⟨m, t⟩ := r
    rw [hR] at he
    have hg : getT m t k = look k (prs m t) := get_look m k (rdS_ok hR).1
    simp only [hg] at he
    exact ⟨he, hb⟩
theorem look_snoc {l : List Pr} (k : Key) (ha : Asc (l.map (·.1))) {j : Nat} (h : j < l.length) : look k (l.take (j + 1)) = if l[j].1 = k then some l[j].2 else look k (l.take j) := by
  rw [List.take_succ_eq_append_getElem h]
  by_cases e : l[j].1 = k
  · rw [if_pos e, look_append]
    · simp [look, e]
    · intro p hp
      obtain ⟨i, hi, rfl⟩ := List.getElem_of_mem hp
      simp only [List.length_take] at hi
      have := ha.get (i := i) (j := j) (by omega) (by simpa using h)
      simp only [List.getElem_map] at this
      rw [List.getElem_take]
      grind
  · rw [if_neg e, look_ahead]
    intro p hp
    rw [List.mem_singleton.1 hp]
    exact e
set_option maxRecDepth 100000 in
set_option maxHeartbeats 8000000 in
theorem kTells_any (nodes : List Nd) (n c : Nat) (A : Option Addr) (root : Int) (k u : Key) (w : World) (hS : RdS w A n nodes) (hRe : Reach nodes) (hW : Wfn nodes) (hr : -9223372036854775808 ≤ root ∧ root ≤ 9223372036854775807) :
    Calls Try.prog 3 #[.agg #[.slice A n c, .int .i64 root], .string k.s, .string u.s] w fun e w' => e = .returned (.bool true) ∧ Below w.heap.size w w' := by
  have HAL := Lib.hid alive_any
  have hlen := rngL_len (nodes := nodes) (root := root) k u
  have hdp := (depD_facts nodes root).1
  have HOF := Lib.hid fun (W : World) (hb : Below w.heap.size w W) => of_any nodes n c A root W (hS.below hb) hRe
  have HRG := Lib.hid fun (A : Option Addr) (c : Nat) (W : World) (h : RdS W A n nodes) => range_sum nodes n c A root k u W h hW hr
  have HRR := Lib.hid fun (W : World) (hb : Below w.heap.size w W) => rangeR_any nodes n c A root k u W (hS.below hb) hRe hW hr
  have HDG := Lib.hid fun (A : Option Addr) (c : Nat) (W : World) (h : RdS W A n nodes) => depth_sum nodes n c A root W h hW hr
  have HDR := Lib.hid fun (W : World) (hb : Below w.heap.size w W) => depthR_any nodes n c A root W (hS.below hb) hRe hW hr
  have HGG := Lib.hid fun (A : Option Addr) (c : Nat) (W : World) (h : RdS W A n nodes) => get_sum nodes n c A root k W h hW hr
  have HCG := Lib.hid fun (A : Option Addr) (c : Nat) (W : World) (h : RdS W A n nodes) => check_sum nodes n c A root W h hW hr
  have HCR := Lib.hid fun (W : World) (hb : Below w.heap.size w W) => checkR_any nodes n c A root W (hS.below hb) hRe hW hr
  have HPR := Lib.hid fun (W : World) (hb : Below w.heap.size w W) m t hR => pairsR_any nodes n c A root W (hS.below hb) hRe hW hr m t hR
  have HST := Lib.hid fun (A1 : Option Addr) (c1 : Nat) (W : World) (hb : Below w.heap.size w W) (h : RdS W A1 n nodes) => stays_any nodes n c1 c A1 A root W h (hS.below hb)
  have hway : rdS nodes root = none ∨ ∃ m t, rdS nodes root = some (m, t) ∧ Asc ((prs m t).map (·.1)) ∧ (prs m t).length ≤ 2048 := by
    cases hR : rdS nodes root with
    | none => exact .inl rfl
    | some r =>
      obtain ⟨m, t⟩ := r
      exact .inr ⟨m, t, rfl, prs_asc _ _ _ _ (rdS_ok hR).1, (rdS_ok hR).2.1⟩
  have HWAY := Lib.hid hway
  clear hS hRe hW hr hway
  generalize rdS nodes root = R at *
  have hef := errR_fits R
  generalize hE : errR R = E at *
  generalize hD : depD R = D at *
  generalize hX : rngL R k u = X at *
  generalize hG : atK R k = G at *
  generalize hs : G.elim ⟨#[]⟩ Key.s = S at *
  generalize hq : G.isSome = Q at *
  have HES := Lib.hid (And.intro hE (And.intro hG (And.intro hs hq)))
  clear hE hD hX hG hs hq
  go_enter Try.func3, Try.ntmps3
  go_upto_region 2 with (first
    | (go_at_call 8; (with_reducible refine (HOF.out _ (below1 _ _)).mono ?_); rintro e w1 ⟨A1, c1, rfl, hs1, hb1⟩; have HS1 := Lib.hid hs1; have HB1 := Lib.hid hb1; clear hb1 hs1))
  have hsz1 := HB1.out.size
  simp only [World.size_alloc] at hsz1
  have hb2 : Below w.heap.size w (w1.alloc (.cells #[.slice A1 n c1, .int .i64 root] 27)) := (thn (below1 w _) HB1.out).alloc (by omega) _
  have hT : Two (w1.alloc (.cells #[.slice A1 n c1, .int .i64 root] 27)) w1.heap.size (.slice A1 n c1) root := heap_alloc_new w1 _
  have hU : TwoR (w1.alloc (.cells #[.slice A1 n c1, .int .i64 root] 27)) w.heap.size (.slice A n c) root := (Below.heap_alloc w1 _ w.heap.size (by omega)).trans ((HB1.out.block w.heap.size (by simp)).trans (heap_alloc_new w _))
  have hS2 := HS1.out.below (below1 w1 (.cells #[.slice A1 n c1, .int .i64 root] 27))
  have HK := Lib.hid (And.intro hT (And.intro hU (And.intro hS2 hb2)))
  obtain ⟨y0, y1, _, _⟩ := hT.cells
  obtain ⟨z0, z1⟩ := hU.cells
  clear hT hU hS2 hb2 HS1 HB1 HOF hsz1
  generalize w1.alloc (.cells #[.slice A1 n c1, .int .i64 root] 27) = w2 at *
  generalize w1.heap.size = b7 at *
  go_upto_region 3 with (first
    | (go_at_call 9; (with_reducible refine (HRG.out A1 c1 _ HK.out.2.2.1).mono ?_); rintro e w3 ⟨A3, c3, rfl, hp3, _, hb3⟩; have HP3 := Lib.hid hp3; have HB3 := Lib.hid hb3; clear hp3 hb3))
  have y0 := cell_keep y0 HB3.out
  have y1 := cell_keep y1 HB3.out
  have z0 := cell_keep z0 HB3.out
  have z1 := cell_keep z1 HB3.out
  go_upto_region 4 with (first
    | (go_at_call 10; (with_reducible refine (HRR.out _ (thn HK.out.2.2.2 HB3.out)).mono ?_); rintro e w4 ⟨A4, c4, rfl, hp4, hb4⟩; have HP4 := Lib.hid hp4; have HB4 := Lib.hid (HB3.out.trans (hb4.mono HB3.out.size)); have HP3 := Lib.hid (HP3.out.below hb4); have y0 := cell_keep y0 hb4; have y1 := cell_keep y1 hb4; have z0 := cell_keep z0 hb4; have z1 := cell_keep z1 hb4; clear hp4 hb4))
  go_upto_region 5 with (first
    | (go_at_call 11; (with_reducible refine (HDG.out A1 c1 _ (HK.out.2.2.1.below HB4.out)).mono ?_); rintro e w5 ⟨rfl, hb5⟩; have HP4 := Lib.hid (HP4.out.below hb5); have HB5 := Lib.hid (HB4.out.trans (hb5.mono HB4.out.size)); have HP3 := Lib.hid (HP3.out.below hb5); have y0 := cell_keep y0 hb5; have y1 := cell_keep y1 hb5; have z0 := cell_keep z0 hb5; have z1 := cell_keep z1 hb5; clear hb5))
  go_upto_region 6 with (first
    | (go_at_call 12; (with_reducible refine (HDR.out _ (thn HK.out.2.2.2 HB5.out)).mono ?_); rintro e w6 ⟨rfl, hb6⟩; have HP4 := Lib.hid (HP4.out.below hb6); have HB6 := Lib.hid (HB5.out.trans (hb6.mono HB5.out.size)); have HP3 := Lib.hid (HP3.out.below hb6); have y0 := cell_keep y0 hb6; have y1 := cell_keep y1 hb6; have z0 := cell_keep z0 hb6; have z1 := cell_keep z1 hb6; clear hb6))
  go_upto_region 7 with (first
    | (go_at_call 13; (with_reducible refine (HGG.out A1 c1 _ (HK.out.2.2.1.below HB6.out)).mono ?_); rintro e w7 ⟨rfl, hb7⟩; have HP4 := Lib.hid (HP4.out.below hb7); have HB7 := Lib.hid (HB6.out.trans (hb7.mono HB6.out.size)); have HP3 := Lib.hid (HP3.out.below hb7); have y0 := cell_keep y0 hb7; have y1 := cell_keep y1 hb7; have z0 := cell_keep z0 hb7; have z1 := cell_keep z1 hb7; clear hb7))
  have hbr := fun d os => HB7.out.trans ((below_regrown w7 d os).mono HB7.out.size)
  have c14 := fun d os => samePairs_any A3 A4 c3 c4 _ _ X X (grow (redrawn w7 d) os) (HP3.out.below (below_regrown w7 d os)) (HP4.out.below (below_regrown w7 d os))
  rw [decide_eq_true rfl] at c14
  have c15 := fun d os => num_b E (grow (redrawn w7 d) os) hef
  have c16 := fun d os => HCG.out A1 c1 (grow (redrawn w7 d) os) (HK.out.2.2.1.below (hbr d os))
  have c17 := fun d os => HCR.out (grow (redrawn w7 d) os) (thn HK.out.2.2.2 (hbr d os))
  have Y0 := cell_regrown y0
  have Y1 := cell_regrown y1
  have Z0 := cell_regrown z0
  have Z1 := cell_regrown z1
  have hEE : (E != E) = false := by simp
  have hDD : ((D : Int) != (D : Int)) = false := by simp
  clear y0 y1 z0 z1 hbr HRG HRR HDG HDR HGG HCG HCR HP3 HP4 HB3 HB4 HB5 HB6
  refine wp_region_quiet_below (by kernel_rfl) (by kernel_rfl) ?_
  repeat (go_big_quiet_step (first | (with_reducible exact Calls.regrown_of (c14 _ _)) | (with_reducible exact Calls.regrown_of (c15 _ _)) | (with_reducible exact Calls.regrown_of (c16 _ _)) | (with_reducible exact Calls.regrown_of (c17 _ _))))
  refine wpQuiet_nil ?_
  intro w8 hw8
  obtain ⟨p, rfl⟩ := hw8
  have HB8 := Lib.hid (HB7.out.trans ((below_regrown w7 p.d p.os).mono HB7.out.size))
  clear c14 c15 c16 c17 Y0 Y1 Z0 Z1 hEE hDD HB7
  generalize grow (redrawn w7 p.d) p.os = W8 at HB8 ⊢
  obtain ⟨e1, he1⟩ : ∃ e1, (E == 0) = e1 := ⟨_, rfl⟩
  have HE1 := Lib.hid he1
  go_upto_if 92 with fail
  clear he1
  go_cut [19, 20] (fun a b wx => a = .string S ∧ b = .bool Q ∧ Below W8.heap.size W8 wx)
  case first =>
    rcases HWAY.out with hR | ⟨m, t, hR, ha, hpl⟩
    · have h1 : e1 = false := by rw [← HE1.out, ← HES.out.1, hR]; rfl
      have h2 : S = ⟨#[]⟩ := by rw [← HES.out.2.2.1, ← HES.out.2.1, hR]; rfl
      have h3 : Q = false := by rw [← HES.out.2.2.2, ← HES.out.2.1, hR]; rfl
      have H2 := Lib.hid h2
      have H3 := Lib.hid h3
      clear hR h2 h3
      subst h1
      go_wp2
      go_meet
      exact ⟨by rw [H2.out], by rw [H3.out], Below.refl _ _⟩
    · have h1 : e1 = true := by rw [← HE1.out, ← HES.out.1, hR]; rfl
      have h4 : look k (prs m t) = G := by rw [← HES.out.2.1, hR]; rfl
      have HP := Lib.hid (HPR.out W8 (thn HK.out.2.2.2 HB8.out) m t hR)
      have H4 := Lib.hid h4
      have HA := Lib.hid ha
      have hU := HK.out.2.1
      obtain ⟨z0, z1⟩ := (show TwoR W8 w.heap.size (.slice A n c) root from (HB8.out.block _ (heap_lt hU)).trans hU).cells
      clear hR h4 ha hU HPR
      subst h1
      generalize prs m t = l at *
      go_upto_region 12 with (first
        | (go_at_call 18; (with_reducible refine HP.out.mono ?_); rintro e w9 ⟨A9, c9, rfl, hp9, hb9⟩; have HP9 := Lib.hid hp9; have HB9 := Lib.hid hb9; clear hp9 hb9))
      clear z0 z1 HP
      go_wp2
      go_loopw [19, 20, 22] (fun a b i wr => ∃ j : Nat, i = .int .i64 j ∧ j ≤ l.length ∧ wr = w9 ∧ a = .string ((look k (l.take j)).elim ⟨#[]⟩ Key.s) ∧ b = .bool (look k (l.take j)).isSome) (fun _ _ i _ => l.length - (intOf i).toNat)
      case atStart => exact ⟨0, rfl, by omega, by trivial, rfl, rfl⟩
      case round =>
        obtain ⟨j, rfl, hj, rfl, rfl, rfl⟩ := hrel
        by_cases hlt : j < l.length
        · have hlt' : (j : Int) < (l.length : Int) := by omega
          have hwj : IntKind.i64.wrap ((j : Int) + 1) = (j : Int) + 1 := IntWalk.i64_in _ (by omega)
          obtain ⟨ad, rfl, a0, a1⟩ := HP9.out.at_ j hlt
          have HL := Lib.hid (look_snoc k HA.out hlt)
          generalize l[j] = p at *
          obtain ⟨pk, pv⟩ := p
          simp only at *
          by_cases he : pk = k
          · subst he
            have H5 := Lib.hid (show look pk (l.take (j + 1)) = some pv by rw [HL.out, if_pos rfl])
            clear HL
            go_wp2
            go_roundw
            case rel => exact ⟨j + 1, by go_num, hlt, by trivial, by rw [H5.out]; rfl, by rw [H5.out]; rfl⟩
            case measure => simp [intOf]; omega
          · have he2 : (pk.s.toList == k.s.toList) = false := beq_false_of_ne fun h => he (key_eq.1 h)
            have H5 := Lib.hid (show look k (l.take (j + 1)) = look k (l.take j) by rw [HL.out, if_neg he])
            clear HL he
            go_wp2
            go_roundw
            case rel => exact ⟨j + 1, by go_num, hlt, by trivial, by rw [H5.out], by rw [H5.out]⟩
            case measure => simp [intOf]; omega
        · obtain rfl : j = l.length := by omega
          have hlt' : ¬ ((l.length : Int) < (l.length : Int)) := by omega
          go_wp2
          go_meet
          exact ⟨by rw [H4.out, HES.out.2.2.1], by rw [H4.out, HES.out.2.2.2], HB9.out⟩
  case rest =>
    obtain ⟨rfl, rfl, hbc⟩ := hcut
    have hB9 := HB8.out.trans (hbc.mono HB8.out.size)
    have hT := HK.out.1
    have hU := HK.out.2.1
    obtain ⟨y0, y1, _, _⟩ := (hT.below hB9).cells
    obtain ⟨z0, z1⟩ := (show TwoR wc w.heap.size (.slice A n c) root from (hB9.block _ (heap_lt hU)).trans hU).cells
    have HS9 := Lib.hid (HST.out A1 c1 wc (thn HK.out.2.2.2 hB9) (HK.out.2.2.1.below hB9))
    have HB9 := Lib.hid (HK.out.2.2.2.trans (hB9.mono HK.out.2.2.2.size))
    clear hbc hB9 hT hU HST
    go_wp2_with (first
      | (go_at_call 19; (with_reducible refine HS9.out.mono ?_); rintro e wd ⟨rfl, hbd⟩; have HBD := Lib.hid hbd; clear hbd)
      | (go_at_call 20; (with_reducible refine (HAL.out _).mono ?_); rintro e we ⟨rfl, hbe⟩; have HBE := Lib.hid hbe; clear hbe))
    go_ret
    exact ⟨rfl, thn (thn HB9.out HBD.out) HBE.out⟩
end Go.Proofs.Ytkpjkglheegmgaa
