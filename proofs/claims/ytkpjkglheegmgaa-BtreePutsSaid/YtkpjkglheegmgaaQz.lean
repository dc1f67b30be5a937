/- A pair put into a tree, by the program and by the document: the walk of BtreePuts. Conditions: a state that is read in memory, whose lists a machine can hold. -/
import Derived.Test.YtkpjkglheegmgaaQh
import Derived.Test.YtkpjkglheegmgaaQy
/- A laid state has few keys in each node. Conditions: none. -/
namespace Go.Proofs.Ytkpjkglheegmgaa
open Go.RowKit
set_option linter.unusedSimpArgs false
set_option linter.unusedVariables false

/-- Nodes of few keys. -/
def Few (nodes : List Nd) : Prop := ∀ x ∈ nodes, x.ks.length ≤ 1000000 ∧ x.vs.length ≤ 1000000 ∧ x.kids.length ≤ 1000000
theorem lay_fewx : ∀ (n : Nat) {a b : Nat} {lo hi : Bd} {t : Tr} (acc : List Nd), Ok n a b lo hi t → b ≤ 100 → Few acc → Few (lay n t acc)
  | 0, a, b, lo, hi, t, acc, h, hb, hf => fun x hx => by
    have h1 := h.len
    have h2 : t.vs.length = t.ks.length := h.shape
    rcases List.mem_append.1 hx with hx | hx
    · exact hf x hx
    · obtain rfl := List.mem_singleton.1 hx
      exact ⟨by dsimp only; omega, by dsimp only; omega, by simp⟩
  | n + 1, a, b, lo, hi, t, acc, h, hb, hf => by
    have go : ∀ (cs : List Tr) (acc : List Nd), (∀ c ∈ cs, ∃ l u, Ok n 2 4 l u c) → Few acc → Few (layK (lay n) cs acc).1 := by
      intro cs
      induction cs with
      | nil => exact fun acc _ h => h
      | cons c cs ih =>
        intro acc hc hf
        obtain ⟨l, u, ho⟩ := hc c (by simp)
        exact ih _ (fun c' hc' => hc c' (by simp [hc'])) (lay_fewx n acc ho (by omega) hf)
    have h1 := h.len
    have h2 : t.vs = [] := h.2.2.2.1
    have h3 := h.kids
    intro x hx
    rcases List.mem_append.1 hx with hx | hx
    · exact go t.cs acc (fun c hc => h.kid hc) hf x hx
    · obtain rfl := List.mem_singleton.1 hx
      have h4 := layK_kids (lay n) t.cs acc
      exact ⟨by dsimp only; omega, by dsimp only; rw [h2]; simp, by dsimp only; omega⟩
theorem layS_few {n : Nat} {t : Tr} (h : Good n t) : Few (layS n t).1 := by
  unfold layS
  split
  · exact fun x hx => nomatch hx
  · exact lay_fewx n [] h (by omega) fun x hx => nomatch hx
end Go.Proofs.Ytkpjkglheegmgaa
namespace Go.Proofs.Ytkpjkglheegmgaa
open Go.RowKit Go.Sort
set_option linter.unusedSimpArgs false
set_option linter.unusedVariables false

theorem few_reach {nodes : List Nd} (h : Few nodes) (hl : nodes.length ≤ 1000000) : Reach nodes :=
  ⟨by omega, fun x hx => by obtain ⟨h1, h2, h3⟩ := h x hx; exact ⟨by omega, by omega, by omega⟩⟩
/-- What Put answers, in one form. -/
def PutOut (R : Option (Nat × Tr)) (k v : Key) (w' : World) (A2 : Option Addr) (n2 : Nat) (r2 F : Int) : Prop :=
  (R = none ∧ F = 9 ∧ n2 = 0) ∨ (∃ m t, R = some (m, t) ∧ 2048 < (aft k v false (prs m t)).length ∧ F = 51 ∧ n2 = 0) ∨
    ∃ m t m' t', R = some (m, t) ∧ (aft k v false (prs m t)).length ≤ 2048 ∧ F = 0 ∧ Good m' t' ∧ prs m' t' = aft k v false (prs m t) ∧ n2 = (layS m' t').1.length ∧ r2 = (layS m' t').2 ∧ RdS w' A2 n2 (layS m' t').1
theorem put_sum (nodes : List Nd) (n c : Nat) (A : Option Addr) (root : Int) (k v : Key) (w : World) (hS : RdS w A n nodes) (hW : Wfn nodes) (hr : -9223372036854775808 ≤ root ∧ root ≤ 9223372036854775807) :
    Calls Try.prog 21 #[.agg #[.slice A n c, .int .i64 root], .string k.s, .string v.s] w fun e w' => ∃ A2 n2 c2 r2 F, e = .returned (.tuple #[.agg #[.slice A2 n2 c2, .int .i64 r2], .int .i64 F]) ∧ PutOut (rdS nodes root) k v w' A2 n2 r2 F ∧ Below w.heap.size w w' := by
  refine (put_state nodes n c A root k v w hS hW hr).mono ?_
  rintro e w' ⟨hb, he⟩
  cases hR : rdS nodes root with
  | none =>
    rw [hR] at he
    exact ⟨none, 0, 0, 0, 9, he, .inl ⟨rfl, rfl, rfl⟩, hb⟩
  | some r =>
    obtain ⟨m, t⟩ := r
    rw [hR] at he
    dsimp only at he
    have hG := (rdS_ok hR).1
    obtain ⟨_, p2, _, _⟩ := put_ok m hG k v (ge_none k) (bel_none k) (by omega)
    rw [p2] at he
    by_cases h1 : 2048 < (aft k v false (prs m t)).length
    · rw [if_pos h1] at he
      exact ⟨none, 0, 0, 0, 51, he, .inr (.inl ⟨m, t, rfl, h1, rfl, rfl⟩), hb⟩
    · rw [if_neg h1] at he
      obtain ⟨s, rfl, hst⟩ := he
      obtain ⟨g1, g2, _⟩ := put_good hG k v
      obtain ⟨A2, c2, rfl, hrd⟩ := hst.rd
      exact ⟨A2, _, c2, _, 0, rfl, .inr (.inr ⟨m, t, _, _, rfl, by omega, rfl, g1, g2, rfl, rfl, hrd⟩), hb⟩
set_option maxRecDepth 100000 in
set_option maxHeartbeats 8000000 in
theorem kPuts_any (nodes : List Nd) (n c : Nat) (A : Option Addr) (root : Int) (k v : Key) (w : World) (hS : RdS w A n nodes) (hRe : Reach nodes) (hW : Wfn nodes) (hr : -9223372036854775808 ≤ root ∧ root ≤ 9223372036854775807) :
    Calls Try.prog 4 #[.agg #[.slice A n c, .int .i64 root], .string k.s, .string v.s] w fun e w' => e = .returned (.bool true) ∧ Below w.heap.size w w' := by
  have HAL := Lib.hid alive_any
  have HN9 := Lib.hid fun (W : World) => num_any 9 W (by omega)
  have HN51 := Lib.hid fun (W : World) => num_any 51 W (by omega)
  have HN0 := Lib.hid fun (W : World) => num_any 0 W (by omega)
  have HOF := Lib.hid fun (W : World) (hb : Below w.heap.size w W) => of_any nodes n c A root W (hS.below hb) hRe
  have HPU := Lib.hid fun (A : Option Addr) (c : Nat) (W : World) (h : RdS W A n nodes) => put_sum nodes n c A root k v W h hW hr
  have HCR := Lib.hid fun (W : World) (hb : Below w.heap.size w W) => checkR_any nodes n c A root W (hS.below hb) hRe hW hr
  have HPR := Lib.hid fun (W : World) (hb : Below w.heap.size w W) m t hR => pairsR_any nodes n c A root W (hS.below hb) hRe hW hr m t hR
  have HST := Lib.hid fun (A1 : Option Addr) (c1 : Nat) (W : World) (hb : Below w.heap.size w W) (h : RdS W A1 n nodes) => stays_any nodes n c1 c A1 A root W h (hS.below hb)
  have HPL := Lib.hid fun (m : Nat) (t : Tr) (h : rdS nodes root = some (m, t)) => (rdS_ok h).2.1
  clear hS hRe hW hr
  generalize rdS nodes root = R at *
  go_enter Try.func4, Try.ntmps4
  go_upto_region 2 with (first
    | (go_at_call 8; (with_reducible refine (HOF.out _ (below1 _ _)).mono ?_); rintro e w1 ⟨A1, c1, rfl, hs1, hb1⟩; have HS1 := Lib.hid hs1; have HB1 := Lib.hid hb1; clear hb1 hs1))
  have hsz1 := HB1.out.size
  simp only [World.size_alloc] at hsz1
  have hb2 : Below w.heap.size w (w1.alloc (.cells #[.slice A1 n c1, .int .i64 root] 27)) := (thn (below1 w _) HB1.out).alloc (by omega) _
  have hT : Two (w1.alloc (.cells #[.slice A1 n c1, .int .i64 root] 27)) w1.heap.size (.slice A1 n c1) root := heap_alloc_new w1 _
  have hU : TwoR (w1.alloc (.cells #[.slice A1 n c1, .int .i64 root] 27)) w.heap.size (.slice A n c) root := (Below.heap_alloc w1 _ w.heap.size (by omega)).trans ((HB1.out.block w.heap.size (by simp)).trans (heap_alloc_new w _))
  have hS2 := HS1.out.below (below1 w1 (.cells #[.slice A1 n c1, .int .i64 root] 27))
  have HK := Lib.hid (And.intro hT (And.intro hU (And.intro hS2 hb2)))
  obtain ⟨y0, y1, _, _⟩ := hT.cells
  clear hT hU hS2 hb2 HS1 HB1 HOF hsz1
  generalize w1.alloc (.cells #[.slice A1 n c1, .int .i64 root] 27) = w2 at *
  generalize w1.heap.size = b7 at *
  go_upto_region 3 with (first
    | (go_at_call 21; (with_reducible refine (HPU.out A1 c1 _ HK.out.2.2.1).mono ?_); rintro e w3 ⟨A2, n2, c2, r2, F, rfl, ho3, hb3⟩; have HO3 := Lib.hid ho3; have HB3 := Lib.hid hb3; clear ho3 hb3))
  have hb4 := HB3.out.alloc HB3.out.size (.cells #[.slice A2 n2 c2, .int .i64 r2] 27)
  have hV : Two (w3.alloc (.cells #[.slice A2 n2 c2, .int .i64 r2] 27)) w3.heap.size (.slice A2 n2 c2) r2 := heap_alloc_new w3 _
  have HO4 := Lib.hid (show PutOut R k v (w3.alloc (.cells #[.slice A2 n2 c2, .int .i64 r2] 27)) A2 n2 r2 F from by
    rcases HO3.out with h | h | ⟨m, t, m', t', h1, h2, h3, h4, h5, h6, h7, h8⟩
    · exact .inl h
    · exact .inr (.inl h)
    · exact .inr (.inr ⟨m, t, m', t', h1, h2, h3, h4, h5, h6, h7, h8.below (below1 _ _)⟩))
  have HV := Lib.hid hV
  have HB4 := Lib.hid hb4
  have y0 := cell_keep y0 hb4
  have y1 := cell_keep y1 hb4
  have hU := HK.out.2.1
  obtain ⟨z0, z1⟩ := (show TwoR (w3.alloc (.cells #[.slice A2 n2 c2, .int .i64 r2] 27)) w.heap.size (.slice A n c) root from (hb4.block _ (heap_lt hU)).trans hU).cells
  clear hV hb4 hU HO3 HB3 HPU
  generalize w3.alloc (.cells #[.slice A2 n2 c2, .int .i64 r2] 27) = w4 at *
  generalize w3.heap.size = b8 at *
  go_upto_region 5 with (first
    | (go_at_call 19; (with_reducible refine (HST.out A1 c1 _ (thn HK.out.2.2.2 HB4.out) (HK.out.2.2.1.below HB4.out)).mono ?_); rintro e w5 ⟨rfl, hb5⟩; have HB5 := Lib.hid hb5; clear hb5)
    | (go_at_call 20; (with_reducible refine (HAL.out _).mono ?_); rintro e w6 ⟨rfl, hb6⟩; have HB6 := Lib.hid (thn HB5.out hb6); clear hb6))
  have hb6 := HB4.out.trans (HB6.out.mono HB4.out.size)
  have HB := Lib.hid (thn HK.out.2.2.2 hb6)
  obtain ⟨p0, p1, _, _⟩ := (HV.out.below HB6.out).cells
  have z0 := cell_keep z0 HB6.out
  have z1 := cell_keep z1 HB6.out
  have HC6 := Lib.hid (HCR.out w6 HB.out)
  have HV6 := Lib.hid HB6.out
  clear hb6 y0 y1 HST HCR HB5
  rcases HO4.out with ⟨hR, rfl, rfl⟩ | ⟨m, t, hR, h1, rfl, rfl⟩ | ⟨m, t, m', t', hR, h1, rfl, g1, g2, rfl, rfl, hrd⟩
  · rw [hR] at HC6
    have e : errR none = 9 := rfl
    rw [e] at HC6
    clear e hR HO4
    go_wp2_with (first
      | (go_at_call 17; (with_reducible refine HC6.out.mono ?_); rintro e w7 ⟨rfl, hb7⟩; have p0 := cell_keep p0 hb7; have HB7 := Lib.hid (thn HB.out hb7); clear hb7)
      | (go_at_call 15; (with_reducible refine (HN9.out _).mono ?_); rintro e w8 ⟨rfl, rfl⟩))
    go_ret
    exact ⟨rfl, HB7.out⟩
  · have HP := Lib.hid fun (W : World) (hb : Below w.heap.size w W) => HPR.out W hb m t hR
    have hl := HPL.out m t hR
    rw [hR] at HC6
    have e : errR (some (m, t)) = 0 := rfl
    rw [e] at HC6
    clear e hR HO4 HPR HPL
    generalize prs m t = l at *
    have HAF := Lib.hid fun (A : Option Addr) (c : Nat) (W : World) (h : RdP W A l.length l) => after_any A l.length c l k v false W h (by omega)
    generalize aft k v false l = T at *
    have h1i : (2048 : Int) < (T.length : Int) := by omega
    go_wp2_with (first
      | (go_at_call 17; (with_reducible refine HC6.out.mono ?_); rintro e w7 ⟨rfl, hb7⟩; have p0 := cell_keep p0 hb7; have z0 := cell_keep z0 hb7; have z1 := cell_keep z1 hb7; have HB7 := Lib.hid (thn HB.out hb7); clear hb7)
      | (go_at_call 18; (with_reducible refine (HP.out _ HB7.out).mono ?_); rintro e w8 ⟨A8, c8, rfl, hp8, hb8⟩; have p0 := cell_keep p0 hb8; have HP8 := Lib.hid hp8; have HB8 := Lib.hid (thn HB7.out hb8); clear hb8 hp8)
      | (go_at_call 22; (with_reducible refine (HAF.out _ _ _ HP8.out).mono ?_); rintro e w9 ⟨r9, rfl, ho9, hb9⟩; have p0 := cell_keep p0 hb9; obtain ⟨A9, c9, rfl⟩ := own_form ho9; have HB9 := Lib.hid (thn HB8.out hb9); clear hb9 ho9)
      | (go_at_call 15; (with_reducible refine (HN51.out _).mono ?_); rintro e wa ⟨rfl, rfl⟩))
    go_ret
    exact ⟨rfl, HB9.out⟩
  · have HP := Lib.hid fun (W : World) (hb : Below w.heap.size w W) => HPR.out W hb m t hR
    have hl := HPL.out m t hR
    have hp' : (prs m' t').length ≤ 2048 := by rw [g2]; exact h1
    obtain ⟨hW', hr', hn'⟩ := layS_wfn g1 hp'
    have hRe' := few_reach (layS_few g1) hn'
    have hR' := rdS_lay g1 hp'
    rw [hR] at HC6
    have e : errR (some (m, t)) = 0 := rfl
    rw [e] at HC6
    clear e hR HO4 HPR HPL
    generalize prs m t = l at *
    have HAF := Lib.hid fun (A : Option Addr) (c : Nat) (W : World) (h : RdP W A l.length l) => after_any A l.length c l k v false W h (by omega)
    have HRF := Lib.hid fun (W : World) (hb : Below w4.heap.size w4 W) => ref_any (layS m' t').1 _ c2 A2 (layS m' t').2 W (hrd.below hb) hRe'
    have HCR := Lib.hid fun (A : Option Addr) (c : Nat) (W : World) (h : RdS W A (layS m' t').1.length (layS m' t').1) => checkR_any (layS m' t').1 _ c A (layS m' t').2 W h hRe' hW' hr'
    have HPR := Lib.hid fun (A : Option Addr) (c : Nat) (W : World) (h : RdS W A (layS m' t').1.length (layS m' t').1) => pairsR_any (layS m' t').1 _ c A (layS m' t').2 W h hRe' hW' hr' m' t' hR'
    rw [hR'] at HCR
    have e : errR (some (m', t')) = 0 := rfl
    rw [e] at HCR
    rw [g2] at HPR
    clear hW' hr' hn' hRe' hR' hp' hrd g1 g2 e
    generalize aft k v false l = T at *
    have h1i : ¬ (2048 : Int) < (T.length : Int) := by omega
    generalize (layS m' t').2 = r2 at *
    generalize (layS m' t').1 = nd2 at *
    go_upto_region 11 with (first
      | (go_at_call 17; (with_reducible refine HC6.out.mono ?_); rintro e w7 ⟨rfl, hb7⟩; have p0 := cell_keep p0 hb7; have p1 := cell_keep p1 hb7; have z0 := cell_keep z0 hb7; have z1 := cell_keep z1 hb7; have HV7 := Lib.hid (HV6.out.trans (hb7.mono HV6.out.size)); have HB7 := Lib.hid (thn HB.out hb7); clear hb7)
      | (go_at_call 18; (with_reducible refine (HP.out _ HB7.out).mono ?_); rintro e w8 ⟨A8, c8, rfl, hp8, hb8⟩; have p0 := cell_keep p0 hb8; have p1 := cell_keep p1 hb8; have HP8 := Lib.hid hp8; have HV8 := Lib.hid (HV7.out.trans (hb8.mono HV7.out.size)); have HB8 := Lib.hid (thn HB7.out hb8); clear hb8 hp8)
      | (go_at_call 22; (with_reducible refine (HAF.out _ _ _ HP8.out).mono ?_); rintro e w9 ⟨r9, rfl, ho9, hb9⟩; have p0 := cell_keep p0 hb9; have p1 := cell_keep p1 hb9; obtain ⟨A9, c9, rfl, hp9, _⟩ := RdP.of_own ho9; have HP9 := Lib.hid hp9; have HV9 := Lib.hid (HV8.out.trans (hb9.mono HV8.out.size)); have HB9 := Lib.hid (thn HB8.out hb9); clear hb9 ho9 hp9))
    clear z0 z1 HP HAF HC6
    go_upto_region 12 with (first
      | (go_at_call 23; (with_reducible refine (HRF.out _ HV9.out).mono ?_); rintro e wa ⟨Aa, ca, rfl, hsa, hba⟩; have HSA := Lib.hid hsa; have HPA := Lib.hid (HP9.out.below hba); have HBA := Lib.hid (thn HB9.out hba); clear hba hsa))
    have hbb := below1 wa (.cells #[.slice Aa nd2.length ca, .int .i64 r2] 24)
    have hX : TwoR (wa.alloc (.cells #[.slice Aa nd2.length ca, .int .i64 r2] 24)) wa.heap.size (.slice Aa nd2.length ca) r2 := heap_alloc_new wa _
    obtain ⟨x0, x1⟩ := hX.cells
    have HSB := Lib.hid (HSA.out.below hbb)
    have HPB := Lib.hid (HPA.out.below hbb)
    have HBB := Lib.hid (thn HBA.out hbb)
    clear hX hbb HSA HPA HBA p0 p1 HRF
    generalize wa.alloc (.cells #[.slice Aa nd2.length ca, .int .i64 r2] 24) = wb at *
    generalize wa.heap.size = b12 at *
    have HCB := Lib.hid (HCR.out Aa ca wb HSB.out)
    clear HCR
    go_wp2_with (first
      | (go_at_call 15; (with_reducible refine (HN0.out _).mono ?_); rintro e wd ⟨rfl, rfl⟩)
      | (go_at_call 17; (with_reducible refine HCB.out.mono ?_); rintro e wc ⟨rfl, hbc⟩; have x0 := cell_keep x0 hbc; have x1 := cell_keep x1 hbc; have HPD := Lib.hid (HPR.out Aa ca _ (HSB.out.below hbc)); have HPC := Lib.hid (HPB.out.below hbc); have HBC := Lib.hid (thn HBB.out hbc); clear hbc)
      | (go_at_call 18; (with_reducible refine HPD.out.mono ?_); rintro e we ⟨Ae, ce, rfl, hpe, hbe⟩; have hsp := samePairs_any Ae A9 ce c9 _ _ T T we hpe (HPC.out.below hbe); rw [decide_eq_true rfl] at hsp; have HSP := Lib.hid hsp; have HBE := Lib.hid (thn HBC.out hbe); clear hbe hpe hsp)
      | (go_at_call 14; (with_reducible refine HSP.out.mono ?_); rintro e wf ⟨rfl, hbf⟩; have HBF := Lib.hid (thn HBE.out hbf); clear hbf))
    go_ret
    exact ⟨rfl, HBF.out⟩
end Go.Proofs.Ytkpjkglheegmgaa
