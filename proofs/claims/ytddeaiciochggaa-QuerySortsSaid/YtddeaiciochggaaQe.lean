/- Lists of lists put in order by query's sorted: the walk. Conditions: rows that are read in memory, and have the places of the order. -/
import Derived.Test.YtddeaiciochggaaQc
import Derived.Test.YtddeaiciochggaaSl
namespace Go.Proofs.Ytddeaiciochggaa
open Go.RowKit Go.Sort
set_option linter.unusedSimpArgs false
set_option linter.unusedVariables false

/-- A row with its slice. -/
structure El where
  A : Option Addr
  c : Nat
  r : List Vl
def El.f (x : El) : So.Sl := ⟨x.A, x.r.length, x.c⟩
def El.cm (os : List Oq) (x y : El) : Int := cmR os x.r y.r
theorem El.wk (os : List Oq) : So.Wk (So.ltc (El.cm os)) := by
  have h := ltc_wk os
  exact ⟨fun x y => h.asymm x.r y.r, fun x y z => h.trans x.r y.r z.r⟩
def ltQ (os : List Oq) (a b : List Vl) : Bool := decide (cmR os a b < 0)
theorem ins_map (os : List Oq) (x : El) : ∀ l : List El, (So.insL (So.ltc (El.cm os)) x l).map El.r = So.insL (ltQ os) x.r (l.map El.r)
  | [] => rfl
  | y :: l => by
    have ih := ins_map os x l
    have e : So.ltc (El.cm os) x y = ltQ os x.r y.r := rfl
    by_cases h : ltQ os x.r y.r = true
    · simp [So.insL, e, h]
    · simp [So.insL, e, h, ih]
theorem fold_map (os : List Oq) : ∀ (l o : List El), (l.foldl (fun o x => So.insL (So.ltc (El.cm os)) x o) o).map El.r = (l.map El.r).foldl (fun o x => So.insL (ltQ os) x o) (o.map El.r)
  | [], _ => rfl
  | x :: l, o => by
    rw [List.foldl_cons, fold_map os l, ins_map, List.map_cons, List.foldl_cons]
theorem sort_map (os : List Oq) (l : List El) : (So.sortL (So.ltc (El.cm os)) l).map El.r = So.sortL (ltQ os) (l.map El.r) := fold_map os l []
theorem sortL_perm {α : Type} (lt : α → α → Bool) (l : List α) : (So.sortL lt l).Perm l := by
  have h : ∀ (l o : List α), (l.foldl (fun o x => So.insL lt x o) o).Perm (o ++ l) := by
    intro l
    induction l with
    | nil => intro o; simp
    | cons x l ih =>
      intro o
      rw [List.foldl_cons]
      refine (ih _).trans ?_
      exact ((So.insL_perm lt x o).append_right l).trans List.perm_middle.symm
  exact h l []

set_option maxHeartbeats 1000000 in
theorem insertion_none (F : Value) (w : World) : Calls Try.prog 101 #[.slice none 0 0, .int .i64 0, .int .i64 0, F] w fun e w' => e = .returned (.tuple #[]) ∧ w = w' := by
  go_enter Try.func101, Try.ntmps101
  go_wp2
  refine wp_loop_rounds 1 ?_
  rw [rounds_succ]
  go_wp2
  go_end0
  exact ⟨rfl, rfl⟩
set_option maxHeartbeats 1000000 in
theorem stable_none (F : Value) (w : World) : Calls Try.prog 79 #[.slice none 0 0, .int .i64 0, F] w fun e w' => e = .returned (.tuple #[]) ∧ w = w' := by
  have HI := Lib.hid fun W => insertion_none F W
  go_enter Try.func79, Try.ntmps79
  go_wp2
  refine wp_loop_rounds 1 ?_
  rw [rounds_succ]
  go_wp2_with (go_at_call 101; (with_reducible refine (HI.out _).mono ?_); rintro e w1 ⟨rfl, rfl⟩)
  refine wp_loop_rounds 1 ?_
  rw [rounds_succ]
  go_wp2
  go_end0
  exact ⟨rfl, rfl⟩
theorem sortS_none (F : Value) (w : World) : Calls Try.prog 62 #[.slice none 0 0, F] w fun e w' => e = .returned (.tuple #[]) ∧ w = w' := by
  have HI := Lib.hid fun W => stable_none F W
  go_enter Try.func62, Try.ntmps62
  go_wp2_with (go_at_call 79; (with_reducible refine (HI.out _).mono ?_); rintro e w1 ⟨rfl, rfl⟩)
  go_end0
  exact ⟨rfl, rfl⟩
theorem sortS_any {α : Type} (f : α → So.Sl) (cm : α → α → Int) (ok : α → Prop) (hw : So.Wk (So.ltc cm)) (g c N : Nat) (l : List α) (q : Value) (w0 w : World) (hC : So.CmpC g w0 ok f cm q) (hD : So.Dt w g (l.map f)) (hG : So.Gr g w0 w)
    (hok : ∀ x ∈ l, ok x) (hN : N = l.length) (hm : N ≤ 140737488355328) :
    Calls Try.prog 62 #[.slice (some ⟨g, 0, none⟩) N c, .func (.func 63) #[] #[q]] w (So.StPost (So.ltc cm) f g w0 l) := by
  have HI := Lib.hid (So.stable_any f cm ok hw g c N l q w0 w hC hD hG hok hN hm)
  clear hC hD hG hok hN
  go_enter Try.func62, Try.ntmps62
  go_wp2_with (go_at_call 79; (with_reducible refine HI.out.mono ?_); rintro e w1 ⟨rfl, hd, hg⟩)
  go_end0
  exact ⟨rfl, hd, hg⟩
theorem rcs_one {w : World} {cs : List Value} {ls : List (List Vl)} (hl : cs.length = ls.length) (h : ∀ (j : Nat) (v : Value) (r : List Vl), cs[j]? = some v → ls[j]? = some r → Rw w v r) : ∀ u ∈ cs, u.oneCell' = true := fun u hu => by
  obtain ⟨j, hj, rfl⟩ := List.mem_iff_getElem.1 hu
  obtain ⟨A, c, e, _⟩ := h j _ _ (List.getElem?_eq_getElem hj) (List.getElem?_eq_getElem (by rw [← hl]; exact hj))
  rw [e]; rfl
/-- Rows with their slices. -/
def Els (w : World) (els : List El) : Prop := ∀ x ∈ els, RdL w x.A x.r ∧ (x.A = none → x.r.length = 0) ∧ x.r.length * 32 ≤ 140737488355328
theorem els_of {w : World} {cs : List Value} {ls : List (List Vl)} (hl : cs.length = ls.length) (h : ∀ (j : Nat) (v : Value) (r : List Vl), cs[j]? = some v → ls[j]? = some r → Rw w v r) :
    ∃ els : List El, els.map El.r = ls ∧ cs = els.map (fun x => Value.slice x.A x.r.length x.c) ∧ Els w els := by
  obtain ⟨els, h1, h2⟩ := choose_list (p := fun j (x : El) => cs[j]? = some (.slice x.A x.r.length x.c) ∧ ls[j]? = some x.r ∧ RdL w x.A x.r ∧ (x.A = none → x.r.length = 0) ∧ x.r.length * 32 ≤ 140737488355328) ls.length (fun i hi => by
    obtain ⟨A, c, e, a1, a2, a3⟩ := h i _ _ (List.getElem?_eq_getElem (by omega)) (List.getElem?_eq_getElem hi)
    exact ⟨⟨A, c, ls[i]⟩, by rw [List.getElem?_eq_getElem (by omega), e], List.getElem?_eq_getElem hi, a1, a2, a3⟩)
  refine ⟨els, List.ext_getElem? fun j => ?_, List.ext_getElem? fun j => ?_, fun x hx => ?_⟩
  · rw [List.getElem?_map]
    rcases Nat.lt_or_ge j els.length with hj | hj
    · rw [List.getElem?_eq_getElem hj, (h2 j _ (List.getElem?_eq_getElem hj)).2.1]; rfl
    · rw [List.getElem?_eq_none hj, List.getElem?_eq_none (by omega)]; rfl
  · rw [List.getElem?_map]
    rcases Nat.lt_or_ge j els.length with hj | hj
    · rw [List.getElem?_eq_getElem hj, (h2 j _ (List.getElem?_eq_getElem hj)).1]; rfl
    · rw [List.getElem?_eq_none hj, List.getElem?_eq_none (by omega)]; rfl
  · obtain ⟨j, hj, rfl⟩ := List.mem_iff_getElem.1 hx
    exact (h2 j _ (List.getElem?_eq_getElem hj)).2.2
/-- A row of slices of the call's own is one that may be put in order. -/
theorem dt_of {w : World} {B g cap : Nat} {els : List El} (h : Own w B (.slice (some ⟨g, 0, none⟩) els.length cap) (els.map fun x => Value.slice x.A x.r.length x.c)) : So.Dt w g (els.map El.f) := by
  refine ⟨fun j s hj => ?_, fun j hj => ?_⟩
  · rw [List.getElem?_map] at hj
    obtain ⟨x, hx, rfl⟩ := Option.map_eq_some_iff.1 hj
    have := h.cells (g := g) rfl j (.slice x.A x.r.length x.c) (by rw [List.getElem?_map, hx]; rfl)
    rw [add_lit, Nat.zero_add] at this
    exact this
  · have h' : w.ownsRow B 85 1 (.slice (some ⟨g, 0, none⟩) els.length cap) els.length (els.map fun x => Value.slice x.A x.r.length x.c) := by
      have := h
      unfold Own at this
      rwa [List.length_map] at this
    exact h'.frozenAt j
/-- What is sorted, read. -/
theorem rd_of {w : World} {g : Nat} {els : List El} (h : So.Dt w g (els.map El.f)) (he : Els w els) : RdR w (some ⟨g, 0, none⟩) (els.map El.r) := fun _ => ⟨_, rfl, fun j r hj => by
  rw [List.getElem?_map] at hj
  obtain ⟨x, hx, rfl⟩ := Option.map_eq_some_iff.1 hj
  have h1 := h.cells j x.f (by rw [List.getElem?_map, hx]; rfl)
  rw [add_lit, Nat.zero_add]
  obtain ⟨a1, a2, a3⟩ := he x (List.mem_of_getElem? hx)
  exact ⟨_, h1, x.A, x.c, rfl, a1, a2, a3⟩⟩
set_option maxRecDepth 100000 in
set_option maxHeartbeats 4000000 in
theorem sorted_any (A oA : Option Addr) (c oc b : Nat) (ls : List (List Vl)) (os : List Oq) (w : World) (hr : RdR w A ls) (hA : A = none → ls.length = 0) (hn : ls.length * 24 ≤ 140737488355328 - 24) (ho : RdQ w oA os) (hbx : w.cell? ⟨b, 0, none⟩ = some (.slice oA os.length oc)) (hon : os.length ≤ 9223372036854775807)
    (hh : ∀ r ∈ ls, Has os r) :
    Calls Try.prog 37 #[.slice A ls.length c, .func (.func 63) #[] #[.pointer (some ⟨b, 0, none⟩)]] w fun e w' => ∃ A' c', e = .returned (.slice A' ls.length c') ∧ ls.length ≤ c' ∧ RdR w' A' (So.sortL (ltQ os) ls) ∧ (A' = none → ls.length = 0) ∧ Below w.heap.size w w' := by
  have HCL : Hid (Calls Try.prog 61 #[.slice A ls.length c] w fun e w' => ∃ v els, e = .returned v ∧ Own w' w.heap.size v (els.map fun x => Value.slice x.A x.r.length x.c) ∧ els.map El.r = ls ∧ Els w els ∧ Below w.heap.size w w') := Lib.hid (by
    cases A with
    | none =>
      have h0 : ls = [] := List.eq_nil_of_length_eq_zero (hA rfl)
      subst h0
      exact (rClone_nil 0 c w).mono fun e w' ⟨h1, h2⟩ => ⟨_, [], h1, World.ownsRow_nil _ _ _ _, rfl, fun x hx => by simp at hx, h2 ▸ Below.refl _ _⟩
    | some ad =>
      obtain ⟨cs, h1, h2, h3⟩ := hr.list
      obtain ⟨els, e1, e2, e3⟩ := els_of h1 h3
      exact (rClone_some ad ls.length c cs w (by omega) (h2 ad rfl) (rcs_one h1 h3) (by omega)).mono fun e w' ⟨v, a1, a2, a3⟩ => ⟨v, els, a1, e2 ▸ a2, e1, e3, a3⟩)
  have HO := Lib.hid ho
  have HBX := Lib.hid hbx
  have HH := Lib.hid hh
  clear hr ho hbx hh
  go_enter Try.func37, Try.ntmps37
  go_upto_region 2 with (go_at_call 61; (with_reducible refine HCL.out.mono ?_); rintro e w2 ⟨v, els, rfl, hown, hels, he, hb⟩; have HOW := Lib.hid hown; have HEL := Lib.hid hels; have HE := Lib.hid he; have HB := Lib.hid hb; clear hown hels he hb)
  have hlen : els.length = ls.length := by rw [← HEL.out, List.length_map]
  rcases Go.Joins.ownsRow_forms HOW.out with ⟨rfl, h0⟩ | ⟨g, cap, rfl⟩
  · have h0' : els = [] := List.eq_nil_of_length_eq_zero (by simpa using h0)
    have hls : ls = [] := List.eq_nil_of_length_eq_zero (by rw [← hlen, h0']; rfl)
    subst hls
    have HS := Lib.hid fun W => sortS_none (.func (.func 63) #[] #[.pointer (some ⟨b, 0, none⟩)]) W
    clear hlen h0 h0'
    go_wp2_with (go_at_call 62; (with_reducible refine (HS.out _).mono ?_); rintro e w3 ⟨rfl, rfl⟩)
    go_ret
    exact ⟨none, 0, rfl, Nat.le_refl _, fun h => absurd rfl h, fun _ => rfl, HB.out⟩
  · have hgl := (HOW.out.lt g rfl).1
    have hcap : els.length ≤ cap := by
      rcases HOW.out.2 with ⟨h1, _⟩ | ⟨g', cap', cur, h1, _, _, hnc, _⟩
      · cases h1
      · injection h1 with _ _ h1
        rw [List.length_map] at hnc
        omega
    rw [List.length_map] at HOW ⊢
    have hD := dt_of HOW.out
    have hC : So.CmpC g w2 (fun x : El => (RdL w x.A x.r ∧ x.r.length * 32 ≤ 140737488355328) ∧ Has os x.r) El.f (El.cm os) (.pointer (some ⟨b, 0, none⟩)) := by
      intro W hG x y hx hy
      have hbW : Below w.heap.size w W := So.Gr.out HB.out hG hgl HB.out.size
      exact ord_any x.A y.A oA x.c y.c oc x.r y.r os b W (hx.1.1.below hbW) (hy.1.1.below hbW) (HO.out.below hbW) ((hbW.cell (cell_lt HBX.out)).trans HBX.out) hx.2 hy.2 hx.1.2 hy.1.2 hon
    have HS := Lib.hid (sortS_any El.f (El.cm os) _ (El.wk os) g cap els.length els (.pointer (some ⟨b, 0, none⟩)) w2 w2 hC hD (So.Gr.refl _ _) (fun x hx => ⟨⟨(HE.out x hx).1, (HE.out x hx).2.2⟩, HH.out x.r (by rw [← HEL.out]; exact List.mem_map_of_mem hx)⟩) rfl (by omega))
    have HLEN := Lib.hid hlen
    clear hD hC hlen
    go_wp2_with (go_at_call 62; (with_reducible refine HS.out.mono ?_); rintro e w3 ⟨rfl, hd, hg⟩; have HD3 := Lib.hid hd; have HG3 := Lib.hid hg; clear hd hg)
    go_ret
    have hbW : Below w.heap.size w w3 := So.Gr.out HB.out HG3.out hgl HB.out.size
    refine ⟨some ⟨g, 0, none⟩, cap, (show Ending.returned (Value.slice (some ⟨g, 0, none⟩) els.length cap) = _ by rw [HLEN.out]), by rw [← HLEN.out]; exact hcap, ?_, fun e => (by cases e), hbW⟩
    rw [← HEL.out, ← sort_map]
    exact rd_of HD3.out (fun x hx => by
      obtain ⟨a1, a2, a3⟩ := HE.out x ((sortL_perm _ _).mem_iff.1 hx)
      exact ⟨a1.below hbW, a2, a3⟩)
end Go.Proofs.Ytddeaiciochggaa
