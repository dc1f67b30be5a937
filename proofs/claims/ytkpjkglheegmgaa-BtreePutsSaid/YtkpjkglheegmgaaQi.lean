/- A state copied for the document's answer: the walk of the law's Ref. Conditions: a state that is read in memory. -/
import Derived.RangeFuncNested
import Derived.RangeFuncCalls
import Derived.RangeFuncBox
import Derived.Shelf.RegionOpen
import Derived.Test.YtkpjkglheegmgaaQh
import Derived.Test.YtkpjkglheegmgaaQFi0
import Derived.Test.YtkpjkglheegmgaaQFe0
/- The pairs of a span: the walk of Range. Conditions: a state that is read in memory. -/
namespace Go.Proofs.Ytkpjkglheegmgaa
open Go.RowKit Go.Shelf
set_option linter.unusedSimpArgs false
set_option linter.unusedVariables false
attribute [local go_sem] Oper.semAt_some

/-- Pairs, as they lie in cells. -/
def pcell (p : Pr) : List Value := [.string p.1.s, .string p.2.s]
def pcells (l : List Pr) : List Value := l.flatMap pcell
theorem pcells_app (a b : List Pr) : pcells (a ++ b) = pcells a ++ pcells b := by simp [pcells]
theorem pcells_len (l : List Pr) : (pcells l).length = l.length * 2 := by
  induction l with
  | nil => rfl
  | cons p l ih => simp only [pcells, List.flatMap_cons, List.length_append, List.length_cons] at *; simp [pcell, ih]; omega
/-- What Range answers. -/
def RangePost (R : Option (Nat × Tr)) (k u : Key) (w : World) (e : Ending) (w' : World) : Prop :=
  Below w.heap.size w w' ∧ match R with
  | none => e = .returned (.tuple #[.slice none 0 0, .int .i64 9])
  | some (m, t) => ∃ v, e = .returned (.tuple #[v, .int .i64 0]) ∧ w'.ownsRow w.heap.size 47 2 v (spanT (prs m t) k u).length (pcells (spanT (prs m t) k u))

set_option maxRecDepth 100000 in
set_option maxHeartbeats 1000000 in
theorem range_none (nodes : List Nd) (n c : Nat) (A : Option Addr) (root : Int) (k u : Key) (w : World) (hS : RdS w A n nodes) (hW : Wfn nodes) (hr : -9223372036854775808 ≤ root ∧ root ≤ 9223372036854775807) (hR : rdS nodes root = none) :
    Calls Try.prog 9 #[.agg #[.slice A n c, .int .i64 root], .string k.s, .string u.s] w fun e w' => e = .returned (.tuple #[.slice none 0 0, .int .i64 9]) ∧ Below w.heap.size w w' := by
  have HRD := Lib.hid fun (W : World) (hb : Below w.heap.size w W) => read_any nodes n c A root W (hS.below hb) hW hr
  clear hS hW hr
  rw [hR] at HRD
  go_enter Try.func9, Try.ntmps9
  go_wp2_with (first | (go_at_call 26; (with_reducible refine (HRD.out _ (below2 _ _ _)).mono ?_); rintro e w1 ⟨rfl, hb1⟩; have HB1 := Lib.hid hb1; clear hb1))
  go_ret2
  exact ⟨rfl, thn (below2 _ _ _) HB1.out⟩

theorem Try.infoP : (Try.prog.info? 47).map (fun i => (i.zero, i.size, i.bytes)) = some (some (.agg #[.string ⟨#[]⟩, .string ⟨#[]⟩]), 2, 32) := by kernel_rfl
theorem keeps_below {W W' : World} (h : Below W.heap.size W W') : KeepsOthers W W' := ⟨h.size, fun k o hk _ => (h.block k (by
  rcases Nat.lt_or_ge k W.heap.size with h' | h'
  · exact h'
  · rw [Array.getElem?_eq_none h'] at hk; cases hk)).trans hk⟩
theorem newcells (W : World) (x : Pr) : ∀ (j : Nat) (u : Value), (pcell x)[j]? = some u → (W.alloc (.cells #[.string x.1.s, .string x.2.s] 47)).cell? ((⟨W.heap.size, 0, none⟩ : Addr).add j) = some u := fun j u hu => by
  rw [cell_blk (heap_alloc_new W (.cells #[.string x.1.s, .string x.2.s] 47)), ← hu]
  simp [pcell]
theorem _root_.Go.Boxed.below {W W' : World} {b : Nat} {t : TypeId} {v : Value} (h : Boxed W b t v) (hb : Below W.heap.size W W') : Boxed W' b t v := (hb.block b h.lt).trans h
set_option maxRecDepth 100000 in
set_option maxHeartbeats 2000000 in
theorem range_some (nodes : List Nd) (n c : Nat) (A : Option Addr) (root : Int) (k u : Key) (w : World) (hS : RdS w A n nodes) (hW : Wfn nodes) (hr : -9223372036854775808 ≤ root ∧ root ≤ 9223372036854775807) (m : Nat) (t : Tr) (hR : rdS nodes root = some (m, t)) :
    Calls Try.prog 9 #[.agg #[.slice A n c, .int .i64 root], .string k.s, .string u.s] w fun e w' => (∃ v, e = .returned (.tuple #[v, .int .i64 0]) ∧ w'.ownsRow w.heap.size 47 2 v ((handT m t k).takeWhile (Till u)).length (pcells ((handT m t k).takeWhile (Till u)))) ∧ Below w.heap.size w w' := by
  have HRD := Lib.hid fun (W : World) (hb : Below w.heap.size w W) => read_any nodes n c A root W (hS.below hb) hW hr
  obtain ⟨hG, hp, _, _⟩ := rdS_ok hR
  have hN : (handT m t k).length ≤ 2048 := by
    rw [hand_from m k hG]
    exact Nat.le_trans (List.length_filter_le _ _) hp
  have HG := Lib.hid hG
  clear hS hW hr hp hG
  rw [hR] at HRD
  have HP := Lib.hid fun g w => callsIn_wide (n := 2).2 (pairs_any g k.s w)
  refine (callsIn_wide (n := 3)).1 ?_
  refine callsIn_of_wp_marks Try.func9 rfl trivial ?_ rfl
  simp only [Try.ntmps9, List.size_toArray, List.length_cons, List.length_nil, Nat.reduceAdd, Nat.reduceSub, Array.replicate_succ, Array.replicate_zero, List.push_toArray, List.append_toArray, List.nil_append, List.cons_append]
  gi_wp2_with (first | (refine ⟨trivial, ?_⟩; gi_at_call 26; refine (callsIn_wide (n := 2)).2 ((HRD.out _ (below2 _ _ _)).mono ?_); rintro e w1 ⟨g, F, rfl, hrd, hF, _, hb1⟩; have HB1 := Lib.hid hb1; have HD := Lib.hid hrd; clear hb1 hrd) | (refine ⟨trivial, ?_⟩; gi_at_call 27; refine (HP.out _ _).mono ?_; rintro e w2 ⟨rfl, rfl⟩))
  have hz1 := HB1.out.size
  simp only [World.size_alloc] at hz1
  have hB1 : Below w.heap.size w w1 := thn (below2 _ _ _) HB1.out
  have hbV : Below w1.heap.size w1 (((w1.alloc (.cells #[.slice none 0 0] 29)).alloc (.cells #[ptr g] 67)).alloc (.cells #[.string k.s] 9)) := (below2 _ _ _).alloc (by simp; omega) _
  have hbox : Boxed (((w1.alloc (.cells #[.slice none 0 0] 29)).alloc (.cells #[ptr g] 67)).alloc (.cells #[.string k.s] 9)) w1.heap.size 29 (.slice none 0 0) := ((Boxed.new w1 _ _).alloc _).alloc _
  have hto : Boxed (((w1.alloc (.cells #[.slice none 0 0] 29)).alloc (.cells #[ptr g] 67)).alloc (.cells #[.string k.s] 9)) (w.heap.size + 1) 9 (.string u.s) := by
    have h0 : Boxed w1 (w.heap.size + 1) 9 (.string u.s) := by
      have := Boxed.new (w.alloc (.cells #[.slice A n c, .int .i64 root] 27)) 9 (.string u.s)
      rw [World.size_alloc] at this
      exact (HB1.out.block _ (by simp)).trans this
    exact ((h0.alloc _).alloc _).alloc _
  have hg1 : Boxed (((w1.alloc (.cells #[.slice none 0 0] 29)).alloc (.cells #[ptr g] 67)).alloc (.cells #[.string k.s] 9)) (w1.heap.size + 1) 67 (ptr g) := by
    have := Boxed.new (w1.alloc (.cells #[.slice none 0 0] 29)) 67 (ptr g)
    rw [World.size_alloc] at this
    exact this.alloc _
  have hg2 : Boxed (((w1.alloc (.cells #[.slice none 0 0] 29)).alloc (.cells #[ptr g] 67)).alloc (.cells #[.string k.s] 9)) (w1.heap.size + 2) 9 (.string k.s) := by
    have := Boxed.new ((w1.alloc (.cells #[.slice none 0 0] 29)).alloc (.cells #[ptr g] 67)) 9 (.string k.s)
    rw [World.size_alloc, World.size_alloc] at this
    exact this
  have hsz : w1.heap.size + 3 = (((w1.alloc (.cells #[.slice none 0 0] 29)).alloc (.cells #[ptr g] 67)).alloc (.cells #[.string k.s] 9)).heap.size := by simp
  generalize ((w1.alloc (.cells #[.slice none 0 0] 29)).alloc (.cells #[ptr g] 67)).alloc (.cells #[.string k.s] 9) = V at *
  have hseq := pairs_stops m t g _ _ _ _ F k w1 V HG.out (by omega) HD.out hbV 2 (w1.heap.size + 1) (w1.heap.size + 2) (by omega) (by omega) hg1.cell hg2.cell
  have hBV : Below w.heap.size w V := thn hB1 hbV
  have HHT := Lib.hid (show (handT m t k).length ≤ 2048 from hN)
  clear hN hg1 hg2 HG HD HRD HP HB1
  obtain ⟨all, hall⟩ : ∃ all, handT m t k = all := ⟨_, rfl⟩
  rw [hall] at hseq HHT
  generalize hb10 : w1.heap.size = b10 at *
  have hw10 : w.heap.size + 2 ≤ b10 := hz1
  refine wpIn_rangeFunc_ownH rfl (by decide) (gf := 43) (lb := #[.pointer (some ⟨b10 + 1, 0, none⟩), .pointer (some ⟨b10 + 1 + 1, 0, none⟩)]) rfl trivial (enters_of Try.func43 (by kernel_rfl) rfl)
    hseq (fun a b => belowK_t a b) (fun W l o o' hl hlo hc hw => belowK_b (w := V) (by omega) W l o o' hl hlo hc hw) (Below.refl _ _) (fun _ => rfl)
    (fun pre W => (((∃ v, Boxed W b10 29 v ∧ W.ownsRow b10 47 2 v pre.length (pcells pre) ∧ True) ∧ Boxed W (w.heap.size + 1) 9 (.string u.s)) ∧ Below w.heap.size w W) ∧ ∀ p ∈ pre, Till u p = true)
    (fun c pre W => (((∃ v, Boxed W b10 29 v ∧ W.ownsRow b10 47 2 v pre.dropLast.length (pcells pre.dropLast) ∧ True) ∧ c = .exit 0) ∧ Below w.heap.size w W) ∧ ∃ q x, pre = q ++ [x] ∧ (∀ p ∈ q, Till u p = true) ∧ Till u x = false)
    (OwnFrom.and (OwnFrom.and (OwnFrom.and (Own.from (holdsRow_own _ _ _ _ _ (fun pre : List Pr => pre.length) (fun pre => pcells pre) (fun _ _ => True)) _) (Own.from (fun s A B row hs hg hr => hs.kept hg fun e => by obtain ⟨o, ho, hc⟩ := hr _ e.symm; rw [show A.heap[_]? = _ from hs] at ho; cases ho; cases hc) _)) (ownFrom_below (Nat.le_refl _) hBV.size)) (ownFrom_pure _ _))
    (fun c => OwnFrom.and (OwnFrom.and (OwnFrom.and (Own.from (holdsRow_own _ _ _ _ _ (fun pre : List Pr => pre.dropLast.length) (fun pre => pcells pre.dropLast) (fun _ _ => True)) _) (ownFrom_pure _ _)) (ownFrom_below (Nat.le_refl _) hBV.size)) (ownFrom_pure _ _))
    ⟨⟨⟨⟨_, hbox, World.ownsRow_nil _ _ _ _, trivial⟩, hto⟩, hBV⟩, fun p hp => (nomatch hp)⟩
    (fun x a' W => ∃ Bx, W.heap[Bx]? = some (.cells #[.string x.1.s, .string x.2.s] 47 (0, 0)) ∧ a' = { tmps := #[.agg #[.slice A n c, .int .i64 root], .string k.s, .string u.s, .pointer (some ⟨w.heap.size, 0, none⟩), undef, .pointer (some ⟨w.heap.size + 1, 0, none⟩), .slice none 0 0, .int .i64 0, ptr g, .int .i64 0, .pointer (some ⟨b10, 0, none⟩), .pointer (some ⟨Bx, 0, none⟩), .tuple #[ptr g, .int .i64 0], .agg #[.slice A n c, .int .i64 root], .tuple #[ptr g, .int .i64 0], ptr g, .int .i64 0, .int .i64 0, .bool false, undef, ptr g, .string k.s, .func (.func 43) #[] #[.pointer (some ⟨b10 + 1, 0, none⟩), .pointer (some ⟨b10 + 1 + 1, 0, none⟩)], pval x, undef, undef, undef, undef, undef, undef, undef, undef, undef, undef, undef, undef, undef, undef, undef, undef, undef, undef, undef], defers := [] })
    ?hAx ?assign ?body ?done ?stop
  case hAx =>
    rintro x a' _ W W' row ⟨Bx, hBx, ha⟩ hg hrow
    refine ⟨Bx, (hg.block Bx (heap_lt hBx) fun e2 => ?_).trans hBx, ha⟩
    obtain ⟨_, o, ho, hc⟩ := hrow Bx e2.symm
    rw [hBx] at ho
    injection ho with ho
    subst ho
    cases hc
  case assign =>
    rintro l pre x W K ⟨⟨⟨⟨v, hv, ho, _⟩, hto⟩, hBW⟩, hT⟩ hK
    unfold pval at hK ⊢
    gi_wp2
    refine hK _ _ ((KeepsOthers.alloc _ _).from _) ?_ ⟨⟨⟨⟨v, hv.alloc _, own_below ho (below1 W _), trivial⟩, hto.alloc _⟩, hBW.alloc hBW.size _⟩, hT⟩ ⟨W.heap.size, heap_alloc_new W _, rfl⟩
    exact (Below.refl b10 W).alloc (by have := hv.lt; omega) _
  case body =>
    rintro l pre x act W hl ⟨r, hrr⟩ ⟨⟨⟨⟨v, hv, ho, _⟩, hto⟩, hBW⟩, hT⟩ ⟨Bx, hBx, rfl⟩ hlt
    have x0 : W.cell? ⟨Bx, 0, none⟩ = some (.string x.1.s) := by simp [World.cell?, hBx]
    have x1 : W.cell? ⟨Bx, 1, none⟩ = some (.string x.2.s) := by simp [World.cell?, hBx]
    have y0 := hto.cell
    have z0 := hv.cell
    have zf := hv.frozen
    have hb10W := hv.lt
    obtain ⟨vA, vc, rfl⟩ := own_form ho
    obtain ⟨iP, hiP, hiz, hi1, hi2⟩ := info_parts3 Try.infoP
    have HLEN := Lib.hid (show pre.length + 1 ≤ 2048 from by have := HHT.out; omega)
    have hue : Till u x = (u.s.toList.isEmpty || Op.bytesLess x.1.s.toList u.s.toList) := by
      unfold Till
      rw [less_dec]
      congr 1
      rw [Bool.eq_iff_iff, decide_eq_true_iff, List.isEmpty_iff]
      constructor
      · rintro rfl; rw [ByteArray.toList_eq]; rfl
      · intro h
        have e : noK.s.toList = [] := by rw [ByteArray.toList_eq]; rfl
        exact key_eq.1 (h.trans e.symm)
    have HP := Lib.hid (And.intro hv (And.intro ho (And.intro hto (And.intro hBW hT))))
    have HX := Lib.hid hBx
    have HC1 := Lib.hid fun W => sClone_any x.1.s W x.1.h
    have HC2 := Lib.hid fun W => sClone_any x.2.s W x.2.h
    clear hv ho hto hBW hT hBx
    cases hT0 : Till u x with
    | true =>
      rw [hT0] at hue
      have HT0 := Lib.hid hT0
      clear hT0
      have hway : u.s.toList.isEmpty = true ∨ (u.s.toList.isEmpty = false ∧ Op.bytesLess x.1.s.toList u.s.toList = true) := by
        cases h : u.s.toList.isEmpty with
        | true => exact .inl rfl
        | false => rw [h] at hue; exact .inr ⟨rfl, by simpa using hue.symm⟩
      clear hue
      rcases hway with h1 | ⟨h1, h2⟩
      all_goals
        gi_wp2
        refine region_anyTIn (fun W' => W'.cell? ⟨b10, 0, none⟩ = some (.slice vA pre.length vc) ∧ W'.cell? ⟨Bx, 0, none⟩ = some (.string x.1.s) ∧ W'.cell? ⟨Bx, 1, none⟩ = some (.string x.2.s)) [0, 1, 2, 3, 4, 5, 6, 7, 8] (by kernel_rfl) (by intro o ho d e; simp at ho; rcases ho with rfl | rfl | rfl | rfl | rfl | rfl | rfl | rfl | rfl | rfl | rfl <;> cases e) (fun h => by obtain ⟨a, w, h⟩ := h; exact h) ⟨z0, x0, x1⟩ ?_
        intro hcl hS
        have hb1 : Below W.heap.size W W.drew := (Below.refl _ _).drew
        refine anyT_take (i := 0) (v := .slice vA pre.length vc) rfl (by kernel_rfl) (by kernel_rfl) (by kernel_rfl) (by kernel_rfl) (fun _ _ _ h => h) (Or.inl ⟨by rfl, ?_⟩) hS hcl ?_
        · intro w' hSw; obtain ⟨s0, s1, s2⟩ := hSw; go_simp; try rfl
        clear hcl
        intro hcl
        try simp only [Act.put, List.setIfInBounds_toArray, List.set_cons_zero, List.set_cons_succ]
        refine anyT_take (i := 1) (v := .pointer (some ⟨Bx, 0, none⟩)) rfl (by kernel_rfl) (by kernel_rfl) (by kernel_rfl) (by kernel_rfl) (fun _ _ _ h => h) (Or.inl ⟨by rfl, ?_⟩) hS hcl ?_
        · intro w' hSw; obtain ⟨s0, s1, s2⟩ := hSw; go_simp; try rfl
        clear hcl
        intro hcl
        try simp only [Act.put, List.setIfInBounds_toArray, List.set_cons_zero, List.set_cons_succ]
        refine anyT_take (i := 2) (v := .string x.1.s) rfl (by kernel_rfl) (by kernel_rfl) (by kernel_rfl) (by kernel_rfl) (fun _ _ _ h => h) (Or.inl ⟨by rfl, ?_⟩) hS hcl ?_
        · intro w' hSw; obtain ⟨s0, s1, s2⟩ := hSw; go_simp; try rfl
        clear hcl
        intro hcl
        try simp only [Act.put, List.setIfInBounds_toArray, List.set_cons_zero, List.set_cons_succ]
        refine anyT_take (i := 4) (v := .pointer (some ⟨Bx, 1, none⟩)) rfl (by kernel_rfl) (by kernel_rfl) (by kernel_rfl) (by kernel_rfl) (fun _ _ _ h => h) (Or.inl ⟨by rfl, ?_⟩) hS hcl ?_
        · intro w' hSw; obtain ⟨s0, s1, s2⟩ := hSw; go_simp; try rfl
        clear hcl
        intro hcl
        try simp only [Act.put, List.setIfInBounds_toArray, List.set_cons_zero, List.set_cons_succ]
        refine anyT_take (i := 5) (v := .string x.2.s) rfl (by kernel_rfl) (by kernel_rfl) (by kernel_rfl) (by kernel_rfl) (fun _ _ _ h => h) (Or.inl ⟨by rfl, ?_⟩) hS hcl ?_
        · intro w' hSw; obtain ⟨s0, s1, s2⟩ := hSw; go_simp; try rfl
        clear hcl
        intro hcl
        try simp only [Act.put, List.setIfInBounds_toArray, List.set_cons_zero, List.set_cons_succ]
        refine anyT_step (k := 3) rfl (by kernel_rfl) hcl ?_
        intro K hK
        go_simp
        go_at_call 28
        (with_reducible refine (HC1.out _).mono ?_)
        rintro e W2 ⟨rfl, hb⟩
        have hb2 : Below W.heap.size W W2 := thn hb1 hb
        clear hb hcl
        obtain ⟨s0, s1, s2⟩ := hS
        refine hK.out _ _ ⟨cell_keep z0 hb2, cell_keep x0 hb2, cell_keep x1 hb2⟩ (fun hS hcl => ?_)
        clear hK K s0 s1 s2
        try simp only [Act.put, List.setIfInBounds_toArray, List.set_cons_zero, List.set_cons_succ]
        refine anyT_step (k := 6) rfl (by kernel_rfl) hcl ?_
        intro K hK
        go_simp
        go_at_call 28
        (with_reducible refine (HC2.out _).mono ?_)
        rintro e W3 ⟨rfl, hb⟩
        have hb3 : Below W.heap.size W W3 := thn hb2 hb
        clear hb hcl
        obtain ⟨s0, s1, s2⟩ := hS
        refine hK.out _ _ ⟨cell_keep z0 hb3, cell_keep x0 hb3, cell_keep x1 hb3⟩ (fun hS hcl => ?_)
        clear hK K s0 s1 s2
        try simp only [Act.put, List.setIfInBounds_toArray, List.set_cons_zero, List.set_cons_succ]
        refine anyT_take (i := 7) (v := .agg #[.string x.1.s, .string x.2.s]) rfl (by kernel_rfl) (by kernel_rfl) (by kernel_rfl) (by kernel_rfl) (fun _ _ _ h => h) (Or.inl ⟨by rfl, ?_⟩) hS hcl ?_
        · intro w' hSw; obtain ⟨s0, s1, s2⟩ := hSw; go_simp; try rfl
        clear hcl
        intro hcl
        try simp only [Act.put, List.setIfInBounds_toArray, List.set_cons_zero, List.set_cons_succ]
        refine anyT_step (k := 8) rfl (by kernel_rfl) hcl ?_
        intro K hK
        go_simp
        obtain ⟨hv, ho, hto, hBW, hT⟩ := HP.out
        have hb4 : Below W.heap.size W (W3.alloc (.cells #[.string x.1.s, .string x.2.s] 47)) := thn hb3 (below1 W3 _)
        refine hK.out _ _ ⟨cell_keep z0 hb4, cell_keep x0 hb4, cell_keep x1 hb4⟩ (fun hS hcl => ?_)
        clear hK K hS
        try simp only [Act.put, List.setIfInBounds_toArray, List.set_cons_zero, List.set_cons_succ]
        obtain ⟨v3, w3, hrun, ho3, hg3, _⟩ := run_append_own (P := Try.prog) (W3.alloc (.cells #[.string x.1.s, .string x.2.s] 47)) b10 29 29 47 iP (.agg #[.string ⟨#[]⟩, .string ⟨#[]⟩]) 2 32 Try.underlying29 hiP hiz hi1 hi2 rfl (by decide) (.slice vA pre.length vc) pre.length (pcells pre) (own_below (own_below ho hb3) (below1 W3 _)) ⟨W3.heap.size, 0, none⟩ 1 1 (pcell x) rfl (newcells W3 x) (by intro u hu; simp [pcell] at hu; rcases hu with rfl | rfl <;> rfl) (by unfold maxLen; have := HLEN.out; omega) (by have := HLEN.out; omega) (by have := hb4.size; omega)
        obtain ⟨A3, c3, rfl⟩ := own_form ho3
        obtain ⟨hbx3, hbx4, ho4, hk4, hBl4⟩ := (hv.below hb3).appended (by decide) (own_below ho hb3) (by have := hb3.size; omega) (Nat.le_refl _) ho3 hg3
        have p0 := hbx3.cell
        have p1 := hbx3.frozen
        have hto4 : Boxed (w3.setCell ⟨b10, 0, none⟩ (.slice A3 (pre.length + 1) c3)) (w.heap.size + 1) 9 (.string u.s) := (hBl4.block _ (by omega)).trans (hto.below hb3)
        have hkk : KeepsFrom V.heap.size W (w3.setCell ⟨b10, 0, none⟩ (.slice A3 (pre.length + 1) c3)) := ((keeps_below hb3).trans hk4).from _
        have hbb : Below b10 W (w3.setCell ⟨b10, 0, none⟩ (.slice A3 (pre.length + 1) c3)) := (hb3.mono (by omega)).trans hBl4
        have HE := Lib.hid (And.intro hbx4 (And.intro ho4 (And.intro hto4 (And.intro hkk (And.intro hbb (And.intro hBW hT))))))
        clear hbx3 hbx4 ho4 hk4 hBl4 hto4 hkk hbb hv ho hto hBW hT ho3 hg3
        refine anyT_last (k := 9) rfl (by kernel_rfl) (by kernel_rfl) hcl ?_
        intro K hK
        rw [if_pos (by rfl)]
        refine Lib.wp_append_run _ _ _ _ _ rfl _ _ rfl rfl _ w3 hrun ?_
        clear hrun hcl
        refine hK.out _ _ (fun hcl => ?_)
        clear hK K
        try simp only [Act.put, List.setIfInBounds_toArray, List.set_cons_zero, List.set_cons_succ]
        refine anyT_last (k := 10) rfl (by kernel_rfl) (by kernel_rfl) hcl ?_
        intro K hK
        go_simp
        clear hcl
        refine hK.out _ _ (fun hcl => ?_)
        clear hK K
        refine anyT_done (by kernel_rfl) ?_ _
        obtain ⟨hbx4, ho4, hto4, hkk, hbb, hBW, hT⟩ := HE.out
        exact ⟨hkk, hbb, ⟨⟨⟨_, hbx4, by rw [List.length_append, pcells_app]; simpa [pcells, pcell] using ho4, trivial⟩, hto4⟩, hBW.trans (hbb.mono (by omega))⟩, fun p hp => by
          rcases List.mem_append.1 hp with hp | hp
          · exact hT p hp
          · obtain rfl := List.mem_singleton.1 hp
            exact HT0.out⟩
    | false =>
      rw [hT0] at hue
      obtain ⟨h1, h2⟩ := Bool.or_eq_false_iff.1 hue.symm
      clear hue
      have HT0 := Lib.hid hT0
      clear hT0
      gi_wp2
      obtain ⟨hv, ho, hto, hBW, hT⟩ := HP.out
      exact ⟨(KeepsOthers.refl _).from _, ⟨⟨⟨_, hv, by rw [List.dropLast_concat]; exact ho, trivial⟩, rfl⟩, hBW⟩, pre, x, rfl, hT, HT0.out⟩
  case done =>
    rintro D xs W hD rfl ⟨⟨⟨⟨v, hv, ho, _⟩, hto⟩, hBW⟩, hT⟩ hK
    have z0 := hv.cell
    have htw : xs.takeWhile (Till u) = xs := by
      have h := List.takeWhile_append_of_pos (l₂ := []) hT
      simpa using h
    gi_wp2
    refine ⟨by simp, .inl ⟨_, _, rfl, run_takeDeferred hK, ?_⟩⟩
    have hcp : (W.putObj D (.deferred none)).cell? ⟨b10, 0, none⟩ = some v := cell_kept z0 (grownBy_putObj' _ D (.deferred none)) (fun r e => by cases e; exact ⟨_, hK, rfl⟩)
    refine ⟨.tuple #[v, .int .i64 0], ?_, ⟨v, rfl, ?_⟩, hBW.trans (belowK_b (w := w) (Nat.le_refl _) _ D _ _ (by have := hBV.size; omega) hK rfl rfl)⟩
    · simp [results, Try.results9, go_sem]
    · rw [hall, htw]
      exact own_le (ownsRow_putObj ho _ hK rfl) (by omega)
  case stop =>
    rintro D c pre W hD hpre ⟨⟨⟨⟨v, hv, ho, _⟩, rfl⟩, hBW⟩, q, x, rfl, hq, hx⟩ hK
    have z0 := hv.cell
    have htw : all.takeWhile (Till u) = q := by
      obtain ⟨r, hr⟩ := hpre
      rw [← hr, List.append_assoc, List.takeWhile_append_of_pos hq, List.singleton_append, List.takeWhile_cons_of_neg (by rw [hx]; decide), List.append_nil]
    rw [List.dropLast_concat] at ho
    gi_wp2
    refine ⟨by simp, .inl ⟨_, _, rfl, run_takeDeferred hK, ?_⟩⟩
    have hcp : (W.putObj D (.deferred none)).cell? ⟨b10, 0, none⟩ = some v := cell_kept z0 (grownBy_putObj' _ D (.deferred none)) (fun r e => by cases e; exact ⟨_, hK, rfl⟩)
    refine ⟨.tuple #[v, .int .i64 0], ?_, ⟨v, rfl, ?_⟩, hBW.trans (belowK_b (w := w) (Nat.le_refl _) _ D _ _ (by have := hBV.size; omega) hK rfl rfl)⟩
    · simp [results, Try.results9, go_sem]
    · rw [hall, htw]
      exact own_le (ownsRow_putObj ho _ hK rfl) (by omega)
theorem range_state (nodes : List Nd) (n c : Nat) (A : Option Addr) (root : Int) (k u : Key) (w : World) (hS : RdS w A n nodes) (hW : Wfn nodes) (hr : -9223372036854775808 ≤ root ∧ root ≤ 9223372036854775807) :
    Calls Try.prog 9 #[.agg #[.slice A n c, .int .i64 root], .string k.s, .string u.s] w (RangePost (rdS nodes root) k u w) := by
  cases hR : rdS nodes root with
  | none =>
    refine (range_none nodes n c A root k u w hS hW hr hR).mono ?_
    rintro e w' ⟨rfl, hb⟩
    exact ⟨hb, rfl⟩
  | some r =>
    obtain ⟨m, t⟩ := r
    refine (range_some nodes n c A root k u w hS hW hr m t hR).mono ?_
    rintro e w' ⟨⟨v, rfl, ho⟩, hb⟩
    rw [hand_span (rdS_ok hR).1 k u] at ho
    exact ⟨hb, v, rfl, ho⟩
end Go.Proofs.Ytkpjkglheegmgaa
/- A state that is copied node by node, of whatever types. Conditions: none. -/
namespace Go.Proofs.Ytkpjkglheegmgaa
open Go.RowKit
set_option linter.unusedSimpArgs false
set_option linter.unusedVariables false

/-- Lists that a machine can hold. -/
def Reach (nodes : List Nd) : Prop := nodes.length * 72 ≤ 140737488355328 ∧ ∀ x ∈ nodes, x.ks.length * 16 ≤ 140737488355328 ∧ x.vs.length * 16 ≤ 140737488355328 ∧ x.kids.length * 8 ≤ 140737488355328
theorem nds_read {e : TypeId} {w : World} {B : Nat} {v : Value} {hs : List Hd} {acc : List Nd} (o : w.ownsRow B e 3 v acc.length (hcells hs acc)) (len : hs.length = acc.length) (at_ : ∀ (i : Nat) (h : Hd) (x : Nd), hs[i]? = some h → acc[i]? = some x → NdAt w B h x) :
    ∃ A c, v = .slice A acc.length c ∧ RdS w A acc.length acc := by
  have oo := o
  rcases o.2 with ⟨rfl, hn⟩ | ⟨g, cap, cur, rfl, _, _, hc, hm, _⟩
  · have : acc = [] := List.eq_nil_of_length_eq_zero hn
    subst this
    exact ⟨none, 0, rfl, rfl, by simp, fun i x hx => by simp at hx⟩
  · unfold maxLen at hm
    refine ⟨_, cap, rfl, rfl, by omega, fun i x hx => ?_⟩
    have hi : i < hs.length := by rw [len]; exact (List.getElem?_eq_some_iff.1 hx).1
    have hh := List.getElem?_eq_getElem hi
    obtain ⟨a, b, c⟩ := hcells_at hs acc i hs[i] x hh hx
    have n := at_ i hs[i] x hh hx
    have cell := fun (j : Nat) (u : Value) (hj : (hcells hs acc)[j]? = some u) => oo.cells (g := g) rfl j u hj
    refine ⟨⟨g, 0, none⟩, hs[i], rfl, cell _ _ a, ?_, ?_, Rd.own' n.k rfl, Rd.own' n.v rfl, Rd.own' n.c rfl⟩
    · have := cell _ _ b
      rw [add_two _ _ (by omega)] at this
      exact this
    · have := cell _ _ c
      rw [add_two _ _ (by omega)] at this
      exact this
theorem ints_one (l : List Int) : ∀ u ∈ ints l, u.oneCell' = true := fun u hu => by
  obtain ⟨k, _, rfl⟩ := List.mem_map.1 hu
  rfl
/-- Types that stand apart. -/
def Kinds (TP TN TS : TypeId) : Prop := TP ≠ TN ∧ TP ≠ TS ∧ TN ≠ TS ∧ 9 ≠ TN ∧ 9 ≠ TS ∧ 3 ≠ TN ∧ 3 ≠ TS
/-- A state in the making: b1 the one that is copied, b3 the copy, j nodes long. -/
structure Bld (TP TN TS : TypeId) (nodes : List Nd) (root : Int) (w : World) (b1 b2 b3 : Nat) (A : Option Addr) (n c : Nat) (j : Nat) (W : World) (v : Value) (hs : List Hd) : Prop where
  le1 : w.heap.size ≤ b1
  le : w.heap.size ≤ b3
  p : W.heap[b1]? = some (.cells #[.slice A n c, .int .i64 root] TP (0, 0))
  s : W.heap[b3]? = some (.cells #[v, .int .i64 root] TS (0, 0))
  o : W.ownsRow w.heap.size TN 3 v j (hcells hs (nodes.take j))
  len : hs.length = j
  at_ : ∀ (i : Nat) (h : Hd) (x : Nd), hs[i]? = some h → nodes[i]? = some x → NdAt W w.heap.size h x
  bel : Below w.heap.size w W
  r : W.heap[b2]? = some (.cells #[.slice none 0 0, .int .i64 0] TS (0, 0))
  ne2 : b2 ≠ b3
  le2 : w.heap.size ≤ b2
theorem Bld.next {TP TN TS : TypeId} {nodes : List Nd} {root : Int} {w : World} {b1 b2 b3 : Nat} {A : Option Addr} {n c j : Nat} {W : World} {v : Value} {hs : List Hd} (s : Bld TP TN TS nodes root w b1 b2 b3 A n c j W v hs) (hk : Kinds TP TN TS)
    {x : Nd} (hx : nodes[j]? = some x) {h : Hd} {W3 W4 : World} {tmp : Obj} {v' : Value} (hb : Below W.heap.size W W3) (hn : NdAt W3 w.heap.size h x)
    (ho : W4.ownsRow w.heap.size TN 3 v' (j + 1) (hcells hs (nodes.take j) ++ hcell h x)) (hg : (W3.alloc tmp).grownBy W4 v.ownBlock) :
    Bld TP TN TS nodes root w b1 b2 b3 A n c (j + 1) (W4.setCell ⟨b3, 0, none⟩ v') v' (hs ++ [h]) := by
  obtain ⟨k1, k2, k3, k4, k5, k6, k7⟩ := hk
  have hb4 : Below W.heap.size W (W3.alloc tmp) := thn hb (below1 W3 tmp)
  have s4 := (hb4.block b3 (heap_lt s.s)).trans s.s
  have r4 := (hb4.block b2 (heap_lt s.r)).trans s.r
  have p4 := (hb4.block b1 (heap_lt s.p)).trans s.p
  have o4 := own_below s.o hb4
  have s5 := (hg.block b3 (heap_lt s4) (fun e => own_ne o4 s4 k3 e.symm)).trans s4
  have p5 := (hg.block b1 (heap_lt p4) (fun e => own_ne o4 p4 (Ne.symm k1) e.symm)).trans p4
  have r5 := (hg.block b2 (heap_lt r4) (fun e => own_ne o4 r4 k3 e.symm)).trans r4
  have hne : b1 ≠ b3 := heap_ne s.p s.s (cells_ne k2)
  have oth : ∀ b, b < (W3.alloc tmp).heap.size → v.ownBlock ≠ some b → b ≠ b3 → (W4.setCell ⟨b3, 0, none⟩ v').heap[b]? = (W3.alloc tmp).heap[b]? := fun b h1 h2 h3 =>
    (heap_setCell_other W4 ⟨b3, 0, none⟩ b v' h3).trans (hg.block b h1 fun e => h2 e.symm)
  have key : ∀ {e : TypeId} {u : Value} {m : Nat} {xs : List Value}, (W3.alloc tmp).ownsRow w.heap.size e 1 u m xs → e ≠ TN → e ≠ TS → (W4.setCell ⟨b3, 0, none⟩ v').ownsRow w.heap.size e 1 u m xs := fun ho' h1 h2 => by
    refine own_keep ho' fun b hb' => oth b (own_in ho' hb').2.1 (own_two ho' o4 h1 b hb') (fun e => ?_)
    subst e
    exact own_ne ho' s4 h2 hb'
  have keyN : ∀ {h : Hd} {x : Nd}, NdAt (W3.alloc tmp) w.heap.size h x → NdAt (W4.setCell ⟨b3, 0, none⟩ v') w.heap.size h x := fun q => ⟨key q.k k4 k5, key q.v k4 k5, key q.c k6 k7⟩
  have hjl : j < nodes.length := (List.getElem?_eq_some_iff.1 hx).1
  have htl : (nodes.take j).length = j := by rw [List.length_take]; omega
  refine ⟨s.le1, s.le, (heap_setCell_other W4 ⟨b3, 0, none⟩ b1 v' hne).trans p5, by rw [heap_setCell_same W4 b3 0 _ _ _ s5]; simp, ?_, by rw [List.length_append, s.len]; rfl, fun i h' x' h1 h2 => ?_, ?_, (heap_setCell_other W4 ⟨b3, 0, none⟩ b2 v' s.ne2).trans r5, s.ne2, s.le2⟩
  · rw [show nodes.take (j + 1) = nodes.take j ++ [x] by rw [List.take_add_one, hx]; rfl, hcells_app _ _ _ _ (by rw [s.len, htl])]
    refine own_keep ho fun b hb' => heap_setCell_other W4 ⟨b3, 0, none⟩ b v' fun e => ?_
    have e' : b = b3 := e
    subst e'
    exact own_ne ho s5 k3 hb'
  · rcases get_snoc h1 with ⟨h3, h4⟩ | ⟨h3, rfl⟩
    · exact keyN (((s.at_ i h' x' h4 h2).below hb4))
    · rw [h3, s.len, hx] at h2
      cases h2
      exact keyN (hn.below (below1 W3 tmp))
  · have h1 : Below w.heap.size w (W3.alloc tmp) := s.bel.trans (hb4.mono s.bel.size)
    exact (h1.grown hg h1.size (fun k e => (own_in o4 e).1)).setCell (p := ⟨b3, 0, none⟩) s.le v'
theorem Bld.end_ {TP TN TS : TypeId} {nodes : List Nd} {root : Int} {w : World} {b1 b2 b3 : Nat} {A : Option Addr} {n c : Nat} {W : World} {v : Value} {hs : List Hd} (s : Bld TP TN TS nodes root w b1 b2 b3 A n c nodes.length W v hs) (hk : Kinds TP TN TS) :
    ∃ A' c', v = .slice A' nodes.length c' ∧ RdS ((W.setCell ⟨b2, 0, none⟩ v).setCell ⟨b2, 1, none⟩ (.int .i64 root)) A' nodes.length nodes ∧ Below w.heap.size w ((W.setCell ⟨b2, 0, none⟩ v).setCell ⟨b2, 1, none⟩ (.int .i64 root)) ∧ ((W.setCell ⟨b2, 0, none⟩ v).setCell ⟨b2, 1, none⟩ (.int .i64 root)).cell? ⟨b2, 0, none⟩ = some v ∧ ((W.setCell ⟨b2, 0, none⟩ v).setCell ⟨b2, 1, none⟩ (.int .i64 root)).cell? ⟨b2, 1, none⟩ = some (.int .i64 root) := by
  obtain ⟨k1, k2, k3, k4, k5, k6, k7⟩ := hk
  have r := heap_setCell_same _ b2 1 _ _ (.int .i64 root) (heap_setCell_same W b2 0 _ _ v s.r)
  have oth : ∀ b, b ≠ b2 → ((W.setCell ⟨b2, 0, none⟩ v).setCell ⟨b2, 1, none⟩ (.int .i64 root)).heap[b]? = W.heap[b]? := fun b hb =>
    (heap_setCell_other _ ⟨b2, 1, none⟩ b _ hb).trans (heap_setCell_other W ⟨b2, 0, none⟩ b _ hb)
  have hB : Below w.heap.size w ((W.setCell ⟨b2, 0, none⟩ v).setCell ⟨b2, 1, none⟩ (.int .i64 root)) := (s.bel.setCell (p := ⟨b2, 0, none⟩) s.le2 v).setCell (p := ⟨b2, 1, none⟩) s.le2 _
  generalize (W.setCell ⟨b2, 0, none⟩ v).setCell ⟨b2, 1, none⟩ (.int .i64 root) = W' at *
  have key : ∀ {e : TypeId} {k : Nat} {u : Value} {m : Nat} {xs : List Value}, W.ownsRow w.heap.size e k u m xs → e ≠ TS → W'.ownsRow w.heap.size e k u m xs := fun ho h1 =>
    own_keep ho fun x hx => oth x fun e => by subst e; exact own_ne ho s.r h1 hx
  have ho := s.o
  rw [List.take_length] at ho
  obtain ⟨A', c', hv, hr⟩ := nds_read (key ho k3) s.len fun i h x h1 h2 => by
    have q := s.at_ i h x h1 h2
    exact ⟨key q.k k5, key q.v k5, key q.c k7⟩
  exact ⟨A', c', hv, hr, hB, by simp [World.cell?, r], by simp [World.cell?, r]⟩
theorem grown_none {w w' : World} (h : w.grownBy w' none) : Below w.heap.size w w' := (Below.refl _ _).grown h (Nat.le_refl _) (fun k e => by cases e)
end Go.Proofs.Ytkpjkglheegmgaa
/- A state copied for the program: the walk of the law's Of. Conditions: a state that is read in memory. -/
namespace Go.Proofs.Ytkpjkglheegmgaa
open Go.RowKit
set_option linter.unusedSimpArgs false
set_option linter.unusedVariables false

set_option maxRecDepth 100000 in
set_option maxHeartbeats 4000000 in
theorem of_any (nodes : List Nd) (n c : Nat) (A : Option Addr) (root : Int) (w : World) (hS : RdS w A n nodes) (hRe : Reach nodes) :
    Calls Try.prog 8 #[.agg #[.slice A n c, .int .i64 root]] w fun e w' => ∃ A' c', e = .returned (.agg #[.slice A' n c', .int .i64 root]) ∧ RdS w' A' n nodes ∧ Below w.heap.size w w' := by
  obtain ⟨iS, hiS, hiSz, hiS1, hiS2⟩ := info_parts Try.infoS
  obtain ⟨iI, hiI, hiIz, hiI1, hiI2⟩ := info_parts Try.infoI
  obtain ⟨iN, hiN, hiNz, hiN1, hiN2⟩ := info_parts3 Try.infoN
  have hkn : Kinds 24 66 27 := by unfold Kinds; decide
  have HS := Lib.hid hS
  have HRE := Lib.hid hRe
  have hn := hS.len
  have hmax := hS.max
  clear hS hRe
  subst hn
  go_enter Try.func8, Try.ntmps8
  go_upto_region 2 with fail
  have hw0 := below1 w (.cells #[.slice A nodes.length c, .int .i64 root] 24)
  have hs0 : ∃ W0, W0 = ((w.alloc (.cells #[.slice A nodes.length c, .int .i64 root] 24)).alloc (.cells #[.slice none 0 0, .int .i64 0] 27)).alloc (.cells #[.slice none 0 0, .int .i64 root] 27) := ⟨_, rfl⟩
  obtain ⟨W0, hW0⟩ := hs0
  rw [← hW0]
  have hr0 : W0.heap[w.heap.size + 1]? = some (.cells #[.slice none 0 0, .int .i64 0] 27 (0, 0)) := by
    rw [hW0]
    have := heap_alloc_new (w.alloc (.cells #[.slice A nodes.length c, .int .i64 root] 24)) (.cells #[.slice none 0 0, .int .i64 0] 27)
    rw [World.size_alloc] at this
    exact (Below.heap_alloc _ _ _ (by simp)).trans this
  have st : Bld 24 66 27 nodes root w w.heap.size (w.heap.size + 1) (w.heap.size + 1 + 1) A nodes.length c 0 W0 (.slice none 0 0) [] := by
    rw [hW0]
    refine ⟨Nat.le_refl _, by omega, ?_, ?_, World.ownsRow_nil _ _ _ _, rfl, fun i h x h1 => by simp at h1, (below2 w _ _).alloc (by simp; omega) _, by rw [← hW0]; exact hr0, by omega, by omega⟩
    · exact (Below.heap_alloc _ _ _ (by simp; omega)).trans ((Below.heap_alloc _ _ _ (by simp)).trans (heap_alloc_new w _))
    · have := heap_alloc_new ((w.alloc (.cells #[.slice A nodes.length c, .int .i64 root] 24)).alloc (.cells #[.slice none 0 0, .int .i64 0] 27)) (.cells #[.slice none 0 0, .int .i64 root] 27)
      rw [World.size_alloc, World.size_alloc] at this
      exact this
  have HST := Lib.hid st
  clear st hr0 hW0 hw0
  generalize w.heap.size + 1 + 1 = b3 at *
  generalize w.heap.size + 1 = b2 at *
  go_wp2
  go_loopw [4] (fun i wr => ∃ (j : Nat) (v : Value) (hs : List Hd), i = .int .i64 j ∧ j ≤ nodes.length ∧ Bld 24 66 27 nodes root w w.heap.size b2 b3 A nodes.length c j wr v hs) (fun i _ => nodes.length - (intOf i).toNat)
  case atStart => exact ⟨0, _, _, rfl, by omega, HST.out⟩
  case round =>
    obtain ⟨j, v, hs, rfl, hj, s⟩ := hrel
    clear HST
    obtain ⟨vA, vc, rfl⟩ := own_form s.o
    have hpp := s.p
    have hps := s.s
    have y0 : wr.cell? ⟨w.heap.size, 0, none⟩ = some (.slice A nodes.length c) := by simp [World.cell?, hpp]
    have z0 : wr.cell? ⟨b3, 0, none⟩ = some (.slice vA j vc) := by simp [World.cell?, hps]
    clear hpp hps
    by_cases hlt : j < nodes.length
    · obtain ⟨ad, hh, rfl, hX⟩ := (HS.out.below s.bel).at_ j nodes[j] (List.getElem?_eq_getElem hlt)
      have hx : nodes[j]? = some nodes[j] := List.getElem?_eq_getElem hlt
      have hre := HRE.out.2 nodes[j] (List.getElem_mem hlt)
      have hre0 := HRE.out.1
      generalize nodes[j] = x at *
      have n0 := hX.c0
      have n1 := hX.c1
      have n2 := hX.c2
      have hlt' : (j : Int) < (nodes.length : Int) := by omega
      go_upto_region 7 with fail
      have hb0 : Below wr.heap.size wr wr.drew := (Below.refl _ _).drew
      generalize wr = W at *
      refine region_anyT (fun W' => W'.cell? ⟨b3, 0, none⟩ = some (.slice vA j vc) ∧ W'.cell? ⟨w.heap.size, 0, none⟩ = some (.slice (some ad) nodes.length c) ∧ W'.cell? (ad.add (j * 3)) = some (.slice hh.kA x.ks.length hh.kc) ∧ W'.cell? ⟨(ad.add (j * 3)).block, (ad.add (j * 3)).off + 1, none⟩ = some (.slice hh.vA x.vs.length hh.vc) ∧ W'.cell? ⟨(ad.add (j * 3)).block, (ad.add (j * 3)).off + 2, none⟩ = some (.slice hh.cA x.kids.length hh.cc)) [0, 1, 2, 3, 4, 5, 6, 7, 8, 9, 10, 11, 12, 13, 14, 15, 16, 17, 18, 19, 20, 21, 22, 23, 24, 25, 26, 27] (by kernel_rfl) ⟨z0, y0, n0, n1, n2⟩ ?_
      intro hcl hS
      refine anyT_take (i := 0) (oi := ?o0) (v := ?v0) ?hi0 ?ha0 ?hb0 ?hc0 ?hd0 ?hq0 (Or.inl ⟨?hw0, ?hy0⟩) hS hcl ?rest0
      case hi0 => simp only [List.getElem?_toArray, List.getElem?_cons_succ, List.getElem?_cons_zero]; rfl
      case hq0 => exact fun _ _ _ h => h
      case ha0 => kernel_rfl
      case hb0 => kernel_rfl
      case hc0 => kernel_rfl
      case hd0 => kernel_rfl
      case hw0 => rfl
      case hy0 => intro w' hSw; obtain ⟨s0, s1, s2, s3, s4⟩ := hSw; go_simp; try with_reducible rfl
      clear hcl
      intro hcl
      try simp only [Act.put, List.setIfInBounds_toArray, List.set_cons_zero, List.set_cons_succ]
      refine anyT_take (i := 1) (oi := ?o1) (v := ?v1) ?hi1 ?ha1 ?hb1 ?hc1 ?hd1 ?hq1 (Or.inl ⟨?hw1, ?hy1⟩) hS hcl ?rest1
      case hi1 => simp only [List.getElem?_toArray, List.getElem?_cons_succ, List.getElem?_cons_zero]; rfl
      case hq1 => exact fun _ _ _ h => h
      case ha1 => kernel_rfl
      case hb1 => kernel_rfl
      case hc1 => kernel_rfl
      case hd1 => kernel_rfl
      case hw1 => rfl
      case hy1 => intro w' hSw; obtain ⟨s0, s1, s2, s3, s4⟩ := hSw; go_simp; try with_reducible rfl
      clear hcl
      intro hcl
      try simp only [Act.put, List.setIfInBounds_toArray, List.set_cons_zero, List.set_cons_succ]
      refine anyT_take (i := 2) (oi := ?o2) (v := ?v2) ?hi2 ?ha2 ?hb2 ?hc2 ?hd2 ?hq2 (Or.inl ⟨?hw2, ?hy2⟩) hS hcl ?rest2
      case hi2 => simp only [List.getElem?_toArray, List.getElem?_cons_succ, List.getElem?_cons_zero]; rfl
      case hq2 => exact fun _ _ _ h => h
      case ha2 => kernel_rfl
      case hb2 => kernel_rfl
      case hc2 => kernel_rfl
      case hd2 => kernel_rfl
      case hw2 => rfl
      case hy2 => intro w' hSw; obtain ⟨s0, s1, s2, s3, s4⟩ := hSw; go_simp; try with_reducible rfl
      clear hcl
      intro hcl
      try simp only [Act.put, List.setIfInBounds_toArray, List.set_cons_zero, List.set_cons_succ]
      refine anyT_take (i := 3) (oi := ?o3) (v := ?v3) ?hi3 ?ha3 ?hb3 ?hc3 ?hd3 ?hq3 (Or.inl ⟨?hw3, ?hy3⟩) hS hcl ?rest3
      case hi3 => simp only [List.getElem?_toArray, List.getElem?_cons_succ, List.getElem?_cons_zero]; rfl
      case hq3 => exact fun _ _ _ h => h
      case ha3 => kernel_rfl
      case hb3 => kernel_rfl
      case hc3 => kernel_rfl
      case hd3 => kernel_rfl
      case hw3 => rfl
      case hy3 => intro w' hSw; obtain ⟨s0, s1, s2, s3, s4⟩ := hSw; go_simp; try with_reducible rfl
      clear hcl
      intro hcl
      try simp only [Act.put, List.setIfInBounds_toArray, List.set_cons_zero, List.set_cons_succ]
      refine anyT_take (i := 4) (oi := ?o4) (v := ?v4) ?hi4 ?ha4 ?hb4 ?hc4 ?hd4 ?hq4 (Or.inl ⟨?hw4, ?hy4⟩) hS hcl ?rest4
      case hi4 => simp only [List.getElem?_toArray, List.getElem?_cons_succ, List.getElem?_cons_zero]; rfl
      case hq4 => exact fun _ _ _ h => h
      case ha4 => kernel_rfl
      case hb4 => kernel_rfl
      case hc4 => kernel_rfl
      case hd4 => kernel_rfl
      case hw4 => rfl
      case hy4 => intro w' hSw; obtain ⟨s0, s1, s2, s3, s4⟩ := hSw; go_simp; try with_reducible rfl
      clear hcl
      intro hcl
      try simp only [Act.put, List.setIfInBounds_toArray, List.set_cons_zero, List.set_cons_succ]
      refine anyT_take (i := 5) (oi := ?o5) (v := ?v5) ?hi5 ?ha5 ?hb5 ?hc5 ?hd5 ?hq5 (Or.inl ⟨?hw5, ?hy5⟩) hS hcl ?rest5
      case hi5 => simp only [List.getElem?_toArray, List.getElem?_cons_succ, List.getElem?_cons_zero]; rfl
      case hq5 => exact fun _ _ _ h => h
      case ha5 => kernel_rfl
      case hb5 => kernel_rfl
      case hc5 => kernel_rfl
      case hd5 => kernel_rfl
      case hw5 => rfl
      case hy5 => intro w' hSw; obtain ⟨s0, s1, s2, s3, s4⟩ := hSw; go_simp; try with_reducible rfl
      clear hcl
      intro hcl
      try simp only [Act.put, List.setIfInBounds_toArray, List.set_cons_zero, List.set_cons_succ]
      refine anyT_take (i := 6) (oi := ?o6) (v := ?v6) ?hi6 ?ha6 ?hb6 ?hc6 ?hd6 ?hq6 (Or.inl ⟨?hw6, ?hy6⟩) hS hcl ?rest6
      case hi6 => simp only [List.getElem?_toArray, List.getElem?_cons_succ, List.getElem?_cons_zero]; rfl
      case hq6 => exact fun _ _ _ h => h
      case ha6 => kernel_rfl
      case hb6 => kernel_rfl
      case hc6 => kernel_rfl
      case hd6 => kernel_rfl
      case hw6 => rfl
      case hy6 => intro w' hSw; obtain ⟨s0, s1, s2, s3, s4⟩ := hSw; go_simp; try with_reducible rfl
      clear hcl
      intro hcl
      try simp only [Act.put, List.setIfInBounds_toArray, List.set_cons_zero, List.set_cons_succ]
      refine anyT_take (i := 7) (oi := ?o7) (v := ?v7) ?hi7 ?ha7 ?hb7 ?hc7 ?hd7 ?hq7 (Or.inl ⟨?hw7, ?hy7⟩) hS hcl ?rest7
      case hi7 => simp only [List.getElem?_toArray, List.getElem?_cons_succ, List.getElem?_cons_zero]; rfl
      case hq7 => exact fun _ _ _ h => h
      case ha7 => kernel_rfl
      case hb7 => kernel_rfl
      case hc7 => kernel_rfl
      case hd7 => kernel_rfl
      case hw7 => rfl
      case hy7 => intro w' hSw; obtain ⟨s0, s1, s2, s3, s4⟩ := hSw; go_simp; try with_reducible rfl
      clear hcl
      intro hcl
      try simp only [Act.put, List.setIfInBounds_toArray, List.set_cons_zero, List.set_cons_succ]
      refine anyT_take (i := 8) (oi := ?o8) (v := ?v8) ?hi8 ?ha8 ?hb8 ?hc8 ?hd8 ?hq8 (Or.inl ⟨?hw8, ?hy8⟩) hS hcl ?rest8
      case hi8 => simp only [List.getElem?_toArray, List.getElem?_cons_succ, List.getElem?_cons_zero]; rfl
      case hq8 => exact fun _ _ _ h => h
      case ha8 => kernel_rfl
      case hb8 => kernel_rfl
      case hc8 => kernel_rfl
      case hd8 => kernel_rfl
      case hw8 => rfl
      case hy8 => intro w' hSw; obtain ⟨s0, s1, s2, s3, s4⟩ := hSw; go_simp; try with_reducible rfl
      clear hcl
      intro hcl
      try simp only [Act.put, List.setIfInBounds_toArray, List.set_cons_zero, List.set_cons_succ]
      refine anyT_take (i := 10) (oi := ?o10) (v := ?v10) ?hi10 ?ha10 ?hb10 ?hc10 ?hd10 ?hq10 (Or.inl ⟨?hw10, ?hy10⟩) hS hcl ?rest10
      case hi10 => simp only [List.getElem?_toArray, List.getElem?_cons_succ, List.getElem?_cons_zero]; rfl
      case hq10 => exact fun _ _ _ h => h
      case ha10 => kernel_rfl
      case hb10 => kernel_rfl
      case hc10 => kernel_rfl
      case hd10 => kernel_rfl
      case hw10 => rfl
      case hy10 => intro w' hSw; obtain ⟨s0, s1, s2, s3, s4⟩ := hSw; go_simp; try with_reducible rfl
      clear hcl
      intro hcl
      try simp only [Act.put, List.setIfInBounds_toArray, List.set_cons_zero, List.set_cons_succ]
      refine anyT_take (i := 11) (oi := ?o11) (v := ?v11) ?hi11 ?ha11 ?hb11 ?hc11 ?hd11 ?hq11 (Or.inl ⟨?hw11, ?hy11⟩) hS hcl ?rest11
      case hi11 => simp only [List.getElem?_toArray, List.getElem?_cons_succ, List.getElem?_cons_zero]; rfl
      case hq11 => exact fun _ _ _ h => h
      case ha11 => kernel_rfl
      case hb11 => kernel_rfl
      case hc11 => kernel_rfl
      case hd11 => kernel_rfl
      case hw11 => rfl
      case hy11 => intro w' hSw; obtain ⟨s0, s1, s2, s3, s4⟩ := hSw; go_simp; try with_reducible rfl
      clear hcl
      intro hcl
      try simp only [Act.put, List.setIfInBounds_toArray, List.set_cons_zero, List.set_cons_succ]
      refine anyT_take (i := 12) (oi := ?o12) (v := ?v12) ?hi12 ?ha12 ?hb12 ?hc12 ?hd12 ?hq12 (Or.inl ⟨?hw12, ?hy12⟩) hS hcl ?rest12
      case hi12 => simp only [List.getElem?_toArray, List.getElem?_cons_succ, List.getElem?_cons_zero]; rfl
      case hq12 => exact fun _ _ _ h => h
      case ha12 => kernel_rfl
      case hb12 => kernel_rfl
      case hc12 => kernel_rfl
      case hd12 => kernel_rfl
      case hw12 => rfl
      case hy12 => intro w' hSw; obtain ⟨s0, s1, s2, s3, s4⟩ := hSw; go_simp; try with_reducible rfl
      clear hcl
      intro hcl
      try simp only [Act.put, List.setIfInBounds_toArray, List.set_cons_zero, List.set_cons_succ]
      refine anyT_take (i := 13) (oi := ?o13) (v := ?v13) ?hi13 ?ha13 ?hb13 ?hc13 ?hd13 ?hq13 (Or.inl ⟨?hw13, ?hy13⟩) hS hcl ?rest13
      case hi13 => simp only [List.getElem?_toArray, List.getElem?_cons_succ, List.getElem?_cons_zero]; rfl
      case hq13 => exact fun _ _ _ h => h
      case ha13 => kernel_rfl
      case hb13 => kernel_rfl
      case hc13 => kernel_rfl
      case hd13 => kernel_rfl
      case hw13 => rfl
      case hy13 => intro w' hSw; obtain ⟨s0, s1, s2, s3, s4⟩ := hSw; go_simp; try with_reducible rfl
      clear hcl
      intro hcl
      try simp only [Act.put, List.setIfInBounds_toArray, List.set_cons_zero, List.set_cons_succ]
      refine anyT_take (i := 14) (oi := ?o14) (v := ?v14) ?hi14 ?ha14 ?hb14 ?hc14 ?hd14 ?hq14 (Or.inl ⟨?hw14, ?hy14⟩) hS hcl ?rest14
      case hi14 => simp only [List.getElem?_toArray, List.getElem?_cons_succ, List.getElem?_cons_zero]; rfl
      case hq14 => exact fun _ _ _ h => h
      case ha14 => kernel_rfl
      case hb14 => kernel_rfl
      case hc14 => kernel_rfl
      case hd14 => kernel_rfl
      case hw14 => rfl
      case hy14 => intro w' hSw; obtain ⟨s0, s1, s2, s3, s4⟩ := hSw; go_simp; try with_reducible rfl
      clear hcl
      intro hcl
      try simp only [Act.put, List.setIfInBounds_toArray, List.set_cons_zero, List.set_cons_succ]
      refine anyT_take (i := 15) (oi := ?o15) (v := ?v15) ?hi15 ?ha15 ?hb15 ?hc15 ?hd15 ?hq15 (Or.inl ⟨?hw15, ?hy15⟩) hS hcl ?rest15
      case hi15 => simp only [List.getElem?_toArray, List.getElem?_cons_succ, List.getElem?_cons_zero]; rfl
      case hq15 => exact fun _ _ _ h => h
      case ha15 => kernel_rfl
      case hb15 => kernel_rfl
      case hc15 => kernel_rfl
      case hd15 => kernel_rfl
      case hw15 => rfl
      case hy15 => intro w' hSw; obtain ⟨s0, s1, s2, s3, s4⟩ := hSw; go_simp; try with_reducible rfl
      clear hcl
      intro hcl
      try simp only [Act.put, List.setIfInBounds_toArray, List.set_cons_zero, List.set_cons_succ]
      refine anyT_take (i := 16) (oi := ?o16) (v := ?v16) ?hi16 ?ha16 ?hb16 ?hc16 ?hd16 ?hq16 (Or.inl ⟨?hw16, ?hy16⟩) hS hcl ?rest16
      case hi16 => simp only [List.getElem?_toArray, List.getElem?_cons_succ, List.getElem?_cons_zero]; rfl
      case hq16 => exact fun _ _ _ h => h
      case ha16 => kernel_rfl
      case hb16 => kernel_rfl
      case hc16 => kernel_rfl
      case hd16 => kernel_rfl
      case hw16 => rfl
      case hy16 => intro w' hSw; obtain ⟨s0, s1, s2, s3, s4⟩ := hSw; go_simp; try with_reducible rfl
      clear hcl
      intro hcl
      try simp only [Act.put, List.setIfInBounds_toArray, List.set_cons_zero, List.set_cons_succ]
      refine anyT_take (i := 18) (oi := ?o18) (v := ?v18) ?hi18 ?ha18 ?hb18 ?hc18 ?hd18 ?hq18 (Or.inl ⟨?hw18, ?hy18⟩) hS hcl ?rest18
      case hi18 => simp only [List.getElem?_toArray, List.getElem?_cons_succ, List.getElem?_cons_zero]; rfl
      case hq18 => exact fun _ _ _ h => h
      case ha18 => kernel_rfl
      case hb18 => kernel_rfl
      case hc18 => kernel_rfl
      case hd18 => kernel_rfl
      case hw18 => rfl
      case hy18 => intro w' hSw; obtain ⟨s0, s1, s2, s3, s4⟩ := hSw; go_simp; try with_reducible rfl
      clear hcl
      intro hcl
      try simp only [Act.put, List.setIfInBounds_toArray, List.set_cons_zero, List.set_cons_succ]
      refine anyT_take (i := 19) (oi := ?o19) (v := ?v19) ?hi19 ?ha19 ?hb19 ?hc19 ?hd19 ?hq19 (Or.inl ⟨?hw19, ?hy19⟩) hS hcl ?rest19
      case hi19 => simp only [List.getElem?_toArray, List.getElem?_cons_succ, List.getElem?_cons_zero]; rfl
      case hq19 => exact fun _ _ _ h => h
      case ha19 => kernel_rfl
      case hb19 => kernel_rfl
      case hc19 => kernel_rfl
      case hd19 => kernel_rfl
      case hw19 => rfl
      case hy19 => intro w' hSw; obtain ⟨s0, s1, s2, s3, s4⟩ := hSw; go_simp; try with_reducible rfl
      clear hcl
      intro hcl
      try simp only [Act.put, List.setIfInBounds_toArray, List.set_cons_zero, List.set_cons_succ]
      refine anyT_take (i := 20) (oi := ?o20) (v := ?v20) ?hi20 ?ha20 ?hb20 ?hc20 ?hd20 ?hq20 (Or.inl ⟨?hw20, ?hy20⟩) hS hcl ?rest20
      case hi20 => simp only [List.getElem?_toArray, List.getElem?_cons_succ, List.getElem?_cons_zero]; rfl
      case hq20 => exact fun _ _ _ h => h
      case ha20 => kernel_rfl
      case hb20 => kernel_rfl
      case hc20 => kernel_rfl
      case hd20 => kernel_rfl
      case hw20 => rfl
      case hy20 => intro w' hSw; obtain ⟨s0, s1, s2, s3, s4⟩ := hSw; go_simp; try with_reducible rfl
      clear hcl
      intro hcl
      try simp only [Act.put, List.setIfInBounds_toArray, List.set_cons_zero, List.set_cons_succ]
      refine anyT_take (i := 21) (oi := ?o21) (v := ?v21) ?hi21 ?ha21 ?hb21 ?hc21 ?hd21 ?hq21 (Or.inl ⟨?hw21, ?hy21⟩) hS hcl ?rest21
      case hi21 => simp only [List.getElem?_toArray, List.getElem?_cons_succ, List.getElem?_cons_zero]; rfl
      case hq21 => exact fun _ _ _ h => h
      case ha21 => kernel_rfl
      case hb21 => kernel_rfl
      case hc21 => kernel_rfl
      case hd21 => kernel_rfl
      case hw21 => rfl
      case hy21 => intro w' hSw; obtain ⟨s0, s1, s2, s3, s4⟩ := hSw; go_simp; try with_reducible rfl
      clear hcl
      intro hcl
      try simp only [Act.put, List.setIfInBounds_toArray, List.set_cons_zero, List.set_cons_succ]
      refine anyT_take (i := 22) (oi := ?o22) (v := ?v22) ?hi22 ?ha22 ?hb22 ?hc22 ?hd22 ?hq22 (Or.inl ⟨?hw22, ?hy22⟩) hS hcl ?rest22
      case hi22 => simp only [List.getElem?_toArray, List.getElem?_cons_succ, List.getElem?_cons_zero]; rfl
      case hq22 => exact fun _ _ _ h => h
      case ha22 => kernel_rfl
      case hb22 => kernel_rfl
      case hc22 => kernel_rfl
      case hd22 => kernel_rfl
      case hw22 => rfl
      case hy22 => intro w' hSw; obtain ⟨s0, s1, s2, s3, s4⟩ := hSw; go_simp; try with_reducible rfl
      clear hcl
      intro hcl
      try simp only [Act.put, List.setIfInBounds_toArray, List.set_cons_zero, List.set_cons_succ]
      refine anyT_take (i := 23) (oi := ?o23) (v := ?v23) ?hi23 ?ha23 ?hb23 ?hc23 ?hd23 ?hq23 (Or.inl ⟨?hw23, ?hy23⟩) hS hcl ?rest23
      case hi23 => simp only [List.getElem?_toArray, List.getElem?_cons_succ, List.getElem?_cons_zero]; rfl
      case hq23 => exact fun _ _ _ h => h
      case ha23 => kernel_rfl
      case hb23 => kernel_rfl
      case hc23 => kernel_rfl
      case hd23 => kernel_rfl
      case hw23 => rfl
      case hy23 => intro w' hSw; obtain ⟨s0, s1, s2, s3, s4⟩ := hSw; go_simp; try with_reducible rfl
      clear hcl
      intro hcl
      try simp only [Act.put, List.setIfInBounds_toArray, List.set_cons_zero, List.set_cons_succ]
      refine anyT_take (i := 24) (oi := ?o24) (v := ?v24) ?hi24 ?ha24 ?hb24 ?hc24 ?hd24 ?hq24 (Or.inl ⟨?hw24, ?hy24⟩) hS hcl ?rest24
      case hi24 => simp only [List.getElem?_toArray, List.getElem?_cons_succ, List.getElem?_cons_zero]; rfl
      case hq24 => exact fun _ _ _ h => h
      case ha24 => kernel_rfl
      case hb24 => kernel_rfl
      case hc24 => kernel_rfl
      case hd24 => kernel_rfl
      case hw24 => rfl
      case hy24 => intro w' hSw; obtain ⟨s0, s1, s2, s3, s4⟩ := hSw; go_simp; try with_reducible rfl
      clear hcl
      intro hcl
      try simp only [Act.put, List.setIfInBounds_toArray, List.set_cons_zero, List.set_cons_succ]
      obtain ⟨vw1, w1, hrun, how1, hgw1, _⟩ := run_appendR (P := Try.prog) W.drew w.heap.size 55 55 9 iS (.string ⟨#[]⟩) 16 Try.underlying55 hiS hiSz hiS1 hiS2 rfl (.slice none 0 0) 0 [] (World.ownsRow_nil _ _ _ _) hh.kA x.ks.length hh.kc (strs x.ks) (hX.k.below hb0) (strs_one _) (by unfold maxLen; omega) (by omega) (by have := hb0.size; have := s.bel.size; omega)
      rw [Nat.zero_add, List.nil_append] at how1
      obtain ⟨Aw1, cw1, rfl⟩ := own_form how1
      have hb1 : Below W.heap.size W w1 := thn hb0 (grown_none hgw1)
      refine anyT_step (k := 9) (o := ?o9) ?hi9 (by kernel_rfl) hcl ?rest9
      case hi9 => simp only [List.getElem?_toArray, List.getElem?_cons_succ, List.getElem?_cons_zero]; rfl
      intro K hK
      rw [if_pos (by rfl)]
      refine Lib.wp_append_run _ _ _ _ _ rfl _ _ rfl rfl _ w1 hrun ?_
      clear hrun hcl
      refine hK.out _ _ ⟨cell_keep z0 hb1, cell_keep y0 hb1, cell_keep n0 hb1, cell_keep n1 hb1, cell_keep n2 hb1⟩ (fun hS hcl => ?_)
      clear hK K
      try simp only [Act.put, List.setIfInBounds_toArray, List.set_cons_zero, List.set_cons_succ]
      obtain ⟨vw2, w2, hrun, how2, hgw2, _⟩ := run_appendR (P := Try.prog) w1 w.heap.size 55 55 9 iS (.string ⟨#[]⟩) 16 Try.underlying55 hiS hiSz hiS1 hiS2 rfl (.slice none 0 0) 0 [] (World.ownsRow_nil _ _ _ _) hh.vA x.vs.length hh.vc (strs x.vs) (hX.v.below hb1) (strs_one _) (by unfold maxLen; omega) (by omega) (by have := hb1.size; have := s.bel.size; omega)
      rw [Nat.zero_add, List.nil_append] at how2
      obtain ⟨Aw2, cw2, rfl⟩ := own_form how2
      have hb2 : Below W.heap.size W w2 := thn hb1 (grown_none hgw2)
      refine anyT_step (k := 17) (o := ?o17) ?hi17 (by kernel_rfl) hcl ?rest17
      case hi17 => simp only [List.getElem?_toArray, List.getElem?_cons_succ, List.getElem?_cons_zero]; rfl
      intro K hK
      rw [if_pos (by rfl)]
      refine Lib.wp_append_run _ _ _ _ _ rfl _ _ rfl rfl _ w2 hrun ?_
      clear hrun hcl
      refine hK.out _ _ ⟨cell_keep z0 hb2, cell_keep y0 hb2, cell_keep n0 hb2, cell_keep n1 hb2, cell_keep n2 hb2⟩ (fun hS hcl => ?_)
      clear hK K
      try simp only [Act.put, List.setIfInBounds_toArray, List.set_cons_zero, List.set_cons_succ]
      obtain ⟨vw3, w3, hrun, how3, hgw3, _⟩ := run_appendR (P := Try.prog) w2 w.heap.size 63 63 3 iI (.int .i64 0) 8 Try.underlying63 hiI hiIz hiI1 hiI2 rfl (.slice none 0 0) 0 [] (World.ownsRow_nil _ _ _ _) hh.cA x.kids.length hh.cc (ints x.kids) (hX.c.below hb2) (ints_one _) (by unfold maxLen; omega) (by omega) (by have := hb2.size; have := s.bel.size; omega)
      rw [Nat.zero_add, List.nil_append] at how3
      obtain ⟨Aw3, cw3, rfl⟩ := own_form how3
      have hb3 : Below W.heap.size W w3 := thn hb2 (grown_none hgw3)
      refine anyT_step (k := 25) (o := ?o25) ?hi25 (by kernel_rfl) hcl ?rest25
      case hi25 => simp only [List.getElem?_toArray, List.getElem?_cons_succ, List.getElem?_cons_zero]; rfl
      intro K hK
      rw [if_pos (by rfl)]
      refine Lib.wp_append_run _ _ _ _ _ rfl _ _ rfl rfl _ w3 hrun ?_
      clear hrun hcl
      refine hK.out _ _ ⟨cell_keep z0 hb3, cell_keep y0 hb3, cell_keep n0 hb3, cell_keep n1 hb3, cell_keep n2 hb3⟩ (fun hS hcl => ?_)
      clear hK K
      try simp only [Act.put, List.setIfInBounds_toArray, List.set_cons_zero, List.set_cons_succ]
      refine anyT_take (i := 26) (oi := ?o26) (v := ?v26) ?hi26 ?ha26 ?hb26 ?hc26 ?hd26 ?hq26 (Or.inl ⟨?hw26, ?hy26⟩) hS hcl ?rest26
      case hi26 => simp only [List.getElem?_toArray, List.getElem?_cons_succ, List.getElem?_cons_zero]; rfl
      case hq26 => exact fun _ _ _ h => h
      case ha26 => kernel_rfl
      case hb26 => kernel_rfl
      case hc26 => kernel_rfl
      case hd26 => kernel_rfl
      case hw26 => rfl
      case hy26 => intro w' hSw; obtain ⟨s0, s1, s2, s3, s4⟩ := hSw; go_simp; try with_reducible rfl
      clear hcl
      intro hcl
      try simp only [Act.put, List.setIfInBounds_toArray, List.set_cons_zero, List.set_cons_succ]
      have hb4 : Below W.heap.size W (w3.alloc (.cells #[.slice Aw1 x.ks.length cw1, .slice Aw2 x.vs.length cw2, .slice Aw3 x.kids.length cw3] 66)) := thn hb3 (below1 w3 _)
      refine anyT_step (k := 27) (o := ?o27) ?hi27 (by kernel_rfl) hcl ?rest27
      case hi27 => simp only [List.getElem?_toArray, List.getElem?_cons_succ, List.getElem?_cons_zero]; rfl
      intro K hK
      go_simp
      refine hK.out _ _ ⟨cell_keep z0 hb4, cell_keep y0 hb4, cell_keep n0 hb4, cell_keep n1 hb4, cell_keep n2 hb4⟩ (fun hS hcl => ?_)
      clear hK K hS
      try simp only [Act.put, List.setIfInBounds_toArray, List.set_cons_zero, List.set_cons_succ]
      have hnd : NdAt w3 w.heap.size ⟨Aw1, cw1, Aw2, cw2, Aw3, cw3⟩ x := ⟨own_below (own_below how1 (grown_none hgw2)) (grown_none hgw3), own_below how2 (grown_none hgw3), how3⟩
      obtain ⟨q0, q1, q2, _, _, _⟩ := three_of (heap_alloc_new w3 (.cells #[.slice Aw1 x.ks.length cw1, .slice Aw2 x.vs.length cw2, .slice Aw3 x.kids.length cw3] 66))
      obtain ⟨v4, w4, hrun, ho4, hg4, _⟩ := run_append_own (P := Try.prog) (w3.alloc (.cells #[.slice Aw1 x.ks.length cw1, .slice Aw2 x.vs.length cw2, .slice Aw3 x.kids.length cw3] 66)) w.heap.size 25 25 66 iN (.agg #[.slice none 0 0, .slice none 0 0, .slice none 0 0]) 3 72 Try.underlying25 hiN hiNz hiN1 hiN2 rfl (by decide) (.slice vA j vc) j (hcells hs (nodes.take j)) (own_below s.o hb4) ⟨w3.heap.size, 0, none⟩ 1 1 (hcell ⟨Aw1, cw1, Aw2, cw2, Aw3, cw3⟩ x) rfl (fun i u hu => by
        match i, hu with
        | 0, hu => simp [hcell] at hu; subst hu; exact q0
        | 1, hu => simp [hcell] at hu; subst hu; exact q1
        | 2, hu => simp [hcell] at hu; subst hu; exact q2
        | _ + 3, hu => simp [hcell] at hu) (fun u hu => by
        simp [hcell] at hu
        rcases hu with rfl | rfl | rfl <;> rfl) (by unfold maxLen; omega) (by omega) (by have := hb4.size; have := s.bel.size; omega)
      obtain ⟨A4, c4, rfl⟩ := own_form ho4
      have HNX := Lib.hid (s.next hkn hx hb3 hnd ho4 hg4)
      have s5 := (hg4.block b3 (heap_lt ((hb4.block b3 (heap_lt s.s)).trans s.s)) (fun e => own_ne (own_below s.o hb4) ((hb4.block b3 (heap_lt s.s)).trans s.s) hkn.2.2.1 e.symm)).trans ((hb4.block b3 (heap_lt s.s)).trans s.s)
      have p0 : w4.cell? ⟨b3, 0, none⟩ = some (.slice vA j vc) := by simp [World.cell?, s5]
      have p1 : w4.frozen? ⟨b3, 0, none⟩ = false := by simp [World.frozen?, s5]
      refine anyT_last (k := 28) (o := ?o28) ?hi28 (by kernel_rfl) (by kernel_rfl) hcl ?rest28
      case hi28 => simp only [List.getElem?_toArray, List.getElem?_cons_succ, List.getElem?_cons_zero]; rfl
      intro K hK
      rw [if_pos (by rfl)]
      refine Lib.wp_append_run _ _ _ _ _ rfl _ _ rfl rfl _ w4 hrun ?_
      clear hrun hcl
      refine hK.out _ _ (fun hcl => ?_)
      clear hK K
      try simp only [Act.put, List.setIfInBounds_toArray, List.set_cons_zero, List.set_cons_succ]
      refine anyT_free (i := 29) (oi := ?o29) (v := ?v29) ?hi29 ?ha29 ?hb29 ?hc29 ?hd29 ?hq29 (Or.inl ⟨?hw29, ?hy29⟩) hcl ?rest29
      case hi29 => simp only [List.getElem?_toArray, List.getElem?_cons_succ, List.getElem?_cons_zero]; rfl
      case hq29 => exact fun _ _ _ h => h
      case ha29 => kernel_rfl
      case hb29 => kernel_rfl
      case hc29 => kernel_rfl
      case hd29 => kernel_rfl
      case hw29 => rfl
      case hy29 => intro w' _; go_simp; with_reducible rfl
      clear hcl
      intro hcl
      try simp only [Act.put, List.setIfInBounds_toArray, List.set_cons_zero, List.set_cons_succ]
      refine anyT_last (k := 30) (o := ?o30) ?hi30 (by kernel_rfl) (by kernel_rfl) hcl ?rest30
      case hi30 => simp only [List.getElem?_toArray, List.getElem?_cons_succ, List.getElem?_cons_zero]; rfl
      intro K hK
      go_simp
      clear hcl
      refine hK.out _ _ (fun hcl => ?_)
      clear hK K
      refine anyT_done (by kernel_rfl) ?_ _
      go_simp
      clear hcl p0 p1 s5 q0 q1 q2 z0 y0 n0 n1 n2
      go_wp2
      go_roundw
      case rel => exact ⟨j + 1, _, _, by go_num, hlt, HNX.out⟩
      case measure => simp [intOf]; omega
    · obtain rfl : j = nodes.length := by omega
      have hpr := s.r
      have hps := s.s
      have z1 : wr.cell? ⟨b3, 1, none⟩ = some (.int .i64 root) := by simp [World.cell?, hps]
      have r0 : wr.cell? ⟨b2, 0, none⟩ = some (.slice none 0 0) := by simp [World.cell?, hpr]
      have r1 : wr.cell? ⟨b2, 1, none⟩ = some (.int .i64 0) := by simp [World.cell?, hpr]
      have g0 : wr.frozen? ⟨b2, 0, none⟩ = false := by simp [World.frozen?, hpr]
      have g1 : wr.frozen? ⟨b2, 1, none⟩ = false := by simp [World.frozen?, hpr]
      clear hpr hps
      go_wp2
      obtain ⟨A', c', hv, hrd, hbel, q0, q1⟩ := s.end_ hkn
      exact bodyPost_ret (v := .agg #[.slice vA nodes.length vc, .int .i64 root]) (by simp [results, Try.results8, go_sem, q0, q1]) rfl ⟨A', c', by rw [← hv], hrd, hbel⟩
end Go.Proofs.Ytkpjkglheegmgaa
namespace Go.Proofs.Ytkpjkglheegmgaa
open Go.RowKit
set_option linter.unusedSimpArgs false
set_option linter.unusedVariables false

theorem Try.infoN2 : (Try.prog.info? 65).map (fun i => (i.zero, i.size, i.bytes)) = some (some (.agg #[.slice none 0 0, .slice none 0 0, .slice none 0 0]), 3, 72) := by kernel_rfl
set_option maxRecDepth 100000 in
set_option maxHeartbeats 4000000 in
theorem ref_any (nodes : List Nd) (n c : Nat) (A : Option Addr) (root : Int) (w : World) (hS : RdS w A n nodes) (hRe : Reach nodes) :
    Calls Try.prog 23 #[.agg #[.slice A n c, .int .i64 root]] w fun e w' => ∃ A' c', e = .returned (.agg #[.slice A' n c', .int .i64 root]) ∧ RdS w' A' n nodes ∧ Below w.heap.size w w' := by
  obtain ⟨iS, hiS, hiSz, hiS1, hiS2⟩ := info_parts Try.infoS
  obtain ⟨iI, hiI, hiIz, hiI1, hiI2⟩ := info_parts Try.infoI
  obtain ⟨iN, hiN, hiNz, hiN1, hiN2⟩ := info_parts3 Try.infoN2
  have hkn : Kinds 27 65 24 := by unfold Kinds; decide
  have HS := Lib.hid hS
  have HRE := Lib.hid hRe
  have hn := hS.len
  have hmax := hS.max
  clear hS hRe
  subst hn
  go_enter Try.func23, Try.ntmps23
  go_upto_region 2 with fail
  have hw0 := below1 w (.cells #[.slice A nodes.length c, .int .i64 root] 27)
  have hs0 : ∃ W0, W0 = ((w.alloc (.cells #[.slice A nodes.length c, .int .i64 root] 27)).alloc (.cells #[.slice none 0 0, .int .i64 0] 24)).alloc (.cells #[.slice none 0 0, .int .i64 root] 24) := ⟨_, rfl⟩
  obtain ⟨W0, hW0⟩ := hs0
  rw [← hW0]
  have hr0 : W0.heap[w.heap.size + 1]? = some (.cells #[.slice none 0 0, .int .i64 0] 24 (0, 0)) := by
    rw [hW0]
    have := heap_alloc_new (w.alloc (.cells #[.slice A nodes.length c, .int .i64 root] 27)) (.cells #[.slice none 0 0, .int .i64 0] 24)
    rw [World.size_alloc] at this
    exact (Below.heap_alloc _ _ _ (by simp)).trans this
  have st : Bld 27 65 24 nodes root w w.heap.size (w.heap.size + 1) (w.heap.size + 1 + 1) A nodes.length c 0 W0 (.slice none 0 0) [] := by
    rw [hW0]
    refine ⟨Nat.le_refl _, by omega, ?_, ?_, World.ownsRow_nil _ _ _ _, rfl, fun i h x h1 => by simp at h1, (below2 w _ _).alloc (by simp; omega) _, by rw [← hW0]; exact hr0, by omega, by omega⟩
    · exact (Below.heap_alloc _ _ _ (by simp; omega)).trans ((Below.heap_alloc _ _ _ (by simp)).trans (heap_alloc_new w _))
    · have := heap_alloc_new ((w.alloc (.cells #[.slice A nodes.length c, .int .i64 root] 27)).alloc (.cells #[.slice none 0 0, .int .i64 0] 24)) (.cells #[.slice none 0 0, .int .i64 root] 24)
      rw [World.size_alloc, World.size_alloc] at this
      exact this
  have HST := Lib.hid st
  clear st hr0 hW0 hw0
  generalize w.heap.size + 1 + 1 = b3 at *
  generalize w.heap.size + 1 = b2 at *
  go_wp2
  go_loopw [4] (fun i wr => ∃ (j : Nat) (v : Value) (hs : List Hd), i = .int .i64 j ∧ j ≤ nodes.length ∧ Bld 27 65 24 nodes root w w.heap.size b2 b3 A nodes.length c j wr v hs) (fun i _ => nodes.length - (intOf i).toNat)
  case atStart => exact ⟨0, _, _, rfl, by omega, HST.out⟩
  case round =>
    obtain ⟨j, v, hs, rfl, hj, s⟩ := hrel
    clear HST
    obtain ⟨vA, vc, rfl⟩ := own_form s.o
    have hpp := s.p
    have hps := s.s
    have y0 : wr.cell? ⟨w.heap.size, 0, none⟩ = some (.slice A nodes.length c) := by simp [World.cell?, hpp]
    have z0 : wr.cell? ⟨b3, 0, none⟩ = some (.slice vA j vc) := by simp [World.cell?, hps]
    clear hpp hps
    by_cases hlt : j < nodes.length
    · obtain ⟨ad, hh, rfl, hX⟩ := (HS.out.below s.bel).at_ j nodes[j] (List.getElem?_eq_getElem hlt)
      have hx : nodes[j]? = some nodes[j] := List.getElem?_eq_getElem hlt
      have hre := HRE.out.2 nodes[j] (List.getElem_mem hlt)
      have hre0 := HRE.out.1
      generalize nodes[j] = x at *
      have n0 := hX.c0
      have n1 := hX.c1
      have n2 := hX.c2
      have hlt' : (j : Int) < (nodes.length : Int) := by omega
      go_upto_region 7 with fail
      have hb0 : Below wr.heap.size wr wr.drew := (Below.refl _ _).drew
      generalize wr = W at *
      refine region_anyT (fun W' => W'.cell? ⟨b3, 0, none⟩ = some (.slice vA j vc) ∧ W'.cell? ⟨w.heap.size, 0, none⟩ = some (.slice (some ad) nodes.length c) ∧ W'.cell? (ad.add (j * 3)) = some (.slice hh.kA x.ks.length hh.kc) ∧ W'.cell? ⟨(ad.add (j * 3)).block, (ad.add (j * 3)).off + 1, none⟩ = some (.slice hh.vA x.vs.length hh.vc) ∧ W'.cell? ⟨(ad.add (j * 3)).block, (ad.add (j * 3)).off + 2, none⟩ = some (.slice hh.cA x.kids.length hh.cc)) [0, 1, 2, 3, 4, 5, 6, 7, 8, 9, 10, 11, 12, 13, 14, 15, 16, 17, 18, 19, 20, 21, 22, 23, 24, 25, 26, 27] (by kernel_rfl) ⟨z0, y0, n0, n1, n2⟩ ?_
      intro hcl hS
      refine anyT_take (i := 0) (oi := ?o0) (v := ?v0) ?hi0 ?ha0 ?hb0 ?hc0 ?hd0 ?hq0 (Or.inl ⟨?hw0, ?hy0⟩) hS hcl ?rest0
      case hi0 => simp only [List.getElem?_toArray, List.getElem?_cons_succ, List.getElem?_cons_zero]; rfl
      case hq0 => exact fun _ _ _ h => h
      case ha0 => kernel_rfl
      case hb0 => kernel_rfl
      case hc0 => kernel_rfl
      case hd0 => kernel_rfl
      case hw0 => rfl
      case hy0 => intro w' hSw; obtain ⟨s0, s1, s2, s3, s4⟩ := hSw; go_simp; try with_reducible rfl
      clear hcl
      intro hcl
      try simp only [Act.put, List.setIfInBounds_toArray, List.set_cons_zero, List.set_cons_succ]
      refine anyT_take (i := 1) (oi := ?o1) (v := ?v1) ?hi1 ?ha1 ?hb1 ?hc1 ?hd1 ?hq1 (Or.inl ⟨?hw1, ?hy1⟩) hS hcl ?rest1
      case hi1 => simp only [List.getElem?_toArray, List.getElem?_cons_succ, List.getElem?_cons_zero]; rfl
      case hq1 => exact fun _ _ _ h => h
      case ha1 => kernel_rfl
      case hb1 => kernel_rfl
      case hc1 => kernel_rfl
      case hd1 => kernel_rfl
      case hw1 => rfl
      case hy1 => intro w' hSw; obtain ⟨s0, s1, s2, s3, s4⟩ := hSw; go_simp; try with_reducible rfl
      clear hcl
      intro hcl
      try simp only [Act.put, List.setIfInBounds_toArray, List.set_cons_zero, List.set_cons_succ]
      refine anyT_take (i := 2) (oi := ?o2) (v := ?v2) ?hi2 ?ha2 ?hb2 ?hc2 ?hd2 ?hq2 (Or.inl ⟨?hw2, ?hy2⟩) hS hcl ?rest2
      case hi2 => simp only [List.getElem?_toArray, List.getElem?_cons_succ, List.getElem?_cons_zero]; rfl
      case hq2 => exact fun _ _ _ h => h
      case ha2 => kernel_rfl
      case hb2 => kernel_rfl
      case hc2 => kernel_rfl
      case hd2 => kernel_rfl
      case hw2 => rfl
      case hy2 => intro w' hSw; obtain ⟨s0, s1, s2, s3, s4⟩ := hSw; go_simp; try with_reducible rfl
      clear hcl
      intro hcl
      try simp only [Act.put, List.setIfInBounds_toArray, List.set_cons_zero, List.set_cons_succ]
      refine anyT_take (i := 3) (oi := ?o3) (v := ?v3) ?hi3 ?ha3 ?hb3 ?hc3 ?hd3 ?hq3 (Or.inl ⟨?hw3, ?hy3⟩) hS hcl ?rest3
      case hi3 => simp only [List.getElem?_toArray, List.getElem?_cons_succ, List.getElem?_cons_zero]; rfl
      case hq3 => exact fun _ _ _ h => h
      case ha3 => kernel_rfl
      case hb3 => kernel_rfl
      case hc3 => kernel_rfl
      case hd3 => kernel_rfl
      case hw3 => rfl
      case hy3 => intro w' hSw; obtain ⟨s0, s1, s2, s3, s4⟩ := hSw; go_simp; try with_reducible rfl
      clear hcl
      intro hcl
      try simp only [Act.put, List.setIfInBounds_toArray, List.set_cons_zero, List.set_cons_succ]
      refine anyT_take (i := 4) (oi := ?o4) (v := ?v4) ?hi4 ?ha4 ?hb4 ?hc4 ?hd4 ?hq4 (Or.inl ⟨?hw4, ?hy4⟩) hS hcl ?rest4
      case hi4 => simp only [List.getElem?_toArray, List.getElem?_cons_succ, List.getElem?_cons_zero]; rfl
      case hq4 => exact fun _ _ _ h => h
      case ha4 => kernel_rfl
      case hb4 => kernel_rfl
      case hc4 => kernel_rfl
      case hd4 => kernel_rfl
      case hw4 => rfl
      case hy4 => intro w' hSw; obtain ⟨s0, s1, s2, s3, s4⟩ := hSw; go_simp; try with_reducible rfl
      clear hcl
      intro hcl
      try simp only [Act.put, List.setIfInBounds_toArray, List.set_cons_zero, List.set_cons_succ]
      refine anyT_take (i := 5) (oi := ?o5) (v := ?v5) ?hi5 ?ha5 ?hb5 ?hc5 ?hd5 ?hq5 (Or.inl ⟨?hw5, ?hy5⟩) hS hcl ?rest5
      case hi5 => simp only [List.getElem?_toArray, List.getElem?_cons_succ, List.getElem?_cons_zero]; rfl
      case hq5 => exact fun _ _ _ h => h
      case ha5 => kernel_rfl
      case hb5 => kernel_rfl
      case hc5 => kernel_rfl
      case hd5 => kernel_rfl
      case hw5 => rfl
      case hy5 => intro w' hSw; obtain ⟨s0, s1, s2, s3, s4⟩ := hSw; go_simp; try with_reducible rfl
      clear hcl
      intro hcl
      try simp only [Act.put, List.setIfInBounds_toArray, List.set_cons_zero, List.set_cons_succ]
      refine anyT_take (i := 6) (oi := ?o6) (v := ?v6) ?hi6 ?ha6 ?hb6 ?hc6 ?hd6 ?hq6 (Or.inl ⟨?hw6, ?hy6⟩) hS hcl ?rest6
      case hi6 => simp only [List.getElem?_toArray, List.getElem?_cons_succ, List.getElem?_cons_zero]; rfl
      case hq6 => exact fun _ _ _ h => h
      case ha6 => kernel_rfl
      case hb6 => kernel_rfl
      case hc6 => kernel_rfl
      case hd6 => kernel_rfl
      case hw6 => rfl
      case hy6 => intro w' hSw; obtain ⟨s0, s1, s2, s3, s4⟩ := hSw; go_simp; try with_reducible rfl
      clear hcl
      intro hcl
      try simp only [Act.put, List.setIfInBounds_toArray, List.set_cons_zero, List.set_cons_succ]
      refine anyT_take (i := 7) (oi := ?o7) (v := ?v7) ?hi7 ?ha7 ?hb7 ?hc7 ?hd7 ?hq7 (Or.inl ⟨?hw7, ?hy7⟩) hS hcl ?rest7
      case hi7 => simp only [List.getElem?_toArray, List.getElem?_cons_succ, List.getElem?_cons_zero]; rfl
      case hq7 => exact fun _ _ _ h => h
      case ha7 => kernel_rfl
      case hb7 => kernel_rfl
      case hc7 => kernel_rfl
      case hd7 => kernel_rfl
      case hw7 => rfl
      case hy7 => intro w' hSw; obtain ⟨s0, s1, s2, s3, s4⟩ := hSw; go_simp; try with_reducible rfl
      clear hcl
      intro hcl
      try simp only [Act.put, List.setIfInBounds_toArray, List.set_cons_zero, List.set_cons_succ]
      refine anyT_take (i := 8) (oi := ?o8) (v := ?v8) ?hi8 ?ha8 ?hb8 ?hc8 ?hd8 ?hq8 (Or.inl ⟨?hw8, ?hy8⟩) hS hcl ?rest8
      case hi8 => simp only [List.getElem?_toArray, List.getElem?_cons_succ, List.getElem?_cons_zero]; rfl
      case hq8 => exact fun _ _ _ h => h
      case ha8 => kernel_rfl
      case hb8 => kernel_rfl
      case hc8 => kernel_rfl
      case hd8 => kernel_rfl
      case hw8 => rfl
      case hy8 => intro w' hSw; obtain ⟨s0, s1, s2, s3, s4⟩ := hSw; go_simp; try with_reducible rfl
      clear hcl
      intro hcl
      try simp only [Act.put, List.setIfInBounds_toArray, List.set_cons_zero, List.set_cons_succ]
      refine anyT_take (i := 10) (oi := ?o10) (v := ?v10) ?hi10 ?ha10 ?hb10 ?hc10 ?hd10 ?hq10 (Or.inl ⟨?hw10, ?hy10⟩) hS hcl ?rest10
      case hi10 => simp only [List.getElem?_toArray, List.getElem?_cons_succ, List.getElem?_cons_zero]; rfl
      case hq10 => exact fun _ _ _ h => h
      case ha10 => kernel_rfl
      case hb10 => kernel_rfl
      case hc10 => kernel_rfl
      case hd10 => kernel_rfl
      case hw10 => rfl
      case hy10 => intro w' hSw; obtain ⟨s0, s1, s2, s3, s4⟩ := hSw; go_simp; try with_reducible rfl
      clear hcl
      intro hcl
      try simp only [Act.put, List.setIfInBounds_toArray, List.set_cons_zero, List.set_cons_succ]
      refine anyT_take (i := 11) (oi := ?o11) (v := ?v11) ?hi11 ?ha11 ?hb11 ?hc11 ?hd11 ?hq11 (Or.inl ⟨?hw11, ?hy11⟩) hS hcl ?rest11
      case hi11 => simp only [List.getElem?_toArray, List.getElem?_cons_succ, List.getElem?_cons_zero]; rfl
      case hq11 => exact fun _ _ _ h => h
      case ha11 => kernel_rfl
      case hb11 => kernel_rfl
      case hc11 => kernel_rfl
      case hd11 => kernel_rfl
      case hw11 => rfl
      case hy11 => intro w' hSw; obtain ⟨s0, s1, s2, s3, s4⟩ := hSw; go_simp; try with_reducible rfl
      clear hcl
      intro hcl
      try simp only [Act.put, List.setIfInBounds_toArray, List.set_cons_zero, List.set_cons_succ]
      refine anyT_take (i := 12) (oi := ?o12) (v := ?v12) ?hi12 ?ha12 ?hb12 ?hc12 ?hd12 ?hq12 (Or.inl ⟨?hw12, ?hy12⟩) hS hcl ?rest12
      case hi12 => simp only [List.getElem?_toArray, List.getElem?_cons_succ, List.getElem?_cons_zero]; rfl
      case hq12 => exact fun _ _ _ h => h
      case ha12 => kernel_rfl
      case hb12 => kernel_rfl
      case hc12 => kernel_rfl
      case hd12 => kernel_rfl
      case hw12 => rfl
      case hy12 => intro w' hSw; obtain ⟨s0, s1, s2, s3, s4⟩ := hSw; go_simp; try with_reducible rfl
      clear hcl
      intro hcl
      try simp only [Act.put, List.setIfInBounds_toArray, List.set_cons_zero, List.set_cons_succ]
      refine anyT_take (i := 13) (oi := ?o13) (v := ?v13) ?hi13 ?ha13 ?hb13 ?hc13 ?hd13 ?hq13 (Or.inl ⟨?hw13, ?hy13⟩) hS hcl ?rest13
      case hi13 => simp only [List.getElem?_toArray, List.getElem?_cons_succ, List.getElem?_cons_zero]; rfl
      case hq13 => exact fun _ _ _ h => h
      case ha13 => kernel_rfl
      case hb13 => kernel_rfl
      case hc13 => kernel_rfl
      case hd13 => kernel_rfl
      case hw13 => rfl
      case hy13 => intro w' hSw; obtain ⟨s0, s1, s2, s3, s4⟩ := hSw; go_simp; try with_reducible rfl
      clear hcl
      intro hcl
      try simp only [Act.put, List.setIfInBounds_toArray, List.set_cons_zero, List.set_cons_succ]
      refine anyT_take (i := 14) (oi := ?o14) (v := ?v14) ?hi14 ?ha14 ?hb14 ?hc14 ?hd14 ?hq14 (Or.inl ⟨?hw14, ?hy14⟩) hS hcl ?rest14
      case hi14 => simp only [List.getElem?_toArray, List.getElem?_cons_succ, List.getElem?_cons_zero]; rfl
      case hq14 => exact fun _ _ _ h => h
      case ha14 => kernel_rfl
      case hb14 => kernel_rfl
      case hc14 => kernel_rfl
      case hd14 => kernel_rfl
      case hw14 => rfl
      case hy14 => intro w' hSw; obtain ⟨s0, s1, s2, s3, s4⟩ := hSw; go_simp; try with_reducible rfl
      clear hcl
      intro hcl
      try simp only [Act.put, List.setIfInBounds_toArray, List.set_cons_zero, List.set_cons_succ]
      refine anyT_take (i := 15) (oi := ?o15) (v := ?v15) ?hi15 ?ha15 ?hb15 ?hc15 ?hd15 ?hq15 (Or.inl ⟨?hw15, ?hy15⟩) hS hcl ?rest15
      case hi15 => simp only [List.getElem?_toArray, List.getElem?_cons_succ, List.getElem?_cons_zero]; rfl
      case hq15 => exact fun _ _ _ h => h
      case ha15 => kernel_rfl
      case hb15 => kernel_rfl
      case hc15 => kernel_rfl
      case hd15 => kernel_rfl
      case hw15 => rfl
      case hy15 => intro w' hSw; obtain ⟨s0, s1, s2, s3, s4⟩ := hSw; go_simp; try with_reducible rfl
      clear hcl
      intro hcl
      try simp only [Act.put, List.setIfInBounds_toArray, List.set_cons_zero, List.set_cons_succ]
      refine anyT_take (i := 16) (oi := ?o16) (v := ?v16) ?hi16 ?ha16 ?hb16 ?hc16 ?hd16 ?hq16 (Or.inl ⟨?hw16, ?hy16⟩) hS hcl ?rest16
      case hi16 => simp only [List.getElem?_toArray, List.getElem?_cons_succ, List.getElem?_cons_zero]; rfl
      case hq16 => exact fun _ _ _ h => h
      case ha16 => kernel_rfl
      case hb16 => kernel_rfl
      case hc16 => kernel_rfl
      case hd16 => kernel_rfl
      case hw16 => rfl
      case hy16 => intro w' hSw; obtain ⟨s0, s1, s2, s3, s4⟩ := hSw; go_simp; try with_reducible rfl
      clear hcl
      intro hcl
      try simp only [Act.put, List.setIfInBounds_toArray, List.set_cons_zero, List.set_cons_succ]
      refine anyT_take (i := 18) (oi := ?o18) (v := ?v18) ?hi18 ?ha18 ?hb18 ?hc18 ?hd18 ?hq18 (Or.inl ⟨?hw18, ?hy18⟩) hS hcl ?rest18
      case hi18 => simp only [List.getElem?_toArray, List.getElem?_cons_succ, List.getElem?_cons_zero]; rfl
      case hq18 => exact fun _ _ _ h => h
      case ha18 => kernel_rfl
      case hb18 => kernel_rfl
      case hc18 => kernel_rfl
      case hd18 => kernel_rfl
      case hw18 => rfl
      case hy18 => intro w' hSw; obtain ⟨s0, s1, s2, s3, s4⟩ := hSw; go_simp; try with_reducible rfl
      clear hcl
      intro hcl
      try simp only [Act.put, List.setIfInBounds_toArray, List.set_cons_zero, List.set_cons_succ]
      refine anyT_take (i := 19) (oi := ?o19) (v := ?v19) ?hi19 ?ha19 ?hb19 ?hc19 ?hd19 ?hq19 (Or.inl ⟨?hw19, ?hy19⟩) hS hcl ?rest19
      case hi19 => simp only [List.getElem?_toArray, List.getElem?_cons_succ, List.getElem?_cons_zero]; rfl
      case hq19 => exact fun _ _ _ h => h
      case ha19 => kernel_rfl
      case hb19 => kernel_rfl
      case hc19 => kernel_rfl
      case hd19 => kernel_rfl
      case hw19 => rfl
      case hy19 => intro w' hSw; obtain ⟨s0, s1, s2, s3, s4⟩ := hSw; go_simp; try with_reducible rfl
      clear hcl
      intro hcl
      try simp only [Act.put, List.setIfInBounds_toArray, List.set_cons_zero, List.set_cons_succ]
      refine anyT_take (i := 20) (oi := ?o20) (v := ?v20) ?hi20 ?ha20 ?hb20 ?hc20 ?hd20 ?hq20 (Or.inl ⟨?hw20, ?hy20⟩) hS hcl ?rest20
      case hi20 => simp only [List.getElem?_toArray, List.getElem?_cons_succ, List.getElem?_cons_zero]; rfl
      case hq20 => exact fun _ _ _ h => h
      case ha20 => kernel_rfl
      case hb20 => kernel_rfl
      case hc20 => kernel_rfl
      case hd20 => kernel_rfl
      case hw20 => rfl
      case hy20 => intro w' hSw; obtain ⟨s0, s1, s2, s3, s4⟩ := hSw; go_simp; try with_reducible rfl
      clear hcl
      intro hcl
      try simp only [Act.put, List.setIfInBounds_toArray, List.set_cons_zero, List.set_cons_succ]
      refine anyT_take (i := 21) (oi := ?o21) (v := ?v21) ?hi21 ?ha21 ?hb21 ?hc21 ?hd21 ?hq21 (Or.inl ⟨?hw21, ?hy21⟩) hS hcl ?rest21
      case hi21 => simp only [List.getElem?_toArray, List.getElem?_cons_succ, List.getElem?_cons_zero]; rfl
      case hq21 => exact fun _ _ _ h => h
      case ha21 => kernel_rfl
      case hb21 => kernel_rfl
      case hc21 => kernel_rfl
      case hd21 => kernel_rfl
      case hw21 => rfl
      case hy21 => intro w' hSw; obtain ⟨s0, s1, s2, s3, s4⟩ := hSw; go_simp; try with_reducible rfl
      clear hcl
      intro hcl
      try simp only [Act.put, List.setIfInBounds_toArray, List.set_cons_zero, List.set_cons_succ]
      refine anyT_take (i := 22) (oi := ?o22) (v := ?v22) ?hi22 ?ha22 ?hb22 ?hc22 ?hd22 ?hq22 (Or.inl ⟨?hw22, ?hy22⟩) hS hcl ?rest22
      case hi22 => simp only [List.getElem?_toArray, List.getElem?_cons_succ, List.getElem?_cons_zero]; rfl
      case hq22 => exact fun _ _ _ h => h
      case ha22 => kernel_rfl
      case hb22 => kernel_rfl
      case hc22 => kernel_rfl
      case hd22 => kernel_rfl
      case hw22 => rfl
      case hy22 => intro w' hSw; obtain ⟨s0, s1, s2, s3, s4⟩ := hSw; go_simp; try with_reducible rfl
      clear hcl
      intro hcl
      try simp only [Act.put, List.setIfInBounds_toArray, List.set_cons_zero, List.set_cons_succ]
      refine anyT_take (i := 23) (oi := ?o23) (v := ?v23) ?hi23 ?ha23 ?hb23 ?hc23 ?hd23 ?hq23 (Or.inl ⟨?hw23, ?hy23⟩) hS hcl ?rest23
      case hi23 => simp only [List.getElem?_toArray, List.getElem?_cons_succ, List.getElem?_cons_zero]; rfl
      case hq23 => exact fun _ _ _ h => h
      case ha23 => kernel_rfl
      case hb23 => kernel_rfl
      case hc23 => kernel_rfl
      case hd23 => kernel_rfl
      case hw23 => rfl
      case hy23 => intro w' hSw; obtain ⟨s0, s1, s2, s3, s4⟩ := hSw; go_simp; try with_reducible rfl
      clear hcl
      intro hcl
      try simp only [Act.put, List.setIfInBounds_toArray, List.set_cons_zero, List.set_cons_succ]
      refine anyT_take (i := 24) (oi := ?o24) (v := ?v24) ?hi24 ?ha24 ?hb24 ?hc24 ?hd24 ?hq24 (Or.inl ⟨?hw24, ?hy24⟩) hS hcl ?rest24
      case hi24 => simp only [List.getElem?_toArray, List.getElem?_cons_succ, List.getElem?_cons_zero]; rfl
      case hq24 => exact fun _ _ _ h => h
      case ha24 => kernel_rfl
      case hb24 => kernel_rfl
      case hc24 => kernel_rfl
      case hd24 => kernel_rfl
      case hw24 => rfl
      case hy24 => intro w' hSw; obtain ⟨s0, s1, s2, s3, s4⟩ := hSw; go_simp; try with_reducible rfl
      clear hcl
      intro hcl
      try simp only [Act.put, List.setIfInBounds_toArray, List.set_cons_zero, List.set_cons_succ]
      obtain ⟨vw1, w1, hrun, how1, hgw1, _⟩ := run_appendR (P := Try.prog) W.drew w.heap.size 55 55 9 iS (.string ⟨#[]⟩) 16 Try.underlying55 hiS hiSz hiS1 hiS2 rfl (.slice none 0 0) 0 [] (World.ownsRow_nil _ _ _ _) hh.kA x.ks.length hh.kc (strs x.ks) (hX.k.below hb0) (strs_one _) (by unfold maxLen; omega) (by omega) (by have := hb0.size; have := s.bel.size; omega)
      rw [Nat.zero_add, List.nil_append] at how1
      obtain ⟨Aw1, cw1, rfl⟩ := own_form how1
      have hb1 : Below W.heap.size W w1 := thn hb0 (grown_none hgw1)
      refine anyT_step (k := 9) (o := ?o9) ?hi9 (by kernel_rfl) hcl ?rest9
      case hi9 => simp only [List.getElem?_toArray, List.getElem?_cons_succ, List.getElem?_cons_zero]; rfl
      intro K hK
      rw [if_pos (by rfl)]
      refine Lib.wp_append_run _ _ _ _ _ rfl _ _ rfl rfl _ w1 hrun ?_
      clear hrun hcl
      refine hK.out _ _ ⟨cell_keep z0 hb1, cell_keep y0 hb1, cell_keep n0 hb1, cell_keep n1 hb1, cell_keep n2 hb1⟩ (fun hS hcl => ?_)
      clear hK K
      try simp only [Act.put, List.setIfInBounds_toArray, List.set_cons_zero, List.set_cons_succ]
      obtain ⟨vw2, w2, hrun, how2, hgw2, _⟩ := run_appendR (P := Try.prog) w1 w.heap.size 55 55 9 iS (.string ⟨#[]⟩) 16 Try.underlying55 hiS hiSz hiS1 hiS2 rfl (.slice none 0 0) 0 [] (World.ownsRow_nil _ _ _ _) hh.vA x.vs.length hh.vc (strs x.vs) (hX.v.below hb1) (strs_one _) (by unfold maxLen; omega) (by omega) (by have := hb1.size; have := s.bel.size; omega)
      rw [Nat.zero_add, List.nil_append] at how2
      obtain ⟨Aw2, cw2, rfl⟩ := own_form how2
      have hb2 : Below W.heap.size W w2 := thn hb1 (grown_none hgw2)
      refine anyT_step (k := 17) (o := ?o17) ?hi17 (by kernel_rfl) hcl ?rest17
      case hi17 => simp only [List.getElem?_toArray, List.getElem?_cons_succ, List.getElem?_cons_zero]; rfl
      intro K hK
      rw [if_pos (by rfl)]
      refine Lib.wp_append_run _ _ _ _ _ rfl _ _ rfl rfl _ w2 hrun ?_
      clear hrun hcl
      refine hK.out _ _ ⟨cell_keep z0 hb2, cell_keep y0 hb2, cell_keep n0 hb2, cell_keep n1 hb2, cell_keep n2 hb2⟩ (fun hS hcl => ?_)
      clear hK K
      try simp only [Act.put, List.setIfInBounds_toArray, List.set_cons_zero, List.set_cons_succ]
      obtain ⟨vw3, w3, hrun, how3, hgw3, _⟩ := run_appendR (P := Try.prog) w2 w.heap.size 63 63 3 iI (.int .i64 0) 8 Try.underlying63 hiI hiIz hiI1 hiI2 rfl (.slice none 0 0) 0 [] (World.ownsRow_nil _ _ _ _) hh.cA x.kids.length hh.cc (ints x.kids) (hX.c.below hb2) (ints_one _) (by unfold maxLen; omega) (by omega) (by have := hb2.size; have := s.bel.size; omega)
      rw [Nat.zero_add, List.nil_append] at how3
      obtain ⟨Aw3, cw3, rfl⟩ := own_form how3
      have hb3 : Below W.heap.size W w3 := thn hb2 (grown_none hgw3)
      refine anyT_step (k := 25) (o := ?o25) ?hi25 (by kernel_rfl) hcl ?rest25
      case hi25 => simp only [List.getElem?_toArray, List.getElem?_cons_succ, List.getElem?_cons_zero]; rfl
      intro K hK
      rw [if_pos (by rfl)]
      refine Lib.wp_append_run _ _ _ _ _ rfl _ _ rfl rfl _ w3 hrun ?_
      clear hrun hcl
      refine hK.out _ _ ⟨cell_keep z0 hb3, cell_keep y0 hb3, cell_keep n0 hb3, cell_keep n1 hb3, cell_keep n2 hb3⟩ (fun hS hcl => ?_)
      clear hK K
      try simp only [Act.put, List.setIfInBounds_toArray, List.set_cons_zero, List.set_cons_succ]
      refine anyT_take (i := 26) (oi := ?o26) (v := ?v26) ?hi26 ?ha26 ?hb26 ?hc26 ?hd26 ?hq26 (Or.inl ⟨?hw26, ?hy26⟩) hS hcl ?rest26
      case hi26 => simp only [List.getElem?_toArray, List.getElem?_cons_succ, List.getElem?_cons_zero]; rfl
      case hq26 => exact fun _ _ _ h => h
      case ha26 => kernel_rfl
      case hb26 => kernel_rfl
      case hc26 => kernel_rfl
      case hd26 => kernel_rfl
      case hw26 => rfl
      case hy26 => intro w' hSw; obtain ⟨s0, s1, s2, s3, s4⟩ := hSw; go_simp; try with_reducible rfl
      clear hcl
      intro hcl
      try simp only [Act.put, List.setIfInBounds_toArray, List.set_cons_zero, List.set_cons_succ]
      have hb4 : Below W.heap.size W (w3.alloc (.cells #[.slice Aw1 x.ks.length cw1, .slice Aw2 x.vs.length cw2, .slice Aw3 x.kids.length cw3] 65)) := thn hb3 (below1 w3 _)
      refine anyT_step (k := 27) (o := ?o27) ?hi27 (by kernel_rfl) hcl ?rest27
      case hi27 => simp only [List.getElem?_toArray, List.getElem?_cons_succ, List.getElem?_cons_zero]; rfl
      intro K hK
      go_simp
      refine hK.out _ _ ⟨cell_keep z0 hb4, cell_keep y0 hb4, cell_keep n0 hb4, cell_keep n1 hb4, cell_keep n2 hb4⟩ (fun hS hcl => ?_)
      clear hK K hS
      try simp only [Act.put, List.setIfInBounds_toArray, List.set_cons_zero, List.set_cons_succ]
      have hnd : NdAt w3 w.heap.size ⟨Aw1, cw1, Aw2, cw2, Aw3, cw3⟩ x := ⟨own_below (own_below how1 (grown_none hgw2)) (grown_none hgw3), own_below how2 (grown_none hgw3), how3⟩
      obtain ⟨q0, q1, q2, _, _, _⟩ := three_of (heap_alloc_new w3 (.cells #[.slice Aw1 x.ks.length cw1, .slice Aw2 x.vs.length cw2, .slice Aw3 x.kids.length cw3] 65))
      obtain ⟨v4, w4, hrun, ho4, hg4, _⟩ := run_append_own (P := Try.prog) (w3.alloc (.cells #[.slice Aw1 x.ks.length cw1, .slice Aw2 x.vs.length cw2, .slice Aw3 x.kids.length cw3] 65)) w.heap.size 22 22 65 iN (.agg #[.slice none 0 0, .slice none 0 0, .slice none 0 0]) 3 72 Try.underlying22 hiN hiNz hiN1 hiN2 rfl (by decide) (.slice vA j vc) j (hcells hs (nodes.take j)) (own_below s.o hb4) ⟨w3.heap.size, 0, none⟩ 1 1 (hcell ⟨Aw1, cw1, Aw2, cw2, Aw3, cw3⟩ x) rfl (fun i u hu => by
        match i, hu with
        | 0, hu => simp [hcell] at hu; subst hu; exact q0
        | 1, hu => simp [hcell] at hu; subst hu; exact q1
        | 2, hu => simp [hcell] at hu; subst hu; exact q2
        | _ + 3, hu => simp [hcell] at hu) (fun u hu => by
        simp [hcell] at hu
        rcases hu with rfl | rfl | rfl <;> rfl) (by unfold maxLen; omega) (by omega) (by have := hb4.size; have := s.bel.size; omega)
      obtain ⟨A4, c4, rfl⟩ := own_form ho4
      have HNX := Lib.hid (s.next hkn hx hb3 hnd ho4 hg4)
      have s5 := (hg4.block b3 (heap_lt ((hb4.block b3 (heap_lt s.s)).trans s.s)) (fun e => own_ne (own_below s.o hb4) ((hb4.block b3 (heap_lt s.s)).trans s.s) hkn.2.2.1 e.symm)).trans ((hb4.block b3 (heap_lt s.s)).trans s.s)
      have p0 : w4.cell? ⟨b3, 0, none⟩ = some (.slice vA j vc) := by simp [World.cell?, s5]
      have p1 : w4.frozen? ⟨b3, 0, none⟩ = false := by simp [World.frozen?, s5]
      refine anyT_last (k := 28) (o := ?o28) ?hi28 (by kernel_rfl) (by kernel_rfl) hcl ?rest28
      case hi28 => simp only [List.getElem?_toArray, List.getElem?_cons_succ, List.getElem?_cons_zero]; rfl
      intro K hK
      rw [if_pos (by rfl)]
      refine Lib.wp_append_run _ _ _ _ _ rfl _ _ rfl rfl _ w4 hrun ?_
      clear hrun hcl
      refine hK.out _ _ (fun hcl => ?_)
      clear hK K
      try simp only [Act.put, List.setIfInBounds_toArray, List.set_cons_zero, List.set_cons_succ]
      refine anyT_free (i := 29) (oi := ?o29) (v := ?v29) ?hi29 ?ha29 ?hb29 ?hc29 ?hd29 ?hq29 (Or.inl ⟨?hw29, ?hy29⟩) hcl ?rest29
      case hi29 => simp only [List.getElem?_toArray, List.getElem?_cons_succ, List.getElem?_cons_zero]; rfl
      case hq29 => exact fun _ _ _ h => h
      case ha29 => kernel_rfl
      case hb29 => kernel_rfl
      case hc29 => kernel_rfl
      case hd29 => kernel_rfl
      case hw29 => rfl
      case hy29 => intro w' _; go_simp; with_reducible rfl
      clear hcl
      intro hcl
      try simp only [Act.put, List.setIfInBounds_toArray, List.set_cons_zero, List.set_cons_succ]
      refine anyT_last (k := 30) (o := ?o30) ?hi30 (by kernel_rfl) (by kernel_rfl) hcl ?rest30
      case hi30 => simp only [List.getElem?_toArray, List.getElem?_cons_succ, List.getElem?_cons_zero]; rfl
      intro K hK
      go_simp
      clear hcl
      refine hK.out _ _ (fun hcl => ?_)
      clear hK K
      refine anyT_done (by kernel_rfl) ?_ _
      go_simp
      clear hcl p0 p1 s5 q0 q1 q2 z0 y0 n0 n1 n2
      go_wp2
      go_roundw
      case rel => exact ⟨j + 1, _, _, by go_num, hlt, HNX.out⟩
      case measure => simp [intOf]; omega
    · obtain rfl : j = nodes.length := by omega
      have hpr := s.r
      have hps := s.s
      have z1 : wr.cell? ⟨b3, 1, none⟩ = some (.int .i64 root) := by simp [World.cell?, hps]
      have r0 : wr.cell? ⟨b2, 0, none⟩ = some (.slice none 0 0) := by simp [World.cell?, hpr]
      have r1 : wr.cell? ⟨b2, 1, none⟩ = some (.int .i64 0) := by simp [World.cell?, hpr]
      have g0 : wr.frozen? ⟨b2, 0, none⟩ = false := by simp [World.frozen?, hpr]
      have g1 : wr.frozen? ⟨b2, 1, none⟩ = false := by simp [World.frozen?, hpr]
      clear hpr hps
      go_wp2
      obtain ⟨A', c', hv, hrd, hbel, q0, q1⟩ := s.end_ hkn
      exact bodyPost_ret (v := .agg #[.slice vA nodes.length vc, .int .i64 root]) (by simp [results, Try.results23, go_sem, q0, q1]) rfl ⟨A', c', by rw [← hv], hrd, hbel⟩
end Go.Proofs.Ytkpjkglheegmgaa
