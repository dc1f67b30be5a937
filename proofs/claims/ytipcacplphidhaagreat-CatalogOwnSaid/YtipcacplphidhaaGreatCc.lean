/- What Check answers: the walk. Conditions: a statement that is read in memory. -/
import Derived.Test.YtipcacplphidhaaGreatCb
import Derived.Test.YtipcacplphidhaaGreatTp
import Derived.Test.YtipcacplphidhaaGreatTl
namespace Go.Proofs.YtipcacplphidhaaGreat.Sy
open Go.RowKit Go.Shelf
set_option linter.unusedSimpArgs false
set_option linter.unusedVariables false
attribute [local go_sem] Oper.semAt_some

theorem sub_list {α : Type} {P : α → Prop} : ∀ (l : List α), (∀ x ∈ l, P x) → ∃ l' : List { x // P x }, l'.map (·.1) = l
  | [], _ => ⟨[], rfl⟩
  | x :: l, h => by
    obtain ⟨l', h'⟩ := sub_list l fun y hy => h y (List.mem_cons_of_mem _ hy)
    exact ⟨⟨x, h x List.mem_cons_self⟩ :: l', by simp [h']⟩
theorem LsAt.below {w w' : World} {A : Option Addr} {es : List Ge} (h : LsAt w A es) (hb : Below w.heap.size w w') : LsAt w' A es := fun ad e j y hy i v hv => cell_keep (h ad e j y hy i v hv) hb
theorem iter_stops {m : Nat} (x : St m) (h : Hs) (g : Nat) (w V : World) (hr : RdSt (fun b => b < w.heap.size) w x h) (hbV : Below w.heap.size w V) (hbox : V.heap[g]? = some (.cells (x.cs h) 31 (0, 0))) (h16 : x.rows.length ≤ 16) (h8 : x.sets.length ≤ 8) :
    ∃ all : List (GeR w.heap.size w), errsOf (all.map (·.1)) = errsX x ∧ SeqStopsK Fence.wide 2 Tryz.prog 74 #[.pointer (some ⟨g, 0, none⟩)] (fun e : GeR w.heap.size w => #[e.1.val]) (KpB w.heap.size) (fun xs => xs = all) (fun pre => pre <+: all) all.length V := by
  obtain ⟨rS, r1, r2, r3, r4⟩ := sls_of hr.R
  obtain ⟨sG, s1, s2, s3, s4⟩ := sets_of hr.S
  obtain ⟨it, i1, i2, i3, i4, i5⟩ := sl_of hr.I
  obtain ⟨on, o1, o2, o3, o4, o5⟩ := sl_of hr.O
  obtain ⟨wh, w1, w2, w3, w4, w5⟩ := sl_of hr.W
  obtain ⟨gr, g1, g2, g3, g4, g5⟩ := sl_of hr.G
  obtain ⟨all, hall⟩ := sub_list (P := fun e : Ge => e.Rd w.heap.size w) (rS.flatMap Sl.es ++ (sG ++ (it.es ++ (on.es ++ (wh.es ++ gr.es))))) fun e he => by
    simp only [List.mem_append, List.mem_flatMap] at he
    rcases he with ⟨s, hs, he⟩ | he | he | he | he | he
    · exact (r3 s hs).rd e he
    · exact s3 e he
    · exact i5.rd e he
    · exact o5.rd e he
    · exact w5.rd e he
    · exact g5.rd e he
  refine ⟨all, ?_, fun l J Jx W hW hJ hJx hY h0 => ?_⟩
  · rw [hall]
    simp only [errsOf_app]
    rw [r2, s2, i4, o4, w4, g4]
    rfl
  · have hBW : Below w.heap.size w W := hbV.trans (hW.mono hbV.size)
    have hlt : g < V.heap.size := by
      rcases Nat.lt_or_ge g V.heap.size with h' | h'
      · exact h'
      · rw [Array.getElem?_eq_none h'] at hbox; cases hbox
    obtain ⟨_, _, _, _, _, c5, c6, c7, _, c9, c10, c11, _, _⟩ := cells14 ((hW.block g hlt).trans hbox)
    refine iter_walk w.heap.size g w W rS sG it on wh gr h.R.a h.S.a h.R.c h.S.c all hall hBW.size ⟨0, 0, ⟨#[]⟩, ⟨#[]⟩, ⟨#[]⟩, ⟨#[]⟩, undef, undef, ?_, ?_, ?_, ?_, ?_, ?_⟩ (Nat.lt_of_lt_of_le hlt hW.size) ?_ ?_ (by omega) (by omega) ?_ ?_ ?_ l J Jx hJ hY h0
    · rw [r1]; exact c5
    · rw [s1]; exact c6
    · unfold Sl.val; rw [i1, i2, i3]; exact c7
    · unfold Sl.val; rw [o1, o2, o3]; exact c9
    · unfold Sl.val; rw [w1, w2, w3]; exact c10
    · unfold Sl.val; rw [g1, g2, g3]; exact c11
    · rw [r1]; exact hr.R.hdr
    · exact fun ad e j u hu => cell_keep (r4 ad e j u hu) hBW
    · rw [s1]; exact hr.S.hdr
    · intro j e hj
      obtain ⟨ad, mm, q1, q2, q3⟩ := s4 j e hj
      exact ⟨ad, mm, q1, Nat.lt_of_lt_of_le q2 hBW.size, fun i v hv => cell_keep (q3 i v hv) hBW⟩
    · rintro s (hs | rfl | rfl | rfl | rfl)
      · exact ⟨(r3 s hs).hdr, (r3 s hs).cells.below hBW⟩
      · exact ⟨i5.hdr, i5.cells.below hBW⟩
      · exact ⟨o5.hdr, o5.cells.below hBW⟩
      · exact ⟨w5.hdr, w5.cells.below hBW⟩
      · exact ⟨g5.hdr, g5.cells.below hBW⟩

/-- The Group is no column. -/
def grBad {m : Nat} (x : St m) : Bool := match x.gr with | [] => false | y :: _ => decide (y.e.op ≠ 1)
/-- What Check answers. -/
def chkSt {m : Nat} (x : St m) : Int := if x.kind < 1 ∨ 10 < x.kind then 22 else if formedB x = false then 9 else if firstE (errsX x) ≠ 0 then firstE (errsX x) else if grBad x = true then 9 else 0

set_option maxHeartbeats 4000000 in
set_option maxRecDepth 100000 in
theorem sCheck_kind {m : Nat} (x : St m) (h : Hs) (w : World) (hk : x.kind < 1 ∨ 10 < x.kind) :
    Calls Tryz.prog 30 #[x.val h] w fun e w' => e = .returned (.int .i64 22) ∧ Below w.heap.size w w' := by
  obtain ⟨kind, tb, cols, key, ix, rows, sets, items, jn, on, wh, gr, ord, lim⟩ := x
  obtain ⟨⟨aC, cC⟩, ⟨aR, cR⟩, ⟨aS, cS⟩, ⟨aI, cI⟩, ⟨aO, cO⟩, ⟨aW, cW⟩, ⟨aG, cG⟩, ⟨aD, cD⟩⟩ := h
  unfold St.val St.cs
  dsimp only at hk ⊢
  refine (callsIn_wide (n := 3)).1 ?_
  by_cases h1 : kind < 1
  · have d1 : decide (kind < 1) = true := by simpa using h1
    clear hk h1
    refine callsIn_of_wp_marks Tryz.func30 rfl trivial ?_ rfl
    simp only [Tryz.ntmps30, List.size_toArray, List.length_cons, List.length_nil, Nat.reduceAdd, Nat.reduceSub, Array.replicate_succ, Array.replicate_zero, List.push_toArray, List.append_toArray, List.nil_append, List.cons_append]
    gi_wp2
    refine ⟨.int .i64 22, ?_, rfl, below2 _ _ _⟩
    simp [results, Tryz.f30, go_sem]
  · have d1 : decide (kind < 1) = false := by simpa using h1
    have d2 : decide (10 < kind) = true := by simp; omega
    clear hk h1
    refine callsIn_of_wp_marks Tryz.func30 rfl trivial ?_ rfl
    simp only [Tryz.ntmps30, List.size_toArray, List.length_cons, List.length_nil, Nat.reduceAdd, Nat.reduceSub, Array.replicate_succ, Array.replicate_zero, List.push_toArray, List.append_toArray, List.nil_append, List.cons_append]
    gi_wp2
    refine ⟨.int .i64 22, ?_, rfl, below2 _ _ _⟩
    simp [results, Tryz.f30, go_sem]

theorem two14 {w w1 : World} {o p : Obj} (hb : Below ((w.alloc o).alloc p).heap.size ((w.alloc o).alloc p) w1) : w1.heap[w.heap.size]? = some o ∧ w1.heap[w.heap.size + 1]? = some p ∧ Below w.heap.size w w1 ∧ w.heap.size + 2 ≤ w1.heap.size := by
  have e : ((w.alloc o).alloc p).heap.size = w.heap.size + 2 := by simp
  refine ⟨(hb.block _ (by rw [e]; omega)).trans ?_, (hb.block _ (by rw [e]; omega)).trans (heap_two w o p), below_of2 hb, by have := hb.size; omega⟩
  rw [Below.heap_alloc _ _ _ (by simp), heap_alloc_new]

set_option maxHeartbeats 4000000 in
set_option maxRecDepth 100000 in
theorem sCheck_state {m : Nat} (x : St m) (h : Hs) (w : World) (k : Nat) (hk : x.kind = k) (h1 : 1 ≤ k) (h2 : k ≤ 10) (hr : RdSt Any w x h) (hf : formedB x = false) :
    Calls Tryz.prog 30 #[x.val h] w fun e w' => e = .returned (.int .i64 9) ∧ Below w.heap.size w w' := by
  have hF := fun (o p : Obj) => callsIn_wide (n := 2).2 (sisFormed_any x h k ((w.alloc o).alloc p) hk h1 h2 (RdSt.below (w := w) hr (below2 w o p)))
  rw [hf] at hF
  clear hr hf
  obtain ⟨kind, tb, cols, key, ix, rows, sets, items, jn, on, wh, gr, ord, lim⟩ := x
  obtain ⟨⟨aC, cC⟩, ⟨aR, cR⟩, ⟨aS, cS⟩, ⟨aI, cI⟩, ⟨aO, cO⟩, ⟨aW, cW⟩, ⟨aG, cG⟩, ⟨aD, cD⟩⟩ := h
  unfold St.val St.cs at hF ⊢
  dsimp only at hk hF ⊢
  have HF := Lib.hid hF
  clear hF
  have d1 : decide (kind < 1) = false := by simp; omega
  have d2 : decide (10 < kind) = false := by simp; omega
  have d3 : ¬ kind < 1 := by omega
  have d4 : ¬ 10 < kind := by omega
  clear hk h1 h2
  refine (callsIn_wide (n := 3)).1 ?_
  refine callsIn_of_wp_marks Tryz.func30 rfl trivial ?_ rfl
  simp only [Tryz.ntmps30, List.size_toArray, List.length_cons, List.length_nil, Nat.reduceAdd, Nat.reduceSub, Array.replicate_succ, Array.replicate_zero, List.push_toArray, List.append_toArray, List.nil_append, List.cons_append]
  gi_wp2_with (refine ⟨trivial, ?_⟩; gi_at_call 49; refine (HF.out _ _).mono ?_; rintro e w1 ⟨rfl, hb⟩; obtain ⟨hX, hR, hB, hz⟩ := two14 hb; obtain ⟨x0, x1, x2, x3, x4, x5, x6, x7, x8, x9, x10, x11, x12, x13⟩ := cells14 hX; have r0 : w1.cell? ⟨w.heap.size + 1, 0, none⟩ = some (.int .i64 0) := (by simp [World.cell?, hR]); have f0 : w1.frozen? ⟨w.heap.size + 1, 0, none⟩ = false := (by simp [World.frozen?, hR]))
  refine ⟨.int .i64 9, ?_, rfl, hB.setCell (p := ⟨w.heap.size + 1, 0, none⟩) (by simp) _⟩
  have hc5 := World.cell?_setCell_same' w1 ⟨w.heap.size + 1, 0, none⟩ (.int .i64 9) (by rw [r0]; rfl)
  simp [results, Tryz.f30, go_sem, hc5]

/-- A round's own expression, in a block of its own. -/
def InBox (W : World) (Bx : Nat) (e : Ge) : Prop := W.heap[Bx]? = some (.cells e.cs.toArray 62 (0, 0))
theorem kcl_put {W : World} {l : Nat} {o : Obj} (o' : Obj) (h : W.heap[l]? = some o) (hc : o.isCells = false) : Kcl W (W.putObj l o') := fun k p hk hp => by
  refine ((grownBy_putObj' W l o').block k ?_ ?_).trans hk
  · rcases Nat.lt_or_ge k W.heap.size with h' | h'
    · exact h'
    · rw [Array.getElem?_eq_none h'] at hk; cases hk
  · intro e
    injection e with e
    subst e
    rw [h] at hk
    injection hk with hk
    subst hk
    rw [hc] at hp
    cases hp
theorem keeps_below {W W' : World} (h : Below W.heap.size W W') : KeepsOthers W W' := ⟨h.size, fun k o hk _ => (h.block k (by
  rcases Nat.lt_or_ge k W.heap.size with h' | h'
  · exact h'
  · rw [Array.getElem?_eq_none h'] at hk; cases hk)).trans hk⟩
theorem firstE_snoc (l : List Int) (e : Int) (h : firstE l = 0) : firstE (l ++ [e]) = e := by
  rw [firstE_app, if_pos h]
  unfold firstE
  split
  · rename_i h0; rw [h0]; rfl
  · rfl
theorem firstE_pre {a b : List Int} (h : a <+: b) (h0 : firstE a ≠ 0) : firstE b = firstE a := by
  obtain ⟨c, rfl⟩ := h
  rw [firstE_app, if_neg h0]
theorem errs_snoc {B : Nat} {w : World} (pre : List (GeR B w)) (e : GeR B w) : errsOf ((pre ++ [e]).map (·.1)) = errsOf (pre.map (·.1)) ++ [chkX e.1.x] := by simp [errsOf]

set_option maxHeartbeats 8000000 in
set_option maxRecDepth 100000 in
theorem sCheck_formed {m : Nat} (x : St m) (h : Hs) (w : World) (k : Nat) (hk : x.kind = k) (h1 : 1 ≤ k) (h2 : k ≤ 10) (hr : RdSt Any w x h) (hf : formedB x = true) (h16 : x.rows.length ≤ 16) (h8 : x.sets.length ≤ 8) :
    Calls Tryz.prog 30 #[x.val h] w fun e w' => e = .returned (.int .i64 (if firstE (errsX x) ≠ 0 then firstE (errsX x) else if grBad x = true then 9 else 0)) ∧ Below w.heap.size w w' := by
  have hF := fun (o p : Obj) => callsIn_wide (n := 2).2 (sisFormed_any x h k ((w.alloc o).alloc p) hk h1 h2 (RdSt.below (w := w) hr (below2 w o p)))
  rw [hf] at hF
  have HI := Lib.hid fun (g : Nat) (V : World) hbV hbox => iter_stops x h g w V (hr.mono fun _ _ h => h) hbV hbox h16 h8
  have HG := Lib.hid hr.G
  generalize hER : errsX x = ER at HI ⊢
  clear hr hf h16 h8 hER
  generalize hRR : (if firstE ER ≠ 0 then firstE ER else if grBad x = true then 9 else 0) = R
  unfold grBad at hRR
  obtain ⟨kind, tb, cols, key, ix, rows, sets, items, jn, on, wh, gr, ord, lim⟩ := x
  obtain ⟨⟨aC, cC⟩, ⟨aR, cR⟩, ⟨aS, cS⟩, ⟨aI, cI⟩, ⟨aO, cO⟩, ⟨aW, cW⟩, ⟨aG, cG⟩, ⟨aD, cD⟩⟩ := h
  unfold St.val St.cs at hF
  unfold St.cs at HI
  unfold St.val St.cs
  dsimp only at hk hF HI HG hRR ⊢
  have HRR := Lib.hid hRR
  clear hRR
  have HF := Lib.hid hF
  clear hF
  have d1 : decide (kind < 1) = false := by simp; omega
  have d2 : decide (10 < kind) = false := by simp; omega
  have d3 : ¬ kind < 1 := by omega
  have d4 : ¬ 10 < kind := by omega
  clear hk h1 h2
  have hmf : ∀ (fn : Fn) (first cap : Array Value) (w : World), (Instr.makeFunc fn first cap).run Tryz.prog w = .ok (.func fn first cap) w := fun _ _ _ _ => rfl
  have hE : ∀ w0 : World, Calls Tryz.prog 50 #[.agg #[.int .i64 kind, .string tb, .slice aC cols.length cC, .string key, .string ix, .slice aR rows.length cR, .slice aS sets.length cS, .slice aI items.length cI, .string jn, .slice aO on.length cO, .slice aW wh.length cW, .slice aG gr.length cG, .slice aD ord.length cD, .int .i64 lim]] w0 fun e w' => e = .returned (.func (.func 74) #[] #[.pointer (some ⟨w0.heap.size, 0, none⟩)]) ∧ w' = w0.alloc (.cells #[.int .i64 kind, .string tb, .slice aC cols.length cC, .string key, .string ix, .slice aR rows.length cR, .slice aS sets.length cS, .slice aI items.length cI, .string jn, .slice aO on.length cO, .slice aW wh.length cW, .slice aG gr.length cG, .slice aD ord.length cD, .int .i64 lim] 31) := fun w0 => by
    clear HI HF HG d1 d2 d3 d4
    go_enter Tryz.func50, Tryz.ntmps50
    go_wp2
    go_ret
    exact ⟨rfl, rfl⟩
  have HE := Lib.hid fun w0 => callsIn_wide (n := 2).2 (hE w0)
  clear hE
  refine (callsIn_wide (n := 3)).1 ?_
  refine callsIn_of_wp_marks Tryz.func30 rfl trivial ?_ rfl
  simp only [Tryz.ntmps30, List.size_toArray, List.length_cons, List.length_nil, Nat.reduceAdd, Nat.reduceSub, Array.replicate_succ, Array.replicate_zero, List.push_toArray, List.append_toArray, List.nil_append, List.cons_append]
  gi_wp2_with (first | (refine ⟨trivial, ?_⟩; gi_at_call 49; refine (HF.out _ _).mono ?_; rintro e w1 ⟨rfl, hb⟩; obtain ⟨hX, hRs, hB, hz⟩ := two14 hb; obtain ⟨x0, x1, x2, x3, x4, x5, x6, x7, x8, x9, x10, x11, x12, x13⟩ := cells14 hX; clear hb) | (refine ⟨trivial, ?_⟩; gi_at_call 50; refine (HE.out _).mono ?_; rintro e w2 ⟨rfl, rfl⟩))
  clear x0 x1 x2 x3 x4 x5 x6 x7 x8 x9 x10 x11 x12 x13
  have hN := heap_alloc_new w1 (.cells #[.int .i64 kind, .string tb, .slice aC cols.length cC, .string key, .string ix, .slice aR rows.length cR, .slice aS sets.length cS, .slice aI items.length cI, .string jn, .slice aO on.length cO, .slice aW wh.length cW, .slice aG gr.length cG, .slice aD ord.length cD, .int .i64 lim] 31)
  have hX2 := (Below.heap_alloc w1 (.cells #[.int .i64 kind, .string tb, .slice aC cols.length cC, .string key, .string ix, .slice aR rows.length cR, .slice aS sets.length cS, .slice aI items.length cI, .string jn, .slice aO on.length cO, .slice aW wh.length cW, .slice aG gr.length cG, .slice aD ord.length cD, .int .i64 lim] 31) w.heap.size (by omega)).trans hX
  have hR2 := (Below.heap_alloc w1 (.cells #[.int .i64 kind, .string tb, .slice aC cols.length cC, .string key, .string ix, .slice aR rows.length cR, .slice aS sets.length cS, .slice aI items.length cI, .string jn, .slice aO on.length cO, .slice aW wh.length cW, .slice aG gr.length cG, .slice aD ord.length cD, .int .i64 lim] 31) (w.heap.size + 1) (by omega)).trans hRs
  have hB2 := hB.alloc hB.size (.cells #[.int .i64 kind, .string tb, .slice aC cols.length cC, .string key, .string ix, .slice aR rows.length cR, .slice aS sets.length cS, .slice aI items.length cI, .string jn, .slice aO on.length cO, .slice aW wh.length cW, .slice aG gr.length cG, .slice aD ord.length cD, .int .i64 lim] 31)
  have hz2 : w.heap.size + 2 ≤ (w1.alloc (.cells #[.int .i64 kind, .string tb, .slice aC cols.length cC, .string key, .string ix, .slice aR rows.length cR, .slice aS sets.length cS, .slice aI items.length cI, .string jn, .slice aO on.length cO, .slice aW wh.length cW, .slice aG gr.length cG, .slice aD ord.length cD, .int .i64 lim] 31)).heap.size := by simp; omega
  obtain ⟨all, hall, hseq⟩ := HI.out w1.heap.size _ hB2 hN
  generalize (w1.alloc (.cells #[.int .i64 kind, .string tb, .slice aC cols.length cC, .string key, .string ix, .slice aR rows.length cR, .slice aS sets.length cS, .slice aI items.length cI, .string jn, .slice aO on.length cO, .slice aW wh.length cW, .slice aG gr.length cG, .slice aD ord.length cD, .int .i64 lim] 31)) = V at *
  have x11 := (cells14 hX2).2.2.2.2.2.2.2.2.2.2.2.1
  have r0 : V.cell? ⟨w.heap.size + 1, 0, none⟩ = some (.int .i64 0) := by simp [World.cell?, hR2]
  have f0 : V.frozen? ⟨w.heap.size + 1, 0, none⟩ = false := by simp [World.frozen?, hR2]
  have HAL := Lib.hid hall
  clear hN hX hRs hX2 hR2 hall HI HF HE
  refine wpIn_rangeFunc_ownH rfl (by decide) (gf := 74) (lb := #[.pointer (some ⟨w1.heap.size, 0, none⟩)]) rfl trivial (enters_of Tryz.func74 (by kernel_rfl) rfl)
    hseq (fun a b => KpB.t a b) (fun W l o o' hl hlo hc hw => ⟨belowK_b (w := V) hB2.size W l o o' hl hlo hc hw, kcl_put o' hlo hc⟩) (Below.refl _ _) (fun _ => rfl)
    (fun pre V' => ((V'.cell? ⟨w.heap.size, 11, none⟩ = some (.slice aG gr.length cG) ∧ V'.cell? ⟨w.heap.size + 1, 0, none⟩ = some (.int .i64 0) ∧ V'.frozen? ⟨w.heap.size + 1, 0, none⟩ = false) ∧ Below w.heap.size w V') ∧ firstE (errsOf (pre.map (·.1))) = 0)
    (fun c pre V' => ((c = .ret ∧ V'.cell? ⟨w.heap.size + 1, 0, none⟩ = some (.int .i64 (firstE (errsOf (pre.map (·.1)))))) ∧ Below w.heap.size w V') ∧ firstE (errsOf (pre.map (·.1))) ≠ 0)
    (OwnFrom.and (OwnFrom.and (Own.from (fun s A B row hs hg hr => ⟨cell_kept hs.1 hg hr, cell_kept hs.2.1 hg hr, (frozen_kept hs.2.1 hg hr).trans hs.2.2⟩) _) (ownFrom_below (Nat.le_refl _) hB2.size)) (ownFrom_pure _ _))
    (fun c => OwnFrom.and (OwnFrom.and (Own.from (fun s A B row hs hg hr => ⟨hs.1, cell_kept hs.2 hg hr⟩) _) (ownFrom_below (Nat.le_refl _) hB2.size)) (ownFrom_pure _ _))
    ⟨⟨⟨x11, r0, f0⟩, hB2⟩, rfl⟩
    (fun e a' V' => ∃ Bx, InBox V' Bx e.1 ∧ a' = { tmps := #[.agg #[.int .i64 kind, .string tb, .slice aC cols.length cC, .string key, .string ix, .slice aR rows.length cR, .slice aS sets.length cS, .slice aI items.length cI, .string jn, .slice aO on.length cO, .slice aW wh.length cW, .slice aG gr.length cG, .slice aD ord.length cD, .int .i64 lim], .pointer (some ⟨w.heap.size, 0, none⟩), .pointer (some ⟨w.heap.size + 1, 0, none⟩), .pointer (some ⟨Bx, 0, none⟩), undef, .pointer (some ⟨w.heap.size, 0, none⟩), .int .i64 kind, .bool false, .bool false, .pointer (some ⟨w.heap.size, 0, none⟩), .int .i64 kind, .bool false, .bool false, .agg #[.int .i64 kind, .string tb, .slice aC cols.length cC, .string key, .string ix, .slice aR rows.length cR, .slice aS sets.length cS, .slice aI items.length cI, .string jn, .slice aO on.length cO, .slice aW wh.length cW, .slice aG gr.length cG, .slice aD ord.length cD, .int .i64 lim], .bool true, .bool false, .agg #[.int .i64 kind, .string tb, .slice aC cols.length cC, .string key, .string ix, .slice aR rows.length cR, .slice aS sets.length cS, .slice aI items.length cI, .string jn, .slice aO on.length cO, .slice aW wh.length cW, .slice aG gr.length cG, .slice aD ord.length cD, .int .i64 lim], .func (.func 74) #[] #[.pointer (some ⟨w1.heap.size, 0, none⟩)], e.1.val, undef, undef, undef, undef, undef, undef, undef, undef, undef, undef, undef, undef, undef, undef, undef, undef, undef], defers := [] })
    ?hAx ?assign ?body ?done ?stop
  case hAx =>
    rintro e a' _ A B' row ⟨Bx, hBx, ha⟩ hg hrow
    refine ⟨Bx, (hg.block Bx ?_ ?_).trans hBx, ha⟩
    · rcases Nat.lt_or_ge Bx A.heap.size with h' | h'
      · exact h'
      · unfold InBox at hBx; rw [Array.getElem?_eq_none h'] at hBx; cases hBx
    · intro e2
      obtain ⟨_, o, ho, hc⟩ := hrow Bx e2.symm
      unfold InBox at hBx
      rw [hBx] at ho
      injection ho with ho
      subst ho
      cases hc
  case assign =>
    rintro l pre ⟨⟨n', ⟨op, ⟨k', m', s, hv⟩, t, nm, ls⟩, a', c'⟩, hrd⟩ W K ⟨⟨⟨c11, cr, fr⟩, hBW⟩, hE0⟩ hK
    dsimp only [Ge.val]
    gi_wp2
    refine hK _ _ ((KeepsOthers.alloc _ _).from _) ⟨(Below.refl w.heap.size W).alloc hBW.size _, Kcl.below (below1 W _)⟩ ⟨⟨⟨?_, ?_, ?_⟩, hBW.alloc hBW.size _⟩, hE0⟩ ⟨W.heap.size, heap_alloc_new W _, rfl⟩
    · exact cell_keep c11 (below1 W _)
    · exact cell_keep cr (below1 W _)
    · exact ((below1 W _).frozen (p := ⟨w.heap.size + 1, 0, none⟩) (cell_lt cr)).trans fr
  case body =>
    rintro l pre ⟨⟨n', ⟨op, ⟨k', m', s, hv⟩, t, nm, ls⟩, a', c'⟩, hrd⟩ act W hl ⟨r, hrr⟩ ⟨⟨⟨c11, cr, fr⟩, hBW⟩, hE0⟩ ⟨Bx, hBx, rfl⟩ hlt
    unfold InBox Ge.cs ExN.cs at hBx
    dsimp only at hBx
    obtain ⟨y0, y1, y2, y3, y4, y5, y6⟩ := cells7 hBx
    have hC := CallsIn.inRound l (callsIn_wide (n := 3 - 1 - 1 - 1).2 (sCheckExpr_any ⟨op, ⟨k', m', s, hv⟩, t, nm, ls⟩ a' c' W (RdK.any (KE_ok n') (hrd.below hBW))))
    unfold ExN.val at hC
    dsimp only at hC
    have hEQ := errs_snoc pre ⟨⟨n', ⟨op, ⟨k', m', s, hv⟩, t, nm, ls⟩, a', c'⟩, hrd⟩
    dsimp only at hEQ
    have HEQ := Lib.hid hEQ
    clear hEQ
    have HE0 := Lib.hid hE0
    have HCR := Lib.hid (And.intro c11 (And.intro cr (And.intro fr hBW)))
    clear hE0 hBx
    generalize hch : chkX (⟨op, ⟨k', m', s, hv⟩, t, nm, ls⟩ : ExN (Ar n')) = E at hC HEQ
    clear hch
    have hlw := cell_lt cr
    by_cases h0 : E = 0
    · have hne : (E != 0) = false := by simpa using h0
      have H0 := Lib.hid h0
      clear h0
      gi_wp2_with (refine ⟨trivial, ?_⟩; gi_at_call 51; refine hC.mono ?_; rintro e w3 ⟨rfl, hb⟩)
      obtain ⟨q11, qr, qf, qB⟩ := HCR.out
      refine ⟨(keeps_below hb).from _, ⟨hb.mono qB.size, Kcl.below hb⟩, ⟨⟨cell_keep q11 hb, cell_keep qr hb, (hb.frozen (p := ⟨w.heap.size + 1, 0, none⟩) hlw).trans qf⟩, below_call hb qB qB.size⟩, ?_⟩
      rw [HEQ.out, firstE_snoc _ _ HE0.out, H0.out]
    · have hne : (E != 0) = true := by simpa using h0
      have H0 := Lib.hid h0
      clear h0
      gi_wp2_with (refine ⟨trivial, ?_⟩; gi_at_call 51; refine hC.mono ?_; rintro e w3 ⟨rfl, hb⟩; obtain ⟨q11, qr, qf, qB⟩ := HCR.out; have qr2 := cell_keep qr hb; have qf2 := (hb.frozen (p := ⟨w.heap.size + 1, 0, none⟩) hlw).trans qf; have hlw3 := cell_lt qr2)
      refine ⟨((keeps_below hb).trans (KeepsOthers.setCell w3 ⟨w.heap.size + 1, 0, none⟩ (.int .i64 E))).from _, ⟨⟨rfl, ?_⟩, (below_call hb qB qB.size).setCell (p := ⟨w.heap.size + 1, 0, none⟩) (by simp) _⟩, ?_⟩
      · rw [HEQ.out, firstE_snoc _ _ HE0.out]
        exact World.cell?_setCell_same' w3 ⟨w.heap.size + 1, 0, none⟩ (.int .i64 E) (by rw [qr2]; rfl)
      · rw [HEQ.out, firstE_snoc _ _ HE0.out]
        exact H0.out
  case stop =>
    rintro D c pre V' hD hpre ⟨⟨⟨rfl, hcr⟩, hBV⟩, hE0⟩ hK
    have hval : firstE ER = firstE (errsOf (pre.map (·.1))) := by
      rw [← HAL.out]
      refine firstE_pre ?_ hE0
      obtain ⟨q, rfl⟩ := hpre
      rw [List.map_append, errsOf_app]
      exact List.prefix_append _ _
    rw [← hval] at hcr hE0
    have HV := Lib.hid hE0
    clear hval hE0
    gi_wp2
    refine ⟨by simp, .inl ⟨_, _, rfl, run_takeDeferred hK, ?_⟩⟩
    have hc5 := cell_kept hcr (grownBy_putObj' _ D (.deferred none)) (fun r e => by cases e; exact ⟨_, hK, rfl⟩)
    refine ⟨.int .i64 (firstE ER), ?_, by rw [← HRR.out, if_pos HV.out], hBV.trans (belowK_b (w := w) (Nat.le_refl _) _ D _ _ (by have := hB2.size; omega) hK rfl rfl)⟩
    simp [results, Tryz.f30, go_sem, hc5]
  case done =>
    rintro D ys V' hD rfl ⟨⟨⟨z11, z0, zf⟩, hBV⟩, hE0⟩ hK
    rw [HAL.out] at hE0
    have HV := Lib.hid hE0
    have HGV := Lib.hid (RdK.below (KE_ok m) HG.out hBV)
    have hlw := cell_lt z0
    clear hE0
    cases gr with
    | nil =>
      have HR0 : Hid (Ending.returned (.int .i64 0) = Ending.returned (.int .i64 R)) := Lib.hid (by
        rw [← HRR.out, if_neg (by rw [HV.out]; simp)]; rfl)
      clear HRR
      gi_wp2
      have hK' := (KeepsOthers.setCell V' ⟨w.heap.size + 1, 0, none⟩ (.int .i64 0)).same D _ hK rfl
      refine ⟨by simp, .inl ⟨_, _, rfl, run_takeDeferred hK', ?_⟩⟩
      have hc5 := cell_kept (World.cell?_setCell_same' V' ⟨w.heap.size + 1, 0, none⟩ (.int .i64 0) (by rw [z0]; rfl)) (grownBy_putObj' _ D (.deferred none)) (fun r e => by cases e; exact ⟨_, hK', rfl⟩)
      refine ⟨.int .i64 0, ?_, HR0.out, (hBV.setCell (p := ⟨w.heap.size + 1, 0, none⟩) (by simp) _).trans (belowK_b (w := w) (Nat.le_refl _) _ D _ _ (by have := hB2.size; omega) hK' rfl rfl)⟩
      simp [results, Tryz.f30, go_sem, hc5]
    | cons y gr =>
      obtain ⟨ad, a1, k1, rfl, ⟨p0, p1, p2, p3, p4, p5, p6⟩, r1⟩ := HGV.out.at_ (j := 0) (by simp)
      have had0 := cell_lt p0
      rw [add_block] at had0
      have e0 : ad.add (0 * 7) = ad := by unfold Addr.add; rw [if_pos (by omega)]
      rw [e0] at p0
      simp only [List.getElem_cons_zero] at p0
      have hle : ((gr.length : Int) + 1) ≤ 9223372036854775807 := by have h := HG.out.hdr.2; simp at h; omega
      clear p1 p2 p3 p4 p5 p6 r1 HGV
      simp only [List.length_cons] at z11
      by_cases hop : y.e.op = 1
      · have HR0 : Hid (Ending.returned (.int .i64 0) = Ending.returned (.int .i64 R)) := Lib.hid (by
          rw [← HRR.out, if_neg (by rw [HV.out]; simp)]
          simp [hop])
        have hn1 : (y.e.op != 1) = false := by simp [hop]
        clear HRR
        gi_wp2
        have hK' := (KeepsOthers.setCell V' ⟨w.heap.size + 1, 0, none⟩ (.int .i64 0)).same D _ hK rfl
        refine ⟨by simp, .inl ⟨_, _, rfl, run_takeDeferred hK', ?_⟩⟩
        have hc5 := cell_kept (World.cell?_setCell_same' V' ⟨w.heap.size + 1, 0, none⟩ (.int .i64 0) (by rw [z0]; rfl)) (grownBy_putObj' _ D (.deferred none)) (fun r e => by cases e; exact ⟨_, hK', rfl⟩)
        refine ⟨.int .i64 0, ?_, HR0.out, (hBV.setCell (p := ⟨w.heap.size + 1, 0, none⟩) (by simp) _).trans (belowK_b (w := w) (Nat.le_refl _) _ D _ _ (by have := hB2.size; omega) hK' rfl rfl)⟩
        simp [results, Tryz.f30, go_sem, hc5]
      · have HR0 : Hid (Ending.returned (.int .i64 9) = Ending.returned (.int .i64 R)) := Lib.hid (by
          rw [← HRR.out, if_neg (by rw [HV.out]; simp)]
          simp [hop])
        have hn1 : (y.e.op != 1) = true := by simpa using hop
        clear HRR
        gi_wp2
        have hK' := (KeepsOthers.setCell V' ⟨w.heap.size + 1, 0, none⟩ (.int .i64 9)).same D _ hK rfl
        refine ⟨by simp, .inl ⟨_, _, rfl, run_takeDeferred hK', ?_⟩⟩
        have hc5 := cell_kept (World.cell?_setCell_same' V' ⟨w.heap.size + 1, 0, none⟩ (.int .i64 9) (by rw [z0]; rfl)) (grownBy_putObj' _ D (.deferred none)) (fun r e => by cases e; exact ⟨_, hK', rfl⟩)
        refine ⟨.int .i64 9, ?_, HR0.out, (hBV.setCell (p := ⟨w.heap.size + 1, 0, none⟩) (by simp) _).trans (belowK_b (w := w) (Nat.le_refl _) _ D _ _ (by have := hB2.size; omega) hK' rfl rfl)⟩
        simp [results, Tryz.f30, go_sem, hc5]
theorem formed_small {n : Nat} (x : St n) (k : Nat) (hk : x.kind = k) (h1 : 1 ≤ k) (h2 : k ≤ 10) (hf : formedB x = true) : x.rows.length ≤ 16 ∧ x.sets.length ≤ 8 := by
  have e : x.kind.toNat = k := by rw [hk]; rfl
  have g5 : gH k 5 ≤ 16 := by
    have : ∀ k, k ≤ 10 → gH k 5 ≤ 16 := by decide
    exact this k h2
  have g6 : gH k 6 ≤ 8 := by
    have : ∀ k, k ≤ 10 → gH k 6 ≤ 8 := by decide
    exact this k h2
  unfold formedB countedB at hf
  rw [e] at hf
  simp only [Bool.and_eq_true, spB, decide_eq_true_eq] at hf
  obtain ⟨⟨⟨⟨⟨_, c⟩, _⟩, _⟩, _⟩, _⟩ := hf
  omega
/-- Check, at every statement. -/
theorem sCheck_any {m : Nat} (x : St m) (h : Hs) (w : World) (hr : RdSt Any w x h) :
    Calls Tryz.prog 30 #[x.val h] w fun e w' => e = .returned (.int .i64 (chkSt x)) ∧ Below w.heap.size w w' := by
  by_cases hk : x.kind < 1 ∨ 10 < x.kind
  · rw [show chkSt x = 22 by unfold chkSt; rw [if_pos hk]]
    exact sCheck_kind x h w hk
  · obtain ⟨k, hk1⟩ : ∃ k : Nat, x.kind = k := ⟨x.kind.toNat, by omega⟩
    have h1 : 1 ≤ k := by omega
    have h2 : k ≤ 10 := by omega
    cases hf : formedB x
    · rw [show chkSt x = 9 by unfold chkSt; rw [if_neg hk, if_pos hf]]
      exact sCheck_state x h w k hk1 h1 h2 hr hf
    · obtain ⟨h16, h8⟩ := formed_small x k hk1 h1 h2 hf
      rw [show chkSt x = (if firstE (errsX x) ≠ 0 then firstE (errsX x) else if grBad x = true then 9 else 0) by unfold chkSt; rw [if_neg hk, if_neg (by rw [hf]; simp)]]
      exact sCheck_formed x h w k hk1 h1 h2 hr hf h16 h8
end Go.Proofs.YtipcacplphidhaaGreat.Sy
