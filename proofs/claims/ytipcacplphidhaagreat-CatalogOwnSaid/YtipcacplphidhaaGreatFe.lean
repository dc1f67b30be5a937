/- A copy of a statement in memory of its own: the walk of CopyStmt. Conditions: a statement that is read in memory. -/
import Derived.Test.YtipcacplphidhaaGreatTd
import Derived.Test.YtipcacplphidhaaGreatTp0
import Derived.Test.YtipcacplphidhaaGreatFe0
import Derived.Deep.AppendLies
import Derived.Laws.OwnMore
import Derived.Deep.RegionLaw
import Derived.Outline
namespace Go.Proofs.YtipcacplphidhaaGreat.Sy
open Go.RowKit
set_option linter.unusedSimpArgs false
set_option linter.unusedVariables false

theorem ownsRow_out {base size n : Nat} {e : TypeId} {v : Value} {xs : List Value} {w w' : World} (h : w.ownsRow base e size v n xs) (ho : Out (fun b => base ≤ b) w w') : w'.ownsRow base e size v n xs := by
  refine ⟨h.1, ?_⟩
  rcases h.2 with h2 | ⟨g, cap, cur, hv, hbg, hg, rest⟩
  · exact .inl h2
  · exact .inr ⟨g, cap, cur, hv, hbg, (ho g hbg).trans hg, rest⟩
theorem heap_on2 {w : World} {g : Nat} {o : Obj} (h : w.heap[g]? = some o) (o' : Obj) : (w.alloc o').heap[g]? = some o := by rw [Below.heap_alloc _ _ _ (heap_lt h), h]
theorem Owned.out {τ : Type} {K : Kd τ} (ok : K.Ok) {T base : Nat} {w w' : World} {v : Value} {l : List τ} (h : Owned K T base w v l) (ho : Out (fun b => base ≤ b) w w') : Owned K T base w' v l := by
  obtain ⟨ps, e, h1, h2⟩ := h
  exact ⟨ps, e, ownsRow_out h1 ho, fun q hq => ok.mono _ _ _ _ _ _ (ok.kept _ w w' _ _ _ (h2 q hq) fun b hb _ => ho b hb.1) fun b hb _ => hb⟩

theorem setCell_blk {w : World} {b i : Nat} {cs : Array Value} {t : TypeId} (h : w.heap[b]? = some (.cells cs t (0, 0))) (v : Value) : (w.setCell ⟨b, i, none⟩ v).heap[b]? = some (.cells (cs.setIfInBounds i v) t (0, 0)) := by
  have := heap_setCell_same w b i cs t v h
  exact this
theorem frz14 {w1 : World} {b i : Nat} {a0 a1 a2 a3 a4 a5 a6 a7 a8 a9 a10 a11 a12 a13 : Value} {t : TypeId} (h : w1.heap[b]? = some (.cells #[a0, a1, a2, a3, a4, a5, a6, a7, a8, a9, a10, a11, a12, a13] t (0, 0))) (hi : i < 14) : w1.frozen? ⟨b, i, none⟩ = false := by
  simp [World.frozen?, h]
theorem Out.then {P : Nat → Prop} {a b c : World} (h : Out P a b) (k : Out P b c) : Out P a c := fun i hi => (k i hi).trans (h i hi)
theorem sets4 {B : Nat} {W2 : World} {cs : Array Value} {t : TypeId} (h : W2.heap[B]? = some (.cells cs t (0, 0))) (i j k l : Nat) (v1 v2 v3 v4 : Value) :
    ((((W2.setCell ⟨B, i, none⟩ v1).setCell ⟨B, j, none⟩ v2).setCell ⟨B, k, none⟩ v3).setCell ⟨B, l, none⟩ v4).heap[B]? = some (.cells ((((cs.setIfInBounds i v1).setIfInBounds j v2).setIfInBounds k v3).setIfInBounds l v4) t (0, 0)) ∧
    (∀ P : Nat → Prop, ¬ P B → Out P W2 ((((W2.setCell ⟨B, i, none⟩ v1).setCell ⟨B, j, none⟩ v2).setCell ⟨B, k, none⟩ v3).setCell ⟨B, l, none⟩ v4)) ∧
    Below B W2 ((((W2.setCell ⟨B, i, none⟩ v1).setCell ⟨B, j, none⟩ v2).setCell ⟨B, k, none⟩ v3).setCell ⟨B, l, none⟩ v4) :=
  ⟨setCell_blk (setCell_blk (setCell_blk (setCell_blk h v1) v2) v3) v4, fun P hP => ((((Out.refl P W2).set hP _).set hP _).set hP _).set hP _, ((((Below.refl B W2).setCell (Nat.le_refl _) _).setCell (Nat.le_refl _) _).setCell (Nat.le_refl _) _).setCell (Nat.le_refl _) _⟩
theorem sets14 {B : Nat} {W2 : World} {a0 a1 a2 a3 a4 a5 a6 a7 a8 a9 a10 a11 a12 a13 : Value} {t : TypeId} (h : W2.heap[B]? = some (.cells #[a0, a1, a2, a3, a4, a5, a6, a7, a8, a9, a10, a11, a12, a13] t (0, 0))) (v0 v1 v2 v3 v4 v5 v6 v7 v8 v9 v10 v11 v12 v13 : Value) :
    ((((((((((((((W2.setCell ⟨B, 0, none⟩ v0).setCell ⟨B, 1, none⟩ v1).setCell ⟨B, 2, none⟩ v2).setCell ⟨B, 3, none⟩ v3).setCell ⟨B, 4, none⟩ v4).setCell ⟨B, 5, none⟩ v5).setCell ⟨B, 6, none⟩ v6).setCell ⟨B, 7, none⟩ v7).setCell ⟨B, 8, none⟩ v8).setCell ⟨B, 9, none⟩ v9).setCell ⟨B, 10, none⟩ v10).setCell ⟨B, 11, none⟩ v11).setCell ⟨B, 12, none⟩ v12).setCell ⟨B, 13, none⟩ v13).heap[B]? = some (.cells #[v0, v1, v2, v3, v4, v5, v6, v7, v8, v9, v10, v11, v12, v13] t (0, 0)) ∧ (∀ P : Nat → Prop, ¬ P B → Out P W2 ((((((((((((((W2.setCell ⟨B, 0, none⟩ v0).setCell ⟨B, 1, none⟩ v1).setCell ⟨B, 2, none⟩ v2).setCell ⟨B, 3, none⟩ v3).setCell ⟨B, 4, none⟩ v4).setCell ⟨B, 5, none⟩ v5).setCell ⟨B, 6, none⟩ v6).setCell ⟨B, 7, none⟩ v7).setCell ⟨B, 8, none⟩ v8).setCell ⟨B, 9, none⟩ v9).setCell ⟨B, 10, none⟩ v10).setCell ⟨B, 11, none⟩ v11).setCell ⟨B, 12, none⟩ v12).setCell ⟨B, 13, none⟩ v13)) ∧ Below B W2 ((((((((((((((W2.setCell ⟨B, 0, none⟩ v0).setCell ⟨B, 1, none⟩ v1).setCell ⟨B, 2, none⟩ v2).setCell ⟨B, 3, none⟩ v3).setCell ⟨B, 4, none⟩ v4).setCell ⟨B, 5, none⟩ v5).setCell ⟨B, 6, none⟩ v6).setCell ⟨B, 7, none⟩ v7).setCell ⟨B, 8, none⟩ v8).setCell ⟨B, 9, none⟩ v9).setCell ⟨B, 10, none⟩ v10).setCell ⟨B, 11, none⟩ v11).setCell ⟨B, 12, none⟩ v12).setCell ⟨B, 13, none⟩ v13) := by
  refine ⟨(setCell_blk (i := 13) (setCell_blk (i := 12) (setCell_blk (i := 11) (setCell_blk (i := 10) (setCell_blk (i := 9) (setCell_blk (i := 8) (setCell_blk (i := 7) (setCell_blk (i := 6) (setCell_blk (i := 5) (setCell_blk (i := 4) (setCell_blk (i := 3) (setCell_blk (i := 2) (setCell_blk (i := 1) (setCell_blk (i := 0) h v0) v1) v2) v3) v4) v5) v6) v7) v8) v9) v10) v11) v12) v13).trans ?_, fun P hP => (((((((((((((((Out.refl P W2).set hP _).set hP _).set hP _).set hP _).set hP _).set hP _).set hP _).set hP _).set hP _).set hP _).set hP _).set hP _).set hP _).set hP _), (((((((((((((((Below.refl B W2).setCell (Nat.le_refl _) _).setCell (Nat.le_refl _) _).setCell (Nat.le_refl _) _).setCell (Nat.le_refl _) _).setCell (Nat.le_refl _) _).setCell (Nat.le_refl _) _).setCell (Nat.le_refl _) _).setCell (Nat.le_refl _) _).setCell (Nat.le_refl _) _).setCell (Nat.le_refl _) _).setCell (Nat.le_refl _) _).setCell (Nat.le_refl _) _).setCell (Nat.le_refl _) _).setCell (Nat.le_refl _) _)⟩
  simp only [List.setIfInBounds_toArray, List.set_cons_zero, List.set_cons_succ]
/-- append onto nil, whatever is appended, as a step of a region. -/
theorem step_append_nil {P : Program} {ops : Array Oper} {o : Oper} {a : Act} {w : World} {K : Act → World → Prop} {Q : Exit → Act → World → Prop} {E : Prop} (hgd : o.guard = none) (s x : Operand) (t : TypeId)
    (ho : o.op = .call { callee := .builtin .append, args := #[s, x], argTypes := #[t, t] })
    (e : TypeId) (i : TypeInfo) (z : Value) (size bytes : Nat) (ht : P.underlying t = some (.slice e)) (hi : P.info? e = some i) (hz : i.zero = some z)
    (hsize : i.size = size) (hby : i.bytes = bytes) (hzs : z.cells.size = size) (hsz : 0 < size)
    (hs : a.eval s = .slice none 0 0) (A : Option Addr) (m c : Nat) (news : List Value) (hd : Hdr A m c) (hx : a.eval x = .slice A m c) (hl : news.length = m * size)
    (hnews : ∀ ad, A = some ad → ∀ j u, news[j]? = some u → w.cell? (ad.add j) = some u) (h1 : ∀ u ∈ news, u.oneCell' = true) (hbytes : m * bytes ≤ 140737488355328)
    (hK : ∀ v' w', w'.ownsRow w.heap.size e size v' m news → w.grownBy w' none → K (a.put o.dst v') w') :
    if Region.wanted o (yielded ops a.tmps) = true then Oper.wp P o a w K Q else E := by
  have hw : Region.wanted o (yielded ops a.tmps) = true := by simp [Region.wanted, hgd]
  rw [if_pos hw]
  rcases A with _ | ad
  · obtain ⟨rfl, rfl⟩ := hd.1 rfl
    obtain rfl : news = [] := List.eq_nil_of_length_eq_zero (by simpa using hl)
    have hrun := run_append_owned_none (P := P) (w := w) w.heap.size t o.type e i size ht hi (.slice none 0 0) 0 [] (World.ownsRow_nil w _ e size)
    unfold Oper.wp
    simp [execOp, ho, resolve, invoke, builtin, hs, hx, hrun, Result.andThen]
    exact hK _ _ (World.ownsRow_nil w _ e size) ⟨rfl, rfl, rfl, Nat.le_refl _, fun _ _ _ => rfl⟩
  · obtain ⟨v', w', hrun, r1, r2, _⟩ := run_append_own (P := P) w w.heap.size t o.type e i z size bytes ht hi hz hsize hby hzs hsz (.slice none 0 0) 0 [] (World.ownsRow_nil w _ e size) ad m c news hl (hnews ad rfl) h1 (by rw [Nat.zero_add]; have := hd.2; unfold maxLen; omega) (by rw [Nat.zero_add]; exact hbytes) (Nat.le_refl _)
    unfold Oper.wp
    simp [execOp, ho, resolve, invoke, builtin, hs, hx, hrun, Result.andThen]
    rw [Nat.zero_add, List.nil_append] at r1
    exact hK v' w' r1 r2
theorem flat_cells {τ : Type} {K : Kd τ} (ok : K.Ok) (hk : ∀ y a c, K.cs y a c = K.cs y none 0) {S : Nat → Prop} {w : World} {A : Option Addr} {c : Nat} {l : List τ} (r : RdK K S w A c l) : ∀ ad, A = some ad → ∀ (j : Nat) (u : Value), (l.flatMap fun x => K.cs x none 0)[j]? = some u → w.cell? (ad.add j) = some u := by
  intro ad e j u hu
  have hf : ∀ x, (K.cs x none 0).length = K.k := fun x => ok.len x none 0
  have hlen := flat_len hf l
  have hj : j < l.length * K.k := by rw [← hlen]; exact (List.getElem?_eq_some_iff.1 hu).1
  have hq : j / K.k < l.length := Nat.div_lt_of_lt_mul (by rw [Nat.mul_comm]; exact hj)
  have hi : j % K.k < K.k := Nat.mod_lt _ ok.pos
  have ej : j / K.k * K.k + j % K.k = j := Nat.div_add_mod' j K.k
  have hx : l[j / K.k]? = some l[j / K.k] := List.getElem?_eq_getElem hq
  have h2 := flat_get (f := fun x => K.cs x none 0) hf l (j / K.k) (j % K.k) _ hx hi
  obtain ⟨_, a', c', h3, _⟩ := r.2.2 ad e _ _ hx
  have h4 := h3 (j % K.k) u (by rw [hk]; rw [ej] at h2; rw [← h2]; exact hu)
  rw [ej] at h4
  exact h4
theorem Owned.flat {τ : Type} {K : Kd τ} (hk : ∀ y a c, K.cs y a c = K.cs y none 0) (hdp : ∀ S w y a c, K.dp S w y a c) {T base : Nat} {w : World} {v : Value} {l : List τ} (h : w.ownsRow base T K.k v l.length (l.flatMap fun x => K.cs x none 0)) : Owned K T base w v l := by
  refine ⟨l.map fun x => (x, none, 0), by rw [List.map_map]; exact List.map_id l, ?_, fun p _ => hdp _ _ _ _ _⟩
  have e : K.row (l.map fun x => (x, (none : Option Addr), 0)) = l.flatMap fun x => K.cs x none 0 := by simp [Kd.row, List.flatMap_map]
  rw [e, List.length_map]
  exact h

theorem own_step {τ : Type} {K : Kd τ} (ok : K.Ok) {T base : Nat} {w w1 : World} {o : Obj} {v : Value} {ps : List (Gh τ)} (h : OwnG K T base w v ps) (hb : Below w.heap.size w w1) : (w1.alloc o).ownsRow base T K.k v ps.length (K.row ps) :=
  ((h.below ok hb).below ok (below1 _ o)).1
/-- The statement's slices are the call's own. -/
structure OwnSt {n : Nat} (B : Nat) (w : World) (x : St n) (vC vR vS vO : Value) : Prop where
  C : Owned KC 48 B w vC x.cols
  R : Owned (KR n) 28 B w vR x.rows
  S : Owned (KS n) 64 B w vS x.sets
  D : Owned KO 85 B w vO x.ord
theorem OwnSt.out {n B : Nat} {w w' : World} {x : St n} {vC vR vS vO : Value} (h : OwnSt B w x vC vR vS vO) (ho : Out (fun b => B ≤ b) w w') : OwnSt B w' x vC vR vS vO :=
  ⟨h.C.out KC_ok ho, h.R.out (KR_ok n) ho, h.S.out (KS_ok n) ho, h.D.out KO_ok ho⟩
theorem OwnSt.below {n B : Nat} {w w' : World} {x : St n} {vC vR vS vO : Value} (h : OwnSt B w x vC vR vS vO) (hb : Below w.heap.size w w') : OwnSt B w' x vC vR vS vO :=
  ⟨h.C.below KC_ok hb, h.R.below (KR_ok n) hb, h.S.below (KS_ok n) hb, h.D.below KO_ok hb⟩

set_option maxHeartbeats 16000000 in
set_option maxRecDepth 100000 in
theorem copyStmt_any {n : Nat} (x : St n) (h : Hs) (w : World) (hr : RdSt Any w x h) :
    Calls Tryz.prog 6 #[x.val h] w fun e w' => ∃ h' : Hs, e = .returned (x.val h') ∧ RdSt (fun b => w.heap.size ≤ b) w' x h' ∧ Below w.heap.size w w' := by
  have HR := Lib.hid hr
  clear hr
  obtain ⟨kind, tb, cols, key, ix, rows, sets, items, jn, on, wh, gr, ord, lim⟩ := x
  obtain ⟨⟨aC, cC⟩, ⟨aR, cR⟩, ⟨aS, cS⟩, ⟨aI, cI⟩, ⟨aO, cO⟩, ⟨aW, cW⟩, ⟨aG, cG⟩, ⟨aD, cD⟩⟩ := h
  unfold St.val St.cs
  dsimp only
  go_enter Tryz.func6, Tryz.ntmps6
  go_upto_region 5 with fail
  have hX := heap_on2 (heap_alloc_new w (.cells #[.int .i64 kind, .string tb, .slice aC cols.length cC, .string key, .string ix, .slice aR rows.length cR, .slice aS sets.length cS, .slice aI items.length cI, .string jn, .slice aO on.length cO, .slice aW wh.length cW, .slice aG gr.length cG, .slice aD ord.length cD, .int .i64 lim] 31)) (.cells #[.int .i64 0, .string ⟨#[]⟩, .slice none 0 0, .string ⟨#[]⟩, .string ⟨#[]⟩, .slice none 0 0, .slice none 0 0, .slice none 0 0, .string ⟨#[]⟩, .slice none 0 0, .slice none 0 0, .slice none 0 0, .slice none 0 0, .int .i64 0] 31)
  have hZ := heap_two w (.cells #[.int .i64 kind, .string tb, .slice aC cols.length cC, .string key, .string ix, .slice aR rows.length cR, .slice aS sets.length cS, .slice aI items.length cI, .string jn, .slice aO on.length cO, .slice aW wh.length cW, .slice aG gr.length cG, .slice aD ord.length cD, .int .i64 lim] 31) (.cells #[.int .i64 0, .string ⟨#[]⟩, .slice none 0 0, .string ⟨#[]⟩, .string ⟨#[]⟩, .slice none 0 0, .slice none 0 0, .slice none 0 0, .string ⟨#[]⟩, .slice none 0 0, .slice none 0 0, .slice none 0 0, .slice none 0 0, .int .i64 0] 31)
  have hB := below2 w (.cells #[.int .i64 kind, .string tb, .slice aC cols.length cC, .string key, .string ix, .slice aR rows.length cR, .slice aS sets.length cS, .slice aI items.length cI, .string jn, .slice aO on.length cO, .slice aW wh.length cW, .slice aG gr.length cG, .slice aD ord.length cD, .int .i64 lim] 31) (.cells #[.int .i64 0, .string ⟨#[]⟩, .slice none 0 0, .string ⟨#[]⟩, .string ⟨#[]⟩, .slice none 0 0, .slice none 0 0, .slice none 0 0, .string ⟨#[]⟩, .slice none 0 0, .slice none 0 0, .slice none 0 0, .slice none 0 0, .int .i64 0] 31)
  have hz : w.heap.size + 2 ≤ ((w.alloc (.cells #[.int .i64 kind, .string tb, .slice aC cols.length cC, .string key, .string ix, .slice aR rows.length cR, .slice aS sets.length cS, .slice aI items.length cI, .string jn, .slice aO on.length cO, .slice aW wh.length cW, .slice aG gr.length cG, .slice aD ord.length cD, .int .i64 lim] 31)).alloc (.cells #[.int .i64 0, .string ⟨#[]⟩, .slice none 0 0, .string ⟨#[]⟩, .string ⟨#[]⟩, .slice none 0 0, .slice none 0 0, .slice none 0 0, .string ⟨#[]⟩, .slice none 0 0, .slice none 0 0, .slice none 0 0, .slice none 0 0, .int .i64 0] 31)).heap.size := by simp
  generalize ((w.alloc (.cells #[.int .i64 kind, .string tb, .slice aC cols.length cC, .string key, .string ix, .slice aR rows.length cR, .slice aS sets.length cS, .slice aI items.length cI, .string jn, .slice aO on.length cO, .slice aW wh.length cW, .slice aG gr.length cG, .slice aD ord.length cD, .int .i64 lim] 31)).alloc (.cells #[.int .i64 0, .string ⟨#[]⟩, .slice none 0 0, .string ⟨#[]⟩, .string ⟨#[]⟩, .slice none 0 0, .slice none 0 0, .slice none 0 0, .string ⟨#[]⟩, .slice none 0 0, .slice none 0 0, .slice none 0 0, .slice none 0 0, .int .i64 0] 31)) = W at hX hZ hB hz ⊢
  have HB := Lib.hid hB
  clear hB
  have kR : rows.length ≤ 9223372036854775807 := by have := HR.out.R.hdr.2; dsimp only at this; omega
  have kS : sets.length ≤ 9223372036854775807 := by have := HR.out.S.hdr.2; dsimp only at this; omega
  have kR2 : rows.length * 24 ≤ 140737488355328 := HR.out.R.2.1
  have kS2 : sets.length * 112 ≤ 140737488355328 := HR.out.S.2.1
  obtain ⟨i0, hi, hz0, hz1, hz2⟩ := info_parts Tryz.infoR
  go_wp2_with fail
  go_loopw [4, 7] (fun v i wr => ∃ j : Nat, j ≤ rows.length ∧ i = .int .i64 j ∧ Owned (KR n) 28 (w.heap.size + 2) wr v (rows.take j) ∧ wr.heap[w.heap.size]? = some (.cells #[.int .i64 kind, .string tb, .slice aC cols.length cC, .string key, .string ix, .slice aR rows.length cR, .slice aS sets.length cS, .slice aI items.length cI, .string jn, .slice aO on.length cO, .slice aW wh.length cW, .slice aG gr.length cG, .slice aD ord.length cD, .int .i64 lim] 31 (0, 0)) ∧ wr.heap[w.heap.size + 1]? = some (.cells #[.int .i64 0, .string ⟨#[]⟩, .slice none 0 0, .string ⟨#[]⟩, .string ⟨#[]⟩, .slice none 0 0, .slice none 0 0, .slice none 0 0, .string ⟨#[]⟩, .slice none 0 0, .slice none 0 0, .slice none 0 0, .slice none 0 0, .int .i64 0] 31 (0, 0)) ∧ Below w.heap.size w wr) (fun _ i _ => rows.length - (intOf i).toNat)
  case atStart => exact ⟨0, by omega, rfl, Owned.nil _ _ _ _, hX, hZ, HB.out⟩
  case round =>
    clear hX hZ HB hz
    obtain ⟨j, hj, rfl, hO, hX, hZ, hb⟩ := hrel
    have HO := Lib.hid hO
    have HB := Lib.hid hb
    have HZ := Lib.hid hZ
    have hz : w.heap.size + 2 ≤ wr.heap.size := heap_lt hZ
    clear hO hb hZ
    obtain ⟨x0, x1, x2, x3, x4, x5, x6, x7, x8, x9, x10, x11, x12, x13⟩ := cells14 hX
    by_cases hlt : j < rows.length
    · obtain ⟨ad, a1, k1, rfl, p0, r1⟩ := (HR.out.R.below (KR_ok n) HB.out).row (j := j) hlt
      have hx : rows[j]? = some rows[j] := List.getElem?_eq_getElem hlt
      generalize rows[j] = y at p0 r1 hx
      have HXJ := Lib.hid hx
      have hc := copyExprs_any n a1 k1 y wr r1
      unfold CopiesTo at hc
      have HC := Lib.hid hc
      obtain ⟨ps, hps, hog⟩ := HO.out
      have hpl := map_len hps (by omega)
      have B3 : Hid (ps.length + 1 ≤ maxLen) := Lib.hid (by unfold maxLen; omega)
      have B4 : Hid ((ps.length + 1) * 24 ≤ 140737488355328) := Lib.hid (by omega)
      have HPS := Lib.hid hps
      have HPL := Lib.hid hpl
      have HOG := Lib.hid hog
      clear hps hog hpl hc hx r1 HO
      go_wp2_with (first | (go_at_call 13; refine HC.out.mono ?_; rintro e w1 ⟨a2, c2, rfl, hrd, hb⟩; have HRD := Lib.hid hrd; have HB1 := Lib.hid hb; have hzb := hb.size; clear hrd hb x0 x1 x2 x3 x4 x5 x6 x7 x8 x9 x10 x11 x12 x13 p0) | (at_builtin; refine wpList_append_own_at _ rfl (.tmp 16) (.tmp 23) 26 rfl (w.heap.size + 2) 28 i0 (.slice none 0 0) 1 24 Tryz.underlying26 hi hz0 hz1 hz2 rfl (by decide) _ _ _ rfl (own_step (KR_ok n) HOG.out HB1.out) ⟨w1.heap.size, 0, none⟩ 1 1 [.slice a2 y.length c2] rfl rfl (new_cells w1 _ _) (fun u hu => (by simp at hu; subst hu; rfl)) B3.out B4.out (by simp; omega) ?_; intro v2 w2 hown hg _ hat; have HOG2 := Lib.hid (OwnG.step (K := KR n) (KR_ok n) HOG.out HB1.out hz (show (KR n).dp (fun b => wr.heap.size ≤ b) w1 y a2 c2 from HRD.out) hown hg hat); have HG2 := Lib.hid (below_grow (base := w.heap.size + 2) (Below.refl _ wr) HB1.out hz (own_step (KR_ok n) HOG.out HB1.out) hg); clear hown hg hat))
      go_roundw
      case rel => exact ⟨j + 1, by omega, by go_num, ⟨_, map_snoc HPS.out HXJ.out, HOG2.out⟩, (HG2.out.block _ (by omega)).trans hX, (HG2.out.block _ (by omega)).trans HZ.out, HB.out.trans (HG2.out.mono (by omega))⟩
      case measure => simp [intOf]; omega
    · have HRW : Hid (rows.take j = rows) := Lib.hid (List.take_of_length_le (by omega))
      obtain ⟨AR, kRR, rfl, hOR⟩ := HO.out.read (KR_ok n) (by rw [HRW.out]; exact kR2)
      rw [HRW.out] at hOR ⊢
      have HOR := Lib.hid hOR
      clear hOR HRW HO hi hz0 hz1 hz2
      obtain ⟨i0, hi, hz0, hz1, hz2⟩ := info_parts Tryz.infoS
      go_wp2_with fail
      clear x0 x1 x2 x3 x4 x5 x6 x7 x8 x9 x10 x11 x12 x13 hlt
      have HX := Lib.hid hX
      clear hX hj
      generalize wr = W1 at *
      go_loopw [5, 8] (fun v2 i wq => ∃ j : Nat, j ≤ sets.length ∧ i = .int .i64 j ∧ Owned (KS n) 64 W1.heap.size wq v2 (sets.take j) ∧ Below W1.heap.size W1 wq) (fun _ i _ => sets.length - (intOf i).toNat)
      case atStart => exact ⟨0, by omega, rfl, Owned.nil _ _ _ _, Below.refl _ _⟩
      case round =>
        obtain ⟨j, hj, rfl, hO, hb⟩ := hrel
        have HO := Lib.hid hO
        have HB1' := Lib.hid hb
        have hzW : W1.heap.size ≤ wr.heap.size := hb.size
        have HBw : Hid (Below w.heap.size w wr) := Lib.hid (HB.out.trans (hb.mono HB.out.size))
        have hX := (hb.block _ (by omega)).trans HX.out
        have HXr := Lib.hid hX
        clear hO hb
        obtain ⟨x0, x1, x2, x3, x4, x5, x6, x7, x8, x9, x10, x11, x12, x13⟩ := cells14 hX
        by_cases hlt : j < sets.length
        · obtain ⟨ad, a1, k1, rfl, ⟨p0, p1, p2, p3, p4, p5, p6, p7⟩, r1⟩ := (HR.out.S).set (j := j) hlt
          have hx : sets[j]? = some sets[j] := List.getElem?_eq_getElem hlt
          generalize sets[j] = y at p0 p1 p2 p3 p4 p5 p6 p7 r1 hx
          have HXJ := Lib.hid hx
          have HC := Lib.hid fun (V : World) (hb : Below w.heap.size w V) => copyExpr_any y.x a1 k1 V (RdK.below (KE_ok n) r1 hb)
          obtain ⟨xm, ⟨op, ⟨k, m, s, hv⟩, t, nm, ls⟩⟩ := y
          unfold ExN.val at HC
          dsimp only at p0 p1 p2 p3 p4 p5 p6 p7 HC
          have PK := Lib.hid fun (V : World) (hb : Below w.heap.size w V) => (⟨cell_keep p0 hb, cell_keep p1 hb, cell_keep p2 hb, cell_keep p3 hb, cell_keep p4 hb, cell_keep p5 hb, cell_keep p6 hb, cell_keep p7 hb⟩ : _ ∧ _ ∧ _ ∧ _ ∧ _ ∧ _ ∧ _ ∧ _)
          obtain ⟨ps, hps, hog⟩ := HO.out
          have hpl := map_len hps (by omega)
          have B3 : Hid (ps.length + 1 ≤ maxLen) := Lib.hid (by unfold maxLen; omega)
          have B4 : Hid ((ps.length + 1) * 112 ≤ 140737488355328) := Lib.hid (by omega)
          have HPS := Lib.hid hps
          have HPL := Lib.hid hpl
          have HOG := Lib.hid hog
          clear p0 p1 p2 p3 p4 p5 p6 p7 hps hog hpl hx r1 HO
          obtain ⟨p0, p1, p2, p3, p4, p5, p6, p7⟩ := PK.out wr HBw.out
          have hq := cell_lt p0
          go_wp2_with fail
          have hq2 := hq
          rw [add_block] at hq2
          go_region_held3 (fun w' => w'.cell? ⟨w.heap.size, 6, none⟩ = some (.slice (some ad) sets.length cS) ∧ w'.cell? (ad.add (j * 8)) = some (.string xm) ∧ w'.cell? ⟨(ad.add (j * 8)).block, (ad.add (j * 8)).off + 1, none⟩ = some (.int .i64 op) ∧ w'.cell? ⟨(ad.add (j * 8)).block, (ad.add (j * 8)).off + 2, none⟩ = some (.int .i64 k) ∧ w'.cell? ⟨(ad.add (j * 8)).block, (ad.add (j * 8)).off + 3, none⟩ = some (.int .i64 m) ∧ w'.cell? ⟨(ad.add (j * 8)).block, (ad.add (j * 8)).off + 4, none⟩ = some (.string s) ∧ w'.cell? ⟨(ad.add (j * 8)).block, (ad.add (j * 8)).off + 5, none⟩ = some (.string t) ∧ w'.cell? ⟨(ad.add (j * 8)).block, (ad.add (j * 8)).off + 6, none⟩ = some (.string nm) ∧ w'.cell? ⟨(ad.add (j * 8)).block, (ad.add (j * 8)).off + 7, none⟩ = some (.slice a1 ls.length k1)) (first | assumption | go_keep) (first | (go_at_call 14; refine (HC.out _ HBw.out.drew).mono ?_; rintro e w1 ⟨a2, c2, rfl, hrd, hb⟩; have HRD := Lib.hid hrd; have HB1 := Lib.hid (show Below wr.heap.size wr w1 from (Below.refl _ wr).drew.trans hb); have hzb : wr.heap.size ≤ w1.heap.size := hb.size; clear x0 x1 x2 x3 x4 x5 x6 x7 x8 x9 x10 x11 x12 x13 p0 p1 p2 p3 p4 p5 p6 p7; obtain ⟨p0, p1, p2, p3, p4, p5, p6, p7⟩ := PK.out w1 ((HBw.out.drew).trans (hb.mono HBw.out.size)); have x6 := (cells14 ((hb.block _ (by show w.heap.size < wr.heap.size; omega)).trans HXr.out)).2.2.2.2.2.2.1; have n0 := World.new_ne w1 _ p0; have n6 := World.new_ne w1 _ x6; clear hrd hb) | (refine step_append_lies _ rfl (.tmp 32) (.tmp 47) 27 rfl W1.heap.size 64 i0 (.agg #[.string ⟨#[]⟩, .int .i64 0, .int .i64 0, .int .i64 0, .string ⟨#[]⟩, .string ⟨#[]⟩, .string ⟨#[]⟩, .slice none 0 0]) 8 112 Tryz.underlying27 hi hz0 hz1 hz2 rfl (by decide) _ _ _ rfl (own_step (KS_ok n) HOG.out HB1.out) ⟨w1.heap.size, 0, none⟩ 1 1 [.string xm, .int .i64 op, .int .i64 k, .int .i64 m, .string s, .string t, .string nm, .slice a2 ls.length c2] rfl rfl (new_cells w1 _ _) ((KS_ok n).one (⟨xm, ⟨op, ⟨k, m, s, hv⟩, t, nm, ls⟩⟩ : Sx n) a2 c2) (by decide) B3.out B4.out (by simp; omega) _ rfl ?_; intro g cap w2 hown hg hat hgl; have HOG2 := Lib.hid (OwnG.step (K := KS n) (y := (⟨xm, ⟨op, ⟨k, m, s, hv⟩, t, nm, ls⟩⟩ : Sx n)) (a := a2) (c := c2) (KS_ok n) HOG.out HB1.out hzW HRD.out hown hg (hat.elim (fun h => .inl h.symm) (fun h => .inr (congrArg some h)))); have HG2 := Lib.hid (below_grow (base := W1.heap.size) (Below.refl _ wr) HB1.out hzW (own_step (KS_ok n) HOG.out HB1.out) hg); clear hown hg hat x6 p0 p1 p2 p3 p4 p5 p6 p7 n0 n6; obtain ⟨p0, p1, p2, p3, p4, p5, p6, p7⟩ := PK.out w2 (HBw.out.trans (HG2.out.mono (by omega))); have x6 := (cells14 ((HG2.out.block _ (by omega)).trans HXr.out)).2.2.2.2.2.2.1))
          go_wp2_with fail
          go_roundw
          case rel => first | exact ⟨j + 1, by omega, by go_num, ⟨_, map_snoc HPS.out HXJ.out, HOG2.out⟩, HB1'.out.trans HG2.out⟩ | ((repeat apply Exists.intro); exact ⟨⟨j + 1, by omega, by go_num, ⟨_, map_snoc HPS.out HXJ.out, HOG2.out⟩, HB1'.out.trans HG2.out⟩, rfl⟩)
          case measure => simp [intOf]; omega
        · have HSW : Hid (sets.take j = sets) := Lib.hid (List.take_of_length_le (by omega))
          obtain ⟨AS, kSS, rfl, hOS⟩ := HO.out.read (KS_ok n) (by rw [HSW.out]; exact kS2)
          rw [HSW.out] at hOS ⊢
          have HOS := Lib.hid hOS
          clear hOS HSW HO hi hz0 hz1 hz2
          go_upto_region 13 with fail
          clear hlt hj
          have HHC := Lib.hid (show Hdr aC cols.length cC from HR.out.C.hdr)
          have HHD := Lib.hid (show Hdr aD ord.length cD from HR.out.D.hdr)
          have HBC := Lib.hid (show cols.length * 32 ≤ 140737488355328 from HR.out.C.2.1)
          have HBD := Lib.hid (show ord.length * 16 ≤ 140737488355328 from HR.out.D.2.1)
          have HFC := Lib.hid fun (V : World) (hb : Below w.heap.size w V) => flat_cells KC_ok (fun _ _ _ => rfl) (RdK.below KC_ok HR.out.C hb)
          have HFD := Lib.hid fun (V : World) (hb : Below w.heap.size w V) => flat_cells KO_ok (fun _ _ _ => rfl) (RdK.below KO_ok HR.out.D hb)
          have HLC := Lib.hid (flat_len (f := fun x : Cl => KC.cs x none 0) (k := 3) (fun x => KC_ok.len x none 0) cols)
          have HLD := Lib.hid (flat_len (f := fun x : Od => KO.cs x none 0) (k := 2) (fun x => KO_ok.len x none 0) ord)
          have HOC := Lib.hid fun u (hu : u ∈ cols.flatMap fun x => KC.cs x none 0) => (List.mem_flatMap.1 hu).elim fun y hy => KC_ok.one y none 0 u hy.2
          have HOD := Lib.hid fun u (hu : u ∈ ord.flatMap fun x => KO.cs x none 0) => (List.mem_flatMap.1 hu).elim fun y hy => KO_ok.one y none 0 u hy.2
          obtain ⟨iC, hiC, hC0, hC1, hC2⟩ := info_parts Tryz.infoC
          obtain ⟨iO, hiO, hO0, hO1, hO2⟩ := info_parts Tryz.infoO
          clear hX
          go_cut [58] (fun _ wd => ∃ AC kC' AD kD', wd.heap[w.heap.size]? = some (.cells #[.int .i64 kind, .string tb, .slice AC cols.length kC', .string key, .string ix, .slice AR rows.length kRR, .slice AS sets.length kSS, .slice aI items.length cI, .string jn, .slice aO on.length cO, .slice aW wh.length cW, .slice aG gr.length cG, .slice AD ord.length kD', .int .i64 lim] 31 (0, 0)) ∧ RdK KC (fun b => wr.heap.size ≤ b) wd AC kC' cols ∧ RdK KO (fun b => wr.heap.size ≤ b) wd AD kD' ord ∧ Out (fun b => w.heap.size + 1 ≤ b ∧ b < wr.heap.size) wr wd ∧ Below w.heap.size w wd ∧ wr.heap.size ≤ wd.heap.size)
          case first =>
            go_region_law (first | (refine step_append_nil rfl (.tmp 49) (.tmp 51) 25 rfl 48 iC (.agg #[.string ⟨#[]⟩, .int .i64 0, .bool false]) 3 32 Tryz.underlying25 hiC hC0 hC1 hC2 rfl (by decide) rfl aC cols.length cC _ HHC.out rfl HLC.out (HFC.out _ HBw.out.drew) HOC.out HBC.out ?_; intro v1 w1 hown hg; obtain ⟨AC, kC', rfl, hrc⟩ := (Owned.flat (K := KC) (T := 48) (fun _ _ _ => rfl) (fun _ _ _ _ _ => trivial) hown).read KC_ok HBC.out; have HRC := Lib.hid (show RdK KC (fun b => wr.heap.size ≤ b) w1 AC kC' cols from hrc); have HG1 := Lib.hid (show Below wr.heap.size wr w1 from (by obtain ⟨g1, g2, g3, g4, g5⟩ := hg; exact ⟨g1, g2, g3, g4, fun k hk => g5 k hk (by simp)⟩)); clear hown hg hrc; have HX1 := Lib.hid ((HG1.out.block _ (by omega)).trans HXr.out); have hz1 := HG1.out.size; have y12 := (cells14 HX1.out).2.2.2.2.2.2.2.2.2.2.2.2.1) | (refine step_append_nil rfl (.tmp 55) (.tmp 57) 29 rfl 85 iO (.agg #[.int .i64 0, .bool false]) 2 16 Tryz.underlying29 hiO hO0 hO1 hO2 rfl (by decide) rfl aD ord.length cD _ HHD.out rfl HLD.out (HFD.out _ (HBw.out.trans (HG1.out.mono HBw.out.size))) HOD.out HBD.out ?_; intro v2 w2 hown hg; obtain ⟨AD, kD', rfl, hrd⟩ := (Owned.flat (K := KO) (T := 85) (fun _ _ _ => rfl) (fun _ _ _ _ _ => trivial) hown).read KO_ok HBD.out; have HG2 := Lib.hid (show Below w1.heap.size w1 w2 from (by obtain ⟨g1, g2, g3, g4, g5⟩ := hg; exact ⟨g1, g2, g3, g4, fun k hk => g5 k hk (by simp)⟩)); have hz2 := HG2.out.size; have HRD := Lib.hid (RdK.mono KO_ok (S' := fun b => wr.heap.size ≤ b) (show RdK KO (fun b => w1.heap.size ≤ b) w2 AD kD' ord from hrd) fun b hb _ => Nat.le_trans hz1 hb); have HRC2 := Lib.hid (HRC.out.below KC_ok HG2.out); clear hown hg hrd y12 HRC; have HX2 := Lib.hid ((HG2.out.block _ (by omega)).trans HX1.out); obtain ⟨_, _, q2, _, _, q5, q6, _, _, _, _, _, q12, _⟩ := cells14 HX2.out; have f2 := frz14 (i := 2) HX2.out (by decide); have f5 := frz14 (i := 5) HX2.out (by decide); have f6 := frz14 (i := 6) HX2.out (by decide); have f12 := frz14 (i := 12) HX2.out (by decide)))
            all_goals
              obtain ⟨hs1, hs2, hs3⟩ := sets4 HX2.out 2 5 6 12 (.slice AC cols.length kC') (.slice AR rows.length kRR) (.slice AS sets.length kSS) (.slice AD ord.length kD')
              have hs1' := hs1.trans (show _ = some (Obj.cells #[.int .i64 kind, .string tb, .slice AC cols.length kC', .string key, .string ix, .slice AR rows.length kRR, .slice AS sets.length kSS, .slice aI items.length cI, .string jn, .slice aO on.length cO, .slice aW wh.length cW, .slice aG gr.length cG, .slice AD ord.length kD', .int .i64 lim] 31 (0, 0)) from rfl)
              have hb12 : Below w.heap.size w w2 := (HBw.out.trans (HG1.out.mono HBw.out.size)).trans (HG2.out.mono (by omega))
              have hr1 := RdK.out KC_ok HRC2.out (hs2 (fun b => wr.heap.size ≤ b) (by show ¬ wr.heap.size ≤ w.heap.size; omega))
              have hr2 := RdK.out KO_ok HRD.out (hs2 (fun b => wr.heap.size ≤ b) (by show ¬ wr.heap.size ≤ w.heap.size; omega))
              have ho1 : Out (fun b => w.heap.size + 1 ≤ b ∧ b < wr.heap.size) wr w2 := fun b hb => (HG2.out.block b (by omega)).trans (HG1.out.block b hb.2)
              have ho2 := Out.then ho1 (hs2 (fun b => w.heap.size + 1 ≤ b ∧ b < wr.heap.size) (by show ¬ (w.heap.size + 1 ≤ w.heap.size ∧ w.heap.size < wr.heap.size); omega))
              have hb2 := hb12.trans hs3
              have hzz : wr.heap.size ≤ w2.heap.size := by omega
              have hz4 := Nat.le_trans hzz hs3.size
              go_wp2_with fail
              go_meet
              exact ⟨AC, kC', AD, kD', hs1', hr1, hr2, ho2, hb2, hz4⟩
          case rest =>
            obtain ⟨AC, kC', AD, kD', hX, hrC, hrD, ho, hbw, hzc⟩ := hcut
            clear HHC HHD HBC HBD HFC HFD HLC HLD HOC HOD hiC hC0 hC1 hC2 hiO hO0 hO1 hO2 kR kS kR2 kS2
            have hz1 : w.heap.size + 2 ≤ W1.heap.size := hz
            have HX := Lib.hid hX
            have ho2 : Out (fun b => w.heap.size + 2 ≤ b ∧ b < wr.heap.size) wr wc := fun b hb => ho b ⟨by have := hb.1; omega, hb.2⟩
            have HRC := Lib.hid (hrC.mono KC_ok (S' := fun b => w.heap.size + 2 ≤ b) fun b hb _ => (by have : wr.heap.size ≤ b := hb; omega))
            have HRD := Lib.hid (hrD.mono KO_ok (S' := fun b => w.heap.size + 2 ≤ b) fun b hb _ => (by have : wr.heap.size ≤ b := hb; omega))
            have HRR := Lib.hid ((RdK.out (KR_ok n) (RdK.mono (KR_ok n) (S' := fun b => w.heap.size + 2 ≤ b ∧ b < wr.heap.size) (HOR.out.below (KR_ok n) HB1'.out) fun b hb hlt => ⟨hb, hlt⟩) ho2).mono (KR_ok n) (S' := fun b => w.heap.size + 2 ≤ b) fun b hb _ => hb.1)
            have HRS := Lib.hid ((RdK.out (KS_ok n) (RdK.mono (KS_ok n) (S' := fun b => w.heap.size + 2 ≤ b ∧ b < wr.heap.size) HOS.out fun b hb hlt => ⟨(by have : W1.heap.size ≤ b := hb; omega), hlt⟩) ho2).mono (KS_ok n) (S' := fun b => w.heap.size + 2 ≤ b) fun b hb _ => hb.1)
            have HZ1 := Lib.hid ((ho (w.heap.size + 1) ⟨Nat.le_refl _, by omega⟩).trans ((HB1'.out.block _ (by omega)).trans HZ.out))
            have HBC := Lib.hid hbw
            have hzc2 : w.heap.size + 2 ≤ wc.heap.size := by omega
            have HCI := Lib.hid fun (V : World) (hb : Below w.heap.size w V) => copyExprs_any n aI cI items V (RdK.below (KE_ok n) (w := w) HR.out.I hb)
            have HCO := Lib.hid fun (V : World) (hb : Below w.heap.size w V) => copyExprs_any n aO cO on V (RdK.below (KE_ok n) (w := w) HR.out.O hb)
            have HCW := Lib.hid fun (V : World) (hb : Below w.heap.size w V) => copyExprs_any n aW cW wh V (RdK.below (KE_ok n) (w := w) HR.out.W hb)
            have HCG := Lib.hid fun (V : World) (hb : Below w.heap.size w V) => copyExprs_any n aG cG gr V (RdK.below (KE_ok n) (w := w) HR.out.G hb)
            clear hrC hrD ho ho2 hbw hz hzW hzc HOR HOS HB1' HXr HBw HZ HB HR hX
            obtain ⟨_, _, _, _, _, _, _, q7, _, q9, q10, q11, _, _⟩ := cells14 HX.out
            generalize W1.heap.size = s1 at *
            go_upto_region 14 with fail
            refine region_anyT (fun w' => w'.cell? ⟨w.heap.size, 7, none⟩ = some (.slice aI items.length cI) ∧ w'.cell? ⟨w.heap.size, 9, none⟩ = some (.slice aO on.length cO) ∧ w'.cell? ⟨w.heap.size, 10, none⟩ = some (.slice aW wh.length cW) ∧ w'.cell? ⟨w.heap.size, 11, none⟩ = some (.slice aG gr.length cG)) [1, 2, 4, 5, 7, 8, 10, 11] (by kernel_rfl) ⟨q7, q9, q10, q11⟩ ?_
            intro hcl hS
            clear q7 q9 q10 q11
            refine anyT_free (i := 0) (v := ?v0) rfl (by kernel_rfl) (by kernel_rfl) (by kernel_rfl) (by kernel_rfl) (fun _ _ _ h => h) (Or.inl ⟨by rfl, ?hy0⟩) hcl ?rest0
            case hy0 => intro w' _; go_simp; with_reducible rfl
            clear hcl
            intro hcl
            try simp only [Act.put, List.setIfInBounds_toArray, List.set_cons_zero, List.set_cons_succ]
            refine anyT_free (i := 3) (v := ?v3) rfl (by kernel_rfl) (by kernel_rfl) (by kernel_rfl) (by kernel_rfl) (fun _ _ _ h => h) (Or.inl ⟨by rfl, ?hy3⟩) hcl ?rest3
            case hy3 => intro w' _; go_simp; with_reducible rfl
            clear hcl
            intro hcl
            try simp only [Act.put, List.setIfInBounds_toArray, List.set_cons_zero, List.set_cons_succ]
            refine anyT_free (i := 6) (v := ?v6) rfl (by kernel_rfl) (by kernel_rfl) (by kernel_rfl) (by kernel_rfl) (fun _ _ _ h => h) (Or.inl ⟨by rfl, ?hy6⟩) hcl ?rest6
            case hy6 => intro w' _; go_simp; with_reducible rfl
            clear hcl
            intro hcl
            try simp only [Act.put, List.setIfInBounds_toArray, List.set_cons_zero, List.set_cons_succ]
            refine anyT_free (i := 9) (v := ?v9) rfl (by kernel_rfl) (by kernel_rfl) (by kernel_rfl) (by kernel_rfl) (fun _ _ _ h => h) (Or.inl ⟨by rfl, ?hy9⟩) hcl ?rest9
            case hy9 => intro w' _; go_simp; with_reducible rfl
            clear hcl
            intro hcl
            try simp only [Act.put, List.setIfInBounds_toArray, List.set_cons_zero, List.set_cons_succ]
            refine anyT_take (i := 1) (v := .slice aI items.length cI) rfl (by kernel_rfl) (by kernel_rfl) (by kernel_rfl) (by kernel_rfl) (fun _ _ _ h => h) (Or.inl ⟨by rfl, ?hy1⟩) hS hcl ?rest1
            case hy1 => intro w' hSw; obtain ⟨q7, q9, q10, q11⟩ := hSw; go_simp
            clear hcl
            intro hcl
            try simp only [Act.put, List.setIfInBounds_toArray, List.set_cons_zero, List.set_cons_succ]
            refine anyT_take (i := 4) (v := .slice aO on.length cO) rfl (by kernel_rfl) (by kernel_rfl) (by kernel_rfl) (by kernel_rfl) (fun _ _ _ h => h) (Or.inl ⟨by rfl, ?hy4⟩) hS hcl ?rest4
            case hy4 => intro w' hSw; obtain ⟨q7, q9, q10, q11⟩ := hSw; go_simp
            clear hcl
            intro hcl
            try simp only [Act.put, List.setIfInBounds_toArray, List.set_cons_zero, List.set_cons_succ]
            refine anyT_take (i := 7) (v := .slice aW wh.length cW) rfl (by kernel_rfl) (by kernel_rfl) (by kernel_rfl) (by kernel_rfl) (fun _ _ _ h => h) (Or.inl ⟨by rfl, ?hy7⟩) hS hcl ?rest7
            case hy7 => intro w' hSw; obtain ⟨q7, q9, q10, q11⟩ := hSw; go_simp
            clear hcl
            intro hcl
            try simp only [Act.put, List.setIfInBounds_toArray, List.set_cons_zero, List.set_cons_succ]
            refine anyT_take (i := 10) (v := .slice aG gr.length cG) rfl (by kernel_rfl) (by kernel_rfl) (by kernel_rfl) (by kernel_rfl) (fun _ _ _ h => h) (Or.inl ⟨by rfl, ?hy10⟩) hS hcl ?rest10
            case hy10 => intro w' hSw; obtain ⟨q7, q9, q10, q11⟩ := hSw; go_simp
            clear hcl
            intro hcl
            try simp only [Act.put, List.setIfInBounds_toArray, List.set_cons_zero, List.set_cons_succ]
            refine anyT_step (k := 2) rfl (by kernel_rfl) hcl ?_
            intro K hK
            go_simp
            go_at_call 13
            refine (HCI.out _ HBC.out.drew).mono ?_
            rintro e w1 ⟨AI, kI, rfl, hrI, hbI⟩
            have HT1 := Lib.hid (show Below wc.heap.size wc w1 from (Below.refl _ wc).drew.trans hbI)
            have HRI := Lib.hid (RdK.mono (KE_ok n) (S' := fun b => w.heap.size + 2 ≤ b) hrI fun b hb _ => Nat.le_trans hzc2 hb)
            clear hrI hbI
            have hS0 := hS
            clear hS
            refine hK.out _ _ (by obtain ⟨_, _, _, _, _, _, _, q7, _, q9, q10, q11, _, _⟩ := cells14 ((HT1.out.block _ (by omega)).trans HX.out); exact ⟨q7, q9, q10, q11⟩) (fun hS hcl => ?_)
            clear hK K hS0
            try simp only [Act.put, List.setIfInBounds_toArray, List.set_cons_zero, List.set_cons_succ]
            refine anyT_free (i := 12) (v := ?v12) rfl (by kernel_rfl) (by kernel_rfl) (by kernel_rfl) (by kernel_rfl) (fun _ _ _ h => h) (Or.inl ⟨by rfl, ?hy12⟩) hcl ?rest12
            case hy12 => intro w' _; go_simp; with_reducible rfl
            clear hcl
            intro hcl
            try simp only [Act.put, List.setIfInBounds_toArray, List.set_cons_zero, List.set_cons_succ]
            refine anyT_step (k := 5) rfl (by kernel_rfl) hcl ?_
            intro K hK
            go_simp
            go_at_call 13
            refine (HCO.out _ (HBC.out.trans (HT1.out.mono (by omega)))).mono ?_
            rintro e w2 ⟨AO, kO, rfl, hrO, hbO⟩
            have HT2 := Lib.hid (HT1.out.trans (hbO.mono HT1.out.size))
            replace HRI := Lib.hid (HRI.out.below (KE_ok n) hbO)
            have HRO := Lib.hid (RdK.mono (KE_ok n) (S' := fun b => w.heap.size + 2 ≤ b) hrO fun b hb _ => Nat.le_trans (Nat.le_trans hzc2 HT1.out.size) hb)
            clear hrO hbO
            have hS1 := hS
            clear hS
            refine hK.out _ _ (by obtain ⟨_, _, _, _, _, _, _, q7, _, q9, q10, q11, _, _⟩ := cells14 ((HT2.out.block _ (by omega)).trans HX.out); exact ⟨q7, q9, q10, q11⟩) (fun hS hcl => ?_)
            clear hK K hS1
            try simp only [Act.put, List.setIfInBounds_toArray, List.set_cons_zero, List.set_cons_succ]
            refine anyT_step (k := 8) rfl (by kernel_rfl) hcl ?_
            intro K hK
            go_simp
            go_at_call 13
            refine (HCW.out _ (HBC.out.trans (HT2.out.mono (by omega)))).mono ?_
            rintro e w3 ⟨AW, kW, rfl, hrW, hbW⟩
            have HT3 := Lib.hid (HT2.out.trans (hbW.mono HT2.out.size))
            replace HRI := Lib.hid (HRI.out.below (KE_ok n) hbW)
            replace HRO := Lib.hid (HRO.out.below (KE_ok n) hbW)
            have HRW := Lib.hid (RdK.mono (KE_ok n) (S' := fun b => w.heap.size + 2 ≤ b) hrW fun b hb _ => Nat.le_trans (Nat.le_trans hzc2 HT2.out.size) hb)
            clear hrW hbW
            have hS2 := hS
            clear hS
            refine hK.out _ _ (by obtain ⟨_, _, _, _, _, _, _, q7, _, q9, q10, q11, _, _⟩ := cells14 ((HT3.out.block _ (by omega)).trans HX.out); exact ⟨q7, q9, q10, q11⟩) (fun hS hcl => ?_)
            clear hK K hS2
            try simp only [Act.put, List.setIfInBounds_toArray, List.set_cons_zero, List.set_cons_succ]
            refine anyT_step (k := 11) rfl (by kernel_rfl) hcl ?_
            intro K hK
            go_simp
            go_at_call 13
            refine (HCG.out _ (HBC.out.trans (HT3.out.mono (by omega)))).mono ?_
            rintro e w4 ⟨AG, kG, rfl, hrG, hbG⟩
            have HT4 := Lib.hid (HT3.out.trans (hbG.mono HT3.out.size))
            replace HRI := Lib.hid (HRI.out.below (KE_ok n) hbG)
            replace HRO := Lib.hid (HRO.out.below (KE_ok n) hbG)
            replace HRW := Lib.hid (HRW.out.below (KE_ok n) hbG)
            have HRG := Lib.hid (RdK.mono (KE_ok n) (S' := fun b => w.heap.size + 2 ≤ b) hrG fun b hb _ => Nat.le_trans (Nat.le_trans hzc2 HT3.out.size) hb)
            clear hrG hbG
            have hS3 := hS
            clear hS
            refine hK.out _ _ (by obtain ⟨_, _, _, _, _, _, _, q7, _, q9, q10, q11, _, _⟩ := cells14 ((HT4.out.block _ (by omega)).trans HX.out); exact ⟨q7, q9, q10, q11⟩) (fun hS hcl => ?_)
            clear hK K hS3
            try simp only [Act.put, List.setIfInBounds_toArray, List.set_cons_zero, List.set_cons_succ]
            have HX4 := Lib.hid ((HT4.out.block _ (by omega)).trans HX.out)
            obtain ⟨_, _, _, _, _, _, _, q7, _, q9, q10, q11, _, _⟩ := cells14 HX4.out
            have f7 := frz14 (i := 7) HX4.out (by decide)
            have f9 := frz14 (i := 9) HX4.out (by decide)
            have f10 := frz14 (i := 10) HX4.out (by decide)
            have f11 := frz14 (i := 11) HX4.out (by decide)
            clear hS
            refine anyT_last (k := 13) rfl (by kernel_rfl) (by kernel_rfl) hcl ?_
            intro K hK
            go_simp
            clear hcl
            refine hK.out _ _ (fun hcl => ?_)
            clear hK K
            try simp only [Act.put, List.setIfInBounds_toArray, List.set_cons_zero, List.set_cons_succ]
            refine anyT_free (i := 14) (v := ?v14) rfl (by kernel_rfl) (by kernel_rfl) (by kernel_rfl) (by kernel_rfl) (fun _ _ _ h => h) (Or.inl ⟨by rfl, ?hy14⟩) hcl ?rest14
            case hy14 => intro w' _; go_simp; with_reducible rfl
            clear hcl
            intro hcl
            try simp only [Act.put, List.setIfInBounds_toArray, List.set_cons_zero, List.set_cons_succ]
            refine anyT_last (k := 15) rfl (by kernel_rfl) (by kernel_rfl) hcl ?_
            intro K hK
            go_simp
            clear hcl
            refine hK.out _ _ (fun hcl => ?_)
            clear hK K
            try simp only [Act.put, List.setIfInBounds_toArray, List.set_cons_zero, List.set_cons_succ]
            refine anyT_free (i := 16) (v := ?v16) rfl (by kernel_rfl) (by kernel_rfl) (by kernel_rfl) (by kernel_rfl) (fun _ _ _ h => h) (Or.inl ⟨by rfl, ?hy16⟩) hcl ?rest16
            case hy16 => intro w' _; go_simp; with_reducible rfl
            clear hcl
            intro hcl
            try simp only [Act.put, List.setIfInBounds_toArray, List.set_cons_zero, List.set_cons_succ]
            refine anyT_last (k := 17) rfl (by kernel_rfl) (by kernel_rfl) hcl ?_
            intro K hK
            go_simp
            clear hcl
            refine hK.out _ _ (fun hcl => ?_)
            clear hK K
            try simp only [Act.put, List.setIfInBounds_toArray, List.set_cons_zero, List.set_cons_succ]
            refine anyT_free (i := 18) (v := ?v18) rfl (by kernel_rfl) (by kernel_rfl) (by kernel_rfl) (by kernel_rfl) (fun _ _ _ h => h) (Or.inl ⟨by rfl, ?hy18⟩) hcl ?rest18
            case hy18 => intro w' _; go_simp; with_reducible rfl
            clear hcl
            intro hcl
            try simp only [Act.put, List.setIfInBounds_toArray, List.set_cons_zero, List.set_cons_succ]
            refine anyT_last (k := 19) rfl (by kernel_rfl) (by kernel_rfl) hcl ?_
            intro K hK
            go_simp
            clear hcl
            refine hK.out _ _ (fun hcl => ?_)
            clear hK K
            try simp only [Act.put, List.setIfInBounds_toArray, List.set_cons_zero, List.set_cons_succ]
            refine anyT_done (by kernel_rfl) ?_ _
            obtain ⟨hs1, hs2, hs3⟩ := sets4 HX4.out 7 9 10 11 (.slice AI items.length kI) (.slice AO on.length kO) (.slice AW wh.length kW) (.slice AG gr.length kG)
            have HXF := Lib.hid (hs1.trans (show _ = some (Obj.cells #[.int .i64 kind, .string tb, .slice AC cols.length kC', .string key, .string ix, .slice AR rows.length kRR, .slice AS sets.length kSS, .slice AI items.length kI, .string jn, .slice AO on.length kO, .slice AW wh.length kW, .slice AG gr.length kG, .slice AD ord.length kD', .int .i64 lim] 31 (0, 0)) from rfl))
            have HZF := Lib.hid ((hs2 (fun b => w.heap.size + 1 ≤ b) (by show ¬ w.heap.size + 1 ≤ w.heap.size; omega) (w.heap.size + 1) (Nat.le_refl _)).trans ((HT4.out.block _ (by omega)).trans HZ1.out))
            have hs4 := hs2 (fun b => w.heap.size + 2 ≤ b) (by show ¬ w.heap.size + 2 ≤ w.heap.size; omega)
            replace HRI := Lib.hid (RdK.out (KE_ok n) HRI.out hs4)
            replace HRO := Lib.hid (RdK.out (KE_ok n) HRO.out hs4)
            replace HRW := Lib.hid (RdK.out (KE_ok n) HRW.out hs4)
            replace HRG := Lib.hid (RdK.out (KE_ok n) HRG.out hs4)
            replace HRC := Lib.hid (RdK.out KC_ok (HRC.out.below KC_ok HT4.out) hs4)
            replace HRD := Lib.hid (RdK.out KO_ok (HRD.out.below KO_ok HT4.out) hs4)
            replace HRR := Lib.hid (RdK.out (KR_ok n) (HRR.out.below (KR_ok n) HT4.out) hs4)
            replace HRS := Lib.hid (RdK.out (KS_ok n) (HRS.out.below (KS_ok n) HT4.out) hs4)
            have HBF := Lib.hid ((HBC.out.trans (HT4.out.mono (by omega))).trans hs3)
            clear hs1 hs2 hs3 hs4 q7 q9 q10 q11 f7 f9 f10 f11 hcl HX HX4 HZ1 HT1 HT2 HT3 HT4 HBC HCI HCO HCW HCG
            generalize ((((w4.setCell { block := w.heap.size, off := 7 } (Value.slice AI items.length kI)).setCell { block := w.heap.size, off := 9 } (Value.slice AO on.length kO)).setCell { block := w.heap.size, off := 10 } (Value.slice AW wh.length kW)).setCell { block := w.heap.size, off := 11 } (Value.slice AG gr.length kG)) = wf at *
            obtain ⟨x0, x1, x2, x3, x4, x5, x6, x7, x8, x9, x10, x11, x12, x13⟩ := cells14 HXF.out
            obtain ⟨z0, z1, z2, z3, z4, z5, z6, z7, z8, z9, z10, z11, z12, z13⟩ := cells14 HZF.out
            have g0 := frz14 (i := 0) HZF.out (by decide)
            have g1 := frz14 (i := 1) HZF.out (by decide)
            have g2 := frz14 (i := 2) HZF.out (by decide)
            have g3 := frz14 (i := 3) HZF.out (by decide)
            have g4 := frz14 (i := 4) HZF.out (by decide)
            have g5 := frz14 (i := 5) HZF.out (by decide)
            have g6 := frz14 (i := 6) HZF.out (by decide)
            have g7 := frz14 (i := 7) HZF.out (by decide)
            have g8 := frz14 (i := 8) HZF.out (by decide)
            have g9 := frz14 (i := 9) HZF.out (by decide)
            have g10 := frz14 (i := 10) HZF.out (by decide)
            have g11 := frz14 (i := 11) HZF.out (by decide)
            have g12 := frz14 (i := 12) HZF.out (by decide)
            have g13 := frz14 (i := 13) HZF.out (by decide)
            go_wp2_with fail
            obtain ⟨e1, e2', e3'⟩ := sets14 HZF.out (.int .i64 kind) (.string tb) (.slice AC cols.length kC') (.string key) (.string ix) (.slice AR rows.length kRR) (.slice AS sets.length kSS) (.slice AI items.length kI) (.string jn) (.slice AO on.length kO) (.slice AW wh.length kW) (.slice AG gr.length kG) (.slice AD ord.length kD') (.int .i64 lim)
            have e2 := e2' (fun b => w.heap.size + 2 ≤ b) (by show ¬ w.heap.size + 2 ≤ w.heap.size + 1; omega)
            have e3 := e3'.mono (Nat.le_succ w.heap.size)
            clear e2' e3'
            generalize ((((((((((((((wf.setCell ⟨w.heap.size + 1, 0, none⟩ (.int .i64 kind)).setCell ⟨w.heap.size + 1, 1, none⟩ (.string tb)).setCell ⟨w.heap.size + 1, 2, none⟩ (.slice AC cols.length kC')).setCell ⟨w.heap.size + 1, 3, none⟩ (.string key)).setCell ⟨w.heap.size + 1, 4, none⟩ (.string ix)).setCell ⟨w.heap.size + 1, 5, none⟩ (.slice AR rows.length kRR)).setCell ⟨w.heap.size + 1, 6, none⟩ (.slice AS sets.length kSS)).setCell ⟨w.heap.size + 1, 7, none⟩ (.slice AI items.length kI)).setCell ⟨w.heap.size + 1, 8, none⟩ (.string jn)).setCell ⟨w.heap.size + 1, 9, none⟩ (.slice AO on.length kO)).setCell ⟨w.heap.size + 1, 10, none⟩ (.slice AW wh.length kW)).setCell ⟨w.heap.size + 1, 11, none⟩ (.slice AG gr.length kG)).setCell ⟨w.heap.size + 1, 12, none⟩ (.slice AD ord.length kD')).setCell ⟨w.heap.size + 1, 13, none⟩ (.int .i64 lim)) = wl at e1 e2 e3 ⊢
            clear x0 x1 x2 x3 x4 x5 x6 x7 x8 x9 x10 x11 x12 x13 z0 z1 z2 z3 z4 z5 z6 z7 z8 z9 z10 z11 z12 z13
            obtain ⟨x0, x1, x2, x3, x4, x5, x6, x7, x8, x9, x10, x11, x12, x13⟩ := cells14 e1
            refine bodyPost_ret (v := .agg #[.int .i64 kind, .string tb, .slice AC cols.length kC', .string key, .string ix, .slice AR rows.length kRR, .slice AS sets.length kSS, .slice AI items.length kI, .string jn, .slice AO on.length kO, .slice AW wh.length kW, .slice AG gr.length kG, .slice AD ord.length kD', .int .i64 lim]) (by simp [results, Tryz.results6, go_sem, x0, x1, x2, x3, x4, x5, x6, x7, x8, x9, x10, x11, x12, x13]) rfl ⟨⟨⟨AC, kC'⟩, ⟨AR, kRR⟩, ⟨AS, kSS⟩, ⟨AI, kI⟩, ⟨AO, kO⟩, ⟨AW, kW⟩, ⟨AG, kG⟩, ⟨AD, kD'⟩⟩, rfl, RdSt.mono (S := fun b => w.heap.size + 2 ≤ b) ⟨RdK.out KC_ok HRC.out e2, RdK.out (KR_ok n) HRR.out e2, RdK.out (KS_ok n) HRS.out e2, RdK.out (KE_ok n) HRI.out e2, RdK.out (KE_ok n) HRO.out e2, RdK.out (KE_ok n) HRW.out e2, RdK.out (KE_ok n) HRG.out e2, RdK.out KO_ok HRD.out e2⟩ (fun b hb _ => (by omega)), HBF.out.trans e3⟩

end Go.Proofs.YtipcacplphidhaaGreat.Sy
