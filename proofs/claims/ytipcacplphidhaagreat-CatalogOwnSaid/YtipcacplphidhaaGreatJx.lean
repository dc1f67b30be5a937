/- A table of the statements made one of the program's: the walk of Of. Conditions: a table that is read in memory, of a length that every machine keeps. -/
import Derived.Test.YtipcacplphidhaaGreatKt
import Derived.Laws.AppendOwnNone
namespace Go.Proofs.YtipcacplphidhaaGreat
open Go.RowKit Go.Sort
set_option linter.unusedSimpArgs false
set_option linter.unusedVariables false

def colC (x : Cl) : List Value := [.string x.m, .int .i64 x.k, .bool x.nn]
def ixC (x : Ix) : List Value := [.string x.m, .int .i64 x.c]
theorem flatK_get {α : Type} (f : α → List Value) (k : Nat) (hf : ∀ x, (f x).length = k) : ∀ (l : List α) (j i : Nat) (v : α), l[j]? = some v → i < k → (l.flatMap f)[j * k + i]? = (f v)[i]?
  | [], j, i, v, h, _ => by simp at h
  | a :: l, 0, i, v, h, hi => by
    simp at h; subst h
    rw [List.flatMap_cons, Nat.zero_mul, Nat.zero_add, List.getElem?_append_left (by rw [hf]; exact hi)]
  | a :: l, j + 1, i, v, h, hi => by
    have e2 : (j + 1) * k = j * k + k := Nat.succ_mul j k
    rw [List.flatMap_cons, List.getElem?_append_right (by rw [hf]; omega)]
    have e : (j + 1) * k + i - (f a).length = j * k + i := by rw [hf]; omega
    rw [e]
    exact flatK_get f k hf l j i v (by simpa using h) hi
theorem flatK_len {α : Type} (f : α → List Value) (k : Nat) (hf : ∀ x, (f x).length = k) (l : List α) : (l.flatMap f).length = l.length * k := by
  induction l with
  | nil => simp
  | cons a l ih => rw [List.flatMap_cons, List.length_append, ih, hf, List.length_cons, Nat.succ_mul]; omega
theorem flatK_cell {α : Type} (f : α → List Value) (k : Nat) (hk : 0 < k) (hf : ∀ x, (f x).length = k) (l : List α) (j : Nat) (u : Value) (h : (l.flatMap f)[j]? = some u) : ∃ q r v, j = q * k + r ∧ r < k ∧ l[q]? = some v ∧ (f v)[r]? = some u := by
  have hj := (List.getElem?_eq_some_iff.1 h).1
  rw [flatK_len f k hf] at hj
  have hq : j / k < l.length := (Nat.div_lt_iff_lt_mul hk).2 hj
  have e : j = j / k * k + j % k := by rw [Nat.mul_comm]; exact (Nat.div_add_mod j k).symm
  refine ⟨j / k, j % k, l[j / k], e, Nat.mod_lt _ hk, List.getElem?_eq_getElem hq, ?_⟩
  rw [← flatK_get f k hf l (j / k) (j % k) _ (List.getElem?_eq_getElem hq) (Nat.mod_lt _ hk), ← e]
  exact h
theorem RdC.news {w : World} {A : Option Addr} {l : List Cl} (h : RdC w A l) : ∀ ad, A = some ad → ∀ j u, (l.flatMap colC)[j]? = some u → w.cell? (ad.add j) = some u := fun ad e j u hu => by
  obtain ⟨q, r, v, rfl, hr, hv, hu⟩ := flatK_cell colC 3 (by decide) (fun _ => rfl) l j u hu
  obtain ⟨ad', e', hc⟩ := h (by intro e; subst e; simp at hv)
  rw [e] at e'
  injection e' with e'
  subst e'
  obtain ⟨c0, c1, c2⟩ := hc q v hv
  rcases (show r = 0 ∨ r = 1 ∨ r = 2 by omega) with rfl | rfl | rfl
  · simp [colC] at hu; subst hu; exact c0
  · simp [colC] at hu; subst hu; rw [add_two _ _ (by omega)]; exact c1
  · simp [colC] at hu; subst hu; rw [add_two _ _ (by omega)]; exact c2
theorem own_cols {w : World} {B : Nat} {v : Value} {l : List Cl} (h : w.ownsRow B 48 3 v l.length (l.flatMap colC)) : ∃ A c, v = .slice A l.length c ∧ RdC w A l := by
  rcases h.2 with ⟨rfl, h0⟩ | ⟨g, cap, cur, rfl, _⟩
  · exact ⟨none, 0, by rw [h0], fun hl => absurd (List.eq_nil_of_length_eq_zero h0) hl⟩
  · refine ⟨some ⟨g, 0, none⟩, cap, rfl, fun _ => ⟨_, rfl, fun j x hj => ?_⟩⟩
    have hc := h.cells (g := g) rfl
    have h0 := hc (j * 3 + 0) _ (flatK_get colC 3 (fun _ => rfl) l j 0 x hj (by omega))
    have h1 := hc (j * 3 + 1) _ (flatK_get colC 3 (fun _ => rfl) l j 1 x hj (by omega))
    have h2 := hc (j * 3 + 2) _ (flatK_get colC 3 (fun _ => rfl) l j 2 x hj (by omega))
    rw [add_lit] at h0 h1 h2
    rw [add_lit]
    refine ⟨h0, ?_, ?_⟩
    · rw [← Nat.add_assoc] at h1; exact h1
    · rw [← Nat.add_assoc] at h2; exact h2
theorem own_idx {w : World} {B : Nat} {v : Value} {l : List Ix} (h : w.ownsRow B 50 2 v l.length (l.flatMap ixC)) : ∃ A c, v = .slice A l.length c ∧ RdX w A l := by
  rcases h.2 with ⟨rfl, h0⟩ | ⟨g, cap, cur, rfl, _⟩
  · exact ⟨none, 0, by rw [h0], fun hl => absurd (List.eq_nil_of_length_eq_zero h0) hl⟩
  · refine ⟨some ⟨g, 0, none⟩, cap, rfl, fun _ => ⟨_, rfl, fun j x hj => ?_⟩⟩
    have hc := h.cells (g := g) rfl
    have h0 := hc (j * 2 + 0) _ (flatK_get ixC 2 (fun _ => rfl) l j 0 x hj (by omega))
    have h1 := hc (j * 2 + 1) _ (flatK_get ixC 2 (fun _ => rfl) l j 1 x hj (by omega))
    rw [add_lit] at h0 h1
    rw [add_lit]
    refine ⟨h0, ?_⟩
    rw [← Nat.add_assoc] at h1; exact h1
theorem Tryz.infoC : (Tryz.prog.info? 48).map (fun i => (i.zero, i.size, i.bytes)) = some (some (.agg #[.string ⟨#[]⟩, .int .i64 0, .bool false]), 3, 32) := by kernel_rfl
theorem Tryz.infoX : (Tryz.prog.info? 50).map (fun i => (i.zero, i.size, i.bytes)) = some (some (.agg #[.string ⟨#[]⟩, .int .i64 0]), 2, 24) := by kernel_rfl
/-- STEP: an append to a nil slice, in a region that draws its order. -/
theorem step_append_nil {P : Program} {ops : Array Oper} {o : Oper} {a : Act} {w : World} {K : Act → World → Prop} {Q : Exit → Act → World → Prop} {E : Prop} (hgd : o.guard = none) (s x : Operand) (t : TypeId)
    (ho : o.op = .call { callee := .builtin .append, args := #[s, x], argTypes := #[t, t] })
    (e : TypeId) (i : TypeInfo) (z : Value) (size bytes : Nat) (ht : P.underlying t = some (.slice e)) (hi : P.info? e = some i) (hz : i.zero = some z)
    (hsize : i.size = size) (hby : i.bytes = bytes) (hzs : z.cells.size = size) (hsz : 0 < size)
    (hs : a.eval s = .slice none 0 0) (A : Option Addr) (m c : Nat) (news : List Value) (hd : A = none → m = 0 ∧ c = 0) (hmm : m ≤ 9223372036854775807) (hx : a.eval x = .slice A m c) (hl : news.length = m * size)
    (hnews : ∀ ad, A = some ad → ∀ j u, news[j]? = some u → w.cell? (ad.add j) = some u) (h1 : ∀ u ∈ news, u.oneCell' = true) (hbytes : m * bytes ≤ 140737488355328)
    (hK : ∀ v' w', w'.ownsRow w.heap.size e size v' m news → w.grownBy w' none → K (a.put o.dst v') w') :
    if Region.wanted o (yielded ops a.tmps) = true then Oper.wp P o a w K Q else E := by
  have hw : Region.wanted o (yielded ops a.tmps) = true := by simp [Region.wanted, hgd]
  rw [if_pos hw]
  rcases A with _ | ad
  · obtain ⟨rfl, rfl⟩ := hd rfl
    obtain rfl : news = [] := List.eq_nil_of_length_eq_zero (by simpa using hl)
    have hrun := run_append_owned_none (P := P) (w := w) w.heap.size t o.type e i size ht hi (.slice none 0 0) 0 [] (World.ownsRow_nil w _ e size)
    unfold Oper.wp
    simp [execOp, ho, resolve, invoke, builtin, hs, hx, hrun, Result.andThen]
    exact hK _ _ (World.ownsRow_nil w _ e size) ⟨rfl, rfl, rfl, Nat.le_refl _, fun _ _ _ => rfl⟩
  · obtain ⟨v', w', hrun, r1, r2, _⟩ := run_append_own (P := P) w w.heap.size t o.type e i z size bytes ht hi hz hsize hby hzs hsz (.slice none 0 0) 0 [] (World.ownsRow_nil w _ e size) ad m c news hl (hnews ad rfl) h1 (by rw [Nat.zero_add]; unfold maxLen; omega) (by rw [Nat.zero_add]; exact hbytes) (Nat.le_refl _)
    unfold Oper.wp
    simp [execOp, ho, resolve, invoke, builtin, hs, hx, hrun, Result.andThen]
    rw [Nat.zero_add, List.nil_append] at r1
    exact hK v' w' r1 r2
theorem step_append_own {P : Program} {ops : Array Oper} {o : Oper} {a : Act} {w : World} {K : Act → World → Prop} {Q : Exit → Act → World → Prop} {E : Prop} (hgd : o.guard = none) (s x : Operand) (t : TypeId)
    (ho : o.op = .call { callee := .builtin .append, args := #[s, x], argTypes := #[t, t] })
    (base : Nat) (e : TypeId) (i : TypeInfo) (z : Value) (size bytes : Nat) (ht : P.underlying t = some (.slice e)) (hi : P.info? e = some i) (hz : i.zero = some z)
    (hsize : i.size = size) (hby : i.bytes = bytes) (hzs : z.cells.size = size) (hsz : 0 < size)
    (v : Value) (n : Nat) (xs : List Value) (hs : a.eval s = v) (hown : w.ownsRow base e size v n xs)
    (ad : Addr) (m c : Nat) (news : List Value) (hx : a.eval x = .slice (some ad) m c) (hl : news.length = m * size) (hnews : ∀ j u, news[j]? = some u → w.cell? (ad.add j) = some u) (h1 : ∀ u ∈ news, u.oneCell' = true)
    (h63 : n + m ≤ maxLen) (hbytes : (n + m) * bytes ≤ 140737488355328) (hbase : base ≤ w.heap.size)
    (h : ∀ v' w', w'.ownsRow base e size v' (n + m) (xs ++ news) → w.grownBy w' v.ownBlock → K (a.put o.dst v') w') :
    if Region.wanted o (yielded ops a.tmps) = true then Oper.wp P o a w K Q else E := by
  have hw : Region.wanted o (yielded ops a.tmps) = true := by simp [Region.wanted, hgd]
  rw [if_pos hw]
  exact wp_append_own w s x t ho base e i z size bytes ht hi hz hsize hby hzs hsz v n xs hs hown ad m c news hx hl hnews h1 h63 hbytes hbase fun v' w' a1 a2 _ => h v' w' a1 a2

theorem KeepT.set4 {w1 W : World} {g : Nat} {m : ByteArray} {cA : Option Addr} {cn cc : Nat} {k : Int} {iA : Option Addr} {in_ ic : Nat} (h : KeepT w1 g m cA cn cc k iA in_ ic W) {b : Nat} (hg : g < w1.heap.size) (hB : w1.heap.size ≤ b) (a0 a1 a2 a3 : Value) :
    KeepT w1 g m cA cn cc k iA in_ ic ((((W.setCell ⟨b, 0, none⟩ a0).setCell ⟨b, 1, none⟩ a1).setCell ⟨b, 2, none⟩ a2).setCell ⟨b, 3, none⟩ a3) := by
  have hne : ∀ o, ((((W.setCell ⟨b, 0, none⟩ a0).setCell ⟨b, 1, none⟩ a1).setCell ⟨b, 2, none⟩ a2).setCell ⟨b, 3, none⟩ a3).cell? ⟨g, o, none⟩ = W.cell? ⟨g, o, none⟩ := fun o => World.cell?_setCells_out b [a0, a1, a2, a3] 0 W ⟨g, o, none⟩ (fun e _ => by have : g = b := e; omega)
  obtain ⟨h0, h1, h2, h3, h4⟩ := h
  exact ⟨(hne 0).trans h0, (hne 1).trans h1, (hne 2).trans h2, (hne 3).trans h3, below_cells hB [a0, a1, a2, a3] 0 h4⟩
theorem new4 {W w3 : World} {a0 a1 a2 a3 : Value} {T : TypeId} (hb : Below (W.alloc (.cells #[a0, a1, a2, a3] T)).heap.size (W.alloc (.cells #[a0, a1, a2, a3] T)) w3) : w3.heap[W.heap.size]? = some (.cells #[a0, a1, a2, a3] T (0, 0)) := by
  rw [hb.block _ (by simp), heap_alloc_new]
theorem new4d {W w3 : World} {a0 a1 a2 a3 : Value} {T : TypeId} (hb : Below (W.alloc (.cells #[a0, a1, a2, a3] T)).drew.heap.size (W.alloc (.cells #[a0, a1, a2, a3] T)).drew w3) : w3.heap[W.heap.size]? = some (.cells #[a0, a1, a2, a3] T (0, 0)) :=
  new4 (W := W) ⟨hb.os, hb.tape, hb.output, hb.size, hb.block⟩
theorem cells4 {w3 : World} {g : Nat} {a0 a1 a2 a3 : Value} {T : TypeId} (h : w3.heap[g]? = some (.cells #[a0, a1, a2, a3] T (0, 0))) :
    w3.cell? ⟨g, 0, none⟩ = some a0 ∧ w3.cell? ⟨g, 1, none⟩ = some a1 ∧ w3.cell? ⟨g, 2, none⟩ = some a2 ∧ w3.cell? ⟨g, 3, none⟩ = some a3 ∧
    w3.frozen? ⟨g, 0, none⟩ = false ∧ w3.frozen? ⟨g, 1, none⟩ = false ∧ w3.frozen? ⟨g, 2, none⟩ = false ∧ w3.frozen? ⟨g, 3, none⟩ = false := by
  simp [World.cell?, World.frozen?, h]
theorem below_none {w w' : World} (h : w.grownBy w' none) : Below w.heap.size w w' := ⟨h.os, h.tape, h.output, h.size, fun k hk => h.block k hk (by simp)⟩
theorem colC_one (l : List Cl) : ∀ u ∈ l.flatMap colC, u.oneCell' = true := fun u hu => by
  obtain ⟨v, _, hv⟩ := List.mem_flatMap.1 hu
  simp [colC] at hv
  rcases hv with rfl | rfl | rfl <;> rfl
/-- A table on its way: its block, its columns of its own, its indexes so far. -/
structure Tof (w0 w : World) (b : Nat) (m : ByteArray) (cols : List Cl) (key : Int) (A : Option Addr) (c : Nat) (iv : Value) (xs : List Ix) : Prop where
  hB : w0.heap.size ≤ b
  bx : w.heap[b]? = some (.cells #[.string m, .slice A cols.length c, .int .i64 key, iv] 46 (0, 0))
  cl : ∃ B, w0.heap.size ≤ B ∧ w.ownsRow B 48 3 (.slice A cols.length c) cols.length (cols.flatMap colC)
  ix : w.ownsRow w0.heap.size 50 2 iv xs.length (xs.flatMap ixC)
  below : Below w0.heap.size w0 w

theorem news_new (W : World) (cs : Array Value) (T : TypeId) (l : List Value) (h : cs.toList = l) : ∀ j u, l[j]? = some u → ((W.alloc (.cells cs T)).drew).cell? ((⟨W.heap.size, 0, none⟩ : Addr).add j) = some u := fun j u hu => by
  rw [add_lit, Nat.zero_add]
  show (W.alloc (.cells cs T)).cell? ⟨W.heap.size, j, none⟩ = some u
  rw [cell_last _ _ _ _ _ rfl, ← hu, ← h]; simp
theorem RdX.setCells {w : World} {A : Option Addr} {l : List Ix} (h : RdX w A l) (b o : Nat) (vs : List Value) (hb : ∀ ad, A = some ad → ad.block ≠ b) : RdX (w.setCells b o vs) A l := fun hl => by
  obtain ⟨ad, e, hc⟩ := h hl
  have hne := hb ad e
  exact ⟨ad, e, fun j x hj => by
    obtain ⟨h0, h1⟩ := hc j x hj
    refine ⟨(World.cell?_setCells_out b vs o w _ (fun e' _ => absurd e' ?_)).trans h0, (World.cell?_setCells_out b vs o w _ (fun e' _ => absurd e' ?_)).trans h1⟩ <;> simpa [add_block] using hne⟩
theorem form_of {w : World} {B : Nat} {e : TypeId} {k : Nat} {v : Value} {n : Nat} {xs : List Value} (h : w.ownsRow B e k v n xs) : ∃ A n c, v = .slice A n c := by
  rcases h.2 with ⟨h, _⟩ | ⟨g, cap, cur, h, _⟩
  · exact ⟨_, _, _, h⟩
  · exact ⟨_, _, _, h⟩
theorem own_ne {w : World} {B : Nat} {e T : TypeId} {k : Nat} {v : Value} {n : Nat} {xs : List Value} {b : Nat} {cs : Array Value} {fr : Nat × Nat} (h : w.ownsRow B e k v n xs) (hb : w.heap[b]? = some (.cells cs T fr)) (hTe : T ≠ e) : v.ownBlock ≠ some b := fun e' => by
  rcases h.2 with ⟨rfl, _⟩ | ⟨g, cap, cur, rfl, _, hg, _⟩
  · cases e'
  · have e2 : g = b := by simpa [Value.ownBlock] using e'
    subst e2
    rw [hg] at hb
    injection hb with hb
    injection hb with _ hb
    exact hTe hb.symm
section
variable {m : ByteArray} {cols : List Cl} {key : Int} {A : Option Addr} {c : Nat} {iv : Value} {xs : List Ix} {w0 w : World} {b : Nat}
theorem tofA {w3 : World} {B : Nat} (ho : w3.ownsRow B 48 3 (.slice A cols.length c) cols.length (cols.flatMap colC)) (hB : w0.heap.size ≤ B) (hb : Below w0.heap.size w0 w3) :
    Tof w0 (w3.alloc (.cells #[.string m, .slice A cols.length c, .int .i64 key, .slice none 0 0] 46)) w3.heap.size m cols key A c (.slice none 0 0) [] :=
  ⟨hb.size, heap_alloc_new w3 _, ⟨B, hB, ho.alloc _⟩, World.ownsRow_nil _ _ _ _, hb.alloc hb.size _⟩
theorem tofB {w3 : World} {B : Nat} {a0 a1 a2 a3 : Value} (ho : w3.ownsRow B 48 3 (.slice A cols.length c) cols.length (cols.flatMap colC)) (hB : w0.heap.size ≤ B) (hb : Below w0.heap.size w0 w3) (h4 : w3.heap[w0.heap.size]? = some (.cells #[a0, a1, a2, a3] 46 (0, 0))) :
    Tof w0 ((((w3.setCell ⟨w0.heap.size, 0, none⟩ (.string m)).setCell ⟨w0.heap.size, 1, none⟩ (.slice A cols.length c)).setCell ⟨w0.heap.size, 2, none⟩ (.int .i64 key)).setCell ⟨w0.heap.size, 3, none⟩ (.slice none 0 0)) w0.heap.size m cols key A c (.slice none 0 0) [] := by
  have hne := own_ne ho h4 (by decide)
  refine ⟨Nat.le_refl _, ?_, ⟨B, hB, ho.kept (grown_setCells w0.heap.size [.string m, .slice A cols.length c, .int .i64 key, .slice none 0 0] 0 w3) (.inr hne)⟩, World.ownsRow_nil _ _ _ _, below_cells (Nat.le_refl _) [.string m, .slice A cols.length c, .int .i64 key, .slice none 0 0] 0 hb⟩
  have s0 := heap_setCell_same w3 w0.heap.size 0 _ _ (.string m) h4
  have s1 := heap_setCell_same _ w0.heap.size 1 _ _ (.slice A cols.length c) s0
  have s2 := heap_setCell_same _ w0.heap.size 2 _ _ (.int .i64 key) s1
  exact heap_setCell_same _ w0.heap.size 3 _ _ (.slice none 0 0) s2
theorem Tof.lt (h : Tof w0 w b m cols key A c iv xs) : b < w.heap.size := (Array.getElem?_eq_some_iff.1 h.bx).1
theorem Tof.grown {w' : World} (h : Tof w0 w b m cols key A c iv xs) (hb : Below w.heap.size w w') : Tof w0 w' b m cols key A c iv xs := by
  obtain ⟨B, hB, hcl⟩ := h.cl
  exact ⟨h.hB, by rw [hb.block b h.lt]; exact h.bx, ⟨B, hB, own_below hcl hb⟩, own_below h.ix hb, h.below.trans (hb.mono h.below.size)⟩
theorem Tof.kept {w2 : World} (h : Tof w0 w b m cols key A c iv xs) (hg : w.grownBy w2 iv.ownBlock) : w2.heap[b]? = some (.cells #[.string m, .slice A cols.length c, .int .i64 key, iv] 46 (0, 0)) := by
  have hne : iv.ownBlock ≠ some b := own_ne h.ix h.bx (by decide)
  rw [hg.block b h.lt (fun e => hne e.symm)]; exact h.bx
/-- An index more. -/
theorem Tof.put {w2 : World} {v' : Value} {ys : List Ix} (h : Tof w0 w b m cols key A c iv xs) (hg : w.grownBy w2 iv.ownBlock) (ho : w2.ownsRow w0.heap.size 50 2 v' ys.length (ys.flatMap ixC)) : Tof w0 (w2.setCell ⟨b, 3, none⟩ v') b m cols key A c v' ys := by
  obtain ⟨B, hB, hcl⟩ := h.cl
  have hne : iv.ownBlock ≠ some b := own_ne h.ix h.bx (by decide)
  have hb2 : w2.heap[b]? = some (.cells #[.string m, .slice A cols.length c, .int .i64 key, iv] 46 (0, 0)) := by
    rw [hg.block b h.lt (fun e => hne e.symm)]; exact h.bx
  have hcl2 : w2.ownsRow B 48 3 (.slice A cols.length c) cols.length (cols.flatMap colC) := by
    refine hcl.kept hg ?_
    rcases h.ix.2 with ⟨rfl, _⟩ | ⟨g, cap, cur, rfl, _, hgg, _⟩
    · cases hx : (Value.slice A cols.length c).ownBlock <;> simp [Value.ownBlock]
    · exact .inr (own_ne hcl hgg (by decide))
  have hne2 : v'.ownBlock ≠ some b := own_ne ho hb2 (by decide)
  have hne3 := own_ne hcl2 hb2 (by decide)
  refine ⟨h.hB, ?_, ⟨B, hB, hcl2.kept (grown_setCell w2 b 3 v') (.inr hne3)⟩, ho.kept (grown_setCell w2 b 3 v') (.inr hne2), (h.below.grown hg (by have := h.below.size; omega) (fun k hk => (h.ix.lt k hk).1)).setCell (p := ⟨b, 3, none⟩) h.hB _⟩
  rw [heap_setCell_same w2 b 3 _ _ v' hb2]
  rfl
end
set_option maxRecDepth 100000 in
set_option maxHeartbeats 8000000 in
theorem of_any (t : Tb) (cA iA : Option Addr) (cc ic : Nat) (w : World) (hc : RdC w cA t.cols) (hx : RdX w iA t.idx) (hcA : cA = none → t.cols.length = 0 ∧ cc = 0) (hn : t.cols.length * 32 ≤ 140737488355328) (hk : t.idx.length * 24 ≤ 140737488355328 - 24) :
    Calls Tryz.prog 12 #[tbl t.m cA t.cols.length cc t.key iA t.idx.length ic] w fun e w' => ∃ cA' cc' iA' ic', e = .returned (tbl t.m cA' t.cols.length cc' t.key iA' t.idx.length ic') ∧ RdT w' t cA' iA' ∧ Below w.heap.size w w' := by
  obtain ⟨m, cols, key, idx⟩ := t
  dsimp only at *
  obtain ⟨iC, hiC, hC0, hC1, hC2⟩ := info_parts Tryz.infoC
  obtain ⟨iX, hiX, hX0, hX1, hX2⟩ := info_parts Tryz.infoX
  have HC := Lib.hid hc
  have HX := Lib.hid hx
  have HCA := Lib.hid hcA
  have HLC := Lib.hid (flatK_len colC 3 (fun _ => rfl) cols)
  have HN := Lib.hid hn
  have hn63 : cols.length ≤ 9223372036854775807 := by omega
  clear hc hx hcA hn
  have hB2 := (below1 w (.cells #[.string m, .slice cA cols.length cc, .int .i64 key, .slice iA idx.length ic] 57)).alloc (by simp) (.cells #[.string ⟨#[]⟩, .slice none 0 0, .int .i64 0, .slice none 0 0] 46)
  have hx4 := (Box4.new w m cA cols.length cc key iA idx.length ic 57).below (below1 _ (.cells #[.string ⟨#[]⟩, .slice none 0 0, .int .i64 0, .slice none 0 0] 46))
  have hr4 : ((w.alloc (.cells #[.string m, .slice cA cols.length cc, .int .i64 key, .slice iA idx.length ic] 57)).alloc (.cells #[.string ⟨#[]⟩, .slice none 0 0, .int .i64 0, .slice none 0 0] 46)).heap[w.heap.size + 1]? = some (.cells #[.string ⟨#[]⟩, .slice none 0 0, .int .i64 0, .slice none 0 0] 46 (0, 0)) := by
    have := heap_alloc_new (w.alloc (.cells #[.string m, .slice cA cols.length cc, .int .i64 key, .slice iA idx.length ic] 57)) (.cells #[.string ⟨#[]⟩, .slice none 0 0, .int .i64 0, .slice none 0 0] 46)
    rwa [World.size_alloc] at this
  have HB2 := Lib.hid hB2
  have HX4 := Lib.hid hx4
  have HR4 := Lib.hid hr4
  clear hB2 hx4 hr4
  go_enter Tryz.func12, Tryz.ntmps12
  go_upto_region 2 with (fail)
  have hz2 : w.heap.size + 1 < ((w.alloc (.cells #[.string m, .slice cA cols.length cc, .int .i64 key, .slice iA idx.length ic] 57)).alloc (.cells #[.string ⟨#[]⟩, .slice none 0 0, .int .i64 0, .slice none 0 0] 46)).heap.size := by simp
  generalize (w.alloc (.cells #[.string m, .slice cA cols.length cc, .int .i64 key, .slice iA idx.length ic] 57)).alloc (.cells #[.string ⟨#[]⟩, .slice none 0 0, .int .i64 0, .slice none 0 0] 46) = w1 at HB2 HX4 HR4 hz2 ⊢
  have hS0 : KeepT w1 w.heap.size m cA cols.length cc key iA idx.length ic w1.drew := ⟨HX4.out.c0, HX4.out.c1, HX4.out.c2, HX4.out.c3, (Below.refl _ _).drew⟩
  have HS1 : Hid (KeepT w1 w.heap.size m cA cols.length cc key iA idx.length ic w1) := Lib.hid ⟨HX4.out.c0, HX4.out.c1, HX4.out.c2, HX4.out.c3, Below.refl _ _⟩
  have hgl : w.heap.size < w1.heap.size := by omega
  go_cut [4] (fun p wx => ∃ (b : Nat) (A : Option Addr) (c : Nat), p = .pointer (some ⟨b, 0, none⟩) ∧ Tof w1 wx b m cols key A c (.slice none 0 0) [])
  case first =>
    go_region_held3 (fun W => W.cell? ⟨w.heap.size, 0, none⟩ = some (.string m) ∧ W.cell? ⟨w.heap.size, 1, none⟩ = some (.slice cA cols.length cc) ∧ W.cell? ⟨w.heap.size, 2, none⟩ = some (.int .i64 key) ∧ W.cell? ⟨w.heap.size, 3, none⟩ = some (.slice iA idx.length ic) ∧ Below w1.heap.size w1 W)
      (first | with_reducible exact hS | with_reducible exact hS0 | with_reducible exact KeepT.alloc hS _ | with_reducible exact KeepT.drew (KeepT.alloc HS1.out _) | with_reducible exact KeepT.set4 hS hgl (Nat.le_refl _) _ _ _ _)
      ((refine step_append_nil rfl (.tmp 8) (.tmp 10) 25 rfl 48 iC (.agg #[.string ⟨#[]⟩, .int .i64 0, .bool false]) 3 32 Tryz.underlying25 hiC hC0 hC1 hC2 rfl (by decide) rfl cA cols.length cc _ (fun e => HCA.out e) hn63 rfl HLC.out (RdC.news (HC.out.below (HB2.out.trans (by first | with_reducible exact hS.2.2.2.2.mono HB2.out.size | with_reducible exact hS0.2.2.2.2.mono HB2.out.size | with_reducible exact (KeepT.drew (KeepT.alloc HS1.out _)).2.2.2.2.mono HB2.out.size)))) (colC_one cols) HN.out ?_; intro v3 w3 hown hgn; have hb := below_none hgn; obtain ⟨A3, c3, rfl, hrc3⟩ := own_cols hown; have hS : KeepT w1 w.heap.size m cA cols.length cc key iA idx.length ic w3 := (by first | with_reducible exact KeepT.below hS hb | with_reducible exact KeepT.below hS0 hb | with_reducible exact KeepT.below (KeepT.drew (KeepT.alloc HS1.out _)) hb); have HBW : Hid (Below w1.heap.size w1 w3) := Lib.hid hS.2.2.2.2; have HO := Lib.hid hown; first | ((with_reducible have H5 := Lib.hid (new4d hb)); obtain ⟨z0, z1, z2, z3, f0, f1, f2, f3⟩ := cells4 H5.out) | ((with_reducible have H5 := Lib.hid (new4 hb)); obtain ⟨z0, z1, z2, z3, f0, f1, f2, f3⟩ := cells4 H5.out) | skip; clear hown hgn hb hrc3))
    all_goals go_wp2_with fail
    all_goals go_meet
    all_goals clear hS0 HS1 hS
    · refine ⟨w3.heap.size, A3, c3, rfl, ?_⟩
      exact tofA HO.out (Nat.le_refl _) HBW.out
    · refine ⟨w1.heap.size, A3, c3, rfl, ?_⟩
      exact tofB HO.out (by simp) HBW.out H5.out
  case rest =>
    obtain ⟨b, A, c, rfl, htof⟩ := hcut
    have HTF := Lib.hid htof
    clear htof hS0 HS1
    go_wp2
    go_loopw [5] (fun i wr => ∃ (j : Nat) (iv : Value), i = .int .i64 j ∧ j ≤ idx.length ∧ Tof w1 wr b m cols key A c iv (idx.take j)) (fun i _ => idx.length - (intOf i).toNat)
    case atStart => exact ⟨0, _, rfl, by omega, HTF.out⟩
    case round =>
      clear HTF
      obtain ⟨j, iv, rfl, hj, hT⟩ := hrel
      have HT := Lib.hid hT
      have hbl := hT.lt
      obtain ⟨IA, ic2, eiv, _⟩ := own_idx hT.ix
      obtain ⟨y0, y1, y2, y3⟩ := HX4.out.below hT.below
      have hzr := hT.below.size
      clear hT
      by_cases hlt : j < idx.length
      · obtain ⟨ad, e0, k0, k1⟩ := (HX.out.below (HB2.out.trans (HT.out.below.mono HB2.out.size))).at_ hlt
        subst e0
        have hk0 := cell_lt k0
        have htk := List.take_succ_eq_append_getElem hlt
        have HTK := Lib.hid htk
        have hjl : (j : Int) < (idx.length : Int) := by omega
        have hln : (idx.take j).length = j := by rw [List.length_take]; omega
        have HLN := Lib.hid hln
        rw [hln] at eiv
        clear htk hln
        generalize idx[j] = x at k0 k1 HTK
        subst eiv
        have q3 := cell_of_row wr b 3 _ _ (0, 0) HT.out.bx
        simp at q3
        have hTW := HT.out.grown (below1 wr (.cells #[.string x.m, .int .i64 x.c] 50))
        have HTW := Lib.hid hTW
        clear hTW
        go_wp2_with fail
        go_region_law (refine step_append_own rfl (.tmp 23) (.tmp 29) 44 rfl w1.heap.size 50 iX (.agg #[.string ⟨#[]⟩, .int .i64 0]) 2 24 Tryz.underlying44 hiX hX0 hX1 hX2 rfl (by decide) (.slice IA j ic2) (idx.take j).length ((idx.take j).flatMap ixC) rfl (by first | exact HTW.out.ix.drew | exact HTW.out.ix) ⟨wr.heap.size, 0, none⟩ 1 1 [.string x.m, .int .i64 x.c] rfl rfl (news_new wr #[.string x.m, .int .i64 x.c] _ [.string x.m, .int .i64 x.c] rfl) (by simp [Value.oneCell']) (by have := HLN.out; unfold maxLen; omega) (by have := HLN.out; omega) (by first | exact HTW.out.below.size | (simp; omega)) ?_; intro v' w2 hown hg; have hg' : (wr.alloc (.cells #[.string x.m, .int .i64 x.c] 50)).grownBy w2 (Value.slice IA j ic2).ownBlock := ⟨hg.os, hg.tape, hg.output, hg.size, hg.block⟩; have hb6 := HTW.out.kept hg'; have z4 := cell_of_row w2 b 3 _ _ (0, 0) hb6; have f4 := frozen_of_row w2 b 3 _ _ hb6; simp at z4; obtain ⟨A6, n6, c6, rfl⟩ : ∃ A n c, v' = .slice A n c := form_of hown; have HO6 := Lib.hid hown; have HG6 := Lib.hid hg'; clear hown hg hg' hb6)
        all_goals
          have HZ : Hid (Tof w1 (w2.setCell ⟨b, 3, none⟩ (.slice A6 n6 c6)) b m cols key A c (.slice A6 n6 c6) (idx.take (j + 1))) := Lib.hid (HTW.out.put HG6.out (by
            rw [HTK.out, List.length_append, List.flatMap_append]
            have := HO6.out
            simpa [ixC] using this))
          go_wp2
          go_roundw
          case rel => exact ⟨j + 1, _, by go_num, hlt, HZ.out⟩
          case measure => simp [intOf]; omega
      · have HT2 : Hid (Tof w1 wr b m cols key A c iv idx) := Lib.hid (by have := HT.out; rwa [List.take_of_length_le (by omega)] at this)
        obtain ⟨B, hB, hcl⟩ := HT.out.cl
        have q0 := cell_of_row wr b 0 _ _ (0, 0) HT.out.bx
        have q1 := cell_of_row wr b 1 _ _ (0, 0) HT.out.bx
        have q2 := cell_of_row wr b 2 _ _ (0, 0) HT.out.bx
        have q3 := cell_of_row wr b 3 _ _ (0, 0) HT.out.bx
        simp at q0 q1 q2 q3
        have hr5 := (HT.out.below.block _ hz2).trans HR4.out
        obtain ⟨d0, d1, d2, d3, f0, f1, f2, f3⟩ := cells4 hr5
        have hln : (idx.take j).length = idx.length := by rw [List.length_take]; omega
        rw [hln] at eiv
        subst eiv
        obtain ⟨A9, c9, hcv, hrc⟩ := own_cols hcl
        injection hcv with hcv1 _ hcv2
        subst hcv1 hcv2
        obtain ⟨I9, i9, hiv, hrx⟩ := own_idx HT2.out.ix
        injection hiv with hiv1 _ hiv2
        subst hiv1 hiv2
        have HRC := Lib.hid hrc
        have HRX := Lib.hid hrx
        have hbz : b ≠ w.heap.size + 1 := by have := HT.out.hB; omega
        have HBW := Lib.hid (HB2.out.trans (HT.out.below.mono HB2.out.size))
        have hcl0 := hcl
        clear hrc hrx hcl hln
        have hA1 : ∀ a, A = some a → a.block ≠ w.heap.size + 1 := fun a ha => by
          have := (hcl0.lt a.block (by rw [ha]; rfl)).1
          omega
        have hI1 : ∀ a, IA = some a → a.block ≠ w.heap.size + 1 := fun a ha => by
          have := (HT2.out.ix.lt a.block (by rw [ha]; rfl)).1
          omega
        have HT9 : Hid (RdT (wr.setCells (w.heap.size + 1) 0 [.string m, .slice A cols.length c, .int .i64 key, .slice IA idx.length ic2]) ⟨m, cols, key, idx⟩ A IA) := Lib.hid ⟨HRC.out.setCells _ _ _ hA1, HRX.out.setCells _ _ _ hI1, hn63⟩
        have HB9 : Hid (Below w.heap.size w (wr.setCells (w.heap.size + 1) 0 [.string m, .slice A cols.length c, .int .i64 key, .slice IA idx.length ic2])) := Lib.hid (below_cells (by omega) _ _ HBW.out)
        clear hA1 hI1
        go_wp2
        exact bodyPost_ret (v := tbl m A cols.length c key IA idx.length ic2) (by simp [results, Tryz.results12, go_sem, d0, d1, d2, d3]) rfl ⟨A, c, IA, ⟨ic2, rfl⟩, HT9.out, HB9.out⟩
end Go.Proofs.YtipcacplphidhaaGreat
