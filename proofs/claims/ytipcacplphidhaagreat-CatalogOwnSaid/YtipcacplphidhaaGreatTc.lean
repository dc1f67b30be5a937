/- Lists that a call makes in memory of its own, one thing behind the other, and how they are read then. Conditions: none. -/
import Derived.Test.YtipcacplphidhaaGreatTa
namespace Go.Proofs.YtipcacplphidhaaGreat.Sy
open Go.RowKit
set_option linter.unusedSimpArgs false
set_option linter.unusedVariables false

theorem ownsRow_below {base size n : Nat} {e : TypeId} {v : Value} {xs : List Value} {W w' : World} (hb : Below W.heap.size W w') (h : W.ownsRow base e size v n xs) : w'.ownsRow base e size v n xs :=
  h.kept (row := none) ⟨hb.os, hb.tape, hb.output, hb.size, fun k hk _ => hb.block k hk⟩ (by cases hv : v.ownBlock <;> simp)

theorem flat_len {α : Type} {f : α → List Value} {k : Nat} (hf : ∀ x, (f x).length = k) (l : List α) : (l.flatMap f).length = l.length * k := by
  induction l with
  | nil => simp
  | cons a l ih => rw [List.flatMap_cons, List.length_append, hf, ih, List.length_cons, Nat.succ_mul, Nat.add_comm]
theorem flat_get {α : Type} {f : α → List Value} {k : Nat} (hf : ∀ x, (f x).length = k) : ∀ (l : List α) (j i : Nat) (v : α), l[j]? = some v → i < k → (l.flatMap f)[j * k + i]? = (f v)[i]?
  | [], j, i, v, h, _ => by simp at h
  | a :: l, 0, i, v, h, hi => by
    simp at h; subst h
    rw [List.flatMap_cons, List.getElem?_append_left (by rw [hf]; omega)]
    simp
  | a :: l, j + 1, i, v, h, hi => by
    rw [List.flatMap_cons, List.getElem?_append_right (by rw [hf, Nat.succ_mul]; omega)]
    have e : (j + 1) * k + i - (f a).length = j * k + i := by rw [hf, Nat.succ_mul]; omega
    rw [e]
    exact flat_get hf l j i v (by simpa using h) hi

/-- A thing and what is told beside it. -/
abbrev Gh (τ : Type) : Type := τ × Option Addr × Nat
def Kd.row {τ : Type} (K : Kd τ) (ps : List (Gh τ)) : List Value := ps.flatMap fun p => K.cs p.1 p.2.1 p.2.2
theorem Kd.row_snoc {τ : Type} (K : Kd τ) (ps : List (Gh τ)) (p : Gh τ) : K.row (ps ++ [p]) = K.row ps ++ K.cs p.1 p.2.1 p.2.2 := by simp [Kd.row]
/-- Blocks of the call's own, but for v's. -/
def Apart (base : Nat) (v : Value) (b : Nat) : Prop := base ≤ b ∧ v.ownBlock ≠ some b
/-- v is a slice of the call's own that holds ps, whatever hangs on them in blocks of the call's own, too. -/
def OwnG {τ : Type} (K : Kd τ) (T base : Nat) (w : World) (v : Value) (ps : List (Gh τ)) : Prop :=
  w.ownsRow base T K.k v ps.length (K.row ps) ∧ ∀ p ∈ ps, K.dp (Apart base v) w p.1 p.2.1 p.2.2
def Owned {τ : Type} (K : Kd τ) (T base : Nat) (w : World) (v : Value) (l : List τ) : Prop := ∃ ps, ps.map (·.1) = l ∧ OwnG K T base w v ps
theorem Owned.nil {τ : Type} (K : Kd τ) (T base : Nat) (w : World) : Owned K T base w (.slice none 0 0) [] := ⟨[], rfl, World.ownsRow_nil _ _ _ _, fun _ h => by cases h⟩
theorem OwnG.below {τ : Type} {K : Kd τ} (ok : K.Ok) {T base : Nat} {w w' : World} {v : Value} {ps : List (Gh τ)} (h : OwnG K T base w v ps) (hb : Below w.heap.size w w') : OwnG K T base w' v ps :=
  ⟨ownsRow_below hb h.1, fun p hp => ok.kept _ w w' _ _ _ (h.2 p hp) fun b _ hlt => hb.block b hlt⟩
theorem Owned.below {τ : Type} {K : Kd τ} (ok : K.Ok) {T base : Nat} {w w' : World} {v : Value} {l : List τ} (h : Owned K T base w v l) (hb : Below w.heap.size w w') : Owned K T base w' v l := by
  obtain ⟨ps, e, h⟩ := h
  exact ⟨ps, e, h.below ok hb⟩
/-- Behind an append of one thing. -/
theorem OwnG.snoc {τ : Type} {K : Kd τ} (ok : K.Ok) {T base : Nat} {w w' : World} {v v' : Value} {ps : List (Gh τ)} {p : Gh τ} (h : OwnG K T base w v ps) (hp : K.dp (Apart base v) w p.1 p.2.1 p.2.2)
    (ho : w'.ownsRow base T K.k v' (ps.length + 1) (K.row ps ++ K.cs p.1 p.2.1 p.2.2)) (hg : w.grownBy w' v.ownBlock) (hat : v'.ownBlock = v.ownBlock ∨ v'.ownBlock = some w.heap.size) : OwnG K T base w' v' (ps ++ [p]) := by
  refine ⟨by rw [Kd.row_snoc, List.length_append]; exact ho, fun q hq => ?_⟩
  have hq' : K.dp (Apart base v) w q.1 q.2.1 q.2.2 := by
    rcases List.mem_append.1 hq with hq | hq
    · exact h.2 q hq
    · simp at hq; subst hq; exact hp
  have h1 : K.dp (fun b => Apart base v b ∧ b < w.heap.size) w q.1 q.2.1 q.2.2 := ok.mono _ _ _ _ _ _ hq' fun b hb hlt => ⟨hb, hlt⟩
  have h2 := ok.kept _ w w' _ _ _ h1 fun b hb hlt => hg.block b hlt (fun e => hb.1.2 e.symm)
  refine ok.mono _ _ _ _ _ _ h2 fun b hb _ => ⟨hb.1.1, ?_⟩
  rcases hat with e | e
  · rw [e]; exact hb.1.2
  · rw [e]; intro e'; injection e' with e'; have := hb.2; omega
/-- What a call has just made lies apart from what was there. -/
theorem dp_apart {τ : Type} {K : Kd τ} (ok : K.Ok) {T base n : Nat} {w w' : World} {v : Value} {xs : List Value} {y : τ} {a : Option Addr} {c : Nat} (ho : w.ownsRow base T K.k v n xs) (hb : base ≤ w.heap.size) (h : K.dp (fun b => w.heap.size ≤ b) w' y a c) : K.dp (Apart base v) w' y a c :=
  ok.mono _ _ _ _ _ _ h fun b hb' _ => ⟨Nat.le_trans hb hb', fun e => by have := (ho.lt b e).2; omega⟩

/-- Behind a call that made a thing, a block of its cells and an append of it. -/
theorem OwnG.step {τ : Type} {K : Kd τ} (ok : K.Ok) {T base : Nat} {w w1 w' : World} {o : Obj} {v v' : Value} {ps : List (Gh τ)} {y : τ} {a : Option Addr} {c : Nat} (h : OwnG K T base w v ps) (hb : Below w.heap.size w w1) (hbase : base ≤ w.heap.size)
    (hd : K.dp (fun b => w.heap.size ≤ b) w1 y a c) (ho : w'.ownsRow base T K.k v' (ps.length + 1) (K.row ps ++ K.cs y a c)) (hg : (w1.alloc o).grownBy w' v.ownBlock) (hat : v'.ownBlock = v.ownBlock ∨ v'.ownBlock = some (w1.alloc o).heap.size) : OwnG K T base w' v' (ps ++ [(y, a, c)]) :=
  OwnG.snoc ok ((h.below ok hb).below ok (below1 _ _)) (ok.kept _ w1 _ _ _ _ (dp_apart ok h.1 hbase hd) fun b _ hlt => (below1 w1 o).block b hlt) ho hg hat
theorem OwnG.stepE {n T base : Nat} {w w1 w' : World} {o : Obj} {v v' : Value} {ps : List (Gh (Ar n))} {y : Ar n} {a : Option Addr} {c : Nat} (h : OwnG (KE n) T base w v ps) (hb : Below w.heap.size w w1) (hbase : base ≤ w.heap.size)
    (hd : RdK (KE (n - 1)) (fun b => w.heap.size ≤ b) w1 a c y.e.l) (ho : w'.ownsRow base T 7 v' (ps.length + 1) ((KE n).row ps ++ y.e.cs a c)) (hg : (w1.alloc o).grownBy w' v.ownBlock) (hat : v'.ownBlock = v.ownBlock ∨ v'.ownBlock = some (w1.alloc o).heap.size) : OwnG (KE n) T base w' v' (ps ++ [(y, a, c)]) :=
  OwnG.step (KE_ok n) h hb hbase (by rw [KE_dp]; exact hd) (by rw [KE_k, KE_cs]; exact ho) hg hat
theorem ownE {n T base : Nat} {w w1 : World} {o : Obj} {v : Value} {ps : List (Gh (Ar n))} (h : OwnG (KE n) T base w v ps) (hb : Below w.heap.size w w1) : (w1.alloc o).ownsRow base T 7 v ps.length ((KE n).row ps) := by
  have := ((h.below (KE_ok n) hb).below (KE_ok n) (below1 _ o)).1
  rw [KE_k] at this
  exact this
theorem ExN.cs_one {α : Type} (x : ExN α) (a : Option Addr) (c : Nat) : ∀ u ∈ x.cs a c, u.oneCell' = true := by
  intro u hu
  simp [ExN.cs] at hu
  rcases hu with rfl | rfl | rfl | rfl | rfl | rfl | rfl <;> rfl
/-- The frame behind an append. -/
theorem below_grow {base : Nat} {w0 w w1 w' : World} {o : Obj} {T size n : Nat} {v : Value} {xs : List Value} (h0 : Below base w0 w) (hb : Below w.heap.size w w1) (hbase : base ≤ w.heap.size) (ho : (w1.alloc o).ownsRow base T size v n xs) (hg : (w1.alloc o).grownBy w' v.ownBlock) : Below base w0 w' := by
  have h1 : Below base w0 (w1.alloc o) := (below_call hb h0 hbase).alloc (Nat.le_trans hbase hb.size) o
  exact h1.grown hg (by simp; have := hb.size; omega) fun k hk => (ho.lt k hk).1
theorem map_snoc {τ : Type} {ps : List (Gh τ)} {l : List τ} {j : Nat} {x : τ} {a : Option Addr} {c : Nat} (h : ps.map (·.1) = l.take j) (hx : l[j]? = some x) : (ps ++ [(x, a, c)]).map (·.1) = l.take (j + 1) := by
  rw [List.map_append, h, List.take_add_one, hx]; rfl
theorem map_len {τ : Type} {ps : List (Gh τ)} {l : List τ} {j : Nat} (h : ps.map (·.1) = l.take j) (hj : j ≤ l.length) : ps.length = j := by
  have := congrArg List.length h
  simp at this; omega

theorem OwnG.read {τ : Type} {K : Kd τ} (ok : K.Ok) {T base : Nat} {w : World} {v : Value} {ps : List (Gh τ)} (h : OwnG K T base w v ps) (hb : ps.length * K.b ≤ 140737488355328) : ∃ A c, v = .slice A ps.length c ∧ RdK K (fun b => base ≤ b) w A c (ps.map (·.1)) := by
  have hd := h.2
  rcases h.1.2 with ⟨rfl, h0⟩ | ⟨g, cap, cur, rfl, hbg, hg, hc, hm, hs, ht⟩
  · have : ps = [] := List.eq_nil_of_length_eq_zero h0
    subst this
    exact ⟨none, 0, rfl, RdK_nil _ _ _⟩
  · refine ⟨_, cap, rfl, ⟨(fun e => by cases e), by rw [List.length_map]; exact hc, hm⟩, by rw [List.length_map]; exact hb, fun ad e j y hy => ?_⟩
    injection e with e
    subst e
    rw [List.getElem?_map] at hy
    obtain ⟨p, hp, rfl⟩ := Option.map_eq_some_iff.1 hy
    refine ⟨hbg, p.2.1, p.2.2, fun i u hu => ?_, ok.mono _ _ _ _ _ _ (hd p (List.mem_of_getElem? hp)) fun b hb _ => hb.1⟩
    have hi : i < K.k := by rw [← ok.len p.1 p.2.1 p.2.2]; exact (List.getElem?_eq_some_iff.1 hu).1
    have hf : (K.row ps)[j * K.k + i]? = (K.cs p.1 p.2.1 p.2.2)[i]? := flat_get (f := fun p : Gh τ => K.cs p.1 p.2.1 p.2.2) (fun p => ok.len p.1 p.2.1 p.2.2) ps j i p hp hi
    exact h.1.cells (g := g) rfl _ u (hf.trans hu)
theorem Owned.read {τ : Type} {K : Kd τ} (ok : K.Ok) {T base : Nat} {w : World} {v : Value} {l : List τ} (h : Owned K T base w v l) (hb : l.length * K.b ≤ 140737488355328) : ∃ A c, v = .slice A l.length c ∧ RdK K (fun b => base ≤ b) w A c l := by
  obtain ⟨ps, rfl, h⟩ := h
  rw [List.length_map] at hb ⊢
  exact h.read ok hb

/-- The blocks that P lets by are as they were. -/
def Out (P : Nat → Prop) (w W : World) : Prop := ∀ b, P b → W.heap[b]? = w.heap[b]?
theorem Out.refl (P : Nat → Prop) (w : World) : Out P w w := fun _ _ => rfl
theorem Out.set {P : Nat → Prop} {w W : World} (h : Out P w W) {a : Addr} (ha : ¬ P a.block) (v : Value) : Out P w (W.setCell a v) := fun b hb => by
  rw [Below.heap_setCell W a v b (fun e => ha (e ▸ hb))]
  exact h b hb
theorem RdK.out {τ : Type} {K : Kd τ} (ok : K.Ok) {P : Nat → Prop} {w w' : World} {A : Option Addr} {c : Nat} {l : List τ} (h : RdK K P w A c l) (ho : Out P w w') : RdK K P w' A c l := h.kept ok fun b hb _ => ho b hb

/-- Cells of a new block. -/
theorem new_cells (w : World) (t : TypeId) (cs : List Value) : ∀ i u, cs[i]? = some u → (w.alloc (.cells cs.toArray t)).cell? ((⟨w.heap.size, 0, none⟩ : Addr).add i) = some u := by
  intro i u hu
  have e : (⟨w.heap.size, 0, none⟩ : Addr).add i = ⟨w.heap.size, i, none⟩ := by unfold Addr.add; split <;> simp_all
  rw [e, World.cell?_alloc_mark w _ t (0, 0) i]
  simpa using hu
end Go.Proofs.YtipcacplphidhaaGreat.Sy
