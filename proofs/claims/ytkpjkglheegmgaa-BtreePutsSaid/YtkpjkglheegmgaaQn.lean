/- The document's walk at a node that may be met: bounds, keys that rise within them, and the walk of node as far as its kids. Conditions: a walk in memory, a state that is read. -/
import Derived.Test.YtkpjkglheegmgaaQj
import Derived.Deep.DeepCutAuto
/- The document's walk over a tree, as it lies in memory. Conditions: none. -/
namespace Go.Proofs.Ytkpjkglheegmgaa
open Go.RowKit
set_option linter.unusedSimpArgs false
set_option linter.unusedVariables false

/-- The walk at gw: the state, which nodes were met (at gm), the pairs so far, how deep leaves are, whether it may not be. -/
structure Wk (w : World) (B gw gm : Nat) (A : Option Addr) (n c : Nat) (root : Int) (M : List Nat) (vo : Value) (out : List Pr) (L : Nat) (bad : Bool) : Prop where
  lw : B ≤ gw
  lm : B ≤ gm
  blk : w.heap[gw]? = some (.cells #[.slice A n c, .int .i64 root, .slice (some ⟨gm, 0, none⟩) n n, vo, .int .i64 L, .bool bad] 95 (0, 0))
  met : ∃ cs : Array Value, w.heap[gm]? = some (.cells cs 4 (0, 0)) ∧ cs.size = n ∧ ∀ i, i < n → cs[i]? = some (.bool (decide (i ∈ M)))
  own : w.ownsRow B 47 2 vo out.length (pcells out)
/-- Blocks but gw, gm and the pairs' own are as they were. -/
structure Fw (gw gm : Nat) (v : Value) (w w' : World) : Prop where
  os : w'.os = w.os
  tape : w'.tape = w.tape
  output : w'.output = w.output
  size : w.heap.size ≤ w'.heap.size
  block : ∀ b, b < w.heap.size → b ≠ gw → b ≠ gm → v.ownBlock ≠ some b → w'.heap[b]? = w.heap[b]?
theorem Fw.of_below {gw gm : Nat} {v : Value} {w w' : World} (h : Below w.heap.size w w') : Fw gw gm v w w' := ⟨h.os, h.tape, h.output, h.size, fun b hb _ _ _ => h.block b hb⟩
theorem Fw.trans {gw gm : Nat} {v v' : Value} {a b c : World} (h : Fw gw gm v a b) (h' : Fw gw gm v' b c) (hv : ∀ x, v'.ownBlock = some x → v.ownBlock = some x ∨ a.heap.size ≤ x) : Fw gw gm v a c :=
  ⟨h'.os.trans h.os, h'.tape.trans h.tape, h'.output.trans h.output, Nat.le_trans h.size h'.size, fun x hx h0 h1 h2 => (h'.block x (Nat.lt_of_lt_of_le hx h.size) h0 h1 fun e => by
    rcases hv x e with h3 | h3
    · exact h2 h3
    · omega).trans (h.block x hx h0 h1 h2)⟩
theorem Fw.below {gw gm B : Nat} {v : Value} {w w' : World} (h : Fw gw gm v w w') (hB : B ≤ w.heap.size) (h0 : B ≤ gw) (h1 : B ≤ gm) (h2 : ∀ b, v.ownBlock = some b → B ≤ b) : Below B w w' :=
  ⟨h.os, h.tape, h.output, h.size, fun k hk => h.block k (by omega) (by omega) (by omega) fun e => by have := h2 k e; omega⟩
section
variable {w w' : World} {B gw gm : Nat} {A : Option Addr} {n c : Nat} {root : Int} {M : List Nat} {vo : Value} {out : List Pr} {L : Nat} {bad : Bool}
theorem Wk.below (k : Wk w B gw gm A n c root M vo out L bad) (hb : Below w.heap.size w w') : Wk w' B gw gm A n c root M vo out L bad := by
  obtain ⟨cs, h1, h2, h3⟩ := k.met
  exact ⟨k.lw, k.lm, (hb.block gw (heap_lt k.blk)).trans k.blk, ⟨cs, (hb.block gm (heap_lt h1)).trans h1, h2, h3⟩, own_below k.own hb⟩
theorem Wk.fr (k : Wk w B gw gm A n c root M vo out L bad) {w1 : World} (h : Fw gw gm vo w w1) (hB : B ≤ w.heap.size) : Below B w w1 := h.below hB k.lw k.lm fun b hb => (own_in k.own hb).1
theorem Wk.ne (k : Wk w B gw gm A n c root M vo out L bad) : gw ≠ gm := by
  obtain ⟨cs, h1, _⟩ := k.met
  exact heap_ne k.blk h1 (cells_ne (by decide))
/-- The cells of the walk. -/
theorem Wk.cells (k : Wk w B gw gm A n c root M vo out L bad) : w.cell? ⟨gw, 0, none⟩ = some (.slice A n c) ∧ w.cell? ⟨gw, 1, none⟩ = some (.int .i64 root) ∧ w.cell? ⟨gw, 2, none⟩ = some (.slice (some ⟨gm, 0, none⟩) n n) ∧ w.cell? ⟨gw, 3, none⟩ = some vo ∧ w.cell? ⟨gw, 4, none⟩ = some (.int .i64 L) ∧ w.cell? ⟨gw, 5, none⟩ = some (.bool bad) ∧ ∀ o, w.frozen? ⟨gw, o, none⟩ = false := by
  have h := k.blk
  refine ⟨?_, ?_, ?_, ?_, ?_, ?_, fun o => ?_⟩ <;> simp [World.cell?, World.frozen?, h]
theorem Wk.setBad (k : Wk w B gw gm A n c root M vo out L bad) (b : Bool) : Wk (w.setCell ⟨gw, 5, none⟩ (.bool b)) B gw gm A n c root M vo out L b := by
  obtain ⟨cs, h1, h2, h3⟩ := k.met
  refine ⟨k.lw, k.lm, by rw [heap_setCell_same w gw 5 _ _ _ k.blk]; simp, ⟨cs, (heap_setCell_other w ⟨gw, 5, none⟩ gm _ k.ne.symm).trans h1, h2, h3⟩, ?_⟩
  exact own_keep k.own fun x hx => heap_setCell_other w ⟨gw, 5, none⟩ x _ fun e => by have e : x = gw := e; subst e; exact own_ne k.own k.blk (by decide) hx
theorem Wk.setLeaf (k : Wk w B gw gm A n c root M vo out L bad) (l : Nat) : Wk (w.setCell ⟨gw, 4, none⟩ (.int .i64 l)) B gw gm A n c root M vo out l bad := by
  obtain ⟨cs, h1, h2, h3⟩ := k.met
  refine ⟨k.lw, k.lm, by rw [heap_setCell_same w gw 4 _ _ _ k.blk]; simp, ⟨cs, (heap_setCell_other w ⟨gw, 4, none⟩ gm _ k.ne.symm).trans h1, h2, h3⟩, ?_⟩
  exact own_keep k.own fun x hx => heap_setCell_other w ⟨gw, 4, none⟩ x _ fun e => by have e : x = gw := e; subst e; exact own_ne k.own k.blk (by decide) hx
theorem Fw.set {o : Nat} {v : Value} (x : Value) : Fw gw gm v w (w.setCell ⟨gw, o, none⟩ x) :=
  ⟨rfl, rfl, rfl, by simp [World.setCell], fun b _ h0 _ _ => heap_setCell_other w ⟨gw, o, none⟩ b x h0⟩
theorem Wk.setMet (k : Wk w B gw gm A n c root M vo out L bad) {i : Nat} (hi : i < n) : Wk (w.setCell ⟨gm, i, none⟩ (.bool true)) B gw gm A n c root (i :: M) vo out L bad := by
  obtain ⟨cs, h1, h2, h3⟩ := k.met
  refine ⟨k.lw, k.lm, (heap_setCell_other w ⟨gm, i, none⟩ gw _ k.ne).trans k.blk, ⟨cs.setIfInBounds i (.bool true), heap_setCell_same w gm i _ _ _ h1, by simp [h2], fun j hj => ?_⟩, ?_⟩
  · rw [Array.getElem?_setIfInBounds]
    by_cases e : i = j
    · subst e
      rw [if_pos rfl, if_pos (by omega)]
      simp
    · rw [if_neg e, h3 j hj]
      have : (j ∈ i :: M) ↔ j ∈ M := by simp; omega
      simp [this]
  · exact own_keep k.own fun x hx => heap_setCell_other w ⟨gm, i, none⟩ x _ fun e => by have e : x = gm := e; subst e; exact own_ne k.own h1 (by decide) hx
theorem Fw.setM {o : Nat} {v : Value} (x : Value) : Fw gw gm v w (w.setCell ⟨gm, o, none⟩ x) :=
  ⟨rfl, rfl, rfl, by simp [World.setCell], fun b _ _ h1 _ => heap_setCell_other w ⟨gm, o, none⟩ b x h1⟩
theorem Wk.metAt (k : Wk w B gw gm A n c root M vo out L bad) {i : Nat} (hi : i < n) : w.cell? ⟨gm, i, none⟩ = some (.bool (decide (i ∈ M))) ∧ w.frozen? ⟨gm, i, none⟩ = false := by
  obtain ⟨cs, h1, h2, h3⟩ := k.met
  refine ⟨?_, by simp [World.frozen?, h1]⟩
  simp only [World.cell?, h1]
  exact h3 i hi
/-- A pair more. -/
theorem Wk.push (k : Wk w B gw gm A n c root M vo out L bad) {w3 : World} {tmp : Obj} {v' : Value} (p : Pr) (ho : w3.ownsRow B 47 2 v' (out.length + 1) (pcells out ++ pcell p)) (hg : (w.alloc tmp).grownBy w3 vo.ownBlock) (hBw : B ≤ w.heap.size) :
    Wk (w3.setCell ⟨gw, 3, none⟩ v') B gw gm A n c root M v' (out ++ [p]) L bad ∧ Fw gw gm vo w (w3.setCell ⟨gw, 3, none⟩ v') := by
  have k1 := k.below (below1 w tmp)
  obtain ⟨cs, h1, h2, h3⟩ := k1.met
  have b1 := (hg.block gw (heap_lt k1.blk) (fun e => own_ne k1.own k1.blk (by decide) e.symm)).trans k1.blk
  have m1 := (hg.block gm (heap_lt h1) (fun e => own_ne k1.own h1 (by decide) e.symm)).trans h1
  refine ⟨⟨k.lw, k.lm, by rw [heap_setCell_same w3 gw 3 _ _ _ b1]; simp, ⟨cs, (heap_setCell_other w3 ⟨gw, 3, none⟩ gm _ k.ne.symm).trans m1, h2, h3⟩, ?_⟩, ?_⟩
  · rw [List.length_append, pcells_app]
    refine own_keep (show w3.ownsRow B 47 2 v' (out.length + [p].length) (pcells out ++ pcells [p]) from by simpa [pcells] using ho) fun x hx => heap_setCell_other w3 ⟨gw, 3, none⟩ x _ fun e => by have e : x = gw := e; subst e; exact own_ne ho b1 (by decide) hx
  · have hz : w.heap.size ≤ w3.heap.size := by have := hg.size; simp at this; omega
    refine ⟨hg.os, hg.tape, hg.output, by simpa [World.setCell] using hz, fun b hb h0 h1 h2 => ?_⟩
    exact (heap_setCell_other w3 ⟨gw, 3, none⟩ b v' h0).trans ((hg.block b (by simp; omega) fun e => h2 e.symm).trans (Below.heap_alloc w tmp b hb))
end
end Go.Proofs.Ytkpjkglheegmgaa
/- The document's walk at a leaf: the walk of leaf. Conditions: a walk in memory, a node that is read. -/
namespace Go.Proofs.Ytkpjkglheegmgaa
open Go.RowKit
set_option linter.unusedSimpArgs false
set_option linter.unusedVariables false

/-- What is so behind a leaf. -/
def LeafOk (x : Nd) (deep : Nat) (out : List Pr) (L : Nat) (bad : Bool) : Prop := bad = false ∧ x.vs.length = x.ks.length ∧ (L = 0 ∨ L = deep) ∧ out.length + x.ks.length ≤ 2048
def LeafPost (w w' : World) (B gw gm : Nat) (A : Option Addr) (n c : Nat) (root : Int) (M : List Nat) (vo : Value) (out : List Pr) (L : Nat) (bad : Bool) (x : Nd) (deep : Nat) : Prop :=
  ∃ vo' out' bad', Wk w' B gw gm A n c root M vo' out' deep bad' ∧ Fw gw gm vo w w' ∧ (∀ b, vo'.ownBlock = some b → vo.ownBlock = some b ∨ w.heap.size ≤ b) ∧ (bad' = false ↔ LeafOk x deep out L bad) ∧ (bad' = false → out' = out ++ x.ks.zip x.vs)
theorem Wk.boxed {w wA W : World} {B gw gm : Nat} {A : Option Addr} {n c : Nat} {root : Int} {M : List Nat} {vo : Value} {out : List Pr} {L : Nat} {bad : Bool} (k : Wk w B gw gm A n c root M vo out L bad) {bx : Nat} {cs : Array Value} {T : TypeId} (hx : wA.heap[bx]? = some (.cells cs T (0, 0))) (hb : w.heap.size ≤ bx) (hf : Fw gw gm vo wA W) : W.heap[bx]? = some (.cells cs T (0, 0)) := by
  obtain ⟨_, h1, _⟩ := k.met
  have g1 := heap_lt k.blk
  have g2 := heap_lt h1
  exact (hf.block bx (heap_lt hx) (by omega) (by omega) fun e => by have := (own_in k.own e).2.1; omega).trans hx
set_option maxRecDepth 100000 in
set_option maxHeartbeats 4000000 in
theorem rleaf_bad (w0 w : World) (gw gm : Nat) (A : Option Addr) (n c : Nat) (root : Int) (M : List Nat) (vo : Value) (out : List Pr) (L : Nat) (bad : Bool) (k : Wk w w0.heap.size gw gm A n c root M vo out L bad) (hB : Below w0.heap.size w0 w) (x : Nd) (h : Hd) (rk : Rd w0 h.kA x.ks.length h.kc (strs x.ks)) (rv : Rd w0 h.vA x.vs.length h.vc (strs x.vs)) (deep : Nat) (hd : deep ≤ 1000000000000000) (hl : L ≤ 1000000000000000) (hno : ¬ (bad = false ∧ x.vs.length = x.ks.length ∧ (L = 0 ∨ L = deep))) :
    Calls Try.prog 59 #[ptr gw, .agg #[.slice h.kA x.ks.length h.kc, .slice h.vA x.vs.length h.vc, .slice h.cA x.kids.length h.cc], .int .i64 deep] w fun e w' => e = .returned (.tuple #[]) ∧ LeafPost w w' w0.heap.size gw gm A n c root M vo out L bad x deep := by
  have HNO := Lib.hid (show ¬ LeafOk x deep out L bad from fun e => hno ⟨e.1, e.2.1, e.2.2.1⟩)
  have hway : bad = true ∨ (bad = false ∧ x.vs.length ≠ x.ks.length) ∨ (bad = false ∧ x.vs.length = x.ks.length ∧ L ≠ 0 ∧ L ≠ deep) := by
    cases bad with
    | true => exact .inl rfl
    | false =>
      by_cases h1 : x.vs.length = x.ks.length
      · by_cases h2 : L = 0
        · exact absurd ⟨rfl, h1, .inl h2⟩ hno
        · by_cases h3 : L = deep
          · exact absurd ⟨rfl, h1, .inr h3⟩ hno
          · exact .inr (.inr ⟨rfl, h1, h2, h3⟩)
      · exact .inr (.inl ⟨rfl, h1⟩)
  clear hno
  have hw1 := heap_alloc_new w (.cells #[.slice h.kA x.ks.length h.kc, .slice h.vA x.vs.length h.vc, .slice h.cA x.kids.length h.cc] 65)
  have hbA := below1 w (.cells #[.slice h.kA x.ks.length h.kc, .slice h.vA x.vs.length h.vc, .slice h.cA x.kids.length h.cc] 65)
  have kA := k.below hbA
  have HT := Lib.hid fun (W : World) hf => Wk.boxed (W := W) k hw1 (Nat.le_refl _) hf
  have HFA := Lib.hid (Fw.of_below (gw := gw) (gm := gm) (v := vo) hbA)
  have HBA := Lib.hid hbA
  have HB0 := Lib.hid (Nat.le_trans hB.size hbA.size)
  have HB1 := Lib.hid (hB.trans (hbA.mono hB.size))
  have HSZ := Lib.hid hbA.size
  have RK := Lib.hid rk
  have RV := Lib.hid rv
  have HKL := Lib.hid rk.mx
  obtain ⟨t0, t1, t2, _⟩ := three_of hw1
  clear k hB rk rv hbA hw1
  go_enter Try.func59, Try.ntmps59
  go_upto_region 1 with fail
  generalize w.alloc (.cells #[.slice h.kA x.ks.length h.kc, .slice h.vA x.vs.length h.vc, .slice h.cA x.kids.length h.cc] 65) = wA at *
  generalize hbx : w.heap.size = bx at *
  have HBX := Lib.hid hbx
  clear hbx
  obtain ⟨_, _, _, _, c4, c5, cf⟩ := kA.cells
  have cf5 := cf 5
  have k5 := kA.setBad true
  have c4f := k5.cells.2.2.2.2.2.2 4
  have HK1 := Lib.hid (k5.setLeaf deep)
  have HF1 := Lib.hid ((Fw.set (gw := gw) (gm := gm) (v := vo) (w := wA) (o := 5) (.bool true)).trans (Fw.set (v := vo) (o := 4) (.int .i64 deep)) (fun b hb => .inl hb))
  have HKA := Lib.hid kA
  clear kA k5 cf
  rcases hway with rfl | ⟨rfl, hv⟩ | ⟨rfl, hv, h2, h3⟩
  · go_wp2
    have y := HK1.out.cells
    have z5 := y.2.2.2.2.2.1
    have hfw := HF1.out
    have t0 := (three_of (HT.out _ hfw)).1
    have HFE := Lib.hid (HFA.out.trans hfw (fun b hb => .inl hb))
    clear y hfw c4 c5 cf5 c4f t1 t2 HF1 HT HFA
    generalize (wA.setCell ⟨gw, 5, none⟩ (.bool true)).setCell ⟨gw, 4, none⟩ (.int .i64 deep) = W1 at *
    go_loopw [6] (fun i wr => wr = W1 ∧ i = .int .i64 0) (fun _ _ => 0)
    case atStart => exact ⟨by trivial, rfl⟩
    case round =>
      obtain ⟨rfl, rfl⟩ := hrel
      by_cases hx0 : (0 : Int) < (x.ks.length : Int)
      all_goals
        go_wp2
        go_end0
        exact ⟨rfl, vo, out, true, HK1.out, HFE.out, fun b hb => .inl hb, ⟨fun e => (by cases e), fun e => absurd e HNO.out⟩, fun e => (by cases e)⟩
  · have hvi : ((x.vs.length : Int) != (x.ks.length : Int)) = true := by simp; omega
    clear hv
    go_wp2
    have y := HK1.out.cells
    have z5 := y.2.2.2.2.2.1
    have hfw := HF1.out
    have t0 := (three_of (HT.out _ hfw)).1
    have HFE := Lib.hid (HFA.out.trans hfw (fun b hb => .inl hb))
    clear y hfw c4 c5 cf5 c4f t1 t2 HF1 HT HFA
    generalize (wA.setCell ⟨gw, 5, none⟩ (.bool true)).setCell ⟨gw, 4, none⟩ (.int .i64 deep) = W1 at *
    go_loopw [6] (fun i wr => wr = W1 ∧ i = .int .i64 0) (fun _ _ => 0)
    case atStart => exact ⟨by trivial, rfl⟩
    case round =>
      obtain ⟨rfl, rfl⟩ := hrel
      by_cases hx0 : (0 : Int) < (x.ks.length : Int)
      all_goals
        go_wp2
        go_end0
        exact ⟨rfl, vo, out, true, HK1.out, HFE.out, fun b hb => .inl hb, ⟨fun e => (by cases e), fun e => absurd e HNO.out⟩, fun e => (by cases e)⟩
  · have hvi : ((x.vs.length : Int) != (x.ks.length : Int)) = false := by simp; omega
    have h2i : (0 : Int) < (L : Int) := by omega
    have h3i : ((L : Int) != (deep : Int)) = true := by simp; omega
    clear hv h2 h3
    go_wp2
    have y := HK1.out.cells
    have z5 := y.2.2.2.2.2.1
    have hfw := HF1.out
    have t0 := (three_of (HT.out _ hfw)).1
    have HFE := Lib.hid (HFA.out.trans hfw (fun b hb => .inl hb))
    clear y hfw c4 c5 cf5 c4f t1 t2 HF1 HT HFA
    generalize (wA.setCell ⟨gw, 5, none⟩ (.bool true)).setCell ⟨gw, 4, none⟩ (.int .i64 deep) = W1 at *
    go_loopw [6] (fun i wr => wr = W1 ∧ i = .int .i64 0) (fun _ _ => 0)
    case atStart => exact ⟨by trivial, rfl⟩
    case round =>
      obtain ⟨rfl, rfl⟩ := hrel
      by_cases hx0 : (0 : Int) < (x.ks.length : Int)
      all_goals
        go_wp2
        go_end0
        exact ⟨rfl, vo, out, true, HK1.out, HFE.out, fun b hb => .inl hb, ⟨fun e => (by cases e), fun e => absurd e HNO.out⟩, fun e => (by cases e)⟩
set_option maxRecDepth 100000 in
set_option maxHeartbeats 4000000 in
theorem rleaf_good (w0 w : World) (gw gm : Nat) (A : Option Addr) (n c : Nat) (root : Int) (M : List Nat) (vo : Value) (out : List Pr) (L : Nat) (bad : Bool) (k : Wk w w0.heap.size gw gm A n c root M vo out L bad) (hB : Below w0.heap.size w0 w) (x : Nd) (h : Hd) (rk : Rd w0 h.kA x.ks.length h.kc (strs x.ks)) (rv : Rd w0 h.vA x.vs.length h.vc (strs x.vs)) (deep : Nat) (hd : deep ≤ 1000000000000000) (hl : L ≤ 1000000000000000) (hbad : bad = false) (hvk : x.vs.length = x.ks.length) (hL : L = 0 ∨ L = deep) (hout : out.length ≤ 2048) :
    Calls Try.prog 59 #[ptr gw, .agg #[.slice h.kA x.ks.length h.kc, .slice h.vA x.vs.length h.vc, .slice h.cA x.kids.length h.cc], .int .i64 deep] w fun e w' => e = .returned (.tuple #[]) ∧ LeafPost w w' w0.heap.size gw gm A n c root M vo out L bad x deep := by
  obtain ⟨iP, hiP, hiz, hi1, hi2⟩ := info_parts3 Try.infoP
  have HNW := Lib.hid fun (v : Value) (h : ∀ b, v.ownBlock = some b → vo.ownBlock = some b ∨ w.heap.size ≤ b) => h
  have HVK := Lib.hid hvk
  have HL := Lib.hid hL
  have HOUT := Lib.hid hout
  have hvki : ((x.vs.length : Int) != (x.ks.length : Int)) = false := by simp [hvk]
  have hway : L = 0 ∨ (L ≠ 0 ∧ L = deep) := by omega
  subst hbad
  clear hvk hL hout
  have hw1 := heap_alloc_new w (.cells #[.slice h.kA x.ks.length h.kc, .slice h.vA x.vs.length h.vc, .slice h.cA x.kids.length h.cc] 65)
  have hbA := below1 w (.cells #[.slice h.kA x.ks.length h.kc, .slice h.vA x.vs.length h.vc, .slice h.cA x.kids.length h.cc] 65)
  have kA := k.below hbA
  have HT := Lib.hid fun (W : World) hf => Wk.boxed (W := W) k hw1 (Nat.le_refl _) hf
  have HFA := Lib.hid (Fw.of_below (gw := gw) (gm := gm) (v := vo) hbA)
  have HBA := Lib.hid hbA
  have HB0 := Lib.hid (Nat.le_trans hB.size hbA.size)
  have HB1 := Lib.hid (hB.trans (hbA.mono hB.size))
  have HSZ := Lib.hid hbA.size
  have RK := Lib.hid rk
  have RV := Lib.hid rv
  have HKL := Lib.hid rk.mx
  obtain ⟨t0, t1, t2, _⟩ := three_of hw1
  clear k hB rk rv hbA hw1
  go_enter Try.func59, Try.ntmps59
  go_upto_region 1 with fail
  generalize w.alloc (.cells #[.slice h.kA x.ks.length h.kc, .slice h.vA x.vs.length h.vc, .slice h.cA x.kids.length h.cc] 65) = wA at *
  generalize hbx : w.heap.size = bx at *
  have HBX := Lib.hid hbx
  clear hbx
  obtain ⟨_, _, _, _, c4, c5, cf⟩ := kA.cells
  have cf5 := cf 5
  have k5 := kA.setBad false
  have c4f := k5.cells.2.2.2.2.2.2 4
  have HK1 := Lib.hid (k5.setLeaf deep)
  have HF1 := Lib.hid ((Fw.set (gw := gw) (gm := gm) (v := vo) (w := wA) (o := 5) (.bool false)).trans (Fw.set (v := vo) (o := 4) (.int .i64 deep)) (fun b hb => .inl hb))
  have HKA := Lib.hid kA
  clear kA k5 cf
  rcases hway with h0 | ⟨h0, h3⟩
  · have h2i : ¬ (0 : Int) < (L : Int) := by omega
    clear h0
    go_wp2
    have hfw := HF1.out
    have HK2 := Lib.hid (And.intro HK1.out hfw)
    clear c4 c5 cf5 c4f t0 t1 t2 hfw
    generalize (wA.setCell ⟨gw, 5, none⟩ (.bool false)).setCell ⟨gw, 4, none⟩ (.int .i64 deep) = W1 at *
    clear HK1 HF1
    go_loopw [6] (fun i wr => ∃ (j : Nat) (vj : Value) (outj : List Pr) (bj : Bool), i = .int .i64 j ∧ j ≤ x.ks.length ∧ Wk wr w0.heap.size gw gm A n c root M vj outj deep bj ∧ Fw gw gm vo wA wr ∧ (∀ b, vj.ownBlock = some b → vo.ownBlock = some b ∨ wA.heap.size ≤ b) ∧ outj = out ++ (x.ks.zip x.vs).take j ∧ bj = decide (2048 < outj.length)) (fun i _ => x.ks.length - (intOf i).toNat)
    case atStart => exact ⟨0, vo, out, false, rfl, by omega, HK2.out.1, HK2.out.2, fun b hb => .inl hb, by simp, by symm; exact decide_eq_false (by have := HOUT.out; omega)⟩
    case round =>
      obtain ⟨j, vj, outj, bj, rfl, hj, k, hfw, hnb, hoj, hbj⟩ := hrel
      clear HK2
      obtain ⟨Ao, co, rfl⟩ := own_form k.own
      have z3 := k.cells.2.2.2.1
      have z5 := k.cells.2.2.2.2.2.1
      have zf5 := k.cells.2.2.2.2.2.2 5
      have zf3 := k.cells.2.2.2.2.2.2 3
      have hbw := hfw.below HB0.out HKA.out.lw HKA.out.lm (fun b hb => (own_in HKA.out.own hb).1)
      obtain ⟨t0, t1, _⟩ := three_of (HT.out wr hfw)
      have HFW := Lib.hid hfw
      have HNB := Lib.hid hnb
      have HOJ := Lib.hid hoj
      have HBJ := Lib.hid hbj
      have HBW := Lib.hid (show w0.heap.size ≤ wr.heap.size from Nat.le_trans HB0.out hfw.size)
      have hrb : Below w0.heap.size w0 wr := HB1.out.trans hbw
      have HK := Lib.hid k
      clear k hfw hnb hoj hbj hbw
      have HLEN := Lib.hid (show outj.length = out.length + j by rw [HOJ.out, List.length_append, List.length_take, List.length_zip]; have := HVK.out; omega)
      have HFE := Lib.hid (HFA.out.trans HFW.out (fun b hb => .inl hb))
      have HNE := Lib.hid (show ∀ b, (Value.slice Ao outj.length co).ownBlock = some b → vo.ownBlock = some b ∨ bx ≤ b from fun b hb => by
        rcases HNB.out b hb with h | h
        · exact .inl h
        · exact .inr (by have := HSZ.out; omega))
      cases bj with
      | true =>
        have hfin : LeafPost w wr w0.heap.size gw gm A n c root M vo out L false x deep := ⟨_, outj, true, HK.out, HFE.out, (fun b hb => by rw [HBX.out]; exact HNE.out b hb), ⟨fun e => (by cases e), fun e => by have := of_decide_eq_true HBJ.out.symm; have := HLEN.out; have := e.2.2.2; omega⟩, fun e => (by cases e)⟩
        have HFIN := Lib.hid hfin
        clear hfin
        by_cases hlt : j < x.ks.length
        · have hlt' : (j : Int) < (x.ks.length : Int) := by omega
          go_wp2
          go_end0
          exact ⟨rfl, HFIN.out⟩
        · have hlt' : ¬ (j : Int) < (x.ks.length : Int) := by omega
          go_wp2
          go_end0
          exact ⟨rfl, HFIN.out⟩
      | false =>
        by_cases hlt : j < x.ks.length
        · have hlt2 : j < x.vs.length := by have := HVK.out; omega
          obtain ⟨ad, ha, q0⟩ := (RK.out.below hrb).at_ (strs_at hlt)
          obtain ⟨bd, hb, q1⟩ := (RV.out.below hrb).at_ (strs_at hlt2)
          rw [ha] at t0
          rw [hb] at t1
          have HTS := Lib.hid (show (x.ks.zip x.vs).take (j + 1) = (x.ks.zip x.vs).take j ++ [(x.ks[j], x.vs[j])] by
            rw [List.take_succ_eq_append_getElem (by rw [List.length_zip]; omega), List.getElem_zip])
          have hlt' : (j : Int) < (x.ks.length : Int) := by omega
          have hlt2' : (j : Int) < (x.vs.length : Int) := by omega
          have HOL := Lib.hid (show outj.length + 1 ≤ 100000 by have := HBJ.out; have := of_decide_eq_false this.symm; omega)
          generalize x.ks[j] = kx at *
          generalize x.vs[j] = vx at *
          clear ha hb hrb
          go_upto_region 6 with fail
          have hb0 : Below wr.heap.size wr wr.drew := (Below.refl _ _).drew
          generalize wr = W at *
          refine region_anyT (fun W' => W'.cell? ⟨gw, 3, none⟩ = some (.slice Ao outj.length co) ∧ W'.cell? ⟨bx, 0, none⟩ = some (.slice (some ad) x.ks.length h.kc) ∧ W'.cell? ⟨bx, 1, none⟩ = some (.slice (some bd) x.vs.length h.vc) ∧ W'.cell? (ad.add j) = some (.string kx.s) ∧ W'.cell? (bd.add j) = some (.string vx.s)) [1, 2, 3, 4, 5, 6, 7, 8, 9, 10, 11, 12, 13, 14, 15, 16] (by kernel_rfl) ⟨z3, t0, t1, q0, q1⟩ ?_
          intro hcl hS
          refine anyT_free (i := 0) (oi := ?oqa0) (v := ?vqa0) ?hiqa0 ?haqa0 ?hbqa0 ?hcqa0 ?hdqa0 ?hqqa0 (Or.inl ⟨?hwqa0, ?hyqa0⟩) hcl ?restqa0
          case hiqa0 => simp only [List.getElem?_toArray, List.getElem?_cons_succ, List.getElem?_cons_zero]; rfl
          case hqqa0 => exact fun _ _ _ h => h
          case haqa0 => kernel_rfl
          case hbqa0 => kernel_rfl
          case hcqa0 => kernel_rfl
          case hdqa0 => kernel_rfl
          case hwqa0 => rfl
          case hyqa0 => intro w' _; go_simp; try with_reducible rfl
          clear hcl
          intro hcl
          try simp only [Act.put, List.setIfInBounds_toArray, List.set_cons_zero, List.set_cons_succ]
          refine anyT_take (i := 1) (oi := ?oqa1) (v := ?vqa1) ?hiqa1 ?haqa1 ?hbqa1 ?hcqa1 ?hdqa1 ?hqqa1 (Or.inl ⟨?hwqa1, ?hyqa1⟩) hS hcl ?restqa1
          case hiqa1 => simp only [List.getElem?_toArray, List.getElem?_cons_succ, List.getElem?_cons_zero]; rfl
          case hqqa1 => exact fun _ _ _ h => h
          case haqa1 => kernel_rfl
          case hbqa1 => kernel_rfl
          case hcqa1 => kernel_rfl
          case hdqa1 => kernel_rfl
          case hwqa1 => rfl
          case hyqa1 => intro w' hSw; obtain ⟨s0, s1, s2, s3, s4⟩ := hSw; go_simp; try with_reducible rfl
          clear hcl
          intro hcl
          try simp only [Act.put, List.setIfInBounds_toArray, List.set_cons_zero, List.set_cons_succ]
          refine anyT_take (i := 2) (oi := ?oqa2) (v := ?vqa2) ?hiqa2 ?haqa2 ?hbqa2 ?hcqa2 ?hdqa2 ?hqqa2 (Or.inl ⟨?hwqa2, ?hyqa2⟩) hS hcl ?restqa2
          case hiqa2 => simp only [List.getElem?_toArray, List.getElem?_cons_succ, List.getElem?_cons_zero]; rfl
          case hqqa2 => exact fun _ _ _ h => h
          case haqa2 => kernel_rfl
          case hbqa2 => kernel_rfl
          case hcqa2 => kernel_rfl
          case hdqa2 => kernel_rfl
          case hwqa2 => rfl
          case hyqa2 => intro w' hSw; obtain ⟨s0, s1, s2, s3, s4⟩ := hSw; go_simp; try with_reducible rfl
          clear hcl
          intro hcl
          try simp only [Act.put, List.setIfInBounds_toArray, List.set_cons_zero, List.set_cons_succ]
          refine anyT_take (i := 3) (oi := ?oqa3) (v := ?vqa3) ?hiqa3 ?haqa3 ?hbqa3 ?hcqa3 ?hdqa3 ?hqqa3 (Or.inl ⟨?hwqa3, ?hyqa3⟩) hS hcl ?restqa3
          case hiqa3 => simp only [List.getElem?_toArray, List.getElem?_cons_succ, List.getElem?_cons_zero]; rfl
          case hqqa3 => exact fun _ _ _ h => h
          case haqa3 => kernel_rfl
          case hbqa3 => kernel_rfl
          case hcqa3 => kernel_rfl
          case hdqa3 => kernel_rfl
          case hwqa3 => rfl
          case hyqa3 => intro w' hSw; obtain ⟨s0, s1, s2, s3, s4⟩ := hSw; go_simp; try with_reducible rfl
          clear hcl
          intro hcl
          try simp only [Act.put, List.setIfInBounds_toArray, List.set_cons_zero, List.set_cons_succ]
          refine anyT_take (i := 4) (oi := ?oqa4) (v := ?vqa4) ?hiqa4 ?haqa4 ?hbqa4 ?hcqa4 ?hdqa4 ?hqqa4 (Or.inl ⟨?hwqa4, ?hyqa4⟩) hS hcl ?restqa4
          case hiqa4 => simp only [List.getElem?_toArray, List.getElem?_cons_succ, List.getElem?_cons_zero]; rfl
          case hqqa4 => exact fun _ _ _ h => h
          case haqa4 => kernel_rfl
          case hbqa4 => kernel_rfl
          case hcqa4 => kernel_rfl
          case hdqa4 => kernel_rfl
          case hwqa4 => rfl
          case hyqa4 => intro w' hSw; obtain ⟨s0, s1, s2, s3, s4⟩ := hSw; go_simp; try with_reducible rfl
          clear hcl
          intro hcl
          try simp only [Act.put, List.setIfInBounds_toArray, List.set_cons_zero, List.set_cons_succ]
          refine anyT_take (i := 5) (oi := ?oqa5) (v := ?vqa5) ?hiqa5 ?haqa5 ?hbqa5 ?hcqa5 ?hdqa5 ?hqqa5 (Or.inl ⟨?hwqa5, ?hyqa5⟩) hS hcl ?restqa5
          case hiqa5 => simp only [List.getElem?_toArray, List.getElem?_cons_succ, List.getElem?_cons_zero]; rfl
          case hqqa5 => exact fun _ _ _ h => h
          case haqa5 => kernel_rfl
          case hbqa5 => kernel_rfl
          case hcqa5 => kernel_rfl
          case hdqa5 => kernel_rfl
          case hwqa5 => rfl
          case hyqa5 => intro w' hSw; obtain ⟨s0, s1, s2, s3, s4⟩ := hSw; go_simp; try with_reducible rfl
          clear hcl
          intro hcl
          try simp only [Act.put, List.setIfInBounds_toArray, List.set_cons_zero, List.set_cons_succ]
          refine anyT_take (i := 6) (oi := ?oqa6) (v := ?vqa6) ?hiqa6 ?haqa6 ?hbqa6 ?hcqa6 ?hdqa6 ?hqqa6 (Or.inl ⟨?hwqa6, ?hyqa6⟩) hS hcl ?restqa6
          case hiqa6 => simp only [List.getElem?_toArray, List.getElem?_cons_succ, List.getElem?_cons_zero]; rfl
          case hqqa6 => exact fun _ _ _ h => h
          case haqa6 => kernel_rfl
          case hbqa6 => kernel_rfl
          case hcqa6 => kernel_rfl
          case hdqa6 => kernel_rfl
          case hwqa6 => rfl
          case hyqa6 => intro w' hSw; obtain ⟨s0, s1, s2, s3, s4⟩ := hSw; go_simp; try with_reducible rfl
          clear hcl
          intro hcl
          try simp only [Act.put, List.setIfInBounds_toArray, List.set_cons_zero, List.set_cons_succ]
          refine anyT_take (i := 7) (oi := ?oqa7) (v := ?vqa7) ?hiqa7 ?haqa7 ?hbqa7 ?hcqa7 ?hdqa7 ?hqqa7 (Or.inl ⟨?hwqa7, ?hyqa7⟩) hS hcl ?restqa7
          case hiqa7 => simp only [List.getElem?_toArray, List.getElem?_cons_succ, List.getElem?_cons_zero]; rfl
          case hqqa7 => exact fun _ _ _ h => h
          case haqa7 => kernel_rfl
          case hbqa7 => kernel_rfl
          case hcqa7 => kernel_rfl
          case hdqa7 => kernel_rfl
          case hwqa7 => rfl
          case hyqa7 => intro w' hSw; obtain ⟨s0, s1, s2, s3, s4⟩ := hSw; go_simp; try with_reducible rfl
          clear hcl
          intro hcl
          try simp only [Act.put, List.setIfInBounds_toArray, List.set_cons_zero, List.set_cons_succ]
          refine anyT_take (i := 8) (oi := ?oqa8) (v := ?vqa8) ?hiqa8 ?haqa8 ?hbqa8 ?hcqa8 ?hdqa8 ?hqqa8 (Or.inl ⟨?hwqa8, ?hyqa8⟩) hS hcl ?restqa8
          case hiqa8 => simp only [List.getElem?_toArray, List.getElem?_cons_succ, List.getElem?_cons_zero]; rfl
          case hqqa8 => exact fun _ _ _ h => h
          case haqa8 => kernel_rfl
          case hbqa8 => kernel_rfl
          case hcqa8 => kernel_rfl
          case hdqa8 => kernel_rfl
          case hwqa8 => rfl
          case hyqa8 => intro w' hSw; obtain ⟨s0, s1, s2, s3, s4⟩ := hSw; go_simp; try with_reducible rfl
          clear hcl
          intro hcl
          try simp only [Act.put, List.setIfInBounds_toArray, List.set_cons_zero, List.set_cons_succ]
          refine anyT_take (i := 9) (oi := ?oqa9) (v := ?vqa9) ?hiqa9 ?haqa9 ?hbqa9 ?hcqa9 ?hdqa9 ?hqqa9 (Or.inl ⟨?hwqa9, ?hyqa9⟩) hS hcl ?restqa9
          case hiqa9 => simp only [List.getElem?_toArray, List.getElem?_cons_succ, List.getElem?_cons_zero]; rfl
          case hqqa9 => exact fun _ _ _ h => h
          case haqa9 => kernel_rfl
          case hbqa9 => kernel_rfl
          case hcqa9 => kernel_rfl
          case hdqa9 => kernel_rfl
          case hwqa9 => rfl
          case hyqa9 => intro w' hSw; obtain ⟨s0, s1, s2, s3, s4⟩ := hSw; go_simp; try with_reducible rfl
          clear hcl
          intro hcl
          try simp only [Act.put, List.setIfInBounds_toArray, List.set_cons_zero, List.set_cons_succ]
          refine anyT_take (i := 10) (oi := ?oqa10) (v := ?vqa10) ?hiqa10 ?haqa10 ?hbqa10 ?hcqa10 ?hdqa10 ?hqqa10 (Or.inl ⟨?hwqa10, ?hyqa10⟩) hS hcl ?restqa10
          case hiqa10 => simp only [List.getElem?_toArray, List.getElem?_cons_succ, List.getElem?_cons_zero]; rfl
          case hqqa10 => exact fun _ _ _ h => h
          case haqa10 => kernel_rfl
          case hbqa10 => kernel_rfl
          case hcqa10 => kernel_rfl
          case hdqa10 => kernel_rfl
          case hwqa10 => rfl
          case hyqa10 => intro w' hSw; obtain ⟨s0, s1, s2, s3, s4⟩ := hSw; go_simp; try with_reducible rfl
          clear hcl
          intro hcl
          try simp only [Act.put, List.setIfInBounds_toArray, List.set_cons_zero, List.set_cons_succ]
          refine anyT_take (i := 11) (oi := ?oqa11) (v := ?vqa11) ?hiqa11 ?haqa11 ?hbqa11 ?hcqa11 ?hdqa11 ?hqqa11 (Or.inl ⟨?hwqa11, ?hyqa11⟩) hS hcl ?restqa11
          case hiqa11 => simp only [List.getElem?_toArray, List.getElem?_cons_succ, List.getElem?_cons_zero]; rfl
          case hqqa11 => exact fun _ _ _ h => h
          case haqa11 => kernel_rfl
          case hbqa11 => kernel_rfl
          case hcqa11 => kernel_rfl
          case hdqa11 => kernel_rfl
          case hwqa11 => rfl
          case hyqa11 => intro w' hSw; obtain ⟨s0, s1, s2, s3, s4⟩ := hSw; go_simp; try with_reducible rfl
          clear hcl
          intro hcl
          try simp only [Act.put, List.setIfInBounds_toArray, List.set_cons_zero, List.set_cons_succ]
          refine anyT_take (i := 12) (oi := ?oqa12) (v := ?vqa12) ?hiqa12 ?haqa12 ?hbqa12 ?hcqa12 ?hdqa12 ?hqqa12 (Or.inl ⟨?hwqa12, ?hyqa12⟩) hS hcl ?restqa12
          case hiqa12 => simp only [List.getElem?_toArray, List.getElem?_cons_succ, List.getElem?_cons_zero]; rfl
          case hqqa12 => exact fun _ _ _ h => h
          case haqa12 => kernel_rfl
          case hbqa12 => kernel_rfl
          case hcqa12 => kernel_rfl
          case hdqa12 => kernel_rfl
          case hwqa12 => rfl
          case hyqa12 => intro w' hSw; obtain ⟨s0, s1, s2, s3, s4⟩ := hSw; go_simp; try with_reducible rfl
          clear hcl
          intro hcl
          try simp only [Act.put, List.setIfInBounds_toArray, List.set_cons_zero, List.set_cons_succ]
          refine anyT_take (i := 13) (oi := ?oqa13) (v := ?vqa13) ?hiqa13 ?haqa13 ?hbqa13 ?hcqa13 ?hdqa13 ?hqqa13 (Or.inl ⟨?hwqa13, ?hyqa13⟩) hS hcl ?restqa13
          case hiqa13 => simp only [List.getElem?_toArray, List.getElem?_cons_succ, List.getElem?_cons_zero]; rfl
          case hqqa13 => exact fun _ _ _ h => h
          case haqa13 => kernel_rfl
          case hbqa13 => kernel_rfl
          case hcqa13 => kernel_rfl
          case hdqa13 => kernel_rfl
          case hwqa13 => rfl
          case hyqa13 => intro w' hSw; obtain ⟨s0, s1, s2, s3, s4⟩ := hSw; go_simp; try with_reducible rfl
          clear hcl
          intro hcl
          try simp only [Act.put, List.setIfInBounds_toArray, List.set_cons_zero, List.set_cons_succ]
          refine anyT_take (i := 14) (oi := ?oqa14) (v := ?vqa14) ?hiqa14 ?haqa14 ?hbqa14 ?hcqa14 ?hdqa14 ?hqqa14 (Or.inl ⟨?hwqa14, ?hyqa14⟩) hS hcl ?restqa14
          case hiqa14 => simp only [List.getElem?_toArray, List.getElem?_cons_succ, List.getElem?_cons_zero]; rfl
          case hqqa14 => exact fun _ _ _ h => h
          case haqa14 => kernel_rfl
          case hbqa14 => kernel_rfl
          case hcqa14 => kernel_rfl
          case hdqa14 => kernel_rfl
          case hwqa14 => rfl
          case hyqa14 => intro w' hSw; obtain ⟨s0, s1, s2, s3, s4⟩ := hSw; go_simp; try with_reducible rfl
          clear hcl
          intro hcl
          try simp only [Act.put, List.setIfInBounds_toArray, List.set_cons_zero, List.set_cons_succ]
          refine anyT_take (i := 15) (oi := ?oqa15) (v := ?vqa15) ?hiqa15 ?haqa15 ?hbqa15 ?hcqa15 ?hdqa15 ?hqqa15 (Or.inl ⟨?hwqa15, ?hyqa15⟩) hS hcl ?restqa15
          case hiqa15 => simp only [List.getElem?_toArray, List.getElem?_cons_succ, List.getElem?_cons_zero]; rfl
          case hqqa15 => exact fun _ _ _ h => h
          case haqa15 => kernel_rfl
          case hbqa15 => kernel_rfl
          case hcqa15 => kernel_rfl
          case hdqa15 => kernel_rfl
          case hwqa15 => rfl
          case hyqa15 => intro w' hSw; obtain ⟨s0, s1, s2, s3, s4⟩ := hSw; go_simp; try with_reducible rfl
          clear hcl
          intro hcl
          try simp only [Act.put, List.setIfInBounds_toArray, List.set_cons_zero, List.set_cons_succ]
          refine anyT_step (k := 16) (o := ?oqa16) ?hiqa16 (by kernel_rfl) hcl ?restqa16
          case hiqa16 => simp only [List.getElem?_toArray, List.getElem?_cons_succ, List.getElem?_cons_zero]; rfl
          intro K hK
          go_simp
          have hb4 : Below W.heap.size W (W.drew.alloc (.cells #[.string kx.s, .string vx.s] 47)) := hb0.alloc hb0.size _
          refine hK.out _ _ ⟨cell_keep z3 hb4, cell_keep t0 hb4, cell_keep t1 hb4, cell_keep q0 hb4, cell_keep q1 hb4⟩ (fun hS hcl => ?_)
          clear hK K hS
          try simp only [Act.put, List.setIfInBounds_toArray, List.set_cons_zero, List.set_cons_succ]
          obtain ⟨v3, w3, hrun, ho3, hg3, _, ha3⟩ := run_append_own_at (P := Try.prog) (w := W.drew.alloc (.cells #[.string kx.s, .string vx.s] 47)) w0.heap.size 29 29 47 iP (.agg #[.string ⟨#[]⟩, .string ⟨#[]⟩]) 2 32 Try.underlying29 hiP hiz hi1 hi2 rfl (by decide) (.slice Ao outj.length co) outj.length (pcells outj) (own_below HK.out.own hb4) ⟨W.heap.size, 0, none⟩ 1 1 (pcell (kx, vx)) rfl (newcells W.drew (kx, vx)) (by intro u hu; simp [pcell] at hu; rcases hu with rfl | rfl <;> rfl) (by unfold maxLen; have := HOL.out; omega) (by have := HOL.out; omega) (by have := hb4.size; have := HBW.out; omega)
          obtain ⟨A3, c3, rfl⟩ := own_form ho3
          obtain ⟨hpk, hpf⟩ := (HK.out.below hb0).push (kx, vx) ho3 hg3 (by have := hb0.size; have := HBW.out; omega)
          have b1 := (hg3.block gw (heap_lt ((HK.out.below hb4).blk)) (fun e => own_ne (own_below HK.out.own hb4) ((HK.out.below hb4).blk) (by decide) e.symm)).trans ((HK.out.below hb4).blk)
          have p0 : w3.cell? ⟨gw, 3, none⟩ = some (.slice Ao outj.length co) := by simp [World.cell?, b1]
          have p1 : w3.frozen? ⟨gw, 3, none⟩ = false := by simp [World.frozen?, b1]
          have hnv : ∀ b, (Value.slice A3 (outj.length + 1) c3).ownBlock = some b → (Value.slice Ao outj.length co).ownBlock = some b ∨ W.heap.size ≤ b := fun b hb => by
            rcases ha3 with e | e
            · exact .inl (e ▸ hb)
            · rw [e] at hb; injection hb with hb; simp at hb; exact .inr (by omega)
          have HPK := Lib.hid (And.intro hpk (And.intro ((Fw.of_below hb0).trans hpf (fun x e => .inl e)) hnv))
          clear b1 hpk hpf ho3 hg3 ha3 hb4 hb0 hnv
          refine anyT_last (k := 17) (o := ?oqa17) ?hiqa17 (by kernel_rfl) (by kernel_rfl) hcl ?restqa17
          case hiqa17 => simp only [List.getElem?_toArray, List.getElem?_cons_succ, List.getElem?_cons_zero]; rfl
          intro K hK
          rw [if_pos (by rfl)]
          refine Lib.wp_append_run _ _ _ _ _ rfl _ _ rfl rfl _ w3 hrun ?_
          clear hrun hcl
          refine hK.out _ _ (fun hcl => ?_)
          clear hK K
          try simp only [Act.put, List.setIfInBounds_toArray, List.set_cons_zero, List.set_cons_succ]
          refine anyT_free (i := 18) (oi := ?oqa18) (v := ?vqa18) ?hiqa18 ?haqa18 ?hbqa18 ?hcqa18 ?hdqa18 ?hqqa18 (Or.inl ⟨?hwqa18, ?hyqa18⟩) hcl ?restqa18
          case hiqa18 => simp only [List.getElem?_toArray, List.getElem?_cons_succ, List.getElem?_cons_zero]; rfl
          case hqqa18 => exact fun _ _ _ h => h
          case haqa18 => kernel_rfl
          case hbqa18 => kernel_rfl
          case hcqa18 => kernel_rfl
          case hdqa18 => kernel_rfl
          case hwqa18 => rfl
          case hyqa18 => intro w' _; go_simp; try with_reducible rfl
          clear hcl
          intro hcl
          try simp only [Act.put, List.setIfInBounds_toArray, List.set_cons_zero, List.set_cons_succ]
          refine anyT_free (i := 19) (oi := ?oqa19) (v := ?vqa19) ?hiqa19 ?haqa19 ?hbqa19 ?hcqa19 ?hdqa19 ?hqqa19 (Or.inl ⟨?hwqa19, ?hyqa19⟩) hcl ?restqa19
          case hiqa19 => simp only [List.getElem?_toArray, List.getElem?_cons_succ, List.getElem?_cons_zero]; rfl
          case hqqa19 => exact fun _ _ _ h => h
          case haqa19 => kernel_rfl
          case hbqa19 => kernel_rfl
          case hcqa19 => kernel_rfl
          case hdqa19 => kernel_rfl
          case hwqa19 => rfl
          case hyqa19 => intro w' _; go_simp; try with_reducible rfl
          clear hcl
          intro hcl
          try simp only [Act.put, List.setIfInBounds_toArray, List.set_cons_zero, List.set_cons_succ]
          refine anyT_last (k := 20) (o := ?oqa20) ?hiqa20 (by kernel_rfl) (by kernel_rfl) hcl ?restqa20
          case hiqa20 => simp only [List.getElem?_toArray, List.getElem?_cons_succ, List.getElem?_cons_zero]; rfl
          intro K hK
          go_simp
          clear hcl
          refine hK.out _ _ (fun hcl => ?_)
          clear hK K
          refine anyT_done (by kernel_rfl) ?_ _
          go_simp
          clear hcl p0 p1 z5 zf5 z3 t0 t1 q0 q1
          obtain ⟨k4, f4, n4⟩ := HPK.out
          generalize w3.setCell ⟨gw, 3, none⟩ (.slice A3 (outj.length + 1) c3) = W4 at *
          have z3 := k4.cells.2.2.2.1
          have zf5 := k4.cells.2.2.2.2.2.2 5
          have z5 := k4.cells.2.2.2.2.2.1
          have HK4 := Lib.hid k4
          have HF4 := Lib.hid f4
          have HN4 := Lib.hid n4
          clear k4 f4 n4 HPK
          have hcast : ((outj.length + 1 : Nat) : Int) = (outj.length : Int) + 1 := by omega
          generalize hbn : decide (2048 < outj.length + 1) = bn
          have hgt : decide ((2048 : Int) < (outj.length : Int) + 1) = bn := by rw [← hbn]; congr 1; rw [eq_iff_iff]; omega
          have HBN := Lib.hid hbn
          clear hbn
          have hj5 : j ≤ 100000 := by have := HLEN.out; have := HOL.out; omega
          have hwj : IntKind.i64.wrap ((j : Int) + 1) = (j : Int) + 1 := IntWalk.i64_in _ (by omega)
          go_wp2
          go_roundw
          case rel => exact ⟨j + 1, _, outj ++ [(kx, vx)], bn, by go_num, hlt, HK4.out.setBad bn, (HFW.out.trans HF4.out HNB.out).trans (Fw.set _) (fun b hb => by
              rcases HN4.out b hb with h | h
              · exact HNB.out b h
              · exact .inr (by have := HFW.out.size; omega)), fun b hb => by
              rcases HN4.out b hb with h | h
              · exact HNB.out b h
              · exact .inr (by have := HFW.out.size; omega), by rw [HTS.out, HOJ.out, List.append_assoc], by rw [← HBN.out]; simp⟩
          case measure => simp [intOf]; omega
        · have hfin : LeafPost w wr w0.heap.size gw gm A n c root M vo out L false x deep := ⟨_, outj, false, HK.out, HFE.out, (fun b hb => by rw [HBX.out]; exact HNE.out b hb), ⟨fun _ => ⟨rfl, HVK.out, HL.out, by have := of_decide_eq_false HBJ.out.symm; have := HLEN.out; omega⟩, fun _ => rfl⟩, fun _ => by rw [HOJ.out, List.take_of_length_le (by rw [List.length_zip]; omega)]⟩
          have HFIN := Lib.hid hfin
          clear hfin
          have hlt' : ¬ (j : Int) < (x.ks.length : Int) := by omega
          go_wp2
          go_end0
          exact ⟨rfl, HFIN.out⟩
  · have h2i : (0 : Int) < (L : Int) := by omega
    have h3i : ((L : Int) != (deep : Int)) = false := by simp; omega
    clear h0 h3
    go_wp2
    have hfw := HF1.out
    have HK2 := Lib.hid (And.intro HK1.out hfw)
    clear c4 c5 cf5 c4f t0 t1 t2 hfw
    generalize (wA.setCell ⟨gw, 5, none⟩ (.bool false)).setCell ⟨gw, 4, none⟩ (.int .i64 deep) = W1 at *
    clear HK1 HF1
    go_loopw [6] (fun i wr => ∃ (j : Nat) (vj : Value) (outj : List Pr) (bj : Bool), i = .int .i64 j ∧ j ≤ x.ks.length ∧ Wk wr w0.heap.size gw gm A n c root M vj outj deep bj ∧ Fw gw gm vo wA wr ∧ (∀ b, vj.ownBlock = some b → vo.ownBlock = some b ∨ wA.heap.size ≤ b) ∧ outj = out ++ (x.ks.zip x.vs).take j ∧ bj = decide (2048 < outj.length)) (fun i _ => x.ks.length - (intOf i).toNat)
    case atStart => exact ⟨0, vo, out, false, rfl, by omega, HK2.out.1, HK2.out.2, fun b hb => .inl hb, by simp, by symm; exact decide_eq_false (by have := HOUT.out; omega)⟩
    case round =>
      obtain ⟨j, vj, outj, bj, rfl, hj, k, hfw, hnb, hoj, hbj⟩ := hrel
      clear HK2
      obtain ⟨Ao, co, rfl⟩ := own_form k.own
      have z3 := k.cells.2.2.2.1
      have z5 := k.cells.2.2.2.2.2.1
      have zf5 := k.cells.2.2.2.2.2.2 5
      have zf3 := k.cells.2.2.2.2.2.2 3
      have hbw := hfw.below HB0.out HKA.out.lw HKA.out.lm (fun b hb => (own_in HKA.out.own hb).1)
      obtain ⟨t0, t1, _⟩ := three_of (HT.out wr hfw)
      have HFW := Lib.hid hfw
      have HNB := Lib.hid hnb
      have HOJ := Lib.hid hoj
      have HBJ := Lib.hid hbj
      have HBW := Lib.hid (show w0.heap.size ≤ wr.heap.size from Nat.le_trans HB0.out hfw.size)
      have hrb : Below w0.heap.size w0 wr := HB1.out.trans hbw
      have HK := Lib.hid k
      clear k hfw hnb hoj hbj hbw
      have HLEN := Lib.hid (show outj.length = out.length + j by rw [HOJ.out, List.length_append, List.length_take, List.length_zip]; have := HVK.out; omega)
      have HFE := Lib.hid (HFA.out.trans HFW.out (fun b hb => .inl hb))
      have HNE := Lib.hid (show ∀ b, (Value.slice Ao outj.length co).ownBlock = some b → vo.ownBlock = some b ∨ bx ≤ b from fun b hb => by
        rcases HNB.out b hb with h | h
        · exact .inl h
        · exact .inr (by have := HSZ.out; omega))
      cases bj with
      | true =>
        have hfin : LeafPost w wr w0.heap.size gw gm A n c root M vo out L false x deep := ⟨_, outj, true, HK.out, HFE.out, (fun b hb => by rw [HBX.out]; exact HNE.out b hb), ⟨fun e => (by cases e), fun e => by have := of_decide_eq_true HBJ.out.symm; have := HLEN.out; have := e.2.2.2; omega⟩, fun e => (by cases e)⟩
        have HFIN := Lib.hid hfin
        clear hfin
        by_cases hlt : j < x.ks.length
        · have hlt' : (j : Int) < (x.ks.length : Int) := by omega
          go_wp2
          go_end0
          exact ⟨rfl, HFIN.out⟩
        · have hlt' : ¬ (j : Int) < (x.ks.length : Int) := by omega
          go_wp2
          go_end0
          exact ⟨rfl, HFIN.out⟩
      | false =>
        by_cases hlt : j < x.ks.length
        · have hlt2 : j < x.vs.length := by have := HVK.out; omega
          obtain ⟨ad, ha, q0⟩ := (RK.out.below hrb).at_ (strs_at hlt)
          obtain ⟨bd, hb, q1⟩ := (RV.out.below hrb).at_ (strs_at hlt2)
          rw [ha] at t0
          rw [hb] at t1
          have HTS := Lib.hid (show (x.ks.zip x.vs).take (j + 1) = (x.ks.zip x.vs).take j ++ [(x.ks[j], x.vs[j])] by
            rw [List.take_succ_eq_append_getElem (by rw [List.length_zip]; omega), List.getElem_zip])
          have hlt' : (j : Int) < (x.ks.length : Int) := by omega
          have hlt2' : (j : Int) < (x.vs.length : Int) := by omega
          have HOL := Lib.hid (show outj.length + 1 ≤ 100000 by have := HBJ.out; have := of_decide_eq_false this.symm; omega)
          generalize x.ks[j] = kx at *
          generalize x.vs[j] = vx at *
          clear ha hb hrb
          go_upto_region 6 with fail
          have hb0 : Below wr.heap.size wr wr.drew := (Below.refl _ _).drew
          generalize wr = W at *
          refine region_anyT (fun W' => W'.cell? ⟨gw, 3, none⟩ = some (.slice Ao outj.length co) ∧ W'.cell? ⟨bx, 0, none⟩ = some (.slice (some ad) x.ks.length h.kc) ∧ W'.cell? ⟨bx, 1, none⟩ = some (.slice (some bd) x.vs.length h.vc) ∧ W'.cell? (ad.add j) = some (.string kx.s) ∧ W'.cell? (bd.add j) = some (.string vx.s)) [1, 2, 3, 4, 5, 6, 7, 8, 9, 10, 11, 12, 13, 14, 15, 16] (by kernel_rfl) ⟨z3, t0, t1, q0, q1⟩ ?_
          intro hcl hS
          refine anyT_free (i := 0) (oi := ?oqb0) (v := ?vqb0) ?hiqb0 ?haqb0 ?hbqb0 ?hcqb0 ?hdqb0 ?hqqb0 (Or.inl ⟨?hwqb0, ?hyqb0⟩) hcl ?restqb0
          case hiqb0 => simp only [List.getElem?_toArray, List.getElem?_cons_succ, List.getElem?_cons_zero]; rfl
          case hqqb0 => exact fun _ _ _ h => h
          case haqb0 => kernel_rfl
          case hbqb0 => kernel_rfl
          case hcqb0 => kernel_rfl
          case hdqb0 => kernel_rfl
          case hwqb0 => rfl
          case hyqb0 => intro w' _; go_simp; try with_reducible rfl
          clear hcl
          intro hcl
          try simp only [Act.put, List.setIfInBounds_toArray, List.set_cons_zero, List.set_cons_succ]
          refine anyT_take (i := 1) (oi := ?oqb1) (v := ?vqb1) ?hiqb1 ?haqb1 ?hbqb1 ?hcqb1 ?hdqb1 ?hqqb1 (Or.inl ⟨?hwqb1, ?hyqb1⟩) hS hcl ?restqb1
          case hiqb1 => simp only [List.getElem?_toArray, List.getElem?_cons_succ, List.getElem?_cons_zero]; rfl
          case hqqb1 => exact fun _ _ _ h => h
          case haqb1 => kernel_rfl
          case hbqb1 => kernel_rfl
          case hcqb1 => kernel_rfl
          case hdqb1 => kernel_rfl
          case hwqb1 => rfl
          case hyqb1 => intro w' hSw; obtain ⟨s0, s1, s2, s3, s4⟩ := hSw; go_simp; try with_reducible rfl
          clear hcl
          intro hcl
          try simp only [Act.put, List.setIfInBounds_toArray, List.set_cons_zero, List.set_cons_succ]
          refine anyT_take (i := 2) (oi := ?oqb2) (v := ?vqb2) ?hiqb2 ?haqb2 ?hbqb2 ?hcqb2 ?hdqb2 ?hqqb2 (Or.inl ⟨?hwqb2, ?hyqb2⟩) hS hcl ?restqb2
          case hiqb2 => simp only [List.getElem?_toArray, List.getElem?_cons_succ, List.getElem?_cons_zero]; rfl
          case hqqb2 => exact fun _ _ _ h => h
          case haqb2 => kernel_rfl
          case hbqb2 => kernel_rfl
          case hcqb2 => kernel_rfl
          case hdqb2 => kernel_rfl
          case hwqb2 => rfl
          case hyqb2 => intro w' hSw; obtain ⟨s0, s1, s2, s3, s4⟩ := hSw; go_simp; try with_reducible rfl
          clear hcl
          intro hcl
          try simp only [Act.put, List.setIfInBounds_toArray, List.set_cons_zero, List.set_cons_succ]
          refine anyT_take (i := 3) (oi := ?oqb3) (v := ?vqb3) ?hiqb3 ?haqb3 ?hbqb3 ?hcqb3 ?hdqb3 ?hqqb3 (Or.inl ⟨?hwqb3, ?hyqb3⟩) hS hcl ?restqb3
          case hiqb3 => simp only [List.getElem?_toArray, List.getElem?_cons_succ, List.getElem?_cons_zero]; rfl
          case hqqb3 => exact fun _ _ _ h => h
          case haqb3 => kernel_rfl
          case hbqb3 => kernel_rfl
          case hcqb3 => kernel_rfl
          case hdqb3 => kernel_rfl
          case hwqb3 => rfl
          case hyqb3 => intro w' hSw; obtain ⟨s0, s1, s2, s3, s4⟩ := hSw; go_simp; try with_reducible rfl
          clear hcl
          intro hcl
          try simp only [Act.put, List.setIfInBounds_toArray, List.set_cons_zero, List.set_cons_succ]
          refine anyT_take (i := 4) (oi := ?oqb4) (v := ?vqb4) ?hiqb4 ?haqb4 ?hbqb4 ?hcqb4 ?hdqb4 ?hqqb4 (Or.inl ⟨?hwqb4, ?hyqb4⟩) hS hcl ?restqb4
          case hiqb4 => simp only [List.getElem?_toArray, List.getElem?_cons_succ, List.getElem?_cons_zero]; rfl
          case hqqb4 => exact fun _ _ _ h => h
          case haqb4 => kernel_rfl
          case hbqb4 => kernel_rfl
          case hcqb4 => kernel_rfl
          case hdqb4 => kernel_rfl
          case hwqb4 => rfl
          case hyqb4 => intro w' hSw; obtain ⟨s0, s1, s2, s3, s4⟩ := hSw; go_simp; try with_reducible rfl
          clear hcl
          intro hcl
          try simp only [Act.put, List.setIfInBounds_toArray, List.set_cons_zero, List.set_cons_succ]
          refine anyT_take (i := 5) (oi := ?oqb5) (v := ?vqb5) ?hiqb5 ?haqb5 ?hbqb5 ?hcqb5 ?hdqb5 ?hqqb5 (Or.inl ⟨?hwqb5, ?hyqb5⟩) hS hcl ?restqb5
          case hiqb5 => simp only [List.getElem?_toArray, List.getElem?_cons_succ, List.getElem?_cons_zero]; rfl
          case hqqb5 => exact fun _ _ _ h => h
          case haqb5 => kernel_rfl
          case hbqb5 => kernel_rfl
          case hcqb5 => kernel_rfl
          case hdqb5 => kernel_rfl
          case hwqb5 => rfl
          case hyqb5 => intro w' hSw; obtain ⟨s0, s1, s2, s3, s4⟩ := hSw; go_simp; try with_reducible rfl
          clear hcl
          intro hcl
          try simp only [Act.put, List.setIfInBounds_toArray, List.set_cons_zero, List.set_cons_succ]
          refine anyT_take (i := 6) (oi := ?oqb6) (v := ?vqb6) ?hiqb6 ?haqb6 ?hbqb6 ?hcqb6 ?hdqb6 ?hqqb6 (Or.inl ⟨?hwqb6, ?hyqb6⟩) hS hcl ?restqb6
          case hiqb6 => simp only [List.getElem?_toArray, List.getElem?_cons_succ, List.getElem?_cons_zero]; rfl
          case hqqb6 => exact fun _ _ _ h => h
          case haqb6 => kernel_rfl
          case hbqb6 => kernel_rfl
          case hcqb6 => kernel_rfl
          case hdqb6 => kernel_rfl
          case hwqb6 => rfl
          case hyqb6 => intro w' hSw; obtain ⟨s0, s1, s2, s3, s4⟩ := hSw; go_simp; try with_reducible rfl
          clear hcl
          intro hcl
          try simp only [Act.put, List.setIfInBounds_toArray, List.set_cons_zero, List.set_cons_succ]
          refine anyT_take (i := 7) (oi := ?oqb7) (v := ?vqb7) ?hiqb7 ?haqb7 ?hbqb7 ?hcqb7 ?hdqb7 ?hqqb7 (Or.inl ⟨?hwqb7, ?hyqb7⟩) hS hcl ?restqb7
          case hiqb7 => simp only [List.getElem?_toArray, List.getElem?_cons_succ, List.getElem?_cons_zero]; rfl
          case hqqb7 => exact fun _ _ _ h => h
          case haqb7 => kernel_rfl
          case hbqb7 => kernel_rfl
          case hcqb7 => kernel_rfl
          case hdqb7 => kernel_rfl
          case hwqb7 => rfl
          case hyqb7 => intro w' hSw; obtain ⟨s0, s1, s2, s3, s4⟩ := hSw; go_simp; try with_reducible rfl
          clear hcl
          intro hcl
          try simp only [Act.put, List.setIfInBounds_toArray, List.set_cons_zero, List.set_cons_succ]
          refine anyT_take (i := 8) (oi := ?oqb8) (v := ?vqb8) ?hiqb8 ?haqb8 ?hbqb8 ?hcqb8 ?hdqb8 ?hqqb8 (Or.inl ⟨?hwqb8, ?hyqb8⟩) hS hcl ?restqb8
          case hiqb8 => simp only [List.getElem?_toArray, List.getElem?_cons_succ, List.getElem?_cons_zero]; rfl
          case hqqb8 => exact fun _ _ _ h => h
          case haqb8 => kernel_rfl
          case hbqb8 => kernel_rfl
          case hcqb8 => kernel_rfl
          case hdqb8 => kernel_rfl
          case hwqb8 => rfl
          case hyqb8 => intro w' hSw; obtain ⟨s0, s1, s2, s3, s4⟩ := hSw; go_simp; try with_reducible rfl
          clear hcl
          intro hcl
          try simp only [Act.put, List.setIfInBounds_toArray, List.set_cons_zero, List.set_cons_succ]
          refine anyT_take (i := 9) (oi := ?oqb9) (v := ?vqb9) ?hiqb9 ?haqb9 ?hbqb9 ?hcqb9 ?hdqb9 ?hqqb9 (Or.inl ⟨?hwqb9, ?hyqb9⟩) hS hcl ?restqb9
          case hiqb9 => simp only [List.getElem?_toArray, List.getElem?_cons_succ, List.getElem?_cons_zero]; rfl
          case hqqb9 => exact fun _ _ _ h => h
          case haqb9 => kernel_rfl
          case hbqb9 => kernel_rfl
          case hcqb9 => kernel_rfl
          case hdqb9 => kernel_rfl
          case hwqb9 => rfl
          case hyqb9 => intro w' hSw; obtain ⟨s0, s1, s2, s3, s4⟩ := hSw; go_simp; try with_reducible rfl
          clear hcl
          intro hcl
          try simp only [Act.put, List.setIfInBounds_toArray, List.set_cons_zero, List.set_cons_succ]
          refine anyT_take (i := 10) (oi := ?oqb10) (v := ?vqb10) ?hiqb10 ?haqb10 ?hbqb10 ?hcqb10 ?hdqb10 ?hqqb10 (Or.inl ⟨?hwqb10, ?hyqb10⟩) hS hcl ?restqb10
          case hiqb10 => simp only [List.getElem?_toArray, List.getElem?_cons_succ, List.getElem?_cons_zero]; rfl
          case hqqb10 => exact fun _ _ _ h => h
          case haqb10 => kernel_rfl
          case hbqb10 => kernel_rfl
          case hcqb10 => kernel_rfl
          case hdqb10 => kernel_rfl
          case hwqb10 => rfl
          case hyqb10 => intro w' hSw; obtain ⟨s0, s1, s2, s3, s4⟩ := hSw; go_simp; try with_reducible rfl
          clear hcl
          intro hcl
          try simp only [Act.put, List.setIfInBounds_toArray, List.set_cons_zero, List.set_cons_succ]
          refine anyT_take (i := 11) (oi := ?oqb11) (v := ?vqb11) ?hiqb11 ?haqb11 ?hbqb11 ?hcqb11 ?hdqb11 ?hqqb11 (Or.inl ⟨?hwqb11, ?hyqb11⟩) hS hcl ?restqb11
          case hiqb11 => simp only [List.getElem?_toArray, List.getElem?_cons_succ, List.getElem?_cons_zero]; rfl
          case hqqb11 => exact fun _ _ _ h => h
          case haqb11 => kernel_rfl
          case hbqb11 => kernel_rfl
          case hcqb11 => kernel_rfl
          case hdqb11 => kernel_rfl
          case hwqb11 => rfl
          case hyqb11 => intro w' hSw; obtain ⟨s0, s1, s2, s3, s4⟩ := hSw; go_simp; try with_reducible rfl
          clear hcl
          intro hcl
          try simp only [Act.put, List.setIfInBounds_toArray, List.set_cons_zero, List.set_cons_succ]
          refine anyT_take (i := 12) (oi := ?oqb12) (v := ?vqb12) ?hiqb12 ?haqb12 ?hbqb12 ?hcqb12 ?hdqb12 ?hqqb12 (Or.inl ⟨?hwqb12, ?hyqb12⟩) hS hcl ?restqb12
          case hiqb12 => simp only [List.getElem?_toArray, List.getElem?_cons_succ, List.getElem?_cons_zero]; rfl
          case hqqb12 => exact fun _ _ _ h => h
          case haqb12 => kernel_rfl
          case hbqb12 => kernel_rfl
          case hcqb12 => kernel_rfl
          case hdqb12 => kernel_rfl
          case hwqb12 => rfl
          case hyqb12 => intro w' hSw; obtain ⟨s0, s1, s2, s3, s4⟩ := hSw; go_simp; try with_reducible rfl
          clear hcl
          intro hcl
          try simp only [Act.put, List.setIfInBounds_toArray, List.set_cons_zero, List.set_cons_succ]
          refine anyT_take (i := 13) (oi := ?oqb13) (v := ?vqb13) ?hiqb13 ?haqb13 ?hbqb13 ?hcqb13 ?hdqb13 ?hqqb13 (Or.inl ⟨?hwqb13, ?hyqb13⟩) hS hcl ?restqb13
          case hiqb13 => simp only [List.getElem?_toArray, List.getElem?_cons_succ, List.getElem?_cons_zero]; rfl
          case hqqb13 => exact fun _ _ _ h => h
          case haqb13 => kernel_rfl
          case hbqb13 => kernel_rfl
          case hcqb13 => kernel_rfl
          case hdqb13 => kernel_rfl
          case hwqb13 => rfl
          case hyqb13 => intro w' hSw; obtain ⟨s0, s1, s2, s3, s4⟩ := hSw; go_simp; try with_reducible rfl
          clear hcl
          intro hcl
          try simp only [Act.put, List.setIfInBounds_toArray, List.set_cons_zero, List.set_cons_succ]
          refine anyT_take (i := 14) (oi := ?oqb14) (v := ?vqb14) ?hiqb14 ?haqb14 ?hbqb14 ?hcqb14 ?hdqb14 ?hqqb14 (Or.inl ⟨?hwqb14, ?hyqb14⟩) hS hcl ?restqb14
          case hiqb14 => simp only [List.getElem?_toArray, List.getElem?_cons_succ, List.getElem?_cons_zero]; rfl
          case hqqb14 => exact fun _ _ _ h => h
          case haqb14 => kernel_rfl
          case hbqb14 => kernel_rfl
          case hcqb14 => kernel_rfl
          case hdqb14 => kernel_rfl
          case hwqb14 => rfl
          case hyqb14 => intro w' hSw; obtain ⟨s0, s1, s2, s3, s4⟩ := hSw; go_simp; try with_reducible rfl
          clear hcl
          intro hcl
          try simp only [Act.put, List.setIfInBounds_toArray, List.set_cons_zero, List.set_cons_succ]
          refine anyT_take (i := 15) (oi := ?oqb15) (v := ?vqb15) ?hiqb15 ?haqb15 ?hbqb15 ?hcqb15 ?hdqb15 ?hqqb15 (Or.inl ⟨?hwqb15, ?hyqb15⟩) hS hcl ?restqb15
          case hiqb15 => simp only [List.getElem?_toArray, List.getElem?_cons_succ, List.getElem?_cons_zero]; rfl
          case hqqb15 => exact fun _ _ _ h => h
          case haqb15 => kernel_rfl
          case hbqb15 => kernel_rfl
          case hcqb15 => kernel_rfl
          case hdqb15 => kernel_rfl
          case hwqb15 => rfl
          case hyqb15 => intro w' hSw; obtain ⟨s0, s1, s2, s3, s4⟩ := hSw; go_simp; try with_reducible rfl
          clear hcl
          intro hcl
          try simp only [Act.put, List.setIfInBounds_toArray, List.set_cons_zero, List.set_cons_succ]
          refine anyT_step (k := 16) (o := ?oqb16) ?hiqb16 (by kernel_rfl) hcl ?restqb16
          case hiqb16 => simp only [List.getElem?_toArray, List.getElem?_cons_succ, List.getElem?_cons_zero]; rfl
          intro K hK
          go_simp
          have hb4 : Below W.heap.size W (W.drew.alloc (.cells #[.string kx.s, .string vx.s] 47)) := hb0.alloc hb0.size _
          refine hK.out _ _ ⟨cell_keep z3 hb4, cell_keep t0 hb4, cell_keep t1 hb4, cell_keep q0 hb4, cell_keep q1 hb4⟩ (fun hS hcl => ?_)
          clear hK K hS
          try simp only [Act.put, List.setIfInBounds_toArray, List.set_cons_zero, List.set_cons_succ]
          obtain ⟨v3, w3, hrun, ho3, hg3, _, ha3⟩ := run_append_own_at (P := Try.prog) (w := W.drew.alloc (.cells #[.string kx.s, .string vx.s] 47)) w0.heap.size 29 29 47 iP (.agg #[.string ⟨#[]⟩, .string ⟨#[]⟩]) 2 32 Try.underlying29 hiP hiz hi1 hi2 rfl (by decide) (.slice Ao outj.length co) outj.length (pcells outj) (own_below HK.out.own hb4) ⟨W.heap.size, 0, none⟩ 1 1 (pcell (kx, vx)) rfl (newcells W.drew (kx, vx)) (by intro u hu; simp [pcell] at hu; rcases hu with rfl | rfl <;> rfl) (by unfold maxLen; have := HOL.out; omega) (by have := HOL.out; omega) (by have := hb4.size; have := HBW.out; omega)
          obtain ⟨A3, c3, rfl⟩ := own_form ho3
          obtain ⟨hpk, hpf⟩ := (HK.out.below hb0).push (kx, vx) ho3 hg3 (by have := hb0.size; have := HBW.out; omega)
          have b1 := (hg3.block gw (heap_lt ((HK.out.below hb4).blk)) (fun e => own_ne (own_below HK.out.own hb4) ((HK.out.below hb4).blk) (by decide) e.symm)).trans ((HK.out.below hb4).blk)
          have p0 : w3.cell? ⟨gw, 3, none⟩ = some (.slice Ao outj.length co) := by simp [World.cell?, b1]
          have p1 : w3.frozen? ⟨gw, 3, none⟩ = false := by simp [World.frozen?, b1]
          have hnv : ∀ b, (Value.slice A3 (outj.length + 1) c3).ownBlock = some b → (Value.slice Ao outj.length co).ownBlock = some b ∨ W.heap.size ≤ b := fun b hb => by
            rcases ha3 with e | e
            · exact .inl (e ▸ hb)
            · rw [e] at hb; injection hb with hb; simp at hb; exact .inr (by omega)
          have HPK := Lib.hid (And.intro hpk (And.intro ((Fw.of_below hb0).trans hpf (fun x e => .inl e)) hnv))
          clear b1 hpk hpf ho3 hg3 ha3 hb4 hb0 hnv
          refine anyT_last (k := 17) (o := ?oqb17) ?hiqb17 (by kernel_rfl) (by kernel_rfl) hcl ?restqb17
          case hiqb17 => simp only [List.getElem?_toArray, List.getElem?_cons_succ, List.getElem?_cons_zero]; rfl
          intro K hK
          rw [if_pos (by rfl)]
          refine Lib.wp_append_run _ _ _ _ _ rfl _ _ rfl rfl _ w3 hrun ?_
          clear hrun hcl
          refine hK.out _ _ (fun hcl => ?_)
          clear hK K
          try simp only [Act.put, List.setIfInBounds_toArray, List.set_cons_zero, List.set_cons_succ]
          refine anyT_free (i := 18) (oi := ?oqb18) (v := ?vqb18) ?hiqb18 ?haqb18 ?hbqb18 ?hcqb18 ?hdqb18 ?hqqb18 (Or.inl ⟨?hwqb18, ?hyqb18⟩) hcl ?restqb18
          case hiqb18 => simp only [List.getElem?_toArray, List.getElem?_cons_succ, List.getElem?_cons_zero]; rfl
          case hqqb18 => exact fun _ _ _ h => h
          case haqb18 => kernel_rfl
          case hbqb18 => kernel_rfl
          case hcqb18 => kernel_rfl
          case hdqb18 => kernel_rfl
          case hwqb18 => rfl
          case hyqb18 => intro w' _; go_simp; try with_reducible rfl
          clear hcl
          intro hcl
          try simp only [Act.put, List.setIfInBounds_toArray, List.set_cons_zero, List.set_cons_succ]
          refine anyT_free (i := 19) (oi := ?oqb19) (v := ?vqb19) ?hiqb19 ?haqb19 ?hbqb19 ?hcqb19 ?hdqb19 ?hqqb19 (Or.inl ⟨?hwqb19, ?hyqb19⟩) hcl ?restqb19
          case hiqb19 => simp only [List.getElem?_toArray, List.getElem?_cons_succ, List.getElem?_cons_zero]; rfl
          case hqqb19 => exact fun _ _ _ h => h
          case haqb19 => kernel_rfl
          case hbqb19 => kernel_rfl
          case hcqb19 => kernel_rfl
          case hdqb19 => kernel_rfl
          case hwqb19 => rfl
          case hyqb19 => intro w' _; go_simp; try with_reducible rfl
          clear hcl
          intro hcl
          try simp only [Act.put, List.setIfInBounds_toArray, List.set_cons_zero, List.set_cons_succ]
          refine anyT_last (k := 20) (o := ?oqb20) ?hiqb20 (by kernel_rfl) (by kernel_rfl) hcl ?restqb20
          case hiqb20 => simp only [List.getElem?_toArray, List.getElem?_cons_succ, List.getElem?_cons_zero]; rfl
          intro K hK
          go_simp
          clear hcl
          refine hK.out _ _ (fun hcl => ?_)
          clear hK K
          refine anyT_done (by kernel_rfl) ?_ _
          go_simp
          clear hcl p0 p1 z5 zf5 z3 t0 t1 q0 q1
          obtain ⟨k4, f4, n4⟩ := HPK.out
          generalize w3.setCell ⟨gw, 3, none⟩ (.slice A3 (outj.length + 1) c3) = W4 at *
          have z3 := k4.cells.2.2.2.1
          have zf5 := k4.cells.2.2.2.2.2.2 5
          have z5 := k4.cells.2.2.2.2.2.1
          have HK4 := Lib.hid k4
          have HF4 := Lib.hid f4
          have HN4 := Lib.hid n4
          clear k4 f4 n4 HPK
          have hcast : ((outj.length + 1 : Nat) : Int) = (outj.length : Int) + 1 := by omega
          generalize hbn : decide (2048 < outj.length + 1) = bn
          have hgt : decide ((2048 : Int) < (outj.length : Int) + 1) = bn := by rw [← hbn]; congr 1; rw [eq_iff_iff]; omega
          have HBN := Lib.hid hbn
          clear hbn
          have hj5 : j ≤ 100000 := by have := HLEN.out; have := HOL.out; omega
          have hwj : IntKind.i64.wrap ((j : Int) + 1) = (j : Int) + 1 := IntWalk.i64_in _ (by omega)
          go_wp2
          go_roundw
          case rel => exact ⟨j + 1, _, outj ++ [(kx, vx)], bn, by go_num, hlt, HK4.out.setBad bn, (HFW.out.trans HF4.out HNB.out).trans (Fw.set _) (fun b hb => by
              rcases HN4.out b hb with h | h
              · exact HNB.out b h
              · exact .inr (by have := HFW.out.size; omega)), fun b hb => by
              rcases HN4.out b hb with h | h
              · exact HNB.out b h
              · exact .inr (by have := HFW.out.size; omega), by rw [HTS.out, HOJ.out, List.append_assoc], by rw [← HBN.out]; simp⟩
          case measure => simp [intOf]; omega
        · have hfin : LeafPost w wr w0.heap.size gw gm A n c root M vo out L false x deep := ⟨_, outj, false, HK.out, HFE.out, (fun b hb => by rw [HBX.out]; exact HNE.out b hb), ⟨fun _ => ⟨rfl, HVK.out, HL.out, by have := of_decide_eq_false HBJ.out.symm; have := HLEN.out; omega⟩, fun _ => rfl⟩, fun _ => by rw [HOJ.out, List.take_of_length_le (by rw [List.length_zip]; omega)]⟩
          have HFIN := Lib.hid hfin
          clear hfin
          have hlt' : ¬ (j : Int) < (x.ks.length : Int) := by omega
          go_wp2
          go_end0
          exact ⟨rfl, HFIN.out⟩
end Go.Proofs.Ytkpjkglheegmgaa
namespace Go.Proofs.Ytkpjkglheegmgaa
open Go.RowKit
set_option linter.unusedSimpArgs false
set_option linter.unusedVariables false

theorem rleaf_any (w0 w : World) (gw gm : Nat) (A : Option Addr) (n c : Nat) (root : Int) (M : List Nat) (vo : Value) (out : List Pr) (L : Nat) (bad : Bool) (k : Wk w w0.heap.size gw gm A n c root M vo out L bad) (hB : Below w0.heap.size w0 w) (x : Nd) (h : Hd) (rk : Rd w0 h.kA x.ks.length h.kc (strs x.ks)) (rv : Rd w0 h.vA x.vs.length h.vc (strs x.vs)) (deep : Nat) (hd : deep ≤ 1000000000000000) (hl : L ≤ 1000000000000000) (hout : bad = false → out.length ≤ 2048) :
    Calls Try.prog 59 #[ptr gw, .agg #[.slice h.kA x.ks.length h.kc, .slice h.vA x.vs.length h.vc, .slice h.cA x.kids.length h.cc], .int .i64 deep] w fun e w' => e = .returned (.tuple #[]) ∧ LeafPost w w' w0.heap.size gw gm A n c root M vo out L bad x deep := by
  by_cases hg : bad = false ∧ x.vs.length = x.ks.length ∧ (L = 0 ∨ L = deep)
  · exact rleaf_good w0 w gw gm A n c root M vo out L bad k hB x h rk rv deep hd hl hg.1 hg.2.1 hg.2.2 (hout hg.1)
  · exact rleaf_bad w0 w gw gm A n c root M vo out L bad k hB x h rk rv deep hd hl hg
/-- A bound, as a slice of one text at most. -/
def BdV (w : World) (v : Value) (b : Bd) : Prop := match b with
  | none => ∃ A c, v = .slice A 0 c
  | some k => ∃ ad c, v = .slice (some ad) 1 c ∧ w.cell? ad = some (.string k.s)
theorem asc_snoc {l : List Key} {j : Nat} (h : j < l.length) : Asc (l.take (j + 1)) ↔ Asc (l.take j) ∧ (0 < j → ∀ h2 : j - 1 < l.length, l[j - 1] < l[j]) := by
  rw [List.take_succ_eq_append_getElem h, asc_append]
  constructor
  · rintro ⟨h1, _, h3⟩
    refine ⟨h1, fun h0 h2 => h3 _ ?_ _ (by simp)⟩
    exact List.mem_iff_getElem.2 ⟨j - 1, by simp; omega, by simp⟩
  · rintro ⟨h1, h2⟩
    refine ⟨h1, by simp [Asc], fun a ha b hb => ?_⟩
    obtain rfl := List.mem_singleton.1 hb
    obtain ⟨i, hi, rfl⟩ := List.getElem_of_mem ha
    simp at hi
    have h4 := h2 (by omega) (by omega)
    rw [List.getElem_take]
    rcases Nat.lt_or_ge i (j - 1) with h5 | h5
    · have := h1.get (i := i) (j := j - 1) h5 (by simp; omega)
      simp only [List.getElem_take] at this
      grind
    · have e : i = j - 1 := by omega
      subst e
      exact h4
theorem within_snoc {lo hi : Bd} {l : List Key} {j : Nat} (h : j < l.length) : Within lo hi (l.take (j + 1)) ↔ Within lo hi (l.take j) ∧ Ge lo l[j] ∧ Bel l[j] hi := by
  rw [List.take_succ_eq_append_getElem h]
  constructor
  · intro h1
    exact ⟨fun k hk => h1 k (List.mem_append_left _ hk), h1 _ (List.mem_append_right _ (List.mem_singleton.2 rfl))⟩
  · rintro ⟨h1, h2⟩ k hk
    rcases List.mem_append.1 hk with hk | hk
    · exact h1 k hk
    · obtain rfl := List.mem_singleton.1 hk
      exact h2
/-- What the walk asks of the keys ahead of j. -/
def KeysOk (deep : Nat) (lo hi : Bd) (x : Nd) (j : Nat) : Prop := (least deep ≤ x.ks.length ∧ x.ks.length ≤ 4) ∧ Asc (x.ks.take j) ∧ Within lo hi (x.ks.take j)
theorem keysOk_end {deep : Nat} {lo hi : Bd} {x : Nd} : KeysOk deep lo hi x x.ks.length ↔ (least deep ≤ x.ks.length ∧ x.ks.length ≤ 4) ∧ Holds lo hi x.ks := by
  unfold KeysOk Holds
  rw [List.take_length]
theorem keysOk_zero {deep : Nat} {lo hi : Bd} {x : Nd} : KeysOk deep lo hi x 0 ↔ (least deep ≤ x.ks.length ∧ x.ks.length ≤ 4) := by
  unfold KeysOk
  simp [Asc, Within]
theorem keysOk_succ {deep : Nat} {lo hi : Bd} {x : Nd} {j : Nat} (h : j < x.ks.length) : KeysOk deep lo hi x (j + 1) ↔ KeysOk deep lo hi x j ∧ (0 < j → ∀ h2 : j - 1 < x.ks.length, x.ks[j - 1] < x.ks[j]) ∧ Ge lo x.ks[j] ∧ Bel x.ks[j] hi := by
  unfold KeysOk
  rw [asc_snoc h, within_snoc h]
  constructor
  · rintro ⟨a, ⟨b, c⟩, d, e, f⟩; exact ⟨⟨a, b, d⟩, c, e, f⟩
  · rintro ⟨⟨a, b, d⟩, c, e, f⟩; exact ⟨a, ⟨b, c⟩, d, e, f⟩
/-- What stands behind a node that was walked over. -/
def NdPost (w w' : World) (B gw gm : Nat) (A : Option Addr) (n c : Nat) (root : Int) (vo : Value) (out : List Pr) (deep : Nat) (R : Option (Tr × Sr)) : Prop :=
  ∃ vo', Fw gw gm vo w w' ∧ (∀ b, vo'.ownBlock = some b → vo.ownBlock = some b ∨ w.heap.size ≤ b) ∧ match R with
  | some (t, s') => Wk w' B gw gm A n c root s'.M vo' (out ++ prs (s'.L - deep) t) s'.L false
  | none => ∃ M' out' L', Wk w' B gw gm A n c root M' vo' out' L' true
set_option maxRecDepth 100000 in
set_option maxHeartbeats 4000000 in
theorem node_out (w0 w : World) (gw gm : Nat) (A : Option Addr) (n c : Nat) (root : Int) (M : List Nat) (vo : Value) (out : List Pr) (L : Nat) (k : Wk w w0.heap.size gw gm A n c root M vo out L false) (a : Int) (deep : Nat) (lv hv : Value) (hn : n ≤ 9223372036854775807) (hbad : a < 0 ∨ (n : Int) ≤ a ∨ ∃ i : Nat, a = i ∧ i < n ∧ i ∈ M) :
    Calls Try.prog 46 #[ptr gw, .int .i64 a, .int .i64 deep, lv, hv] w fun e w' => e = .returned (.tuple #[]) ∧ NdPost w w' w0.heap.size gw gm A n c root vo out deep none := by
  obtain ⟨c0, _, c2, _, _, c5, cf⟩ := k.cells
  have cf5 := cf 5
  have HK := Lib.hid k
  have hfin : NdPost w (w.setCell ⟨gw, 5, none⟩ (.bool true)) w0.heap.size gw gm A n c root vo out deep none := ⟨vo, Fw.set _, fun b hb => .inl hb, M, out, L, k.setBad true⟩
  have HFIN := Lib.hid hfin
  clear hfin cf
  have hway : a < 0 ∨ (¬ a < 0 ∧ (n : Int) ≤ a) ∨ (¬ a < 0 ∧ ¬ (n : Int) ≤ a ∧ ∃ i : Nat, a = i ∧ i < n ∧ i ∈ M) := by
    rcases hbad with h | h | h
    · exact .inl h
    · by_cases h0 : a < 0
      · exact .inl h0
      · exact .inr (.inl ⟨h0, h⟩)
    · obtain ⟨i, e, h1, h2⟩ := h
      exact .inr (.inr ⟨by omega, by omega, i, e, h1, h2⟩)
  clear hbad
  rcases hway with h1 | ⟨h1, h2⟩ | ⟨h1, h2, i, rfl, h3, h4⟩
  · clear k
    go_enter Try.func46, Try.ntmps46
    go_wp2
    exact bodyPost_ret (v := .tuple #[]) (by simp [results, Try.results46, go_sem]) rfl ⟨rfl, HFIN.out⟩
  · clear k
    go_enter Try.func46, Try.ntmps46
    go_wp2
    exact bodyPost_ret (v := .tuple #[]) (by simp [results, Try.results46, go_sem]) rfl ⟨rfl, HFIN.out⟩
  · obtain ⟨m0, _⟩ := k.metAt h3
    rw [decide_eq_true h4] at m0
    have h3i : (i : Int) < (n : Int) := by omega
    clear k h4
    go_enter Try.func46, Try.ntmps46
    go_wp2
    exact bodyPost_ret (v := .tuple #[]) (by simp [results, Try.results46, go_sem]) rfl ⟨rfl, HFIN.out⟩
end Go.Proofs.Ytkpjkglheegmgaa
