/- A table as a list of values: plain mathematics; the walks of text, number and truth. Conditions: texts that every machine keeps. -/
import Derived.Test.YtfmjpikibfdlaaaNp
import Derived.Test.YtfmjpikibfdlaaaNq
namespace Go.Proofs.Ytfmjpikibfdlaaa
open Go.RowKit Go.Sort Go.Maps
set_option linter.unusedSimpArgs false
set_option linter.unusedVariables false

/-- A value. -/
structure V3 where
  k : Int
  n : Int
  s : ByteArray
@[reducible] def V3.val (v : V3) : Value := .agg #[.int .i64 v.k, .int .i64 v.n, .string v.s]
def v3C (v : V3) : List Value := [.int .i64 v.k, .int .i64 v.n, .string v.s]
theorem v3C_len (v : V3) : (v3C v).length = 3 := rfl
def eT : ByteArray := ⟨#[]⟩
def vT (s : ByteArray) : V3 := ⟨3, 0, s⟩
def vN (n : Int) : V3 := ⟨1, n, eT⟩
def vB (b : Bool) : V3 := ⟨2, if b = true then 1 else 0, eT⟩
def colV (c : Cl) : List V3 := [vT c.m, vN c.k, vB c.nn]
def ixV (x : Ix) : List V3 := [vT x.m, vN x.c]
/-- What Encode makes of a table. -/
def encV (t : Tb) : List V3 := [vT t.m, vN t.key, vN t.cols.length] ++ (t.cols.flatMap colV ++ (vN t.idx.length :: t.idx.flatMap ixV))
/-- A value's three cells at p. -/
def CellV (w : World) (p : Addr) (v : V3) : Prop := w.cell? p = some (.int .i64 v.k) ∧ w.cell? ⟨p.block, p.off + 1, none⟩ = some (.int .i64 v.n) ∧ w.cell? ⟨p.block, p.off + 2, none⟩ = some (.string v.s)
theorem CellV.below {w w' : World} {p : Addr} {v : V3} (h : CellV w p v) (hb : Below w.heap.size w w') : CellV w' p v :=
  ⟨(hb.cell (cell_lt h.1)).trans h.1, (hb.cell (p := ⟨p.block, p.off + 1, none⟩) (cell_lt h.2.1)).trans h.2.1, (hb.cell (p := ⟨p.block, p.off + 2, none⟩) (cell_lt h.2.2)).trans h.2.2⟩
def RdV (w : World) (A : Option Addr) (l : List V3) : Prop := l ≠ [] → ∃ ad, A = some ad ∧ ∀ j v, l[j]? = some v → CellV w (ad.add (j * 3)) v
theorem RdV.below {w w' : World} {A : Option Addr} {l : List V3} (h : RdV w A l) (hb : Below w.heap.size w w') : RdV w' A l := fun hl => by
  obtain ⟨ad, e, hc⟩ := h hl
  exact ⟨ad, e, fun j v hj => (hc j v hj).below hb⟩
theorem RdV.at_ {w : World} {A : Option Addr} {l : List V3} {j : Nat} (h : RdV w A l) (hj : j < l.length) : ∃ ad, A = some ad ∧ CellV w (ad.add (j * 3)) l[j] := by
  obtain ⟨ad, e, hc⟩ := h (by intro e; subst e; simp at hj)
  exact ⟨ad, e, hc j _ (List.getElem?_eq_getElem hj)⟩
/-- Values of the call's own. -/
abbrev OwnE (w : World) (B : Nat) (v : Value) (l : List V3) : Prop := w.ownsRow B 86 3 v l.length (l.flatMap v3C)
theorem v3C_one (l : List V3) : ∀ u ∈ l.flatMap v3C, u.oneCell' = true := fun u hu => by
  obtain ⟨v, _, hv⟩ := List.mem_flatMap.1 hu
  simp [v3C] at hv
  rcases hv with rfl | rfl | rfl <;> rfl
theorem ownE_rd {w : World} {B : Nat} {v : Value} {l : List V3} (h : OwnE w B v l) : ∃ A c, v = .slice A l.length c ∧ RdV w A l ∧ (A = none → l.length = 0 ∧ c = 0) ∧ l.length ≤ c := by
  rcases h.2 with ⟨rfl, h0⟩ | ⟨g, cap, cur, rfl, _, _, hle, _⟩
  · exact ⟨none, 0, by rw [h0], fun hl => absurd (List.eq_nil_of_length_eq_zero h0) hl, fun _ => ⟨h0, rfl⟩, by omega⟩
  · refine ⟨some ⟨g, 0, none⟩, cap, rfl, fun _ => ⟨_, rfl, fun j x hj => ?_⟩, (fun e => by cases e), hle⟩
    have hc := h.cells (g := g) rfl
    have h0 := hc (j * 3 + 0) _ (flatK_get v3C 3 v3C_len l j 0 x hj (by omega))
    have h1 := hc (j * 3 + 1) _ (flatK_get v3C 3 v3C_len l j 1 x hj (by omega))
    have h2 := hc (j * 3 + 2) _ (flatK_get v3C 3 v3C_len l j 2 x hj (by omega))
    rw [add_lit] at h0 h1 h2
    rw [add_lit]
    refine ⟨h0, ?_, ?_⟩
    · rw [← Nat.add_assoc] at h1; exact h1
    · rw [← Nat.add_assoc] at h2; exact h2
theorem owns_new (W : World) (B : Nat) (e : TypeId) (k n : Nat) (cs : Array Value) (xs : List Value) (hB : B ≤ W.heap.size) (h : cs.toList = xs) (hx : xs.length = n * k) (hn : n ≤ maxLen) : (W.alloc (.cells cs e)).ownsRow B e k (.slice (some ⟨W.heap.size, 0, none⟩) n n) n xs :=
  ⟨hx, .inr ⟨W.heap.size, n, cs, rfl, hB, heap_alloc_new W _, Nat.le_refl _, hn, by rw [← hx, ← h]; simp, by rw [h, ← hx, List.take_length]⟩⟩

set_option maxHeartbeats 1000000 in
theorem text_any (s : ByteArray) (w : World) (hs : s.size ≤ 140737488355328) : Calls Try.prog 34 #[.string s] w fun e w' => e = .returned (vT s).val ∧ Below w.heap.size w w' := by
  have hb1 := below1 w (.cells #[.int .i64 0, .int .i64 0, .string ⟨#[]⟩] 86)
  have h1 := heap_alloc_new w (.cells #[.int .i64 0, .int .i64 0, .string ⟨#[]⟩] 86)
  have HC := Lib.hid fun W => sClone_any s W hs
  have HB1 := Lib.hid hb1
  have H1 := Lib.hid h1
  clear hb1 h1
  go_enter Try.func34, Try.ntmps34
  go_wp2_with (go_at_call 30; (with_reducible refine (HC.out _).mono ?_); rintro e w2 ⟨rfl, hb⟩; have h2 := row_below H1.out hb; have q0 := cell_of_row w2 w.heap.size 0 _ _ (0, 0) h2; have q1 := cell_of_row w2 w.heap.size 1 _ _ (0, 0) h2; have q2 := cell_of_row w2 w.heap.size 2 _ _ (0, 0) h2; have f0 := frozen_of_row w2 w.heap.size 0 _ _ h2; have f1 := frozen_of_row w2 w.heap.size 1 _ _ h2; have f2 := frozen_of_row w2 w.heap.size 2 _ _ h2; simp at q0 q1 q2; have HB2 := Lib.hid (thn HB1.out hb); clear hb h2)
  exact bodyPost_ret (v := (vT s).val) (by simp [results, Try.results34, go_sem, q0, q1, q2, vT]) rfl ⟨rfl, below_set (below_set (below_set HB2.out ⟨w.heap.size, 0, none⟩ (Nat.le_refl _) _) ⟨w.heap.size, 1, none⟩ (Nat.le_refl _) _) ⟨w.heap.size, 2, none⟩ (Nat.le_refl _) _⟩
set_option maxHeartbeats 1000000 in
theorem number_any (n : Int) (w : World) : Calls Try.prog 35 #[.int .i64 n] w fun e w' => e = .returned (vN n).val ∧ Below w.heap.size w w' := by
  go_enter Try.func35, Try.ntmps35
  go_wp2
  exact bodyPost_ret (v := (vN n).val) (by simp [results, Try.results35, go_sem, vN, eT]) rfl ⟨rfl, by first | exact below1 _ _ | exact below_cells (Nat.le_refl _) _ _ (below1 _ _)⟩
set_option maxHeartbeats 1000000 in
theorem truth_any (b : Bool) (w : World) : Calls Try.prog 36 #[.bool b] w fun e w' => e = .returned (vB b).val ∧ Below w.heap.size w w' := by
  cases b
  · go_enter Try.func36, Try.ntmps36
    go_wp2
    exact bodyPost_ret (v := (vB false).val) (by simp [results, Try.results36, go_sem, vB, eT]) rfl ⟨rfl, (below1 _ _).alloc (by simp) _⟩
  · go_enter Try.func36, Try.ntmps36
    go_wp2
    exact bodyPost_ret (v := (vB true).val) (by simp [results, Try.results36, go_sem, vB, eT]) rfl ⟨rfl, (below1 _ _).alloc (by simp) _⟩
end Go.Proofs.Ytfmjpikibfdlaaa
