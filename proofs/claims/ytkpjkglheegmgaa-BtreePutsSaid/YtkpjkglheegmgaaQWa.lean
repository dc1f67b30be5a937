/- What is written into nodes, and what stays. Conditions: none. -/
import Derived.Test.YtkpjkglheegmgaaQc
import Derived.Test.YtkpjkglheegmgaaQFe0
import Derived.Laws.Rows
namespace Go.Proofs.Ytkpjkglheegmgaa
open Go.RowKit
set_option linter.unusedSimpArgs false
set_option linter.unusedVariables false

/-- Only blocks of S, and new ones, are written; all that is firm is as it was. -/
structure Fr (S : Nat → Prop) (w w' : World) : Prop where
  os : w'.os = w.os
  tape : w'.tape = w.tape
  output : w'.output = w.output
  size : w.heap.size ≤ w'.heap.size
  kv : Kv w w'
  block : ∀ b, b < w.heap.size → ¬ S b → w'.heap[b]? = w.heap[b]?
section
variable {S T : Nat → Prop} {a b c w w' : World}
theorem Fr.of_below (h : Below w.heap.size w w') : Fr S w w' := ⟨h.os, h.tape, h.output, h.size, Kv.of_below h, fun b hb _ => h.block b hb⟩
theorem Fr.refl (w : World) : Fr S w w := Fr.of_below (Below.refl _ _)
theorem Fr.trans (h : Fr S a b) (k : Fr T b c) (hT : ∀ x, T x → x < a.heap.size → S x) : Fr S a c :=
  ⟨k.os.trans h.os, k.tape.trans h.tape, k.output.trans h.output, Nat.le_trans h.size k.size, h.kv.trans k.kv, fun x hx hs => (k.block x (Nat.lt_of_lt_of_le hx h.size) fun ht => hs (hT x ht hx)).trans (h.block x hx hs)⟩
theorem Fr.thn (h : Fr S a b) (k : Below b.heap.size b c) : Fr S a c := h.trans (T := fun _ => False) (Fr.of_below k) fun _ h => h.elim
theorem Fr.mono (h : Fr S a b) (hS : ∀ x, S x → x < a.heap.size → T x) : Fr T a b :=
  ⟨h.os, h.tape, h.output, h.size, h.kv, fun x hx ht => h.block x hx fun hs => ht (hS x hs hx)⟩
theorem Fr.drew (h : Fr S a b) : Fr S a b.drew := ⟨h.os, h.tape, h.output, h.size, h.kv, h.block⟩
theorem Fr.below (h : Fr S a b) {B : Nat} (hB : B ≤ a.heap.size) (hS : ∀ x, S x → B ≤ x) : Below B a b :=
  ⟨h.os, h.tape, h.output, h.size, fun k hk => h.block k (by omega) fun hs => by have := hS k hs; omega⟩
theorem Fr.set {g o : Nat} {u : Value} (v : Value) (hp : w.cell? ⟨g, o, none⟩ = some u) (hu : firm u = false) : Fr (fun b => b = g) w (w.setCell ⟨g, o, none⟩ v) :=
  ⟨rfl, rfl, rfl, by simp [World.setCell], Kv.set v hp hu, fun b _ hb => heap_setCell_other w ⟨g, o, none⟩ b v hb⟩
end
section
variable {w w' : World} {g : Nat} {t : Tr} {gs : List Nat} {h : Hd}
theorem RdB.same (b : RdB w g t gs h) {ks vs : List Key} {cs : List Tr} (h1 : t.ks = ks) (h2 : t.vs = vs) (h3 : t.cs.length = cs.length) : RdB w g (.mk ks vs cs) gs h := by
  subst h1 h2
  exact ⟨by rw [Tr.ks_mk, Tr.vs_mk, Tr.cs_mk, ← h3]; exact b.blk, b.k, b.v, by rw [Tr.cs_mk, ← h3]; exact b.c⟩
theorem RdB.fr {S : Nat → Prop} (b : RdB w g t gs h) (f : Fr S w w') (hg : ¬ S g) : RdB w' g t gs h := b.keep f.kv (f.block g b.lt hg)
theorem RdB.below (b : RdB w g t gs h) (f : Below w.heap.size w w') : RdB w' g t gs h := b.keep (Kv.of_below f) (f.block g b.lt)
theorem RdB.setK (b : RdB w g t gs h) {A : Option Addr} {n c : Nat} {ks : List Key} (hr : Rd w A n c (strs ks)) : RdB (w.setCell ⟨g, 0, none⟩ (.slice A n c)) g (.mk ks t.vs t.cs) gs ⟨A, c, h.vA, h.vc, h.cA, h.cc⟩ := by
  have hn : ks.length = n := by rw [← strs_len]; exact hr.len
  have hk := Kv.set (.slice A n c) b.cells.1 rfl
  exact ⟨by rw [heap_setCell_same w g 0 _ _ _ b.blk, Tr.ks_mk, Tr.vs_mk, Tr.cs_mk, hn]; simp, by rw [Tr.ks_mk, hn]; exact hr.kv (strs_firm _) hk, b.v.kv (strs_firm _) hk, b.c.kv (ptrs_firm _) hk⟩
theorem RdB.setV (b : RdB w g t gs h) {A : Option Addr} {n c : Nat} {vs : List Key} (hr : Rd w A n c (strs vs)) : RdB (w.setCell ⟨g, 1, none⟩ (.slice A n c)) g (.mk t.ks vs t.cs) gs ⟨h.kA, h.kc, A, c, h.cA, h.cc⟩ := by
  have hn : vs.length = n := by rw [← strs_len]; exact hr.len
  have hk := Kv.set (.slice A n c) b.cells.2.1 rfl
  exact ⟨by rw [heap_setCell_same w g 1 _ _ _ b.blk, Tr.ks_mk, Tr.vs_mk, Tr.cs_mk, hn]; simp, b.k.kv (strs_firm _) hk, by rw [Tr.vs_mk, hn]; exact hr.kv (strs_firm _) hk, b.c.kv (ptrs_firm _) hk⟩
theorem RdB.setC (b : RdB w g t gs h) {A : Option Addr} {n c : Nat} {gs' : List Nat} (hr : Rd w A n c (ptrs gs')) (cs : List Tr) (hn : cs.length = n) : RdB (w.setCell ⟨g, 2, none⟩ (.slice A n c)) g (.mk t.ks t.vs cs) gs' ⟨h.kA, h.kc, h.vA, h.vc, A, c⟩ := by
  have hk := Kv.set (.slice A n c) b.cells.2.2 rfl
  exact ⟨by rw [heap_setCell_same w g 2 _ _ _ b.blk, Tr.ks_mk, Tr.vs_mk, Tr.cs_mk, hn]; simp, b.k.kv (strs_firm _) hk, b.v.kv (strs_firm _) hk, by rw [Tr.cs_mk, hn]; exact hr.kv (ptrs_firm _) hk⟩
theorem RdB.new (w : World) : RdB (w.alloc (.cells #[.slice none 0 0, .slice none 0 0, .slice none 0 0] 99)) w.heap.size (.mk [] [] []) [] ⟨none, 0, none, 0, none, 0⟩ :=
  ⟨by rw [heap_alloc_new]; rfl, Rd.nothing _, Rd.nothing _, Rd.nothing _⟩
theorem RdB.set (b : RdB w g t gs h) {o : Nat} {u : Value} (v : Value) {g' : Nat} (hp : w.cell? ⟨g', o, none⟩ = some u) (hu : firm u = false) (hg : g ≠ g') : RdB (w.setCell ⟨g', o, none⟩ v) g t gs h := b.fr (Fr.set v hp hu) hg
end
end Go.Proofs.Ytkpjkglheegmgaa
