/- What the reader's token answers: the walk. Conditions: a reader in a block of its own, ahead of an octet; strconv.ErrRange holds an error. -/
import Derived.Test.YtlehmnbigocgdaaGreatDoorLvi
namespace Go.Proofs.YtlehmnbigocgdaaGreatDoor.Lx
open Go.RowKit
set_option linter.unusedSimpArgs false
set_option linter.unusedVariables false

/-- Block b holds a token. -/
def Tkn (w : World) (b : Nat) (a0 : Int) (a1 : ByteArray) (a2 a3 : Int) : Prop := w.heap[b]? = some (.cells #[.int .i64 a0, .string a1, .int .i64 a2, .int .i64 a3] 47 (0, 0))
theorem Tkn.lt {w : World} {b : Nat} {a0 : Int} {a1 : ByteArray} {a2 a3 : Int} (h : Tkn w b a0 a1 a2 a3) : b < w.heap.size := by
  rcases Nat.lt_or_ge b w.heap.size with h' | h'
  · exact h'
  · unfold Tkn at h; rw [Array.getElem?_eq_none h'] at h; cases h
theorem Tkn.grown {w w' : World} {b : Nat} {a0 : Int} {a1 : ByteArray} {a2 a3 : Int} {row : Option Nat} (h : Tkn w b a0 a1 a2 a3) (hg : w.grownBy w' row) (hne : row ≠ some b) : Tkn w' b a0 a1 a2 a3 :=
  (hg.block b h.lt (fun e => hne e.symm)).trans h
theorem Tkn.cells {w : World} {b : Nat} {a0 : Int} {a1 : ByteArray} {a2 a3 : Int} (h : Tkn w b a0 a1 a2 a3) :
    w.cell? ⟨b, 0, none⟩ = some (.int .i64 a0) ∧ w.cell? ⟨b, 1, none⟩ = some (.string a1) ∧ w.cell? ⟨b, 2, none⟩ = some (.int .i64 a2) ∧ w.cell? ⟨b, 3, none⟩ = some (.int .i64 a3) ∧
    w.frozen? ⟨b, 0, none⟩ = false ∧ w.frozen? ⟨b, 1, none⟩ = false ∧ w.frozen? ⟨b, 2, none⟩ = false ∧ w.frozen? ⟨b, 3, none⟩ = false := by
  unfold Tkn at h
  refine ⟨?_, ?_, ?_, ?_, ?_, ?_, ?_, ?_⟩ <;> simp [World.cell?, World.frozen?, h]


/-- What stands in memory while a token is taken: what is answered (not yet), the token so far, the reader. -/
structure TS (w wr : World) (g : Nat) (s : ByteArray) (j i : Nat) (a0 : Int) (a1 : ByteArray) (a2 : Int) : Prop where
  res : Tkn wr w.heap.size 0 ⟨#[]⟩ 0 0
  tok : Tkn wr (w.heap.size + 1) a0 a1 a2 j
  rdr : Rdr wr g s i
  grw : w.grownBy wr (some g)
  glt : g < w.heap.size
theorem TS.start {w : World} {g : Nat} {s : ByteArray} {j : Nat} (h : Rdr w g s j) :
    TS w ((w.alloc (.cells #[.int .i64 0, .string ⟨#[]⟩, .int .i64 0, .int .i64 0] 47)).alloc (.cells #[.int .i64 0, .string ⟨#[]⟩, .int .i64 0, .int .i64 j] 47)) g s j j 0 ⟨#[]⟩ 0 := by
  have g1 := World.grownBy_alloc w (.cells #[.int .i64 0, .string ⟨#[]⟩, .int .i64 0, .int .i64 0] 47) none
  have g2 := World.grownBy_alloc (w.alloc (.cells #[.int .i64 0, .string ⟨#[]⟩, .int .i64 0, .int .i64 0] 47)) (.cells #[.int .i64 0, .string ⟨#[]⟩, .int .i64 0, .int .i64 j] 47) none
  have h1 : Tkn (w.alloc (.cells #[.int .i64 0, .string ⟨#[]⟩, .int .i64 0, .int .i64 0] 47)) w.heap.size 0 ⟨#[]⟩ 0 0 := heap_alloc_new w _
  have h2 := heap_alloc_new (w.alloc (.cells #[.int .i64 0, .string ⟨#[]⟩, .int .i64 0, .int .i64 0] 47)) (.cells #[.int .i64 0, .string ⟨#[]⟩, .int .i64 0, .int .i64 j] 47)
  rw [World.size_alloc] at h2
  exact ⟨h1.grown g2 (by simp), h2, (h.grown g1 (by simp)).grown g2 (by simp), grown_none (grownBy_trans g1 g2 (.inl rfl)) _, h.lt⟩
theorem TS.read {w wr w1 : World} {g : Nat} {s : ByteArray} {j i k : Nat} {a0 a2 : Int} {a1 : ByteArray} (h : TS w wr g s j i a0 a1 a2) (hG : wr.grownBy w1 (some g)) (hR : Rdr w1 g s k) : TS w w1 g s j k a0 a1 a2 :=
  ⟨h.res.grown hG (by simp; have := h.glt; omega), h.tok.grown hG (by simp; have := h.glt; omega), hR, grownBy_trans h.grw hG (.inl rfl), h.glt⟩
theorem TS.drewN {w wr : World} {g : Nat} {s : ByteArray} {j i : Nat} {a0 a2 : Int} {a1 : ByteArray} (h : TS w wr g s j i a0 a1 a2) (n : Nat) : TS w (wr.drewN n) g s j i a0 a1 a2 :=
  h.read (grownBy_drewN _ _ _) (h.rdr.drewN n)
theorem TS.own {w wr w1 : World} {g : Nat} {s : ByteArray} {j i : Nat} {a0 a2 b0 b2 : Int} {a1 b1 : ByteArray} (h : TS w wr g s j i a0 a1 a2) (hG : wr.grownBy w1 (some (w.heap.size + 1))) (ht : Tkn w1 (w.heap.size + 1) b0 b1 b2 j) : TS w w1 g s j i b0 b1 b2 :=
  ⟨h.res.grown hG (by simp), ht, h.rdr.grown hG (by simp; have := h.glt; omega), grownBy_trans h.grw hG (.inr fun k e => by simp at e; omega), h.glt⟩
theorem TS.set0 {w wr : World} {g : Nat} {s : ByteArray} {j i : Nat} {a0 a2 : Int} {a1 : ByteArray} (h : TS w wr g s j i a0 a1 a2) (b : Int) : TS w (wr.setCell ⟨w.heap.size + 1, 0, none⟩ (.int .i64 b)) g s j i b a1 a2 :=
  h.own (grownBy_setCell _ _ _ _) (by have := heap_setCell_same wr (w.heap.size + 1) 0 _ 47 (.int .i64 b) h.tok; unfold Tkn; rw [this]; rfl)
theorem TS.set1 {w wr : World} {g : Nat} {s : ByteArray} {j i : Nat} {a0 a2 : Int} {a1 : ByteArray} (h : TS w wr g s j i a0 a1 a2) (b : ByteArray) : TS w (wr.setCell ⟨w.heap.size + 1, 1, none⟩ (.string b)) g s j i a0 b a2 :=
  h.own (grownBy_setCell _ _ _ _) (by have := heap_setCell_same wr (w.heap.size + 1) 1 _ 47 (.string b) h.tok; unfold Tkn; rw [this]; rfl)
theorem TS.set2 {w wr : World} {g : Nat} {s : ByteArray} {j i : Nat} {a0 a2 : Int} {a1 : ByteArray} (h : TS w wr g s j i a0 a1 a2) (b : Int) : TS w (wr.setCell ⟨w.heap.size + 1, 2, none⟩ (.int .i64 b)) g s j i a0 a1 b :=
  h.own (grownBy_setCell _ _ _ _) (by have := heap_setCell_same wr (w.heap.size + 1) 2 _ 47 (.int .i64 b) h.tok; unfold Tkn; rw [this]; rfl)

theorem TS.fin {w wr : World} {g : Nat} {s : ByteArray} {j i : Nat} {a0 a2 : Int} {a1 : ByteArray} (h : TS w wr g s j i a0 a1 a2) (v0 v1 v2 v3 : Value) :
    Rdr ((((wr.setCell ⟨w.heap.size, 0, none⟩ v0).setCell ⟨w.heap.size, 1, none⟩ v1).setCell ⟨w.heap.size, 2, none⟩ v2).setCell ⟨w.heap.size, 3, none⟩ v3) g s i ∧
    w.grownBy ((((wr.setCell ⟨w.heap.size, 0, none⟩ v0).setCell ⟨w.heap.size, 1, none⟩ v1).setCell ⟨w.heap.size, 2, none⟩ v2).setCell ⟨w.heap.size, 3, none⟩ v3) (some g) := by
  have hne : some w.heap.size ≠ some g := by have := h.glt; simp; omega
  have g0 := grownBy_setCell wr w.heap.size 0 v0
  have g1 := grownBy_setCell (wr.setCell ⟨w.heap.size, 0, none⟩ v0) w.heap.size 1 v1
  have g2 := grownBy_setCell ((wr.setCell ⟨w.heap.size, 0, none⟩ v0).setCell ⟨w.heap.size, 1, none⟩ v1) w.heap.size 2 v2
  have g3 := grownBy_setCell (((wr.setCell ⟨w.heap.size, 0, none⟩ v0).setCell ⟨w.heap.size, 1, none⟩ v1).setCell ⟨w.heap.size, 2, none⟩ v2) w.heap.size 3 v3
  have g4 := grownBy_trans (grownBy_trans (grownBy_trans g0 g1 (.inl rfl)) g2 (.inl rfl)) g3 (.inl rfl)
  exact ⟨h.rdr.grown g4 hne, grownBy_trans h.grw g4 (.inr fun k e => by simp at e; omega)⟩

/-- As TS, the reader's place left open. -/
structure TH (w wr : World) (g : Nat) (j : Nat) (a0 : Int) (a1 : ByteArray) (a2 : Int) : Prop where
  res : Tkn wr w.heap.size 0 ⟨#[]⟩ 0 0
  tok : Tkn wr (w.heap.size + 1) a0 a1 a2 j
  grw : w.grownBy wr (some g)
  glt : g < w.heap.size
theorem TS.half {w wr w1 : World} {g : Nat} {s : ByteArray} {j i : Nat} {a0 a2 : Int} {a1 : ByteArray} (h : TS w wr g s j i a0 a1 a2) (hG : wr.grownBy w1 (some g)) : TH w w1 g j a0 a1 a2 :=
  ⟨h.res.grown hG (by simp; have := h.glt; omega), h.tok.grown hG (by simp; have := h.glt; omega), grownBy_trans h.grw hG (.inl rfl), h.glt⟩
theorem TH.set1 {w wr : World} {g : Nat} {j : Nat} {a0 a2 : Int} {a1 : ByteArray} (h : TH w wr g j a0 a1 a2) (b : ByteArray) : TH w (wr.setCell ⟨w.heap.size + 1, 1, none⟩ (.string b)) g j a0 b a2 := by
  have hG := grownBy_setCell wr (w.heap.size + 1) 1 (.string b)
  exact ⟨h.res.grown hG (by simp), by have := heap_setCell_same wr (w.heap.size + 1) 1 _ 47 (.string b) h.tok; unfold Tkn; rw [this]; rfl, grownBy_trans h.grw hG (.inr fun k e => by simp at e; omega), h.glt⟩
theorem TH.fin {w wr : World} {g : Nat} {j : Nat} {a0 a2 : Int} {a1 : ByteArray} (h : TH w wr g j a0 a1 a2) (v0 v1 v2 v3 : Value) :
    w.grownBy ((((wr.setCell ⟨w.heap.size, 0, none⟩ v0).setCell ⟨w.heap.size, 1, none⟩ v1).setCell ⟨w.heap.size, 2, none⟩ v2).setCell ⟨w.heap.size, 3, none⟩ v3) (some g) := by
  have g0 := grownBy_setCell wr w.heap.size 0 v0
  have g1 := grownBy_setCell (wr.setCell ⟨w.heap.size, 0, none⟩ v0) w.heap.size 1 v1
  have g2 := grownBy_setCell ((wr.setCell ⟨w.heap.size, 0, none⟩ v0).setCell ⟨w.heap.size, 1, none⟩ v1) w.heap.size 2 v2
  have g3 := grownBy_setCell (((wr.setCell ⟨w.heap.size, 0, none⟩ v0).setCell ⟨w.heap.size, 1, none⟩ v1).setCell ⟨w.heap.size, 2, none⟩ v2) w.heap.size 3 v3
  have g4 := grownBy_trans (grownBy_trans (grownBy_trans g0 g1 (.inl rfl)) g2 (.inl rfl)) g3 (.inl rfl)
  exact grownBy_trans h.grw g4 (.inr fun k e => by simp at e; omega)
end Go.Proofs.YtlehmnbigocgdaaGreatDoor.Lx
