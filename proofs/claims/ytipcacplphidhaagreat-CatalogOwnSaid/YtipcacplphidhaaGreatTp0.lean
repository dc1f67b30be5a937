/- Statements as plain data, how they are read in memory, and which are formed: plain mathematics. Conditions: none. -/
import Derived.Test.YtipcacplphidhaaGreatTn
import Derived.Test.YtipcacplphidhaaGreatTo
namespace Go.Proofs.YtipcacplphidhaaGreat.Sy
open Go.RowKit
set_option linter.unusedSimpArgs false
set_option linter.unusedVariables false

/-- A statement. -/
structure St (n : Nat) where
  kind : Int
  tb : ByteArray
  cols : List Cl
  key : ByteArray
  ix : ByteArray
  rows : List (List (Ar n))
  sets : List (Sx n)
  items : List (Ar n)
  jn : ByteArray
  on : List (Ar n)
  wh : List (Ar n)
  gr : List (Ar n)
  ord : List Od
  lim : Int
/-- Where a slice lies, and its room. -/
structure Hd where
  a : Option Addr
  c : Nat
/-- Where a statement's slices lie. -/
structure Hs where
  C : Hd
  R : Hd
  S : Hd
  I : Hd
  O : Hd
  W : Hd
  G : Hd
  D : Hd
@[reducible] def St.cs {n : Nat} (x : St n) (h : Hs) : Array Value := #[.int .i64 x.kind, .string x.tb, .slice h.C.a x.cols.length h.C.c, .string x.key, .string x.ix, .slice h.R.a x.rows.length h.R.c, .slice h.S.a x.sets.length h.S.c, .slice h.I.a x.items.length h.I.c, .string x.jn,
  .slice h.O.a x.on.length h.O.c, .slice h.W.a x.wh.length h.W.c, .slice h.G.a x.gr.length h.G.c, .slice h.D.a x.ord.length h.D.c, .int .i64 x.lim]
@[reducible] def St.val {n : Nat} (x : St n) (h : Hs) : Value := .agg (x.cs h)
/-- The statement's slices read as its lists. -/
structure RdSt {n : Nat} (P : Nat → Prop) (w : World) (x : St n) (h : Hs) : Prop where
  C : RdK KC P w h.C.a h.C.c x.cols
  R : RdK (KR n) P w h.R.a h.R.c x.rows
  S : RdK (KS n) P w h.S.a h.S.c x.sets
  I : RdK (KE n) P w h.I.a h.I.c x.items
  O : RdK (KE n) P w h.O.a h.O.c x.on
  W : RdK (KE n) P w h.W.a h.W.c x.wh
  G : RdK (KE n) P w h.G.a h.G.c x.gr
  D : RdK KO P w h.D.a h.D.c x.ord
theorem RdSt.below {n : Nat} {S : Nat → Prop} {w w' : World} {x : St n} {h : Hs} (r : RdSt S w x h) (hb : Below w.heap.size w w') : RdSt S w' x h :=
  ⟨r.C.below KC_ok hb, r.R.below (KR_ok n) hb, r.S.below (KS_ok n) hb, r.I.below (KE_ok n) hb, r.O.below (KE_ok n) hb, r.W.below (KE_ok n) hb, r.G.below (KE_ok n) hb, r.D.below KO_ok hb⟩
theorem RdSt.mono {n : Nat} {S S' : Nat → Prop} {w : World} {x : St n} {h : Hs} (r : RdSt S w x h) (hk : ∀ b, S b → b < w.heap.size → S' b) : RdSt S' w x h :=
  ⟨r.C.mono KC_ok hk, r.R.mono (KR_ok n) hk, r.S.mono (KS_ok n) hk, r.I.mono (KE_ok n) hk, r.O.mono (KE_ok n) hk, r.W.mono (KE_ok n) hk, r.G.mono (KE_ok n) hk, r.D.mono KO_ok hk⟩
theorem RdSt.any {n : Nat} {S : Nat → Prop} {w : World} {x : St n} {h : Hs} (r : RdSt S w x h) : RdSt Any w x h := r.mono fun _ _ _ => trivial

theorem cells14 {w1 : World} {b : Nat} {a0 a1 a2 a3 a4 a5 a6 a7 a8 a9 a10 a11 a12 a13 : Value} {t : TypeId} (h : w1.heap[b]? = some (.cells #[a0, a1, a2, a3, a4, a5, a6, a7, a8, a9, a10, a11, a12, a13] t (0, 0))) :
    w1.cell? ⟨b, 0, none⟩ = some a0 ∧ w1.cell? ⟨b, 1, none⟩ = some a1 ∧ w1.cell? ⟨b, 2, none⟩ = some a2 ∧ w1.cell? ⟨b, 3, none⟩ = some a3 ∧ w1.cell? ⟨b, 4, none⟩ = some a4 ∧ w1.cell? ⟨b, 5, none⟩ = some a5 ∧ w1.cell? ⟨b, 6, none⟩ = some a6 ∧
    w1.cell? ⟨b, 7, none⟩ = some a7 ∧ w1.cell? ⟨b, 8, none⟩ = some a8 ∧ w1.cell? ⟨b, 9, none⟩ = some a9 ∧ w1.cell? ⟨b, 10, none⟩ = some a10 ∧ w1.cell? ⟨b, 11, none⟩ = some a11 ∧ w1.cell? ⟨b, 12, none⟩ = some a12 ∧ w1.cell? ⟨b, 13, none⟩ = some a13 := by simp [World.cell?, h]
theorem cells2 {w1 : World} {b : Nat} {a0 a1 : Value} {t : TypeId} (h : w1.heap[b]? = some (.cells #[a0, a1] t (0, 0))) :
    w1.cell? ⟨b, 0, none⟩ = some a0 ∧ w1.cell? ⟨b, 1, none⟩ = some a1 ∧ w1.frozen? ⟨b, 0, none⟩ = false ∧ w1.frozen? ⟨b, 1, none⟩ = false := by simp [World.cell?, World.frozen?, h]
theorem cells24 {w1 : World} {b : Nat} {k : Nat} {t : TypeId} (h : w1.heap[b]? = some (.cells (gRow k).toArray t (0, 0))) :
    w1.cell? ⟨b, 0, none⟩ = some (.int .i64 (gL k 0)) ∧ w1.cell? ⟨b, 1, none⟩ = some (.int .i64 (gH k 0)) ∧ w1.cell? ⟨b, 2, none⟩ = some (.int .i64 (gL k 1)) ∧ w1.cell? ⟨b, 3, none⟩ = some (.int .i64 (gH k 1)) ∧ w1.cell? ⟨b, 4, none⟩ = some (.int .i64 (gL k 2)) ∧ w1.cell? ⟨b, 5, none⟩ = some (.int .i64 (gH k 2)) ∧ w1.cell? ⟨b, 6, none⟩ = some (.int .i64 (gL k 3)) ∧ w1.cell? ⟨b, 7, none⟩ = some (.int .i64 (gH k 3)) ∧ w1.cell? ⟨b, 8, none⟩ = some (.int .i64 (gL k 4)) ∧ w1.cell? ⟨b, 9, none⟩ = some (.int .i64 (gH k 4)) ∧ w1.cell? ⟨b, 10, none⟩ = some (.int .i64 (gL k 5)) ∧ w1.cell? ⟨b, 11, none⟩ = some (.int .i64 (gH k 5)) ∧ w1.cell? ⟨b, 12, none⟩ = some (.int .i64 (gL k 6)) ∧ w1.cell? ⟨b, 13, none⟩ = some (.int .i64 (gH k 6)) ∧ w1.cell? ⟨b, 14, none⟩ = some (.int .i64 (gL k 7)) ∧ w1.cell? ⟨b, 15, none⟩ = some (.int .i64 (gH k 7)) ∧ w1.cell? ⟨b, 16, none⟩ = some (.int .i64 (gL k 8)) ∧ w1.cell? ⟨b, 17, none⟩ = some (.int .i64 (gH k 8)) ∧ w1.cell? ⟨b, 18, none⟩ = some (.int .i64 (gL k 9)) ∧ w1.cell? ⟨b, 19, none⟩ = some (.int .i64 (gH k 9)) ∧ w1.cell? ⟨b, 20, none⟩ = some (.int .i64 (gL k 10)) ∧ w1.cell? ⟨b, 21, none⟩ = some (.int .i64 (gH k 10)) ∧ w1.cell? ⟨b, 22, none⟩ = some (.int .i64 (gL k 11)) ∧ w1.cell? ⟨b, 23, none⟩ = some (.int .i64 (gH k 11)) := by
  simp [World.cell?, h, gRow]
theorem heap_lt {w : World} {b : Nat} {o : Obj} (h : w.heap[b]? = some o) : b < w.heap.size := by
  rcases Nat.lt_or_ge b w.heap.size with h' | h'
  · exact h'
  · rw [Array.getElem?_eq_none h'] at h; cases h

/-- Its names may be. -/
def namedB {n : Nat} (k : Nat) (x : St n) : Bool := hasNm (gL k 0) (gH k 0) x.tb && hasNm (gL k 1) (gH k 1) x.key && hasNm (gL k 2) (gH k 2) x.ix && hasNm (gL k 3) (gH k 3) x.jn
def onN {n : Nat} (x : St n) : Int := if x.jn.toList.isEmpty = true then 0 else 1
/-- Its lists are as long as may be. -/
def countedB {n : Nat} (k : Nat) (x : St n) : Bool :=
  spB (gL k 4) (gH k 4) x.cols.length && spB (gL k 5) (gH k 5) x.rows.length && spB (gL k 6) (gH k 6) x.sets.length && spB (gL k 7) (gH k 7) x.items.length && spB (onN x) (onN x) x.on.length &&
  spB (gL k 8) (gH k 8) x.wh.length && spB (gL k 9) (gH k 9) x.gr.length && spB (gL k 10) (gH k 10) x.ord.length && spB (gL k 11) (gH k 11) x.lim
/-- It may be, but for its expressions. -/
def formedB {n : Nat} (x : St n) : Bool := namedB x.kind.toNat x && countedB x.kind.toNat x && x.cols.all colB && x.rows.all rowB && x.sets.all setB && x.ord.all ordB
end Go.Proofs.YtipcacplphidhaaGreat.Sy
