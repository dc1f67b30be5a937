/- Catalogs: lists of tables, how they lie in memory, and which may be: plain mathematics. Conditions: none. -/
import Derived.Test.YtddeaiciochggaaJx
namespace Go.Proofs.Ytddeaiciochggaa
open Go.RowKit Go.Sort Go.Maps
set_option linter.unusedSimpArgs false
set_option linter.unusedVariables false

/-- A table's slices read as its lists. -/
structure TdOk (w : World) (t : Tb) (cA iA : Option Addr) (cc ic : Nat) : Prop where
  c : RdC w cA t.cols
  x : RdX w iA t.idx
  cn : cA = none → t.cols.length = 0 ∧ cc = 0
  xn : iA = none → t.idx.length = 0 ∧ ic = 0
  cb : t.cols.length * 32 ≤ 140737488355328
  xb : t.idx.length * 24 ≤ 140737488355328 - 24
theorem TdOk.kept {w w' : World} {t : Tb} {cA iA : Option Addr} {cc ic : Nat} (h : TdOk w t cA iA cc ic) (hk : Kp w w') : TdOk w' t cA iA cc ic := ⟨h.c.kept hk, h.x.kept hk, h.cn, h.xn, h.cb, h.xb⟩
theorem TdOk.below {w w' : World} {t : Tb} {cA iA : Option Addr} {cc ic : Nat} (h : TdOk w t cA iA cc ic) (hb : Below w.heap.size w w') : TdOk w' t cA iA cc ic := h.kept (Kp.of_below hb)
/-- The four cells of a table at p. -/
def CellT (w : World) (p : Addr) (t : Tb) : Prop := ∃ (cA iA : Option Addr) (cc ic : Nat), w.cell? p = some (.string t.m) ∧ w.cell? ⟨p.block, p.off + 1, none⟩ = some (.slice cA t.cols.length cc) ∧ w.cell? ⟨p.block, p.off + 2, none⟩ = some (.int .i64 t.key) ∧ w.cell? ⟨p.block, p.off + 3, none⟩ = some (.slice iA t.idx.length ic) ∧ TdOk w t cA iA cc ic
theorem CellT.kept {w w' : World} {p : Addr} {t : Tb} (h : CellT w p t) (hk : Kp w w') : CellT w' p t := by
  obtain ⟨cA, iA, cc, ic, h0, h1, h2, h3, h4⟩ := h
  exact ⟨cA, iA, cc, ic, hk _ _ h0, hk _ _ h1, hk _ _ h2, hk _ _ h3, h4.kept hk⟩
/-- The slice at A reads as the tables ls. -/
def RdS (w : World) (A : Option Addr) (ls : List Tb) : Prop := ls ≠ [] → ∃ ad, A = some ad ∧ ∀ j t, ls[j]? = some t → CellT w (ad.add (j * 4)) t
theorem RdS.kept {w w' : World} {A : Option Addr} {ls : List Tb} (h : RdS w A ls) (hk : Kp w w') : RdS w' A ls := fun hl => by
  obtain ⟨ad, e, hc⟩ := h hl
  exact ⟨ad, e, fun j t hj => (hc j t hj).kept hk⟩
theorem RdS.below {w w' : World} {A : Option Addr} {ls : List Tb} (h : RdS w A ls) (hb : Below w.heap.size w w') : RdS w' A ls := h.kept (Kp.of_below hb)
theorem RdS.at_ {w : World} {A : Option Addr} {ls : List Tb} {j : Nat} (h : RdS w A ls) (hj : j < ls.length) : ∃ ad, A = some ad ∧ CellT w (ad.add (j * 4)) ls[j] := by
  obtain ⟨ad, e, hc⟩ := h (by intro e; subst e; simp at hj)
  exact ⟨ad, e, hc _ _ (List.getElem?_eq_getElem hj)⟩

def lessB (a b : ByteArray) : Bool := Op.bytesLess a.toList b.toList
/-- Whether the table at a place comes behind the one ahead of it. -/
def risAt (ls : List Tb) (j : Nat) : Bool := match j with
  | 0 => true
  | i + 1 => match ls[i]?, ls[i + 1]? with
    | some a, some b => lessB a.m b.m
    | _, _ => true
def mayAt (ls : List Tb) (j : Nat) : Bool := match ls[j]? with
  | some t => tblB t
  | none => true
def names (ls : List Tb) : List ByteArray := ls.flatMap fun t => t.idx.map Ix.m
/-- Whether a catalog may be. -/
def catB (ls : List Tb) : Bool := decide (ls.length ≤ 8) && ((List.range ls.length).all (fun j => risAt ls j && mayAt ls j) && newB [] (names ls))
theorem all_range {p : Nat → Bool} {n : Nat} (h : ∀ k, k < n → p k = true) : (List.range n).all p = true := by
  rw [List.all_eq_true]
  intro k hk
  exact h k (by simpa using hk)
theorem not_all_range {p : Nat → Bool} {n j : Nat} (hj : j < n) (h : p j = false) : (List.range n).all p = false := by
  rw [Bool.eq_false_iff]
  intro h2
  have := List.all_eq_true.1 h2 j (by simpa using hj)
  rw [h] at this; cases this
theorem newB_append : ∀ (l m : List ByteArray) (acc : List (List UInt8)), newB acc (l ++ m) = (newB acc l && newB (acc ++ octs l) m)
  | [], m, acc => by simp [newB, octs]
  | s :: l, m, acc => by
    rw [List.cons_append, newB, newB]
    split
    · rfl
    · rw [newB_append l m]
      simp [octs]
theorem newB_names {ls : List Tb} {j : Nat} (hj : j < ls.length) (acc : List (List UInt8)) : newB acc (names (ls.drop j)) = (newB acc (ls[j].idx.map Ix.m) && newB (acc ++ octs (ls[j].idx.map Ix.m)) (names (ls.drop (j + 1)))) := by
  rw [List.drop_eq_getElem_cons hj]
  unfold names
  rw [List.flatMap_cons, newB_append]
theorem names_take {ls : List Tb} {j : Nat} (hj : j < ls.length) : names (ls.take (j + 1)) = names (ls.take j) ++ ls[j].idx.map Ix.m := by
  unfold names
  rw [List.take_succ_eq_append_getElem hj, List.flatMap_append]
  simp
theorem octs_append (l m : List ByteArray) : octs (l ++ m) = octs l ++ octs m := by simp [octs]
theorem keys_append (l m : List ByteArray) : keys (l ++ m) = keys l ++ keys m := by simp [keys]
theorem names_len {ls : List Tb} (h : ∀ t ∈ ls, t.idx.length ≤ 4) : (names ls).length ≤ ls.length * 4 := by
  induction ls with
  | nil => simp [names]
  | cons t ls ih =>
    have h1 := h t (by simp)
    have h2 := ih (fun x hx => h x (by simp [hx]))
    simp only [names, List.flatMap_cons, List.length_append, List.length_map, List.length_cons] at h2 ⊢
    omega
theorem mayAt_get {ls : List Tb} {j : Nat} (hj : j < ls.length) : mayAt ls j = tblB ls[j] := by
  unfold mayAt
  rw [List.getElem?_eq_getElem hj]
theorem catB_all {ls : List Tb} (h : ∀ k, k < ls.length → mayAt ls k = true) : ∀ t ∈ ls, tblB t = true := fun t ht => by
  obtain ⟨j, hj, rfl⟩ := List.mem_iff_getElem.1 ht
  rw [← mayAt_get hj]
  exact h j hj
end Go.Proofs.Ytddeaiciochggaa
