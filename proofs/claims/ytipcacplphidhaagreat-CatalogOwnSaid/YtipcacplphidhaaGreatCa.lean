/- The expressions of a statement, in their order, and how they lie in memory. Conditions: none. -/
import Derived.RangeFuncNested
import Derived.Test.YtipcacplphidhaaGreatTp0
import Derived.Test.YtipcacplphidhaaGreatTm
import Derived.Test.YtipcacplphidhaaGreatTc
import Derived.Test.YtipcacplphidhaaGreatUb
namespace Go.Proofs.YtipcacplphidhaaGreat.Sy
open Go.RowKit
set_option linter.unusedSimpArgs false
set_option linter.unusedVariables false

/-- An expression, and where its Args lie. -/
structure Ge where
  n : Nat
  x : ExN (Ar n)
  a : Option Addr
  c : Nat
def Ge.cs (e : Ge) : List Value := e.x.cs e.a e.c
@[reducible] def Ge.val (e : Ge) : Value := e.x.val e.a e.c
def Ge.Rd (B : Nat) (w : World) (e : Ge) : Prop := RdK (KE e.n) (fun b => b < B) w e.a e.c e.x.l
theorem Ge.Rd.below {B : Nat} {w w' : World} {e : Ge} (h : e.Rd B w) (hb : Below B w w') : e.Rd B w' := RdK.kept (KE_ok e.n) h fun b hb' _ => hb.block b hb'
/-- The cells at A hold these expressions. -/
def LsAt (w : World) (A : Option Addr) (es : List Ge) : Prop := ∀ ad, A = some ad → ∀ (j : Nat) (e : Ge), es[j]? = some e → ∀ (i : Nat) (v : Value), e.cs[i]? = some v → w.cell? (ad.add (j * 7 + i)) = some v
/-- A slice of expressions. -/
structure Sl where
  A : Option Addr
  c : Nat
  es : List Ge
@[reducible] def Sl.val (s : Sl) : Value := .slice s.A s.es.length s.c
structure Sl.Ok (B : Nat) (w : World) (s : Sl) : Prop where
  hdr : Hdr s.A s.es.length s.c
  rd : ∀ e ∈ s.es, e.Rd B w
  cells : LsAt w s.A s.es
def errsOf (es : List Ge) : List Int := es.map fun e => chkX e.x
theorem errsOf_app (a b : List Ge) : errsOf (a ++ b) = errsOf a ++ errsOf b := by simp [errsOf]
/-- The first error. -/
def firstE : List Int → Int
  | [] => 0
  | e :: l => if e = 0 then firstE l else e
theorem firstE_app (a b : List Int) : firstE (a ++ b) = if firstE a = 0 then firstE b else firstE a := by
  induction a with
  | nil => simp [firstE]
  | cons e l ih =>
    simp only [List.cons_append, firstE]
    split
    · exact ih
    · rfl
/-- The errors of a statement's expressions. -/
def errsX {n : Nat} (x : St n) : List Int := x.rows.flatMap (fun r => r.map chk) ++ (x.sets.map (fun s => chkX s.x) ++ (x.items.map chk ++ (x.on.map chk ++ (x.wh.map chk ++ x.gr.map chk))))

theorem sl_of {n B : Nat} {w : World} {A : Option Addr} {c : Nat} {l : List (Ar n)} (h : RdK (KE n) (fun b => b < B) w A c l) : ∃ s : Sl, s.A = A ∧ s.c = c ∧ s.es.length = l.length ∧ errsOf s.es = l.map chk ∧ s.Ok B w := by
  obtain ⟨es, hl, hp⟩ := choose_list (p := fun j (e : Ge) => ∃ y, l[j]? = some y ∧ chkX e.x = chk y ∧ e.Rd B w ∧ ∀ ad, A = some ad → ∀ (i : Nat) (v : Value), e.cs[i]? = some v → w.cell? (ad.add (j * 7 + i)) = some v) l.length fun i hi => by
    obtain ⟨ad, a', c', hA, h1, h2⟩ := h.get hi
    rw [KE_cs, KE_k] at h1
    rw [KE_dp] at h2
    refine ⟨⟨n - 1, l[i].e, a', c'⟩, l[i], List.getElem?_eq_getElem hi, rfl, h2, fun ad' e i' v hv => ?_⟩
    rw [hA] at e
    injection e with e
    subst e
    exact h1 i' v hv
  refine ⟨⟨A, c, es⟩, rfl, rfl, hl, ?_, ⟨by rw [hl]; exact h.hdr, fun e he => ?_, fun ad e j y hy i v hv => ?_⟩⟩
  · apply List.ext_getElem?
    intro j
    show (errsOf es)[j]? = _
    unfold errsOf
    rw [List.getElem?_map, List.getElem?_map]
    cases hj : es[j]? with
    | none => rw [List.getElem?_eq_none (by have := List.getElem?_eq_none_iff.1 hj; omega)]; rfl
    | some e =>
      obtain ⟨y, h1, h2, _⟩ := hp j e hj
      rw [h1, Option.map_some, Option.map_some, h2]
  · obtain ⟨j, hj⟩ := List.getElem?_of_mem he
    exact (hp j e hj).choose_spec.2.2.1
  · exact (hp j y hy).choose_spec.2.2.2 ad e i v hv
theorem sls_of {n B : Nat} {w : World} {A : Option Addr} {c : Nat} {rows : List (List (Ar n))} (h : RdK (KR n) (fun b => b < B) w A c rows) :
    ∃ ss : List Sl, ss.length = rows.length ∧ errsOf (ss.flatMap Sl.es) = rows.flatMap (fun r => r.map chk) ∧ (∀ s ∈ ss, s.Ok B w) ∧ ∀ ad, A = some ad → ∀ (j : Nat) (u : Value), (ss.map Sl.val)[j]? = some u → w.cell? (ad.add j) = some u := by
  obtain ⟨ss, hl, hp⟩ := choose_list (p := fun j (s : Sl) => ∃ r, rows[j]? = some r ∧ errsOf s.es = r.map chk ∧ s.Ok B w ∧ ∀ ad, A = some ad → w.cell? (ad.add j) = some s.val) rows.length fun i hi => by
    obtain ⟨ad, a', c', hA, h1, h2⟩ := h.row hi
    obtain ⟨s, rfl, rfl, h3, h4, h5⟩ := sl_of h2
    refine ⟨s, rows[i], List.getElem?_eq_getElem hi, h4, h5, fun ad' e => ?_⟩
    rw [hA] at e
    injection e with e
    subst e
    rw [h1]
    unfold Sl.val
    rw [h3]
  refine ⟨ss, hl, ?_, fun s hs => ?_, fun ad e j u hu => ?_⟩
  · have key : ∀ (ss : List Sl) (rows : List (List (Ar n))), ss.length = rows.length → (∀ (j : Nat) (s : Sl), ss[j]? = some s → ∃ r : List (Ar n), rows[j]? = some r ∧ errsOf s.es = r.map chk) → errsOf (ss.flatMap Sl.es) = rows.flatMap (fun r => r.map chk) := by
      intro ss
      induction ss with
      | nil =>
        intro rows hl _
        rw [List.eq_nil_of_length_eq_zero (l := rows) (by simpa using hl.symm)]; rfl
      | cons s ss ih =>
        intro rows hl hp
        match rows, hl with
        | r :: rows, hl =>
          obtain ⟨r', h1, h2⟩ := hp 0 s rfl
          injection h1 with h1; subst h1
          rw [List.flatMap_cons, List.flatMap_cons, errsOf_app, h2, ih rows (by simpa using hl) fun j s hs => hp (j + 1) s (by simpa using hs)]
    exact key ss rows hl fun j s hs => by
      obtain ⟨r, h1, h2, _⟩ := hp j s hs
      exact ⟨r, h1, h2⟩
  · obtain ⟨j, hj⟩ := List.getElem?_of_mem hs
    exact (hp j s hj).choose_spec.2.2.1
  · rw [List.getElem?_map] at hu
    obtain ⟨s, hs, rfl⟩ := Option.map_eq_some_iff.1 hu
    exact (hp j s hs).choose_spec.2.2.2 ad e
/-- The new values that a statement sets. -/
theorem sets_of {n B : Nat} {w : World} {A : Option Addr} {c : Nat} {l : List (Sx n)} (h : RdK (KS n) (fun b => b < B) w A c l) :
    ∃ es : List Ge, es.length = l.length ∧ errsOf es = l.map (fun s => chkX s.x) ∧ (∀ e ∈ es, e.Rd B w) ∧ ∀ (j : Nat) (e : Ge), es[j]? = some e → ∃ (ad : Addr) (m : ByteArray), A = some ad ∧ ad.block < w.heap.size ∧ ∀ (i : Nat) (v : Value), (Value.string m :: e.cs)[i]? = some v → w.cell? (ad.add (j * 8 + i)) = some v := by
  obtain ⟨es, hl, hp⟩ := choose_list (p := fun j (e : Ge) => ∃ y, l[j]? = some y ∧ chkX e.x = chkX y.x ∧ e.Rd B w ∧ ∃ (ad : Addr) (m : ByteArray), A = some ad ∧ ad.block < w.heap.size ∧ ∀ (i : Nat) (v : Value), (Value.string m :: e.cs)[i]? = some v → w.cell? (ad.add (j * 8 + i)) = some v) l.length fun i hi => by
    obtain ⟨ad, a', c', hA, h1, h2⟩ := h.get hi
    refine ⟨⟨n, l[i].x, a', c'⟩, l[i], List.getElem?_eq_getElem hi, rfl, h2, ad, l[i].m, hA, ?_, fun i' v hv => h1 i' v hv⟩
    have := cell_lt (h1 0 _ rfl)
    rwa [add_block] at this
  refine ⟨es, hl, ?_, fun e he => ?_, fun j e hj => (hp j e hj).choose_spec.2.2.2⟩
  · apply List.ext_getElem?
    intro j
    unfold errsOf
    rw [List.getElem?_map, List.getElem?_map]
    cases hj : es[j]? with
    | none => rw [List.getElem?_eq_none (by have := List.getElem?_eq_none_iff.1 hj; omega)]; rfl
    | some e =>
      obtain ⟨y, h1, h2, _⟩ := hp j e hj
      rw [h1, Option.map_some, Option.map_some, h2]
  · obtain ⟨j, hj⟩ := List.getElem?_of_mem he
    exact (hp j e hj).choose_spec.2.2.1

/-- What holds cells lies as it lay. -/
def Kcl (w w' : World) : Prop := ∀ (k : Nat) (o : Obj), w.heap[k]? = some o → o.isCells = true → w'.heap[k]? = some o
theorem Kcl.refl (w : World) : Kcl w w := fun _ _ h _ => h
theorem Kcl.trans {a b c : World} (h : Kcl a b) (k : Kcl b c) : Kcl a c := fun i o hi ho => k i o (h i o hi ho) ho
theorem Kcl.below {w w' : World} (h : Below w.heap.size w w') : Kcl w w' := fun k o hk _ => (h.block k (by
  rcases Nat.lt_or_ge k w.heap.size with h' | h'
  · exact h'
  · rw [Array.getElem?_eq_none h'] at hk; cases hk)).trans hk
theorem Kcl.cell {w w' : World} {p : Addr} {v : Value} (h : Kcl w w') (hc : w.cell? p = some v) : w'.cell? p = some v := by
  unfold World.cell? at hc ⊢
  cases hk : w.heap[p.block]? with
  | none => rw [hk] at hc; simp at hc
  | some o =>
    rw [hk] at hc
    cases o with
    | cells cs t fz => rw [h _ _ hk rfl]; exact hc
    | _ => simp at hc
theorem LsAt.kc {w w' : World} {A : Option Addr} {es : List Ge} (h : LsAt w A es) (hk : Kcl w w') : LsAt w' A es := fun ad e j y hy i v hv => hk.cell (h ad e j y hy i v hv)
/-- What a round keeps. -/
def KpB (B : Nat) (w w' : World) : Prop := Below B w w' ∧ Kcl w w'
theorem KpB.t {B : Nat} {a b c : World} (h : KpB B a b) (k : KpB B b c) : KpB B a c := ⟨h.1.trans k.1, h.2.trans k.2⟩
/-- The place of the i-th thing of the j-th list, in all of them. -/
theorem flat_at {α β : Type} (f : α → List β) : ∀ (l : List α) (j i : Nat) (s : α) (y : β), l[j]? = some s → (f s)[i]? = some y → (l.flatMap f)[((l.take j).flatMap f).length + i]? = some y
  | [], j, i, s, y, h, _ => by simp at h
  | a :: l, 0, i, s, y, h, hi => by
    simp at h; subst h
    rw [List.take_zero, List.flatMap_nil, List.length_nil, Nat.zero_add, List.flatMap_cons, List.getElem?_append_left (List.getElem?_eq_some_iff.1 hi).1]
    exact hi
  | a :: l, j + 1, i, s, y, h, hi => by
    rw [List.take_succ_cons, List.flatMap_cons, List.flatMap_cons, List.length_append, Nat.add_assoc, List.getElem?_append_right (by omega), Nat.add_sub_cancel_left]
    exact flat_at f l j i s y (by simpa using h) hi
theorem flat_next {α β : Type} (f : α → List β) (l : List α) (j : Nat) (s : α) (h : l[j]? = some s) : ((l.take (j + 1)).flatMap f).length = ((l.take j).flatMap f).length + (f s).length := by
  rw [List.take_add_one, h]; simp
end Go.Proofs.YtipcacplphidhaaGreat.Sy
