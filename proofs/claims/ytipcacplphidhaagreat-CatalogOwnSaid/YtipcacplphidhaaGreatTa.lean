/- Expressions and statements as plain data, and how they are read in memory. Conditions: none. -/
import Derived.WalkKit
import Derived.WalkSpells
import Derived.WalkLawsBesides
import Derived.Deep.QuietTactic
import Derived.BigQuiet
import Derived.Deep.RegionHeld3
import Derived.Deep.DeepCutAuto
import Derived.Deep.Light
import Derived.Lib.Hide
import Derived.StillTailTactics
import Derived.Maps.AppendAt
namespace Go.Proofs.YtipcacplphidhaaGreat.Sy
open Go.RowKit
set_option linter.unusedSimpArgs false
set_option linter.unusedVariables false

/-- A value. -/
structure Vl where
  k : Int
  n : Int
  s : ByteArray
  h : -9223372036854775808 ≤ n ∧ n ≤ 9223372036854775807
/-- An expression, its Args of another kind. -/
structure ExN (α : Type) where
  op : Int
  v : Vl
  t : ByteArray
  m : ByteArray
  l : List α
/-- An Arg of an expression that is at most n parts deep, itself counted. -/
def Ar : Nat → Type
  | 0 => Empty
  | n + 1 => ExN (Ar n)
def Ar.e : {n : Nat} → Ar n → ExN (Ar (n - 1))
  | 0, y => Empty.elim y
  | _ + 1, y => y
theorem Ar.e_inj : {n : Nat} → (x y : Ar n) → x.e = y.e → x = y
  | 0, x, _, _ => Empty.elim x
  | _ + 1, _, _, h => h

def Vl.val (v : Vl) : Value := .agg #[.int .i64 v.k, .int .i64 v.n, .string v.s]
@[reducible] def ExN.val {α : Type} (x : ExN α) (a : Option Addr) (c : Nat) : Value := .agg #[.int .i64 x.op, .int .i64 x.v.k, .int .i64 x.v.n, .string x.v.s, .string x.t, .string x.m, .slice a x.l.length c]

/-- The seven cells of an expression at p. -/
def Cell7 {α : Type} (w : World) (p : Addr) (x : ExN α) (a : Option Addr) (c : Nat) : Prop :=
  w.cell? p = some (.int .i64 x.op) ∧ w.cell? ⟨p.block, p.off + 1, none⟩ = some (.int .i64 x.v.k) ∧ w.cell? ⟨p.block, p.off + 2, none⟩ = some (.int .i64 x.v.n) ∧ w.cell? ⟨p.block, p.off + 3, none⟩ = some (.string x.v.s) ∧
  w.cell? ⟨p.block, p.off + 4, none⟩ = some (.string x.t) ∧ w.cell? ⟨p.block, p.off + 5, none⟩ = some (.string x.m) ∧ w.cell? ⟨p.block, p.off + 6, none⟩ = some (.slice a x.l.length c)
/-- What every slice keeps: n things at A, room for c. -/
def Hdr (A : Option Addr) (n c : Nat) : Prop := (A = none → n = 0 ∧ c = 0) ∧ n ≤ c ∧ c ≤ 9223372036854775807
/-- A kind of things that lie in slices: how many cells and bytes each has, what they hold (its own slice's address and room are told beside it), and what lies behind them, in blocks that S lets by. -/
structure Kd (τ : Type) where
  k : Nat
  b : Nat
  cs : τ → Option Addr → Nat → List Value
  dp : (Nat → Prop) → World → τ → Option Addr → Nat → Prop
/-- The slice at A, with room for c, reads as the list l, in blocks that S lets by. -/
def RdK {τ : Type} (K : Kd τ) (S : Nat → Prop) (w : World) (A : Option Addr) (c : Nat) (l : List τ) : Prop :=
  Hdr A l.length c ∧ l.length * K.b ≤ 140737488355328 ∧ ∀ ad, A = some ad → ∀ (j : Nat) (y : τ), l[j]? = some y → S ad.block ∧ ∃ a' c', (∀ (i : Nat) (v : Value), (K.cs y a' c')[i]? = some v → w.cell? (ad.add (j * K.k + i)) = some v) ∧ K.dp S w y a' c'
def ExN.cs {α : Type} (x : ExN α) (a : Option Addr) (c : Nat) : List Value := [.int .i64 x.op, .int .i64 x.v.k, .int .i64 x.v.n, .string x.v.s, .string x.t, .string x.m, .slice a x.l.length c]
/-- Expressions. -/
def KE : (n : Nat) → Kd (Ar n)
  | 0 => { k := 7, b := 96, cs := fun y _ _ => Empty.elim y, dp := fun _ _ y _ _ => Empty.elim y }
  | n + 1 => { k := 7, b := 96, cs := fun (y : ExN (Ar n)) a c => y.cs a c, dp := fun S w (y : ExN (Ar n)) a c => RdK (KE n) S w a c y.l }
theorem KE_b : (n : Nat) → (KE n).b = 96
  | 0 => rfl
  | _ + 1 => rfl
theorem KE_k : (n : Nat) → (KE n).k = 7
  | 0 => rfl
  | _ + 1 => rfl
theorem KE_cs : {n : Nat} → (y : Ar n) → (a : Option Addr) → (c : Nat) → (KE n).cs y a c = y.e.cs a c
  | 0, y, _, _ => Empty.elim y
  | _ + 1, _, _, _ => rfl
theorem KE_dp : {n : Nat} → {S : Nat → Prop} → {w : World} → (y : Ar n) → (a : Option Addr) → (c : Nat) → (KE n).dp S w y a c = RdK (KE (n - 1)) S w a c y.e.l
  | 0, _, _, y, _, _ => Empty.elim y
  | _ + 1, _, _, _, _, _ => rfl
/-- Whatever it lies in. -/
def Any (_ : Nat) : Prop := True
abbrev RdE (w : World) (n : Nat) (A : Option Addr) (c : Nat) (l : List (Ar n)) : Prop := RdK (KE n) Any w A c l

/-- A list of expressions in a slice of such. -/
def KR (n : Nat) : Kd (List (Ar n)) := { k := 1, b := 24, cs := fun r a c => [.slice a r.length c], dp := fun S w r a c => RdK (KE n) S w a c r }
/-- A column's new value. -/
structure Sx (n : Nat) where
  m : ByteArray
  x : ExN (Ar n)
@[reducible] def Sx.val {n : Nat} (s : Sx n) (a : Option Addr) (c : Nat) : Value := .agg #[.string s.m, .int .i64 s.x.op, .int .i64 s.x.v.k, .int .i64 s.x.v.n, .string s.x.v.s, .string s.x.t, .string s.x.m, .slice a s.x.l.length c]
def KS (n : Nat) : Kd (Sx n) := { k := 8, b := 112, cs := fun s a c => .string s.m :: s.x.cs a c, dp := fun S w s a c => RdK (KE n) S w a c s.x.l }
/-- A table's column. -/
structure Cl where
  m : ByteArray
  k : Int
  nn : Bool
@[reducible] def Cl.val (x : Cl) : Value := .agg #[.string x.m, .int .i64 x.k, .bool x.nn]
def KC : Kd Cl := { k := 3, b := 32, cs := fun x _ _ => [.string x.m, .int .i64 x.k, .bool x.nn], dp := fun _ _ _ _ _ => True }
/-- A result's column, and whether it falls. -/
structure Od where
  n : Int
  d : Bool
@[reducible] def Od.val (x : Od) : Value := .agg #[.int .i64 x.n, .bool x.d]
def KO : Kd Od := { k := 2, b := 16, cs := fun x _ _ => [.int .i64 x.n, .bool x.d], dp := fun _ _ _ _ _ => True }

/-- What every kind keeps. -/
structure Kd.Ok {τ : Type} (K : Kd τ) : Prop where
  len : ∀ y a c, (K.cs y a c).length = K.k
  pos : 0 < K.k
  one : ∀ y a c, ∀ u ∈ K.cs y a c, u.oneCell' = true
  kept : ∀ (S : Nat → Prop) (w w' : World) y a c, K.dp S w y a c → (∀ b, S b → b < w.heap.size → w'.heap[b]? = w.heap[b]?) → K.dp S w' y a c
  mono : ∀ (S S' : Nat → Prop) (w : World) y a c, K.dp S w y a c → (∀ b, S b → b < w.heap.size → S' b) → K.dp S' w y a c
theorem add_block (a : Addr) (n : Nat) : (a.add n).block = a.block := by unfold Addr.add; split <;> rfl
theorem add_ne {ad : Addr} {i : Nat} (h : i ≠ 0) : ad.add i = ⟨ad.block, ad.off + i, none⟩ := by unfold Addr.add; rw [if_neg h]
theorem add_off {ad : Addr} {i : Nat} : (ad.add i).off = ad.off + i := by unfold Addr.add; split <;> simp_all
theorem add_two {ad : Addr} (i j : Nat) (h : j ≠ 0) : ad.add (i + j) = ⟨(ad.add i).block, (ad.add i).off + j, none⟩ := by
  rw [add_ne (by omega), add_block, add_off, Nat.add_assoc]
theorem cell_lt {w : World} {p : Addr} {v : Value} (h : w.cell? p = some v) : p.block < w.heap.size := World.block_lt_of_cell? w _ h
theorem cell_keep {w w' : World} {p : Addr} {v : Value} (h : w.cell? p = some v) (hb : Below w.heap.size w w') : w'.cell? p = some v := (hb.cell (cell_lt h)).trans h
theorem Cell7.below {α : Type} {w w' : World} {p : Addr} {x : ExN α} {a : Option Addr} {c : Nat} (h : Cell7 w p x a c) (hb : Below w.heap.size w w') : Cell7 w' p x a c :=
  ⟨cell_keep h.1 hb, cell_keep h.2.1 hb, cell_keep h.2.2.1 hb, cell_keep h.2.2.2.1 hb, cell_keep h.2.2.2.2.1 hb, cell_keep h.2.2.2.2.2.1 hb, cell_keep h.2.2.2.2.2.2 hb⟩
theorem cell_of_heap {w w' : World} {p : Addr} (h : w'.heap[p.block]? = w.heap[p.block]?) : w'.cell? p = w.cell? p := by unfold World.cell?; rw [h]
theorem RdK.kept {τ : Type} {K : Kd τ} (ok : K.Ok) {S : Nat → Prop} {w w' : World} {A : Option Addr} {c : Nat} {l : List τ} (h : RdK K S w A c l) (hk : ∀ b, S b → b < w.heap.size → w'.heap[b]? = w.heap[b]?) : RdK K S w' A c l :=
  ⟨h.1, h.2.1, fun ad e j y hy => by
    obtain ⟨hs, a', c', h1, h2⟩ := h.2.2 ad e j y hy
    refine ⟨hs, a', c', fun i v hv => ?_, ok.kept S w w' y a' c' h2 hk⟩
    have h3 := h1 i v hv
    rw [cell_of_heap (hk _ (by rw [add_block]; exact hs) (cell_lt h3))]
    exact h3⟩
theorem RdK.mono {τ : Type} {K : Kd τ} (ok : K.Ok) {S S' : Nat → Prop} {w : World} {A : Option Addr} {c : Nat} {l : List τ} (h : RdK K S w A c l) (hk : ∀ b, S b → b < w.heap.size → S' b) : RdK K S' w A c l :=
  ⟨h.1, h.2.1, fun ad e j y hy => by
    obtain ⟨hs, a', c', h1, h2⟩ := h.2.2 ad e j y hy
    have h3 := h1 0 _ (List.getElem?_eq_getElem (by rw [ok.len]; exact ok.pos))
    have h4 := cell_lt h3
    rw [add_block] at h4
    exact ⟨hk _ hs h4, a', c', h1, ok.mono S S' w y a' c' h2 hk⟩⟩
theorem RdK.below {τ : Type} {K : Kd τ} (ok : K.Ok) {S : Nat → Prop} {w w' : World} {A : Option Addr} {c : Nat} {l : List τ} (h : RdK K S w A c l) (hb : Below w.heap.size w w') : RdK K S w' A c l :=
  h.kept ok fun b _ hlt => hb.block b hlt
theorem KE_ok : (n : Nat) → (KE n).Ok
  | 0 => { len := fun y => Empty.elim y, pos := by decide, one := fun y => Empty.elim y, kept := fun _ _ _ y => Empty.elim y, mono := fun _ _ _ y => Empty.elim y }
  | n + 1 => {
    len := fun _ _ _ => rfl
    pos := Nat.zero_lt_succ 6
    one := fun y a c u hu => by
      have hu' : u ∈ ExN.cs (α := Ar n) y a c := hu
      simp [ExN.cs] at hu'
      rcases hu' with rfl | rfl | rfl | rfl | rfl | rfl | rfl <;> rfl
    kept := fun S w w' y a c h hk => RdK.kept (KE_ok n) h hk
    mono := fun S S' w y a c h hk => RdK.mono (KE_ok n) h hk }
theorem KR_ok (n : Nat) : (KR n).Ok := { len := fun _ _ _ => rfl, pos := Nat.zero_lt_succ _, one := fun y a c u hu => by simp [KR] at hu; subst hu; rfl, kept := fun S w w' y a c h hk => RdK.kept (KE_ok n) h hk, mono := fun S S' w y a c h hk => RdK.mono (KE_ok n) h hk }
theorem KS_ok (n : Nat) : (KS n).Ok := {
  len := fun _ _ _ => rfl
  pos := Nat.zero_lt_succ 7
  one := fun y a c u hu => by
    simp [KS, ExN.cs] at hu
    rcases hu with rfl | rfl | rfl | rfl | rfl | rfl | rfl | rfl <;> rfl
  kept := fun S w w' y a c h hk => RdK.kept (KE_ok n) h hk
  mono := fun S S' w y a c h hk => RdK.mono (KE_ok n) h hk }
theorem KC_ok : KC.Ok := { len := fun _ _ _ => rfl, pos := Nat.zero_lt_succ _, one := fun y a c u hu => by simp [KC] at hu; rcases hu with rfl | rfl | rfl <;> rfl, kept := fun _ _ _ _ _ _ h _ => h, mono := fun _ _ _ _ _ _ h _ => h }
theorem KO_ok : KO.Ok := { len := fun _ _ _ => rfl, pos := Nat.zero_lt_succ _, one := fun y a c u hu => by simp [KO] at hu; rcases hu with rfl | rfl <;> rfl, kept := fun _ _ _ _ _ _ h _ => h, mono := fun _ _ _ _ _ _ h _ => h }

theorem RdK.get {τ : Type} {K : Kd τ} {S : Nat → Prop} {w : World} {A : Option Addr} {c j : Nat} {l : List τ} (h : RdK K S w A c l) (hj : j < l.length) :
    ∃ ad a' c', A = some ad ∧ (∀ (i : Nat) (v : Value), (K.cs l[j] a' c')[i]? = some v → w.cell? (ad.add (j * K.k + i)) = some v) ∧ K.dp S w l[j] a' c' := by
  rcases A with _ | ad
  · have := (h.1.1 rfl).1; omega
  · obtain ⟨_, a', c', h1, h2⟩ := h.2.2 ad rfl j _ (List.getElem?_eq_getElem hj)
    exact ⟨ad, a', c', rfl, h1, h2⟩
theorem RdK.at_ {S : Nat → Prop} {w : World} {n : Nat} {A : Option Addr} {c j : Nat} {l : List (Ar n)} (h : RdK (KE n) S w A c l) (hj : j < l.length) : ∃ ad a' c', A = some ad ∧ Cell7 w (ad.add (j * 7)) l[j].e a' c' ∧ RdK (KE (n - 1)) S w a' c' l[j].e.l := by
  obtain ⟨ad, a', c', e, h1, h2⟩ := h.get hj
  rw [KE_k, KE_cs] at h1
  rw [KE_dp] at h2
  refine ⟨ad, a', c', e, ⟨h1 0 _ rfl, ?_, ?_, ?_, ?_, ?_, ?_⟩, h2⟩
  all_goals rw [← add_two _ _ (by omega)]
  · exact h1 1 _ rfl
  · exact h1 2 _ rfl
  · exact h1 3 _ rfl
  · exact h1 4 _ rfl
  · exact h1 5 _ rfl
  · exact h1 6 _ rfl
theorem RdK.row {S : Nat → Prop} {w : World} {n : Nat} {A : Option Addr} {c j : Nat} {l : List (List (Ar n))} (h : RdK (KR n) S w A c l) (hj : j < l.length) : ∃ ad a' c', A = some ad ∧ w.cell? (ad.add j) = some (.slice a' l[j].length c') ∧ RdK (KE n) S w a' c' l[j] := by
  obtain ⟨ad, a', c', e, h1, h2⟩ := h.get hj
  have h3 := h1 0 _ rfl
  simp only [KR, Nat.mul_one, Nat.add_zero] at h3
  exact ⟨ad, a', c', e, h3, h2⟩
theorem RdK.set {S : Nat → Prop} {w : World} {n : Nat} {A : Option Addr} {c j : Nat} {l : List (Sx n)} (h : RdK (KS n) S w A c l) (hj : j < l.length) : ∃ ad a' c', A = some ad ∧ (w.cell? (ad.add (j * 8)) = some (.string l[j].m) ∧
    w.cell? ⟨(ad.add (j * 8)).block, (ad.add (j * 8)).off + 1, none⟩ = some (.int .i64 l[j].x.op) ∧ w.cell? ⟨(ad.add (j * 8)).block, (ad.add (j * 8)).off + 2, none⟩ = some (.int .i64 l[j].x.v.k) ∧ w.cell? ⟨(ad.add (j * 8)).block, (ad.add (j * 8)).off + 3, none⟩ = some (.int .i64 l[j].x.v.n) ∧ w.cell? ⟨(ad.add (j * 8)).block, (ad.add (j * 8)).off + 4, none⟩ = some (.string l[j].x.v.s) ∧
    w.cell? ⟨(ad.add (j * 8)).block, (ad.add (j * 8)).off + 5, none⟩ = some (.string l[j].x.t) ∧ w.cell? ⟨(ad.add (j * 8)).block, (ad.add (j * 8)).off + 6, none⟩ = some (.string l[j].x.m) ∧ w.cell? ⟨(ad.add (j * 8)).block, (ad.add (j * 8)).off + 7, none⟩ = some (.slice a' l[j].x.l.length c')) ∧ RdK (KE n) S w a' c' l[j].x.l := by
  obtain ⟨ad, a', c', e, h1, h2⟩ := h.get hj
  refine ⟨ad, a', c', e, ⟨h1 0 _ rfl, ?_, ?_, ?_, ?_, ?_, ?_, ?_⟩, h2⟩
  all_goals rw [← add_two _ _ (by omega)]
  · exact h1 1 _ rfl
  · exact h1 2 _ rfl
  · exact h1 3 _ rfl
  · exact h1 4 _ rfl
  · exact h1 5 _ rfl
  · exact h1 6 _ rfl
  · exact h1 7 _ rfl
theorem RdK.col {S : Nat → Prop} {w : World} {A : Option Addr} {c j : Nat} {l : List Cl} (h : RdK KC S w A c l) (hj : j < l.length) : ∃ ad, A = some ad ∧ w.cell? (ad.add (j * 3)) = some (.string l[j].m) ∧
    w.cell? ⟨(ad.add (j * 3)).block, (ad.add (j * 3)).off + 1, none⟩ = some (.int .i64 l[j].k) ∧ w.cell? ⟨(ad.add (j * 3)).block, (ad.add (j * 3)).off + 2, none⟩ = some (.bool l[j].nn) := by
  obtain ⟨ad, a', c', e, h1, h2⟩ := h.get hj
  refine ⟨ad, e, h1 0 _ rfl, ?_, ?_⟩
  all_goals rw [← add_two _ _ (by omega)]
  · exact h1 1 _ rfl
  · exact h1 2 _ rfl
theorem RdK.ord {S : Nat → Prop} {w : World} {A : Option Addr} {c j : Nat} {l : List Od} (h : RdK KO S w A c l) (hj : j < l.length) : ∃ ad, A = some ad ∧ w.cell? (ad.add (j * 2)) = some (.int .i64 l[j].n) ∧
    w.cell? ⟨(ad.add (j * 2)).block, (ad.add (j * 2)).off + 1, none⟩ = some (.bool l[j].d) := by
  obtain ⟨ad, a', c', e, h1, h2⟩ := h.get hj
  refine ⟨ad, e, h1 0 _ rfl, ?_⟩
  rw [← add_two _ _ (by omega)]
  exact h1 1 _ rfl
theorem RdK_nil {τ : Type} (K : Kd τ) (S : Nat → Prop) (w : World) : RdK K S w none 0 [] := ⟨⟨fun _ => ⟨rfl, rfl⟩, by simp, by omega⟩, by simp, fun ad e => by cases e⟩
theorem RdK.hdr {τ : Type} {K : Kd τ} {S : Nat → Prop} {w : World} {A : Option Addr} {c : Nat} {l : List τ} (h : RdK K S w A c l) : Hdr A l.length c := h.1
theorem RdK.any {τ : Type} {K : Kd τ} (ok : K.Ok) {S : Nat → Prop} {w : World} {A : Option Addr} {c : Nat} {l : List τ} (h : RdK K S w A c l) : RdK K Any w A c l := h.mono ok fun _ _ _ => trivial

theorem below1 (w : World) (o : Obj) : Below w.heap.size w (w.alloc o) := (Below.refl _ _).alloc (Nat.le_refl _) o
theorem ret_bool {a b : Bool} (h : a = b) : Ending.returned (.bool a) = .returned (.bool b) := by rw [h]
theorem ret_int {k : IntKind} {a b : Int} (h : a = b) : Ending.returned (.int k a) = .returned (.int k b) := by rw [h]
theorem ret_str {a b : ByteArray} (h : a = b) : Ending.returned (.string a) = .returned (.string b) := by rw [h]
theorem bcell {W w1 : World} (hb : Below W.heap.size W w1) : (∀ b o, b < W.heap.size → w1.cell? ⟨b, o, none⟩ = W.cell? ⟨b, o, none⟩) ∧ (∀ b o, b < W.heap.size → w1.frozen? ⟨b, o, none⟩ = W.frozen? ⟨b, o, none⟩) :=
  ⟨fun b o h => hb.cell (p := ⟨b, o, none⟩) h, fun b o h => hb.frozen (p := ⟨b, o, none⟩) h⟩
theorem below2 (w : World) (o p : Obj) : Below w.heap.size w ((w.alloc o).alloc p) := (below1 w o).alloc (by simp) p
theorem below3 (w : World) (o p q : Obj) : Below w.heap.size w (((w.alloc o).alloc p).alloc q) := (below2 w o p).alloc (by simp; omega) q
theorem below_of1 {w w1 : World} {o : Obj} (h : Below (w.alloc o).heap.size (w.alloc o) w1) : Below w.heap.size w w1 := (below1 w o).trans (h.mono (by simp))
theorem below_of2 {w w1 : World} {o p : Obj} (h : Below ((w.alloc o).alloc p).heap.size ((w.alloc o).alloc p) w1) : Below w.heap.size w w1 := (below2 w o p).trans (h.mono (by simp; omega))
/-- First from w to W, then on. -/
theorem below_call {B : Nat} {w W w1 : World} (hb : Below W.heap.size W w1) (h : Below B w W) (hB : B ≤ W.heap.size) : Below B w w1 := h.trans (hb.mono hB)
theorem ba_ext {x y : ByteArray} (h : x.data.toList = y.data.toList) : x = y := ByteArray.ext (Array.toList_inj.1 h)
theorem ba_iff {x y : ByteArray} : x.toList = y.toList ↔ x = y := by
  refine ⟨fun h => ?_, fun h => by rw [h]⟩
  rw [ByteArray.toList_eq, ByteArray.toList_eq] at h
  exact ba_ext (by simpa using h)
end Go.Proofs.YtipcacplphidhaaGreat.Sy
