/- Values and lists of values: how they lie in memory; what strings.Clone, slices.Clone and slices.IndexFunc of package eval's calls answer: the walks. Conditions: lengths that every machine keeps. -/
import Derived.Test.YtjogpcffldkhlaaEa
import Derived.Shelf.LaysM
import Derived.Shelf.Strconv.Clone
import Derived.Deep.MidRow
import Derived.Lib.SliceRun
import Derived.Deep.Light
import Derived.StillTailTactics
import Derived.Maps.AppendAt
namespace Go.Proofs
open Go.Shelf
def Try.laysM316_ren : Go.Shelf.Ren := ⟨fun | 316 => 38 | n => n, fun | 9 => 9 | 3 => 3 | 4 => 4 | 37 => 69 | 0 => 0 | 127 => 70 | 5 => 5 | n => n, fun | n => n⟩
theorem Try.laysM316 : Go.Proofs.LaysM.n316 Try.prog Try.laysM316_ren := {
  mixed := by kernel_rfl
  f316 := Try.func38.trans (congrArg some (by kernel_rfl))
  t0 := Try.underlying0
  a0 := Try.isAgg0
  z0 := Try.sizeOf0
  v0 := Try.zeroValue0
  t3 := Try.underlying3
  a3 := Try.isAgg3
  z3 := Try.sizeOf3
  v3 := Try.zeroValue3
  t4 := Try.underlying4
  a4 := Try.isAgg4
  z4 := Try.sizeOf4
  v4 := Try.zeroValue4
  t9 := Try.underlying9
  a9 := Try.isAgg9
  z9 := Try.sizeOf9
  v9 := Try.zeroValue9
  t37 := Try.underlying69
  a37 := Try.isAgg69
  z37 := Try.sizeOf69
  v37 := Try.zeroValue69
  t127 := Try.underlying70
  a127 := Try.isAgg70
  z127 := Try.sizeOf70
  v127 := Try.zeroValue70
  t5 := Try.underlying5
  a5 := Try.isAgg5
  z5 := Try.sizeOf5
  v5 := Try.zeroValue5
  i0 := by kernel_rfl
  i3 := by kernel_rfl
  i4 := by kernel_rfl
  i5 := by kernel_rfl
  i9 := by kernel_rfl
  i37 := by kernel_rfl
  i127 := by kernel_rfl }
open Go.RowKit in
theorem Try.stringslite_Clone (s : ByteArray) (w : World) (hlim : s.size ≤ 281474976710656) :
    Calls Try.prog 38 #[.string s] w fun e w' => e = .returned (.string s) ∧ Below w.heap.size w w' := Any.stringslite_Clone Try.laysM316 s w hlim
end Go.Proofs
namespace Go.Proofs.Ytjogpcffldkhlaa
open Go.RowKit
set_option linter.unusedSimpArgs false
set_option linter.unusedVariables false

/-- A value. -/
structure Vl where
  k : Int
  n : Int
  s : ByteArray
  h : inR n = true ∧ s.size ≤ 140737488355328
theorem Vl.ext' {a b : Vl} (h1 : a.k = b.k) (h2 : a.n = b.n) (h3 : a.s = b.s) : a = b := by
  cases a; cases b; cases h1; cases h2; cases h3; rfl
def valC (v : Vl) : List Value := [.int .i64 v.k, .int .i64 v.n, .string v.s]
@[reducible] def Vl.val (v : Vl) : Value := .agg #[.int .i64 v.k, .int .i64 v.n, .string v.s]
def vals (l : List Vl) : List Value := l.flatMap valC
theorem flat_get : ∀ (l : List Vl) (j i : Nat) (v : Vl), l[j]? = some v → i < 3 → (l.flatMap valC)[j * 3 + i]? = (valC v)[i]?
  | [], j, i, v, h, _ => by simp at h
  | a :: l, 0, i, v, h, hi => by
    simp at h; subst h
    rw [List.flatMap_cons, List.getElem?_append_left (by simp [valC]; omega)]
    simp
  | a :: l, j + 1, i, v, h, hi => by
    rw [List.flatMap_cons, List.getElem?_append_right (by simp [valC]; omega)]
    have e : (j + 1) * 3 + i - (valC a).length = j * 3 + i := by simp [valC]; omega
    rw [e]
    exact flat_get l j i v (by simpa using h) hi
theorem flat_len (l : List Vl) : (l.flatMap valC).length = l.length * 3 := by
  induction l with
  | nil => rfl
  | cons a l ih => simp [valC, ih]; omega
theorem vals_append (l m : List Vl) : vals (l ++ m) = vals l ++ vals m := by simp [vals]
theorem vals_len (l : List Vl) : (vals l).length = l.length * 3 := flat_len l
theorem vals_one (l : List Vl) : ∀ u ∈ vals l, u.oneCell' = true := by
  intro u hu
  simp only [vals, List.mem_flatMap] at hu
  obtain ⟨v, _, hv⟩ := hu
  simp [valC] at hv
  rcases hv with rfl | rfl | rfl <;> rfl

/-- The three cells of a value at p. -/
def Cell3 (w : World) (p : Addr) (v : Vl) : Prop := w.cell? p = some (.int .i64 v.k) ∧ w.cell? ⟨p.block, p.off + 1, none⟩ = some (.int .i64 v.n) ∧ w.cell? ⟨p.block, p.off + 2, none⟩ = some (.string v.s)
/-- The slice at A reads as the list l. -/
def RdL (w : World) (A : Option Addr) (l : List Vl) : Prop :=
  l ≠ [] → ∃ ad, A = some ad ∧ ∀ j v, l[j]? = some v → Cell3 w (ad.add (j * 3)) v
theorem add_block (a : Addr) (n : Nat) : (a.add n).block = a.block := by unfold Addr.add; split <;> rfl
theorem add_ne {ad : Addr} {i : Nat} (h : i ≠ 0) : ad.add i = ⟨ad.block, ad.off + i, none⟩ := by unfold Addr.add; rw [if_neg h]
theorem add_two {ad : Addr} (i j : Nat) (h : j ≠ 0) : ad.add (i + j) = ⟨(ad.add i).block, (ad.add i).off + j, none⟩ := by
  rw [add_ne (by omega), add_block]
  have : (ad.add i).off = ad.off + i := by unfold Addr.add; split <;> simp_all
  rw [this, Nat.add_assoc]
theorem cell_lt {w : World} {p : Addr} {v : Value} (h : w.cell? p = some v) : p.block < w.heap.size := World.block_lt_of_cell? w _ h
theorem Cell3.lt {w : World} {p : Addr} {v : Vl} (h : Cell3 w p v) : p.block < w.heap.size := cell_lt h.1
theorem Cell3.below {w w' : World} {p : Addr} {v : Vl} (h : Cell3 w p v) (hb : Below w.heap.size w w') : Cell3 w' p v :=
  ⟨(hb.cell h.lt).trans h.1, (hb.cell (p := ⟨p.block, p.off + 1, none⟩) h.lt).trans h.2.1, (hb.cell (p := ⟨p.block, p.off + 2, none⟩) h.lt).trans h.2.2⟩
theorem RdL.below {w w' : World} {A : Option Addr} {l : List Vl} (h : RdL w A l) (hb : Below w.heap.size w w') : RdL w' A l := fun hl => by
  obtain ⟨ad, e, hc⟩ := h hl
  exact ⟨ad, e, fun j v hj => (hc j v hj).below hb⟩
theorem RdL.at_ {w : World} {A : Option Addr} {l : List Vl} {j : Nat} (h : RdL w A l) (hj : j < l.length) : ∃ ad, A = some ad ∧ Cell3 w (ad.add (j * 3)) l[j] := by
  obtain ⟨ad, e, hc⟩ := h (by intro e; subst e; simp at hj)
  exact ⟨ad, e, hc j _ (List.getElem?_eq_getElem hj)⟩
theorem RdL.news {w : World} {ad : Addr} {l : List Vl} (h : RdL w (some ad) l) : ∀ i u, (vals l)[i]? = some u → w.cell? (ad.add i) = some u := by
  intro i u hu
  have hi : i < l.length * 3 := by rw [← vals_len]; exact (List.getElem?_eq_some_iff.1 hu).1
  obtain ⟨ad', e, hc⟩ := h (by intro e; subst e; simp at hi)
  injection e with e
  subst e
  obtain ⟨j, r, rfl, hr⟩ : ∃ j r, i = j * 3 + r ∧ r < 3 := ⟨i / 3, i % 3, by omega, by omega⟩
  obtain ⟨v, hv⟩ : ∃ v, l[j]? = some v := ⟨_, List.getElem?_eq_getElem (show j < l.length by omega)⟩
  obtain ⟨c0, c1, c2⟩ := hc _ _ hv
  have hf := flat_get l j r _ hv hr
  have hu' : (valC v)[r]? = some u := hf.symm.trans hu
  rcases (show r = 0 ∨ r = 1 ∨ r = 2 by omega) with rfl | rfl | rfl
  · simp [valC] at hu'
    subst hu'
    exact c0
  · simp [valC] at hu'
    subst hu'
    rw [add_two _ _ (by omega)]
    exact c1
  · simp [valC] at hu'
    subst hu'
    rw [add_two _ _ (by omega)]
    exact c2
/-- The slice's head. -/
def Hdr (A : Option Addr) (n c : Nat) : Prop := (A = none → n = 0 ∧ c = 0) ∧ n ≤ c ∧ n ≤ 9223372036854775807 ∧ n * 32 ≤ 140737488355328

set_option maxHeartbeats 400000 in
theorem sClone_any (s : ByteArray) (w : World) (hs : s.size ≤ 140737488355328) :
    Calls Try.prog 27 #[.string s] w fun e w' => e = .returned (.string s) ∧ Below w.heap.size w w' := by
  have h := Try.stringslite_Clone s w (by omega)
  go_enter Try.func27, Try.ntmps27
  go_wp2_with (go_at_call 38; refine h.mono ?_; rintro e w1 ⟨rfl, hb⟩)
  go_ret
  exact ⟨rfl, hb⟩

/-- The test of Fold: a value that is NULL. -/
theorem isNull_any (k n : Int) (s : ByteArray) (w : World) :
    Calls Try.prog 16 #[.agg #[.int .i64 k, .int .i64 n, .string s]] w fun e w' => e = .returned (.bool (decide (k = 0))) ∧ Below w.heap.size w w' := by
  go_enter Try.func16, Try.ntmps16
  go_wp2
  go_ret
  exact ⟨ret_bool (by first | rfl | simp), below1 _ _⟩

theorem Try.infoV : (Try.prog.info? 23).map (fun i => (i.zero, i.size, i.bytes)) = some (some (.agg #[.int .i64 0, .int .i64 0, .string ⟨#[]⟩]), 3, 32) := by kernel_rfl

theorem lClone_nil (n c : Nat) (w : World) :
    Calls Try.prog 15 #[.slice none n c] w fun e w' => e = .returned (.slice none 0 0) ∧ w = w' := by
  have q22 : ∀ (w : World) (a : Option Addr) (n c n' c' : Nat), (binOp .eql 27 (.slice a n c) (.slice none n' c')).run Try.prog w = .ok (.bool a.isNone) w := fun w a n c n' c' => Lib.run_eql_slice_nil w _ _ a n c n' c' Try.underlying27
  go_enter Try.func15, Try.ntmps15
  go_wp2
  go_ret
  exact ⟨rfl, rfl⟩

set_option maxHeartbeats 1000000 in
theorem lClone_some (ad : Addr) (n c : Nat) (l : List Vl) (w : World) (hl : n = l.length) (hr : RdL w (some ad) l) (hn : n * 32 ≤ 140737488355328) :
    Calls Try.prog 15 #[.slice (some ad) n c] w fun e w' => ∃ v, e = .returned v ∧ w'.ownsRow w.heap.size 23 3 v n (vals l) ∧ Below w.heap.size w w' := by
  obtain ⟨i0, hi, hz0, hz1, hz2⟩ := info_parts Try.infoV
  have HR := Lib.hid hr
  have HL := Lib.hid hl
  clear hl hr
  have q22 : ∀ (w : World) (a : Option Addr) (n c n' c' : Nat), (binOp .eql 27 (.slice a n c) (.slice none n' c')).run Try.prog w = .ok (.bool a.isNone) w := fun w a n c n' c' => Lib.run_eql_slice_nil w _ _ a n c n' c' Try.underlying27
  go_enter Try.func15, Try.ntmps15
  go_wp2_with (at_builtin; refine wpList_append_own_at _ rfl _ _ 27 rfl w.heap.size 23 i0 (.agg #[.int .i64 0, .int .i64 0, .string ⟨#[]⟩]) 3 32 Try.underlying27 hi hz0 hz1 hz2 rfl (by decide) _ _ _ rfl (World.ownsRow_made w #[] 0 (Nat.le_refl _) (Nat.zero_le _) (by simp)) ad n c (vals l) rfl ?c0 ?c1 (vals_one l) ?c3 ?c4 ?c5 ?_)
  case c0 => rw [vals_len, ← HL.out]
  case c1 => exact HR.out.below (below1 _ _) |>.news
  case c3 => unfold maxLen; omega
  case c4 => omega
  case c5 => simp
  intro v' w' hown hg _ _
  have HOwn := Lib.hid hown
  clear hown
  go_wp2
  go_ret
  refine ⟨_, rfl, by simpa using HOwn.out, (below1 _ _).grown hg (by simp) (fun k hk => ?_)⟩
  simp [Value.ownBlock] at hk
  omega

end Go.Proofs.Ytjogpcffldkhlaa
