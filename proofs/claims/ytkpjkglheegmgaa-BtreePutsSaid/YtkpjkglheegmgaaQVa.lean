/- How lists of texts, trees and states lie in memory, and what keeps them. Conditions: none. -/
import Derived.Test.YtkpjkglheegmgaaChecked
import Derived.Test.YtkpjkglheegmgaaQa
import Derived.WalkKit
import Derived.WalkSpells
import Derived.WalkLawsBesides
import Derived.Deep.QuietTactic
import Derived.BigQuiet
import Derived.Deep.RegionHeld3
import Derived.Deep.DeepCutAuto
import Derived.Deep.Light
import Derived.Lib.Hide
import Derived.Lib.QuietBelow
import Derived.StillTailTactics
import Derived.Maps.AppendAt
import Derived.IntWalk
namespace Go.Proofs.Ytkpjkglheegmgaa
open Go.RowKit
set_option linter.unusedSimpArgs false
set_option linter.unusedVariables false

theorem below1 (w : World) (o : Obj) : Below w.heap.size w (w.alloc o) := (Below.refl _ _).alloc (Nat.le_refl _) o
theorem below2 (w : World) (o p : Obj) : Below w.heap.size w ((w.alloc o).alloc p) := (below1 w o).alloc (by simp) p
theorem ret_bool {a b : Bool} (h : a = b) : Ending.returned (.bool a) = .returned (.bool b) := by rw [h]
theorem ret_int {k : IntKind} {a b : Int} (h : a = b) : Ending.returned (.int k a) = .returned (.int k b) := by rw [h]
theorem bcell {W w1 : World} (hb : Below W.heap.size W w1) : (∀ b o, b < W.heap.size → w1.cell? ⟨b, o, none⟩ = W.cell? ⟨b, o, none⟩) ∧ (∀ b o, b < W.heap.size → w1.frozen? ⟨b, o, none⟩ = W.frozen? ⟨b, o, none⟩) :=
  ⟨fun b o h => hb.cell (p := ⟨b, o, none⟩) h, fun b o h => hb.frozen (p := ⟨b, o, none⟩) h⟩
theorem thn {a b c : World} (h : Below a.heap.size a b) (k : Below b.heap.size b c) : Below a.heap.size a c := h.trans (k.mono h.size)
theorem add_block (a : Addr) (n : Nat) : (a.add n).block = a.block := by unfold Addr.add; split <;> rfl
theorem add_ne {ad : Addr} {i : Nat} (h : i ≠ 0) : ad.add i = ⟨ad.block, ad.off + i, none⟩ := by unfold Addr.add; rw [if_neg h]
theorem add_zero (ad : Addr) : ad.add 0 = ad := by unfold Addr.add; rw [if_pos rfl]
theorem add_off {ad : Addr} {i : Nat} : (ad.add i).off = ad.off + i := by unfold Addr.add; split <;> simp_all
theorem add_two {ad : Addr} (i j : Nat) (h : j ≠ 0) : ad.add (i + j) = ⟨(ad.add i).block, (ad.add i).off + j, none⟩ := by
  rw [add_ne (by omega), add_block, add_off, Nat.add_assoc]
theorem add_add_ (a : Addr) (i j : Nat) : (a.add i).add j = a.add (i + j) := by
  unfold Addr.add
  by_cases hi : i = 0 <;> by_cases hj : j = 0 <;> simp [hi, hj, Nat.add_assoc]
theorem cell_lt {w : World} {p : Addr} {v : Value} (h : w.cell? p = some v) : p.block < w.heap.size := World.block_lt_of_cell? w _ h
theorem cell_keep {w w' : World} {p : Addr} {v : Value} (h : w.cell? p = some v) (hb : Below w.heap.size w w') : w'.cell? p = some v := (hb.cell (cell_lt h)).trans h
theorem cell_of_heap {w w' : World} {p : Addr} (h : w'.heap[p.block]? = w.heap[p.block]?) : w'.cell? p = w.cell? p := by unfold World.cell?; rw [h]

/-- Texts and addresses, as they lie in cells. -/
def strs (l : List Key) : List Value := l.map fun k => .string k.s
@[reducible] def ptr (g : Nat) : Value := .pointer (some ⟨g, 0, none⟩)
def ptrs (gs : List Nat) : List Value := gs.map fun g => .pointer (some ⟨g, 0, none⟩)
theorem strs_len (l : List Key) : (strs l).length = l.length := by simp [strs]
theorem ptrs_len (l : List Nat) : (ptrs l).length = l.length := by simp [ptrs]
theorem strs_at {l : List Key} {i : Nat} (h : i < l.length) : (strs l)[i]? = some (.string l[i].s) := by simp [strs, h]
theorem ptrs_at {l : List Nat} {i : Nat} (h : i < l.length) : (ptrs l)[i]? = some (.pointer (some ⟨l[i], 0, none⟩)) := by simp [ptrs, h]
theorem strs_take (l : List Key) (k : Nat) : (strs l).take k = strs (l.take k) := by simp [strs]
theorem strs_drop (l : List Key) (k : Nat) : (strs l).drop k = strs (l.drop k) := by simp [strs]
theorem ptrs_take (l : List Nat) (k : Nat) : (ptrs l).take k = ptrs (l.take k) := by simp [ptrs]
theorem ptrs_drop (l : List Nat) (k : Nat) : (ptrs l).drop k = ptrs (l.drop k) := by simp [ptrs]
theorem strs_app (a b : List Key) : strs (a ++ b) = strs a ++ strs b := by simp [strs]
theorem ptrs_app (a b : List Nat) : ptrs (a ++ b) = ptrs a ++ ptrs b := by simp [ptrs]
/-- What is never written over: texts, and addresses that are not nil. -/
def firm : Value → Bool
  | .string _ => true
  | .pointer (some _) => true
  | _ => false
theorem strs_firm (l : List Key) : ∀ u ∈ strs l, firm u = true := fun u hu => by
  obtain ⟨k, _, rfl⟩ := List.mem_map.1 hu
  rfl
theorem ptrs_firm (l : List Nat) : ∀ u ∈ ptrs l, firm u = true := fun u hu => by
  obtain ⟨k, _, rfl⟩ := List.mem_map.1 hu
  rfl
theorem strs_one (l : List Key) : ∀ u ∈ strs l, u.oneCell' = true := fun u hu => by
  obtain ⟨k, _, rfl⟩ := List.mem_map.1 hu
  rfl
theorem ptrs_one (l : List Nat) : ∀ u ∈ ptrs l, u.oneCell' = true := fun u hu => by
  obtain ⟨k, _, rfl⟩ := List.mem_map.1 hu
  rfl
/-- All that is firm is as it was. -/
def Kv (w w' : World) : Prop := ∀ p v, w.cell? p = some v → firm v = true → w'.cell? p = some v
theorem Kv.refl (w : World) : Kv w w := fun _ _ h _ => h
theorem Kv.trans {a b c : World} (h1 : Kv a b) (h2 : Kv b c) : Kv a c := fun p v h hf => h2 p v (h1 p v h hf) hf
theorem Kv.of_below {w w' : World} (h : Below w.heap.size w w') : Kv w w' := fun _ _ hp _ => cell_keep hp h
theorem Kv.set {w : World} {p : Addr} {u : Value} (v : Value) (hp : w.cell? p = some u) (hu : firm u = false) : Kv w (w.setCell p v) := fun q x hq hx => by
  by_cases e : q = p
  · subst e
    rw [hp] at hq
    injection hq with hq
    subst hq
    rw [hu] at hx; cases hx
  · rw [World.cell?_setCell_other w p q v (fun h => e h.symm)]
    exact hq

/-- The slice at A of n cells, with room for c, reads as xs. -/
structure Rd (w : World) (A : Option Addr) (n c : Nat) (xs : List Value) : Prop where
  len : xs.length = n
  le : n ≤ c
  cap : c ≤ 9223372036854775807
  nil : A = none → n = 0 ∧ c = 0
  cells : ∀ ad, A = some ad → ∀ (j : Nat) (u : Value), xs[j]? = some u → w.cell? (ad.add j) = some u
section
variable {w w' : World} {A : Option Addr} {n c : Nat} {xs : List Value}
theorem Rd.kv (h : Rd w A n c xs) (hf : ∀ u ∈ xs, firm u = true) (hk : Kv w w') : Rd w' A n c xs :=
  ⟨h.len, h.le, h.cap, h.nil, fun ad e j u hj => hk _ _ (h.cells ad e j u hj) (hf u (List.mem_of_getElem? hj))⟩
theorem Rd.keep (h : Rd w A n c xs) (hk : ∀ p v, w.cell? p = some v → w'.cell? p = some v) : Rd w' A n c xs :=
  ⟨h.len, h.le, h.cap, h.nil, fun ad e j u hj => hk _ _ (h.cells ad e j u hj)⟩
theorem Rd.below (h : Rd w A n c xs) (hb : Below w.heap.size w w') : Rd w' A n c xs := h.keep fun _ _ hp => cell_keep hp hb
theorem Rd.nothing (w : World) : Rd w none 0 0 [] := ⟨rfl, Nat.le_refl _, by omega, fun _ => ⟨rfl, rfl⟩, fun ad e => by cases e⟩
theorem Rd.at_ (h : Rd w A n c xs) {k : Nat} {u : Value} (hk : xs[k]? = some u) : ∃ ad, A = some ad ∧ w.cell? (ad.add k) = some u := by
  have hl : k < xs.length := (List.getElem?_eq_some_iff.1 hk).1
  cases A with
  | none => have := (h.nil rfl).1; have := h.len; omega
  | some ad => exact ⟨ad, rfl, h.cells ad rfl k u hk⟩
theorem Rd.take (h : Rd w A n c xs) {k : Nat} (hk : k ≤ n) : Rd w A k c (xs.take k) :=
  ⟨by rw [List.length_take, h.len]; omega, by have := h.le; omega, h.cap, fun e => ⟨by have := (h.nil e).1; omega, (h.nil e).2⟩, fun ad e j u hj => h.cells ad e j u (by
    rw [List.getElem?_take] at hj
    split at hj
    · exact hj
    · cases hj)⟩
def cutA (A : Option Addr) (c k : Nat) : Option Addr := if c = k then A else A.map (·.add k)
theorem Rd.drop (h : Rd w A n c xs) {k : Nat} (hk : k ≤ n) : Rd w (cutA A c k) (n - k) (c - k) (xs.drop k) := by
  have hle := h.le
  refine ⟨by rw [List.length_drop, h.len], by omega, by have := h.cap; omega, fun e => ?_, fun ad e j u hj => ?_⟩
  · unfold cutA at e
    split at e
    · have := h.nil e; omega
    · cases A with
      | none => have := h.nil rfl; omega
      | some ad => cases e
  · rw [List.getElem?_drop] at hj
    unfold cutA at e
    split at e
    · rename_i hck
      have : k + j < xs.length := (List.getElem?_eq_some_iff.1 hj).1
      have := h.len
      omega
    · cases A with
      | none => cases e
      | some ad' =>
        injection e with e
        subst e
        rw [add_add_]
        exact h.cells ad' rfl _ u hj
theorem Rd.of_own {base : Nat} {e : TypeId} {v : Value} (h : w.ownsRow base e 1 v n xs) : ∃ A c, v = .slice A n c ∧ Rd w A n c xs := by
  have hl : xs.length = n := by have := h.1; omega
  rcases h.2 with ⟨rfl, rfl⟩ | ⟨g, cap, cur, rfl, _, _, hc, hm, _⟩
  · have : xs = [] := List.eq_nil_of_length_eq_zero hl
    subst this
    exact ⟨none, 0, rfl, Rd.nothing w⟩
  · refine ⟨_, cap, rfl, hl, hc, by unfold maxLen at hm; exact hm, (fun e => by cases e), fun ad e j u hj => ?_⟩
    injection e with e
    subst e
    exact h.cells (g := g) rfl j u hj
end
theorem Try.infoS : (Try.prog.info? 9).map (fun i => (i.zero, i.size, i.bytes)) = some (some (.string ⟨#[]⟩), 1, 16) := by kernel_rfl
theorem Try.infoB : (Try.prog.info? 67).map (fun i => (i.zero, i.size, i.bytes)) = some (some (.pointer none), 1, 8) := by kernel_rfl
theorem Try.infoI : (Try.prog.info? 3).map (fun i => (i.zero, i.size, i.bytes)) = some (some (.int .i64 0), 1, 8) := by kernel_rfl
theorem elemS : Try.prog.elem 55 = 9 := by kernel_rfl
theorem elemB : Try.prog.elem 97 = 67 := by kernel_rfl
theorem size_of {e : TypeId} {z : Option Value} {b : Nat} (h : (Try.prog.info? e).map (fun i => (i.zero, i.size, i.bytes)) = some (z, 1, b)) (w : World) : (sizeOf e).run Try.prog w = .ok 1 w := by
  cases hi : Try.prog.info? e with
  | none => rw [hi] at h; cases h
  | some i =>
    rw [hi] at h
    simp at h
    simp [sizeOf, typeInfo, hi, h.2.1]
/-- s[k:] and s[:k] of a slice. -/
theorem run_from {t : TypeId} (ht : Try.prog.underlying t = some (.slice (Try.prog.elem t))) (he : ∀ w, (sizeOf (Try.prog.elem t)).run Try.prog w = .ok 1 w) (A : Option Addr) (n c k : Nat) (hk : k ≤ n) (w : World) :
    (Instr.slice t (.slice A n c) (some (.int .i64 (k : Int))) none none).run Try.prog w = .ok (.slice (cutA A c k) (n - k) (c - k)) w := by
  rw [run_slice_l w t A n c ht .i64 (k : Int) (by omega) (by omega), he]
  simp [Result.andThen, sliced, cutA]
theorem run_to {t : TypeId} (ht : Try.prog.underlying t = some (.slice (Try.prog.elem t))) (he : ∀ w, (sizeOf (Try.prog.elem t)).run Try.prog w = .ok 1 w) (A : Option Addr) (n c k : Nat) (hk : k ≤ c) (w : World) :
    (Instr.slice t (.slice A n c) none (some (.int .i64 (k : Int))) none).run Try.prog w = .ok (.slice A k c) w := by
  rw [run_slice_h w t A n c ht .i64 (k : Int) (by omega) (by omega), he]
  cases A <;> simp [Result.andThen, sliced, add_zero]
end Go.Proofs.Ytkpjkglheegmgaa
