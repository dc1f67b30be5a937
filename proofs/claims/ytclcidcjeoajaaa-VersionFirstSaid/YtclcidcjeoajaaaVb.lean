/- How chains lie in memory, and what keeps them; slices of slices; strings.Clone. Conditions: lengths that every machine keeps. -/
import Derived.Test.YtclcidcjeoajaaaVa
import Derived.Test.YtclcidcjeoajaaaSh
import Derived.Deep.MidRow
import Derived.Lib.SliceRun
namespace Go.Proofs.Ytclcidcjeoajaaa
open Go.RowKit
set_option linter.unusedSimpArgs false
set_option linter.unusedVariables false

theorem add_block (a : Addr) (n : Nat) : (a.add n).block = a.block := by unfold Addr.add; split <;> rfl
theorem add_ne {ad : Addr} {i : Nat} (h : i ≠ 0) : ad.add i = ⟨ad.block, ad.off + i, none⟩ := by unfold Addr.add; rw [if_neg h]
theorem add_zero (ad : Addr) : ad.add 0 = ad := by unfold Addr.add; rw [if_pos rfl]
theorem add_off {ad : Addr} {i : Nat} : (ad.add i).off = ad.off + i := by unfold Addr.add; split <;> simp_all
theorem add_two {ad : Addr} (i j : Nat) (h : j ≠ 0) : ad.add (i + j) = ⟨(ad.add i).block, (ad.add i).off + j, none⟩ := by
  rw [add_ne (by omega), add_block, add_off, Nat.add_assoc]
theorem add_add_ (a : Addr) (i j : Nat) : (a.add i).add j = a.add (i + j) := by
  unfold Addr.add
  by_cases hi : i = 0 <;> by_cases hj : j = 0 <;> simp [hi, hj, Nat.add_assoc]
theorem add_lit (g o i : Nat) : (⟨g, o, none⟩ : Addr).add i = ⟨g, o + i, none⟩ := by unfold Addr.add; split <;> simp_all

def verC (v : Ver) : List Value := [.int .i64 v.t, .int .i64 v.x, .bool v.g, .string v.v]
def vers (l : List Ver) : List Value := l.flatMap verC
theorem vers_len (l : List Ver) : (vers l).length = l.length * 4 := by
  unfold vers
  induction l with
  | nil => rfl
  | cons a l ih => simp [verC, ih]; omega
theorem vers_app (l m : List Ver) : vers (l ++ m) = vers l ++ vers m := by simp [vers]
theorem vers_one (l : List Ver) : ∀ u ∈ vers l, u.oneCell' = true := by
  intro u hu
  simp only [vers, List.mem_flatMap] at hu
  obtain ⟨v, _, hv⟩ := hu
  simp [verC] at hv
  rcases hv with rfl | rfl | rfl | rfl <;> rfl
theorem flat_get : ∀ (l : List Ver) (j i : Nat) (v : Ver), l[j]? = some v → i < 4 → (vers l)[j * 4 + i]? = (verC v)[i]?
  | [], j, i, v, h, _ => by simp at h
  | a :: l, 0, i, v, h, hi => by
    simp at h; subst h
    unfold vers
    rw [List.flatMap_cons, List.getElem?_append_left (by simp [verC]; omega)]
    simp
  | a :: l, j + 1, i, v, h, hi => by
    unfold vers
    rw [List.flatMap_cons, List.getElem?_append_right (by simp [verC]; omega)]
    have e : (j + 1) * 4 + i - (verC a).length = j * 4 + i := by simp [verC]; omega
    rw [e]
    exact flat_get l j i v (by simpa using h) hi

/-- The four cells of a version at p. -/
def Cell4 (w : World) (p : Addr) (v : Ver) : Prop := w.cell? p = some (.int .i64 v.t) ∧ w.cell? ⟨p.block, p.off + 1, none⟩ = some (.int .i64 v.x) ∧ w.cell? ⟨p.block, p.off + 2, none⟩ = some (.bool v.g) ∧ w.cell? ⟨p.block, p.off + 3, none⟩ = some (.string v.v)
theorem Cell4.lt {w : World} {p : Addr} {v : Ver} (h : Cell4 w p v) : p.block < w.heap.size := cell_lt h.1
theorem Cell4.below {w w' : World} {p : Addr} {v : Ver} (h : Cell4 w p v) (hb : Below w.heap.size w w') : Cell4 w' p v :=
  ⟨cell_keep h.1 hb, cell_keep h.2.1 hb, cell_keep h.2.2.1 hb, cell_keep h.2.2.2 hb⟩
/-- The slice at A of n versions, with room for c, reads as the chain l. -/
structure Rd (w : World) (A : Option Addr) (n c : Nat) (l : List Ver) : Prop where
  len : l.length = n
  le : n ≤ c
  cap : c ≤ 9223372036854775807
  nil : A = none → n = 0 ∧ c = 0
  cells : ∀ ad, A = some ad → ∀ (j : Nat) (v : Ver), l[j]? = some v → Cell4 w (ad.add (j * 4)) v
section
variable {w w' : World} {A : Option Addr} {n c : Nat} {l : List Ver}
theorem Rd.below (h : Rd w A n c l) (hb : Below w.heap.size w w') : Rd w' A n c l :=
  ⟨h.len, h.le, h.cap, h.nil, fun ad e j v hj => (h.cells ad e j v hj).below hb⟩
theorem Rd.nothing (w : World) : Rd w none 0 0 [] := ⟨rfl, Nat.le_refl _, by omega, fun _ => ⟨rfl, rfl⟩, fun ad e => by cases e⟩
theorem Rd.at_ (h : Rd w A n c l) {k : Nat} (hk : k < l.length) : ∃ ad, A = some ad ∧ Cell4 w (ad.add (k * 4)) l[k] := by
  cases A with
  | none => have := (h.nil rfl).1; have := h.len; omega
  | some ad => exact ⟨ad, rfl, h.cells ad rfl k _ (List.getElem?_eq_getElem hk)⟩
theorem Rd.take (h : Rd w A n c l) {k : Nat} (hk : k ≤ n) : Rd w A k c (l.take k) :=
  ⟨by rw [List.length_take, h.len]; omega, by have := h.le; omega, h.cap, fun e => ⟨by have := (h.nil e).1; omega, (h.nil e).2⟩, fun ad e j u hj => h.cells ad e j u (by
    rw [List.getElem?_take] at hj
    split at hj
    · exact hj
    · cases hj)⟩
def cutA (A : Option Addr) (c k : Nat) : Option Addr := if c = k then A else A.map (·.add (k * 4))
theorem Rd.drop (h : Rd w A n c l) {k : Nat} (hk : k ≤ n) : Rd w (cutA A c k) (n - k) (c - k) (l.drop k) := by
  have hle := h.le
  refine ⟨by rw [List.length_drop, h.len], by omega, by have := h.cap; omega, fun e => ?_, fun ad e j u hj => ?_⟩
  · unfold cutA at e
    split at e
    · have := h.nil e; omega
    · cases A with
      | none => have := h.nil rfl; omega
      | some ad => cases e
  · rw [List.getElem?_drop] at hj
    unfold cutA at e
    split at e
    · rename_i hck
      have : k + j < l.length := (List.getElem?_eq_some_iff.1 hj).1
      have := h.len
      omega
    · cases A with
      | none => cases e
      | some ad' =>
        injection e with e
        subst e
        rw [add_add_, ← Nat.add_mul]
        exact h.cells ad' rfl _ u hj
theorem Rd.of_own {base : Nat} {e : TypeId} {v : Value} (h : w.ownsRow base e 4 v n (vers l)) : ∃ A c, v = .slice A n c ∧ Rd w A n c l := by
  have hl : l.length = n := by have := h.1; rw [vers_len] at this; omega
  rcases h.2 with ⟨rfl, h0⟩ | ⟨g, cap, cur, rfl, _, _, hc, hm, _⟩
  · have : l = [] := List.eq_nil_of_length_eq_zero (by omega)
    subst this
    subst hl
    exact ⟨none, 0, rfl, Rd.nothing w⟩
  · refine ⟨_, cap, rfl, hl, hc, by unfold maxLen at hm; exact hm, (fun e => by cases e), fun ad e j u hj => ?_⟩
    injection e with e
    subst e
    have hx : ∀ i x, (verC u)[i]? = some x → i < 4 → w.cell? ⟨g, j * 4 + i, none⟩ = some x := fun i x hi hlt => by
      have h1 := h.cells (g := g) rfl (j * 4 + i) x ((flat_get l j i u hj hlt).trans hi)
      rwa [add_lit, Nat.zero_add] at h1
    rw [add_lit, Nat.zero_add]
    exact ⟨hx 0 _ rfl (by omega), hx 1 _ rfl (by omega), hx 2 _ rfl (by omega), hx 3 _ rfl (by omega)⟩
theorem Rd.news {ad : Addr} (h : Rd w (some ad) n c l) : ∀ i u, (vers l)[i]? = some u → w.cell? (ad.add i) = some u := by
  intro i u hu
  have hi : i < l.length * 4 := by rw [← vers_len]; exact (List.getElem?_eq_some_iff.1 hu).1
  obtain ⟨j, r, rfl, hr⟩ : ∃ j r, i = j * 4 + r ∧ r < 4 := ⟨i / 4, i % 4, by omega, by omega⟩
  obtain ⟨v, hv⟩ : ∃ v, l[j]? = some v := ⟨_, List.getElem?_eq_getElem (show j < l.length by omega)⟩
  obtain ⟨c0, c1, c2, c3⟩ := h.cells ad rfl _ _ hv
  have hf := flat_get l j r _ hv hr
  have hu' : (verC v)[r]? = some u := hf.symm.trans hu
  rcases (show r = 0 ∨ r = 1 ∨ r = 2 ∨ r = 3 by omega) with rfl | rfl | rfl | rfl
  · simp [verC] at hu'
    subst hu'
    exact c0
  all_goals
    simp [verC] at hu'
    subst hu'
    rw [add_two _ _ (by omega)]
    assumption
end
theorem Try.infoV : (Try.prog.info? 41).map (fun i => (i.zero, i.size, i.bytes)) = some (some (.agg #[.int .i64 0, .int .i64 0, .bool false, .string ⟨#[]⟩]), 4, 40) := by kernel_rfl
theorem elemV : Try.prog.elem 24 = 41 := by kernel_rfl
theorem elemR : Try.prog.elem 22 = 37 := by kernel_rfl
theorem Try.infoR : (Try.prog.info? 37).map (fun i => (i.zero, i.size, i.bytes)) = some (some (.agg #[.int .i64 0, .int .i64 0, .bool false, .string ⟨#[]⟩]), 4, 40) := by kernel_rfl
theorem size_of {e : TypeId} {z : Option Value} {b k : Nat} (h : (Try.prog.info? e).map (fun i => (i.zero, i.size, i.bytes)) = some (z, k, b)) (w : World) : (sizeOf e).run Try.prog w = .ok k w := by
  cases hi : Try.prog.info? e with
  | none => rw [hi] at h; cases h
  | some i =>
    rw [hi] at h
    simp at h
    simp [sizeOf, typeInfo, hi, h.2.1]
/-- s[k:] and s[:k] of a slice. -/
theorem run_from {t : TypeId} (ht : Try.prog.underlying t = some (.slice (Try.prog.elem t))) (he : ∀ w, (sizeOf (Try.prog.elem t)).run Try.prog w = .ok 4 w) (A : Option Addr) (n c k : Nat) (hk : k ≤ n) (w : World) :
    (Instr.slice t (.slice A n c) (some (.int .i64 (k : Int))) none none).run Try.prog w = .ok (.slice (cutA A c k) (n - k) (c - k)) w := by
  rw [run_slice_l w t A n c ht .i64 (k : Int) (by omega) (by omega), he]
  simp [Result.andThen, sliced, cutA]
theorem run_to {t : TypeId} (ht : Try.prog.underlying t = some (.slice (Try.prog.elem t))) (he : ∀ w, (sizeOf (Try.prog.elem t)).run Try.prog w = .ok 4 w) (A : Option Addr) (n c k : Nat) (hk : k ≤ c) (w : World) :
    (Instr.slice t (.slice A n c) none (some (.int .i64 (k : Int))) none).run Try.prog w = .ok (.slice A k c) w := by
  rw [run_slice_h w t A n c ht .i64 (k : Int) (by omega) (by omega), he]
  cases A <;> simp [Result.andThen, sliced, add_zero]
theorem fromV (A : Option Addr) (n c k : Nat) (hk : k ≤ n) (w : World) : (Instr.slice 24 (.slice A n c) (some (.int .i64 (k : Int))) none none).run Try.prog w = .ok (.slice (cutA A c k) (n - k) (c - k)) w :=
  run_from (by rw [elemV]; exact Try.underlying24) (fun w => by rw [elemV]; exact size_of Try.infoV w) A n c k hk w
theorem fromR (A : Option Addr) (n c k : Nat) (hk : k ≤ n) (w : World) : (Instr.slice 22 (.slice A n c) (some (.int .i64 (k : Int))) none none).run Try.prog w = .ok (.slice (cutA A c k) (n - k) (c - k)) w :=
  run_from (by rw [elemR]; exact Try.underlying22) (fun w => by rw [elemR]; exact size_of Try.infoR w) A n c k hk w
theorem toV (A : Option Addr) (n c k : Nat) (hk : k ≤ c) (w : World) : (Instr.slice 24 (.slice A n c) none (some (.int .i64 (k : Int))) none).run Try.prog w = .ok (.slice A k c) w :=
  run_to (by rw [elemV]; exact Try.underlying24) (fun w => by rw [elemV]; exact size_of Try.infoV w) A n c k hk w

theorem sClone_any (s : ByteArray) (w : World) (hs : s.size ≤ 140737488355328) :
    Calls Try.prog 23 #[.string s] w fun e w' => e = .returned (.string s) ∧ Below w.heap.size w w' := by
  have h := Try.stringslite_Clone s w (by omega)
  go_enter Try.func23, Try.ntmps23
  go_wp2_with (go_at_call 30; refine h.mono ?_; rintro e w1 ⟨rfl, hb⟩)
  go_ret
  exact ⟨rfl, hb⟩
end Go.Proofs.Ytclcidcjeoajaaa
