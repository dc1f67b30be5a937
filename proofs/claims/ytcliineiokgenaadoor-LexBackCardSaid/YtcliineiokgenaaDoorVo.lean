/- How a list of tokens that a call owns is read. Conditions: none. -/
import Derived.Test.YtcliineiokgenaaDoorVn
import Derived.Test.YtcliineiokgenaaDoorMb
namespace Go.Proofs.YtcliineiokgenaaDoor
open Go.RowKit
set_option linter.unusedSimpArgs false
set_option linter.unusedVariables false

/-- The four cells of a token at p. -/
def Cell4 (w : World) (p : Addr) (t : Tok) : Prop :=
  w.cell? p = some (.int .i64 t.k) ∧ w.cell? ⟨p.block, p.off + 1, none⟩ = some (.string ⟨t.t.toArray⟩) ∧ w.cell? ⟨p.block, p.off + 2, none⟩ = some (.int .i64 t.n) ∧ w.cell? ⟨p.block, p.off + 3, none⟩ = some (.int .i64 t.at_)
/-- The slice at A reads as the list l; it lies below block B. -/
def RdT (w : World) (B : Nat) (A : Option Addr) (l : List Tok) : Prop :=
  l ≠ [] → ∃ ad, A = some ad ∧ ad.block < B ∧ ∀ j t, l[j]? = some t → Cell4 w (ad.add (j * 4)) t
theorem add_block (a : Addr) (n : Nat) : (a.add n).block = a.block := by unfold Addr.add; split <;> rfl
theorem add_ne {ad : Addr} {i : Nat} (h : i ≠ 0) : ad.add i = ⟨ad.block, ad.off + i, none⟩ := by unfold Addr.add; rw [if_neg h]
theorem add_two {ad : Addr} (i j : Nat) (h : j ≠ 0) : ad.add (i + j) = ⟨(ad.add i).block, (ad.add i).off + j, none⟩ := by
  rw [add_ne (by omega), add_block]
  have : (ad.add i).off = ad.off + i := by unfold Addr.add; split <;> simp_all
  rw [this, Nat.add_assoc]
theorem Cell4.below {w w' : World} {p : Addr} {t : Tok} {B : Nat} (h : Cell4 w p t) (hb : Below B w w') (hp : p.block < B) : Cell4 w' p t :=
  ⟨(hb.cell hp).trans h.1, (hb.cell (p := ⟨p.block, p.off + 1, none⟩) hp).trans h.2.1, (hb.cell (p := ⟨p.block, p.off + 2, none⟩) hp).trans h.2.2.1, (hb.cell (p := ⟨p.block, p.off + 3, none⟩) hp).trans h.2.2.2⟩
theorem RdT.below {w w' : World} {B : Nat} {A : Option Addr} {l : List Tok} (h : RdT w B A l) (hb : Below B w w') : RdT w' B A l := fun hl => by
  obtain ⟨ad, e, hlt, hc⟩ := h hl
  exact ⟨ad, e, hlt, fun j v hj => (hc j v hj).below hb (by rw [add_block]; exact hlt)⟩
theorem RdT.more {w : World} {B B' : Nat} {A : Option Addr} {l : List Tok} (h : RdT w B A l) (hB : B ≤ B') : RdT w B' A l := fun hl => by
  obtain ⟨ad, e, hlt, hc⟩ := h hl
  exact ⟨ad, e, by omega, hc⟩
theorem RdT.at_ {w : World} {B : Nat} {A : Option Addr} {l : List Tok} {j : Nat} (h : RdT w B A l) (hj : j < l.length) : ∃ ad, A = some ad ∧ ad.block < B ∧ Cell4 w (ad.add (j * 4)) l[j] := by
  obtain ⟨ad, e, hlt, hc⟩ := h (by intro e; subst e; simp at hj)
  exact ⟨ad, e, hlt, hc j _ (List.getElem?_eq_getElem hj)⟩
theorem toks_get : ∀ (l : List Tok) (j r : Nat) (t : Tok), l[j]? = some t → r < 4 → (toks l)[j * 4 + r]? = (tokV t)[r]?
  | [], j, r, t, h, _ => by simp at h
  | u :: l, 0, r, t, h, hr => by
    simp at h; subst h
    have e : toks (u :: l) = tokV u ++ toks l := by simp [toks]
    rw [e, Nat.zero_mul, Nat.zero_add, List.getElem?_append_left (by simpa [tokV] using hr)]
  | u :: l, j + 1, r, t, h, hr => by
    have e : toks (u :: l) = tokV u ++ toks l := by simp [toks]
    have h' : l[j]? = some t := by simpa using h
    have hl : (tokV u).length = 4 := rfl
    rw [e, List.getElem?_append_right (by rw [hl]; omega), hl]
    have e2 : (j + 1) * 4 + r - 4 = j * 4 + r := by omega
    rw [e2]
    exact toks_get l j r t h' hr
/-- A list that the call owns, read as a list; e: its elements' type. -/
theorem RdT_own {w : World} {base n : Nat} {e : TypeId} {v : Value} {l : List Tok} (h : w.ownsRow base e 4 v n (toks l)) : ∃ A c, v = .slice A n c ∧ n = l.length ∧ RdT w w.heap.size A l := by
  have hl : n = l.length := by have := h.1; rw [toks_length] at this; omega
  rcases h.2 with ⟨rfl, h0⟩ | ⟨g, cap, cur, rfl, hb, hg, hc, hm, hs, ht⟩
  · subst h0
    refine ⟨none, 0, rfl, hl, fun hne => ?_⟩
    have : l = [] := List.eq_nil_of_length_eq_zero hl.symm
    exact absurd this hne
  · refine ⟨_, cap, rfl, hl, fun _ => ⟨_, rfl, (Array.getElem?_eq_some_iff.1 hg).1, fun j t hj => ?_⟩⟩
    have hk := fun (r : Nat) (u : Value) (hr : r < 4) (hu : (tokV t)[r]? = some u) => h.cells (g := g) rfl (j * 4 + r) u ((toks_get l j r t hj hr).trans hu)
    refine ⟨?_, ?_, ?_, ?_⟩
    · exact hk 0 _ (by omega) rfl
    · rw [← add_two (j * 4) 1 (by omega)]; exact hk 1 _ (by omega) rfl
    · rw [← add_two (j * 4) 2 (by omega)]; exact hk 2 _ (by omega) rfl
    · rw [← add_two (j * 4) 3 (by omega)]; exact hk 3 _ (by omega) rfl
end Go.Proofs.YtcliineiokgenaaDoor
