/- Lists of rows in memory of their own: the walks of slices.Clone, strings.Clone and fresh. Conditions: lists that are read in memory. -/
import Derived.Test.YtjbebhhoakmceaaJi
import Derived.Test.YtjbebhhoakmceaaSh
import Derived.Lib.OwnKind
namespace Go.Proofs.Ytjbebhhoakmceaa
open Go.RowKit Go.Sort
set_option linter.unusedSimpArgs false
set_option linter.unusedVariables false

set_option maxHeartbeats 400000 in
theorem sClone_any (s : ByteArray) (w : World) (hs : s.size ≤ 140737488355328) :
    Calls Try.prog 37 #[.string s] w fun e w' => e = .returned (.string s) ∧ Below w.heap.size w w' := by
  have h := Try.stringslite_Clone s w (by omega)
  go_enter Try.func37, Try.ntmps37
  go_wp2_with (go_at_call 44; refine h.mono ?_; rintro e w1 ⟨rfl, hb⟩)
  go_ret
  exact ⟨rfl, hb⟩
theorem Try.infoV : (Try.prog.info? 39).map (fun i => (i.zero, i.size, i.bytes)) = some (some (.agg #[.int .i64 0, .int .i64 0, .string ⟨#[]⟩]), 3, 32) := by kernel_rfl
theorem lClone_nil (n c : Nat) (w : World) :
    Calls Try.prog 36 #[.slice none n c] w fun e w' => e = .returned (.slice none 0 0) ∧ w = w' := by
  have q22 : ∀ (w : World) (a : Option Addr) (n c n' c' : Nat), (binOp .eql 37 (.slice a n c) (.slice none n' c')).run Try.prog w = .ok (.bool a.isNone) w := fun w a n c n' c' => Lib.run_eql_slice_nil w _ _ a n c n' c' Try.underlying37
  go_enter Try.func36, Try.ntmps36
  go_wp2
  go_ret
  exact ⟨rfl, rfl⟩
set_option maxHeartbeats 1000000 in
theorem lClone_some (ad : Addr) (n c : Nat) (l : List Vl) (w : World) (hl : n = l.length) (hr : RdL w (some ad) l) (hn : n * 32 ≤ 140737488355328) :
    Calls Try.prog 36 #[.slice (some ad) n c] w fun e w' => ∃ v, e = .returned v ∧ w'.ownsRow w.heap.size 39 3 v n (vals l) ∧ Below w.heap.size w w' := by
  obtain ⟨i0, hi, hz0, hz1, hz2⟩ := info_parts Try.infoV
  have HR := Lib.hid hr
  have HL := Lib.hid hl
  clear hl hr
  have q22 : ∀ (w : World) (a : Option Addr) (n c n' c' : Nat), (binOp .eql 37 (.slice a n c) (.slice none n' c')).run Try.prog w = .ok (.bool a.isNone) w := fun w a n c n' c' => Lib.run_eql_slice_nil w _ _ a n c n' c' Try.underlying37
  go_enter Try.func36, Try.ntmps36
  go_wp2_with (at_builtin; refine wpList_append_own_at _ rfl _ _ 37 rfl w.heap.size 39 i0 (.agg #[.int .i64 0, .int .i64 0, .string ⟨#[]⟩]) 3 32 Try.underlying37 hi hz0 hz1 hz2 rfl (by decide) _ _ _ rfl (World.ownsRow_made w #[] 0 (Nat.le_refl _) (Nat.zero_le _) (by simp)) ad n c (vals l) rfl ?c0 ?c1 (vals_one l) ?c3 ?c4 ?c5 ?_)
  case c0 => rw [vals_len, ← HL.out]
  case c1 => exact HR.out.below (below1 _ _) |>.news
  case c3 => unfold maxLen; omega
  case c4 => omega
  case c5 => simp
  intro v' w' hown hg _ _
  have HOwn := Lib.hid hown
  clear hown
  go_wp2
  go_ret
  refine ⟨_, rfl, by simpa using HOwn.out, (below1 _ _).grown hg (by simp) (fun k hk => ?_)⟩
  simp [Value.ownBlock] at hk
  omega
theorem choose_list {τ : Type} {p : Nat → τ → Prop} : ∀ (n : Nat), (∀ i, i < n → ∃ x, p i x) → ∃ l : List τ, l.length = n ∧ ∀ j y, l[j]? = some y → p j y
  | 0, _ => ⟨[], rfl, fun j y h => by simp at h⟩
  | n + 1, h => by
    obtain ⟨l, hl, hp⟩ := choose_list n fun i hi => h i (by omega)
    obtain ⟨x, hx⟩ := h n (by omega)
    refine ⟨l ++ [x], by simp [hl], fun j y hj => ?_⟩
    rcases Nat.lt_or_ge j n with h1 | h1
    · rw [List.getElem?_append_left (by omega)] at hj
      exact hp j y hj
    · rw [List.getElem?_append_right (by omega), hl] at hj
      rcases Nat.eq_zero_or_pos (j - n) with h2 | h2
      · rw [h2] at hj
        have e : j = n := by omega
        subst e
        simp at hj
        subst hj
        exact hx
      · rw [List.getElem?_eq_none (by simp; omega)] at hj
        cases hj
/-- The cells of a list of rows. -/
theorem RdR.list {w : World} {A : Option Addr} {ls : List (List Vl)} (h : RdR w A ls) : ∃ cs : List Value, cs.length = ls.length ∧ (∀ ad, A = some ad → ∀ j u, cs[j]? = some u → w.cell? (ad.add j) = some u) ∧ ∀ (j : Nat) (v : Value) (r : List Vl), cs[j]? = some v → ls[j]? = some r → Rw w v r := by
  by_cases hl : ls = []
  · subst hl
    exact ⟨[], rfl, fun _ _ j u hj => by simp at hj, fun j v r hj => by simp at hj⟩
  · obtain ⟨ad, e, hc⟩ := h hl
    obtain ⟨cs, h1, h2⟩ := choose_list (p := fun j (v : Value) => w.cell? (ad.add j) = some v ∧ ∀ r, ls[j]? = some r → Rw w v r) ls.length (fun i hi => by
      obtain ⟨v, a1, a2⟩ := hc i _ (List.getElem?_eq_getElem hi)
      exact ⟨v, a1, fun r hr => by rw [List.getElem?_eq_getElem hi] at hr; injection hr with hr; rw [← hr]; exact a2⟩)
    exact ⟨cs, h1, fun ad' e' j u hj => by rw [e] at e'; injection e' with e'; rw [← e']; exact (h2 j u hj).1, fun j v r hj hr => (h2 j v hj).2 r hr⟩
theorem rcs_one {w : World} {cs : List Value} {ls : List (List Vl)} (hl : cs.length = ls.length) (h : ∀ (j : Nat) (v : Value) (r : List Vl), cs[j]? = some v → ls[j]? = some r → Rw w v r) : ∀ u ∈ cs, u.oneCell' = true := fun u hu => by
  obtain ⟨j, hj, rfl⟩ := List.mem_iff_getElem.1 hu
  obtain ⟨A, c, e, _⟩ := h j _ _ (List.getElem?_eq_getElem hj) (List.getElem?_eq_getElem (by rw [← hl]; exact hj))
  rw [e]; rfl

theorem rClone_nil (n c : Nat) (w : World) :
    Calls Try.prog 26 #[.slice none n c] w fun e w' => e = .returned (.slice none 0 0) ∧ w = w' := by
  have q22 : ∀ (w : World) (a : Option Addr) (n c n' c' : Nat), (binOp .eql 26 (.slice a n c) (.slice none n' c')).run Try.prog w = .ok (.bool a.isNone) w := fun w a n c n' c' => Lib.run_eql_slice_nil w _ _ a n c n' c' Try.underlying26
  go_enter Try.func26, Try.ntmps26
  go_wp2
  go_ret
  exact ⟨rfl, rfl⟩
set_option maxHeartbeats 1000000 in
theorem rClone_some (ad : Addr) (n c : Nat) (cs : List Value) (w : World) (hl : n = cs.length) (hr : ∀ j u, cs[j]? = some u → w.cell? (ad.add j) = some u) (h1 : ∀ u ∈ cs, u.oneCell' = true) (hn : n ≤ 256) :
    Calls Try.prog 26 #[.slice (some ad) n c] w fun e w' => ∃ v, e = .returned v ∧ Own w' w.heap.size v cs ∧ Below w.heap.size w w' := by
  obtain ⟨i0, hi, hz0, hz1, hz2⟩ := info_parts Try.infoR
  have HR := Lib.hid hr
  have HL := Lib.hid hl
  clear hl hr
  have q22 : ∀ (w : World) (a : Option Addr) (n c n' c' : Nat), (binOp .eql 26 (.slice a n c) (.slice none n' c')).run Try.prog w = .ok (.bool a.isNone) w := fun w a n c n' c' => Lib.run_eql_slice_nil w _ _ a n c n' c' Try.underlying26
  go_enter Try.func26, Try.ntmps26
  go_wp2_with (at_builtin; refine wpList_append_own_at _ rfl _ _ 26 rfl w.heap.size 37 i0 (.slice none 0 0) 1 24 Try.underlying26 hi hz0 hz1 hz2 rfl (by decide) _ _ _ rfl (World.ownsRow_made w #[] 0 (Nat.le_refl _) (Nat.zero_le _) (by simp)) ad n c cs rfl ?c0 ?c1 h1 ?c3 ?c4 ?c5 ?_)
  case c0 => rw [← HL.out, Nat.mul_one]
  case c1 => exact fun j u hj => ((below1 w _).cell (cell_lt (HR.out j u hj))).trans (HR.out j u hj)
  case c3 => unfold maxLen; omega
  case c4 => omega
  case c5 => simp
  intro v' w' hown hg _ _
  have HOwn := Lib.hid hown
  clear hown
  go_wp2
  go_ret
  refine ⟨_, rfl, by have := HOwn.out; rw [HL.out] at this; exact this, (below1 _ _).grown hg (by simp) (fun k hk => ?_)⟩
  simp [Value.ownBlock] at hk
  omega
/-- slices.Clone of a list of rows. -/
theorem rClone_any (A : Option Addr) (n c : Nat) (ls : List (List Vl)) (w : World) (hl : n = ls.length) (hr : RdR w A ls) (hA : A = none → n = 0) (hn : n ≤ 256) :
    Calls Try.prog 26 #[.slice A n c] w fun e w' => ∃ v cs, e = .returned v ∧ Own w' w.heap.size v cs ∧ cs.length = ls.length ∧ (∀ (j : Nat) (v : Value) (r : List Vl), cs[j]? = some v → ls[j]? = some r → Rw w v r) ∧ Below w.heap.size w w' := by
  cases A with
  | none =>
    have h0 := hA rfl
    have : ls = [] := List.eq_nil_of_length_eq_zero (by omega)
    subst this
    exact (rClone_nil n c w).mono fun e w' ⟨h1, h2⟩ => ⟨_, [], h1, World.ownsRow_nil _ _ _ _, rfl, fun j v r hj => by simp at hj, h2 ▸ Below.refl _ _⟩
  | some ad =>
    obtain ⟨cs, h1, h2, h3⟩ := hr.list
    exact (rClone_some ad n c cs w (by omega) (h2 ad rfl) (rcs_one h1 h3) hn).mono fun e w' ⟨v, a1, a2, a3⟩ => ⟨v, cs, a1, a2, h1, h3, a3⟩

/-- A row in memory of its own. -/
abbrev OwnV (w : World) (B : Nat) (v : Value) (r : List Vl) : Prop := w.ownsRow B 39 3 v r.length (vals r)
theorem own_below {B : Nat} {e : TypeId} {k : Nat} {v : Value} {n : Nat} {xs : List Value} {w w' : World} (h : w.ownsRow B e k v n xs) (hb : Below w.heap.size w w') : w'.ownsRow B e k v n xs :=
  ⟨h.1, by
    rcases h.2 with h1 | ⟨g, cap, cur, h1, h2, h3, h4⟩
    · exact .inl h1
    · exact .inr ⟨g, cap, cur, h1, h2, by rw [hb.block g (Array.getElem?_eq_some_iff.1 h3).1]; exact h3, h4⟩⟩
theorem own_le {B B' : Nat} {e : TypeId} {k : Nat} {v : Value} {n : Nat} {xs : List Value} {w : World} (h : w.ownsRow B e k v n xs) (hB : B' ≤ B) : w.ownsRow B' e k v n xs :=
  ⟨h.1, by
    rcases h.2 with h1 | ⟨g, cap, cur, h1, h2, h3⟩
    · exact .inl h1
    · exact .inr ⟨g, cap, cur, h1, by omega, h3⟩⟩
theorem OwnV.rw {w : World} {B : Nat} {v : Value} {r : List Vl} (h : OwnV w B v r) (hn : r.length * 32 ≤ 140737488355328) : Rw w v r := by
  rcases h.2 with ⟨rfl, h0⟩ | ⟨g, cap, cur, rfl, _⟩
  · exact ⟨none, 0, by rw [h0], fun hr => absurd (List.eq_nil_of_length_eq_zero h0) hr, fun _ => h0, hn⟩
  · refine ⟨some ⟨g, 0, none⟩, cap, rfl, fun _ => ⟨_, rfl, fun j v hj => ?_⟩, (fun e => by cases e), hn⟩
    have hc := h.cells (g := g) rfl
    have h0 := hc (j * 3 + 0) _ (flat_get r j 0 v hj (by omega))
    have h1 := hc (j * 3 + 1) _ (flat_get r j 1 v hj (by omega))
    have h2 := hc (j * 3 + 2) _ (flat_get r j 2 v hj (by omega))
    rw [add_lit] at h0 h1 h2
    rw [add_lit]
    refine ⟨h0, ?_, ?_⟩
    · rw [← Nat.add_assoc] at h1; exact h1
    · rw [← Nat.add_assoc] at h2; exact h2
/-- A row's text, laid again. -/
theorem OwnV.again {w : World} {B g cap i : Nat} {r : List Vl} (h : OwnV w B (.slice (some ⟨g, 0, none⟩) r.length cap) r) (hi : i < r.length) : OwnV (w.setCell ⟨g, i * 3 + 2, none⟩ (.string r[i].s)) B (.slice (some ⟨g, 0, none⟩) r.length cap) r := by
  have h1 := (h.stored (i * 3 + 2) (.string r[i].s)).1
  have h2 : (vals r)[i * 3 + 2]? = some (.string r[i].s) := flat_get r i 2 _ (List.getElem?_eq_getElem hi) (by omega)
  have h3 : (vals r).set (i * 3 + 2) (.string r[i].s) = vals r := by
    apply List.ext_getElem?
    intro j
    rw [List.getElem?_set]
    split
    · rename_i e
      subst e
      rw [h2]
      split
      · rfl
      · rename_i h4
        exact absurd (List.getElem?_eq_some_iff.1 h2).1 h4
    · rfl
  rw [h3] at h1
  exact h1

end Go.Proofs.Ytjbebhhoakmceaa
