/- What CopyRow makes of a list, and a list appended to an own one: the walk. Conditions: at most 32 values. -/
import Derived.Test.YtapichngakcpeaaVg
namespace Go.Proofs.Ytapichngakcpeaa
open Go.RowKit
set_option linter.unusedSimpArgs false
set_option linter.unusedVariables false

theorem Try.info36 : (Try.prog.info? 36).map (fun i => (i.zero, i.size, i.bytes)) = some (some (.agg #[.int .i64 0, .int .i64 0, .string ⟨#[]⟩]), 3, 32) := by kernel_rfl
def vals (l : List Vl) : List Value := l.flatMap valC
theorem vals_append (l m : List Vl) : vals (l ++ m) = vals l ++ vals m := by simp [vals]
theorem vals_len (l : List Vl) : (vals l).length = l.length * 3 := flat_len l
theorem vals_one (l : List Vl) : ∀ u ∈ vals l, u.oneCell' = true := by
  intro u hu
  simp only [vals, List.mem_flatMap] at hu
  obtain ⟨v, _, hv⟩ := hu
  simp [valC] at hv
  rcases hv with rfl | rfl | rfl <;> rfl
theorem add_ne {ad : Addr} {i : Nat} (h : i ≠ 0) : ad.add i = ⟨ad.block, ad.off + i, none⟩ := by unfold Addr.add; rw [if_neg h]
theorem add_two {ad : Addr} (i j : Nat) (h : j ≠ 0) : ad.add (i + j) = ⟨(ad.add i).block, (ad.add i).off + j, none⟩ := by
  rw [add_ne (by omega), add_block]
  have : (ad.add i).off = ad.off + i := by unfold Addr.add; split <;> simp_all
  rw [this, Nat.add_assoc]
theorem RdL.news {w : World} {B : Nat} {ad : Addr} {l : List Vl} (h : RdL w B (some ad) l) : ∀ i u, (vals l)[i]? = some u → w.cell? (ad.add i) = some u := by
  intro i u hu
  have hi : i < l.length * 3 := by rw [← vals_len]; exact (List.getElem?_eq_some_iff.1 hu).1
  obtain ⟨ad', e, _, hc⟩ := h (by intro e; subst e; simp at hi)
  injection e with e
  subst e
  obtain ⟨j, r, rfl, hr⟩ : ∃ j r, i = j * 3 + r ∧ r < 3 := ⟨i / 3, i % 3, by omega, by omega⟩
  obtain ⟨v, hv⟩ : ∃ v, l[j]? = some v := ⟨_, List.getElem?_eq_getElem (show j < l.length by omega)⟩
  obtain ⟨c0, c1, c2⟩ := hc _ _ hv
  have hf := flat_get l j r _ hv hr
  have hu' : (valC v)[r]? = some u := hf.symm.trans hu
  rcases (show r = 0 ∨ r = 1 ∨ r = 2 by omega) with rfl | rfl | rfl
  · simp [valC] at hu'
    subst hu'
    exact c0
  · simp [valC] at hu'
    subst hu'
    rw [add_two _ _ (by omega)]
    exact c1
  · simp [valC] at hu'
    subst hu'
    rw [add_two _ _ (by omega)]
    exact c2

/-- A list that the call owns, read as a list. -/
theorem RdL_own {w : World} {base n : Nat} {v : Value} {l : List Vl} (h : w.ownsRow base 36 3 v n (vals l)) : ∃ A c, v = .slice A n c ∧ n = l.length ∧ RdL w w.heap.size A l ∧ (A = none → n = 0 ∧ c = 0) ∧ n ≤ c ∧ c ≤ maxLen := by
  have hl : n = l.length := by have := h.1; rw [vals_len] at this; omega
  rcases h.2 with ⟨rfl, h0⟩ | ⟨g, cap, cur, rfl, hb, hg, hc, hm, hs, ht⟩
  · subst h0
    refine ⟨none, 0, rfl, hl, fun hne => ?_, fun _ => ⟨rfl, rfl⟩, by omega, by simp [maxLen]⟩
    have : l = [] := List.eq_nil_of_length_eq_zero hl.symm
    exact absurd this hne
  · refine ⟨_, cap, rfl, hl, RdL_row (Array.getElem?_eq_some_iff.1 hg).1 fun i hi => ?_, (fun e => by cases e), hc, hm⟩
    have h2 := h.cellAt i (by rw [hl]; exact hi)
    exact h2

theorem copy_any (A : Option Addr) (n c : Nat) (l : List Vl) (w : World) (hl : n = l.length) (hr : RdL w w.heap.size A l) (hz : A = none → n = 0 ∧ c = 0) (hn : n ≤ 64) :
    Calls Try.prog 15 #[.slice A n c] w fun e w' => ∃ v, e = .returned v ∧ w'.ownsRow w.heap.size 36 3 v n (vals l) ∧ Below w.heap.size w w' := by
  obtain ⟨i0, hi, hz0, hz1, hz2⟩ := info_parts Try.info36
  rcases A with _ | ad
  · obtain ⟨rfl, rfl⟩ := hz rfl
    have : l = [] := List.eq_nil_of_length_eq_zero hl.symm
    subst this
    clear hl hr hz
    go_enter Try.func15, Try.ntmps15
    go_wp2
    go_ret
    exact ⟨_, rfl, World.ownsRow_nil _ _ _ _, Below.refl _ _⟩
  · have HR := Lib.hid hr
    have HL := Lib.hid hl
    clear hl hr hz
    go_enter Try.func15, Try.ntmps15
    go_wp2_with (at_builtin; refine wpList_append_own_at _ rfl (.tmp 4) (.tmp 5) 22 rfl w.heap.size 36 i0 (.agg #[.int .i64 0, .int .i64 0, .string ⟨#[]⟩]) 3 32 Try.underlying22 hi hz0 hz1 hz2 rfl (by decide) (.slice none 0 0) 0 [] rfl (World.ownsRow_nil _ _ _ _) ad n c (vals l) rfl ?c0 HR.out.news (vals_one l) ?c3 ?c4 ?c5 ?_)
    case c0 => rw [vals_len, ← HL.out]
    case c3 => unfold maxLen; omega
    case c4 => omega
    case c5 => omega
    intro v' w' hown hg _ _
    have HOwn := Lib.hid hown
    clear hown
    go_wp2
    go_ret
    refine ⟨_, rfl, by simpa using HOwn.out, (Below.refl _ _).grown hg (by omega) (fun k hk => ?_)⟩
    simp [Value.ownBlock] at hk

end Go.Proofs.Ytapichngakcpeaa
