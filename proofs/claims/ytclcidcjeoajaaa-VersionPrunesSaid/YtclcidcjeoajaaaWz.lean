/- How a chain, numbers, truths and texts are read as arguments. Conditions: none. -/
import Derived.Test.YtclcidcjeoajaaaRows
import Derived.Test.YtclcidcjeoajaaaVb
import Derived.ProofKit
import Derived.OpenShut
import Derived.Lib.SmallJoins
import Derived.Deep.Slices
import Derived.Carry
import Derived.SizedLaws
import Derived.ChangeArms
namespace Go.Proofs.Ytclcidcjeoajaaa
open Go.ChangeShapes Go.WideShapes Go.ChangeAt Go.RowKit Go.Joins Go.Maps
set_option linter.unusedSimpArgs false
set_option linter.unusedVariables false

theorem own : ownKnob Try.prog.godebug = none := by kernel_rfl
theorem laidOutA : laidOutB Try.prog = true := by kernel_rfl
theorem recL : Try.prog.readableRec 22 = true := by kernel_rfl
theorem rowL : 22 < Try.prog.types.size := of_decide_eq_true (by kernel_rfl)
theorem recS : Try.prog.readableRec 9 = true := by kernel_rfl
theorem rowS : 9 < Try.prog.types.size := of_decide_eq_true (by kernel_rfl)
theorem recI : Try.prog.readableRec 3 = true := by kernel_rfl
theorem rowI : 3 < Try.prog.types.size := of_decide_eq_true (by kernel_rfl)
theorem recB : Try.prog.readableRec 4 = true := by kernel_rfl
theorem rowB : 4 < Try.prog.types.size := of_decide_eq_true (by kernel_rfl)
theorem cellsI : Try.prog.cellsOf 3 = 1 := by kernel_rfl
theorem cellsB : Try.prog.cellsOf 4 = 1 := by kernel_rfl
theorem cellsS : Try.prog.cellsOf 9 = 1 := by kernel_rfl
theorem cellsV : Try.prog.cellsOf 37 = 4 := by kernel_rfl
theorem bytesV : Try.prog.bytesOf 37 = 40 := by kernel_rfl
theorem list4 {α : Type} {cs : List α} (h : cs.length = 4) : ∃ c0 c1 c2 c3, cs = [c0, c1, c2, c3] := by
  match cs, h with
  | [c0, c1, c2, c3], _ => exact ⟨c0, c1, c2, c3, rfl⟩
theorem list1 {α : Type} {cs : List α} (h : cs.length = 1) : ∃ c0, cs = [c0] := by
  match cs, h with
  | [c0], _ => exact ⟨c0, rfl⟩
theorem choose_list {τ : Type} {p : Nat → τ → Prop} : ∀ (n : Nat), (∀ i, i < n → ∃ x, p i x) → ∃ l : List τ, l.length = n ∧ ∀ j y, l[j]? = some y → p j y
  | 0, _ => ⟨[], rfl, fun j y h => by simp at h⟩
  | n + 1, h => by
    obtain ⟨l, hl, hp⟩ := choose_list n fun i hi => h i (by omega)
    obtain ⟨x, hx⟩ := h n (by omega)
    refine ⟨l ++ [x], by simp [hl], fun j y hj => ?_⟩
    rcases Nat.lt_or_ge j n with h1 | h1
    · rw [List.getElem?_append_left (by omega)] at hj
      exact hp j y hj
    · rw [List.getElem?_append_right (by omega), hl] at hj
      rcases Nat.eq_zero_or_pos (j - n) with h2 | h2
      · rw [h2] at hj
        have e : j = n := by omega
        subst e
        simp at hj
        subst hj
        exact hx
      · rw [List.getElem?_eq_none (by simp; omega)] at hj
        cases hj
theorem weightsAll_mem {H : Type} {P : Program} {e : TypeId} : ∀ {l : List (DataW H)} {d : DataW H}, d ∈ l → ∀ n ∈ d.weights P e, n ∈ DataW.weightsAll P e l
  | d' :: r, d, hd, n, hn => by
    simp only [DataW.weightsAll, List.mem_append]
    rcases List.mem_cons.1 hd with rfl | h
    · exact Or.inl hn
    · exact Or.inr (weightsAll_mem h n hn)
theorem trodAll_five {H : Type} {enc : TypeId × Value → H} {P : Program} {w : World} {base : Nat} {spare : Nat → Bool} {held : Bool} {t t' t'' t3 t4 : TypeId} {args : Array Value} {ds : List (DataW H)} {ps : List MemPlace} (h : DataW.TrodAll enc P w base spare held [t, t', t'', t3, t4] args.toList ds ps) :
    ∃ v v' v'' v3 v4 d d' d'' d3 d4 p p' p'' p3 p4, args = #[v, v', v'', v3, v4] ∧ ds = [d, d', d'', d3, d4] ∧ ps = p ++ p' ++ p'' ++ p3 ++ p4 ∧ DataW.Trod enc P w base spare held t v d p ∧ DataW.Trod enc P w base spare held t' v' d' p' ∧ DataW.Trod enc P w base spare held t'' v'' d'' p'' ∧ DataW.Trod enc P w base spare held t3 v3 d3 p3 ∧ DataW.Trod enc P w base spare held t4 v4 d4 p4 := by
  obtain ⟨v, vs, d, ds', p, q, hargs, rfl, rfl, hd, hrest⟩ := trodAll_cons h
  obtain ⟨v', vs', d', ds'', p', q', rfl, rfl, rfl, hd', hrest'⟩ := trodAll_cons hrest
  obtain ⟨v'', vs'', d'', ds''', p'', q'', rfl, rfl, rfl, hd'', hrest''⟩ := trodAll_cons hrest'
  obtain ⟨v3, vs3, d3, ds3, p3, q3, rfl, rfl, rfl, hd3, hrest3⟩ := trodAll_cons hrest''
  obtain ⟨v4, vs4, d4, ds4, p4, q4, rfl, rfl, rfl, hd4, hrest4⟩ := trodAll_cons hrest3
  obtain ⟨rfl, rfl, rfl⟩ := trodAll_nil hrest4
  exact ⟨v, v', v'', v3, v4, d, d', d'', d3, d4, p, p', p'', p3, p4, by cases args; simp_all, rfl, by simp, hd, hd', hd'', hd3, hd4⟩
theorem trodAll_mk5 {H : Type} {enc : TypeId × Value → H} {P : Program} {w : World} {base : Nat} {spare : Nat → Bool} {held : Bool} {t t' t'' t3 t4 : TypeId} {v v' v'' v3 v4 : Value} {d d' d'' d3 d4 : DataW H} {p p' p'' p3 p4 : List MemPlace} (h : DataW.Trod enc P w base spare held t v d p) (h' : DataW.Trod enc P w base spare held t' v' d' p')
    (h'' : DataW.Trod enc P w base spare held t'' v'' d'' p'') (h3 : DataW.Trod enc P w base spare held t3 v3 d3 p3) (h4 : DataW.Trod enc P w base spare held t4 v4 d4 p4) : DataW.TrodAll enc P w base spare held [t, t', t'', t3, t4] [v, v', v'', v3, v4] [d, d', d'', d3, d4] (p ++ (p' ++ (p'' ++ (p3 ++ p4)))) := ⟨p, p' ++ (p'' ++ (p3 ++ p4)), h, trodAll_mk4 h' h'' h3 h4, rfl⟩

section
variable {H : Type} {enc : TypeId × Value → H} {w : World} {base : Nat} {spare : Nat → Bool} {held : Bool}
/-- All that weighs in what was read is within reach. -/
def Lt {H : Type} (t : TypeId) (d : DataW H) : Prop := ∀ n ∈ d.weights Try.prog t, n ≤ reachBytes
theorem lt_one {t : TypeId} {ds : List (DataW H)} {ts : List TypeId} {d : DataW H} {j : Nat} (h : (DataW.weightsEach Try.prog ts ds).all (· ≤ reachBytes) = true) (ht : ts[j]? = some t) (hd : ds[j]? = some d) : Lt t d := fun n hn =>
  of_decide_eq_true (List.all_eq_true.1 h n (DataW.weights_mem_each ht hd n hn))
theorem take_as {m k : Nat} {t : TypeId} {cs : List Value} {x : DataW H × List MemPlace} (h : DataW.trod enc Try.prog w base spare held m t (List.take (Try.prog.cellsOf t) cs) = some x) (hc : Try.prog.cellsOf t = k) : DataW.trod enc Try.prog w base spare held m t (List.take k cs) = some x := hc ▸ h
/-- A slice's cell, whatever its elements are. -/
theorem open_list {τ : Type} {s e : TypeId} (k b : Nat) (hu : Try.prog.underlying s = some (.slice e)) (hc : Try.prog.cellsOf e = k) (hby : Try.prog.bytesOf e = b) (hb0 : 0 < b) (P : Addr → τ → Prop)
    (hO : ∀ (f : Nat) (cs : List Value) (x : DataW H × List MemPlace) (p : Addr), DataW.trod enc Try.prog w base spare held f e cs = some x → Lt e x.1 → cs.length = k → (∀ i, i < k → w.cell? (p.add i) = cs[i]?) → ∃ z, P p z)
    {f : Nat} {c : Value} {x : DataW H × List MemPlace} (h : DataW.trod enc Try.prog w base spare held f s [c] = some x) (hw : Lt s x.1) :
    ∃ (A : Option Addr) (cp : Nat) (l : List τ), c = .slice A l.length cp ∧ (A = none → l.length = 0 ∧ cp = 0) ∧ l.length ≤ cp ∧ cp ≤ 9223372036854775807 ∧ l.length * b ≤ 140737488355328 - 24 ∧ ∀ ad, A = some ad → ∀ j z, l[j]? = some z → P (ad.add (j * k)) z := by
  rcases DataW.trod_slice hu h with ⟨hcs, _⟩ | ⟨a, len, cap, elems, rest, m, hfu, hcs, hx, _, hl, hm, hlen, hel, _, _⟩
  · simp at hcs
    subst hcs
    exact ⟨none, 0, [], rfl, fun _ => ⟨rfl, rfl⟩, Nat.le_refl _, by decide, by simp, fun ad e => by cases e⟩
  · simp at hcs
    subst hcs
    have hd : x.1 = .slice (elems.map (·.1)) (rest.map (·.1)) := by rw [hx]
    rw [hd] at hw
    have h1 : (elems.length + rest.length) * Try.prog.bytesOf e ≤ reachBytes := by
      refine hw _ ?_
      simp only [DataW.weights, hu, List.length_map]
      exact List.mem_cons_self
    have h2 : ∀ y ∈ elems, Lt e y.1 := fun y hy n hn => hw n (by
      simp only [DataW.weights, hu]
      exact List.mem_cons_of_mem _ (List.mem_append_left _ (weightsAll_mem (List.mem_map_of_mem hy) n hn)))
    rw [hby] at h1
    have hr := reachBytes_lt
    obtain ⟨l, hll, hlp⟩ := choose_list (p := fun j (z : τ) => P (a.add (j * k)) z) len (fun i hi => by
      have hi2 : i < elems.length := by omega
      have h3 := hel i hi
      rw [List.getElem?_eq_getElem hi2] at h3
      obtain ⟨cs', g1, g2⟩ := Option.bind_eq_some_iff.1 h3
      rw [hc] at g1
      obtain ⟨_, hlen', hcell⟩ := World.cells?_some g1
      exact hO _ _ _ _ g2 (h2 _ (List.getElem_mem hi2)) hlen' hcell)
    have h4 : l.length * b ≤ (elems.length + rest.length) * b := Nat.mul_le_mul_right _ (by omega)
    unfold reachBytes at h1
    unfold maxLen at hm
    exact ⟨some a, cap, l, by rw [hll], (fun e => by cases e), by omega, by omega, by omega, fun ad e j z hz => by have e := Option.some.inj e; subst e; exact hlp j z hz⟩
set_option maxRecDepth 100000 in
theorem open_ver {f : Nat} {cs : List Value} {x : DataW H × List MemPlace} (h : DataW.trod enc Try.prog w base spare held f 37 cs = some x) (hw : Lt 37 x.1) : ∃ v : Ver, cs = verC v := by
  obtain ⟨xs, m, rfl, rfl, hlen, hxl, hf⟩ := DataW.trod_struct Try.underlying37 h
  rw [cellsV] at hlen
  obtain ⟨c0, c1, c2, c3, rfl⟩ := list4 hlen
  obtain ⟨x0, x1, x2, x3, rfl⟩ := list4 (hxl.trans rfl)
  · clear hlen hxl
    have h0 : DataW.trod enc Try.prog w base spare held m 3 [c0] = some x0 := take_as (cs := [c0, c1, c2, c3]) (hf 0 _ rfl) cellsI
    have h1 : DataW.trod enc Try.prog w base spare held m 3 [c1] = some x1 := take_as (cs := [c1, c2, c3]) (hf 1 _ rfl) cellsI
    have h2 : DataW.trod enc Try.prog w base spare held m 4 [c2] = some x2 := take_as (cs := [c2, c3]) (hf 2 _ rfl) cellsB
    have h3 : DataW.trod enc Try.prog w base spare held m 9 [c3] = some x3 := take_as (cs := [c3]) (hf 3 _ rfl) cellsS
    obtain ⟨k, e0, rfl, wk⟩ := DataW.trod_int Try.underlying3 h0
    obtain ⟨n, e1, rfl, wn⟩ := DataW.trod_int Try.underlying3 h1
    obtain ⟨b, e2, rfl⟩ := DataW.trod_bool Try.underlying4 h2
    obtain ⟨s, e3, rfl, ws⟩ := DataW.trod_string Try.underlying9 h3
    simp only [List.cons.injEq, and_true] at e0 e1 e2 e3
    subst e0 e1 e2 e3
    have hs : s.data.toList.length ≤ reachBytes := hw _ (by simp [DataW.weights, DataW.weightsEach, Try.underlying37])
    have hr := reachBytes_lt
    have e : s.data.toList.length = s.size := by simp
    exact ⟨⟨k, n, b, s, by omega⟩, rfl⟩
theorem open_vers {r : _root_.Go.Reach} {b0 : Nat} {v : Value} {d : DataW H} {p : List MemPlace} (hv : Value.okWide Try.prog w r b0 22 v) (h : DataW.Trod enc Try.prog w base spare held 22 v d p) (hw : Lt 22 d) :
    ∃ (A : Option Addr) (c : Nat) (l : List Ver), v = .slice A l.length c ∧ Rd w A l.length c l ∧ l.length * 40 ≤ 140737488355328 := by
  obtain ⟨A, n, c, rfl⟩ := okWide_slice Try.underlying22 hv
  obtain ⟨fuel, hf⟩ := h
  obtain ⟨A', cp, l, e, h1, h2, h3, h4, h5⟩ := open_list (x := (d, p)) (τ := Ver) 4 40 Try.underlying22 cellsV bytesV (by decide) (fun p z => Cell4 w p z) (fun f cs x p hx hw hl hc => by
    obtain ⟨z, rfl⟩ := open_ver hx hw
    refine ⟨z, ?_, ?_, ?_, ?_⟩
    · have := hc 0 (by omega)
      rw [add_zero] at this
      exact this
    · have := hc 1 (by omega)
      rw [add_ne (by omega)] at this
      exact this
    · have := hc 2 (by omega)
      rw [add_ne (by omega)] at this
      exact this
    · have := hc 3 (by omega)
      rw [add_ne (by omega)] at this
      exact this) hf hw
  rw [e]
  exact ⟨A', cp, l, rfl, ⟨rfl, h2, h3, h1, fun ad ea j z hz => h5 ad ea j z hz⟩, by omega⟩
theorem open_str {r : _root_.Go.Reach} {b0 : Nat} {v : Value} {d : DataW H} {p : List MemPlace} (hv : Value.okWide Try.prog w r b0 9 v) (h : DataW.Trod enc Try.prog w base spare held 9 v d p) (hw : Lt 9 d) :
    ∃ s : ByteArray, v = .string s ∧ s.size ≤ 140737488355328 := by
  obtain ⟨s, rfl⟩ := okWide_string Try.underlying9 hv
  obtain ⟨fuel, hf⟩ := h
  obtain ⟨s', e0, hx1, _⟩ := DataW.trod_string Try.underlying9 hf
  simp [Value.cells] at e0
  subst e0
  have hs : s.data.toList.length ≤ reachBytes := hw _ (by rw [(Prod.mk.inj hx1).1]; simp [DataW.weights, Try.underlying9])
  have hr := reachBytes_lt
  have e : s.data.toList.length = s.size := by simp
  exact ⟨s, rfl, by omega⟩
end
end Go.Proofs.Ytclcidcjeoajaaa
