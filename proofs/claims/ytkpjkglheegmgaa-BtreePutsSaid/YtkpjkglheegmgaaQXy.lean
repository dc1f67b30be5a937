/- How a tree, a key and lists are read as arguments. Conditions: none. -/
import Derived.Test.YtkpjkglheegmgaaRows
import Derived.Test.YtkpjkglheegmgaaQj
import Derived.ProofKit
import Derived.OpenShut
import Derived.Lib.SmallJoins
import Derived.Deep.Slices
import Derived.Carry
import Derived.SizedLaws
import Derived.ChangeArms
namespace Go.Proofs.Ytkpjkglheegmgaa
open Go.ChangeShapes Go.WideShapes Go.ChangeAt Go.RowKit Go.Joins Go.Maps
set_option linter.unusedSimpArgs false
set_option linter.unusedVariables false

theorem own : ownKnob Try.prog.godebug = none := by kernel_rfl
theorem laidOutA : laidOutB Try.prog = true := by kernel_rfl
theorem recS : Try.prog.readableRec 24 = true := by kernel_rfl
theorem rowS : 24 < Try.prog.types.size := of_decide_eq_true (by kernel_rfl)
theorem recN : Try.prog.readableRec 9 = true := by kernel_rfl
theorem rowN : 9 < Try.prog.types.size := of_decide_eq_true (by kernel_rfl)
theorem recLS : Try.prog.readableRec 55 = true := by kernel_rfl
theorem rowLS : 55 < Try.prog.types.size := of_decide_eq_true (by kernel_rfl)
theorem recLB : Try.prog.readableRec 56 = true := by kernel_rfl
theorem rowLB : 56 < Try.prog.types.size := of_decide_eq_true (by kernel_rfl)
theorem cellsI : Try.prog.cellsOf 3 = 1 := by kernel_rfl
theorem cellsB : Try.prog.cellsOf 4 = 1 := by kernel_rfl
theorem cellsS : Try.prog.cellsOf 9 = 1 := by kernel_rfl
theorem cellsN : Try.prog.cellsOf 65 = 3 := by kernel_rfl
theorem cellsA : Try.prog.cellsOf 24 = 2 := by kernel_rfl
theorem cellsLN : Try.prog.cellsOf 22 = 1 := by kernel_rfl
theorem cellsLS : Try.prog.cellsOf 55 = 1 := by kernel_rfl
theorem cellsLI : Try.prog.cellsOf 63 = 1 := by kernel_rfl
theorem bytesS : Try.prog.bytesOf 9 = 16 := by kernel_rfl
theorem bytesI : Try.prog.bytesOf 3 = 8 := by kernel_rfl
theorem bytesB : Try.prog.bytesOf 4 = 1 := by kernel_rfl
theorem bytesN : Try.prog.bytesOf 65 = 72 := by kernel_rfl
theorem list2 {α : Type} {cs : List α} (h : cs.length = 2) : ∃ c0 c1, cs = [c0, c1] := by
  match cs, h with
  | [c0, c1], _ => exact ⟨c0, c1, rfl⟩
theorem list3 {α : Type} {cs : List α} (h : cs.length = 3) : ∃ c0 c1 c2, cs = [c0, c1, c2] := by
  match cs, h with
  | [c0, c1, c2], _ => exact ⟨c0, c1, c2, rfl⟩
theorem list1 {α : Type} {cs : List α} (h : cs.length = 1) : ∃ c0, cs = [c0] := by
  match cs, h with
  | [c0], _ => exact ⟨c0, rfl⟩
theorem choose_list {τ : Type} {p : Nat → τ → Prop} : ∀ (n : Nat), (∀ i, i < n → ∃ x, p i x) → ∃ l : List τ, l.length = n ∧ ∀ j y, l[j]? = some y → p j y
  | 0, _ => ⟨[], rfl, fun j y h => by simp at h⟩
  | n + 1, h => by
    obtain ⟨l, hl, hp⟩ := choose_list n fun i hi => h i (by omega)
    obtain ⟨x, hx⟩ := h n (by omega)
    refine ⟨l ++ [x], by simp [hl], fun j y hj => ?_⟩
    rcases Nat.lt_or_ge j n with h1 | h1
    · rw [List.getElem?_append_left (by omega)] at hj
      exact hp j y hj
    · rw [List.getElem?_append_right (by omega), hl] at hj
      rcases Nat.eq_zero_or_pos (j - n) with h2 | h2
      · rw [h2] at hj
        have e : j = n := by omega
        subst e
        simp at hj
        subst hj
        exact hx
      · rw [List.getElem?_eq_none (by simp; omega)] at hj
        cases hj
theorem weightsAll_mem {H : Type} {P : Program} {e : TypeId} : ∀ {l : List (DataW H)} {d : DataW H}, d ∈ l → ∀ n ∈ d.weights P e, n ∈ DataW.weightsAll P e l
  | d' :: r, d, hd, n, hn => by
    simp only [DataW.weightsAll, List.mem_append]
    rcases List.mem_cons.1 hd with rfl | h
    · exact Or.inl hn
    · exact Or.inr (weightsAll_mem h n hn)
/-- A number that a machine has. -/
def MInt (a : Int) : Prop := -9223372036854775808 ≤ a ∧ a ≤ 9223372036854775807

section
variable {H : Type} {enc : TypeId × Value → H} {w : World} {base : Nat} {spare : Nat → Bool} {held : Bool}
/-- All that weighs in what was read is within reach. -/
def Lt {H : Type} (t : TypeId) (d : DataW H) : Prop := ∀ n ∈ d.weights Try.prog t, n ≤ reachBytes
theorem lt_one {t : TypeId} {ds : List (DataW H)} {ts : List TypeId} {d : DataW H} {j : Nat} (h : (DataW.weightsEach Try.prog ts ds).all (· ≤ reachBytes) = true) (ht : ts[j]? = some t) (hd : ds[j]? = some d) : Lt t d := fun n hn =>
  of_decide_eq_true (List.all_eq_true.1 h n (DataW.weights_mem_each ht hd n hn))
theorem take_as {m k : Nat} {t : TypeId} {cs : List Value} {x : DataW H × List MemPlace} (h : DataW.trod enc Try.prog w base spare held m t (List.take (Try.prog.cellsOf t) cs) = some x) (hc : Try.prog.cellsOf t = k) : DataW.trod enc Try.prog w base spare held m t (List.take k cs) = some x := hc ▸ h
/-- A slice's cell, whatever its elements are. -/
theorem open_list {τ : Type} {s e : TypeId} (k b : Nat) (hu : Try.prog.underlying s = some (.slice e)) (hc : Try.prog.cellsOf e = k) (hby : Try.prog.bytesOf e = b) (hb0 : 0 < b) (P : Addr → τ → Prop)
    (hO : ∀ (f : Nat) (cs : List Value) (x : DataW H × List MemPlace) (p : Addr), DataW.trod enc Try.prog w base spare held f e cs = some x → Lt e x.1 → cs.length = k → (∀ i, i < k → w.cell? (p.add i) = cs[i]?) → ∃ z, P p z)
    {f : Nat} {c : Value} {x : DataW H × List MemPlace} (h : DataW.trod enc Try.prog w base spare held f s [c] = some x) (hw : Lt s x.1) :
    ∃ (A : Option Addr) (cp : Nat) (l : List τ), c = .slice A l.length cp ∧ (A = none → l.length = 0 ∧ cp = 0) ∧ l.length ≤ cp ∧ cp ≤ 9223372036854775807 ∧ l.length * b ≤ 140737488355328 - 24 ∧ ∀ ad, A = some ad → ∀ j z, l[j]? = some z → P (ad.add (j * k)) z := by
  rcases DataW.trod_slice hu h with ⟨hcs, _⟩ | ⟨a, len, cap, elems, rest, m, hfu, hcs, hx, _, hl, hm, hlen, hel, _, _⟩
  · simp at hcs
    subst hcs
    exact ⟨none, 0, [], rfl, fun _ => ⟨rfl, rfl⟩, Nat.le_refl _, by decide, by simp, fun ad e => by cases e⟩
  · simp at hcs
    subst hcs
    have hd : x.1 = .slice (elems.map (·.1)) (rest.map (·.1)) := by rw [hx]
    rw [hd] at hw
    have h1 : (elems.length + rest.length) * Try.prog.bytesOf e ≤ reachBytes := by
      refine hw _ ?_
      simp only [DataW.weights, hu, List.length_map]
      exact List.mem_cons_self
    have h2 : ∀ y ∈ elems, Lt e y.1 := fun y hy n hn => hw n (by
      simp only [DataW.weights, hu]
      exact List.mem_cons_of_mem _ (List.mem_append_left _ (weightsAll_mem (List.mem_map_of_mem hy) n hn)))
    rw [hby] at h1
    have hr := reachBytes_lt
    obtain ⟨l, hll, hlp⟩ := choose_list (p := fun j (z : τ) => P (a.add (j * k)) z) len (fun i hi => by
      have hi2 : i < elems.length := by omega
      have h3 := hel i hi
      rw [List.getElem?_eq_getElem hi2] at h3
      obtain ⟨cs', g1, g2⟩ := Option.bind_eq_some_iff.1 h3
      rw [hc] at g1
      obtain ⟨_, hlen', hcell⟩ := World.cells?_some g1
      exact hO _ _ _ _ g2 (h2 _ (List.getElem_mem hi2)) hlen' hcell)
    have h4 : l.length * b ≤ (elems.length + rest.length) * b := Nat.mul_le_mul_right _ (by omega)
    unfold reachBytes at h1
    unfold maxLen at hm
    exact ⟨some a, cap, l, by rw [hll], (fun e => by cases e), by omega, by omega, by omega, fun ad e j z hz => by have e := Option.some.inj e; subst e; exact hlp j z hz⟩
theorem open_strs {f : Nat} {c : Value} {x : DataW H × List MemPlace} (h : DataW.trod enc Try.prog w base spare held f 55 [c] = some x) (hw : Lt 55 x.1) :
    ∃ (A : Option Addr) (cp : Nat) (l : List Key), c = .slice A l.length cp ∧ Rd w A l.length cp (strs l) ∧ l.length * 16 ≤ 140737488355328 := by
  obtain ⟨A, cp, l, e, h1, h2, h3, h4, h5⟩ := open_list (τ := Key) 1 16 Try.underlying55 cellsS bytesS (by decide) (fun p z => w.cell? p = some (.string z.s)) (fun f cs x p hx hw hl hc => by
    obtain ⟨c0, rfl⟩ := list1 hl
    obtain ⟨s, e0, hx1, _⟩ := DataW.trod_string Try.underlying9 hx
    simp only [List.cons.injEq, and_true] at e0
    subst e0
    have hs : s.data.toList.length ≤ reachBytes := hw _ (by rw [hx1]; simp [DataW.weights, Try.underlying9])
    have hr := reachBytes_lt
    have e : s.data.toList.length = s.size := by simp
    have g0 := hc 0 (by omega)
    rw [add_zero] at g0
    exact ⟨⟨s, by omega⟩, g0⟩) h hw
  exact ⟨A, cp, l, e, ⟨strs_len l, h2, h3, h1, fun ad ea j u hj => by
    have hjl : j < l.length := by rw [← strs_len]; exact (List.getElem?_eq_some_iff.1 hj).1
    have := h5 ad ea j l[j] (List.getElem?_eq_getElem hjl)
    rw [Nat.mul_one] at this
    rw [strs_at hjl] at hj
    rw [← Option.some.inj hj]
    exact this⟩, by omega⟩
theorem open_ints {f : Nat} {c : Value} {x : DataW H × List MemPlace} (h : DataW.trod enc Try.prog w base spare held f 63 [c] = some x) (hw : Lt 63 x.1) :
    ∃ (A : Option Addr) (cp : Nat) (l : List Int), c = .slice A l.length cp ∧ Rd w A l.length cp (ints l) ∧ l.length * 8 ≤ 140737488355328 ∧ ∀ a ∈ l, MInt a := by
  obtain ⟨A, cp, l, e, h1, h2, h3, h4, h5⟩ := open_list (τ := { a : Int // MInt a }) 1 8 Try.underlying63 cellsI bytesI (by decide) (fun p z => w.cell? p = some (.int .i64 z.1)) (fun f cs x p hx hw hl hc => by
    obtain ⟨c0, rfl⟩ := list1 hl
    obtain ⟨n, e0, _, wn⟩ := DataW.trod_int Try.underlying3 hx
    simp only [List.cons.injEq, and_true] at e0
    subst e0
    have hb := bounds_i64 wn
    have g0 := hc 0 (by omega)
    rw [add_zero] at g0
    exact ⟨⟨n, by unfold MInt; omega⟩, g0⟩) h hw
  refine ⟨A, cp, l.map (·.1), by rw [List.length_map]; exact e, ⟨by simp [ints], by rw [List.length_map]; exact h2, h3, fun ea => by rw [List.length_map]; exact h1 ea, fun ad ea j u hj => ?_⟩, by rw [List.length_map]; omega, fun a ha => ?_⟩
  · have hjl : j < l.length := by simpa [ints] using (List.getElem?_eq_some_iff.1 hj).1
    have := h5 ad ea j l[j] (List.getElem?_eq_getElem hjl)
    rw [Nat.mul_one] at this
    rw [this, ← hj]
    simp [ints, hjl]
  · obtain ⟨z, _, rfl⟩ := List.mem_map.1 ha
    exact z.2
set_option maxRecDepth 100000 in
theorem open_state {r : _root_.Go.Reach} {b0 : Nat} {v : Value} {d : DataW H} {p : List MemPlace} (hv : Value.okWide Try.prog w r b0 24 v) (h : DataW.Trod enc Try.prog w base spare held 24 v d p) (hw : Lt 24 d) :
    ∃ (A : Option Addr) (c : Nat) (nodes : List Nd) (root : Int), v = .agg #[.slice A nodes.length c, .int .i64 root] ∧ RdS w A nodes.length nodes ∧ Go.Proofs.Ytkpjkglheegmgaa.Reach nodes ∧ Wfn nodes ∧ MInt root := by
  obtain ⟨cs, rfl, hsz⟩ := okWide_struct Try.underlying24 hv
  obtain ⟨fuel, hf⟩ := h
  have hf' : DataW.trod enc Try.prog w base spare held fuel 24 cs.toList = some (d, p) := by simpa [Value.cells] using hf
  obtain ⟨xs, m, hm, hx, hlen, hxl, hg⟩ := DataW.trod_struct Try.underlying24 hf'
  rw [cellsA] at hlen
  obtain ⟨c0, c1, ecs⟩ := list2 hlen
  rw [ecs] at hg
  obtain ⟨x0, x1, rfl⟩ := list2 (hxl.trans rfl)
  have h0 : DataW.trod enc Try.prog w base spare held m 22 [c0] = some x0 := take_as (cs := [c0, c1]) (hg 0 _ rfl) cellsLN
  have h1 : DataW.trod enc Try.prog w base spare held m 3 [c1] = some x1 := take_as (cs := [c1]) (hg 1 _ rfl) cellsI
  obtain ⟨hx1, hx2⟩ := Prod.mk.inj hx
  subst hx1
  have w0 : Lt 22 x0.1 := fun n hn => hw n (by simp [DataW.weights, DataW.weightsEach, Try.underlying24, hn])
  obtain ⟨root, e1, _, wn⟩ := DataW.trod_int Try.underlying3 h1
  simp only [List.cons.injEq, and_true] at e1
  subst e1
  have hb := bounds_i64 wn
  obtain ⟨A, c, ls, e, hn, _, hc, hbl, hl⟩ := open_list (τ := Nd) 3 72 Try.underlying22 cellsN bytesN (by decide) (fun p z => (∃ hh, RdX w p z hh) ∧ (z.ks.length * 16 ≤ 140737488355328 ∧ z.vs.length * 16 ≤ 140737488355328 ∧ z.kids.length * 8 ≤ 140737488355328) ∧ ∀ a ∈ z.kids, MInt a) (fun f cs x p hx hw hl hc => by
    obtain ⟨xs, m, hm, rfl, _, hxl, hg⟩ := DataW.trod_struct Try.underlying65 hx
    obtain ⟨c0, c1, c2, rfl⟩ := list3 hl
    obtain ⟨x0, x1, x2, rfl⟩ := list3 (hxl.trans rfl)
    have h0 : DataW.trod enc Try.prog w base spare held m 55 [c0] = some x0 := take_as (cs := [c0, c1, c2]) (hg 0 _ rfl) cellsLS
    have h1 : DataW.trod enc Try.prog w base spare held m 55 [c1] = some x1 := take_as (cs := [c1, c2]) (hg 1 _ rfl) cellsLS
    have h2 : DataW.trod enc Try.prog w base spare held m 63 [c2] = some x2 := take_as (cs := [c2]) (hg 2 _ rfl) cellsLI
    have w0 : Lt 55 x0.1 := fun n hn => hw n (by simp [DataW.weights, DataW.weightsEach, Try.underlying65, hn])
    have w1 : Lt 55 x1.1 := fun n hn => hw n (by simp [DataW.weights, DataW.weightsEach, Try.underlying65, hn])
    have w2 : Lt 63 x2.1 := fun n hn => hw n (by simp [DataW.weights, DataW.weightsEach, Try.underlying65, hn])
    obtain ⟨A0, p0, l0, rfl, r0, b0⟩ := open_strs h0 w0
    obtain ⟨A1, p1, l1, rfl, r1, b1⟩ := open_strs h1 w1
    obtain ⟨A2, p2, l2, rfl, r2, b2, m2⟩ := open_ints h2 w2
    have g0 := hc 0 (by omega)
    have g1 := hc 1 (by omega)
    have g2 := hc 2 (by omega)
    rw [add_zero] at g0
    rw [add_ne (by omega)] at g1 g2
    exact ⟨⟨l0, l1, l2⟩, ⟨⟨A0, p0, A1, p1, A2, p2⟩, g0, g1, g2, r0, r1, r2⟩, ⟨b0, b1, b2⟩, m2⟩) h0 w0
  subst e
  refine ⟨A, c, ls, root, by rw [← Array.toArray_toList (xs := cs), ecs], ⟨rfl, by omega, fun i x hx => ?_⟩, ⟨by omega, fun x hx => ?_⟩, fun x hx a ha => ?_, by unfold MInt; omega⟩
  · cases A with
    | none => have := (hn rfl).1; have := (List.getElem?_eq_some_iff.1 hx).1; omega
    | some ad =>
      obtain ⟨⟨hh, hr⟩, _⟩ := hl ad rfl i x hx
      exact ⟨ad, hh, rfl, hr⟩
  · cases A with
    | none => have := (hn rfl).1; have := List.length_pos_of_mem hx; omega
    | some ad =>
      obtain ⟨i, hi, rfl⟩ := List.getElem_of_mem hx
      exact (hl ad rfl i _ (List.getElem?_eq_getElem hi)).2.1
  · cases A with
    | none => have := (hn rfl).1; have := List.length_pos_of_mem hx; omega
    | some ad =>
      obtain ⟨i, hi, rfl⟩ := List.getElem_of_mem hx
      exact (hl ad rfl i _ (List.getElem?_eq_getElem hi)).2.2 a ha
set_option maxRecDepth 100000 in
theorem open_key {r : _root_.Go.Reach} {b0 : Nat} {v : Value} {d : DataW H} {p : List MemPlace} (hv : Value.okWide Try.prog w r b0 9 v) (h : DataW.Trod enc Try.prog w base spare held 9 v d p) (hw : Lt 9 d) :
    ∃ k : Key, v = .string k.s := by
  obtain ⟨s, rfl⟩ := okWide_string Try.underlying9 hv
  obtain ⟨fuel, hf⟩ := h
  obtain ⟨s', e0, hx1, _⟩ := DataW.trod_string Try.underlying9 hf
  simp [Value.cells] at e0
  subst e0
  have hs : s.data.toList.length ≤ reachBytes := hw _ (by rw [(Prod.mk.inj hx1).1]; simp [DataW.weights, Try.underlying9])
  have hr := reachBytes_lt
  have e : s.data.toList.length = s.size := by simp
  exact ⟨⟨s, by omega⟩, rfl⟩
end
end Go.Proofs.Ytkpjkglheegmgaa
