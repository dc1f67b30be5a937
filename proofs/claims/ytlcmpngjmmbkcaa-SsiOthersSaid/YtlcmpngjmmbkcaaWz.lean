/- How a state, numbers and steps are read as arguments. Conditions: none. -/
import Derived.Test.YtlcmpngjmmbkcaaRows
import Derived.Test.YtlcmpngjmmbkcaaVp
import Derived.ProofKit
import Derived.OpenShut
import Derived.Lib.SmallJoins
import Derived.Deep.Slices
import Derived.Carry
import Derived.SizedLaws
import Derived.ChangeArms
namespace Go.Proofs.Ytlcmpngjmmbkcaa
open Go.ChangeShapes Go.WideShapes Go.ChangeAt Go.RowKit Go.Joins Go.Maps
set_option linter.unusedSimpArgs false
set_option linter.unusedVariables false

theorem own : ownKnob Try.prog.godebug = none := by kernel_rfl
theorem laidOutA : laidOutB Try.prog = true := by kernel_rfl
theorem recT : Try.prog.readableRec 24 = true := by kernel_rfl
theorem rowT : 24 < Try.prog.types.size := of_decide_eq_true (by kernel_rfl)
theorem recP : Try.prog.readableRec 45 = true := by kernel_rfl
theorem rowP : 45 < Try.prog.types.size := of_decide_eq_true (by kernel_rfl)
theorem recI : Try.prog.readableRec 3 = true := by kernel_rfl
theorem rowI : 3 < Try.prog.types.size := of_decide_eq_true (by kernel_rfl)
theorem cellsI : Try.prog.cellsOf 3 = 1 := by kernel_rfl
theorem cellsB : Try.prog.cellsOf 4 = 1 := by kernel_rfl
theorem cellsX : Try.prog.cellsOf 50 = 5 := by kernel_rfl
theorem cellsT : Try.prog.cellsOf 24 = 3 := by kernel_rfl
theorem cellsXL : Try.prog.cellsOf 22 = 1 := by kernel_rfl
theorem cellsP : Try.prog.cellsOf 48 = 3 := by kernel_rfl
theorem bytesX : Try.prog.bytesOf 50 = 32 := by kernel_rfl
theorem bytesP : Try.prog.bytesOf 48 = 24 := by kernel_rfl
theorem list5 {α : Type} {cs : List α} (h : cs.length = 5) : ∃ c0 c1 c2 c3 c4, cs = [c0, c1, c2, c3, c4] := by
  match cs, h with
  | [c0, c1, c2, c3, c4], _ => exact ⟨c0, c1, c2, c3, c4, rfl⟩
theorem list3 {α : Type} {cs : List α} (h : cs.length = 3) : ∃ c0 c1 c2, cs = [c0, c1, c2] := by
  match cs, h with
  | [c0, c1, c2], _ => exact ⟨c0, c1, c2, rfl⟩
theorem list1 {α : Type} {cs : List α} (h : cs.length = 1) : ∃ c0, cs = [c0] := by
  match cs, h with
  | [c0], _ => exact ⟨c0, rfl⟩
theorem choose_list {τ : Type} {p : Nat → τ → Prop} : ∀ (n : Nat), (∀ i, i < n → ∃ x, p i x) → ∃ l : List τ, l.length = n ∧ ∀ j y, l[j]? = some y → p j y
  | 0, _ => ⟨[], rfl, fun j y h => by simp at h⟩
  | n + 1, h => by
    obtain ⟨l, hl, hp⟩ := choose_list n fun i hi => h i (by omega)
    obtain ⟨x, hx⟩ := h n (by omega)
    refine ⟨l ++ [x], by simp [hl], fun j y hj => ?_⟩
    rcases Nat.lt_or_ge j n with h1 | h1
    · rw [List.getElem?_append_left (by omega)] at hj
      exact hp j y hj
    · rw [List.getElem?_append_right (by omega), hl] at hj
      rcases Nat.eq_zero_or_pos (j - n) with h2 | h2
      · rw [h2] at hj
        have e : j = n := by omega
        subst e
        simp at hj
        subst hj
        exact hx
      · rw [List.getElem?_eq_none (by simp; omega)] at hj
        cases hj
theorem weightsAll_mem {H : Type} {P : Program} {e : TypeId} : ∀ {l : List (DataW H)} {d : DataW H}, d ∈ l → ∀ n ∈ d.weights P e, n ∈ DataW.weightsAll P e l
  | d' :: r, d, hd, n, hn => by
    simp only [DataW.weightsAll, List.mem_append]
    rcases List.mem_cons.1 hd with rfl | h
    · exact Or.inl hn
    · exact Or.inr (weightsAll_mem h n hn)
section
variable {H : Type} {enc : TypeId × Value → H} {w : World} {base : Nat} {spare : Nat → Bool} {held : Bool}
/-- All that weighs in what was read is within reach. -/
def Lt {H : Type} (t : TypeId) (d : DataW H) : Prop := ∀ n ∈ d.weights Try.prog t, n ≤ reachBytes
theorem lt_one {t : TypeId} {ds : List (DataW H)} {ts : List TypeId} {d : DataW H} {j : Nat} (h : (DataW.weightsEach Try.prog ts ds).all (· ≤ reachBytes) = true) (ht : ts[j]? = some t) (hd : ds[j]? = some d) : Lt t d := fun n hn =>
  of_decide_eq_true (List.all_eq_true.1 h n (DataW.weights_mem_each ht hd n hn))
theorem take_as {m k : Nat} {t : TypeId} {cs : List Value} {x : DataW H × List MemPlace} (h : DataW.trod enc Try.prog w base spare held m t (List.take (Try.prog.cellsOf t) cs) = some x) (hc : Try.prog.cellsOf t = k) : DataW.trod enc Try.prog w base spare held m t (List.take k cs) = some x := hc ▸ h
/-- A slice's cell, whatever its elements are. -/
theorem open_list {τ : Type} {s e : TypeId} (k b : Nat) (hu : Try.prog.underlying s = some (.slice e)) (hc : Try.prog.cellsOf e = k) (hby : Try.prog.bytesOf e = b) (hb0 : 0 < b) (P : Addr → τ → Prop)
    (hO : ∀ (f : Nat) (cs : List Value) (x : DataW H × List MemPlace) (p : Addr), DataW.trod enc Try.prog w base spare held f e cs = some x → Lt e x.1 → cs.length = k → (∀ i, i < k → w.cell? (p.add i) = cs[i]?) → ∃ z, P p z)
    {f : Nat} {c : Value} {x : DataW H × List MemPlace} (h : DataW.trod enc Try.prog w base spare held f s [c] = some x) (hw : Lt s x.1) :
    ∃ (A : Option Addr) (cp : Nat) (l : List τ), c = .slice A l.length cp ∧ (A = none → l.length = 0 ∧ cp = 0) ∧ l.length ≤ cp ∧ cp ≤ 9223372036854775807 ∧ l.length * b ≤ 140737488355328 - 24 ∧ ∀ ad, A = some ad → ∀ j z, l[j]? = some z → P (ad.add (j * k)) z := by
  rcases DataW.trod_slice hu h with ⟨hcs, _⟩ | ⟨a, len, cap, elems, rest, m, hfu, hcs, hx, _, hl, hm, hlen, hel, _, _⟩
  · simp at hcs
    subst hcs
    exact ⟨none, 0, [], rfl, fun _ => ⟨rfl, rfl⟩, Nat.le_refl _, by decide, by simp, fun ad e => by cases e⟩
  · simp at hcs
    subst hcs
    have hd : x.1 = .slice (elems.map (·.1)) (rest.map (·.1)) := by rw [hx]
    rw [hd] at hw
    have h1 : (elems.length + rest.length) * Try.prog.bytesOf e ≤ reachBytes := by
      refine hw _ ?_
      simp only [DataW.weights, hu, List.length_map]
      exact List.mem_cons_self
    have h2 : ∀ y ∈ elems, Lt e y.1 := fun y hy n hn => hw n (by
      simp only [DataW.weights, hu]
      exact List.mem_cons_of_mem _ (List.mem_append_left _ (weightsAll_mem (List.mem_map_of_mem hy) n hn)))
    rw [hby] at h1
    have hr := reachBytes_lt
    obtain ⟨l, hll, hlp⟩ := choose_list (p := fun j (z : τ) => P (a.add (j * k)) z) len (fun i hi => by
      have hi2 : i < elems.length := by omega
      have h3 := hel i hi
      rw [List.getElem?_eq_getElem hi2] at h3
      obtain ⟨cs', g1, g2⟩ := Option.bind_eq_some_iff.1 h3
      rw [hc] at g1
      obtain ⟨_, hlen', hcell⟩ := World.cells?_some g1
      exact hO _ _ _ _ g2 (h2 _ (List.getElem_mem hi2)) hlen' hcell)
    have h4 : l.length * b ≤ (elems.length + rest.length) * b := Nat.mul_le_mul_right _ (by omega)
    unfold reachBytes at h1
    unfold maxLen at hm
    exact ⟨some a, cap, l, by rw [hll], (fun e => by cases e), by omega, by omega, by omega, fun ad e j z hz => by have e := Option.some.inj e; subst e; exact hlp j z hz⟩
theorem wf_bounds {k : Int} (h : (Lit.int .i64 k).wf = true) : -9223372036854775808 ≤ k ∧ k ≤ 9223372036854775807 := by
  exact bounds_i64 h
set_option maxRecDepth 100000 in
theorem open_tx {f : Nat} {cs : List Value} {x : DataW H × List MemPlace} (h : DataW.trod enc Try.prog w base spare held f 50 cs = some x) : ∃ v : Tx, cs = txC v ∧ -9223372036854775808 ≤ v.e ∧ v.e ≤ 9223372036854775807 := by
  obtain ⟨xs, m, rfl, rfl, hlen, hxl, hf⟩ := DataW.trod_struct Try.underlying50 h
  rw [cellsX] at hlen
  obtain ⟨c0, c1, c2, c3, c4, rfl⟩ := list5 hlen
  obtain ⟨x0, x1, x2, x3, x4, rfl⟩ := list5 (hxl.trans rfl)
  clear hlen hxl
  have h0 : DataW.trod enc Try.prog w base spare held m 3 [c0] = some x0 := take_as (cs := [c0, c1, c2, c3, c4]) (hf 0 _ rfl) cellsI
  have h1 : DataW.trod enc Try.prog w base spare held m 3 [c1] = some x1 := take_as (cs := [c1, c2, c3, c4]) (hf 1 _ rfl) cellsI
  have h2 : DataW.trod enc Try.prog w base spare held m 3 [c2] = some x2 := take_as (cs := [c2, c3, c4]) (hf 2 _ rfl) cellsI
  have h3 : DataW.trod enc Try.prog w base spare held m 4 [c3] = some x3 := take_as (cs := [c3, c4]) (hf 3 _ rfl) cellsB
  have h4 : DataW.trod enc Try.prog w base spare held m 4 [c4] = some x4 := take_as (cs := [c4]) (hf 4 _ rfl) cellsB
  obtain ⟨k0, e0, rfl, w0⟩ := DataW.trod_int Try.underlying3 h0
  obtain ⟨k1, e1, rfl, w1⟩ := DataW.trod_int Try.underlying3 h1
  obtain ⟨k2, e2, rfl, w2⟩ := DataW.trod_int Try.underlying3 h2
  obtain ⟨b3, e3, rfl⟩ := DataW.trod_bool Try.underlying4 h3
  obtain ⟨b4, e4, rfl⟩ := DataW.trod_bool Try.underlying4 h4
  simp only [List.cons.injEq, and_true] at e0 e1 e2 e3 e4
  subst e0 e1 e2 e3 e4
  exact ⟨⟨k0, k1, k2, b3, b4⟩, rfl, wf_bounds w2⟩
set_option maxRecDepth 100000 in
theorem open_state {r : _root_.Go.Reach} {b0 : Nat} {v : Value} {d : DataW H} {p : List MemPlace} (hv : Value.okWide Try.prog w r b0 24 v) (h : DataW.Trod enc Try.prog w base spare held 24 v d p) (hw : Lt 24 d) :
    ∃ (A : Option Addr) (c : Nat) (s : St), v = .agg #[.slice A s.l.length c, .int .i64 s.c, .int .i64 s.n] ∧ Rd w A s.l.length c s.l ∧ s.l.length * 32 ≤ 140737488355328 := by
  obtain ⟨cs, rfl, hsz⟩ := okWide_struct Try.underlying24 hv
  obtain ⟨fuel, hf⟩ := h
  have hf' : DataW.trod enc Try.prog w base spare held fuel 24 cs.toList = some (d, p) := by simpa [Value.cells] using hf
  obtain ⟨xs, m, hm, hx, hlen, hxl, hg⟩ := DataW.trod_struct Try.underlying24 hf'
  rw [cellsT] at hlen
  obtain ⟨c0, c1, c2, ecs⟩ := list3 hlen
  rw [ecs] at hg
  obtain ⟨x0, x1, x2, rfl⟩ := list3 (hxl.trans rfl)
  have h0 : DataW.trod enc Try.prog w base spare held m 22 [c0] = some x0 := take_as (cs := [c0, c1, c2]) (hg 0 _ rfl) cellsXL
  have h1 : DataW.trod enc Try.prog w base spare held m 3 [c1] = some x1 := take_as (cs := [c1, c2]) (hg 1 _ rfl) cellsI
  have h2 : DataW.trod enc Try.prog w base spare held m 3 [c2] = some x2 := take_as (cs := [c2]) (hg 2 _ rfl) cellsI
  obtain ⟨hx1, hx2⟩ := Prod.mk.inj hx
  subst hx1
  obtain ⟨k1, e1, rfl, _⟩ := DataW.trod_int Try.underlying3 h1
  obtain ⟨k2, e2, rfl, _⟩ := DataW.trod_int Try.underlying3 h2
  simp only [List.cons.injEq, and_true] at e1 e2
  subst e1 e2
  have w0 : Lt 22 x0.1 := fun n hn => hw n (by simp [DataW.weights, DataW.weightsEach, Try.underlying24, hn])
  obtain ⟨A', cp, l, e, h1, h2, h3, h4, h5⟩ := open_list (τ := { z : Tx // -9223372036854775808 ≤ z.e ∧ z.e ≤ 9223372036854775807 }) 5 32 Try.underlying22 cellsX bytesX (by decide) (fun p z => Cell5 w p z.1) (fun f cs x p hx hw hl hc => by
    obtain ⟨z, rfl, hz⟩ := open_tx hx
    refine ⟨⟨z, hz⟩, ?_, ?_, ?_, ?_, ?_⟩
    · have := hc 0 (by omega)
      rw [add_zero] at this
      exact this
    · have := hc 1 (by omega)
      rw [add_ne (by omega)] at this
      exact this
    · have := hc 2 (by omega)
      rw [add_ne (by omega)] at this
      exact this
    · have := hc 3 (by omega)
      rw [add_ne (by omega)] at this
      exact this
    · have := hc 4 (by omega)
      rw [add_ne (by omega)] at this
      exact this) h0 w0
  subst e
  refine ⟨A', cp, ⟨l.map (·.1), k1, k2⟩, by rw [← Array.toArray_toList (xs := cs), ecs]; simp, ⟨by simp, by simpa using h2, h3, by simpa using h1, fun ad ea j u hj => ?_, fun t ht => ?_⟩, by simp; omega⟩
  · rw [List.getElem?_map] at hj
    obtain ⟨z, hz, rfl⟩ := Option.map_eq_some_iff.1 hj
    exact h5 ad ea j z hz
  · obtain ⟨z, _, rfl⟩ := List.mem_map.1 ht
    exact z.2
theorem open_sp {f : Nat} {cs : List Value} {x : DataW H × List MemPlace} (h : DataW.trod enc Try.prog w base spare held f 48 cs = some x) : ∃ v : Sp, cs = [.int .i64 v.t, .int .i64 v.a, .int .i64 v.b] := by
  obtain ⟨xs, m, rfl, rfl, hlen, hxl, hf⟩ := DataW.trod_struct Try.underlying48 h
  rw [cellsP] at hlen
  obtain ⟨c0, c1, c2, rfl⟩ := list3 hlen
  obtain ⟨x0, x1, x2, rfl⟩ := list3 (hxl.trans rfl)
  clear hlen hxl
  have h0 : DataW.trod enc Try.prog w base spare held m 3 [c0] = some x0 := take_as (cs := [c0, c1, c2]) (hf 0 _ rfl) cellsI
  have h1 : DataW.trod enc Try.prog w base spare held m 3 [c1] = some x1 := take_as (cs := [c1, c2]) (hf 1 _ rfl) cellsI
  have h2 : DataW.trod enc Try.prog w base spare held m 3 [c2] = some x2 := take_as (cs := [c2]) (hf 2 _ rfl) cellsI
  obtain ⟨k0, e0, rfl, w0⟩ := DataW.trod_int Try.underlying3 h0
  obtain ⟨k1, e1, rfl, w1⟩ := DataW.trod_int Try.underlying3 h1
  obtain ⟨k2, e2, rfl, w2⟩ := DataW.trod_int Try.underlying3 h2
  simp only [List.cons.injEq, and_true] at e0 e1 e2
  subst e0 e1 e2
  exact ⟨⟨k0, k1, k2⟩, rfl⟩
theorem open_steps {r : _root_.Go.Reach} {b0 : Nat} {v : Value} {d : DataW H} {p : List MemPlace} (hv : Value.okWide Try.prog w r b0 45 v) (h : DataW.Trod enc Try.prog w base spare held 45 v d p) (hw : Lt 45 d) :
    ∃ (A : Option Addr) (c : Nat) (l : List Sp), v = .slice A l.length c ∧ RdP w A l.length c l := by
  obtain ⟨A, n, c, rfl⟩ := okWide_slice Try.underlying45 hv
  obtain ⟨fuel, hf⟩ := h
  obtain ⟨A, cp, l, e, h1, h2, h3, h4, h5⟩ := open_list (x := (d, p)) (τ := Sp) 3 24 Try.underlying45 cellsP bytesP (by decide) (fun p z => w.cell? p = some (.int .i64 z.t) ∧ w.cell? ⟨p.block, p.off + 1, none⟩ = some (.int .i64 z.a) ∧ w.cell? ⟨p.block, p.off + 2, none⟩ = some (.int .i64 z.b)) (fun f cs x p hx hw hl hc => by
    obtain ⟨z, rfl⟩ := open_sp hx
    refine ⟨z, ?_, ?_, ?_⟩
    · have := hc 0 (by omega)
      rw [add_zero] at this
      exact this
    · have := hc 1 (by omega)
      rw [add_ne (by omega)] at this
      exact this
    · have := hc 2 (by omega)
      rw [add_ne (by omega)] at this
      exact this) hf hw
  rw [e]
  exact ⟨A, cp, l, rfl, ⟨rfl, h2, h3, h1, fun ad ea j z hz => h5 ad ea j z hz⟩⟩
end
end Go.Proofs.Ytlcmpngjmmbkcaa
