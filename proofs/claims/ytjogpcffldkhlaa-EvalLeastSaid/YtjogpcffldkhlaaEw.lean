/- How lists of values and expressions are read as arguments. Conditions: none. -/
import Derived.Test.YtjogpcffldkhlaaRows
import Derived.Test.YtjogpcffldkhlaaEe
import Derived.WalkKit
import Derived.ProofKit
import Derived.OpenShut
import Derived.Lib.SmallJoins
import Derived.Deep.Slices
import Derived.Carry
import Derived.SizedLaws
import Derived.ChangeArms
namespace Go.Proofs.Ytjogpcffldkhlaa
open Go.ChangeShapes Go.WideShapes Go.ChangeAt Go.RowKit Go.Joins
set_option linter.unusedSimpArgs false
set_option linter.unusedVariables false

theorem inR_of {n : Int} (h : (Lit.int .i64 n).wf = true) : inR n = true := by
  have := bounds_i64 h
  simp [inR]; omega
theorem own : ownKnob Try.prog.godebug = none := by kernel_rfl
theorem laidOut : laidOutB Try.prog = true := by kernel_rfl
theorem recL : Try.prog.readableRec 27 = true := by kernel_rfl
theorem rowL : 27 < Try.prog.types.size := of_decide_eq_true (by kernel_rfl)
theorem cellsV : Try.prog.cellsOf 23 = 3 := by kernel_rfl
theorem cellsI : Try.prog.cellsOf 3 = 1 := by kernel_rfl
theorem cellsS : Try.prog.cellsOf 9 = 1 := by kernel_rfl
theorem bytesV : Try.prog.bytesOf 23 = 32 := by kernel_rfl
theorem list3 {α : Type} {cs : List α} (h : cs.length = 3) : ∃ c0 c1 c2, cs = [c0, c1, c2] := by
  match cs, h with
  | [c0, c1, c2], _ => exact ⟨c0, c1, c2, rfl⟩
theorem weightsAll_mem {H : Type} {P : Program} {e : TypeId} : ∀ {l : List (DataW H)} {d : DataW H}, d ∈ l → ∀ n ∈ d.weights P e, n ∈ DataW.weightsAll P e l
  | d' :: r, d, hd, n, hn => by
    simp only [DataW.weightsAll, List.mem_append]
    rcases List.mem_cons.1 hd with rfl | h
    · exact Or.inl hn
    · exact Or.inr (weightsAll_mem h n hn)
theorem choose_list {τ : Type} {p : Nat → τ → Prop} : ∀ (n : Nat), (∀ i, i < n → ∃ x, p i x) → ∃ l : List τ, l.length = n ∧ ∀ j y, l[j]? = some y → p j y
  | 0, _ => ⟨[], rfl, fun j y h => by simp at h⟩
  | n + 1, h => by
    obtain ⟨l, hl, hp⟩ := choose_list n fun i hi => h i (by omega)
    obtain ⟨x, hx⟩ := h n (by omega)
    refine ⟨l ++ [x], by simp [hl], fun j y hj => ?_⟩
    rcases Nat.lt_or_ge j n with h1 | h1
    · rw [List.getElem?_append_left (by omega)] at hj
      exact hp j y hj
    · rw [List.getElem?_append_right (by omega), hl] at hj
      rcases Nat.eq_zero_or_pos (j - n) with h2 | h2
      · rw [h2] at hj
        have e : j = n := by omega
        subst e
        simp at hj
        subst hj
        exact hx
      · rw [List.getElem?_eq_none (by simp; omega)] at hj
        cases hj

section
variable {H : Type} {enc : TypeId × Value → H} {w : World} {base : Nat} {spare : Nat → Bool} {held : Bool}
/-- All that weighs in what was read is within reach. -/
def Lt {H : Type} (t : TypeId) (d : DataW H) : Prop := ∀ n ∈ d.weights Try.prog t, n ≤ reachBytes
theorem lt_one {t : TypeId} {ds : List (DataW H)} {ts : List TypeId} {d : DataW H} {j : Nat} (h : (DataW.weightsEach Try.prog ts ds).all (· ≤ reachBytes) = true) (ht : ts[j]? = some t) (hd : ds[j]? = some d) : Lt t d := fun n hn =>
  of_decide_eq_true (List.all_eq_true.1 h n (DataW.weights_mem_each ht hd n hn))
theorem take_as {m k : Nat} {t : TypeId} {cs : List Value} {x : DataW H × List MemPlace} (h : DataW.trod enc Try.prog w base spare held m t (List.take (Try.prog.cellsOf t) cs) = some x) (hc : Try.prog.cellsOf t = k) : DataW.trod enc Try.prog w base spare held m t (List.take k cs) = some x := hc ▸ h
set_option maxRecDepth 100000 in
theorem open_vl {f : Nat} {cs : List Value} {x : DataW H × List MemPlace} (h : DataW.trod enc Try.prog w base spare held f 23 cs = some x) (hw : Lt 23 x.1) : ∃ v : Vl, cs = valC v := by
  obtain ⟨xs, m, rfl, rfl, hlen, hxl, hf⟩ := DataW.trod_struct Try.underlying23 h
  rw [cellsV] at hlen
  obtain ⟨c0, c1, c2, rfl⟩ := list3 hlen
  obtain ⟨x0, x1, x2, rfl⟩ := list3 (hxl.trans rfl)
  · clear hlen hxl
    have h0 : DataW.trod enc Try.prog w base spare held m 3 [c0] = some x0 := take_as (cs := [c0, c1, c2]) (hf 0 _ rfl) cellsI
    have h1 : DataW.trod enc Try.prog w base spare held m 3 [c1] = some x1 := take_as (cs := [c1, c2]) (hf 1 _ rfl) cellsI
    have h2 : DataW.trod enc Try.prog w base spare held m 9 [c2] = some x2 := take_as (cs := [c2]) (hf 2 _ rfl) cellsS
    obtain ⟨k, e0, rfl, wk⟩ := DataW.trod_int Try.underlying3 h0
    obtain ⟨n, e1, rfl, wn⟩ := DataW.trod_int Try.underlying3 h1
    obtain ⟨s, e2, rfl, ws⟩ := DataW.trod_string Try.underlying9 h2
    simp only [List.cons.injEq, and_true] at e0 e1 e2
    subst e0 e1 e2
    have hs : s.data.toList.length ≤ reachBytes := hw _ (by simp [DataW.weights, DataW.weightsEach, Try.underlying23])
    have hr := reachBytes_lt
    have e : s.data.toList.length = s.size := by simp
    exact ⟨⟨k, n, s, inR_of wn, by omega⟩, rfl⟩

theorem open_vals {v : Value} {d : DataW H} {p : List MemPlace} {r : Reach} {b0 : Nat} (hv : Value.okWide Try.prog w r b0 27 v) (h : DataW.Trod enc Try.prog w base spare held 27 v d p) (hw : Lt 27 d) :
    ∃ (A : Option Addr) (c : Nat) (l : List Vl), v = .slice A l.length c ∧ RdL w A l ∧ (A = none → l.length = 0) ∧ l.length * 32 ≤ 140737488355328 := by
  obtain ⟨A, n, c, rfl⟩ := okWide_slice Try.underlying27 hv
  obtain ⟨fuel, hf⟩ := h
  rcases DataW.trod_slice Try.underlying27 hf with ⟨hcs, _⟩ | ⟨a, len, cap, elems, rest, m, hfu, hcs, hx, _, hl, hm, hlen, hel, _, _⟩
  · simp [Value.cells] at hcs
    obtain ⟨rfl, rfl, rfl⟩ := hcs
    exact ⟨none, 0, [], rfl, fun h => absurd rfl h, fun _ => rfl, by simp⟩
  · simp [Value.cells] at hcs
    obtain ⟨rfl, rfl, rfl⟩ := hcs
    injection hx with hx1 hx2
    subst hx1
    have h1 : (elems.length + rest.length) * Try.prog.bytesOf 23 ≤ reachBytes := by
      refine hw _ ?_
      simp only [DataW.weights, Try.underlying27, List.length_map]
      exact List.mem_cons_self
    have h2 : ∀ y ∈ elems, Lt 23 y.1 := fun y hy n hn => hw n (by
      simp only [DataW.weights, Try.underlying27]
      exact List.mem_cons_of_mem _ (List.mem_append_left _ (weightsAll_mem (List.mem_map_of_mem hy) n hn)))
    rw [bytesV] at h1
    have hr := reachBytes_lt
    obtain ⟨l, hll, hlp⟩ := choose_list (p := fun j (z : Vl) => Cell3 w (a.add (j * 3)) z) n (fun i hi => by
      have hi2 : i < elems.length := by omega
      have h3 := hel i hi
      rw [List.getElem?_eq_getElem hi2] at h3
      obtain ⟨cs', g1, g2⟩ := Option.bind_eq_some_iff.1 h3
      obtain ⟨z, rfl⟩ := open_vl g2 (h2 _ (List.getElem_mem hi2))
      rw [cellsV] at g1
      obtain ⟨_, hlen', hcell⟩ := World.cells?_some g1
      refine ⟨z, ?_, ?_, ?_⟩
      · have := hcell 0 (by omega)
        rw [add0] at this
        exact this
      · have := hcell 1 (by omega)
        rw [add_ne (by omega)] at this
        exact this
      · have := hcell 2 (by omega)
        rw [add_ne (by omega)] at this
        exact this)
    exact ⟨some a, c, l, by rw [hll], fun _ => ⟨a, rfl, hlp⟩, (fun e => by cases e), by omega⟩
theorem list5 {α : Type} {cs : List α} (h : cs.length = 5) : ∃ c0 c1 c2 c3 c4, cs = [c0, c1, c2, c3, c4] := by
  match cs, h with
  | [c0, c1, c2, c3, c4], _ => exact ⟨c0, c1, c2, c3, c4, rfl⟩
theorem list7 {α : Type} {cs : List α} (h : cs.length = 7) : ∃ c0 c1 c2 c3 c4 c5 c6, cs = [c0, c1, c2, c3, c4, c5, c6] := by
  match cs, h with
  | [c0, c1, c2, c3, c4, c5, c6], _ => exact ⟨c0, c1, c2, c3, c4, c5, c6, rfl⟩
theorem cellsE : Try.prog.cellsOf 26 = 7 := by kernel_rfl
theorem cellsX : Try.prog.cellsOf 24 = 1 := by kernel_rfl
theorem recE : Try.prog.readableRec 26 = true := by kernel_rfl
theorem rowE : 26 < Try.prog.types.size := of_decide_eq_true (by kernel_rfl)
set_option maxRecDepth 100000 in
theorem open_flat {f : Nat} {cs : List Value} {x : DataW H × List MemPlace} (h : DataW.trod enc Try.prog w base spare held f 26 cs = some x) :
    ∃ (o k n : Int) (s t m : ByteArray) (A : Option Addr) (an ac : Nat), cs = [.int .i64 o, .int .i64 k, .int .i64 n, .string s, .string t, .string m, .slice A an ac] := by
  obtain ⟨xs, m', hm, rfl, hlen, hxl, hf⟩ := DataW.trod_struct Try.underlying26 h
  rw [cellsE] at hlen
  obtain ⟨c0, c1, c2, c3, c4, c5, c6, rfl⟩ := list7 hlen
  obtain ⟨x0, x1, x2, x3, x4, rfl⟩ := list5 (hxl.trans rfl)
  · clear hlen hxl
    have h0 : DataW.trod enc Try.prog w base spare held m' 3 [c0] = some x0 := take_as (cs := [c0, c1, c2, c3, c4, c5, c6]) (hf 0 _ rfl) cellsI
    have h1 : DataW.trod enc Try.prog w base spare held m' 23 [c1, c2, c3] = some x1 := take_as (cs := [c1, c2, c3, c4, c5, c6]) (hf 1 _ rfl) cellsV
    have h2 : DataW.trod enc Try.prog w base spare held m' 9 [c4] = some x2 := take_as (cs := [c4, c5, c6]) (hf 2 _ rfl) cellsS
    have h3 : DataW.trod enc Try.prog w base spare held m' 9 [c5] = some x3 := take_as (cs := [c5, c6]) (hf 3 _ rfl) cellsS
    have h4 : DataW.trod enc Try.prog w base spare held m' 24 [c6] = some x4 := take_as (cs := [c6]) (hf 4 _ rfl) cellsX
    obtain ⟨o, e0, _, _⟩ := DataW.trod_int Try.underlying3 h0
    obtain ⟨t, e2, _, _⟩ := DataW.trod_string Try.underlying9 h2
    obtain ⟨s, e3, _, _⟩ := DataW.trod_string Try.underlying9 h3
    obtain ⟨k, n, u, e1⟩ : ∃ (k n : Int) (u : ByteArray), [c1, c2, c3] = [.int .i64 k, .int .i64 n, .string u] := by
      obtain ⟨xs, m2, rfl, rfl, hlen, hxl, hf⟩ := DataW.trod_struct Try.underlying23 h1
      obtain ⟨y0, y1, y2, rfl⟩ := list3 (hxl.trans rfl)
      have g0 : DataW.trod enc Try.prog w base spare held m2 3 [c1] = some y0 := take_as (cs := [c1, c2, c3]) (hf 0 _ rfl) cellsI
      have g1 : DataW.trod enc Try.prog w base spare held m2 3 [c2] = some y1 := take_as (cs := [c2, c3]) (hf 1 _ rfl) cellsI
      have g2 : DataW.trod enc Try.prog w base spare held m2 9 [c3] = some y2 := take_as (cs := [c3]) (hf 2 _ rfl) cellsS
      obtain ⟨k, d0, _, _⟩ := DataW.trod_int Try.underlying3 g0
      obtain ⟨n, d1, _, _⟩ := DataW.trod_int Try.underlying3 g1
      obtain ⟨u, d2, _, _⟩ := DataW.trod_string Try.underlying9 g2
      simp only [List.cons.injEq, and_true] at d0 d1 d2
      subst d0 d1 d2
      exact ⟨k, n, u, rfl⟩
    obtain ⟨A, an, ac, e4⟩ : ∃ (A : Option Addr) (an ac : Nat), [c6] = [.slice A an ac] := by
      rcases DataW.trod_slice Try.underlying24 h4 with ⟨e, _⟩ | ⟨a, len, cap, _, _, _, _, e, _⟩
      · exact ⟨none, 0, 0, e⟩
      · exact ⟨some a, len, cap, e⟩
    simp only [List.cons.injEq, and_true] at e0 e1 e2 e3 e4
    obtain ⟨e10, e11, e12⟩ := e1
    subst e0 e10 e11 e12 e2 e3 e4
    exact ⟨o, k, n, u, t, s, A, an, ac, rfl⟩
theorem open_ex {r : Reach} {b0 : Nat} {v : Value} {d : DataW H} {p : List MemPlace} (hv : Value.okWide Try.prog w r b0 26 v) (h : DataW.Trod enc Try.prog w base spare held 26 v d p) :
    ∃ (o k n : Int) (s t m : ByteArray) (A : Option Addr) (an ac : Nat), v = .agg #[.int .i64 o, .int .i64 k, .int .i64 n, .string s, .string t, .string m, .slice A an ac] := by
  obtain ⟨cs, rfl, hsz⟩ := okWide_struct Try.underlying26 hv
  obtain ⟨fuel, hf⟩ := h
  obtain ⟨o, k, n, s, t, m, A, an, ac, e⟩ := open_flat hf
  have e2 : cs.toList = [.int .i64 o, .int .i64 k, .int .i64 n, .string s, .string t, .string m, .slice A an ac] := by simpa [Value.cells] using e
  exact ⟨o, k, n, s, t, m, A, an, ac, by rw [← Array.toArray_toList (xs := cs), e2]⟩
end

end Go.Proofs.Ytjogpcffldkhlaa
