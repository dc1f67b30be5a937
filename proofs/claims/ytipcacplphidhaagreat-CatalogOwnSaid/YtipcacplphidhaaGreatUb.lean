/- How an expression that came in as an argument is read: from the reading of data to ours. Conditions: none. -/
import Derived.Test.YtipcacplphidhaaGreatTb
import Derived.ProofKit
import Derived.OpenShut
import Derived.SizedLaws
import Derived.ChangeArms
namespace Go.Proofs.YtipcacplphidhaaGreat.Sy
open Go.RowKit
set_option linter.unusedSimpArgs false
set_option linter.unusedVariables false

theorem choose_list {τ : Type} {p : Nat → τ → Prop} : ∀ (n : Nat), (∀ i, i < n → ∃ x, p i x) → ∃ l : List τ, l.length = n ∧ ∀ j y, l[j]? = some y → p j y
  | 0, _ => ⟨[], rfl, fun j y h => by simp at h⟩
  | n + 1, h => by
    obtain ⟨l, hl, hp⟩ := choose_list n fun i hi => h i (by omega)
    obtain ⟨x, hx⟩ := h n (by omega)
    refine ⟨l ++ [x], by simp [hl], fun j y hj => ?_⟩
    rcases Nat.lt_or_ge j n with h1 | h1
    · rw [List.getElem?_append_left (by omega)] at hj
      exact hp j y hj
    · rw [List.getElem?_append_right (by omega), hl] at hj
      rcases Nat.eq_zero_or_pos (j - n) with h2 | h2
      · rw [h2] at hj
        have e : j = n := by omega
        subst e
        simp at hj
        subst hj
        exact hx
      · rw [List.getElem?_eq_none (by simp; omega)] at hj
        cases hj
theorem weightsAll_mem {H : Type} {P : Program} {e : TypeId} : ∀ {l : List (DataW H)} {d : DataW H}, d ∈ l → ∀ n ∈ d.weights P e, n ∈ DataW.weightsAll P e l
  | d' :: r, d, hd, n, hn => by
    simp only [DataW.weightsAll, List.mem_append]
    rcases List.mem_cons.1 hd with rfl | h
    · exact Or.inl hn
    · exact Or.inr (weightsAll_mem h n hn)

section
variable {H : Type} {enc : TypeId × Value → H} {w : World} {base : Nat} {spare : Nat → Bool} {held : Bool}
/-- All that weighs in what was read is within reach. -/
def Lt {H : Type} (t : TypeId) (d : DataW H) : Prop := ∀ n ∈ d.weights Tryz.prog t, n ≤ reachBytes

theorem open_rd {τ : Type} (K : Kd τ) {t e : TypeId} (ht : Tryz.prog.underlying t = some (.slice e)) (hc : Tryz.prog.cellsOf e = K.k) (hb : Tryz.prog.bytesOf e = K.b) {fuel : Nat} {cs : List Value} {x : DataW H × List MemPlace}
    (h : DataW.trod enc Tryz.prog w base spare held fuel t cs = some x) (hw : Lt t x.1)
    (one : ∀ m, fuel = m + 1 → ∀ cs' y, DataW.trod enc Tryz.prog w base spare held m e cs' = some y → Lt e y.1 → ∃ (z : τ) (a : Option Addr) (c : Nat), cs' = K.cs z a c ∧ K.dp Any w z a c) :
    ∃ (A : Option Addr) (c : Nat) (l : List τ), cs = [.slice A l.length c] ∧ RdK K Any w A c l := by
  rcases DataW.trod_slice ht h with ⟨rfl, rfl⟩ | ⟨a, len, cap, elems, rest, m, hf, rfl, rfl, _, hl, hm, hlen, hel, _, _⟩
  · exact ⟨none, 0, [], rfl, RdK_nil K Any w⟩
  · have h1 : (elems.length + rest.length) * Tryz.prog.bytesOf e ≤ reachBytes := by
      refine hw _ ?_
      simp only [DataW.weights, ht, List.length_map]
      exact List.mem_cons_self
    have h2 : ∀ y ∈ elems, Lt e y.1 := fun y hy n hn => hw n (by
      simp only [DataW.weights, ht]
      exact List.mem_cons_of_mem _ (List.mem_append_left _ (weightsAll_mem (List.mem_map_of_mem hy) n hn)))
    obtain ⟨l, hll, hlp⟩ := choose_list (p := fun j (z : τ) => ∃ (a' : Option Addr) (c' : Nat), (∀ (i : Nat) (v : Value), (K.cs z a' c')[i]? = some v → w.cell? (a.add (j * K.k + i)) = some v) ∧ K.dp Any w z a' c') len (fun i hi => by
      have hi2 : i < elems.length := by omega
      have h3 := hel i hi
      rw [List.getElem?_eq_getElem hi2] at h3
      obtain ⟨cs', g1, g2⟩ := Option.bind_eq_some_iff.1 h3
      obtain ⟨z, a', c', rfl, hdp⟩ := one m hf cs' _ g2 (h2 _ (List.getElem_mem hi2))
      refine ⟨z, a', c', fun k v hv => ?_, hdp⟩
      obtain ⟨_, hlen', hcell⟩ := World.cells?_some g1
      have hk : k < (K.cs z a' c').length := (List.getElem?_eq_some_iff.1 hv).1
      have h4 := hcell k (by omega)
      have e1 : (a.add (i * Tryz.prog.cellsOf e)).add k = a.add (i * K.k + k) := by rw [hc]; unfold Addr.add; split <;> split <;> (try split) <;> simp_all <;> omega
      rw [e1, hv] at h4
      exact h4)
    refine ⟨some a, cap, l, by rw [hll], ⟨(fun e => by cases e), by omega, by unfold maxLen at hm; omega⟩, ?_, fun ad e j y hy => ?_⟩
    · have h5 : l.length * K.b ≤ (elems.length + rest.length) * Tryz.prog.bytesOf e := by rw [hb]; exact Nat.mul_le_mul_right _ (by omega)
      have h6 := reachBytes_lt
      omega
    · injection e with e; subst e
      exact ⟨trivial, hlp j y hy⟩

theorem list3 {α : Type} {cs : List α} (h : cs.length = 3) : ∃ c0 c1 c2, cs = [c0, c1, c2] := by
  match cs, h with
  | [c0, c1, c2], _ => exact ⟨c0, c1, c2, rfl⟩
theorem list5 {α : Type} {cs : List α} (h : cs.length = 5) : ∃ c0 c1 c2 c3 c4, cs = [c0, c1, c2, c3, c4] := by
  match cs, h with
  | [c0, c1, c2, c3, c4], _ => exact ⟨c0, c1, c2, c3, c4, rfl⟩
theorem list7 {α : Type} {cs : List α} (h : cs.length = 7) : ∃ c0 c1 c2 c3 c4 c5 c6, cs = [c0, c1, c2, c3, c4, c5, c6] := by
  match cs, h with
  | [c0, c1, c2, c3, c4, c5, c6], _ => exact ⟨c0, c1, c2, c3, c4, c5, c6, rfl⟩
theorem cellsE : Tryz.prog.cellsOf 62 = 7 := by kernel_rfl
theorem cellsV : Tryz.prog.cellsOf 60 = 3 := by kernel_rfl
theorem cellsI : Tryz.prog.cellsOf 3 = 1 := by kernel_rfl
theorem cellsS : Tryz.prog.cellsOf 9 = 1 := by kernel_rfl
theorem cellsL : Tryz.prog.cellsOf 28 = 1 := by kernel_rfl
theorem bytesE : Tryz.prog.bytesOf 62 = 96 := by kernel_rfl

theorem take_as {m k : Nat} {t : TypeId} {cs : List Value} {x : DataW H × List MemPlace} (h : DataW.trod enc Tryz.prog w base spare held m t (List.take (Tryz.prog.cellsOf t) cs) = some x) (hc : Tryz.prog.cellsOf t = k) : DataW.trod enc Tryz.prog w base spare held m t (List.take k cs) = some x := hc ▸ h
/-- How deep what is read with so much fuel is. -/
def gf : Nat → Nat
  | 0 => 0
  | 1 => 0
  | m + 2 => gf m + 1
set_option maxRecDepth 100000 in
theorem open_vl {f : Nat} {cs : List Value} {x : DataW H × List MemPlace} (h : DataW.trod enc Tryz.prog w base spare held f 60 cs = some x) : ∃ v : Vl, cs = [.int .i64 v.k, .int .i64 v.n, .string v.s] := by
  obtain ⟨xs, m, rfl, rfl, hlen, hxl, hf⟩ := DataW.trod_struct Tryz.underlying60 h
  rw [cellsV] at hlen
  obtain ⟨c0, c1, c2, rfl⟩ := list3 hlen
  obtain ⟨x0, x1, x2, rfl⟩ := list3 (hxl.trans rfl)
  · clear hlen hxl
    have h0 : DataW.trod enc Tryz.prog w base spare held m 3 [c0] = some x0 := take_as (cs := [c0, c1, c2]) (hf 0 _ rfl) cellsI
    have h1 : DataW.trod enc Tryz.prog w base spare held m 3 [c1] = some x1 := take_as (cs := [c1, c2]) (hf 1 _ rfl) cellsI
    have h2 : DataW.trod enc Tryz.prog w base spare held m 9 [c2] = some x2 := take_as (cs := [c2]) (hf 2 _ rfl) cellsS
    obtain ⟨k, e0, _, wk⟩ := DataW.trod_int Tryz.underlying3 h0
    obtain ⟨n, e1, _, wn⟩ := DataW.trod_int Tryz.underlying3 h1
    obtain ⟨s, e2, _, ws⟩ := DataW.trod_string Tryz.underlying9 h2
    simp only [List.cons.injEq, and_true] at e0 e1 e2
    subst e0 e1 e2
    have hb := bounds_i64 wn
    exact ⟨⟨k, n, s, by omega⟩, rfl⟩

set_option maxRecDepth 100000 in
theorem open_ar : ∀ (f : Nat) (cs : List Value) (x : DataW H × List MemPlace), DataW.trod enc Tryz.prog w base spare held f 62 cs = some x → Lt 62 x.1 → ∃ (y : Ar (gf f)) (a : Option Addr) (c : Nat), cs = (KE (gf f)).cs y a c ∧ (KE (gf f)).dp Any w y a c
  | 0, _, _, h, _ => by simp [DataW.trod] at h
  | 1, cs, x, h, _ => by
    obtain ⟨xs, m, hm, rfl, hlen, hxl, hf⟩ := DataW.trod_struct Tryz.underlying62 h
    have h0 := hf 0 _ rfl
    have e : m = 0 := by omega
    subst e
    have hx : 0 < xs.length := by rw [hxl]; decide
    rw [List.getElem?_eq_getElem hx] at h0
    simp [DataW.trod] at h0
  | m + 2, cs, x, h, hw => by
    obtain ⟨xs, m', hm, rfl, hlen, hxl, hf⟩ := DataW.trod_struct Tryz.underlying62 h
    have e : m' = m + 1 := by omega
    subst e
    rw [cellsE] at hlen
    obtain ⟨c0, c1, c2, c3, c4, c5, c6, rfl⟩ := list7 hlen
    obtain ⟨x0, x1, x2, x3, x4, rfl⟩ := list5 (hxl.trans rfl)
    · clear hlen hxl
      have h0 : DataW.trod enc Tryz.prog w base spare held (m + 1) 3 [c0] = some x0 := take_as (cs := [c0, c1, c2, c3, c4, c5, c6]) (hf 0 _ rfl) cellsI
      have h1 : DataW.trod enc Tryz.prog w base spare held (m + 1) 60 [c1, c2, c3] = some x1 := take_as (cs := [c1, c2, c3, c4, c5, c6]) (hf 1 _ rfl) cellsV
      have h2 : DataW.trod enc Tryz.prog w base spare held (m + 1) 9 [c4] = some x2 := take_as (cs := [c4, c5, c6]) (hf 2 _ rfl) cellsS
      have h3 : DataW.trod enc Tryz.prog w base spare held (m + 1) 9 [c5] = some x3 := take_as (cs := [c5, c6]) (hf 3 _ rfl) cellsS
      have h4 : DataW.trod enc Tryz.prog w base spare held (m + 1) 28 [c6] = some x4 := take_as (cs := [c6]) (hf 4 _ rfl) cellsL
      obtain ⟨op, e0, _, _⟩ := DataW.trod_int Tryz.underlying3 h0
      obtain ⟨v, e1⟩ := open_vl h1
      obtain ⟨t, e2, _, _⟩ := DataW.trod_string Tryz.underlying9 h2
      obtain ⟨s, e3, _, _⟩ := DataW.trod_string Tryz.underlying9 h3
      have hw4 : Lt 28 x4.1 := fun n hn => hw n (by
        simp only [DataW.weights, Tryz.underlying62]
        exact DataW.weights_mem_each (j := 4) rfl rfl n hn)
      obtain ⟨A, c, l, e4, hl⟩ := open_rd (KE (gf m)) Tryz.underlying28 (by rw [KE_k]; exact cellsE) (by rw [KE_b]; exact bytesE) h4 hw4 (fun m' hm' cs' y hy hwy => by
        have e : m' = m := by omega
        subst e
        exact open_ar m' cs' y hy hwy)
      simp only [List.cons.injEq, and_true] at e0 e1 e2 e3 e4
      obtain ⟨e10, e11, e12⟩ := e1
      subst e0 e10 e11 e12 e2 e3 e4
      exact ⟨(⟨op, v, t, s, l⟩ : ExN (Ar (gf m))), A, c, rfl, hl⟩
end
end Go.Proofs.YtipcacplphidhaaGreat.Sy
