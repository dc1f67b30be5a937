/- How rows and orders are read as arguments. Conditions: none. -/
import Derived.Test.YtddeaiciochggaaRows
import Derived.Test.YtddeaiciochggaaQj
import Derived.ProofKit
import Derived.OpenShut
import Derived.Lib.SmallJoins
import Derived.Deep.Slices
import Derived.Carry
import Derived.SizedLaws
import Derived.ChangeArms
namespace Go.Proofs.Ytddeaiciochggaa
open Go.ChangeShapes Go.WideShapes Go.ChangeAt Go.RowKit Go.Joins
set_option linter.unusedSimpArgs false
set_option linter.unusedVariables false

theorem inR_of {n : Int} (h : (Lit.int .i64 n).wf = true) : inR n = true := by
  have := bounds_i64 h
  simp [inR]; omega
theorem own : ownKnob Try.prog.godebug = none := by kernel_rfl
theorem laidOut : laidOutB Try.prog = true := by kernel_rfl
theorem recR : Try.prog.readableRec 50 = true := by kernel_rfl
theorem rowR : 50 < Try.prog.types.size := of_decide_eq_true (by kernel_rfl)
theorem cellsV : Try.prog.cellsOf 96 = 3 := by kernel_rfl
theorem cellsL : Try.prog.cellsOf 85 = 1 := by kernel_rfl
theorem cellsI : Try.prog.cellsOf 3 = 1 := by kernel_rfl
theorem cellsB : Try.prog.cellsOf 4 = 1 := by kernel_rfl
theorem cellsS : Try.prog.cellsOf 9 = 1 := by kernel_rfl
theorem bytesV : Try.prog.bytesOf 96 = 32 := by kernel_rfl
theorem bytesL : Try.prog.bytesOf 85 = 24 := by kernel_rfl
theorem cellsO : Try.prog.cellsOf 88 = 2 := by kernel_rfl
theorem bytesO : Try.prog.bytesOf 88 = 16 := by kernel_rfl
theorem recO : Try.prog.readableRec 29 = true := by kernel_rfl
theorem rowO : 29 < Try.prog.types.size := of_decide_eq_true (by kernel_rfl)
theorem list2 {α : Type} {cs : List α} (h : cs.length = 2) : ∃ c0 c1, cs = [c0, c1] := by
  match cs, h with
  | [c0, c1], _ => exact ⟨c0, c1, rfl⟩
theorem list3 {α : Type} {cs : List α} (h : cs.length = 3) : ∃ c0 c1 c2, cs = [c0, c1, c2] := by
  match cs, h with
  | [c0, c1, c2], _ => exact ⟨c0, c1, c2, rfl⟩
theorem weightsAll_mem {H : Type} {P : Program} {e : TypeId} : ∀ {l : List (DataW H)} {d : DataW H}, d ∈ l → ∀ n ∈ d.weights P e, n ∈ DataW.weightsAll P e l
  | d' :: r, d, hd, n, hn => by
    simp only [DataW.weightsAll, List.mem_append]
    rcases List.mem_cons.1 hd with rfl | h
    · exact Or.inl hn
    · exact Or.inr (weightsAll_mem h n hn)

section
variable {H : Type} {enc : TypeId × Value → H} {w : World} {base : Nat} {spare : Nat → Bool} {held : Bool}
/-- All that weighs in what was read is within reach. -/
def Lt {H : Type} (t : TypeId) (d : DataW H) : Prop := ∀ n ∈ d.weights Try.prog t, n ≤ reachBytes
theorem lt_one {t : TypeId} {ds : List (DataW H)} {ts : List TypeId} {d : DataW H} {j : Nat} (h : (DataW.weightsEach Try.prog ts ds).all (· ≤ reachBytes) = true) (ht : ts[j]? = some t) (hd : ds[j]? = some d) : Lt t d := fun n hn =>
  of_decide_eq_true (List.all_eq_true.1 h n (DataW.weights_mem_each ht hd n hn))
theorem take_as {m k : Nat} {t : TypeId} {cs : List Value} {x : DataW H × List MemPlace} (h : DataW.trod enc Try.prog w base spare held m t (List.take (Try.prog.cellsOf t) cs) = some x) (hc : Try.prog.cellsOf t = k) : DataW.trod enc Try.prog w base spare held m t (List.take k cs) = some x := hc ▸ h
/-- A slice's cell, whatever its elements are. -/
theorem open_list {τ : Type} {s e : TypeId} (k b : Nat) (hu : Try.prog.underlying s = some (.slice e)) (hc : Try.prog.cellsOf e = k) (hby : Try.prog.bytesOf e = b) (hb0 : 0 < b) (P : Addr → τ → Prop)
    (hO : ∀ (f : Nat) (cs : List Value) (x : DataW H × List MemPlace) (p : Addr), DataW.trod enc Try.prog w base spare held f e cs = some x → Lt e x.1 → cs.length = k → (∀ i, i < k → w.cell? (p.add i) = cs[i]?) → ∃ z, P p z)
    {f : Nat} {c : Value} {x : DataW H × List MemPlace} (h : DataW.trod enc Try.prog w base spare held f s [c] = some x) (hw : Lt s x.1) :
    ∃ (A : Option Addr) (cp : Nat) (l : List τ), c = .slice A l.length cp ∧ (A = none → l.length = 0 ∧ cp = 0) ∧ l.length * b ≤ 140737488355328 - 24 ∧ ∀ ad, A = some ad → ∀ j z, l[j]? = some z → P (ad.add (j * k)) z := by
  rcases DataW.trod_slice hu h with ⟨hcs, _⟩ | ⟨a, len, cap, elems, rest, m, hfu, hcs, hx, _, hl, hm, hlen, hel, _, _⟩
  · simp at hcs
    subst hcs
    exact ⟨none, 0, [], rfl, fun _ => ⟨rfl, rfl⟩, by simp, fun ad e => by cases e⟩
  · simp at hcs
    subst hcs
    have hd : x.1 = .slice (elems.map (·.1)) (rest.map (·.1)) := by rw [hx]
    rw [hd] at hw
    have h1 : (elems.length + rest.length) * Try.prog.bytesOf e ≤ reachBytes := by
      refine hw _ ?_
      simp only [DataW.weights, hu, List.length_map]
      exact List.mem_cons_self
    have h2 : ∀ y ∈ elems, Lt e y.1 := fun y hy n hn => hw n (by
      simp only [DataW.weights, hu]
      exact List.mem_cons_of_mem _ (List.mem_append_left _ (weightsAll_mem (List.mem_map_of_mem hy) n hn)))
    rw [hby] at h1
    have hr := reachBytes_lt
    obtain ⟨l, hll, hlp⟩ := choose_list (p := fun j (z : τ) => P (a.add (j * k)) z) len (fun i hi => by
      have hi2 : i < elems.length := by omega
      have h3 := hel i hi
      rw [List.getElem?_eq_getElem hi2] at h3
      obtain ⟨cs', g1, g2⟩ := Option.bind_eq_some_iff.1 h3
      rw [hc] at g1
      obtain ⟨_, hlen', hcell⟩ := World.cells?_some g1
      exact hO _ _ _ _ g2 (h2 _ (List.getElem_mem hi2)) hlen' hcell)
    refine ⟨some a, cap, l, by rw [hll], (fun e => by cases e), ?_, fun ad e j z hz => by injection e with e; subst e; exact hlp j z hz⟩
    have h4 : l.length * b ≤ (elems.length + rest.length) * b := Nat.mul_le_mul_right _ (by omega)
    unfold reachBytes at h1
    omega
set_option maxRecDepth 100000 in
theorem open_vl {f : Nat} {cs : List Value} {x : DataW H × List MemPlace} {p : Addr} (h : DataW.trod enc Try.prog w base spare held f 96 cs = some x) (hw : Lt 96 x.1) (hlen : cs.length = 3) (hcell : ∀ i, i < 3 → w.cell? (p.add i) = cs[i]?) : ∃ v : Vl, Cell3 w p v := by
  obtain ⟨xs, m, rfl, rfl, _, hxl, hf⟩ := DataW.trod_struct Try.underlying96 h
  obtain ⟨c0, c1, c2, rfl⟩ := list3 hlen
  obtain ⟨x0, x1, x2, rfl⟩ := list3 (hxl.trans rfl)
  have h0 : DataW.trod enc Try.prog w base spare held m 3 [c0] = some x0 := take_as (cs := [c0, c1, c2]) (hf 0 _ rfl) cellsI
  have h1 : DataW.trod enc Try.prog w base spare held m 3 [c1] = some x1 := take_as (cs := [c1, c2]) (hf 1 _ rfl) cellsI
  have h2 : DataW.trod enc Try.prog w base spare held m 9 [c2] = some x2 := take_as (cs := [c2]) (hf 2 _ rfl) cellsS
  obtain ⟨k, e0, rfl, wk⟩ := DataW.trod_int Try.underlying3 h0
  obtain ⟨n, e1, rfl, wn⟩ := DataW.trod_int Try.underlying3 h1
  obtain ⟨s, e2, rfl, ws⟩ := DataW.trod_string Try.underlying9 h2
  simp only [List.cons.injEq, and_true] at e0 e1 e2
  subst e0 e1 e2
  have hs : s.data.toList.length ≤ reachBytes := hw _ (by simp [DataW.weights, DataW.weightsEach, Try.underlying96])
  have hr := reachBytes_lt
  have e : s.data.toList.length = s.size := by simp
  have g0 := hcell 0 (by omega)
  have g1 := hcell 1 (by omega)
  have g2 := hcell 2 (by omega)
  rw [add0] at g0
  rw [add_ne (by omega)] at g1 g2
  exact ⟨⟨k, n, s, inR_of wn, by omega⟩, g0, g1, g2⟩
theorem open_row {f : Nat} {c : Value} {x : DataW H × List MemPlace} (h : DataW.trod enc Try.prog w base spare held f 85 [c] = some x) (hw : Lt 85 x.1) : ∃ r : List Vl, Rw w c r := by
  obtain ⟨A, cp, l, rfl, h1, h2, h3⟩ := open_list 3 32 Try.underlying85 cellsV bytesV (by decide) (fun p z => Cell3 w p z) (fun f cs x p hx hw hl hc => open_vl hx hw hl hc) h hw
  refine ⟨l, A, cp, rfl, fun hl => ?_, fun e => (h1 e).1, by omega⟩
  cases A with
  | none => exact absurd (List.eq_nil_of_length_eq_zero (h1 rfl).1) hl
  | some ad => exact ⟨ad, rfl, fun j v hj => h3 ad rfl j v hj⟩
theorem open_rows {f : Nat} {c : Value} {x : DataW H × List MemPlace} (h : DataW.trod enc Try.prog w base spare held f 50 [c] = some x) (hw : Lt 50 x.1) : ∃ (A : Option Addr) (cp : Nat) (l : List (List Vl)), c = .slice A l.length cp ∧ RdR w A l ∧ (A = none → l.length = 0) ∧ l.length * 24 ≤ 140737488355328 - 24 := by
  obtain ⟨A, cp, l, rfl, h1, h2, h3⟩ := open_list 1 24 Try.underlying50 cellsL bytesL (by decide) (fun p (z : List Vl) => ∃ v, w.cell? p = some v ∧ Rw w v z) (fun f cs x p hx hw hl hc => by
    match cs, hl with
    | [c], _ =>
      obtain ⟨r, hr⟩ := open_row hx hw
      have := hc 0 (by omega)
      rw [add0] at this
      exact ⟨r, c, this, hr⟩) h hw
  refine ⟨A, cp, l, rfl, fun hl => ?_, fun e => (h1 e).1, h2⟩
  cases A with
  | none => exact absurd (List.eq_nil_of_length_eq_zero (h1 rfl).1) hl
  | some ad => exact ⟨ad, rfl, fun j v hj => by have := h3 ad rfl j v hj; rwa [Nat.mul_one] at this⟩
set_option maxRecDepth 100000 in
theorem open_oq {f : Nat} {cs : List Value} {x : DataW H × List MemPlace} {p : Addr} (h : DataW.trod enc Try.prog w base spare held f 88 cs = some x) (hlen : cs.length = 2) (hcell : ∀ i, i < 2 → w.cell? (p.add i) = cs[i]?) : ∃ v : Oq, w.cell? p = some (.int .i64 v.n) ∧ w.cell? ⟨p.block, p.off + 1, none⟩ = some (.bool v.d) := by
  obtain ⟨xs, m, hm, rfl, _, hxl, hf⟩ := DataW.trod_struct Try.underlying88 h
  obtain ⟨c0, c1, rfl⟩ := list2 hlen
  obtain ⟨x0, x1, rfl⟩ := list2 (hxl.trans rfl)
  have h0 : DataW.trod enc Try.prog w base spare held m 3 [c0] = some x0 := take_as (cs := [c0, c1]) (hf 0 _ rfl) cellsI
  have h1 : DataW.trod enc Try.prog w base spare held m 4 [c1] = some x1 := take_as (cs := [c1]) (hf 1 _ rfl) cellsB
  obtain ⟨s, e0, _, _⟩ := DataW.trod_int Try.underlying3 h0
  obtain ⟨k, e1, _⟩ := DataW.trod_bool Try.underlying4 h1
  simp only [List.cons.injEq, and_true] at e0 e1
  subst e0 e1
  have g0 := hcell 0 (by omega)
  have g1 := hcell 1 (by omega)
  rw [add0] at g0
  rw [add_ne (by omega)] at g1
  exact ⟨⟨s, k⟩, g0, g1⟩
set_option maxRecDepth 100000 in
theorem open_rowsA {v : Value} {d : DataW H} {p : List MemPlace} {r : Reach} {b0 : Nat} (hv : Value.okWide Try.prog w r b0 50 v) (h : DataW.Trod enc Try.prog w base spare held 50 v d p) (hw : Lt 50 d) :
    ∃ (A : Option Addr) (c : Nat) (l : List (List Vl)), v = .slice A l.length c ∧ RdR w A l ∧ (A = none → l.length = 0) ∧ l.length * 24 ≤ 140737488355328 - 24 := by
  obtain ⟨A, n, c, rfl⟩ := okWide_slice Try.underlying50 hv
  obtain ⟨fuel, hf⟩ := h
  have hf' : DataW.trod enc Try.prog w base spare held fuel 50 [.slice A n c] = some (d, p) := by simpa [Value.cells] using hf
  exact open_rows hf' hw
set_option maxRecDepth 100000 in
theorem open_ordsA {v : Value} {d : DataW H} {p : List MemPlace} {r : Reach} {b0 : Nat} (hv : Value.okWide Try.prog w r b0 29 v) (h : DataW.Trod enc Try.prog w base spare held 29 v d p) (hw : Lt 29 d) :
    ∃ (A : Option Addr) (c : Nat) (l : List Oq), v = .slice A l.length c ∧ RdQ w A l ∧ l.length ≤ 140737488355328 := by
  obtain ⟨A, n, c, rfl⟩ := okWide_slice Try.underlying29 hv
  obtain ⟨fuel, hf⟩ := h
  have hf' : DataW.trod enc Try.prog w base spare held fuel 29 [.slice A n c] = some (d, p) := by simpa [Value.cells] using hf
  obtain ⟨A, cp, l, e, h1, h2, h3⟩ := open_list 2 16 Try.underlying29 cellsO bytesO (by decide) (fun p (z : Oq) => w.cell? p = some (.int .i64 z.n) ∧ w.cell? ⟨p.block, p.off + 1, none⟩ = some (.bool z.d)) (fun f cs x p hx hw hl hc => open_oq hx hl hc) hf' hw
  refine ⟨A, cp, l, e, fun hl => ?_, by omega⟩
  cases A with
  | none => exact absurd (List.eq_nil_of_length_eq_zero (h1 rfl).1) hl
  | some ad => exact ⟨ad, rfl, fun j v hj => h3 ad rfl j v hj⟩
end
end Go.Proofs.Ytddeaiciochggaa
