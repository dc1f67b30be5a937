/- How a catalog, a table and a name are read as arguments. Conditions: none. -/
import Derived.Test.YtddeaiciochggaaRows
import Derived.Test.YtddeaiciochggaaNa
import Derived.Test.YtddeaiciochggaaHa
import Derived.ProofKit
import Derived.OpenShut
import Derived.Lib.SmallJoins
import Derived.Deep.Slices
import Derived.Carry
import Derived.SizedLaws
import Derived.ChangeArms
namespace Go.Proofs.Ytddeaiciochggaa
open Go.ChangeShapes Go.WideShapes Go.ChangeAt Go.RowKit Go.Joins Go.Maps
set_option linter.unusedSimpArgs false
set_option linter.unusedVariables false

theorem own : ownKnob Try.prog.godebug = none := by kernel_rfl
theorem laidOut : laidOutB Try.prog = true := by kernel_rfl
theorem recT : Try.prog.readableRec 74 = true := by kernel_rfl
theorem rowT : 74 < Try.prog.types.size := of_decide_eq_true (by kernel_rfl)
theorem recS : Try.prog.readableRec 24 = true := by kernel_rfl
theorem rowS : 24 < Try.prog.types.size := of_decide_eq_true (by kernel_rfl)
theorem recM : Try.prog.readableRec 31 = true := by kernel_rfl
theorem rowM : 31 < Try.prog.types.size := of_decide_eq_true (by kernel_rfl)
theorem recN : Try.prog.readableRec 9 = true := by kernel_rfl
theorem rowN : 9 < Try.prog.types.size := of_decide_eq_true (by kernel_rfl)
theorem cellsC : Try.prog.cellsOf 59 = 3 := by kernel_rfl
theorem cellsX : Try.prog.cellsOf 111 = 2 := by kernel_rfl
theorem cellsI : Try.prog.cellsOf 3 = 1 := by kernel_rfl
theorem cellsB : Try.prog.cellsOf 4 = 1 := by kernel_rfl
theorem cellsS : Try.prog.cellsOf 9 = 1 := by kernel_rfl
theorem cellsT : Try.prog.cellsOf 74 = 4 := by kernel_rfl
theorem cellsA : Try.prog.cellsOf 24 = 1 := by kernel_rfl
theorem cellsLT : Try.prog.cellsOf 22 = 1 := by kernel_rfl
theorem cellsLC : Try.prog.cellsOf 25 = 1 := by kernel_rfl
theorem cellsLX : Try.prog.cellsOf 72 = 1 := by kernel_rfl
theorem bytesC : Try.prog.bytesOf 59 = 32 := by kernel_rfl
theorem bytesX : Try.prog.bytesOf 111 = 24 := by kernel_rfl
theorem bytesT : Try.prog.bytesOf 74 = 72 := by kernel_rfl
theorem list1 {α : Type} {cs : List α} (h : cs.length = 1) : ∃ c0, cs = [c0] := by
  match cs, h with
  | [c0], _ => exact ⟨c0, rfl⟩
theorem list2 {α : Type} {cs : List α} (h : cs.length = 2) : ∃ c0 c1, cs = [c0, c1] := by
  match cs, h with
  | [c0, c1], _ => exact ⟨c0, c1, rfl⟩
theorem list4 {α : Type} {cs : List α} (h : cs.length = 4) : ∃ c0 c1 c2 c3, cs = [c0, c1, c2, c3] := by
  match cs, h with
  | [c0, c1, c2, c3], _ => exact ⟨c0, c1, c2, c3, rfl⟩
theorem list3 {α : Type} {cs : List α} (h : cs.length = 3) : ∃ c0 c1 c2, cs = [c0, c1, c2] := by
  match cs, h with
  | [c0, c1, c2], _ => exact ⟨c0, c1, c2, rfl⟩
theorem weightsAll_mem {H : Type} {P : Program} {e : TypeId} : ∀ {l : List (DataW H)} {d : DataW H}, d ∈ l → ∀ n ∈ d.weights P e, n ∈ DataW.weightsAll P e l
  | d' :: r, d, hd, n, hn => by
    simp only [DataW.weightsAll, List.mem_append]
    rcases List.mem_cons.1 hd with rfl | h
    · exact Or.inl hn
    · exact Or.inr (weightsAll_mem h n hn)

section
variable {H : Type} {enc : TypeId × Value → H} {w : World} {base : Nat} {spare : Nat → Bool} {held : Bool}
/-- All that weighs in what was read is within reach. -/
def Lt {H : Type} (t : TypeId) (d : DataW H) : Prop := ∀ n ∈ d.weights Try.prog t, n ≤ reachBytes
theorem lt_one {t : TypeId} {ds : List (DataW H)} {ts : List TypeId} {d : DataW H} {j : Nat} (h : (DataW.weightsEach Try.prog ts ds).all (· ≤ reachBytes) = true) (ht : ts[j]? = some t) (hd : ds[j]? = some d) : Lt t d := fun n hn =>
  of_decide_eq_true (List.all_eq_true.1 h n (DataW.weights_mem_each ht hd n hn))
theorem take_as {m k : Nat} {t : TypeId} {cs : List Value} {x : DataW H × List MemPlace} (h : DataW.trod enc Try.prog w base spare held m t (List.take (Try.prog.cellsOf t) cs) = some x) (hc : Try.prog.cellsOf t = k) : DataW.trod enc Try.prog w base spare held m t (List.take k cs) = some x := hc ▸ h
/-- A slice's cell, whatever its elements are. -/
theorem open_list {τ : Type} {s e : TypeId} (k b : Nat) (hu : Try.prog.underlying s = some (.slice e)) (hc : Try.prog.cellsOf e = k) (hby : Try.prog.bytesOf e = b) (hb0 : 0 < b) (P : Addr → τ → Prop)
    (hO : ∀ (f : Nat) (cs : List Value) (x : DataW H × List MemPlace) (p : Addr), DataW.trod enc Try.prog w base spare held f e cs = some x → Lt e x.1 → cs.length = k → (∀ i, i < k → w.cell? (p.add i) = cs[i]?) → ∃ z, P p z)
    {f : Nat} {c : Value} {x : DataW H × List MemPlace} (h : DataW.trod enc Try.prog w base spare held f s [c] = some x) (hw : Lt s x.1) :
    ∃ (A : Option Addr) (cp : Nat) (l : List τ), c = .slice A l.length cp ∧ (A = none → l.length = 0 ∧ cp = 0) ∧ l.length * b ≤ 140737488355328 - 24 ∧ ∀ ad, A = some ad → ∀ j z, l[j]? = some z → P (ad.add (j * k)) z := by
  rcases DataW.trod_slice hu h with ⟨hcs, _⟩ | ⟨a, len, cap, elems, rest, m, hfu, hcs, hx, _, hl, hm, hlen, hel, _, _⟩
  · simp at hcs
    subst hcs
    exact ⟨none, 0, [], rfl, fun _ => ⟨rfl, rfl⟩, by simp, fun ad e => by cases e⟩
  · simp at hcs
    subst hcs
    have hd : x.1 = .slice (elems.map (·.1)) (rest.map (·.1)) := by rw [hx]
    rw [hd] at hw
    have h1 : (elems.length + rest.length) * Try.prog.bytesOf e ≤ reachBytes := by
      refine hw _ ?_
      simp only [DataW.weights, hu, List.length_map]
      exact List.mem_cons_self
    have h2 : ∀ y ∈ elems, Lt e y.1 := fun y hy n hn => hw n (by
      simp only [DataW.weights, hu]
      exact List.mem_cons_of_mem _ (List.mem_append_left _ (weightsAll_mem (List.mem_map_of_mem hy) n hn)))
    rw [hby] at h1
    have hr := reachBytes_lt
    obtain ⟨l, hll, hlp⟩ := Sy.choose_list (p := fun j (z : τ) => P (a.add (j * k)) z) len (fun i hi => by
      have hi2 : i < elems.length := by omega
      have h3 := hel i hi
      rw [List.getElem?_eq_getElem hi2] at h3
      obtain ⟨cs', g1, g2⟩ := Option.bind_eq_some_iff.1 h3
      rw [hc] at g1
      obtain ⟨_, hlen', hcell⟩ := World.cells?_some g1
      exact hO _ _ _ _ g2 (h2 _ (List.getElem_mem hi2)) hlen' hcell)
    refine ⟨some a, cap, l, by rw [hll], (fun e => by cases e), ?_, fun ad e j z hz => by injection e with e; subst e; exact hlp j z hz⟩
    have h4 : l.length * b ≤ (elems.length + rest.length) * b := Nat.mul_le_mul_right _ (by omega)
    unfold reachBytes at h1
    omega
set_option maxRecDepth 100000 in
theorem open_cl {f : Nat} {cs : List Value} {x : DataW H × List MemPlace} {p : Addr} (h : DataW.trod enc Try.prog w base spare held f 59 cs = some x) (hlen : cs.length = 3) (hcell : ∀ i, i < 3 → w.cell? (p.add i) = cs[i]?) : ∃ v : Cl, CellC w p v := by
  obtain ⟨xs, m, hm, rfl, _, hxl, hf⟩ := DataW.trod_struct Try.underlying59 h
  obtain ⟨c0, c1, c2, rfl⟩ := list3 hlen
  obtain ⟨x0, x1, x2, rfl⟩ := list3 (hxl.trans rfl)
  have h0 : DataW.trod enc Try.prog w base spare held m 9 [c0] = some x0 := take_as (cs := [c0, c1, c2]) (hf 0 _ rfl) cellsS
  have h1 : DataW.trod enc Try.prog w base spare held m 3 [c1] = some x1 := take_as (cs := [c1, c2]) (hf 1 _ rfl) cellsI
  have h2 : DataW.trod enc Try.prog w base spare held m 4 [c2] = some x2 := take_as (cs := [c2]) (hf 2 _ rfl) cellsB
  obtain ⟨s, e0, _, _⟩ := DataW.trod_string Try.underlying9 h0
  obtain ⟨k, e1, _, _⟩ := DataW.trod_int Try.underlying3 h1
  obtain ⟨n, e2, _⟩ := DataW.trod_bool Try.underlying4 h2
  simp only [List.cons.injEq, and_true] at e0 e1 e2
  subst e0 e1 e2
  have g0 := hcell 0 (by omega)
  have g1 := hcell 1 (by omega)
  have g2 := hcell 2 (by omega)
  rw [add0] at g0
  rw [add_ne (by omega)] at g1 g2
  exact ⟨⟨s, k, n⟩, g0, g1, g2⟩
set_option maxRecDepth 100000 in
theorem open_ix {f : Nat} {cs : List Value} {x : DataW H × List MemPlace} {p : Addr} (h : DataW.trod enc Try.prog w base spare held f 111 cs = some x) (hlen : cs.length = 2) (hcell : ∀ i, i < 2 → w.cell? (p.add i) = cs[i]?) : ∃ v : Ix, CellX w p v := by
  obtain ⟨xs, m, hm, rfl, _, hxl, hf⟩ := DataW.trod_struct Try.underlying111 h
  obtain ⟨c0, c1, rfl⟩ := list2 hlen
  obtain ⟨x0, x1, rfl⟩ := list2 (hxl.trans rfl)
  have h0 : DataW.trod enc Try.prog w base spare held m 9 [c0] = some x0 := take_as (cs := [c0, c1]) (hf 0 _ rfl) cellsS
  have h1 : DataW.trod enc Try.prog w base spare held m 3 [c1] = some x1 := take_as (cs := [c1]) (hf 1 _ rfl) cellsI
  obtain ⟨s, e0, _, _⟩ := DataW.trod_string Try.underlying9 h0
  obtain ⟨k, e1, _, _⟩ := DataW.trod_int Try.underlying3 h1
  simp only [List.cons.injEq, and_true] at e0 e1
  subst e0 e1
  have g0 := hcell 0 (by omega)
  have g1 := hcell 1 (by omega)
  rw [add0] at g0
  rw [add_ne (by omega)] at g1
  exact ⟨⟨s, k⟩, g0, g1⟩
set_option maxRecDepth 100000 in
theorem open_tb {f : Nat} {cs : List Value} {x : DataW H × List MemPlace} {p : Addr} (h : DataW.trod enc Try.prog w base spare held f 74 cs = some x) (hw : Lt 74 x.1) (hlen : cs.length = 4) (hcell : ∀ i, i < 4 → w.cell? (p.add i) = cs[i]?) : ∃ t : Tb, CellT w p t := by
  obtain ⟨xs, m, hm, rfl, _, hxl, hg⟩ := DataW.trod_struct Try.underlying74 h
  obtain ⟨c0, c1, c2, c3, rfl⟩ := list4 hlen
  obtain ⟨x0, x1, x2, x3, rfl⟩ := list4 (hxl.trans rfl)
  have h0 : DataW.trod enc Try.prog w base spare held m 9 [c0] = some x0 := take_as (cs := [c0, c1, c2, c3]) (hg 0 _ rfl) cellsS
  have h1 : DataW.trod enc Try.prog w base spare held m 25 [c1] = some x1 := take_as (cs := [c1, c2, c3]) (hg 1 _ rfl) cellsLC
  have h2 : DataW.trod enc Try.prog w base spare held m 3 [c2] = some x2 := take_as (cs := [c2, c3]) (hg 2 _ rfl) cellsI
  have h3 : DataW.trod enc Try.prog w base spare held m 72 [c3] = some x3 := take_as (cs := [c3]) (hg 3 _ rfl) cellsLX
  have w1 : Lt 25 x1.1 := fun n hn => hw n (by simp [DataW.weights, DataW.weightsEach, Try.underlying74, hn])
  have w3 : Lt 72 x3.1 := fun n hn => hw n (by simp [DataW.weights, DataW.weightsEach, Try.underlying74, hn])
  obtain ⟨s, e0, _, _⟩ := DataW.trod_string Try.underlying9 h0
  obtain ⟨k, e2, _, _⟩ := DataW.trod_int Try.underlying3 h2
  obtain ⟨cA, cc, cl, e1, hcn, hcb, hc⟩ := open_list 3 32 Try.underlying25 cellsC bytesC (by decide) (fun p z => CellC w p z) (fun f cs x p hx hw hl hc => open_cl hx hl hc) h1 w1
  obtain ⟨iA, ic, il, e3, hin, hib, hi⟩ := open_list 2 24 Try.underlying72 cellsX bytesX (by decide) (fun p z => CellX w p z) (fun f cs x p hx hw hl hc => open_ix hx hl hc) h3 w3
  simp only [List.cons.injEq, and_true] at e0 e2
  subst e0 e1 e2 e3
  have g0 := hcell 0 (by omega)
  have g1 := hcell 1 (by omega)
  have g2 := hcell 2 (by omega)
  have g3 := hcell 3 (by omega)
  rw [add0] at g0
  rw [add_ne (by omega)] at g1 g2 g3
  refine ⟨⟨s, cl, k, il⟩, cA, iA, cc, ic, g0, g1, g2, g3, ⟨fun hl => ?_, fun hl => ?_, hcn, hin, by (show cl.length * 32 ≤ _); omega, hib⟩⟩
  · cases cA with
    | none => exact absurd (List.eq_nil_of_length_eq_zero (hcn rfl).1) hl
    | some ad => exact ⟨ad, rfl, fun j v hj => hc ad rfl j v hj⟩
  · cases iA with
    | none => exact absurd (List.eq_nil_of_length_eq_zero (hin rfl).1) hl
    | some ad => exact ⟨ad, rfl, fun j v hj => hi ad rfl j v hj⟩
set_option maxRecDepth 100000 in
theorem open_tabT {r : Reach} {b0 : Nat} {v : Value} {d : DataW H} {p : List MemPlace} (hv : Value.okWide Try.prog w r b0 74 v) (h : DataW.Trod enc Try.prog w base spare held 74 v d p) (hw : Lt 74 d) :
    ∃ (t : Tb) (cA iA : Option Addr) (cc ic : Nat), v = tbl t.m cA t.cols.length cc t.key iA t.idx.length ic ∧ TdOk w t cA iA cc ic := by
  obtain ⟨cs, rfl, hsz⟩ := okWide_struct Try.underlying74 hv
  obtain ⟨fuel, hf⟩ := h
  have hf' : DataW.trod enc Try.prog w base spare held fuel 74 cs.toList = some (d, p) := by simpa [Value.cells] using hf
  obtain ⟨xs, m, hm, hx, hlen, hxl, hg⟩ := DataW.trod_struct Try.underlying74 hf'
  rw [cellsT] at hlen
  obtain ⟨c0, c1, c2, c3, ecs⟩ := list4 hlen
  rw [ecs] at hg
  obtain ⟨x0, x1, x2, x3, rfl⟩ := list4 (hxl.trans rfl)
  have h0 : DataW.trod enc Try.prog w base spare held m 9 [c0] = some x0 := take_as (cs := [c0, c1, c2, c3]) (hg 0 _ rfl) cellsS
  have h1 : DataW.trod enc Try.prog w base spare held m 25 [c1] = some x1 := take_as (cs := [c1, c2, c3]) (hg 1 _ rfl) cellsLC
  have h2 : DataW.trod enc Try.prog w base spare held m 3 [c2] = some x2 := take_as (cs := [c2, c3]) (hg 2 _ rfl) cellsI
  have h3 : DataW.trod enc Try.prog w base spare held m 72 [c3] = some x3 := take_as (cs := [c3]) (hg 3 _ rfl) cellsLX
  obtain ⟨hx1, hx2⟩ := Prod.mk.inj hx
  subst hx1
  have w1 : Lt 25 x1.1 := fun n hn => hw n (by simp [DataW.weights, DataW.weightsEach, Try.underlying74, hn])
  have w3 : Lt 72 x3.1 := fun n hn => hw n (by simp [DataW.weights, DataW.weightsEach, Try.underlying74, hn])
  obtain ⟨s, e0, _, _⟩ := DataW.trod_string Try.underlying9 h0
  obtain ⟨k, e2, _, _⟩ := DataW.trod_int Try.underlying3 h2
  obtain ⟨cA, cc, cl, e1, hcn, hcb, hc⟩ := open_list 3 32 Try.underlying25 cellsC bytesC (by decide) (fun p z => CellC w p z) (fun f cs x p hx hw hl hc => open_cl hx hl hc) h1 w1
  obtain ⟨iA, ic, il, e3, hin, hib, hi⟩ := open_list 2 24 Try.underlying72 cellsX bytesX (by decide) (fun p z => CellX w p z) (fun f cs x p hx hw hl hc => open_ix hx hl hc) h3 w3
  simp only [List.cons.injEq, and_true] at e0 e2
  subst e0 e1 e2 e3
  refine ⟨⟨s, cl, k, il⟩, cA, iA, cc, ic, by rw [← Array.toArray_toList (xs := cs), ecs], ⟨fun hl => ?_, fun hl => ?_, hcn, hin, by (show cl.length * 32 ≤ _); omega, hib⟩⟩
  · cases cA with
    | none => exact absurd (List.eq_nil_of_length_eq_zero (hcn rfl).1) hl
    | some ad => exact ⟨ad, rfl, fun j v hj => hc ad rfl j v hj⟩
  · cases iA with
    | none => exact absurd (List.eq_nil_of_length_eq_zero (hin rfl).1) hl
    | some ad => exact ⟨ad, rfl, fun j v hj => hi ad rfl j v hj⟩
set_option maxRecDepth 100000 in
theorem open_state {r : Reach} {b0 : Nat} {v : Value} {d : DataW H} {p : List MemPlace} (hv : Value.okWide Try.prog w r b0 24 v) (h : DataW.Trod enc Try.prog w base spare held 24 v d p) (hw : Lt 24 d) :
    ∃ (A : Option Addr) (c : Nat) (ls : List Tb), v = .agg #[.slice A ls.length c] ∧ RdS w A ls ∧ ls.length * 72 ≤ 140737488355328 - 24 := by
  obtain ⟨cs, rfl, hsz⟩ := okWide_struct Try.underlying24 hv
  obtain ⟨fuel, hf⟩ := h
  have hf' : DataW.trod enc Try.prog w base spare held fuel 24 cs.toList = some (d, p) := by simpa [Value.cells] using hf
  obtain ⟨xs, m, hm, hx, hlen, hxl, hg⟩ := DataW.trod_struct Try.underlying24 hf'
  rw [cellsA] at hlen
  obtain ⟨c0, ecs⟩ := list1 hlen
  rw [ecs] at hg
  obtain ⟨x0, rfl⟩ := list1 (hxl.trans rfl)
  have h0 : DataW.trod enc Try.prog w base spare held m 22 [c0] = some x0 := take_as (cs := [c0]) (hg 0 _ rfl) cellsLT
  obtain ⟨hx1, hx2⟩ := Prod.mk.inj hx
  subst hx1
  have w0 : Lt 22 x0.1 := fun n hn => hw n (by simp [DataW.weights, DataW.weightsEach, Try.underlying24, hn])
  obtain ⟨A, c, ls, e, hn, hb, hl⟩ := open_list 4 72 Try.underlying22 cellsT bytesT (by decide) (fun p z => CellT w p z) (fun f cs x p hx hw hl hc => open_tb hx hw hl hc) h0 w0
  subst e
  refine ⟨A, c, ls, by rw [← Array.toArray_toList (xs := cs), ecs], fun hl2 => ?_, hb⟩
  cases A with
  | none => exact absurd (List.eq_nil_of_length_eq_zero (hn rfl).1) hl2
  | some ad => exact ⟨ad, rfl, fun j v hj => hl ad rfl j v hj⟩
end
end Go.Proofs.Ytddeaiciochggaa
