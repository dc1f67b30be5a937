/- What fresh of package ssi makes of a state: the walk. Conditions: a state of at most a million transactions that is read in memory. -/
import Derived.Test.YtlcmpngjmmbkcaaVd
import Derived.Lib.Overlaps
import Derived.Lib.AppendZerosOnto
import Derived.Lib.SmallJoins
import Derived.Laws.IdiomCopy
import Derived.Laws.Externs
import Derived.Laws.NewBlocks
import Derived.Laws.EntriesVeiled
import Derived.Deep.RegionLaw
import Derived.Deep.RegionWith
import Derived.RegionTactic
import Derived.Shelf.RegionOpenPlain
namespace Go.Proofs.Ytlcmpngjmmbkcaa
open Go.RowKit Go.Sort Go.Maps
set_option linter.unusedSimpArgs false
set_option linter.unusedVariables false

theorem copy_run (w : World) {o : Oper} {a : Act} {K : Act → World → Prop} {Q : Exit → Act → World → Prop} (d s : Operand) (t t' : TypeId)
    (ho : o.op = .call { callee := .builtin .copy, args := #[d, s], argTypes := #[t, t'] }) (v u : Value) (hd : a.eval d = v) (hs : a.eval s = u) {v' : Value} {w' : World}
    (hr : (Builtin.copy_ #[t, t'] o.type #[v, u]).run Try.prog w = .ok v' w') (h : K (a.put o.dst v') w') : o.wp Try.prog a w K Q := by
  unfold Oper.wp execOp
  simp only [ho, resolve, invoke, builtin, Sem.run_bind, Sem.run_pure, Result.andThen_ok, List.map_toArray, List.map_cons, List.map_nil, hd, hs, hr]
  exact h
theorem copy_list (w : World) {ops : Array Oper} {rest : List Oper} {o : Oper} {a : Act} {Q : Exit → Act → World → Prop} (hgd : o.guard = none) (d s : Operand) (t t' : TypeId)
    (ho : o.op = .call { callee := .builtin .copy, args := #[d, s], argTypes := #[t, t'] }) (v u : Value) (hd : a.eval d = v) (hs : a.eval s = u) {v' : Value} {w' : World}
    (hr : (Builtin.copy_ #[t, t'] o.type #[v, u]).run Try.prog w = .ok v' w') (h : wpList Try.prog ops Q rest (a.put o.dst v') w') : wpList Try.prog ops Q (o :: rest) a w :=
  wpList_plain hgd fun _ hK => copy_run w d s t t' ho v u hd hs hr (hK _ _ h)
theorem run_copyK {P : Program} (w : World) (dT sT ty elem : TypeId) (k m b o dLen dCap : Nat) (a : Addr) (sLen sCap : Nat) (cs : List Value)
    (hu : P.underlying dT = some (.slice elem)) (hs : (P.info? elem).map (·.size) = some k) (hm : m = Nat.min sLen dLen) (hn : cs.length = m * k)
    (hsrc : ∀ j v, cs[j]? = some v → w.cell? (a.add j) = some v) (hc : ∀ j, j < cs.length → (w.cell? ⟨b, o + j, none⟩).isSome = true) (hf : ∀ j, j < cs.length → w.frozen? ⟨b, o + j, none⟩ = false) (h1 : ∀ v ∈ cs, v.oneCell' = true) :
    (Builtin.copy_ #[dT, sT] ty #[.slice (some ⟨b, o, none⟩) dLen dCap, .slice (some a) sLen sCap]).run P w = .ok (goInt m) (w.setCells b o cs) := by
  have hst := run_storeCells_cells (P := P) b o cs 0 w (by simpa using hc) (by simpa using hf) h1
  have hl := run_firstCells_some (P := P) w k m a sLen sCap cs hn hsrc
  simp only [Nat.add_zero] at hst
  cases hq : P.info? elem with
  | none => simp [hq] at hs
  | some i =>
    have hi : i.size = k := by simpa [hq] using hs
    simp [Builtin.copy_, run_underlying hu, Builtin.lenOf, sizeOf, typeInfo, hq, hi, ← hm, hl, hst]
theorem Rd.news {w : World} {ad : Addr} {n c : Nat} {l : List Tx} (h : Rd w (some ad) n c l) : ∀ i u, (txs l)[i]? = some u → w.cell? (ad.add i) = some u := by
  intro i u hu
  have hi : i < l.length * 5 := by rw [← txs_len]; exact (List.getElem?_eq_some_iff.1 hu).1
  obtain ⟨j, r, rfl, hr⟩ : ∃ j r, i = j * 5 + r ∧ r < 5 := ⟨i / 5, i % 5, by omega, by omega⟩
  obtain ⟨v, hv⟩ : ∃ v, l[j]? = some v := ⟨_, List.getElem?_eq_getElem (show j < l.length by omega)⟩
  obtain ⟨c0, c1, c2, c3, c4⟩ := h.cells ad rfl _ _ hv
  have hf := flat_get l j r _ hv hr
  have hu' : (txC v)[r]? = some u := hf.symm.trans hu
  rcases (show r = 0 ∨ r = 1 ∨ r = 2 ∨ r = 3 ∨ r = 4 by omega) with rfl | rfl | rfl | rfl | rfl
  · simp [txC] at hu'
    subst hu'
    exact c0
  all_goals
    simp [txC] at hu'
    subst hu'
    rw [add_two _ _ (by omega)]
    assumption
/-- A row filled with a list of its length. -/
theorem Row.fill {W : World} {g : Nat} {m l : List Tx} (h : Row W g m) (hl : m.length = l.length) : Row (W.setCells g 0 (txs l)) g l := by
  refine ⟨fun j u hj => ?_, by rw [← hl]; exact World.there_setCells h.there _ _ _⟩
  have hlt : j < (txs l).length := (List.getElem?_eq_some_iff.1 hj).1
  have hs := World.cell?_setCells_in g (txs l) 0 W (fun t ht => (h.there t (by rw [txs_len] at ht; rw [hl]; exact ht)).1) j hlt
  rw [hs, ← hj, List.getElem?_eq_getElem]
theorem sizeV : (Try.prog.info? 35).map (·.size) = some 5 := by kernel_rfl
theorem copy_any {W : World} {g n : Nat} {A : Option Addr} {c : Nat} {m l : List Tx} (h : Row W g m) (hm : m.length = n) (hr : Rd W A n c l) (ty : TypeId) :
    (Builtin.copy_ #[26, 26] ty #[.slice (some ⟨g, 0, none⟩) n n, .slice A n c]).run Try.prog W = .ok (goInt n) (W.setCells g 0 (txs l)) := by
  have hln := hr.len
  cases A with
  | some ad =>
    refine run_copyK W _ _ ty 35 5 n g 0 n n ad n c (txs l) Try.underlying26 sizeV (by simp) (by rw [txs_len, hln]) hr.news (fun j hj => ?_) (fun j hj => ?_) (txs_one l)
    · exact (h.there j (by rw [txs_len] at hj; omega)).1
    · exact (h.there j (by rw [txs_len] at hj; omega)).2
  | none =>
    have h0 := (hr.nil rfl).1
    subst h0
    have hl0 : l = [] := List.eq_nil_of_length_eq_zero hln
    subst hl0
    cases hq : Try.prog.info? 35 with
    | none => have := sizeV; rw [hq] at this; cases this
    | some i =>
      simp [Builtin.copy_, run_underlying Try.underlying26, Builtin.lenOf, sizeOf, typeInfo, hq, World.setCells, txs, run_firstCells_none, storeCells]
theorem size_setCells (g : Nat) : ∀ (vs : List Value) (o : Nat) (w : World), (w.setCells g o vs).heap.size = w.heap.size
  | [], _, _ => rfl
  | v :: r, o, w => (size_setCells g r (o + 1) _).trans (by simp)
theorem frozen_setCells (g : Nat) (q : Addr) : ∀ (vs : List Value) (o : Nat) (w : World), (w.setCells g o vs).frozen? q = w.frozen? q
  | [], _, _ => rfl
  | v :: r, o, w => (frozen_setCells g q r (o + 1) _).trans (World.frozen?_setCell w _ _ _)
/-- A box of three cells written over. -/
theorem st3 {W : World} {r : Nat} {u0 u1 u2 : Value} (h0 : W.cell? ⟨r, 0, none⟩ = some u0) (h1 : W.cell? ⟨r, 1, none⟩ = some u1) (h2 : W.cell? ⟨r, 2, none⟩ = some u2) (v0 v1 v2 : Value) :
    (((W.setCell ⟨r, 0, none⟩ v0).setCell ⟨r, 1, none⟩ v1).setCell ⟨r, 2, none⟩ v2).cell? ⟨r, 0, none⟩ = some v0 ∧ (((W.setCell ⟨r, 0, none⟩ v0).setCell ⟨r, 1, none⟩ v1).setCell ⟨r, 2, none⟩ v2).cell? ⟨r, 1, none⟩ = some v1 ∧ (((W.setCell ⟨r, 0, none⟩ v0).setCell ⟨r, 1, none⟩ v1).setCell ⟨r, 2, none⟩ v2).cell? ⟨r, 2, none⟩ = some v2 := by
  have k1 : (W.setCell ⟨r, 0, none⟩ v0).cell? ⟨r, 1, none⟩ = some u1 := (World.cell?_setCell_other _ _ _ _ (by simp)).trans h1
  have k2 : ((W.setCell ⟨r, 0, none⟩ v0).setCell ⟨r, 1, none⟩ v1).cell? ⟨r, 2, none⟩ = some u2 := (World.cell?_setCell_other _ _ _ _ (by simp)).trans ((World.cell?_setCell_other _ _ _ _ (by simp)).trans h2)
  refine ⟨?_, ?_, set_same _ k2⟩
  · rw [World.cell?_setCell_other _ _ _ _ (by simp), World.cell?_setCell_other _ _ _ _ (by simp)]
    exact set_same _ h0
  · rw [World.cell?_setCell_other _ _ _ _ (by simp)]
    exact set_same _ k1
theorem heap_setCells (g : Nat) (e : TypeId) : ∀ (vs : List Value) (o : Nat) (w : World) (cur : Array Value), w.heap[g]? = some (.cells cur e (0, 0)) → o + vs.length ≤ cur.size →
    ∃ cur', (w.setCells g o vs).heap[g]? = some (.cells cur' e (0, 0)) ∧ cur'.size = cur.size ∧ ∀ j : Nat, cur'[j]? = if o ≤ j ∧ j < o + vs.length then vs[j - o]? else cur[j]?
  | [], o, w, cur, h, _ => ⟨cur, h, rfl, fun j => by rw [if_neg (by simp)]⟩
  | v :: r, o, w, cur, h, hl => by
    have hl' : o + (r.length + 1) ≤ cur.size := by simpa using hl
    obtain ⟨cur', h1, h2, h3⟩ := heap_setCells g e r (o + 1) _ _ (heap_setCell_same w g o cur e v h) (by simp; omega)
    refine ⟨cur', h1, by simpa using h2, fun j => ?_⟩
    rw [h3, List.length_cons]
    by_cases c1 : o + 1 ≤ j ∧ j < o + 1 + r.length
    · rw [if_pos c1, if_pos (by omega)]
      have e1 : j - o = (j - (o + 1)) + 1 := by omega
      rw [e1, List.getElem?_cons_succ]
    · rw [if_neg c1]
      by_cases c2 : j = o
      · subst c2
        rw [if_pos (by omega), Nat.sub_self, Array.getElem?_setIfInBounds_self_of_lt (by omega)]
        rfl
      · rw [if_neg (by omega), Array.getElem?_setIfInBounds_ne (by omega)]
/-- A row of the call's own filled with a list of its length. -/
theorem own_fill {W : World} {B g n : Nat} {l m : List Tx} (h : W.ownsRow B 35 5 (.slice (some ⟨g, 0, none⟩) n n) n (txs m)) (hl : l.length = n) : (W.setCells g 0 (txs l)).ownsRow B 35 5 (.slice (some ⟨g, 0, none⟩) n n) n (txs l) := by
  rcases h.2 with ⟨e, _⟩ | ⟨g', cap, cur, e, hb, hg, hc, hm, hs, ht⟩
  · cases e
  · simp only [Value.slice.injEq, Option.some.injEq, Addr.mk.injEq] at e
    obtain ⟨⟨rfl, _⟩, _, rfl⟩ := e
    have hlen : (txs l).length = n * 5 := by rw [txs_len, hl]
    obtain ⟨cur', h1, h2, h3⟩ := heap_setCells g 35 (txs l) 0 W cur hg (by omega)
    refine ⟨hlen, .inr ⟨g, n, cur', rfl, hb, h1, hc, hm, by omega, ?_⟩⟩
    apply List.ext_getElem?
    intro j
    rw [List.getElem?_take]
    split
    · rename_i hj
      rw [Array.getElem?_toList, h3, if_pos (by omega)]
      simp
    · rename_i hj
      rw [List.getElem?_eq_none (by omega)]
theorem own_other {W : World} {B n k : Nat} {e : TypeId} {v : Value} {xs : List Value} (h : W.ownsRow B e k v n xs) (p : Addr) (x : Value) (hp : v.ownBlock ≠ some p.block) : (W.setCell p x).ownsRow B e k v n xs :=
  h.kept (row := some p.block) ⟨rfl, rfl, rfl, by simp, fun i _ hi => heap_setCell_other W p i x (fun e => hi (by rw [e]))⟩ (.inr hp)
theorem own_mono {W : World} {B B' n k : Nat} {e : TypeId} {v : Value} {xs : List Value} (h : W.ownsRow B e k v n xs) (hb : B' ≤ B) : W.ownsRow B' e k v n xs :=
  ⟨h.1, h.2.imp id fun ⟨g, cap, cur, e1, h1, r⟩ => ⟨g, cap, cur, e1, Nat.le_trans hb h1, r⟩⟩
/-- What fresh makes of a state: one over a row of the call's own. -/
def FreshX (s : St) (w : World) (e : Ending) (w' : World) : Prop := ∃ g, e = .returned (.agg #[.slice (some ⟨g, 0, none⟩) s.l.length s.l.length, .int .i64 s.c, .int .i64 s.n]) ∧ w'.ownsRow w.heap.size 35 5 (.slice (some ⟨g, 0, none⟩) s.l.length s.l.length) s.l.length (txs s.l) ∧ w.heap.size ≤ g ∧ g < w'.heap.size ∧ Below w.heap.size w w'
set_option maxRecDepth 100000 in
set_option maxHeartbeats 4000000 in
theorem fresh_any (A : Option Addr) (n c : Nat) (s : St) (w : World) (hr : Rd w A n c s.l) (hn : n ≤ 1000000) :
    Calls Try.prog 17 #[.agg #[.slice A n c, .int .i64 s.c, .int .i64 s.n]] w (FreshX s w) := by
  obtain ⟨i0, hi, hz0, hz1, hz2⟩ := info_parts Try.infoV
  obtain ⟨l, ck, nx⟩ := s
  simp only at hr ⊢
  have hlen := hr.len
  subst hlen
  have HR := Lib.hid hr
  clear hr
  have hB0 := below2 w (.cells #[.slice A l.length c, .int .i64 ck, .int .i64 nx] 28) (.cells #[.slice none 0 0, .int .i64 0, .int .i64 0] 28)
  go_enter Try.func17, Try.ntmps17
  go_upto_region 1 with fail
  have hz0' : ((w.alloc (.cells #[.slice A l.length c, .int .i64 ck, .int .i64 nx] 28)).alloc (.cells #[.slice none 0 0, .int .i64 0, .int .i64 0] 28)).heap.size = w.heap.size + 2 := by simp
  have hcl : ∀ o v, #[Value.slice A l.length c, .int .i64 ck, .int .i64 nx][o]? = some v → ((w.alloc (.cells #[.slice A l.length c, .int .i64 ck, .int .i64 nx] 28)).alloc (.cells #[.slice none 0 0, .int .i64 0, .int .i64 0] 28)).cell? ⟨w.heap.size, o, none⟩ = some v := fun o v h => by
    rw [(below1 _ _).cell (p := ⟨w.heap.size, o, none⟩) (by simp), cell_last _ _ _ _ _ rfl]; exact h
  have hcr : ∀ o v, #[Value.slice none 0 0, .int .i64 0, .int .i64 0][o]? = some v → ((w.alloc (.cells #[.slice A l.length c, .int .i64 ck, .int .i64 nx] 28)).alloc (.cells #[.slice none 0 0, .int .i64 0, .int .i64 0] 28)).cell? ⟨w.heap.size + 1, o, none⟩ = some v := fun o v h => by
    rw [cell_last _ _ _ _ _ (by simp)]; exact h
  have hfr : ∀ o, ((w.alloc (.cells #[.slice A l.length c, .int .i64 ck, .int .i64 nx] 28)).alloc (.cells #[.slice none 0 0, .int .i64 0, .int .i64 0] 28)).frozen? ⟨w.heap.size + 1, o, none⟩ = false := fun o => World.frozen?_alloc_at _ _ _ o (by simp)
  have a0 := hcl 0 _ rfl
  have a1 := hcl 1 _ rfl
  have a2 := hcl 2 _ rfl
  have r0 := hcr 0 _ rfl
  have r1 := hcr 1 _ rfl
  have r2 := hcr 2 _ rfl
  have f0 := hfr 0
  have f1 := hfr 1
  have f2 := hfr 2
  clear hcl hcr hfr
  generalize (w.alloc (.cells #[.slice A l.length c, .int .i64 ck, .int .i64 nx] 28)).alloc (.cells #[.slice none 0 0, .int .i64 0, .int .i64 0] 28) = W0 at *
  go_wp2_with (refine wpList_make_full W0 rfl (.tmp 6) (.tmp 6) 26 rfl W0.heap.size 35 i0 (.agg #[.int .i64 0, .int .i64 0, .int .i64 0, .bool false, .bool false]) 5 Try.underlying26 hi hz0 hz1 .i64 .i64 _ _ l.length rfl rfl rfl rfl (by rw [hz2]; omega) (by unfold maxLen; omega) (Nat.le_refl _) ?_)
  intro w1 hown hg1
  have hb1 : Below W0.heap.size W0 w1 := (Below.refl _ _).grown hg1 (Nat.le_refl _) (fun k hk => by cases hk)
  have hgl : w.heap.size + 2 < w1.heap.size := (hown.lt (w.heap.size + 2) rfl).2
  have hrow : Row w1 (w.heap.size + 2) (List.replicate l.length zT) := row_of_own (by rw [← made l.length]; exact hown)
  have HRW := Lib.hid hrow
  have hown2 : w1.ownsRow w.heap.size 35 5 (.slice (some ⟨w.heap.size + 2, 0, none⟩) l.length l.length) l.length (txs (List.replicate l.length zT)) := by rw [← made l.length]; exact own_mono hown (by omega)
  have HOW := Lib.hid hown2
  clear hown2
  have HB1 := Lib.hid (thn hB0 hb1)
  have HR1 := Lib.hid (HR.out.below (thn hB0 hb1))
  have HGL := Lib.hid hgl
  have HFR := Lib.hid fun o => (hb1.frozen (p := ⟨w.heap.size + 1, o, none⟩) (by rw [hz0']; simp))
  have b0 := cell_keep a0 hb1
  have b1 := cell_keep a1 hb1
  have b2 := cell_keep a2 hb1
  have s0 := cell_keep r0 hb1
  have s1 := cell_keep r1 hb1
  have s2 := cell_keep r2 hb1
  have g0 := (HFR.out 0).trans f0
  have g1 := (HFR.out 1).trans f1
  have g2 := (HFR.out 2).trans f2
  clear hown hg1 hb1 hgl hrow a0 a1 a2 r0 r1 r2 f0 f1 f2 HFR hB0
  clear hz0'
  generalize hgg : w.heap.size + 2 = g at *
  have HGG := Lib.hid hgg
  clear hgg
  have hcp := fun ty => copy_any HRW.out (by simp) HR1.out ty
  have HRO := Lib.hid (own_fill (l := l) HOW.out rfl)
  have hoth : ∀ (q : Nat) o v, q < g → w1.cell? ⟨q, o, none⟩ = some v → (w1.setCells g 0 (txs l)).cell? ⟨q, o, none⟩ = some v := fun q o v hq h => by
    rw [World.cell?_setCells_out g (txs l) 0 w1 ⟨q, o, none⟩ (fun e _ => absurd (show q = g from e) (by omega))]; exact h
  have b0' := hoth _ _ _ (by have := HGG.out; omega) b0
  have b1' := hoth _ _ _ (by have := HGG.out; omega) b1
  have b2' := hoth _ _ _ (by have := HGG.out; omega) b2
  have s0' := hoth _ _ _ (by have := HGG.out; omega) s0
  have s1' := hoth _ _ _ (by have := HGG.out; omega) s1
  have s2' := hoth _ _ _ (by have := HGG.out; omega) s2
  have hfz : ∀ q, (w1.setCells g 0 (txs l)).frozen? q = w1.frozen? q := fun q => frozen_setCells _ _ _ _ _
  have g0' := (hfz _).trans g0
  have g1' := (hfz _).trans g1
  have g2' := (hfz _).trans g2
  have HB2 := Lib.hid (below_cells (g := g) (by have := HGG.out; omega) (txs l) 0 HB1.out)
  have HG2 : Hid (g < (w1.setCells g 0 (txs l)).heap.size) := Lib.hid (by rw [size_setCells]; exact HGL.out)
  clear hoth hfz s0 s1 s2 g0 g1 g2 b1 b2
  go_wp2_with (at_builtin; refine copy_list _ rfl _ _ 26 26 rfl _ _ rfl rfl (hcp _) ?_)
  have hg3 := HGG.out
  obtain ⟨x0, x1, x2⟩ := st3 s0' s1' s2' (.slice (some ⟨g, 0, none⟩) l.length l.length) (.int .i64 ck) (.int .i64 nx)
  exact bodyPost_ret (v := .agg #[.slice (some ⟨g, 0, none⟩) l.length l.length, .int .i64 ck, .int .i64 nx]) (by simp [results, Try.results17, go_sem, x0, x1, x2]) rfl ⟨g, rfl, own_other (own_other (own_other HRO.out _ _ (by simp [Value.ownBlock]; omega)) _ _ (by simp [Value.ownBlock]; omega)) _ _ (by simp [Value.ownBlock]; omega), by omega, by simpa using HG2.out, ((HB2.out.setCell (by simp) _).setCell (by simp) _).setCell (by simp) _⟩
end Go.Proofs.Ytlcmpngjmmbkcaa
