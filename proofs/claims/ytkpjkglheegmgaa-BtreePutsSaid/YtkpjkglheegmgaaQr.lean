/- Where the document's walk stands among a node's kids. Conditions: none. -/
import Derived.Test.YtkpjkglheegmgaaQn
namespace Go.Proofs.Ytkpjkglheegmgaa
open Go.RowKit
set_option linter.unusedSimpArgs false
set_option linter.unusedVariables false

theorem rdK_L {N : Nat} {step : Bd → Bd → Int → Sr → Option (Tr × Sr)} (hs : ∀ lo hi c s t s', step lo hi c s = some (t, s') → s.L ≤ N → s'.L ≤ N) {hi : Bd} :
    ∀ (lo : Bd) (ks : List Key) (cs : List Int) (s : Sr) (ts : List Tr) (s' : Sr), rdK step lo hi ks cs s = some (ts, s') → s.L ≤ N → s'.L ≤ N
  | lo, [], [c], s, ts, s', h, hf => by
    obtain ⟨t, s1, hc, e⟩ := rdK_one.1 h
    simp only [Prod.mk.injEq] at e
    obtain ⟨rfl, rfl⟩ := e
    exact hs _ _ _ _ _ _ hc hf
  | lo, k :: ks, c :: cs, s, ts, s', h, hf => by
    obtain ⟨t, s1, ts1, s2, hc, hk, e⟩ := rdK_cons.1 h
    simp only [Prod.mk.injEq] at e
    obtain ⟨rfl, rfl⟩ := e
    exact rdK_L hs _ _ _ _ _ _ hk (hs _ _ _ _ _ _ hc hf)
  | lo, [], [], s, ts, s', h, _ => by simp [rdK] at h
  | lo, [], _ :: _ :: _, s, ts, s', h, _ => by simp [rdK] at h
  | lo, _ :: _, [], s, ts, s', h, _ => by simp [rdK] at h
theorem rd_L (nodes : List Nd) (N : Nat) : ∀ (f : Nat) (lo hi : Bd) (deep : Nat) (a : Int) (s : Sr) (t : Tr) (s' : Sr), rd nodes f lo hi deep a s = some (t, s') → deep + f ≤ N → s.L ≤ N → s'.L ≤ N
  | 0, _, _, _, _, _, _, _, h, _, _ => by rw [rd] at h; cases h
  | f + 1, lo, hi, deep, a, s, t, s', h, hd, hf => by
    obtain ⟨ha, x, hx, hm, _, _, hor⟩ := rd_some.1 h
    rcases hor with ⟨hk, hl⟩ | ⟨hk, ts, s1, hr, e⟩
    · obtain ⟨h1, h2, e⟩ := rdLeaf_some.1 hl
      simp only [Prod.mk.injEq] at e
      obtain ⟨rfl, rfl⟩ := e
      simp only
      omega
    · simp only [Prod.mk.injEq] at e
      obtain ⟨rfl, rfl⟩ := e
      exact rdK_L (fun lo hi c s t s' h hf => rd_L nodes N f lo hi (deep + 1) c s t s' h (by omega) hf) _ _ _ _ _ _ hr hf
/-- What the walk asks of where it stands. -/
structure AskR (nodes : List Nd) (N f deep : Nat) (s : Sr) (out : List Pr) : Prop where
  p : s.p = out.length
  fine : Fine nodes.length s
  fuel : nodes.length ≤ f + s.M.length
  L : s.L ≤ N
  p1 : s.p ≤ 2048
  d1 : 1 ≤ deep
  d : deep + f ≤ N
/-- Where the walk stands among the kids: j of them are walked over. -/
def KidR (nodes : List Nd) (N f deep B gw gm : Nat) (A : Option Addr) (n c : Nat) (root : Int) (vo : Value) (out : List Pr) (lo hi : Bd) (x : Nd) (R1 : Option (List Tr × Sr)) (W2 wr : World) (j : Nat) (b : Bool) : Prop :=
  ∃ vo', Fw gw gm vo W2 wr ∧ (∀ k, vo'.ownBlock = some k → vo.ownBlock = some k ∨ W2.heap.size ≤ k) ∧
    ((b = false ∧ x.kids.length = x.ks.length + 1 ∧ ∃ ts s out', Wk wr B gw gm A n c root s.M vo' out' s.L false ∧ AskR nodes N f (deep + 1) s out' ∧ out' = out ++ ts.flatMap (prs (s.L - (deep + 1))) ∧ ts.length = j ∧ (0 < j → deep + 1 ≤ s.L) ∧ rest (fun lo hi c s => rd nodes f lo hi (deep + 1) c s) lo hi x.ks x.kids j ts s = R1) ∨
     (b = true ∧ ∃ M' out' L', Wk wr B gw gm A n c root M' vo' out' L' true ∧ R1 = none))
theorem KidR.step {nodes : List Nd} {N f deep B gw gm : Nat} {A : Option Addr} {n c : Nat} {root : Int} {vo : Value} {out : List Pr} {lo hi : Bd} {x : Nd} {R1 : Option (List Tr × Sr)} {W2 wr w5 : World} {j : Nat} {vo' : Value} {ts : List Tr} {s : Sr} {out' : List Pr}
    (hf : Fw gw gm vo W2 wr) (ho : ∀ k, vo'.ownBlock = some k → vo.ownBlock = some k ∨ W2.heap.size ≤ k) (hkl : x.kids.length = x.ks.length + 1) (hA : AskR nodes N f (deep + 1) s out') (hout : out' = out ++ ts.flatMap (prs (s.L - (deep + 1)))) (htl : ts.length = j) (hjL : 0 < j → deep + 1 ≤ s.L)
    (hr : rest (fun lo hi c s => rd nodes f lo hi (deep + 1) c s) lo hi x.ks x.kids j ts s = R1) (hj : j < x.kids.length)
    (hp : NdPost wr w5 B gw gm A n c root vo' out' (deep + 1) (rd nodes f (lst lo (x.ks.take j)) (hed hi (x.ks.drop j)) (deep + 1) x.kids[j] s)) :
    ∃ b, KidR nodes N f deep B gw gm A n c root vo out lo hi x R1 W2 w5 (j + 1) b := by
  obtain ⟨vo2, f5, o5, h5⟩ := hp
  rw [rest_step hkl hj] at hr
  have hfw : Fw gw gm vo W2 w5 := hf.trans f5 ho
  have how : ∀ k, vo2.ownBlock = some k → vo.ownBlock = some k ∨ W2.heap.size ≤ k := fun k hk => by
    rcases o5 k hk with h | h
    · exact ho k h
    · exact .inr (Nat.le_trans hf.size h)
  cases hR : rd nodes f (lst lo (x.ks.take j)) (hed hi (x.ks.drop j)) (deep + 1) x.kids[j] s with
  | none =>
    rw [hR] at hr h5
    obtain ⟨M', o', L', k5⟩ := h5
    exact ⟨true, vo2, hfw, how, .inr ⟨rfl, M', o', L', k5, hr.symm⟩⟩
  | some r =>
    obtain ⟨t, s'⟩ := r
    rw [hR] at hr h5
    obtain ⟨m, hok, told⟩ := rd_ok nodes f _ _ (deep + 1) _ s t s' hR (by omega)
    obtain ⟨hf2, hm2⟩ := rd_met nodes f _ _ (deep + 1) _ s t s' hR hA.fine
    have hL := rd_L nodes N f _ _ (deep + 1) _ s t s' hR hA.d hA.L
    have hml := hm2.len
    have hl1 := told.l1
    have hln : s'.L - (deep + 1) = m := by omega
    have hts : ts.flatMap (prs (s.L - (deep + 1))) = ts.flatMap (prs (s'.L - (deep + 1))) := by
      rcases Nat.eq_zero_or_pos j with h0 | h0
      · have : ts = [] := List.eq_nil_of_length_eq_zero (by omega)
        rw [this]; rfl
      · have h1 := hjL h0
        rcases told.l0 with h2 | h2
        · omega
        · rw [h2]
    refine ⟨false, vo2, hfw, how, .inl ⟨rfl, hkl, ts ++ [t], s', out' ++ prs (s'.L - (deep + 1)) t, h5, ⟨?_, hf2, by have := hA.fuel; omega, hL, told.p1, hA.d1, hA.d⟩, ?_, by simp [htl], fun _ => by omega, hr⟩⟩
    · rw [told.p, hA.p, List.length_append, hln]
    · rw [List.flatMap_append, ← hts, hout]
      simp
theorem run_lh {t : TypeId} (ht : Try.prog.underlying t = some (.slice (Try.prog.elem t))) (he : ∀ w, (sizeOf (Try.prog.elem t)).run Try.prog w = .ok 1 w) (ad : Addr) (n c l : Nat) (a b : Int) (ha : a = l) (hb : b = (l : Int) + 1) (hc : l + 1 ≤ c) (w : World) :
    (Instr.slice t (.slice (some ad) n c) (some (.int .i64 a)) (some (.int .i64 b)) none).run Try.prog w = .ok (.slice (some (ad.add l)) 1 (c - l)) w := by
  subst ha
  subst hb
  rw [run_slice_lh w t (some ad) n c ht .i64 .i64 (l : Int) ((l : Int) + 1) (by omega) (by omega) (by omega), he]
  have e1 : ((l : Int) + 1).toNat = l + 1 := by omega
  have e2 : c ≠ l := by omega
  simp [Result.andThen, sliced, e1, e2]
end Go.Proofs.Ytkpjkglheegmgaa
