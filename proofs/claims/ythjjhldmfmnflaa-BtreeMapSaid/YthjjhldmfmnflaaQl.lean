/- A state copied by the program: the walk of copied. Conditions: a state that is read in memory, of few keys in each node. -/
import Derived.Test.YthjjhldmfmnflaaQk
import Derived.Test.YthjjhldmfmnflaaQh
import Derived.Test.YthjjhldmfmnflaaQi
import Derived.Test.YthjjhldmfmnflaaQFe0
/- One kid made of two, and a pair taken out of a tree: the walks of refill and delete. Conditions: a tree that may be, read in memory. -/
namespace Go.Proofs.Ythjjhldmfmnflaa
open Go.RowKit
set_option linter.unusedSimpArgs false
set_option linter.unusedVariables false

theorem one_cases {α : Type} {A D : List α} {x y : α} {j : Nat} (h : (A ++ x :: D)[j]? = some y) : (j < A.length ∧ ∀ u v, (A ++ u :: v :: D)[j]? = some y) ∨ (j = A.length ∧ x = y) ∨ (A.length < j ∧ ∀ u v, (A ++ u :: v :: D)[j + 1]? = some y) := by
  rcases Nat.lt_trichotomy j A.length with h1 | h1 | h1
  · rw [List.getElem?_append_left h1] at h
    exact .inl ⟨h1, fun u v => by rw [List.getElem?_append_left h1]; exact h⟩
  · subst h1
    rw [List.getElem?_append_right (Nat.le_refl _), Nat.sub_self] at h
    exact .inr (.inl ⟨rfl, by simpa using h⟩)
  · refine .inr (.inr ⟨h1, fun u v => ?_⟩)
    rw [List.getElem?_append_right (by omega)] at h ⊢
    obtain ⟨d, hd⟩ : ∃ d, j - A.length = d + 1 := ⟨j - A.length - 1, by omega⟩
    rw [hd] at h
    rw [show j + 1 - A.length = d + 1 + 1 by omega]
    simpa using h
theorem two_at {α : Type} {l : List α} {i : Nat} {x y : α} (h1 : l[i]? = some x) (h2 : l[i + 1]? = some y) : l = l.take i ++ x :: y :: l.drop (i + 2) ∧ (l.take i).length = i := by
  obtain ⟨a, rfl⟩ := List.getElem?_eq_some_iff.1 h1
  obtain ⟨b, rfl⟩ := List.getElem?_eq_some_iff.1 h2
  refine ⟨?_, by simp; omega⟩
  rw [← List.drop_eq_getElem_cons b, ← List.drop_eq_getElem_cons a, List.take_append_drop]
/-- The tree of a node that was made of two. -/
theorem merge_tree {n : Nat} {w : World} {g gl gr : Nat} {l r : Tr} {fl fr : List Nat} (hl : RdN n w gl l fl) (hr : RdN n w gr r fr) (hg1 : g ∉ fl) (hg2 : g ∉ fr) (hn1 : fl.Nodup) (hn2 : fr.Nodup) (hd : ∀ b ∈ fl, b ∉ fr) :
    ∃ gsl hl' gsr hr', RdB w gl l gsl hl' ∧ RdB w gr r gsr hr' ∧ ∀ (W : World) (k : Key) (Y : Hd), RdB W gl (mergeT l k r) (gsl ++ gsr) Y → Fr (fun b => b = g ∨ b = gl) w W → ∃ fM, RdN n W gl (mergeT l k r) fM ∧ fM.Nodup ∧ ∀ b ∈ fM, b ∈ fl ∨ b ∈ fr := by
  cases n with
  | zero =>
    obtain ⟨rfl, hc1, h1, hb1⟩ := hl
    obtain ⟨rfl, hc2, h2, hb2⟩ := hr
    exact ⟨[], h1, [], h2, hb1, hb2, fun W k Y hY hf => ⟨[gl], ⟨rfl, by show l.cs ++ r.cs = []; rw [hc1, hc2]; rfl, Y, hY⟩, by simp, fun b hb => .inl hb⟩⟩
  | succ m =>
    obtain ⟨gsl, Fl, h1, rfl, hc1, hb1, hl1, hk1⟩ := hl.inner
    obtain ⟨gsr, Fr', h2, rfl, hc2, hb2, hl2, hk2⟩ := hr.inner
    refine ⟨gsl, h1, gsr, h2, hb1, hb2, fun W k Y hY hf => ?_⟩
    simp only [List.mem_cons, not_or] at hg1 hg2
    obtain ⟨q1, q2⟩ := List.nodup_cons.1 hn1
    obtain ⟨q3, q4⟩ := List.nodup_cons.1 hn2
    have hgr : gl ∉ Fr'.flatten := fun h => hd gl (by simp) (by simp [h])
    refine ⟨gl :: (Fl ++ Fr').flatten, ⟨gsl ++ gsr, Fl ++ Fr', Y, rfl, ?_, hY, ?_, fun j g' c f e1 e2 e3 => ?_⟩, ?_, fun b hb => ?_⟩
    · show l.cs ++ r.cs ≠ []
      intro e
      exact hc1 (List.append_eq_nil_iff.1 e).1
    · show (Fl ++ Fr').length = (l.cs ++ r.cs).length
      rw [List.length_append, List.length_append, hl1, hl2]
    · have e2 : (l.cs ++ r.cs)[j]? = some c := e2
      have n1 := hb1.n
      by_cases hj : j < l.cs.length
      · rw [List.getElem?_append_left (by omega)] at e1
        rw [List.getElem?_append_left hj] at e2
        rw [List.getElem?_append_left (by omega)] at e3
        have hq := hk1 j g' c f e1 e2 e3
        refine hq.keep hf.kv fun b hb => hf.block b (hq.lt b hb) ?_
        have hbF : b ∈ Fl.flatten := List.mem_flatten.2 ⟨f, List.mem_of_getElem? e3, hb⟩
        rintro (rfl | rfl)
        · exact hg1.2 hbF
        · exact q1 hbF
      · rw [List.getElem?_append_right (by omega)] at e1
        rw [List.getElem?_append_right (by omega)] at e2
        rw [List.getElem?_append_right (by omega)] at e3
        rw [n1] at e1
        rw [hl1] at e3
        have hq := hk2 _ g' c f e1 e2 e3
        refine hq.keep hf.kv fun b hb => hf.block b (hq.lt b hb) ?_
        have hbF : b ∈ Fr'.flatten := List.mem_flatten.2 ⟨f, List.mem_of_getElem? e3, hb⟩
        rintro (rfl | rfl)
        · exact hg2.2 hbF
        · exact hgr hbF
    · rw [List.flatten_append, List.nodup_cons, List.mem_append, List.nodup_append]
      exact ⟨fun h => h.elim q1 hgr, q2, q4, fun x hx y hy e => hd x (by simp [hx]) (by subst e; simp [hy])⟩
    · rw [List.flatten_append] at hb
      rcases List.mem_cons.1 hb with rfl | hb
      · exact .inl (by simp)
      · rcases List.mem_append.1 hb with hb | hb
        · exact .inl (by simp [hb])
        · exact .inr (by simp [hb])
/-- The parent's tree, one kid in the place of two. -/
theorem two_one {n : Nat} {w W : World} {g gl gr i : Nat} {p l r M : Tr} {gs : List Nat} {Fs : List (List Nat)} {fl fr fM : List Nat} {h X : Hd} {ks vs : List Key} (hn : (g :: Fs.flatten).Nodup) (hb : RdB w g p gs h) (hl : Fs.length = p.cs.length)
    (hk : ∀ (i : Nat) (g' : Nat) (c : Tr) (f : List Nat), gs[i]? = some g' → p.cs[i]? = some c → Fs[i]? = some f → RdN n w g' c f)
    (hi : p.cs[i]? = some l) (hi1 : p.cs[i + 1]? = some r) (hg : gs[i]? = some gl) (hg1 : gs[i + 1]? = some gr) (hf1 : Fs[i]? = some fl) (hf2 : Fs[i + 1]? = some fr)
    (hX : RdB W g (.mk ks vs (rem1 (p.cs.set i M) (i + 1))) (rem1 gs (i + 1)) X) (hM : RdN n W gl M fM) (hMn : fM.Nodup) (hMs : ∀ b ∈ fM, b ∈ fl ∨ b ∈ fr) (hfr : Fr (fun b => b = g ∨ b = gl) w W) (hgl : gl ∈ fl) :
    Upd (n + 1) w W g (.mk ks vs (rem1 (p.cs.set i M) (i + 1))) (g :: Fs.flatten) := by
  obtain ⟨ec, lc⟩ := two_at hi hi1
  obtain ⟨eg, lg⟩ := two_at hg hg1
  obtain ⟨ef, lf⟩ := two_at hf1 hf2
  have hflt : ∀ b ∈ fl, b ∈ Fs.flatten := fun b hb => List.mem_flatten.2 ⟨fl, List.mem_of_getElem? hf1, hb⟩
  have hfrt : ∀ b ∈ fr, b ∈ Fs.flatten := fun b hb => List.mem_flatten.2 ⟨fr, List.mem_of_getElem? hf2, hb⟩
  obtain ⟨hgF, hnF⟩ := List.nodup_cons.1 hn
  have ap1 := fun (j : Nat) (f : List Nat) (e : Fs[j]? = some f) (hj : j ≠ i) => kids_apart hn hf1 e (Ne.symm hj)
  have old : ∀ (j' : Nat) (g' : Nat) (c : Tr) (f : List Nat), gs[j']? = some g' → p.cs[j']? = some c → Fs[j']? = some f → j' ≠ i → RdN n W g' c f := fun j' g' c f e1 e2 e3 hj => by
    have hq := hk j' g' c f e1 e2 e3
    refine hq.keep hfr.kv fun b hb => hfr.block b (hq.lt b hb) ?_
    obtain ⟨b1, b2⟩ := ap1 j' f e3 hj b hb
    rintro (rfl | rfl)
    · exact b1 rfl
    · exact b2 hgl
  generalize List.take i p.cs = C1 at ec lc
  generalize List.drop (i + 2) p.cs = C2 at ec
  generalize List.take i gs = G1 at eg lg
  generalize List.drop (i + 2) gs = G2 at eg
  generalize List.take i Fs = A at ef lf
  generalize List.drop (i + 2) Fs = D at ef
  have ec2 : rem1 (p.cs.set i M) (i + 1) = C1 ++ M :: C2 := by rw [ec, ← lc, set_at, rem1_at]
  have eg2 : rem1 gs (i + 1) = G1 ++ gl :: G2 := by rw [eg, ← lg, rem1_at]
  rw [ec2] at hX ⊢
  rw [eg2] at hX
  have hlen : A.length + (D.length + 2) = C1.length + (C2.length + 2) := by
    rw [ef, ec] at hl
    simpa using hl
  have hnd := hnF
  rw [ef] at hnd
  simp only [List.flatten_append, List.flatten_cons] at hnd
  rw [List.nodup_append] at hnd
  obtain ⟨nA, nR, dA⟩ := hnd
  rw [List.nodup_append] at nR
  obtain ⟨nl, nR2, dl⟩ := nR
  rw [List.nodup_append] at nR2
  obtain ⟨nr, nD, dr⟩ := nR2
  refine ⟨g :: (A ++ fM :: D).flatten, ⟨G1 ++ gl :: G2, A ++ fM :: D, X, rfl, by simp, hX, by simp; omega, fun j g' c f e1 e2 e3 => ?_⟩, ?_, fun b hb => ?_, hfr.mono ?_⟩
  · have e2 : (C1 ++ M :: C2)[j]? = some c := e2
    rcases one_cases e1 with ⟨j1, a1⟩ | ⟨j1, a1⟩ | ⟨j1, a1⟩
    · rcases one_cases e2 with ⟨j2, a2⟩ | ⟨j2, a2⟩ | ⟨j2, a2⟩
      · rcases one_cases e3 with ⟨j3, a3⟩ | ⟨j3, a3⟩ | ⟨j3, a3⟩
        · exact old j g' c f (by rw [eg]; exact a1 _ _) (by rw [ec]; exact a2 _ _) (by rw [ef]; exact a3 _ _) (by omega)
        · omega
        · omega
      · omega
      · omega
    · rcases one_cases e2 with ⟨j2, a2⟩ | ⟨j2, a2⟩ | ⟨j2, a2⟩
      · omega
      · rcases one_cases e3 with ⟨j3, a3⟩ | ⟨j3, a3⟩ | ⟨j3, a3⟩
        · omega
        · subst a1 a2 a3; exact hM
        · omega
      · omega
    · rcases one_cases e2 with ⟨j2, a2⟩ | ⟨j2, a2⟩ | ⟨j2, a2⟩
      · omega
      · omega
      · rcases one_cases e3 with ⟨j3, a3⟩ | ⟨j3, a3⟩ | ⟨j3, a3⟩
        · omega
        · omega
        · exact old (j + 1) g' c f (by rw [eg]; exact a1 _ _) (by rw [ec]; exact a2 _ _) (by rw [ef]; exact a3 _ _) (by omega)
  · simp only [List.flatten_append, List.flatten_cons]
    rw [List.nodup_cons, List.nodup_append, List.nodup_append]
    refine ⟨fun hm => ?_, nA, ⟨hMn, nD, fun x hx y hy => ?_⟩, fun x hx y hy => ?_⟩
    · rw [ef] at hgF
      simp only [List.flatten_append, List.flatten_cons, List.mem_append, not_or] at hgF hm
      rcases hm with hm | hm | hm
      · exact hgF.1 hm
      · rcases hMs g hm with h | h
        · exact hgF.2.1 h
        · exact hgF.2.2.1 h
      · exact hgF.2.2.2 hm
    · rcases hMs x hx with h | h
      · exact dl x h y (by simp [hy])
      · exact dr x h y hy
    · rcases List.mem_append.1 hy with hy | hy
      · rcases hMs y hy with h | h
        · exact dA x hx y (by simp [h])
        · exact dA x hx y (by simp [h])
      · exact dA x hx y (by simp [hy])
  · left
    rcases List.mem_cons.1 hb with rfl | hb
    · simp
    · refine List.mem_cons_of_mem _ ?_
      simp only [List.flatten_append, List.flatten_cons, List.mem_append] at hb
      rcases hb with hb | hb | hb
      · rw [ef]; simp [List.flatten_append, hb]
      · rcases hMs b hb with h | h
        · exact hflt b h
        · exact hfrt b h
      · rw [ef]; simp [List.flatten_append, hb]
  · rintro x (rfl | rfl) _
    · simp
    · exact List.mem_cons_of_mem _ (hflt _ hgl)
end Go.Proofs.Ythjjhldmfmnflaa
/- A pair taken out of a tree: the walks of refill and delete. Conditions: a tree that may be, read in memory. -/
namespace Go.Proofs.Ythjjhldmfmnflaa
open Go.RowKit
set_option linter.unusedSimpArgs false
set_option linter.unusedVariables false

theorem Shape.small {n : Nat} {t : Tr} (h : Shape n t) {w : World} {g : Nat} {F : List Nat} (hr : RdN n w g t F) (hk : t.ks.length ≤ 100) : t.vs.length ≤ 1000 ∧ t.cs.length ≤ 1000 := by
  cases n with
  | zero =>
    have hv : t.vs.length = t.ks.length := h
    have hc : t.cs = [] := hr.2.1
    rw [hc]
    exact ⟨by omega, by simp⟩
  | succ n =>
    obtain ⟨hv, hc⟩ := h
    rw [hv]
    exact ⟨by simp, by omega⟩
theorem merge_shape {n : Nat} {l r : Tr} {k : Key} {w : World} {g : Nat} {F : List Nat} (hr : RdN n w g l F) (hl : Shape n l) (hs : Shape n r) : Shape n (mergeT l k r) := by
  cases n with
  | zero =>
    have hv : l.vs.length = l.ks.length := hl
    have hv2 : r.vs.length = r.ks.length := hs
    have hc : l.cs = [] := hr.2.1
    show (l.vs ++ r.vs).length = (l.ks ++ ((if l.cs.isEmpty = true then [] else [k]) ++ r.ks)).length
    rw [hc]
    simp; omega
  | succ n =>
    obtain ⟨hv, hc⟩ := hl
    obtain ⟨hv2, hc2⟩ := hs
    have hce : l.cs.isEmpty = false := by
      cases hx : l.cs with
      | nil => rw [hx] at hc; simp at hc
      | cons _ _ => rfl
    refine ⟨by show l.vs ++ r.vs = []; rw [hv, hv2]; rfl, ?_⟩
    show (l.cs ++ r.cs).length = (l.ks ++ ((if l.cs.isEmpty = true then [] else [k]) ++ r.ks)).length + 1
    rw [hce]
    simp; omega
theorem merge_len {l r : Tr} {k : Key} : l.ks.length ≤ (mergeT l k r).ks.length ∧ (mergeT l k r).ks.length ≤ l.ks.length + 1 + r.ks.length := by
  show l.ks.length ≤ (l.ks ++ ((if l.cs.isEmpty = true then [] else [k]) ++ r.ks)).length ∧ _
  constructor
  · simp
  · show (l.ks ++ ((if l.cs.isEmpty = true then [] else [k]) ++ r.ks)).length ≤ _
    simp only [List.length_append]
    split <;> simp <;> omega
theorem refill_any {n g i0 i : Nat} {p l r : Tr} {w : World} {F : List Nat} (hr : RdN (n + 1) w g p F) (hn : F.Nodup) (hii : i = min i0 (p.cs.length - 2)) (hi : p.cs[i]? = some l) (hi1 : p.cs[i + 1]? = some r) (hik : i < p.ks.length) (hpk : p.ks.length ≤ 1000) (hpc : p.cs.length ≤ 1000) (hi0 : i0 ≤ 1000)
    (hsl : Shape n l) (hsr : Shape n r) (hl4 : l.ks.length ≤ 100) (hr4 : r.ks.length ≤ 100) (h1 : 1 ≤ l.ks.length) :
    Calls Try.prog 55 #[ptr g, .int .i64 i0] w fun e w' => e = .returned (.tuple #[]) ∧ Upd (n + 1) w w' g (refillT p i0) F := by
  obtain ⟨gs, Fs, h, rfl, hc, hb, hl, hk⟩ := hr.inner
  have hic : i + 1 < p.cs.length := (List.getElem?_eq_some_iff.1 hi1).1
  obtain ⟨gl, hg⟩ : ∃ gl, gs[i]? = some gl := ⟨_, List.getElem?_eq_getElem (by rw [hb.n]; omega)⟩
  obtain ⟨gr, hg1⟩ : ∃ gr, gs[i + 1]? = some gr := ⟨_, List.getElem?_eq_getElem (by rw [hb.n]; omega)⟩
  obtain ⟨fl, hf1⟩ : ∃ f, Fs[i]? = some f := ⟨_, List.getElem?_eq_getElem (by rw [hl]; omega)⟩
  obtain ⟨fr, hf2⟩ : ∃ f, Fs[i + 1]? = some f := ⟨_, List.getElem?_eq_getElem (by rw [hl]; omega)⟩
  have hkl := hk _ _ _ _ hg hi hf1
  have hkr := hk _ _ _ _ hg1 hi1 hf2
  obtain ⟨hgF, hnF⟩ := List.nodup_cons.1 hn
  have hn1 := (nodup_flat hnF).1 fl (List.mem_of_getElem? hf1)
  have hn2 := (nodup_flat hnF).1 fr (List.mem_of_getElem? hf2)
  have hg1F : g ∉ fl := fun h => hgF (List.mem_flatten.2 ⟨fl, List.mem_of_getElem? hf1, h⟩)
  have hg2F : g ∉ fr := fun h => hgF (List.mem_flatten.2 ⟨fr, List.mem_of_getElem? hf2, h⟩)
  have hd : ∀ b ∈ fl, b ∉ fr := fun b h1 h2 => (kids_apart hn hf1 hf2 (by omega) b h2).2 h1
  obtain ⟨gsl, hl', gsr, hr', hbl, hbr, hmt⟩ := merge_tree (g := g) hkl hkr hg1F hg2F hn1 hn2 hd
  obtain ⟨s1, s2⟩ := hsl.small hkl hl4
  obtain ⟨s3, s4⟩ := hsr.small hkr hr4
  have m1 : g ≠ gl := fun e => hg1F (e ▸ hkl.head)
  have m2 : g ≠ gr := fun e => hg2F (e ▸ hkr.head)
  have m3 : gl ≠ gr := fun e => hd gl hkl.head (e ▸ hkr.head)
  have htree : ∀ (W : World) X Y, RdB W g (.mk (rem1 p.ks i) p.vs (rem1 (p.cs.set i (mergeT l (p.ks.getD i noKey) r)) (i + 1))) (rem1 gs (i + 1)) X → RdB W gl (mergeT l (p.ks.getD i noKey) r) (gsl ++ gsr) Y → Fr (fun b => b = g ∨ b = gl) w W →
      Upd (n + 1) w W g (.mk (rem1 p.ks i) p.vs (rem1 (p.cs.set i (mergeT l (p.ks.getD i noKey) r)) (i + 1))) (g :: Fs.flatten) := fun W X Y hX hY hf => by
    obtain ⟨fM, k1, k2, k3⟩ := hmt W _ Y hY hf
    exact two_one hn hb hl hk hi hi1 hg hg1 hf1 hf2 hX k1 k2 k3 hf hkl.head
  have hdef : refillT p i0 = if 4 < (mergeT l (p.ks.getD i noKey) r).ks.length then splitT (.mk (rem1 p.ks i) p.vs (rem1 (p.cs.set i (mergeT l (p.ks.getD i noKey) r)) (i + 1))) i else .mk (rem1 p.ks i) p.vs (rem1 (p.cs.set i (mergeT l (p.ks.getD i noKey) r)) (i + 1)) := by
    unfold refillT
    rw [← hii, hi, hi1]
  have hml := merge_len (l := l) (r := r) (k := p.ks.getD i noKey)
  have hrl : (rem1 p.ks i).length = p.ks.length - 1 := rem1_len _ _ hik
  have hcl : (rem1 (p.cs.set i (mergeT l (p.ks.getD i noKey) r)) (i + 1)).length = p.cs.length - 1 := by rw [rem1_len _ _ (by rw [List.length_set]; exact hic), List.length_set]
  have hat : (rem1 (p.cs.set i (mergeT l (p.ks.getD i noKey) r)) (i + 1))[i]? = some (mergeT l (p.ks.getD i noKey) r) := by
    unfold rem1
    rw [List.getElem?_append_left (by simp; omega), List.getElem?_take, if_pos (by omega), List.getElem?_set_self (by omega)]
  rw [hdef]
  refine refill_nodes (fun w' => Upd (n + 1) w w' g _ (g :: Fs.flatten)) g gl gr i0 i p l r gs gsl gsr h hl' hr' w hb hbl hbr m1 m2 m3 hii hi hi1 hg hg1 hik hpk hpc hi0 (by omega) (by omega) s1 s3 s2 s4 (fun hno W X Y hX hY hf => ?_) (fun hyes W X Y hX hY hf => ?_)
  · rw [if_neg hno]
    exact htree W X Y hX hY hf
  · rw [if_pos hyes]
    have hu := htree W X Y hX hY hf
    obtain ⟨F', r', n', s', f'⟩ := hu
    refine (split_any r' n' hat (by simp only [Tr.ks_mk]; omega) (by simp only [Tr.ks_mk]; omega) (by simp only [Tr.cs_mk]; omega) (by omega) (by omega) (merge_shape hkl hsl hsr)).mono ?_
    rintro e w' ⟨rfl, hu2⟩
    exact ⟨rfl, Upd.trans s' f' hu2⟩
end Go.Proofs.Ythjjhldmfmnflaa
/- A pair taken out of a tree: the walk of delete. Conditions: a tree that may be, read in memory. -/
namespace Go.Proofs.Ythjjhldmfmnflaa
open Go.RowKit
set_option linter.unusedSimpArgs false
set_option linter.unusedVariables false

set_option maxRecDepth 100000 in
set_option maxHeartbeats 1000000 in
theorem delete_any : ∀ (n : Nat) (a : Nat) (lo hi : Bd) (t : Tr) (g : Nat) (F : List Nat) (k : Key) (w : World), Ok n a 4 lo hi t → (n = 0 ∨ 1 ≤ a) → RdN n w g t F → F.Nodup →
    Calls Try.prog 39 #[ptr g, .string k.s] w fun e w' => e = .returned (.bool (wasT n t k)) ∧ Upd n w w' g (delT n t k) F
  | 0, a, lo, hi, t, g, F, k, w, ho, h0, hr, hn => by
    obtain ⟨rfl, hc, h, hb⟩ := hr
    have HI := Lib.hid (isLeaf_any g t [] h w hb)
    rw [hc] at HI
    have HP := Lib.hid (deleteHere_any g t [] h k w hb ho.asc (by have := ho.len; omega) ho.shape)
    show Calls _ _ _ _ fun e w' => e = .returned (.bool (decide (k ∈ t.ks))) ∧ _
    clear hb ho h0
    generalize decide (k ∈ t.ks) = B at *
    go_enter Try.func39, Try.ntmps39
    go_wp2_with (first | (go_at_call 47; (with_reducible refine HI.out.mono ?_); rintro e w1 ⟨rfl, rfl⟩) | (go_at_call 54; (with_reducible refine HP.out.mono ?_); rintro e w1 ⟨rfl, h', hb', hf⟩; have HB' := Lib.hid hb'; have HF := Lib.hid hf; clear hb' hf))
    exact bodyPost_ret (v := .bool B) (by simp [results, Try.results39, go_sem]) rfl ⟨rfl, [g], ⟨rfl, hc, h', HB'.out⟩, hn, fun b hb => .inl hb, HF.out.mono fun x hx _ => by rw [hx]; simp⟩
  | n + 1, a, lo, hi, t, g, F, k, w, ho, h0, hr, hn => by
    obtain ⟨c, e, hab, hco⟩ := ho.about (tow_le t.ks k)
    have hil := tow_le t.ks k
    obtain ⟨pc, _, pl, _⟩ := del_ok n hco k k (.inr (by decide))
    obtain ⟨gs, Fs, h, rfl, hc, hb, hl, hk⟩ := hr.inner
    have hic : tow t.ks k < t.cs.length := (List.getElem?_eq_some_iff.1 e).1
    obtain ⟨gl, hgi⟩ : ∃ gl, gs[tow t.ks k]? = some gl := ⟨_, List.getElem?_eq_getElem (by rw [hb.n]; exact hic)⟩
    obtain ⟨f, hfi⟩ : ∃ f, Fs[tow t.ks k]? = some f := ⟨_, List.getElem?_eq_getElem (by rw [hl]; exact hic)⟩
    have hkt := hk _ gl c f hgi e hfi
    have hfn : f.Nodup := (nodup_flat (List.nodup_cons.1 hn).2).1 f (List.mem_of_getElem? hfi)
    have IH := delete_any n 2 _ _ c gl f k w hco (.inr (by decide)) hkt hfn
    have HI := Lib.hid (isLeaf_any g t gs h w hb)
    have hce : t.cs.isEmpty = false := by
      cases hx : t.cs with
      | nil => exact absurd hx hc
      | cons _ _ => rfl
    rw [hce] at HI
    have htl := ho.len
    have h1a : 1 ≤ t.ks.length := by omega
    have HT := Lib.hid (toward_any g t gs h k w hb ho.asc (by omega))
    have hpt : delT (n + 1) t k = if (delT n c k).ks.length < 2 then refillT (.mk t.ks t.vs (t.cs.set (tow t.ks k) (delT n c k))) (tow t.ks k) else .mk t.ks t.vs (t.cs.set (tow t.ks k) (delT n c k)) := by rw [delT, e]
    have hwas : wasT (n + 1) t k = wasT n c k := by rw [wasT, e]
    rw [hpt, hwas]
    have hcl := ho.kids
    have hpl := pc.len
    have hsh := pc.shape
    have HK := Lib.hid fun (w' : World) (u : Upd n w w' gl (delT n c k) f) => kid_upd hn hc hb hl hk hgi e hfi u
    have hset : (t.cs.set (tow t.ks k) (delT n c k))[tow t.ks k]? = some (delT n c k) := List.getElem?_set_self hic
    have hkl := hco.len
    have HKS := Lib.hid fun (j : Nat) (x : Tr) (hx : (t.cs.set (tow t.ks k) (delT n c k))[j]? = some x) => show Shape n x ∧ x.ks.length ≤ 100 ∧ 1 ≤ x.ks.length by
      by_cases hj : tow t.ks k = j
      · subst hj
        rw [hset] at hx
        injection hx with hx
        subst hx
        exact ⟨hsh, by omega, by omega⟩
      · rw [List.getElem?_set_ne hj] at hx
        obtain ⟨l, u, hq⟩ := ho.kid (List.mem_of_getElem? hx)
        have := hq.len
        exact ⟨hq.shape, by omega, by omega⟩
    clear hpt hwas hab hco pc hkt hfn hk hset
    generalize delT n c k = c' at *
    generalize wasT n c k = B at *
    generalize tow t.ks k = i at *
    obtain ⟨ad, ha, q0⟩ := hb.c.at_ (show (ptrs gs)[i]? = some (ptr gl) by simp [ptrs, hgi])
    obtain ⟨c0, c1, c2⟩ := hb.cells
    rw [ha] at c2
    have HIH := Lib.hid IH
    have HB := Lib.hid hb
    clear IH hb ho h0 hce hc hgi hfi hl e hr
    go_enter Try.func39, Try.ntmps39
    go_upto_region 5 with (first | (go_at_call 47; (with_reducible refine HI.out.mono ?_); rintro e w1 ⟨rfl, rfl⟩) | (go_at_call 48; (with_reducible refine HT.out.mono ?_); rintro e w1 ⟨rfl, rfl⟩) | (go_at_call 39; (with_reducible refine HIH.out.mono ?_); rintro e w1 ⟨rfl, hu⟩; have HU := Lib.hid hu; clear hu))
    obtain ⟨hB1, U1⟩ := HK.out w1 HU.out
    obtain ⟨f', r', _, _, fr⟩ := HU.out
    obtain ⟨gs2, h2, hb2⟩ := r'.node
    obtain ⟨d0, d1, d2⟩ := hB1.cells
    simp only [Tr.cs_mk, List.length_set] at d2
    rw [ha] at d2
    have q1 := fr.kv _ _ q0 rfl
    obtain ⟨e0, _, _⟩ := hb2.cells
    have HU1 := Lib.hid U1
    clear c0 c1 c2 q0 fr hB1 U1 d0 d1 hb2 HI HT HIH HK HU ha HB
    by_cases hw : c'.ks.length < 2
    · have hwi : (c'.ks.length : Int) < (2 : Int) := by omega
      obtain ⟨F1, r1, n1, s1, f1⟩ := HU1.out
      have hcs : (t.cs.set i c').length = t.ks.length + 1 := by rw [List.length_set]; exact hcl
      obtain ⟨l, hl'⟩ : ∃ l, (t.cs.set i c')[min i ((t.cs.set i c').length - 2)]? = some l := ⟨_, List.getElem?_eq_getElem (by omega)⟩
      obtain ⟨r, hr'⟩ : ∃ r, (t.cs.set i c')[min i ((t.cs.set i c').length - 2) + 1]? = some r := ⟨_, List.getElem?_eq_getElem (by omega)⟩
      obtain ⟨a1, a2, a3⟩ := HKS.out _ _ hl'
      obtain ⟨b1, b2, b3⟩ := HKS.out _ _ hr'
      have HS := Lib.hid (refill_any (i0 := i) r1 n1 rfl hl' hr' (by simp only [Tr.ks_mk]; rw [Tr.cs_mk]; omega) (by simp only [Tr.ks_mk]; omega) (by simp only [Tr.cs_mk]; omega) (by omega) a1 b1 a2 b2 a3)
      clear hl' hr' a1 a2 a3 b1 b2 b3 r1 hcs
      go_wp2_with (first | (go_at_call 55; (with_reducible refine HS.out.mono ?_); rintro e w2 ⟨rfl, hu⟩; have HU2 := Lib.hid hu; clear hu))
      exact bodyPost_ret (v := .bool B) (by simp [results, Try.results39, go_sem]) rfl ⟨rfl, Upd.trans s1 f1 HU2.out⟩
    · have hwi : ¬ (c'.ks.length : Int) < (2 : Int) := by omega
      go_wp2
      exact bodyPost_ret (v := .bool B) (by simp [results, Try.results39, go_sem]) rfl ⟨rfl, HU1.out⟩
end Go.Proofs.Ythjjhldmfmnflaa
/- Lists of numbers copied: the walk of slices.Clone. Conditions: a list that is read in memory. -/
namespace Go.Proofs.Ythjjhldmfmnflaa
open Go.RowKit
set_option linter.unusedSimpArgs false
set_option linter.unusedVariables false

theorem cloneI_any (A : Option Addr) (n c : Nat) (l : List Int) (w : World) (hr : Rd w A n c (ints l)) (hn : n ≤ 1000000) :
    Calls Try.prog 56 #[.slice A n c] w fun e w' => ∃ v, e = .returned v ∧ w'.ownsRow w.heap.size 3 1 v n (ints l) ∧ Below w.heap.size w w' := by
  have q22 : ∀ (w : World) (a : Option Addr) (n c n' c' : Nat), (binOp .eql 63 (.slice a n c) (.slice none n' c')).run Try.prog w = .ok (.bool a.isNone) w := fun w a n c n' c' => Lib.run_eql_slice_nil w _ _ a n c n' c' Try.underlying63
  cases A with
  | none =>
    obtain ⟨rfl, rfl⟩ := hr.nil rfl
    have h0 : ints l = [] := List.eq_nil_of_length_eq_zero hr.len
    rw [h0]
    clear h0 hr hn
    go_enter Try.func56, Try.ntmps56
    go_wp2
    go_ret
    exact ⟨_, rfl, World.ownsRow_nil _ _ _ _, Below.refl _ _⟩
  | some ad =>
    obtain ⟨i0, hi, hz0, hz1, hz2⟩ := info_parts Try.infoI
    have HR := Lib.hid hr
    clear hr
    go_enter Try.func56, Try.ntmps56
    go_wp2_with (at_builtin; refine wpList_appendR rfl _ _ 63 rfl w.heap.size 3 i0 (.int .i64 0) 8 Try.underlying63 hi hz0 hz1 hz2 rfl _ _ _ rfl (World.ownsRow_made w #[] 0 (Nat.le_refl _) (Nat.zero_le _) (by simp)) (some ad) n c (ints l) rfl (HR.out.below (below1 _ _)) (ints_one l) (by unfold maxLen; omega) (by omega) (by simp) ?_; intro v3 w3 hown3 hg3 hat3; have HO3 := Lib.hid hown3; have HG3 := Lib.hid hg3; clear hown3 hg3 hat3)
    go_ret
    refine ⟨_, rfl, by simpa using HO3.out, (below1 _ _).grown HG3.out (by simp) (fun k hk => ((World.ownsRow_made (base := w.heap.size) (e := 3) (size := 1) w #[] 0 (Nat.le_refl _) (Nat.zero_le _) (by simp)).lt k hk).1)⟩
end Go.Proofs.Ythjjhldmfmnflaa
namespace Go.Proofs.Ythjjhldmfmnflaa
open Go.RowKit
set_option linter.unusedSimpArgs false
set_option linter.unusedVariables false

/-- Nodes of few keys. -/
def Few (nodes : List Nd) : Prop := ∀ x ∈ nodes, x.ks.length ≤ 1000000 ∧ x.vs.length ≤ 1000000 ∧ x.kids.length ≤ 1000000
theorem lay_fewx : ∀ (n : Nat) {a b : Nat} {lo hi : Bd} {t : Tr} (acc : List Nd), Ok n a b lo hi t → b ≤ 100 → Few acc → Few (lay n t acc)
  | 0, a, b, lo, hi, t, acc, h, hb, hf => fun x hx => by
    have h1 := h.len
    have h2 : t.vs.length = t.ks.length := h.shape
    rcases List.mem_append.1 hx with hx | hx
    · exact hf x hx
    · obtain rfl := List.mem_singleton.1 hx
      exact ⟨by dsimp only; omega, by dsimp only; omega, by simp⟩
  | n + 1, a, b, lo, hi, t, acc, h, hb, hf => by
    have go : ∀ (cs : List Tr) (acc : List Nd), (∀ c ∈ cs, ∃ l u, Ok n 2 4 l u c) → Few acc → Few (layK (lay n) cs acc).1 := by
      intro cs
      induction cs with
      | nil => exact fun acc _ h => h
      | cons c cs ih =>
        intro acc hc hf
        obtain ⟨l, u, ho⟩ := hc c (by simp)
        exact ih _ (fun c' hc' => hc c' (by simp [hc'])) (lay_fewx n acc ho (by omega) hf)
    have h1 := h.len
    have h2 : t.vs = [] := h.2.2.2.1
    have h3 := h.kids
    intro x hx
    rcases List.mem_append.1 hx with hx | hx
    · exact go t.cs acc (fun c hc => h.kid hc) hf x hx
    · obtain rfl := List.mem_singleton.1 hx
      have h4 := layK_kids (lay n) t.cs acc
      exact ⟨by dsimp only; omega, by dsimp only; rw [h2]; simp, by dsimp only; omega⟩
theorem layS_few {n : Nat} {t : Tr} (h : Good n t) : Few (layS n t).1 := by
  unfold layS
  split
  · exact fun x hx => nomatch hx
  · exact lay_fewx n [] h (by omega) fun x hx => nomatch hx
/-- Types that stand apart. -/
def Kinds2 (TP TN TS : TypeId) : Prop := TP ≠ TN ∧ TN ≠ TS ∧ 9 ≠ TN ∧ 9 ≠ TS ∧ 3 ≠ TN ∧ 3 ≠ TS
theorem Bld.next2 {TP TN TS : TypeId} {nodes : List Nd} {root : Int} {w : World} {b1 b2 b3 : Nat} {A : Option Addr} {n c j : Nat} {W : World} {v : Value} {hs : List Hd} (s : Bld TP TN TS nodes root w b1 b2 b3 A n c j W v hs) (hk : Kinds2 TP TN TS) (hne : b1 ≠ b3)
    {x : Nd} (hx : nodes[j]? = some x) {h : Hd} {W3 W4 : World} {tmp : Obj} {v' : Value} (hb : Below W.heap.size W W3) (hn : NdAt W3 w.heap.size h x)
    (ho : W4.ownsRow w.heap.size TN 3 v' (j + 1) (hcells hs (nodes.take j) ++ hcell h x)) (hg : (W3.alloc tmp).grownBy W4 v.ownBlock) :
    Bld TP TN TS nodes root w b1 b2 b3 A n c (j + 1) (W4.setCell ⟨b3, 0, none⟩ v') v' (hs ++ [h]) := by
  obtain ⟨k1, k3, k4, k5, k6, k7⟩ := hk
  have hb4 : Below W.heap.size W (W3.alloc tmp) := thn hb (below1 W3 tmp)
  have s4 := (hb4.block b3 (heap_lt s.s)).trans s.s
  have r4 := (hb4.block b2 (heap_lt s.r)).trans s.r
  have p4 := (hb4.block b1 (heap_lt s.p)).trans s.p
  have o4 := own_below s.o hb4
  have s5 := (hg.block b3 (heap_lt s4) (fun e => own_ne o4 s4 k3 e.symm)).trans s4
  have p5 := (hg.block b1 (heap_lt p4) (fun e => own_ne o4 p4 (Ne.symm k1) e.symm)).trans p4
  have r5 := (hg.block b2 (heap_lt r4) (fun e => own_ne o4 r4 k3 e.symm)).trans r4
  have oth : ∀ b, b < (W3.alloc tmp).heap.size → v.ownBlock ≠ some b → b ≠ b3 → (W4.setCell ⟨b3, 0, none⟩ v').heap[b]? = (W3.alloc tmp).heap[b]? := fun b h1 h2 h3 =>
    (heap_setCell_other W4 ⟨b3, 0, none⟩ b v' h3).trans (hg.block b h1 fun e => h2 e.symm)
  have key : ∀ {e : TypeId} {u : Value} {m : Nat} {xs : List Value}, (W3.alloc tmp).ownsRow w.heap.size e 1 u m xs → e ≠ TN → e ≠ TS → (W4.setCell ⟨b3, 0, none⟩ v').ownsRow w.heap.size e 1 u m xs := fun ho' h1 h2 => by
    refine own_keep ho' fun b hb' => oth b (own_in ho' hb').2.1 (own_two ho' o4 h1 b hb') (fun e => ?_)
    subst e
    exact own_ne ho' s4 h2 hb'
  have keyN : ∀ {h : Hd} {x : Nd}, NdAt (W3.alloc tmp) w.heap.size h x → NdAt (W4.setCell ⟨b3, 0, none⟩ v') w.heap.size h x := fun q => ⟨key q.k k4 k5, key q.v k4 k5, key q.c k6 k7⟩
  have hjl : j < nodes.length := (List.getElem?_eq_some_iff.1 hx).1
  have htl : (nodes.take j).length = j := by rw [List.length_take]; omega
  refine ⟨s.le1, s.le, (heap_setCell_other W4 ⟨b3, 0, none⟩ b1 v' hne).trans p5, by rw [heap_setCell_same W4 b3 0 _ _ _ s5]; simp, ?_, by rw [List.length_append, s.len]; rfl, fun i h' x' h1 h2 => ?_, ?_, (heap_setCell_other W4 ⟨b3, 0, none⟩ b2 v' s.ne2).trans r5, s.ne2, s.le2⟩
  · rw [show nodes.take (j + 1) = nodes.take j ++ [x] by rw [List.take_add_one, hx]; rfl, hcells_app _ _ _ _ (by rw [s.len, htl])]
    refine own_keep ho fun b hb' => heap_setCell_other W4 ⟨b3, 0, none⟩ b v' fun e => ?_
    have e' : b = b3 := e
    subst e'
    exact own_ne ho s5 k3 hb'
  · rcases get_snoc h1 with ⟨h3, h4⟩ | ⟨h3, rfl⟩
    · exact keyN (((s.at_ i h' x' h4 h2).below hb4))
    · rw [h3, s.len, hx] at h2
      cases h2
      exact keyN (hn.below (below1 W3 tmp))
  · have h1 : Below w.heap.size w (W3.alloc tmp) := s.bel.trans (hb4.mono s.bel.size)
    exact (h1.grown hg h1.size (fun k e => (own_in o4 e).1)).setCell (p := ⟨b3, 0, none⟩) s.le v'
theorem Bld.end2 {TP TN TS : TypeId} {nodes : List Nd} {root : Int} {w : World} {b1 b2 b3 : Nat} {A : Option Addr} {n c : Nat} {W : World} {v : Value} {hs : List Hd} (s : Bld TP TN TS nodes root w b1 b2 b3 A n c nodes.length W v hs) (hk : Kinds2 TP TN TS) (hT : TN = 66) :
    StateB ((W.setCell ⟨b2, 0, none⟩ v).setCell ⟨b2, 1, none⟩ (.int .i64 root)) w.heap.size (.agg #[v, .int .i64 root]) (nodes, root) ∧ Below w.heap.size w ((W.setCell ⟨b2, 0, none⟩ v).setCell ⟨b2, 1, none⟩ (.int .i64 root)) ∧ ((W.setCell ⟨b2, 0, none⟩ v).setCell ⟨b2, 1, none⟩ (.int .i64 root)).cell? ⟨b2, 0, none⟩ = some v ∧ ((W.setCell ⟨b2, 0, none⟩ v).setCell ⟨b2, 1, none⟩ (.int .i64 root)).cell? ⟨b2, 1, none⟩ = some (.int .i64 root) := by
  subst hT
  obtain ⟨k1, k3, k4, k5, k6, k7⟩ := hk
  have r := heap_setCell_same _ b2 1 _ _ (.int .i64 root) (heap_setCell_same W b2 0 _ _ v s.r)
  have oth : ∀ b, b ≠ b2 → ((W.setCell ⟨b2, 0, none⟩ v).setCell ⟨b2, 1, none⟩ (.int .i64 root)).heap[b]? = W.heap[b]? := fun b hb =>
    (heap_setCell_other _ ⟨b2, 1, none⟩ b _ hb).trans (heap_setCell_other W ⟨b2, 0, none⟩ b _ hb)
  have hB : Below w.heap.size w ((W.setCell ⟨b2, 0, none⟩ v).setCell ⟨b2, 1, none⟩ (.int .i64 root)) := (s.bel.setCell (p := ⟨b2, 0, none⟩) s.le2 v).setCell (p := ⟨b2, 1, none⟩) s.le2 _
  generalize (W.setCell ⟨b2, 0, none⟩ v).setCell ⟨b2, 1, none⟩ (.int .i64 root) = W' at *
  have key : ∀ {e : TypeId} {k : Nat} {u : Value} {m : Nat} {xs : List Value}, W.ownsRow w.heap.size e k u m xs → e ≠ TS → W'.ownsRow w.heap.size e k u m xs := fun ho h1 =>
    own_keep ho fun x hx => oth x fun e => by subst e; exact own_ne ho s.r h1 hx
  have ho := s.o
  rw [List.take_length] at ho
  obtain ⟨A', c', rfl⟩ := own_form ho
  exact ⟨⟨A', c', hs, rfl, key ho k3, s.len, fun i h x h1 h2 => by
    have q := s.at_ i h x h1 h2
    exact ⟨key q.k k5, key q.v k5, key q.c k7⟩⟩, hB, by simp [World.cell?, r], by simp [World.cell?, r]⟩

set_option maxRecDepth 100000 in
set_option maxHeartbeats 4000000 in
theorem copied_any (nodes : List Nd) (n c : Nat) (A : Option Addr) (root : Int) (w : World) (hS : RdS w A n nodes) (hF : Few nodes) (hN : nodes.length ≤ 1000000) :
    Calls Try.prog 40 #[.agg #[.slice A n c, .int .i64 root]] w fun e w' => ∃ v, e = .returned v ∧ StateB w' w.heap.size v (nodes, root) ∧ Below w.heap.size w w' := by
  obtain ⟨iN, hiN, hiNz, hiN1, hiN2⟩ := info_parts3 Try.infoN
  have hkn : Kinds2 27 66 27 := by unfold Kinds2; decide
  have HS := Lib.hid hS
  have HFW := Lib.hid hF
  have hn := hS.len
  have hmax := hS.max
  clear hS hF
  subst hn
  go_enter Try.func40, Try.ntmps40
  go_upto_region 2 with fail
  have hw0 := below1 w (.cells #[.slice A nodes.length c, .int .i64 root] 27)
  have hs0 : ∃ W0, W0 = ((w.alloc (.cells #[.slice A nodes.length c, .int .i64 root] 27)).alloc (.cells #[.slice none 0 0, .int .i64 0] 27)).alloc (.cells #[.slice none 0 0, .int .i64 root] 27) := ⟨_, rfl⟩
  obtain ⟨W0, hW0⟩ := hs0
  rw [← hW0]
  have hr0 : W0.heap[w.heap.size + 1]? = some (.cells #[.slice none 0 0, .int .i64 0] 27 (0, 0)) := by
    rw [hW0]
    have := heap_alloc_new (w.alloc (.cells #[.slice A nodes.length c, .int .i64 root] 27)) (.cells #[.slice none 0 0, .int .i64 0] 27)
    rw [World.size_alloc] at this
    exact (Below.heap_alloc _ _ _ (by simp)).trans this
  have st : Bld 27 66 27 nodes root w w.heap.size (w.heap.size + 1) (w.heap.size + 1 + 1) A nodes.length c 0 W0 (.slice none 0 0) [] := by
    rw [hW0]
    refine ⟨Nat.le_refl _, by omega, ?_, ?_, World.ownsRow_nil _ _ _ _, rfl, fun i h x h1 => by simp at h1, (below2 w _ _).alloc (by simp; omega) _, by rw [← hW0]; exact hr0, by omega, by omega⟩
    · exact (Below.heap_alloc _ _ _ (by simp; omega)).trans ((Below.heap_alloc _ _ _ (by simp)).trans (heap_alloc_new w _))
    · have := heap_alloc_new ((w.alloc (.cells #[.slice A nodes.length c, .int .i64 root] 27)).alloc (.cells #[.slice none 0 0, .int .i64 0] 27)) (.cells #[.slice none 0 0, .int .i64 root] 27)
      rw [World.size_alloc, World.size_alloc] at this
      exact this
  have HST := Lib.hid st
  have hpp := st.p
  have y0 : W0.cell? ⟨w.heap.size, 0, none⟩ = some (.slice A nodes.length c) := by simp [World.cell?, hpp]
  have HNE := Lib.hid (show w.heap.size ≠ w.heap.size + 1 + 1 by omega)
  clear st hr0 hW0 hw0 hpp
  generalize w.heap.size + 1 + 1 = b3 at *
  generalize w.heap.size + 1 = b2 at *
  go_wp2
  clear y0
  go_loopw [5, 12] (fun _ i wr => ∃ (j : Nat) (v : Value) (hs : List Hd), i = .int .i64 j ∧ j ≤ nodes.length ∧ Bld 27 66 27 nodes root w w.heap.size b2 b3 A nodes.length c j wr v hs) (fun _ i _ => nodes.length - (intOf i).toNat)
  case atStart => exact ⟨0, _, _, rfl, by omega, HST.out⟩
  case round =>
    obtain ⟨j, v, hs, rfl, hj, s⟩ := hrel
    clear HST
    obtain ⟨vA, vc, rfl⟩ := own_form s.o
    have hps := s.s
    have z0 : wr.cell? ⟨b3, 0, none⟩ = some (.slice vA j vc) := by simp [World.cell?, hps]
    clear hps
    by_cases hlt : j < nodes.length
    · obtain ⟨ad, hh, rfl, hX⟩ := (HS.out.below s.bel).at_ j nodes[j] (List.getElem?_eq_getElem hlt)
      have hx : nodes[j]? = some nodes[j] := List.getElem?_eq_getElem hlt
      obtain ⟨l1, l2, l3⟩ := HFW.out nodes[j] (List.getElem_mem hlt)
      generalize nodes[j] = x at *
      have n0 := hX.c0
      have n1 := hX.c1
      have n2 := hX.c2
      have hlt' : (j : Int) < (nodes.length : Int) := by omega
      go_upto_region 5 with fail
      have hbx := below1 wr (.cells #[.slice hh.kA x.ks.length hh.kc, .slice hh.vA x.vs.length hh.vc, .slice hh.cA x.kids.length hh.cc] 66)
      have z0 := cell_keep z0 hbx
      clear n0 n1 n2
      obtain ⟨n0, n1, n2, _, _, _⟩ := three_of (heap_alloc_new wr (.cells #[.slice hh.kA x.ks.length hh.kc, .slice hh.vA x.vs.length hh.vc, .slice hh.cA x.kids.length hh.cc] 66))
      generalize wr.alloc (.cells #[.slice hh.kA x.ks.length hh.kc, .slice hh.vA x.vs.length hh.vc, .slice hh.cA x.kids.length hh.cc] 66) = W at *
      have hb0 : Below W.heap.size W W.drew := (Below.refl _ _).drew
      have HF1 := Lib.hid fun (W' : World) (hb : Below W.heap.size W W') => fresh_any hh.kA x.ks.length hh.kc x.ks W' ((hX.k.below hbx).below hb) l1
      have HF2 := Lib.hid fun (W' : World) (hb : Below W.heap.size W W') => fresh_any hh.vA x.vs.length hh.vc x.vs W' ((hX.v.below hbx).below hb) l2
      have HF3 := Lib.hid fun (W' : World) (hb : Below W.heap.size W W') => cloneI_any hh.cA x.kids.length hh.cc x.kids W' ((hX.c.below hbx).below hb) l3
      generalize hb5 : wr.heap.size = b5 at *
      subst hb5
      refine region_anyT (fun W' => W'.cell? ⟨b3, 0, none⟩ = some (.slice vA j vc) ∧ W'.cell? ⟨wr.heap.size, 0, none⟩ = some (.slice hh.kA x.ks.length hh.kc) ∧ W'.cell? ⟨wr.heap.size, 1, none⟩ = some (.slice hh.vA x.vs.length hh.vc) ∧ W'.cell? ⟨wr.heap.size, 2, none⟩ = some (.slice hh.cA x.kids.length hh.cc)) [0, 1, 2, 3, 4, 5, 6, 7, 8, 9, 10, 11, 12] (by kernel_rfl) ⟨z0, n0, n1, n2⟩ ?_
      intro hcl hS
      refine anyT_take (i := 0) (oi := ?o0) (v := ?v0) ?hi0 ?ha0 ?hb0 ?hc0 ?hd0 ?hq0 (Or.inl ⟨?hw0, ?hy0⟩) hS hcl ?rest0
      case hi0 => simp only [List.getElem?_toArray, List.getElem?_cons_succ, List.getElem?_cons_zero]; rfl
      case hq0 => exact fun _ _ _ h => h
      case ha0 => kernel_rfl
      case hb0 => kernel_rfl
      case hc0 => kernel_rfl
      case hd0 => kernel_rfl
      case hw0 => rfl
      case hy0 => intro w' hSw; obtain ⟨s0, s1, s2, s3⟩ := hSw; go_simp; try with_reducible rfl
      clear hcl
      intro hcl
      try simp only [Act.put, List.setIfInBounds_toArray, List.set_cons_zero, List.set_cons_succ]
      refine anyT_take (i := 1) (oi := ?o1) (v := ?v1) ?hi1 ?ha1 ?hb1 ?hc1 ?hd1 ?hq1 (Or.inl ⟨?hw1, ?hy1⟩) hS hcl ?rest1
      case hi1 => simp only [List.getElem?_toArray, List.getElem?_cons_succ, List.getElem?_cons_zero]; rfl
      case hq1 => exact fun _ _ _ h => h
      case ha1 => kernel_rfl
      case hb1 => kernel_rfl
      case hc1 => kernel_rfl
      case hd1 => kernel_rfl
      case hw1 => rfl
      case hy1 => intro w' hSw; obtain ⟨s0, s1, s2, s3⟩ := hSw; go_simp; try with_reducible rfl
      clear hcl
      intro hcl
      try simp only [Act.put, List.setIfInBounds_toArray, List.set_cons_zero, List.set_cons_succ]
      refine anyT_take (i := 2) (oi := ?o2) (v := ?v2) ?hi2 ?ha2 ?hb2 ?hc2 ?hd2 ?hq2 (Or.inl ⟨?hw2, ?hy2⟩) hS hcl ?rest2
      case hi2 => simp only [List.getElem?_toArray, List.getElem?_cons_succ, List.getElem?_cons_zero]; rfl
      case hq2 => exact fun _ _ _ h => h
      case ha2 => kernel_rfl
      case hb2 => kernel_rfl
      case hc2 => kernel_rfl
      case hd2 => kernel_rfl
      case hw2 => rfl
      case hy2 => intro w' hSw; obtain ⟨s0, s1, s2, s3⟩ := hSw; go_simp; try with_reducible rfl
      clear hcl
      intro hcl
      try simp only [Act.put, List.setIfInBounds_toArray, List.set_cons_zero, List.set_cons_succ]
      refine anyT_take (i := 3) (oi := ?o3) (v := ?v3) ?hi3 ?ha3 ?hb3 ?hc3 ?hd3 ?hq3 (Or.inl ⟨?hw3, ?hy3⟩) hS hcl ?rest3
      case hi3 => simp only [List.getElem?_toArray, List.getElem?_cons_succ, List.getElem?_cons_zero]; rfl
      case hq3 => exact fun _ _ _ h => h
      case ha3 => kernel_rfl
      case hb3 => kernel_rfl
      case hc3 => kernel_rfl
      case hd3 => kernel_rfl
      case hw3 => rfl
      case hy3 => intro w' hSw; obtain ⟨s0, s1, s2, s3⟩ := hSw; go_simp; try with_reducible rfl
      clear hcl
      intro hcl
      try simp only [Act.put, List.setIfInBounds_toArray, List.set_cons_zero, List.set_cons_succ]
      refine anyT_take (i := 5) (oi := ?o5) (v := ?v5) ?hi5 ?ha5 ?hb5 ?hc5 ?hd5 ?hq5 (Or.inl ⟨?hw5, ?hy5⟩) hS hcl ?rest5
      case hi5 => simp only [List.getElem?_toArray, List.getElem?_cons_succ, List.getElem?_cons_zero]; rfl
      case hq5 => exact fun _ _ _ h => h
      case ha5 => kernel_rfl
      case hb5 => kernel_rfl
      case hc5 => kernel_rfl
      case hd5 => kernel_rfl
      case hw5 => rfl
      case hy5 => intro w' hSw; obtain ⟨s0, s1, s2, s3⟩ := hSw; go_simp; try with_reducible rfl
      clear hcl
      intro hcl
      try simp only [Act.put, List.setIfInBounds_toArray, List.set_cons_zero, List.set_cons_succ]
      refine anyT_take (i := 6) (oi := ?o6) (v := ?v6) ?hi6 ?ha6 ?hb6 ?hc6 ?hd6 ?hq6 (Or.inl ⟨?hw6, ?hy6⟩) hS hcl ?rest6
      case hi6 => simp only [List.getElem?_toArray, List.getElem?_cons_succ, List.getElem?_cons_zero]; rfl
      case hq6 => exact fun _ _ _ h => h
      case ha6 => kernel_rfl
      case hb6 => kernel_rfl
      case hc6 => kernel_rfl
      case hd6 => kernel_rfl
      case hw6 => rfl
      case hy6 => intro w' hSw; obtain ⟨s0, s1, s2, s3⟩ := hSw; go_simp; try with_reducible rfl
      clear hcl
      intro hcl
      try simp only [Act.put, List.setIfInBounds_toArray, List.set_cons_zero, List.set_cons_succ]
      refine anyT_take (i := 8) (oi := ?o8) (v := ?v8) ?hi8 ?ha8 ?hb8 ?hc8 ?hd8 ?hq8 (Or.inl ⟨?hw8, ?hy8⟩) hS hcl ?rest8
      case hi8 => simp only [List.getElem?_toArray, List.getElem?_cons_succ, List.getElem?_cons_zero]; rfl
      case hq8 => exact fun _ _ _ h => h
      case ha8 => kernel_rfl
      case hb8 => kernel_rfl
      case hc8 => kernel_rfl
      case hd8 => kernel_rfl
      case hw8 => rfl
      case hy8 => intro w' hSw; obtain ⟨s0, s1, s2, s3⟩ := hSw; go_simp; try with_reducible rfl
      clear hcl
      intro hcl
      try simp only [Act.put, List.setIfInBounds_toArray, List.set_cons_zero, List.set_cons_succ]
      refine anyT_take (i := 9) (oi := ?o9) (v := ?v9) ?hi9 ?ha9 ?hb9 ?hc9 ?hd9 ?hq9 (Or.inl ⟨?hw9, ?hy9⟩) hS hcl ?rest9
      case hi9 => simp only [List.getElem?_toArray, List.getElem?_cons_succ, List.getElem?_cons_zero]; rfl
      case hq9 => exact fun _ _ _ h => h
      case ha9 => kernel_rfl
      case hb9 => kernel_rfl
      case hc9 => kernel_rfl
      case hd9 => kernel_rfl
      case hw9 => rfl
      case hy9 => intro w' hSw; obtain ⟨s0, s1, s2, s3⟩ := hSw; go_simp; try with_reducible rfl
      clear hcl
      intro hcl
      try simp only [Act.put, List.setIfInBounds_toArray, List.set_cons_zero, List.set_cons_succ]
      refine anyT_step (k := 4) (o := ?o4) ?hi4 (by kernel_rfl) hcl ?rest4
      case hi4 => simp only [List.getElem?_toArray, List.getElem?_cons_succ, List.getElem?_cons_zero]; rfl
      intro K hK
      go_simp
      go_at_call 53
      (with_reducible refine (HF1.out _ hb0).mono ?_)
      rintro e w1 ⟨vw1, rfl, how1, hbw1⟩
      obtain ⟨Aw1, cw1, rfl⟩ := own_form how1
      have hb1 : Below W.heap.size W w1 := thn hb0 hbw1
      clear hcl
      refine hK.out _ _ ⟨cell_keep z0 hb1, cell_keep n0 hb1, cell_keep n1 hb1, cell_keep n2 hb1⟩ (fun hS hcl => ?_)
      clear hK K
      try simp only [Act.put, List.setIfInBounds_toArray, List.set_cons_zero, List.set_cons_succ]
      refine anyT_step (k := 7) (o := ?o7) ?hi7 (by kernel_rfl) hcl ?rest7
      case hi7 => simp only [List.getElem?_toArray, List.getElem?_cons_succ, List.getElem?_cons_zero]; rfl
      intro K hK
      go_simp
      go_at_call 53
      (with_reducible refine (HF2.out _ hb1).mono ?_)
      rintro e w2 ⟨vw2, rfl, how2, hbw2⟩
      obtain ⟨Aw2, cw2, rfl⟩ := own_form how2
      have hb2 : Below W.heap.size W w2 := thn hb1 hbw2
      clear hcl
      refine hK.out _ _ ⟨cell_keep z0 hb2, cell_keep n0 hb2, cell_keep n1 hb2, cell_keep n2 hb2⟩ (fun hS hcl => ?_)
      clear hK K
      try simp only [Act.put, List.setIfInBounds_toArray, List.set_cons_zero, List.set_cons_succ]
      refine anyT_step (k := 10) (o := ?o10) ?hi10 (by kernel_rfl) hcl ?rest10
      case hi10 => simp only [List.getElem?_toArray, List.getElem?_cons_succ, List.getElem?_cons_zero]; rfl
      intro K hK
      go_simp
      go_at_call 56
      (with_reducible refine (HF3.out _ hb2).mono ?_)
      rintro e w3 ⟨vw3, rfl, how3, hbw3⟩
      obtain ⟨Aw3, cw3, rfl⟩ := own_form how3
      have hb3 : Below W.heap.size W w3 := thn hb2 hbw3
      clear hcl
      refine hK.out _ _ ⟨cell_keep z0 hb3, cell_keep n0 hb3, cell_keep n1 hb3, cell_keep n2 hb3⟩ (fun hS hcl => ?_)
      clear hK K
      try simp only [Act.put, List.setIfInBounds_toArray, List.set_cons_zero, List.set_cons_succ]
      refine anyT_take (i := 11) (oi := ?o11) (v := ?v11) ?hi11 ?ha11 ?hb11 ?hc11 ?hd11 ?hq11 (Or.inl ⟨?hw11, ?hy11⟩) hS hcl ?rest11
      case hi11 => simp only [List.getElem?_toArray, List.getElem?_cons_succ, List.getElem?_cons_zero]; rfl
      case hq11 => exact fun _ _ _ h => h
      case ha11 => kernel_rfl
      case hb11 => kernel_rfl
      case hc11 => kernel_rfl
      case hd11 => kernel_rfl
      case hw11 => rfl
      case hy11 => intro w' hSw; obtain ⟨s0, s1, s2, s3⟩ := hSw; go_simp; try with_reducible rfl
      clear hcl
      intro hcl
      try simp only [Act.put, List.setIfInBounds_toArray, List.set_cons_zero, List.set_cons_succ]
      have hb4 : Below W.heap.size W (w3.alloc (.cells #[.slice Aw1 x.ks.length cw1, .slice Aw2 x.vs.length cw2, .slice Aw3 x.kids.length cw3] 66)) := thn hb3 (below1 w3 _)
      refine anyT_step (k := 12) (o := ?o12) ?hi12 (by kernel_rfl) hcl ?rest12
      case hi12 => simp only [List.getElem?_toArray, List.getElem?_cons_succ, List.getElem?_cons_zero]; rfl
      intro K hK
      go_simp
      refine hK.out _ _ ⟨cell_keep z0 hb4, cell_keep n0 hb4, cell_keep n1 hb4, cell_keep n2 hb4⟩ (fun hS hcl => ?_)
      clear hK K hS
      try simp only [Act.put, List.setIfInBounds_toArray, List.set_cons_zero, List.set_cons_succ]
      have h0b : w.heap.size ≤ W.heap.size := Nat.le_trans s.bel.size hbx.size
      have h1b := hb1.size
      have h2b := hb2.size
      have hnd : NdAt w3 w.heap.size ⟨Aw1, cw1, Aw2, cw2, Aw3, cw3⟩ x := ⟨own_below (own_below (own_le how1 (by simpa using h0b)) hbw2) hbw3, own_below (own_le how2 (Nat.le_trans h0b h1b)) hbw3, own_le how3 (Nat.le_trans h0b h2b)⟩
      have hbx3 : Below wr.heap.size wr w3 := thn hbx hb3
      have hbx4 : Below wr.heap.size wr (w3.alloc (.cells #[.slice Aw1 x.ks.length cw1, .slice Aw2 x.vs.length cw2, .slice Aw3 x.kids.length cw3] 66)) := thn hbx hb4
      obtain ⟨q0, q1, q2, _, _, _⟩ := three_of (heap_alloc_new w3 (.cells #[.slice Aw1 x.ks.length cw1, .slice Aw2 x.vs.length cw2, .slice Aw3 x.kids.length cw3] 66))
      obtain ⟨v4, w4, hrun, ho4, hg4, _⟩ := run_append_own (P := Try.prog) (w3.alloc (.cells #[.slice Aw1 x.ks.length cw1, .slice Aw2 x.vs.length cw2, .slice Aw3 x.kids.length cw3] 66)) w.heap.size 25 25 66 iN (.agg #[.slice none 0 0, .slice none 0 0, .slice none 0 0]) 3 72 Try.underlying25 hiN hiNz hiN1 hiN2 rfl (by decide) (.slice vA j vc) j (hcells hs (nodes.take j)) (own_below s.o hbx4) ⟨w3.heap.size, 0, none⟩ 1 1 (hcell ⟨Aw1, cw1, Aw2, cw2, Aw3, cw3⟩ x) rfl (fun i u hu => by
        match i, hu with
        | 0, hu => simp [hcell] at hu; subst hu; exact q0
        | 1, hu => simp [hcell] at hu; subst hu; exact q1
        | 2, hu => simp [hcell] at hu; subst hu; exact q2
        | _ + 3, hu => simp [hcell] at hu) (fun u hu => by
        simp [hcell] at hu
        rcases hu with rfl | rfl | rfl <;> rfl) (by unfold maxLen; omega) (by omega) (by have := hbx4.size; have := s.bel.size; omega)
      obtain ⟨A4, c4, rfl⟩ := own_form ho4
      have HNX := Lib.hid (s.next2 hkn HNE.out hx hbx3 hnd ho4 hg4)
      have s5 := (hg4.block b3 (heap_lt ((hbx4.block b3 (heap_lt s.s)).trans s.s)) (fun e => own_ne (own_below s.o hbx4) ((hbx4.block b3 (heap_lt s.s)).trans s.s) hkn.2.1 e.symm)).trans ((hbx4.block b3 (heap_lt s.s)).trans s.s)
      have p0 : w4.cell? ⟨b3, 0, none⟩ = some (.slice vA j vc) := by simp [World.cell?, s5]
      have p1 : w4.frozen? ⟨b3, 0, none⟩ = false := by simp [World.frozen?, s5]
      refine anyT_last (k := 13) (o := ?o13) ?hi13 (by kernel_rfl) (by kernel_rfl) hcl ?rest13
      case hi13 => simp only [List.getElem?_toArray, List.getElem?_cons_succ, List.getElem?_cons_zero]; rfl
      intro K hK
      rw [if_pos (by rfl)]
      refine Lib.wp_append_run _ _ _ _ _ rfl _ _ rfl rfl _ w4 hrun ?_
      clear hrun hcl
      refine hK.out _ _ (fun hcl => ?_)
      clear hK K
      try simp only [Act.put, List.setIfInBounds_toArray, List.set_cons_zero, List.set_cons_succ]
      refine anyT_free (i := 14) (oi := ?o14) (v := ?v14) ?hi14 ?ha14 ?hb14 ?hc14 ?hd14 ?hq14 (Or.inl ⟨?hw14, ?hy14⟩) hcl ?rest14
      case hi14 => simp only [List.getElem?_toArray, List.getElem?_cons_succ, List.getElem?_cons_zero]; rfl
      case hq14 => exact fun _ _ _ h => h
      case ha14 => kernel_rfl
      case hb14 => kernel_rfl
      case hc14 => kernel_rfl
      case hd14 => kernel_rfl
      case hw14 => rfl
      case hy14 => intro w' _; go_simp; with_reducible rfl
      clear hcl
      intro hcl
      try simp only [Act.put, List.setIfInBounds_toArray, List.set_cons_zero, List.set_cons_succ]
      refine anyT_last (k := 15) (o := ?o15) ?hi15 (by kernel_rfl) (by kernel_rfl) hcl ?rest15
      case hi15 => simp only [List.getElem?_toArray, List.getElem?_cons_succ, List.getElem?_cons_zero]; rfl
      intro K hK
      go_simp
      clear hcl
      refine hK.out _ _ (fun hcl => ?_)
      clear hK K
      refine anyT_done (by kernel_rfl) ?_ _
      go_simp
      clear hcl p0 p1 s5 q0 q1 q2 z0 n0 n1 n2
      go_wp2
      go_roundw
      case rel => exact ⟨j + 1, _, _, by go_num, hlt, HNX.out⟩
      case measure => simp [intOf]; omega
    · obtain rfl : j = nodes.length := by omega
      have hpr := s.r
      have hps := s.s
      have z1 : wr.cell? ⟨b3, 1, none⟩ = some (.int .i64 root) := by simp [World.cell?, hps]
      have r0 : wr.cell? ⟨b2, 0, none⟩ = some (.slice none 0 0) := by simp [World.cell?, hpr]
      have r1 : wr.cell? ⟨b2, 1, none⟩ = some (.int .i64 0) := by simp [World.cell?, hpr]
      have g0 : wr.frozen? ⟨b2, 0, none⟩ = false := by simp [World.frozen?, hpr]
      have g1 : wr.frozen? ⟨b2, 1, none⟩ = false := by simp [World.frozen?, hpr]
      clear hpr hps
      go_wp2
      obtain ⟨hv, hbel, q0, q1⟩ := s.end2 hkn rfl
      exact bodyPost_ret (v := .agg #[.slice vA nodes.length vc, .int .i64 root]) (by simp [results, Try.results40, go_sem, q0, q1]) rfl ⟨_, rfl, hv, hbel⟩
end Go.Proofs.Ythjjhldmfmnflaa
