/- An opened catalog's slice has room for what it holds: plain mathematics. Conditions: none. -/
import Derived.Test.YtipcacplphidhaaGreatQi
import Derived.Test.YtipcacplphidhaaGreatQg
import Derived.Test.YtipcacplphidhaaGreatQc
import Derived.Test.YtipcacplphidhaaGreatQe
import Derived.Test.YtipcacplphidhaaGreatQd
/- What writing over a catalog's copy leaves of tables that lie behind it: plain mathematics. Conditions: none. -/
namespace Go.Proofs.YtipcacplphidhaaGreat
open Go.RowKit Go.Sort Go.Maps
set_option linter.unusedSimpArgs false
set_option linter.unusedVariables false

/-- Indexes, and where they lie. -/
def ShX (S : Nat → Prop) (w : World) (A : Option Addr) (k : Nat) : Prop := Sy.ShL 50 2 S w A k fun _ _ => True
theorem ShX.zst {S S' : Nat → Prop} {w w' : World} {A : Option Addr} {k : Nat} (h : ShX S w A k) (hz : Sy.Zst S' w w') : ShX S w' A k := Sy.ShL.zst h hz fun _ _ _ _ _ => trivial
theorem own_shl {T : TypeId} {sz B n c : Nat} {S : Nat → Prop} {w : World} {A : Option Addr} {xs : List Value} (h : w.ownsRow B T sz (.slice A n c) n xs) (hS : ∀ b, B ≤ b → b < w.heap.size → S b) : Sy.ShL T sz S w A n fun _ _ => True := by
  rcases h.2 with ⟨_, h0⟩ | ⟨g, cap, cur, e, hbg, hg, hc, hm, hs, ht⟩
  · exact .inl h0
  · injection e with e1 e2 e3
    exact .inr ⟨g, cur, e1, hS g hbg (Sy.heap_some hg), hg, by rw [hs]; exact Nat.mul_le_mul_right _ hc, by unfold maxLen at hm; omega, fun _ _ => trivial⟩
/-- A catalog's copy, and where its tables' slices lie. -/
def ShTb (S : Nat → Prop) (w : World) (A : Option Addr) (xs : List Tr) : Prop := ∀ j (hj : j < xs.length), ∃ g cs, A = some ⟨g, 0, none⟩ ∧ w.heap[g]? = some (.cells cs 46 (0, 0)) ∧
  cs[j * 4 + 1]? = some (.slice xs[j].A xs[j].t.cols.length xs[j].c) ∧ cs[j * 4 + 3]? = some (.slice xs[j].A' xs[j].t.idx.length xs[j].c') ∧ Sy.ShC S w xs[j].A xs[j].t.cols.length ∧ ShX S w xs[j].A' xs[j].t.idx.length
theorem ShTb.zst {S S' : Nat → Prop} {w w' : World} {A : Option Addr} {xs : List Tr} (h : ShTb S w A xs) (hz : Sy.Zst S' w w') : ShTb S w' A xs := fun j hj => by
  obtain ⟨g, cs, e, h1, h2, h3, h4, h5⟩ := h j hj
  obtain ⟨cs', h6, h7⟩ := hz.shape g cs _ h1
  have h8 := h7.2.2.2 (by decide) (by decide) (by decide) (by decide) (by decide)
  subst h8
  exact ⟨g, cs', e, h6, h2, h3, Sy.ShC.zst h4 hz, h5.zst hz⟩
theorem Tbs.shape {S : Nat → Prop} {w : World} {B n c : Nat} {A : Option Addr} {xs : List Tr} (h : Tbs w B (.slice A n c) xs) (hS : ∀ b, B ≤ b → b < w.heap.size → S b) : ShTb S w A xs := fun j hj => by
  rcases h.own.2 with ⟨_, h0⟩ | ⟨g, cap, cur, e, hbg, hg, hc, hm, hs, ht⟩
  · omega
  · injection e with e1 e2 e3
    have hx : xs[j]? = some xs[j] := List.getElem?_eq_getElem hj
    have hm := List.getElem_mem hj
    have get : ∀ i u, i < 4 → (trC xs[j])[i]? = some u → cur[j * 4 + i]? = some u := fun i u hi hu => by
      have h1 : (xs.flatMap trC)[j * 4 + i]? = some u := (flatK_get trC 4 trC_len xs j i _ hx hi).trans hu
      rw [← ht, List.getElem?_take] at h1
      split at h1
      · rw [Array.getElem?_toList] at h1; exact h1
      · cases h1
    exact ⟨g, cur, e1, hg, get 1 _ (by omega) rfl, get 3 _ (by omega) rfl, own_shl (h.tabs _ hm).c hS, own_shl (h.tabs _ hm).x hS⟩
/-- A box that is no list of such things is as it was. -/
theorem zst_box {S : Nat → Prop} {w w' : World} {b : Nat} {cs : Array Value} {T : TypeId} (hz : Sy.Zst S w w') (h : w.heap[b]? = some (.cells cs T (0, 0))) (h1 : T ≠ 62) (h2 : T ≠ 64) (h3 : T ≠ 48) (h4 : T ≠ 85) (h5 : T ≠ 50) : w'.heap[b]? = some (.cells cs T (0, 0)) := by
  obtain ⟨cs', h6, h7⟩ := hz.shape b cs T h
  have h8 := h7.2.2.2 h1 h2 h3 h4 h5
  subst h8
  exact h6
theorem own_out {B n k : Nat} {e : TypeId} {v : Value} {xs : List Value} {w w' : World} (h : w.ownsRow B e k v n xs) (ho : ∀ b, B ≤ b → b < w.heap.size → w'.heap[b]? = w.heap[b]?) : w'.ownsRow B e k v n xs := by
  refine ⟨h.1, ?_⟩
  rcases h.2 with h2 | ⟨g, cap, cur, hv, hbg, hg, rest⟩
  · exact .inl h2
  · exact .inr ⟨g, cap, cur, hv, hbg, (ho g hbg (Sy.heap_some hg)).trans hg, rest⟩
theorem Tbs.out {w w' : World} {B : Nat} {v : Value} {xs : List Tr} (h : Tbs w B v xs) (ho : ∀ b, B ≤ b → b < w.heap.size → w'.heap[b]? = w.heap[b]?) : Tbs w' B v xs :=
  ⟨own_out h.own ho, fun x hx => ⟨own_out (h.tabs x hx).c ho, own_out (h.tabs x hx).x ho⟩⟩
theorem Rf.Tbs.out {w w' : World} {B : Nat} {v : Value} {xs : List Tr} (h : Rf.Tbs w B v xs) (ho : ∀ b, B ≤ b → b < w.heap.size → w'.heap[b]? = w.heap[b]?) : Rf.Tbs w' B v xs :=
  ⟨own_out h.own ho, fun x hx => ⟨own_out (h.tabs x hx).c ho, own_out (h.tabs x hx).x ho⟩⟩
/-- What the two Creates answer. -/
theorem ChgPost.form {w w' : World} {R : Int × List Tb} {e : Ending} (h : ChgPost w R e w') (hR : R.1 ≠ 0 → R.2 = []) : ∃ (A : Option Addr) (c : Nat) (xs : List Tr), e = .returned (.tuple #[.agg #[.slice A R.2.length c], .int .i64 R.1]) ∧ Tbs w' w.heap.size (.slice A R.2.length c) xs ∧ xs.map Tr.t = R.2 ∧ Below w.heap.size w w' := by
  by_cases h0 : R.1 = 0
  · obtain ⟨v, xs, e1, ht, hx⟩ := h.2.1 h0
    rcases ht.own.2 with ⟨h1, h2⟩ | ⟨g, cap, cur, h1, _⟩
    · have : R.2.length = 0 := by rw [← hx, List.length_map]; exact h2
      rw [h1] at e1 ht
      exact ⟨none, 0, xs, by rw [this, h0]; exact e1, by rw [this]; exact ht, hx, h.2.2⟩
    · have : R.2.length = xs.length := by rw [← hx, List.length_map]
      rw [h1] at e1 ht
      exact ⟨_, cap, xs, by rw [this, h0]; exact e1, by rw [this]; exact ht, hx, h.2.2⟩
  · have h2 := hR h0
    exact ⟨none, 0, [], by rw [h2]; exact h.1 h0, by rw [h2]; exact ⟨World.ownsRow_nil _ _ _ _, fun x hx => by simp at hx⟩, by rw [h2]; rfl, h.2.2⟩
theorem Rf.ChgR.form {w w' : World} {R : Int × List Tb} {e : Ending} (h : Rf.ChgR w R e w') (hR : R.1 ≠ 0 → R.2 = []) : ∃ (A : Option Addr) (c : Nat) (xs : List Tr), e = .returned (.tuple #[.agg #[.slice A R.2.length c], .int .i64 R.1]) ∧ Rf.Tbs w' w.heap.size (.slice A R.2.length c) xs ∧ xs.map Tr.t = R.2 ∧ Below w.heap.size w w' := by
  by_cases h0 : R.1 = 0
  · obtain ⟨v, xs, e1, ht, hx⟩ := h.2.1 h0
    rcases ht.own.2 with ⟨h1, h2⟩ | ⟨g, cap, cur, h1, _⟩
    · have : R.2.length = 0 := by rw [← hx, List.length_map]; exact h2
      rw [h1] at e1 ht
      exact ⟨none, 0, xs, by rw [this, h0]; exact e1, by rw [this]; exact ht, hx, h.2.2⟩
    · have : R.2.length = xs.length := by rw [← hx, List.length_map]
      rw [h1] at e1 ht
      exact ⟨_, cap, xs, by rw [this, h0]; exact e1, by rw [this]; exact ht, hx, h.2.2⟩
  · have h2 := hR h0
    exact ⟨none, 0, [], by rw [h2]; exact h.1 h0, by rw [h2]; exact ⟨World.ownsRow_nil _ _ _ _, fun x hx => by simp at hx⟩, by rw [h2]; rfl, h.2.2⟩
theorem creF_none {n : Nat} {ls : List Tb} {x : Sy.St n} (h : (creF ls x).1 ≠ 0) : (creF ls x).2 = [] := by
  unfold creF at h ⊢
  split
  · rfl
  · rename_i h1
    rw [if_neg h1] at h
    split
    · rfl
    · rename_i h2
      rw [if_neg h2] at h
      split
      · rfl
      · rename_i h3
        rw [if_neg h3] at h
        split
        · rfl
        · rename_i h4
          rw [if_neg h4] at h
          split
          · rfl
          · rename_i h5
            rw [if_neg h5] at h
            exact absurd rfl h
/-- A copied catalog is read as such. -/
theorem Tbs.rd6 {w : World} {B n c : Nat} {A : Option Addr} {xs : List Tr} {ls : List Tb} (h : Tbs w B (.slice A n c) xs) (hx : xs.map Tr.t = ls) (hf : ∀ t ∈ ls, t.cols.length * 32 ≤ 140737488355328 ∧ t.idx.length * 24 ≤ 140737488355328 - 24) : n = ls.length ∧ RdS w A ls := by
  have hl : xs.length = ls.length := by rw [← hx, List.length_map]
  rcases h.own.2 with ⟨h1, h0⟩ | ⟨g, cap, cur, h1, _⟩
  · injection h1 with h1 h2 h3
    exact ⟨by omega, fun e => absurd (List.eq_nil_of_length_eq_zero (by omega)) e⟩
  · injection h1 with h1 h2 h3
    subst h1
    refine ⟨by omega, fun _ => ⟨_, rfl, fun j t hj => ?_⟩⟩
    rw [← hx, List.getElem?_map] at hj
    obtain ⟨x, hx', rfl⟩ := Option.map_eq_some_iff.1 hj
    have hm := List.mem_of_getElem? hx'
    have hmt : x.t ∈ ls := by rw [← hx]; exact List.mem_map_of_mem hm
    have hc' := h.own.cells (g := g) rfl
    have g0 := hc' (j * 4 + 0) _ (flatK_get trC 4 trC_len xs j 0 x hx' (by omega))
    have g1 := hc' (j * 4 + 1) _ (flatK_get trC 4 trC_len xs j 1 x hx' (by omega))
    have g2 := hc' (j * 4 + 2) _ (flatK_get trC 4 trC_len xs j 2 x hx' (by omega))
    have g3 := hc' (j * 4 + 3) _ (flatK_get trC 4 trC_len xs j 3 x hx' (by omega))
    rw [add_lit] at g0 g1 g2 g3
    rw [add_lit]
    have ho := h.tabs x hm
    obtain ⟨A1, c1, e1, hr1⟩ := own_cols ho.c
    injection e1 with e1 _ e2
    subst e1 e2
    obtain ⟨A2, c2, e3, hr2⟩ := own_idx ho.x
    injection e3 with e3 _ e4
    subst e3 e4
    obtain ⟨_, _, e5, hn⟩ := ownC_form ho.c
    injection e5 with e5 _ e6
    obtain ⟨_, _, e7, hn'⟩ := ownX_form ho.x
    injection e7 with e7 _ e8
    refine ⟨x.A, x.A', x.c, x.c', g0, ?_, ?_, ?_, ⟨hr1, hr2, fun e0 => by rw [← e5, ← e6] at hn; exact hn e0, fun e0 => by rw [← e7, ← e8] at hn'; exact hn' e0, (hf _ hmt).1, (hf _ hmt).2⟩⟩
    · rw [← Nat.add_assoc] at g1; exact g1
    · rw [← Nat.add_assoc] at g2; exact g2
    · rw [← Nat.add_assoc] at g3; exact g3
end Go.Proofs.YtipcacplphidhaaGreat
/- What the walk of CatalogOwn keeps: its boxes, and how its answers are read. Conditions: none. -/
namespace Go.Proofs.YtipcacplphidhaaGreat.Rf
open Go.RowKit Go.Sort Go.Maps
set_option linter.unusedSimpArgs false
set_option linter.unusedVariables false

/-- A copied catalog is read as such. -/
theorem Tbs.rd6 {w : World} {B n c : Nat} {A : Option Addr} {xs : List Tr} {ls : List Tb} (h : Tbs w B (.slice A n c) xs) (hx : xs.map Tr.t = ls) (hf : ∀ t ∈ ls, t.cols.length * 32 ≤ 140737488355328 ∧ t.idx.length * 24 ≤ 140737488355328 - 24) : n = ls.length ∧ RdS w A ls := by
  have hl : xs.length = ls.length := by rw [← hx, List.length_map]
  rcases h.own.2 with ⟨h1, h0⟩ | ⟨g, cap, cur, h1, _⟩
  · injection h1 with h1 h2 h3
    exact ⟨by omega, fun e => absurd (List.eq_nil_of_length_eq_zero (by omega)) e⟩
  · injection h1 with h1 h2 h3
    subst h1
    refine ⟨by omega, fun _ => ⟨_, rfl, fun j t hj => ?_⟩⟩
    rw [← hx, List.getElem?_map] at hj
    obtain ⟨x, hx', rfl⟩ := Option.map_eq_some_iff.1 hj
    have hm := List.mem_of_getElem? hx'
    have hmt : x.t ∈ ls := by rw [← hx]; exact List.mem_map_of_mem hm
    have hc' := h.own.cells (g := g) rfl
    have g0 := hc' (j * 4 + 0) _ (flatK_get trC 4 trC_len xs j 0 x hx' (by omega))
    have g1 := hc' (j * 4 + 1) _ (flatK_get trC 4 trC_len xs j 1 x hx' (by omega))
    have g2 := hc' (j * 4 + 2) _ (flatK_get trC 4 trC_len xs j 2 x hx' (by omega))
    have g3 := hc' (j * 4 + 3) _ (flatK_get trC 4 trC_len xs j 3 x hx' (by omega))
    rw [add_lit] at g0 g1 g2 g3
    rw [add_lit]
    have ho := h.tabs x hm
    obtain ⟨A1, c1, e1, hr1⟩ := own_cols ho.c
    injection e1 with e1 _ e2
    subst e1 e2
    obtain ⟨A2, c2, e3, hr2⟩ := own_idx ho.x
    injection e3 with e3 _ e4
    subst e3 e4
    obtain ⟨_, _, e5, hn⟩ := ownC_form ho.c
    injection e5 with e5 _ e6
    obtain ⟨_, _, e7, hn'⟩ := ownX_form ho.x
    injection e7 with e7 _ e8
    refine ⟨x.A, x.A', x.c, x.c', g0, ?_, ?_, ?_, ⟨hr1, hr2, fun e0 => by rw [← e5, ← e6] at hn; exact hn e0, fun e0 => by rw [← e7, ← e8] at hn'; exact hn' e0, (hf _ hmt).1, (hf _ hmt).2⟩⟩
    · rw [← Nat.add_assoc] at g1; exact g1
    · rw [← Nat.add_assoc] at g2; exact g2
    · rw [← Nat.add_assoc] at g3; exact g3
end Go.Proofs.YtipcacplphidhaaGreat.Rf
namespace Go.Proofs.YtipcacplphidhaaGreat
open Go.RowKit Go.Sort Go.Maps
set_option linter.unusedSimpArgs false
set_option linter.unusedVariables false

theorem own_few {B n m k c : Nat} {e : TypeId} {A : Option Addr} {w : World} {xs : List Value} (h : w.ownsRow B e k (.slice A n c) m xs) : m ≤ 9223372036854775807 := by
  rcases h.2 with ⟨_, h0⟩ | ⟨g, cap, cur, e1, hbg, hg, hc, hm, _⟩
  · omega
  · unfold maxLen at hm; omega
theorem creF_fits {n : Nat} {ls : List Tb} {x : Sy.St n} : ∀ t ∈ (creF ls x).2, t.cols.length * 32 ≤ 140737488355328 ∧ t.idx.length * 24 ≤ 140737488355328 - 24 := by
  intro t ht
  unfold creF at ht
  split at ht
  · simp at ht
  · rename_i h1
    split at ht
    · simp at ht
    · split at ht
      · simp at ht
      · split at ht
        · simp at ht
        · split at ht
          · simp at ht
          · have ha : askF ls x 1 = 0 := by simpa using h1
            obtain ⟨hc, hk, hz⟩ := askF_zero ha
            have hcat := cat_of hc
            have ht' : t ∈ insT ls (posT ls x.tb) (mkT x) := ht
            unfold insT at ht'
            rcases List.mem_append.1 ht' with h | h
            · obtain ⟨h1, h2, _⟩ := few_of_may (hcat.may t (List.mem_of_mem_take h)); omega
            · rcases List.mem_cons.1 h with rfl | h
              · have h8 := (few_asked (mk1_of (x := x) hk hz)).1
                have e1 : (mkT x).cols.length = (x.cols.map clOf).length := keyed_len _ _
                have e2 : (mkT x).idx.length = 0 := rfl
                omega
              · obtain ⟨h1, h2, _⟩ := few_of_may (hcat.may t (List.mem_of_mem_drop h)); omega
theorem rdS_fits {w : World} {A : Option Addr} {ls : List Tb} (h : RdS w A ls) : ∀ t ∈ ls, t.cols.length * 32 ≤ 140737488355328 ∧ t.idx.length * 24 ≤ 140737488355328 - 24 := fun t ht => by
  obtain ⟨j, hj, rfl⟩ := List.mem_iff_getElem.1 ht
  obtain ⟨ad, e, cA, iA, cc, ic, _, _, _, _, hT⟩ := h.at_ hj
  exact ⟨hT.cb, hT.xb⟩
theorem heap_lt2 {w : World} {b : Nat} {o : Obj} (h : w.heap[b]? = some o) : b < w.heap.size := (Array.getElem?_eq_some_iff.1 h).1
/-- What was handed in, boxed. -/
structure K2 (w wx : World) (A : Option Addr) (n c : Nat) (xc : Array Value) : Prop where
  s : Bxr wx w.heap.size (.slice A n c)
  x : wx.heap[w.heap.size + 1]? = some (.cells xc 31 (0, 0))
  b : Below w.heap.size w wx
theorem K2.below {w wx wy : World} {A : Option Addr} {n c : Nat} {xc : Array Value} (h : K2 w wx A n c xc) (hb : Below wx.heap.size wx wy) : K2 w wy A n c xc := ⟨h.s.below hb, row_below h.x hb, thn h.b hb⟩
theorem K2.lt {w wx : World} {A : Option Addr} {n c : Nat} {xc : Array Value} (h : K2 w wx A n c xc) : w.heap.size + 1 < wx.heap.size := (Array.getElem?_eq_some_iff.1 h.x).1
theorem K2.grown {w wx wy : World} {A : Option Addr} {n c : Nat} {xc : Array Value} {r : Option Nat} (h : K2 w wx A n c xc) (hg : wx.grownBy wy r) (hr : ∀ k, r = some k → w.heap.size + 2 ≤ k) : K2 w wy A n c xc :=
  ⟨h.s.grown hg (fun e => by have := hr _ e; omega), row_grown h.x hg (fun e => by have := hr _ e; omega), h.b.grown hg h.b.size (fun k hk => by have := hr k hk; omega)⟩
end Go.Proofs.YtipcacplphidhaaGreat
/- What CatalogOwn's first region leaves, in whichever order its boxes are made: plain mathematics. Conditions: none. -/
namespace Go.Proofs.YtipcacplphidhaaGreat.Sy
open Go.RowKit
set_option linter.unusedSimpArgs false
set_option linter.unusedVariables false
theorem RdStZ.out {n : Nat} {S : Nat → Prop} {w w' : World} {x : St n} {h : Hs} (r : RdStZ S w x h) (ho : Out S w w') : RdStZ S w' x h :=
  ⟨r.C.out ZC_ok ho, r.R.out (ZR_ok n) ho, r.S.out (ZS_ok n) ho, r.I.out (ZE_ok n) ho, r.O.out (ZE_ok n) ho, r.W.out (ZE_ok n) ho, r.G.out (ZE_ok n) ho, r.D.out ZO_ok ho⟩
end Go.Proofs.YtipcacplphidhaaGreat.Sy
namespace Go.Proofs.YtipcacplphidhaaGreat
open Go.RowKit Go.Sort Go.Maps
set_option linter.unusedSimpArgs false
set_option linter.unusedVariables false

theorem size_cells (b : Nat) : ∀ (vs : List Value) (o : Nat) (w : World), (w.setCells b o vs).heap.size = w.heap.size
  | [], _, _ => rfl
  | v :: r, o, w => (size_cells b r (o + 1) _).trans (by simp)
/-- The copies, and what was handed in. -/
structure GS {n : Nat} (w wx : World) (z : Nat) (v : Value) (xs : List Tr) (x : Sy.St n) (h : Sy.Hs) (A : Option Addr) (m c : Nat) (xc : Array Value) : Prop where
  tb : Tbs wx (w.heap.size + 2) v xs
  st : Sy.RdStZ (fun b => z ≤ b) wx x h
  k : K2 w wx A m c xc
  le : w.heap.size + 2 ≤ z
theorem GS.alloc {n : Nat} {w wx : World} {z : Nat} {v : Value} {xs : List Tr} {x : Sy.St n} {h : Sy.Hs} {A : Option Addr} {m c : Nat} {xc : Array Value} (g : GS w wx z v xs x h A m c xc) (o : Obj) : GS w (wx.alloc o) z v xs x h A m c xc :=
  ⟨g.tb.below (below1 _ _), g.st.below (below1 _ _), g.k.below (below1 _ _), g.le⟩
theorem GS.cells {n : Nat} {w wx : World} {z : Nat} {v : Value} {xs : List Tr} {x : Sy.St n} {h : Sy.Hs} {A : Option Addr} {m c : Nat} {xc : Array Value} (g : GS w wx z v xs x h A m c xc) {b : Nat} {cs : Array Value} {T : TypeId} (hb : wx.heap[b]? = some (.cells cs T (0, 0)))
    (h1 : T ≠ 48) (h2 : T ≠ 50) (h3 : T ≠ 46) (hlt : b < z) (hge : w.heap.size + 2 ≤ b) (vs : List Value) (o : Nat) : GS w (wx.setCells b o vs) z v xs x h A m c xc :=
  ⟨g.tb.kept (grown_setCells b vs o wx) hb h1 h2 h3, g.st.out (fun b' hb' => by
    by_cases hz : b' < wx.heap.size
    · exact (grown_setCells b vs o wx).block b' hz (fun e => by injection e with e; have : z ≤ b' := hb'; omega)
    · have hs : (wx.setCells b o vs).heap.size = wx.heap.size := size_cells b vs o wx
      rw [Array.getElem?_eq_none (by omega), Array.getElem?_eq_none (by omega)]), g.k.grown (grown_setCells b vs o wx) (fun k hk => by injection hk with hk; omega), g.le⟩
theorem row_cells2 {wx : World} {b b' : Nat} {o : Obj} (h : wx.heap[b]? = some o) (hne : b ≠ b') (vs : List Value) (i : Nat) : (wx.setCells b' i vs).heap[b]? = some o :=
  row_grown h (grown_setCells b' vs i wx) (fun e => hne (by injection e with e; exact e.symm))
end Go.Proofs.YtipcacplphidhaaGreat
namespace Go.Proofs.YtipcacplphidhaaGreat
open Go.ChangeShapes Go.WideShapes Go.ChangeAt Go.RowKit
set_option linter.unusedSimpArgs false
set_option linter.unusedVariables false

set_option maxRecDepth 100000 in
theorem state_cap {H : Type} {enc : TypeId × Value → H} {w : World} {base : Nat} {spare : Nat → Bool} {held : Bool} {A : Option Addr} {n c : Nat} {d : DataW H} {p : List MemPlace} (h : DataW.Trod enc Tryz.prog w base spare held 24 (.agg #[.slice A n c]) d p) : n ≤ c ∧ c ≤ 9223372036854775807 := by
  obtain ⟨fuel, hf⟩ := h
  have hf' : DataW.trod enc Tryz.prog w base spare held fuel 24 [.slice A n c] = some (d, p) := by simpa [Value.cells] using hf
  obtain ⟨xs, m, hm, hx, hlen, hxl, hg⟩ := DataW.trod_struct Tryz.underlying24 hf'
  obtain ⟨x0, rfl⟩ := list1 (hxl.trans rfl)
  have h0 : DataW.trod enc Tryz.prog w base spare held m 22 [.slice A n c] = some x0 := take_as (cs := [.slice A n c]) (hg 0 _ rfl) cellsLT
  rcases DataW.trod_slice Tryz.underlying22 h0 with ⟨hcs, _⟩ | ⟨a, len, cap, elems, rest, m, hfu, hcs, hx, _, hl, hm, _⟩
  · injection hcs with hcs _
    injection hcs with h1 h2 h3
    omega
  · injection hcs with hcs _
    injection hcs with h1 h2 h3
    unfold maxLen at hm
    omega
end Go.Proofs.YtipcacplphidhaaGreat
