/- A table in memory of its own: the walk of copyOf. Conditions: a table that is read in memory, of few columns and indexes; names that every machine keeps. -/
import Derived.Test.YtddeaiciochggaaNg
/- Lists of columns and of indexes in memory of their own: the walks of slices.Clone. Conditions: lists that are read in memory. -/
namespace Go.Proofs.Ytddeaiciochggaa
open Go.RowKit Go.Sort Go.Maps
set_option linter.unusedSimpArgs false
set_option linter.unusedVariables false

theorem ixC_one (l : List Ix) : ∀ u ∈ l.flatMap ixC, u.oneCell' = true := fun u hu => by
  obtain ⟨v, _, hv⟩ := List.mem_flatMap.1 hu
  simp [ixC] at hv
  rcases hv with rfl | rfl <;> rfl
theorem RdX.news {w : World} {A : Option Addr} {l : List Ix} (h : RdX w A l) : ∀ ad, A = some ad → ∀ j u, (l.flatMap ixC)[j]? = some u → w.cell? (ad.add j) = some u := fun ad e j u hu => by
  obtain ⟨q, r, v, rfl, hr, hv, hu⟩ := flatK_cell ixC 2 (by omega) (fun _ => rfl) l j u hu
  obtain ⟨ad', e', hc⟩ := h (by intro e2; subst e2; simp at hv)
  rw [e] at e'
  injection e' with e'
  subst e'
  obtain ⟨c0, c1⟩ := hc q v hv
  rcases (show r = 0 ∨ r = 1 by omega) with rfl | rfl
  · simp [ixC] at hu; subst hu; exact c0
  · simp [ixC] at hu; subst hu; rw [add_two _ _ (by omega)]; exact c1

/-- Memory of the call's own. -/
abbrev OwnC (w : World) (B : Nat) (v : Value) (l : List Cl) : Prop := w.ownsRow B 59 3 v l.length (l.flatMap colC)
theorem ownC_form {w : World} {B : Nat} {v : Value} {l : List Cl} (h : OwnC w B v l) : ∃ A c, v = .slice A l.length c ∧ (A = none → l.length = 0 ∧ c = 0) := by
  rcases h.2 with ⟨h1, h0⟩ | ⟨g, cap, cur, h1, _⟩
  · exact ⟨none, 0, by rw [h1, h0], fun _ => ⟨h0, rfl⟩⟩
  · exact ⟨_, _, h1, fun e => by cases e⟩
theorem flatC (l : List Cl) (j i : Nat) (v : Cl) (h : l[j]? = some v) (hi : i < 3) : (l.flatMap colC)[j * 3 + i]? = (colC v)[i]? := flatK_get colC 3 (fun _ => rfl) l j i v h hi
theorem OwnC.at_ {w : World} {B g cap i : Nat} {l : List Cl} (h : OwnC w B (.slice (some ⟨g, 0, none⟩) l.length cap) l) (hi : i < l.length) :
    w.cell? ⟨g, i * 3, none⟩ = some (.string l[i].m) ∧ w.cell? ⟨g, i * 3 + 1, none⟩ = some (.int .i64 l[i].k) ∧ w.cell? ⟨g, i * 3 + 2, none⟩ = some (.bool l[i].nn) ∧ w.frozen? ⟨g, i * 3, none⟩ = false := by
  have e := List.getElem?_eq_getElem hi
  exact ⟨(h.cellAt (i * 3 + 0) (by omega)).trans (flatC l i 0 _ e (by omega)), (h.cellAt (i * 3 + 1) (by omega)).trans (flatC l i 1 _ e (by omega)), (h.cellAt (i * 3 + 2) (by omega)).trans (flatC l i 2 _ e (by omega)), h.frozenAt _⟩
theorem OwnC.again {w : World} {B g cap i : Nat} {l : List Cl} (h : OwnC w B (.slice (some ⟨g, 0, none⟩) l.length cap) l) (hi : i < l.length) : OwnC (w.setCell ⟨g, i * 3, none⟩ (.string l[i].m)) B (.slice (some ⟨g, 0, none⟩) l.length cap) l := by
  have h1 := (h.stored (i * 3) (.string l[i].m)).1
  have h2 : (l.flatMap colC)[i * 3]? = some (.string l[i].m) := flatC l i 0 _ (List.getElem?_eq_getElem hi) (by omega)
  have h3 : (l.flatMap colC).set (i * 3) (.string l[i].m) = l.flatMap colC := by
    apply List.ext_getElem?
    intro j
    rw [List.getElem?_set]
    split
    · rename_i e
      subst e
      rw [h2]
      split
      · rfl
      · rename_i h4
        exact absurd (List.getElem?_eq_some_iff.1 h2).1 h4
    · rfl
  rw [h3] at h1
  exact h1
theorem cloneC_nil (n c : Nat) (w : World) :
    Calls Try.prog 48 #[.slice none n c] w fun e w' => e = .returned (.slice none 0 0) ∧ w = w' := by
  have q22 : ∀ (w : World) (a : Option Addr) (n c n' c' : Nat), (binOp .eql 25 (.slice a n c) (.slice none n' c')).run Try.prog w = .ok (.bool a.isNone) w := fun w a n c n' c' => Lib.run_eql_slice_nil w _ _ a n c n' c' Try.underlying25
  go_enter Try.func48, Try.ntmps48
  go_wp2
  go_ret
  exact ⟨rfl, rfl⟩
set_option maxHeartbeats 1000000 in
theorem cloneC_some (ad : Addr) (n c : Nat) (l : List Cl) (w : World) (hl : n = l.length) (hr : RdC w (some ad) l) (hn : n * 32 ≤ 140737488355328) :
    Calls Try.prog 48 #[.slice (some ad) n c] w fun e w' => ∃ v, e = .returned v ∧ w'.ownsRow w.heap.size 59 3 v n (l.flatMap colC) ∧ Below w.heap.size w w' := by
  obtain ⟨i0, hi, hz0, hz1, hz2⟩ := info_parts Try.infoC
  have HR := Lib.hid hr
  have HL := Lib.hid hl
  clear hl hr
  have q22 : ∀ (w : World) (a : Option Addr) (n c n' c' : Nat), (binOp .eql 25 (.slice a n c) (.slice none n' c')).run Try.prog w = .ok (.bool a.isNone) w := fun w a n c n' c' => Lib.run_eql_slice_nil w _ _ a n c n' c' Try.underlying25
  go_enter Try.func48, Try.ntmps48
  go_wp2_with (at_builtin; refine wpList_append_own_at _ rfl _ _ 25 rfl w.heap.size 59 i0 (.agg #[.string ⟨#[]⟩, .int .i64 0, .bool false]) 3 32 Try.underlying25 hi hz0 hz1 hz2 rfl (by decide) _ _ _ rfl (World.ownsRow_made w #[] 0 (Nat.le_refl _) (Nat.zero_le _) (by simp)) ad n c (l.flatMap colC) rfl ?c0 ?c1 (colC_one l) ?c3 ?c4 ?c5 ?_)
  case c0 => rw [flatK_len colC 3 (fun _ => rfl), ← HL.out]
  case c1 => exact fun j u hj => (HR.out.below (below1 _ _)).news _ rfl j u hj
  case c3 => unfold maxLen; omega
  case c4 => omega
  case c5 => simp
  intro v' w' hown hg _ _
  have HOwn := Lib.hid hown
  clear hown
  go_wp2
  go_ret
  refine ⟨_, rfl, by simpa using HOwn.out, (below1 _ _).grown hg (by simp) (fun k hk => ?_)⟩
  simp [Value.ownBlock] at hk
  omega
theorem cloneC_any (A : Option Addr) (c : Nat) (l : List Cl) (w : World) (hr : RdC w A l) (hA : A = none → l.length = 0) (hn : l.length * 32 ≤ 140737488355328) :
    Calls Try.prog 48 #[.slice A l.length c] w fun e w' => ∃ v, e = .returned v ∧ OwnC w' w.heap.size v l ∧ Below w.heap.size w w' := by
  cases A with
  | none =>
    have h0 := hA rfl
    have : l = [] := List.eq_nil_of_length_eq_zero h0
    subst this
    exact (cloneC_nil 0 c w).mono fun e w' ⟨h1, h2⟩ => ⟨_, h1, World.ownsRow_nil _ _ _ _, h2 ▸ Below.refl _ _⟩
  | some ad => exact (cloneC_some ad l.length c l w rfl hr hn).mono fun e w' ⟨v, h1, h2, h3⟩ => ⟨v, h1, h2, h3⟩

/-- Memory of the call's own. -/
abbrev OwnX (w : World) (B : Nat) (v : Value) (l : List Ix) : Prop := w.ownsRow B 81 2 v l.length (l.flatMap ixC)
theorem ownX_form {w : World} {B : Nat} {v : Value} {l : List Ix} (h : OwnX w B v l) : ∃ A c, v = .slice A l.length c ∧ (A = none → l.length = 0 ∧ c = 0) := by
  rcases h.2 with ⟨h1, h0⟩ | ⟨g, cap, cur, h1, _⟩
  · exact ⟨none, 0, by rw [h1, h0], fun _ => ⟨h0, rfl⟩⟩
  · exact ⟨_, _, h1, fun e => by cases e⟩
theorem flatX (l : List Ix) (j i : Nat) (v : Ix) (h : l[j]? = some v) (hi : i < 2) : (l.flatMap ixC)[j * 2 + i]? = (ixC v)[i]? := flatK_get ixC 2 (fun _ => rfl) l j i v h hi
theorem OwnX.at_ {w : World} {B g cap i : Nat} {l : List Ix} (h : OwnX w B (.slice (some ⟨g, 0, none⟩) l.length cap) l) (hi : i < l.length) :
    w.cell? ⟨g, i * 2, none⟩ = some (.string l[i].m) ∧ w.cell? ⟨g, i * 2 + 1, none⟩ = some (.int .i64 l[i].c) ∧ w.frozen? ⟨g, i * 2, none⟩ = false := by
  have e := List.getElem?_eq_getElem hi
  exact ⟨(h.cellAt (i * 2 + 0) (by omega)).trans (flatX l i 0 _ e (by omega)), (h.cellAt (i * 2 + 1) (by omega)).trans (flatX l i 1 _ e (by omega)), h.frozenAt _⟩
theorem OwnX.again {w : World} {B g cap i : Nat} {l : List Ix} (h : OwnX w B (.slice (some ⟨g, 0, none⟩) l.length cap) l) (hi : i < l.length) : OwnX (w.setCell ⟨g, i * 2, none⟩ (.string l[i].m)) B (.slice (some ⟨g, 0, none⟩) l.length cap) l := by
  have h1 := (h.stored (i * 2) (.string l[i].m)).1
  have h2 : (l.flatMap ixC)[i * 2]? = some (.string l[i].m) := flatX l i 0 _ (List.getElem?_eq_getElem hi) (by omega)
  have h3 : (l.flatMap ixC).set (i * 2) (.string l[i].m) = l.flatMap ixC := by
    apply List.ext_getElem?
    intro j
    rw [List.getElem?_set]
    split
    · rename_i e
      subst e
      rw [h2]
      split
      · rfl
      · rename_i h4
        exact absurd (List.getElem?_eq_some_iff.1 h2).1 h4
    · rfl
  rw [h3] at h1
  exact h1
theorem cloneX_nil (n c : Nat) (w : World) :
    Calls Try.prog 49 #[.slice none n c] w fun e w' => e = .returned (.slice none 0 0) ∧ w = w' := by
  have q22 : ∀ (w : World) (a : Option Addr) (n c n' c' : Nat), (binOp .eql 45 (.slice a n c) (.slice none n' c')).run Try.prog w = .ok (.bool a.isNone) w := fun w a n c n' c' => Lib.run_eql_slice_nil w _ _ a n c n' c' Try.underlying45
  go_enter Try.func49, Try.ntmps49
  go_wp2
  go_ret
  exact ⟨rfl, rfl⟩
set_option maxHeartbeats 1000000 in
theorem cloneX_some (ad : Addr) (n c : Nat) (l : List Ix) (w : World) (hl : n = l.length) (hr : RdX w (some ad) l) (hn : n * 24 ≤ 140737488355328) :
    Calls Try.prog 49 #[.slice (some ad) n c] w fun e w' => ∃ v, e = .returned v ∧ w'.ownsRow w.heap.size 81 2 v n (l.flatMap ixC) ∧ Below w.heap.size w w' := by
  obtain ⟨i0, hi, hz0, hz1, hz2⟩ := info_parts Try.infoX
  have HR := Lib.hid hr
  have HL := Lib.hid hl
  clear hl hr
  have q22 : ∀ (w : World) (a : Option Addr) (n c n' c' : Nat), (binOp .eql 45 (.slice a n c) (.slice none n' c')).run Try.prog w = .ok (.bool a.isNone) w := fun w a n c n' c' => Lib.run_eql_slice_nil w _ _ a n c n' c' Try.underlying45
  go_enter Try.func49, Try.ntmps49
  go_wp2_with (at_builtin; refine wpList_append_own_at _ rfl _ _ 45 rfl w.heap.size 81 i0 (.agg #[.string ⟨#[]⟩, .int .i64 0]) 2 24 Try.underlying45 hi hz0 hz1 hz2 rfl (by decide) _ _ _ rfl (World.ownsRow_made w #[] 0 (Nat.le_refl _) (Nat.zero_le _) (by simp)) ad n c (l.flatMap ixC) rfl ?c0 ?c1 (ixC_one l) ?c3 ?c4 ?c5 ?_)
  case c0 => rw [flatK_len ixC 2 (fun _ => rfl), ← HL.out]
  case c1 => exact fun j u hj => (HR.out.below (below1 _ _)).news _ rfl j u hj
  case c3 => unfold maxLen; omega
  case c4 => omega
  case c5 => simp
  intro v' w' hown hg _ _
  have HOwn := Lib.hid hown
  clear hown
  go_wp2
  go_ret
  refine ⟨_, rfl, by simpa using HOwn.out, (below1 _ _).grown hg (by simp) (fun k hk => ?_)⟩
  simp [Value.ownBlock] at hk
  omega
theorem cloneX_any (A : Option Addr) (c : Nat) (l : List Ix) (w : World) (hr : RdX w A l) (hA : A = none → l.length = 0) (hn : l.length * 24 ≤ 140737488355328) :
    Calls Try.prog 49 #[.slice A l.length c] w fun e w' => ∃ v, e = .returned v ∧ OwnX w' w.heap.size v l ∧ Below w.heap.size w w' := by
  cases A with
  | none =>
    have h0 := hA rfl
    have : l = [] := List.eq_nil_of_length_eq_zero h0
    subst this
    exact (cloneX_nil 0 c w).mono fun e w' ⟨h1, h2⟩ => ⟨_, h1, World.ownsRow_nil _ _ _ _, h2 ▸ Below.refl _ _⟩
  | some ad => exact (cloneX_some ad l.length c l w rfl hr hn).mono fun e w' ⟨v, h1, h2, h3⟩ => ⟨v, h1, h2, h3⟩
end Go.Proofs.Ytddeaiciochggaa
namespace Go.Proofs.Ytddeaiciochggaa
open Go.RowKit Go.Sort Go.Maps
set_option linter.unusedSimpArgs false
set_option linter.unusedVariables false

/-- Block b is a table's four cells. -/
abbrev Bx4 (w : World) (b : Nat) (a0 a1 a2 a3 : Value) : Prop := w.heap[b]? = some (.cells #[a0, a1, a2, a3] 47 (0, 0))
theorem Bx4.below {w w' : World} {b : Nat} {a0 a1 a2 a3 : Value} (h : Bx4 w b a0 a1 a2 a3) (hb : Below w.heap.size w w') : Bx4 w' b a0 a1 a2 a3 := by
  unfold Bx4
  rw [hb.block b (Array.getElem?_eq_some_iff.1 h).1]; exact h
theorem Bx4.lt {w : World} {b : Nat} {a0 a1 a2 a3 : Value} (h : Bx4 w b a0 a1 a2 a3) : b < w.heap.size := (Array.getElem?_eq_some_iff.1 h).1
theorem Bx4.set0 {w : World} {b : Nat} {a0 a1 a2 a3 : Value} (h : Bx4 w b a0 a1 a2 a3) (v : Value) : Bx4 (w.setCell ⟨b, 0, none⟩ v) b v a1 a2 a3 := by
  unfold Bx4
  rw [heap_setCell_same w b 0 _ _ v h]; rfl
theorem Bx4.set1 {w : World} {b : Nat} {a0 a1 a2 a3 : Value} (h : Bx4 w b a0 a1 a2 a3) (v : Value) : Bx4 (w.setCell ⟨b, 1, none⟩ v) b a0 v a2 a3 := by
  unfold Bx4
  rw [heap_setCell_same w b 1 _ _ v h]; rfl
theorem Bx4.set3 {w : World} {b : Nat} {a0 a1 a2 a3 : Value} (h : Bx4 w b a0 a1 a2 a3) (v : Value) : Bx4 (w.setCell ⟨b, 3, none⟩ v) b a0 a1 a2 v := by
  unfold Bx4
  rw [heap_setCell_same w b 3 _ _ v h]; rfl
theorem Bx4.other {w : World} {b : Nat} {a0 a1 a2 a3 : Value} (h : Bx4 w b a0 a1 a2 a3) (p : Addr) (hp : b ≠ p.block) (v : Value) : Bx4 (w.setCell p v) b a0 a1 a2 a3 := by
  unfold Bx4
  rw [heap_setCell_other w p b v hp]; exact h
theorem below_set {B : Nat} {a w : World} (h : Below B a w) (p : Addr) (hp : B ≤ p.block) (v : Value) : Below B a (w.setCell p v) := h.setCell (p := p) hp v
theorem ownC_set {w : World} {B : Nat} {v : Value} {l : List Cl} {b o : Nat} {T : TypeId} {cs : Array Value} (h : OwnC w B v l) (hb : w.heap[b]? = some (.cells cs T (0, 0))) (hT : T ≠ 59) (u : Value) : OwnC (w.setCell ⟨b, o, none⟩ u) B v l :=
  h.kept (grown_setCell w b o u) (by
    cases hv : v.ownBlock with
    | none => exact .inl rfl
    | some k => exact .inr (fun e => own_ne h hb hT (by rw [hv, e])))
theorem ownX_set {w : World} {B : Nat} {v : Value} {l : List Ix} {b o : Nat} {T : TypeId} {cs : Array Value} (h : OwnX w B v l) (hb : w.heap[b]? = some (.cells cs T (0, 0))) (hT : T ≠ 81) (u : Value) : OwnX (w.setCell ⟨b, o, none⟩ u) B v l :=
  h.kept (grown_setCell w b o u) (by
    cases hv : v.ownBlock with
    | none => exact .inl rfl
    | some k => exact .inr (fun e => own_ne h hb hT (by rw [hv, e])))

theorem own_apart {w : World} {B B' g c : Nat} {v : Value} {l : List Cl} {l' : List Ix} (h : OwnC w B v l) (h' : OwnX w B' (.slice (some ⟨g, 0, none⟩) l'.length c) l') : v.ownBlock = none ∨ v.ownBlock ≠ some g := by
  rcases h'.2 with ⟨e, _⟩ | ⟨g', cap, cur, e, _, hg, _⟩
  · cases e
  · injection e with e1 _ _
    injection e1 with e1
    injection e1 with e1
    subst e1
    exact .inr (own_ne h hg (by decide))

set_option maxRecDepth 100000 in
set_option maxHeartbeats 8000000 in
theorem copyOf_any (m : ByteArray) (cA iA : Option Addr) (cc ic : Nat) (key : Int) (cols : List Cl) (idx : List Ix) (w : World) (hc : RdC w cA cols) (hx : RdX w iA idx) (hcA : cA = none → cols.length = 0) (hiA : iA = none → idx.length = 0) (hcn : cols.length ≤ 100) (hin : idx.length ≤ 100)
    (hm : m.size ≤ 140737488355328) (hcm : ∀ x ∈ cols, x.m.size ≤ 140737488355328) (hxm : ∀ x ∈ idx, x.m.size ≤ 140737488355328) :
    Calls Try.prog 24 #[tbl m cA cols.length cc key iA idx.length ic] w fun e w' => ∃ cA' cc' iA' ic', e = .returned (tbl m cA' cols.length cc' key iA' idx.length ic') ∧ OwnC w' w.heap.size (.slice cA' cols.length cc') cols ∧ OwnX w' w.heap.size (.slice iA' idx.length ic') idx ∧ Below w.heap.size w w' := by
  have HC := Lib.hid hc
  have HX := Lib.hid hx
  have HCM := Lib.hid hcm
  have HXM := Lib.hid hxm
  have HM := Lib.hid fun W => sClone_any m W hm
  have hB0 := (below1 w (.cells #[.string m, .slice cA cols.length cc, .int .i64 key, .slice iA idx.length ic] 47)).alloc (by simp) (.cells #[.string ⟨#[]⟩, .slice none 0 0, .int .i64 0, .slice none 0 0] 47)
  have HB0 := Lib.hid hB0
  have HKC := Lib.hid fun (W : World) (hb : Below w.heap.size w W) => cloneC_any cA cc cols W (hc.below hb) hcA (by omega)
  have HKX := Lib.hid fun (W : World) (hb : Below w.heap.size w W) => cloneX_any iA ic idx W (hx.below hb) hiA (by omega)
  have hX0 : Bx4 ((w.alloc (.cells #[.string m, .slice cA cols.length cc, .int .i64 key, .slice iA idx.length ic] 47)).alloc (.cells #[.string ⟨#[]⟩, .slice none 0 0, .int .i64 0, .slice none 0 0] 47)) w.heap.size (.string m) (.slice cA cols.length cc) (.int .i64 key) (.slice iA idx.length ic) := by
    have h1 := heap_alloc_new w (.cells #[.string m, .slice cA cols.length cc, .int .i64 key, .slice iA idx.length ic] 47)
    exact Bx4.below h1 (below1 _ _)
  have hY0 : Bx4 ((w.alloc (.cells #[.string m, .slice cA cols.length cc, .int .i64 key, .slice iA idx.length ic] 47)).alloc (.cells #[.string ⟨#[]⟩, .slice none 0 0, .int .i64 0, .slice none 0 0] 47)) (w.heap.size + 1) (.string ⟨#[]⟩) (.slice none 0 0) (.int .i64 0) (.slice none 0 0) := by
    have := heap_alloc_new (w.alloc (.cells #[.string m, .slice cA cols.length cc, .int .i64 key, .slice iA idx.length ic] 47)) (.cells #[.string ⟨#[]⟩, .slice none 0 0, .int .i64 0, .slice none 0 0] 47)
    rwa [World.size_alloc] at this
  have HX0 := Lib.hid hX0
  have HY0 := Lib.hid hY0
  obtain ⟨b0, b1, b2, b3, f0, f1, f2, f3⟩ := cells4 hX0
  clear hc hx hcA hiA hm hcm hxm hB0 hX0 hY0
  go_enter Try.func24, Try.ntmps24
  go_upto_region 1 with fail
  generalize (w.alloc (.cells #[.string m, .slice cA cols.length cc, .int .i64 key, .slice iA idx.length ic] 47)).alloc (.cells #[.string ⟨#[]⟩, .slice none 0 0, .int .i64 0, .slice none 0 0] 47) = w0 at HB0 HX0 HY0 b0 b1 b2 b3 f0 f1 f2 f3 ⊢
  go_upto_region 2 with (go_at_call 32; (with_reducible refine (HM.out _).mono ?_); rintro e w1 ⟨rfl, hb⟩; have HX1 := Lib.hid (HX0.out.below hb); have HY1 := Lib.hid (HY0.out.below hb); have HB1 := Lib.hid (thn HB0.out hb); obtain ⟨b0, b1, b2, b3, f0, f1, f2, f3⟩ := cells4 HX1.out; clear hb)
  have hX2 := HX1.out.set0 (.string m)
  have hY2 := HY1.out.other ⟨w.heap.size, 0, none⟩ (by simp) (.string m)
  have hB2 := below_set HB1.out ⟨w.heap.size, 0, none⟩ (by simp) (.string m)
  clear b0 b1 b2 b3 f0 f1 f2 f3 HX0 HY0 HB0 HX1 HY1 HB1
  generalize w1.setCell ⟨w.heap.size, 0, none⟩ (.string m) = w2 at hX2 hY2 hB2 ⊢
  have HX2 := Lib.hid hX2
  have HY2 := Lib.hid hY2
  have HB2 := Lib.hid hB2
  obtain ⟨b0, b1, b2, b3, f0, f1, f2, f3⟩ := cells4 hX2
  have hz2 := hY2.lt
  clear hX2 hY2 hB2
  go_upto_region 3 with (go_at_call 48; (with_reducible refine (HKC.out _ HB2.out).mono ?_); rintro e w3 ⟨v3, rfl, ho, hb⟩; obtain ⟨A3, c3, rfl, hA3⟩ := ownC_form ho; have HO3 := Lib.hid (own_le ho (show w.heap.size + 2 ≤ w2.heap.size from hz2)); have HX3 := Lib.hid (HX2.out.below hb); have HY3 := Lib.hid (HY2.out.below hb); have HB3 := Lib.hid (thn HB2.out hb); obtain ⟨b0, b1, b2, b3, f0, f1, f2, f3⟩ := cells4 HX3.out; clear hb ho)
  have hX4 := HX3.out.set1 (.slice A3 cols.length c3)
  have hY4 := HY3.out.other ⟨w.heap.size, 1, none⟩ (by simp) (.slice A3 cols.length c3)
  have hB4 := below_set HB3.out ⟨w.heap.size, 1, none⟩ (by simp) (.slice A3 cols.length c3)
  have hO4 := ownC_set (o := 1) HO3.out HX3.out (by decide) (.slice A3 cols.length c3)
  clear b0 b1 b2 b3 f0 f1 f2 f3 HX3 HY3 HB3 HO3 HX2 HY2 HB2 hz2
  generalize w3.setCell ⟨w.heap.size, 1, none⟩ (.slice A3 cols.length c3) = w4 at hX4 hY4 hB4 hO4 ⊢
  have HX4 := Lib.hid hX4
  have HY4 := Lib.hid hY4
  have HB4 := Lib.hid hB4
  have HO4 := Lib.hid hO4
  obtain ⟨b0, b1, b2, b3, f0, f1, f2, f3⟩ := cells4 hX4
  clear hX4 hY4 hB4 hO4
  go_wp2
  go_loopw [3, 4, 18] (fun _ _ i wr => ∃ j : Nat, i = .int .i64 j ∧ j ≤ cols.length ∧ Bx4 wr w.heap.size (.string m) (.slice A3 cols.length c3) (.int .i64 key) (.slice iA idx.length ic) ∧ Bx4 wr (w.heap.size + 1) (.string ⟨#[]⟩) (.slice none 0 0) (.int .i64 0) (.slice none 0 0) ∧ OwnC wr (w.heap.size + 2) (.slice A3 cols.length c3) cols ∧ Below w.heap.size w wr) (fun _ _ i _ => cols.length - (intOf i).toNat)
  case atStart => exact ⟨0, rfl, by omega, HX4.out, HY4.out, HO4.out, HB4.out⟩
  case round =>
    obtain ⟨j, rfl, hj, hX, hY, hO, hB⟩ := hrel
    have HXr := Lib.hid hX
    have HYr := Lib.hid hY
    have HOr := Lib.hid hO
    have HBr := Lib.hid hB
    clear hX hY hO hB b0 b1 b2 b3 f0 f1 f2 f3
    by_cases hlt : j < cols.length
    · obtain ⟨g, cap, ef⟩ := Go.Joins.ownsRow_form HOr.out (by omega)
      injection ef with ef1 _ ef2
      subst ef1 ef2
      obtain ⟨d0, d1, d2, fd⟩ := HOr.out.at_ hlt
      have hgl : g < wr.heap.size := cell_lt d0
      have hgB : w.heap.size + 2 ≤ g := (HOr.out.lt g rfl).1
      have hlt' : (j : Int) < (cols.length : Int) := by omega
      have hsz := HCM.out _ (List.getElem_mem hlt)
      have hag := fun (W : World) (h : OwnC W (w.heap.size + 2) (.slice (some ⟨g, 0, none⟩) cols.length c3) cols) => h.again hlt
      have hat := fun (W : World) (h : OwnC W (w.heap.size + 2) (.slice (some ⟨g, 0, none⟩) cols.length c3) cols) => h.at_ hlt
      generalize cols[j] = x at d0 d1 d2 hsz hag hat
      have HAG := Lib.hid hag
      have HAT := Lib.hid hat
      clear hag hat
      go_upto_region 6 with fail
      have ha := below1 wr (.cells #[.string x.m, .int .i64 x.k, .bool x.nn] 59)
      have HXa := Lib.hid (HXr.out.below ha)
      have HYa := Lib.hid (HYr.out.below ha)
      have HOa := Lib.hid (own_below HOr.out ha)
      have HBa := Lib.hid (thn HBr.out ha)
      have q0 : (wr.alloc (.cells #[.string x.m, .int .i64 x.k, .bool x.nn] 59)).cell? ⟨wr.heap.size, 0, none⟩ = some (.string x.m) := by rw [cell_last _ _ _ _ _ rfl]; rfl
      obtain ⟨d0, d1, d2, fd⟩ := HAT.out _ HOa.out
      obtain ⟨b0, b1, b2, b3, f0, f1, f2, f3⟩ := cells4 HXa.out
      clear ha HXr HYr HOr HBr
      generalize wr.alloc (.cells #[.string x.m, .int .i64 x.k, .bool x.nn] 59) = wa at *
      generalize wr.heap.size = cb at *
      have hbl : ∀ W W', (W.cell? ⟨w.heap.size, 1, none⟩ = some (.slice (some ⟨g, 0, none⟩) cols.length c3) ∧ W.cell? ⟨cb, 0, none⟩ = some (.string x.m) ∧ W.cell? ⟨g, j * 3, none⟩ = some (.string x.m) ∧ W.frozen? ⟨g, j * 3, none⟩ = false ∧ Bx4 W w.heap.size (.string m) (.slice (some ⟨g, 0, none⟩) cols.length c3) (.int .i64 key) (.slice iA idx.length ic) ∧ Bx4 W (w.heap.size + 1) (.string ⟨#[]⟩) (.slice none 0 0) (.int .i64 0) (.slice none 0 0) ∧ OwnC W (w.heap.size + 2) (.slice (some ⟨g, 0, none⟩) cols.length c3) cols ∧ Below w.heap.size w W) → Below W.heap.size W W' → (W'.cell? ⟨w.heap.size, 1, none⟩ = some (.slice (some ⟨g, 0, none⟩) cols.length c3) ∧ W'.cell? ⟨cb, 0, none⟩ = some (.string x.m) ∧ W'.cell? ⟨g, j * 3, none⟩ = some (.string x.m) ∧ W'.frozen? ⟨g, j * 3, none⟩ = false ∧ Bx4 W' w.heap.size (.string m) (.slice (some ⟨g, 0, none⟩) cols.length c3) (.int .i64 key) (.slice iA idx.length ic) ∧ Bx4 W' (w.heap.size + 1) (.string ⟨#[]⟩) (.slice none 0 0) (.int .i64 0) (.slice none 0 0) ∧ OwnC W' (w.heap.size + 2) (.slice (some ⟨g, 0, none⟩) cols.length c3) cols ∧ Below w.heap.size w W') := fun W W' h hb => ⟨(hb.cell (cell_lt h.1)).trans h.1, (hb.cell (cell_lt h.2.1)).trans h.2.1, (hb.cell (cell_lt h.2.2.1)).trans h.2.2.1, (hb.frozen (cell_lt h.2.2.1)).trans h.2.2.2.1, h.2.2.2.2.1.below hb, h.2.2.2.2.2.1.below hb, own_below h.2.2.2.2.2.2.1 hb, thn h.2.2.2.2.2.2.2 hb⟩
      have hset : ∀ W, (W.cell? ⟨w.heap.size, 1, none⟩ = some (.slice (some ⟨g, 0, none⟩) cols.length c3) ∧ W.cell? ⟨cb, 0, none⟩ = some (.string x.m) ∧ W.cell? ⟨g, j * 3, none⟩ = some (.string x.m) ∧ W.frozen? ⟨g, j * 3, none⟩ = false ∧ Bx4 W w.heap.size (.string m) (.slice (some ⟨g, 0, none⟩) cols.length c3) (.int .i64 key) (.slice iA idx.length ic) ∧ Bx4 W (w.heap.size + 1) (.string ⟨#[]⟩) (.slice none 0 0) (.int .i64 0) (.slice none 0 0) ∧ OwnC W (w.heap.size + 2) (.slice (some ⟨g, 0, none⟩) cols.length c3) cols ∧ Below w.heap.size w W) → ((W.setCell ⟨g, j * 3, none⟩ (.string x.m)).cell? ⟨w.heap.size, 1, none⟩ = some (.slice (some ⟨g, 0, none⟩) cols.length c3) ∧ (W.setCell ⟨g, j * 3, none⟩ (.string x.m)).cell? ⟨cb, 0, none⟩ = some (.string x.m) ∧ (W.setCell ⟨g, j * 3, none⟩ (.string x.m)).cell? ⟨g, j * 3, none⟩ = some (.string x.m) ∧ (W.setCell ⟨g, j * 3, none⟩ (.string x.m)).frozen? ⟨g, j * 3, none⟩ = false ∧ Bx4 (W.setCell ⟨g, j * 3, none⟩ (.string x.m)) w.heap.size (.string m) (.slice (some ⟨g, 0, none⟩) cols.length c3) (.int .i64 key) (.slice iA idx.length ic) ∧ Bx4 (W.setCell ⟨g, j * 3, none⟩ (.string x.m)) (w.heap.size + 1) (.string ⟨#[]⟩) (.slice none 0 0) (.int .i64 0) (.slice none 0 0) ∧ OwnC (W.setCell ⟨g, j * 3, none⟩ (.string x.m)) (w.heap.size + 2) (.slice (some ⟨g, 0, none⟩) cols.length c3) cols ∧ Below w.heap.size w (W.setCell ⟨g, j * 3, none⟩ (.string x.m))) := fun W h => by
        have hO := HAG.out _ h.2.2.2.2.2.2.1
        obtain ⟨e0, _, _, ef⟩ := HAT.out _ hO
        have hX := h.2.2.2.2.1.other ⟨g, j * 3, none⟩ (by simp; omega) (.string x.m)
        obtain ⟨_, y1, _⟩ := cells4 hX
        refine ⟨y1, ?_, e0, ef, hX, h.2.2.2.2.2.1.other ⟨g, j * 3, none⟩ (by simp; omega) (.string x.m), hO, below_set h.2.2.2.2.2.2.2 ⟨g, j * 3, none⟩ (by simp; omega) _⟩
        exact (World.cell?_setCells_out g [.string x.m] (j * 3) W ⟨cb, 0, none⟩ (fun e' _ => by have : cb = g := e'; omega)).trans h.2.1
      have hS0 : wa.drew.cell? ⟨w.heap.size, 1, none⟩ = some (.slice (some ⟨g, 0, none⟩) cols.length c3) ∧ wa.drew.cell? ⟨cb, 0, none⟩ = some (.string x.m) ∧ wa.drew.cell? ⟨g, j * 3, none⟩ = some (.string x.m) ∧ wa.drew.frozen? ⟨g, j * 3, none⟩ = false ∧ Bx4 wa.drew w.heap.size (.string m) (.slice (some ⟨g, 0, none⟩) cols.length c3) (.int .i64 key) (.slice iA idx.length ic) ∧ Bx4 wa.drew (w.heap.size + 1) (.string ⟨#[]⟩) (.slice none 0 0) (.int .i64 0) (.slice none 0 0) ∧ OwnC wa.drew (w.heap.size + 2) (.slice (some ⟨g, 0, none⟩) cols.length c3) cols ∧ Below w.heap.size w wa.drew := hbl wa wa.drew ⟨b1, q0, d0, fd, HXa.out, HYa.out, HOa.out, HBa.out⟩ (Below.refl _ _).drew
      have HSET := Lib.hid hset
      have HBL := Lib.hid hbl
      clear b0 b1 b2 b3 f0 f1 f2 f3 d0 d1 d2 fd q0 hset hbl
      have HSC := Lib.hid fun W => sClone_any x.m W hsz
      go_region_held3 (fun W => W.cell? ⟨w.heap.size, 1, none⟩ = some (.slice (some ⟨g, 0, none⟩) cols.length c3) ∧ W.cell? ⟨cb, 0, none⟩ = some (.string x.m) ∧ W.cell? ⟨g, j * 3, none⟩ = some (.string x.m) ∧ W.frozen? ⟨g, j * 3, none⟩ = false ∧ Bx4 W w.heap.size (.string m) (.slice (some ⟨g, 0, none⟩) cols.length c3) (.int .i64 key) (.slice iA idx.length ic) ∧ Bx4 W (w.heap.size + 1) (.string ⟨#[]⟩) (.slice none 0 0) (.int .i64 0) (.slice none 0 0) ∧ OwnC W (w.heap.size + 2) (.slice (some ⟨g, 0, none⟩) cols.length c3) cols ∧ Below w.heap.size w W)
        (first | with_reducible exact hS | with_reducible exact hS0 | with_reducible exact HSET.out _ hS | assumption)
        ((go_at_call 32; (with_reducible refine (HSC.out _).mono ?_); rintro e v5 ⟨rfl, hb⟩; have hS : v5.cell? ⟨w.heap.size, 1, none⟩ = some (.slice (some ⟨g, 0, none⟩) cols.length c3) ∧ v5.cell? ⟨cb, 0, none⟩ = some (.string x.m) ∧ v5.cell? ⟨g, j * 3, none⟩ = some (.string x.m) ∧ v5.frozen? ⟨g, j * 3, none⟩ = false ∧ Bx4 v5 w.heap.size (.string m) (.slice (some ⟨g, 0, none⟩) cols.length c3) (.int .i64 key) (.slice iA idx.length ic) ∧ Bx4 v5 (w.heap.size + 1) (.string ⟨#[]⟩) (.slice none 0 0) (.int .i64 0) (.slice none 0 0) ∧ OwnC v5 (w.heap.size + 2) (.slice (some ⟨g, 0, none⟩) cols.length c3) cols ∧ Below w.heap.size w v5 := HBL.out _ _ hS0 hb; clear hb))
      all_goals
        have HS := Lib.hid (HSET.out _ hS)
        clear hS hS0 HSET HBL
        go_wp2
        go_roundw
        case rel => exact ⟨j + 1, by go_num, hlt, HS.out.2.2.2.2.1, HS.out.2.2.2.2.2.1, HS.out.2.2.2.2.2.2.1, HS.out.2.2.2.2.2.2.2⟩
        case measure => simp [intOf]; omega
    · obtain rfl : j = cols.length := by omega
      obtain ⟨b0, b1, b2, b3, f0, f1, f2, f3⟩ := cells4 HXr.out
      have hz2 := HYr.out.lt
      go_upto_region 9 with (go_at_call 49; (with_reducible refine (HKX.out _ HBr.out).mono ?_); rintro e w6 ⟨v6, rfl, ho, hb⟩; obtain ⟨A6, c6, rfl, hA6⟩ := ownX_form ho; have HO6 := Lib.hid (own_le ho (show w.heap.size + 2 ≤ wr.heap.size from hz2)); have HX6 := Lib.hid (HXr.out.below hb); have HY6 := Lib.hid (HYr.out.below hb); have HC6 := Lib.hid (own_below HOr.out hb); have HB6 := Lib.hid (thn HBr.out hb); obtain ⟨b0, b1, b2, b3, f0, f1, f2, f3⟩ := cells4 HX6.out; clear hb ho)
      have hX7 := HX6.out.set3 (.slice A6 idx.length c6)
      have hY7 := HY6.out.other ⟨w.heap.size, 3, none⟩ (by simp) (.slice A6 idx.length c6)
      have hB7 := below_set HB6.out ⟨w.heap.size, 3, none⟩ (by simp) (.slice A6 idx.length c6)
      have hO7 := ownX_set (o := 3) HO6.out HX6.out (by decide) (.slice A6 idx.length c6)
      have hC7 := ownC_set (o := 3) HC6.out HX6.out (by decide) (.slice A6 idx.length c6)
      clear b0 b1 b2 b3 f0 f1 f2 f3 HX6 HY6 HB6 HO6 HC6 HXr HYr HBr HOr hz2
      generalize w6.setCell ⟨w.heap.size, 3, none⟩ (.slice A6 idx.length c6) = w7 at hX7 hY7 hB7 hO7 hC7 ⊢
      have HX7 := Lib.hid hX7
      have HY7 := Lib.hid hY7
      have HB7 := Lib.hid hB7
      have HO7 := Lib.hid hO7
      have HC7 := Lib.hid hC7
      obtain ⟨b0, b1, b2, b3, f0, f1, f2, f3⟩ := cells4 hX7
      clear hX7 hY7 hB7 hO7 hC7
      go_wp2
      go_loopw [5, 6, 39] (fun _ _ i wr => ∃ j : Nat, i = .int .i64 j ∧ j ≤ idx.length ∧ Bx4 wr w.heap.size (.string m) (.slice A3 cols.length c3) (.int .i64 key) (.slice A6 idx.length c6) ∧ Bx4 wr (w.heap.size + 1) (.string ⟨#[]⟩) (.slice none 0 0) (.int .i64 0) (.slice none 0 0) ∧ OwnX wr (w.heap.size + 2) (.slice A6 idx.length c6) idx ∧ OwnC wr (w.heap.size + 2) (.slice A3 cols.length c3) cols ∧ Below w.heap.size w wr) (fun _ _ i _ => idx.length - (intOf i).toNat)
      case atStart => exact ⟨0, rfl, by omega, HX7.out, HY7.out, HO7.out, HC7.out, HB7.out⟩
      case round =>
        obtain ⟨j, rfl, hj, hX, hY, hO, hC, hB⟩ := hrel
        have HCr := Lib.hid hC
        have HXr := Lib.hid hX
        have HYr := Lib.hid hY
        have HOr := Lib.hid hO
        have HBr := Lib.hid hB
        clear hX hY hO hC hB b0 b1 b2 b3 f0 f1 f2 f3
        by_cases hlt : j < idx.length
        · obtain ⟨g, cap, ef⟩ := Go.Joins.ownsRow_form HOr.out (by omega)
          injection ef with ef1 _ ef2
          subst ef1 ef2
          obtain ⟨d0, d1, fd⟩ := HOr.out.at_ hlt
          have hgl : g < wr.heap.size := cell_lt d0
          have hgB : w.heap.size + 2 ≤ g := (HOr.out.lt g rfl).1
          have hlt' : (j : Int) < (idx.length : Int) := by omega
          have hsz := HXM.out _ (List.getElem_mem hlt)
          have hag := fun (W : World) (h : OwnX W (w.heap.size + 2) (.slice (some ⟨g, 0, none⟩) idx.length c6) idx) => h.again hlt
          have hat := fun (W : World) (h : OwnX W (w.heap.size + 2) (.slice (some ⟨g, 0, none⟩) idx.length c6) idx) => h.at_ hlt
          generalize idx[j] = x at d0 d1 hsz hag hat
          have HAG := Lib.hid hag
          have HAT := Lib.hid hat
          clear hag hat
          go_upto_region 12 with fail
          have ha := below1 wr (.cells #[.string x.m, .int .i64 x.c] 81)
          have HXa := Lib.hid (HXr.out.below ha)
          have HYa := Lib.hid (HYr.out.below ha)
          have HOa := Lib.hid (own_below HOr.out ha)
          have HBa := Lib.hid (thn HBr.out ha)
          have HCa := Lib.hid (own_below HCr.out ha)
          have q0 : (wr.alloc (.cells #[.string x.m, .int .i64 x.c] 81)).cell? ⟨wr.heap.size, 0, none⟩ = some (.string x.m) := by rw [cell_last _ _ _ _ _ rfl]; rfl
          obtain ⟨d0, d1, fd⟩ := HAT.out _ HOa.out
          obtain ⟨b0, b1, b2, b3, f0, f1, f2, f3⟩ := cells4 HXa.out
          clear ha HXr HYr HOr HBr HCr
          generalize wr.alloc (.cells #[.string x.m, .int .i64 x.c] 81) = wa at *
          generalize wr.heap.size = cb at *
          have hbl : ∀ W W', (W.cell? ⟨w.heap.size, 3, none⟩ = some (.slice (some ⟨g, 0, none⟩) idx.length c6) ∧ W.cell? ⟨cb, 0, none⟩ = some (.string x.m) ∧ W.cell? ⟨g, j * 2, none⟩ = some (.string x.m) ∧ W.frozen? ⟨g, j * 2, none⟩ = false ∧ Bx4 W w.heap.size (.string m) (.slice A3 cols.length c3) (.int .i64 key) (.slice (some ⟨g, 0, none⟩) idx.length c6) ∧ Bx4 W (w.heap.size + 1) (.string ⟨#[]⟩) (.slice none 0 0) (.int .i64 0) (.slice none 0 0) ∧ OwnX W (w.heap.size + 2) (.slice (some ⟨g, 0, none⟩) idx.length c6) idx ∧ OwnC W (w.heap.size + 2) (.slice A3 cols.length c3) cols ∧ Below w.heap.size w W) → Below W.heap.size W W' → (W'.cell? ⟨w.heap.size, 3, none⟩ = some (.slice (some ⟨g, 0, none⟩) idx.length c6) ∧ W'.cell? ⟨cb, 0, none⟩ = some (.string x.m) ∧ W'.cell? ⟨g, j * 2, none⟩ = some (.string x.m) ∧ W'.frozen? ⟨g, j * 2, none⟩ = false ∧ Bx4 W' w.heap.size (.string m) (.slice A3 cols.length c3) (.int .i64 key) (.slice (some ⟨g, 0, none⟩) idx.length c6) ∧ Bx4 W' (w.heap.size + 1) (.string ⟨#[]⟩) (.slice none 0 0) (.int .i64 0) (.slice none 0 0) ∧ OwnX W' (w.heap.size + 2) (.slice (some ⟨g, 0, none⟩) idx.length c6) idx ∧ OwnC W' (w.heap.size + 2) (.slice A3 cols.length c3) cols ∧ Below w.heap.size w W') := fun W W' h hb => ⟨(hb.cell (cell_lt h.1)).trans h.1, (hb.cell (cell_lt h.2.1)).trans h.2.1, (hb.cell (cell_lt h.2.2.1)).trans h.2.2.1, (hb.frozen (cell_lt h.2.2.1)).trans h.2.2.2.1, h.2.2.2.2.1.below hb, h.2.2.2.2.2.1.below hb, own_below h.2.2.2.2.2.2.1 hb, own_below h.2.2.2.2.2.2.2.1 hb, thn h.2.2.2.2.2.2.2.2 hb⟩
          have hset : ∀ W, (W.cell? ⟨w.heap.size, 3, none⟩ = some (.slice (some ⟨g, 0, none⟩) idx.length c6) ∧ W.cell? ⟨cb, 0, none⟩ = some (.string x.m) ∧ W.cell? ⟨g, j * 2, none⟩ = some (.string x.m) ∧ W.frozen? ⟨g, j * 2, none⟩ = false ∧ Bx4 W w.heap.size (.string m) (.slice A3 cols.length c3) (.int .i64 key) (.slice (some ⟨g, 0, none⟩) idx.length c6) ∧ Bx4 W (w.heap.size + 1) (.string ⟨#[]⟩) (.slice none 0 0) (.int .i64 0) (.slice none 0 0) ∧ OwnX W (w.heap.size + 2) (.slice (some ⟨g, 0, none⟩) idx.length c6) idx ∧ OwnC W (w.heap.size + 2) (.slice A3 cols.length c3) cols ∧ Below w.heap.size w W) → ((W.setCell ⟨g, j * 2, none⟩ (.string x.m)).cell? ⟨w.heap.size, 3, none⟩ = some (.slice (some ⟨g, 0, none⟩) idx.length c6) ∧ (W.setCell ⟨g, j * 2, none⟩ (.string x.m)).cell? ⟨cb, 0, none⟩ = some (.string x.m) ∧ (W.setCell ⟨g, j * 2, none⟩ (.string x.m)).cell? ⟨g, j * 2, none⟩ = some (.string x.m) ∧ (W.setCell ⟨g, j * 2, none⟩ (.string x.m)).frozen? ⟨g, j * 2, none⟩ = false ∧ Bx4 (W.setCell ⟨g, j * 2, none⟩ (.string x.m)) w.heap.size (.string m) (.slice A3 cols.length c3) (.int .i64 key) (.slice (some ⟨g, 0, none⟩) idx.length c6) ∧ Bx4 (W.setCell ⟨g, j * 2, none⟩ (.string x.m)) (w.heap.size + 1) (.string ⟨#[]⟩) (.slice none 0 0) (.int .i64 0) (.slice none 0 0) ∧ OwnX (W.setCell ⟨g, j * 2, none⟩ (.string x.m)) (w.heap.size + 2) (.slice (some ⟨g, 0, none⟩) idx.length c6) idx ∧ OwnC (W.setCell ⟨g, j * 2, none⟩ (.string x.m)) (w.heap.size + 2) (.slice A3 cols.length c3) cols ∧ Below w.heap.size w (W.setCell ⟨g, j * 2, none⟩ (.string x.m))) := fun W h => by
            have hO := HAG.out _ h.2.2.2.2.2.2.1
            obtain ⟨e0, _, ef⟩ := HAT.out _ hO
            have hX := h.2.2.2.2.1.other ⟨g, j * 2, none⟩ (by simp; omega) (.string x.m)
            obtain ⟨_, _, _, y1, _⟩ := cells4 hX
            refine ⟨y1, ?_, e0, ef, hX, h.2.2.2.2.2.1.other ⟨g, j * 2, none⟩ (by simp; omega) (.string x.m), hO, h.2.2.2.2.2.2.2.1.kept (grown_setCell W g (j * 2) _) (own_apart h.2.2.2.2.2.2.2.1 h.2.2.2.2.2.2.1), below_set h.2.2.2.2.2.2.2.2 ⟨g, j * 2, none⟩ (by simp; omega) _⟩
            exact (World.cell?_setCells_out g [.string x.m] (j * 2) W ⟨cb, 0, none⟩ (fun e' _ => by have : cb = g := e'; omega)).trans h.2.1
          have hS0 : wa.drew.cell? ⟨w.heap.size, 3, none⟩ = some (.slice (some ⟨g, 0, none⟩) idx.length c6) ∧ wa.drew.cell? ⟨cb, 0, none⟩ = some (.string x.m) ∧ wa.drew.cell? ⟨g, j * 2, none⟩ = some (.string x.m) ∧ wa.drew.frozen? ⟨g, j * 2, none⟩ = false ∧ Bx4 wa.drew w.heap.size (.string m) (.slice A3 cols.length c3) (.int .i64 key) (.slice (some ⟨g, 0, none⟩) idx.length c6) ∧ Bx4 wa.drew (w.heap.size + 1) (.string ⟨#[]⟩) (.slice none 0 0) (.int .i64 0) (.slice none 0 0) ∧ OwnX wa.drew (w.heap.size + 2) (.slice (some ⟨g, 0, none⟩) idx.length c6) idx ∧ OwnC wa.drew (w.heap.size + 2) (.slice A3 cols.length c3) cols ∧ Below w.heap.size w wa.drew := hbl wa wa.drew ⟨b3, q0, d0, fd, HXa.out, HYa.out, HOa.out, HCa.out, HBa.out⟩ (Below.refl _ _).drew
          have HSET := Lib.hid hset
          have HBL := Lib.hid hbl
          clear b0 b1 b2 b3 f0 f1 f2 f3 d0 d1 fd q0 hset hbl
          have HSC := Lib.hid fun W => sClone_any x.m W hsz
          go_region_held3 (fun W => W.cell? ⟨w.heap.size, 3, none⟩ = some (.slice (some ⟨g, 0, none⟩) idx.length c6) ∧ W.cell? ⟨cb, 0, none⟩ = some (.string x.m) ∧ W.cell? ⟨g, j * 2, none⟩ = some (.string x.m) ∧ W.frozen? ⟨g, j * 2, none⟩ = false ∧ Bx4 W w.heap.size (.string m) (.slice A3 cols.length c3) (.int .i64 key) (.slice (some ⟨g, 0, none⟩) idx.length c6) ∧ Bx4 W (w.heap.size + 1) (.string ⟨#[]⟩) (.slice none 0 0) (.int .i64 0) (.slice none 0 0) ∧ OwnX W (w.heap.size + 2) (.slice (some ⟨g, 0, none⟩) idx.length c6) idx ∧ OwnC W (w.heap.size + 2) (.slice A3 cols.length c3) cols ∧ Below w.heap.size w W)
            (first | with_reducible exact hS | with_reducible exact hS0 | with_reducible exact HSET.out _ hS | assumption)
            ((go_at_call 32; (with_reducible refine (HSC.out _).mono ?_); rintro e v5 ⟨rfl, hb⟩; have hS : v5.cell? ⟨w.heap.size, 3, none⟩ = some (.slice (some ⟨g, 0, none⟩) idx.length c6) ∧ v5.cell? ⟨cb, 0, none⟩ = some (.string x.m) ∧ v5.cell? ⟨g, j * 2, none⟩ = some (.string x.m) ∧ v5.frozen? ⟨g, j * 2, none⟩ = false ∧ Bx4 v5 w.heap.size (.string m) (.slice A3 cols.length c3) (.int .i64 key) (.slice (some ⟨g, 0, none⟩) idx.length c6) ∧ Bx4 v5 (w.heap.size + 1) (.string ⟨#[]⟩) (.slice none 0 0) (.int .i64 0) (.slice none 0 0) ∧ OwnX v5 (w.heap.size + 2) (.slice (some ⟨g, 0, none⟩) idx.length c6) idx ∧ OwnC v5 (w.heap.size + 2) (.slice A3 cols.length c3) cols ∧ Below w.heap.size w v5 := HBL.out _ _ hS0 hb; clear hb))
          all_goals
            have HS := Lib.hid (HSET.out _ hS)
            clear hS hS0 HSET HBL
            go_wp2
            go_roundw
            case rel => exact ⟨j + 1, by go_num, hlt, HS.out.2.2.2.2.1, HS.out.2.2.2.2.2.1, HS.out.2.2.2.2.2.2.1, HS.out.2.2.2.2.2.2.2.1, HS.out.2.2.2.2.2.2.2.2⟩
            case measure => simp [intOf]; omega
        · obtain ⟨b0, b1, b2, b3, _, _, _, _⟩ := cells4 HXr.out
          obtain ⟨d0, d1, d2, d3, f0, f1, f2, f3⟩ := cells4 HYr.out
          have hC9 : OwnC (wr.setCells (w.heap.size + 1) 0 [.string m, .slice A3 cols.length c3, .int .i64 key, .slice A6 idx.length c6]) (w.heap.size + 2) (.slice A3 cols.length c3) cols := HCr.out.kept (grown_setCells (w.heap.size + 1) _ 0 wr) (by
            cases hv : (Value.slice A3 cols.length c3).ownBlock with
            | none => exact .inl rfl
            | some k => exact .inr (fun e => own_ne HCr.out HYr.out (by decide) (by rw [hv, e])))
          have hX9 : OwnX (wr.setCells (w.heap.size + 1) 0 [.string m, .slice A3 cols.length c3, .int .i64 key, .slice A6 idx.length c6]) (w.heap.size + 2) (.slice A6 idx.length c6) idx := HOr.out.kept (grown_setCells (w.heap.size + 1) _ 0 wr) (by
            cases hv : (Value.slice A6 idx.length c6).ownBlock with
            | none => exact .inl rfl
            | some k => exact .inr (fun e => own_ne HOr.out HYr.out (by decide) (by rw [hv, e])))
          have hB9 : Below w.heap.size w (wr.setCells (w.heap.size + 1) 0 [.string m, .slice A3 cols.length c3, .int .i64 key, .slice A6 idx.length c6]) := below_cells (by omega) _ _ HBr.out
          have HC9 := Lib.hid hC9
          have HX9 := Lib.hid hX9
          have HB9 := Lib.hid hB9
          clear hC9 hX9 hB9
          go_wp2
          exact bodyPost_ret (v := tbl m A3 cols.length c3 key A6 idx.length c6) (by simp [results, Try.results24, go_sem, d0, d1, d2, d3]) rfl ⟨A3, c3, A6, c6, rfl, own_le HC9.out (by omega), own_le HX9.out (by omega), HB9.out⟩
end Go.Proofs.Ytddeaiciochggaa
