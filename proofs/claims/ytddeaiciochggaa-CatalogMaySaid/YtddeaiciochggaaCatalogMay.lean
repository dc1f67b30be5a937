/- For any catalog and any two statements CatalogMay answers true (the catalog that follows may be; a table that was made is found, one that was dropped is not), and all three read as before. No conditions. -/
import Derived.Test.YtddeaiciochggaaNm
import Derived.Test.YtddeaiciochggaaNn
import Derived.Test.YtddeaiciochggaaNs
import Derived.Test.YtddeaiciochggaaNr
import Derived.Test.YtddeaiciochggaaNq
import Derived.StillTailTactics
import Derived.Test.YtddeaiciochggaaNy
/- What slices.Insert makes of tables of the call's own, at their end: the walk. Conditions: at most a hundred tables. -/
namespace Go.Proofs.Ytddeaiciochggaa
open Go.RowKit Go.Sort Go.Maps
set_option linter.unusedSimpArgs false
set_option linter.unusedVariables false

set_option maxRecDepth 100000 in
set_option maxHeartbeats 4000000 in
theorem insert_endT (n : Nat) (hn : n ≤ 100) (W : World) (B : Nat) (v : Value) (xs : List Tr) (y : Tr) (p : Nat) (hl : xs.length = n) (ht : Tbs W B v xs) (hy : TrO W B y) (hB : B ≤ W.heap.size) (hc : ∀ j u, (trC y)[j]? = some u → W.cell? ⟨p, j, none⟩ = some u) :
    Calls Try.prog 27 #[v, .int .i64 n, .slice (some ⟨p, 0, none⟩) 1 1] W fun e w' => ∃ v', e = .returned v' ∧ Tbs w' B v' (xs ++ [y]) ∧ W.grownBy w' v.ownBlock := by
  subst hl
  obtain ⟨i0, hi, hz0, hz1, hz2⟩ := info_parts Try.infoT
  have HT := Lib.hid ht
  have HY := Lib.hid hy
  have HC := Lib.hid hc
  have hne : ¬ ((1 : Int) = 0) := by decide
  have hone : ∀ u ∈ trC y, u.oneCell' = true := fun u hu => by
    simp [trC] at hu
    rcases hu with rfl | rfl | rfl | rfl <;> rfl
  rcases Go.Joins.ownsRow_forms ht.own with ⟨rfl, h0⟩ | ⟨g, cap, rfl⟩
  · have : xs = [] := List.eq_nil_of_length_eq_zero h0
    subst this
    clear ht hy hc h0
    go_enter Try.func27, Try.ntmps27
    go_wp2_with (at_builtin; refine wpList_append_own_at _ rfl _ _ 33 rfl B 47 i0 (.agg #[.string ⟨#[]⟩, .slice none 0 0, .int .i64 0, .slice none 0 0]) 4 72 Try.underlying33 hi hz0 hz1 hz2 rfl (by decide) _ _ _ rfl HT.out.own ⟨p, 0, none⟩ 1 1 (trC y) rfl rfl ?c1 hone ?c3 ?c4 hB ?_)
    case c1 => exact fun j u hj => by rw [add_lit, Nat.zero_add]; exact HC.out j u hj
    case c3 => unfold maxLen; decide
    case c4 => decide
    intro v' w' hown' hg _ _
    have HM := Lib.hid (HT.out.more HY.out hown' hg)
    clear hown'
    go_wp2
    go_ret
    exact ⟨_, rfl, HM.out, hg⟩
  · have hcp : xs.length ≤ cap ∧ cap ≤ 9223372036854775807 := by
      rcases ht.own.2 with ⟨h', _⟩ | ⟨g', cap', cur, h', _, _, h2, h3, _⟩
      · cases h'
      · injection h' with _ _ h'
        subst h'
        exact ⟨h2, by unfold maxLen at h3; omega⟩
    obtain ⟨hc1, hc2⟩ := hcp
    clear ht hy hc
    by_cases hcap : cap = xs.length
    all_goals
      go_enter Try.func27, Try.ntmps27
      go_wp2_with (at_builtin; refine wpList_append_own_at _ rfl _ _ 33 rfl B 47 i0 (.agg #[.string ⟨#[]⟩, .slice none 0 0, .int .i64 0, .slice none 0 0]) 4 72 Try.underlying33 hi hz0 hz1 hz2 rfl (by decide) _ _ _ rfl HT.out.own ⟨p, 0, none⟩ 1 1 (trC y) rfl rfl ?c1 hone ?c3 ?c4 hB ?_)
      case c1 => exact fun j u hj => by rw [add_lit, Nat.zero_add]; exact HC.out j u hj
      case c3 => unfold maxLen; omega
      case c4 => omega
      intro v' w' hown' hg _ _
      have HM := Lib.hid (HT.out.more HY.out hown' hg)
      clear hown'
      go_wp2
      go_ret
      exact ⟨_, rfl, HM.out, hg⟩
theorem row_cells {w : World} {p : Nat} {y : Tr} (h : w.heap[p]? = some (.cells (trC y).toArray 47 (0, 0))) : ∀ j u, (trC y)[j]? = some u → w.cell? ⟨p, j, none⟩ = some u := fun j u hu => by
  rw [cell_of_row w p j _ _ (0, 0) h]
  simpa using hu
theorem insOk_zero : InsOk 0 := fun W B i v xs y p hl hi ht hy hB hc _ => by
  have e : i = 0 := by omega
  subst e
  have hx : xs = [] := List.eq_nil_of_length_eq_zero hl
  subst hx
  exact insert_endT 0 (by omega) W B v [] y p rfl ht hy hB (row_cells hc)
end Go.Proofs.Ytddeaiciochggaa
/- The statements' own example: alive: the walk. Conditions: none. -/
namespace Go.Proofs.Ytddeaiciochggaa
open Go.RowKit Go.Sort Go.Maps
set_option linter.unusedSimpArgs false
set_option linter.unusedVariables false

theorem num_any (n : Int) (w : World) : Calls Try.prog 8 #[.int .i64 n] w fun e w' => e = .returned (.int .i64 n) ∧ w = w' := by
  go_enter Try.func8, Try.ntmps8
  go_wp2
  go_ret
  exact ⟨rfl, rfl⟩
def x0 : Sy.St 0 := ⟨1, ⟨#[116]⟩, [⟨⟨#[97]⟩, 1, false⟩], ⟨#[97]⟩, ⟨#[]⟩, [], [], [], ⟨#[]⟩, [], [], [], [], 0⟩
def h0 (g : Nat) : Sy.Hs := ⟨⟨some ⟨g, 0, none⟩, 1⟩, ⟨none, 0⟩, ⟨none, 0⟩, ⟨none, 0⟩, ⟨none, 0⟩, ⟨none, 0⟩, ⟨none, 0⟩, ⟨none, 0⟩⟩
def t0 : Tb := ⟨⟨#[116]⟩, [⟨⟨#[97]⟩, 1, true⟩], 0, []⟩
theorem cre_alive : creF [] x0 = (0, [t0]) := by kernel_rfl
theorem rd_alive (w : World) (g : Nat) (hg : g = w.heap.size) : Sy.RdSt Sy.Any (w.alloc (.cells #[.string ⟨#[97]⟩, .int .i64 1, .bool false] 59)) x0 (h0 g) := by
  subst hg
  refine ⟨⟨⟨(fun e => by cases e), Nat.le_refl 1, show 1 ≤ 9223372036854775807 by decide⟩, by decide, fun ad e j y hj => ?_⟩, Sy.RdK_nil _ _ _, Sy.RdK_nil _ _ _, Sy.RdK_nil _ _ _, Sy.RdK_nil _ _ _, Sy.RdK_nil _ _ _, Sy.RdK_nil _ _ _, Sy.RdK_nil _ _ _⟩
  injection e with e
  subst e
  match j, hj with
  | 0, hj =>
    injection hj with hj
    subst hj
    refine ⟨trivial, none, 0, fun i v hv => ?_, trivial⟩
    match i, hv with
    | 0, hv => injection hv with hv; subst hv; rw [add_lit, cell_last _ _ _ _ _ rfl]; rfl
    | 1, hv => injection hv with hv; subst hv; rw [add_lit, cell_last _ _ _ _ _ rfl]; rfl
    | 2, hv => injection hv with hv; subst hv; rw [add_lit, cell_last _ _ _ _ _ rfl]; rfl
    | i + 3, hv => cases hv
  | j + 1, hj => cases hj
theorem of_one {xs : List Tr} {t : Tb} (h : xs.map Tr.t = [t]) : ∀ y ∈ xs, y.t = t := fun y hy => by
  have h1 := List.mem_map_of_mem (f := Tr.t) hy
  rw [h] at h1
  simpa using h1
theorem create_0 (w : World) : Calls Try.prog 6 #[.agg #[.slice none 0 0], .agg #[.int .i64 1, .string ⟨#[116]⟩, .slice (some ⟨w.heap.size, 0, none⟩) 1 1, .string ⟨#[97]⟩, .string ⟨#[]⟩, .slice none 0 0, .slice none 0 0, .slice none 0 0, .string ⟨#[]⟩, .slice none 0 0, .slice none 0 0, .slice none 0 0, .slice none 0 0, .int .i64 0]] (w.alloc (.cells #[.string ⟨#[97]⟩, .int .i64 1, .bool false] 59)) (ChgPost (w.alloc (.cells #[.string ⟨#[97]⟩, .int .i64 1, .bool false] 59)) (0, [t0])) := by
  have h := create_any none 0 [] x0 (h0 w.heap.size) (w.alloc (.cells #[.string ⟨#[97]⟩, .int .i64 1, .bool false] 59)) (fun e => absurd rfl e) (by decide) (rd_alive w _ rfl) (fun _ => insOk_zero)
  rw [cre_alive] at h
  exact h

set_option maxRecDepth 100000 in
set_option maxHeartbeats 4000000 in
theorem alive_any (w : World) : Calls Try.prog 5 #[] w fun e w' => e = .returned (.bool true) ∧ Below w.heap.size w w' := by
  have HC := Lib.hid (create_0 w)
  have HB1 := Lib.hid (below1 w (.cells #[.string ⟨#[97]⟩, .int .i64 1, .bool false] 59))
  go_enter Try.func5, Try.ntmps5
  go_upto_region 2 with (go_at_call 6; (with_reducible refine HC.out.mono ?_); intro e w2 hp; obtain ⟨v, xs, he, htb, hxs⟩ := hp.2.1 rfl; have hb := thn HB1.out hp.2.2; subst he; have htb2 := htb; obtain ⟨A2, c2, rfl, hrd, _⟩ := htb2.rd (fun y hy => by rw [of_one hxs y hy]; exact ⟨by decide, by decide⟩); rw [hxs] at hrd ⊢; have HRD := Lib.hid hrd; have HB2 := Lib.hid hb; clear hp htb htb2 hxs hrd hb)
  have hb3 := below1 w2 (.cells #[.slice A2 1 c2] 35)
  have HB3 := Lib.hid (thn HB2.out hb3)
  have q0 := cell_of_box (w := w2) (v := .slice A2 1 c2) (T := 35) rfl (Below.refl _ _)
  obtain ⟨ad, e, cA, iA, cc, ic, k0, k1, k2, k3, hT⟩ := (HRD.out.below hb3).at_ (j := 0) (by decide)
  subst e
  obtain ⟨bd, e1, m0, m1, m2⟩ := hT.c.at_ (j := 0) (by decide)
  subst e1
  rw [Nat.zero_mul, add0] at k0 k1 k2 k3 m0 m1 m2
  have k1' : (w2.alloc (.cells #[.slice (some ad) 1 c2] 35)).cell? ⟨ad.block, ad.off + 1, none⟩ = some (.slice (some bd) 1 cc) := k1
  have m2' : (w2.alloc (.cells #[.slice (some ad) 1 c2] 35)).cell? ⟨bd.block, bd.off + 2, none⟩ = some (.bool true) := m2
  clear k0 k1 k2 k3 m0 m1 m2 hT
  go_wp2_with (go_at_call 8; refine (num_any _ _).mono ?_; rintro e w9 ⟨rfl, rfl⟩)
  go_ret
  exact ⟨rfl, HB3.out⟩
end Go.Proofs.Ytddeaiciochggaa
/- What Add makes of a catalog: plain mathematics; tables whose indexes are put anew. Conditions: none. -/
namespace Go.Proofs.Ytddeaiciochggaa
open Go.RowKit Go.Sort Go.Maps
set_option linter.unusedSimpArgs false
set_option linter.unusedVariables false

def addT (t : Tb) (s : ByteArray) (k : Int) : Tb := ⟨t.m, t.cols, t.key, t.idx ++ [⟨s, k⟩]⟩
/-- What Add makes. -/
def addF {n : Nat} (ls : List Tb) (x : Sy.St n) : Int × List Tb :=
  if askF ls x 2 ≠ 0 then (askF ls x 2, []) else
  if isT ls x.tb = false then (93, []) else
  match ls[posT ls x.tb]? with
  | none => (93, [])
  | some t => if t.cols.any (isC x.key) = false then (94, []) else if ls.any (hasX x.ix) = true then (6, []) else if t.idx.length = 4 then (51, []) else (0, ls.set (posT ls x.tb) (addT t x.ix (fst1 (isC x.key) t.cols)))
theorem isX_self (s : ByteArray) (k : Int) : isX s ⟨s, k⟩ = true := by
  unfold isX; exact beq_self_eq_true _
/-- What is so of an index that was made. -/
structure Added {n : Nat} (ls : List Tb) (x : Sy.St n) (hp : posT ls x.tb < ls.length) : Prop where
  ask : askF ls x 2 = 0
  there : isT ls x.tb = true
  col : ls[posT ls x.tb].cols.any (isC x.key) = true
  new : ls.any (hasX x.ix) = false
  few : ls[posT ls x.tb].idx.length ≠ 4
  eq : addF ls x = (0, ls.set (posT ls x.tb) (addT ls[posT ls x.tb] x.ix (fst1 (isC x.key) ls[posT ls x.tb].cols)))
theorem addF_at {n : Nat} {ls : List Tb} {x : Sy.St n} (h1 : askF ls x 2 = 0) (h2 : isT ls x.tb = true) (hp : posT ls x.tb < ls.length) : addF ls x = if ls[posT ls x.tb].cols.any (isC x.key) = false then (94, []) else if ls.any (hasX x.ix) = true then (6, []) else if ls[posT ls x.tb].idx.length = 4 then (51, []) else (0, ls.set (posT ls x.tb) (addT ls[posT ls x.tb] x.ix (fst1 (isC x.key) ls[posT ls x.tb].cols))) := by
  unfold addF
  rw [if_neg (by simp [h1]), if_neg (by simp [h2]), List.getElem?_eq_getElem hp]
theorem addF_ok {n : Nat} {ls : List Tb} {x : Sy.St n} (h : (addF ls x).1 = 0) : ∃ hp, Added ls x hp := by
  by_cases h1 : askF ls x 2 = 0
  · cases h2 : isT ls x.tb
    · exfalso
      unfold addF at h
      rw [if_neg (by simp [h1]), if_pos h2] at h
      exact absurd h (by decide)
    · obtain ⟨hp, _⟩ := isT_get h2
      have e := addF_at h1 h2 hp
      rw [e] at h
      by_cases h3 : ls[posT ls x.tb].cols.any (isC x.key) = false
      · rw [if_pos h3] at h
        exact absurd h (by decide)
      rw [if_neg h3] at h e
      by_cases h4 : ls.any (hasX x.ix) = true
      · rw [if_pos h4] at h
        exact absurd h (by decide)
      rw [if_neg h4] at h e
      by_cases h5 : ls[posT ls x.tb].idx.length = 4
      · rw [if_pos h5] at h
        exact absurd h (by simp)
      rw [if_neg h5] at e
      exact ⟨hp, h1, h2, by simpa using h3, by simpa using h4, h5, e⟩
  · exfalso
    unfold addF at h
    rw [if_pos h1] at h
    exact absurd h h1
/-- An index's name is taken once. -/
theorem add_again {n m : Nat} {ls : List Tb} {x : Sy.St n} {y : Sy.St m} (h : (addF ls x).1 = 0) (hix : y.ix = x.ix) : (addF (addF ls x).2 y).1 ≠ 0 := by
  intro h0
  obtain ⟨hp, ha⟩ := addF_ok h
  obtain ⟨_, hb⟩ := addF_ok h0
  have h1 := hb.new
  rw [ha.eq, hix] at h1
  have h2 : (ls.set (posT ls x.tb) (addT ls[posT ls x.tb] x.ix (fst1 (isC x.key) ls[posT ls x.tb].cols))).any (hasX x.ix) = true := by
    refine List.any_eq_true.2 ⟨_, List.mem_iff_getElem.2 ⟨posT ls x.tb, by simpa using hp, List.getElem_set_self _⟩, ?_⟩
    unfold hasX addT
    simp [isX_self]
  exact absurd (h1.symm.trans h2) (by decide)
/-- What is so of a statement that makes an index. -/
structure Mk2 {n : Nat} (x : Sy.St n) : Prop where
  tb : nameB x.tb = true
  key : nameB x.key = true
  ix : nameB x.ix = true
theorem mk2_of {n : Nat} {x : Sy.St n} (hk : x.kind = 2) (h : Sy.chkSt x = 0) : Mk2 x := by
  obtain ⟨h1, h2, h3⟩ := formed_parts (chkSt_formed h)
  rw [hk] at h1
  simp only [Sy.namedB, Bool.and_eq_true] at h1
  exact ⟨hasNm_one h1.1.1.1, hasNm_one h1.1.1.2, hasNm_one h1.1.2⟩
theorem trC_set : ∀ (xs : List Tr) (i : Nat) (hi : i < xs.length) (A : Option Addr) (c : Nat) (l : List Ix), (xs.flatMap trC).set (i * 4 + 3) (.slice A l.length c) = (xs.set i ⟨⟨xs[i].t.m, xs[i].t.cols, xs[i].t.key, l⟩, xs[i].A, xs[i].c, A, c⟩).flatMap trC
  | a :: xs, 0, _, A, c, l => by simp [trC]
  | a :: xs, i + 1, hi, A, c, l => by
    have ih := trC_set xs i (by simpa using hi) A c l
    simp only [List.flatMap_cons, List.set_cons_succ, List.getElem_cons_succ]
    rw [← ih]
    have e : (i + 1) * 4 + 3 = (i * 4 + 3) + 4 := by omega
    rw [e]
    simp [trC]
/-- A table's indexes put anew: the append, then the store. -/
theorem Tbs.anew {w w2 : World} {B g cap i : Nat} {xs : List Tr} (h : Tbs w B (.slice (some ⟨g, 0, none⟩) xs.length cap) xs) (hap : Apart xs) (hi : i < xs.length) {A : Option Addr} {c : Nat} {l : List Ix} (hg : w.grownBy w2 (ixB1 xs[i])) (ho : OwnX w2 B (.slice A l.length c) l) :
    Tbs (w2.setCell ⟨g, i * 4 + 3, none⟩ (.slice A l.length c)) B (.slice (some ⟨g, 0, none⟩) xs.length cap) (xs.set i ⟨⟨xs[i].t.m, xs[i].t.cols, xs[i].t.key, l⟩, xs[i].A, xs[i].c, A, c⟩) ∧ w2.heap[g]? = w.heap[g]? := by
  have hT := own_type h.own
  have hne : ∀ k, ixB1 xs[i] = some k → ∃ cs fr, w.heap[k]? = some (.cells cs 81 fr) := own_type (h.tabs _ (List.getElem_mem hi)).x
  have hog : (Value.slice (some ⟨g, 0, none⟩) xs.length cap).ownBlock = some g := rfl
  have h1 := h.own.kept hg (by
    refine .inr (fun e => ?_)
    obtain ⟨cs, fr, h2⟩ := hne g (by rw [← e, hog])
    exact own_ne h.own h2 (by decide) hog)
  have hgg : w2.heap[g]? = w.heap[g]? := hg.block g (h.own.lt g hog).2 (fun e => by
    obtain ⟨cs, fr, h2⟩ := hne g e.symm
    exact own_ne h.own h2 (by decide) hog)
  obtain ⟨cs, fr, hgt⟩ := hT g hog
  rw [← hgg] at hgt
  have h2 := (World.ownsRow.stored h1 (i * 4 + 3) (.slice A l.length c)).1
  rw [trC_set xs i hi] at h2
  have hgs := grown_setCell w2 g (i * 4 + 3) (.slice A l.length c)
  have hbt : ∀ k, some g = some k → ∃ cs T fr, w2.heap[k]? = some (.cells cs T fr) ∧ T ≠ 59 ∧ T ≠ 81 := fun k hk => by
    injection hk with hk
    subst hk
    exact ⟨cs, _, fr, hgt, by decide, by decide⟩
  refine ⟨⟨by rw [List.length_set]; exact h2, fun y hy => ?_⟩, hgg⟩
  obtain ⟨j, hj, e⟩ := List.mem_iff_getElem.1 hy
  rw [List.length_set] at hj
  rw [List.getElem_set] at e
  split at e
  · rename_i hij
    subst e
    have hx := h.tabs _ (List.getElem_mem hi)
    refine TrO.kept ⟨?_, ho⟩ hgs hbt
    exact ownC_kept hx.c hg (fun k hk => by
      obtain ⟨cs, fr, h3⟩ := hne k hk
      exact ⟨cs, _, fr, h3, by decide⟩)
  · rename_i hij
    subst e
    have hx := h.tabs _ (List.getElem_mem hj)
    refine TrO.kept ⟨?_, ?_⟩ hgs hbt
    · exact ownC_kept hx.c hg (fun k hk => by
        obtain ⟨cs, fr, h3⟩ := hne k hk
        exact ⟨cs, _, fr, h3, by decide⟩)
    · refine hx.x.kept hg ?_
      cases hv : ixB1 xs[j] with
      | none => exact .inl hv
      | some b =>
        refine .inr (fun e => ?_)
        rw [show (Value.slice xs[j].A' xs[j].t.idx.length xs[j].c').ownBlock = some b from hv] at e
        rcases Nat.lt_or_gt_of_ne hij with h3 | h3
        · exact List.pairwise_iff_getElem.1 hap i j hi hj h3 b e.symm hv
        · exact List.pairwise_iff_getElem.1 hap j i hj hi h3 b hv e.symm
end Go.Proofs.Ytddeaiciochggaa
/- What Add makes of a catalog: the walk. Conditions: a statement and tables that are read in memory. -/
namespace Go.Proofs.Ytddeaiciochggaa
open Go.RowKit Go.Sort Go.Maps
set_option linter.unusedSimpArgs false
set_option linter.unusedVariables false

theorem cell_heap {w w' : World} {g o : Nat} (h : w'.heap[g]? = w.heap[g]?) : w'.cell? ⟨g, o, none⟩ = w.cell? ⟨g, o, none⟩ := by
  unfold World.cell?
  rw [h]
theorem frozen_heap {w w' : World} {g o : Nat} (h : w'.heap[g]? = w.heap[g]?) : w'.frozen? ⟨g, o, none⟩ = w.frozen? ⟨g, o, none⟩ := by
  unfold World.frozen?
  rw [h]
set_option maxRecDepth 100000 in
set_option maxHeartbeats 16000000 in
theorem add_any {n : Nat} (A : Option Addr) (c : Nat) (ls : List Tb) (x : Sy.St n) (h : Sy.Hs) (w : World) (hr : RdS w A ls) (hn : ls.length ≤ 9223372036854775807) (hx : Sy.RdSt Sy.Any w x h) :
    Calls Try.prog 10 #[.agg #[.slice A ls.length c], x.val h] w (ChgPost w (addF ls x)) := by
  have hb1 := below1 w (.cells #[.slice A ls.length c] 35)
  have hb2 := below1 (w.alloc (.cells #[.slice A ls.length c] 35)) (.cells (x.cs h) 31)
  have hb3 := below1 ((w.alloc (.cells #[.slice A ls.length c] 35)).alloc (.cells (x.cs h) 31)) (.cells #[.slice none 0 0] 35)
  have h1 : Bx1 (((w.alloc (.cells #[.slice A ls.length c] 35)).alloc (.cells (x.cs h) 31)).alloc (.cells #[.slice none 0 0] 35)) w.heap.size (.slice A ls.length c) := (Bx1.below (heap_alloc_new w _) hb2).below hb3
  have h2 : (((w.alloc (.cells #[.slice A ls.length c] 35)).alloc (.cells (x.cs h) 31)).alloc (.cells #[.slice none 0 0] 35)).heap[w.heap.size + 1]? = some (.cells (x.cs h) 31 (0, 0)) := stmt_row x h (w.alloc (.cells #[.slice A ls.length c] 35)) (by simp) hb3
  have h3 : Bx1 (((w.alloc (.cells #[.slice A ls.length c] 35)).alloc (.cells (x.cs h) 31)).alloc (.cells #[.slice none 0 0] 35)) (w.heap.size + 1 + 1) (.slice none 0 0) := by
    have := heap_alloc_new ((w.alloc (.cells #[.slice A ls.length c] 35)).alloc (.cells (x.cs h) 31)) (.cells #[.slice none 0 0] 35)
    rwa [World.size_alloc, World.size_alloc] at this
  have HB3 := Lib.hid (thn (thn hb1 hb2) hb3)
  have HS3 := Lib.hid h1
  have HR3 := Lib.hid h3
  have HX3 := Lib.hid h2
  have HR := Lib.hid hr
  have HASK := Lib.hid fun (W : World) (hb : Below w.heap.size w W) => asked_any A c ls x h 2 W (hr.below hb) hn (hx.below hb)
  have HCZ := Lib.hid (fun h0 => mk2_of (x := x) (askF_zero (ls := ls) (kind := 2) h0).2.1 (askF_zero h0).2.2)
  have HCT := Lib.hid (fun h0 => cat_of (askF_zero (ls := ls) (x := x) (kind := 2) h0).1)
  have hcr : addF ls x = if askF ls x 2 ≠ 0 then (askF ls x 2, []) else if isT ls x.tb = false then (93, []) else match ls[posT ls x.tb]? with
    | none => (93, [])
    | some t => if t.cols.any (isC x.key) = false then (94, []) else if ls.any (hasX x.ix) = true then (6, []) else if t.idx.length = 4 then (51, []) else (0, ls.set (posT ls x.tb) (addT t x.ix (fst1 (isC x.key) t.cols))) := rfl
  generalize askF ls x 2 = E at HASK HCZ HCT hcr
  generalize addF ls x = R at hcr ⊢
  clear hr hx hb1 hb2 hb3 h1 h2 h3
  obtain ⟨kd, tb, cols, key, ix, rows, sets, items, jn, on, wh, gr, ord, lim⟩ := x
  obtain ⟨⟨aC, cC⟩, ⟨aR, cR⟩, ⟨aS, cS⟩, ⟨aI, cI⟩, ⟨aO, cO⟩, ⟨aW, cW⟩, ⟨aG, cG⟩, ⟨aD, cD⟩⟩ := h
  dsimp only [Sy.St.cs, Sy.St.val] at *
  have HCR := Lib.hid hcr
  clear hcr
  go_enter Try.func10, Try.ntmps10
  go_upto_region 1 with fail
  generalize ((w.alloc (.cells #[.slice A ls.length c] 35)).alloc (.cells #[.int .i64 kd, .string tb, .slice aC cols.length cC, .string key, .string ix, .slice aR rows.length cR, .slice aS sets.length cS, .slice aI items.length cI, .string jn, .slice aO on.length cO, .slice aW wh.length cW, .slice aG gr.length cG, .slice aD ord.length cD, .int .i64 lim] 31)).alloc (.cells #[.slice none 0 0] 35) = w3 at HB3 HS3 HR3 HX3 ⊢
  obtain ⟨s0, _⟩ := HS3.out.cells
  obtain ⟨y0, y1, y2, y3, y4, y5, y6, y7, y8, y9, y10, y11, y12, y13⟩ := Sy.cells14 HX3.out
  go_upto_region 2 with (go_at_call 20; (with_reducible refine (HASK.out _ HB3.out).mono ?_); rintro e w4 ⟨rfl, hb⟩; have HS4 := Lib.hid (HS3.out.below hb); have HR4 := Lib.hid (HR3.out.below hb); have HX4 := Lib.hid (row_below HX3.out hb); have HB4 := Lib.hid (thn HB3.out hb); clear hb)
  clear s0 y0 y1 y2 y3 y4 y5 y6 y7 y8 y9 y10 y11 y12 y13 HS3 HR3 HX3 HB3 HASK
  obtain ⟨s0, sf⟩ := HS4.out.cells
  obtain ⟨r0, rf⟩ := HR4.out.cells
  obtain ⟨y0, y1, y2, y3, y4, y5, y6, y7, y8, y9, y10, y11, y12, y13⟩ := Sy.cells14 HX4.out
  have Z0 := Lib.hid (HR4.out.set (.slice none 0 0)).cells.1
  have HZ := Lib.hid (below_set HB4.out ⟨w.heap.size + 1 + 1, 0, none⟩ (by simp; omega) (.slice none 0 0))
  by_cases h0 : E = 0
  · subst h0
    have hcat := HCT.out rfl
    have HCAT := Lib.hid hcat
    have hix := (HCZ.out rfl).ix
    have hcr := HCR.out
    rw [if_neg (show ¬ ((0 : Int) ≠ 0) by simp)] at hcr
    have HCR2 := Lib.hid hcr
    have HFI := Lib.hid fun (W : World) (hb : Below w.heap.size w W) => find_any A c ls tb W (HR.out.below hb) hn
    have hff : findF ls tb = if isT ls tb = true then ((posT ls tb : Int), (0 : Int)) else (0, 93) := by unfold findF; rw [if_neg (by rw [catB_of hcat]; decide)]
    clear HCR hcr Z0 HZ HCT HCZ hcat
    rw [hff] at HFI
    clear hff
    cases hT : isT ls tb
    · have hcr := HCR2.out
      rw [if_pos hT] at hcr
      have HC3 := Lib.hid hcr
      rw [hT] at HFI
      clear hcr HCR2 hT
      go_upto_region 6 with (go_at_call 9; (with_reducible refine (HFI.out _ HB4.out).mono ?_); rintro e w5 ⟨rfl, hb⟩; have HR5 := Lib.hid (HR4.out.below hb); have HB5 := Lib.hid (thn HB4.out hb); clear hb)
      obtain ⟨r0, rf⟩ := HR5.out.cells
      have Z0 := Lib.hid (HR5.out.set (.slice none 0 0)).cells.1
      have HZ := Lib.hid (below_set HB5.out ⟨w.heap.size + 1 + 1, 0, none⟩ (by simp; omega) (.slice none 0 0))
      go_wp2
      exact bodyPost_ret (v := .tuple #[.agg #[.slice none 0 0], .int .i64 93]) (by simp [results, Try.results10, go_sem, Z0.out]) rfl (leaf_bad HC3.out (by decide) HZ.out)
    · obtain ⟨hp0, hx0⟩ := isT_get hT
      obtain ⟨t, ht⟩ : ∃ t, ls[posT ls tb]? = some t := ⟨_, List.getElem?_eq_getElem hp0⟩
      have hcr := HCR2.out
      rw [if_neg (by rw [hT]; decide), ht] at hcr
      dsimp only at hcr
      have HCR3 := Lib.hid hcr
      rw [hT, if_pos rfl] at HFI
      clear hcr HCR2 hT hx0 hp0
      generalize posT ls tb = P at HFI HCR3 ht
      have HP := Lib.hid ht
      have hp : P < ls.length := (List.getElem?_eq_some_iff.1 ht).1
      have HTB := Lib.hid (HCAT.out.may t (List.mem_of_getElem? ht))
      clear ht
      go_upto_region 7 with (go_at_call 9; (with_reducible refine (HFI.out _ HB4.out).mono ?_); rintro e w5 ⟨rfl, hb⟩; have HS5 := Lib.hid (HS4.out.below hb); have HR5 := Lib.hid (HR4.out.below hb); have HX5 := Lib.hid (row_below HX4.out hb); have HB5 := Lib.hid (thn HB4.out hb); clear hb)
      clear s0 sf r0 rf y0 y1 y2 y3 y4 y5 y6 y7 y8 y9 y10 y11 y12 y13 HS4 HR4 HX4 HB4 HFI
      obtain ⟨s0, sf⟩ := HS5.out.cells
      obtain ⟨y0, y1, y2, y3, y4, y5, y6, y7, y8, y9, y10, y11, y12, y13⟩ := Sy.cells14 HX5.out
      obtain ⟨ad, eA, hct⟩ := (HR.out.below HB5.out) (by intro e; rw [e] at hp; simp at hp)
      subst eA
      obtain ⟨cA, iA, cc, ic, k0, k1, k2, k3, hTd⟩ := hct P t HP.out
      have hPl : (P : Int) < (ls.length : Int) := by omega
      obtain ⟨fc, fi, fm, fcm, fim⟩ := few_of_may HTB.out
      have HCOL := Lib.hid fun (W : World) (hb : Below w5.heap.size w5 W) => column_any t.m cA iA cc t.idx.length ic t.key t.cols key W (hTd.c.below hb) (by omega)
      have s0r := cell_regrown s0
      have y3r := cell_regrown y3
      have k0r := cell_regrown k0
      have k1r := cell_regrown k1
      have k2r := cell_regrown k2
      have k3r := cell_regrown k3
      clear s0 sf y0 y1 y2 y3 y4 y5 y6 y7 y8 y9 y10 y11 y12 y13 k0 k1 k2 k3 hct hTd
      refine wp_region_quiet_below (by kernel_rfl) (by kernel_rfl) ?_
      repeat (go_big_quiet_step (with_reducible exact Calls.regrown_of (HCOL.out _ (below_regrown _ _ _))))
      refine wpQuiet_nil ?_
      intro w6 hw6
      obtain ⟨pp, rfl⟩ := hw6
      have hb6 := below_regrown w5 pp.d pp.os
      have HS6 := Lib.hid (HS5.out.below hb6)
      have HR6 := Lib.hid (HR5.out.below hb6)
      have HX6 := Lib.hid (row_below HX5.out hb6)
      have HB6 := Lib.hid (thn HB5.out hb6)
      clear hb6 s0r y3r k0r k1r k2r k3r HS5 HR5 HX5 HB5 HCOL
      generalize grow (redrawn w5 pp.d) pp.os = w6 at HS6 HR6 HX6 HB6 ⊢
      have hcf : colF t.cols key = if t.cols.any (isC key) = true then (fst1 (isC key) t.cols, 0) else (0, 94) := rfl
      generalize colF t.cols key = CF at hcf ⊢
      obtain ⟨s0, sf⟩ := HS6.out.cells
      obtain ⟨r0, rf⟩ := HR6.out.cells
      obtain ⟨y0, y1, y2, y3, y4, y5, y6, y7, y8, y9, y10, y11, y12, y13⟩ := Sy.cells14 HX6.out
      have Z0 := Lib.hid (HR6.out.set (.slice none 0 0)).cells.1
      have HZ := Lib.hid (below_set HB6.out ⟨w.heap.size + 1 + 1, 0, none⟩ (by simp; omega) (.slice none 0 0))
      by_cases hany : t.cols.any (isC key) = true
      · rw [if_pos hany] at hcf
        subst hcf
        have hcr := HCR3.out
        rw [if_neg (by rw [hany]; decide)] at hcr
        generalize fst1 (isC key) t.cols = F at hcr ⊢
        have hct := hasT_any (some ad) c ls ix (w.heap.size + 1) w6 (HR.out.below HB6.out) y4 hn
        generalize ls.any (hasX ix) = X at hcr hct
        have HCT := Lib.hid hct
        clear hany HCR3 hct Z0 HZ
        cases X
        · rw [if_neg (by decide)] at hcr
          have HCR4 := Lib.hid hcr
          clear hcr
          go_upto_region 12 with (go_at_call 29; (with_reducible refine HCT.out.mono ?_); rintro e w7 ⟨rfl, hb⟩; have HS7 := Lib.hid (HS6.out.below hb); have HR7 := Lib.hid (HR6.out.below hb); have HX7 := Lib.hid (row_below HX6.out hb); have HB7 := Lib.hid (thn HB6.out hb); clear hb)
          clear s0 sf r0 rf y0 y1 y2 y3 y4 y5 y6 y7 y8 y9 y10 y11 y12 y13 HS6 HR6 HX6 HB6 HCT
          obtain ⟨s0, sf⟩ := HS7.out.cells
          obtain ⟨r0, rf⟩ := HR7.out.cells
          obtain ⟨y0, y1, y2, y3, y4, y5, y6, y7, y8, y9, y10, y11, y12, y13⟩ := Sy.cells14 HX7.out
          obtain ⟨ad', e', hct⟩ := (HR.out.below HB7.out) (by intro e; rw [e] at hp; simp at hp)
          injection e' with e'
          subst e'
          obtain ⟨cA, iA, cc, ic, k0, k1, k2, k3, hTd⟩ := hct P t HP.out
          clear hct hTd
          by_cases hl4 : t.idx.length = 4
          · have hcr := HCR4.out
            rw [if_pos hl4] at hcr
            have HC3 := Lib.hid hcr
            have hl4' : (t.idx.length : Int) = 4 := by omega
            have Z0 := Lib.hid (HR7.out.set (.slice none 0 0)).cells.1
            have HZ := Lib.hid (below_set HB7.out ⟨w.heap.size + 1 + 1, 0, none⟩ (by simp; omega) (.slice none 0 0))
            clear hcr HCR4
            go_wp2
            exact bodyPost_ret (v := .tuple #[.agg #[.slice none 0 0], .int .i64 51]) (by simp [results, Try.results10, go_sem, Z0.out]) rfl (leaf_bad HC3.out (by decide) HZ.out)
          · have hcr := HCR4.out
            rw [if_neg hl4] at hcr
            have HC3 := Lib.hid hcr
            have hl4' : ¬ (t.idx.length : Int) = 4 := by omega
            clear hcr HCR4
            have HCA := Lib.hid fun (W : World) (hb : Below w.heap.size w W) => copyAll_any (some ad) c ls W (HR.out.below hb) (by have := HCAT.out.few; omega) HCAT.out.may
            go_upto_region 15 with (go_at_call 26; (with_reducible refine (HCA.out _ HB7.out).mono ?_); rintro e w8 ⟨v, xs, rfl, htb, hap, hxs, hb⟩; have HR8 := Lib.hid (HR7.out.below hb); have HX8 := Lib.hid (row_below HX7.out hb); have HB8 := Lib.hid (thn HB7.out hb); have HTB8 := Lib.hid (htb.le HB7.out.size); have HAP := Lib.hid hap; have HXS := Lib.hid hxs; obtain ⟨gT, capT, rfl⟩ := Go.Joins.ownsRow_form htb.own (by have := congrArg List.length hxs; rw [List.length_map] at this; omega); clear htb hap hxs hb)
            have h9 := below1 w8 (.cells #[.slice (some ⟨gT, 0, none⟩) xs.length capT] 35)
            have HN9 : Hid (Bx1 (w8.alloc (.cells #[.slice (some ⟨gT, 0, none⟩) xs.length capT] 35)) w8.heap.size (.slice (some ⟨gT, 0, none⟩) xs.length capT)) := Lib.hid (heap_alloc_new w8 _)
            have HR9 := Lib.hid (HR8.out.below h9)
            have HX9 := Lib.hid (row_below HX8.out h9)
            have HB9 := Lib.hid (thn HB8.out h9)
            have HTB9 := Lib.hid (HTB8.out.below h9)
            have hl8 := HR8.out.lt
            clear s0 sf r0 rf y0 y1 y2 y3 y4 y5 y6 y7 y8 y9 y10 y11 y12 y13 h9 HR8 HX8 HB8 HTB8 HS7 HR7 HX7 HB7 HCA
            have hl9 : w8.heap.size < (w8.alloc (.cells #[.slice (some ⟨gT, 0, none⟩) xs.length capT] 35)).heap.size := by simp
            generalize w8.alloc (.cells #[.slice (some ⟨gT, 0, none⟩) xs.length capT] 35) = w9 at *
            generalize w8.heap.size = nb at *
            have hxl : xs.length = ls.length := by rw [← HXS.out, List.length_map]
            have hPx : P < xs.length := by omega
            have hPi : (P : Int) < (xs.length : Int) := by omega
            have hyt : xs[P].t = t := by
              have h1 := HP.out
              rw [← HXS.out, List.getElem?_map, List.getElem?_eq_getElem hPx] at h1
              simpa using h1
            have hz3 : w9.cell? ⟨gT, P * 4 + 3, none⟩ = some (.slice xs[P].A' t.idx.length xs[P].c') := by
              have h1 := HTB9.out.own.cells (g := gT) rfl (P * 4 + 3) _ (flatK_get trC 4 trC_len xs P 3 _ (List.getElem?_eq_getElem hPx) (by omega))
              rw [add_lit, Nat.zero_add] at h1
              rw [← hyt]
              exact h1
            have hf3 := HTB9.out.own.frozenAt (P * 4 + 3)
            have HYO := Lib.hid (show OwnX w9 w.heap.size (.slice xs[P].A' t.idx.length xs[P].c') t.idx by rw [← hyt]; exact (HTB9.out.tabs _ (List.getElem_mem hPx)).x)
            have HANEW := Lib.hid fun (W W2 : World) (h : Tbs W w.heap.size (.slice (some ⟨gT, 0, none⟩) xs.length capT) xs) (A9 : Option Addr) (c9 : Nat) hg ho => Tbs.anew (w := W) (w2 := W2) (A := A9) (c := c9) (l := t.idx ++ [⟨ix, F⟩]) h HAP.out hPx hg ho
            have hxe : ixB1 xs[P] = (Value.slice xs[P].A' t.idx.length xs[P].c').ownBlock := by unfold ixB1; rw [hyt]
            have HXE := Lib.hid hxe
            have HMAP := Lib.hid (show ∀ (A9 : Option Addr) (c9 : Nat), (xs.set P ⟨⟨xs[P].t.m, xs[P].t.cols, xs[P].t.key, t.idx ++ [⟨ix, F⟩]⟩, xs[P].A, xs[P].c, A9, c9⟩).map Tr.t = ls.set P (addT t ix F) from fun A9 c9 => by rw [List.map_set, HXS.out]; simp only [hyt]; rfl)
            clear hxe
            clear hxl
            obtain ⟨n0, nf⟩ := HN9.out.cells
            obtain ⟨y0, y1, y2, y3, y4, y5, y6, y7, y8, y9, y10, y11, y12, y13⟩ := Sy.cells14 HX9.out
            go_upto_region 16 with fail
            obtain ⟨iX, hiX, hX0, hX1, hX2⟩ := info_parts Try.infoX
            have HCL := Lib.hid fun W => sClone_any ix W (by have := nameB_16 hix; omega)
            have hgn : gT ≠ nb := fun e => by
              subst e
              exact own_ne HTB9.out.own HN9.out (by decide) rfl
            have hgr : gT ≠ w.heap.size + 1 + 1 := fun e => by
              have h1 := HR9.out
              rw [← e] at h1
              exact own_ne HTB9.out.own h1 (by decide) rfl
            have hgB := (HTB9.out.own.lt gT rfl).1
            have hyt2 := hyt
            generalize hyy : xs[P] = y at hz3 HYO HANEW HXE HMAP hyt2
            go_region_law (first
              | (refine step_append_own rfl (.tmp 69) (.tmp 75) 45 rfl w.heap.size 81 iX (.agg #[.string ⟨#[]⟩, .int .i64 0]) 2 24 Try.underlying45 hiX hX0 hX1 hX2 rfl (by decide) (.slice y.A' t.idx.length y.c') t.idx.length (t.idx.flatMap ixC) rfl HYW.out ⟨v5.heap.size, 0, none⟩ 1 1 [.string ix, .int .i64 F] rfl rfl HNEWS.out (by simp [Value.oneCell']) (by unfold maxLen; omega) (by omega) HSZ.out ?_; intro v' w2 hown hg; have ho : OwnX w2 w.heap.size v' (t.idx ++ [⟨ix, F⟩]) := (by unfold OwnX; rw [List.length_append, List.flatMap_append]; exact hown); obtain ⟨A9, c9, rfl, _⟩ := ownX_form ho; have HA := Lib.hid (HANEW.out _ w2 HTBW.out A9 c9 (by rw [HXE.out]; exact hg) ho); have HN2 := Lib.hid (HNNW.out.grown hg (own_ne HYW.out HNNW.out (by decide))); have HR2 := Lib.hid (HRW.out.grown hg (own_ne HYW.out HRW.out (by decide))); have HB2 := Lib.hid (HBW.out.grown hg HBW.out.size (fun k hk => (HYW.out.lt k hk).1)); have zz := (cell_heap (o := P * 4 + 3) HA.out.2).trans z6; have zf := (frozen_heap (o := P * 4 + 3) HA.out.2).trans f6; clear hown hg ho)
              | (go_simp; go_at_call 32; (with_reducible refine (HCL.out _).mono ?_); rintro e v5 ⟨rfl, hb5⟩; have h5 := thn (Below.refl w9.heap.size w9).drew hb5; have h6 := below1 v5 (.cells #[.string ix, .int .i64 F] 81); have h56 := thn h5 h6; have HTBW := Lib.hid (HTB9.out.below h56); have HNNW := Lib.hid (HN9.out.below h56); have HRW := Lib.hid (HR9.out.below h56); have HBW := Lib.hid (thn HB9.out h56); have HYW := Lib.hid (own_below HYO.out h56); have HNEWS := Lib.hid (news_new0 v5 #[.string ix, .int .i64 F] 81 _ rfl); have HSZ := Lib.hid HBW.out.size; have z5 := (h5.cell (cell_lt hz3)).trans hz3; have z6 := (h56.cell (cell_lt hz3)).trans hz3; have f6 := (h56.frozen (p := ⟨gT, P * 4 + 3, none⟩) (cell_lt hz3)).trans hf3; clear hb5 h5 h6 h56))
            all_goals
              have h1 := HA.out.1
              rw [List.length_append, List.length_singleton] at h1
              have HTB3 := Lib.hid h1
              have HN3 := Lib.hid (HN2.out.other ⟨gT, P * 4 + 3, none⟩ (fun e => hgn e.symm) (.slice A9 (t.idx.length + 1) c9))
              have HR3 := Lib.hid (HR2.out.other ⟨gT, P * 4 + 3, none⟩ (fun e => hgr e.symm) (.slice A9 (t.idx.length + 1) c9))
              have HB3 := Lib.hid (below_set HB2.out ⟨gT, P * 4 + 3, none⟩ hgB (.slice A9 (t.idx.length + 1) c9))
              clear h1 HA HN2 HR2 HB2 zz zf z5 z6 f6 HTBW HNNW HRW HBW HYW HNEWS HSZ
              generalize w2.setCell ⟨gT, P * 4 + 3, none⟩ (.slice A9 (t.idx.length + 1) c9) = w3 at *
              obtain ⟨q0, qf⟩ := HN3.out.cells
              obtain ⟨r0, rf⟩ := HR3.out.cells
              have Z0 := Lib.hid (HR3.out.set (.slice (some ⟨gT, 0, none⟩) xs.length capT)).cells.1
              have HTB4 := Lib.hid (HTB3.out.kept (grown_setCell w3 (w.heap.size + 1 + 1) 0 (.slice (some ⟨gT, 0, none⟩) xs.length capT)) HR3.out (by decide) (by decide) (by decide))
              have HB4 := Lib.hid (below_set HB3.out ⟨w.heap.size + 1 + 1, 0, none⟩ (by simp; omega) (.slice (some ⟨gT, 0, none⟩) xs.length capT))
              clear n0 nf y0 y1 y2 y3 y4 y5 y6 y7 y8 y9 y10 y11 y12 y13 hz3 hf3
              go_wp2
              refine bodyPost_ret (v := .tuple #[.agg #[.slice (some ⟨gT, 0, none⟩) xs.length capT], .int .i64 0]) (by simp [results, Try.results10, go_sem, Z0.out]) rfl ⟨fun hne => absurd (by rw [HC3.out]) hne, fun _ => ⟨_, _, rfl, HTB4.out, ?_⟩, HB4.out⟩
              rw [HC3.out]
              exact HMAP.out _ _
        · rw [if_pos rfl] at hcr
          have HC3 := Lib.hid hcr
          clear hcr
          go_upto_region 11 with (go_at_call 29; (with_reducible refine HCT.out.mono ?_); rintro e w7 ⟨rfl, hb⟩; have HR7 := Lib.hid (HR6.out.below hb); have HB7 := Lib.hid (thn HB6.out hb); clear hb)
          clear r0 rf
          obtain ⟨r0, rf⟩ := HR7.out.cells
          have Z0 := Lib.hid (HR7.out.set (.slice none 0 0)).cells.1
          have HZ := Lib.hid (below_set HB7.out ⟨w.heap.size + 1 + 1, 0, none⟩ (by simp; omega) (.slice none 0 0))
          go_wp2
          exact bodyPost_ret (v := .tuple #[.agg #[.slice none 0 0], .int .i64 6]) (by simp [results, Try.results10, go_sem, Z0.out]) rfl (leaf_bad HC3.out (by decide) HZ.out)
      · rw [if_neg hany] at hcf
        subst hcf
        have hcr := HCR3.out
        rw [if_pos (by simpa using hany)] at hcr
        have HC3 := Lib.hid hcr
        clear hcr HCR3 hany
        go_wp2
        exact bodyPost_ret (v := .tuple #[.agg #[.slice none 0 0], .int .i64 94]) (by simp [results, Try.results10, go_sem, Z0.out]) rfl (leaf_bad HC3.out (by decide) HZ.out)
  · have hcr := HCR.out
    rw [if_pos h0] at hcr
    have HC3 := Lib.hid hcr
    clear HCR hcr
    go_wp2
    exact bodyPost_ret (v := .tuple #[.agg #[.slice none 0 0], .int .i64 E]) (by simp [results, Try.results10, go_sem, Z0.out]) rfl (leaf_bad HC3.out h0 HZ.out)
end Go.Proofs.Ytddeaiciochggaa
/- CatalogNames of any catalog, statement and name: the walk. Conditions: arguments that are read in memory, of lengths that every machine keeps. -/
namespace Go.Proofs.Ytddeaiciochggaa
open Go.RowKit Go.Sort Go.Maps
set_option linter.unusedSimpArgs false
set_option linter.unusedVariables false

theorem ChgPost.all {w : World} {R : Int × List Tb} {e : Ending} {w' : World} (h : ChgPost w R e w') : ∃ A n c, e = .returned (.tuple #[.agg #[.slice A n c], .int .i64 R.1]) ∧ (R.1 ≠ 0 → n = 0) ∧ (R.1 = 0 → n = R.2.length ∧ ∃ B xs, Tbs w' B (.slice A n c) xs ∧ xs.map Tr.t = R.2) ∧ Below w.heap.size w w' := by
  by_cases h0 : R.1 = 0
  · obtain ⟨v, xs, he, ht, hx⟩ := h.2.1 h0
    obtain ⟨A, n, c, rfl⟩ := form_of ht.own
    have hn : n = xs.length := by
      rcases ht.own.2 with ⟨h1, h2⟩ | ⟨g, cap, cur, h1, _⟩
      · injection h1 with _ h1 _
        omega
      · injection h1
    exact ⟨A, n, c, by rw [he, h0], fun hn => absurd h0 hn, fun _ => ⟨by rw [hn, ← hx, List.length_map], _, xs, ht, hx⟩, h.2.2⟩
  · exact ⟨none, 0, 0, h.1 h0, fun _ => rfl, fun hn => absurd hn h0, h.2.2⟩
theorem few_added {n : Nat} {ls : List Tb} {x : Sy.St n} (h : (addF ls x).1 = 0) : (∀ t ∈ (addF ls x).2, t.cols.length ≤ 100 ∧ t.idx.length ≤ 100) ∧ (addF ls x).2.length ≤ 8 := by
  obtain ⟨hp, ha⟩ := addF_ok h
  have hc := cat_of (askF_zero ha.ask).1
  rw [ha.eq]
  refine ⟨fun t ht => ?_, by simpa using hc.few⟩
  rcases List.mem_or_eq_of_mem_set ht with ht | ht
  · obtain ⟨h1, h2, _⟩ := few_of_may (hc.may t ht)
    omega
  · subst ht
    obtain ⟨h1, h2, _⟩ := few_of_may (hc.may _ (List.getElem_mem hp))
    unfold addT
    simp
    omega

theorem TrO.td2 {w : World} {B : Nat} {x : Tr} (h : TrO w B x) (hc : x.t.cols.length * 32 ≤ 140737488355328) (hi : x.t.idx.length * 24 ≤ 140737488355328 - 24) : TdOk w x.t x.A x.A' x.c x.c' := by
  obtain ⟨A, c, e, hr⟩ := own_cols h.c
  injection e with e1 _ e2
  subst e1 e2
  obtain ⟨A', c', e, hr'⟩ := own_idx h.x
  injection e with e1 _ e2
  subst e1 e2
  obtain ⟨_, _, e, hn⟩ := ownC_form h.c
  injection e with e1 _ e2
  obtain ⟨_, _, e, hn'⟩ := ownX_form h.x
  injection e with e3 _ e4
  exact ⟨hr, hr', fun e0 => by rw [← e1, ← e2] at hn; exact hn e0, fun e0 => by rw [← e3, ← e4] at hn'; exact hn' e0, hc, hi⟩
theorem RdS.fits {w : World} {A : Option Addr} {ls : List Tb} (h : RdS w A ls) : ∀ t ∈ ls, t.cols.length * 32 ≤ 140737488355328 ∧ t.idx.length * 24 ≤ 140737488355328 - 24 := fun t ht => by
  obtain ⟨j, hj, rfl⟩ := List.mem_iff_getElem.1 ht
  obtain ⟨ad, _, cA, iA, cc, ic, _, _, _, _, hT⟩ := h.at_ hj
  exact ⟨hT.cb, hT.xb⟩
theorem Tbs.rd2 {w : World} {B : Nat} {v : Value} {xs : List Tr} {ls : List Tb} (h : Tbs w B v xs) (hx : xs.map Tr.t = ls) (hc : ∀ t ∈ ls, t.cols.length * 32 ≤ 140737488355328 ∧ t.idx.length * 24 ≤ 140737488355328 - 24) : ∃ A c, v = .slice A ls.length c ∧ RdS w A ls := by
  subst hx
  rw [List.length_map]
  rcases h.own.2 with ⟨h1, h0⟩ | ⟨g, cap, cur, h1, _⟩
  · exact ⟨none, 0, by rw [h1, h0], fun hl => absurd (List.eq_nil_of_length_eq_zero (by rw [List.length_map]; exact h0)) hl⟩
  · subst h1
    refine ⟨some ⟨g, 0, none⟩, cap, rfl, fun _ => ⟨_, rfl, fun j t hj => ?_⟩⟩
    rw [List.getElem?_map] at hj
    obtain ⟨x, hx, rfl⟩ := Option.map_eq_some_iff.1 hj
    have hm := List.mem_of_getElem? hx
    have hc' := h.own.cells (g := g) rfl
    have h0 := hc' (j * 4 + 0) _ (flatK_get trC 4 trC_len xs j 0 x hx (by omega))
    have h1 := hc' (j * 4 + 1) _ (flatK_get trC 4 trC_len xs j 1 x hx (by omega))
    have h2 := hc' (j * 4 + 2) _ (flatK_get trC 4 trC_len xs j 2 x hx (by omega))
    have h3 := hc' (j * 4 + 3) _ (flatK_get trC 4 trC_len xs j 3 x hx (by omega))
    rw [add_lit] at h0 h1 h2 h3
    rw [add_lit]
    have hb := hc x.t (List.mem_map_of_mem hm)
    refine ⟨x.A, x.A', x.c, x.c', h0, ?_, ?_, ?_, (h.tabs x hm).td2 hb.1 hb.2⟩
    · rw [← Nat.add_assoc] at h1; exact h1
    · rw [← Nat.add_assoc] at h2; exact h2
    · rw [← Nat.add_assoc] at h3; exact h3
end Go.Proofs.Ytddeaiciochggaa
/- A table as a list of values: plain mathematics; the walks of text, number and truth. Conditions: texts that every machine keeps. -/
namespace Go.Proofs.Ytddeaiciochggaa
open Go.RowKit Go.Sort Go.Maps
set_option linter.unusedSimpArgs false
set_option linter.unusedVariables false

/-- A value. -/
structure V3 where
  k : Int
  n : Int
  s : ByteArray
@[reducible] def V3.val (v : V3) : Value := .agg #[.int .i64 v.k, .int .i64 v.n, .string v.s]
def v3C (v : V3) : List Value := [.int .i64 v.k, .int .i64 v.n, .string v.s]
theorem v3C_len (v : V3) : (v3C v).length = 3 := rfl
def eT : ByteArray := ⟨#[]⟩
def vT (s : ByteArray) : V3 := ⟨3, 0, s⟩
def vN (n : Int) : V3 := ⟨1, n, eT⟩
def vB (b : Bool) : V3 := ⟨2, if b = true then 1 else 0, eT⟩
def colV (c : Cl) : List V3 := [vT c.m, vN c.k, vB c.nn]
def ixV (x : Ix) : List V3 := [vT x.m, vN x.c]
/-- What Encode makes of a table. -/
def encV (t : Tb) : List V3 := [vT t.m, vN t.key, vN t.cols.length] ++ (t.cols.flatMap colV ++ (vN t.idx.length :: t.idx.flatMap ixV))
/-- A value's three cells at p. -/
def CellV (w : World) (p : Addr) (v : V3) : Prop := w.cell? p = some (.int .i64 v.k) ∧ w.cell? ⟨p.block, p.off + 1, none⟩ = some (.int .i64 v.n) ∧ w.cell? ⟨p.block, p.off + 2, none⟩ = some (.string v.s)
theorem CellV.below {w w' : World} {p : Addr} {v : V3} (h : CellV w p v) (hb : Below w.heap.size w w') : CellV w' p v :=
  ⟨(hb.cell (cell_lt h.1)).trans h.1, (hb.cell (p := ⟨p.block, p.off + 1, none⟩) (cell_lt h.2.1)).trans h.2.1, (hb.cell (p := ⟨p.block, p.off + 2, none⟩) (cell_lt h.2.2)).trans h.2.2⟩
def RdV (w : World) (A : Option Addr) (l : List V3) : Prop := l ≠ [] → ∃ ad, A = some ad ∧ ∀ j v, l[j]? = some v → CellV w (ad.add (j * 3)) v
theorem RdV.below {w w' : World} {A : Option Addr} {l : List V3} (h : RdV w A l) (hb : Below w.heap.size w w') : RdV w' A l := fun hl => by
  obtain ⟨ad, e, hc⟩ := h hl
  exact ⟨ad, e, fun j v hj => (hc j v hj).below hb⟩
theorem RdV.at_ {w : World} {A : Option Addr} {l : List V3} {j : Nat} (h : RdV w A l) (hj : j < l.length) : ∃ ad, A = some ad ∧ CellV w (ad.add (j * 3)) l[j] := by
  obtain ⟨ad, e, hc⟩ := h (by intro e; subst e; simp at hj)
  exact ⟨ad, e, hc j _ (List.getElem?_eq_getElem hj)⟩
/-- Values of the call's own. -/
abbrev OwnE (w : World) (B : Nat) (v : Value) (l : List V3) : Prop := w.ownsRow B 96 3 v l.length (l.flatMap v3C)
theorem v3C_one (l : List V3) : ∀ u ∈ l.flatMap v3C, u.oneCell' = true := fun u hu => by
  obtain ⟨v, _, hv⟩ := List.mem_flatMap.1 hu
  simp [v3C] at hv
  rcases hv with rfl | rfl | rfl <;> rfl
theorem ownE_rd {w : World} {B : Nat} {v : Value} {l : List V3} (h : OwnE w B v l) : ∃ A c, v = .slice A l.length c ∧ RdV w A l ∧ (A = none → l.length = 0 ∧ c = 0) ∧ l.length ≤ c := by
  rcases h.2 with ⟨rfl, h0⟩ | ⟨g, cap, cur, rfl, _, _, hle, _⟩
  · exact ⟨none, 0, by rw [h0], fun hl => absurd (List.eq_nil_of_length_eq_zero h0) hl, fun _ => ⟨h0, rfl⟩, by omega⟩
  · refine ⟨some ⟨g, 0, none⟩, cap, rfl, fun _ => ⟨_, rfl, fun j x hj => ?_⟩, (fun e => by cases e), hle⟩
    have hc := h.cells (g := g) rfl
    have h0 := hc (j * 3 + 0) _ (flatK_get v3C 3 v3C_len l j 0 x hj (by omega))
    have h1 := hc (j * 3 + 1) _ (flatK_get v3C 3 v3C_len l j 1 x hj (by omega))
    have h2 := hc (j * 3 + 2) _ (flatK_get v3C 3 v3C_len l j 2 x hj (by omega))
    rw [add_lit] at h0 h1 h2
    rw [add_lit]
    refine ⟨h0, ?_, ?_⟩
    · rw [← Nat.add_assoc] at h1; exact h1
    · rw [← Nat.add_assoc] at h2; exact h2
theorem owns_new (W : World) (B : Nat) (e : TypeId) (k n : Nat) (cs : Array Value) (xs : List Value) (hB : B ≤ W.heap.size) (h : cs.toList = xs) (hx : xs.length = n * k) (hn : n ≤ maxLen) : (W.alloc (.cells cs e)).ownsRow B e k (.slice (some ⟨W.heap.size, 0, none⟩) n n) n xs :=
  ⟨hx, .inr ⟨W.heap.size, n, cs, rfl, hB, heap_alloc_new W _, Nat.le_refl _, hn, by rw [← hx, ← h]; simp, by rw [h, ← hx, List.take_length]⟩⟩

end Go.Proofs.Ytddeaiciochggaa
/- Values held against themselves; a table of the program's held against the statements' own: the walks of slices.Equal and Alike. Conditions: lists that are read in memory. -/
namespace Go.Proofs.Ytddeaiciochggaa
open Go.RowKit Go.Sort Go.Maps
set_option linter.unusedSimpArgs false
set_option linter.unusedVariables false

theorem run_neqV (a : V3) (w : World) : (binOp .neq 96 (.agg #[.int .i64 a.k, .int .i64 a.n, .string a.s]) (.agg #[.int .i64 a.k, .int .i64 a.n, .string a.s])).run Try.prog w = .ok (.bool false) w := by
  rw [run_neq_struct, run_equalIn_agg w 9999 96 _ _ underV stoodV]
  simp [go_sem, Try.underlying96]
theorem stoodC : Try.prog.stoodInHeld 59 = false := by kernel_rfl
theorem underC : Try.prog.underlying 59 = some (.struct (Try.prog.fieldsOf 59)) := by simp only [Program.fieldsOf, Try.underlying59]
theorem guardC : Try.prog.eqGuardType Try.prog.depth 59 = false := by kernel_rfl
theorem run_neqC (a : Cl) (w : World) : (binOp .neq 59 (.agg #[.string a.m, .int .i64 a.k, .bool a.nn]) (.agg #[.string a.m, .int .i64 a.k, .bool a.nn])).run Try.prog w = .ok (.bool false) w := by
  rw [run_neq_struct, run_equalIn_agg w 9999 59 _ _ underC stoodC]
  simp [go_sem, Try.underlying59]
theorem stoodX : Try.prog.stoodInHeld 111 = false := by kernel_rfl
theorem underX : Try.prog.underlying 111 = some (.struct (Try.prog.fieldsOf 111)) := by simp only [Program.fieldsOf, Try.underlying111]
theorem guardX : Try.prog.eqGuardType Try.prog.depth 111 = false := by kernel_rfl
theorem run_neqX (a : Ix) (w : World) : (binOp .neq 111 (.agg #[.string a.m, .int .i64 a.c]) (.agg #[.string a.m, .int .i64 a.c])).run Try.prog w = .ok (.bool false) w := by
  rw [run_neq_struct, run_equalIn_agg w 9999 111 _ _ underX stoodX]
  simp [go_sem, Try.underlying111]
set_option maxRecDepth 100000 in
set_option maxHeartbeats 8000000 in
theorem alike_eq (t : Tb) (cA iA dA jA : Option Addr) (cc ic dc jc : Nat) (w : World) (hc : RdC w cA t.cols) (hx : RdX w iA t.idx) (hd : RdC w dA t.cols) (hy : RdX w jA t.idx) (hn : t.cols.length ≤ 9223372036854775807) (hm : t.idx.length ≤ 9223372036854775807) :
    Calls Try.prog 35 #[tbl t.m cA t.cols.length cc t.key iA t.idx.length ic, tbl t.m dA t.cols.length dc t.key jA t.idx.length jc] w fun e w' => e = .returned (.int .i64 0) ∧ Below w.heap.size w w' := by
  obtain ⟨m, cols, key, idx⟩ := t
  dsimp only at *
  have hb1 := below1 w (.cells #[.string m, .slice cA cols.length cc, .int .i64 key, .slice iA idx.length ic] 47)
  have hb2 := below1 (w.alloc (.cells #[.string m, .slice cA cols.length cc, .int .i64 key, .slice iA idx.length ic] 47)) (.cells #[.string m, .slice dA cols.length dc, .int .i64 key, .slice jA idx.length jc] 74)
  have HXA := Lib.hid ((Box4.new w m cA cols.length cc key iA idx.length ic 47).below hb2)
  have hxb := Box4.new (w.alloc (.cells #[.string m, .slice cA cols.length cc, .int .i64 key, .slice iA idx.length ic] 47)) m dA cols.length dc key jA idx.length jc 74
  rw [World.size_alloc] at hxb
  have HXB := Lib.hid hxb
  have HB2 := Lib.hid (thn hb1 hb2)
  have HC := Lib.hid (hc.below (thn hb1 hb2))
  have HX := Lib.hid (hx.below (thn hb1 hb2))
  have HD := Lib.hid (hd.below (thn hb1 hb2))
  have HY := Lib.hid (hy.below (thn hb1 hb2))
  obtain ⟨x0, x1, x2, x3⟩ := HXA.out
  obtain ⟨y0, y1, y2, y3⟩ := HXB.out
  clear hc hx hd hy hb1 hb2 hxb
  have hgc := guardC
  have hgx := guardX
  have e1 : (m.toList != m.toList) = false := by simp
  have e2 : (key != key) = false := by simp
  have e3 : ((cols.length : Int) != (cols.length : Int)) = false := by simp
  have e4 : ((idx.length : Int) != (idx.length : Int)) = false := by simp
  go_enter Try.func35, Try.ntmps35
  go_upto_region 1 with fail
  generalize (w.alloc (.cells #[.string m, .slice cA cols.length cc, .int .i64 key, .slice iA idx.length ic] 47)).alloc (.cells #[.string m, .slice dA cols.length dc, .int .i64 key, .slice jA idx.length jc] 74) = w2 at *
  go_wp2
  go_loopw [5] (fun i wr => ∃ j : Nat, i = .int .i64 j ∧ j ≤ cols.length ∧ Below w2.heap.size w2 wr) (fun i _ => cols.length - (intOf i).toNat)
  case atStart => exact ⟨0, rfl, by omega, Below.refl _ _⟩
  case round =>
    obtain ⟨j, rfl, hj, hBB⟩ := hrel
    have HBB := Lib.hid hBB
    clear hBB
    obtain ⟨x0, x1, x2, x3⟩ := HXA.out.below HBB.out
    obtain ⟨y0, y1, y2, y3⟩ := HXB.out.below HBB.out
    by_cases hlt : j < cols.length
    · obtain ⟨ad, e0, a0, a1, a2⟩ := (HC.out.below HBB.out).at_ hlt
      obtain ⟨bd, e1', b0, b1, b2⟩ := (HD.out.below HBB.out).at_ hlt
      subst e0
      subst e1'
      generalize cols[j] = x at a0 a1 a2 b0 b1 b2
      have hq := run_neqC x
      go_upto_region 6 with fail
      have p0 := cell_regrown a0
      have q0 := cell_regrown b0
      have p1 := cell_regrown a1
      have q1 := cell_regrown b1
      have p2 := cell_regrown a2
      have q2 := cell_regrown b2
      have r0 := cell_regrown x1
      have r1 := cell_regrown y1
      have hlt' : (j : Int) < (cols.length : Int) := by omega
      clear a0 a1 a2 b0 b1 b2 x0 x1 x2 x3 y0 y1 y2 y3
      refine wp_region_quiet_below (by kernel_rfl) (by kernel_rfl) ?_
      repeat (go_big_quiet_step (fail))
      refine wpQuiet_nil ?_
      intro w5 hw5
      obtain ⟨pp, rfl⟩ := hw5
      have HB5 := Lib.hid (below_regrown wr pp.d pp.os)
      clear p0 q0 p1 q1 p2 q2 r0 r1 hq
      generalize grow (redrawn wr pp.d) pp.os = W5 at HB5 ⊢
      go_wp2
      go_roundw
      case rel => exact ⟨j + 1, by go_num, hlt, HBB.out.trans (HB5.out.mono HBB.out.size)⟩
      case measure => simp [intOf]; omega
    · have HB7 := Lib.hid (thn HB2.out HBB.out)
      have HXA7 := Lib.hid (HXA.out.below HBB.out)
      have HXB7 := Lib.hid (HXB.out.below HBB.out)
      have HX7 := Lib.hid (HX.out.below HBB.out)
      have HY7 := Lib.hid (HY.out.below HBB.out)
      clear HXA HXB HX HY HC HD HBB HB2
      go_wp2
      generalize wr = wz at *
      go_loopw [6] (fun i wr => ∃ j : Nat, i = .int .i64 j ∧ j ≤ idx.length ∧ Below wz.heap.size wz wr) (fun i _ => idx.length - (intOf i).toNat)
      case atStart => exact ⟨0, rfl, by omega, Below.refl _ _⟩
      case round =>
        obtain ⟨j, rfl, hj, hBB⟩ := hrel
        have HBB := Lib.hid hBB
        clear hBB
        obtain ⟨x0, x1, x2, x3⟩ := HXA7.out.below HBB.out
        obtain ⟨y0, y1, y2, y3⟩ := HXB7.out.below HBB.out
        by_cases hlt : j < idx.length
        · obtain ⟨ad, e0, a0, a1⟩ := (HX7.out.below HBB.out).at_ hlt
          obtain ⟨bd, e1', b0, b1⟩ := (HY7.out.below HBB.out).at_ hlt
          subst e0
          subst e1'
          generalize idx[j] = x at a0 a1 b0 b1
          have hq := run_neqX x
          go_upto_region 11 with fail
          have p0 := cell_regrown a0
          have q0 := cell_regrown b0
          have p1 := cell_regrown a1
          have q1 := cell_regrown b1
          have r0 := cell_regrown x3
          have r1 := cell_regrown y3
          have hlt' : (j : Int) < (idx.length : Int) := by omega
          clear a0 a1 b0 b1 x0 x1 x2 x3 y0 y1 y2 y3
          refine wp_region_quiet_below (by kernel_rfl) (by kernel_rfl) ?_
          repeat (go_big_quiet_step (fail))
          refine wpQuiet_nil ?_
          intro w5 hw5
          obtain ⟨pp, rfl⟩ := hw5
          have HB5 := Lib.hid (below_regrown wr pp.d pp.os)
          clear p0 q0 p1 q1 r0 r1 hq
          generalize grow (redrawn wr pp.d) pp.os = W5 at HB5 ⊢
          go_wp2
          go_roundw
          case rel => exact ⟨j + 1, by go_num, hlt, HBB.out.trans (HB5.out.mono HBB.out.size)⟩
          case measure => simp [intOf]; omega
        · go_wp2
          go_ret
          exact ⟨rfl, thn HB7.out HBB.out⟩
end Go.Proofs.Ytddeaiciochggaa
/- What slices.Delete of one table makes of a list of tables in memory of the call's own: the walk. Conditions: a place within the list; at most 256 tables. -/
namespace Go.Proofs.Ytddeaiciochggaa
open Go.RowKit Go.Sort Go.Maps
set_option linter.unusedSimpArgs false
set_option linter.unusedVariables false

/-- The cells of no table. -/
def zT : List Value := [.string ⟨#[]⟩, .slice none 0 0, .int .i64 0, .slice none 0 0]
theorem trs_len (l : List Tr) : (l.flatMap trC).length = l.length * 4 := flatK_len trC 4 (fun _ => rfl) l
theorem run_clear4 (w : World) (g o c : Nat) (h : ∀ j, j < 4 → (w.cell? ⟨g, o + j, none⟩).isSome = true ∧ w.frozen? ⟨g, o + j, none⟩ = false) (ty : TypeId) :
    (Builtin.clear_ #[33] ty #[.slice (some ⟨g, o, none⟩) 1 c]).run Try.prog w = .ok (.tuple #[]) (w.setCells g o zT) := by
  have hst := run_storeCells_cells (P := Try.prog) g o zT 0 w (fun j hj => (h j hj).1) (fun j hj => (h j hj).2) (by intro v hv; simp [zT] at hv; rcases hv with rfl | rfl | rfl | rfl <;> rfl)
  simp only [Nat.add_zero] at hst
  have hz : (Builtin.zeroCells (Value.agg #[.string ⟨#[]⟩, .slice none 0 0, .int .i64 0, .slice none 0 0]).cells 1).toList = zT := by first | kernel_rfl | decide +kernel | simp [zT, Builtin.zeroCells, Value.cells]
  have hu := run_underlying Try.underlying33
  have hv := Try.zeroValue47
  simp [Builtin.clear_, hu, hv, hz, hst]
set_option maxRecDepth 100000 in
set_option maxHeartbeats 4000000 in
theorem deleteT_at (B i g cap : Nat) (xs : List Tr) (w : World) (hown : w.ownsRow B 47 4 (.slice (some ⟨g, 0, none⟩) xs.length cap) xs.length (xs.flatMap trC)) (hi : i < xs.length) (hn : xs.length ≤ 256) :
    Calls Try.prog 33 #[.slice (some ⟨g, 0, none⟩) xs.length cap, .int .i64 i, .int .i64 ((i : Int) + 1)] w fun e w' => e = .returned (.slice (some ⟨g, 0, none⟩) (xs.length - 1) cap) ∧ w' = (w.drew.setCells g (i * 4) ((xs.flatMap trC).drop ((i + 1) * 4))).setCells g ((xs.length - 1) * 4) zT := by
  obtain ⟨i0, hi0, hz0, hz1, hz2⟩ := info_parts Try.infoT
  have mixed : Try.prog.follows Departure.mixedOrders = true := by kernel_rfl
  have hcl0 := trs_len xs
  obtain ⟨cs, hcs⟩ : ∃ cs, cs = xs.flatMap trC := ⟨_, rfl⟩
  have hcs1 : ∀ u ∈ cs, u.oneCell' = true := by rw [hcs]; exact trC_one xs
  rw [← hcs] at hown hcl0 ⊢
  obtain ⟨cur, hg, hcap, hcm, hsz, htk⟩ : ∃ cur, w.heap[g]? = some (.cells cur 47 (0, 0)) ∧ xs.length ≤ cap ∧ cap ≤ maxLen ∧ cur.size = cap * 4 ∧ cur.toList.take (xs.length * 4) = cs := by
    rcases hown.2 with ⟨h', _⟩ | ⟨g', cap', cur, h', _, h0, h2, h3, h4, h5⟩
    · cases h'
    · injection h' with h6 _ h7
      injection h6 with h6
      injection h6 with h6
      subst h6 h7
      exact ⟨cur, h0, h2, h3, by simpa using h4, by simpa using h5⟩
  clear hown
  have hcell : ∀ j, w.cell? ⟨g, j, none⟩ = cur[j]? := fun j => by rw [cell_of_row w g j cur _ (0, 0) hg]
  have hfz : ∀ j, w.frozen? ⟨g, j, none⟩ = false := fun j => frozen_of_row w g j cur _ hg
  have hcc : ∀ j v, cs[j]? = some v → w.cell? ⟨g, j, none⟩ = some v := fun j v hv => by
    have hj := (List.getElem?_eq_some_iff.1 hv).1
    rw [hcell j, ← hv]
    conv => rhs; rw [← htk]
    rw [List.getElem?_take, if_pos (by omega), Array.getElem?_toList]
  have hsp : ∀ j, j < cap * 4 → (w.cell? ⟨g, j, none⟩).isSome = true := fun j hj => by rw [hcell j, Array.getElem?_eq_getElem (by omega)]; rfl
  obtain ⟨news, hnews⟩ : ∃ news, news = cs.drop ((i + 1) * 4) := ⟨_, rfl⟩
  have hlen : news.length = (xs.length - (i + 1)) * 4 := by rw [hnews, List.length_drop, hcl0]; omega
  obtain ⟨A, hA, hsrc⟩ : ∃ A : Addr, (if cap = i + 1 then some (⟨g, 0, none⟩ : Addr) else some ⟨g, (i + 1) * 4, none⟩) = some A ∧ Hid (∀ t u, news[t]? = some u → w.drew.cell? (A.add t) = some u) := by
    by_cases h : cap = i + 1
    · refine ⟨⟨g, 0, none⟩, by simp [h], fun t u hu => ?_⟩
      have h0 : news.length = 0 := by rw [hlen]; omega
      rw [List.length_eq_zero_iff.1 h0] at hu
      simp at hu
    · refine ⟨⟨g, (i + 1) * 4, none⟩, by simp [h], fun t u hu => ?_⟩
      rw [hnews, List.getElem?_drop] at hu
      rw [add_lit]
      exact hcc _ u hu
  have s1 : Hid (news.length = (xs.length - (i + 1)) * 4) := hlen
  have s2 : Hid (∀ u ∈ news, u.oneCell' = true) := fun u hu => hcs1 u (by rw [hnews] at hu; exact List.mem_of_mem_drop hu)
  have s3 : Hid (∀ t, t < news.length → (w.drew.cell? ⟨g, 0 + i * 4 + t, none⟩).isSome = true ∧ w.drew.frozen? ⟨g, 0 + i * 4 + t, none⟩ = false) := by
    intro t ht
    rw [hlen] at ht
    exact ⟨hsp _ (by omega), hfz _⟩
  obtain ⟨W1, hW1⟩ : ∃ W1, W1 = w.drew.setCells g (0 + i * 4) news := ⟨_, rfl⟩
  have hW1c : ∀ j, j < cap * 4 → (W1.cell? ⟨g, j, none⟩).isSome = true := fun j hj => by rw [hW1]; exact World.isSome_setCells g _ _ _ _ (hsp j hj)
  have hW1f : ∀ j, W1.frozen? ⟨g, j, none⟩ = false := fun j => by rw [hW1, World.frozen?_setCells]; exact hfz j
  have hcl : ∀ ty c, (Builtin.clear_ #[33] ty #[.slice (some ⟨g, (xs.length - 1) * 4, none⟩) 1 c]).run Try.prog W1 = .ok (.tuple #[]) (W1.setCells g ((xs.length - 1) * 4) zT) :=
    fun ty c => run_clear4 W1 g _ c (fun j hj => ⟨hW1c _ (by omega), hW1f _⟩) ty
  have X : Aside (W1 = w.drew.setCells g (i * 4) (cs.drop ((i + 1) * 4))) := by show W1 = w.drew.setCells g (i * 4) (cs.drop ((i + 1) * 4)); rw [hW1, hnews, Nat.zero_add]
  have hW : Hid (W1 = w.drew.setCells g (0 + i * 4) news) := hW1
  unfold maxLen at hcm
  have hw1 : IntKind.i64.wrap ((i : Int) + 1) = (i : Int) + 1 := by rw [IntKind.wrap_i64]; omega
  have hb1 : (0 : Int) ≤ (i : Int) + 1 := by omega
  have htn : ((i : Int) + 1).toNat = i + 1 := by omega
  have hb3 : (i : Int) + 1 ≤ (xs.length : Int) := by omega
  have hb4 : i + 1 ≤ xs.length := by omega
  have hic : i ≤ cap := by omega
  have hjc : i + 1 ≤ cap := by omega
  have hne : ¬ ((i : Int) = (i : Int) + 1) := by omega
  have he1 : i + (xs.length - (i + 1)) = xs.length - 1 := by omega
  have he2 : xs.length - (xs.length - 1) = 1 := by omega
  have he3 : ¬ (cap = xs.length - 1) := by omega
  clear hW1 hW1c hW1f hcc hsp hcell hfz htk hsz hg hnews hlen hcs hcs1 hcl0
  go_enter Try.func33, Try.ntmps33
  go_wp2_with fail
  go_region_law_o (refine step_append_room rfl (.tmp 22) (.tmp 25) 33 rfl 47 i0 4 Try.underlying33 hi0 hz1 g 0 i cap (by simp [Act.eval, Act.put]) A (xs.length - (i + 1)) (cap - (i + 1)) news (by simp [Act.eval, Act.put]) s1.out hsrc.out s2.out (by omega) s3.out ?_; rw [← hW.out])
  go_wp2
  go_ret
  refine ⟨rfl, ?_⟩
  rw [X.out]
theorem flat_take : ∀ (l : List Tr) (i : Nat), (l.take i).flatMap trC = (l.flatMap trC).take (i * 4)
  | [], i => by simp
  | a :: l, 0 => by simp
  | a :: l, i + 1 => by
    rw [List.take_succ_cons, List.flatMap_cons, List.flatMap_cons, flat_take l i, List.take_append, List.take_of_length_le (l := trC a) (by rw [trC_len]; omega), trC_len, show (i + 1) * 4 - 4 = i * 4 by omega]
theorem flat_drop : ∀ (l : List Tr) (i : Nat), (l.drop i).flatMap trC = (l.flatMap trC).drop (i * 4)
  | [], i => by simp
  | a :: l, 0 => by simp
  | a :: l, i + 1 => by
    rw [List.drop_succ_cons, List.flatMap_cons, flat_drop l i, List.drop_append, List.drop_of_length_le (l := trC a) (by rw [trC_len]; omega), trC_len, List.nil_append, show (i + 1) * 4 - 4 = i * 4 by omega]
theorem take_cutK {cur cur1 cur2 : Array Value} {cs z : List Value} {p q M N : Nat} (hc : cur.toList.take N = cs) (hl : cs.length = N) (hpq : p ≤ q) (hqN : q ≤ N) (hM : M = p + (N - q)) (hz : M + z.length = N)
    (h1 : ∀ j : Nat, cur1[j]? = if p ≤ j ∧ j < p + (cs.drop q).length then (cs.drop q)[j - p]? else cur[j]?)
    (h2 : ∀ j : Nat, cur2[j]? = if M ≤ j ∧ j < M + z.length then z[j - M]? else cur1[j]?) :
    cur2.toList.take M = cs.take p ++ cs.drop q := by
  have hg : ∀ j, j < N → cur[j]? = cs[j]? := fun j hj => by
    conv => rhs; rw [← hc]
    rw [List.getElem?_take, if_pos hj, Array.getElem?_toList]
  apply List.ext_getElem?
  intro j
  have hd : (cs.drop q).length = N - q := by rw [List.length_drop, hl]
  have ht : (cs.take p).length = p := by rw [List.length_take, hl]; omega
  rw [List.getElem?_take]
  rw [hd] at h1
  by_cases c0 : j < M
  · rw [if_pos c0, Array.getElem?_toList, h2, if_neg (by omega), h1]
    by_cases c : j < p
    · rw [if_neg (by omega), List.getElem?_append_left (by omega), List.getElem?_take, if_pos c, hg j (by omega)]
    · rw [if_pos (by omega), List.getElem?_append_right (by omega), ht]
  · rw [if_neg c0, List.getElem?_eq_none]
    rw [List.length_append, ht, hd]
    omega
theorem ownsRow_some {w : World} {B : Nat} {e : TypeId} {k : Nat} {v : Value} {n : Nat} {xs : List Value} (h : w.ownsRow B e k v n xs) (hn : 0 < n) : ∃ g cap, v = .slice (some ⟨g, 0, none⟩) n cap := Go.Joins.ownsRow_form h hn
/-- slices.Delete of one table of a list of the call's own. -/
theorem deleteT_own (B i : Nat) (v : Value) (xs : List Tr) (w : World) (hown : Tbs w B v xs) (hi : i < xs.length) (hn : xs.length ≤ 256) :
    Calls Try.prog 33 #[v, .int .i64 i, .int .i64 ((i : Int) + 1)] w fun e w' => ∃ v', e = .returned v' ∧ Tbs w' B v' (xs.eraseIdx i) ∧ w.grownBy w' v.ownBlock := by
  obtain ⟨g, cap, rfl⟩ := ownsRow_some hown.own (by omega)
  refine (deleteT_at B i g cap xs w hown.own hi hn).mono fun e w' ⟨he, hw⟩ => ⟨_, he, ?_, ?_⟩
  · have hgw : w.grownBy w' (some g) := by
      rw [hw]
      exact grown_trans (grown_drew w _) (grown_trans (grown_setCells g _ _ _) (grown_setCells g _ _ _))
    have hl : (xs.eraseIdx i).length = xs.length - 1 := by rw [List.length_eraseIdx, if_pos hi]
    refine ⟨?_, fun x hx => (hown.tabs x (List.mem_of_mem_eraseIdx hx)).kept hgw (fun k hk => by injection hk with hk; subst hk; obtain ⟨cs, fr, h1⟩ := own_type hown.own g rfl; exact ⟨cs, _, fr, h1, by decide, by decide⟩)⟩
    rcases hown.own.2 with ⟨h', _⟩ | ⟨g', cap', cur, h', hB, h0, h2, h3, h4, h5⟩
    · cases h'
    injection h' with h6 _ h7
    injection h6 with h6
    injection h6 with h6
    subst h6 h7
    have hcl := trs_len xs
    obtain ⟨cur1, a1, a2, a3⟩ := heap_setCells g 47 ((xs.flatMap trC).drop ((i + 1) * 4)) (i * 4) w.drew cur h0 (by rw [List.length_drop, hcl]; omega)
    obtain ⟨cur2, b1, b2, b3⟩ := heap_setCells g 47 zT ((xs.length - 1) * 4) _ cur1 a1 (by simp [zT]; omega)
    rw [hw]
    refine ⟨by rw [trs_len], .inr ⟨g, cap, cur2, by rw [hl], hB, b1, by rw [hl]; omega, h3, by omega, ?_⟩⟩
    rw [hl, List.eraseIdx_eq_take_drop_succ, List.flatMap_append, flat_take, flat_drop]
    exact take_cutK (by simpa using h5) hcl (by omega) (by omega) (by omega) (by simp [zT]; omega) a3 b3
  · rw [hw]
    exact grown_trans (grown_drew w _) (grown_trans (grown_setCells g _ _ _) (grown_setCells g _ _ _))
end Go.Proofs.Ytddeaiciochggaa
/- What slices.Insert of one table makes of a list of tables in memory of the call's own, where there is room: the walk. Conditions: a place within the list; at most 256 tables. -/
namespace Go.Proofs.Ytddeaiciochggaa
open Go.RowKit Go.Sort Go.Maps
set_option linter.unusedSimpArgs false
set_option linter.unusedVariables false

theorem run_copyK {P : Program} (w : World) (dT sT ty elem : TypeId) (k m b o dLen dCap : Nat) (a : Addr) (sLen sCap : Nat) (cs : List Value)
    (hu : P.underlying dT = some (.slice elem)) (hs : (P.info? elem).map (·.size) = some k) (hm : m = Nat.min sLen dLen) (hn : cs.length = m * k)
    (hsrc : ∀ j v, cs[j]? = some v → w.cell? (a.add j) = some v) (hc : ∀ j, j < cs.length → (w.cell? ⟨b, o + j, none⟩).isSome = true) (hf : ∀ j, j < cs.length → w.frozen? ⟨b, o + j, none⟩ = false) (h1 : ∀ v ∈ cs, v.oneCell' = true) :
    (Builtin.copy_ #[dT, sT] ty #[.slice (some ⟨b, o, none⟩) dLen dCap, .slice (some a) sLen sCap]).run P w = .ok (goInt m) (w.setCells b o cs) := by
  have hst := run_storeCells_cells (P := P) b o cs 0 w (by simpa using hc) (by simpa using hf) h1
  have hl := run_firstCells_some (P := P) w k m a sLen sCap cs hn hsrc
  simp only [Nat.add_zero] at hst
  cases hq : P.info? elem with
  | none => simp [hq] at hs
  | some i =>
    have hi : i.size = k := by simpa [hq] using hs
    simp [Builtin.copy_, run_underlying hu, Builtin.lenOf, sizeOf, typeInfo, hq, hi, ← hm, hl, hst]
theorem take_shiftK {cur cur1 cur2 : Array Value} {cs x : List Value} {p q N : Nat} (hc : cur.toList.take N = cs) (hl : cs.length = N) (hp : p ≤ N) (hq : q = p + x.length)
    (h1 : ∀ j : Nat, cur1[j]? = if q ≤ j ∧ j < q + (cs.drop p).length then (cs.drop p)[j - q]? else cur[j]?)
    (h2 : ∀ j : Nat, cur2[j]? = if p ≤ j ∧ j < p + x.length then x[j - p]? else cur1[j]?) :
    cur2.toList.take (N + x.length) = cs.take p ++ (x ++ cs.drop p) := by
  have hg : ∀ j, j < N → cur[j]? = cs[j]? := fun j hj => by
    conv => rhs; rw [← hc]
    rw [List.getElem?_take, if_pos hj, Array.getElem?_toList]
  apply List.ext_getElem?
  intro j
  have hd : (cs.drop p).length = N - p := by rw [List.length_drop, hl]
  have ht : (cs.take p).length = p := by rw [List.length_take, hl]; omega
  rw [List.getElem?_take]
  rw [hd] at h1
  by_cases c0 : j < N + x.length
  · rw [if_pos c0, Array.getElem?_toList, h2]
    by_cases c : j < p
    · rw [if_neg (by omega), h1, if_neg (by omega), List.getElem?_append_left (by omega), List.getElem?_take, if_pos c, hg j (by omega)]
    · rw [List.getElem?_append_right (by omega), ht]
      by_cases c2 : j < p + x.length
      · rw [if_pos (by omega), List.getElem?_append_left (by omega)]
      · rw [if_neg (by omega), h1, if_pos (by omega), List.getElem?_append_right (by omega)]
        congr 1
        omega
  · rw [if_neg c0, List.getElem?_eq_none]
    rw [List.length_append, List.length_append, ht, hd]
    omega
set_option maxRecDepth 100000 in
set_option maxHeartbeats 4000000 in
theorem insertT_shift (B i g cap : Nat) (xs : List Tr) (x : Tr) (vb : Nat) (w : World) (hown : w.ownsRow B 47 4 (.slice (some ⟨g, 0, none⟩) xs.length cap) xs.length (xs.flatMap trC)) (hi : i < xs.length) (hn : xs.length ≤ 256) (hcap : xs.length + 1 ≤ cap)
    (hx : w.heap[vb]? = some (.cells (trC x).toArray 47 (0, 0))) (hvb : vb ≠ g) :
    Calls Try.prog 27 #[.slice (some ⟨g, 0, none⟩) xs.length cap, .int .i64 i, .slice (some ⟨vb, 0, none⟩) 1 1] w fun e w' => e = .returned (.slice (some ⟨g, 0, none⟩) (xs.length + 1) cap) ∧ w' = (w.drew.setCells g ((i + 1) * 4) ((xs.flatMap trC).drop (i * 4))).setCells g (i * 4) (trC x) := by
  obtain ⟨i0, hi0, hz0, hz1, hz2⟩ := info_parts Try.infoT
  have hcl0 := trs_len xs
  obtain ⟨cs, hcs⟩ : ∃ cs, cs = xs.flatMap trC := ⟨_, rfl⟩
  have hcs1 : ∀ u ∈ cs, u.oneCell' = true := by rw [hcs]; exact trC_one xs
  rw [← hcs] at hown hcl0 ⊢
  obtain ⟨cur, hg, hcm, hsz, htk⟩ : ∃ cur, w.heap[g]? = some (.cells cur 47 (0, 0)) ∧ cap ≤ maxLen ∧ cur.size = cap * 4 ∧ cur.toList.take (xs.length * 4) = cs := by
    rcases hown.2 with ⟨h', _⟩ | ⟨g', cap', cur, h', _, h0, _, h3, h4, h5⟩
    · cases h'
    · injection h' with h6 _ h7
      injection h6 with h6
      injection h6 with h6
      subst h6 h7
      exact ⟨cur, h0, h3, by simpa using h4, by simpa using h5⟩
  clear hown
  have hcell : ∀ j, w.cell? ⟨g, j, none⟩ = cur[j]? := fun j => by rw [cell_of_row w g j cur _ (0, 0) hg]
  have hfz : ∀ j, w.frozen? ⟨g, j, none⟩ = false := fun j => frozen_of_row w g j cur _ hg
  have hcc : ∀ j v, cs[j]? = some v → w.cell? ⟨g, j, none⟩ = some v := fun j v hv => by
    have hj := (List.getElem?_eq_some_iff.1 hv).1
    rw [hcell j, ← hv]
    conv => rhs; rw [← htk]
    rw [List.getElem?_take, if_pos (by omega), Array.getElem?_toList]
  have hsp : ∀ j, j < cap * 4 → (w.cell? ⟨g, j, none⟩).isSome = true := fun j hj => by rw [hcell j, Array.getElem?_eq_getElem (by omega)]; rfl
  have hxc : ∀ j u, (trC x)[j]? = some u → w.cell? ⟨vb, j, none⟩ = some u := fun j u hu => by rw [cell_of_row w vb j _ _ (0, 0) hx]; simpa using hu
  have hsz0 : (Try.prog.info? 47).map (·.size) = some 4 := by rw [hi0]; simp [hz1]
  have hdl : (cs.drop (i * 4)).length = (xs.length - i) * 4 := by rw [List.length_drop, hcl0]; omega
  have hov : ∀ lb cb, (callFunc 52 #[.slice (some ⟨vb, 0, none⟩) 1 1, .slice (some ⟨g, (i + 1) * 4, none⟩) lb cb]).run Try.prog w = .ok (.value (.bool false)) w := fun lb cb => by
    rw [run_callFunc_extern Try.func52 (by kernel_rfl) (by kernel_rfl) (by kernel_rfl) (e := Extern.SlicesOverlaps.overlaps #[33, 33] #[4]) (by kernel_rfl),
      Lib.run_overlaps_apart w 33 4 47 Try.underlying33 4 (fun W => by simp [sizeOf, typeInfo, hi0, hz1]) ⟨vb, 0, none⟩ ⟨g, (i + 1) * 4, none⟩ 1 1 lb cb hvb 47 47 4 (cap * 4) (by simp [World.shape?, hx, trC]) (by simp [World.shape?, hg, hsz]) (by omega) (frozen_of_row w vb 0 _ _ hx) (frozen_of_row w vb 4 _ _ hx)]
    rfl
  have hcp1 : ∀ ty dc sc, (Builtin.copy_ #[33, 33] ty #[.slice (some ⟨g, (i + 1) * 4, none⟩) (xs.length - i) dc, .slice (some ⟨g, i * 4, none⟩) (xs.length + 1 - i) sc]).run Try.prog w.drew = .ok (goInt ((xs.length - i : Nat) : Int)) (w.drew.setCells g ((i + 1) * 4) (cs.drop (i * 4))) := fun ty dc sc =>
    run_copyK w.drew _ _ ty 47 4 (xs.length - i) g ((i + 1) * 4) (xs.length - i) dc ⟨g, i * 4, none⟩ (xs.length + 1 - i) sc (cs.drop (i * 4)) Try.underlying33 hsz0 (by simp only [Nat.min_def]; split <;> omega) hdl
      (fun j v hj => by rw [Addr.add_lit]; exact hcc (i * 4 + j) v (by rwa [List.getElem?_drop] at hj))
      (fun j hj => hsp _ (by omega)) (fun j hj => hfz _) (fun v hv => hcs1 v (List.mem_of_mem_drop hv))
  obtain ⟨W1, hW1⟩ : ∃ W1, W1 = w.drew.setCells g ((i + 1) * 4) (cs.drop (i * 4)) := ⟨_, rfl⟩
  have hcp2 : ∀ (W : World), (∀ p, W.cell? p = W1.cell? p) → (∀ p, W.frozen? p = W1.frozen? p) → ∀ ty dc, (Builtin.copy_ #[33, 33] ty #[.slice (some ⟨g, i * 4, none⟩) (xs.length + 1 - i) dc, .slice (some ⟨vb, 0, none⟩) 1 1]).run Try.prog W = .ok (goInt 1) (W.setCells g (i * 4) (trC x)) := fun W hWc hWf ty dc =>
    run_copyK W _ _ ty 47 4 1 g (i * 4) (xs.length + 1 - i) dc ⟨vb, 0, none⟩ 1 1 (trC x) Try.underlying33 hsz0 (by simp only [Nat.min_def]; split <;> omega) (by rw [trC_len])
      (fun j v hj => by rw [Addr.add_lit, Nat.zero_add, hWc, hW1, World.cell?_setCells_out g _ _ _ _ (fun h _ => absurd h hvb)]; exact hxc j v hj)
      (fun j hj => by rw [hWc, hW1]; exact World.isSome_setCells g _ _ _ _ (hsp _ (by rw [trC_len] at hj; omega))) (fun j hj => by rw [hWf, hW1, World.frozen?_setCells]; exact hfz _) (fun v hv => trC_one [x] v (by simpa using hv))
  rw [← hW1] at hcp1
  unfold maxLen at hcm
  have mixed : Try.prog.follows Departure.mixedOrders = true := by kernel_rfl
  have hz1' : ¬ ((1 : Int) = 0) := by decide
  have hz2' : ¬ ((i : Int) = (xs.length : Int)) := by omega
  have hw1 : IntKind.i64.wrap ((i : Int) + 1) = (i : Int) + 1 := by rw [IntKind.wrap_i64]; omega
  have hb1 : (0 : Int) ≤ (i : Int) + 1 := by omega
  have htn : ((i : Int) + 1).toNat = i + 1 := by omega
  have hin : i ≤ xs.length := by omega
  have hb2 : ¬ (cap = i + 1) := by omega
  have hb4 : ¬ (cap = i) := by omega
  have hb5 : xs.length ≤ cap := by omega
  have hb3 : (i : Int) ≤ (xs.length : Int) + 1 := by omega
  have hb6 : (i : Int) ≤ (xs.length : Int) := by omega
  have htn2 : ((xs.length : Int) + 1).toNat = xs.length + 1 := by omega
  clear hg hsz htk hcell hfz hcc hsp hxc hx hdl hcs hcs1 hcl0
  go_enter Try.func27, Try.ntmps27
  go_wp2_with (simp only [hov])
  go_region_law_o (refine copy_step rfl _ _ 33 33 rfl _ _ (by simp [Act.eval, Act.put]) (by simp [Act.eval, Act.put]) (hcp1 _ _ _) ?_)
  go_wp2_with (at_builtin; refine copy_list _ rfl _ _ 33 33 rfl _ _ rfl rfl (hcp2 _ (fun _ => rfl) (fun _ => rfl) _ _) ?_)
  go_ret
  first | exact ⟨rfl, rfl⟩ | exact ⟨rfl, by rw [hW1]⟩
end Go.Proofs.Ytddeaiciochggaa
/- What slices.Insert of one table makes of a full list of tables in memory of the call's own, and of any: the walk. Conditions: a place within the list; at most 100 tables. -/
namespace Go.Proofs.Ytddeaiciochggaa
open Go.RowKit Go.Sort Go.Maps
set_option linter.unusedSimpArgs false
set_option linter.unusedVariables false

/-- No table. -/
def zA : Value := .agg #[.string ⟨#[]⟩, .slice none 0 0, .int .i64 0, .slice none 0 0]
theorem zeroT_len (n : Nat) : (Builtin.zeroCells zA.cells n).size = n * 4 := by simp [Builtin.zeroCells, zA, Value.cells]
set_option maxRecDepth 100000 in
set_option maxHeartbeats 4000000 in
theorem insertT_grow (B i g : Nat) (xs : List Tr) (x : Tr) (vb : Nat) (w : World) (hown : w.ownsRow B 47 4 (.slice (some ⟨g, 0, none⟩) xs.length xs.length) xs.length (xs.flatMap trC)) (hi : i < xs.length) (hn : xs.length ≤ 100)
    (hx : ∀ j u, (trC x)[j]? = some u → w.cell? ⟨vb, j, none⟩ = some u) :
    Calls Try.prog 27 #[.slice (some ⟨g, 0, none⟩) xs.length xs.length, .int .i64 i, .slice (some ⟨vb, 0, none⟩) 1 1] w fun e w' =>
      e = .returned (.slice (some ⟨w.heap.size, 0, none⟩) (xs.length + 1) (grownCap w (xs.length + 1) xs.length 47)) ∧
      w' = (((w.alloc (.cells (((xs.flatMap trC).take (i * 4)).toArray ++ Builtin.zeroCells zA.cells (xs.length + 1 - i) ++ Builtin.zeroCells zA.cells (grownCap w (xs.length + 1) xs.length 47 - (xs.length + 1))) 47)).drew.setCells w.heap.size (i * 4) (trC x)).drew).setCells w.heap.size ((i + 1) * 4) ((xs.flatMap trC).drop (i * 4)) := by
  obtain ⟨i0, hi0, hz0, hzs, hzb⟩ := info_parts Try.infoT
  have hcl0 := trs_len xs
  obtain ⟨cs, hcs⟩ : ∃ cs, cs = xs.flatMap trC := ⟨_, rfl⟩
  have hcs1 : ∀ u ∈ cs, u.oneCell' = true := by rw [hcs]; exact trC_one xs
  rw [← hcs] at hown hcl0 ⊢
  have hcc : ∀ j v, cs[j]? = some v → w.cell? ⟨g, j, none⟩ = some v := fun j v hv => by
    have := hown.cells (g := g) rfl j v hv
    rwa [add_lit, Nat.zero_add] at this
  have mixed : Try.prog.follows Departure.mixedOrders = true := by kernel_rfl
  have hz1 : ¬ ((1 : Int) = 0) := by decide
  have hz2 : ¬ ((i : Int) = (xs.length : Int)) := by omega
  have hz3 : (xs.length : Int) < (xs.length : Int) + 1 := by omega
  have hsz : (Try.prog.info? 47).map (·.size) = some 4 := by rw [hi0]; simp [hzs]
  have hbw : g < w.heap.size := cell_lt (hcc 0 _ (List.getElem?_eq_getElem (by omega)))
  have hvw : vb < w.heap.size := cell_lt (hx 0 _ rfl)
  have hkk : (xs.length : Int) + 1 - (i : Int) = ((xs.length + 1 - i : Nat) : Int) := by omega
  have hik : i + (xs.length + 1 - i) = xs.length + 1 := by omega
  have hold : (Builtin.firstCells i0.size i (.slice (some ⟨g, 0, none⟩) i xs.length)).run Try.prog w.drew = .ok (cs.take (i * 4)).toArray w.drew := by
    rw [hzs]
    exact run_firstCells_some w.drew 4 i ⟨g, 0, none⟩ i xs.length (cs.take (i * 4)) (by rw [List.length_take]; omega) (fun j v hj => by
      rw [Addr.add_lit, Nat.zero_add]
      rw [List.getElem?_take] at hj
      split at hj
      · exact hcc j v hj
      · cases hj)
  have hrz : ∀ ty, (Builtin.append_ #[33, 3] ty #[.slice (some ⟨g, 0, none⟩) i xs.length, .int .i64 ((xs.length : Int) + 1 - (i : Int))]).run Try.prog w =
      .ok (.slice (some ⟨w.heap.size, 0, none⟩) (xs.length + 1) (grownCap w (xs.length + 1) xs.length 47)) (w.drew.alloc (.cells ((cs.take (i * 4)).toArray ++ Builtin.zeroCells zA.cells (xs.length + 1 - i) ++ Builtin.zeroCells zA.cells (grownCap w (xs.length + 1) xs.length 47 - (xs.length + 1))) 47)) := fun ty => by
    have h := Lib.run_append_grow_zeros w 33 3 ty 47 i0 _ .i64 .i64 Try.underlying33 Try.underlying3 hi0 hz0 (some ⟨g, 0, none⟩) i xs.length (cs.take (i * 4)) hold (xs.length + 1 - i) (by omega) (by omega) (by omega) (by omega) (by rw [hzb]; omega) (by rw [hzb, hik]; exact growslice_fits (by omega) (by omega))
    rw [hik] at h
    rw [hkk]
    exact h
  obtain ⟨G, hG⟩ : ∃ G, G = grownCap w (xs.length + 1) xs.length 47 := ⟨_, rfl⟩
  obtain ⟨ROW, hROW⟩ : ∃ ROW : Array Value, ROW = (cs.take (i * 4)).toArray ++ Builtin.zeroCells zA.cells (xs.length + 1 - i) ++ Builtin.zeroCells zA.cells (G - (xs.length + 1)) := ⟨_, rfl⟩
  rw [← hG] at hrz ⊢
  rw [← hROW] at hrz ⊢
  have hRl : (xs.length + 1) * 4 ≤ ROW.size := by
    rw [hROW]
    simp only [Array.size_append, List.size_toArray, List.length_take, zeroT_len]
    omega
  obtain ⟨W1, hW1⟩ : ∃ W1, W1 = w.drew.alloc (.cells ROW 47) := ⟨_, rfl⟩
  rw [← hW1] at hrz
  have hN : ∀ j, j < (xs.length + 1) * 4 → (W1.cell? ⟨w.heap.size, j, none⟩).isSome = true := fun j hj => by
    rw [hW1, World.cell?_alloc_at (w := w.drew) ROW _ w.heap.size j rfl, Array.getElem?_eq_getElem (by omega)]; rfl
  have hNf : ∀ j, W1.frozen? ⟨w.heap.size, j, none⟩ = false := fun j => by rw [hW1]; exact World.frozen?_alloc_at (w := w.drew) ROW _ w.heap.size j rfl
  have hOb : ∀ j v, w.cell? ⟨g, j, none⟩ = some v → W1.cell? ⟨g, j, none⟩ = some v := fun j v h => by rw [hW1, World.cell?_alloc_past (w := w.drew) _ g j hbw]; exact h
  have hOv : ∀ j u, (trC x)[j]? = some u → W1.cell? ⟨vb, j, none⟩ = some u := fun j u h => by rw [hW1, World.cell?_alloc_past (w := w.drew) _ vb j hvw]; exact hx j u h
  have hcpA : ∀ (W : World), (∀ p, W.cell? p = W1.cell? p) → (∀ p, W.frozen? p = W1.frozen? p) → ∀ ty dc, (Builtin.copy_ #[33, 33] ty #[.slice (some ⟨w.heap.size, i * 4, none⟩) (xs.length + 1 - i) dc, .slice (some ⟨vb, 0, none⟩) 1 1]).run Try.prog W = .ok (goInt 1) (W.setCells w.heap.size (i * 4) (trC x)) := fun W hWc hWf ty dc =>
    run_copyK W _ _ ty 47 4 1 w.heap.size (i * 4) (xs.length + 1 - i) dc ⟨vb, 0, none⟩ 1 1 (trC x) Try.underlying33 hsz (by simp only [Nat.min_def]; split <;> omega) (by rw [trC_len])
      (fun j v hj => by rw [Addr.add_lit, Nat.zero_add, hWc]; exact hOv j v hj)
      (fun j hj => by rw [hWc]; exact hN _ (by rw [trC_len] at hj; omega)) (fun j hj => by rw [hWf]; exact hNf _) (fun v hv => trC_one [x] v (by simpa using hv))
  have hGn : xs.length + 1 ≤ G := by rw [hG]; exact grownCap_ge w _ _ _
  have hG63 : G ≤ 9223372036854775807 := by
    have := grownCap_le_maxLen w (xs.length + 1) xs.length 47 (by unfold maxLen; omega)
    rw [← hG] at this
    unfold maxLen at this
    omega
  have hGi : ¬ (G = i) := by omega
  have hGim : ¬ (G = i + 1) := by omega
  have hci : ¬ (xs.length = i) := by omega
  have hbN : g ≠ w.heap.size := by omega
  have hdl : (cs.drop (i * 4)).length = (xs.length - i) * 4 := by rw [List.length_drop, hcl0]; omega
  have hcpB : ∀ (W : World), (∀ p, W.cell? p = (W1.setCells w.heap.size (i * 4) (trC x)).cell? p) → (∀ p, W.frozen? p = (W1.setCells w.heap.size (i * 4) (trC x)).frozen? p) → ∀ ty dc sc, (Builtin.copy_ #[33, 33] ty #[.slice (some ⟨w.heap.size, (i + 1) * 4, none⟩) (xs.length - i) dc, .slice (some ⟨g, i * 4, none⟩) (xs.length - i) sc]).run Try.prog W = .ok (goInt ((xs.length - i : Nat) : Int)) (W.setCells w.heap.size ((i + 1) * 4) (cs.drop (i * 4))) := fun W hWc hWf ty dc sc =>
    run_copyK W _ _ ty 47 4 (xs.length - i) w.heap.size ((i + 1) * 4) (xs.length - i) dc ⟨g, i * 4, none⟩ (xs.length - i) sc (cs.drop (i * 4)) Try.underlying33 hsz (by simp only [Nat.min_def]; split <;> omega) hdl
      (fun j v hj => by
        rw [Addr.add_lit, hWc, World.cell?_setCells_out _ _ _ _ _ (fun h _ => absurd h hbN)]
        exact hOb _ v (hcc (i * 4 + j) v (by rwa [List.getElem?_drop] at hj)))
      (fun j hj => by rw [hWc]; exact World.isSome_setCells _ _ _ _ _ (hN _ (by omega)))
      (fun j hj => by rw [hWf, World.frozen?_setCells]; exact hNf _) (fun v hv => hcs1 v (List.mem_of_mem_drop hv))
  subst hW1
  have hE1 : ∀ p, ((w.alloc (.cells ROW 47)).drew).cell? p = (w.drew.alloc (.cells ROW 47)).cell? p := fun _ => rfl
  have hE2 : ∀ p, ((w.alloc (.cells ROW 47)).drew).frozen? p = (w.drew.alloc (.cells ROW 47)).frozen? p := fun _ => rfl
  have hF1 : ∀ p, (((w.alloc (.cells ROW 47)).drew.setCells w.heap.size (i * 4) (trC x)).drew).cell? p = ((w.drew.alloc (.cells ROW 47)).setCells w.heap.size (i * 4) (trC x)).cell? p := fun _ => rfl
  have hF2 : ∀ p, (((w.alloc (.cells ROW 47)).drew.setCells w.heap.size (i * 4) (trC x)).drew).frozen? p = ((w.drew.alloc (.cells ROW 47)).setCells w.heap.size (i * 4) (trC x)).frozen? p := fun _ => rfl
  have hw1 : IntKind.i64.wrap ((i : Int) + 1) = (i : Int) + 1 := by rw [IntKind.wrap_i64]; omega
  have hb1 : (0 : Int) ≤ (i : Int) + 1 := by omega
  have hin : i ≤ xs.length := by omega
  have htn : ((i : Int) + 1).toNat = i + 1 := by omega
  have hb3 : (i : Int) ≤ (xs.length : Int) := by omega
  clear hkk hik hold hROW hG hRl hN hNf hOb hOv hcc hdl hcs hcs1 hcl0 hx
  go_enter Try.func27, Try.ntmps27
  go_wp2_with (first
    | (at_builtin; refine Lib.wpList_append_run _ rfl _ _ _ _ rfl _ _ rfl rfl _ _ (hrz _) ?_)
    | (at_builtin; refine copy_list _ rfl _ _ 33 33 rfl _ _ rfl rfl (hcpA _ hE1 hE2 _ _) ?_))
  go_region_law_o (refine copy_step rfl _ _ 33 33 rfl (.slice (some ⟨w.heap.size, (i + 1) * 4, none⟩) (xs.length - i) (G - (i + 1))) (.slice (some ⟨g, i * 4, none⟩) (xs.length - i) (xs.length - i)) (by simp [Act.eval, Act.put]) (by simp [Act.eval, Act.put]) (hcpB _ hF1 hF2 3 (G - (i + 1)) (xs.length - i)) ?_)
  go_wp2
  go_ret
  exact ⟨rfl, rfl⟩
end Go.Proofs.Ytddeaiciochggaa
/- slices.Insert of one table into a list of tables in memory of the call's own. Conditions: at most 100 tables. -/
namespace Go.Proofs.Ytddeaiciochggaa
open Go.RowKit Go.Sort Go.Maps
set_option linter.unusedSimpArgs false
set_option linter.unusedVariables false

theorem take_newK {row cur1 cur2 : Array Value} {cs x : List Value} {p q N : Nat} (hl : cs.length = N) (hp : p ≤ N) (hq : q = p + x.length) (h0 : ∀ j, j < p → row[j]? = cs[j]?)
    (h1 : ∀ j : Nat, cur1[j]? = if p ≤ j ∧ j < p + x.length then x[j - p]? else row[j]?)
    (h2 : ∀ j : Nat, cur2[j]? = if q ≤ j ∧ j < q + (cs.drop p).length then (cs.drop p)[j - q]? else cur1[j]?) :
    cur2.toList.take (N + x.length) = cs.take p ++ (x ++ cs.drop p) := by
  apply List.ext_getElem?
  intro j
  have hd : (cs.drop p).length = N - p := by rw [List.length_drop, hl]
  have ht : (cs.take p).length = p := by rw [List.length_take, hl]; omega
  rw [List.getElem?_take]
  rw [hd] at h2
  by_cases c0 : j < N + x.length
  · rw [if_pos c0, Array.getElem?_toList, h2]
    by_cases c : j < p
    · rw [if_neg (by omega), h1, if_neg (by omega), List.getElem?_append_left (by omega), List.getElem?_take, if_pos c, h0 j c]
    · rw [List.getElem?_append_right (by omega), ht]
      by_cases c2 : j < p + x.length
      · rw [if_neg (by omega), h1, if_pos (by omega), List.getElem?_append_left (by omega)]
      · rw [if_pos (by omega), List.getElem?_append_right (by omega)]
        congr 1
        omega
  · rw [if_neg c0, List.getElem?_eq_none]
    rw [List.length_append, List.length_append, ht, hd]
    omega
theorem ins_flat (xs : List Tr) (y : Tr) (i : Nat) : (xs.take i ++ y :: xs.drop i).flatMap trC = (xs.flatMap trC).take (i * 4) ++ (trC y ++ (xs.flatMap trC).drop (i * 4)) := by
  rw [List.flatMap_append, List.flatMap_cons, flat_take, flat_drop]
theorem insOk_any (n : Nat) (hn : n ≤ 100) : InsOk n := fun W B i v xs y p hl hi ht hy hB hx hvb => by
  subst hl
  have hxc := row_cells hx
  by_cases he : i = xs.length
  · subst he
    refine (insert_endT xs.length hn W B v xs y p rfl ht hy hB hxc).mono fun e w' h => ?_
    rw [List.take_length, List.drop_length]
    exact h
  · obtain ⟨g, cap, rfl⟩ := ownsRow_some ht.own (by omega)
    have hgp : p ≠ g := fun e => hvb (by rw [e]; rfl)
    have hcl := trs_len xs
    have hl : (xs.take i ++ y :: xs.drop i).length = xs.length + 1 := by simp; omega
    have hk : ∀ w', W.grownBy w' (some g) → ∀ x ∈ xs.take i ++ y :: xs.drop i, TrO w' B x := fun w' hg x hx' => by
      have hrow : ∀ k, some g = some k → ∃ cs T fr, W.heap[k]? = some (.cells cs T fr) ∧ T ≠ 59 ∧ T ≠ 81 := fun k e => by
        injection e with e
        subst e
        obtain ⟨cs, fr, h1⟩ := own_type ht.own g rfl
        exact ⟨cs, _, fr, h1, by decide, by decide⟩
      rcases List.mem_append.1 hx' with h | h
      · exact (ht.tabs x (List.mem_of_mem_take h)).kept hg hrow
      · rcases List.mem_cons.1 h with rfl | h
        · exact hy.kept hg hrow
        · exact (ht.tabs x (List.mem_of_mem_drop h)).kept hg hrow
    have hc : xs.length ≤ cap := by
      rcases ht.own.2 with ⟨h', _⟩ | ⟨g', cap', cur, h', _, _, h2, h3, _⟩
      · cases h'
      · injection h' with _ _ h'
        subst h'
        exact h2
    by_cases hcap : cap = xs.length
    · subst hcap
      refine (insertT_grow B i g xs y p W ht.own (by omega) hn hxc).mono fun e w' ⟨he', hw⟩ => ?_
      have hG := grownCap_ge W (xs.length + 1) xs.length 47
      have hG2 := grownCap_le_maxLen W (xs.length + 1) xs.length 47 (by unfold maxLen; omega)
      generalize grownCap W (xs.length + 1) xs.length 47 = G at hG hG2 hw he'
      obtain ⟨ROW, hROW⟩ : ∃ ROW : Array Value, ROW = ((xs.flatMap trC).take (i * 4)).toArray ++ Builtin.zeroCells zA.cells (xs.length + 1 - i) ++ Builtin.zeroCells zA.cells (G - (xs.length + 1)) := ⟨_, rfl⟩
      rw [← hROW] at hw
      have hs : ROW.size = G * 4 := by rw [hROW]; simp only [Array.size_append, List.size_toArray, List.length_take, zeroT_len]; omega
      have h0 : ∀ j, j < i * 4 → ROW[j]? = (xs.flatMap trC)[j]? := fun j hj => by
        rw [hROW, Array.append_assoc, Array.getElem?_append_left (by rw [List.size_toArray, List.length_take]; omega), List.getElem?_toArray, List.getElem?_take, if_pos hj]
      obtain ⟨cur1, a1, a2, a3⟩ := heap_setCells W.heap.size 47 (trC y) (i * 4) ((W.alloc (.cells ROW 47)).drew) ROW (heap_alloc_new W _) (by rw [trC_len]; omega)
      obtain ⟨cur2, b1, b2, b3⟩ := heap_setCells W.heap.size 47 ((xs.flatMap trC).drop (i * 4)) ((i + 1) * 4) (((W.alloc (.cells ROW 47)).drew.setCells W.heap.size (i * 4) (trC y)).drew) cur1 a1 (by rw [List.length_drop]; omega)
      have hgw : W.grownBy w' (some g) := by
        rw [hw]
        exact grown_some (grown_news _ _ _ _ _ (Nat.le_refl _) (grown_trans (grown_news _ _ _ _ _ (Nat.le_refl _) (grown_trans (World.grownBy_alloc W _ none) (grown_drew _ _))) (grown_drew _ _)))
      refine ⟨_, he', ⟨?_, hk w' hgw⟩, hgw⟩
      rw [hw]
      refine ⟨by rw [trs_len], .inr ⟨W.heap.size, G, cur2, by rw [hl], hB, b1, by rw [hl]; exact hG, hG2, by omega, ?_⟩⟩
      rw [hl, ins_flat]
      have h9 := take_newK (q := (i + 1) * 4) hcl (by omega) (by rw [trC_len]; omega) h0 a3 b3
      rw [trC_len] at h9
      rw [show (xs.length + 1) * 4 = xs.length * 4 + 4 by omega]
      exact h9
    · refine (insertT_shift B i g cap xs y p W ht.own (by omega) (by omega) (by omega) hx hgp).mono fun e w' ⟨he', hw⟩ => ?_
      have hgw : W.grownBy w' (some g) := by
        rw [hw]
        exact grown_trans (grown_drew W _) (grown_trans (grown_setCells g _ _ _) (grown_setCells g _ _ _))
      refine ⟨_, he', ⟨?_, hk w' hgw⟩, hgw⟩
      rcases ht.own.2 with ⟨h', _⟩ | ⟨g', cap', cur, h', hB', h0, h2, h3, h4, h5⟩
      · cases h'
      injection h' with h6 _ h7
      injection h6 with h6
      injection h6 with h6
      subst h6 h7
      obtain ⟨cur1, a1, a2, a3⟩ := heap_setCells g 47 ((xs.flatMap trC).drop (i * 4)) ((i + 1) * 4) W.drew cur h0 (by rw [List.length_drop]; omega)
      obtain ⟨cur2, b1, b2, b3⟩ := heap_setCells g 47 (trC y) (i * 4) _ cur1 a1 (by rw [trC_len]; omega)
      rw [hw]
      refine ⟨by rw [trs_len], .inr ⟨g, cap, cur2, by rw [hl], hB', b1, by rw [hl]; omega, h3, by omega, ?_⟩⟩
      rw [hl, ins_flat]
      have h9 := take_shiftK (q := (i + 1) * 4) (by simpa using h5) hcl (by omega) (by rw [trC_len]; omega) a3 b3
      rw [trC_len] at h9
      rw [show (xs.length + 1) * 4 = xs.length * 4 + 4 by omega]
      exact h9
end Go.Proofs.Ytddeaiciochggaa
/- What Drop makes of a catalog: the walk. Conditions: a catalog that is read in memory. -/
namespace Go.Proofs.Ytddeaiciochggaa
open Go.RowKit Go.Sort Go.Maps
set_option linter.unusedSimpArgs false
set_option linter.unusedVariables false

/-- What Drop answers: an error, or the tables that are left. -/
def dropF (ls : List Tb) (s : ByteArray) : Int × List Tb :=
  if catB ls = false then (9, []) else if isT ls s = true then (0, ls.eraseIdx (posT ls s)) else (93, [])
set_option maxRecDepth 100000 in
set_option maxHeartbeats 8000000 in
theorem drop_any (A : Option Addr) (c : Nat) (ls : List Tb) (s : ByteArray) (w : World) (hr : RdS w A ls) (hn : ls.length ≤ 9223372036854775807) :
    Calls Try.prog 11 #[.agg #[.slice A ls.length c], .string s] w (ChgPost w (dropF ls s)) := by
  have hb1 := below1 w (.cells #[.slice A ls.length c] 35)
  have hb2 := below1 (w.alloc (.cells #[.slice A ls.length c] 35)) (.cells #[.slice none 0 0] 35)
  have h1 : Bx1 ((w.alloc (.cells #[.slice A ls.length c] 35)).alloc (.cells #[.slice none 0 0] 35)) w.heap.size (.slice A ls.length c) := Bx1.below (heap_alloc_new w _) hb2
  have h3 : Bx1 ((w.alloc (.cells #[.slice A ls.length c] 35)).alloc (.cells #[.slice none 0 0] 35)) (w.heap.size + 1) (.slice none 0 0) := by
    have := heap_alloc_new (w.alloc (.cells #[.slice A ls.length c] 35)) (.cells #[.slice none 0 0] 35)
    rwa [World.size_alloc] at this
  have HB2 := Lib.hid (thn hb1 hb2)
  have HS2 := Lib.hid h1
  have HR2 := Lib.hid h3
  have HR := Lib.hid hr
  have hfd := find_any A c ls s _ (hr.below (thn hb1 hb2)) hn
  obtain ⟨b0, bf⟩ := h1.cells
  clear hr hb1 hb2 h1 h3
  generalize hwa : (w.alloc (.cells #[.slice A ls.length c] 35)).alloc (.cells #[.slice none 0 0] 35) = wa at *
  by_cases hC : catB ls = true
  · have hcat := cat_of hC
    by_cases hI : isT ls s = true
    · have hff : findF ls s = ((posT ls s : Int), 0) := by unfold findF; rw [if_neg (by simp [hC]), if_pos hI]
      have hdf : dropF ls s = (0, ls.eraseIdx (posT ls s)) := by unfold dropF; rw [if_neg (by simp [hC]), if_pos hI]
      obtain ⟨hp, _⟩ := isT_get hI
      rw [hff] at hfd
      rw [hdf]
      have hfew := hcat.few
      have HFD := Lib.hid hfd
      have HCP := Lib.hid fun (W : World) (hb : Below w.heap.size w W) => copyAll_any A c ls W (HR.out.below hb) (by omega) hcat.may
      clear hfd hff hdf hcat hC hI
      generalize posT ls s = i at *
      have hw1 : IntKind.i64.wrap ((i : Int) + 1) = (i : Int) + 1 := by rw [IntKind.wrap_i64]; omega
      go_enter Try.func11, Try.ntmps11
      go_upto_region 1 with fail
      try rw [hwa]
      go_upto_region 5 with (first
        | (go_at_call 9; (with_reducible refine HFD.out.mono ?_); rintro e w3 ⟨rfl, hb⟩; have HS3 := Lib.hid (HS2.out.below hb); have HR3 := Lib.hid (HR2.out.below hb); have HB3 := Lib.hid (thn HB2.out hb); obtain ⟨c0, cf⟩ := HS3.out.cells; clear hb)
        | (go_at_call 26; (with_reducible refine (HCP.out _ HB3.out).mono ?_); rintro e w4 ⟨v, xs, rfl, htb, hap, hxs, hb⟩; have HR4 := Lib.hid (HR3.out.below hb); have HB4 := Lib.hid (thn HB3.out hb); have HTB4 := Lib.hid (htb.le HB3.out.size); have HXS := Lib.hid hxs; obtain ⟨A7, n7, c7, rfl⟩ := form_of htb.own; clear htb hap hxs hb))
      have h5 := below1 w4 (.cells #[.slice A7 n7 c7] 35)
      have HN5 : Hid (Bx1 (w4.alloc (.cells #[.slice A7 n7 c7] 35)) w4.heap.size (.slice A7 n7 c7)) := Lib.hid (heap_alloc_new w4 (.cells #[.slice A7 n7 c7] 35))
      have HR5 := Lib.hid (HR4.out.below h5)
      have HB5 := Lib.hid (thn HB4.out h5)
      have HTB5 := Lib.hid (HTB4.out.below h5)
      have hnr : w.heap.size + 1 ≠ w4.heap.size := by have := HR4.out.lt; omega
      have hnw : w.heap.size ≤ w4.heap.size := HB4.out.size
      have hxl : xs.length = ls.length := by rw [← HXS.out, List.length_map]
      have HDE := Lib.hid (deleteT_own w.heap.size i (.slice A7 n7 c7) xs _ HTB5.out (by omega) (by omega))
      obtain ⟨n0, nf⟩ := HN5.out.cells
      clear h5 HR4 HB4 HTB4 HS2 HR2 HB2 b0 bf c0 cf HFD HCP
      generalize w4.alloc (.cells #[.slice A7 n7 c7] 35) = w5 at *
      generalize w4.heap.size = nb at *
      go_upto_region 6 with (go_at_call 33; (with_reducible refine HDE.out.mono ?_); rintro e w6 ⟨v6, rfl, htb, hg⟩; obtain ⟨A6, n6, c6, rfl⟩ := form_of htb.own; have HN6 := Lib.hid (HN5.out.grown hg (own_ne HTB5.out.own HN5.out (by decide))); have HR6 := Lib.hid (HR5.out.grown hg (own_ne HTB5.out.own HR5.out (by decide))); have HB6 := Lib.hid (HB5.out.grown hg HB5.out.size (fun k hk => (HTB5.out.own.lt k hk).1)); have HTB6 := Lib.hid htb; obtain ⟨z0, zf⟩ := HN6.out.cells; clear htb hg)
      have HN7 := Lib.hid (HN6.out.set (.slice A6 n6 c6))
      have HR7 := Lib.hid (HR6.out.other ⟨nb, 0, none⟩ hnr (.slice A6 n6 c6))
      have HB7 := Lib.hid (below_set HB6.out ⟨nb, 0, none⟩ (by simp; omega) (.slice A6 n6 c6))
      have HTB7 := Lib.hid (HTB6.out.kept (grown_setCell w6 nb 0 (.slice A6 n6 c6)) HN6.out (by decide) (by decide) (by decide))
      clear z0 zf n0 nf HN6 HR6 HB6 HTB6 HN5 HR5 HB5 HTB5 HDE
      generalize w6.setCell ⟨nb, 0, none⟩ (.slice A6 n6 c6) = w7 at *
      obtain ⟨z0, zf⟩ := HN7.out.cells
      obtain ⟨r0, rf⟩ := HR7.out.cells
      have Z0 := Lib.hid (HR7.out.set (.slice A6 n6 c6)).cells.1
      have HTB8 := Lib.hid (HTB7.out.kept (grown_setCell w7 (w.heap.size + 1) 0 (.slice A6 n6 c6)) HR7.out (by decide) (by decide) (by decide))
      have HB8 := Lib.hid (below_set HB7.out ⟨w.heap.size + 1, 0, none⟩ (by simp) (.slice A6 n6 c6))
      go_wp2
      refine bodyPost_ret (v := .tuple #[.agg #[.slice A6 n6 c6], .int .i64 0]) (by simp [results, Try.results11, go_sem, Z0.out]) rfl ⟨fun hne => absurd rfl hne, fun _ => ⟨_, _, rfl, HTB8.out, ?_⟩, HB8.out⟩
      rw [List.eraseIdx_eq_take_drop_succ, List.eraseIdx_eq_take_drop_succ, List.map_append, List.map_take, List.map_drop, HXS.out]
    · have hff : findF ls s = (0, 93) := by unfold findF; rw [if_neg (by simp [hC]), if_neg hI]
      have hdf : dropF ls s = (93, []) := by unfold dropF; rw [if_neg (by simp [hC]), if_neg hI]
      rw [hff] at hfd
      rw [hdf]
      have HFD := Lib.hid hfd
      clear hfd hff hdf hcat hC hI
      go_enter Try.func11, Try.ntmps11
      go_upto_region 3 with (go_at_call 9; (with_reducible refine HFD.out.mono ?_); rintro e w3 ⟨rfl, hb⟩; have HR3 := Lib.hid (HR2.out.below hb); have HB3 := Lib.hid (thn HB2.out hb); clear hb)
      obtain ⟨r0, rf⟩ := HR3.out.cells
      have Z0 := Lib.hid (HR3.out.set (.slice none 0 0)).cells.1
      have HZ := Lib.hid (below_set HB3.out ⟨w.heap.size + 1, 0, none⟩ (by simp) (.slice none 0 0))
      go_wp2
      exact bodyPost_ret (v := .tuple #[.agg #[.slice none 0 0], .int .i64 93]) (by simp [results, Try.results11, go_sem, Z0.out]) rfl (leaf_bad rfl (by decide) HZ.out)
  · have hff : findF ls s = (0, 9) := by unfold findF; rw [if_pos (by simpa using hC)]
    have hdf : dropF ls s = (9, []) := by unfold dropF; rw [if_pos (by simpa using hC)]
    rw [hff] at hfd
    rw [hdf]
    have HFD := Lib.hid hfd
    clear hfd hff hdf hC
    go_enter Try.func11, Try.ntmps11
    go_upto_region 3 with (go_at_call 9; (with_reducible refine HFD.out.mono ?_); rintro e w3 ⟨rfl, hb⟩; have HR3 := Lib.hid (HR2.out.below hb); have HB3 := Lib.hid (thn HB2.out hb); clear hb)
    obtain ⟨r0, rf⟩ := HR3.out.cells
    have Z0 := Lib.hid (HR3.out.set (.slice none 0 0)).cells.1
    have HZ := Lib.hid (below_set HB3.out ⟨w.heap.size + 1, 0, none⟩ (by simp) (.slice none 0 0))
    go_wp2
    exact bodyPost_ret (v := .tuple #[.agg #[.slice none 0 0], .int .i64 9]) (by simp [results, Try.results11, go_sem, Z0.out]) rfl (leaf_bad rfl (by decide) HZ.out)
end Go.Proofs.Ytddeaiciochggaa
/- A table more in a catalog, and taken out again: plain mathematics. Conditions: none. -/
namespace Go.Proofs.Ytddeaiciochggaa
open Go.RowKit Go.Sort Go.Maps
set_option linter.unusedSimpArgs false
set_option linter.unusedVariables false

theorem befT_pre (ls : List Tb) (s : ByteArray) : ∀ j (h : j < posT ls s), lessB (ls[j]'(Nat.lt_of_lt_of_le h (posT_le ls s))).m s = true := fun j h => by
  unfold posT at h
  have h1 := List.all_takeWhile (p := befT s) (l := ls)
  have h2 := List.all_eq_true.1 h1 _ (List.getElem_mem h)
  rw [(List.takeWhile_prefix (befT s)).getElem h] at h2
  exact h2
theorem befT_at (ls : List Tb) (s : ByteArray) : ∀ (h : posT ls s < ls.length), lessB ls[posT ls s].m s = false := by
  unfold posT
  induction ls with
  | nil => intro h; simp at h
  | cons a l ih =>
    intro h
    cases hb : befT s a
    · simp only [List.takeWhile_cons, hb] at h ⊢
      simpa [befT] using hb
    · simp only [List.takeWhile_cons, hb, if_true, List.length_cons] at h ⊢
      simpa using ih (by simpa using h)
theorem ls_after {ls : List Tb} {s : ByteArray} (hI : isT ls s = false) (h : posT ls s < ls.length) : lessB s ls[posT ls s].m = true := by
  have h1 := befT_at ls s h
  cases h2 : lessB s ls[posT ls s].m
  · exfalso
    have e : ls[posT ls s].m = s := ba_iff.1 (less_tri h1 h2)
    unfold isT at hI
    rw [List.getElem?_eq_getElem h] at hI
    simp [ordS_zero.2 e] at hI
  · rfl
theorem ins_len (ls : List Tb) (i : Nat) (t : Tb) (hi : i ≤ ls.length) : (insT ls i t).length = ls.length + 1 := by
  unfold insT
  simp
  omega
theorem srtT_ins {ls : List Tb} {t : Tb} (h : SrtT ls) (hI : isT ls t.m = false) : SrtT (insT ls (posT ls t.m) t) := by
  have hle := posT_le ls t.m
  have hd : ∀ b ∈ ls.drop (posT ls t.m), lessB t.m b.m = true := fun b hb => by
    obtain ⟨j, hj, e⟩ := List.mem_iff_getElem.1 hb
    subst e
    rw [List.getElem_drop]
    have hl : posT ls t.m + j < ls.length := by simp at hj; omega
    have h0 := ls_after hI (by omega)
    cases j with
    | zero => exact h0
    | succ k => exact lessB_trans h0 (h.get (i := posT ls t.m) (j := posT ls t.m + (k + 1)) (by omega) hl)
  have ht : ∀ a ∈ ls.take (posT ls t.m), lessB a.m t.m = true := fun a ha => by
    obtain ⟨j, hj, e⟩ := List.mem_iff_getElem.1 ha
    subst e
    rw [List.getElem_take]
    exact befT_pre ls t.m j (by simp at hj; omega)
  unfold SrtT insT
  rw [List.pairwise_append]
  refine ⟨List.Pairwise.sublist (List.take_sublist _ _) h, List.pairwise_cons.2 ⟨hd, List.Pairwise.sublist (List.drop_sublist _ _) h⟩, fun a ha b hb => ?_⟩
  rcases List.mem_cons.1 hb with rfl | hb
  · exact ht a ha
  · exact lessB_trans (ht a ha) (hd b hb)
theorem ins_get (ls : List Tb) (i : Nat) (t : Tb) (hi : i ≤ ls.length) : (insT ls i t)[i]'(by rw [ins_len _ _ _ hi]; omega) = t := by
  unfold insT
  rw [List.getElem_append_right (by simp; omega)]
  simp
  have : i - min i ls.length = 0 := by omega
  simp [this]
theorem ins_erase (ls : List Tb) (i : Nat) (t : Tb) (hi : i ≤ ls.length) : (insT ls i t).eraseIdx i = ls := by
  unfold insT
  rw [List.eraseIdx_append_of_length_le (by simp; omega)]
  simp
  have : i - min i ls.length = 0 := by omega
  simp [this]
theorem ins_names (ls : List Tb) (i : Nat) (t : Tb) (ht : t.idx = []) : names (insT ls i t) = names ls := by
  unfold names insT
  rw [List.flatMap_append, List.flatMap_cons, ht, List.map_nil, List.nil_append, ← List.flatMap_append, List.take_append_drop]
/-- A catalog with a table more. -/
theorem Cat.ins {ls : List Tb} {t : Tb} (h : Cat ls) (hI : isT ls t.m = false) (ht : t.idx = []) (hm : tblB t = true) (h8 : ls.length ≠ 8) : Cat (insT ls (posT ls t.m) t) ∧ posT (insT ls (posT ls t.m) t) t.m = posT ls t.m ∧ isT (insT ls (posT ls t.m) t) t.m = true := by
  have hle := posT_le ls t.m
  have hs := srtT_ins h.srt hI
  have hl := ins_len ls (posT ls t.m) t hle
  have hg := ins_get ls (posT ls t.m) t hle
  have h1 := isT_mem hs (j := posT ls t.m) (by omega)
  rw [hg] at h1
  have hf := h.few
  refine ⟨⟨by omega, hs, fun x hx => ?_, by rw [ins_names _ _ _ ht]; exact h.new⟩, h1⟩
  unfold insT at hx
  rcases List.mem_append.1 hx with hx | hx
  · exact h.may _ (List.mem_of_mem_take hx)
  · rcases List.mem_cons.1 hx with rfl | hx
    · exact hm
    · exact h.may _ (List.mem_of_mem_drop hx)
end Go.Proofs.Ytddeaiciochggaa
/- What is so of a catalog that Create made: plain mathematics. Conditions: none. -/
namespace Go.Proofs.Ytddeaiciochggaa
open Go.RowKit Go.Sort Go.Maps
set_option linter.unusedSimpArgs false
set_option linter.unusedVariables false

theorem creF_ok {n : Nat} {ls : List Tb} {x : Sy.St n} (h : (creF ls x).1 = 0) : askF ls x 1 = 0 ∧ isT ls x.tb = false ∧ newB [] ((x.cols.map clOf).map Cl.m) = true ∧ (x.cols.map clOf).any (isC x.key) = true ∧ ls.length ≠ 8 ∧ creF ls x = (0, insT ls (posT ls x.tb) (mkT x)) := by
  unfold creF at h ⊢
  by_cases h1 : askF ls x 1 = 0
  · rw [if_neg (by simp [h1])] at h ⊢
    by_cases h2 : isT ls x.tb = true
    · rw [if_pos h2] at h
      exact absurd h (by decide)
    rw [if_neg h2] at h ⊢
    by_cases h3 : newB [] ((x.cols.map clOf).map Cl.m) = false
    · rw [if_pos h3] at h
      exact absurd h (by decide)
    rw [if_neg h3] at h ⊢
    by_cases h4 : (x.cols.map clOf).any (isC x.key) = false
    · rw [if_pos h4] at h
      exact absurd h (by decide)
    rw [if_neg h4] at h ⊢
    by_cases h5 : ls.length = 8
    · rw [if_pos h5] at h
      exact absurd h (by decide)
    rw [if_neg h5]
    exact ⟨h1, by simpa using h2, by simpa using h3, by simpa using h4, h5, rfl⟩
  · rw [if_pos h1] at h
    exact absurd h h1
theorem tblB_keyed {m : ByteArray} {cs : List Cl} {i : Nat} (hm : nameB m = true) (h8 : cs.length ≤ 8) (h1 : 1 ≤ cs.length) (hc : ∀ c ∈ cs, colB c = true) (hn : newB [] (cs.map Cl.m) = true) (hi : i < cs.length) : tblB ⟨m, keyed cs i, (i : Int), []⟩ = true := by
  have hl := keyed_len cs i
  have e := keyed_some hi
  have hnm : (keyed cs i).map Cl.m = cs.map Cl.m := by
    rw [e, List.map_set]
    apply List.ext_getElem?
    intro j
    rw [List.getElem?_set]
    split
    · rename_i hj
      subst hj
      rw [if_pos (by simpa using hi), List.getElem?_map, List.getElem?_eq_getElem hi]
      rfl
    · rfl
  have hall : (keyed cs i).all colB = true := by
    rw [List.all_eq_true]
    intro c h
    rw [e] at h
    rcases List.mem_or_eq_of_mem_set h with h | h
    · exact hc c h
    · subst h
      have h5 := hc cs[i] (List.getElem_mem hi)
      unfold colB at h5 ⊢
      exact h5
  have hnn : notNullB (keyed cs i) (i : Int) = true := by
    unfold notNullB
    rw [Int.toNat_natCast, e, List.getElem?_set_self hi]
  have h0 : ¬ (cs.length = 0) := by omega
  have hi' : (i : Int) < (cs.length : Int) := by omega
  have hn0 : newB [] [] = true := rfl
  unfold tblB
  dsimp only
  rw [hm, hnm, hn, hnn, hl]
  simp [colsB, hall, hl, h0, h8, idxB, placeB, hi', hn0]
theorem tblB_mk {n : Nat} {x : Sy.St n} (hk : Mk1 x) (hn : newB [] ((x.cols.map clOf).map Cl.m) = true) (ha : (x.cols.map clOf).any (isC x.key) = true) : tblB (mkT x) = true := by
  obtain ⟨i, hi, e, _⟩ := fst1_get ha
  unfold mkT
  rw [e, Int.toNat_natCast]
  refine tblB_keyed hk.tb (by simpa using hk.few) (by simpa using hk.one) (fun c hc => ?_) hn hi
  obtain ⟨y, hy, rfl⟩ := List.mem_map.1 hc
  obtain ⟨a1, a2, a3⟩ := hk.cols y hy
  simp [colB, clOf, a1, a2, a3]
/-- What is so of a catalog that Create made. -/
structure Made (ls L : List Tb) (s : ByteArray) : Prop where
  old : Cat ls
  cat : Cat L
  at_ : posT ls s < L.length
  nm : (L[posT ls s]'at_).m = s
  find : findF L s = ((posT ls s : Int), 0)
  drop : dropF L s = (0, ls)
  gone : findF ls s = (0, 93)
theorem creF_made {n : Nat} {ls : List Tb} {x : Sy.St n} (h : (creF ls x).1 = 0) : Made ls (creF ls x).2 x.tb := by
  obtain ⟨h1, h2, h3, h4, h5, e⟩ := creF_ok h
  obtain ⟨hC, hkd, hck⟩ := askF_zero h1
  have hc := cat_of hC
  have hm := tblB_mk (mk1_of hkd hck) h3 h4
  have hle := posT_le ls x.tb
  obtain ⟨c1, c2, c3⟩ := Cat.ins (t := mkT x) hc h2 rfl hm h5
  rw [e]
  dsimp only
  have hl := ins_len ls (posT ls x.tb) (mkT x) hle
  have hg := ins_get ls (posT ls x.tb) (mkT x) hle
  have hB := catB_of c1
  have hB' : catB (insT ls (posT ls x.tb) (mkT x)) = true := hB
  have c2' : posT (insT ls (posT ls x.tb) (mkT x)) x.tb = posT ls x.tb := c2
  have c3' : isT (insT ls (posT ls x.tb) (mkT x)) x.tb = true := c3
  exact { old := hc, cat := c1, at_ := by omega, nm := by rw [hg]; rfl,
          find := by unfold findF; rw [if_neg (by simp [hB']), if_pos c3', c2'],
          drop := by unfold dropF; rw [if_neg (by simp [hB']), if_pos c3', c2', ins_erase _ _ _ hle],
          gone := by unfold findF; rw [if_neg (by simp [hC]), if_neg (by simp [h2])] }
end Go.Proofs.Ytddeaiciochggaa
/- A catalog with an index more may be: plain mathematics. Conditions: none. -/
namespace Go.Proofs.Ytddeaiciochggaa
open Go.RowKit Go.Sort Go.Maps
set_option linter.unusedSimpArgs false
set_option linter.unusedVariables false

theorem newB_iff : ∀ (l : List ByteArray) (acc : List (List UInt8)), newB acc l = true ↔ (octs l).Nodup ∧ ∀ o ∈ octs l, o ∉ acc
  | [], acc => by simp [newB, octs]
  | s :: l, acc => by
    have e : octs (s :: l) = s.data.toList :: octs l := rfl
    rw [e, newB, List.nodup_cons]
    by_cases h : s.data.toList ∈ acc
    · rw [if_pos (by simpa using h)]
      exact ⟨fun h' => (by cases h'), fun h' => absurd h (h'.2 _ (List.mem_cons_self ..))⟩
    · rw [if_neg (by simpa using h), newB_iff l]
      constructor
      · rintro ⟨h1, h2⟩
        refine ⟨⟨fun hm => h2 _ hm (by simp), h1⟩, fun o ho => ?_⟩
        rcases List.mem_cons.1 ho with rfl | ho
        · exact h
        · exact fun ha => h2 o ho (by simp [ha])
      · rintro ⟨⟨h1, h2⟩, h3⟩
        refine ⟨h2, fun o ho ha => ?_⟩
        rcases List.mem_append.1 ha with ha | ha
        · exact h3 o (List.mem_cons_of_mem _ ho) ha
        · simp at ha
          subst ha
          exact h1 ho
theorem newB_nodup (l : List ByteArray) : newB [] l = true ↔ (octs l).Nodup := by
  rw [newB_iff]
  exact ⟨fun h => h.1, fun h => ⟨h, fun _ _ ha => by cases ha⟩⟩
theorem names_at {ls : List Tb} {i : Nat} (hi : i < ls.length) : names ls = names (ls.take i) ++ (ls[i].idx.map Ix.m ++ names (ls.drop (i + 1))) := by
  conv => lhs; rw [← List.take_append_drop i ls, List.drop_eq_getElem_cons hi]
  unfold names
  rw [List.flatMap_append, List.flatMap_cons]
theorem names_set {ls : List Tb} {i : Nat} {t : Tb} (hi : i < ls.length) : names (ls.set i t) = names (ls.take i) ++ (t.idx.map Ix.m ++ names (ls.drop (i + 1))) := by
  rw [List.set_eq_take_append_cons_drop, if_pos hi]
  unfold names
  rw [List.flatMap_append, List.flatMap_cons]
theorem no_name {ls : List Tb} {s : ByteArray} (h : ls.any (hasX s) = false) : s.data.toList ∉ octs (names ls) := fun hm => by
  unfold octs names at hm
  obtain ⟨m, hm, e⟩ := List.mem_map.1 hm
  obtain ⟨t, ht, hm⟩ := List.mem_flatMap.1 hm
  obtain ⟨x, hx, rfl⟩ := List.mem_map.1 hm
  have h1 : ls.any (hasX s) = true := List.any_eq_true.2 ⟨t, ht, by
    unfold hasX
    refine List.any_eq_true.2 ⟨x, hx, ?_⟩
    unfold isX
    rw [ByteArray.toList_eq, ByteArray.toList_eq, e]
    exact beq_self_eq_true _⟩
  rw [h1] at h
  cases h
theorem nodup_ins {α : Type} {a b c : List α} {x : α} (h : (a ++ (b ++ c)).Nodup) (hx : x ∉ a ++ (b ++ c)) : (a ++ ((b ++ [x]) ++ c)).Nodup := by
  have hp : List.Perm (a ++ ((b ++ [x]) ++ c)) (x :: (a ++ (b ++ c))) := by
    have : a ++ ((b ++ [x]) ++ c) = (a ++ b) ++ x :: c := by simp
    rw [this, ← List.append_assoc]
    exact List.perm_middle
  exact hp.nodup_iff.2 (List.nodup_cons.2 ⟨hx, h⟩)
theorem tblB_add {t : Tb} {s : ByteArray} {k : Int} (h : tblB t = true) (hs : nameB s = true) (h4 : t.idx.length ≠ 4) (hk : placeB t.cols.length k = true) (hn : newB [] ((t.idx ++ [(⟨s, k⟩ : Ix)]).map Ix.m) = true) : tblB (addT t s k) = true := by
  unfold tblB at h ⊢
  unfold addT
  simp only [Bool.and_eq_true] at h ⊢
  obtain ⟨a1, a2, a3, a4, a5, a6, a7⟩ := h
  refine ⟨a1, a2, ?_, a4, hn, a6, a7⟩
  unfold idxB at a3 ⊢
  simp only [Bool.and_eq_true, decide_eq_true_eq, List.all_append] at a3 ⊢
  refine ⟨by simp; omega, a3.2, ?_⟩
  simp [ixB, hs, hk]
theorem addF_cat {n : Nat} {ls : List Tb} {x : Sy.St n} (h : (addF ls x).1 = 0) : Cat (addF ls x).2 := by
  obtain ⟨hp, ha⟩ := addF_ok h
  obtain ⟨hC, hkd, hck⟩ := askF_zero ha.ask
  have hc := cat_of hC
  have hix := (mk2_of hkd hck).ix
  rw [ha.eq]
  dsimp only
  obtain ⟨i, hi, e, _⟩ := fst1_get ha.col
  rw [e]
  have hnew : newB [] (names (ls.set (posT ls x.tb) (addT ls[posT ls x.tb] x.ix (i : Int)))) = true := by
    rw [newB_nodup, names_set hp]
    have h1 := (newB_nodup _).1 hc.new
    have h2 := no_name ha.new
    rw [names_at hp, octs_append, octs_append] at h1 h2
    rw [octs_append, octs_append]
    unfold addT
    rw [List.map_append, octs_append]
    exact nodup_ins h1 h2
  have hmay : tblB (addT ls[posT ls x.tb] x.ix (i : Int)) = true := by
    refine tblB_add (hc.may _ (List.getElem_mem hp)) hix ha.few (by unfold placeB; simp; omega) ?_
    rw [newB_nodup] at hnew ⊢
    rw [names_set hp, octs_append, octs_append] at hnew
    exact (List.nodup_append.1 (List.nodup_append.1 hnew).2.1).1
  refine ⟨by rw [List.length_set]; exact hc.few, ?_, fun t ht => ?_, hnew⟩
  · refine List.pairwise_iff_getElem.2 fun a b ha' hb' hab => ?_
    rw [List.length_set] at ha' hb'
    have h0 := hc.srt.get hab hb'
    rw [List.getElem_set, List.getElem_set]
    split
    · rename_i h1
      split
      · omega
      · subst h1; exact h0
    · split
      · rename_i h2
        subst h2; exact h0
      · exact h0
  · rcases List.mem_or_eq_of_mem_set ht with ht | ht
    · exact hc.may _ ht
    · subst ht; exact hmay
end Go.Proofs.Ytddeaiciochggaa
/- A catalog of the program's held against the statements' own, of the same tables: the walk of Unlike. Conditions: catalogs that are read in memory. -/
namespace Go.Proofs.Ytddeaiciochggaa
open Go.RowKit Go.Sort Go.Maps
set_option linter.unusedSimpArgs false
set_option linter.unusedVariables false

set_option maxRecDepth 100000 in
set_option maxHeartbeats 8000000 in
theorem unlike_eq (A A' : Option Addr) (c c' : Nat) (ls : List Tb) (w : World) (hr : RdS w A ls) (hr' : RdS w A' ls) (hn : ls.length ≤ 9223372036854775807) :
    Calls Try.prog 13 #[.agg #[.slice A ls.length c], .agg #[.slice A' ls.length c']] w fun e w' => e = .returned (.int .i64 0) ∧ Below w.heap.size w w' := by
  have hb1 := below1 w (.cells #[.slice A ls.length c] 35)
  have hb2 := below1 (w.alloc (.cells #[.slice A ls.length c] 35)) (.cells #[.slice A' ls.length c'] 24)
  have h1 : Bx1 ((w.alloc (.cells #[.slice A ls.length c] 35)).alloc (.cells #[.slice A' ls.length c'] 24)) w.heap.size (.slice A ls.length c) := Bx1.below (heap_alloc_new w _) hb2
  have h2 : Bxr ((w.alloc (.cells #[.slice A ls.length c] 35)).alloc (.cells #[.slice A' ls.length c'] 24)) (w.heap.size + 1) (.slice A' ls.length c') := by
    have := heap_alloc_new (w.alloc (.cells #[.slice A ls.length c] 35)) (.cells #[.slice A' ls.length c'] 24)
    rwa [World.size_alloc] at this
  have HB2 := Lib.hid (thn hb1 hb2)
  have HX2 := Lib.hid h1
  have HY2 := Lib.hid h2
  have HR := Lib.hid hr
  have HR' := Lib.hid hr'
  obtain ⟨a0, _⟩ := h1.cells
  obtain ⟨b0, _⟩ := h2.cells
  have hle : ((ls.length : Int) != (ls.length : Int)) = false := by simp
  clear hr hr' hb1 hb2 h1 h2
  go_enter Try.func13, Try.ntmps13
  go_upto_region 1 with fail
  generalize (w.alloc (.cells #[.slice A ls.length c] 35)).alloc (.cells #[.slice A' ls.length c'] 24) = w2 at *
  go_wp2
  go_loopw [5] (fun i wr => ∃ j : Nat, i = .int .i64 j ∧ j ≤ ls.length ∧ Bx1 wr w.heap.size (.slice A ls.length c) ∧ Bxr wr (w.heap.size + 1) (.slice A' ls.length c') ∧ Below w.heap.size w wr) (fun i _ => ls.length - (intOf i).toNat)
  case atStart => exact ⟨0, rfl, by omega, HX2.out, HY2.out, HB2.out⟩
  case round =>
    obtain ⟨j, rfl, hj, hX, hY, hB⟩ := hrel
    have HX := Lib.hid hX
    have HY := Lib.hid hY
    have HB := Lib.hid hB
    clear a0 b0
    obtain ⟨a0, _⟩ := hX.cells
    obtain ⟨b0, _⟩ := hY.cells
    clear hX hY hB
    by_cases hlt : j < ls.length
    · have hjl : (j : Int) < (ls.length : Int) := by omega
      obtain ⟨ad, rfl, cA, iA, cc, ic, k0, k1, k2, k3, hT⟩ := (HR.out.below HB.out).at_ hlt
      obtain ⟨bd, rfl, dA, jA, dc, jc, m0, m1, m2, m3, hU⟩ := (HR'.out.below HB.out).at_ hlt
      generalize ls[j] = t at k0 k1 k2 k3 m0 m1 m2 m3 hT hU
      have hcb := hT.cb
      have hxb := hT.xb
      have HAK := Lib.hid (alike_eq t cA iA dA jA cc ic dc jc wr.drew hT.c hT.x hU.c hU.x (by omega) (by omega))
      have HBd := Lib.hid HB.out.drew
      have HXd := Lib.hid (HX.out.below (Below.refl _ _).drew)
      have HYd := Lib.hid (HY.out.below (Below.refl _ _).drew)
      clear hT hU
      go_upto_region 6 with fail
      go_still_tail 10, (by kernel_rfl)
      change wpList _ _ _ _ _ wr.drew
      generalize wr.drew = wd at *
      go_wp2_with (go_at_call 35; (with_reducible refine HAK.out.mono ?_); rintro e w5 ⟨rfl, hb⟩; have HX5 := Lib.hid (HXd.out.below hb); have HY5 := Lib.hid (HYd.out.below hb); have HB5 := Lib.hid (thn HBd.out hb); clear hb)
      go_roundw
      case rel => exact ⟨j + 1, by go_num, hlt, HX5.out, HY5.out, HB5.out⟩
      case measure => simp [intOf]; omega
    · obtain rfl : j = ls.length := by omega
      go_wp2
      go_ret
      exact ⟨rfl, HB.out⟩
end Go.Proofs.Ytddeaiciochggaa
/- CatalogMay of any catalog and statements: the walk. Conditions: arguments that are read in memory, of lengths that every machine keeps. -/
namespace Go.Proofs.Ytddeaiciochggaa
open Go.RowKit Go.Sort Go.Maps
set_option linter.unusedSimpArgs false
set_option linter.unusedVariables false

/-- What was handed in, boxed. -/
structure KM (w wx : World) (A : Option Addr) (n c : Nat) (xc yc : Array Value) : Prop where
  s : Bxr wx w.heap.size (.slice A n c)
  x : wx.heap[w.heap.size + 1]? = some (.cells xc 31 (0, 0))
  y : wx.heap[w.heap.size + 2]? = some (.cells yc 31 (0, 0))
  b : Below w.heap.size w wx
theorem KM.below {w wx wy : World} {A : Option Addr} {n c : Nat} {xc yc : Array Value} (h : KM w wx A n c xc yc) (hb : Below wx.heap.size wx wy) : KM w wy A n c xc yc :=
  ⟨h.s.below hb, row_below h.x hb, row_below h.y hb, thn h.b hb⟩
theorem KM.lt {w wx : World} {A : Option Addr} {n c : Nat} {xc yc : Array Value} (h : KM w wx A n c xc yc) : w.heap.size + 2 < wx.heap.size := (Array.getElem?_eq_some_iff.1 h.y).1
theorem KM.set {w wx : World} {A : Option Addr} {n c : Nat} {xc yc : Array Value} (h : KM w wx A n c xc yc) (p : Addr) (hp : w.heap.size + 2 < p.block) (v : Value) : KM w (wx.setCell p v) A n c xc yc :=
  ⟨h.s.other p (by omega) v, row_other h.x p (by omega) v, row_other h.y p (by omega) v, below_set h.b p (by omega) v⟩
theorem km_fits {ls : List Tb} (h : Cat ls) : ∀ t ∈ ls, t.cols.length * 32 ≤ 140737488355328 ∧ t.idx.length * 24 ≤ 140737488355328 - 24 := fun t ht => by
  obtain ⟨h1, h2, _⟩ := few_of_may (h.may t ht)
  omega
set_option maxRecDepth 100000 in
set_option maxHeartbeats 16000000 in
theorem kMay_any {n m : Nat} (A : Option Addr) (c : Nat) (ls : List Tb) (x : Sy.St n) (h : Sy.Hs) (y : Sy.St m) (g : Sy.Hs) (w : World) (hr : RdS w A ls) (hn : ls.length * 72 ≤ 140737488355328) (hx : Sy.RdSt Sy.Any w x h) (hy : Sy.RdSt Sy.Any w y g) :
    Calls Try.prog 3 #[.agg #[.slice A ls.length c], x.val h, y.val g] w fun e w' => e = .returned (.bool true) ∧ Below w.heap.size w w' := by
  have hK : KM w (((w.alloc (.cells #[.slice A ls.length c] 24)).alloc (.cells (x.cs h) 31)).alloc (.cells (y.cs g) 31)) A ls.length c (x.cs h) (y.cs g) := by
    have b1 := below1 w (.cells #[.slice A ls.length c] 24)
    have b2 := below1 (w.alloc (.cells #[.slice A ls.length c] 24)) (.cells (x.cs h) 31)
    have b3 := below1 ((w.alloc (.cells #[.slice A ls.length c] 24)).alloc (.cells (x.cs h) 31)) (.cells (y.cs g) 31)
    refine ⟨(Bxr.below (heap_alloc_new w _) b2).below b3, stmt_row x h (w.alloc (.cells #[.slice A ls.length c] 24)) (by simp) b3, ?_, thn (thn b1 b2) b3⟩
    have := heap_alloc_new ((w.alloc (.cells #[.slice A ls.length c] 24)).alloc (.cells (x.cs h) 31)) (.cells (y.cs g) 31)
    rwa [World.size_alloc, World.size_alloc] at this
  have HK2 := Lib.hid hK
  have HAL := Lib.hid fun W => alive_any W
  have HALL := Lib.hid fun (W : World) (hb : Below w.heap.size w W) => all_any A c ls W (hr.below hb) hn
  have HCRE := Lib.hid fun (W : World) (hb : Below w.heap.size w W) (B : Option Addr) (k : Nat) (hs : RdS W B ls) => create_any B k ls x h W hs (by omega) (hx.below hb) (fun h8 => insOk_any _ (by omega))
  have HADD := Lib.hid fun (W : World) (hb : Below w.heap.size w W) (B : Option Addr) (k : Nat) (hs : RdS W B (creF ls x).2) (h8 : (creF ls x).2.length ≤ 8) => add_any B k (creF ls x).2 y g W hs (by omega) (hy.below hb)
  have HMD := Lib.hid fun (h0 : (creF ls x).1 = 0) => creF_made h0
  have HAC := Lib.hid fun (h0 : (addF (creF ls x).2 y).1 = 0) => addF_cat h0
  have HRD := Lib.hid hr
  have HN := Lib.hid hn
  clear hr hx hy hK
  generalize creF ls x = R at HCRE HADD HMD HAC
  generalize addF R.2 y = R2 at HADD HAC
  obtain ⟨kd, tb, cols, key, ix, rows, sets, items, jn, on, wh, gr, ord, lim⟩ := x
  obtain ⟨⟨aC, cC⟩, ⟨aR, cR⟩, ⟨aS, cS⟩, ⟨aI, cI⟩, ⟨aO, cO⟩, ⟨aW, cW⟩, ⟨aG, cG⟩, ⟨aD, cD⟩⟩ := h
  obtain ⟨kd', tb', cols', key', ix', rows', sets', items', jn', on', wh', gr', ord', lim'⟩ := y
  obtain ⟨⟨bC, dC⟩, ⟨bR, dR⟩, ⟨bS, dS⟩, ⟨bI, dI⟩, ⟨bO, dO⟩, ⟨bW, dW⟩, ⟨bG, dG⟩, ⟨bD, dD⟩⟩ := g
  dsimp only [Sy.St.cs, Sy.St.val] at *
  go_enter Try.func3, Try.ntmps3
  go_upto_region 1 with fail
  generalize ((w.alloc (.cells #[.slice A ls.length c] 24)).alloc (.cells #[.int .i64 kd, .string tb, .slice aC cols.length cC, .string key, .string ix, .slice aR rows.length cR, .slice aS sets.length cS, .slice aI items.length cI, .string jn, .slice aO on.length cO, .slice aW wh.length cW, .slice aG gr.length cG, .slice aD ord.length cD, .int .i64 lim] 31)).alloc (.cells #[.int .i64 kd', .string tb', .slice bC cols'.length dC, .string key', .string ix', .slice bR rows'.length dR, .slice bS sets'.length dS, .slice bI items'.length dI, .string jn', .slice bO on'.length dO, .slice bW wh'.length dW, .slice bG gr'.length dG, .slice bD ord'.length dD, .int .i64 lim'] 31) = w2 at HK2 ⊢
  have HFT := Lib.hid HRD.out.fits
  go_upto_region 3 with (go_at_call 5; (with_reducible refine (HAL.out _).mono ?_); rintro e w3 ⟨rfl, hb⟩; have HK3 := Lib.hid (HK2.out.below hb); clear hb)
  obtain ⟨s0, sf⟩ := HK3.out.s.cells
  obtain ⟨y0, y1, y2, y3, y4, y5, y6, y7, y8, y9, y10, y11, y12, y13⟩ := Sy.cells14 HK3.out.x
  clear HK2 HAL
  have ha := below1 w3 (.cells #[.slice none 0 0] 35)
  have HK3d := Lib.hid (HK3.out.below (Below.refl _ _).drew)
  have HK3a := Lib.hid ((HK3.out.below ha).below (Below.refl _ _).drew)
  have HZ3 := Lib.hid (Bx1.below (heap_alloc_new w3 (.cells #[.slice none 0 0] 35) : Bx1 (w3.alloc (.cells #[.slice none 0 0] 35)) w3.heap.size (.slice none 0 0)) (Below.refl _ _).drew)
  obtain ⟨x0, x1, x2, x3, x4, x5, x6, x7, x8, x9, x10, x11, x12, x13⟩ := Sy.cells14 (HK3.out.below ha).x
  obtain ⟨s1, _⟩ := (HK3.out.below ha).s.cells
  have hl3 := HK3.out.lt
  clear ha
  go_cut [7, 8] (fun p e wx => ∃ (b : Nat) (A5 : Option Addr) (n5 c5 : Nat), p = .pointer (some ⟨b, 0, none⟩) ∧ e = .int .i64 R.1 ∧ w.heap.size + 2 < b ∧ Bx1 wx b (.slice A5 n5 c5) ∧ (R.1 ≠ 0 → n5 = 0) ∧ (R.1 = 0 → n5 = R.2.length ∧ ∃ B xs, Tbs wx B (.slice A5 n5 c5) xs ∧ xs.map Tr.t = R.2) ∧ KM w wx A ls.length c #[.int .i64 kd, .string tb, .slice aC cols.length cC, .string key, .string ix, .slice aR rows.length cR, .slice aS sets.length cS, .slice aI items.length cI, .string jn, .slice aO on.length cO, .slice aW wh.length cW, .slice aG gr.length cG, .slice aD ord.length cD, .int .i64 lim] #[.int .i64 kd', .string tb', .slice bC cols'.length dC, .string key', .string ix', .slice bR rows'.length dR, .slice bS sets'.length dS, .slice bI items'.length dI, .string jn', .slice bO on'.length dO, .slice bW wh'.length dW, .slice bG gr'.length dG, .slice bD ord'.length dD, .int .i64 lim'])
  case first =>
    go_region_law (first
      | (go_simp; go_at_call 7; (with_reducible refine (HALL.out _ HK3d.out.b).mono ?_); rintro e v4 ⟨v, xs, rfl, htb, hxs, hb⟩; obtain ⟨A4, c4, rfl, hrd⟩ := htb.rd2 hxs HFT.out; have HRD4 := Lib.hid hrd; have HK4 := Lib.hid (HK3d.out.below hb); obtain ⟨z0, z1, z2, z3, z4, z5, z6, z7, z8, z9, z10, z11, z12, z13⟩ := Sy.cells14 HK4.out.x; have hza := below1 v4 (.cells #[.slice none 0 0] 35); obtain ⟨u0, u1, u2, u3, u4, u5, u6, u7, u8, u9, u10, u11, u12, u13⟩ := Sy.cells14 (HK4.out.below hza).x; clear htb hxs hrd hb hza)
      | (go_simp; go_at_call 7; (with_reducible refine (HALL.out _ HK3a.out.b).mono ?_); rintro e v4 ⟨v, xs, rfl, htb, hxs, hb⟩; obtain ⟨A4, c4, rfl, hrd⟩ := htb.rd2 hxs HFT.out; have HRD4 := Lib.hid hrd; have HK4 := Lib.hid (HK3a.out.below hb); have HZ4 := Lib.hid (HZ3.out.below hb); obtain ⟨z0, z1, z2, z3, z4, z5, z6, z7, z8, z9, z10, z11, z12, z13⟩ := Sy.cells14 HK4.out.x; clear htb hxs hrd hb)
      | (go_simp; go_at_call 6; (with_reducible refine (HCRE.out _ HK4.out.b A4 c4 HRD4.out).mono ?_); intro e v5 hp; obtain ⟨A5, n5, c5, rfl, h51, h52, hb⟩ := hp.all; have H51 := Lib.hid h51; have H52 := Lib.hid h52; have HK5 := Lib.hid (HK4.out.below hb); first | (have HZ5 := Lib.hid (HZ4.out.below hb); obtain ⟨q0, qf⟩ := HZ5.out.cells) | skip; clear hp h51 h52 hb)
      | (go_simp; go_at_call 6; (with_reducible refine (HCRE.out _ (thn HK4.out.b (below1 _ _)) A4 c4 (HRD4.out.below (below1 _ _))).mono ?_); intro e v5 hp; obtain ⟨A5, n5, c5, rfl, h51, h52, hb⟩ := hp.all; have H51 := Lib.hid h51; have H52 := Lib.hid h52; have HK5 := Lib.hid ((HK4.out.below (below1 _ _)).below hb); have HZ5 := Lib.hid (Bx1.below (heap_alloc_new v4 (.cells #[.slice none 0 0] 35) : Bx1 (v4.alloc (.cells #[.slice none 0 0] 35)) v4.heap.size (.slice none 0 0)) hb); obtain ⟨q0, qf⟩ := HZ5.out.cells; clear hp h51 h52 hb))
    all_goals go_wp2_with fail
    all_goals go_meet
    all_goals first
      | exact ⟨v5.heap.size, A5, n5, c5, rfl, rfl, HK5.out.lt, heap_alloc_new v5 _, H51.out, fun h0 => ⟨(H52.out h0).1, by obtain ⟨B, xs, ht, hx⟩ := (H52.out h0).2; exact ⟨B, xs, ht.below (below1 _ _), hx⟩⟩, HK5.out.below (below1 _ _)⟩
      | exact ⟨v4.heap.size, A5, n5, c5, rfl, rfl, HK4.out.lt, HZ5.out.set _, H51.out, fun h0 => ⟨(H52.out h0).1, by obtain ⟨B, xs, ht, hx⟩ := (H52.out h0).2; exact ⟨B, xs, ht.kept (grown_setCell v5 _ 0 _) HZ5.out (by decide) (by decide) (by decide), hx⟩⟩, HK5.out.set _ HK4.out.lt _⟩
      | exact ⟨w3.heap.size, A5, n5, c5, rfl, rfl, HK3.out.lt, HZ5.out.set _, H51.out, fun h0 => ⟨(H52.out h0).1, by obtain ⟨B, xs, ht, hx⟩ := (H52.out h0).2; exact ⟨B, xs, ht.kept (grown_setCell v5 _ 0 _) HZ5.out (by decide) (by decide) (by decide), hx⟩⟩, HK5.out.set _ HK3.out.lt _⟩
  case rest =>
    obtain ⟨b, A5, n5, c5, rfl, rfl, hbl, hb5, h51, h52, hk5⟩ := hcut
    have HK5 := Lib.hid hk5
    have HN5 := Lib.hid hb5
    obtain ⟨q0, qf⟩ := hb5.cells
    clear hk5 hb5 HK3 HK3d HK3a HZ3 s0 sf s1 y0 y1 y2 y3 y4 y5 y6 y7 y8 y9 y10 y11 y12 y13 x0 x1 x2 x3 x4 x5 x6 x7 x8 x9 x10 x11 x12 x13 hl3
    by_cases h0 : R.1 = 0
    · obtain ⟨hn5, B, xs, ht, hxs⟩ := h52 h0
      have hmd := HMD.out h0
      have hfo := km_fits hmd.old
      obtain ⟨A9, c9, e9, hrd⟩ := ht.rd2 hxs (km_fits hmd.cat)
      injection e9 with e91 _ e92
      subst e91 e92 hn5
      have HRD5 := Lib.hid hrd
      have hL := hmd.cat.few
      have hP := hmd.at_
      have hcl := fun (W : World) (hs : RdS W A5 R.2) => show ∃ ad, A5 = some ad ∧ W.cell? (ad.add (posT ls tb * 4)) = some (.string tb) from by
        obtain ⟨ad, e, _, _, _, _, k0, _⟩ := hs.at_ hmd.at_
        rw [hmd.nm] at k0
        exact ⟨ad, e, k0⟩
      have hfa := fun (W : World) (hs : RdS W A5 R.2) => find_any A5 c5 R.2 tb W hs (by omega)
      simp only [hmd.find] at hfa
      have hfc := fun (B : Option Addr) (k : Nat) (W : World) (hs : RdS W B ls) => find_any B k ls tb W hs (by have := HN.out; omega)
      simp only [hmd.gone] at hfc
      have hdr := fun (W : World) (hs : RdS W A5 R.2) => drop_any A5 c5 R.2 tb W hs (by omega)
      rw [hmd.drop] at hdr
      have hch := fun (W : World) (hs : RdS W A5 R.2) => cCheck_any6 A5 R.2.length c5 R.2 W rfl hs (by omega)
      rw [catB_of hmd.cat] at hch
      simp only [if_true] at hch
      have HAD := Lib.hid fun (W : World) (hb : Below w.heap.size w W) (hs : RdS W A5 R.2) => HADD.out W hb A5 c5 hs hL
      have HUN := Lib.hid fun (B : Option Addr) (k : Nat) (W : World) (hb : Below w.heap.size w W) (hs : RdS W B ls) => unlike_eq B A k c ls W hs (HRD.out.below hb) (by have := HN.out; omega)
      have HFO := Lib.hid hfo
      generalize posT ls tb = P at hfa hcl hP
      have HFA := Lib.hid hfa
      have HFC := Lib.hid hfc
      have HDR := Lib.hid hdr
      have HCH := Lib.hid hch
      have HCL := Lib.hid hcl
      generalize hE : R.1 = E at h0 ⊢
      subst h0
      clear ht hxs hrd h51 h52 hfa hfc hdr hch hcl hmd hfo HMD HADD HCRE HALL hE hn
      obtain ⟨y0, y1, y2, y3, y4, y5, y6, y7, y8, y9, y10, y11, y12, y13⟩ := Sy.cells14 HK5.out.x
      go_upto_region 7 with (first
        | (go_at_call 8; refine (num_any _ _).mono ?_; rintro e w9 ⟨rfl, rfl⟩)
        | (go_at_call 9; (with_reducible refine (HFA.out _ HRD5.out).mono ?_); rintro e w6 ⟨rfl, hb⟩; have HK6 := Lib.hid (HK5.out.below hb); have HN6 := Lib.hid (HN5.out.below hb); have HRD6 := Lib.hid (HRD5.out.below hb); clear hb))
      clear q0 qf y0 y1 y2 y3 y4 y5 y6 y7 y8 y9 y10 y11 y12 y13 HK5 HN5 HRD5
      obtain ⟨q0, qf⟩ := HN6.out.cells
      obtain ⟨y0, y1, y2, y3, y4, y5, y6, y7, y8, y9, y10, y11, y12, y13⟩ := Sy.cells14 HK6.out.y
      go_upto_region 8 with (go_at_call 10; (with_reducible refine (HAD.out _ HK6.out.b HRD6.out).mono ?_); intro e v7 hp; obtain ⟨A7, n7, c7, rfl, h71, h72, hb⟩ := hp.all; have H72 := Lib.hid h72; have HK7 := Lib.hid (HK6.out.below hb); have HN7 := Lib.hid (HN6.out.below hb); have HRD7 := Lib.hid (HRD6.out.below hb); clear hp h71 h72 hb)
      have h8 := below1 v7 (.cells #[.slice A7 n7 c7] 35)
      have HK8 := Lib.hid (HK7.out.below h8)
      have HN8 := Lib.hid (HN7.out.below h8)
      have HRD8 := Lib.hid (HRD7.out.below h8)
      have HG8 : Hid (Bx1 (v7.alloc (.cells #[.slice A7 n7 c7] 35)) v7.heap.size (.slice A7 n7 c7)) := Lib.hid (heap_alloc_new v7 (.cells #[.slice A7 n7 c7] 35))
      have H82 : Hid (R2.1 = 0 → n7 = R2.2.length ∧ RdS (v7.alloc (.cells #[.slice A7 n7 c7] 35)) A7 R2.2) := Lib.hid fun h0 => by
        obtain ⟨hn7, B, xs, ht, hxs⟩ := H72.out h0
        obtain ⟨A9, c9, e9, hrd⟩ := ht.rd2 hxs (km_fits (HAC.out h0))
        injection e9 with e91 _ e92
        subst e91 e92
        exact ⟨hn7, hrd.below h8⟩
      clear h8 q0 qf y0 y1 y2 y3 y4 y5 y6 y7 y8 y9 y10 y11 y12 y13 HK6 HN6 HRD6 HK7 HN7 HRD7 H72 HAD
      generalize v7.alloc (.cells #[.slice A7 n7 c7] 35) = w8 at *
      generalize v7.heap.size = b8 at *
      obtain ⟨q0, qf⟩ := HN8.out.cells
      obtain ⟨y0, y1, y2, y3, y4, y5, y6, y7, y8, y9, y10, y11, y12, y13⟩ := Sy.cells14 HK8.out.x
      go_upto_region 9 with (go_at_call 11; (with_reducible refine (HDR.out _ HRD8.out).mono ?_); intro e v9 hp; obtain ⟨A9, n9, c9, rfl, h91, h92, hb⟩ := hp.all; have H92 := Lib.hid h92; have HK9 := Lib.hid (HK8.out.below hb); have HN9 := Lib.hid (HN8.out.below hb); have HRD9 := Lib.hid (HRD8.out.below hb); have HG9 := Lib.hid (HG8.out.below hb); have H93 := Lib.hid (fun h0 => And.intro (H82.out h0).1 ((H82.out h0).2.below hb)); clear hp h91 h92 hb)
      obtain ⟨hn9, hr9⟩ : n9 = ls.length ∧ RdS v9 A9 ls := by
        obtain ⟨hn9, B, xs, ht, hxs⟩ := H92.out (by first | exact rfl | exact trivial)
        obtain ⟨A9, c9, e9, hrd⟩ := ht.rd2 hxs HFO.out
        injection e9 with e91 _ e92
        subst e91 e92
        exact ⟨hn9, hrd⟩
      subst hn9
      have h10 := below1 v9 (.cells #[.slice A9 ls.length c9] 35)
      have HKa := Lib.hid (HK9.out.below h10)
      have HNa := Lib.hid (HN9.out.below h10)
      have HRDa := Lib.hid (HRD9.out.below h10)
      have HGa := Lib.hid (HG9.out.below h10)
      have HRCa := Lib.hid (hr9.below h10)
      have HCa : Hid (Bx1 (v9.alloc (.cells #[.slice A9 ls.length c9] 35)) v9.heap.size (.slice A9 ls.length c9)) := Lib.hid (heap_alloc_new v9 (.cells #[.slice A9 ls.length c9] 35))
      have Haa := Lib.hid (fun h0 => And.intro (H93.out h0).1 ((H93.out h0).2.below h10))
      clear hr9 h10 q0 qf y0 y1 y2 y3 y4 y5 y6 y7 y8 y9 y10 y11 y12 y13 HK8 HN8 HRD8 HG8 HK9 HN9 HRD9 HG9 H92 H93 H82 HDR
      generalize v9.alloc (.cells #[.slice A9 ls.length c9] 35) = wa at *
      generalize v9.heap.size = ba at *
      obtain ⟨q0, qf⟩ := HCa.out.cells
      obtain ⟨y0, y1, y2, y3, y4, y5, y6, y7, y8, y9, y10, y11, y12, y13⟩ := Sy.cells14 HKa.out.x
      go_upto_region 10 with (go_at_call 9; (with_reducible refine (HFC.out A9 c9 _ HRCa.out).mono ?_); rintro e wb ⟨rfl, hb⟩; have HKb := Lib.hid (HKa.out.below hb); have HNb := Lib.hid (HNa.out.below hb); have HRDb := Lib.hid (HRDa.out.below hb); have HGb := Lib.hid (HGa.out.below hb); have HRCb := Lib.hid (HRCa.out.below hb); have HCb := Lib.hid (HCa.out.below hb); have Hbb := Lib.hid (fun h0 => And.intro (Haa.out h0).1 ((Haa.out h0).2.below hb)); clear hb)
      clear q0 qf y0 y1 y2 y3 y4 y5 y6 y7 y8 y9 y10 y11 y12 y13 HKa HNa HRDa HGa HRCa HCa Haa HFC HFA
      obtain ⟨q0, qf⟩ := HGb.out.cells
      have HC2 := Lib.hid fun (h0 : R2.1 = 0) (W : World) (hs : RdS W A7 R2.2) (hn7 : n7 = R2.2.length) => cCheck_any6 A7 n7 c7 R2.2 W hn7 hs (by have := (HAC.out h0).few; omega)
      have HCB := Lib.hid fun (h0 : R2.1 = 0) => catB_of (HAC.out h0)
      clear HAC
      obtain ⟨adA, eA, k0⟩ := HCL.out _ HRDb.out
      subst eA
      have k0l := cell_lt k0
      rw [add_block] at k0l
      obtain ⟨r0, rf⟩ := HNb.out.cells
      obtain ⟨u0, uf⟩ := HCb.out.cells
      obtain ⟨s0, sf⟩ := HKb.out.s.cells
      obtain ⟨y0, y1, y2, y3, y4, y5, y6, y7, y8, y9, y10, y11, y12, y13⟩ := Sy.cells14 HKb.out.x
      clear y0 y2 y3 y4 y5 y6 y7 y8 y9 y10 y11 y12 y13
      have hpl : (P : Int) < (R.2.length : Int) := by omega
      generalize hE2 : R2.1 = E2 at *
      by_cases h2 : E2 = 0
      · subst h2
        obtain ⟨hn7, hr7⟩ := Hbb.out rfl
        have hc2 := HC2.out rfl _ hr7 hn7
        rw [HCB.out rfl] at hc2
        simp only [if_true] at hc2
        have HCC := Lib.hid hc2
        clear hn7 hr7 hc2 HC2 HCB Hbb hE2
        go_upto_region 12 with (first
          | (go_at_call 8; refine (num_any _ _).mono ?_; rintro e w9 ⟨rfl, rfl⟩)
          | (go_at_call 12; (with_reducible refine HCC.out.mono ?_); rintro e wd ⟨rfl, hb⟩; have HBD := Lib.hid hb; clear hb))
        have HKz := Lib.hid (HKb.out.below HBD.out)
        have HRDz := Lib.hid (HRDb.out.below HBD.out)
        have HRCz := Lib.hid (HRCb.out.below HBD.out)
        have HNz := Lib.hid (HNb.out.below HBD.out)
        have HCz := Lib.hid (HCb.out.below HBD.out)
        clear k0 k0l r0 rf u0 uf s0 sf y1 q0 qf HKb HRDb HRCb HNb HCb HGb
        generalize wd = WZ at *
        have HDD := Lib.hid fun d os => HCH.out (grow (redrawn WZ d) os) (HRDz.out.below (below_regrown WZ d os))
        have HUU := Lib.hid fun d os => HUN.out A9 c9 (grow (redrawn WZ d) os) (thn HKz.out.b (below_regrown WZ d os)) (HRCz.out.below (below_regrown WZ d os))
        have hnb : ∀ (k : Int) W, Calls Try.prog 8 #[.int .i64 k] W fun e w' => e = .returned (.int .i64 k) ∧ Below W.heap.size W w' := fun k W => (num_any k W).mono fun e w' h => ⟨h.1, h.2 ▸ Below.refl _ _⟩
        obtain ⟨adA', eA', k0'⟩ := HCL.out _ HRDz.out
        injection eA' with eA'
        subst eA'
        obtain ⟨r0', _⟩ := HNz.out.cells
        obtain ⟨u0', _⟩ := HCz.out.cells
        obtain ⟨s0', _⟩ := HKz.out.s.cells
        obtain ⟨_, y1', _⟩ := Sy.cells14 HKz.out.x
        have pk := cell_regrown k0'
        have pr := cell_regrown r0'
        have pu := cell_regrown u0'
        have ps := cell_regrown s0'
        have py := cell_regrown y1'
        have HBZ := Lib.hid HKz.out.b
        clear k0' r0' u0' s0' y1' HKz HRDz HRCz HNz HCz HCL HCH HUN HFO HN
        refine wp_region_quiet_below (by kernel_rfl) (by kernel_rfl) ?_
        repeat (go_big_quiet_step (first | (with_reducible exact Calls.regrown_of (hnb _ _)) | (with_reducible exact Calls.regrown_of (HDD.out _ _)) | (with_reducible exact Calls.regrown_of (HUU.out _ _))))
        refine wpQuiet_nil ?_
        intro w8 hw8
        obtain ⟨pp, rfl⟩ := hw8
        have HB8 := Lib.hid (thn HBZ.out (below_regrown WZ pp.d pp.os))
        clear pk pr pu ps py HDD HUU hnb
        generalize grow (redrawn WZ pp.d) pp.os = w8 at HB8 ⊢
        go_wp2
        go_ret
        exact ⟨rfl, HB8.out⟩
      · have h2' : (E2 == 0) = false := by simpa using h2
        clear HC2 HCB Hbb hE2
        go_upto_region 12 with (go_at_call 8; refine (num_any _ _).mono ?_; rintro e w9 ⟨rfl, rfl⟩)
        have HKz := HKb
        have HRDz := HRDb
        have HRCz := HRCb
        have HNz := HNb
        have HCz := HCb
        clear k0 k0l r0 rf u0 uf s0 sf y1 q0 qf HKb HRDb HRCb HNb HCb HGb
        generalize wb = WZ at *
        have HDD := Lib.hid fun d os => HCH.out (grow (redrawn WZ d) os) (HRDz.out.below (below_regrown WZ d os))
        have HUU := Lib.hid fun d os => HUN.out A9 c9 (grow (redrawn WZ d) os) (thn HKz.out.b (below_regrown WZ d os)) (HRCz.out.below (below_regrown WZ d os))
        have hnb : ∀ (k : Int) W, Calls Try.prog 8 #[.int .i64 k] W fun e w' => e = .returned (.int .i64 k) ∧ Below W.heap.size W w' := fun k W => (num_any k W).mono fun e w' h => ⟨h.1, h.2 ▸ Below.refl _ _⟩
        obtain ⟨adA', eA', k0'⟩ := HCL.out _ HRDz.out
        injection eA' with eA'
        subst eA'
        obtain ⟨r0', _⟩ := HNz.out.cells
        obtain ⟨u0', _⟩ := HCz.out.cells
        obtain ⟨s0', _⟩ := HKz.out.s.cells
        obtain ⟨_, y1', _⟩ := Sy.cells14 HKz.out.x
        have pk := cell_regrown k0'
        have pr := cell_regrown r0'
        have pu := cell_regrown u0'
        have ps := cell_regrown s0'
        have py := cell_regrown y1'
        have HBZ := Lib.hid HKz.out.b
        clear k0' r0' u0' s0' y1' HKz HRDz HRCz HNz HCz HCL HCH HUN HFO HN
        refine wp_region_quiet_below (by kernel_rfl) (by kernel_rfl) ?_
        repeat (go_big_quiet_step (first | (with_reducible exact Calls.regrown_of (hnb _ _)) | (with_reducible exact Calls.regrown_of (HDD.out _ _)) | (with_reducible exact Calls.regrown_of (HUU.out _ _))))
        refine wpQuiet_nil ?_
        intro w8 hw8
        obtain ⟨pp, rfl⟩ := hw8
        have HB8 := Lib.hid (thn HBZ.out (below_regrown WZ pp.d pp.os))
        clear pk pr pu ps py HDD HUU hnb
        generalize grow (redrawn WZ pp.d) pp.os = w8 at HB8 ⊢
        go_wp2
        go_ret
        exact ⟨rfl, HB8.out⟩
    · obtain rfl := h51 h0
      clear h51 h52
      generalize R.1 = E at h0 ⊢
      go_wp2_with (go_at_call 8; refine (num_any _ _).mono ?_; rintro e w9 ⟨rfl, rfl⟩)
      go_ret
      exact ⟨rfl, HK5.out.b⟩
end Go.Proofs.Ytddeaiciochggaa
namespace Go.Proofs.Ytddeaiciochggaa.catalogMay
open Go.ChangeShapes Go.WideShapes Go.ChangeAt Go.RowKit
open Go.Proofs.Ytddeaiciochggaa
set_option linter.unusedSimpArgs false
set_option linter.unusedVariables false

set_option maxRecDepth 100000 in
theorem lifted (os : Os) (started : os.Started) (H : Type) (enc : TypeId × Value → H) :
    ReturnsInHanded {} Try.checked os 3 .any (Rows.catalogMaySpec.pre6 enc Try.prog Try.f3 Rows.catalogMayRow.domain false) (Rows.catalogMaySpec.post enc Try.prog Try.f3 false true false false) := by
  refine returnsInHanded_of_change_sized (C := Try.checked) own started (by kernel_rfl) Try.func3
    (ChangeSpec.witness6 (enc := enc) (C := Try.checked) false ⟨#[], #[.agg #[.slice none 0 0], .agg #[.int .i64 0, .string ⟨#[]⟩, .slice none 0 0, .string ⟨#[]⟩, .string ⟨#[]⟩, .slice none 0 0, .slice none 0 0, .slice none 0 0, .string ⟨#[]⟩, .slice none 0 0, .slice none 0 0, .slice none 0 0, .slice none 0 0, .int .i64 0], .agg #[.int .i64 0, .string ⟨#[]⟩, .slice none 0 0, .string ⟨#[]⟩, .string ⟨#[]⟩, .slice none 0 0, .slice none 0 0, .slice none 0 0, .string ⟨#[]⟩, .slice none 0 0, .slice none 0 0, .slice none 0 0, .slice none 0 0, .int .i64 0]], []⟩ 8 (by kernel_rfl) (by kernel_rfl) (by kernel_rfl) (by kernel_rfl)) ?_
  intro W base args ds gs before hval0 hW _ hsz0 _
  have hsz : (DataW.weightsEach Try.prog (Try.f3.params.toList ++ Rows.catalogMaySpec.plain.varTypes Try.prog) (ds ++ gs)).all (· ≤ reachBytes) = true := hsz0
  clear hsz0
  have hval : ∀ (j : Nat) t v, Try.f3.params[j]? = some t → args[j]? = some v → Value.okWide Try.prog W .any base t v := hval0
  have hW' := hW
  obtain ⟨p, q, hA0, hV, rfl, _, _⟩ := hW
  have hA : DataW.TrodAll enc Try.prog W 0 (fun _ => true) true Try.f3.params.toList args.toList ds p := hA0
  rw [Try.params3] at hA hval hsz
  obtain ⟨v0, v1, v2, d0, d1, d2, p0, p1, p2, rfl, rfl, rfl, h0, h1, h2⟩ := trodAll_three hA
  obtain ⟨rfl, rfl⟩ := trodVars_none hV
  obtain ⟨A, c, ls, rfl, hr, hln⟩ := open_state (hval 0 24 v0 rfl rfl) h0 (lt_one hsz (j := 0) rfl rfl)
  obtain ⟨f1, g1⟩ := Sy.open_stmt (hval 1 31 v1 rfl rfl) h1 (fun n hn => lt_one hsz (j := 1) rfl rfl n hn)
  obtain ⟨z1, hs1, rfl, hz1⟩ := g1 f1 (Nat.le_refl _)
  obtain ⟨f2, g2⟩ := Sy.open_stmt (hval 2 31 v2 rfl rfl) h2 (fun n hn => lt_one hsz (j := 2) rfl rfl n hn)
  obtain ⟨z2, hs2, rfl, hz2⟩ := g2 f2 (Nat.le_refl _)
  clear hA0 hval0 hsz
  simp only [List.append_nil, List.append_assoc] at hW'
  have hlt0 : ∀ y ∈ p0, y.block < W.heap.size := fun y hy => hW'.lt y (by simp [hy])
  have hlt1 : ∀ y ∈ p1, y.block < W.heap.size := fun y hy => hW'.lt y (by simp [hy])
  have hlt2 : ∀ y ∈ p2, y.block < W.heap.size := fun y hy => hW'.lt y (by simp [hy])
  refine (kMay_any A c ls z1 hs1 z2 hs2 W hr (by omega) hz1 hz2).mono fun e W' ⟨he, hB⟩ => ?_
  subst he
  exact ⟨_, rfl, _, _, _, [], p0 ++ (p1 ++ p2), [], hW', trodAll_mk1 (shut_bool Try.underlying4 _), trodAll_mk3 (Below.trod laidOut recS rowS h0 hB hlt0) (Below.trod laidOut recM rowM h1 hB hlt1) (Below.trod laidOut recM rowM h2 hB hlt2), rfl, hB.frame _, fun h => by cases h⟩

theorem holds : Rows.CatalogMaySaid :=
  OpenClaim.holds_of_wide 3 Try.f3 rfl rfl rfl rfl rfl rfl rfl ⟨rfl, rfl, rfl, rfl, rfl⟩ rfl rfl rfl rfl rfl (by kernel_rfl) Try.func3 (by kernel_rfl)
    (of_decide_eq_true (by kernel_rfl)) (by unfold Func.isWrapper; first | (rw [if_pos (by decide +kernel)]; kernel_rfl) | (rw [if_neg (by decide +kernel)]; exact ⟨rfl, rfl⟩))
    (fun os started H enc _ => lifted os started H enc)

end Go.Proofs.Ytddeaiciochggaa.catalogMay
namespace Go.Proofs.Ytddeaiciochggaa
theorem catalogMay_holds : Rows.CatalogMaySaid := catalogMay.holds
#print axioms catalogMay_holds
end Go.Proofs.Ytddeaiciochggaa
