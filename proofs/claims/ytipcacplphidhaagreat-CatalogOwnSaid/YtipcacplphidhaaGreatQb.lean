/- What Create makes of a catalog: plain mathematics; a statement that makes a table. Conditions: none. -/
import Derived.Test.YtipcacplphidhaaGreatQa
import Derived.Test.YtipcacplphidhaaGreatCc
/- Where a column of a name stands, and whether a table has an index of one: the walks of slices.IndexFunc, slices.ContainsFunc, Column and hasIndex. Conditions: lists that are read in memory. -/
namespace Go.Proofs.YtipcacplphidhaaGreat
open Go.RowKit Go.Sort Go.Maps
set_option linter.unusedSimpArgs false
set_option linter.unusedVariables false

def isC (s : ByteArray) (x : Cl) : Bool := x.m.toList == s.toList
def isX (s : ByteArray) (x : Ix) : Bool := x.m.toList == s.toList
/-- The first place of a list at which p holds; -1 if there is none. -/
def fst1 {α : Type} (p : α → Bool) (l : List α) : Int := if l.any p = true then ((l.takeWhile fun x => !p x).length : Int) else -1
theorem fst1_no {α : Type} {p : α → Bool} {l : List α} (h : ∀ j (hj : j < l.length), p l[j] = false) : fst1 p l = -1 := by
  unfold fst1
  rw [if_neg]
  intro h2
  obtain ⟨x, hx, hp⟩ := List.any_eq_true.1 h2
  obtain ⟨j, hj, rfl⟩ := List.mem_iff_getElem.1 hx
  rw [h j hj] at hp; cases hp
theorem fst1_yes {α : Type} {p : α → Bool} {l : List α} {i : Nat} (hi : i < l.length) (h : ∀ j (hj : j < l.length), j < i → p l[j] = false) (hp : p l[i] = true) : fst1 p l = i := by
  unfold fst1
  rw [if_pos (List.any_eq_true.2 ⟨_, List.getElem_mem hi, hp⟩), takeWhile_len _ l i (by omega) (fun j hj hji => by rw [h j hj hji]; rfl) (fun _ => by rw [hp]; rfl)]
theorem any_first {α : Type} {p : α → Bool} : ∀ {l : List α}, l.any p = true → ∃ i, ∃ hi : i < l.length, p l[i] = true ∧ ∀ j (hj : j < l.length), j < i → p l[j] = false
  | [], h => by simp at h
  | a :: l, h => by
    cases ha : p a
    · have h2 : l.any p = true := by simpa [ha] using h
      obtain ⟨i, hi, hp, hn⟩ := any_first h2
      refine ⟨i + 1, by simp; omega, by simpa using hp, fun j hj hji => ?_⟩
      cases j with
      | zero => simpa using ha
      | succ j => simpa using hn j (by simp at hj; omega) (by omega)
    · exact ⟨0, by simp, by simpa using ha, fun j _ hj => by omega⟩
theorem fst1_get {α : Type} {p : α → Bool} {l : List α} (h : l.any p = true) : ∃ (i : Nat) (hi : i < l.length), fst1 p l = i ∧ p l[i] = true ∧ ∀ j (hj : j < l.length), j < i → p l[j] = false := by
  obtain ⟨i, hi, hp, hn⟩ := any_first h
  exact ⟨i, hi, fst1_yes hi hn hp, hp, hn⟩

set_option maxHeartbeats 1000000 in
theorem col1_any (x : Cl) (s : ByteArray) (b : Nat) (w : World) (hb : w.cell? ⟨b, 0, none⟩ = some (.string s)) :
    Calls Tryz.prog 38 #[x.val, .pointer (some ⟨b, 0, none⟩)] w fun e w' => e = .returned (.bool (isC s x)) ∧ Below w.heap.size w w' := by
  have HB := Lib.hid (below1 w (.cells #[.string x.m, .int .i64 x.k, .bool x.nn] 48))
  have hb2 := (HB.out.cell (p := ⟨b, 0, none⟩) (cell_lt hb)).trans hb
  clear hb
  go_enter Tryz.func38, Tryz.ntmps38
  go_wp2
  go_ret
  exact ⟨rfl, HB.out⟩
set_option maxRecDepth 100000 in
set_option maxHeartbeats 4000000 in
theorem idxC_any (A : Option Addr) (c : Nat) (l : List Cl) (s : ByteArray) (b : Nat) (w : World) (hr : RdC w A l) (hb : w.cell? ⟨b, 0, none⟩ = some (.string s)) (hn : l.length ≤ 9223372036854775807) :
    Calls Tryz.prog 37 #[.slice A l.length c, .func (.func 38) #[] #[.pointer (some ⟨b, 0, none⟩)]] w fun e w' => e = .returned (.int .i64 (fst1 (isC s) l)) ∧ Below w.heap.size w w' := by
  have HR := Lib.hid hr
  have HBX := Lib.hid hb
  clear hr hb
  go_enter Tryz.func37, Tryz.ntmps37
  go_wp2
  go_loopw [5, 8] (fun _ i wr => ∃ j : Nat, i = .int .i64 j ∧ j ≤ l.length ∧ (∀ k (hk : k < l.length), k < j → isC s l[k] = false) ∧ Below w.heap.size w wr) (fun _ i _ => l.length - (intOf i).toNat)
  case atStart => exact ⟨0, rfl, by omega, fun k hk h => by omega, Below.refl _ _⟩
  case round =>
    obtain ⟨j, rfl, hj, hF, hB⟩ := hrel
    have HF := Lib.hid hF
    have HB := Lib.hid hB
    clear hF hB
    by_cases hlt : j < l.length
    · obtain ⟨ad, rfl, k0, k1, k2⟩ := (HR.out.below HB.out).at_ hlt
      have hlt' : (j : Int) < (l.length : Int) := by omega
      have hbx := (HB.out.cell (p := ⟨b, 0, none⟩) (cell_lt HBX.out)).trans HBX.out
      have hc := col1_any l[j] s b wr hbx
      generalize hI : isC s l[j] = I at hc
      have HC := Lib.hid hc
      have HI := Lib.hid hI
      clear hc hI hbx
      cases I
      · go_wp2_with (go_at_call 38; (with_reducible refine HC.out.mono ?_); rintro e w5 ⟨rfl, hb⟩; have HB5 := Lib.hid (thn HB.out hb); clear hb)
        go_roundw
        case rel => exact ⟨j + 1, by go_num, hlt, fun k hk hkj => by
          rcases Nat.lt_or_ge k j with h | h
          · exact HF.out k hk h
          · obtain rfl : k = j := by omega
            exact HI.out, HB5.out⟩
        case measure => simp [intOf]; omega
      · have hz := fst1_yes hlt (fun k hk h => HF.out k hk h) HI.out
        have HZ := Lib.hid hz
        clear hz
        go_wp2_with (go_at_call 38; (with_reducible refine HC.out.mono ?_); rintro e w5 ⟨rfl, hb⟩; have HB5 := Lib.hid (thn HB.out hb); clear hb)
        go_ret
        exact ⟨ret_int HZ.out.symm, HB5.out⟩
    · have hz : fst1 (isC s) l = -1 := fst1_no fun k hk => HF.out k hk (by omega)
      have HZ := Lib.hid hz
      clear hz
      go_wp2
      go_ret
      exact ⟨ret_int HZ.out.symm, HB.out⟩
/-- What Column answers. -/
def colF (l : List Cl) (s : ByteArray) : Int × Int := if l.any (isC s) = true then (fst1 (isC s) l, 0) else (0, 94)
set_option maxRecDepth 100000 in
set_option maxHeartbeats 2000000 in
theorem column_any (m : ByteArray) (A iA : Option Addr) (c in_ ic : Nat) (k : Int) (l : List Cl) (s : ByteArray) (w : World) (hr : RdC w A l) (hn : l.length ≤ 9223372036854775807) :
    Calls Tryz.prog 20 #[tbl m A l.length c k iA in_ ic, .string s] w fun e w' => e = .returned (.tuple #[.int .i64 (colF l s).1, .int .i64 (colF l s).2]) ∧ Below w.heap.size w w' := by
  have hB2 := (below1 w (.cells #[.string m, .slice A l.length c, .int .i64 k, .slice iA in_ ic] 46)).alloc (by simp) (.cells #[.string s] 9)
  have hX := (Box4.new w m A l.length c k iA in_ ic 46).below (below1 _ (.cells #[.string s] 9))
  have hs := cell_of_box (w := w.alloc (.cells #[.string m, .slice A l.length c, .int .i64 k, .slice iA in_ ic] 46)) (v := .string s) (T := 9) (b := w.heap.size + 1) (by simp) (Below.refl _ _)
  have HC := Lib.hid (idxC_any A c l s (w.heap.size + 1) _ (hr.below hB2) hs hn)
  have HB2 := Lib.hid hB2
  obtain ⟨x0, x1, x2, x3⟩ := hX
  clear hr hB2 hs
  cases ha : l.any (isC s)
  · have hF : colF l s = (0, 94) := by unfold colF; rw [if_neg (by rw [ha]; decide)]
    have hz : fst1 (isC s) l = -1 := by unfold fst1; rw [if_neg (by rw [ha]; decide)]
    rw [hF]
    rw [hz] at HC
    clear hF hz ha
    go_enter Tryz.func20, Tryz.ntmps20
    go_wp2_with (go_at_call 37; (with_reducible refine HC.out.mono ?_); rintro e w1 ⟨rfl, hb⟩; have HB := Lib.hid (thn HB2.out hb); clear hb)
    go_ret2
    exact ⟨rfl, HB.out⟩
  · have hF : colF l s = (fst1 (isC s) l, 0) := by unfold colF; rw [if_pos ha]
    obtain ⟨i, hi, hz, _, _⟩ := fst1_get ha
    rw [hF, hz]
    rw [hz] at HC
    have hge : ¬ (i : Int) < 0 := by omega
    clear hF hz ha
    go_enter Tryz.func20, Tryz.ntmps20
    go_wp2_with (go_at_call 37; (with_reducible refine HC.out.mono ?_); rintro e w1 ⟨rfl, hb⟩; have HB := Lib.hid (thn HB2.out hb); clear hb)
    go_ret2
    exact ⟨rfl, HB.out⟩
end Go.Proofs.YtipcacplphidhaaGreat
/- A table in memory of its own: the walk of copyOf. Conditions: a table that is read in memory, of few columns and indexes; names that every machine keeps. -/
/- Lists of columns and of indexes in memory of their own: the walks of slices.Clone. Conditions: lists that are read in memory. -/
namespace Go.Proofs.YtipcacplphidhaaGreat
open Go.RowKit Go.Sort Go.Maps
set_option linter.unusedSimpArgs false
set_option linter.unusedVariables false

theorem ixC_one (l : List Ix) : ∀ u ∈ l.flatMap ixC, u.oneCell' = true := fun u hu => by
  obtain ⟨v, _, hv⟩ := List.mem_flatMap.1 hu
  simp [ixC] at hv
  rcases hv with rfl | rfl <;> rfl
theorem RdX.news {w : World} {A : Option Addr} {l : List Ix} (h : RdX w A l) : ∀ ad, A = some ad → ∀ j u, (l.flatMap ixC)[j]? = some u → w.cell? (ad.add j) = some u := fun ad e j u hu => by
  obtain ⟨q, r, v, rfl, hr, hv, hu⟩ := flatK_cell ixC 2 (by omega) (fun _ => rfl) l j u hu
  obtain ⟨ad', e', hc⟩ := h (by intro e2; subst e2; simp at hv)
  rw [e] at e'
  injection e' with e'
  subst e'
  obtain ⟨c0, c1⟩ := hc q v hv
  rcases (show r = 0 ∨ r = 1 by omega) with rfl | rfl
  · simp [ixC] at hu; subst hu; exact c0
  · simp [ixC] at hu; subst hu; rw [add_two _ _ (by omega)]; exact c1

/-- Memory of the call's own. -/
abbrev OwnC (w : World) (B : Nat) (v : Value) (l : List Cl) : Prop := w.ownsRow B 48 3 v l.length (l.flatMap colC)
theorem ownC_form {w : World} {B : Nat} {v : Value} {l : List Cl} (h : OwnC w B v l) : ∃ A c, v = .slice A l.length c ∧ (A = none → l.length = 0 ∧ c = 0) := by
  rcases h.2 with ⟨h1, h0⟩ | ⟨g, cap, cur, h1, _⟩
  · exact ⟨none, 0, by rw [h1, h0], fun _ => ⟨h0, rfl⟩⟩
  · exact ⟨_, _, h1, fun e => by cases e⟩
theorem flatC (l : List Cl) (j i : Nat) (v : Cl) (h : l[j]? = some v) (hi : i < 3) : (l.flatMap colC)[j * 3 + i]? = (colC v)[i]? := flatK_get colC 3 (fun _ => rfl) l j i v h hi
theorem OwnC.at_ {w : World} {B g cap i : Nat} {l : List Cl} (h : OwnC w B (.slice (some ⟨g, 0, none⟩) l.length cap) l) (hi : i < l.length) :
    w.cell? ⟨g, i * 3, none⟩ = some (.string l[i].m) ∧ w.cell? ⟨g, i * 3 + 1, none⟩ = some (.int .i64 l[i].k) ∧ w.cell? ⟨g, i * 3 + 2, none⟩ = some (.bool l[i].nn) ∧ w.frozen? ⟨g, i * 3, none⟩ = false := by
  have e := List.getElem?_eq_getElem hi
  exact ⟨(h.cellAt (i * 3 + 0) (by omega)).trans (flatC l i 0 _ e (by omega)), (h.cellAt (i * 3 + 1) (by omega)).trans (flatC l i 1 _ e (by omega)), (h.cellAt (i * 3 + 2) (by omega)).trans (flatC l i 2 _ e (by omega)), h.frozenAt _⟩
theorem OwnC.again {w : World} {B g cap i : Nat} {l : List Cl} (h : OwnC w B (.slice (some ⟨g, 0, none⟩) l.length cap) l) (hi : i < l.length) : OwnC (w.setCell ⟨g, i * 3, none⟩ (.string l[i].m)) B (.slice (some ⟨g, 0, none⟩) l.length cap) l := by
  have h1 := (h.stored (i * 3) (.string l[i].m)).1
  have h2 : (l.flatMap colC)[i * 3]? = some (.string l[i].m) := flatC l i 0 _ (List.getElem?_eq_getElem hi) (by omega)
  have h3 : (l.flatMap colC).set (i * 3) (.string l[i].m) = l.flatMap colC := by
    apply List.ext_getElem?
    intro j
    rw [List.getElem?_set]
    split
    · rename_i e
      subst e
      rw [h2]
      split
      · rfl
      · rename_i h4
        exact absurd (List.getElem?_eq_some_iff.1 h2).1 h4
    · rfl
  rw [h3] at h1
  exact h1
theorem cloneC_nil (n c : Nat) (w : World) :
    Calls Tryz.prog 35 #[.slice none n c] w fun e w' => e = .returned (.slice none 0 0) ∧ w = w' := by
  have q22 : ∀ (w : World) (a : Option Addr) (n c n' c' : Nat), (binOp .eql 25 (.slice a n c) (.slice none n' c')).run Tryz.prog w = .ok (.bool a.isNone) w := fun w a n c n' c' => Lib.run_eql_slice_nil w _ _ a n c n' c' Tryz.underlying25
  go_enter Tryz.func35, Tryz.ntmps35
  go_wp2
  go_ret
  exact ⟨rfl, rfl⟩
set_option maxHeartbeats 1000000 in
theorem cloneC_some (ad : Addr) (n c : Nat) (l : List Cl) (w : World) (hl : n = l.length) (hr : RdC w (some ad) l) (hn : n * 32 ≤ 140737488355328) :
    Calls Tryz.prog 35 #[.slice (some ad) n c] w fun e w' => ∃ v, e = .returned v ∧ w'.ownsRow w.heap.size 48 3 v n (l.flatMap colC) ∧ Below w.heap.size w w' := by
  obtain ⟨i0, hi, hz0, hz1, hz2⟩ := info_parts Tryz.infoC
  have HR := Lib.hid hr
  have HL := Lib.hid hl
  clear hl hr
  have q22 : ∀ (w : World) (a : Option Addr) (n c n' c' : Nat), (binOp .eql 25 (.slice a n c) (.slice none n' c')).run Tryz.prog w = .ok (.bool a.isNone) w := fun w a n c n' c' => Lib.run_eql_slice_nil w _ _ a n c n' c' Tryz.underlying25
  go_enter Tryz.func35, Tryz.ntmps35
  go_wp2_with (at_builtin; refine wpList_append_own_at _ rfl _ _ 25 rfl w.heap.size 48 i0 (.agg #[.string ⟨#[]⟩, .int .i64 0, .bool false]) 3 32 Tryz.underlying25 hi hz0 hz1 hz2 rfl (by decide) _ _ _ rfl (World.ownsRow_made w #[] 0 (Nat.le_refl _) (Nat.zero_le _) (by simp)) ad n c (l.flatMap colC) rfl ?c0 ?c1 (colC_one l) ?c3 ?c4 ?c5 ?_)
  case c0 => rw [flatK_len colC 3 (fun _ => rfl), ← HL.out]
  case c1 => exact fun j u hj => (HR.out.below (below1 _ _)).news _ rfl j u hj
  case c3 => unfold maxLen; omega
  case c4 => omega
  case c5 => simp
  intro v' w' hown hg _ _
  have HOwn := Lib.hid hown
  clear hown
  go_wp2
  go_ret
  refine ⟨_, rfl, by simpa using HOwn.out, (below1 _ _).grown hg (by simp) (fun k hk => ?_)⟩
  simp [Value.ownBlock] at hk
  omega
theorem cloneC_any (A : Option Addr) (c : Nat) (l : List Cl) (w : World) (hr : RdC w A l) (hA : A = none → l.length = 0) (hn : l.length * 32 ≤ 140737488355328) :
    Calls Tryz.prog 35 #[.slice A l.length c] w fun e w' => ∃ v, e = .returned v ∧ OwnC w' w.heap.size v l ∧ Below w.heap.size w w' := by
  cases A with
  | none =>
    have h0 := hA rfl
    have : l = [] := List.eq_nil_of_length_eq_zero h0
    subst this
    exact (cloneC_nil 0 c w).mono fun e w' ⟨h1, h2⟩ => ⟨_, h1, World.ownsRow_nil _ _ _ _, h2 ▸ Below.refl _ _⟩
  | some ad => exact (cloneC_some ad l.length c l w rfl hr hn).mono fun e w' ⟨v, h1, h2, h3⟩ => ⟨v, h1, h2, h3⟩

/-- Memory of the call's own. -/
abbrev OwnX (w : World) (B : Nat) (v : Value) (l : List Ix) : Prop := w.ownsRow B 50 2 v l.length (l.flatMap ixC)
theorem ownX_form {w : World} {B : Nat} {v : Value} {l : List Ix} (h : OwnX w B v l) : ∃ A c, v = .slice A l.length c ∧ (A = none → l.length = 0 ∧ c = 0) := by
  rcases h.2 with ⟨h1, h0⟩ | ⟨g, cap, cur, h1, _⟩
  · exact ⟨none, 0, by rw [h1, h0], fun _ => ⟨h0, rfl⟩⟩
  · exact ⟨_, _, h1, fun e => by cases e⟩
theorem flatX (l : List Ix) (j i : Nat) (v : Ix) (h : l[j]? = some v) (hi : i < 2) : (l.flatMap ixC)[j * 2 + i]? = (ixC v)[i]? := flatK_get ixC 2 (fun _ => rfl) l j i v h hi
theorem OwnX.at_ {w : World} {B g cap i : Nat} {l : List Ix} (h : OwnX w B (.slice (some ⟨g, 0, none⟩) l.length cap) l) (hi : i < l.length) :
    w.cell? ⟨g, i * 2, none⟩ = some (.string l[i].m) ∧ w.cell? ⟨g, i * 2 + 1, none⟩ = some (.int .i64 l[i].c) ∧ w.frozen? ⟨g, i * 2, none⟩ = false := by
  have e := List.getElem?_eq_getElem hi
  exact ⟨(h.cellAt (i * 2 + 0) (by omega)).trans (flatX l i 0 _ e (by omega)), (h.cellAt (i * 2 + 1) (by omega)).trans (flatX l i 1 _ e (by omega)), h.frozenAt _⟩
theorem OwnX.again {w : World} {B g cap i : Nat} {l : List Ix} (h : OwnX w B (.slice (some ⟨g, 0, none⟩) l.length cap) l) (hi : i < l.length) : OwnX (w.setCell ⟨g, i * 2, none⟩ (.string l[i].m)) B (.slice (some ⟨g, 0, none⟩) l.length cap) l := by
  have h1 := (h.stored (i * 2) (.string l[i].m)).1
  have h2 : (l.flatMap ixC)[i * 2]? = some (.string l[i].m) := flatX l i 0 _ (List.getElem?_eq_getElem hi) (by omega)
  have h3 : (l.flatMap ixC).set (i * 2) (.string l[i].m) = l.flatMap ixC := by
    apply List.ext_getElem?
    intro j
    rw [List.getElem?_set]
    split
    · rename_i e
      subst e
      rw [h2]
      split
      · rfl
      · rename_i h4
        exact absurd (List.getElem?_eq_some_iff.1 h2).1 h4
    · rfl
  rw [h3] at h1
  exact h1
theorem cloneX_nil (n c : Nat) (w : World) :
    Calls Tryz.prog 36 #[.slice none n c] w fun e w' => e = .returned (.slice none 0 0) ∧ w = w' := by
  have q22 : ∀ (w : World) (a : Option Addr) (n c n' c' : Nat), (binOp .eql 44 (.slice a n c) (.slice none n' c')).run Tryz.prog w = .ok (.bool a.isNone) w := fun w a n c n' c' => Lib.run_eql_slice_nil w _ _ a n c n' c' Tryz.underlying44
  go_enter Tryz.func36, Tryz.ntmps36
  go_wp2
  go_ret
  exact ⟨rfl, rfl⟩
set_option maxHeartbeats 1000000 in
theorem cloneX_some (ad : Addr) (n c : Nat) (l : List Ix) (w : World) (hl : n = l.length) (hr : RdX w (some ad) l) (hn : n * 24 ≤ 140737488355328) :
    Calls Tryz.prog 36 #[.slice (some ad) n c] w fun e w' => ∃ v, e = .returned v ∧ w'.ownsRow w.heap.size 50 2 v n (l.flatMap ixC) ∧ Below w.heap.size w w' := by
  obtain ⟨i0, hi, hz0, hz1, hz2⟩ := info_parts Tryz.infoX
  have HR := Lib.hid hr
  have HL := Lib.hid hl
  clear hl hr
  have q22 : ∀ (w : World) (a : Option Addr) (n c n' c' : Nat), (binOp .eql 44 (.slice a n c) (.slice none n' c')).run Tryz.prog w = .ok (.bool a.isNone) w := fun w a n c n' c' => Lib.run_eql_slice_nil w _ _ a n c n' c' Tryz.underlying44
  go_enter Tryz.func36, Tryz.ntmps36
  go_wp2_with (at_builtin; refine wpList_append_own_at _ rfl _ _ 44 rfl w.heap.size 50 i0 (.agg #[.string ⟨#[]⟩, .int .i64 0]) 2 24 Tryz.underlying44 hi hz0 hz1 hz2 rfl (by decide) _ _ _ rfl (World.ownsRow_made w #[] 0 (Nat.le_refl _) (Nat.zero_le _) (by simp)) ad n c (l.flatMap ixC) rfl ?c0 ?c1 (ixC_one l) ?c3 ?c4 ?c5 ?_)
  case c0 => rw [flatK_len ixC 2 (fun _ => rfl), ← HL.out]
  case c1 => exact fun j u hj => (HR.out.below (below1 _ _)).news _ rfl j u hj
  case c3 => unfold maxLen; omega
  case c4 => omega
  case c5 => simp
  intro v' w' hown hg _ _
  have HOwn := Lib.hid hown
  clear hown
  go_wp2
  go_ret
  refine ⟨_, rfl, by simpa using HOwn.out, (below1 _ _).grown hg (by simp) (fun k hk => ?_)⟩
  simp [Value.ownBlock] at hk
  omega
theorem cloneX_any (A : Option Addr) (c : Nat) (l : List Ix) (w : World) (hr : RdX w A l) (hA : A = none → l.length = 0) (hn : l.length * 24 ≤ 140737488355328) :
    Calls Tryz.prog 36 #[.slice A l.length c] w fun e w' => ∃ v, e = .returned v ∧ OwnX w' w.heap.size v l ∧ Below w.heap.size w w' := by
  cases A with
  | none =>
    have h0 := hA rfl
    have : l = [] := List.eq_nil_of_length_eq_zero h0
    subst this
    exact (cloneX_nil 0 c w).mono fun e w' ⟨h1, h2⟩ => ⟨_, h1, World.ownsRow_nil _ _ _ _, h2 ▸ Below.refl _ _⟩
  | some ad => exact (cloneX_some ad l.length c l w rfl hr hn).mono fun e w' ⟨v, h1, h2, h3⟩ => ⟨v, h1, h2, h3⟩
end Go.Proofs.YtipcacplphidhaaGreat
namespace Go.Proofs.YtipcacplphidhaaGreat
open Go.RowKit Go.Sort Go.Maps
set_option linter.unusedSimpArgs false
set_option linter.unusedVariables false

/-- Block b is a table's four cells. -/
abbrev Bx4 (w : World) (b : Nat) (a0 a1 a2 a3 : Value) : Prop := w.heap[b]? = some (.cells #[a0, a1, a2, a3] 46 (0, 0))
theorem Bx4.below {w w' : World} {b : Nat} {a0 a1 a2 a3 : Value} (h : Bx4 w b a0 a1 a2 a3) (hb : Below w.heap.size w w') : Bx4 w' b a0 a1 a2 a3 := by
  unfold Bx4
  rw [hb.block b (Array.getElem?_eq_some_iff.1 h).1]; exact h
theorem Bx4.lt {w : World} {b : Nat} {a0 a1 a2 a3 : Value} (h : Bx4 w b a0 a1 a2 a3) : b < w.heap.size := (Array.getElem?_eq_some_iff.1 h).1
theorem Bx4.set0 {w : World} {b : Nat} {a0 a1 a2 a3 : Value} (h : Bx4 w b a0 a1 a2 a3) (v : Value) : Bx4 (w.setCell ⟨b, 0, none⟩ v) b v a1 a2 a3 := by
  unfold Bx4
  rw [heap_setCell_same w b 0 _ _ v h]; rfl
theorem Bx4.set1 {w : World} {b : Nat} {a0 a1 a2 a3 : Value} (h : Bx4 w b a0 a1 a2 a3) (v : Value) : Bx4 (w.setCell ⟨b, 1, none⟩ v) b a0 v a2 a3 := by
  unfold Bx4
  rw [heap_setCell_same w b 1 _ _ v h]; rfl
theorem Bx4.set3 {w : World} {b : Nat} {a0 a1 a2 a3 : Value} (h : Bx4 w b a0 a1 a2 a3) (v : Value) : Bx4 (w.setCell ⟨b, 3, none⟩ v) b a0 a1 a2 v := by
  unfold Bx4
  rw [heap_setCell_same w b 3 _ _ v h]; rfl
theorem Bx4.other {w : World} {b : Nat} {a0 a1 a2 a3 : Value} (h : Bx4 w b a0 a1 a2 a3) (p : Addr) (hp : b ≠ p.block) (v : Value) : Bx4 (w.setCell p v) b a0 a1 a2 a3 := by
  unfold Bx4
  rw [heap_setCell_other w p b v hp]; exact h
theorem below_set {B : Nat} {a w : World} (h : Below B a w) (p : Addr) (hp : B ≤ p.block) (v : Value) : Below B a (w.setCell p v) := h.setCell (p := p) hp v
theorem ownC_set {w : World} {B : Nat} {v : Value} {l : List Cl} {b o : Nat} {T : TypeId} {cs : Array Value} (h : OwnC w B v l) (hb : w.heap[b]? = some (.cells cs T (0, 0))) (hT : T ≠ 48) (u : Value) : OwnC (w.setCell ⟨b, o, none⟩ u) B v l :=
  h.kept (grown_setCell w b o u) (by
    cases hv : v.ownBlock with
    | none => exact .inl rfl
    | some k => exact .inr (fun e => own_ne h hb hT (by rw [hv, e])))
theorem ownX_set {w : World} {B : Nat} {v : Value} {l : List Ix} {b o : Nat} {T : TypeId} {cs : Array Value} (h : OwnX w B v l) (hb : w.heap[b]? = some (.cells cs T (0, 0))) (hT : T ≠ 50) (u : Value) : OwnX (w.setCell ⟨b, o, none⟩ u) B v l :=
  h.kept (grown_setCell w b o u) (by
    cases hv : v.ownBlock with
    | none => exact .inl rfl
    | some k => exact .inr (fun e => own_ne h hb hT (by rw [hv, e])))

theorem own_apart {w : World} {B B' g c : Nat} {v : Value} {l : List Cl} {l' : List Ix} (h : OwnC w B v l) (h' : OwnX w B' (.slice (some ⟨g, 0, none⟩) l'.length c) l') : v.ownBlock = none ∨ v.ownBlock ≠ some g := by
  rcases h'.2 with ⟨e, _⟩ | ⟨g', cap, cur, e, _, hg, _⟩
  · cases e
  · injection e with e1 _ _
    injection e1 with e1
    injection e1 with e1
    subst e1
    exact .inr (own_ne h hg (by decide))

set_option maxRecDepth 100000 in
set_option maxHeartbeats 8000000 in
theorem copyOf_any (m : ByteArray) (cA iA : Option Addr) (cc ic : Nat) (key : Int) (cols : List Cl) (idx : List Ix) (w : World) (hc : RdC w cA cols) (hx : RdX w iA idx) (hcA : cA = none → cols.length = 0) (hiA : iA = none → idx.length = 0) (hcn : cols.length ≤ 100) (hin : idx.length ≤ 100)
    (hm : m.size ≤ 140737488355328) (hcm : ∀ x ∈ cols, x.m.size ≤ 140737488355328) (hxm : ∀ x ∈ idx, x.m.size ≤ 140737488355328) :
    Calls Tryz.prog 19 #[tbl m cA cols.length cc key iA idx.length ic] w fun e w' => ∃ cA' cc' iA' ic', e = .returned (tbl m cA' cols.length cc' key iA' idx.length ic') ∧ OwnC w' w.heap.size (.slice cA' cols.length cc') cols ∧ OwnX w' w.heap.size (.slice iA' idx.length ic') idx ∧ Below w.heap.size w w' := by
  have HC := Lib.hid hc
  have HX := Lib.hid hx
  have HCM := Lib.hid hcm
  have HXM := Lib.hid hxm
  have HM := Lib.hid fun W => sClone_any m W hm
  have hB0 := (below1 w (.cells #[.string m, .slice cA cols.length cc, .int .i64 key, .slice iA idx.length ic] 46)).alloc (by simp) (.cells #[.string ⟨#[]⟩, .slice none 0 0, .int .i64 0, .slice none 0 0] 46)
  have HB0 := Lib.hid hB0
  have HKC := Lib.hid fun (W : World) (hb : Below w.heap.size w W) => cloneC_any cA cc cols W (hc.below hb) hcA (by omega)
  have HKX := Lib.hid fun (W : World) (hb : Below w.heap.size w W) => cloneX_any iA ic idx W (hx.below hb) hiA (by omega)
  have hX0 : Bx4 ((w.alloc (.cells #[.string m, .slice cA cols.length cc, .int .i64 key, .slice iA idx.length ic] 46)).alloc (.cells #[.string ⟨#[]⟩, .slice none 0 0, .int .i64 0, .slice none 0 0] 46)) w.heap.size (.string m) (.slice cA cols.length cc) (.int .i64 key) (.slice iA idx.length ic) := by
    have h1 := heap_alloc_new w (.cells #[.string m, .slice cA cols.length cc, .int .i64 key, .slice iA idx.length ic] 46)
    exact Bx4.below h1 (below1 _ _)
  have hY0 : Bx4 ((w.alloc (.cells #[.string m, .slice cA cols.length cc, .int .i64 key, .slice iA idx.length ic] 46)).alloc (.cells #[.string ⟨#[]⟩, .slice none 0 0, .int .i64 0, .slice none 0 0] 46)) (w.heap.size + 1) (.string ⟨#[]⟩) (.slice none 0 0) (.int .i64 0) (.slice none 0 0) := by
    have := heap_alloc_new (w.alloc (.cells #[.string m, .slice cA cols.length cc, .int .i64 key, .slice iA idx.length ic] 46)) (.cells #[.string ⟨#[]⟩, .slice none 0 0, .int .i64 0, .slice none 0 0] 46)
    rwa [World.size_alloc] at this
  have HX0 := Lib.hid hX0
  have HY0 := Lib.hid hY0
  obtain ⟨b0, b1, b2, b3, f0, f1, f2, f3⟩ := cells4 hX0
  clear hc hx hcA hiA hm hcm hxm hB0 hX0 hY0
  go_enter Tryz.func19, Tryz.ntmps19
  go_upto_region 1 with fail
  generalize (w.alloc (.cells #[.string m, .slice cA cols.length cc, .int .i64 key, .slice iA idx.length ic] 46)).alloc (.cells #[.string ⟨#[]⟩, .slice none 0 0, .int .i64 0, .slice none 0 0] 46) = w0 at HB0 HX0 HY0 b0 b1 b2 b3 f0 f1 f2 f3 ⊢
  go_upto_region 2 with (go_at_call 34; (with_reducible refine (HM.out _).mono ?_); rintro e w1 ⟨rfl, hb⟩; have HX1 := Lib.hid (HX0.out.below hb); have HY1 := Lib.hid (HY0.out.below hb); have HB1 := Lib.hid (thn HB0.out hb); obtain ⟨b0, b1, b2, b3, f0, f1, f2, f3⟩ := cells4 HX1.out; clear hb)
  have hX2 := HX1.out.set0 (.string m)
  have hY2 := HY1.out.other ⟨w.heap.size, 0, none⟩ (by simp) (.string m)
  have hB2 := below_set HB1.out ⟨w.heap.size, 0, none⟩ (by simp) (.string m)
  clear b0 b1 b2 b3 f0 f1 f2 f3 HX0 HY0 HB0 HX1 HY1 HB1
  generalize w1.setCell ⟨w.heap.size, 0, none⟩ (.string m) = w2 at hX2 hY2 hB2 ⊢
  have HX2 := Lib.hid hX2
  have HY2 := Lib.hid hY2
  have HB2 := Lib.hid hB2
  obtain ⟨b0, b1, b2, b3, f0, f1, f2, f3⟩ := cells4 hX2
  have hz2 := hY2.lt
  clear hX2 hY2 hB2
  go_upto_region 3 with (go_at_call 35; (with_reducible refine (HKC.out _ HB2.out).mono ?_); rintro e w3 ⟨v3, rfl, ho, hb⟩; obtain ⟨A3, c3, rfl, hA3⟩ := ownC_form ho; have HO3 := Lib.hid (own_le ho (show w.heap.size + 2 ≤ w2.heap.size from hz2)); have HX3 := Lib.hid (HX2.out.below hb); have HY3 := Lib.hid (HY2.out.below hb); have HB3 := Lib.hid (thn HB2.out hb); obtain ⟨b0, b1, b2, b3, f0, f1, f2, f3⟩ := cells4 HX3.out; clear hb ho)
  have hX4 := HX3.out.set1 (.slice A3 cols.length c3)
  have hY4 := HY3.out.other ⟨w.heap.size, 1, none⟩ (by simp) (.slice A3 cols.length c3)
  have hB4 := below_set HB3.out ⟨w.heap.size, 1, none⟩ (by simp) (.slice A3 cols.length c3)
  have hO4 := ownC_set (o := 1) HO3.out HX3.out (by decide) (.slice A3 cols.length c3)
  clear b0 b1 b2 b3 f0 f1 f2 f3 HX3 HY3 HB3 HO3 HX2 HY2 HB2 hz2
  generalize w3.setCell ⟨w.heap.size, 1, none⟩ (.slice A3 cols.length c3) = w4 at hX4 hY4 hB4 hO4 ⊢
  have HX4 := Lib.hid hX4
  have HY4 := Lib.hid hY4
  have HB4 := Lib.hid hB4
  have HO4 := Lib.hid hO4
  obtain ⟨b0, b1, b2, b3, f0, f1, f2, f3⟩ := cells4 hX4
  clear hX4 hY4 hB4 hO4
  go_wp2
  go_loopw [3, 4, 18] (fun _ _ i wr => ∃ j : Nat, i = .int .i64 j ∧ j ≤ cols.length ∧ Bx4 wr w.heap.size (.string m) (.slice A3 cols.length c3) (.int .i64 key) (.slice iA idx.length ic) ∧ Bx4 wr (w.heap.size + 1) (.string ⟨#[]⟩) (.slice none 0 0) (.int .i64 0) (.slice none 0 0) ∧ OwnC wr (w.heap.size + 2) (.slice A3 cols.length c3) cols ∧ Below w.heap.size w wr) (fun _ _ i _ => cols.length - (intOf i).toNat)
  case atStart => exact ⟨0, rfl, by omega, HX4.out, HY4.out, HO4.out, HB4.out⟩
  case round =>
    obtain ⟨j, rfl, hj, hX, hY, hO, hB⟩ := hrel
    have HXr := Lib.hid hX
    have HYr := Lib.hid hY
    have HOr := Lib.hid hO
    have HBr := Lib.hid hB
    clear hX hY hO hB b0 b1 b2 b3 f0 f1 f2 f3
    by_cases hlt : j < cols.length
    · obtain ⟨g, cap, ef⟩ := Go.Joins.ownsRow_form HOr.out (by omega)
      injection ef with ef1 _ ef2
      subst ef1 ef2
      obtain ⟨d0, d1, d2, fd⟩ := HOr.out.at_ hlt
      have hgl : g < wr.heap.size := cell_lt d0
      have hgB : w.heap.size + 2 ≤ g := (HOr.out.lt g rfl).1
      have hlt' : (j : Int) < (cols.length : Int) := by omega
      have hsz := HCM.out _ (List.getElem_mem hlt)
      have hag := fun (W : World) (h : OwnC W (w.heap.size + 2) (.slice (some ⟨g, 0, none⟩) cols.length c3) cols) => h.again hlt
      have hat := fun (W : World) (h : OwnC W (w.heap.size + 2) (.slice (some ⟨g, 0, none⟩) cols.length c3) cols) => h.at_ hlt
      generalize cols[j] = x at d0 d1 d2 hsz hag hat
      have HAG := Lib.hid hag
      have HAT := Lib.hid hat
      clear hag hat
      go_upto_region 6 with fail
      have ha := below1 wr (.cells #[.string x.m, .int .i64 x.k, .bool x.nn] 48)
      have HXa := Lib.hid (HXr.out.below ha)
      have HYa := Lib.hid (HYr.out.below ha)
      have HOa := Lib.hid (own_below HOr.out ha)
      have HBa := Lib.hid (thn HBr.out ha)
      have q0 : (wr.alloc (.cells #[.string x.m, .int .i64 x.k, .bool x.nn] 48)).cell? ⟨wr.heap.size, 0, none⟩ = some (.string x.m) := by rw [cell_last _ _ _ _ _ rfl]; rfl
      obtain ⟨d0, d1, d2, fd⟩ := HAT.out _ HOa.out
      obtain ⟨b0, b1, b2, b3, f0, f1, f2, f3⟩ := cells4 HXa.out
      clear ha HXr HYr HOr HBr
      generalize wr.alloc (.cells #[.string x.m, .int .i64 x.k, .bool x.nn] 48) = wa at *
      generalize wr.heap.size = cb at *
      have hbl : ∀ W W', (W.cell? ⟨w.heap.size, 1, none⟩ = some (.slice (some ⟨g, 0, none⟩) cols.length c3) ∧ W.cell? ⟨cb, 0, none⟩ = some (.string x.m) ∧ W.cell? ⟨g, j * 3, none⟩ = some (.string x.m) ∧ W.frozen? ⟨g, j * 3, none⟩ = false ∧ Bx4 W w.heap.size (.string m) (.slice (some ⟨g, 0, none⟩) cols.length c3) (.int .i64 key) (.slice iA idx.length ic) ∧ Bx4 W (w.heap.size + 1) (.string ⟨#[]⟩) (.slice none 0 0) (.int .i64 0) (.slice none 0 0) ∧ OwnC W (w.heap.size + 2) (.slice (some ⟨g, 0, none⟩) cols.length c3) cols ∧ Below w.heap.size w W) → Below W.heap.size W W' → (W'.cell? ⟨w.heap.size, 1, none⟩ = some (.slice (some ⟨g, 0, none⟩) cols.length c3) ∧ W'.cell? ⟨cb, 0, none⟩ = some (.string x.m) ∧ W'.cell? ⟨g, j * 3, none⟩ = some (.string x.m) ∧ W'.frozen? ⟨g, j * 3, none⟩ = false ∧ Bx4 W' w.heap.size (.string m) (.slice (some ⟨g, 0, none⟩) cols.length c3) (.int .i64 key) (.slice iA idx.length ic) ∧ Bx4 W' (w.heap.size + 1) (.string ⟨#[]⟩) (.slice none 0 0) (.int .i64 0) (.slice none 0 0) ∧ OwnC W' (w.heap.size + 2) (.slice (some ⟨g, 0, none⟩) cols.length c3) cols ∧ Below w.heap.size w W') := fun W W' h hb => ⟨(hb.cell (cell_lt h.1)).trans h.1, (hb.cell (cell_lt h.2.1)).trans h.2.1, (hb.cell (cell_lt h.2.2.1)).trans h.2.2.1, (hb.frozen (cell_lt h.2.2.1)).trans h.2.2.2.1, h.2.2.2.2.1.below hb, h.2.2.2.2.2.1.below hb, own_below h.2.2.2.2.2.2.1 hb, thn h.2.2.2.2.2.2.2 hb⟩
      have hset : ∀ W, (W.cell? ⟨w.heap.size, 1, none⟩ = some (.slice (some ⟨g, 0, none⟩) cols.length c3) ∧ W.cell? ⟨cb, 0, none⟩ = some (.string x.m) ∧ W.cell? ⟨g, j * 3, none⟩ = some (.string x.m) ∧ W.frozen? ⟨g, j * 3, none⟩ = false ∧ Bx4 W w.heap.size (.string m) (.slice (some ⟨g, 0, none⟩) cols.length c3) (.int .i64 key) (.slice iA idx.length ic) ∧ Bx4 W (w.heap.size + 1) (.string ⟨#[]⟩) (.slice none 0 0) (.int .i64 0) (.slice none 0 0) ∧ OwnC W (w.heap.size + 2) (.slice (some ⟨g, 0, none⟩) cols.length c3) cols ∧ Below w.heap.size w W) → ((W.setCell ⟨g, j * 3, none⟩ (.string x.m)).cell? ⟨w.heap.size, 1, none⟩ = some (.slice (some ⟨g, 0, none⟩) cols.length c3) ∧ (W.setCell ⟨g, j * 3, none⟩ (.string x.m)).cell? ⟨cb, 0, none⟩ = some (.string x.m) ∧ (W.setCell ⟨g, j * 3, none⟩ (.string x.m)).cell? ⟨g, j * 3, none⟩ = some (.string x.m) ∧ (W.setCell ⟨g, j * 3, none⟩ (.string x.m)).frozen? ⟨g, j * 3, none⟩ = false ∧ Bx4 (W.setCell ⟨g, j * 3, none⟩ (.string x.m)) w.heap.size (.string m) (.slice (some ⟨g, 0, none⟩) cols.length c3) (.int .i64 key) (.slice iA idx.length ic) ∧ Bx4 (W.setCell ⟨g, j * 3, none⟩ (.string x.m)) (w.heap.size + 1) (.string ⟨#[]⟩) (.slice none 0 0) (.int .i64 0) (.slice none 0 0) ∧ OwnC (W.setCell ⟨g, j * 3, none⟩ (.string x.m)) (w.heap.size + 2) (.slice (some ⟨g, 0, none⟩) cols.length c3) cols ∧ Below w.heap.size w (W.setCell ⟨g, j * 3, none⟩ (.string x.m))) := fun W h => by
        have hO := HAG.out _ h.2.2.2.2.2.2.1
        obtain ⟨e0, _, _, ef⟩ := HAT.out _ hO
        have hX := h.2.2.2.2.1.other ⟨g, j * 3, none⟩ (by simp; omega) (.string x.m)
        obtain ⟨_, y1, _⟩ := cells4 hX
        refine ⟨y1, ?_, e0, ef, hX, h.2.2.2.2.2.1.other ⟨g, j * 3, none⟩ (by simp; omega) (.string x.m), hO, below_set h.2.2.2.2.2.2.2 ⟨g, j * 3, none⟩ (by simp; omega) _⟩
        exact (World.cell?_setCells_out g [.string x.m] (j * 3) W ⟨cb, 0, none⟩ (fun e' _ => by have : cb = g := e'; omega)).trans h.2.1
      have hS0 : wa.drew.cell? ⟨w.heap.size, 1, none⟩ = some (.slice (some ⟨g, 0, none⟩) cols.length c3) ∧ wa.drew.cell? ⟨cb, 0, none⟩ = some (.string x.m) ∧ wa.drew.cell? ⟨g, j * 3, none⟩ = some (.string x.m) ∧ wa.drew.frozen? ⟨g, j * 3, none⟩ = false ∧ Bx4 wa.drew w.heap.size (.string m) (.slice (some ⟨g, 0, none⟩) cols.length c3) (.int .i64 key) (.slice iA idx.length ic) ∧ Bx4 wa.drew (w.heap.size + 1) (.string ⟨#[]⟩) (.slice none 0 0) (.int .i64 0) (.slice none 0 0) ∧ OwnC wa.drew (w.heap.size + 2) (.slice (some ⟨g, 0, none⟩) cols.length c3) cols ∧ Below w.heap.size w wa.drew := hbl wa wa.drew ⟨b1, q0, d0, fd, HXa.out, HYa.out, HOa.out, HBa.out⟩ (Below.refl _ _).drew
      have HSET := Lib.hid hset
      have HBL := Lib.hid hbl
      clear b0 b1 b2 b3 f0 f1 f2 f3 d0 d1 d2 fd q0 hset hbl
      have HSC := Lib.hid fun W => sClone_any x.m W hsz
      go_region_held3 (fun W => W.cell? ⟨w.heap.size, 1, none⟩ = some (.slice (some ⟨g, 0, none⟩) cols.length c3) ∧ W.cell? ⟨cb, 0, none⟩ = some (.string x.m) ∧ W.cell? ⟨g, j * 3, none⟩ = some (.string x.m) ∧ W.frozen? ⟨g, j * 3, none⟩ = false ∧ Bx4 W w.heap.size (.string m) (.slice (some ⟨g, 0, none⟩) cols.length c3) (.int .i64 key) (.slice iA idx.length ic) ∧ Bx4 W (w.heap.size + 1) (.string ⟨#[]⟩) (.slice none 0 0) (.int .i64 0) (.slice none 0 0) ∧ OwnC W (w.heap.size + 2) (.slice (some ⟨g, 0, none⟩) cols.length c3) cols ∧ Below w.heap.size w W)
        (first | with_reducible exact hS | with_reducible exact hS0 | with_reducible exact HSET.out _ hS | assumption)
        ((go_at_call 34; (with_reducible refine (HSC.out _).mono ?_); rintro e v5 ⟨rfl, hb⟩; have hS : v5.cell? ⟨w.heap.size, 1, none⟩ = some (.slice (some ⟨g, 0, none⟩) cols.length c3) ∧ v5.cell? ⟨cb, 0, none⟩ = some (.string x.m) ∧ v5.cell? ⟨g, j * 3, none⟩ = some (.string x.m) ∧ v5.frozen? ⟨g, j * 3, none⟩ = false ∧ Bx4 v5 w.heap.size (.string m) (.slice (some ⟨g, 0, none⟩) cols.length c3) (.int .i64 key) (.slice iA idx.length ic) ∧ Bx4 v5 (w.heap.size + 1) (.string ⟨#[]⟩) (.slice none 0 0) (.int .i64 0) (.slice none 0 0) ∧ OwnC v5 (w.heap.size + 2) (.slice (some ⟨g, 0, none⟩) cols.length c3) cols ∧ Below w.heap.size w v5 := HBL.out _ _ hS0 hb; clear hb))
      all_goals
        have HS := Lib.hid (HSET.out _ hS)
        clear hS hS0 HSET HBL
        go_wp2
        go_roundw
        case rel => exact ⟨j + 1, by go_num, hlt, HS.out.2.2.2.2.1, HS.out.2.2.2.2.2.1, HS.out.2.2.2.2.2.2.1, HS.out.2.2.2.2.2.2.2⟩
        case measure => simp [intOf]; omega
    · obtain rfl : j = cols.length := by omega
      obtain ⟨b0, b1, b2, b3, f0, f1, f2, f3⟩ := cells4 HXr.out
      have hz2 := HYr.out.lt
      go_upto_region 9 with (go_at_call 36; (with_reducible refine (HKX.out _ HBr.out).mono ?_); rintro e w6 ⟨v6, rfl, ho, hb⟩; obtain ⟨A6, c6, rfl, hA6⟩ := ownX_form ho; have HO6 := Lib.hid (own_le ho (show w.heap.size + 2 ≤ wr.heap.size from hz2)); have HX6 := Lib.hid (HXr.out.below hb); have HY6 := Lib.hid (HYr.out.below hb); have HC6 := Lib.hid (own_below HOr.out hb); have HB6 := Lib.hid (thn HBr.out hb); obtain ⟨b0, b1, b2, b3, f0, f1, f2, f3⟩ := cells4 HX6.out; clear hb ho)
      have hX7 := HX6.out.set3 (.slice A6 idx.length c6)
      have hY7 := HY6.out.other ⟨w.heap.size, 3, none⟩ (by simp) (.slice A6 idx.length c6)
      have hB7 := below_set HB6.out ⟨w.heap.size, 3, none⟩ (by simp) (.slice A6 idx.length c6)
      have hO7 := ownX_set (o := 3) HO6.out HX6.out (by decide) (.slice A6 idx.length c6)
      have hC7 := ownC_set (o := 3) HC6.out HX6.out (by decide) (.slice A6 idx.length c6)
      clear b0 b1 b2 b3 f0 f1 f2 f3 HX6 HY6 HB6 HO6 HC6 HXr HYr HBr HOr hz2
      generalize w6.setCell ⟨w.heap.size, 3, none⟩ (.slice A6 idx.length c6) = w7 at hX7 hY7 hB7 hO7 hC7 ⊢
      have HX7 := Lib.hid hX7
      have HY7 := Lib.hid hY7
      have HB7 := Lib.hid hB7
      have HO7 := Lib.hid hO7
      have HC7 := Lib.hid hC7
      obtain ⟨b0, b1, b2, b3, f0, f1, f2, f3⟩ := cells4 hX7
      clear hX7 hY7 hB7 hO7 hC7
      go_wp2
      go_loopw [5, 6, 39] (fun _ _ i wr => ∃ j : Nat, i = .int .i64 j ∧ j ≤ idx.length ∧ Bx4 wr w.heap.size (.string m) (.slice A3 cols.length c3) (.int .i64 key) (.slice A6 idx.length c6) ∧ Bx4 wr (w.heap.size + 1) (.string ⟨#[]⟩) (.slice none 0 0) (.int .i64 0) (.slice none 0 0) ∧ OwnX wr (w.heap.size + 2) (.slice A6 idx.length c6) idx ∧ OwnC wr (w.heap.size + 2) (.slice A3 cols.length c3) cols ∧ Below w.heap.size w wr) (fun _ _ i _ => idx.length - (intOf i).toNat)
      case atStart => exact ⟨0, rfl, by omega, HX7.out, HY7.out, HO7.out, HC7.out, HB7.out⟩
      case round =>
        obtain ⟨j, rfl, hj, hX, hY, hO, hC, hB⟩ := hrel
        have HCr := Lib.hid hC
        have HXr := Lib.hid hX
        have HYr := Lib.hid hY
        have HOr := Lib.hid hO
        have HBr := Lib.hid hB
        clear hX hY hO hC hB b0 b1 b2 b3 f0 f1 f2 f3
        by_cases hlt : j < idx.length
        · obtain ⟨g, cap, ef⟩ := Go.Joins.ownsRow_form HOr.out (by omega)
          injection ef with ef1 _ ef2
          subst ef1 ef2
          obtain ⟨d0, d1, fd⟩ := HOr.out.at_ hlt
          have hgl : g < wr.heap.size := cell_lt d0
          have hgB : w.heap.size + 2 ≤ g := (HOr.out.lt g rfl).1
          have hlt' : (j : Int) < (idx.length : Int) := by omega
          have hsz := HXM.out _ (List.getElem_mem hlt)
          have hag := fun (W : World) (h : OwnX W (w.heap.size + 2) (.slice (some ⟨g, 0, none⟩) idx.length c6) idx) => h.again hlt
          have hat := fun (W : World) (h : OwnX W (w.heap.size + 2) (.slice (some ⟨g, 0, none⟩) idx.length c6) idx) => h.at_ hlt
          generalize idx[j] = x at d0 d1 hsz hag hat
          have HAG := Lib.hid hag
          have HAT := Lib.hid hat
          clear hag hat
          go_upto_region 12 with fail
          have ha := below1 wr (.cells #[.string x.m, .int .i64 x.c] 50)
          have HXa := Lib.hid (HXr.out.below ha)
          have HYa := Lib.hid (HYr.out.below ha)
          have HOa := Lib.hid (own_below HOr.out ha)
          have HBa := Lib.hid (thn HBr.out ha)
          have HCa := Lib.hid (own_below HCr.out ha)
          have q0 : (wr.alloc (.cells #[.string x.m, .int .i64 x.c] 50)).cell? ⟨wr.heap.size, 0, none⟩ = some (.string x.m) := by rw [cell_last _ _ _ _ _ rfl]; rfl
          obtain ⟨d0, d1, fd⟩ := HAT.out _ HOa.out
          obtain ⟨b0, b1, b2, b3, f0, f1, f2, f3⟩ := cells4 HXa.out
          clear ha HXr HYr HOr HBr HCr
          generalize wr.alloc (.cells #[.string x.m, .int .i64 x.c] 50) = wa at *
          generalize wr.heap.size = cb at *
          have hbl : ∀ W W', (W.cell? ⟨w.heap.size, 3, none⟩ = some (.slice (some ⟨g, 0, none⟩) idx.length c6) ∧ W.cell? ⟨cb, 0, none⟩ = some (.string x.m) ∧ W.cell? ⟨g, j * 2, none⟩ = some (.string x.m) ∧ W.frozen? ⟨g, j * 2, none⟩ = false ∧ Bx4 W w.heap.size (.string m) (.slice A3 cols.length c3) (.int .i64 key) (.slice (some ⟨g, 0, none⟩) idx.length c6) ∧ Bx4 W (w.heap.size + 1) (.string ⟨#[]⟩) (.slice none 0 0) (.int .i64 0) (.slice none 0 0) ∧ OwnX W (w.heap.size + 2) (.slice (some ⟨g, 0, none⟩) idx.length c6) idx ∧ OwnC W (w.heap.size + 2) (.slice A3 cols.length c3) cols ∧ Below w.heap.size w W) → Below W.heap.size W W' → (W'.cell? ⟨w.heap.size, 3, none⟩ = some (.slice (some ⟨g, 0, none⟩) idx.length c6) ∧ W'.cell? ⟨cb, 0, none⟩ = some (.string x.m) ∧ W'.cell? ⟨g, j * 2, none⟩ = some (.string x.m) ∧ W'.frozen? ⟨g, j * 2, none⟩ = false ∧ Bx4 W' w.heap.size (.string m) (.slice A3 cols.length c3) (.int .i64 key) (.slice (some ⟨g, 0, none⟩) idx.length c6) ∧ Bx4 W' (w.heap.size + 1) (.string ⟨#[]⟩) (.slice none 0 0) (.int .i64 0) (.slice none 0 0) ∧ OwnX W' (w.heap.size + 2) (.slice (some ⟨g, 0, none⟩) idx.length c6) idx ∧ OwnC W' (w.heap.size + 2) (.slice A3 cols.length c3) cols ∧ Below w.heap.size w W') := fun W W' h hb => ⟨(hb.cell (cell_lt h.1)).trans h.1, (hb.cell (cell_lt h.2.1)).trans h.2.1, (hb.cell (cell_lt h.2.2.1)).trans h.2.2.1, (hb.frozen (cell_lt h.2.2.1)).trans h.2.2.2.1, h.2.2.2.2.1.below hb, h.2.2.2.2.2.1.below hb, own_below h.2.2.2.2.2.2.1 hb, own_below h.2.2.2.2.2.2.2.1 hb, thn h.2.2.2.2.2.2.2.2 hb⟩
          have hset : ∀ W, (W.cell? ⟨w.heap.size, 3, none⟩ = some (.slice (some ⟨g, 0, none⟩) idx.length c6) ∧ W.cell? ⟨cb, 0, none⟩ = some (.string x.m) ∧ W.cell? ⟨g, j * 2, none⟩ = some (.string x.m) ∧ W.frozen? ⟨g, j * 2, none⟩ = false ∧ Bx4 W w.heap.size (.string m) (.slice A3 cols.length c3) (.int .i64 key) (.slice (some ⟨g, 0, none⟩) idx.length c6) ∧ Bx4 W (w.heap.size + 1) (.string ⟨#[]⟩) (.slice none 0 0) (.int .i64 0) (.slice none 0 0) ∧ OwnX W (w.heap.size + 2) (.slice (some ⟨g, 0, none⟩) idx.length c6) idx ∧ OwnC W (w.heap.size + 2) (.slice A3 cols.length c3) cols ∧ Below w.heap.size w W) → ((W.setCell ⟨g, j * 2, none⟩ (.string x.m)).cell? ⟨w.heap.size, 3, none⟩ = some (.slice (some ⟨g, 0, none⟩) idx.length c6) ∧ (W.setCell ⟨g, j * 2, none⟩ (.string x.m)).cell? ⟨cb, 0, none⟩ = some (.string x.m) ∧ (W.setCell ⟨g, j * 2, none⟩ (.string x.m)).cell? ⟨g, j * 2, none⟩ = some (.string x.m) ∧ (W.setCell ⟨g, j * 2, none⟩ (.string x.m)).frozen? ⟨g, j * 2, none⟩ = false ∧ Bx4 (W.setCell ⟨g, j * 2, none⟩ (.string x.m)) w.heap.size (.string m) (.slice A3 cols.length c3) (.int .i64 key) (.slice (some ⟨g, 0, none⟩) idx.length c6) ∧ Bx4 (W.setCell ⟨g, j * 2, none⟩ (.string x.m)) (w.heap.size + 1) (.string ⟨#[]⟩) (.slice none 0 0) (.int .i64 0) (.slice none 0 0) ∧ OwnX (W.setCell ⟨g, j * 2, none⟩ (.string x.m)) (w.heap.size + 2) (.slice (some ⟨g, 0, none⟩) idx.length c6) idx ∧ OwnC (W.setCell ⟨g, j * 2, none⟩ (.string x.m)) (w.heap.size + 2) (.slice A3 cols.length c3) cols ∧ Below w.heap.size w (W.setCell ⟨g, j * 2, none⟩ (.string x.m))) := fun W h => by
            have hO := HAG.out _ h.2.2.2.2.2.2.1
            obtain ⟨e0, _, ef⟩ := HAT.out _ hO
            have hX := h.2.2.2.2.1.other ⟨g, j * 2, none⟩ (by simp; omega) (.string x.m)
            obtain ⟨_, _, _, y1, _⟩ := cells4 hX
            refine ⟨y1, ?_, e0, ef, hX, h.2.2.2.2.2.1.other ⟨g, j * 2, none⟩ (by simp; omega) (.string x.m), hO, h.2.2.2.2.2.2.2.1.kept (grown_setCell W g (j * 2) _) (own_apart h.2.2.2.2.2.2.2.1 h.2.2.2.2.2.2.1), below_set h.2.2.2.2.2.2.2.2 ⟨g, j * 2, none⟩ (by simp; omega) _⟩
            exact (World.cell?_setCells_out g [.string x.m] (j * 2) W ⟨cb, 0, none⟩ (fun e' _ => by have : cb = g := e'; omega)).trans h.2.1
          have hS0 : wa.drew.cell? ⟨w.heap.size, 3, none⟩ = some (.slice (some ⟨g, 0, none⟩) idx.length c6) ∧ wa.drew.cell? ⟨cb, 0, none⟩ = some (.string x.m) ∧ wa.drew.cell? ⟨g, j * 2, none⟩ = some (.string x.m) ∧ wa.drew.frozen? ⟨g, j * 2, none⟩ = false ∧ Bx4 wa.drew w.heap.size (.string m) (.slice A3 cols.length c3) (.int .i64 key) (.slice (some ⟨g, 0, none⟩) idx.length c6) ∧ Bx4 wa.drew (w.heap.size + 1) (.string ⟨#[]⟩) (.slice none 0 0) (.int .i64 0) (.slice none 0 0) ∧ OwnX wa.drew (w.heap.size + 2) (.slice (some ⟨g, 0, none⟩) idx.length c6) idx ∧ OwnC wa.drew (w.heap.size + 2) (.slice A3 cols.length c3) cols ∧ Below w.heap.size w wa.drew := hbl wa wa.drew ⟨b3, q0, d0, fd, HXa.out, HYa.out, HOa.out, HCa.out, HBa.out⟩ (Below.refl _ _).drew
          have HSET := Lib.hid hset
          have HBL := Lib.hid hbl
          clear b0 b1 b2 b3 f0 f1 f2 f3 d0 d1 fd q0 hset hbl
          have HSC := Lib.hid fun W => sClone_any x.m W hsz
          go_region_held3 (fun W => W.cell? ⟨w.heap.size, 3, none⟩ = some (.slice (some ⟨g, 0, none⟩) idx.length c6) ∧ W.cell? ⟨cb, 0, none⟩ = some (.string x.m) ∧ W.cell? ⟨g, j * 2, none⟩ = some (.string x.m) ∧ W.frozen? ⟨g, j * 2, none⟩ = false ∧ Bx4 W w.heap.size (.string m) (.slice A3 cols.length c3) (.int .i64 key) (.slice (some ⟨g, 0, none⟩) idx.length c6) ∧ Bx4 W (w.heap.size + 1) (.string ⟨#[]⟩) (.slice none 0 0) (.int .i64 0) (.slice none 0 0) ∧ OwnX W (w.heap.size + 2) (.slice (some ⟨g, 0, none⟩) idx.length c6) idx ∧ OwnC W (w.heap.size + 2) (.slice A3 cols.length c3) cols ∧ Below w.heap.size w W)
            (first | with_reducible exact hS | with_reducible exact hS0 | with_reducible exact HSET.out _ hS | assumption)
            ((go_at_call 34; (with_reducible refine (HSC.out _).mono ?_); rintro e v5 ⟨rfl, hb⟩; have hS : v5.cell? ⟨w.heap.size, 3, none⟩ = some (.slice (some ⟨g, 0, none⟩) idx.length c6) ∧ v5.cell? ⟨cb, 0, none⟩ = some (.string x.m) ∧ v5.cell? ⟨g, j * 2, none⟩ = some (.string x.m) ∧ v5.frozen? ⟨g, j * 2, none⟩ = false ∧ Bx4 v5 w.heap.size (.string m) (.slice A3 cols.length c3) (.int .i64 key) (.slice (some ⟨g, 0, none⟩) idx.length c6) ∧ Bx4 v5 (w.heap.size + 1) (.string ⟨#[]⟩) (.slice none 0 0) (.int .i64 0) (.slice none 0 0) ∧ OwnX v5 (w.heap.size + 2) (.slice (some ⟨g, 0, none⟩) idx.length c6) idx ∧ OwnC v5 (w.heap.size + 2) (.slice A3 cols.length c3) cols ∧ Below w.heap.size w v5 := HBL.out _ _ hS0 hb; clear hb))
          all_goals
            have HS := Lib.hid (HSET.out _ hS)
            clear hS hS0 HSET HBL
            go_wp2
            go_roundw
            case rel => exact ⟨j + 1, by go_num, hlt, HS.out.2.2.2.2.1, HS.out.2.2.2.2.2.1, HS.out.2.2.2.2.2.2.1, HS.out.2.2.2.2.2.2.2.1, HS.out.2.2.2.2.2.2.2.2⟩
            case measure => simp [intOf]; omega
        · obtain ⟨b0, b1, b2, b3, _, _, _, _⟩ := cells4 HXr.out
          obtain ⟨d0, d1, d2, d3, f0, f1, f2, f3⟩ := cells4 HYr.out
          have hC9 : OwnC (wr.setCells (w.heap.size + 1) 0 [.string m, .slice A3 cols.length c3, .int .i64 key, .slice A6 idx.length c6]) (w.heap.size + 2) (.slice A3 cols.length c3) cols := HCr.out.kept (grown_setCells (w.heap.size + 1) _ 0 wr) (by
            cases hv : (Value.slice A3 cols.length c3).ownBlock with
            | none => exact .inl rfl
            | some k => exact .inr (fun e => own_ne HCr.out HYr.out (by decide) (by rw [hv, e])))
          have hX9 : OwnX (wr.setCells (w.heap.size + 1) 0 [.string m, .slice A3 cols.length c3, .int .i64 key, .slice A6 idx.length c6]) (w.heap.size + 2) (.slice A6 idx.length c6) idx := HOr.out.kept (grown_setCells (w.heap.size + 1) _ 0 wr) (by
            cases hv : (Value.slice A6 idx.length c6).ownBlock with
            | none => exact .inl rfl
            | some k => exact .inr (fun e => own_ne HOr.out HYr.out (by decide) (by rw [hv, e])))
          have hB9 : Below w.heap.size w (wr.setCells (w.heap.size + 1) 0 [.string m, .slice A3 cols.length c3, .int .i64 key, .slice A6 idx.length c6]) := below_cells (by omega) _ _ HBr.out
          have HC9 := Lib.hid hC9
          have HX9 := Lib.hid hX9
          have HB9 := Lib.hid hB9
          clear hC9 hX9 hB9
          go_wp2
          exact bodyPost_ret (v := tbl m A3 cols.length c3 key A6 idx.length c6) (by simp [results, Tryz.results19, go_sem, d0, d1, d2, d3]) rfl ⟨A3, c3, A6, c6, rfl, own_le HC9.out (by omega), own_le HX9.out (by omega), HB9.out⟩
end Go.Proofs.YtipcacplphidhaaGreat
/- Tables in memory of their own: the walk of copyOfAll. Conditions: tables that are read in memory and may be; few. -/
/- Tables in memory of the call's own: how they lie, and what keeps them. Conditions: none. -/
namespace Go.Proofs.YtipcacplphidhaaGreat
open Go.RowKit Go.Sort Go.Maps
set_option linter.unusedSimpArgs false
set_option linter.unusedVariables false

/-- A table, and where its slices lie. -/
structure Tr where
  t : Tb
  A : Option Addr
  c : Nat
  A' : Option Addr
  c' : Nat
def trC (x : Tr) : List Value := [.string x.t.m, .slice x.A x.t.cols.length x.c, .int .i64 x.t.key, .slice x.A' x.t.idx.length x.c']
theorem trC_len (x : Tr) : (trC x).length = 4 := rfl
theorem trC_one (l : List Tr) : ∀ u ∈ l.flatMap trC, u.oneCell' = true := fun u hu => by
  obtain ⟨v, _, hv⟩ := List.mem_flatMap.1 hu
  simp [trC] at hv
  rcases hv with rfl | rfl | rfl | rfl <;> rfl
/-- A table's own slices. -/
structure TrO (w : World) (B : Nat) (x : Tr) : Prop where
  c : OwnC w B (.slice x.A x.t.cols.length x.c) x.t.cols
  x : OwnX w B (.slice x.A' x.t.idx.length x.c') x.t.idx
/-- Tables of the call's own. -/
structure Tbs (w : World) (B : Nat) (v : Value) (xs : List Tr) : Prop where
  own : w.ownsRow B 46 4 v xs.length (xs.flatMap trC)
  tabs : ∀ x ∈ xs, TrO w B x
theorem ownC_kept {w w' : World} {B : Nat} {v : Value} {l : List Cl} {b : Option Nat} (h : OwnC w B v l) (hg : w.grownBy w' b) (hb : ∀ k, b = some k → ∃ cs T fr, w.heap[k]? = some (.cells cs T fr) ∧ T ≠ 48) : OwnC w' B v l :=
  h.kept hg (by
    cases hv : v.ownBlock with
    | none => exact .inl rfl
    | some k => exact .inr (fun e => by
        obtain ⟨cs, T, fr, h1, h2⟩ := hb k e.symm
        exact own_ne h h1 h2 hv))
theorem ownX_kept {w w' : World} {B : Nat} {v : Value} {l : List Ix} {b : Option Nat} (h : OwnX w B v l) (hg : w.grownBy w' b) (hb : ∀ k, b = some k → ∃ cs T fr, w.heap[k]? = some (.cells cs T fr) ∧ T ≠ 50) : OwnX w' B v l :=
  h.kept hg (by
    cases hv : v.ownBlock with
    | none => exact .inl rfl
    | some k => exact .inr (fun e => by
        obtain ⟨cs, T, fr, h1, h2⟩ := hb k e.symm
        exact own_ne h h1 h2 hv))
theorem TrO.kept {w w' : World} {B : Nat} {x : Tr} {b : Option Nat} (h : TrO w B x) (hg : w.grownBy w' b) (hb : ∀ k, b = some k → ∃ cs T fr, w.heap[k]? = some (.cells cs T fr) ∧ T ≠ 48 ∧ T ≠ 50) : TrO w' B x :=
  ⟨ownC_kept h.c hg (fun k hk => by obtain ⟨cs, T, fr, h1, h2, _⟩ := hb k hk; exact ⟨cs, T, fr, h1, h2⟩), ownX_kept h.x hg (fun k hk => by obtain ⟨cs, T, fr, h1, _, h2⟩ := hb k hk; exact ⟨cs, T, fr, h1, h2⟩)⟩
theorem TrO.below {w w' : World} {B : Nat} {x : Tr} (h : TrO w B x) (hb : Below w.heap.size w w') : TrO w' B x := ⟨own_below h.c hb, own_below h.x hb⟩
theorem TrO.le {w : World} {B B' : Nat} {x : Tr} (h : TrO w B x) (hB : B' ≤ B) : TrO w B' x := ⟨own_le h.c hB, own_le h.x hB⟩
theorem Tbs.below {w w' : World} {B : Nat} {v : Value} {xs : List Tr} (h : Tbs w B v xs) (hb : Below w.heap.size w w') : Tbs w' B v xs := ⟨own_below h.own hb, fun x hx => (h.tabs x hx).below hb⟩
theorem Tbs.le {w : World} {B B' : Nat} {v : Value} {xs : List Tr} (h : Tbs w B v xs) (hB : B' ≤ B) : Tbs w B' v xs := ⟨own_le h.own hB, fun x hx => (h.tabs x hx).le hB⟩
theorem own_type {w : World} {B : Nat} {e : TypeId} {k : Nat} {v : Value} {n : Nat} {xs : List Value} (h : w.ownsRow B e k v n xs) : ∀ b, v.ownBlock = some b → ∃ cs fr, w.heap[b]? = some (.cells cs e fr) := fun b hb => by
  rcases h.2 with ⟨rfl, _⟩ | ⟨g, cap, cur, rfl, _, hg, _⟩
  · cases hb
  · injection hb with hb
    subst hb
    exact ⟨cur, _, hg⟩
/-- What is behind a change of a block that holds none of them. -/
theorem Tbs.kept {w w' : World} {B : Nat} {v : Value} {xs : List Tr} {b : Nat} {cs : Array Value} {T : TypeId} {fr : Nat × Nat} (h : Tbs w B v xs) (hg : w.grownBy w' (some b)) (hb : w.heap[b]? = some (.cells cs T fr)) (h1 : T ≠ 48) (h2 : T ≠ 50) (h3 : T ≠ 46) : Tbs w' B v xs :=
  ⟨h.own.kept hg (by
    cases hv : v.ownBlock with
    | none => exact .inl rfl
    | some k => exact .inr (fun e => by
        have e' : k = b := by injection e
        subst e'
        exact own_ne h.own hb h3 hv)), fun x hx => (h.tabs x hx).kept hg (fun k hk => by
    injection hk with hk
    subst hk
    exact ⟨cs, T, fr, hb, h1, h2⟩)⟩
/-- One more. -/
theorem Tbs.more {w w' : World} {B : Nat} {v v' : Value} {xs : List Tr} {x : Tr} (h : Tbs w B v xs) (hx : TrO w B x) (ho : w'.ownsRow B 46 4 v' (xs.length + 1) (xs.flatMap trC ++ trC x)) (hg : w.grownBy w' v.ownBlock) : Tbs w' B v' (xs ++ [x]) := by
  have hb : ∀ k, v.ownBlock = some k → ∃ cs T fr, w.heap[k]? = some (.cells cs T fr) ∧ T ≠ 48 ∧ T ≠ 50 := fun k hk => by
    obtain ⟨cs, fr, h1⟩ := own_type h.own k hk
    exact ⟨cs, _, fr, h1, by decide, by decide⟩
  refine ⟨by rw [List.length_append, List.flatMap_append]; simpa using ho, fun y hy => ?_⟩
  rcases List.mem_append.1 hy with hy | hy
  · exact (h.tabs y hy).kept hg hb
  · simp at hy; subst hy
    exact hx.kept hg hb
theorem TrO.td {w : World} {B : Nat} {x : Tr} (h : TrO w B x) (hc : x.t.cols.length ≤ 100) (hi : x.t.idx.length ≤ 100) : TdOk w x.t x.A x.A' x.c x.c' := by
  obtain ⟨A, c, e, hr⟩ := own_cols h.c
  injection e with e1 _ e2
  subst e1 e2
  obtain ⟨A', c', e, hr'⟩ := own_idx h.x
  injection e with e1 _ e2
  subst e1 e2
  obtain ⟨_, _, e, hn⟩ := ownC_form h.c
  injection e with e1 _ e2
  obtain ⟨_, _, e, hn'⟩ := ownX_form h.x
  injection e with e3 _ e4
  exact ⟨hr, hr', fun e0 => by rw [← e1, ← e2] at hn; exact hn e0, fun e0 => by rw [← e3, ← e4] at hn'; exact hn' e0, by omega, by omega⟩
theorem Tbs.rd {w : World} {B : Nat} {v : Value} {xs : List Tr} (h : Tbs w B v xs) (hc : ∀ x ∈ xs, x.t.cols.length ≤ 100 ∧ x.t.idx.length ≤ 100) : ∃ A c, v = .slice A (xs.map Tr.t).length c ∧ RdS w A (xs.map Tr.t) ∧ (A = none → xs.length = 0) := by
  rw [List.length_map]
  rcases h.own.2 with ⟨h1, h0⟩ | ⟨g, cap, cur, h1, _⟩
  · exact ⟨none, 0, by rw [h1, h0], fun hl => absurd (List.eq_nil_of_length_eq_zero (by rw [List.length_map]; exact h0)) hl, fun _ => h0⟩
  · subst h1
    refine ⟨some ⟨g, 0, none⟩, cap, rfl, fun _ => ⟨_, rfl, fun j t hj => ?_⟩, fun e => by cases e⟩
    rw [List.getElem?_map] at hj
    obtain ⟨x, hx, rfl⟩ := Option.map_eq_some_iff.1 hj
    have hm := List.mem_of_getElem? hx
    have hc' := h.own.cells (g := g) rfl
    have h0 := hc' (j * 4 + 0) _ (flatK_get trC 4 trC_len xs j 0 x hx (by omega))
    have h1 := hc' (j * 4 + 1) _ (flatK_get trC 4 trC_len xs j 1 x hx (by omega))
    have h2 := hc' (j * 4 + 2) _ (flatK_get trC 4 trC_len xs j 2 x hx (by omega))
    have h3 := hc' (j * 4 + 3) _ (flatK_get trC 4 trC_len xs j 3 x hx (by omega))
    rw [add_lit] at h0 h1 h2 h3
    rw [add_lit]
    refine ⟨x.A, x.A', x.c, x.c', h0, ?_, ?_, ?_, (h.tabs x hm).td (hc x hm).1 (hc x hm).2⟩
    · rw [← Nat.add_assoc] at h1; exact h1
    · rw [← Nat.add_assoc] at h2; exact h2
    · rw [← Nat.add_assoc] at h3; exact h3
theorem few_of_may {t : Tb} (h : tblB t = true) : t.cols.length ≤ 8 ∧ t.idx.length ≤ 4 ∧ t.m.size ≤ 16 ∧ (∀ x ∈ t.cols, x.m.size ≤ 16) ∧ ∀ x ∈ t.idx, x.m.size ≤ 16 := by
  obtain ⟨_, h4, h16⟩ := tblB_idx h
  simp only [tblB, Bool.and_eq_true] at h
  obtain ⟨_, h8, hc⟩ := colsB_parts h.2.1
  exact ⟨h8, h4, nameB_16 h.1, hc, h16⟩
end Go.Proofs.YtipcacplphidhaaGreat
namespace Go.Proofs.YtipcacplphidhaaGreat
open Go.RowKit Go.Sort Go.Maps
set_option linter.unusedSimpArgs false
set_option linter.unusedVariables false

theorem Tryz.infoT : (Tryz.prog.info? 46).map (fun i => (i.zero, i.size, i.bytes)) = some (some (.agg #[.string ⟨#[]⟩, .slice none 0 0, .int .i64 0, .slice none 0 0]), 4, 72) := by kernel_rfl
/-- Block b is one slice. -/
abbrev Bx1 (w : World) (b : Nat) (v : Value) : Prop := w.heap[b]? = some (.cells #[v] 35 (0, 0))
theorem Bx1.below {w w' : World} {b : Nat} {v : Value} (h : Bx1 w b v) (hb : Below w.heap.size w w') : Bx1 w' b v := by
  unfold Bx1
  rw [hb.block b (Array.getElem?_eq_some_iff.1 h).1]; exact h
theorem Bx1.lt {w : World} {b : Nat} {v : Value} (h : Bx1 w b v) : b < w.heap.size := (Array.getElem?_eq_some_iff.1 h).1
theorem Bx1.set {w : World} {b : Nat} {v : Value} (h : Bx1 w b v) (u : Value) : Bx1 (w.setCell ⟨b, 0, none⟩ u) b u := by
  unfold Bx1
  rw [heap_setCell_same w b 0 _ _ u h]; rfl
theorem Bx1.other {w : World} {b : Nat} {v : Value} (h : Bx1 w b v) (p : Addr) (hp : b ≠ p.block) (u : Value) : Bx1 (w.setCell p u) b v := by
  unfold Bx1
  rw [heap_setCell_other w p b u hp]; exact h
theorem Bx1.cells {w : World} {b : Nat} {v : Value} (h : Bx1 w b v) : w.cell? ⟨b, 0, none⟩ = some v ∧ w.frozen? ⟨b, 0, none⟩ = false := by
  simp [World.cell?, World.frozen?, h]
theorem Bx1.grown {w w' : World} {b : Nat} {v : Value} {r : Option Nat} (h : Bx1 w b v) (hg : w.grownBy w' r) (hr : r ≠ some b) : Bx1 w' b v := by
  unfold Bx1
  rw [hg.block b h.lt (fun e => hr e.symm)]; exact h

theorem news_new0 (W : World) (cs : Array Value) (T : TypeId) (l : List Value) (h : cs.toList = l) : ∀ j u, l[j]? = some u → (W.alloc (.cells cs T)).cell? ((⟨W.heap.size, 0, none⟩ : Addr).add j) = some u := fun j u hu => by
  subst h
  rw [add_lit, cell_last _ _ _ _ _ rfl]
  simpa using hu
/-- Where a table's indexes lie. -/
def ixB1 (x : Tr) : Option Nat := (Value.slice x.A' x.t.idx.length x.c').ownBlock
/-- No two tables' indexes lie in one block. -/
def Apart (xs : List Tr) : Prop := xs.Pairwise fun x y => ∀ b, ixB1 x = some b → ixB1 y ≠ some b
theorem Apart.more {xs : List Tr} {y : Tr} {s : Nat} (h : Apart xs) (h1 : ∀ x ∈ xs, ∀ b, ixB1 x = some b → b < s) (h2 : ∀ b, ixB1 y = some b → s ≤ b) : Apart (xs ++ [y]) := by
  unfold Apart
  rw [List.pairwise_append]
  refine ⟨h, List.pairwise_singleton _ _, fun x hx z hz b hb e => ?_⟩
  simp at hz
  subst hz
  have := h1 x hx b hb
  have := h2 b e
  omega
set_option maxRecDepth 100000 in
set_option maxHeartbeats 8000000 in
theorem copyAll_any (A : Option Addr) (c : Nat) (ls : List Tb) (w : World) (hr : RdS w A ls) (hn : ls.length ≤ 100) (hm : ∀ t ∈ ls, tblB t = true) :
    Calls Tryz.prog 21 #[.agg #[.slice A ls.length c]] w fun e w' => ∃ v xs, e = .returned (.agg #[v]) ∧ Tbs w' w.heap.size v xs ∧ Apart xs ∧ xs.map Tr.t = ls ∧ Below w.heap.size w w' := by
  obtain ⟨i0, hi0, hz0, hz1, hz2⟩ := info_parts Tryz.infoT
  have HR := Lib.hid hr
  have HM := Lib.hid hm
  have hB3 := ((below1 w (.cells #[.slice A ls.length c] 35)).alloc (by simp) (.cells #[.slice none 0 0] 35)).alloc (by simp; omega) (.cells #[.slice none 0 0] 35)
  have h1 := heap_alloc_new w (.cells #[.slice A ls.length c] 35)
  have hT : Bx1 (((w.alloc (.cells #[.slice A ls.length c] 35)).alloc (.cells #[.slice none 0 0] 35)).alloc (.cells #[.slice none 0 0] 35)) w.heap.size (.slice A ls.length c) := (Bx1.below h1 (below1 _ _)).below (below1 _ _)
  have h2 := heap_alloc_new (w.alloc (.cells #[.slice A ls.length c] 35)) (.cells #[.slice none 0 0] 35)
  rw [World.size_alloc] at h2
  have hRs : Bx1 (((w.alloc (.cells #[.slice A ls.length c] 35)).alloc (.cells #[.slice none 0 0] 35)).alloc (.cells #[.slice none 0 0] 35)) (w.heap.size + 1) (.slice none 0 0) := Bx1.below h2 (below1 _ _)
  have h3 := heap_alloc_new ((w.alloc (.cells #[.slice A ls.length c] 35)).alloc (.cells #[.slice none 0 0] 35)) (.cells #[.slice none 0 0] 35)
  rw [World.size_alloc, World.size_alloc] at h3
  have HB3 := Lib.hid hB3
  have HT3 := Lib.hid hT
  have HRs := Lib.hid hRs
  have HN3 : Hid (Bx1 (((w.alloc (.cells #[.slice A ls.length c] 35)).alloc (.cells #[.slice none 0 0] 35)).alloc (.cells #[.slice none 0 0] 35)) (w.heap.size + 1 + 1) (.slice none 0 0)) := Lib.hid h3
  obtain ⟨t0, ft⟩ := hT.cells
  clear hr hm hB3 h1 hT h2 hRs h3
  go_enter Tryz.func21, Tryz.ntmps21
  go_upto_region 2 with fail
  generalize ((w.alloc (.cells #[.slice A ls.length c] 35)).alloc (.cells #[.slice none 0 0] 35)).alloc (.cells #[.slice none 0 0] 35) = w3 at HB3 HT3 HRs HN3 t0 ft ⊢
  go_wp2
  go_loopw [5, 9] (fun _ i wr => ∃ (j : Nat) (v : Value) (xs : List Tr), i = .int .i64 j ∧ j ≤ ls.length ∧ xs.map Tr.t = ls.take j ∧ Bx1 wr (w.heap.size + 1) (.slice none 0 0) ∧ Bx1 wr (w.heap.size + 1 + 1) v ∧ Tbs wr (w.heap.size + 3) v xs ∧ Apart xs ∧ Below w.heap.size w wr) (fun _ i _ => ls.length - (intOf i).toNat)
  case atStart => exact ⟨0, _, [], rfl, by omega, by simp, HRs.out, HN3.out, ⟨World.ownsRow_nil _ _ _ _, fun x hx => by simp at hx⟩, List.Pairwise.nil, HB3.out⟩
  case round =>
    obtain ⟨j, v, xs, rfl, hj, hxs, hRr, hN, hS, hAP, hB⟩ := hrel
    have HAP := Lib.hid hAP
    have HXS := Lib.hid hxs
    have HRr := Lib.hid hRr
    have HN := Lib.hid hN
    have HS := Lib.hid hS
    have HB := Lib.hid hB
    clear hxs hRr hN hS hAP hB t0 ft
    have hxl : xs.length = j := by have := congrArg List.length HXS.out; rw [List.length_map, List.length_take] at this; omega
    by_cases hlt : j < ls.length
    · obtain ⟨ad, rfl, cA, iA, cc, ic, k0, k1, k2, k3, hT⟩ := (HR.out.below HB.out).at_ hlt
      have hjl : (j : Int) < (ls.length : Int) := by omega
      have htk : ls.take (j + 1) = ls.take j ++ [ls[j]] := List.take_succ_eq_append_getElem hlt
      have HTK := Lib.hid htk
      obtain ⟨fc, fi, fm, fcm, fim⟩ := few_of_may (HM.out _ (List.getElem_mem hlt))
      have hcp := fun (W : World) (hb : Below wr.heap.size wr W) => copyOf_any ls[j].m cA iA cc ic ls[j].key ls[j].cols ls[j].idx W (hT.below hb).c (hT.below hb).x (fun e => (hT.cn e).1) (fun e => (hT.xn e).1) (by omega) (by omega) (by omega) (fun x hx => by have := fcm x hx; omega) (fun x hx => by have := fim x hx; omega)
      have HCP := Lib.hid hcp
      clear htk hT hcp fcm fim
      generalize ls[j] = t at k0 k1 k2 k3 HTK HCP fc fi
      go_upto_region 5 with fail
      have ha := below1 wr (.cells #[.string t.m, .slice cA t.cols.length cc, .int .i64 t.key, .slice iA t.idx.length ic] 46)
      have hX := Box4.new wr t.m cA t.cols.length cc t.key iA t.idx.length ic 46
      have HNa := Lib.hid (HN.out.below ha)
      have HRa := Lib.hid (HRr.out.below ha)
      have HSa := Lib.hid (HS.out.below ha)
      have HBa := Lib.hid (thn HB.out ha)
      obtain ⟨x0, x1, x2, x3⟩ := hX
      obtain ⟨n0, nf⟩ := HNa.out.cells
      have HCA := Lib.hid (HCP.out _ (thn ha (Below.refl _ _).drew))
      have hws : w.heap.size + 1 + 1 < wr.heap.size := HN.out.lt
      clear ha HCP HN HRr HS HB
      generalize wr.alloc (.cells #[.string t.m, .slice cA t.cols.length cc, .int .i64 t.key, .slice iA t.idx.length ic] 46) = wa at *
      have hsz : w.heap.size + 1 + 1 < wa.heap.size := HNa.out.lt
      go_region_law (first
        | (refine step_append_own rfl (.tmp 14) (.tmp 17) 33 rfl (w.heap.size + 3) 46 i0 (.agg #[.string ⟨#[]⟩, .slice none 0 0, .int .i64 0, .slice none 0 0]) 4 72 Tryz.underlying33 hi0 hz0 hz1 hz2 rfl (by decide) v xs.length (xs.flatMap trC) rfl HSA.out.own ⟨v5.heap.size, 0, none⟩ 1 1 [.string t.m, .slice A5 t.cols.length c5, .int .i64 t.key, .slice A6 t.idx.length c6] rfl rfl HNW.out (by simp [Value.oneCell']) (by unfold maxLen; omega) (by omega) HSZ.out ?_; intro v' w2 hown hg; have HN2 := Lib.hid (HNB.out.grown hg (own_ne HSA.out.own HNB.out (by decide))); obtain ⟨z0, zf⟩ := HN2.out.cells; have HMO := Lib.hid (Tbs.more (x := ⟨t, A5, c5, A6, c6⟩) HSA.out HTO.out hown hg); have HR2 := Lib.hid (HRB.out.grown hg (own_ne HSA.out.own HRB.out (by decide))); have HB2 := Lib.hid (HBB.out.grown hg (by have := HBB.out.size; omega) (fun k hk => by have := (HSA.out.own.lt k hk).1; omega)); obtain ⟨A7, n7, c7, rfl⟩ := form_of hown; clear hown hg)
        | (go_simp; go_at_call 19; (with_reducible refine HCA.out.mono ?_); rintro e v5 ⟨A5, c5, A6, c6, rfl, hc5, hx5, hb5⟩; have HAQ := Lib.hid (Apart.more (y := ⟨t, A5, c5, A6, c6⟩) (s := wa.heap.size) HAP.out (fun x hx b hb => ((HSa.out.tabs x hx).x.lt b hb).2) (fun b hb => (hx5.lt b hb).1)); have h5 := thn HBa.out.drew hb5; have h6 := below1 v5 (.cells #[.string t.m, .slice A5 t.cols.length c5, .int .i64 t.key, .slice A6 t.idx.length c6] 46); have HSA := Lib.hid (((HSa.out.below (Below.refl _ _).drew).below hb5).below h6); have HNW := Lib.hid (news_new0 v5 #[.string t.m, .slice A5 t.cols.length c5, .int .i64 t.key, .slice A6 t.idx.length c6] 46 _ rfl); have HNB := Lib.hid (((HNa.out.below (Below.refl _ _).drew).below hb5).below h6); have HRB := Lib.hid (((HRa.out.below (Below.refl _ _).drew).below hb5).below h6); have HBB := Lib.hid (thn h5 h6); have HTO : Hid (TrO (v5.alloc (.cells #[.string t.m, .slice A5 t.cols.length c5, .int .i64 t.key, .slice A6 t.idx.length c6] 46)) (w.heap.size + 3) ⟨t, A5, c5, A6, c6⟩) := Lib.hid (TrO.below (w := v5) ⟨own_le hc5 (by have : wa.drew.heap.size = wa.heap.size := rfl; omega), own_le hx5 (by have : wa.drew.heap.size = wa.heap.size := rfl; omega)⟩ h6); have HSZ := Lib.hid (show w.heap.size + 3 ≤ (v5.alloc (.cells #[.string t.m, .slice A5 t.cols.length c5, .int .i64 t.key, .slice A6 t.idx.length c6] 46)).heap.size by have h7 : wa.heap.size ≤ v5.heap.size := hb5.size; simp; omega); obtain ⟨n1, nf1⟩ := ((HNa.out.below (Below.refl _ _).drew).below hb5).cells; obtain ⟨n2, nf2⟩ := HNB.out.cells; clear hc5 hx5 hb5 h5 h6))
      all_goals
        have HN9 := Lib.hid (HN2.out.set (.slice A7 n7 c7))
        have HR9 := Lib.hid (HR2.out.other ⟨w.heap.size + 1 + 1, 0, none⟩ (by simp) (.slice A7 n7 c7))
        have HM9 := Lib.hid (HMO.out.kept (grown_setCell w2 (w.heap.size + 1 + 1) 0 (.slice A7 n7 c7)) HN2.out (by decide) (by decide) (by decide))
        have HB9 := Lib.hid (below_set HB2.out ⟨w.heap.size + 1 + 1, 0, none⟩ (by simp; omega) (.slice A7 n7 c7))
        have hx9 : (xs ++ [(⟨t, A5, c5, A6, c6⟩ : Tr)]).map Tr.t = ls.take (j + 1) := by rw [HTK.out, List.map_append, HXS.out]; rfl
        have HX9 := Lib.hid hx9
        clear HN2 HR2 HMO HB2 hx9
        go_wp2
        go_roundw
        case rel => exact ⟨j + 1, _, xs ++ [(⟨t, A5, c5, A6, c6⟩ : Tr)], by go_num, hlt, HX9.out, HR9.out, HN9.out, HM9.out, HAQ.out, HB9.out⟩
        case measure => simp [intOf]; omega
    · obtain rfl : j = ls.length := by omega
      obtain ⟨A9, n9, c9, rfl⟩ := form_of HS.out.own
      obtain ⟨n0, nf⟩ := HN.out.cells
      obtain ⟨r0, rf⟩ := HRr.out.cells
      obtain ⟨r1, rf1⟩ := (HRr.out.set (.slice A9 n9 c9)).cells
      have HM9 := Lib.hid (HS.out.kept (grown_setCell wr (w.heap.size + 1) 0 (.slice A9 n9 c9)) HRr.out (by decide) (by decide) (by decide))
      have HB9 := Lib.hid (below_set HB.out ⟨w.heap.size + 1, 0, none⟩ (by simp) (.slice A9 n9 c9))
      have hx9 : xs.map Tr.t = ls := by rw [HXS.out, List.take_length]
      have HX9 := Lib.hid hx9
      clear hx9
      go_wp2
      exact bodyPost_ret (v := .agg #[.slice A9 n9 c9]) (by simp [results, Tryz.results21, go_sem, r1]) rfl ⟨.slice A9 n9 c9, xs, rfl, HM9.out.le (by omega), HAP.out, HX9.out, HB9.out⟩
end Go.Proofs.YtipcacplphidhaaGreat
/- What is asked of a statement and a catalog ahead of a change: the walk of asked. Conditions: a statement and tables that are read in memory. -/
namespace Go.Proofs.YtipcacplphidhaaGreat
open Go.RowKit Go.Sort Go.Maps
set_option linter.unusedSimpArgs false
set_option linter.unusedVariables false

/-- A statement's column as a table's. -/
def clOf (x : Sy.Cl) : Cl := ⟨x.m, x.k, x.nn⟩
theorem rdC_of {w : World} {A : Option Addr} {c : Nat} {l : List Sy.Cl} (h : Sy.RdK Sy.KC Sy.Any w A c l) : RdC w A (l.map clOf) := fun hl => by
  have h0 : 0 < l.length := by
    rcases Nat.eq_zero_or_pos l.length with h | h
    · rw [List.eq_nil_of_length_eq_zero h] at hl; exact absurd rfl hl
    · exact h
  obtain ⟨ad, e, _⟩ := h.col h0
  subst e
  refine ⟨ad, rfl, fun j x hj => ?_⟩
  rw [List.getElem?_map] at hj
  obtain ⟨y, hy, rfl⟩ := Option.map_eq_some_iff.1 hj
  obtain ⟨hjl, e⟩ := List.getElem?_eq_some_iff.1 hy
  obtain ⟨ad', e', c0, c1, c2⟩ := h.col hjl
  injection e' with e'
  subst e' e
  exact ⟨c0, c1, c2⟩
/-- What asked answers. -/
def askF {n : Nat} (ls : List Tb) (x : Sy.St n) (kind : Int) : Int := if catB ls = false then 9 else if x.kind ≠ kind then 1 else if Sy.chkSt x ≠ 0 then 1 else 0
theorem below_box {w w' : World} {o : Obj} (h : Below (w.alloc o).heap.size (w.alloc o) w') : Below w.heap.size w w' := (below1 w o).trans (h.mono (by simp))
theorem stmt_row {n : Nat} (x : Sy.St n) (h : Sy.Hs) (w : World) {w' : World} {b : Nat} (hb0 : b = w.heap.size) (hb : Below (w.alloc (.cells (x.cs h) 31)).heap.size (w.alloc (.cells (x.cs h) 31)) w') : w'.heap[b]? = some (.cells (x.cs h) 31 (0, 0)) := by
  subst hb0
  rw [hb.block _ (by simp), heap_alloc_new]

set_option maxRecDepth 100000 in
set_option maxHeartbeats 4000000 in
theorem asked_any {n : Nat} (A : Option Addr) (c : Nat) (ls : List Tb) (x : Sy.St n) (h : Sy.Hs) (kind : Int) (w : World) (hr : RdS w A ls) (hn : ls.length ≤ 9223372036854775807) (hx : Sy.RdSt Sy.Any w x h) :
    Calls Tryz.prog 15 #[.agg #[.slice A ls.length c], x.val h, .int .i64 kind] w fun e w' => e = .returned (.int .i64 (askF ls x kind)) ∧ Below w.heap.size w w' := by
  have hb1 := below1 w (.cells #[.slice A ls.length c] 35)
  have hb2 := below1 (w.alloc (.cells #[.slice A ls.length c] 35)) (.cells (x.cs h) 31)
  have HB2 := Lib.hid (thn hb1 hb2)
  have s0 := (hb2.cell (p := ⟨w.heap.size, 0, none⟩) (by simp)).trans (cell_of_box (w := w) (v := .slice A ls.length c) (T := 35) rfl (Below.refl _ _))
  have hC := cCheck_any6 A ls.length c ls ((w.alloc (.cells #[.slice A ls.length c] 35)).alloc (.cells (x.cs h) 31)) rfl (hr.below HB2.out) hn
  have HK := Lib.hid fun (W : World) (hb : Below w.heap.size w W) => Sy.sCheck_any x h W (hx.below hb)
  have HST := Lib.hid fun (W : World) hb => stmt_row x h (w.alloc (.cells #[.slice A ls.length c] 35)) (w' := W) (b := w.heap.size + 1) (by simp) hb
  have HC := Lib.hid hC
  unfold askF
  generalize catB ls = K at HC ⊢
  generalize Sy.chkSt x = E at HK ⊢
  clear hr hx hC hb1 hb2
  obtain ⟨kd, tb, cols, key, ix, rows, sets, items, jn, on, wh, gr, ord, lim⟩ := x
  obtain ⟨⟨aC, cC⟩, ⟨aR, cR⟩, ⟨aS, cS⟩, ⟨aI, cI⟩, ⟨aO, cO⟩, ⟨aW, cW⟩, ⟨aG, cG⟩, ⟨aD, cD⟩⟩ := h
  dsimp only [Sy.St.cs, Sy.St.val] at *
  cases K
  · go_enter Tryz.func15, Tryz.ntmps15
    go_wp2_with (go_at_call 29; (with_reducible refine HC.out.mono ?_); rintro e w1 ⟨rfl, hb⟩; have HB := Lib.hid (thn HB2.out hb); clear hb)
    go_ret
    exact ⟨rfl, HB.out⟩
  · by_cases hk : kd = kind
    · subst hk
      by_cases he : E = 0
      · subst he
        go_enter Tryz.func15, Tryz.ntmps15
        go_wp2_with (first
          | (go_at_call 29; (with_reducible refine HC.out.mono ?_); rintro e w1 ⟨rfl, hb⟩; have HB := Lib.hid (thn HB2.out hb); obtain ⟨y0, y1, y2, y3, y4, y5, y6, y7, y8, y9, y10, y11, y12, y13⟩ := Sy.cells14 (HST.out _ hb); clear hb)
          | (go_at_call 30; (with_reducible refine (HK.out _ HB.out).mono ?_); rintro e w2 ⟨rfl, hb⟩; have HB3 := Lib.hid (thn HB.out hb); clear hb))
        go_ret
        exact ⟨by simp, HB3.out⟩
      · go_enter Tryz.func15, Tryz.ntmps15
        go_wp2_with (first
          | (go_at_call 29; (with_reducible refine HC.out.mono ?_); rintro e w1 ⟨rfl, hb⟩; have HB := Lib.hid (thn HB2.out hb); obtain ⟨y0, y1, y2, y3, y4, y5, y6, y7, y8, y9, y10, y11, y12, y13⟩ := Sy.cells14 (HST.out _ hb); clear hb)
          | (go_at_call 30; (with_reducible refine (HK.out _ HB.out).mono ?_); rintro e w2 ⟨rfl, hb⟩; have HB3 := Lib.hid (thn HB.out hb); clear hb))
        go_ret
        exact ⟨by simp [he], HB3.out⟩
    · go_enter Tryz.func15, Tryz.ntmps15
      go_wp2_with (go_at_call 29; (with_reducible refine HC.out.mono ?_); rintro e w1 ⟨rfl, hb⟩; have HB := Lib.hid (thn HB2.out hb); obtain ⟨y0, y1, y2, y3, y4, y5, y6, y7, y8, y9, y10, y11, y12, y13⟩ := Sy.cells14 (HST.out _ hb); clear hb)
      go_ret
      exact ⟨by simp [hk], HB.out⟩
end Go.Proofs.YtipcacplphidhaaGreat
namespace Go.Proofs.YtipcacplphidhaaGreat
open Go.RowKit Go.Sort Go.Maps
set_option linter.unusedSimpArgs false
set_option linter.unusedVariables false

theorem hasNm_one {s : ByteArray} (h : Sy.hasNm 1 1 s = true) : nameB s = true := by
  unfold Sy.hasNm at h
  split at h
  · exact absurd h (by decide)
  · rw [Bool.and_eq_true] at h
    exact h.2
/-- What is so of a statement that makes a table. -/
structure Mk1 {n : Nat} (x : Sy.St n) : Prop where
  tb : nameB x.tb = true
  key : nameB x.key = true
  few : x.cols.length ≤ 8
  one : 1 ≤ x.cols.length
  cols : ∀ c ∈ x.cols, nameB c.m = true ∧ 1 ≤ c.k ∧ c.k ≤ 3
theorem chkSt_formed {n : Nat} {x : Sy.St n} (h : Sy.chkSt x = 0) : Sy.formedB x = true := by
  unfold Sy.chkSt at h
  split at h
  · cases h
  · split at h
    · cases h
    · rename_i h1
      simpa using h1
theorem formed_parts {n : Nat} {x : Sy.St n} (h : Sy.formedB x = true) : Sy.namedB x.kind.toNat x = true ∧ Sy.countedB x.kind.toNat x = true ∧ x.cols.all Sy.colB = true := by
  unfold Sy.formedB at h
  simp only [Bool.and_eq_true] at h
  exact ⟨h.1.1.1.1.1, h.1.1.1.1.2, h.1.1.1.2⟩
theorem mk1_of {n : Nat} {x : Sy.St n} (hk : x.kind = 1) (h : Sy.chkSt x = 0) : Mk1 x := by
  obtain ⟨h1, h2, h3⟩ := formed_parts (chkSt_formed h)
  rw [hk] at h1 h2
  simp only [Sy.namedB, Bool.and_eq_true] at h1
  simp only [Sy.countedB, Bool.and_eq_true] at h2
  have h4 : Sy.spB 1 8 x.cols.length = true := h2.1.1.1.1.1.1.1.1
  unfold Sy.spB at h4
  simp only [Bool.and_eq_true, decide_eq_true_eq] at h4
  refine ⟨hasNm_one h1.1.1.1, hasNm_one h1.1.1.2, by omega, by omega, fun c hc => ?_⟩
  have h5 := List.all_eq_true.1 h3 c hc
  unfold Sy.colB Sy.spB at h5
  simp only [Bool.and_eq_true, decide_eq_true_eq] at h5
  exact ⟨h5.1, h5.2.1, h5.2.2⟩
/-- The columns of a statement, one of them the key. -/
def keyed (l : List Cl) (i : Nat) : List Cl := match l[i]? with
  | some x => l.set i ⟨x.m, x.k, true⟩
  | none => l
/-- The table that a statement makes. -/
def mkT {n : Nat} (x : Sy.St n) : Tb := ⟨x.tb, keyed (x.cols.map clOf) (fst1 (isC x.key) (x.cols.map clOf)).toNat, fst1 (isC x.key) (x.cols.map clOf), []⟩
def insT (ls : List Tb) (i : Nat) (t : Tb) : List Tb := ls.take i ++ t :: ls.drop i
/-- What Create makes. -/
def creF {n : Nat} (ls : List Tb) (x : Sy.St n) : Int × List Tb :=
  if askF ls x 1 ≠ 0 then (askF ls x 1, []) else
  if isT ls x.tb = true then (6, []) else
  if newB [] ((x.cols.map clOf).map Cl.m) = false then (6, []) else
  if (x.cols.map clOf).any (isC x.key) = false then (94, []) else
  if ls.length = 8 then (51, []) else (0, insT ls (posT ls x.tb) (mkT x))
/-- What a change comes to. -/
def ChgPost (w : World) (R : Int × List Tb) (e : Ending) (w' : World) : Prop :=
  (R.1 ≠ 0 → e = .returned (.tuple #[.agg #[.slice none 0 0], .int .i64 R.1])) ∧ (R.1 = 0 → ∃ v xs, e = .returned (.tuple #[.agg #[v], .int .i64 0]) ∧ Tbs w' w.heap.size v xs ∧ xs.map Tr.t = R.2) ∧ Below w.heap.size w w'
theorem askF_zero {n : Nat} {ls : List Tb} {x : Sy.St n} {kind : Int} (h : askF ls x kind = 0) : catB ls = true ∧ x.kind = kind ∧ Sy.chkSt x = 0 := by
  unfold askF at h
  split at h
  · cases h
  · rename_i h1
    split at h
    · cases h
    · rename_i h2
      split at h
      · cases h
      · rename_i h3
        exact ⟨by simpa using h1, by simpa using h2, by simpa using h3⟩
theorem keyed_some {l : List Cl} {i : Nat} (hi : i < l.length) : keyed l i = l.set i ⟨l[i].m, l[i].k, true⟩ := by
  unfold keyed
  rw [List.getElem?_eq_getElem hi]
theorem keyed_len (l : List Cl) (i : Nat) : (keyed l i).length = l.length := by
  unfold keyed
  split <;> simp
theorem row_below {w w' : World} {b : Nat} {o : Obj} (h : w.heap[b]? = some o) (hb : Below w.heap.size w w') : w'.heap[b]? = some o := by
  rw [hb.block b (Array.getElem?_eq_some_iff.1 h).1]; exact h
theorem row_other {w : World} {b : Nat} {o : Obj} (h : w.heap[b]? = some o) (p : Addr) (hp : b ≠ p.block) (u : Value) : (w.setCell p u).heap[b]? = some o := by
  rw [heap_setCell_other w p b u hp]; exact h
/-- slices.Insert of one table into tables of the call's own. -/
def InsOk (n : Nat) : Prop := ∀ (W : World) (B i : Nat) (v : Value) (xs : List Tr) (y : Tr) (p : Nat), xs.length = n → i ≤ n → Tbs W B v xs → TrO W B y → B ≤ W.heap.size → W.heap[p]? = some (.cells (trC y).toArray 46 (0, 0)) → v.ownBlock ≠ some p →
  Calls Tryz.prog 22 #[v, .int .i64 i, .slice (some ⟨p, 0, none⟩) 1 1] W fun e w' => ∃ v', e = .returned v' ∧ Tbs w' B v' (xs.take i ++ y :: xs.drop i) ∧ W.grownBy w' v.ownBlock
end Go.Proofs.YtipcacplphidhaaGreat
