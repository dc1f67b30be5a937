/- What Create makes of a catalog: plain mathematics; a statement that makes a table. Conditions: none. -/
import Derived.Test.YtddeaiciochggaaNk
import Derived.Test.YtddeaiciochggaaCc
/- What is asked of a statement and a catalog ahead of a change: the walk of asked. Conditions: a statement and tables that are read in memory. -/
namespace Go.Proofs.Ytddeaiciochggaa
open Go.RowKit Go.Sort Go.Maps
set_option linter.unusedSimpArgs false
set_option linter.unusedVariables false

/-- A statement's column as a table's. -/
def clOf (x : Sy.Cl) : Cl := ⟨x.m, x.k, x.nn⟩
theorem rdC_of {w : World} {A : Option Addr} {c : Nat} {l : List Sy.Cl} (h : Sy.RdK Sy.KC Sy.Any w A c l) : RdC w A (l.map clOf) := fun hl => by
  have h0 : 0 < l.length := by
    rcases Nat.eq_zero_or_pos l.length with h | h
    · rw [List.eq_nil_of_length_eq_zero h] at hl; exact absurd rfl hl
    · exact h
  obtain ⟨ad, e, _⟩ := h.col h0
  subst e
  refine ⟨ad, rfl, fun j x hj => ?_⟩
  rw [List.getElem?_map] at hj
  obtain ⟨y, hy, rfl⟩ := Option.map_eq_some_iff.1 hj
  obtain ⟨hjl, e⟩ := List.getElem?_eq_some_iff.1 hy
  obtain ⟨ad', e', c0, c1, c2⟩ := h.col hjl
  injection e' with e'
  subst e' e
  exact ⟨c0, c1, c2⟩
/-- What asked answers. -/
def askF {n : Nat} (ls : List Tb) (x : Sy.St n) (kind : Int) : Int := if catB ls = false then 9 else if x.kind ≠ kind then 1 else if Sy.chkSt x ≠ 0 then 1 else 0
theorem below_box {w w' : World} {o : Obj} (h : Below (w.alloc o).heap.size (w.alloc o) w') : Below w.heap.size w w' := (below1 w o).trans (h.mono (by simp))
theorem stmt_row {n : Nat} (x : Sy.St n) (h : Sy.Hs) (w : World) {w' : World} {b : Nat} (hb0 : b = w.heap.size) (hb : Below (w.alloc (.cells (x.cs h) 31)).heap.size (w.alloc (.cells (x.cs h) 31)) w') : w'.heap[b]? = some (.cells (x.cs h) 31 (0, 0)) := by
  subst hb0
  rw [hb.block _ (by simp), heap_alloc_new]

set_option maxRecDepth 100000 in
set_option maxHeartbeats 4000000 in
theorem asked_any {n : Nat} (A : Option Addr) (c : Nat) (ls : List Tb) (x : Sy.St n) (h : Sy.Hs) (kind : Int) (w : World) (hr : RdS w A ls) (hn : ls.length ≤ 9223372036854775807) (hx : Sy.RdSt Sy.Any w x h) :
    Calls Try.prog 20 #[.agg #[.slice A ls.length c], x.val h, .int .i64 kind] w fun e w' => e = .returned (.int .i64 (askF ls x kind)) ∧ Below w.heap.size w w' := by
  have hb1 := below1 w (.cells #[.slice A ls.length c] 35)
  have hb2 := below1 (w.alloc (.cells #[.slice A ls.length c] 35)) (.cells (x.cs h) 31)
  have HB2 := Lib.hid (thn hb1 hb2)
  have s0 := (hb2.cell (p := ⟨w.heap.size, 0, none⟩) (by simp)).trans (cell_of_box (w := w) (v := .slice A ls.length c) (T := 35) rfl (Below.refl _ _))
  have hC := cCheck_any6 A ls.length c ls ((w.alloc (.cells #[.slice A ls.length c] 35)).alloc (.cells (x.cs h) 31)) rfl (hr.below HB2.out) hn
  have HK := Lib.hid fun (W : World) (hb : Below w.heap.size w W) => Sy.sCheck_any x h W (hx.below hb)
  have HST := Lib.hid fun (W : World) hb => stmt_row x h (w.alloc (.cells #[.slice A ls.length c] 35)) (w' := W) (b := w.heap.size + 1) (by simp) hb
  have HC := Lib.hid hC
  unfold askF
  generalize catB ls = K at HC ⊢
  generalize Sy.chkSt x = E at HK ⊢
  clear hr hx hC hb1 hb2
  obtain ⟨kd, tb, cols, key, ix, rows, sets, items, jn, on, wh, gr, ord, lim⟩ := x
  obtain ⟨⟨aC, cC⟩, ⟨aR, cR⟩, ⟨aS, cS⟩, ⟨aI, cI⟩, ⟨aO, cO⟩, ⟨aW, cW⟩, ⟨aG, cG⟩, ⟨aD, cD⟩⟩ := h
  dsimp only [Sy.St.cs, Sy.St.val] at *
  cases K
  · go_enter Try.func20, Try.ntmps20
    go_wp2_with (go_at_call 12; (with_reducible refine HC.out.mono ?_); rintro e w1 ⟨rfl, hb⟩; have HB := Lib.hid (thn HB2.out hb); clear hb)
    go_ret
    exact ⟨rfl, HB.out⟩
  · by_cases hk : kd = kind
    · subst hk
      by_cases he : E = 0
      · subst he
        go_enter Try.func20, Try.ntmps20
        go_wp2_with (first
          | (go_at_call 12; (with_reducible refine HC.out.mono ?_); rintro e w1 ⟨rfl, hb⟩; have HB := Lib.hid (thn HB2.out hb); obtain ⟨y0, y1, y2, y3, y4, y5, y6, y7, y8, y9, y10, y11, y12, y13⟩ := Sy.cells14 (HST.out _ hb); clear hb)
          | (go_at_call 44; (with_reducible refine (HK.out _ HB.out).mono ?_); rintro e w2 ⟨rfl, hb⟩; have HB3 := Lib.hid (thn HB.out hb); clear hb))
        go_ret
        exact ⟨by simp, HB3.out⟩
      · go_enter Try.func20, Try.ntmps20
        go_wp2_with (first
          | (go_at_call 12; (with_reducible refine HC.out.mono ?_); rintro e w1 ⟨rfl, hb⟩; have HB := Lib.hid (thn HB2.out hb); obtain ⟨y0, y1, y2, y3, y4, y5, y6, y7, y8, y9, y10, y11, y12, y13⟩ := Sy.cells14 (HST.out _ hb); clear hb)
          | (go_at_call 44; (with_reducible refine (HK.out _ HB.out).mono ?_); rintro e w2 ⟨rfl, hb⟩; have HB3 := Lib.hid (thn HB.out hb); clear hb))
        go_ret
        exact ⟨by simp [he], HB3.out⟩
    · go_enter Try.func20, Try.ntmps20
      go_wp2_with (go_at_call 12; (with_reducible refine HC.out.mono ?_); rintro e w1 ⟨rfl, hb⟩; have HB := Lib.hid (thn HB2.out hb); obtain ⟨y0, y1, y2, y3, y4, y5, y6, y7, y8, y9, y10, y11, y12, y13⟩ := Sy.cells14 (HST.out _ hb); clear hb)
      go_ret
      exact ⟨by simp [hk], HB.out⟩
end Go.Proofs.Ytddeaiciochggaa
namespace Go.Proofs.Ytddeaiciochggaa
open Go.RowKit Go.Sort Go.Maps
set_option linter.unusedSimpArgs false
set_option linter.unusedVariables false

theorem hasNm_one {s : ByteArray} (h : Sy.hasNm 1 1 s = true) : nameB s = true := by
  unfold Sy.hasNm at h
  split at h
  · exact absurd h (by decide)
  · rw [Bool.and_eq_true] at h
    exact h.2
/-- What is so of a statement that makes a table. -/
structure Mk1 {n : Nat} (x : Sy.St n) : Prop where
  tb : nameB x.tb = true
  key : nameB x.key = true
  few : x.cols.length ≤ 8
  one : 1 ≤ x.cols.length
  cols : ∀ c ∈ x.cols, nameB c.m = true ∧ 1 ≤ c.k ∧ c.k ≤ 3
theorem chkSt_formed {n : Nat} {x : Sy.St n} (h : Sy.chkSt x = 0) : Sy.formedB x = true := by
  unfold Sy.chkSt at h
  split at h
  · cases h
  · split at h
    · cases h
    · rename_i h1
      simpa using h1
theorem formed_parts {n : Nat} {x : Sy.St n} (h : Sy.formedB x = true) : Sy.namedB x.kind.toNat x = true ∧ Sy.countedB x.kind.toNat x = true ∧ x.cols.all Sy.colB = true := by
  unfold Sy.formedB at h
  simp only [Bool.and_eq_true] at h
  exact ⟨h.1.1.1.1.1, h.1.1.1.1.2, h.1.1.1.2⟩
theorem mk1_of {n : Nat} {x : Sy.St n} (hk : x.kind = 1) (h : Sy.chkSt x = 0) : Mk1 x := by
  obtain ⟨h1, h2, h3⟩ := formed_parts (chkSt_formed h)
  rw [hk] at h1 h2
  simp only [Sy.namedB, Bool.and_eq_true] at h1
  simp only [Sy.countedB, Bool.and_eq_true] at h2
  have h4 : Sy.spB 1 8 x.cols.length = true := h2.1.1.1.1.1.1.1.1
  unfold Sy.spB at h4
  simp only [Bool.and_eq_true, decide_eq_true_eq] at h4
  refine ⟨hasNm_one h1.1.1.1, hasNm_one h1.1.1.2, by omega, by omega, fun c hc => ?_⟩
  have h5 := List.all_eq_true.1 h3 c hc
  unfold Sy.colB Sy.spB at h5
  simp only [Bool.and_eq_true, decide_eq_true_eq] at h5
  exact ⟨h5.1, h5.2.1, h5.2.2⟩
/-- The columns of a statement, one of them the key. -/
def keyed (l : List Cl) (i : Nat) : List Cl := match l[i]? with
  | some x => l.set i ⟨x.m, x.k, true⟩
  | none => l
/-- The table that a statement makes. -/
def mkT {n : Nat} (x : Sy.St n) : Tb := ⟨x.tb, keyed (x.cols.map clOf) (fst1 (isC x.key) (x.cols.map clOf)).toNat, fst1 (isC x.key) (x.cols.map clOf), []⟩
def insT (ls : List Tb) (i : Nat) (t : Tb) : List Tb := ls.take i ++ t :: ls.drop i
/-- What Create makes. -/
def creF {n : Nat} (ls : List Tb) (x : Sy.St n) : Int × List Tb :=
  if askF ls x 1 ≠ 0 then (askF ls x 1, []) else
  if isT ls x.tb = true then (6, []) else
  if newB [] ((x.cols.map clOf).map Cl.m) = false then (6, []) else
  if (x.cols.map clOf).any (isC x.key) = false then (94, []) else
  if ls.length = 8 then (51, []) else (0, insT ls (posT ls x.tb) (mkT x))
/-- What a change comes to. -/
def ChgPost (w : World) (R : Int × List Tb) (e : Ending) (w' : World) : Prop :=
  (R.1 ≠ 0 → e = .returned (.tuple #[.agg #[.slice none 0 0], .int .i64 R.1])) ∧ (R.1 = 0 → ∃ v xs, e = .returned (.tuple #[.agg #[v], .int .i64 0]) ∧ Tbs w' w.heap.size v xs ∧ xs.map Tr.t = R.2) ∧ Below w.heap.size w w'
theorem askF_zero {n : Nat} {ls : List Tb} {x : Sy.St n} {kind : Int} (h : askF ls x kind = 0) : catB ls = true ∧ x.kind = kind ∧ Sy.chkSt x = 0 := by
  unfold askF at h
  split at h
  · cases h
  · rename_i h1
    split at h
    · cases h
    · rename_i h2
      split at h
      · cases h
      · rename_i h3
        exact ⟨by simpa using h1, by simpa using h2, by simpa using h3⟩
theorem keyed_some {l : List Cl} {i : Nat} (hi : i < l.length) : keyed l i = l.set i ⟨l[i].m, l[i].k, true⟩ := by
  unfold keyed
  rw [List.getElem?_eq_getElem hi]
theorem keyed_len (l : List Cl) (i : Nat) : (keyed l i).length = l.length := by
  unfold keyed
  split <;> simp
theorem row_below {w w' : World} {b : Nat} {o : Obj} (h : w.heap[b]? = some o) (hb : Below w.heap.size w w') : w'.heap[b]? = some o := by
  rw [hb.block b (Array.getElem?_eq_some_iff.1 h).1]; exact h
theorem row_other {w : World} {b : Nat} {o : Obj} (h : w.heap[b]? = some o) (p : Addr) (hp : b ≠ p.block) (u : Value) : (w.setCell p u).heap[b]? = some o := by
  rw [heap_setCell_other w p b u hp]; exact h
/-- slices.Insert of one table into tables of the call's own. -/
def InsOk (n : Nat) : Prop := ∀ (W : World) (B i : Nat) (v : Value) (xs : List Tr) (y : Tr) (p : Nat), xs.length = n → i ≤ n → Tbs W B v xs → TrO W B y → B ≤ W.heap.size → W.heap[p]? = some (.cells (trC y).toArray 47 (0, 0)) → v.ownBlock ≠ some p →
  Calls Try.prog 27 #[v, .int .i64 i, .slice (some ⟨p, 0, none⟩) 1 1] W fun e w' => ∃ v', e = .returned v' ∧ Tbs w' B v' (xs.take i ++ y :: xs.drop i) ∧ W.grownBy w' v.ownBlock
end Go.Proofs.Ytddeaiciochggaa
