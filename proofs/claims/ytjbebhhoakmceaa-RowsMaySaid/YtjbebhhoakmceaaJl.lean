/- What rows' fresh makes of a list of rows: the walk. Conditions: a list that is read in memory, of at most 256 rows. -/
import Derived.Test.YtjbebhhoakmceaaJk
namespace Go.Proofs.Ytjbebhhoakmceaa
open Go.RowKit Go.Sort
set_option linter.unusedSimpArgs false
set_option linter.unusedVariables false

/-- Rows in memory of their own, all of it behind B. -/
structure Frs (w : World) (B : Nat) (v : Value) (cs : List Value) (ls : List (List Vl)) : Prop where
  own : Own w B v cs
  len : cs.length = ls.length
  rows : ∀ (j : Nat) (u : Value) (r : List Vl), cs[j]? = some u → ls[j]? = some r → OwnV w B u r
theorem Frs.below {w w' : World} {B : Nat} {v : Value} {cs : List Value} {ls : List (List Vl)} (h : Frs w B v cs ls) (hb : Below w.heap.size w w') : Frs w' B v cs ls :=
  ⟨own_below h.own hb, h.len, fun j u r hu hr => own_below (h.rows j u r hu hr) hb⟩
/-- A row more. -/
theorem Frs.more {w w' : World} {B : Nat} {v v' u : Value} {cs : List Value} {ls : List (List Vl)} {r : List Vl} (h : Frs w B v cs ls) (hu : OwnV w B u r) (ho : Own w' B v' (cs ++ [u])) (hg : w.grownBy w' v.ownBlock) : Frs w' B v' (cs ++ [u]) (ls ++ [r]) := by
  have hk : ∀ (x : Value) (q : List Vl), OwnV w B x q → OwnV w' B x q := fun x q hx => by
    refine hx.kept hg ?_
    cases hb : v.ownBlock with
    | none => cases hx' : x.ownBlock <;> simp
    | some b =>
      obtain ⟨c, fz, hc⟩ := Lib.ownsRow_kind h.own b hb
      rcases hx.2 with ⟨rfl, _⟩ | ⟨g, cap, cur, rfl, _, hg2, _⟩
      · exact .inl rfl
      · refine .inr fun e => ?_
        have e' : g = b := by simpa [Value.ownBlock] using e
        subst e'
        rw [hg2] at hc
        injection hc with hc
        injection hc with _ hc
        exact absurd hc (by decide)
  refine ⟨ho, by simp [h.len], fun j x q h1 h2 => ?_⟩
  rcases Nat.lt_or_ge j cs.length with hj | hj
  · rw [List.getElem?_append_left hj] at h1
    rw [List.getElem?_append_left (by rw [← h.len]; exact hj)] at h2
    exact hk _ _ (h.rows j x q h1 h2)
  · rw [List.getElem?_append_right hj] at h1
    rw [List.getElem?_append_right (by rw [← h.len]; exact hj), ← h.len] at h2
    cases hd : j - cs.length with
    | zero =>
      rw [hd] at h1 h2
      simp at h1 h2
      subst h1 h2
      exact hk _ _ hu
    | succ i => rw [hd] at h1; simp at h1
theorem Frs.rd {w : World} {B : Nat} {v : Value} {cs : List Value} {ls : List (List Vl)} (h : Frs w B v cs ls) (hn : ∀ r ∈ ls, r.length * 32 ≤ 140737488355328) : ∃ A c, v = .slice A ls.length c ∧ RdR w A ls ∧ (A = none → ls.length = 0) := by
  rcases h.own.2 with ⟨rfl, h0⟩ | ⟨g, cap, cur, rfl, _⟩
  · have : ls = [] := List.eq_nil_of_length_eq_zero (by rw [← h.len]; exact h0)
    subst this
    exact ⟨none, 0, rfl, fun h => absurd rfl h, fun _ => rfl⟩
  · refine ⟨some ⟨g, 0, none⟩, cap, by rw [h.len], fun _ => ⟨_, rfl, fun j r hj => ?_⟩, (fun e => by cases e)⟩
    have hjl : j < cs.length := by rw [h.len]; exact (List.getElem?_eq_some_iff.1 hj).1
    exact ⟨cs[j], h.own.cells (g := g) rfl j _ (List.getElem?_eq_getElem hjl), (h.rows j _ _ (List.getElem?_eq_getElem hjl) hj).rw (hn _ (List.mem_of_getElem? hj))⟩
theorem ownV_form {w : World} {B : Nat} {v : Value} {r : List Vl} (h : OwnV w B v r) : ∃ A c, v = .slice A r.length c := by
  rcases h.2 with ⟨h1, h0⟩ | ⟨g, cap, cur, h1, _⟩
  · exact ⟨none, 0, by rw [h1, h0]⟩
  · exact ⟨_, _, h1⟩
/-- A value of a row of the call's own: its cells. -/
theorem OwnV.at_ {w : World} {B g cap i : Nat} {r : List Vl} (h : OwnV w B (.slice (some ⟨g, 0, none⟩) r.length cap) r) (hi : i < r.length) :
    w.cell? ⟨g, i * 3, none⟩ = some (.int .i64 r[i].k) ∧ w.cell? ⟨g, i * 3 + 1, none⟩ = some (.int .i64 r[i].n) ∧ w.cell? ⟨g, i * 3 + 2, none⟩ = some (.string r[i].s) ∧ w.frozen? ⟨g, i * 3 + 2, none⟩ = false := by
  have e := List.getElem?_eq_getElem hi
  exact ⟨(h.cellAt (i * 3 + 0) (by omega)).trans (flat_get r i 0 _ e (by omega)), (h.cellAt (i * 3 + 1) (by omega)).trans (flat_get r i 1 _ e (by omega)), (h.cellAt (i * 3 + 2) (by omega)).trans (flat_get r i 2 _ e (by omega)), h.frozenAt _⟩
theorem vClone_any (A : Option Addr) (n c : Nat) (r : List Vl) (w : World) (hl : n = r.length) (hr : RdL w A r) (hA : A = none → r.length = 0) (hn : r.length * 32 ≤ 140737488355328) :
    Calls Try.prog 36 #[.slice A n c] w fun e w' => ∃ v, e = .returned v ∧ OwnV w' w.heap.size v r ∧ Below w.heap.size w w' := by
  subst hl
  cases A with
  | none =>
    have h0 := hA rfl
    have : r = [] := List.eq_nil_of_length_eq_zero h0
    subst this
    exact (lClone_nil 0 c w).mono fun e w' ⟨h1, h2⟩ => ⟨_, h1, World.ownsRow_nil _ _ _ _, h2 ▸ Below.refl _ _⟩
  | some ad => exact (lClone_some ad r.length c r w rfl hr hn).mono fun e w' ⟨v, h1, h2, h3⟩ => ⟨v, h1, h2, h3⟩

set_option maxRecDepth 100000 in
set_option maxHeartbeats 4000000 in
theorem fresh_any (A : Option Addr) (n c : Nat) (ls : List (List Vl)) (w : World) (hl : n = ls.length) (hr : RdR w A ls) (hn : ls.length ≤ 256) :
    Calls Try.prog 27 #[.slice A n c] w fun e w' => ∃ v cs, e = .returned v ∧ Frs w' w.heap.size v cs ls ∧ Below w.heap.size w w' := by
  subst hl
  obtain ⟨i0, hi, hz0, hz1, hz2⟩ := info_parts Try.infoR
  have HR := Lib.hid hr
  clear hr
  go_enter Try.func27, Try.ntmps27
  go_wp2
  go_loopw [3, 5, 6, 7, 10] (fun v _ _ _ i wr => ∃ (j : Nat) (cs : List Value), i = .int .i64 j ∧ j ≤ ls.length ∧ Frs wr w.heap.size v cs (ls.take j) ∧ Below w.heap.size w wr) (fun _ _ _ _ i _ => ls.length - (intOf i).toNat)
  case atStart => exact ⟨0, [], rfl, by omega, ⟨World.ownsRow_nil _ _ _ _, by simp, fun j u r h => by simp at h⟩, Below.refl _ _⟩
  case round =>
    obtain ⟨j, cs, rfl, hj, hF, hB⟩ := hrel
    have HF := Lib.hid hF
    have HB := Lib.hid hB
    clear hF hB
    by_cases hlt : j < ls.length
    · obtain ⟨ad, rB, rc, rfl, q0, qr, qnil, qn⟩ := (HR.out.below HB.out).at_ hlt
      have hq0 := cell_lt q0
      have htk : ls.take (j + 1) = ls.take j ++ [ls[j]] := List.take_succ_eq_append_getElem hlt
      have HTK := Lib.hid htk
      have hcl := vClone_any rB ls[j].length rc ls[j] wr rfl qr qnil qn
      clear htk qr qnil
      generalize ls[j] = r at q0 qn HTK hcl
      have HCL := Lib.hid hcl
      clear hcl
      go_wp2_with (go_at_call 36; refine HCL.out.mono ?_; rintro e w1 ⟨v1, rfl, ho1, hb1⟩; have HF1 := Lib.hid (HF.out.below hb1); have HO1 := Lib.hid ho1; have HB1 := Lib.hid hb1; obtain ⟨A1, c1, rfl⟩ := ownV_form ho1; clear ho1 hb1)
      generalize wr = W0 at *
      go_loopw [6, 7, 18] (fun _ _ k wq => ∃ i : Nat, k = .int .i64 i ∧ i ≤ r.length ∧ OwnV wq W0.heap.size (.slice A1 r.length c1) r ∧ Below W0.heap.size W0 wq) (fun _ _ k _ => r.length - (intOf k).toNat)
      case atStart => exact ⟨0, rfl, by omega, HO1.out, HB1.out⟩
      case round =>
        obtain ⟨i, rfl, hir, hO, hB⟩ := hrel
        have HO := Lib.hid hO
        have HBQ := Lib.hid hB
        clear hO hB HF1 HO1 HB1
        by_cases hlt2 : i < r.length
        · obtain ⟨g, cap, ef⟩ := Go.Joins.ownsRow_form HO.out (by omega)
          injection ef with ef1 _ ef2
          subst ef1 ef2
          obtain ⟨c0, c1', c2, f2⟩ := HO.out.at_ hlt2
          have hgl := cell_lt c0
          have hsz := r[i].h.2
          have hag := fun (W : World) (h : OwnV W W0.heap.size (.slice (some ⟨g, 0, none⟩) r.length c1) r) => h.again hlt2
          have hat := fun (W : World) (h : OwnV W W0.heap.size (.slice (some ⟨g, 0, none⟩) r.length c1) r) => h.at_ hlt2
          generalize r[i] = V at c0 c1' c2 hsz hag hat
          have HAG := Lib.hid hag
          have HAT := Lib.hid hat
          clear hag hat
          go_wp2_with (go_at_call 37; refine (sClone_any V.s _ hsz).mono ?_; rintro e w3 ⟨rfl, hb⟩; have hb3 := (below1 wr _).trans (hb.mono (by simp)); have HO3 := Lib.hid (own_below HO.out hb3); have HB3 := Lib.hid hb3; obtain ⟨d0, d1, d2, f3⟩ := HAT.out _ HO3.out; clear hb hb3)
          have HO4 := Lib.hid (HAG.out _ HO3.out)
          have HB4 := Lib.hid ((HBQ.out.trans (HB3.out.mono HBQ.out.size)).setCell (p := ⟨g, i * 3 + 2, none⟩) (by have := (HO.out.lt g rfl).1; exact this) (.string V.s))
          go_roundw
          case rel => exact ⟨i + 1, by go_num, hlt2, HO4.out, HB4.out⟩
          case measure => simp [intOf]; omega
        · have HF2 := Lib.hid (HF.out.below HBQ.out)
          have HBW := Lib.hid (HB.out.trans (HBQ.out.mono HB.out.size))
          have hsz := HBW.out.size
          have hjl : cs.length ≤ 255 := by have := HF.out.len; rw [this, List.length_take]; omega
          go_wp2_with (at_builtin; refine wpList_append_own_at _ rfl _ _ 26 rfl w.heap.size 37 i0 (.slice none 0 0) 1 24 Try.underlying26 hi hz0 hz1 hz2 rfl (by decide) _ _ _ rfl (HF2.out.own.alloc _) ⟨wr.heap.size, 0, none⟩ 1 1 [.slice A1 r.length c1] rfl rfl ?c1 ?c2 ?c3 ?c4 ?c5 ?_)
          case c1 =>
            intro t u ht
            match t, ht with
            | 0, ht => simp at ht; subst ht; rw [add0, cell_last _ _ _ _ _ rfl]; rfl
          case c2 => intro u hu; simp at hu; subst hu; rfl
          case c3 => unfold maxLen; omega
          case c4 => omega
          case c5 => simp; omega
          intro v' w2 hown hg _ _
          have hown' : Own w2 w.heap.size v' (cs ++ [.slice A1 r.length c1]) := by simpa [Own] using hown
          have HF3 := Lib.hid ((HF2.out.below (below1 wr _)).more (own_le (own_below HO.out (below1 wr _)) (by have := HB.out.size; exact this)) hown' hg)
          have HB5 := Lib.hid ((HBW.out.alloc hsz _).grown hg (by simp; omega) (fun k hk => (HF2.out.own.lt k hk).1))
          clear hown hown' hg
          go_wp2
          go_roundw
          case rel => exact ⟨j + 1, _, by go_num, hlt, by rw [HTK.out]; exact HF3.out, HB5.out⟩
          case measure => simp [intOf]; omega
    · have HF2 : Hid (Frs wr w.heap.size u3 cs ls) := Lib.hid (by have := HF.out; rwa [List.take_of_length_le (by omega)] at this)
      go_wp2
      go_ret
      exact ⟨_, _, rfl, HF2.out, HB.out⟩
end Go.Proofs.Ytjbebhhoakmceaa
