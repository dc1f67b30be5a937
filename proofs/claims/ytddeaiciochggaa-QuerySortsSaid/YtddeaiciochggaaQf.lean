/- Rows in memory of their own: the walk of query's fresh. Conditions: rows that are read in memory. -/
import Derived.Test.YtddeaiciochggaaQp
namespace Go.Proofs.Ytddeaiciochggaa
open Go.RowKit Go.Sort
set_option linter.unusedSimpArgs false
set_option linter.unusedVariables false

/-- The rows on their way: those ahead of i are done, those behind it are none yet. -/
structure Nx (w : World) (B g n : Nat) (cs : List Value) (ls : List (List Vl)) (i Bi : Nat) : Prop where
  own : w.ownsRow B 85 1 (.slice (some ⟨g, 0, none⟩) n n) n cs
  done : ∀ j u r, j < i → cs[j]? = some u → ls[j]? = some r → OwnV w B u r ∧ ∀ b, u.ownBlock = some b → b < Bi
  rest : ∀ j u, i < j → cs[j]? = some u → u = .slice none 0 0
theorem Nx.below {w w' : World} {B g n : Nat} {cs : List Value} {ls : List (List Vl)} {i Bi : Nat} (h : Nx w B g n cs ls i Bi) (hb : Below w.heap.size w w') : Nx w' B g n cs ls i Bi :=
  ⟨own_below h.own hb, fun j u r hj h1 h2 => ⟨own_below (h.done j u r hj h1 h2).1 hb, (h.done j u r hj h1 h2).2⟩, h.rest⟩
theorem ownV_kind {w : World} {B B' g n : Nat} {cs : List Value} {u : Value} {r : List Vl} (h : w.ownsRow B 85 1 (.slice (some ⟨g, 0, none⟩) n n) n cs) (hu : OwnV w B' u r) : u.ownBlock ≠ some g := fun e => by
  obtain ⟨c, fz, hc⟩ := Lib.ownsRow_kind h g rfl
  obtain ⟨c', fz', hc'⟩ := Lib.ownsRow_kind hu g e
  rw [hc] at hc'
  injection hc' with hc'
  injection hc' with _ hc'
  exact absurd hc' (by decide)
theorem ownV_kept {w w' : World} {B g n : Nat} {cs : List Value} {u : Value} {r : List Vl} (h : w.ownsRow B 85 1 (.slice (some ⟨g, 0, none⟩) n n) n cs) (hu : OwnV w B u r) (hg : w.grownBy w' (some g)) : OwnV w' B u r :=
  hu.kept hg (.inr (ownV_kind h hu))
/-- The row at i grows: the append, and the store. -/
theorem Nx.more {w w2 : World} {B g n : Nat} {cs : List Value} {ls : List (List Vl)} {i Bi : Nat} {u v' : Value} {r r' : List Vl} (h : Nx w B g n cs ls i Bi) (hi : cs[i]? = some u) (hu : OwnV w Bi u r) (hB : B ≤ Bi) (hgB : g < Bi) (ho : OwnV w2 Bi v' r') (hg : w.grownBy w2 u.ownBlock) :
    Nx (w2.setCell ⟨g, i, none⟩ v') B g n (cs.set i v') ls i Bi ∧ (cs.set i v')[i]? = some v' ∧ OwnV (w2.setCell ⟨g, i, none⟩ v') Bi v' r' := by
  have hil := (List.getElem?_eq_some_iff.1 hi).1
  have h1 : w2.ownsRow B 85 1 (.slice (some ⟨g, 0, none⟩) n n) n cs := h.own.kept hg (.inr (fun e => by
    have := hu.lt g (by rw [← e]; rfl)
    omega))
  obtain ⟨h2, h3⟩ := h1.stored i v'
  refine ⟨⟨h2, fun j x q hj hx hq => ?_, fun j x hj hx => ?_⟩, List.getElem?_set_self hil, ho.kept h3 (.inr (ownV_kind h1 ho))⟩
  · rw [List.getElem?_set_ne (by omega)] at hx
    obtain ⟨a1, a2⟩ := h.done j x q hj hx hq
    have a3 : OwnV w2 B x q := a1.kept hg (by
      cases hb : x.ownBlock with
      | none => exact .inl rfl
      | some b =>
        refine .inr fun e => ?_
        have := a2 b hb
        have := hu.lt b e.symm
        omega)
    exact ⟨ownV_kept h1 a3 h3, a2⟩
  · rw [List.getElem?_set_ne (by omega)] at hx
    exact h.rest j x hj hx
theorem Nx.next {w : World} {B g n : Nat} {cs : List Value} {ls : List (List Vl)} {i Bi : Nat} {u : Value} {r : List Vl} (h : Nx w B g n cs ls i Bi) (hi : cs[i]? = some u) (hr : ls[i]? = some r) (hu : OwnV w Bi u r) (hB : B ≤ Bi) (hBi : Bi ≤ w.heap.size) :
    Nx w B g n cs ls (i + 1) w.heap.size ∧ ∀ x, cs[i + 1]? = some x → x = .slice none 0 0 := by
  refine ⟨⟨h.own, fun j x q hj hx hq => ?_, fun j x hj hx => h.rest j x (by omega) hx⟩, fun x hx => h.rest _ x (by omega) hx⟩
  by_cases e : j = i
  · subst e
    rw [hi] at hx
    rw [hr] at hq
    injection hx with hx
    injection hq with hq
    subst hx hq
    exact ⟨own_le hu hB, fun b hb => (hu.lt b hb).2⟩
  · obtain ⟨a1, a2⟩ := h.done j x q (by omega) hx hq
    exact ⟨a1, fun b hb => (a1.lt b hb).2⟩
theorem Nx.rd {w : World} {B g n : Nat} {cs : List Value} {ls : List (List Vl)} {Bi : Nat} (h : Nx w B g n cs ls n Bi) (hn : n = ls.length) (hb : ∀ r ∈ ls, r.length * 32 ≤ 140737488355328) : RdR w (some ⟨g, 0, none⟩) ls := fun _ => ⟨_, rfl, fun j r hj => by
  have hjn : j < n := by rw [hn]; exact (List.getElem?_eq_some_iff.1 hj).1
  have hl : cs.length = n := by have := h.own.1; simpa using this
  have hc := List.getElem?_eq_getElem (show j < cs.length by omega)
  have h1 := h.own.cells (g := g) rfl j _ hc
  exact ⟨_, h1, ((h.done j _ r hjn hc hj).1).rw (hb r (List.mem_of_getElem? hj))⟩⟩
theorem row3 {w : World} {b : Nat} {x y z : Value} {t : TypeId} (h : w.heap[b]? = some (.cells #[x, y, z] t (0, 0))) : w.cell? ⟨b, 0, none⟩ = some x ∧ w.cell? ⟨b, 1, none⟩ = some y ∧ w.cell? ⟨b, 2, none⟩ = some z ∧ w.frozen? ⟨b, 2, none⟩ = false := by simp [World.cell?, World.frozen?, h]
theorem again3 {w : World} {b : Nat} {x y z : Value} {t : TypeId} (h : w.heap[b]? = some (.cells #[x, y, z] t (0, 0))) : Below w.heap.size w (w.setCell ⟨b, 2, none⟩ z) :=
  ⟨rfl, rfl, rfl, by simp [World.setCell], fun k _ => by
    by_cases e : k = b
    · subst e
      rw [h]
      simp [World.setCell, Array.getElem?_modify, h]
    · exact Below.heap_setCell _ _ _ _ e⟩
theorem below_set {B : Nat} {a w : World} (h : Below B a w) (p : Addr) (hp : B ≤ p.block) (v : Value) : Below B a (w.setCell p v) := h.setCell (p := p) hp v
theorem vals_append (l m : List Vl) : vals (l ++ m) = vals l ++ vals m := by simp [vals]
theorem made_nil (n : Nat) : ∀ (j : Nat) (u : Value), ((madeCells #[Value.slice none 0 0] n).toList)[j]? = some u → u = .slice none 0 0 := by
  intro j u h
  have hm := List.mem_of_getElem? h
  simp [madeCells] at hm
  obtain ⟨a, _, rfl⟩ := hm
  rw [Nat.mod_one]
  rfl
set_option maxRecDepth 100000 in
set_option maxHeartbeats 8000000 in
theorem fresh_any (A : Option Addr) (c : Nat) (ls : List (List Vl)) (w : World) (hr : RdR w A ls) (hn : ls.length * 24 ≤ 140737488355328 - 24) :
    Calls Try.prog 39 #[.slice A ls.length c] w fun e w' => ∃ A' c', e = .returned (.slice A' ls.length c') ∧ RdR w' A' ls ∧ (A' = none → ls.length = 0) ∧ Below w.heap.size w w' := by
  obtain ⟨i0, hi, hz0, hz1, hz2⟩ := info_parts Try.infoV
  obtain ⟨i1, hi1, hy0, hy1, hy2⟩ := info_parts Try.infoR
  have HR := Lib.hid hr
  clear hr
  go_enter Try.func39, Try.ntmps39
  go_wp2_with (refine wpList_make_full w rfl (.tmp 9) (.tmp 9) 50 rfl w.heap.size 85 i1 (.slice none 0 0) 1 Try.underlying50 hi1 hy0 hy1 .i64 .i64 _ _ ls.length rfl rfl rfl rfl (by rw [hy2]; omega) (by unfold maxLen; omega) (Nat.le_refl _) ?_)
  intro w1 hown hg1
  have hb1 : Below w.heap.size w w1 := (Below.refl _ _).grown hg1 (Nat.le_refl _) (fun k hk => by cases hk)
  have hgl : w.heap.size < w1.heap.size := (hown.lt w.heap.size rfl).2
  have hmn := made_nil ls.length
  generalize (madeCells #[Value.slice none 0 0] ls.length).toList = cs0 at hown hmn
  have HN0 : Hid (Nx w1 w.heap.size w.heap.size ls.length cs0 ls 0 w1.heap.size) := Lib.hid ⟨hown, fun j u r hj => absurd hj (by omega), fun j u _ h => hmn j u h⟩
  have HM0 := Lib.hid (hmn 0)
  have HB1 := Lib.hid hb1
  have HGL := Lib.hid hgl
  clear hown hg1 hb1 hmn hgl
  generalize hgg : w.heap.size = g at HN0 HGL ⊢
  have HGG := Lib.hid hgg
  clear hgg
  go_wp2
  go_loopw [13] (fun i wr => ∃ (j : Nat) (cs : List Value), i = .int .i64 j ∧ j ≤ ls.length ∧ Nx wr g g ls.length cs ls j wr.heap.size ∧ (∀ x, cs[j]? = some x → x = .slice none 0 0) ∧ g < wr.heap.size ∧ Below w.heap.size w wr) (fun i _ => ls.length - (intOf i).toNat)
  case atStart => exact ⟨0, cs0, rfl, by omega, HN0.out, HM0.out, HGL.out, HB1.out⟩
  case round =>
    obtain ⟨j, cs, rfl, hj, hNx, hnil, hgw, hB⟩ := hrel
    have HNX := Lib.hid hNx
    have HNIL := Lib.hid hnil
    have HB := Lib.hid hB
    clear hNx hnil hB
    by_cases hlt : j < ls.length
    · have hlt' : (j : Int) < (ls.length : Int) := by omega
      obtain ⟨ad, rB, rc, rfl, q0w, qr, qnil, qn⟩ := HR.out.at_ hlt
      have q0 := (HB.out.cell (cell_lt q0w)).trans q0w
      have hq0 := cell_lt q0
      clear q0w
      have hlsj := List.getElem?_eq_getElem hlt
      have hrw := fun (W : World) (hb : Below w.heap.size w W) => qr.below hb
      have HLJ := Lib.hid hlsj
      have HRW := Lib.hid hrw
      clear hrw hlsj qr
      generalize ls[j] = r at q0 qn qnil HLJ HRW
      have hcl : cs.length = ls.length := by have := HNX.out.own.1; simpa using this
      have hcj := List.getElem?_eq_getElem (show j < cs.length by omega)
      have hun := HNIL.out _ hcj
      rw [hun] at hcj
      have HCJ := Lib.hid hcj
      clear hcl hcj hun
      go_wp2_with fail
      generalize wr = W1 at *
      go_loopw [20] (fun i wr => ∃ (k : Nat) (cs2 : List Value) (u : Value), i = .int .i64 k ∧ k ≤ r.length ∧ Nx wr g g ls.length cs2 ls j W1.heap.size ∧ cs2[j]? = some u ∧ OwnV wr W1.heap.size u (r.take k) ∧ W1.heap.size ≤ wr.heap.size ∧ Below w.heap.size w wr) (fun i _ => r.length - (intOf i).toNat)
      case atStart => exact ⟨0, cs, _, rfl, by omega, HNX.out, HCJ.out, (by rw [List.take_zero]; exact World.ownsRow_nil _ _ _ _ : OwnV W1 W1.heap.size (.slice none 0 0) (r.take 0)), Nat.le_refl _, HB.out⟩
      case round =>
        obtain ⟨k, cs2, u, rfl, hk, hNx, hcu, hou, hsz, hB2⟩ := hrel
        have HNX2 := Lib.hid hNx
        have HCU := Lib.hid hcu
        have HOU := Lib.hid hou
        have HB2 := Lib.hid hB2
        clear hNx hcu hou hB2
        by_cases hltk : k < r.length
        · have hltk' : (k : Int) < (r.length : Int) := by omega
          obtain ⟨rd, rfl, c0, c1, c2⟩ := (HRW.out _ HB2.out).at_ hltk
          have hc0 := cell_lt c0
          rw [add_block] at hc0
          have htk : r.take (k + 1) = r.take k ++ [r[k]] := List.take_succ_eq_append_getElem hltk
          have hlk : (r.take k).length = k := by rw [List.length_take]; omega
          have HTK := Lib.hid htk
          have HLK := Lib.hid hlk
          have hvs := r[k].h.2
          clear htk hlk
          generalize r[k] = v at c0 c1 c2 HTK hvs
          go_upto_region 8 with fail
          have hbx := below1 wr (.cells #[.int .i64 v.k, .int .i64 v.n, .string v.s] 96)
          have hcl := sClone_any v.s (wr.alloc (.cells #[.int .i64 v.k, .int .i64 v.n, .string v.s] 96)) (by omega)
          have HCL := Lib.hid hcl
          have HNXa := Lib.hid (HNX2.out.below hbx)
          have HOUa := Lib.hid (own_below HOU.out hbx)
          have HBa := Lib.hid (thn HB2.out hbx)
          have hbl : wr.heap.size < (wr.alloc (.cells #[.int .i64 v.k, .int .i64 v.n, .string v.s] 96)).heap.size := by simp
          have hrb : (wr.alloc (.cells #[.int .i64 v.k, .int .i64 v.n, .string v.s] 96)).heap[wr.heap.size]? = some (.cells #[.int .i64 v.k, .int .i64 v.n, .string v.s] 96 (0, 0)) := heap_alloc_new wr _
          have HRB := Lib.hid hrb
          have x0 : (wr.alloc (.cells #[.int .i64 v.k, .int .i64 v.n, .string v.s] 96)).cell? ⟨wr.heap.size, 0, none⟩ = some (.int .i64 v.k) := (cell_last _ _ _ _ _ rfl).trans rfl
          have x1 : (wr.alloc (.cells #[.int .i64 v.k, .int .i64 v.n, .string v.s] 96)).cell? ⟨wr.heap.size, 1, none⟩ = some (.int .i64 v.n) := (cell_last _ _ _ _ _ rfl).trans rfl
          have x2 : (wr.alloc (.cells #[.int .i64 v.k, .int .i64 v.n, .string v.s] 96)).cell? ⟨wr.heap.size, 2, none⟩ = some (.string v.s) := (cell_last _ _ _ _ _ rfl).trans rfl
          clear c0 c1 c2 q0 hbx hcl HNX2 HOU HB2 hrb
          generalize wr.alloc (.cells #[.int .i64 v.k, .int .i64 v.n, .string v.s] 96) = wa at *
          generalize wr.heap.size = bx at *
          go_upto_region 9 with (go_at_call 32; (with_reducible refine HCL.out.mono ?_); rintro e wc ⟨rfl, hb⟩; have HNXc := Lib.hid (HNXa.out.below hb); have HOUc := Lib.hid (own_below HOUa.out hb); have HBc := Lib.hid (thn HBa.out hb); have HRc : Hid (wc.heap[bx]? = some (.cells #[.int .i64 v.k, .int .i64 v.n, .string v.s] 96 (0, 0))) := Lib.hid (by rw [hb.block bx hbl]; exact HRB.out); have HSZ := Lib.hid (Nat.le_trans (Nat.le_of_lt hbl) hb.size); obtain ⟨z0, z1, z2, zf⟩ := row3 HRc.out; clear hb)
          have hag := again3 HRc.out
          have HNXd := Lib.hid (HNXc.out.below hag)
          have HOUd := Lib.hid (own_below HOUc.out hag)
          have HBd := Lib.hid (thn HBc.out hag)
          have HRd := Lib.hid ((hag.block bx (Array.getElem?_eq_some_iff.1 HRc.out).1).trans HRc.out)
          have HSd := Lib.hid (Nat.le_trans HSZ.out hag.size)
          clear z0 z1 z2 zf hag HNXc HOUc HBc HRc HSZ HNXa HOUa HBa HRB x0 x1 x2 HCL hbl
          generalize wc.setCell ⟨bx, 2, none⟩ (.string v.s) = wd at HNXd HOUd HBd HRd HSd ⊢
          obtain ⟨z0, z1, z2, zf⟩ := row3 HRd.out
          have hbd : bx < wd.heap.size := (Array.getElem?_eq_some_iff.1 HRd.out).1
          have hgd : g < wd.heap.size := by have := HSd.out; omega
          obtain ⟨A1, c1, hu⟩ := ownV_form HOUd.out
          rw [HLK.out] at hu
          subst hu
          have g0 : wd.cell? ⟨g, j, none⟩ = some (.slice A1 k c1) := (HNXd.out.own.cellAt j (by omega)).trans HCU.out
          have gf := HNXd.out.own.frozenAt j
          have hwx : Below wd.heap.size wd (wd.drew.alloc (.cells #[.int .i64 v.k, .int .i64 v.n, .string v.s] 96)) := (Below.refl _ _).drew.alloc (Nat.le_refl _) _
          have HNXe := Lib.hid (HNXd.out.below hwx)
          have HOUe : Hid (OwnV (wd.drew.alloc (.cells #[.int .i64 v.k, .int .i64 v.n, .string v.s] 96)) W1.heap.size (.slice A1 k c1) (r.take k)) := Lib.hid (own_below HOUd.out hwx)
          have HOW : Hid ((wd.drew.alloc (.cells #[.int .i64 v.k, .int .i64 v.n, .string v.s] 96)).ownsRow W1.heap.size 96 3 (.slice A1 k c1) k (vals (r.take k))) := Lib.hid (by
            have := HOUe.out
            unfold OwnV at this
            rwa [HLK.out] at this)
          have HBe := Lib.hid (thn HBd.out hwx)
          have HNW := Lib.hid (news_new0 wd.drew #[.int .i64 v.k, .int .i64 v.n, .string v.s] 96 _ rfl)
          have HSe := Lib.hid (show W1.heap.size ≤ (wd.drew.alloc (.cells #[.int .i64 v.k, .int .i64 v.n, .string v.s] 96)).heap.size from Nat.le_trans (Nat.le_trans hsz HSd.out) hwx.size)
          have hjl : (j : Int) < (ls.length : Int) := hlt'
          clear hwx
          go_region_law (refine step_append_own rfl (.tmp 33) (.tmp 35) 85 rfl W1.heap.size 96 i0 (.agg #[.int .i64 0, .int .i64 0, .string ⟨#[]⟩]) 3 32 Try.underlying85 hi hz0 hz1 hz2 rfl (by decide) (.slice A1 k c1) k (vals (r.take k)) rfl HOW.out ⟨wd.heap.size, 0, none⟩ 1 1 [.int .i64 v.k, .int .i64 v.n, .string v.s] rfl rfl HNW.out (by simp [Value.oneCell']) (by unfold maxLen; omega) (by omega) HSe.out ?_; intro v' w5 hown hg; have HOWN := Lib.hid hown; have HGR := Lib.hid hg; obtain ⟨A2, n2, c2, rfl⟩ := form_of hown; have g5 := (HNXe.out.own.kept hg (.inr (fun e => by have := HOUe.out.lt g (by rw [← e]; rfl); omega))).cellAt j (by omega); have gf5 := (HNXe.out.own.kept hg (.inr (fun e => by have := HOUe.out.lt g (by rw [← e]; rfl); omega))).frozenAt j; rw [HCU.out] at g5; clear hown hg)
          all_goals
            have hov : OwnV w5 W1.heap.size (.slice A2 n2 c2) (r.take (k + 1)) := by
              have h := HOWN.out
              unfold OwnV
              rw [HTK.out, vals_append, List.length_append, HLK.out]
              exact h
            obtain ⟨m1, m2, m3⟩ := HNXe.out.more HCU.out HOUe.out (Nat.le_of_lt hgw) hgw hov HGR.out
            have hw5 := HGR.out.size
            have hb5 : Below w.heap.size w w5 := HBe.out.grown HGR.out HBe.out.size (fun b hb => by have := (HOUe.out.lt b hb).1; have := HGG.out; omega)
            have M1 := Lib.hid m1
            have M2 := Lib.hid m2
            have M3 := Lib.hid m3
            have MB := Lib.hid (below_set hb5 ⟨g, j, none⟩ (by have := HGG.out; simp; omega) (.slice A2 n2 c2))
            have MS : Hid (W1.heap.size ≤ (w5.setCell ⟨g, j, none⟩ (.slice A2 n2 c2)).heap.size) := Lib.hid (by have := HSe.out; simp [World.setCell] at hw5 this ⊢; omega)
            clear m1 m2 m3 hb5 hw5 g5 gf5 hov z0 z1 z2 zf g0 gf
            generalize w5.setCell ⟨g, j, none⟩ (.slice A2 n2 c2) = w6 at M1 M2 M3 MB MS ⊢
            go_wp2
            go_roundw
            case rel => exact ⟨k + 1, _, _, by go_num, hltk, M1.out, M2.out, M3.out, MS.out, MB.out⟩
            case measure => simp [intOf]; omega
        · obtain rfl : k = r.length := by omega
          have hou : OwnV wr W1.heap.size u r := by
            have := HOU.out
            rwa [List.take_length] at this
          obtain ⟨m1, m2⟩ := HNX2.out.next HCU.out HLJ.out hou (Nat.le_of_lt hgw) hsz
          have M1 := Lib.hid m1
          have M2 := Lib.hid m2
          clear m1 m2 hou
          go_wp2
          go_roundw
          case rel => exact ⟨j + 1, cs2, by go_num, hlt, M1.out, M2.out, by omega, HB2.out⟩
          case measure => simp [intOf]; omega
    · obtain rfl : j = ls.length := by omega
      go_wp2
      go_ret
      refine ⟨some ⟨g, 0, none⟩, ls.length, rfl, HNX.out.rd rfl (fun r hr => ?_), (fun e => by cases e), HB.out⟩
      obtain ⟨i, hi, rfl⟩ := List.mem_iff_getElem.1 hr
      obtain ⟨_, _, _, _, _, _, _, h⟩ := HR.out.at_ hi
      exact h
end Go.Proofs.Ytddeaiciochggaa
