/- A row of items for each group, made: the walk of query's made. Conditions: items that are reckoned without a fault. -/
import Derived.Test.YtddeaiciochggaaRb
namespace Go.Proofs.Ytddeaiciochggaa
open Go.RowKit Go.Sort
set_option linter.unusedSimpArgs false
set_option linter.unusedVariables false

/-- The cells of an item. -/
def ItC (w : World) (p : Addr) (x : Int × Int) : Prop :=
  w.cell? p = some (.int .i64 x.1) ∧ w.cell? ⟨p.block, p.off + 1, none⟩ = some (.int .i64 x.2) ∧ w.cell? ⟨p.block, p.off + 2, none⟩ = some (.int .i64 0) ∧ w.cell? ⟨p.block, p.off + 3, none⟩ = some (.string ⟨#[]⟩) ∧ w.cell? ⟨p.block, p.off + 4, none⟩ = some (.string ⟨#[]⟩) ∧ w.cell? ⟨p.block, p.off + 5, none⟩ = some (.string ⟨#[]⟩) ∧ w.cell? ⟨p.block, p.off + 6, none⟩ = some (.slice none 0 0)
theorem ItC.below {w w' : World} {p : Addr} {x : Int × Int} (h : ItC w p x) (hb : Below w.heap.size w w') : ItC w' p x := by
  obtain ⟨h0, h1, h2, h3, h4, h5, h6⟩ := h
  exact ⟨(hb.cell (cell_lt h0)).trans h0, (hb.cell (cell_lt h1)).trans h1, (hb.cell (cell_lt h2)).trans h2, (hb.cell (cell_lt h3)).trans h3, (hb.cell (cell_lt h4)).trans h4, (hb.cell (cell_lt h5)).trans h5, (hb.cell (cell_lt h6)).trans h6⟩
/-- What is made of. -/
structure Mk (w : World) (T0 : Addr) (gv : List Value) (I0 : Addr) (iv : List (Int × Int)) (res : List (List Vl)) : Prop where
  gs : ∀ j u, gv[j]? = some u → w.cell? (T0.add j) = some u ∧ ∃ A n c, u = .slice A n c
  is_ : ∀ k x, iv[k]? = some x → ItC w (I0.add (k * 7)) x
  len : res.length = gv.length
  rows : ∀ r ∈ res, r.length = iv.length
  call : ∀ W, Below w.heap.size w W → ∀ (j k : Nat) (u : Value) (x : Int × Int) (r : List Vl) (v : Vl), gv[j]? = some u → iv[k]? = some x → res[j]? = some r → r[k]? = some v → Calls Try.prog 68 #[exA x.1 x.2 0, u] W fun e w' => e = .returned (.tuple #[.agg #[.int .i64 v.k, .int .i64 v.n, .string v.s], .int .i64 0]) ∧ Below W.heap.size W w'
set_option maxRecDepth 100000 in
set_option maxHeartbeats 8000000 in
theorem made_any (T0 I0 : Addr) (gc ic : Nat) (gv : List Value) (iv : List (Int × Int)) (res : List (List Vl)) (w : World) (h : Mk w T0 gv I0 iv res) (hn : gv.length ≤ 1000) (hm : iv.length ≤ 1000) :
    Calls Try.prog 67 #[.slice (some T0) gv.length gc, .slice (some I0) iv.length ic, .func (.func 68) #[] #[]] w fun e w' => ∃ v cs, e = .returned (.tuple #[v, .int .i64 0]) ∧ Frs w' w.heap.size v cs res ∧ Below w.heap.size w w' := by
  obtain ⟨i0, hi, hz0, hz1, hz2⟩ := info_parts Try.infoV
  obtain ⟨i1, hi1, hy0, hy1, hy2⟩ := info_parts Try.infoR
  have H := Lib.hid h
  clear h
  go_enter Try.func67, Try.ntmps67
  go_wp2
  go_loopw [8, 18] (fun v i wr => ∃ (j : Nat) (cs : List Value), i = .int .i64 j ∧ j ≤ gv.length ∧ Frs wr w.heap.size v cs (res.take j) ∧ Below w.heap.size w wr) (fun _ i _ => gv.length - (intOf i).toNat)
  case atStart => exact ⟨0, [], rfl, by omega, ⟨World.ownsRow_nil _ _ _ _, by simp, fun j u r h => by simp at h⟩, Below.refl _ _⟩
  case round =>
    obtain ⟨j, cs, rfl, hj, hF, hB⟩ := hrel
    have HF := Lib.hid hF
    have HB := Lib.hid hB
    clear hF hB
    by_cases hlt : j < gv.length
    · have hlt' : (j : Int) < (gv.length : Int) := by omega
      have hgj := List.getElem?_eq_getElem hlt
      obtain ⟨g0, gA, gn, gcc, hgu⟩ := H.out.gs j _ hgj
      rw [hgu] at hgj g0
      have g1 := (HB.out.cell (cell_lt g0)).trans g0
      have hg1 := cell_lt g1
      rw [add_block] at hg1
      have hrl : j < res.length := by rw [H.out.len]; exact hlt
      have hrj := List.getElem?_eq_getElem hrl
      have hrn := H.out.rows _ (List.getElem_mem hrl)
      have htk : res.take (j + 1) = res.take j ++ [res[j]] := List.take_succ_eq_append_getElem hrl
      have HGJ := Lib.hid hgj
      have HRJ := Lib.hid hrj
      have HRN := Lib.hid hrn
      have HTK := Lib.hid htk
      clear hgj g0 hgu hrj hrn htk
      generalize res[j] = r at HRJ HRN HTK
      clear hrl
      go_wp2_with fail
      generalize wr = W1 at *
      go_loopw [11, 24] (fun z i wr => ∃ (k : Nat) (u : Value), u = z ∧ i = .int .i64 k ∧ k ≤ iv.length ∧ OwnV wr W1.heap.size u (r.take k) ∧ Below W1.heap.size W1 wr) (fun _ i _ => iv.length - (intOf i).toNat)
      case atStart => exact ⟨0, _, rfl, rfl, by omega, (by rw [List.take_zero]; exact World.ownsRow_nil _ _ _ _ : OwnV W1 W1.heap.size (.slice none 0 0) (r.take 0)), Below.refl _ _⟩
      case round =>
        obtain ⟨k, u, hu, rfl, hk, hO, hB2⟩ := hrel
        subst hu
        have HO := Lib.hid hO
        have HB2 := Lib.hid hB2
        clear hO hB2
        by_cases hltk : k < iv.length
        · have hltk' : (k : Int) < (iv.length : Int) := by omega
          have hik := List.getElem?_eq_getElem hltk
          have hit := (H.out.is_ k _ hik).below (thn HB.out HB2.out)
          have hrl : k < r.length := by rw [HRN.out]; exact hltk
          have hrk := List.getElem?_eq_getElem hrl
          have htk : r.take (k + 1) = r.take k ++ [r[k]] := List.take_succ_eq_append_getElem hrl
          have hcl := fun (W : World) (hb : Below w.heap.size w W) => H.out.call W hb j k _ _ r _ HGJ.out hik HRJ.out hrk
          have HCL := Lib.hid hcl
          have HTKK := Lib.hid htk
          have hlk : (r.take k).length = k := by rw [List.length_take]; omega
          have HLK := Lib.hid hlk
          clear hik hrk htk hcl hlk
          generalize r[k] = v at HCL HTKK
          generalize iv[k] = x at hit HCL
          unfold exA at HCL
          obtain ⟨t0, t1, t2, t3, t4, t5, t6⟩ := hit
          have ht0 := cell_lt t0
          rw [add_block] at ht0
          go_upto_region 9 with fail
          have hba := below1 wr (.cells #[.int .i64 x.1, .int .i64 x.2, .int .i64 0, .string ⟨#[]⟩, .string ⟨#[]⟩, .string ⟨#[]⟩, .slice none 0 0] 98)
          have HBa := Lib.hid (thn (thn HB.out HB2.out) hba)
          have HB2a := Lib.hid (thn HB2.out hba)
          have HOa := Lib.hid (own_below HO.out hba)
          have y0 : (wr.alloc (.cells #[.int .i64 x.1, .int .i64 x.2, .int .i64 0, .string ⟨#[]⟩, .string ⟨#[]⟩, .string ⟨#[]⟩, .slice none 0 0] 98)).cell? ⟨wr.heap.size, 0, none⟩ = some (.int .i64 x.1) := (cell_last _ _ _ _ _ rfl).trans rfl
          have y1 : (wr.alloc (.cells #[.int .i64 x.1, .int .i64 x.2, .int .i64 0, .string ⟨#[]⟩, .string ⟨#[]⟩, .string ⟨#[]⟩, .slice none 0 0] 98)).cell? ⟨wr.heap.size, 1, none⟩ = some (.int .i64 x.2) := (cell_last _ _ _ _ _ rfl).trans rfl
          have y2 : (wr.alloc (.cells #[.int .i64 x.1, .int .i64 x.2, .int .i64 0, .string ⟨#[]⟩, .string ⟨#[]⟩, .string ⟨#[]⟩, .slice none 0 0] 98)).cell? ⟨wr.heap.size, 2, none⟩ = some (.int .i64 0) := (cell_last _ _ _ _ _ rfl).trans rfl
          have y3 : (wr.alloc (.cells #[.int .i64 x.1, .int .i64 x.2, .int .i64 0, .string ⟨#[]⟩, .string ⟨#[]⟩, .string ⟨#[]⟩, .slice none 0 0] 98)).cell? ⟨wr.heap.size, 3, none⟩ = some (.string ⟨#[]⟩) := (cell_last _ _ _ _ _ rfl).trans rfl
          have y4 : (wr.alloc (.cells #[.int .i64 x.1, .int .i64 x.2, .int .i64 0, .string ⟨#[]⟩, .string ⟨#[]⟩, .string ⟨#[]⟩, .slice none 0 0] 98)).cell? ⟨wr.heap.size, 4, none⟩ = some (.string ⟨#[]⟩) := (cell_last _ _ _ _ _ rfl).trans rfl
          have y5 : (wr.alloc (.cells #[.int .i64 x.1, .int .i64 x.2, .int .i64 0, .string ⟨#[]⟩, .string ⟨#[]⟩, .string ⟨#[]⟩, .slice none 0 0] 98)).cell? ⟨wr.heap.size, 5, none⟩ = some (.string ⟨#[]⟩) := (cell_last _ _ _ _ _ rfl).trans rfl
          have y6 : (wr.alloc (.cells #[.int .i64 x.1, .int .i64 x.2, .int .i64 0, .string ⟨#[]⟩, .string ⟨#[]⟩, .string ⟨#[]⟩, .slice none 0 0] 98)).cell? ⟨wr.heap.size, 6, none⟩ = some (.slice none 0 0) := (cell_last _ _ _ _ _ rfl).trans rfl
          clear t0 t1 t2 t3 t4 t5 t6 ht0 hba
          generalize wr.alloc (.cells #[.int .i64 x.1, .int .i64 x.2, .int .i64 0, .string ⟨#[]⟩, .string ⟨#[]⟩, .string ⟨#[]⟩, .slice none 0 0] 98) = wa at *
          generalize wr.heap.size = bx at *
          go_upto_region 12 with (go_at_call 68; (with_reducible refine (HCL.out _ HBa.out).mono ?_); rintro e w5 ⟨rfl, hb⟩; have HB5 := Lib.hid (thn HB2a.out hb); have HO5 := Lib.hid (own_below HOa.out hb); clear hb)
          have hs5 : W1.heap.size ≤ w5.heap.size := HB5.out.size
          have HO6 : Hid (((w5.alloc (.cells #[.int .i64 v.k, .int .i64 v.n, .string v.s] 96)).alloc (.cells #[.int .i64 v.k, .int .i64 v.n, .string v.s] 96)).ownsRow W1.heap.size 96 3 u k (vals (r.take k))) := Lib.hid (by
            have := (HO5.out.alloc (.cells #[.int .i64 v.k, .int .i64 v.n, .string v.s] 96)).alloc (.cells #[.int .i64 v.k, .int .i64 v.n, .string v.s] 96)
            rwa [HLK.out] at this)
          have HNW : Hid (∀ (j : Nat) (u : Value), [Value.int .i64 v.k, .int .i64 v.n, .string v.s][j]? = some u → ((w5.alloc (.cells #[.int .i64 v.k, .int .i64 v.n, .string v.s] 96)).alloc (.cells #[.int .i64 v.k, .int .i64 v.n, .string v.s] 96)).cell? ((⟨w5.heap.size + 1, 0, none⟩ : Addr).add j) = some u) := Lib.hid (fun j u h => by
            have := news_new0 (w5.alloc (.cells #[.int .i64 v.k, .int .i64 v.n, .string v.s] 96)) #[.int .i64 v.k, .int .i64 v.n, .string v.s] 96 _ rfl j u h
            rwa [World.size_alloc] at this)
          go_wp2_with (at_builtin; refine wpList_append_own_at _ rfl (.tmp 38) (.tmp 40) 85 rfl W1.heap.size 96 i0 (.agg #[.int .i64 0, .int .i64 0, .string ⟨#[]⟩]) 3 32 Try.underlying85 hi hz0 hz1 hz2 rfl (by decide) _ _ _ rfl HO6.out ⟨w5.heap.size + 1, 0, none⟩ 1 1 [.int .i64 v.k, .int .i64 v.n, .string v.s] rfl rfl HNW.out (by simp [Value.oneCell']) (by unfold maxLen; omega) (by omega) (by simp; omega) ?_)
          intro v' w7 hown hg _ _
          have hov : OwnV w7 W1.heap.size v' (r.take (k + 1)) := by
            unfold OwnV
            rw [HTKK.out, vals_append, List.length_append, HLK.out]
            exact hown
          have hb7 : Below W1.heap.size W1 w7 := ((HB5.out.alloc hs5 _).alloc (by simp; omega) _).grown hg (by simp; omega) (fun b hb => (HO6.out.lt b hb).1)
          have HOV := Lib.hid hov
          have HB7 := Lib.hid hb7
          clear hown hg hov hb7
          go_wp2
          go_roundw
          case rel => exact ⟨k + 1, _, rfl, by go_num, hltk, HOV.out, HB7.out⟩
          case measure => simp [intOf]; omega
        · obtain rfl : k = iv.length := by omega
          have hou := HO.out
          rw [← HRN.out, List.take_length] at hou
          obtain ⟨A1, c1, hu⟩ := ownV_form hou
          subst hu
          have HO2 := Lib.hid hou
          have HF2 := Lib.hid (HF.out.below HB2.out)
          have HBW := Lib.hid (thn HB.out HB2.out)
          have hcl : cs.length ≤ 1000 := by have := HF.out.len; rw [this, List.length_take]; omega
          have hsz := HBW.out.size
          clear hou
          go_wp2_with (at_builtin; refine wpList_append_own_at _ rfl (.tmp 43) (.tmp 45) 50 rfl w.heap.size 85 i1 (.slice none 0 0) 1 24 Try.underlying50 hi1 hy0 hy1 hy2 rfl (by decide) _ _ _ rfl (HF2.out.own.alloc _) ⟨wr.heap.size, 0, none⟩ 1 1 [.slice A1 r.length c1] rfl rfl (news_new0 wr #[.slice A1 r.length c1] 85 _ rfl) (by intro u hu; simp at hu; subst hu; rfl) (by unfold maxLen; omega) (by omega) (by simp; omega) ?_)
          intro v' w3 hown hg _ _
          have hown' : Own w3 w.heap.size v' (cs ++ [.slice A1 r.length c1]) := by simpa [Own] using hown
          have HF3 := Lib.hid ((HF2.out.below (below1 wr _)).more (own_le (own_below HO2.out (below1 wr _)) HB.out.size) hown' hg)
          have HB5 := Lib.hid ((HBW.out.alloc hsz _).grown hg (by simp; omega) (fun b hb => (HF2.out.own.lt b hb).1))
          clear hown hown' hg
          go_wp2
          go_roundw
          case rel => exact ⟨j + 1, _, by go_num, hlt, by rw [HTK.out]; exact HF3.out, HB5.out⟩
          case measure => simp [intOf]; omega
    · obtain rfl : j = gv.length := by omega
      have hF2 := HF.out
      rw [← H.out.len, List.take_length] at hF2
      have HF2 := Lib.hid hF2
      clear hF2
      go_wp2
      go_ret2
      exact ⟨_, cs, rfl, HF2.out, HB.out⟩
end Go.Proofs.Ytddeaiciochggaa
