/- What rows' insert makes of the rows that are on their way: the walk. Conditions: a table of few columns that has its key's; at most 256 rows. -/
import Derived.Test.YtjbebhhoakmceaaJh
import Derived.Lib.Builder
namespace Go.Proofs.Ytjbebhhoakmceaa
open Go.RowKit Go.Sort
set_option linter.unusedSimpArgs false
set_option linter.unusedVariables false

/-- The rows ls on their way: in block b a table (its cells' values as they came in) and a list of the call's own; the rows themselves lie in what was there at w0. -/
structure Way (m : ByteArray) (cA : Option Addr) (cn cc : Nat) (kk : Int) (iA : Option Addr) (in_ ic : Nat) (w0 w : World) (b : Nat) (lv : Value) (cs : List Value) (ls : List (List Vl)) : Prop where
  hb : w0.heap.size ≤ b
  bx : w.heap[b]? = some (.cells #[.string m, .slice cA cn cc, .int .i64 kk, .slice iA in_ ic, lv] 59 (0, 0))
  own : Own w w0.heap.size lv cs
  below : Below w0.heap.size w0 w
  len : cs.length = ls.length
  rows : ∀ (j : Nat) (v : Value) (r : List Vl), cs[j]? = some v → ls[j]? = some r → Rw w0 v r
section
variable {m : ByteArray} {cA : Option Addr} {cn cc : Nat} {kk : Int} {iA : Option Addr} {in_ ic : Nat} {w0 w : World} {b : Nat} {lv : Value} {cs : List Value} {ls : List (List Vl)}
theorem Way.box (h : Way m cA cn cc kk iA in_ ic w0 w b lv cs ls) : Box5 w b m cA cn cc kk iA in_ ic lv :=
  ⟨by rw [cell_of_row w b 0 _ _ (0, 0) h.bx]; rfl, by rw [cell_of_row w b 1 _ _ (0, 0) h.bx]; rfl, by rw [cell_of_row w b 2 _ _ (0, 0) h.bx]; rfl, by rw [cell_of_row w b 3 _ _ (0, 0) h.bx]; rfl, by rw [cell_of_row w b 4 _ _ (0, 0) h.bx]; rfl⟩
theorem Way.frozen (h : Way m cA cn cc kk iA in_ ic w0 w b lv cs ls) (j : Nat) : w.frozen? ⟨b, j, none⟩ = false := frozen_of_row w b j _ _ h.bx
theorem Way.lt (h : Way m cA cn cc kk iA in_ ic w0 w b lv cs ls) : b < w.heap.size := h.box.lt
theorem Way.grown {w' : World} (h : Way m cA cn cc kk iA in_ ic w0 w b lv cs ls) (hb : Below w.heap.size w w') : Way m cA cn cc kk iA in_ ic w0 w' b lv cs ls :=
  ⟨h.hb, by rw [hb.block b h.lt]; exact h.bx, ⟨h.own.1, by
    rcases h.own.2 with h1 | ⟨g, cap, cur, h1, h2, h3, h4⟩
    · exact .inl h1
    · exact .inr ⟨g, cap, cur, h1, h2, by rw [hb.block g (Array.getElem?_eq_some_iff.1 h3).1]; exact h3, h4⟩⟩, h.below.trans (hb.mono h.below.size), h.len, h.rows⟩
theorem Way.one (h : Way m cA cn cc kk iA in_ ic w0 w b lv cs ls) : ∀ u ∈ cs, u.oneCell' = true := fun u hu => by
  obtain ⟨j, hj, rfl⟩ := List.mem_iff_getElem.1 hu
  obtain ⟨A, c, e, _⟩ := h.rows j _ _ (List.getElem?_eq_getElem hj) (List.getElem?_eq_getElem (by rw [← h.len]; exact hj))
  rw [e]; rfl
/-- The list's head, and how it reads. -/
theorem Way.rd (h : Way m cA cn cc kk iA in_ ic w0 w b lv cs ls) : ∃ A c, lv = .slice A ls.length c ∧ RdR w A ls := by
  rcases h.own.2 with ⟨rfl, h0⟩ | ⟨g, cap, cur, rfl, _⟩
  · have : ls = [] := List.eq_nil_of_length_eq_zero (by rw [← h.len]; exact h0)
    subst this
    exact ⟨none, 0, rfl, fun h => absurd rfl h⟩
  · refine ⟨some ⟨g, 0, none⟩, cap, by rw [h.len], fun _ => ⟨_, rfl, fun j r hj => ?_⟩⟩
    have hjl : j < cs.length := by rw [h.len]; exact (List.getElem?_eq_some_iff.1 hj).1
    exact ⟨cs[j], h.own.cells (g := g) rfl j _ (List.getElem?_eq_getElem hjl), (h.rows j _ _ (List.getElem?_eq_getElem hjl) hj).below h.below⟩
theorem Way.kept {w2 : World} (h : Way m cA cn cc kk iA in_ ic w0 w b lv cs ls) (hg : w.grownBy w2 lv.ownBlock) : w2.heap[b]? = some (.cells #[.string m, .slice cA cn cc, .int .i64 kk, .slice iA in_ ic, lv] 59 (0, 0)) := by
  have hne : lv.ownBlock ≠ some b := Lib.ownBlock_ne h.own h.bx (by decide)
  rw [hg.block b h.lt (fun e => hne e.symm)]; exact h.bx
/-- A list in the other's place. -/
theorem Way.put {w2 : World} {v' : Value} {cs' : List Value} {ls' : List (List Vl)} (h : Way m cA cn cc kk iA in_ ic w0 w b lv cs ls) (hg : w.grownBy w2 lv.ownBlock) (ho : Own w2 w0.heap.size v' cs') (hl : cs'.length = ls'.length)
    (hr : ∀ (j : Nat) (v : Value) (r : List Vl), cs'[j]? = some v → ls'[j]? = some r → Rw w0 v r) : Way m cA cn cc kk iA in_ ic w0 (w2.setCell ⟨b, 4, none⟩ v') b v' cs' ls' := by
  have hne : lv.ownBlock ≠ some b := Lib.ownBlock_ne h.own h.bx (by decide)
  have hb2 : w2.heap[b]? = some (.cells #[.string m, .slice cA cn cc, .int .i64 kk, .slice iA in_ ic, lv] 59 (0, 0)) := by
    rw [hg.block b h.lt (fun e => hne e.symm)]; exact h.bx
  have hne2 : v'.ownBlock ≠ some b := Lib.ownBlock_ne ho hb2 (by decide)
  have hb3 : Below w0.heap.size w0 w2 := h.below.grown hg (by have := h.below.size; omega) (fun k hk => (h.own.lt k hk).1)
  refine ⟨h.hb, ?_, ho.kept (grown_setCell w2 b 4 v') (.inr hne2), hb3.setCell (p := ⟨b, 4, none⟩) h.hb _, hl, hr⟩
  rw [heap_setCell_same w2 b 4 _ _ v' hb2]
  rfl
end
theorem own_form {w : World} {B : Nat} {v : Value} {cs : List Value} (h : Own w B v cs) : ∃ A n c, v = .slice A n c := by
  rcases h.2 with ⟨h, _⟩ | ⟨g, cap, cur, h, _⟩
  · exact ⟨_, _, _, h⟩
  · exact ⟨_, _, _, h⟩
theorem insAt_rows {w0 : World} {cs : List Value} {ls : List (List Vl)} {x : Value} {r : List Vl} {i : Nat} (hl : cs.length = ls.length) (h : ∀ (j : Nat) (v : Value) (r : List Vl), cs[j]? = some v → ls[j]? = some r → Rw w0 v r) (hx : Rw w0 x r) (hi : i ≤ ls.length) :
    (cs.take i ++ x :: cs.drop i).length = (insAt ls i r).length ∧ ∀ (j : Nat) (v : Value) (r' : List Vl), (cs.take i ++ x :: cs.drop i)[j]? = some v → (insAt ls i r)[j]? = some r' → Rw w0 v r' := by
  refine ⟨by rw [insAt_len]; simp; omega, fun j v r' h1 h2 => ?_⟩
  unfold insAt at h2
  have l1 : (cs.take i).length = i := by simp; omega
  have l2 : (ls.take i).length = i := by simp; omega
  rcases Nat.lt_trichotomy j i with c | c | c
  · rw [List.getElem?_append_left (by omega), List.getElem?_take, if_pos c] at h1 h2
    exact h j v r' h1 h2
  · subst c
    rw [List.getElem?_append_right (by omega)] at h1 h2
    rw [l1, Nat.sub_self] at h1
    rw [l2, Nat.sub_self] at h2
    simp at h1 h2
    subst h1 h2
    exact hx
  · rw [List.getElem?_append_right (by omega)] at h1 h2
    rw [l1] at h1
    rw [l2] at h2
    have e : j - i = (j - (i + 1)) + 1 := by omega
    rw [e, List.getElem?_cons_succ, List.getElem?_drop] at h1 h2
    exact h _ v r' h1 h2
theorem erase_rows {w0 : World} {cs : List Value} {ls : List (List Vl)} {i : Nat} (hl : cs.length = ls.length) (h : ∀ (j : Nat) (v : Value) (r : List Vl), cs[j]? = some v → ls[j]? = some r → Rw w0 v r) :
    (cs.eraseIdx i).length = (ls.eraseIdx i).length ∧ ∀ (j : Nat) (v : Value) (r' : List Vl), (cs.eraseIdx i)[j]? = some v → (ls.eraseIdx i)[j]? = some r' → Rw w0 v r' := by
  refine ⟨by rw [List.length_eraseIdx, List.length_eraseIdx, hl], fun j v r' h1 h2 => ?_⟩
  rw [List.getElem?_eraseIdx] at h1 h2
  split at h1
  · rename_i c
    rw [if_pos c] at h2
    exact h _ _ _ h1 h2
  · rename_i c
    rw [if_neg c] at h2
    exact h _ _ _ h1 h2
/-- What insert and delete come to: an error, or the rows on their way. -/
def WayPost (m : ByteArray) (cA : Option Addr) (cn cc : Nat) (kk : Int) (iA : Option Addr) (in_ ic : Nat) (w0 : World) (b : Nat) (R : Int × List (List Vl)) (e : Ending) (w' : World) : Prop :=
  e = .returned (.int .i64 R.1) ∧ Below w0.heap.size w0 w' ∧ (R.1 = 0 → ∃ lv cs, Way m cA cn cc kk iA in_ ic w0 w' b lv cs R.2)

theorem insF_cons (f : List Vl → Int) (kk : Nat) (l rs : List (List Vl)) (j : Nat) (hj : j < rs.length) :
    insF f kk l (rs.drop j) = if f rs[j] ≠ 0 then (f rs[j], l) else if isAt kk l (keyAt kk rs[j]) = true then (87, l) else if l.length = 256 then (51, l) else insF f kk (insAt l (pos kk l (keyAt kk rs[j])) rs[j]) (rs.drop (j + 1)) := by
  rw [List.drop_eq_getElem_cons hj, insF]

set_option maxRecDepth 100000 in
set_option maxHeartbeats 4000000 in
theorem winsert_any (m : ByteArray) (cA iA : Option Addr) (cc ic in_ kk : Nat) (cols : List Cl) (w0 w : World) (b : Nat) (lv : Value) (cs : List Value) (l : List (List Vl)) (M : Option Addr) (mn mc : Nat) (more : List (List Vl))
    (hW : Way m cA cols.length cc kk iA in_ ic w0 w b lv cs l) (hl : mn = more.length) (hr : RdR w0 M more) (hc : RdC w0 cA cols) (hmn : more.length ≤ 9223372036854775807) (hn : l.length ≤ 256) (h8 : cols.length ≤ 8) (hk : kk < cols.length) (hs : Srt kk l) (hfit : ∀ r ∈ l, fitR cols r = 0) :
    Calls Try.prog 19 #[.pointer (some ⟨b, 0, none⟩), .slice M mn mc] w (WayPost m cA cols.length cc kk iA in_ ic w0 b (insF (fitR cols) kk l more)) := by
  subst hl
  have HW0 := Lib.hid hW
  have HR := Lib.hid hr
  have HC := Lib.hid hc
  have HS := Lib.hid hs
  have HFI := Lib.hid hfit
  clear hW hr hc hs hfit
  go_enter Try.func19, Try.ntmps19
  go_wp2
  go_loopw [6, 7, 8, 9, 12, 36, 38] (fun _ _ _ _ i _ _ wr => ∃ (j : Nat) (lv' : Value) (cs' : List Value) (l' : List (List Vl)), i = .int .i64 j ∧ j ≤ more.length ∧ Way m cA cols.length cc kk iA in_ ic w0 wr b lv' cs' l' ∧ insF (fitR cols) kk l more = insF (fitR cols) kk l' (more.drop j) ∧ Srt kk l' ∧ (∀ r ∈ l', fitR cols r = 0) ∧ l'.length ≤ 256) (fun _ _ _ _ i _ _ _ => more.length - (intOf i).toNat)
  case atStart => exact ⟨0, lv, cs, l, rfl, by omega, HW0.out, rfl, HS.out, HFI.out, hn⟩
  case round =>
    clear HW0 HS HFI hn
    obtain ⟨j, lv', cs', l', rfl, hj, hW, hI, hS, hF, hn⟩ := hrel
    have HW := Lib.hid hW
    have HI := Lib.hid hI
    have HS := Lib.hid hS
    have HF := Lib.hid hF
    have HNL := Lib.hid hn
    clear hI hS hF hn
    have hbl := hW.lt
    obtain ⟨x0, x1, x2, x3, x4⟩ := hW.box
    have hfz := hW.frozen 4
    obtain ⟨lA, lc, elv, hrd⟩ := hW.rd
    have HRD := Lib.hid hrd
    subst elv
    clear hW hrd
    by_cases hlt : j < more.length
    · obtain ⟨ad, rB, rc, rfl, q0, qr, qnil, qn⟩ := (HR.out.below HW.out.below).at_ hlt
      obtain ⟨_, rB', rc', e1, p0, pr, pnil, pn⟩ := HR.out.at_ hlt
      injection e1 with e1
      subst e1
      have ep := p0.symm.trans ((HW.out.below.cell (cell_lt p0)).symm.trans q0)
      injection ep with ep
      injection ep with ep1 _ ep2
      subst ep1 ep2
      have HXR : Hid (Rw w0 (.slice rB' more[j].length rc') more[j]) := Lib.hid ⟨rB', rc', rfl, pr, pnil, pn⟩
      have hq0 := cell_lt q0
      have hin := insF_cons (fitR cols) kk l' more j hlt
      have HIN := Lib.hid (HI.out.trans hin)
      have hrr := Lib.hid qr
      clear hin pr pnil qnil p0 qr
      have hjl : (j : Int) < (more.length : Int) := by omega
      generalize more[j] = r at q0 qn pn HXR HIN hrr
      have hf := fun W (hb : Below wr.heap.size wr W) => fits_any m cA iA cc ic in_ kk (.slice lA l'.length lc) rB' r.length rc' cols r W rfl (hrr.out.below hb) ((HC.out.below HW.out.below).below hb) qn h8
      have HFT := Lib.hid hf
      clear hf
      generalize hE : fitR cols r = E at HFT HIN
      have HE := Lib.hid hE
      clear hE
      by_cases hE0 : E = 0
      · subst hE0
        go_upto_region 7 with (go_at_call 28; refine (HFT.out _ (Below.refl _ _)).mono ?_; rintro e w1 ⟨rfl, hb⟩; have HB1 := Lib.hid hb; clear hb)
        have HW1 := Lib.hid (HW.out.grown HB1.out)
        clear x0 x1 x2 x3 x4 hfz q0 HFT
        obtain ⟨x0, x1, x2, x3, x4⟩ := HW1.out.box
        have hkr : kk < r.length := by have := fitR_len HE.out; omega
        have hrk : ∀ r ∈ l', kk < r.length := fun r hr => by rw [fitR_len (HF.out r hr)]; exact hk
        have hka := fun W (hb : Below w1.heap.size w1 W) => keyOf_any m cA iA cols.length cc ic in_ kk (.slice lA l'.length lc) rB' r.length rc' r W rfl ((hrr.out.below HB1.out).below hb) hkr qn
        have hfa := fun W (hb : Below w1.heap.size w1 W) => wfind_any m cA iA cols.length cc ic in_ kk lA l'.length lc l' (keyAt kk r) W rfl ((HRD.out.below HB1.out).below hb) hrk HNL.out HS.out
        have hple := pos_le kk l' (keyAt kk r)
        have HKR := Lib.hid hkr
        clear hkr hrk
        have hS0 := HS.out
        generalize hP : pos kk l' (keyAt kk r) = P at hfa hple HIN
        generalize hAT : isAt kk l' (keyAt kk r) = AT at hfa HIN
        have HP := Lib.hid hP
        have HAT := Lib.hid hAT
        have HPL := Lib.hid hple
        have HSI : Hid (AT = false → Srt kk (insAt l' P r)) := Lib.hid (fun h => by
          have := insAt_srt hS0 (r := r) (by rw [hAT]; exact h)
          rw [hP] at this
          exact this)
        clear hP hAT hple hS0
        have HKA := Lib.hid hka
        have HFA := Lib.hid hfa
        clear hka hfa
        generalize keyAt kk r = KR at HKA HFA HP HAT
        have y0 := cell_regrown x0
        have y1 := cell_regrown x1
        have y2 := cell_regrown x2
        have y3 := cell_regrown x3
        have y4 := cell_regrown x4
        clear x0 x1 x2 x3 x4
        refine wp_region_quiet_below (by kernel_rfl) (by kernel_rfl) ?_
        repeat (go_big_quiet_step (first | (with_reducible exact Calls.regrown_of (HKA.out _ (below_regrown _ _ _))) | (with_reducible exact Calls.regrown_of (HFA.out _ (below_regrown _ _ _)))))
        refine wpQuiet_nil ?_
        intro w5 hw5
        obtain ⟨pp, rfl⟩ := hw5
        have HB5 := Lib.hid (below_regrown w1 pp.d pp.os)
        clear y0 y1 y2 y3 y4 HKA HFA
        generalize grow (redrawn w1 pp.d) pp.os = W5 at HB5 ⊢
        have HW5 := Lib.hid (HW1.out.grown HB5.out)
        cases AT
        · obtain ⟨x0, x1, x2, x3, x4⟩ := HW5.out.box
          by_cases h256 : l'.length = 256
          · have HIN2 : Hid (insF (fitR cols) kk l more = (51, l')) := Lib.hid (by rw [HIN.out, if_neg (by simp), if_neg (by simp), if_pos h256])
            have h256i : ((l'.length : Int) == 256) = true := by simp; omega
            clear HIN
            go_wp2
            go_ret
            refine ⟨ret_int (by rw [HIN2.out]), HW5.out.below, fun h => ?_⟩
            rw [HIN2.out] at h
            exact absurd (show (51 : Int) = 0 from h) (by decide)
          · have h256i : ((l'.length : Int) == 256) = false := by simp; omega
            have HIN2 : Hid (insF (fitR cols) kk l more = insF (fitR cols) kk (insAt l' P r) (more.drop (j + 1))) := Lib.hid (by rw [HIN.out, if_neg (by simp), if_neg (by simp), if_neg h256])
            clear HIN
            have hbl5 := HW5.out.lt
            have hWA := HW5.out.grown (below1 W5 (.cells #[.slice rB' r.length rc'] 37))
            have hins := insert_own w0.heap.size P (.slice lA l'.length lc) cs' (.slice rB' r.length rc') W5.heap.size (W5.alloc (.cells #[.slice rB' r.length rc'] 37)) hWA.own (by rw [hWA.len]; exact HPL.out) (by rw [hWA.len]; exact HNL.out) hWA.below.size (heap_alloc_new W5 _) rfl (fun e => by have := (HW5.out.own.lt W5.heap.size e.symm).2; omega) hWA.one
            have HWA := Lib.hid hWA
            have HINS := Lib.hid hins
            clear hWA hins
            go_wp2_with (go_at_call 30; refine HINS.out.mono ?_; rintro e w6 ⟨v', rfl, ho, hg⟩; obtain ⟨A6, n6, c6, rfl⟩ := own_form ho; have hb6 := HWA.out.kept hg; have z4 := cell_of_row w6 b 4 _ _ (0, 0) hb6; have f4 := frozen_of_row w6 b 4 _ _ hb6; simp at z4; have HO6 := Lib.hid ho; have HG6 := Lib.hid hg; clear ho hg hb6)
            have hrows := insAt_rows HWA.out.len HWA.out.rows HXR.out HPL.out
            have HWZ := Lib.hid (HWA.out.put HG6.out HO6.out hrows.1 hrows.2)
            have HSZ := Lib.hid (HSI.out (by first | rfl | trivial))
            have HFZ : Hid (∀ x ∈ insAt l' P r, fitR cols x = 0) := Lib.hid (fun x hx => by
              rcases mem_insAt.1 hx with rfl | hx
              · exact HE.out
              · exact HF.out x hx)
            clear hrows
            go_roundw
            case rel => exact ⟨j + 1, .slice A6 n6 c6, _, _, by go_num, hlt, HWZ.out, HIN2.out, HSZ.out, HFZ.out, by rw [insAt_len]; have := HNL.out; omega⟩
            case measure => simp [intOf]; omega
        · have HIN2 : Hid (insF (fitR cols) kk l more = (87, l')) := Lib.hid (by rw [HIN.out, if_neg (by simp), if_pos rfl])
          clear HIN
          go_wp2
          go_ret
          refine ⟨ret_int (by rw [HIN2.out]), HW5.out.below, fun h => ?_⟩
          rw [HIN2.out] at h
          exact absurd (show (87 : Int) = 0 from h) (by decide)
      · have HIN2 : Hid (insF (fitR cols) kk l more = (E, l')) := Lib.hid (by rw [HIN.out, if_pos hE0])
        go_wp2_with (go_at_call 28; refine (HFT.out _ (Below.refl _ _)).mono ?_; rintro e w1 ⟨rfl, hb⟩; have HB1 := Lib.hid hb; clear hb)
        go_ret
        refine ⟨ret_int (by rw [HIN2.out]), HW.out.below.trans (HB1.out.mono HW.out.below.size), fun h => ?_⟩
        rw [HIN2.out] at h
        exact absurd h hE0
    · have HIN2 : Hid (insF (fitR cols) kk l more = (0, l')) := Lib.hid (by rw [HI.out, List.drop_of_length_le (by omega), insF])
      go_wp2
      go_ret
      refine ⟨ret_int (by rw [HIN2.out]), HW.out.below, fun h => ?_⟩
      rw [HIN2.out]
      exact ⟨_, _, HW.out⟩
end Go.Proofs.Ytjbebhhoakmceaa
