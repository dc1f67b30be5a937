/- RowsMay of any table and rows: the walk. Conditions: arguments that are read in memory, of lengths that every machine keeps. -/
import Derived.Test.YtjbebhhoakmceaaKb
import Derived.BigRegion
namespace Go.Proofs.Ytjbebhhoakmceaa
open Go.RowKit Go.Sort
set_option linter.unusedSimpArgs false
set_option linter.unusedVariables false

set_option maxRecDepth 100000 in
set_option maxHeartbeats 8000000 in
theorem kMay_any (t : Tb) (cA iA : Option Addr) (cc ic : Nat) (A M : Option Addr) (c mc : Nat) (ls more : List (List Vl)) (w : World) (hc : RdC w cA t.cols) (hx : RdX w iA t.idx) (hcA : cA = none → t.cols.length = 0 ∧ cc = 0) (hn : t.cols.length * 32 ≤ 140737488355328) (hk : t.idx.length * 24 ≤ 140737488355328 - 24)
    (hr : RdR w A ls) (hA : A = none → ls.length = 0) (hln : ls.length ≤ 9223372036854775807) (hm : RdR w M more) (hmn : more.length ≤ 9223372036854775807) :
    Calls Try.prog 3 #[tbl t.m cA t.cols.length cc t.key iA t.idx.length ic, .slice A ls.length c, .slice M more.length mc] w fun e w' => e = .returned (.bool true) ∧ Below w.heap.size w w' := by
  have HAL := Lib.hid fun W => alive_any W
  have HOF := Lib.hid fun (W : World) (hb : Below w.heap.size w W) => of_any t cA iA cc ic W (hc.below hb) (hx.below hb) hcA hn hk
  have HR := Lib.hid hr
  have HM := Lib.hid hm
  have HAN := Lib.hid hA
  have HX := Lib.hid (Box4.new w t.m cA t.cols.length cc t.key iA t.idx.length ic 25)
  have HB0 := Lib.hid (below1 w (.cells #[.string t.m, .slice cA t.cols.length cc, .int .i64 t.key, .slice iA t.idx.length ic] 25))
  have HLN := Lib.hid hln
  have HMN := Lib.hid hmn
  clear hc hx hcA hn hk hr hA hm hmn hln
  go_enter Try.func3, Try.ntmps3
  go_upto_region 4 with (first
    | (go_at_call 5; (with_reducible refine (HAL.out _).mono ?_); rintro e w1 ⟨rfl, hb⟩; have HX1 := Lib.hid (HX.out.below hb); obtain ⟨x0, x1, x2, x3⟩ := HX1.out; have HB1 := Lib.hid (thn HB0.out hb); clear hb)
    | (go_at_call 6; (with_reducible refine (HOF.out _ HB1.out).mono ?_); rintro e w2 ⟨dA, dc, jA, jc, rfl, ht, hb⟩; have HT2 := Lib.hid ht; have HX2 := Lib.hid (HX1.out.below hb); have HB2 := Lib.hid (thn HB1.out hb); clear ht hb))
  have hb3 := below1 w2 (.cells #[.string t.m, .slice dA t.cols.length dc, .int .i64 t.key, .slice jA t.idx.length jc] 30)
  have HU := Lib.hid (Box4.new w2 t.m dA t.cols.length dc t.key jA t.idx.length jc 30)
  have HT3 := Lib.hid (HT2.out.below hb3)
  have HX3 := Lib.hid (HX2.out.below hb3)
  have HB3 := Lib.hid (thn HB2.out hb3)
  clear x0 x1 x2 x3 HB1 HB2 HT2 HX HB0 HOF HAL hb3 HX1 HX2
  generalize (w2.alloc (.cells #[.string t.m, .slice dA t.cols.length dc, .int .i64 t.key, .slice jA t.idx.length jc] 30)) = w3 at HU HT3 HX3 HB3 ⊢
  generalize w2.heap.size = ub at HU ⊢
  have HR3 := Lib.hid (HR.out.below HB3.out)
  have HM3 := Lib.hid (HM.out.below HB3.out)
  obtain ⟨u0, u1, u2, u3⟩ := HU.out
  go_upto_region 5 with (
    (go_at_call 7; (with_reducible refine (rInsert_any t dA jA dc jc A M ls.length c more.length mc ls more _ HT3.out rfl HR3.out HAN.out HLN.out rfl HM3.out HMN.out).mono ?_); intro e w4 hp; obtain ⟨A4, n4, c4, rfl, h41, h42, hb⟩ := hp.all; have H41 := Lib.hid h41; have H42 := Lib.hid h42; have HB34 := Lib.hid hb; clear hp h41 h42 hb))
  have HB4 := Lib.hid (thn HB3.out HB34.out)
  have HR4 := Lib.hid (HR3.out.below HB34.out)
  have HM4 := Lib.hid (HM3.out.below HB34.out)
  have HT4 := Lib.hid (HT3.out.below HB34.out)
  have HU4 := Lib.hid (HU.out.below HB34.out)
  have HX4 := Lib.hid (HX3.out.below HB34.out)
  clear u0 u1 u2 u3 HU HT3 HX3 HB3 HR3 HM3 HB34 HR HM
  obtain ⟨u0, u1, u2, u3⟩ := HU4.out
  by_cases h0 : (insR t ls more).1 = 0
  · obtain ⟨e4, hr4, hA4⟩ := H42.out h0
    obtain ⟨kk, hp⟩ := put_of h0
    generalize (insR t ls more).1 = E4 at h0 ⊢
    generalize (insR t ls more).2 = a at *
    subst h0 e4
    have HP := Lib.hid hp
    have HA4 := Lib.hid hr4
    have HAN4 := Lib.hid hA4
    have hlen : (a.length : Int) = (ls.length : Int) + (more.length : Int) := by have := hp.len; omega
    have hfew : (a.length : Int) ≤ 256 := by have := hp.few; omega
    have HC := Lib.hid (rCheck_any t dA jA dc jc A4 a.length c4 a w4 HT4.out rfl hr4 (by have := hp.few; omega))
    clear hr4 hA4 hp H41 H42
    go_wp2_with (first
      | (go_at_call 8; refine (num_any _ _).mono ?_; rintro e w9 ⟨rfl, rfl⟩)
      | (go_at_call 9; (with_reducible refine HC.out.mono ?_); rintro e w5 ⟨rfl, hb⟩; rw [HP.out.is]; have HB5 := Lib.hid hb; clear hb))
    have HT5 := Lib.hid (HT4.out.below HB5.out)
    have HU5 := Lib.hid (HU4.out.below HB5.out)
    have HX5 := Lib.hid (HX4.out.below HB5.out)
    have HM5 := Lib.hid (HM4.out.below HB5.out)
    have HA5 := Lib.hid (HA4.out.below HB5.out)
    have HR5 := Lib.hid (HR4.out.below HB5.out)
    have HBW := Lib.hid (thn HB4.out HB5.out)
    clear u0 u1 u2 u3 HT4 HU4 HX4 HM4 HA4 HR4 HB4 HB5 HC
    obtain ⟨i0, hi0, hz0, hz1, hz2⟩ := info_parts Try.infoV
    go_loopw [10, 11, 12, 13, 14, 15] (fun kv i _ _ _ _ wr => ∃ j : Nat, i = .int .i64 j ∧ j ≤ more.length ∧ wr.ownsRow w5.heap.size 39 3 kv j (vals ((more.take j).map (keyAt kk))) ∧ Below w5.heap.size w5 wr) (fun _ i _ _ _ _ _ => more.length - (intOf i).toNat)
    case atStart => exact ⟨0, rfl, by omega, World.ownsRow_nil _ _ _ _, Below.refl _ _⟩
    case round =>
      obtain ⟨j, rfl, hj, hO, hBB⟩ := hrel
      have HO := Lib.hid hO
      have HB := Lib.hid hBB
      clear hO hBB
      by_cases hlt : j < more.length
      · obtain ⟨ad, rB, rc, e0, m0, mr, mA, mn⟩ := (HM5.out.below HB.out).at_ hlt
        subst e0
        have hmem : more[j] ∈ more := List.getElem_mem hlt
        have hkl := HP.out.long _ hmem
        have HTH := Lib.hid (HP.out.there _ hmem)
        have htk : (more.take (j + 1)).map (keyAt kk) = (more.take j).map (keyAt kk) ++ [keyAt kk more[j]] := by rw [List.take_succ_eq_append_getElem hlt, List.map_append]; rfl
        have HTK := Lib.hid htk
        have HROW := Lib.hid (show Rw wr (.slice rB more[j].length rc) more[j] from ⟨rB, rc, rfl, mr, mA, mn⟩)
        clear htk hmem mA
        generalize more[j] = r at m0 mr mn hkl HTH HTK HROW
        obtain ⟨bd, e1, k0, k1, k2⟩ := mr.at_ hkl
        subst e1
        have ek : keyAt kk r = r[kk] := by unfold keyAt; rw [List.getD_eq_getElem?_getD, List.getElem?_eq_getElem hkl]; rfl
        rw [← ek] at k0 k1 k2
        generalize keyAt kk r = v at k0 k1 k2 HTH HTK
        have x2 : wr.cell? ⟨w.heap.size, 2, none⟩ = some (.int .i64 (kk : Int)) := by rw [← HP.out.key]; exact (HX5.out.below HB.out).c2
        have hlt' : (j : Int) < (more.length : Int) := by omega
        have hkl' : (kk : Int) < (r.length : Int) := by omega
        clear mr
        have hz := below1 wr (.cells #[.int .i64 0, .int .i64 0, .string ⟨#[]⟩] 39)
        have x2' := (hz.cell (p := ⟨w.heap.size, 2, none⟩) (cell_lt x2)).trans x2
        have m0' := (hz.cell (cell_lt m0)).trans m0
        have k0' := (hz.cell (cell_lt k0)).trans k0
        have k1' := (hz.cell (p := ⟨(bd.add (kk * 3)).block, (bd.add (kk * 3)).off + 1, none⟩) (cell_lt k1)).trans k1
        have k2' := (hz.cell (p := ⟨(bd.add (kk * 3)).block, (bd.add (kk * 3)).off + 2, none⟩) (cell_lt k2)).trans k2
        clear hz
        go_upto_region 13 with fail
        go_region
        clear x2' m0' k0' k1' k2' x2 k0 k1 k2
        have hbk : Below wr.heap.size wr (wr.alloc (.cells #[.int .i64 v.k, .int .i64 v.n, .string v.s] 39)).drew := (below1 wr _).drew
        have hV : Row (wr.alloc (.cells #[.int .i64 v.k, .int .i64 v.n, .string v.s] 39)).drew wr.heap.size [v] := (Row.new wr v 39 wr.heap.size rfl).below (Below.refl _ _).drew
        have HV := Lib.hid hV
        have HBK := Lib.hid (thn HB.out hbk)
        have HOK := Lib.hid (own_below HO.out hbk)
        have HRK := Lib.hid (HROW.out.below hbk)
        have m1 := (hbk.cell (cell_lt m0)).trans m0
        have M1 := Lib.hid m1
        clear hbk hV m0 m1 HO HROW HB
        generalize (wr.alloc (.cells #[.int .i64 v.k, .int .i64 v.n, .string v.s] 39)).drew = wk at *
        generalize wr.heap.size = kb at *
        obtain ⟨u0, u1, u2, u3⟩ := HU5.out.below HBK.out
        obtain ⟨v0, v1, v2, _, _, _⟩ := HV.out.one
        have hkn : t.key.toNat = kk := by rw [HP.out.key]; exact Int.toNat_natCast kk
        go_upto_region 15 with (
          (go_at_call 10; refine (rFind_any t dA jA dc jc A4 a.length c4 a v _ (HT5.out.below HBK.out) rfl (HA5.out.below HBK.out) HP.out.is).mono ?_; rintro e w7 ⟨rfl, hb⟩; rw [hkn, HTH.out.1]; have HB7 := Lib.hid hb; clear hb))
        clear u0 u1 u2 u3 v0 v1 v2
        have hpos := (List.getElem?_eq_some_iff.1 HTH.out.2).1
        obtain ⟨ad4, e4, hc4⟩ := (HA5.out.below (thn HBK.out HB7.out)) (by intro e; rw [e] at hpos; simp at hpos)
        obtain ⟨c4v, n0, dB, dc4, rfl, dr, dA4, dn⟩ := hc4 _ _ HTH.out.2
        have HM7 := Lib.hid (HM5.out.below (thn HBK.out HB7.out))
        have HR7 := Lib.hid (HRK.out.below HB7.out)
        have hs : ∀ W, Below w7.heap.size w7 W → Calls Try.prog 11 #[.slice dB r.length dc4, .slice (some bd) r.length rc] W fun e w' => e = .returned (.bool true) ∧ Below W.heap.size W w' := fun W hb => by
          obtain ⟨B9, c9, e9, hr9, _, _⟩ := HR7.out
          injection e9 with e91 _ e92
          subst e91 e92
          exact sameRow_eq dB (some bd) dc4 rc r.length r W rfl (dr.below hb) (hr9.below hb) (by omega)
        have HS := Lib.hid hs
        have hnb : ∀ W, Calls Try.prog 8 #[.int .i64 0] W fun e w' => e = .returned (.int .i64 0) ∧ Below W.heap.size W w' := fun W => (num_any 0 W).mono fun e w' h => ⟨h.1, h.2 ▸ Below.refl _ _⟩
        have m1 := (HB7.out.cell (cell_lt M1.out)).trans M1.out
        have p0 := cell_regrown m1
        have q0 := cell_regrown n0
        have hpos' : (pos kk a v : Int) < (a.length : Int) := by omega
        subst e4
        clear hs m1 n0 dr hc4
        generalize pos kk a v = P at p0 q0 hpos hpos' HTH ⊢
        refine wp_region_quiet_below (by kernel_rfl) (by kernel_rfl) ?_
        repeat (go_big_quiet_step (first | (with_reducible exact Calls.regrown_of (hnb _)) | (with_reducible exact Calls.regrown_of (HS.out _ (below_regrown _ _ _)))))
        refine wpQuiet_nil ?_
        intro w8 hw8
        obtain ⟨pp, rfl⟩ := hw8
        have HB8 := Lib.hid (below_regrown w7 pp.d pp.os)
        clear p0 q0 HS hnb
        generalize grow (redrawn w7 pp.d) pp.os = w8 at HB8 ⊢
        have HBX := Lib.hid (thn HB7.out HB8.out)
        have HO8 := Lib.hid (own_below HOK.out HBX.out)
        have HB9 := Lib.hid (thn HBK.out HBX.out)
        have HV8 := Lib.hid (HV.out.below HBX.out)
        clear HOK HBK HB7 HB8 HBX HV HTH HM7 HR7 HRK M1
        obtain ⟨v0, v1, v2, _, _, _⟩ := HV8.out.one
        have hjl : j ≤ 255 := by have := HP.out.len; have := HP.out.few; omega
        have hsz := HB9.out.size
        go_wp2_with (at_builtin; refine wpList_append_own_at _ rfl _ _ 37 rfl w5.heap.size 39 i0 (.agg #[.int .i64 0, .int .i64 0, .string ⟨#[]⟩]) 3 32 Try.underlying37 hi0 hz0 hz1 hz2 rfl (by decide) _ _ _ rfl (HO8.out.alloc _) ⟨w8.heap.size, 0, none⟩ 1 1 [.int .i64 v.k, .int .i64 v.n, .string v.s] rfl rfl ?c1 ?c2 ?c3 ?c4 ?c5 ?_)
        case c1 =>
          intro t u ht
          match t, ht with
          | 0, ht => simp at ht; subst ht; rw [add_lit, cell_last _ _ _ _ _ rfl]; rfl
          | 1, ht => simp at ht; subst ht; rw [add_lit, cell_last _ _ _ _ _ rfl]; rfl
          | 2, ht => simp at ht; subst ht; rw [add_lit, cell_last _ _ _ _ _ rfl]; rfl
          | t + 3, ht => simp at ht
        case c2 => intro u hu; simp at hu; rcases hu with rfl | rfl | rfl <;> rfl
        case c3 => unfold maxLen; omega
        case c4 => omega
        case c5 => simp; omega
        intro v' w9 hown hg _ _
        have hown' : w9.ownsRow w5.heap.size 39 3 v' (j + 1) (vals ((more.take (j + 1)).map (keyAt kk))) := by rw [HTK.out, vals_append, List.map_take]; exact hown
        have HO9 := Lib.hid hown'
        have HBZ := Lib.hid ((HB9.out.alloc hsz _).grown hg (by simp; omega) (fun k hk => (HO8.out.lt k hk).1))
        clear hown hown' hg
        go_wp2
        go_roundw
        case rel => exact ⟨j + 1, by go_num, hlt, HO9.out, HBZ.out⟩
        case measure => simp [intOf]; omega
      · obtain rfl : j = more.length := by omega
        have hf := HP.out.few
        have hl := HP.out.len
        have ho2 : OwnV wr w5.heap.size u10 (more.map (keyAt kk)) := by have := HO.out; rw [List.take_length] at this; unfold OwnV; rw [List.length_map]; exact this
        obtain ⟨K9, k9, ek, hkr, hkA, hkb⟩ := ho2.rw (by rw [List.length_map]; omega)
        rw [List.length_map] at ek
        subst ek
        have HKR := Lib.hid hkr
        have HD := Lib.hid (rDelete_any t dA jA dc jc A4 K9 a.length c4 more.length k9 a (more.map (keyAt kk)) wr (HT5.out.below HB.out) rfl (HA5.out.below HB.out) HAN4.out (by omega) (by rw [List.length_map]) hkr (by rw [List.length_map]; omega))
        have HU9 := Lib.hid (HU5.out.below HB.out)
        clear hkr hkA hkb ho2 hl hf hlen hfew
        obtain ⟨u0, u1, u2, u3⟩ := HU9.out
        go_wp2_with (first
          | (go_at_call 8; refine (num_any _ _).mono ?_; rintro e w9 ⟨rfl, rfl⟩)
          | (go_at_call 12; (with_reducible refine HD.out.mono ?_); intro e w6 hp; rw [HP.out.back] at hp; obtain ⟨A6, c6, he, hr6, _⟩ := hp.2.1 rfl; have hb := hp.2.2; subst he; have HR6 := Lib.hid hr6; have HB6 := Lib.hid hb; have HL6 := Lib.hid (HR5.out.below (thn HB.out hb)); clear hp hr6 hb)
          | (go_at_call 13; (with_reducible refine (sameRows_eq A6 A c6 c ls.length ls _ rfl HR6.out HL6.out HLN.out).mono ?_); rintro e w7 ⟨rfl, hb⟩; have HB7 := Lib.hid hb; clear hb))
        go_ret
        exact ⟨rfl, thn (thn HBW.out HB.out) (thn HB6.out HB7.out)⟩
  · have e4 := H41.out h0
    generalize (insR t ls more).1 = E4 at h0 ⊢
    subst e4
    clear H41 H42
    go_wp2_with (go_at_call 8; refine (num_any _ _).mono ?_; rintro e w9 ⟨rfl, rfl⟩)
    go_ret
    exact ⟨rfl, HB4.out⟩
end Go.Proofs.Ytjbebhhoakmceaa
