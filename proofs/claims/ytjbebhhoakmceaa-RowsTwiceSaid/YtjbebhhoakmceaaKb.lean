/- RowsTwice of any table, rows and row: the walk. Conditions: arguments that are read in memory, of lengths that every machine keeps. -/
import Derived.Test.YtjbebhhoakmceaaKa
namespace Go.Proofs.Ytjbebhhoakmceaa
open Go.RowKit Go.Sort
set_option linter.unusedSimpArgs false
set_option linter.unusedVariables false

theorem TurnPost.all {w : World} {R : Int × List (List Vl)} {e : Ending} {w' : World} (h : TurnPost w R e w') : ∃ A n c, e = .returned (.tuple #[.slice A n c, .int .i64 R.1]) ∧ (R.1 ≠ 0 → n = 0) ∧ (R.1 = 0 → n = R.2.length ∧ RdR w' A R.2 ∧ (A = none → n = 0)) ∧ Below w.heap.size w w' := by
  by_cases h0 : R.1 = 0
  · obtain ⟨A, c, he, hr, hA⟩ := h.2.1 h0
    exact ⟨A, R.2.length, c, by rw [he, h0], fun hn => absurd h0 hn, fun _ => ⟨rfl, hr, hA⟩, h.2.2⟩
  · exact ⟨none, 0, 0, h.1 h0, fun _ => rfl, fun hn => absurd hn h0, h.2.2⟩
theorem Rw.is {w : World} {rB : Option Addr} {rc : Nat} {r : List Vl} (h : RdL w rB r) (hA : rB = none → r.length = 0) (hn : r.length * 32 ≤ 140737488355328) : Rw w (.slice rB r.length rc) r := ⟨rB, rc, rfl, h, hA, hn⟩

set_option maxRecDepth 100000 in
set_option maxHeartbeats 8000000 in
theorem kTwice_any (t : Tb) (cA iA : Option Addr) (cc ic : Nat) (A : Option Addr) (c : Nat) (ls : List (List Vl)) (rv : Value) (r : List Vl) (w : World) (hc : RdC w cA t.cols) (hx : RdX w iA t.idx) (hcA : cA = none → t.cols.length = 0 ∧ cc = 0) (hn : t.cols.length * 32 ≤ 140737488355328) (hk : t.idx.length * 24 ≤ 140737488355328 - 24)
    (hr : RdR w A ls) (hA : A = none → ls.length = 0) (hln : ls.length ≤ 9223372036854775807) (hrv : Rw w rv r) :
    Calls Try.prog 4 #[tbl t.m cA t.cols.length cc t.key iA t.idx.length ic, .slice A ls.length c, rv] w fun e w' => e = .returned (.bool true) ∧ Below w.heap.size w w' := by
  obtain ⟨rB, rc, rfl, hrl, hrA, hrn⟩ := hrv
  have HRV := Lib.hid (Rw.is (rc := rc) hrl hrA hrn)
  have HAL := Lib.hid fun W => alive_any W
  have HOF := Lib.hid fun (W : World) (hb : Below w.heap.size w W) => of_any t cA iA cc ic W (hc.below hb) (hx.below hb) hcA hn hk
  have HR := Lib.hid hr
  have HAN := Lib.hid hA
  have HX := Lib.hid (Box4.new w t.m cA t.cols.length cc t.key iA t.idx.length ic 25)
  have HB0 := Lib.hid (below1 w (.cells #[.string t.m, .slice cA t.cols.length cc, .int .i64 t.key, .slice iA t.idx.length ic] 25))
  have HLN := Lib.hid hln
  clear hc hx hcA hn hk hr hA hrl hrA hrn hln
  go_enter Try.func4, Try.ntmps4
  go_upto_region 4 with (first
    | (go_at_call 5; (with_reducible refine (HAL.out _).mono ?_); rintro e w1 ⟨rfl, hb⟩; obtain ⟨x0, x1, x2, x3⟩ := HX.out.below hb; have HB1 := Lib.hid (thn HB0.out hb); clear hb)
    | (go_at_call 6; (with_reducible refine (HOF.out _ HB1.out).mono ?_); rintro e w2 ⟨dA, dc, jA, jc, rfl, ht, hb⟩; have HT2 := Lib.hid ht; have HB2 := Lib.hid (thn HB1.out hb); clear ht hb))
  have HU := Lib.hid (Box4.new w2 t.m dA t.cols.length dc t.key jA t.idx.length jc 30)
  have HT3 := Lib.hid (HT2.out.below (below1 w2 (.cells #[.string t.m, .slice dA t.cols.length dc, .int .i64 t.key, .slice jA t.idx.length jc] 30)))
  have HB3 := Lib.hid (thn HB2.out (below1 w2 (.cells #[.string t.m, .slice dA t.cols.length dc, .int .i64 t.key, .slice jA t.idx.length jc] 30)))
  clear x0 x1 x2 x3 HB1 HB2 HT2 HX HB0 HOF HAL
  generalize (w2.alloc (.cells #[.string t.m, .slice dA t.cols.length dc, .int .i64 t.key, .slice jA t.idx.length jc] 30)) = w3 at HU HT3 HB3 ⊢
  generalize w2.heap.size = ub at HU ⊢
  have HR3 := Lib.hid (HR.out.below HB3.out)
  have HRV3 := Lib.hid (HRV.out.below HB3.out)
  obtain ⟨u0, u1, u2, u3⟩ := HU.out
  go_upto_region 5 with (
    (go_at_call 7; (with_reducible refine (rInsert_any t dA jA dc jc A (some ⟨w3.heap.size, 0, none⟩) ls.length c 1 1 ls [r] _ (HT3.out.below (below1 _ _)) rfl (HR3.out.below (below1 _ _)) HAN.out HLN.out rfl (new_Rw1 w3 _ _ _ _ rfl HRV3.out) (by simp)).mono ?_); intro e w4 hp; obtain ⟨A4, n4, c4, rfl, h41, h42, hb⟩ := hp.all; have H41 := Lib.hid h41; have H42 := Lib.hid h42; have HB34 := Lib.hid (thn (below1 _ _) hb); clear hp h41 h42 hb))
  have HB4 := Lib.hid (thn HB3.out HB34.out)
  have HR4 := Lib.hid (HR3.out.below HB34.out)
  have HRV4 := Lib.hid (HRV3.out.below HB34.out)
  have HT4 := Lib.hid (HT3.out.below HB34.out)
  have HU4 := Lib.hid (HU.out.below HB34.out)
  clear u0 u1 u2 u3 HU HT3 HB3 HR3 HRV3 HB34 HR HRV
  obtain ⟨u0, u1, u2, u3⟩ := HU4.out
  go_upto_region 6 with (
    (go_at_call 7; (with_reducible refine (rInsert_any t dA jA dc jc A (some ⟨w4.heap.size, 0, none⟩) ls.length c 2 2 ls [r, r] _ (HT4.out.below (below1 _ _)) rfl (HR4.out.below (below1 _ _)) HAN.out HLN.out rfl (new_Rw2 w4 _ _ _ _ rfl HRV4.out) (by simp)).mono ?_); intro e w5 hp; obtain ⟨A5, n5, c5, rfl, h51, h52, hb⟩ := hp.all; have H51 := Lib.hid h51; have HB45 := Lib.hid (thn (below1 _ _) hb); clear hp h51 h52 hb))
  have HB5 := Lib.hid (thn HB4.out HB45.out)
  have HRV5 := Lib.hid (HRV4.out.below HB45.out)
  have HT5 := Lib.hid (HT4.out.below HB45.out)
  have HU5 := Lib.hid (HU4.out.below HB45.out)
  clear u0 u1 u2 u3 HU4 HT4 HB4 HR4 HRV4
  by_cases h0 : (insR t ls [r]).1 = 0
  · obtain ⟨e4, hr4, hA4⟩ := H42.out h0
    obtain ⟨kk, hp⟩ := put_of h0
    have hn4 : (insR t ls [r]).2.length ≤ 9223372036854775807 := by have := hp.few; omega
    have h2 := twice_ok h0
    have h3 := twice_next h0
    have e5 := H51.out (by rw [h2]; decide)
    generalize (insR t ls [r, r]).1 = E5 at h2 ⊢
    generalize (insR t ls [r]).1 = E4 at h0 ⊢
    generalize (insR t ls [r]).2 = a at *
    subst h0 h2 e4 e5
    have HR5 := Lib.hid (hr4.below HB45.out)
    have HA5 := Lib.hid hA4
    have HN5 := Lib.hid hn4
    have H3 := Lib.hid h3
    clear hr4 hA4 hp hn4 h3 H41 H42 H51 HB45
    obtain ⟨u0, u1, u2, u3⟩ := HU5.out
    go_wp2_with (first
      | (go_at_call 8; refine (num_any _ _).mono ?_; rintro e w9 ⟨rfl, rfl⟩)
      | (go_at_call 7; (with_reducible refine (rInsert_any t dA jA dc jc A4 (some ⟨w5.heap.size, 0, none⟩) a.length c4 1 1 a [r] _ (HT5.out.below (below1 _ _)) rfl (HR5.out.below (below1 _ _)) HA5.out HN5.out rfl (new_Rw1 w5 _ _ _ _ rfl HRV5.out) (by simp)).mono ?_); intro e w6 hp; obtain ⟨A6, n6, c6, rfl, h61, h62, hb⟩ := hp.all; obtain rfl := h61 (by rw [H3.out]; decide); have HB6 := Lib.hid (thn HB5.out (thn (below1 _ _) hb)); rw [H3.out]; clear hp h61 h62 hb))
    go_ret
    exact ⟨rfl, HB6.out⟩
  · have e4 := H41.out h0
    have h2 := twice_bad h0
    have e5 := H51.out (by rw [h2]; exact h0)
    generalize (insR t ls [r, r]).1 = E5 at h2 ⊢
    generalize (insR t ls [r]).1 = E4 at h0 h2 ⊢
    subst h2 e4 e5
    clear H41 H42 H51 HB45
    go_wp2_with (go_at_call 8; refine (num_any _ _).mono ?_; rintro e w9 ⟨rfl, rfl⟩)
    go_ret
    exact ⟨rfl, HB5.out⟩
end Go.Proofs.Ytjbebhhoakmceaa
