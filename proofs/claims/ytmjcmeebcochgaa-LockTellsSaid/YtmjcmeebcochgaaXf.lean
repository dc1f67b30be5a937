/- The reference's Readers over any state: the walk. Conditions: a state that is read in memory. -/
import Derived.Test.YtmjcmeebcochgaaXe
import Derived.Test.YtmjcmeebcochgaaWa
namespace Go.Proofs.Ytmjcmeebcochgaa
open Go.RowKit Go.Sort Go.Maps
set_option linter.unusedSimpArgs false
set_option linter.unusedVariables false

theorem comp_last : ∀ r : List Int, (comp r).getLast? = r.getLast?
  | [] => rfl
  | [a] => rfl
  | a :: b :: r => by
    have ih := comp_last (b :: r)
    obtain ⟨s, hs⟩ := comp_cons_head b r
    have e1 : comp (a :: b :: r) = a :: (if a = b then s else b :: s) := by rw [comp, hs]
    rw [hs] at ih
    have e2 : (a :: b :: r).getLast? = (b :: r).getLast? := by simp
    rw [e1, e2, ← ih]
    by_cases h : a = b
    · rw [if_pos h, h]
    · rw [if_neg h]; simp
theorem form_ofI {w : World} {B : Nat} {e : TypeId} {v : Value} {n : Nat} {xs : List Value} (h : w.ownsRow B e 1 v n xs) : ∃ A m c, v = .slice A n c ∧ m = n := by
  rcases h.2 with ⟨h', hn⟩ | ⟨g, cap, cur, h', _⟩
  · subst hn; exact ⟨none, 0, 0, h', rfl⟩
  · exact ⟨_, n, cap, h', rfl⟩
theorem own_last {w : World} {B : Nat} {A : Option Addr} {c : Nat} {C : List Int} (h : w.ownsRow B 3 1 (.slice A C.length c) C.length (encN C)) (hC : 0 < C.length) : ∃ ad, A = some ad ∧ w.cell? (ad.add (C.length - 1)) = some (.int .i64 (C[C.length - 1]'(by omega))) := by
  obtain ⟨g, cap, e⟩ := ownsRow_some h hC
  injection e with e1 _ _
  subst e1
  exact ⟨_, rfl, h.cells (g := g) rfl (C.length - 1) _ (by simp [encN, List.getElem?_eq_getElem (show C.length - 1 < C.length by omega)])⟩
theorem own_cap {w : World} {B : Nat} {A : Option Addr} {n c : Nat} {xs : List Value} {e : TypeId} (h : w.ownsRow B e 1 (.slice A n c) n xs) : n ≤ c ∧ c ≤ 9223372036854775807 := by
  rcases h.2 with ⟨h', hn⟩ | ⟨g, cap, cur, h', _, _, h2, h3, _⟩
  · injection h' with _ _ e; subst hn; omega
  · injection h' with _ _ e
    subst e
    unfold maxLen at h3
    exact ⟨h2, h3⟩
/-- The reference's step. -/
theorem comp_step (C : List Int) (F : List Int) (hC : C = comp F) (x : Int) : comp (F ++ [x]) = if C = [] then [x] else if C.getLast? = some x then C else C ++ [x] := by
  have h := comp_last F
  rw [comp_snoc, ← h, ← hC]
  by_cases h0 : C = []
  · subst h0; simp
  · simp only [h0, if_false]
set_option maxRecDepth 100000 in
set_option maxHeartbeats 8000000 in
theorem rReaders_bad (A : Option Addr) (n c : Nat) (l : List Lk) (k : Key) (w : World) (hr : Rd w A n c l) (h : ¬ Ok l) :
    Calls Try.prog 15 #[.agg #[.slice A n c], .string k.s] w (PairI [] 9 w) := by
  have HC := Lib.hid fun W (hb : Below w.heap.size w W) => rCheck_any A n c l W (hr.below hb)
  rw [chk_bad h] at HC
  have HB0 := Lib.hid (below1 w (.cells #[.slice A n c] 24))
  clear hr h
  go_enter Try.func15, Try.ntmps15
  go_wp2_with (go_at_call 23; (with_reducible refine (HC.out _ HB0.out).mono ?_); rintro e w1 ⟨rfl, hb⟩; have HB1 := Lib.hid (thn HB0.out hb); clear hb)
  go_ret2
  exact ⟨none, 0, 0, rfl, RdI.nothing _, HB1.out⟩
set_option maxRecDepth 100000 in
set_option maxHeartbeats 16000000 in
theorem rReaders_ok (A : Option Addr) (n c : Nat) (l : List Lk) (k : Key) (w : World) (hr : Rd w A n c l) (h : Ok l) :
    Calls Try.prog 15 #[.agg #[.slice A n c], .string k.s] w (PairI (comp (who l k)) 0 w) := by
  obtain ⟨i0, hi, hz0, hz1, hz2⟩ := info_parts Try.infoI
  have hl := hr.len
  subst hl
  have hcap := hr.cap
  have HC := Lib.hid fun W (hb : Below w.heap.size w W) => rCheck_any A l.length c l W (hr.below hb)
  rw [chk_good h] at HC
  have HR := Lib.hid hr
  have hl5 := h.1
  have hb0 := below1 w (.cells #[.slice A l.length c] 24)
  have hs0 := cell_last w #[.slice A l.length c] 24 w.heap.size 0 rfl
  clear hr h
  go_enter Try.func15, Try.ntmps15
  go_upto_region 1 with fail
  generalize w.alloc (.cells #[.slice A l.length c] 24) = w00 at hb0 hs0 ⊢
  have HB0 := Lib.hid hb0
  have hs0' : w00.cell? ⟨w.heap.size, 0, none⟩ = some (.slice A l.length c) := hs0
  clear hb0 hs0
  go_upto_region 3 with (go_at_call 23; (with_reducible refine (HC.out _ HB0.out).mono ?_); rintro e w0 ⟨rfl, hb⟩; have HB1 := Lib.hid (thn HB0.out hb); have HS1 := Lib.hid (cell_keep hs0' hb); clear hb)
  clear hs0' HB0 HC
  go_wp2
  go_loopw [6, 7, 8] (fun v i _ wr => ∃ (j : Nat) (A1 : Option Addr) (c1 : Nat), i = .int .i64 j ∧ j ≤ l.length ∧ v = .slice A1 (comp (who (l.take j) k)).length c1 ∧ wr.ownsRow w0.heap.size 3 1 (.slice A1 (comp (who (l.take j) k)).length c1) (comp (who (l.take j) k)).length (encN (comp (who (l.take j) k))) ∧ Below w0.heap.size w0 wr) (fun _ i _ _ => l.length - (intOf i).toNat)
  case atStart => exact ⟨0, none, 0, rfl, by omega, rfl, World.ownsRow_nil _ _ _ _, Below.refl _ _⟩
  case round =>
    obtain ⟨j, A1, c1, rfl, hj, rfl, hO, hB⟩ := hrel
    have HO := Lib.hid hO
    have HB := Lib.hid hB
    have hs := cell_keep HS1.out hB
    have hgs : w.heap.size < wr.heap.size := cell_lt hs
    clear hO hB
    by_cases hlt : j < l.length
    · obtain ⟨ad, rfl, c0, c1', c2⟩ := (HR.out.below (thn HB1.out HB.out)).at_ hlt
      have hb0 := cell_lt c0
      rw [add_block] at hb0
      have HST := Lib.hid (who_step (k := k) hlt)
      have hwl := Nat.le_trans (comp_len (who (l.take j) k)) (who_len l k j)
      have HCS := Lib.hid fun x => comp_step (comp (who (l.take j) k)) (who (l.take j) k) rfl x
      have HIN := Lib.hid fun v : Lk => in_of v k
      generalize hcc : comp (who (l.take j) k) = C at *
      have HCC := Lib.hid hcc
      clear hcc
      generalize who (l.take j) k = F at *
      generalize l[j] = v at *
      have HCL := Lib.hid (Nat.le_trans hwl hl5)
      clear hwl
      have hjl : (j : Int) < (l.length : Int) := by omega
      have HB1 := Lib.hid (thn HB.out (below1 wr (.cells #[.int .i64 v.t, .string v.lo.s, .string v.hi.s] 26)))
      have HO1 := Lib.hid (own_below HO.out (below1 wr (.cells #[.int .i64 v.t, .string v.lo.s, .string v.hi.s] 26)))
      have HV1 := Lib.hid (Box.newR wr v)
      have hoc := own_cap HO.out
      go_upto_region 8 with fail
      clear c0 c1' c2 hs hgs hb0 HO
      generalize wr.alloc (.cells #[.int .i64 v.t, .string v.lo.s, .string v.hi.s] 26) = W1 at *
      generalize wr.heap.size = gv at *
      obtain ⟨v0, v1, v2⟩ := HV1.out.three
      have z0 := cell_regrown v0
      have z1 := cell_regrown v1
      have z2 := cell_regrown v2
      clear v0 v1 v2
      have hin := HIN.out v
      generalize hL : (Op.bytesLess v.lo.s.toList k.s.toList || v.lo.s.toList == k.s.toList) = L at *
      generalize hH : v.hi.s.toList.isEmpty = H at *
      generalize hS : Op.bytesLess k.s.toList v.hi.s.toList = S at *
      have HI := Lib.hid hin
      clear hin HIN
      cases L
      · have HS3 : Hid (comp (who (l.take (j + 1)) k) = C) := Lib.hid (by rw [HST.out, HI.out]; simp; exact HCC.out)
        refine wp_region_quiet_below (by kernel_rfl) (by kernel_rfl) ?_
        repeat (go_big_quiet_step (fail))
        refine wpQuiet_nil ?_
        intro w5 hw5
        obtain ⟨pp, rfl⟩ := hw5
        have hbr := below_regrown W1 pp.d pp.os
        have HB5 := Lib.hid (thn HB1.out hbr)
        have HO5 := Lib.hid (own_below HO1.out hbr)
        have y0 := z0 pp.d pp.os
        clear z0 z1 z2 hbr
        generalize grow (redrawn W1 pp.d) pp.os = W5 at *
        have hgv5 : gv < W5.heap.size := cell_lt y0
        go_wp2
        go_roundw
        case rel => exact ⟨j + 1, _, c1, by go_num, hlt, by rw [HS3.out], by rw [HS3.out]; exact HO5.out, HB5.out⟩
        case measure => simp [intOf]; omega
      · cases H
        · cases S
          · have HS3 : Hid (comp (who (l.take (j + 1)) k) = C) := Lib.hid (by rw [HST.out, HI.out]; simp; exact HCC.out)
            refine wp_region_quiet_below (by kernel_rfl) (by kernel_rfl) ?_
            repeat (go_big_quiet_step (fail))
            refine wpQuiet_nil ?_
            intro w5 hw5
            obtain ⟨pp, rfl⟩ := hw5
            have hbr := below_regrown W1 pp.d pp.os
            have HB5 := Lib.hid (thn HB1.out hbr)
            have HO5 := Lib.hid (own_below HO1.out hbr)
            have y0 := z0 pp.d pp.os
            clear z0 z1 z2 hbr
            generalize grow (redrawn W1 pp.d) pp.os = W5 at *
            have hgv5 : gv < W5.heap.size := cell_lt y0
            go_wp2
            go_roundw
            case rel => exact ⟨j + 1, _, c1, by go_num, hlt, by rw [HS3.out], by rw [HS3.out]; exact HO5.out, HB5.out⟩
            case measure => simp [intOf]; omega
          · have HS2 : Hid (who (l.take (j + 1)) k = F ++ [v.t]) := Lib.hid (by rw [HST.out, HI.out]; simp)
            by_cases h0 : C = []
            · have hc0 : C.length = 0 := by rw [h0]; rfl
              have HS3 : Hid (comp (who (l.take (j + 1)) k) = C ++ [v.t]) := Lib.hid (by rw [HS2.out, HCS.out, if_pos h0, h0]; rfl)
              have hd : (((C.length : Nat) : Int) == 0) = true := by rw [hc0]; rfl
              have hd2 : (C.length == 0) = true := by rw [hc0]; rfl
              have HC0 := Lib.hid hc0
              clear h0 hc0
              refine wp_region_quiet_below (by kernel_rfl) (by kernel_rfl) ?_
              repeat (go_big_quiet_step (fail))
              refine wpQuiet_nil ?_
              intro w5 hw5
              obtain ⟨pp, rfl⟩ := hw5
              have hbr := below_regrown W1 pp.d pp.os
              have HB5 := Lib.hid (thn HB1.out hbr)
              have HO5 := Lib.hid (own_below HO1.out hbr)
              have y0 := z0 pp.d pp.os
              clear z0 z1 z2 hbr
              generalize grow (redrawn W1 pp.d) pp.os = W5 at *
              have hgv5 : gv < W5.heap.size := cell_lt y0
              have HB6 := Lib.hid (thn HB5.out (below1 W5 (.cells #[.int .i64 v.t] 3)))
              have HO6 := Lib.hid (own_below HO5.out (below1 W5 (.cells #[.int .i64 v.t] 3)))
              have HZ6 := Lib.hid (show w0.heap.size ≤ (W5.alloc (.cells #[.int .i64 v.t] 3)).heap.size from HB6.out.size)
              go_wp2_with (at_builtin; refine wpList_append_own_at _ rfl _ _ 39 rfl w0.heap.size 3 i0 (.int .i64 0) 1 8 Try.underlying39 hi hz0 hz1 hz2 rfl (by decide) _ C.length _ rfl HO6.out ⟨W5.heap.size, 0, none⟩ 1 1 (encN [v.t]) rfl rfl (one_news W5 v.t) (one_one _) (by have := HCL.out; unfold maxLen; omega) (by have := HCL.out; omega) HZ6.out ?_; intro v3 w3 hown3 hg3 _ _; have hown4 : w3.ownsRow w0.heap.size 3 1 v3 (C ++ [v.t]).length (encN (C ++ [v.t])) := (by simpa [encN] using hown3); obtain ⟨A3, n3, c3, hv3, _⟩ := form_ofI hown4; subst hv3; have HO7 := Lib.hid hown4; have HB7 := Lib.hid (HB6.out.grown hg3 HZ6.out (fun k hk => (HO6.out.lt k hk).1)); clear hown3 hown4 hg3)
              go_roundw
              case rel => exact ⟨j + 1, A3, c3, by go_num, hlt, by rw [HS3.out]; simp, by rw [HS3.out]; exact HO7.out, HB7.out⟩
              case measure => simp [intOf]; omega
            · have hc0 : 0 < C.length := List.length_pos_iff.2 h0
              obtain ⟨ad1, rfl, u0⟩ := own_last HO1.out hc0
              have hlast : C.getLast? = some (C[C.length - 1]) := by rw [List.getLast?_eq_getElem?]; exact List.getElem?_eq_getElem (by omega)
              have hd : (((C.length : Nat) : Int) == 0) = false := by simp; omega
              have hd2 : (C.length == 0) = false := by simp; omega
              have hx1 : IntKind.i64.wrap ((C.length : Int) - 1) = (C.length : Int) - 1 := IntWalk.i64_in _ (by have := HCL.out; omega)
              have hx2 : ((C.length : Int) - 1).toNat = C.length - 1 := by omega
              have hx3 : (0 : Int) ≤ (C.length : Int) - 1 := by omega
              have hx4 : (C.length : Int) - 1 < (C.length : Int) := by omega
              have hx5 : (1 : Int) ≤ (C.length : Int) := by omega
              have p0 := cell_regrown u0
              have HCS2 := Lib.hid (HCS.out v.t)
              rw [hlast, if_neg h0] at HCS2
              generalize C[C.length - 1] = z at *
              clear u0 hlast h0
              by_cases hz : z = v.t
              · have hq : (z != v.t) = false := by simpa using hz
                have HS3 : Hid (comp (who (l.take (j + 1)) k) = C) := Lib.hid (by rw [HS2.out, HCS2.out, if_pos (by rw [hz])])
                clear hz
                refine wp_region_quiet_below (by kernel_rfl) (by kernel_rfl) ?_
                repeat (go_big_quiet_step (fail))
                refine wpQuiet_nil ?_
                intro w5 hw5
                obtain ⟨pp, rfl⟩ := hw5
                have hbr := below_regrown W1 pp.d pp.os
                have HB5 := Lib.hid (thn HB1.out hbr)
                have HO5 := Lib.hid (own_below HO1.out hbr)
                have y0 := z0 pp.d pp.os
                clear z0 z1 z2 p0 hbr hx1 hx2 hx3 hx4 hx5
                generalize grow (redrawn W1 pp.d) pp.os = W5 at *
                have hgv5 : gv < W5.heap.size := cell_lt y0
                go_wp2
                go_roundw
                case rel => exact ⟨j + 1, _, c1, by go_num, hlt, by rw [HS3.out], by rw [HS3.out]; exact HO5.out, HB5.out⟩
                case measure => simp [intOf]; omega
              · have hq : (z != v.t) = true := by simpa using hz
                have HS3 : Hid (comp (who (l.take (j + 1)) k) = C ++ [v.t]) := Lib.hid (by rw [HS2.out, HCS2.out, if_neg (by simpa using hz)])
                clear hz
                refine wp_region_quiet_below (by kernel_rfl) (by kernel_rfl) ?_
                repeat (go_big_quiet_step (fail))
                refine wpQuiet_nil ?_
                intro w5 hw5
                obtain ⟨pp, rfl⟩ := hw5
                have hbr := below_regrown W1 pp.d pp.os
                have HB5 := Lib.hid (thn HB1.out hbr)
                have HO5 := Lib.hid (own_below HO1.out hbr)
                have y0 := z0 pp.d pp.os
                clear z0 z1 z2 p0 hbr hx1 hx2 hx3 hx4 hx5
                generalize grow (redrawn W1 pp.d) pp.os = W5 at *
                have hgv5 : gv < W5.heap.size := cell_lt y0
                have HB6 := Lib.hid (thn HB5.out (below1 W5 (.cells #[.int .i64 v.t] 3)))
                have HO6 := Lib.hid (own_below HO5.out (below1 W5 (.cells #[.int .i64 v.t] 3)))
                have HZ6 := Lib.hid (show w0.heap.size ≤ (W5.alloc (.cells #[.int .i64 v.t] 3)).heap.size from HB6.out.size)
                go_wp2_with (at_builtin; refine wpList_append_own_at _ rfl _ _ 39 rfl w0.heap.size 3 i0 (.int .i64 0) 1 8 Try.underlying39 hi hz0 hz1 hz2 rfl (by decide) _ C.length _ rfl HO6.out ⟨W5.heap.size, 0, none⟩ 1 1 (encN [v.t]) rfl rfl (one_news W5 v.t) (one_one _) (by have := HCL.out; unfold maxLen; omega) (by have := HCL.out; omega) HZ6.out ?_; intro v3 w3 hown3 hg3 _ _; have hown4 : w3.ownsRow w0.heap.size 3 1 v3 (C ++ [v.t]).length (encN (C ++ [v.t])) := (by simpa [encN] using hown3); obtain ⟨A3, n3, c3, hv3, _⟩ := form_ofI hown4; subst hv3; have HO7 := Lib.hid hown4; have HB7 := Lib.hid (HB6.out.grown hg3 HZ6.out (fun k hk => (HO6.out.lt k hk).1)); clear hown3 hown4 hg3)
                go_roundw
                case rel => exact ⟨j + 1, A3, c3, by go_num, hlt, by rw [HS3.out]; simp, by rw [HS3.out]; exact HO7.out, HB7.out⟩
                case measure => simp [intOf]; omega
        · have HS2 : Hid (who (l.take (j + 1)) k = F ++ [v.t]) := Lib.hid (by rw [HST.out, HI.out]; simp)
          by_cases h0 : C = []
          · have hc0 : C.length = 0 := by rw [h0]; rfl
            have HS3 : Hid (comp (who (l.take (j + 1)) k) = C ++ [v.t]) := Lib.hid (by rw [HS2.out, HCS.out, if_pos h0, h0]; rfl)
            have hd : (((C.length : Nat) : Int) == 0) = true := by rw [hc0]; rfl
            have hd2 : (C.length == 0) = true := by rw [hc0]; rfl
            have HC0 := Lib.hid hc0
            clear h0 hc0
            refine wp_region_quiet_below (by kernel_rfl) (by kernel_rfl) ?_
            repeat (go_big_quiet_step (fail))
            refine wpQuiet_nil ?_
            intro w5 hw5
            obtain ⟨pp, rfl⟩ := hw5
            have hbr := below_regrown W1 pp.d pp.os
            have HB5 := Lib.hid (thn HB1.out hbr)
            have HO5 := Lib.hid (own_below HO1.out hbr)
            have y0 := z0 pp.d pp.os
            clear z0 z1 z2 hbr
            generalize grow (redrawn W1 pp.d) pp.os = W5 at *
            have hgv5 : gv < W5.heap.size := cell_lt y0
            have HB6 := Lib.hid (thn HB5.out (below1 W5 (.cells #[.int .i64 v.t] 3)))
            have HO6 := Lib.hid (own_below HO5.out (below1 W5 (.cells #[.int .i64 v.t] 3)))
            have HZ6 := Lib.hid (show w0.heap.size ≤ (W5.alloc (.cells #[.int .i64 v.t] 3)).heap.size from HB6.out.size)
            go_wp2_with (at_builtin; refine wpList_append_own_at _ rfl _ _ 39 rfl w0.heap.size 3 i0 (.int .i64 0) 1 8 Try.underlying39 hi hz0 hz1 hz2 rfl (by decide) _ C.length _ rfl HO6.out ⟨W5.heap.size, 0, none⟩ 1 1 (encN [v.t]) rfl rfl (one_news W5 v.t) (one_one _) (by have := HCL.out; unfold maxLen; omega) (by have := HCL.out; omega) HZ6.out ?_; intro v3 w3 hown3 hg3 _ _; have hown4 : w3.ownsRow w0.heap.size 3 1 v3 (C ++ [v.t]).length (encN (C ++ [v.t])) := (by simpa [encN] using hown3); obtain ⟨A3, n3, c3, hv3, _⟩ := form_ofI hown4; subst hv3; have HO7 := Lib.hid hown4; have HB7 := Lib.hid (HB6.out.grown hg3 HZ6.out (fun k hk => (HO6.out.lt k hk).1)); clear hown3 hown4 hg3)
            go_roundw
            case rel => exact ⟨j + 1, A3, c3, by go_num, hlt, by rw [HS3.out]; simp, by rw [HS3.out]; exact HO7.out, HB7.out⟩
            case measure => simp [intOf]; omega
          · have hc0 : 0 < C.length := List.length_pos_iff.2 h0
            obtain ⟨ad1, rfl, u0⟩ := own_last HO1.out hc0
            have hlast : C.getLast? = some (C[C.length - 1]) := by rw [List.getLast?_eq_getElem?]; exact List.getElem?_eq_getElem (by omega)
            have hd : (((C.length : Nat) : Int) == 0) = false := by simp; omega
            have hd2 : (C.length == 0) = false := by simp; omega
            have hx1 : IntKind.i64.wrap ((C.length : Int) - 1) = (C.length : Int) - 1 := IntWalk.i64_in _ (by have := HCL.out; omega)
            have hx2 : ((C.length : Int) - 1).toNat = C.length - 1 := by omega
            have hx3 : (0 : Int) ≤ (C.length : Int) - 1 := by omega
            have hx4 : (C.length : Int) - 1 < (C.length : Int) := by omega
            have hx5 : (1 : Int) ≤ (C.length : Int) := by omega
            have p0 := cell_regrown u0
            have HCS2 := Lib.hid (HCS.out v.t)
            rw [hlast, if_neg h0] at HCS2
            generalize C[C.length - 1] = z at *
            clear u0 hlast h0
            by_cases hz : z = v.t
            · have hq : (z != v.t) = false := by simpa using hz
              have HS3 : Hid (comp (who (l.take (j + 1)) k) = C) := Lib.hid (by rw [HS2.out, HCS2.out, if_pos (by rw [hz])])
              clear hz
              refine wp_region_quiet_below (by kernel_rfl) (by kernel_rfl) ?_
              repeat (go_big_quiet_step (fail))
              refine wpQuiet_nil ?_
              intro w5 hw5
              obtain ⟨pp, rfl⟩ := hw5
              have hbr := below_regrown W1 pp.d pp.os
              have HB5 := Lib.hid (thn HB1.out hbr)
              have HO5 := Lib.hid (own_below HO1.out hbr)
              have y0 := z0 pp.d pp.os
              clear z0 z1 z2 p0 hbr hx1 hx2 hx3 hx4 hx5
              generalize grow (redrawn W1 pp.d) pp.os = W5 at *
              have hgv5 : gv < W5.heap.size := cell_lt y0
              go_wp2
              go_roundw
              case rel => exact ⟨j + 1, _, c1, by go_num, hlt, by rw [HS3.out], by rw [HS3.out]; exact HO5.out, HB5.out⟩
              case measure => simp [intOf]; omega
            · have hq : (z != v.t) = true := by simpa using hz
              have HS3 : Hid (comp (who (l.take (j + 1)) k) = C ++ [v.t]) := Lib.hid (by rw [HS2.out, HCS2.out, if_neg (by simpa using hz)])
              clear hz
              refine wp_region_quiet_below (by kernel_rfl) (by kernel_rfl) ?_
              repeat (go_big_quiet_step (fail))
              refine wpQuiet_nil ?_
              intro w5 hw5
              obtain ⟨pp, rfl⟩ := hw5
              have hbr := below_regrown W1 pp.d pp.os
              have HB5 := Lib.hid (thn HB1.out hbr)
              have HO5 := Lib.hid (own_below HO1.out hbr)
              have y0 := z0 pp.d pp.os
              clear z0 z1 z2 p0 hbr hx1 hx2 hx3 hx4 hx5
              generalize grow (redrawn W1 pp.d) pp.os = W5 at *
              have hgv5 : gv < W5.heap.size := cell_lt y0
              have HB6 := Lib.hid (thn HB5.out (below1 W5 (.cells #[.int .i64 v.t] 3)))
              have HO6 := Lib.hid (own_below HO5.out (below1 W5 (.cells #[.int .i64 v.t] 3)))
              have HZ6 := Lib.hid (show w0.heap.size ≤ (W5.alloc (.cells #[.int .i64 v.t] 3)).heap.size from HB6.out.size)
              go_wp2_with (at_builtin; refine wpList_append_own_at _ rfl _ _ 39 rfl w0.heap.size 3 i0 (.int .i64 0) 1 8 Try.underlying39 hi hz0 hz1 hz2 rfl (by decide) _ C.length _ rfl HO6.out ⟨W5.heap.size, 0, none⟩ 1 1 (encN [v.t]) rfl rfl (one_news W5 v.t) (one_one _) (by have := HCL.out; unfold maxLen; omega) (by have := HCL.out; omega) HZ6.out ?_; intro v3 w3 hown3 hg3 _ _; have hown4 : w3.ownsRow w0.heap.size 3 1 v3 (C ++ [v.t]).length (encN (C ++ [v.t])) := (by simpa [encN] using hown3); obtain ⟨A3, n3, c3, hv3, _⟩ := form_ofI hown4; subst hv3; have HO7 := Lib.hid hown4; have HB7 := Lib.hid (HB6.out.grown hg3 HZ6.out (fun k hk => (HO6.out.lt k hk).1)); clear hown3 hown4 hg3)
              go_roundw
              case rel => exact ⟨j + 1, A3, c3, by go_num, hlt, by rw [HS3.out]; simp, by rw [HS3.out]; exact HO7.out, HB7.out⟩
              case measure => simp [intOf]; omega
    · obtain rfl : j = l.length := by omega
      have ho := HO.out
      rw [List.take_length] at ho ⊢
      have hwl := Nat.le_trans (comp_len (who l k)) (by have := who_len l k l.length; rwa [List.take_length] at this)
      generalize hC : comp (who l k) = C at *
      have HC := Lib.hid hC
      have HRI : Hid (RdI wr A1 C.length c1 C) := Lib.hid (by
        have hc := own_cap ho
        refine ⟨rfl, hc.1, hc.2, fun e => ?_, fun ad ea i u hi => ?_⟩
        · rcases Nat.eq_zero_or_pos C.length with h0 | h0
          · subst e
            rcases ho.2 with ⟨h', _⟩ | ⟨g, cap, cur, h', _⟩
            · injection h' with _ _ e2; exact ⟨h0, e2⟩
            · injection h' with e1 _ _; cases e1
          · obtain ⟨ad, e1, _⟩ := own_last ho h0
            rw [e] at e1; cases e1
        · subst ea
          have hlt := (List.getElem?_eq_some_iff.1 hi).1
          obtain ⟨g, cap, e⟩ := ownsRow_some ho (by omega)
          injection e with e1 _ _
          injection e1 with e1
          subst e1
          exact ho.cells (g := g) rfl i _ (by simp [encN, hi]))
      have HBE := Lib.hid (thn HB1.out HB.out)
      clear ho hwl hC HO
      go_wp2
      go_ret2
      exact ⟨A1, _, c1, rfl, by first | exact HRI.out | (rw [HC.out]; exact HRI.out), HBE.out⟩
/-- The reference's Readers at every state. -/
theorem rReaders_any (A : Option Addr) (n c : Nat) (l : List Lk) (k : Key) (w : World) (hr : Rd w A n c l) :
    Calls Try.prog 15 #[.agg #[.slice A n c], .string k.s] w (PairI (rdsR l k).1 (rdsR l k).2 w) := by
  unfold rdsR
  by_cases h : Ok l
  · simp only [h, if_true]
    exact rReaders_ok A n c l k w hr h
  · simp only [h, if_false]
    exact rReaders_bad A n c l k w hr h
end Go.Proofs.Ytmjcmeebcochgaa
