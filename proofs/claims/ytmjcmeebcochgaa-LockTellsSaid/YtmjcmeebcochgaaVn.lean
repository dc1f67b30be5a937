/- Readers of package lock over any state: the walk. Conditions: a state that is read in memory. -/
import Derived.Test.YtmjcmeebcochgaaVm
namespace Go.Proofs.Ytmjcmeebcochgaa
open Go.RowKit Go.Sort Go.Maps
set_option linter.unusedSimpArgs false
set_option linter.unusedVariables false

theorem who_step {l : List Lk} {k : Key} {j : Nat} (hj : j < l.length) : who (l.take (j + 1)) k = if hasB k l[j] = true then who (l.take j) k ++ [l[j].t] else who (l.take j) k := by
  unfold who
  rw [filter_step hj]
  split
  · rw [List.map_append]; rfl
  · rfl
theorem who_len (l : List Lk) (k : Key) (j : Nat) : (who (l.take j) k).length ≤ l.length := by
  unfold who
  rw [List.length_map]
  exact flt_len _ _ _
theorem one_news (W : World) (t : Int) : ∀ j u, (encN [t])[j]? = some u → (W.alloc (.cells #[.int .i64 t] 3)).cell? ((⟨W.heap.size, 0, none⟩ : Addr).add j) = some u := fun j u hu => by
  rw [add_lit, Nat.zero_add, cell_last _ _ _ _ _ rfl, ← hu]
  simp [encN]
theorem one_one (l : List Int) : ∀ u ∈ encN l, u.oneCell' = true := fun u hu => by
  simp [encN] at hu
  obtain ⟨x, _, rfl⟩ := hu
  rfl
/-- Numbers and an error. -/
def PairI (l : List Int) (E : Int) (w : World) (e : Ending) (w' : World) : Prop := ∃ A n c, e = .returned (.tuple #[.slice A n c, .int .i64 E]) ∧ RdI w' A n c l ∧ Below w.heap.size w w'
set_option maxRecDepth 100000 in
set_option maxHeartbeats 8000000 in
theorem readers_bad (A : Option Addr) (n c : Nat) (l : List Lk) (k : Key) (w : World) (hr : Rd w A n c l) (h : ¬ Ok l) :
    Calls Try.prog 14 #[.agg #[.slice A n c], .string k.s] w (PairI [] 9 w) := by
  have HC := Lib.hid fun W (hb : Below w.heap.size w W) => check_any A n c l W (hr.below hb)
  rw [chk_bad h] at HC
  have HB0 := Lib.hid (below1 w (.cells #[.slice A n c] 29))
  clear hr h
  go_enter Try.func14, Try.ntmps14
  go_wp2_with (go_at_call 22; (with_reducible refine (HC.out _ HB0.out).mono ?_); rintro e w1 ⟨rfl, hb⟩; have HB1 := Lib.hid (thn HB0.out hb); clear hb)
  go_ret2
  exact ⟨none, 0, 0, rfl, RdI.nothing _, HB1.out⟩
set_option maxRecDepth 100000 in
set_option maxHeartbeats 8000000 in
theorem readers_ok (A : Option Addr) (n c : Nat) (l : List Lk) (k : Key) (w : World) (hr : Rd w A n c l) (h : Ok l) :
    Calls Try.prog 14 #[.agg #[.slice A n c], .string k.s] w (PairI (comp (who l k)) 0 w) := by
  obtain ⟨i0, hi, hz0, hz1, hz2⟩ := info_parts Try.infoI
  have hl := hr.len
  subst hl
  have HC := Lib.hid fun W (hb : Below w.heap.size w W) => check_any A l.length c l W (hr.below hb)
  rw [chk_good h] at HC
  have HR := Lib.hid hr
  have hl5 := h.1
  have hb0 := below1 w (.cells #[.slice A l.length c] 29)
  have hs0 := cell_last w #[.slice A l.length c] 29 w.heap.size 0 rfl
  clear hr h
  go_enter Try.func14, Try.ntmps14
  go_upto_region 1 with fail
  generalize w.alloc (.cells #[.slice A l.length c] 29) = w0 at hb0 hs0 ⊢
  have HB0 := Lib.hid hb0
  have hs0' : w0.cell? ⟨w.heap.size, 0, none⟩ = some (.slice A l.length c) := hs0
  clear hb0 hs0
  go_upto_region 4 with (go_at_call 22; (with_reducible refine (HC.out _ HB0.out).mono ?_); rintro e w1 ⟨rfl, hb⟩; have HB1 := Lib.hid (thn HB0.out hb); have hs1 := cell_keep hs0' hb; clear hb)
  clear hs0' HB0 HC
  go_wp2
  clear hs1
  go_loopw [7, 9, 18] (fun v _ i wr => ∃ j : Nat, j ≤ l.length ∧ i = .int .i64 j ∧ wr.ownsRow w.heap.size 3 1 v (who (l.take j) k).length (encN (who (l.take j) k)) ∧ Below w.heap.size w wr) (fun _ _ i _ => l.length - (intOf i).toNat)
  case atStart => exact ⟨0, by omega, rfl, World.ownsRow_nil _ _ _ _, HB1.out⟩
  case round =>
    obtain ⟨j, hj, rfl, hO, hB⟩ := hrel
    have HO := Lib.hid hO
    have HB := Lib.hid hB
    clear hO hB HB1
    by_cases hlt : j < l.length
    · obtain ⟨ad, rfl, c0, c1, c2⟩ := (HR.out.below HB.out).at_ hlt
      have hb0 := cell_lt c0
      rw [add_block] at hb0
      have HST := Lib.hid (who_step (k := k) hlt)
      have hwl := who_len l k j
      generalize who (l.take j) k = F at *
      generalize l[j] = v at *
      have HWL := Lib.hid hwl
      clear hwl
      have hh : hasB k v = ((Op.bytesLess v.lo.s.toList k.s.toList || v.lo.s.toList == k.s.toList) && ends v k) := by rw [leq_dec]; rfl
      have HE := Lib.hid fun W => ends_any v k W
      generalize ends v k = E at *
      have HB1 := Lib.hid (thn HB.out (below1 wr (.cells #[.int .i64 v.t, .string v.lo.s, .string v.hi.s] 34)))
      have HO1 := Lib.hid (own_below HO.out (below1 wr (.cells #[.int .i64 v.t, .string v.lo.s, .string v.hi.s] 34)))
      have HH := Lib.hid hh
      clear hh
      cases hq : (Op.bytesLess v.lo.s.toList k.s.toList || v.lo.s.toList == k.s.toList)
      · have HS1 : Hid (who (l.take (j + 1)) k = F) := Lib.hid (by rw [HST.out, HH.out, hq]; simp)
        go_wp2_with fail
        go_roundw
        case rel => exact ⟨j + 1, hlt, by go_num, by rw [HS1.out]; exact HO1.out, HB1.out⟩
        case measure => simp [intOf]; omega
      · cases E
        · have HS1 : Hid (who (l.take (j + 1)) k = F) := Lib.hid (by rw [HST.out, HH.out, hq]; simp)
          go_wp2_with (go_at_call 38; (with_reducible refine (HE.out _).mono ?_); rintro e w2 ⟨rfl, hb⟩; have HB2 := Lib.hid (thn HB1.out hb); have HO2 := Lib.hid (own_below HO1.out hb); clear hb)
          go_roundw
          case rel => exact ⟨j + 1, hlt, by go_num, by rw [HS1.out]; exact HO2.out, HB2.out⟩
          case measure => simp [intOf]; omega
        · have HS1 : Hid (who (l.take (j + 1)) k = F ++ [v.t]) := Lib.hid (by rw [HST.out, HH.out, hq]; simp)
          go_wp2_with (first | (go_at_call 38; (with_reducible refine (HE.out _).mono ?_); rintro e w2 ⟨rfl, hb⟩; obtain ⟨b0, b1, b2, hb', hz'⟩ := box3 hb; have HB2 := Lib.hid (thn HB.out hb'); have HO2 := Lib.hid (own_below HO.out hb'); have HB3 := Lib.hid (thn HB2.out (below1 w2 (.cells #[.int .i64 v.t] 3))); have HO3 := Lib.hid (own_below HO2.out (below1 w2 (.cells #[.int .i64 v.t] 3))); clear hb hb') | (at_builtin; refine wpList_append_own_at _ rfl _ _ 39 rfl w.heap.size 3 i0 (.int .i64 0) 1 8 Try.underlying39 hi hz0 hz1 hz2 rfl (by decide) _ F.length _ rfl HO3.out ⟨w2.heap.size, 0, none⟩ 1 1 (encN [v.t]) rfl rfl (one_news w2 v.t) (one_one _) (by have := HWL.out; unfold maxLen; omega) (by have := HWL.out; omega) HB3.out.size ?_; intro v3 w3 hown3 hg3 _ _; have HO4 := Lib.hid hown3; have HB4 := Lib.hid (HB3.out.grown hg3 HB3.out.size (fun k hk => (HO3.out.lt k hk).1)); clear hown3 hg3))
          go_roundw
          case rel => exact ⟨j + 1, hlt, by go_num, by rw [HS1.out]; have := HO4.out; simpa [encN] using this, HB4.out⟩
          case measure => simp [intOf]; omega
    · obtain rfl : j = l.length := by omega
      have ho := HO.out
      rw [List.take_length] at ho
      have hwl := who_len l k l.length
      rw [List.take_length] at hwl
      have HCP := Lib.hid fun v (ho : wr.ownsRow w.heap.size 3 1 v (who l k).length (encN (who l k))) => compact_any w.heap.size v (who l k) wr HB.out.size (by omega) ho
      have HOO := Lib.hid ho
      clear ho HO hwl
      generalize who l k = F at *
      go_wp2_with (go_at_call 39; (with_reducible refine (HCP.out _ HOO.out).mono ?_); rintro e w2 ⟨A2, n2, c2, rfl, hr2, hb⟩; have HR2 := Lib.hid hr2; have HB2 := Lib.hid (HB.out.trans hb); clear hr2 hb)
      go_ret2
      exact ⟨A2, n2, c2, rfl, HR2.out, HB2.out⟩
/-- Readers at every state. -/
theorem readers_any (A : Option Addr) (n c : Nat) (l : List Lk) (k : Key) (w : World) (hr : Rd w A n c l) :
    Calls Try.prog 14 #[.agg #[.slice A n c], .string k.s] w (PairI (rdsR l k).1 (rdsR l k).2 w) := by
  unfold rdsR
  by_cases h : Ok l
  · simp only [h, if_true]
    exact readers_ok A n c l k w hr h
  · simp only [h, if_false]
    exact readers_bad A n c l k w hr h
end Go.Proofs.Ytmjcmeebcochgaa
