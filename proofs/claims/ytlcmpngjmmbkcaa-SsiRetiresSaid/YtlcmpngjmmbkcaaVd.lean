/- Sets of numbers, and Check of package ssi over any state: the walks. Conditions: states that are read in memory. -/
import Derived.Test.YtlcmpngjmmbkcaaVc
import Derived.Maps.OwnSet
import Derived.Maps.Views
import Derived.Lib.SmallJoins
namespace Go.Proofs.Ytlcmpngjmmbkcaa
open Go.RowKit Go.Maps Go.ChangeMaps Go.MapKept Go.WideShapes
set_option linter.unusedSimpArgs false
set_option linter.unusedVariables false

/-- The numbers that were met, as a map. -/
def mapD : List Int → DataW Unit
  | [] => .map []
  | i :: M => (mapD M).put (.int .i64 i) (.agg [])
theorem mapD_tidy : ∀ M : List Int, Maps.Tidy (mapD M)
  | [] => Maps.tidy_empty
  | i :: M => Maps.Tidy.put (k := .int .i64 i) (mapD_tidy M) trivial _
theorem mapD_has : ∀ (M : List Int) (i : Int), Maps.has (mapD M) (.int .i64 i) = decide (i ∈ M)
  | [], i => by simp [mapD, Maps.has]
  | j :: M, i => by
    rw [mapD]
    by_cases h : i = j
    · subst h
      rw [Maps.has_put_same (k := .int .i64 i) (mapD_tidy M).isMap trivial]; simp
    · rw [Maps.has_put_other (by intro e; injection e with _ e; omega), mapD_has M i]; simp [h]
theorem keyedI : Keyed Try.prog 3 := int_keyed Try.underlying3
theorem zeroU (w : World) : (zeroValue 57).run Try.prog w = .ok (.agg #[]) w := by kernel_rfl
/-- Block b is the set of the numbers M. -/
abbrev IsSet (w : World) (b : Nat) (M : List Int) : Prop := w.ownsMap Try.prog 3 (unitElem (H := Unit)) b M.length (mapD M)
theorem set_below {w w' : World} {b : Nat} {M : List Int} (h : IsSet w b M) (hb : Below w.heap.size w w') : IsSet w' b M :=
  World.ownsMap.kept h (row := none) ⟨hb.os, hb.tape, hb.output, hb.size, fun k hk _ => hb.block k hk⟩ (by simp)
theorem keep_set {w w' : World} {b : Nat} {M : List Int} (hs : IsSet w b M) (hg : w.grownBy w' (some b)) (p : Addr) (v : Value) (hp : w.cell? p = some v) : w'.cell? p = some v ∧ w'.frozen? p = w.frozen? p := by
  obtain ⟨es, clock, hm, _⟩ := hs
  have hne : p.block ≠ b := fun e => by
    unfold World.cell? at hp
    rw [e, hm] at hp
    cases hp
  have hb := hg.block p.block (cell_lt hp) (fun e => hne (by injection e))
  exact ⟨(World.cell?_of_block hb).trans hp, World.frozen?_of_block hb⟩
/-- A state's box at g, a set at b. -/
structure Ck (w : World) (g b : Nat) (A : Option Addr) (n c : Nat) (ck nx : Int) (M : List Int) : Prop where
  c0 : w.cell? ⟨g, 0, none⟩ = some (.slice A n c)
  c1 : w.cell? ⟨g, 1, none⟩ = some (.int .i64 ck)
  c2 : w.cell? ⟨g, 2, none⟩ = some (.int .i64 nx)
  met : IsSet w b M
section
variable {w w' : World} {g b n c : Nat} {A : Option Addr} {ck nx : Int} {M : List Int}
theorem Ck.below (h : Ck w g b A n c ck nx M) (hb : Below w.heap.size w w') : Ck w' g b A n c ck nx M :=
  ⟨cell_keep h.c0 hb, cell_keep h.c1 hb, cell_keep h.c2 hb, set_below h.met hb⟩
theorem Ck.put {i : Int} (h : Ck w g b A n c ck nx M) (hs : IsSet w' b (i :: M)) (hg : w.grownBy w' (some b)) : Ck w' g b A n c ck nx (i :: M) :=
  ⟨(keep_set h.met hg _ _ h.c0).1, (keep_set h.met hg _ _ h.c1).1, (keep_set h.met hg _ _ h.c2).1, hs⟩
end
open Classical in
noncomputable def chkE (s : St) : Int := if Ok s then 0 else 9
theorem chk_ok {s : St} (h : Ok s) : chkE s = 0 := if_pos h
theorem chk_bad {s : St} (h : ¬ Ok s) : chkE s = 9 := if_neg h
/-- The Ends of those that are committed. -/
def Ends (l : List Tx) (M : List Int) : Prop := ∀ e, e ∈ M ↔ ∃ t ∈ l, 0 < t.e ∧ t.e = e
theorem Ends.nil : Ends [] [] := fun e => by simp
theorem Ends.yes {l : List Tx} {M : List Int} {t : Tx} (h : Ends l M) (h0 : 0 < t.e) : Ends (l ++ [t]) (t.e :: M) := fun e => by
  rw [List.mem_cons, h e]
  constructor
  · rintro (rfl | ⟨u, hu, h1⟩)
    · exact ⟨t, by simp, h0, rfl⟩
    · exact ⟨u, by simp [hu], h1⟩
  · rintro ⟨u, hu, h1, h2⟩
    rcases List.mem_append.1 hu with k | k
    · exact .inr ⟨u, k, h1, h2⟩
    · simp at k; subst k; exact .inl h2.symm
theorem Ends.no {l : List Tx} {M : List Int} {t : Tx} (h : Ends l M) (h0 : ¬ 0 < t.e) : Ends (l ++ [t]) M := fun e => by
  rw [h e]
  constructor
  · rintro ⟨u, hu, h1⟩; exact ⟨u, by simp [hu], h1⟩
  · rintro ⟨u, hu, h1, h2⟩
    rcases List.mem_append.1 hu with k | k
    · exact ⟨u, k, h1, h2⟩
    · simp at k; subst k; exact absurd h1 h0
theorem Ends.dup {l : List Tx} {M : List Int} (h : Ends l M) (e : Int) : decide (e ∈ M) = dupB l e := by
  unfold dupB
  rw [decide_eq_decide]
  exact h e
set_option maxRecDepth 100000 in
set_option maxHeartbeats 8000000 in
theorem check_any (A : Option Addr) (n c : Nat) (s : St) (w : World) (hr : Rd w A n c s.l) :
    Calls Try.prog 11 #[.agg #[.slice A n c, .int .i64 s.c, .int .i64 s.n]] w fun e w' => e = .returned (.int .i64 (chkE s)) ∧ Below w.heap.size w w' := by
  obtain ⟨l, ck, nx⟩ := s
  simp only at hr ⊢
  have hl := hr.len
  have hcap : n ≤ 9223372036854775807 := by have := hr.le; have := hr.cap; omega
  subst hl
  have HR := Lib.hid hr
  clear hr
  have hb0 := below1 w (.cells #[.slice A l.length c, .int .i64 ck, .int .i64 nx] 28)
  have b0 := cell_last w #[.slice A l.length c, .int .i64 ck, .int .i64 nx] 28 w.heap.size 0 rfl
  have b1 := cell_last w #[.slice A l.length c, .int .i64 ck, .int .i64 nx] 28 w.heap.size 1 rfl
  have b2 := cell_last w #[.slice A l.length c, .int .i64 ck, .int .i64 nx] 28 w.heap.size 2 rfl
  rcases Nat.lt_or_ge 64 l.length with h64 | h64
  · have hE : chkE ⟨l, ck, nx⟩ = 9 := chk_bad fun h => absurd h.len (by simp; omega)
    rw [hE]
    clear hE
    go_enter Try.func11, Try.ntmps11
    go_wp2_with fail
    go_ret
    exact ⟨rfl, hb0⟩
  rcases Int.lt_or_le ck 0 with hc0 | hc0
  · have hE : chkE ⟨l, ck, nx⟩ = 9 := chk_bad fun h => absurd h.c0 (by simp; omega)
    rw [hE]
    clear hE
    go_enter Try.func11, Try.ntmps11
    go_wp2_with fail
    go_ret
    exact ⟨rfl, hb0⟩
  rcases Int.lt_or_le 1099511627776 ck with hc1 | hc1
  · have hE : chkE ⟨l, ck, nx⟩ = 9 := chk_bad fun h => absurd h.c1 (by simp; omega)
    rw [hE]
    clear hE
    go_enter Try.func11, Try.ntmps11
    go_wp2_with fail
    go_ret
    exact ⟨rfl, hb0⟩
  have HGE := Lib.hid fun (j : Nat) (m : Int) (h : Good ck (l.take j) m) (hj : j < l.length) (hb : ¬ (m < l[j].i ∧ mayB ck l[j] = true ∧ dupB (l.take j) l[j].e = false)) => (show chkE ⟨l, ck, nx⟩ = 9 from chk_bad fun k => h.bad (r := l.drop (j + 1)) (n := nx) hb (by
    have e : l.take j ++ l[j] :: l.drop (j + 1) = l := by rw [List.getElem_cons_drop, List.take_append_drop]
    rw [e]; exact k))
  have HL := Lib.hid fun (m : Int) (h : Good ck l m) => (show chkE ⟨l, ck, nx⟩ = if m < nx ∧ nx ≤ 1099511627776 then 0 else 9 by
    split
    · rename_i h1; exact chk_ok (h.ok h64 hc0 hc1 h1.1 h1.2)
    · rename_i h1; exact chk_bad (h.last h1))
  go_enter Try.func11, Try.ntmps11
  have hmm := @run_makeMap Try.prog
  go_upto_region 4 with fail
  clear hmm
  have HC1 : Hid (Ck ((w.alloc (.cells #[.slice A l.length c, .int .i64 ck, .int .i64 nx] 28)).alloc (.map #[] 0)) w.heap.size (w.heap.size + 1) A l.length c ck nx []) := Lib.hid ⟨cell_keep b0 (below1 _ _), cell_keep b1 (below1 _ _), cell_keep b2 (below1 _ _), by
    have h := World.ownsMap_made (w.alloc (.cells #[.slice A l.length c, .int .i64 ck, .int .i64 nx] 28)) Try.prog 3 (unitElem (H := Unit))
    rw [World.size_alloc] at h
    exact h⟩
  have HB1 : Hid (Below w.heap.size w ((w.alloc (.cells #[.slice A l.length c, .int .i64 ck, .int .i64 nx] 28)).alloc (.map #[] 0))) := Lib.hid (below2 _ _ _)
  clear b0 b1 b2 hb0
  generalize (w.alloc (.cells #[.slice A l.length c, .int .i64 ck, .int .i64 nx] 28)).alloc (.map #[] 0) = W1 at *
  have hgg : w.heap.size ≤ w.heap.size := Nat.le_refl _
  have hgb : w.heap.size ≤ w.heap.size + 1 := by omega
  generalize hb : w.heap.size + 1 = b at *
  clear hb
  generalize hg : w.heap.size = g at HC1 ⊢
  have HG := Lib.hid hg
  have HGB := Lib.hid hgb
  clear hg hgg hgb
  have c0 := HC1.out.c0
  go_wp2_with fail
  go_loopw [4, 6, 7, 8, 27] (fun m _ _ _ x wr => ∃ (j : Nat) (q : Int) (M : List Int), j ≤ l.length ∧ x = .int .i64 j ∧ m = .int .i64 q ∧ Good ck (l.take j) q ∧ Ends (l.take j) M ∧ M.length ≤ j ∧ Ck wr g b A l.length c ck nx M ∧ Below w.heap.size w wr) (fun _ _ _ _ x _ => l.length - (intOf x).toNat)
  case atStart => exact ⟨0, 0, [], by omega, rfl, rfl, Good.nil _, Ends.nil, by simp, HC1.out, HB1.out⟩
  case round =>
    obtain ⟨j, q, M, hj, rfl, rfl, hG, hE, hM, hC, hB⟩ := hrel
    have HB := Lib.hid hB
    have HC := Lib.hid hC
    have HGO := Lib.hid hG
    have HEN := Lib.hid hE
    have HM := Lib.hid hM
    clear hB hC hG hE hM HC1 HB1 c0
    have c0 := HC.out.c0
    have c1 := HC.out.c1
    have c2 := HC.out.c2
    by_cases hlt : j < l.length
    · obtain ⟨ad, rfl, t0, t1, t2, t3, t4⟩ := (HR.out.below HB.out).at_ hlt
      have hb0 := cell_lt t0
      rw [add_block] at hb0
      have hrg := HR.out.rng _ (List.getElem_mem hlt)
      have hst : l.take (j + 1) = l.take j ++ [l[j]] := List.take_succ_eq_append_getElem hlt
      have HBAD := Lib.hid fun (h : ¬ (q < l[j].i ∧ mayB ck l[j] = true ∧ dupB (l.take j) l[j].e = false)) => HGE.out j q HGO.out hlt h
      have HST := Lib.hid fun (h1 : q < l[j].i) (h2 : mayB ck l[j] = true) (h3 : dupB (l.take j) l[j].e = false) => HGO.out.step h1 h2 h3
      have HEY := Lib.hid fun (h0 : 0 < l[j].e) => HEN.out.yes (t := l[j]) h0
      have HEX := Lib.hid fun (h0 : ¬ 0 < l[j].e) => HEN.out.no (t := l[j]) h0
      rw [← hst] at HST HEY HEX
      have hdup := HEN.out.dup l[j].e
      have HMB := Lib.hid fun W => mayBe_any l[j] ck W
      have HIC := Lib.hid fun W => isCom_any l[j] W
      clear hst
      generalize l[j] = v at *
      generalize dupB (l.take j) v.e = D at *
      generalize hmb : mayB ck v = MB at *
      have hkey : keyOf Try.prog 3 (.int .i64 v.e) = some (.int .i64 v.e) := keyOf_int_mk Try.underlying3 (WalkArith.wf_i64 hrg)
      have hhas := mapD_has M v.e
      rw [hdup] at hhas
      have HC5 := Lib.hid (HC.out.below (below1 wr (.cells #[.int .i64 v.i, .int .i64 v.s, .int .i64 v.e, .bool v.a, .bool v.o] 35)))
      have HC6 := Lib.hid (HC5.out.below (below1 (wr.alloc (.cells #[.int .i64 v.i, .int .i64 v.s, .int .i64 v.e, .bool v.a, .bool v.o] 35)) (.cells #[] 57)))
      have HB6 := Lib.hid (thn HB.out (below2 wr (.cells #[.int .i64 v.i, .int .i64 v.s, .int .i64 v.e, .bool v.a, .bool v.o] 35) (.cells #[] 57)))
      have d1 := HC6.out.c1
      clear hdup
      go_upto_region 9 with (at_lookup; refine wpList_lookup_own_unit _ rfl _ _ 56 rfl 3 57 keyedI Try.underlying56 (zeroU _) b _ _ rfl HC5.out.met _ _ rfl hkey ?_; rw [hhas])
      clear t0 t1 t2 t3 t4 hb0
      by_cases h1 : q < v.i
      · cases MB
        · have HCE := Lib.hid (HBAD.out (by simp [hmb]))
          go_wp2_with (first | (go_at_call 18; (with_reducible refine (HMB.out _).mono ?_); rintro e w1 ⟨rfl, hb1⟩; obtain ⟨k1, _, hb1', hz1⟩ := boxes hb1; have HC7 := Lib.hid (HC6.out.below hb1); have HB7 := Lib.hid (thn HB.out hb1'); have e0 := k1 0 _ rfl; have e1 := k1 1 _ rfl; have e2 := k1 2 _ rfl; have e3 := k1 3 _ rfl; have e4 := k1 4 _ rfl; clear hb1 hb1' k1))
          go_ret
          exact ⟨ret_int HCE.out.symm, HB7.out⟩
        · cases D
          · by_cases h0 : 0 < v.e
            · have HGN := Lib.hid (HST.out h1 rfl rfl)
              have HEN2 := Lib.hid (HEY.out h0)
              go_wp2_with (first | (go_at_call 18; (with_reducible refine (HMB.out _).mono ?_); rintro e w1 ⟨rfl, hb1⟩; obtain ⟨k1, _, hb1', hz1⟩ := boxes hb1; have HC7 := Lib.hid (HC6.out.below hb1); have HB7 := Lib.hid (thn HB.out hb1'); have e0 := k1 0 _ rfl; have e1 := k1 1 _ rfl; have e2 := k1 2 _ rfl; have e3 := k1 3 _ rfl; have e4 := k1 4 _ rfl; clear hb1 hb1' k1) | (go_at_call 19; (with_reducible refine (HIC.out _).mono ?_); rintro e w2 ⟨rfl, hb2⟩; have HC8 := Lib.hid (HC7.out.below hb2); have HB8 := Lib.hid (thn HB7.out hb2); have f0 := cell_keep e0 hb2; have f2 := cell_keep e2 hb2; have hz2 := Nat.lt_of_lt_of_le hz1 hb2.size; clear hb2 e0 e1 e2 e3 e4) | (at_mapUpdate; refine wpList_mapUpdate_own _ rfl _ _ _ 56 rfl 3 57 keyedI Try.underlying56 (unitElem (H := Unit)) b _ _ rfl HC8.out.met (by have := HM.out; unfold maxLen; omega) _ _ _ rfl rfl hkey _ [] unitElem_mk ?_; intro w3 hown3 hgrow3; have HB9 := Lib.hid (HB8.out.grown hgrow3 HB8.out.size (fun k hk => by injection hk with hk; have := HGB.out; omega)); have HC9 := Lib.hid (HC8.out.put (i := v.e) hown3 hgrow3); have g0 := (keep_set HC8.out.met hgrow3 _ _ f0).1; clear hown3 hgrow3))
              go_roundw
              case rel => exact ⟨j + 1, v.i, v.e :: M, hlt, by go_num, rfl, HGN.out, HEN2.out, by have := HM.out; simp; omega, HC9.out, HB9.out⟩
              case measure => simp [intOf]; omega
            · have HGN := Lib.hid (HST.out h1 rfl rfl)
              have HEN2 := Lib.hid (HEX.out h0)
              go_wp2_with (first | (go_at_call 18; (with_reducible refine (HMB.out _).mono ?_); rintro e w1 ⟨rfl, hb1⟩; obtain ⟨k1, _, hb1', hz1⟩ := boxes hb1; have HC7 := Lib.hid (HC6.out.below hb1); have HB7 := Lib.hid (thn HB.out hb1'); have e0 := k1 0 _ rfl; have e1 := k1 1 _ rfl; have e2 := k1 2 _ rfl; have e3 := k1 3 _ rfl; have e4 := k1 4 _ rfl; clear hb1 hb1' k1) | (go_at_call 19; (with_reducible refine (HIC.out _).mono ?_); rintro e w2 ⟨rfl, hb2⟩; have HC8 := Lib.hid (HC7.out.below hb2); have HB8 := Lib.hid (thn HB7.out hb2); have f0 := cell_keep e0 hb2; have f2 := cell_keep e2 hb2; have hz2 := Nat.lt_of_lt_of_le hz1 hb2.size; clear hb2 e0 e1 e2 e3 e4))
              go_roundw
              case rel => exact ⟨j + 1, v.i, M, hlt, by go_num, rfl, HGN.out, HEN2.out, by have := HM.out; omega, HC8.out, HB8.out⟩
              case measure => simp [intOf]; omega
          · have HCE := Lib.hid (HBAD.out (by simp))
            go_wp2_with (first | (go_at_call 18; (with_reducible refine (HMB.out _).mono ?_); rintro e w1 ⟨rfl, hb1⟩; obtain ⟨k1, _, hb1', hz1⟩ := boxes hb1; have HC7 := Lib.hid (HC6.out.below hb1); have HB7 := Lib.hid (thn HB.out hb1'); have e0 := k1 0 _ rfl; have e1 := k1 1 _ rfl; have e2 := k1 2 _ rfl; have e3 := k1 3 _ rfl; have e4 := k1 4 _ rfl; clear hb1 hb1' k1))
            go_ret
            exact ⟨ret_int HCE.out.symm, HB7.out⟩
      · have HCE := Lib.hid (HBAD.out (fun h => h1 h.1))
        go_wp2_with fail
        go_ret
        exact ⟨ret_int HCE.out.symm, HB6.out⟩
    · obtain rfl : j = l.length := by omega
      have hG := HGO.out
      rw [List.take_length] at hG
      have hE := HL.out q hG
      clear hG
      have HE := Lib.hid hE
      clear hE
      by_cases h1 : q < nx
      · by_cases h2 : nx ≤ 1099511627776
        · go_wp2_with fail
          go_ret
          exact ⟨ret_int (by rw [HE.out, if_pos (by omega)]), HB.out⟩
        · go_wp2_with fail
          go_ret
          exact ⟨ret_int (by rw [HE.out, if_neg (by omega)]), HB.out⟩
      · go_wp2_with fail
        go_ret
        exact ⟨ret_int (by rw [HE.out, if_neg (by omega)]), HB.out⟩
end Go.Proofs.Ytlcmpngjmmbkcaa
