/- How deep a tree is, and how many pairs it has: the walk of BtreeDeep. Conditions: a state that is read in memory, whose lists a machine can hold. -/
import Derived.Test.YtkpjkglheegmgaaQi
/- A tree of keys put one after another, and the example: the walks of filled and alive. Conditions: at most a hundred keys, each of at most a thousand octets. -/
namespace Go.Proofs.Ytkpjkglheegmgaa
open Go.RowKit
set_option linter.unusedSimpArgs false
set_option linter.unusedVariables false

theorem num_any (e : Int) (w : World) (hb : -9223372036854775808 ≤ e ∧ e ≤ 9223372036854775807) : Calls Try.prog 15 #[.int .i64 e] w fun r w' => r = .returned (.int .i64 e) ∧ w = w' := by
  have hw : IntKind.i64.wrap e = e := IntWalk.i64_in _ (by omega)
  go_enter Try.func15, Try.ntmps15
  go_wp2
  go_ret
  exact ⟨rfl, rfl⟩
/-- The state of a row of puts. -/
def stS (l : List Key) : List Nd × Int := layS (fil l).1 (fil l).2
theorem stS_nil : stS [] = ([], -1) := rfl
theorem stS_rd {l : List Key} (h : l.length ≤ 100) : rdS (stS l).1 (stS l).2 = some (fil l) ∧ Wfn (stS l).1 ∧ (-9223372036854775808 ≤ (stS l).2 ∧ (stS l).2 ≤ 9223372036854775807) ∧ (stS l).1.length ≤ 1000000 := by
  obtain ⟨h1, h2⟩ := fil_good l
  have h3 : (prs (fil l).1 (fil l).2).length ≤ 2048 := by rw [h2]; have := filP_len l; omega
  obtain ⟨h4, h5, h6⟩ := layS_wfn h1 h3
  exact ⟨rdS_lay h1 h3, h4, h5, h6⟩
/-- A variable of type State. -/
def Two (w : World) (b : Nat) (v : Value) (r : Int) : Prop := w.heap[b]? = some (.cells #[v, .int .i64 r] 27 (0, 0))
theorem Two.cells {w : World} {b : Nat} {v : Value} {r : Int} (h : Two w b v r) : w.cell? ⟨b, 0, none⟩ = some v ∧ w.cell? ⟨b, 1, none⟩ = some (.int .i64 r) ∧ w.frozen? ⟨b, 0, none⟩ = false ∧ w.frozen? ⟨b, 1, none⟩ = false := by
  unfold Two at h
  refine ⟨?_, ?_, ?_, ?_⟩ <;> simp [World.cell?, World.frozen?, h]
theorem Two.below {w w' : World} {b : Nat} {v : Value} {r : Int} (h : Two w b v r) (hb : Below w.heap.size w w') : Two w' b v r := (hb.block b (heap_lt h)).trans h
theorem Two.set {w : World} {b : Nat} {v : Value} {r : Int} (h : Two w b v r) (v' : Value) (r' : Int) : Two ((w.setCell ⟨b, 0, none⟩ v').setCell ⟨b, 1, none⟩ (.int .i64 r')) b v' r' := by
  have := heap_setCell_same _ b 1 _ _ (.int .i64 r') (heap_setCell_same w b 0 _ _ v' h)
  simpa [Two] using this
theorem Two.other {w : World} {b b' : Nat} {v : Value} {r : Int} (h : Two w b v r) (hne : b ≠ b') (v' u' : Value) : Two ((w.setCell ⟨b', 0, none⟩ v').setCell ⟨b', 1, none⟩ u') b v r :=
  (heap_setCell_other _ ⟨b', 1, none⟩ b _ hne).trans ((heap_setCell_other w ⟨b', 0, none⟩ b _ hne).trans h)
theorem StateB.below {w w' : World} {B : Nat} {v : Value} {s : List Nd × Int} (h : StateB w B v s) (hb : Below w.heap.size w w') : StateB w' B v s := by
  obtain ⟨A, c, hs, rfl, o, l, a⟩ := h
  exact ⟨A, c, hs, rfl, own_below o hb, l, fun i h x h1 h2 => (a i h x h1 h2).below hb⟩
theorem StateB.two {w : World} {B : Nat} {v : Value} {s : List Nd × Int} (h : StateB w B v s) {b : Nat} {a : Value} {r : Int} (ht : Two w b a r) (x y : Value) : StateB ((w.setCell ⟨b, 0, none⟩ x).setCell ⟨b, 1, none⟩ y) B v s :=
  h.keep fun k hk => (heap_setCell_other _ ⟨b, 1, none⟩ k _ (fun e => by have e : k = b := e; subst e; exact hk _ _ ht)).trans (heap_setCell_other w ⟨b, 0, none⟩ k _ (fun e => by have e : k = b := e; subst e; exact hk _ _ ht))
/-- A state that is read, in one value. -/
def StR (w : World) (v : Value) (s : List Nd × Int) : Prop := ∃ A c, v = .agg #[.slice A s.1.length c, .int .i64 s.2] ∧ RdS w A s.1.length s.1
theorem StR.below {w w' : World} {v : Value} {s : List Nd × Int} (h : StR w v s) (hb : Below w.heap.size w w') : StR w' v s := by
  obtain ⟨A, c, rfl, hr⟩ := h
  exact ⟨A, c, rfl, hr.below hb⟩
theorem put_step {l : List Key} (h : l.length ≤ 99) (k : Key) (v : Value) (w : World) (hs : StR w v (stS l)) :
    Calls Try.prog 21 #[v, .string k.s, .string (bang k).s] w fun e w' => ∃ v', e = .returned (.tuple #[v', .int .i64 0]) ∧ StateB w' w.heap.size v' (stS (l ++ [k])) ∧ Below w.heap.size w w' := by
  obtain ⟨A, c, rfl, hr⟩ := hs
  obtain ⟨h1, h2, h3, _⟩ := stS_rd (l := l) (by omega)
  obtain ⟨hg, hp⟩ := fil_good l
  refine (put_state _ _ c A _ k (bang k) w hr h2 h3).mono ?_
  rintro e w' ⟨hb, he⟩
  rw [h1] at he
  dsimp only at he
  obtain ⟨_, p2, _, _⟩ := put_ok _ hg k (bang k) (ge_none k) (bel_none k) (by omega)
  have hlen : ¬ 2048 < (prs (fil l).1 (putT (fil l).1 (fil l).2 k (bang k))).length := by
    rw [p2, hp]
    have := aft_len k (bang k) false (filP l)
    have := filP_len l
    omega
  rw [if_neg hlen] at he
  obtain ⟨s, rfl, hst⟩ := he
  have e1 : layS (rootT (fil l).1 (putT (fil l).1 (fil l).2 k (bang k))).1 (rootT (fil l).1 (putT (fil l).1 (fil l).2 k (bang k))).2 = stS (l ++ [k]) := by
    unfold stS fil
    rw [List.foldl_append]; rfl
  rw [e1] at hst
  exact ⟨_, rfl, hst, hb⟩
set_option maxRecDepth 100000 in
set_option maxHeartbeats 2000000 in
theorem filled_any (l : List Key) (A : Option Addr) (c : Nat) (w : World) (hr : Rd w A l.length c (strs l)) (hl : l.length ≤ 100) (hk : ∀ k ∈ l, k.s.size ≤ 1000) :
    Calls Try.prog 34 #[.slice A l.length c] w fun e w' => ∃ v, e = .returned (.tuple #[v, .bool true]) ∧ StateB w' w.heap.size v (stS l) ∧ Below w.heap.size w w' := by
  have HR := Lib.hid hr
  have HK := Lib.hid hk
  have HN := Lib.hid new_any
  have HNU := Lib.hid (num_any 0 · (by omega))
  clear hr hk
  go_enter Try.func34, Try.ntmps34
  go_wp2_with (first | (go_at_call 24; (with_reducible refine (HN.out _).mono ?_); rintro e w1 ⟨rfl, hb1⟩; have HB1 := Lib.hid hb1; clear hb1))
  have hz1 := HB1.out.size
  simp only [World.size_alloc] at hz1
  have hB0 : Below w.heap.size w (w1.alloc (.cells #[.slice none 0 0, .int .i64 (-1)] 27)) := (thn (below1 w _) HB1.out).alloc (by omega) _
  have hst : Two (w1.alloc (.cells #[.slice none 0 0, .int .i64 (-1)] 27)) w.heap.size (.slice none 0 0) 0 := (Below.heap_alloc w1 _ w.heap.size (by omega)).trans ((HB1.out.block w.heap.size (by simp)).trans (heap_alloc_new w _))
  have hs4 : Two (w1.alloc (.cells #[.slice none 0 0, .int .i64 (-1)] 27)) w1.heap.size (.slice none 0 0) (-1) := heap_alloc_new w1 _
  have hg4 : w.heap.size < w1.heap.size := by omega
  generalize w1.heap.size = b4 at *
  generalize w1.alloc (.cells #[.slice none 0 0, .int .i64 (-1)] 27) = W0 at *
  have HI := Lib.hid (And.intro hB0 (And.intro hst hs4))
  clear hB0 hst hs4 hz1 HB1
  go_loopw [5] (fun i wr => ∃ (j : Nat) (A4 : Option Addr) (c4 : Nat), i = .int .i64 j ∧ j ≤ l.length ∧ Two wr b4 (.slice A4 (stS (l.take j)).1.length c4) (stS (l.take j)).2 ∧ StateB wr w.heap.size (.agg #[.slice A4 (stS (l.take j)).1.length c4, .int .i64 (stS (l.take j)).2]) (stS (l.take j)) ∧ Two wr w.heap.size (.slice none 0 0) 0 ∧ Below w.heap.size w wr) (fun i _ => l.length - (intOf i).toNat)
  case atStart => exact ⟨0, none, 0, rfl, by omega, HI.out.2.2, ⟨none, 0, [], rfl, World.ownsRow_nil _ _ _ _, rfl, fun i h x h1 => by cases i <;> cases h1⟩, HI.out.2.1, HI.out.1⟩
  case round =>
    obtain ⟨j, A4, c4, rfl, hj, hs4, hrd, hst, hB⟩ := hrel
    clear HI
    have hW : StR wr (.agg #[.slice A4 (stS (l.take j)).1.length c4, .int .i64 (stS (l.take j)).2]) (stS (l.take j)) := by
      obtain ⟨A, c, e, h⟩ := hrd.rd
      exact ⟨A, c, e, h⟩
    obtain ⟨z0, z1, zf0, zf1⟩ := hs4.cells
    obtain ⟨r0, r1, rf0, rf1⟩ := hst.cells
    by_cases hlt : j < l.length
    · have hlt' : (j : Int) < (l.length : Int) := by omega
      have h100 : (j : Int) < 100 := by omega
      obtain ⟨ad, hA, q0⟩ := (HR.out.below hB).at_ (strs_at hlt)
      have hkj := HK.out l[j] (List.getElem_mem hlt)
      have hbg := bang_s hkj
      have hts : l.take (j + 1) = l.take j ++ [l[j]] := List.take_succ_eq_append_getElem hlt
      have HP := Lib.hid fun (W : World) (hb : Below wr.heap.size wr W) => put_step (l := l.take j) (by rw [List.length_take]; omega) l[j] _ W (hW.below hb)
      rw [← hts, hbg] at HP
      have q1 := fun (w : World) => run_string_add_sum (P := Try.prog) (w := w) l[j].s ⟨#[33]⟩ (by have h1 : (⟨#[33]⟩ : ByteArray).size = 1 := rfl; omega)
      have HH := Lib.hid (And.intro hs4 (And.intro hst hB))
      subst hA
      clear hW hs4 hst hB hrd hkj hbg hts HK HN
      generalize l[j].s = s at *
      generalize (stS (l.take j)).1.length = nj at *
      generalize (stS (l.take j)).2 = rj at *
      go_upto_region 5 with fail
      generalize wr = W at *
      have hbW := (Below.refl W.heap.size W).drew
      have hSo : ∀ W', Below W.heap.size W W' → Below W.heap.size W W' ∧ W'.cell? ⟨b4, 0, none⟩ = some (.slice A4 nj c4) ∧ W'.cell? ⟨b4, 1, none⟩ = some (.int .i64 rj) ∧ W'.cell? (ad.add j) = some (.string s) := fun W' hb => ⟨hb, cell_keep z0 hb, cell_keep z1 hb, cell_keep q0 hb⟩
      go_region_held3 (fun W' => Below W.heap.size W W' ∧ W'.cell? ⟨b4, 0, none⟩ = some (.slice A4 nj c4) ∧ W'.cell? ⟨b4, 1, none⟩ = some (.int .i64 rj) ∧ W'.cell? (ad.add j) = some (.string s)) (first
        | exact hSo _ hbW
        | exact hSo _ hq2
        | (obtain ⟨s0, _, _, _⟩ := ‹Below W.heap.size W _ ∧ _›; first | exact hSo _ (hq2.alloc hq2.size _) | exact hSo _ (s0.alloc s0.size _) | exact hSo _ ((s0.setCell (p := ⟨_, 0, none⟩) (by first | exact s0.size | exact Nat.le_refl _) _).setCell (p := ⟨_, 1, none⟩) (by first | exact s0.size | exact Nat.le_refl _) _)))
        ((go_at_call 21; (with_reducible refine (HP.out _ (by first | exact hbW | exact (And.left ‹Below W.heap.size W _ ∧ _›))).mono ?_); rintro e w2 ⟨v2, rfl, hst2, hb2⟩; have HST2 := Lib.hid hst2; obtain ⟨A5, c5, hs5, rfl, _⟩ := hst2; (try (have hT6 : Two w2 W.heap.size (.slice none 0 0) 0 := (hb2.block W.heap.size (by simp)).trans (heap_alloc_new W.drew _); obtain ⟨t0, t1, tf0, tf1⟩ := hT6.cells; have HT6 := Lib.hid hT6; clear hT6)); have hq2 : Below W.heap.size W w2 := thn (And.left ‹Below W.heap.size W _ ∧ _›) hb2; clear hb2))
      all_goals clear z0 z1 q0 q1 hbW hSo r0 r1 rf0 rf1 zf0 zf1
      all_goals have HLE := Lib.hid (show w.heap.size ≤ b4 by omega)
      all_goals have HNE := Lib.hid (show w.heap.size ≠ b4 by omega)
      · obtain ⟨hs4, hst, hB⟩ := HH.out
        have HF := Lib.hid (And.intro ((hs4.below hq2).below (below1 w2 (.cells #[(.slice A5 (stS (l.take (j + 1))).1.length c5), .int .i64 (stS (l.take (j + 1))).2] 27))) (And.intro ((hst.below hq2).below (below1 w2 (.cells #[(.slice A5 (stS (l.take (j + 1))).1.length c5), .int .i64 (stS (l.take (j + 1))).2] 27))) (And.intro (show Two (w2.alloc (.cells #[(.slice A5 (stS (l.take (j + 1))).1.length c5), .int .i64 (stS (l.take (j + 1))).2] 27)) w2.heap.size (.slice A5 (stS (l.take (j + 1))).1.length c5) (stS (l.take (j + 1))).2 from heap_alloc_new w2 _) (And.intro ((HST2.out.le (B' := w.heap.size) hB.size).below (below1 w2 (.cells #[(.slice A5 (stS (l.take (j + 1))).1.length c5), .int .i64 (stS (l.take (j + 1))).2] 27))) (hB.trans ((thn hq2 (below1 w2 (.cells #[(.slice A5 (stS (l.take (j + 1))).1.length c5), .int .i64 (stS (l.take (j + 1))).2] 27))).mono hB.size))))))
        clear hs4 hst hB HST2 HH hq2
        generalize w2.alloc (.cells #[(.slice A5 (stS (l.take (j + 1))).1.length c5), .int .i64 (stS (l.take (j + 1))).2] 27) = W6 at *
        generalize w2.heap.size = b6 at *
        obtain ⟨hs6, hst6, h6, g6, hB6⟩ := HF.out
        obtain ⟨z0, z1, zf0, zf1⟩ := hs6.cells
        obtain ⟨t0, t1, _, _⟩ := h6.cells
        clear hs6 hst6 h6 g6 hB6
        go_wp2_with (first | (go_at_call 15; (with_reducible refine (HNU.out _).mono ?_); rintro e w7 ⟨rfl, rfl⟩))
        obtain ⟨hs6, hst6, h6, g6, hB6⟩ := HF.out
        go_roundw
        case rel => exact ⟨j + 1, A5, c5, by go_num, hlt, hs6.set _ _, g6.two hs6 _ _, hst6.other HNE.out _ _, (hB6.setCell (p := ⟨b4, 0, none⟩) HLE.out _).setCell (p := ⟨b4, 1, none⟩) HLE.out _⟩
        case measure => simp [intOf]; omega
      · obtain ⟨hs4, hst, hB⟩ := HH.out
        have hl4 := heap_lt hs4
        have hl2 := heap_lt hst
        have hT6 := HT6.out
        have HF := Lib.hid (And.intro ((hs4.below hq2).other (b' := W.heap.size) (by omega) (.slice A5 (stS (l.take (j + 1))).1.length c5) (.int .i64 (stS (l.take (j + 1))).2)) (And.intro ((hst.below hq2).other (b' := W.heap.size) (by omega) (.slice A5 (stS (l.take (j + 1))).1.length c5) (.int .i64 (stS (l.take (j + 1))).2)) (And.intro (hT6.set (.slice A5 (stS (l.take (j + 1))).1.length c5) (stS (l.take (j + 1))).2) (And.intro ((HST2.out.le (B' := w.heap.size) (by have := hB.size; simp; omega)).two hT6 (.slice A5 (stS (l.take (j + 1))).1.length c5) (.int .i64 (stS (l.take (j + 1))).2)) (((hB.trans (hq2.mono hB.size)).setCell (p := ⟨W.heap.size, 0, none⟩) hB.size (.slice A5 (stS (l.take (j + 1))).1.length c5)).setCell (p := ⟨W.heap.size, 1, none⟩) hB.size (.int .i64 (stS (l.take (j + 1))).2))))))
        clear hs4 hst hB HST2 HH hq2 hT6 HT6 hl4 hl2
        generalize (w2.setCell ⟨W.heap.size, 0, none⟩ (.slice A5 (stS (l.take (j + 1))).1.length c5)).setCell ⟨W.heap.size, 1, none⟩ (.int .i64 (stS (l.take (j + 1))).2) = W6 at *
        generalize W.heap.size = b6 at *
        obtain ⟨hs6, hst6, h6, g6, hB6⟩ := HF.out
        obtain ⟨z0, z1, zf0, zf1⟩ := hs6.cells
        obtain ⟨t0, t1, _, _⟩ := h6.cells
        clear hs6 hst6 h6 g6 hB6
        go_wp2_with (first | (go_at_call 15; (with_reducible refine (HNU.out _).mono ?_); rintro e w7 ⟨rfl, rfl⟩))
        obtain ⟨hs6, hst6, h6, g6, hB6⟩ := HF.out
        go_roundw
        case rel => exact ⟨j + 1, A5, c5, by go_num, hlt, hs6.set _ _, g6.two hs6 _ _, hst6.other HNE.out _ _, (hB6.setCell (p := ⟨b4, 0, none⟩) HLE.out _).setCell (p := ⟨b4, 1, none⟩) HLE.out _⟩
        case measure => simp [intOf]; omega
    · obtain rfl : j = l.length := by omega
      rw [List.take_length] at *
      have hlt' : ¬ ((l.length : Int) < (l.length : Int)) := by omega
      have hk : StateB ((wr.setCell ⟨w.heap.size, 0, none⟩ (.slice A4 (stS l).1.length c4)).setCell ⟨w.heap.size, 1, none⟩ (.int .i64 (stS l).2)) w.heap.size (.agg #[.slice A4 (stS l).1.length c4, .int .i64 (stS l).2]) (stS l) := hrd.keep fun b hb =>
        (heap_setCell_other _ ⟨w.heap.size, 1, none⟩ b _ (fun e => by have e : b = w.heap.size := e; subst e; exact hb _ _ hst)).trans (heap_setCell_other wr ⟨w.heap.size, 0, none⟩ b _ (fun e => by have e : b = w.heap.size := e; subst e; exact hb _ _ hst))
      have hBe := (hB.setCell (p := ⟨w.heap.size, 0, none⟩) (Nat.le_refl _) (.slice A4 (stS l).1.length c4)).setCell (p := ⟨w.heap.size, 1, none⟩) (Nat.le_refl _) (.int .i64 (stS l).2)
      obtain ⟨p0, p1, _, _⟩ := (hst.set (.slice A4 (stS l).1.length c4) (stS l).2).cells
      go_wp2
      exact bodyPost_ret (v := .tuple #[.agg #[.slice A4 (stS l).1.length c4, .int .i64 (stS l).2], .bool true]) (by simp [results, Try.results34, go_sem, p0, p1]) rfl ⟨_, rfl, hk, hBe⟩
end Go.Proofs.Ytkpjkglheegmgaa
/- The example: the walk of alive. Conditions: none. -/
namespace Go.Proofs.Ytkpjkglheegmgaa
open Go.RowKit
set_option linter.unusedSimpArgs false
set_option linter.unusedVariables false

theorem five_state : ∃ (t : Tr), fil five = (1, t) ∧ t.ks.length ≠ 0 ∧ (stS five).1.length = 3 ∧ getT 1 t (k1 100) = some (bang (k1 100)) := by
  obtain ⟨t, h1, h2, h3, h4⟩ := five_made
  refine ⟨t, h1, h3, ?_, h4⟩
  unfold stS
  rw [h1]
  have hk : t.ks.isEmpty = false := by
    cases hks : t.ks with
    | nil => rw [hks] at h3; exact absurd rfl h3
    | cons a l => rfl
  unfold layS
  rw [hk, if_neg (by decide), (lay_pre 1 t []).2, h2]; rfl
theorem bang_d : (bang (k1 100)).s = ⟨#[100, 33]⟩ := by
  rw [bang_s (by show 1 ≤ 1000; decide)]; rfl
theorem five_cells (w : World) : Rd (w.alloc (.cells #[.string ⟨#[99]⟩, .string ⟨#[97]⟩, .string ⟨#[101]⟩, .string ⟨#[98]⟩, .string ⟨#[100]⟩] 9)) (some ⟨w.heap.size, 0, none⟩) 5 5 (strs five) := by
  refine ⟨rfl, Nat.le_refl _, by decide, fun e => (by cases e), fun ad e j u hj => ?_⟩
  injection e with e
  subst e
  rw [cell_blk (heap_alloc_new w _), ← hj]
  simp [strs, five, k1]
set_option maxRecDepth 100000 in
set_option maxHeartbeats 2000000 in
theorem alive_any (w : World) : Calls Try.prog 20 #[] w fun e w' => e = .returned (.bool true) ∧ Below w.heap.size w w' := by
  obtain ⟨t, h1, h2, h3, h4⟩ := five_state
  obtain ⟨r1, r2, r3, _⟩ := stS_rd (l := five) (by decide)
  have hf := filled_any five (some ⟨w.heap.size, 0, none⟩) 5 _ (five_cells w) (by decide) (by decide)
  change Calls _ _ #[.slice (some ⟨w.heap.size, 0, none⟩) 5 5] _ _ at hf
  have HF := Lib.hid hf
  clear hf
  have HD := Lib.hid fun (A : Option Addr) (c : Nat) (W : World) (hr : RdS W A (stS five).1.length (stS five).1) => depth_state _ _ c A _ W hr r2 r3
  have HG := Lib.hid fun (A : Option Addr) (c : Nat) (W : World) (hr : RdS W A (stS five).1.length (stS five).1) => (show Calls Try.prog 13 #[.agg #[.slice A (stS five).1.length c, .int .i64 (stS five).2], .string ⟨#[100]⟩] W _ from get_state _ _ c A _ (k1 100) W hr r2 r3)
  rw [r1, h1] at HD HG
  dsimp only at HD HG
  rw [h4, if_neg h2] at *
  simp only [Option.elim, Option.isSome_some, bang_d] at HG
  have HNU := Lib.hid (num_any 0 · (by omega))
  rw [h3] at HD HG
  have H3 := Lib.hid h3
  clear h1 h2 h4 r1 r2 r3 h3
  generalize stS five = s at *
  go_enter Try.func20, Try.ntmps20
  go_upto_region 2 with (first
    | (go_at_call 34; (with_reducible refine HF.out.mono ?_); rintro e w1 ⟨v1, rfl, hs1, hb1⟩; have hs2 := hs1.rd; rw [H3.out] at hs2; obtain ⟨A1, c1, rfl, hrd⟩ := hs2; have HRD := Lib.hid hrd; have HB1 := Lib.hid hb1; clear hb1 hs1 hrd))
  have hT : Two (w1.alloc (.cells #[.slice A1 3 c1, .int .i64 s.2] 27)) w1.heap.size (.slice A1 3 c1) s.2 := heap_alloc_new w1 _
  have hrd2 := HRD.out.below (below1 w1 (.cells #[.slice A1 3 c1, .int .i64 s.2] 27))
  have hB2 : Below w.heap.size w (w1.alloc (.cells #[.slice A1 3 c1, .int .i64 s.2] 27)) := by
    have := HB1.out
    have hz := this.size
    simp only [World.size_alloc] at hz
    exact (thn (below1 w _) this).alloc (by omega) _
  generalize w1.alloc (.cells #[.slice A1 3 c1, .int .i64 s.2] 27) = w2 at *
  generalize w1.heap.size = b at *
  clear HF HRD HB1
  obtain ⟨z0, z1, _, _⟩ := hT.cells
  have HK := Lib.hid (And.intro hT (And.intro hrd2 hB2))
  clear hT hrd2 hB2
  go_upto_region 3 with (first
    | (go_at_call 11; (with_reducible refine (HD.out A1 c1 _ HK.out.2.1).mono ?_); rintro e w3 ⟨hb3, rfl⟩; have z0 := cell_keep z0 hb3; have z1 := cell_keep z1 hb3; have HB3 := Lib.hid hb3; clear hb3))
  go_upto_region 4 with (first
    | (go_at_call 13; (with_reducible refine (HG.out A1 c1 _ (HK.out.2.1.below HB3.out)).mono ?_); rintro e w4 ⟨hb4, rfl⟩; have z0 := cell_keep z0 hb4; have z1 := cell_keep z1 hb4; have HB4 := Lib.hid hb4; clear hb4))
  go_wp2_with (first
    | (go_at_call 15; (with_reducible refine (HNU.out _).mono ?_); rintro e w7 ⟨rfl, rfl⟩))
  go_ret
  obtain ⟨hT, _, hB⟩ := HK.out
  exact ⟨rfl, (hB.trans (HB3.out.mono hB.size)).trans (HB4.out.mono (Nat.le_trans hB.size HB3.out.size))⟩
end Go.Proofs.Ytkpjkglheegmgaa
/- Pairs read; lists of pairs, of texts and of numbers compared: the walks. Conditions: lists that are read in memory. -/
namespace Go.Proofs.Ytkpjkglheegmgaa
open Go.RowKit Go.Sort
set_option linter.unusedSimpArgs false
set_option linter.unusedVariables false

/-- The slice at A reads as pairs. -/
structure RdP (w : World) (A : Option Addr) (n : Nat) (l : List Pr) : Prop where
  len : n = l.length
  max : n ≤ 9223372036854775807
  at_ : ∀ (i : Nat) (h : i < l.length), ∃ ad, A = some ad ∧ w.cell? (ad.add (i * 2)) = some (.string l[i].1.s) ∧ w.cell? ⟨(ad.add (i * 2)).block, (ad.add (i * 2)).off + 1, none⟩ = some (.string l[i].2.s)
theorem RdP.below {w w' : World} {A : Option Addr} {n : Nat} {l : List Pr} (r : RdP w A n l) (hb : Below w.heap.size w w') : RdP w' A n l := ⟨r.len, r.max, fun i h => by
  obtain ⟨ad, e, h1, h2⟩ := r.at_ i h
  exact ⟨ad, e, cell_keep h1 hb, cell_keep h2 hb⟩⟩
theorem pcells_at : ∀ (l : List Pr) (i : Nat) (h : i < l.length), (pcells l)[i * 2]? = some (.string l[i].1.s) ∧ (pcells l)[i * 2 + 1]? = some (.string l[i].2.s)
  | p :: l, 0, _ => ⟨rfl, rfl⟩
  | p :: l, i + 1, h => by
    have := pcells_at l i (by simpa using h)
    have e : pcells (p :: l) = .string p.1.s :: .string p.2.s :: pcells l := rfl
    rw [e, show (i + 1) * 2 = i * 2 + 1 + 1 by omega]
    exact this
theorem RdP.of_own {w : World} {B : Nat} {e : TypeId} {v : Value} {l : List Pr} (o : w.ownsRow B e 2 v l.length (pcells l)) : ∃ A c, v = .slice A l.length c ∧ RdP w A l.length l ∧ l.length ≤ c := by
  have oo := o
  rcases o.2 with ⟨rfl, hn⟩ | ⟨g, cap, cur, rfl, _, _, hc, hm, _⟩
  · have : l = [] := List.eq_nil_of_length_eq_zero hn
    subst this
    exact ⟨none, 0, rfl, ⟨rfl, by simp, fun i h => by simp at h⟩, by simp⟩
  · unfold maxLen at hm
    refine ⟨_, cap, rfl, ⟨rfl, by omega, fun i h => ?_⟩, hc⟩
    obtain ⟨a, b⟩ := pcells_at l i h
    have cell := fun (j : Nat) (u : Value) (hj : (pcells l)[j]? = some u) => oo.cells (g := g) rfl j u hj
    refine ⟨⟨g, 0, none⟩, rfl, cell _ _ a, ?_⟩
    have := cell _ _ b
    rw [add_two _ _ (by omega)] at this
    exact this
theorem guardP : Try.prog.eqGuardType Try.prog.depth 47 = false := by kernel_rfl
theorem stoodP : Try.prog.stoodInHeld 47 = false := by kernel_rfl
theorem underP : Try.prog.underlying 47 = some (.struct (Try.prog.fieldsOf 47)) := by simp only [Program.fieldsOf, Try.underlying47]
theorem eqP_iff {a b : Pr} : (a.1.s.toList == b.1.s.toList && a.2.s.toList == b.2.s.toList) = true ↔ a = b := by
  obtain ⟨a1, a2⟩ := a
  obtain ⟨b1, b2⟩ := b
  simp [key_eq]
theorem run_neqP (a b : Pr) (w : World) : (binOp .neq 47 (.agg #[.string a.1.s, .string a.2.s]) (.agg #[.string b.1.s, .string b.2.s])).run Try.prog w = .ok (.bool (!decide (a = b))) w := by
  rw [run_neq_struct, run_equalIn_agg w 9999 47 _ _ underP stoodP]
  have e : decide (a = b) = (a.1.s.toList == b.1.s.toList && a.2.s.toList == b.2.s.toList) := by
    rw [Bool.eq_iff_iff, decide_eq_true_iff, eqP_iff]
  rw [e]
  simp [go_sem, Try.underlying47]
  by_cases h1 : a.1.s.toList = b.1.s.toList <;> by_cases h2 : a.2.s.toList = b.2.s.toList <;> simp [h1, h2]
theorem Rd.mx {w : World} {A : Option Addr} {n c : Nat} {xs : List Value} (h : Rd w A n c xs) : n ≤ 9223372036854775807 := Nat.le_trans h.le h.cap

set_option maxRecDepth 100000 in
set_option maxHeartbeats 2000000 in
theorem samePairs_any (A B : Option Addr) (c d n m : Nat) (l r : List Pr) (w : World) (ha : RdP w A n l) (hb : RdP w B m r) :
    Calls Try.prog 14 #[.slice A n c, .slice B m d] w fun e w' => e = .returned (.bool (decide (l = r))) ∧ Below w.heap.size w w' := by
  have HA := Lib.hid ha
  have HB := Lib.hid hb
  have hna := ha.len
  have hnb := hb.len
  have hma := ha.max
  have hmb := hb.max
  subst hna
  subst hnb
  have hgv := guardP
  have hmp : ∀ {α : Type} [DecidableEq α] (l r : List α) (j : Nat) (h1 : j < l.length) (h2 : j < r.length), l[j] ≠ r[j] → decide (l = r) = false := fun l r j h1 h2 h => decide_eq_false fun e => by subst e; exact h rfl
  clear ha hb
  by_cases hl : l.length = r.length
  · have hli : (l.length : Int) = (r.length : Int) := by omega
    have hle : ((l.length : Int) != (r.length : Int)) = false := by simp [hl]
    have HLE := Lib.hid hl
    clear hl
    go_enter Try.func14, Try.ntmps14
    go_wp2
    clear hle hli
    go_loopw [5] (fun i wr => ∃ j : Nat, i = .int .i64 j ∧ j ≤ l.length ∧ Below w.heap.size w wr ∧ l.take j = r.take j) (fun i _ => l.length - (intOf i).toNat)
    case atStart => exact ⟨0, rfl, by omega, Below.refl _ _, rfl⟩
    case round =>
      obtain ⟨j, rfl, hj, hBB, hT⟩ := hrel
      have HBB := Lib.hid (And.intro hBB hT)
      clear hBB hT
      by_cases hlt : j < l.length
      · have hlt2 : j < r.length := by have := HLE.out; omega
        obtain ⟨ad, e0, a0, a1⟩ := (HA.out.below HBB.out.1).at_ j hlt
        obtain ⟨bd, e1, b0, b1⟩ := (HB.out.below HBB.out.1).at_ j hlt2
        subst e0
        subst e1
        have HM := Lib.hid (hmp l r j hlt hlt2)
        have HTK := Lib.hid (show l[j] = r[j] → l.take (j + 1) = r.take (j + 1) from fun e => by rw [List.take_succ_eq_append_getElem hlt, List.take_succ_eq_append_getElem hlt2, HBB.out.2, e])
        have hlt' : (j : Int) < (l.length : Int) := by omega
        have hlt2' : (j : Int) < (r.length : Int) := by omega
        clear hmp
        generalize l[j] = x at *
        generalize r[j] = y at *
        have hq := run_neqP x y
        go_wp2_with fail
        have p0 := cell_regrown a0
        have p1 := cell_regrown a1
        have q0 := cell_regrown b0
        have q1 := cell_regrown b1
        clear a0 a1 b0 b1
        cases hE : (!decide (x = y))
        all_goals rw [hE] at hq
        all_goals have HE := Lib.hid hE
        all_goals clear hE
        all_goals
          refine wp_region_quiet_below (by kernel_rfl) (by kernel_rfl) ?_
          repeat (go_big_quiet_step (fail))
          refine wpQuiet_nil ?_
          intro w5 hw5
          obtain ⟨pp, rfl⟩ := hw5
          have HB5 := Lib.hid (below_regrown wr pp.d pp.os)
          clear hq
          generalize grow (redrawn wr pp.d) pp.os = W5 at HB5 ⊢
          go_wp2
        · go_roundw
          case rel => exact ⟨j + 1, by go_num, hlt, HBB.out.1.trans (HB5.out.mono HBB.out.1.size), HTK.out (by simpa using HE.out)⟩
          case measure => simp [intOf]; omega
        · go_ret
          exact ⟨ret_bool (HM.out (by simpa using HE.out)).symm, HBB.out.1.trans (HB5.out.mono HBB.out.1.size)⟩
      · obtain rfl : j = l.length := by omega
        have hT := HBB.out.2
        have hl := HLE.out
        rw [List.take_length, hl, List.take_length] at hT
        have HT := Lib.hid hT
        clear hT hl
        have hnl : ¬ ((l.length : Int) < (l.length : Int)) := by omega
        go_wp2
        go_ret
        exact ⟨ret_bool (decide_eq_true HT.out).symm, HBB.out.1⟩
  · have hli : ¬ (l.length : Int) = (r.length : Int) := by omega
    have hle : ((l.length : Int) != (r.length : Int)) = true := by simp; omega
    have hd : decide (l = r) = false := decide_eq_false fun e => hl (by rw [e])
    rw [hd]
    clear hl
    go_enter Try.func14, Try.ntmps14
    go_wp2
    go_ret
    exact ⟨rfl, Below.refl _ _⟩
end Go.Proofs.Ytkpjkglheegmgaa
/- A span of all, cut anywhere: the walk of BtreeAll. Conditions: a state that is read in memory. -/
namespace Go.Proofs.Ytkpjkglheegmgaa
open Go.RowKit
set_option linter.unusedSimpArgs false
set_option linter.unusedVariables false

/-- What Range tells of a state. -/
def rngL (R : Option (Nat × Tr)) (k u : Key) : List Pr := match R with
  | none => []
  | some (m, t) => spanT (prs m t) k u
def errR (R : Option (Nat × Tr)) : Int := if R.isSome = true then 0 else 9
theorem rngL_len {nodes : List Nd} {root : Int} (k u : Key) : (rngL (rdS nodes root) k u).length ≤ 2048 := by
  cases hR : rdS nodes root with
  | none => exact Nat.zero_le _
  | some r =>
    obtain ⟨m, t⟩ := r
    exact Nat.le_trans (List.length_filter_le _ _) (rdS_ok hR).2.1
theorem range_sum (nodes : List Nd) (n c : Nat) (A : Option Addr) (root : Int) (k u : Key) (w : World) (hS : RdS w A n nodes) (hW : Wfn nodes) (hr : -9223372036854775808 ≤ root ∧ root ≤ 9223372036854775807) :
    Calls Try.prog 9 #[.agg #[.slice A n c, .int .i64 root], .string k.s, .string u.s] w fun e w' => ∃ A' c', e = .returned (.tuple #[.slice A' (rngL (rdS nodes root) k u).length c', .int .i64 (errR (rdS nodes root))]) ∧ RdP w' A' (rngL (rdS nodes root) k u).length (rngL (rdS nodes root) k u) ∧ (A' = none → c' = 0) ∧ Below w.heap.size w w' := by
  refine (range_state nodes n c A root k u w hS hW hr).mono ?_
  rintro e w' ⟨hb, he⟩
  cases hR : rdS nodes root with
  | none =>
    rw [hR] at he
    exact ⟨none, 0, he, ⟨rfl, by simp [rngL], fun i h => by simp [rngL] at h⟩, fun _ => rfl, hb⟩
  | some r =>
    obtain ⟨m, t⟩ := r
    rw [hR] at he
    obtain ⟨v, rfl, ho⟩ := he
    obtain ⟨A', c', rfl, hp, hc⟩ := RdP.of_own ho
    refine ⟨A', c', rfl, hp, fun e => ?_, hb⟩
    subst e
    rcases ho.2 with ⟨h1, _⟩ | ⟨g, cap, cur, h1, _⟩
    · injection h1
    · injection h1 with h1; cases h1
theorem noK_ge (x : Key) : noK ≤ x := by
  have := noK_le x
  grind
theorem cut_all : ∀ (l : List Pr) (k : Key), Asc (l.map (·.1)) → k ≠ noK → spanT l noK k ++ spanT l k noK = spanT l noK noK
  | [], _, _, _ => rfl
  | p :: l, k, h, hk => by
    obtain ⟨h1, h2⟩ := asc_cons.1 (by simpa using h : Asc (p.1 :: l.map (·.1)))
    have ih := cut_all l k h2 hk
    have hall : spanT (p :: l) noK noK = p :: spanT l noK noK := by
      unfold spanT
      rw [List.filter_cons_of_pos]
      simp [Till, noK_ge]
    rw [hall, ← ih]
    by_cases hp : p.1 < k
    · have e1 : spanT (p :: l) noK k = p :: spanT l noK k := by
        unfold spanT
        rw [List.filter_cons_of_pos]
        simp [Till, noK_ge, hp]
      have e2 : spanT (p :: l) k noK = spanT l k noK := by
        unfold spanT
        rw [List.filter_cons_of_neg]
        have : ¬ k ≤ p.1 := by grind
        simp [this]
      rw [e1, e2, List.cons_append]
    · have e2 : spanT (p :: l) k noK = p :: spanT l k noK := by
        unfold spanT
        rw [List.filter_cons_of_pos]
        have : k ≤ p.1 := by grind
        simp [Till, this]
      have e1 : spanT (p :: l) noK k = [] := by
        unfold spanT
        refine filter_none fun q hq => ?_
        have hq2 : ¬ q.1 < k := by
          rcases List.mem_cons.1 hq with rfl | hq
          · exact hp
          · have := h1 q.1 (List.mem_map.2 ⟨q, hq, rfl⟩); grind
        simp [Till, hk, hq2]
      have e3 : spanT l noK k = [] := by
        unfold spanT
        refine filter_none fun q hq => ?_
        have hq2 : ¬ q.1 < k := by have := h1 q.1 (List.mem_map.2 ⟨q, hq, rfl⟩); grind
        simp [Till, hk, hq2]
      rw [e1, e2, e3, List.nil_append, List.nil_append]
theorem rngL_cut {nodes : List Nd} {root : Int} (k : Key) (hk : k ≠ noK) : rngL (rdS nodes root) noK k ++ rngL (rdS nodes root) k noK = rngL (rdS nodes root) noK noK := by
  cases hR : rdS nodes root with
  | none => rfl
  | some r =>
    obtain ⟨m, t⟩ := r
    exact cut_all _ k (prs_asc _ _ _ _ (rdS_ok hR).1) hk
/-- An append whose run is known, behind a guard that holds. -/
theorem wpList_append_ran {P : Program} (w : World) {ops : Array Oper} {rest : List Oper} {o : Oper} {a : Act} {Q : Exit → Act → World → Prop} (hw : Region.wanted o (yielded ops a.tmps) = true) (s x : Operand) (t tn : TypeId)
    (ho : o.op = .call { callee := .builtin .append, args := #[s, x], argTypes := #[t, tn] }) (vs vx : Value) (hs : a.eval s = vs) (hx : a.eval x = vx)
    (v' : Value) (w' : World) (hr : (Builtin.append_ #[t, tn] o.type #[vs, vx]).run P w = .ok v' w') (h : wpList P ops Q rest (a.put o.dst v') w') : wpList P ops Q (o :: rest) a w :=
  wpList_step fun K hK => by
    rw [if_pos hw]
    exact Lib.wp_append_run w s x t tn ho vs vx hs hx v' w' hr (hK _ _ h)
/-- append of pairs that are read. -/
theorem run_appendP (w : World) (base : Nat) (v : Value) (xs : List Pr) (hown : w.ownsRow base 47 2 v xs.length (pcells xs)) (A : Option Addr) (c : Nat) (l : List Pr) (hr : RdP w A l.length l) (hc : A = none → c = 0) (hx : xs.length ≤ 100000) (hl : l.length ≤ 100000) (hbase : base ≤ w.heap.size) :
    ∃ v' w', (Builtin.append_ #[29, 29] 29 #[v, .slice A l.length c]).run Try.prog w = .ok v' w' ∧ w'.ownsRow base 47 2 v' (xs ++ l).length (pcells (xs ++ l)) ∧ w.grownBy w' v.ownBlock := by
  obtain ⟨iP, hiP, hiz, hi1, hi2⟩ := info_parts3 Try.infoP
  cases A with
  | none =>
    obtain rfl := hc rfl
    have hn : l = [] := by
      cases l with
      | nil => rfl
      | cons p l => obtain ⟨ad, e, _⟩ := hr.at_ 0 (by simp); cases e
    subst hn
    refine ⟨v, w, ?_, by simpa using hown, ⟨rfl, rfl, rfl, Nat.le_refl _, fun _ _ _ => rfl⟩⟩
    rcases hown.2 with ⟨rfl, hz⟩ | ⟨g, cap, cur, rfl, _, _, hnc, _⟩
    · simp [Builtin.append_, run_underlying Try.underlying29, sizeOf, typeInfo, hiP, Builtin.lenOf, Builtin.firstCells]
    · simp [Builtin.append_, run_underlying Try.underlying29, sizeOf, typeInfo, hiP, Builtin.lenOf, Builtin.firstCells, hnc, storeCells]
  | some ad =>
    obtain ⟨v', w', hrun, h2, h3, _⟩ := run_append_own (P := Try.prog) w base 29 29 47 iP (.agg #[.string ⟨#[]⟩, .string ⟨#[]⟩]) 2 32 Try.underlying29 hiP hiz hi1 hi2 rfl (by decide) v xs.length (pcells xs) hown ad l.length c (pcells l) (pcells_len l) (fun j u hj => by
      have hjl : j < l.length * 2 := by rw [← pcells_len]; exact (List.getElem?_eq_some_iff.1 hj).1
      have hi : j / 2 < l.length := by omega
      obtain ⟨ad', e, a0, a1⟩ := hr.at_ (j / 2) hi
      have e2 := Option.some.inj e
      clear e
      subst e2
      obtain ⟨p0, p1⟩ := pcells_at l (j / 2) hi
      rcases Nat.mod_two_eq_zero_or_one j with h | h
      · have ej : j / 2 * 2 = j := by omega
        rw [ej] at p0 a0
        rw [p0] at hj
        rw [← Option.some.inj hj]
        exact a0
      · have ej : j / 2 * 2 + 1 = j := by omega
        rw [ej] at p1
        rw [p1] at hj
        rw [← Option.some.inj hj]
        have := add_two (ad := ad) (j / 2 * 2) 1 (by omega)
        rw [ej] at this
        rw [this]
        exact a1) (fun u hu => by
      obtain ⟨p, _, hp⟩ := List.mem_flatMap.1 hu
      simp [pcell] at hp
      rcases hp with rfl | rfl <;> rfl) (by unfold maxLen; omega) (by omega) hbase
    exact ⟨v', w', hrun, by rw [List.length_append, pcells_app]; exact h2, h3⟩
end Go.Proofs.Ytkpjkglheegmgaa
/- A span of all, cut anywhere: the walk of BtreeAll. Conditions: a state that is read in memory, whose lists a machine can hold. -/
namespace Go.Proofs.Ytkpjkglheegmgaa
open Go.RowKit
set_option linter.unusedSimpArgs false
set_option linter.unusedVariables false

/-- A state handed in: two cells of a variable. -/
def TwoR (w : World) (b : Nat) (v : Value) (r : Int) : Prop := w.heap[b]? = some (.cells #[v, .int .i64 r] 24 (0, 0))
theorem TwoR.cells {w : World} {b : Nat} {v : Value} {r : Int} (h : TwoR w b v r) : w.cell? ⟨b, 0, none⟩ = some v ∧ w.cell? ⟨b, 1, none⟩ = some (.int .i64 r) := by
  unfold TwoR at h
  refine ⟨?_, ?_⟩ <;> simp [World.cell?, h]
theorem errR_fits (R : Option (Nat × Tr)) : -9223372036854775808 ≤ errR R ∧ errR R ≤ 9223372036854775807 := by
  unfold errR
  split <;> decide
/-- Of, and a span of what it answers. -/
theorem of_range (nodes : List Nd) (root : Int) (hRe : Reach nodes) (hW : Wfn nodes) (hr : -9223372036854775808 ≤ root ∧ root ≤ 9223372036854775807) (w0 w : World) (A : Option Addr) (n c : Nat) (hS : RdS w A n nodes) :
    Calls Try.prog 8 #[.agg #[.slice A n c, .int .i64 root]] w fun e w' => ∃ A' c', e = .returned (.agg #[.slice A' n c', .int .i64 root]) ∧ Hid (∀ (k u : Key), Calls Try.prog 9 #[.agg #[.slice A' n c', .int .i64 root], .string k.s, .string u.s] w' fun e w'' => ∃ A2 c2, e = .returned (.tuple #[.slice A2 (rngL (rdS nodes root) k u).length c2, .int .i64 (errR (rdS nodes root))]) ∧ RdP w'' A2 (rngL (rdS nodes root) k u).length (rngL (rdS nodes root) k u) ∧ (A2 = none → c2 = 0) ∧ Below w'.heap.size w' w'') ∧ Below w.heap.size w w' := by
  refine (of_any nodes n c A root w hS hRe).mono ?_
  rintro e w' ⟨A', c', rfl, hS', hb⟩
  exact ⟨A', c', rfl, Lib.hid fun k u => range_sum nodes n c' A' root k u w' hS' hW hr, hb⟩
set_option maxRecDepth 100000 in
set_option maxHeartbeats 4000000 in
theorem kAll_any (nodes : List Nd) (n c : Nat) (A : Option Addr) (root : Int) (k : Key) (w : World) (hS : RdS w A n nodes) (hRe : Reach nodes) (hW : Wfn nodes) (hr : -9223372036854775808 ≤ root ∧ root ≤ 9223372036854775807) :
    Calls Try.prog 7 #[.agg #[.slice A n c, .int .i64 root], .string k.s] w fun e w' => e = .returned (.bool true) ∧ Below w.heap.size w w' := by
  have HAL := Lib.hid alive_any
  by_cases hk : k = noK
  · subst hk
    change Calls _ _ #[_, .string ⟨#[]⟩] _ _
    go_enter Try.func7, Try.ntmps7
    go_upto_region 2 with (first | (go_at_call 20; (with_reducible refine (HAL.out _).mono ?_); rintro e w1 ⟨rfl, hb1⟩; have HB1 := Lib.hid hb1; clear hb1))
    go_wp2_with (first | (go_at_call 20; (with_reducible refine (HAL.out _).mono ?_); rintro e w2 ⟨rfl, hb2⟩; have HB2 := Lib.hid hb2; clear hb2))
    go_ret
    exact ⟨rfl, thn (thn (below1 _ _) HB1.out) HB2.out⟩
  · have he : k.s.toList.isEmpty = false := by
      cases h : k.s.toList with
      | nil =>
        have e : noK.s.toList = [] := by rw [ByteArray.toList_eq]; rfl
        exact absurd (key_eq.1 (h.trans e.symm)) hk
      | cons a l => rfl
    have HCUT := Lib.hid (rngL_cut (nodes := nodes) (root := root) k hk)
    have HL := Lib.hid fun (k u : Key) => rngL_len (nodes := nodes) (root := root) k u
    have HOF := Lib.hid fun (w0 W : World) (hb : Below w.heap.size w W) => of_range nodes root hRe hW hr w0 W A n c (hS.below hb)
    clear hS hRe hW hr hk
    generalize rdS nodes root = R at *
    have hef := errR_fits R
    generalize errR R = E at *
    go_enter Try.func7, Try.ntmps7
    go_upto_region 3 with (first | (go_at_call 20; (with_reducible refine (HAL.out _).mono ?_); rintro e w1 ⟨rfl, hb1⟩; have HB1 := Lib.hid hb1; clear hb1))
    have hw2 : Below w.heap.size w w1 := thn (below1 w _) HB1.out
    obtain ⟨y2, z2⟩ := TwoR.cells (w := w1) (b := w.heap.size) (v := .slice A n c) (r := root) ((HB1.out.block w.heap.size (by simp)).trans (heap_alloc_new w _))
    go_upto_region 4 with (first
      | (go_at_call 8; (with_reducible refine (HOF.out w _ hw2).mono ?_); rintro e v3 ⟨A3, c3, rfl, hrg, hb⟩; have hr1 := hrg.out noK k; change Calls _ _ #[_, .string ⟨#[]⟩, .string k.s] _ _ at hr1; have HR3 := Lib.hid hr1; have HV3 := Lib.hid hb; clear hb hr1 hrg)
      | (go_at_call 9; (with_reducible refine HR3.out.mono ?_); rintro e w3 ⟨B3, d3, rfl, hp, hc, hb⟩; have HP3 := Lib.hid (And.intro hp hc); have HB3 := Lib.hid (thn HV3.out hb); clear hp hc hb))
    have hw3 : Below w.heap.size w w3 := thn hw2 HB3.out
    have y3 := cell_keep y2 HB3.out
    have z3 := cell_keep z2 HB3.out
    clear y2 z2
    go_upto_region 5 with (first
      | (go_at_call 8; (with_reducible refine (HOF.out w _ hw3).mono ?_); rintro e v4 ⟨A4, c4, rfl, hrg, hb⟩; have hr1 := hrg.out k noK; change Calls _ _ #[_, .string k.s, .string ⟨#[]⟩] _ _ at hr1; have HR4 := Lib.hid hr1; have HV4 := Lib.hid hb; clear hb hr1 hrg)
      | (go_at_call 9; (with_reducible refine HR4.out.mono ?_); rintro e w4 ⟨B4, d4, rfl, hp, hc, hb⟩; have HP4 := Lib.hid (And.intro hp hc); have HB4 := Lib.hid (thn HV4.out hb); clear hp hc hb))
    have hw4 : Below w.heap.size w w4 := thn hw3 HB4.out
    have y4 := cell_keep y3 HB4.out
    have z4 := cell_keep z3 HB4.out
    clear y3 z3
    go_upto_region 6 with (first
      | (go_at_call 8; (with_reducible refine (HOF.out w _ hw4).mono ?_); rintro e v5 ⟨A5, c5, rfl, hrg, hb⟩; have hr1 := hrg.out noK noK; change Calls _ _ #[_, .string ⟨#[]⟩, .string ⟨#[]⟩] _ _ at hr1; have HR5 := Lib.hid hr1; have HV5 := Lib.hid hb; clear hb hr1 hrg)
      | (go_at_call 9; (with_reducible refine HR5.out.mono ?_); rintro e w5 ⟨B5, d5, rfl, hp, hc, hb⟩; have HP5 := Lib.hid (And.intro hp hc); have HB5 := Lib.hid (thn HV5.out hb); clear hp hc hb))
    have hw5 : Below w.heap.size w w5 := thn hw4 HB5.out
    have y5 := cell_keep y4 HB5.out
    have z5 := cell_keep z4 HB5.out
    clear y4 z4
    have hl1 := HL.out noK k
    have hl2 := HL.out k noK
    have hp3 := (HP3.out.1.below HB4.out).below HB5.out
    have hp4 := HP4.out.1.below HB5.out
    obtain ⟨v6, w6, run6, own6, grow6⟩ := run_appendP w5 w5.heap.size (.slice none 0 0) [] (World.ownsRow_nil _ _ _ _) B3 d3 _ hp3 HP3.out.2 (by simp) (by omega) (Nat.le_refl _)
    have hb6 : Below w5.heap.size w5 w6 := grown_none grow6
    obtain ⟨A6, c6, rfl⟩ := own_form own6
    obtain ⟨v7, w7, run7, own7, grow7⟩ := run_appendP w6 w5.heap.size _ _ own6 B4 d4 _ (hp4.below hb6) HP4.out.2 (by simp; omega) (by omega) hb6.size
    have hb7 : Below w5.heap.size w5 w7 := hb6.grown grow7 hb6.size (fun x e => (own_in own6 e).1)
    obtain ⟨A7, c7, rfl, hrp7, _⟩ := RdP.of_own own7
    have HSP := Lib.hid (samePairs_any A7 B5 c7 d5 _ _ _ _ w7 hrp7 (HP5.out.1.below hb7))
    have HR6 := Lib.hid run6
    have HR7 := Lib.hid run7
    have HB7 := Lib.hid (hw5.trans (hb7.mono hw5.size))
    rw [List.nil_append, HCUT.out, decide_eq_true rfl] at HSP
    rw [List.nil_append] at HR6 HR7
    rw [HCUT.out] at HR7
    clear run6 run7 own6 own7 grow6 grow7 hb6 hb7 hrp7 hp3 hp4 hl1 hl2 hw2 hw3 hw4 hw5 y5 z5 HP3 HP4 HP5 HR3 HR4 HR5 HV3 HV4 HV5 HL HCUT HOF HAL
    go_upto_region 8 with (first
      | (at_builtin; refine Lib.wpList_append_run _ rfl _ _ _ _ rfl _ _ rfl rfl _ _ HR6.out ?_))
    clear HR6
    go_wp2_with (first
      | (go_at_call 14; (with_reducible refine HSP.out.mono ?_); rintro e w8 ⟨rfl, hb8⟩; have HB8 := Lib.hid hb8; clear hb8)
      | (at_builtin; refine wpList_append_ran _ (by rfl) _ _ _ _ rfl _ _ rfl rfl _ _ HR7.out ?_))
    go_ret
    exact ⟨rfl, HB7.out.trans (HB8.out.mono HB7.out.size)⟩
end Go.Proofs.Ytkpjkglheegmgaa
namespace Go.Proofs.Ytkpjkglheegmgaa
open Go.RowKit
set_option linter.unusedSimpArgs false
set_option linter.unusedVariables false

theorem span_all (l : List Pr) : spanT l noK noK = l := List.filter_eq_self.2 fun p _ => by simp [Till, noK_ge]
theorem prs_none {n : Nat} {t : Tr} (h : Good n t) : t.ks.length = 0 ↔ (prs n t).length = 0 := by
  have hl := h.len
  match n, h with
  | 0, h =>
    have hv : t.vs.length = t.ks.length := h.shape
    show _ ↔ (t.ks.zip t.vs).length = 0
    rw [List.length_zip, hv, Nat.min_self]
  | n + 1, h =>
    have h1 : Ok (n + 1) 1 4 none none t := by have h := h; unfold Good at h; rwa [show min (n + 1) 1 = 1 by omega] at h
    have h2 := prs_root h1
    have h3 : 1 ≤ 3 ^ n := Nat.one_le_pow _ _ (by decide)
    have h4 := h1.len
    omega
/-- How deep a state is. -/
def depD (R : Option (Nat × Tr)) : Nat := match R with
  | none => 0
  | some (m, t) => if t.ks.length = 0 then 0 else m + 1
theorem pow_le {n : Nat} (h : 4 * 3 ^ n ≤ 2048) : n ≤ 5 := by
  rcases Nat.lt_or_ge 5 n with h1 | h1
  · have h2 : 3 ^ 6 ≤ 3 ^ n := Nat.pow_le_pow_right (by decide) h1
    have h3 : (3 : Nat) ^ 6 = 729 := rfl
    omega
  · exact h1
theorem depD_facts (nodes : List Nd) (root : Int) : depD (rdS nodes root) ≤ 7 ∧ (depD (rdS nodes root) = 0 ↔ (rngL (rdS nodes root) noK noK).length = 0) ∧ (1 ≤ depD (rdS nodes root) → 1 ≤ (rngL (rdS nodes root) noK noK).length) ∧ (2 ≤ depD (rdS nodes root) → 4 * 3 ^ (depD (rdS nodes root) - 2) ≤ (rngL (rdS nodes root) noK noK).length) := by
  cases hR : rdS nodes root with
  | none => exact ⟨by decide, ⟨fun _ => rfl, fun _ => rfl⟩, fun h => absurd h (by decide), fun h => absurd h (by decide)⟩
  | some r =>
    obtain ⟨m, t⟩ := r
    obtain ⟨hG, hp, _, _⟩ := rdS_ok hR
    have h0 := prs_none hG
    show _ ∧ (_ ↔ (spanT (prs m t) noK noK).length = 0) ∧ (_ → _ ≤ (spanT (prs m t) noK noK).length) ∧ (_ → _ ≤ (spanT (prs m t) noK noK).length)
    rw [span_all]
    unfold depD
    simp only
    by_cases hk : t.ks.length = 0
    · rw [if_pos hk]
      exact ⟨by decide, ⟨fun _ => h0.1 hk, fun _ => rfl⟩, fun h => absurd h (by decide), fun h => absurd h (by decide)⟩
    · rw [if_neg hk]
      have h1 : (prs m t).length ≠ 0 := fun e => hk (h0.2 e)
      match m, hG with
      | 0, hG => exact ⟨by omega, ⟨fun h => by omega, fun h => absurd h h1⟩, fun _ => by omega, fun h => by omega⟩
      | m + 1, hG =>
        have h2 : Ok (m + 1) 1 4 none none t := by have h := hG; unfold Good at h; rwa [show min (m + 1) 1 = 1 by omega] at h
        have h3 := prs_root h2
        have h4 := pow_le (Nat.le_trans h3 hp)
        exact ⟨by omega, ⟨fun h => by omega, fun h => absurd h h1⟩, fun _ => by omega, fun _ => h3⟩
theorem depth_sum (nodes : List Nd) (n c : Nat) (A : Option Addr) (root : Int) (w : World) (hS : RdS w A n nodes) (hW : Wfn nodes) (hr : -9223372036854775808 ≤ root ∧ root ≤ 9223372036854775807) :
    Calls Try.prog 11 #[.agg #[.slice A n c, .int .i64 root]] w fun e w' => e = .returned (.tuple #[.int .i64 (depD (rdS nodes root)), .int .i64 (errR (rdS nodes root))]) ∧ Below w.heap.size w w' := by
  refine (depth_state nodes n c A root w hS hW hr).mono ?_
  rintro e w' ⟨hb, he⟩
  cases hR : rdS nodes root with
  | none => rw [hR] at he; exact ⟨he, hb⟩
  | some r =>
    obtain ⟨m, t⟩ := r
    rw [hR] at he
    refine ⟨he.trans ?_, hb⟩
    unfold depD errR
    simp only [Option.isSome_some, if_true]
    by_cases hk : t.ks.length = 0
    · rw [if_pos hk, if_pos hk]; rfl
    · rw [if_neg hk, if_neg hk]; rfl
/-- Of, and how deep what it answers is. -/
theorem of_depth (nodes : List Nd) (root : Int) (hRe : Reach nodes) (hW : Wfn nodes) (hr : -9223372036854775808 ≤ root ∧ root ≤ 9223372036854775807) (w : World) (A : Option Addr) (n c : Nat) (hS : RdS w A n nodes) :
    Calls Try.prog 8 #[.agg #[.slice A n c, .int .i64 root]] w fun e w' => ∃ A' c', e = .returned (.agg #[.slice A' n c', .int .i64 root]) ∧ Hid (Calls Try.prog 11 #[.agg #[.slice A' n c', .int .i64 root]] w' fun e w'' => e = .returned (.tuple #[.int .i64 (depD (rdS nodes root)), .int .i64 (errR (rdS nodes root))]) ∧ Below w'.heap.size w' w'') ∧ Below w.heap.size w w' := by
  refine (of_any nodes n c A root w hS hRe).mono ?_
  rintro e w' ⟨A', c', rfl, hS', hb⟩
  exact ⟨A', c', rfl, Lib.hid (depth_sum nodes n c' A' root w' hS' hW hr), hb⟩
/-- The least number of pairs, as the law reckons it. -/
def leastL (d : Nat) (i : Nat) : Nat := if i ≤ 2 then (if 1 ≤ d then 1 else 0) else 4 * 3 ^ (i - 3)
set_option maxRecDepth 100000 in
set_option maxHeartbeats 4000000 in
theorem kDeep_any (nodes : List Nd) (n c : Nat) (A : Option Addr) (root : Int) (w : World) (hS : RdS w A n nodes) (hRe : Reach nodes) (hW : Wfn nodes) (hr : -9223372036854775808 ≤ root ∧ root ≤ 9223372036854775807) :
    Calls Try.prog 6 #[.agg #[.slice A n c, .int .i64 root]] w fun e w' => e = .returned (.bool true) ∧ Below w.heap.size w w' := by
  have HAL := Lib.hid alive_any
  have HNU := Lib.hid num_any
  have HL := Lib.hid (rngL_len (nodes := nodes) (root := root) noK noK)
  have HF := Lib.hid (depD_facts nodes root)
  have HOF := Lib.hid fun (w0 W : World) (hb : Below w.heap.size w W) => of_range nodes root hRe hW hr w0 W A n c (hS.below hb)
  have HOD := Lib.hid fun (W : World) (hb : Below w.heap.size w W) => of_depth nodes root hRe hW hr W A n c (hS.below hb)
  clear hS hRe hW hr
  have hE : (errR (rdS nodes root) = 0 ∨ (errR (rdS nodes root) = 9 ∧ depD (rdS nodes root) = 0 ∧ (rngL (rdS nodes root) noK noK).length = 0)) := by
    cases rdS nodes root with
    | none => exact .inr ⟨rfl, rfl, rfl⟩
    | some r => exact .inl rfl
  have hef := errR_fits (rdS nodes root)
  generalize rdS nodes root = R at *
  generalize hl : rngL R noK noK = l at *
  generalize depD R = D at *
  generalize errR R = E at *
  go_enter Try.func6, Try.ntmps6
  go_upto_region 3 with (first | (go_at_call 20; (with_reducible refine (HAL.out _).mono ?_); rintro e w1 ⟨rfl, hb1⟩; have HB1 := Lib.hid hb1; clear hb1))
  have hw2 : Below w.heap.size w w1 := thn (below1 w _) HB1.out
  obtain ⟨y2, z2⟩ := TwoR.cells (w := w1) (b := w.heap.size) (v := .slice A n c) (r := root) ((HB1.out.block w.heap.size (by simp)).trans (heap_alloc_new w _))
  go_upto_region 4 with (first
    | (go_at_call 8; (with_reducible refine (HOD.out _ hw2).mono ?_); rintro e v3 ⟨A3, c3, rfl, hrg, hb⟩; have HR3 := hrg; have HV3 := Lib.hid hb; clear hb hrg)
    | (go_at_call 11; (with_reducible refine HR3.out.mono ?_); rintro e w3 ⟨rfl, hb⟩; have HB3 := Lib.hid (thn HV3.out hb); clear hb))
  have hw3 : Below w.heap.size w w3 := thn hw2 HB3.out
  have y3 := cell_keep y2 HB3.out
  have z3 := cell_keep z2 HB3.out
  clear y2 z2
  go_upto_region 5 with (first
    | (go_at_call 8; (with_reducible refine (HOF.out w _ hw3).mono ?_); rintro e v4 ⟨A4, c4, rfl, hrg, hb⟩; have hr1 := hrg.out noK noK; change Calls _ _ #[_, .string ⟨#[]⟩, .string ⟨#[]⟩] _ _ at hr1; have HR4 := Lib.hid hr1; have HV4 := Lib.hid hb; clear hb hr1 hrg)
    | (go_at_call 9; (with_reducible refine HR4.out.mono ?_); rintro e w4 ⟨B4, d4, rfl, hp, hc, hb⟩; have HB4 := Lib.hid (thn HV4.out hb); clear hp hc hb))
  have HW4 := Lib.hid (thn hw3 HB4.out)
  have HEF := Lib.hid hef
  clear y3 z3 hw3 hw2 HR3 HR4 HV3 HV4 HOF HOD HAL HB1 HB3 HB4 hl hef
  rcases hE with rfl | ⟨rfl, hD, hl0⟩
  · have HNU0 := Lib.hid fun w => HNU.out 0 w (by omega)
    go_upto_region 7 with (first | (go_at_call 15; (with_reducible refine (HNU0.out _).mono ?_); rintro e w7 ⟨rfl, rfl⟩))
    obtain ⟨f1, f2, f3, f4⟩ := HF.out
    have hstart : (1 ≤ D ∧ ((1 : Int) ≤ (D : Int))) ∨ (D = 0 ∧ ¬ ((1 : Int) ≤ (D : Int))) := by omega
    have HD7 := Lib.hid f1
    clear f1 f2 f3 f4
    rcases hstart with ⟨hD1, hDi⟩ | ⟨hD1, hDi⟩
    · have HD1 := Lib.hid hD1
      clear hD1
      go_wp2
      go_loopw [7, 8] (fun le i wr => wr = w4 ∧ ∃ j : Nat, i = .int .i64 j ∧ 2 ≤ j ∧ j ≤ max 2 (D + 1) ∧ le = .int .i64 (leastL D j)) (fun _ i _ => 20 - (intOf i).toNat)
      case atStart => exact ⟨by trivial, 2, rfl, by omega, by omega, by have h := HD1.out; simp [leastL, h]⟩
      case round =>
        obtain ⟨rfl, j, rfl, hj2, hj, rfl⟩ := hrel
        have h7 := HD7.out
        have h1000 : leastL D j ≤ 1000 := by
          unfold leastL
          have h3 : 3 ^ (j - 3) ≤ 3 ^ 5 := Nat.pow_le_pow_right (by decide) (by omega)
          have h4 : (3 : Nat) ^ 5 = 243 := rfl
          split
          · split <;> omega
          · omega
        have hw3 : IntKind.i64.wrap (3 * (leastL D j : Int)) = 3 * (leastL D j : Int) := IntWalk.i64_in _ (by omega)
        have hwj : IntKind.i64.wrap ((j : Int) + 1) = (j : Int) + 1 := IntWalk.i64_in _ (by omega)
        by_cases hlt : j ≤ D
        · have hji : (j : Int) ≤ (D : Int) := by omega
          have hj20 : (j : Int) < 20 := by omega
          by_cases h2 : j = 2
          · have hj2i : (j : Int) = 2 := by omega
            have HL2 := Lib.hid (show leastL D (j + 1) = 4 by rw [h2]; rfl)
            have HJ := Lib.hid (And.intro hj2 (And.intro hlt hj20))
            clear h2 hw3 hj2 hj h7
            go_wp2
            go_roundw
            case rel => exact ⟨by trivial, j + 1, by go_num, by have := HJ.out; omega, by have := HJ.out; omega, by rw [HL2.out]; rfl⟩
            case measure => have := HJ.out; simp [intOf]; omega
          · have hj2i : ¬ (j : Int) = 2 := by omega
            have HL2 := Lib.hid (show ((leastL D (j + 1) : Nat) : Int) = 3 * (leastL D j : Int) by
              unfold leastL
              rw [if_neg (by omega), if_neg (by omega), show j + 1 - 3 = (j - 3) + 1 by omega, Nat.pow_succ]
              omega)
            have HJ := Lib.hid (And.intro hj2 (And.intro hlt hj20))
            clear h2 hj2 hj h7
            go_wp2
            go_roundw
            case rel => exact ⟨by trivial, j + 1, by go_num, by have := HJ.out; omega, by have := HJ.out; omega, by rw [HL2.out]⟩
            case measure => have := HJ.out; simp [intOf]; omega
        · have hji : ¬ (j : Int) ≤ (D : Int) := by omega
          have hend : (leastL D j : Int) ≤ (l.length : Int) := by
            obtain ⟨f1, f2, f3, f4⟩ := HF.out
            have hD := HD1.out
            have hjj : j = 2 ∨ (3 ≤ j ∧ j = D + 1) := by omega
            rcases hjj with rfl | ⟨hj3, rfl⟩
            · have := f3 hD
              simp [leastL, hD]; omega
            · have := f4 (by omega)
              unfold leastL
              rw [if_neg (by omega), show D + 1 - 3 = D - 2 by omega]
              omega
          have hD0 : ¬ (D : Int) = 0 := by have := HD1.out; omega
          have hl0 : ¬ (l.length : Int) = 0 := by have := HF.out.2.2.1 HD1.out; omega
          have HBB := Lib.hid (show (((D : Int) == 0) == ((l.length : Int) == 0)) = true by
            have e1 : ((D : Int) == 0) = false := by simpa using hD0
            have e2 : ((l.length : Int) == 0) = false := by simpa using hl0
            rw [e1, e2]; rfl)
          clear hw3 hwj h1000 h7 hj hj2 hlt hD0 hl0
          go_wp2
          go_ret
          exact ⟨ret_bool HBB.out, HW4.out⟩
    · have HL0 := Lib.hid (HF.out.2.1.1 hD1)
      subst hD1
      simp only [Int.natCast_zero] at hDi ⊢
      have hl1 := List.eq_nil_of_length_eq_zero HL0.out
      subst hl1
      simp only [List.length_nil, Int.natCast_zero]
      go_wp2
      go_loopw [7, 8] (fun le i wr => wr = w4 ∧ i = .int .i64 2 ∧ le = .int .i64 0) (fun _ i _ => 0)
      case atStart => exact ⟨by trivial, rfl, rfl⟩
      case round =>
        obtain ⟨rfl, rfl, rfl⟩ := hrel
        go_wp2
        go_ret
        exact ⟨rfl, HW4.out⟩
  · have HNU0 := Lib.hid fun w => HNU.out 9 w (by omega)
    subst hD
    have hl1 := List.eq_nil_of_length_eq_zero hl0
    subst hl1
    simp only [List.length_nil, Int.natCast_zero]
    clear hl0
    go_wp2_with (first | (go_at_call 15; (with_reducible refine (HNU0.out _).mono ?_); rintro e w7 ⟨rfl, rfl⟩))
    go_ret
    exact ⟨rfl, HW4.out⟩
end Go.Proofs.Ytkpjkglheegmgaa
