/- Undo and Prune of package version over any chain: the walks. Conditions: a chain that is read in memory. -/
import Derived.Test.YtclcidcjeoajaaaVh
namespace Go.Proofs.Ytclcidcjeoajaaa
open Go.RowKit Go.Sort
set_option linter.unusedSimpArgs false
set_option linter.unusedVariables false

theorem Row.pairN {w w' : World} {g n : Nat} {l : List Ver} (h : Row w' g l) (hn : l.length = n) (hl : n ≤ 1000000) (hb : Below w.heap.size w w') : PairX l 0 w (.returned (.tuple #[.slice (some ⟨g, 0, none⟩) n n, .int .i64 0])) w' :=
  ⟨_, _, _, rfl, h.rd hn (by omega), hb⟩
set_option maxHeartbeats 4000000 in
theorem undo_bad (A : Option Addr) (n c : Nat) (l : List Ver) (x : Int) (w : World) (hr : Rd w A n c l) (h : ¬ Ok l) :
    Calls Try.prog 13 #[.slice A n c, .int .i64 x] w (PairX [] 9 w) := by
  have HC := Lib.hid (check_any A n c l w hr 9 (.inr ⟨h, rfl⟩))
  clear hr h
  go_enter Try.func13, Try.ntmps13
  go_wp2_with (go_at_call 10; (with_reducible refine HC.out.mono ?_); rintro e w1 ⟨rfl, hb1⟩)
  go_ret2
  exact PairX.nil hb1
set_option maxHeartbeats 4000000 in
theorem undo_ok (A : Option Addr) (n c : Nat) (l : List Ver) (x : Int) (w : World) (hr : Rd w A n c l) (h : Ok l) :
    Calls Try.prog 13 #[.slice A n c, .int .i64 x] w (PairX (wout x l) 0 w) := by
  have HC := Lib.hid (check_any A n c l w hr 0 (.inl ⟨h, rfl⟩))
  have HW := Lib.hid fun W (hb : Below w.heap.size w W) => without_any A n c l x W (hr.below hb)
  have hwl : (wout x l).length ≤ 64 := (h.wout x).1
  clear hr h
  generalize wout x l = r at *
  go_enter Try.func13, Try.ntmps13
  go_wp2_with (first | (go_at_call 10; (with_reducible refine HC.out.mono ?_); rintro e w1 ⟨rfl, hb1⟩; have HB1 := Lib.hid hb1; clear hb1) | (go_at_call 28; (with_reducible refine (HW.out _ HB1.out).mono ?_); rintro e w5 ⟨A5, n5, c5, rfl, hr5, hb5⟩; have HR5 := Lib.hid hr5; have HB5 := Lib.hid (thn HB1.out hb5); have HN5 := Lib.hid hr5.len; clear hr5 hb5) | (go_at_call 18; (with_reducible refine (fresh_x _ _ _ _ _ HR5.out (by have := HN5.out; omega)).mono ?_); rintro e w7 ⟨g7, rfl, hr7, hg7, hl7, hb7⟩; have HR7 := Lib.hid hr7; have HB7 := Lib.hid (thn HB5.out hb7); clear hr7 hg7 hl7 hb7))
  go_ret2
  exact HR7.out.pair (by omega) HB7.out
set_option maxHeartbeats 4000000 in
theorem prune_bad (A : Option Addr) (n c : Nat) (l : List Ver) (m : Int) (w : World) (hr : Rd w A n c l) (h : ¬ Ok l) :
    Calls Try.prog 7 #[.slice A n c, .int .i64 m] w (PairX [] 9 w) := by
  have HC := Lib.hid (check_any A n c l w hr 9 (.inr ⟨h, rfl⟩))
  clear hr h
  go_enter Try.func7, Try.ntmps7
  go_wp2_with (go_at_call 10; (with_reducible refine HC.out.mono ?_); rintro e w1 ⟨rfl, hb1⟩)
  go_ret2
  exact PairX.nil hb1
theorem prn_cases (m : Int) (l : List Ver) : (idx (cmtB m) l = -1 ∧ prn m l = l) ∨ ∃ k, ∃ h : k < l.length, idx (cmtB m) l = k ∧ prn m l = if l[k].g = true then l.take k else l.take (k + 1) := by
  by_cases h : l.findIdx (cmtB m) < l.length
  · refine .inr ⟨l.findIdx (cmtB m), h, by unfold idx; rw [if_pos h], ?_⟩
    rw [prn, List.getElem?_eq_getElem h]
  · exact .inl ⟨by unfold idx; rw [if_neg h], by rw [prn, List.getElem?_eq_none (by omega)]⟩
set_option maxHeartbeats 4000000 in
theorem prune_ok (A : Option Addr) (n c : Nat) (l : List Ver) (m : Int) (w : World) (hr : Rd w A n c l) (h : Ok l) :
    Calls Try.prog 7 #[.slice A n c, .int .i64 m] w (PairX (prn m l) 0 w) := by
  have HC := Lib.hid (check_any A n c l w hr 0 (.inl ⟨h, rfl⟩))
  have HO := Lib.hid fun W => committedBy_any m W
  have HI := Lib.hid fun q W (hb : Below w.heap.size w W) (hc : W.cell? q = some (.int .i64 m)) => index_cmt m q A n c l W (hr.below hb) hc
  have HR := Lib.hid hr
  have hlen := hr.len
  have hcap := hr.cap
  have hle := hr.le
  have hl64 := h.1
  clear hr h
  rcases prn_cases m l with ⟨h1, h2⟩ | ⟨k, hk, h1, h2⟩
  · rw [h1] at HI
    rw [h2]
    clear h1 h2
    have HLEN := Lib.hid hlen
    clear hlen
    go_enter Try.func7, Try.ntmps7
    go_wp2_with (first | (go_at_call 10; (with_reducible refine HC.out.mono ?_); rintro e w1 ⟨rfl, hb1⟩; have HB1 := Lib.hid hb1; clear hb1) | (go_at_call 17; (with_reducible refine (HO.out _).mono ?_); rintro e w3 ⟨rfl, rfl⟩; have HB2 := Lib.hid (thn HB1.out (below1 w1 (.cells #[.int .i64 m] 3)))) | (go_at_call 16; (with_reducible refine (HI.out _ _ HB2.out (cell_last _ _ _ _ _ rfl)).mono ?_); rintro e w4 ⟨rfl, hb4⟩; have HB4 := Lib.hid (thn HB2.out hb4); have HR4 := Lib.hid (HR.out.below HB4.out); clear hb4) | (go_at_call 18; (with_reducible refine (fresh_x _ _ _ _ _ HR4.out (by have := HLEN.out; omega)).mono ?_); rintro e w7 ⟨g7, rfl, hr7, hg7, hl7, hb7⟩; have HR7 := Lib.hid hr7; have HB7 := Lib.hid (thn HB4.out hb7); clear hr7 hg7 hl7 hb7))
    go_ret2
    exact HR7.out.pair (by omega) HB7.out
  · rw [h1] at HI
    clear h1
    have HK := Lib.hid fun W (hb : Below w.heap.size w W) => (HR.out.below hb).at_ hk
    have HLEN := Lib.hid hlen
    have hk0 : (0 : Int) ≤ (k : Int) := by omega
    have hk1 : (k : Int) < (n : Int) := by omega
    have hkn : k < n := by omega
    have ht1 := fun w => toV A n c k (by omega) w
    have ht2 : ∀ w, (Instr.slice 24 (.slice A n c) none (some (.int .i64 ((k : Int) + 1))) none).run Try.prog w = .ok (.slice A (k + 1) c) w := fun w => by
      have := toV A n c (k + 1) (by omega) w
      rwa [Int.natCast_add] at this
    have HRT := Lib.hid fun W (hb : Below w.heap.size w W) => (HR.out.below hb).take (k := k) (by omega)
    have HRS := Lib.hid fun W (hb : Below w.heap.size w W) => (HR.out.below hb).take (k := k + 1) (by omega)
    clear hlen
    generalize l[k] = v at *
    obtain ⟨t, x, gg, s, hh⟩ := v
    simp only at h2
    cases gg
    · simp only [Bool.false_eq_true, if_false] at h2
      rw [h2]
      clear h2
      go_enter Try.func7, Try.ntmps7
      go_wp2_with (first | (go_at_call 10; (with_reducible refine HC.out.mono ?_); rintro e w1 ⟨rfl, hb1⟩; have HB1 := Lib.hid hb1; clear hb1) | (go_at_call 17; (with_reducible refine (HO.out _).mono ?_); rintro e w3 ⟨rfl, rfl⟩; have HB2 := Lib.hid (thn HB1.out (below1 w1 (.cells #[.int .i64 m] 3)))) | (go_at_call 16; (with_reducible refine (HI.out _ _ HB2.out (cell_last _ _ _ _ _ rfl)).mono ?_); rintro e w4 ⟨rfl, hb4⟩; have HB4 := Lib.hid (thn HB2.out hb4); obtain ⟨ad, rfl, c0, c1, c2, c3⟩ := HK.out _ HB4.out; clear hb4) | (go_at_call 18; (with_reducible refine (fresh_x _ _ _ _ _ (HRS.out _ HB4.out) (by omega)).mono ?_); rintro e w7 ⟨g7, rfl, hr7, hg7, hl7, hb7⟩; have HR7 := Lib.hid hr7; have HB7 := Lib.hid (thn HB4.out hb7); clear hr7 hg7 hl7 hb7))
      go_ret2
      exact HR7.out.pairN List.length_take (by omega) HB7.out
    · simp only [if_true] at h2
      rw [h2]
      clear h2
      go_enter Try.func7, Try.ntmps7
      go_wp2_with (first | (go_at_call 10; (with_reducible refine HC.out.mono ?_); rintro e w1 ⟨rfl, hb1⟩; have HB1 := Lib.hid hb1; clear hb1) | (go_at_call 17; (with_reducible refine (HO.out _).mono ?_); rintro e w3 ⟨rfl, rfl⟩; have HB2 := Lib.hid (thn HB1.out (below1 w1 (.cells #[.int .i64 m] 3)))) | (go_at_call 16; (with_reducible refine (HI.out _ _ HB2.out (cell_last _ _ _ _ _ rfl)).mono ?_); rintro e w4 ⟨rfl, hb4⟩; have HB4 := Lib.hid (thn HB2.out hb4); obtain ⟨ad, rfl, c0, c1, c2, c3⟩ := HK.out _ HB4.out; clear hb4) | (go_at_call 18; (with_reducible refine (fresh_x _ _ _ _ _ (HRT.out _ HB4.out) (by omega)).mono ?_); rintro e w7 ⟨g7, rfl, hr7, hg7, hl7, hb7⟩; have HR7 := Lib.hid hr7; have HB7 := Lib.hid (thn HB4.out hb7); clear hr7 hg7 hl7 hb7))
      go_ret2
      exact HR7.out.pairN List.length_take (by omega) HB7.out

set_option maxHeartbeats 4000000 in
theorem commit_no (A : Option Addr) (n c : Nat) (l : List Ver) (x t : Int) (w : World) (hr : Rd w A n c l) (h : Ok l) (E : Int) (hE : cmE l x t = E) (h0 : E ≠ 0) :
    Calls Try.prog 14 #[.slice A n c, .int .i64 x, .int .i64 t] w (PairX [] E w) := by
  have HC := Lib.hid (check_any A n c l w hr 0 (.inl ⟨h, rfl⟩))
  have HI := Lib.hid fun W (hb : Below w.heap.size w W) => isFirst_any A n c l x W (hr.below hb)
  have HK := Lib.hid fun (h : 1 < l.length) W (hb : Below w.heap.size w W) => (hr.below hb).at_ h
  have hlen := hr.len
  have hcap := hr.cap
  have hle := hr.le
  unfold cmE at hE
  clear hr h
  by_cases hF : fstB x l = true
  · rw [hF] at HI hE
    simp only [Bool.true_eq_false, if_false] at hE
    split at hE
    · rename_i hc
      subst hE
      by_cases h1 : t < 1
      · clear hc h0
        go_enter Try.func14, Try.ntmps14
        go_wp2_with (first | (go_at_call 10; (with_reducible refine HC.out.mono ?_); rintro e w1 ⟨rfl, hb1⟩; have HB1 := Lib.hid hb1; clear hb1) | (go_at_call 26; (with_reducible refine (HI.out _ HB1.out).mono ?_); rintro e w2 ⟨rfl, hb2⟩; have HB2 := Lib.hid (thn HB1.out hb2); clear hb2))
        go_ret2
        exact PairX.nil HB2.out
      · by_cases h2 : 1099511627776 < t
        · clear hc h0
          go_enter Try.func14, Try.ntmps14
          go_wp2_with (first | (go_at_call 10; (with_reducible refine HC.out.mono ?_); rintro e w1 ⟨rfl, hb1⟩; have HB1 := Lib.hid hb1; clear hb1) | (go_at_call 26; (with_reducible refine (HI.out _ HB1.out).mono ?_); rintro e w2 ⟨rfl, hb2⟩; have HB2 := Lib.hid (thn HB1.out hb2); clear hb2))
          go_ret2
          exact PairX.nil HB2.out
        · obtain ⟨h3, h4⟩ : ∃ h : 1 < l.length, t ≤ l[1].t := by
            rcases hc with e | e | e
            · exact absurd e h1
            · exact absurd e h2
            · exact e
          have HK2 := Lib.hid (HK.out h3)
          have hn1 : (1 : Int) < (n : Int) := by omega
          have hn2 : 1 < n := by omega
          have HLEN := Lib.hid hlen
          clear hc h0 hlen HK
          generalize l[1] = v at *
          go_enter Try.func14, Try.ntmps14
          go_wp2_with (first | (go_at_call 10; (with_reducible refine HC.out.mono ?_); rintro e w1 ⟨rfl, hb1⟩; have HB1 := Lib.hid hb1; clear hb1) | (go_at_call 26; (with_reducible refine (HI.out _ HB1.out).mono ?_); rintro e w2 ⟨rfl, hb2⟩; have HB2 := Lib.hid (thn HB1.out hb2); clear hb2; obtain ⟨ad, rfl, c0, c1, c2, c3⟩ := HK2.out _ HB2.out; clear c1 c2 c3; have c4 : w2.cell? (ad.add 4) = some (.int .i64 v.t) := c0; have c5 : w2.cell? ⟨ad.block, ad.off + 4, none⟩ = some (.int .i64 v.t) := by rw [← add_ne (by decide)]; exact c0))
          go_ret2
          exact PairX.nil HB2.out
    · exact absurd hE.symm h0
  · have hF' : fstB x l = false := by simpa using hF
    rw [hF'] at HI hE
    simp only [if_true] at hE
    subst hE
    clear h0
    go_enter Try.func14, Try.ntmps14
    go_wp2_with (first | (go_at_call 10; (with_reducible refine HC.out.mono ?_); rintro e w1 ⟨rfl, hb1⟩; have HB1 := Lib.hid hb1; clear hb1) | (go_at_call 26; (with_reducible refine (HI.out _ HB1.out).mono ?_); rintro e w2 ⟨rfl, hb2⟩; have HB2 := Lib.hid (thn HB1.out hb2); clear hb2))
    go_ret2
    exact PairX.nil HB2.out
theorem cmt_set {l : List Ver} {t : Int} (h : 0 < l.length) : l.set 0 ⟨t, l[0].x, l[0].g, l[0].v, l[0].h⟩ = cmt t l := by
  cases l with
  | nil => simp at h
  | cons v r => rfl
/-- The Stamp of the first version of a row, written over. -/
theorem Row.stamp {w : World} {g : Nat} {l : List Ver} (h : Row w g l) (hl : 0 < l.length) (t : Int) : Row (w.setCell ⟨g, 0, none⟩ (.int .i64 t)) g (cmt t l) := by
  have hs := h.set ⟨t, l[0].x, l[0].g, l[0].v, l[0].h⟩ hl
  rw [cmt_set hl] at hs
  obtain ⟨_, c1, c2, c3, _⟩ := h.at_ hl
  refine ⟨fun j u hj => ?_, fun j hj => ?_⟩
  · have h1 := hs.cells j u hj
    by_cases e : j = 0
    · subst e
      have h2 := World.cell?_setCell_same (v := .int .i64 t) w ⟨g, 0 + 0, none⟩ (h.cells 0 _ (flat_get l 0 0 _ (List.getElem?_eq_getElem hl) (by omega)))
      cases l with
      | nil => simp at hl
      | cons v r =>
        simp [cmt, vers, verC] at hj
        subst hj
        exact h2
    · rw [World.cell?_setCell_other w ⟨g, 0, none⟩ ⟨g, 0 + j, none⟩ _ (by simp <;> omega)]
      cases l with
      | nil => simp at hl
      | cons v r =>
        refine h.cells j u ?_
        rw [← hj]
        match j, e with
        | j + 1, _ => simp [cmt, vers, verC]
  · have h1 := h.there j (by cases l with
      | nil => simp at hl
      | cons v r => simpa [cmt] using hj)
    by_cases e : j = 0
    · subst e
      have h2 := World.cell?_setCell_same (v := .int .i64 t) w ⟨g, 0 + 0, none⟩ (h.cells 0 _ (flat_get l 0 0 _ (List.getElem?_eq_getElem hl) (by omega)))
      exact ⟨by rw [h2]; rfl, by rw [World.frozen?_setCell]; exact h1.2⟩
    · rw [World.cell?_setCell_other w ⟨g, 0, none⟩ ⟨g, 0 + j, none⟩ _ (by simp <;> omega), World.frozen?_setCell]
      exact h1
theorem cmt_len (t : Int) (l : List Ver) : (cmt t l).length = l.length := by cases l <;> rfl
set_option maxHeartbeats 4000000 in
theorem commit_ok (A : Option Addr) (n c : Nat) (l : List Ver) (x t : Int) (w : World) (hr : Rd w A n c l) (h : Ok l) (hE : cmE l x t = 0) :
    Calls Try.prog 14 #[.slice A n c, .int .i64 x, .int .i64 t] w (PairX (cmt t l) 0 w) := by
  have HC := Lib.hid (check_any A n c l w hr 0 (.inl ⟨h, rfl⟩))
  have HI := Lib.hid fun W (hb : Below w.heap.size w W) => isFirst_any A n c l x W (hr.below hb)
  have HK := Lib.hid fun (h : 1 < l.length) W (hb : Below w.heap.size w W) => (hr.below hb).at_ h
  have HFR := Lib.hid fun W (hb : Below w.heap.size w W) => fresh_x A n c l W (hr.below hb) (by have := h.1; have := hr.len; omega)
  have hlen := hr.len
  have hcap := hr.cap
  have hle := hr.le
  have hl64 := h.1
  unfold cmE at hE
  clear hr h
  split at hE
  · cases hE
  rename_i hF
  split at hE
  · cases hE
  rename_i hn
  have hF' : fstB x l = true := by simpa using hF
  have hpos : 0 < l.length := by
    cases l with
    | nil => cases hF'
    | cons v r => simp
  rw [hF'] at HI
  have hn1 : ¬ t < 1 := fun e => hn (.inl e)
  have hn2 : ¬ 1099511627776 < t := fun e => hn (.inr (.inl e))
  have hn3 : ∀ h : 1 < l.length, ¬ t ≤ l[1].t := fun h e => hn (.inr (.inr ⟨h, e⟩))
  clear hE hF hn hF'
  have HLEN := Lib.hid hlen
  have HPOS := Lib.hid hpos
  have hp1 : 0 < n := by omega
  have hp2 : (0 : Int) < (n : Int) := by omega
  have hll : (0 : Int) < (l.length : Int) := by omega
  by_cases h1 : 1 < l.length
  · have hn4 := hn3 h1
    have HK2 := Lib.hid (HK.out h1)
    have hn5 : (1 : Int) < (n : Int) := by omega
    have hn6 : 1 < n := by omega
    obtain ⟨v, hv⟩ : ∃ v : Ver, l[1] = v := ⟨_, rfl⟩
    rw [hv] at hn4 HK2
    clear hlen HK hn3 hv
    clear h1
    go_enter Try.func14, Try.ntmps14
    go_upto_region 9 with (first | (go_at_call 10; (with_reducible refine HC.out.mono ?_); rintro e w1 ⟨rfl, hb1⟩; have HB1 := Lib.hid hb1; clear hb1) | (go_at_call 26; (with_reducible refine (HI.out _ HB1.out).mono ?_); rintro e w2 ⟨rfl, hb2⟩; have HB2 := Lib.hid (thn HB1.out hb2); clear hb2; obtain ⟨ad, rfl, c0, c1, c2, c3⟩ := HK2.out _ HB2.out; clear c1 c2 c3; have c4 : w2.cell? (ad.add 4) = some (.int .i64 v.t) := c0; have c5 : w2.cell? ⟨ad.block, ad.off + 4, none⟩ = some (.int .i64 v.t) := by rw [← add_ne (by decide)]; exact c0) | (go_at_call 18; (with_reducible refine (HFR.out _ HB2.out).mono ?_); rintro e w7 ⟨g7, rfl, hr7, hg7, hl7, hb7⟩; have HR7 := Lib.hid hr7; have HB7 := Lib.hid (thn HB2.out hb7); have HG7 := Lib.hid hg7; clear hr7 hg7 hl7 hb7))
    obtain ⟨z, d0, _, _, _, f0, _⟩ := HR7.out.att HPOS.out
    rw [Nat.zero_mul] at d0 f0
    go_wp2
    go_ret2
    exact (HR7.out.stamp HPOS.out t).pairN (cmt_len t l) (by omega) (HB7.out.setCell (by have := HB2.out.size; have := HG7.out; simp; omega) _)
  · have hn5 : ¬ (1 : Int) < (n : Int) := by omega
    have hn6 : ¬ 1 < n := by omega
    clear hlen HK hn3 h1
    go_enter Try.func14, Try.ntmps14
    go_upto_region 9 with (first | (go_at_call 10; (with_reducible refine HC.out.mono ?_); rintro e w1 ⟨rfl, hb1⟩; have HB1 := Lib.hid hb1; clear hb1) | (go_at_call 26; (with_reducible refine (HI.out _ HB1.out).mono ?_); rintro e w2 ⟨rfl, hb2⟩; have HB2 := Lib.hid (thn HB1.out hb2); clear hb2) | (go_at_call 18; (with_reducible refine (HFR.out _ HB2.out).mono ?_); rintro e w7 ⟨g7, rfl, hr7, hg7, hl7, hb7⟩; have HR7 := Lib.hid hr7; have HB7 := Lib.hid (thn HB2.out hb7); have HG7 := Lib.hid hg7; clear hr7 hg7 hl7 hb7))
    obtain ⟨z, d0, _, _, _, f0, _⟩ := HR7.out.att HPOS.out
    rw [Nat.zero_mul] at d0 f0
    go_wp2
    go_ret2
    exact (HR7.out.stamp HPOS.out t).pairN (cmt_len t l) (by omega) (HB7.out.setCell (by have := HB2.out.size; have := HG7.out; simp; omega) _)
end Go.Proofs.Ytclcidcjeoajaaa
