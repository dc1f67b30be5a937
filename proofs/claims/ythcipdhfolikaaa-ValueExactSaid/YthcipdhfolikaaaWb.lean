/- ValueExact of the statements' package answers true for any two numbers: the walk. Conditions: both are of 64 bits. -/
import Derived.Test.YthcipdhfolikaaaWf
import Derived.Deep.RegionHeld3
import Derived.Deep.DeepCutAuto
namespace Go.Proofs.Ythcipdhfolikaaa
open Go.RowKit
set_option linter.unusedSimpArgs false
set_option linter.unusedVariables false

theorem fit_num (a : Int) : fitB 1 1 a ⟨#[]⟩ = true := by simp [fitB, mayB]
/-- What Reckon makes of two numbers. -/
theorem rec_num (op a b : Int) (h1 : 4 ≤ op) (h2 : op < 8) : recK op 1 a ⟨#[]⟩ 1 b ⟨#[]⟩ = (if numE op a b = 0 then 1 else 0) ∧ recN op 1 a ⟨#[]⟩ 1 b ⟨#[]⟩ = numN op a b ∧ recE op 1 a ⟨#[]⟩ 1 b ⟨#[]⟩ = numE op a b := by
  have f1 := fit_num a
  have f2 := fit_num b
  refine ⟨?_, ?_, ?_⟩
  · grind [recK, rkK]
  · grind [recN, rkN]
  · grind [recE, rkE]
def RecIs (op a b K M E : Int) : Prop := recK op 1 a ⟨#[]⟩ 1 b ⟨#[]⟩ = K ∧ recN op 1 a ⟨#[]⟩ 1 b ⟨#[]⟩ = M ∧ recE op 1 a ⟨#[]⟩ 1 b ⟨#[]⟩ = E
theorem reckon_is (op a b K M E : Int) (ha : Hid (inR a = true)) (hb : Hid (inR b = true)) (h : RecIs op a b K M E) (w : World) :
    Calls Try.prog 18 #[.int .i64 op, .agg #[.int .i64 1, .int .i64 a, .string ⟨#[]⟩], .agg #[.int .i64 1, .int .i64 b, .string ⟨#[]⟩]] w fun e w' => e = .returned (.tuple #[.agg #[.int .i64 K, .int .i64 M, .string ⟨#[]⟩], .int .i64 E]) ∧ Below w.heap.size w w' :=
  reckon_lit op 1 a ⟨#[]⟩ 1 b ⟨#[]⟩ K M E ha.out hb.out h w
theorem keepZ {g : Nat} {W w' : World} (hb : Below W.heap.size W w') (h : g < W.heap.size ∧ W.cell? ⟨g, 0, none⟩ = some (.int .i64 0) ∧ W.cell? ⟨g, 1, none⟩ = some (.int .i64 0) ∧ W.cell? ⟨g, 2, none⟩ = some (.string ⟨#[]⟩) ∧ W.frozen? ⟨g, 0, none⟩ = false ∧ W.frozen? ⟨g, 1, none⟩ = false ∧ W.frozen? ⟨g, 2, none⟩ = false) : g < w'.heap.size ∧ w'.cell? ⟨g, 0, none⟩ = some (.int .i64 0) ∧ w'.cell? ⟨g, 1, none⟩ = some (.int .i64 0) ∧ w'.cell? ⟨g, 2, none⟩ = some (.string ⟨#[]⟩) ∧ w'.frozen? ⟨g, 0, none⟩ = false ∧ w'.frozen? ⟨g, 1, none⟩ = false ∧ w'.frozen? ⟨g, 2, none⟩ = false := by
  obtain ⟨l, a0, a1, a2, f0, f1, f2⟩ := h
  obtain ⟨m, x0, x1, x2⟩ := keep3 hb ⟨l, a0, a1, a2⟩
  obtain ⟨hc, hf⟩ := bcell hb
  exact ⟨m, x0, x1, x2, by rw [hf _ _ l]; exact f0, by rw [hf _ _ l]; exact f1, by rw [hf _ _ l]; exact f2⟩
theorem newZ0 (W : World) : W.heap.size < (W.alloc (.cells #[.int .i64 0, .int .i64 0, .string ⟨#[]⟩] 23)).heap.size ∧ (W.alloc (.cells #[.int .i64 0, .int .i64 0, .string ⟨#[]⟩] 23)).cell? ⟨W.heap.size, 0, none⟩ = some (.int .i64 0) ∧ (W.alloc (.cells #[.int .i64 0, .int .i64 0, .string ⟨#[]⟩] 23)).cell? ⟨W.heap.size, 1, none⟩ = some (.int .i64 0) ∧ (W.alloc (.cells #[.int .i64 0, .int .i64 0, .string ⟨#[]⟩] 23)).cell? ⟨W.heap.size, 2, none⟩ = some (.string ⟨#[]⟩) ∧ (W.alloc (.cells #[.int .i64 0, .int .i64 0, .string ⟨#[]⟩] 23)).frozen? ⟨W.heap.size, 0, none⟩ = false ∧ (W.alloc (.cells #[.int .i64 0, .int .i64 0, .string ⟨#[]⟩] 23)).frozen? ⟨W.heap.size, 1, none⟩ = false ∧ (W.alloc (.cells #[.int .i64 0, .int .i64 0, .string ⟨#[]⟩] 23)).frozen? ⟨W.heap.size, 2, none⟩ = false := by
  obtain ⟨m, x0, x1, x2⟩ := new3 0 0 ⟨#[]⟩ W
  exact ⟨m, x0, x1, x2, frozen_last _ _ _ _ _ rfl, frozen_last _ _ _ _ _ rfl, frozen_last _ _ _ _ _ rfl⟩
theorem newZ {W w' : World} (hb : Below (W.alloc (.cells #[.int .i64 0, .int .i64 0, .string ⟨#[]⟩] 23)).heap.size (W.alloc (.cells #[.int .i64 0, .int .i64 0, .string ⟨#[]⟩] 23)) w') : W.heap.size < w'.heap.size ∧ w'.cell? ⟨W.heap.size, 0, none⟩ = some (.int .i64 0) ∧ w'.cell? ⟨W.heap.size, 1, none⟩ = some (.int .i64 0) ∧ w'.cell? ⟨W.heap.size, 2, none⟩ = some (.string ⟨#[]⟩) ∧ w'.frozen? ⟨W.heap.size, 0, none⟩ = false ∧ w'.frozen? ⟨W.heap.size, 1, none⟩ = false ∧ w'.frozen? ⟨W.heap.size, 2, none⟩ = false := keepZ hb (newZ0 W)
theorem newZd {W w' : World} (hb : Below (W.alloc (.cells #[.int .i64 0, .int .i64 0, .string ⟨#[]⟩] 23)).drew.heap.size (W.alloc (.cells #[.int .i64 0, .int .i64 0, .string ⟨#[]⟩] 23)).drew w') : W.heap.size < w'.heap.size ∧ w'.cell? ⟨W.heap.size, 0, none⟩ = some (.int .i64 0) ∧ w'.cell? ⟨W.heap.size, 1, none⟩ = some (.int .i64 0) ∧ w'.cell? ⟨W.heap.size, 2, none⟩ = some (.string ⟨#[]⟩) ∧ w'.frozen? ⟨W.heap.size, 0, none⟩ = false ∧ w'.frozen? ⟨W.heap.size, 1, none⟩ = false ∧ w'.frozen? ⟨W.heap.size, 2, none⟩ = false :=
  newZ (Below.trans ((Below.refl _ _).drew) hb)
theorem below_set3 (G : Nat) (W : World) (a b : Int) (s : ByteArray) : Below G W (((W.setCell ⟨G, 0, none⟩ (.int .i64 a)).setCell ⟨G, 1, none⟩ (.int .i64 b)).setCell ⟨G, 2, none⟩ (.string s)) := (((Below.refl G W).setCell (by simp) _).setCell (by simp) _).setCell (by simp) _
theorem set3 {g : Nat} {W : World} (a b : Int) (s : ByteArray) (h : g < W.heap.size ∧ W.cell? ⟨g, 0, none⟩ = some (.int .i64 0) ∧ W.cell? ⟨g, 1, none⟩ = some (.int .i64 0) ∧ W.cell? ⟨g, 2, none⟩ = some (.string ⟨#[]⟩) ∧ W.frozen? ⟨g, 0, none⟩ = false ∧ W.frozen? ⟨g, 1, none⟩ = false ∧ W.frozen? ⟨g, 2, none⟩ = false) :
    g < (((W.setCell ⟨g, 0, none⟩ (.int .i64 a)).setCell ⟨g, 1, none⟩ (.int .i64 b)).setCell ⟨g, 2, none⟩ (.string s)).heap.size ∧ (((W.setCell ⟨g, 0, none⟩ (.int .i64 a)).setCell ⟨g, 1, none⟩ (.int .i64 b)).setCell ⟨g, 2, none⟩ (.string s)).cell? ⟨g, 0, none⟩ = some (.int .i64 a) ∧ (((W.setCell ⟨g, 0, none⟩ (.int .i64 a)).setCell ⟨g, 1, none⟩ (.int .i64 b)).setCell ⟨g, 2, none⟩ (.string s)).cell? ⟨g, 1, none⟩ = some (.int .i64 b) ∧ (((W.setCell ⟨g, 0, none⟩ (.int .i64 a)).setCell ⟨g, 1, none⟩ (.int .i64 b)).setCell ⟨g, 2, none⟩ (.string s)).cell? ⟨g, 2, none⟩ = some (.string s) := by
  obtain ⟨l, a0, a1, a2, f0, f1, f2⟩ := h
  refine ⟨by simpa using l, ?_, ?_, ?_⟩ <;> go_simp
theorem keepG {g B : Nat} {S : Int} {w W w' : World} (hb : Below B W w') (hg : g < B) (hB : w.heap.size ≤ B) (h : g < W.heap.size ∧ W.cell? ⟨g, 0, none⟩ = some (.int .i64 1) ∧ W.cell? ⟨g, 1, none⟩ = some (.int .i64 S) ∧ W.cell? ⟨g, 2, none⟩ = some (.string ⟨#[]⟩) ∧ Below w.heap.size w W) : g < w'.heap.size ∧ w'.cell? ⟨g, 0, none⟩ = some (.int .i64 1) ∧ w'.cell? ⟨g, 1, none⟩ = some (.int .i64 S) ∧ w'.cell? ⟨g, 2, none⟩ = some (.string ⟨#[]⟩) ∧ Below w.heap.size w w' := by
  obtain ⟨l, a0, a1, a2, hA⟩ := h
  exact ⟨Nat.lt_of_lt_of_le l hb.size, (hb.cell (p := ⟨g, 0, none⟩) hg).trans a0, (hb.cell (p := ⟨g, 1, none⟩) hg).trans a1, (hb.cell (p := ⟨g, 2, none⟩) hg).trans a2, hA.trans (hb.mono hB)⟩
theorem keepE {g : Nat} {S : Int} {w W w' : World} (hb : Below W.heap.size W w') (h : g < W.heap.size ∧ W.cell? ⟨g, 0, none⟩ = some (.int .i64 1) ∧ W.cell? ⟨g, 1, none⟩ = some (.int .i64 S) ∧ W.cell? ⟨g, 2, none⟩ = some (.string ⟨#[]⟩) ∧ Below w.heap.size w W) : g < w'.heap.size ∧ w'.cell? ⟨g, 0, none⟩ = some (.int .i64 1) ∧ w'.cell? ⟨g, 1, none⟩ = some (.int .i64 S) ∧ w'.cell? ⟨g, 2, none⟩ = some (.string ⟨#[]⟩) ∧ Below w.heap.size w w' := by
  obtain ⟨l, a0, a1, a2, hB⟩ := h
  obtain ⟨m, x0, x1, x2⟩ := keep3 hb ⟨l, a0, a1, a2⟩
  exact ⟨m, x0, x1, x2, below_call hb hB.size hB⟩


set_option maxRecDepth 100000 in
set_option maxHeartbeats 4000000 in
theorem exact_AZ (a : Int) (w : World) (hIa : Hid (inR a = true)) (hIb : Hid (inR 0 = true)) (S : Int) (hS' : Hid (inR S = true)) (h4 : RecIs 4 a 0 1 S 0) (h5 : RecIs 5 S 0 1 a 0) (h7 : RecIs 7 a 0 0 0 85) :
    Calls Try.prog 7 #[.int .i64 a, .int .i64 0] w fun e w' => e = .returned (.bool true) ∧ Below w.heap.size w w' := by
  go_enter Try.func7, Try.ntmps7
  have hA := Below.refl w.heap.size w
  have zA := hA.size
  go_upto_region 3 with (first | (go_at_call 17; refine (alive_any _).mono ?_; rintro e w0 ⟨rfl, hb⟩; have hA : Below w.heap.size w w0 := (by (repeat (first | exact hA | exact Below.refl _ _ | (refine Below.setCell ?_ (by first | omega | (simp; done) | (simp; omega)) _) | (refine Below.alloc ?_ (by first | omega | (simp; done) | (simp; omega)) _) | (refine below_drewN ?_ _) | (refine Below.drew ?_) | (refine below_call hb (by first | omega | (simp; done) | (simp; omega)) ?_)))); have zA := hA.size))
  go_upto_region 4 with (first | (go_at_call 25; refine (lnumber_any _ _).mono ?_; rintro e w1 ⟨rfl, hb⟩; have hA : Below w.heap.size w w1 := (by (repeat (first | exact hA | exact Below.refl _ _ | (refine Below.setCell ?_ (by first | omega | (simp; done) | (simp; omega)) _) | (refine Below.alloc ?_ (by first | omega | (simp; done) | (simp; omega)) _) | (refine below_drewN ?_ _) | (refine Below.drew ?_) | (refine below_call hb (by first | omega | (simp; done) | (simp; omega)) ?_)))); have zA := hA.size) | (go_at_call 18; refine (reckon_is 4 a 0 1 S 0 hIa hIb h4 _).mono ?_; rintro e v0 ⟨rfl, hb⟩; have hA : Below w.heap.size w v0 := (by (repeat (first | exact hA | exact Below.refl _ _ | (refine Below.setCell ?_ (by first | omega | (simp; done) | (simp; omega)) _) | (refine Below.alloc ?_ (by first | omega | (simp; done) | (simp; omega)) _) | (refine below_drewN ?_ _) | (refine Below.drew ?_) | (refine below_call hb (by first | omega | (simp; done) | (simp; omega)) ?_)))); have zA := hA.size))
  have b0 := new3 1 S ⟨#[]⟩ v0
  have hA := hA.trans ((below1 v0 (.cells #[.int .i64 1, .int .i64 S, .string ⟨#[]⟩] 23)).mono hA.size)
  generalize hW : v0.alloc (.cells #[.int .i64 1, .int .i64 S, .string ⟨#[]⟩] 23) = X1 at b0 hA ⊢
  clear hW
  go_upto_region 5 with (first | (go_at_call 12; refine (lnum_any _ _).mono ?_; rintro e w2 ⟨rfl, rfl⟩))
  go_cut [7, 8] (fun p e wx => ∃ g : Nat, p = .pointer (some ⟨g, 0, none⟩) ∧ e = .int .i64 0 ∧ g < wx.heap.size ∧ wx.cell? ⟨g, 0, none⟩ = some (.int .i64 1) ∧ wx.cell? ⟨g, 1, none⟩ = some (.int .i64 a) ∧ wx.cell? ⟨g, 2, none⟩ = some (.string ⟨#[]⟩) ∧ Below w.heap.size w wx)
  case first =>
    have hS0 : v0.heap.size < X1.drew.heap.size ∧ X1.drew.cell? ⟨v0.heap.size, 0, none⟩ = some (.int .i64 1) ∧ X1.drew.cell? ⟨v0.heap.size, 1, none⟩ = some (.int .i64 S) ∧ X1.drew.cell? ⟨v0.heap.size, 2, none⟩ = some (.string ⟨#[]⟩) ∧ Below w.heap.size w X1.drew := ⟨b0.1, b0.2.1, b0.2.2.1, b0.2.2.2, hA.drew⟩
    have zX : v0.heap.size < X1.heap.size := b0.1
    have zY : w.heap.size ≤ X1.heap.size := hA.size
    clear b0 hA zA hb
    go_region_held3 (fun W => v0.heap.size < W.heap.size ∧ W.cell? ⟨v0.heap.size, 0, none⟩ = some (.int .i64 1) ∧ W.cell? ⟨v0.heap.size, 1, none⟩ = some (.int .i64 S) ∧ W.cell? ⟨v0.heap.size, 2, none⟩ = some (.string ⟨#[]⟩) ∧ Below w.heap.size w W)
      (first | exact hS | exact hS0 | exact keepE (below1 _ _) hS | exact keepE (below1 _ _) hS0 | exact keepG (below_set3 _ _ _ _ _) (by omega) (by omega) hS | assumption)
      (first | (go_at_call 25; refine (lnumber_any _ _).mono ?_; rintro e w3 ⟨rfl, hb⟩; have hS : v0.heap.size < w3.heap.size ∧ w3.cell? ⟨v0.heap.size, 0, none⟩ = some (.int .i64 1) ∧ w3.cell? ⟨v0.heap.size, 1, none⟩ = some (.int .i64 S) ∧ w3.cell? ⟨v0.heap.size, 2, none⟩ = some (.string ⟨#[]⟩) ∧ Below w.heap.size w w3 := (by first | exact keepE hb hS | exact keepE hb hS0 | exact keepE hb (keepE (below1 _ _) hS) | exact keepE hb (keepE (below1 _ _) hS0)); have zS := hS.2.2.2.2.size; first | (have b7 := keepZ hb b7) | (have b7 := newZ hb) | (have b7 := newZd hb) | skip) | (go_at_call 18; refine (reckon_is 5 S 0 1 a 0 hS' hIb h5 _).mono ?_; rintro e v1 ⟨rfl, hb⟩; have hS : v0.heap.size < v1.heap.size ∧ v1.cell? ⟨v0.heap.size, 0, none⟩ = some (.int .i64 1) ∧ v1.cell? ⟨v0.heap.size, 1, none⟩ = some (.int .i64 S) ∧ v1.cell? ⟨v0.heap.size, 2, none⟩ = some (.string ⟨#[]⟩) ∧ Below w.heap.size w v1 := (by first | exact keepE hb hS | exact keepE hb hS0 | exact keepE hb (keepE (below1 _ _) hS) | exact keepE hb (keepE (below1 _ _) hS0)); have zS := hS.2.2.2.2.size; first | (have b7 := keepZ hb b7) | (have b7 := newZ hb) | (have b7 := newZd hb) | skip))
    all_goals go_wp2_with fail
    all_goals go_meet
    all_goals first | exact ⟨_, rfl, rfl, (set3 _ _ _ b7).1, (set3 _ _ _ b7).2.1, (set3 _ _ _ b7).2.2.1, (set3 _ _ _ b7).2.2.2, (keepG (below_set3 _ _ _ _ _) (by omega) (by omega) hS).2.2.2.2⟩ | exact ⟨_, rfl, rfl, (new3 _ _ _ _).1, (new3 _ _ _ _).2.1, (new3 _ _ _ _).2.2.1, (new3 _ _ _ _).2.2.2, (keepE (below1 _ _) hS).2.2.2.2⟩
  case rest =>
    obtain ⟨g, rfl, rfl, l1, c0, c1, c2, hA⟩ := hcut
    clear b0
    go_upto_region 6 with (fail)
    first | go_region_held3 (fun W => g < W.heap.size ∧ W.cell? ⟨g, 0, none⟩ = some (.int .i64 1) ∧ W.cell? ⟨g, 1, none⟩ = some (.int .i64 a) ∧ W.cell? ⟨g, 2, none⟩ = some (.string ⟨#[]⟩) ∧ Below w.heap.size w W)
      (first | exact hS | exact ⟨l1, c0, c1, c2, hA.drew⟩ | assumption)
      (first | (go_at_call 12; refine (lnum_any _ _).mono ?_; rintro e w7 ⟨rfl, rfl⟩) | (go_at_call 25; refine (lnumber_any _ _).mono ?_; rintro e w5 ⟨rfl, hb⟩; have hS : g < w5.heap.size ∧ w5.cell? ⟨g, 0, none⟩ = some (.int .i64 1) ∧ w5.cell? ⟨g, 1, none⟩ = some (.int .i64 a) ∧ w5.cell? ⟨g, 2, none⟩ = some (.string ⟨#[]⟩) ∧ Below w.heap.size w w5 := (by first | exact keepE hb hS | exact keepE hb ⟨l1, c0, c1, c2, hA.drew⟩))) | fail
    have hA := hS.2.2.2.2
    clear l1 c0 c1 c2 hS
    have zA := hA.size
    go_upto_region 11 with (first | (go_at_call 12; refine (lnum_any _ _).mono ?_; rintro e w6 ⟨rfl, rfl⟩) | (go_at_call 25; refine (lnumber_any _ _).mono ?_; rintro e w8 ⟨rfl, hb⟩; have hA : Below w.heap.size w w8 := (by (repeat (first | exact hA | exact Below.refl _ _ | (refine Below.setCell ?_ (by first | omega | (simp; done) | (simp; omega)) _) | (refine Below.alloc ?_ (by first | omega | (simp; done) | (simp; omega)) _) | (refine below_drewN ?_ _) | (refine Below.drew ?_) | (refine below_call hb (by first | omega | (simp; done) | (simp; omega)) ?_)))); have zA := hA.size) | (go_at_call 18; refine (reckon_is 7 a 0 0 0 85 hIa hIb h7 _).mono ?_; rintro e v7 ⟨rfl, hb⟩; have hA : Below w.heap.size w v7 := (by (repeat (first | exact hA | exact Below.refl _ _ | (refine Below.setCell ?_ (by first | omega | (simp; done) | (simp; omega)) _) | (refine Below.alloc ?_ (by first | omega | (simp; done) | (simp; omega)) _) | (refine below_drewN ?_ _) | (refine Below.drew ?_) | (refine below_call hb (by first | omega | (simp; done) | (simp; omega)) ?_)))); have zA := hA.size))
    have q0 := new3 0 0 ⟨#[]⟩ v7
    have hA := hA.trans ((below1 v7 (.cells #[.int .i64 0, .int .i64 0, .string ⟨#[]⟩] 23)).mono hA.size)
    generalize hW : v7.alloc (.cells #[.int .i64 0, .int .i64 0, .string ⟨#[]⟩] 23) = X2 at q0 hA ⊢
    clear hW
    go_wp2_with (go_at_call 12; refine (lnum_any _ _).mono ?_; rintro e w9 ⟨rfl, rfl⟩)
    go_ret
    exact ⟨rfl, hA⟩

set_option maxRecDepth 100000 in
set_option maxHeartbeats 4000000 in
theorem exact_BZ (a : Int) (w : World) (hIa : Hid (inR a = true)) (hIb : Hid (inR 0 = true)) (h4 : RecIs 4 a 0 0 0 84) (h7 : RecIs 7 a 0 0 0 85) :
    Calls Try.prog 7 #[.int .i64 a, .int .i64 0] w fun e w' => e = .returned (.bool true) ∧ Below w.heap.size w w' := by
  go_enter Try.func7, Try.ntmps7
  have hA := Below.refl w.heap.size w
  have zA := hA.size
  go_upto_region 3 with (first | (go_at_call 17; refine (alive_any _).mono ?_; rintro e w0 ⟨rfl, hb⟩; have hA : Below w.heap.size w w0 := (by (repeat (first | exact hA | exact Below.refl _ _ | (refine Below.setCell ?_ (by first | omega | (simp; done) | (simp; omega)) _) | (refine Below.alloc ?_ (by first | omega | (simp; done) | (simp; omega)) _) | (refine below_drewN ?_ _) | (refine Below.drew ?_) | (refine below_call hb (by first | omega | (simp; done) | (simp; omega)) ?_)))); have zA := hA.size))
  go_upto_region 4 with (first | (go_at_call 25; refine (lnumber_any _ _).mono ?_; rintro e w1 ⟨rfl, hb⟩; have hA : Below w.heap.size w w1 := (by (repeat (first | exact hA | exact Below.refl _ _ | (refine Below.setCell ?_ (by first | omega | (simp; done) | (simp; omega)) _) | (refine Below.alloc ?_ (by first | omega | (simp; done) | (simp; omega)) _) | (refine below_drewN ?_ _) | (refine Below.drew ?_) | (refine below_call hb (by first | omega | (simp; done) | (simp; omega)) ?_)))); have zA := hA.size) | (go_at_call 18; refine (reckon_is 4 a 0 0 0 84 hIa hIb h4 _).mono ?_; rintro e v0 ⟨rfl, hb⟩; have hA : Below w.heap.size w v0 := (by (repeat (first | exact hA | exact Below.refl _ _ | (refine Below.setCell ?_ (by first | omega | (simp; done) | (simp; omega)) _) | (refine Below.alloc ?_ (by first | omega | (simp; done) | (simp; omega)) _) | (refine below_drewN ?_ _) | (refine Below.drew ?_) | (refine below_call hb (by first | omega | (simp; done) | (simp; omega)) ?_)))); have zA := hA.size))
  have b0 := new3 0 0 ⟨#[]⟩ v0
  have hA := hA.trans ((below1 v0 (.cells #[.int .i64 0, .int .i64 0, .string ⟨#[]⟩] 23)).mono hA.size)
  generalize hW : v0.alloc (.cells #[.int .i64 0, .int .i64 0, .string ⟨#[]⟩] 23) = X1 at b0 hA ⊢
  clear hW
  clear b0
  have zA := hA.size
  go_upto_region 11 with (first | (go_at_call 12; refine (lnum_any _ _).mono ?_; rintro e w6 ⟨rfl, rfl⟩) | (go_at_call 25; refine (lnumber_any _ _).mono ?_; rintro e w8 ⟨rfl, hb⟩; have hA : Below w.heap.size w w8 := (by (repeat (first | exact hA | exact Below.refl _ _ | (refine Below.setCell ?_ (by first | omega | (simp; done) | (simp; omega)) _) | (refine Below.alloc ?_ (by first | omega | (simp; done) | (simp; omega)) _) | (refine below_drewN ?_ _) | (refine Below.drew ?_) | (refine below_call hb (by first | omega | (simp; done) | (simp; omega)) ?_)))); have zA := hA.size) | (go_at_call 18; refine (reckon_is 7 a 0 0 0 85 hIa hIb h7 _).mono ?_; rintro e v7 ⟨rfl, hb⟩; have hA : Below w.heap.size w v7 := (by (repeat (first | exact hA | exact Below.refl _ _ | (refine Below.setCell ?_ (by first | omega | (simp; done) | (simp; omega)) _) | (refine Below.alloc ?_ (by first | omega | (simp; done) | (simp; omega)) _) | (refine below_drewN ?_ _) | (refine Below.drew ?_) | (refine below_call hb (by first | omega | (simp; done) | (simp; omega)) ?_)))); have zA := hA.size))
  have q0 := new3 0 0 ⟨#[]⟩ v7
  have hA := hA.trans ((below1 v7 (.cells #[.int .i64 0, .int .i64 0, .string ⟨#[]⟩] 23)).mono hA.size)
  generalize hW : v7.alloc (.cells #[.int .i64 0, .int .i64 0, .string ⟨#[]⟩] 23) = X2 at q0 hA ⊢
  clear hW
  go_wp2_with (go_at_call 12; refine (lnum_any _ _).mono ?_; rintro e w9 ⟨rfl, rfl⟩)
  go_ret
  exact ⟨rfl, hA⟩

set_option maxRecDepth 100000 in
set_option maxHeartbeats 4000000 in
theorem exact_BL  (w : World) (hIa : Hid (inR (-9223372036854775808) = true)) (hIb : Hid (inR (-1) = true)) (h4 : RecIs 4 (-9223372036854775808) (-1) 0 0 84) (h7 : RecIs 7 (-9223372036854775808) (-1) 0 0 84) :
    Calls Try.prog 7 #[.int .i64 (-9223372036854775808), .int .i64 (-1)] w fun e w' => e = .returned (.bool true) ∧ Below w.heap.size w w' := by
  go_enter Try.func7, Try.ntmps7
  have hA := Below.refl w.heap.size w
  have zA := hA.size
  go_upto_region 3 with (first | (go_at_call 17; refine (alive_any _).mono ?_; rintro e w0 ⟨rfl, hb⟩; have hA : Below w.heap.size w w0 := (by (repeat (first | exact hA | exact Below.refl _ _ | (refine Below.setCell ?_ (by first | omega | (simp; done) | (simp; omega)) _) | (refine Below.alloc ?_ (by first | omega | (simp; done) | (simp; omega)) _) | (refine below_drewN ?_ _) | (refine Below.drew ?_) | (refine below_call hb (by first | omega | (simp; done) | (simp; omega)) ?_)))); have zA := hA.size))
  go_upto_region 4 with (first | (go_at_call 25; refine (lnumber_any _ _).mono ?_; rintro e w1 ⟨rfl, hb⟩; have hA : Below w.heap.size w w1 := (by (repeat (first | exact hA | exact Below.refl _ _ | (refine Below.setCell ?_ (by first | omega | (simp; done) | (simp; omega)) _) | (refine Below.alloc ?_ (by first | omega | (simp; done) | (simp; omega)) _) | (refine below_drewN ?_ _) | (refine Below.drew ?_) | (refine below_call hb (by first | omega | (simp; done) | (simp; omega)) ?_)))); have zA := hA.size) | (go_at_call 18; refine (reckon_is 4 (-9223372036854775808) (-1) 0 0 84 hIa hIb h4 _).mono ?_; rintro e v0 ⟨rfl, hb⟩; have hA : Below w.heap.size w v0 := (by (repeat (first | exact hA | exact Below.refl _ _ | (refine Below.setCell ?_ (by first | omega | (simp; done) | (simp; omega)) _) | (refine Below.alloc ?_ (by first | omega | (simp; done) | (simp; omega)) _) | (refine below_drewN ?_ _) | (refine Below.drew ?_) | (refine below_call hb (by first | omega | (simp; done) | (simp; omega)) ?_)))); have zA := hA.size))
  have b0 := new3 0 0 ⟨#[]⟩ v0
  have hA := hA.trans ((below1 v0 (.cells #[.int .i64 0, .int .i64 0, .string ⟨#[]⟩] 23)).mono hA.size)
  generalize hW : v0.alloc (.cells #[.int .i64 0, .int .i64 0, .string ⟨#[]⟩] 23) = X1 at b0 hA ⊢
  clear hW
  clear b0
  have zA := hA.size
  go_upto_region 11 with (first | (go_at_call 12; refine (lnum_any _ _).mono ?_; rintro e w6 ⟨rfl, rfl⟩) | (go_at_call 25; refine (lnumber_any _ _).mono ?_; rintro e w8 ⟨rfl, hb⟩; have hA : Below w.heap.size w w8 := (by (repeat (first | exact hA | exact Below.refl _ _ | (refine Below.setCell ?_ (by first | omega | (simp; done) | (simp; omega)) _) | (refine Below.alloc ?_ (by first | omega | (simp; done) | (simp; omega)) _) | (refine below_drewN ?_ _) | (refine Below.drew ?_) | (refine below_call hb (by first | omega | (simp; done) | (simp; omega)) ?_)))); have zA := hA.size) | (go_at_call 18; refine (reckon_is 7 (-9223372036854775808) (-1) 0 0 84 hIa hIb h7 _).mono ?_; rintro e v7 ⟨rfl, hb⟩; have hA : Below w.heap.size w v7 := (by (repeat (first | exact hA | exact Below.refl _ _ | (refine Below.setCell ?_ (by first | omega | (simp; done) | (simp; omega)) _) | (refine Below.alloc ?_ (by first | omega | (simp; done) | (simp; omega)) _) | (refine below_drewN ?_ _) | (refine Below.drew ?_) | (refine below_call hb (by first | omega | (simp; done) | (simp; omega)) ?_)))); have zA := hA.size))
  have q0 := new3 0 0 ⟨#[]⟩ v7
  have hA := hA.trans ((below1 v7 (.cells #[.int .i64 0, .int .i64 0, .string ⟨#[]⟩] 23)).mono hA.size)
  generalize hW : v7.alloc (.cells #[.int .i64 0, .int .i64 0, .string ⟨#[]⟩] 23) = X2 at q0 hA ⊢
  clear hW
  go_wp2_with (go_at_call 12; refine (lnum_any _ _).mono ?_; rintro e w9 ⟨rfl, rfl⟩)
  go_ret
  exact ⟨rfl, hA⟩

set_option maxRecDepth 100000 in
set_option maxHeartbeats 4000000 in
theorem exact_AG (a b : Int) (w : World) (hIa : Hid (inR a = true)) (hIb : Hid (inR b = true)) (S : Int) (hS' : Hid (inR S = true)) (h4 : RecIs 4 a b 1 S 0) (h5 : RecIs 5 S b 1 a 0) (Q P : Int) (hIq : Hid (inR Q = true)) (hb0 : (b == 0) = false) (h7 : RecIs 7 a b 1 Q 0) (h6 : RecIs 6 Q b 1 P 0) (R : Int) (hR : Hid (wrap64 (a - P) = R))
    (hs : Hid (R.natAbs < b.natAbs ∧ (R < 0 → a < 0) ∧ (0 < R → 0 ≤ a) ∧ True ∧ -9223372036854775808 ≤ b ∧ b ≤ 9223372036854775807)) :
    Calls Try.prog 7 #[.int .i64 a, .int .i64 b] w fun e w' => e = .returned (.bool true) ∧ Below w.heap.size w w' := by
  go_enter Try.func7, Try.ntmps7
  have hA := Below.refl w.heap.size w
  have zA := hA.size
  go_upto_region 3 with (first | (go_at_call 17; refine (alive_any _).mono ?_; rintro e w0 ⟨rfl, hb⟩; have hA : Below w.heap.size w w0 := (by (repeat (first | exact hA | exact Below.refl _ _ | (refine Below.setCell ?_ (by first | omega | (simp; done) | (simp; omega)) _) | (refine Below.alloc ?_ (by first | omega | (simp; done) | (simp; omega)) _) | (refine below_drewN ?_ _) | (refine Below.drew ?_) | (refine below_call hb (by first | omega | (simp; done) | (simp; omega)) ?_)))); have zA := hA.size))
  go_upto_region 4 with (first | (go_at_call 25; refine (lnumber_any _ _).mono ?_; rintro e w1 ⟨rfl, hb⟩; have hA : Below w.heap.size w w1 := (by (repeat (first | exact hA | exact Below.refl _ _ | (refine Below.setCell ?_ (by first | omega | (simp; done) | (simp; omega)) _) | (refine Below.alloc ?_ (by first | omega | (simp; done) | (simp; omega)) _) | (refine below_drewN ?_ _) | (refine Below.drew ?_) | (refine below_call hb (by first | omega | (simp; done) | (simp; omega)) ?_)))); have zA := hA.size) | (go_at_call 18; refine (reckon_is 4 a b 1 S 0 hIa hIb h4 _).mono ?_; rintro e v0 ⟨rfl, hb⟩; have hA : Below w.heap.size w v0 := (by (repeat (first | exact hA | exact Below.refl _ _ | (refine Below.setCell ?_ (by first | omega | (simp; done) | (simp; omega)) _) | (refine Below.alloc ?_ (by first | omega | (simp; done) | (simp; omega)) _) | (refine below_drewN ?_ _) | (refine Below.drew ?_) | (refine below_call hb (by first | omega | (simp; done) | (simp; omega)) ?_)))); have zA := hA.size))
  have b0 := new3 1 S ⟨#[]⟩ v0
  have hA := hA.trans ((below1 v0 (.cells #[.int .i64 1, .int .i64 S, .string ⟨#[]⟩] 23)).mono hA.size)
  generalize hW : v0.alloc (.cells #[.int .i64 1, .int .i64 S, .string ⟨#[]⟩] 23) = X1 at b0 hA ⊢
  clear hW
  go_upto_region 5 with (first | (go_at_call 12; refine (lnum_any _ _).mono ?_; rintro e w2 ⟨rfl, rfl⟩))
  go_cut [7, 8] (fun p e wx => ∃ g : Nat, p = .pointer (some ⟨g, 0, none⟩) ∧ e = .int .i64 0 ∧ g < wx.heap.size ∧ wx.cell? ⟨g, 0, none⟩ = some (.int .i64 1) ∧ wx.cell? ⟨g, 1, none⟩ = some (.int .i64 a) ∧ wx.cell? ⟨g, 2, none⟩ = some (.string ⟨#[]⟩) ∧ Below w.heap.size w wx)
  case first =>
    have hS0 : v0.heap.size < X1.drew.heap.size ∧ X1.drew.cell? ⟨v0.heap.size, 0, none⟩ = some (.int .i64 1) ∧ X1.drew.cell? ⟨v0.heap.size, 1, none⟩ = some (.int .i64 S) ∧ X1.drew.cell? ⟨v0.heap.size, 2, none⟩ = some (.string ⟨#[]⟩) ∧ Below w.heap.size w X1.drew := ⟨b0.1, b0.2.1, b0.2.2.1, b0.2.2.2, hA.drew⟩
    have zX : v0.heap.size < X1.heap.size := b0.1
    have zY : w.heap.size ≤ X1.heap.size := hA.size
    clear b0 hA zA hb
    go_region_held3 (fun W => v0.heap.size < W.heap.size ∧ W.cell? ⟨v0.heap.size, 0, none⟩ = some (.int .i64 1) ∧ W.cell? ⟨v0.heap.size, 1, none⟩ = some (.int .i64 S) ∧ W.cell? ⟨v0.heap.size, 2, none⟩ = some (.string ⟨#[]⟩) ∧ Below w.heap.size w W)
      (first | exact hS | exact hS0 | exact keepE (below1 _ _) hS | exact keepE (below1 _ _) hS0 | exact keepG (below_set3 _ _ _ _ _) (by omega) (by omega) hS | assumption)
      (first | (go_at_call 25; refine (lnumber_any _ _).mono ?_; rintro e w3 ⟨rfl, hb⟩; have hS : v0.heap.size < w3.heap.size ∧ w3.cell? ⟨v0.heap.size, 0, none⟩ = some (.int .i64 1) ∧ w3.cell? ⟨v0.heap.size, 1, none⟩ = some (.int .i64 S) ∧ w3.cell? ⟨v0.heap.size, 2, none⟩ = some (.string ⟨#[]⟩) ∧ Below w.heap.size w w3 := (by first | exact keepE hb hS | exact keepE hb hS0 | exact keepE hb (keepE (below1 _ _) hS) | exact keepE hb (keepE (below1 _ _) hS0)); have zS := hS.2.2.2.2.size; first | (have b7 := keepZ hb b7) | (have b7 := newZ hb) | (have b7 := newZd hb) | skip) | (go_at_call 18; refine (reckon_is 5 S b 1 a 0 hS' hIb h5 _).mono ?_; rintro e v1 ⟨rfl, hb⟩; have hS : v0.heap.size < v1.heap.size ∧ v1.cell? ⟨v0.heap.size, 0, none⟩ = some (.int .i64 1) ∧ v1.cell? ⟨v0.heap.size, 1, none⟩ = some (.int .i64 S) ∧ v1.cell? ⟨v0.heap.size, 2, none⟩ = some (.string ⟨#[]⟩) ∧ Below w.heap.size w v1 := (by first | exact keepE hb hS | exact keepE hb hS0 | exact keepE hb (keepE (below1 _ _) hS) | exact keepE hb (keepE (below1 _ _) hS0)); have zS := hS.2.2.2.2.size; first | (have b7 := keepZ hb b7) | (have b7 := newZ hb) | (have b7 := newZd hb) | skip))
    all_goals go_wp2_with fail
    all_goals go_meet
    all_goals first | exact ⟨_, rfl, rfl, (set3 _ _ _ b7).1, (set3 _ _ _ b7).2.1, (set3 _ _ _ b7).2.2.1, (set3 _ _ _ b7).2.2.2, (keepG (below_set3 _ _ _ _ _) (by omega) (by omega) hS).2.2.2.2⟩ | exact ⟨_, rfl, rfl, (new3 _ _ _ _).1, (new3 _ _ _ _).2.1, (new3 _ _ _ _).2.2.1, (new3 _ _ _ _).2.2.2, (keepE (below1 _ _) hS).2.2.2.2⟩
  case rest =>
    obtain ⟨g, rfl, rfl, l1, c0, c1, c2, hA⟩ := hcut
    clear b0
    go_upto_region 6 with (fail)
    first | go_region_held3 (fun W => g < W.heap.size ∧ W.cell? ⟨g, 0, none⟩ = some (.int .i64 1) ∧ W.cell? ⟨g, 1, none⟩ = some (.int .i64 a) ∧ W.cell? ⟨g, 2, none⟩ = some (.string ⟨#[]⟩) ∧ Below w.heap.size w W)
      (first | exact hS | exact ⟨l1, c0, c1, c2, hA.drew⟩ | assumption)
      (first | (go_at_call 12; refine (lnum_any _ _).mono ?_; rintro e w7 ⟨rfl, rfl⟩) | (go_at_call 25; refine (lnumber_any _ _).mono ?_; rintro e w5 ⟨rfl, hb⟩; have hS : g < w5.heap.size ∧ w5.cell? ⟨g, 0, none⟩ = some (.int .i64 1) ∧ w5.cell? ⟨g, 1, none⟩ = some (.int .i64 a) ∧ w5.cell? ⟨g, 2, none⟩ = some (.string ⟨#[]⟩) ∧ Below w.heap.size w w5 := (by first | exact keepE hb hS | exact keepE hb ⟨l1, c0, c1, c2, hA.drew⟩))) | fail
    have hA := hS.2.2.2.2
    clear l1 c0 c1 c2 hS
    have zA := hA.size
    go_upto_region 11 with (first | (go_at_call 12; refine (lnum_any _ _).mono ?_; rintro e w6 ⟨rfl, rfl⟩) | (go_at_call 25; refine (lnumber_any _ _).mono ?_; rintro e w8 ⟨rfl, hb⟩; have hA : Below w.heap.size w w8 := (by (repeat (first | exact hA | exact Below.refl _ _ | (refine Below.setCell ?_ (by first | omega | (simp; done) | (simp; omega)) _) | (refine Below.alloc ?_ (by first | omega | (simp; done) | (simp; omega)) _) | (refine below_drewN ?_ _) | (refine Below.drew ?_) | (refine below_call hb (by first | omega | (simp; done) | (simp; omega)) ?_)))); have zA := hA.size) | (go_at_call 18; refine (reckon_is 7 a b 1 Q 0 hIa hIb h7 _).mono ?_; rintro e v7 ⟨rfl, hb⟩; have hA : Below w.heap.size w v7 := (by (repeat (first | exact hA | exact Below.refl _ _ | (refine Below.setCell ?_ (by first | omega | (simp; done) | (simp; omega)) _) | (refine Below.alloc ?_ (by first | omega | (simp; done) | (simp; omega)) _) | (refine below_drewN ?_ _) | (refine Below.drew ?_) | (refine below_call hb (by first | omega | (simp; done) | (simp; omega)) ?_)))); have zA := hA.size))
    have q0 := new3 1 Q ⟨#[]⟩ v7
    have hA := hA.trans ((below1 v7 (.cells #[.int .i64 1, .int .i64 Q, .string ⟨#[]⟩] 23)).mono hA.size)
    generalize hW : v7.alloc (.cells #[.int .i64 1, .int .i64 Q, .string ⟨#[]⟩] 23) = X2 at q0 hA ⊢
    clear hW
    go_upto_region 15 with (first | (go_at_call 12; refine (lnum_any _ _).mono ?_; rintro e w9 ⟨rfl, rfl⟩))
    go_cut [11, 12] (fun p e wx => ∃ g : Nat, p = .pointer (some ⟨g, 0, none⟩) ∧ e = .int .i64 0 ∧ g < wx.heap.size ∧ wx.cell? ⟨g, 0, none⟩ = some (.int .i64 1) ∧ wx.cell? ⟨g, 1, none⟩ = some (.int .i64 P) ∧ wx.cell? ⟨g, 2, none⟩ = some (.string ⟨#[]⟩) ∧ Below w.heap.size w wx)
    case first =>
      have hS0 : v7.heap.size < X2.drew.heap.size ∧ X2.drew.cell? ⟨v7.heap.size, 0, none⟩ = some (.int .i64 1) ∧ X2.drew.cell? ⟨v7.heap.size, 1, none⟩ = some (.int .i64 Q) ∧ X2.drew.cell? ⟨v7.heap.size, 2, none⟩ = some (.string ⟨#[]⟩) ∧ Below w.heap.size w X2.drew := ⟨q0.1, q0.2.1, q0.2.2.1, q0.2.2.2, hA.drew⟩
      have zX : v7.heap.size < X2.heap.size := q0.1
      have zY : w.heap.size ≤ X2.heap.size := hA.size
      clear q0 hA zA hb
      go_region_held3 (fun W => v7.heap.size < W.heap.size ∧ W.cell? ⟨v7.heap.size, 0, none⟩ = some (.int .i64 1) ∧ W.cell? ⟨v7.heap.size, 1, none⟩ = some (.int .i64 Q) ∧ W.cell? ⟨v7.heap.size, 2, none⟩ = some (.string ⟨#[]⟩) ∧ Below w.heap.size w W)
        (first | exact hS | exact hS0 | exact keepE (below1 _ _) hS | exact keepE (below1 _ _) hS0 | exact keepG (below_set3 _ _ _ _ _) (by omega) (by omega) hS | assumption)
        (first | (go_at_call 25; refine (lnumber_any _ _).mono ?_; rintro e w3 ⟨rfl, hb⟩; have hS : v7.heap.size < w3.heap.size ∧ w3.cell? ⟨v7.heap.size, 0, none⟩ = some (.int .i64 1) ∧ w3.cell? ⟨v7.heap.size, 1, none⟩ = some (.int .i64 Q) ∧ w3.cell? ⟨v7.heap.size, 2, none⟩ = some (.string ⟨#[]⟩) ∧ Below w.heap.size w w3 := (by first | exact keepE hb hS | exact keepE hb hS0 | exact keepE hb (keepE (below1 _ _) hS) | exact keepE hb (keepE (below1 _ _) hS0)); have zS := hS.2.2.2.2.size; first | (have b7 := keepZ hb b7) | (have b7 := newZ hb) | (have b7 := newZd hb) | skip) | (go_at_call 18; refine (reckon_is 6 Q b 1 P 0 hIq hIb h6 _).mono ?_; rintro e v1 ⟨rfl, hb⟩; have hS : v7.heap.size < v1.heap.size ∧ v1.cell? ⟨v7.heap.size, 0, none⟩ = some (.int .i64 1) ∧ v1.cell? ⟨v7.heap.size, 1, none⟩ = some (.int .i64 Q) ∧ v1.cell? ⟨v7.heap.size, 2, none⟩ = some (.string ⟨#[]⟩) ∧ Below w.heap.size w v1 := (by first | exact keepE hb hS | exact keepE hb hS0 | exact keepE hb (keepE (below1 _ _) hS) | exact keepE hb (keepE (below1 _ _) hS0)); have zS := hS.2.2.2.2.size; first | (have b7 := keepZ hb b7) | (have b7 := newZ hb) | (have b7 := newZd hb) | skip))
      all_goals go_wp2_with fail
      all_goals go_meet
      all_goals first | exact ⟨_, rfl, rfl, (set3 _ _ _ b7).1, (set3 _ _ _ b7).2.1, (set3 _ _ _ b7).2.2.1, (set3 _ _ _ b7).2.2.2, (keepG (below_set3 _ _ _ _ _) (by omega) (by omega) hS).2.2.2.2⟩ | exact ⟨_, rfl, rfl, (new3 _ _ _ _).1, (new3 _ _ _ _).2.1, (new3 _ _ _ _).2.2.1, (new3 _ _ _ _).2.2.2, (keepE (below1 _ _) hS).2.2.2.2⟩
    case rest =>
      obtain ⟨g, rfl, rfl, l1, c0, c1, c2, hA⟩ := hcut
      clear q0
      go_upto_region 17 with (fail)
      rw [hR.out]
      obtain ⟨r1, r2, r3, r4, b1, b2⟩ := hs.out
      clear hR hs h4 h5 h6 h7 hIa hIb hIq
      by_cases hbl : b = -9223372036854775808
      · subst hbl
        by_cases hn : R < 0
        · have ha : a < 0 := r2 hn
          have f1 : -9223372036854775808 < R := by omega
          clear b1 b2 hb0
          clear r1 r2 r3 r4
          go_wp2_with (go_at_call 12; refine (lnum_any _ _).mono ?_; rintro e w9 ⟨rfl, rfl⟩)
          all_goals go_ret
          all_goals exact ⟨ret_bool (by first | rfl | (simp; done) | (simp; omega) | (simp [show wrap64 9223372036854775808 = -9223372036854775808 from by decide +kernel, show IntKind.u64.wrap (-9223372036854775808) = 9223372036854775808 from by decide +kernel]; done) | (simp [show wrap64 9223372036854775808 = -9223372036854775808 from by decide +kernel, show IntKind.u64.wrap (-9223372036854775808) = 9223372036854775808 from by decide +kernel]; omega)), hA⟩
        · by_cases hz : R = 0
          · subst hz
            clear b1 b2 hb0 hn
            clear r1 r2 r3 r4
            go_wp2_with (go_at_call 12; refine (lnum_any _ _).mono ?_; rintro e w9 ⟨rfl, rfl⟩)
            all_goals go_ret
            all_goals exact ⟨ret_bool (by first | rfl | (simp; done) | (simp; omega) | (simp [show wrap64 9223372036854775808 = -9223372036854775808 from by decide +kernel, show IntKind.u64.wrap (-9223372036854775808) = 9223372036854775808 from by decide +kernel]; done) | (simp [show wrap64 9223372036854775808 = -9223372036854775808 from by decide +kernel, show IntKind.u64.wrap (-9223372036854775808) = 9223372036854775808 from by decide +kernel]; omega)), hA⟩
          · have ha : 0 ≤ a := r3 (by omega)
            have f1 : 0 < R := by omega
            have f2 : R ≤ 9223372036854775807 := by omega
            clear b1 b2 hb0 hn hz
            clear r1 r2 r3 r4
            go_wp2_with (go_at_call 12; refine (lnum_any _ _).mono ?_; rintro e w9 ⟨rfl, rfl⟩)
            all_goals go_ret
            all_goals exact ⟨ret_bool (by first | rfl | (simp; done) | (simp; omega) | (simp [show wrap64 9223372036854775808 = -9223372036854775808 from by decide +kernel, show IntKind.u64.wrap (-9223372036854775808) = 9223372036854775808 from by decide +kernel]; done) | (simp [show wrap64 9223372036854775808 = -9223372036854775808 from by decide +kernel, show IntKind.u64.wrap (-9223372036854775808) = 9223372036854775808 from by decide +kernel]; omega)), hA⟩
      · have b3 : -9223372036854775808 < b := by omega
        have hb1 : ¬ b = 0 := by simpa using hb0
        by_cases hbn : b < 0
        · by_cases hn : R < 0
          · have ha : a < 0 := r2 hn
            have f1 : b < R := by omega
            clear b1 hb0 hb1 hbl
            clear r1 r2 r3 r4
            go_wp2_with (go_at_call 12; refine (lnum_any _ _).mono ?_; rintro e w9 ⟨rfl, rfl⟩)
            all_goals go_ret
            all_goals exact ⟨ret_bool (by first | rfl | (simp; done) | (simp; omega) | (simp [show wrap64 9223372036854775808 = -9223372036854775808 from by decide +kernel, show IntKind.u64.wrap (-9223372036854775808) = 9223372036854775808 from by decide +kernel]; done) | (simp [show wrap64 9223372036854775808 = -9223372036854775808 from by decide +kernel, show IntKind.u64.wrap (-9223372036854775808) = 9223372036854775808 from by decide +kernel]; omega)), hA⟩
          · by_cases hz : R = 0
            · subst hz
              clear b1 hb0 hb1 hbl hn
              clear r1 r2 r3 r4
              go_wp2_with (go_at_call 12; refine (lnum_any _ _).mono ?_; rintro e w9 ⟨rfl, rfl⟩)
              all_goals go_ret
              all_goals exact ⟨ret_bool (by first | rfl | (simp; done) | (simp; omega) | (simp [show wrap64 9223372036854775808 = -9223372036854775808 from by decide +kernel, show IntKind.u64.wrap (-9223372036854775808) = 9223372036854775808 from by decide +kernel]; done) | (simp [show wrap64 9223372036854775808 = -9223372036854775808 from by decide +kernel, show IntKind.u64.wrap (-9223372036854775808) = 9223372036854775808 from by decide +kernel]; omega)), hA⟩
            · have ha : 0 ≤ a := r3 (by omega)
              have f1 : 0 < R := by omega
              have f2 : R < -b := by omega
              clear b1 hb0 hb1 hbl hn hz
              clear r1 r2 r3 r4
              go_wp2_with (go_at_call 12; refine (lnum_any _ _).mono ?_; rintro e w9 ⟨rfl, rfl⟩)
              all_goals go_ret
              all_goals exact ⟨ret_bool (by first | rfl | (simp; done) | (simp; omega) | (simp [show wrap64 9223372036854775808 = -9223372036854775808 from by decide +kernel, show IntKind.u64.wrap (-9223372036854775808) = 9223372036854775808 from by decide +kernel]; done) | (simp [show wrap64 9223372036854775808 = -9223372036854775808 from by decide +kernel, show IntKind.u64.wrap (-9223372036854775808) = 9223372036854775808 from by decide +kernel]; omega)), hA⟩
        · have f0 : 0 < b := by omega
          by_cases hn : R < 0
          · have ha : a < 0 := r2 hn
            have f1 : -R < b := by omega
            clear b1 hb0 hb1 hbl hbn b3
            clear r1 r2 r3 r4
            go_wp2_with (go_at_call 12; refine (lnum_any _ _).mono ?_; rintro e w9 ⟨rfl, rfl⟩)
            all_goals go_ret
            all_goals exact ⟨ret_bool (by first | rfl | (simp; done) | (simp; omega) | (simp [show wrap64 9223372036854775808 = -9223372036854775808 from by decide +kernel, show IntKind.u64.wrap (-9223372036854775808) = 9223372036854775808 from by decide +kernel]; done) | (simp [show wrap64 9223372036854775808 = -9223372036854775808 from by decide +kernel, show IntKind.u64.wrap (-9223372036854775808) = 9223372036854775808 from by decide +kernel]; omega)), hA⟩
          · by_cases hz : R = 0
            · subst hz
              clear b1 hb0 hb1 hbl hn hbn b3
              clear r1 r2 r3 r4
              go_wp2_with (go_at_call 12; refine (lnum_any _ _).mono ?_; rintro e w9 ⟨rfl, rfl⟩)
              all_goals go_ret
              all_goals exact ⟨ret_bool (by first | rfl | (simp; done) | (simp; omega) | (simp [show wrap64 9223372036854775808 = -9223372036854775808 from by decide +kernel, show IntKind.u64.wrap (-9223372036854775808) = 9223372036854775808 from by decide +kernel]; done) | (simp [show wrap64 9223372036854775808 = -9223372036854775808 from by decide +kernel, show IntKind.u64.wrap (-9223372036854775808) = 9223372036854775808 from by decide +kernel]; omega)), hA⟩
            · have ha : 0 ≤ a := r3 (by omega)
              have f1 : 0 < R := by omega
              have f2 : R < b := by omega
              clear b1 hb0 hb1 hbl hn hz hbn b3
              clear r1 r2 r3 r4
              go_wp2_with (go_at_call 12; refine (lnum_any _ _).mono ?_; rintro e w9 ⟨rfl, rfl⟩)
              all_goals go_ret
              all_goals exact ⟨ret_bool (by first | rfl | (simp; done) | (simp; omega) | (simp [show wrap64 9223372036854775808 = -9223372036854775808 from by decide +kernel, show IntKind.u64.wrap (-9223372036854775808) = 9223372036854775808 from by decide +kernel]; done) | (simp [show wrap64 9223372036854775808 = -9223372036854775808 from by decide +kernel, show IntKind.u64.wrap (-9223372036854775808) = 9223372036854775808 from by decide +kernel]; omega)), hA⟩

set_option maxRecDepth 100000 in
set_option maxHeartbeats 4000000 in
theorem exact_BG (a b : Int) (w : World) (hIa : Hid (inR a = true)) (hIb : Hid (inR b = true)) (h4 : RecIs 4 a b 0 0 84) (Q P : Int) (hIq : Hid (inR Q = true)) (hb0 : (b == 0) = false) (h7 : RecIs 7 a b 1 Q 0) (h6 : RecIs 6 Q b 1 P 0) (R : Int) (hR : Hid (wrap64 (a - P) = R))
    (hs : Hid (R.natAbs < b.natAbs ∧ (R < 0 → a < 0) ∧ (0 < R → 0 ≤ a) ∧ True ∧ -9223372036854775808 ≤ b ∧ b ≤ 9223372036854775807)) :
    Calls Try.prog 7 #[.int .i64 a, .int .i64 b] w fun e w' => e = .returned (.bool true) ∧ Below w.heap.size w w' := by
  go_enter Try.func7, Try.ntmps7
  have hA := Below.refl w.heap.size w
  have zA := hA.size
  go_upto_region 3 with (first | (go_at_call 17; refine (alive_any _).mono ?_; rintro e w0 ⟨rfl, hb⟩; have hA : Below w.heap.size w w0 := (by (repeat (first | exact hA | exact Below.refl _ _ | (refine Below.setCell ?_ (by first | omega | (simp; done) | (simp; omega)) _) | (refine Below.alloc ?_ (by first | omega | (simp; done) | (simp; omega)) _) | (refine below_drewN ?_ _) | (refine Below.drew ?_) | (refine below_call hb (by first | omega | (simp; done) | (simp; omega)) ?_)))); have zA := hA.size))
  go_upto_region 4 with (first | (go_at_call 25; refine (lnumber_any _ _).mono ?_; rintro e w1 ⟨rfl, hb⟩; have hA : Below w.heap.size w w1 := (by (repeat (first | exact hA | exact Below.refl _ _ | (refine Below.setCell ?_ (by first | omega | (simp; done) | (simp; omega)) _) | (refine Below.alloc ?_ (by first | omega | (simp; done) | (simp; omega)) _) | (refine below_drewN ?_ _) | (refine Below.drew ?_) | (refine below_call hb (by first | omega | (simp; done) | (simp; omega)) ?_)))); have zA := hA.size) | (go_at_call 18; refine (reckon_is 4 a b 0 0 84 hIa hIb h4 _).mono ?_; rintro e v0 ⟨rfl, hb⟩; have hA : Below w.heap.size w v0 := (by (repeat (first | exact hA | exact Below.refl _ _ | (refine Below.setCell ?_ (by first | omega | (simp; done) | (simp; omega)) _) | (refine Below.alloc ?_ (by first | omega | (simp; done) | (simp; omega)) _) | (refine below_drewN ?_ _) | (refine Below.drew ?_) | (refine below_call hb (by first | omega | (simp; done) | (simp; omega)) ?_)))); have zA := hA.size))
  have b0 := new3 0 0 ⟨#[]⟩ v0
  have hA := hA.trans ((below1 v0 (.cells #[.int .i64 0, .int .i64 0, .string ⟨#[]⟩] 23)).mono hA.size)
  generalize hW : v0.alloc (.cells #[.int .i64 0, .int .i64 0, .string ⟨#[]⟩] 23) = X1 at b0 hA ⊢
  clear hW
  clear b0
  have zA := hA.size
  go_upto_region 11 with (first | (go_at_call 12; refine (lnum_any _ _).mono ?_; rintro e w6 ⟨rfl, rfl⟩) | (go_at_call 25; refine (lnumber_any _ _).mono ?_; rintro e w8 ⟨rfl, hb⟩; have hA : Below w.heap.size w w8 := (by (repeat (first | exact hA | exact Below.refl _ _ | (refine Below.setCell ?_ (by first | omega | (simp; done) | (simp; omega)) _) | (refine Below.alloc ?_ (by first | omega | (simp; done) | (simp; omega)) _) | (refine below_drewN ?_ _) | (refine Below.drew ?_) | (refine below_call hb (by first | omega | (simp; done) | (simp; omega)) ?_)))); have zA := hA.size) | (go_at_call 18; refine (reckon_is 7 a b 1 Q 0 hIa hIb h7 _).mono ?_; rintro e v7 ⟨rfl, hb⟩; have hA : Below w.heap.size w v7 := (by (repeat (first | exact hA | exact Below.refl _ _ | (refine Below.setCell ?_ (by first | omega | (simp; done) | (simp; omega)) _) | (refine Below.alloc ?_ (by first | omega | (simp; done) | (simp; omega)) _) | (refine below_drewN ?_ _) | (refine Below.drew ?_) | (refine below_call hb (by first | omega | (simp; done) | (simp; omega)) ?_)))); have zA := hA.size))
  have q0 := new3 1 Q ⟨#[]⟩ v7
  have hA := hA.trans ((below1 v7 (.cells #[.int .i64 1, .int .i64 Q, .string ⟨#[]⟩] 23)).mono hA.size)
  generalize hW : v7.alloc (.cells #[.int .i64 1, .int .i64 Q, .string ⟨#[]⟩] 23) = X2 at q0 hA ⊢
  clear hW
  go_upto_region 15 with (first | (go_at_call 12; refine (lnum_any _ _).mono ?_; rintro e w9 ⟨rfl, rfl⟩))
  go_cut [11, 12] (fun p e wx => ∃ g : Nat, p = .pointer (some ⟨g, 0, none⟩) ∧ e = .int .i64 0 ∧ g < wx.heap.size ∧ wx.cell? ⟨g, 0, none⟩ = some (.int .i64 1) ∧ wx.cell? ⟨g, 1, none⟩ = some (.int .i64 P) ∧ wx.cell? ⟨g, 2, none⟩ = some (.string ⟨#[]⟩) ∧ Below w.heap.size w wx)
  case first =>
    have hS0 : v7.heap.size < X2.drew.heap.size ∧ X2.drew.cell? ⟨v7.heap.size, 0, none⟩ = some (.int .i64 1) ∧ X2.drew.cell? ⟨v7.heap.size, 1, none⟩ = some (.int .i64 Q) ∧ X2.drew.cell? ⟨v7.heap.size, 2, none⟩ = some (.string ⟨#[]⟩) ∧ Below w.heap.size w X2.drew := ⟨q0.1, q0.2.1, q0.2.2.1, q0.2.2.2, hA.drew⟩
    have zX : v7.heap.size < X2.heap.size := q0.1
    have zY : w.heap.size ≤ X2.heap.size := hA.size
    clear q0 hA zA hb
    go_region_held3 (fun W => v7.heap.size < W.heap.size ∧ W.cell? ⟨v7.heap.size, 0, none⟩ = some (.int .i64 1) ∧ W.cell? ⟨v7.heap.size, 1, none⟩ = some (.int .i64 Q) ∧ W.cell? ⟨v7.heap.size, 2, none⟩ = some (.string ⟨#[]⟩) ∧ Below w.heap.size w W)
      (first | exact hS | exact hS0 | exact keepE (below1 _ _) hS | exact keepE (below1 _ _) hS0 | exact keepG (below_set3 _ _ _ _ _) (by omega) (by omega) hS | assumption)
      (first | (go_at_call 25; refine (lnumber_any _ _).mono ?_; rintro e w3 ⟨rfl, hb⟩; have hS : v7.heap.size < w3.heap.size ∧ w3.cell? ⟨v7.heap.size, 0, none⟩ = some (.int .i64 1) ∧ w3.cell? ⟨v7.heap.size, 1, none⟩ = some (.int .i64 Q) ∧ w3.cell? ⟨v7.heap.size, 2, none⟩ = some (.string ⟨#[]⟩) ∧ Below w.heap.size w w3 := (by first | exact keepE hb hS | exact keepE hb hS0 | exact keepE hb (keepE (below1 _ _) hS) | exact keepE hb (keepE (below1 _ _) hS0)); have zS := hS.2.2.2.2.size; first | (have b7 := keepZ hb b7) | (have b7 := newZ hb) | (have b7 := newZd hb) | skip) | (go_at_call 18; refine (reckon_is 6 Q b 1 P 0 hIq hIb h6 _).mono ?_; rintro e v1 ⟨rfl, hb⟩; have hS : v7.heap.size < v1.heap.size ∧ v1.cell? ⟨v7.heap.size, 0, none⟩ = some (.int .i64 1) ∧ v1.cell? ⟨v7.heap.size, 1, none⟩ = some (.int .i64 Q) ∧ v1.cell? ⟨v7.heap.size, 2, none⟩ = some (.string ⟨#[]⟩) ∧ Below w.heap.size w v1 := (by first | exact keepE hb hS | exact keepE hb hS0 | exact keepE hb (keepE (below1 _ _) hS) | exact keepE hb (keepE (below1 _ _) hS0)); have zS := hS.2.2.2.2.size; first | (have b7 := keepZ hb b7) | (have b7 := newZ hb) | (have b7 := newZd hb) | skip))
    all_goals go_wp2_with fail
    all_goals go_meet
    all_goals first | exact ⟨_, rfl, rfl, (set3 _ _ _ b7).1, (set3 _ _ _ b7).2.1, (set3 _ _ _ b7).2.2.1, (set3 _ _ _ b7).2.2.2, (keepG (below_set3 _ _ _ _ _) (by omega) (by omega) hS).2.2.2.2⟩ | exact ⟨_, rfl, rfl, (new3 _ _ _ _).1, (new3 _ _ _ _).2.1, (new3 _ _ _ _).2.2.1, (new3 _ _ _ _).2.2.2, (keepE (below1 _ _) hS).2.2.2.2⟩
  case rest =>
    obtain ⟨g, rfl, rfl, l1, c0, c1, c2, hA⟩ := hcut
    clear q0
    go_upto_region 17 with (fail)
    rw [hR.out]
    obtain ⟨r1, r2, r3, r4, b1, b2⟩ := hs.out
    clear hR hs h4 h6 h7 hIa hIb hIq
    by_cases hbl : b = -9223372036854775808
    · subst hbl
      by_cases hn : R < 0
      · have ha : a < 0 := r2 hn
        have f1 : -9223372036854775808 < R := by omega
        clear b1 b2 hb0
        clear r1 r2 r3 r4
        go_wp2_with (go_at_call 12; refine (lnum_any _ _).mono ?_; rintro e w9 ⟨rfl, rfl⟩)
        all_goals go_ret
        all_goals exact ⟨ret_bool (by first | rfl | (simp; done) | (simp; omega) | (simp [show wrap64 9223372036854775808 = -9223372036854775808 from by decide +kernel, show IntKind.u64.wrap (-9223372036854775808) = 9223372036854775808 from by decide +kernel]; done) | (simp [show wrap64 9223372036854775808 = -9223372036854775808 from by decide +kernel, show IntKind.u64.wrap (-9223372036854775808) = 9223372036854775808 from by decide +kernel]; omega)), hA⟩
      · by_cases hz : R = 0
        · subst hz
          clear b1 b2 hb0 hn
          clear r1 r2 r3 r4
          go_wp2_with (go_at_call 12; refine (lnum_any _ _).mono ?_; rintro e w9 ⟨rfl, rfl⟩)
          all_goals go_ret
          all_goals exact ⟨ret_bool (by first | rfl | (simp; done) | (simp; omega) | (simp [show wrap64 9223372036854775808 = -9223372036854775808 from by decide +kernel, show IntKind.u64.wrap (-9223372036854775808) = 9223372036854775808 from by decide +kernel]; done) | (simp [show wrap64 9223372036854775808 = -9223372036854775808 from by decide +kernel, show IntKind.u64.wrap (-9223372036854775808) = 9223372036854775808 from by decide +kernel]; omega)), hA⟩
        · have ha : 0 ≤ a := r3 (by omega)
          have f1 : 0 < R := by omega
          have f2 : R ≤ 9223372036854775807 := by omega
          clear b1 b2 hb0 hn hz
          clear r1 r2 r3 r4
          go_wp2_with (go_at_call 12; refine (lnum_any _ _).mono ?_; rintro e w9 ⟨rfl, rfl⟩)
          all_goals go_ret
          all_goals exact ⟨ret_bool (by first | rfl | (simp; done) | (simp; omega) | (simp [show wrap64 9223372036854775808 = -9223372036854775808 from by decide +kernel, show IntKind.u64.wrap (-9223372036854775808) = 9223372036854775808 from by decide +kernel]; done) | (simp [show wrap64 9223372036854775808 = -9223372036854775808 from by decide +kernel, show IntKind.u64.wrap (-9223372036854775808) = 9223372036854775808 from by decide +kernel]; omega)), hA⟩
    · have b3 : -9223372036854775808 < b := by omega
      have hb1 : ¬ b = 0 := by simpa using hb0
      by_cases hbn : b < 0
      · by_cases hn : R < 0
        · have ha : a < 0 := r2 hn
          have f1 : b < R := by omega
          clear b1 hb0 hb1 hbl
          clear r1 r2 r3 r4
          go_wp2_with (go_at_call 12; refine (lnum_any _ _).mono ?_; rintro e w9 ⟨rfl, rfl⟩)
          all_goals go_ret
          all_goals exact ⟨ret_bool (by first | rfl | (simp; done) | (simp; omega) | (simp [show wrap64 9223372036854775808 = -9223372036854775808 from by decide +kernel, show IntKind.u64.wrap (-9223372036854775808) = 9223372036854775808 from by decide +kernel]; done) | (simp [show wrap64 9223372036854775808 = -9223372036854775808 from by decide +kernel, show IntKind.u64.wrap (-9223372036854775808) = 9223372036854775808 from by decide +kernel]; omega)), hA⟩
        · by_cases hz : R = 0
          · subst hz
            clear b1 hb0 hb1 hbl hn
            clear r1 r2 r3 r4
            go_wp2_with (go_at_call 12; refine (lnum_any _ _).mono ?_; rintro e w9 ⟨rfl, rfl⟩)
            all_goals go_ret
            all_goals exact ⟨ret_bool (by first | rfl | (simp; done) | (simp; omega) | (simp [show wrap64 9223372036854775808 = -9223372036854775808 from by decide +kernel, show IntKind.u64.wrap (-9223372036854775808) = 9223372036854775808 from by decide +kernel]; done) | (simp [show wrap64 9223372036854775808 = -9223372036854775808 from by decide +kernel, show IntKind.u64.wrap (-9223372036854775808) = 9223372036854775808 from by decide +kernel]; omega)), hA⟩
          · have ha : 0 ≤ a := r3 (by omega)
            have f1 : 0 < R := by omega
            have f2 : R < -b := by omega
            clear b1 hb0 hb1 hbl hn hz
            clear r1 r2 r3 r4
            go_wp2_with (go_at_call 12; refine (lnum_any _ _).mono ?_; rintro e w9 ⟨rfl, rfl⟩)
            all_goals go_ret
            all_goals exact ⟨ret_bool (by first | rfl | (simp; done) | (simp; omega) | (simp [show wrap64 9223372036854775808 = -9223372036854775808 from by decide +kernel, show IntKind.u64.wrap (-9223372036854775808) = 9223372036854775808 from by decide +kernel]; done) | (simp [show wrap64 9223372036854775808 = -9223372036854775808 from by decide +kernel, show IntKind.u64.wrap (-9223372036854775808) = 9223372036854775808 from by decide +kernel]; omega)), hA⟩
      · have f0 : 0 < b := by omega
        by_cases hn : R < 0
        · have ha : a < 0 := r2 hn
          have f1 : -R < b := by omega
          clear b1 hb0 hb1 hbl hbn b3
          clear r1 r2 r3 r4
          go_wp2_with (go_at_call 12; refine (lnum_any _ _).mono ?_; rintro e w9 ⟨rfl, rfl⟩)
          all_goals go_ret
          all_goals exact ⟨ret_bool (by first | rfl | (simp; done) | (simp; omega) | (simp [show wrap64 9223372036854775808 = -9223372036854775808 from by decide +kernel, show IntKind.u64.wrap (-9223372036854775808) = 9223372036854775808 from by decide +kernel]; done) | (simp [show wrap64 9223372036854775808 = -9223372036854775808 from by decide +kernel, show IntKind.u64.wrap (-9223372036854775808) = 9223372036854775808 from by decide +kernel]; omega)), hA⟩
        · by_cases hz : R = 0
          · subst hz
            clear b1 hb0 hb1 hbl hn hbn b3
            clear r1 r2 r3 r4
            go_wp2_with (go_at_call 12; refine (lnum_any _ _).mono ?_; rintro e w9 ⟨rfl, rfl⟩)
            all_goals go_ret
            all_goals exact ⟨ret_bool (by first | rfl | (simp; done) | (simp; omega) | (simp [show wrap64 9223372036854775808 = -9223372036854775808 from by decide +kernel, show IntKind.u64.wrap (-9223372036854775808) = 9223372036854775808 from by decide +kernel]; done) | (simp [show wrap64 9223372036854775808 = -9223372036854775808 from by decide +kernel, show IntKind.u64.wrap (-9223372036854775808) = 9223372036854775808 from by decide +kernel]; omega)), hA⟩
          · have ha : 0 ≤ a := r3 (by omega)
            have f1 : 0 < R := by omega
            have f2 : R < b := by omega
            clear b1 hb0 hb1 hbl hn hz hbn b3
            clear r1 r2 r3 r4
            go_wp2_with (go_at_call 12; refine (lnum_any _ _).mono ?_; rintro e w9 ⟨rfl, rfl⟩)
            all_goals go_ret
            all_goals exact ⟨ret_bool (by first | rfl | (simp; done) | (simp; omega) | (simp [show wrap64 9223372036854775808 = -9223372036854775808 from by decide +kernel, show IntKind.u64.wrap (-9223372036854775808) = 9223372036854775808 from by decide +kernel]; done) | (simp [show wrap64 9223372036854775808 = -9223372036854775808 from by decide +kernel, show IntKind.u64.wrap (-9223372036854775808) = 9223372036854775808 from by decide +kernel]; omega)), hA⟩

theorem rec_is (op a b K M E : Int) (h1 : 4 ≤ op) (h2 : op < 8) (h : (if numE op a b = 0 then 1 else 0) = K ∧ numN op a b = M ∧ numE op a b = E) : RecIs op a b K M E := by
  have h3 := rec_num op a b h1 h2
  exact ⟨h3.1.trans h.1, h3.2.1.trans h.2.1, h3.2.2.trans h.2.2⟩
theorem rec_yes (op a b t : Int) (h1 : 4 ≤ op) (h2 : op < 8) (h3 : ¬ (op = 7 ∧ b = 0)) (ht : tru op a b = t) (h : inR t = true) : RecIs op a b 1 t 0 :=
  rec_is op a b 1 t 0 h1 h2 (by subst ht; simp [numE, numN, h3, h])
theorem rec_over (op a b : Int) (h1 : 4 ≤ op) (h2 : op < 8) (h3 : ¬ (op = 7 ∧ b = 0)) (h : inR (tru op a b) = false) : RecIs op a b 0 0 84 :=
  rec_is op a b 0 0 84 h1 h2 (by simp [numE, numN, h3, h])
theorem rec_zero (a : Int) : RecIs 7 a 0 0 0 85 := rec_is 7 a 0 0 0 85 (by omega) (by omega) (by simp [numE, numN])
theorem rec_least : RecIs 7 (-9223372036854775808) (-1) 0 0 84 := rec_over 7 _ _ (by omega) (by omega) (by omega) (by decide +kernel)

theorem exact_law (a b : Int) (w : World) (ha : inR a = true) (hb : inR b = true) :
    Calls Try.prog 7 #[.int .i64 a, .int .i64 b] w fun e w' => e = .returned (.bool true) ∧ Below w.heap.size w w' := by
  by_cases h0 : b = 0
  · subst h0
    by_cases hs : inR (a + 0) = true
    · exact exact_AZ a w ha hb (a + 0) hs (rec_yes 4 a 0 _ (by omega) (by omega) (by omega) rfl hs) (rec_yes 5 (a + 0) 0 a (by omega) (by omega) (by omega) (by unfold tru; omega) ha) (rec_zero a)
    · exact exact_BZ a w ha hb (rec_over 4 a 0 (by omega) (by omega) (by omega) (by simpa [tru] using hs)) (rec_zero a)
  · by_cases hl : a = -9223372036854775808 ∧ b = -1
    · obtain ⟨rfl, rfl⟩ := hl
      exact exact_BL w ha hb (rec_over 4 _ _ (by omega) (by omega) (by omega) (by decide +kernel)) rec_least
    · have hq : inR (a.tdiv b) = true := tdiv_bd a b h0 ha hl
      have h7 : RecIs 7 a b 1 (a.tdiv b) 0 := rec_yes 7 a b _ (by omega) (by omega) (fun h => h0 h.2) rfl hq
      have hd := Int.mul_tdiv_add_tmod a b
      have hc : a.tdiv b * b = b * a.tdiv b := Int.mul_comm _ _
      have hn : (a.tmod b).natAbs = a.natAbs % b.natAbs := Int.natAbs_tmod a b
      have hn1 : a.natAbs % b.natAbs < b.natAbs := Nat.mod_lt _ (by omega)
      have hra : -9223372036854775808 ≤ a ∧ a ≤ 9223372036854775807 := by simpa [inR] using ha
      have hrb : -9223372036854775808 ≤ b ∧ b ≤ 9223372036854775807 := by simpa [inR] using hb
      have hs1 : 0 ≤ a → 0 ≤ a.tmod b := fun h => Int.tmod_nonneg b h
      have hs2 : a ≤ 0 → a.tmod b ≤ 0 := fun h => by
        have := Int.tmod_nonneg b (show 0 ≤ -a by omega)
        rw [Int.neg_tmod] at this; omega
      have hn2 : a.natAbs % b.natAbs ≤ a.natAbs := Nat.mod_le _ _
      have hp : inR (a.tdiv b * b) = true := by simp [inR]; omega
      have h6 : RecIs 6 (a.tdiv b) b 1 (a.tdiv b * b) 0 := rec_yes 6 _ b _ (by omega) (by omega) (by omega) rfl hp
      have hR : wrap64 (a - a.tdiv b * b) = a.tmod b := by
        have e : a - a.tdiv b * b = a.tmod b := by omega
        rw [e]; apply wrap_in; simp [inR]; omega
      have hs : (a.tmod b).natAbs < b.natAbs ∧ (a.tmod b < 0 → a < 0) ∧ (0 < a.tmod b → 0 ≤ a) ∧ True ∧ -9223372036854775808 ≤ b ∧ b ≤ 9223372036854775807 := ⟨by omega, fun h => by omega, fun h => by omega, trivial, hrb.1, hrb.2⟩
      by_cases hsum : inR (a + b) = true
      · exact exact_AG a b w ha hb (a + b) hsum (rec_yes 4 a b _ (by omega) (by omega) (by omega) rfl hsum) (rec_yes 5 (a + b) b a (by omega) (by omega) (by omega) (by unfold tru; omega) ha) (a.tdiv b) (a.tdiv b * b) hq (by simpa using h0) h7 h6 (a.tmod b) hR hs
      · exact exact_BG a b w ha hb (rec_over 4 a b (by omega) (by omega) (by omega) (by simpa [tru] using hsum)) (a.tdiv b) (a.tdiv b * b) hq (by simpa using h0) h7 h6 (a.tmod b) hR hs

end Go.Proofs.Ythcipdhfolikaaa
