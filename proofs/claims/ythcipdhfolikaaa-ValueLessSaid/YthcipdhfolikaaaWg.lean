/- ValueLess of the statements' package answers true for any two values: the walk. Conditions: numbers of 64 bits. -/
import Derived.Test.YthcipdhfolikaaaWa
import Derived.Deep.RegionHeld3
import Derived.Deep.DeepCutAuto
namespace Go.Proofs.Ythcipdhfolikaaa
open Go.RowKit
set_option linter.unusedSimpArgs false
set_option linter.unusedVariables false

theorem Try.info23 : (Try.prog.info? 23).map (fun i => (i.zero, i.size, i.bytes)) = some (some (.agg #[.int .i64 0, .int .i64 0, .string ⟨#[]⟩]), 3, 32) := by kernel_rfl
/-- The cells of the first j values. -/
def XS (K : Int) (f : Int → Int) : Nat → List Value
  | 0 => []
  | j + 1 => XS K f j ++ [.int .i64 K, .int .i64 (f (8 + j)), .string ⟨#[]⟩]
theorem ownsRow_below {base size n : Nat} {e : TypeId} {v : Value} {xs : List Value} {W w' : World} (hb : Below W.heap.size W w') (h : W.ownsRow base e size v n xs) : w'.ownsRow base e size v n xs := by
  refine ⟨h.1, h.2.elim Or.inl fun ⟨g, cap, cur, hv, hg, hh, r⟩ => Or.inr ⟨g, cap, cur, hv, hg, ?_, r⟩⟩
  have hlt : g < W.heap.size := by
    rcases Nat.lt_or_ge g W.heap.size with h' | h'
    · exact h'
    · rw [Array.getElem?_eq_none h'] at hh; cases hh
  rw [hb.block g hlt]; exact hh
theorem own_ne {base size n g : Nat} {e : TypeId} {v : Value} {xs : List Value} {W : World} (h : W.ownsRow base e size v n xs) (hg : g < base) : v.ownBlock ≠ some g := by
  rcases h.2 with ⟨rfl, _⟩ | ⟨g', cap, cur, rfl, h1, _⟩
  · simp [Value.ownBlock]
  · simp [Value.ownBlock]; omega

theorem keepGrow {g : Nat} {a b : Int} {s : ByteArray} {W w' : World} {row : Option Nat} (hg : W.grownBy w' row) (hne : row ≠ some g) (h : g < W.heap.size ∧ W.cell? ⟨g, 0, none⟩ = some (.int .i64 a) ∧ W.cell? ⟨g, 1, none⟩ = some (.int .i64 b) ∧ W.cell? ⟨g, 2, none⟩ = some (.string s)) :
    g < w'.heap.size ∧ w'.cell? ⟨g, 0, none⟩ = some (.int .i64 a) ∧ w'.cell? ⟨g, 1, none⟩ = some (.int .i64 b) ∧ w'.cell? ⟨g, 2, none⟩ = some (.string s) :=
  ⟨Nat.lt_of_lt_of_le h.1 hg.size, hg.cell h.2.1 hne.symm, hg.cell h.2.2.1 hne.symm, hg.cell h.2.2.2 hne.symm⟩
theorem own_ge {base size n : Nat} {e : TypeId} {v : Value} {xs : List Value} {W : World} (h : W.ownsRow base e size v n xs) : ∀ k, v.ownBlock = some k → base ≤ k := by
  intro k hk
  rcases h.2 with ⟨rfl, _⟩ | ⟨g', cap, cur, rfl, h1, _⟩
  · simp [Value.ownBlock] at hk
  · simp [Value.ownBlock] at hk; omega

theorem own_cells {base size n : Nat} {e : TypeId} {v : Value} {xs : List Value} {W : World} (h : W.ownsRow base e size v n xs) (hn : 0 < n) : ∃ g cap, v = .slice (some ⟨g, 0, none⟩) n cap ∧ n ≤ cap ∧ ∀ i, i < xs.length → W.cell? ⟨g, i, none⟩ = xs[i]? := by
  obtain ⟨hl, h2⟩ := h
  rcases h2 with ⟨_, h0⟩ | ⟨g, cap, cur, hv, hg, hh, hc, hm, hz, ht⟩
  · omega
  · refine ⟨g, cap, hv, hc, fun i hi => ?_⟩
    have h3 : W.cell? ⟨g, i, none⟩ = cur[i]? := by simp [World.cell?, hh]
    rw [h3, ← ht, List.getElem?_take, if_pos (by omega)]
    simp

theorem compare_lit (k n : Int) (s : ByteArray) (k' n' : Int) (s' : ByteArray) (kn : Bool) (E : Int) (h : cmpKnown k n s k' n' s' = kn ∧ cmpE k n s k' n' s' = E) (w : World) :
    Calls Try.prog 10 #[.agg #[.int .i64 k, .int .i64 n, .string s], .agg #[.int .i64 k', .int .i64 n', .string s']] w fun e w' => e = .returned (.tuple #[.int .i64 (cmpC k n s k' n' s'), .bool kn, .int .i64 E]) ∧ Below w.heap.size w w' :=
  (compare_any k n s k' n' s' w).mono fun _ _ ⟨h1, h2⟩ => ⟨by rw [h1, h.1, h.2], h2⟩
theorem reckon_less (op k n : Int) (s : ByteArray) (k' n' : Int) (s' : ByteArray) (K E : Int) (f : Int → Int) (ha : inR n = true) (hb : inR n' = true) (h : ∀ op, 8 ≤ op → op ≤ 13 → recK op k n s k' n' s' = K ∧ recN op k n s k' n' s' = f op ∧ recE op k n s k' n' s' = E) (h1 : 8 ≤ op) (h2 : op ≤ 13) (w : World) :
    Calls Try.prog 18 #[.int .i64 op, .agg #[.int .i64 k, .int .i64 n, .string s], .agg #[.int .i64 k', .int .i64 n', .string s']] w fun e w' => e = .returned (.tuple #[.agg #[.int .i64 K, .int .i64 (f op), .string ⟨#[]⟩], .int .i64 E]) ∧ Below w.heap.size w w' :=
  (reckon_any op k n s k' n' s' w ha hb).mono fun _ _ ⟨g1, g2⟩ => ⟨by rw [g1, (h op h1 h2).1, (h op h1 h2).2.1, (h op h1 h2).2.2], g2⟩

set_option maxRecDepth 100000 in
set_option maxHeartbeats 4000000 in
theorem less_unknown (k n : Int) (s : ByteArray) (k' n' : Int) (s' : ByteArray) (w : World) (E : Int) (hN : Hid (inR n = true)) (hM : Hid (inR n' = true)) (hC : Hid (cmpKnown k n s k' n' s' = false ∧ cmpE k n s k' n' s' = E))
    (hR : Hid (∀ op, 8 ≤ op → op ≤ 13 → recK op k n s k' n' s' = 0 ∧ recN op k n s k' n' s' = (fun _ => 0) op ∧ recE op k n s k' n' s' = E)) :
    Calls Try.prog 8 #[.agg #[.int .i64 k, .int .i64 n, .string s], .agg #[.int .i64 k', .int .i64 n', .string s']] w fun e w' => e = .returned (.bool true) ∧ Below w.heap.size w w' := by
  obtain ⟨i0, hi, hz0, hz1, hz2⟩ := info_parts Try.info23
  go_enter Try.func8, Try.ntmps8
  go_upto_region 1 with (fail)
  obtain ⟨h1, h2⟩ := two_boxes k n s k' n' s' w
  have hA := below2 w (.cells #[.int .i64 k, .int .i64 n, .string s] 23) (.cells #[.int .i64 k', .int .i64 n', .string s'] 23)
  generalize hW : (w.alloc (.cells #[.int .i64 k, .int .i64 n, .string s] 23)).alloc (.cells #[.int .i64 k', .int .i64 n', .string s'] 23) = X0 at h1 h2 hA ⊢
  clear hW
  go_upto_region 3 with (first | (go_at_call 17; refine (alive_any _).mono ?_; rintro e w0 ⟨rfl, hb⟩; have hA : Below w.heap.size w w0 := (by (repeat (first | exact hA | exact Below.refl _ _ | (refine Below.setCell ?_ (by first | omega | (simp; done) | (simp; omega)) _) | (refine Below.alloc ?_ (by first | omega | (simp; done) | (simp; omega)) _) | (refine below_drewN ?_ _) | (refine Below.drew ?_) | (refine below_call hb (by first | omega | (simp; done) | (simp; omega)) ?_)))); have zA := hA.size; have h1 := keep3 hb h1; have h2 := keep3 hb h2))
  go_upto_region 4 with (first | (go_at_call 10; refine (compare_lit _ _ _ _ _ _ _ _ hC.out _).mono ?_; rintro e w1 ⟨rfl, hb⟩; have hA : Below w.heap.size w w1 := (by (repeat (first | exact hA | exact Below.refl _ _ | (refine Below.setCell ?_ (by first | omega | (simp; done) | (simp; omega)) _) | (refine Below.alloc ?_ (by first | omega | (simp; done) | (simp; omega)) _) | (refine below_drewN ?_ _) | (refine Below.drew ?_) | (refine below_call hb (by first | omega | (simp; done) | (simp; omega)) ?_)))); have zA := hA.size; have h1 := keep3 hb h1; have h2 := keep3 hb h2))
  have zB : w.heap.size + 2 ≤ w1.heap.size := by omega
  go_wp2_with fail
  go_loopw [9, 10] (fun v i wr => ∃ j : Nat, j ≤ 6 ∧ i = .int .i64 (8 + j) ∧ wr.ownsRow (w.heap.size + 2) 23 3 v j (XS 0 (fun _ => 0) j) ∧ (w.heap.size < wr.heap.size ∧ wr.cell? ⟨w.heap.size, 0, none⟩ = some (.int .i64 k) ∧ wr.cell? ⟨w.heap.size, 1, none⟩ = some (.int .i64 n) ∧ wr.cell? ⟨w.heap.size, 2, none⟩ = some (.string s)) ∧ (w.heap.size + 1 < wr.heap.size ∧ wr.cell? ⟨w.heap.size + 1, 0, none⟩ = some (.int .i64 k') ∧ wr.cell? ⟨w.heap.size + 1, 1, none⟩ = some (.int .i64 n') ∧ wr.cell? ⟨w.heap.size + 1, 2, none⟩ = some (.string s')) ∧ Below w.heap.size w wr ∧ w.heap.size + 2 ≤ wr.heap.size) (fun _ i _ => (14 - intOf i).toNat)
  case atStart => exact ⟨0, by omega, rfl, World.ownsRow_nil _ _ _ _, h1, h2, hA, zB⟩
  case round =>
  clear h1 h2 hA zA zB hb
  obtain ⟨j, hj, rfl, hown, h1, h2, hA, zB⟩ := hrel
  have hOwn := Lib.hid hown
  clear hown
  by_cases hlt : j < 6
  · go_wp2_with (first | (go_at_call 18; refine (reckon_less _ _ _ _ _ _ _ 0 E (fun _ => 0) hN.out hM.out hR.out (by omega) (by omega) _).mono ?_; rintro e w3 ⟨rfl, hb⟩; have hA : Below w.heap.size w w3 := (by (repeat (first | exact hA | exact Below.refl _ _ | (refine Below.setCell ?_ (by first | omega | (simp; done) | (simp; omega)) _) | (refine Below.alloc ?_ (by first | omega | (simp; done) | (simp; omega)) _) | (refine below_drewN ?_ _) | (refine Below.drew ?_) | (refine below_call hb (by first | omega | (simp; done) | (simp; omega)) ?_)))); have zA := hA.size; have h1 := keep3 hb h1; have h2 := keep3 hb h2; have hOwn := Lib.hid (ownsRow_below hb hOwn.out)) | (at_builtin; refine wpList_append_own _ rfl (.tmp 45) (.tmp 47) 47 rfl (w.heap.size + 2) 23 i0 (.agg #[.int .i64 0, .int .i64 0, .string ⟨#[]⟩]) 3 32 Try.underlying47 hi hz0 hz1 hz2 rfl (by decide) _ j _ rfl ((hOwn.out.alloc _).alloc _) ⟨w3.heap.size + 1, 0, none⟩ 1 1 [.int .i64 0, .int .i64 ((fun _ => 0) (8 + j)), .string ⟨#[]⟩] rfl rfl ?c1 ?c2 ?c3 ?c4 ?c5 ?_))
    case c2 => exact ⟨rfl, rfl⟩
    case c3 => unfold maxLen; omega
    case c4 => omega
    case c5 => simp; omega
    intro v' w4 hown4 hgrow _
    have hne1 := own_ne hOwn.out (g := w.heap.size) (by omega)
    have hne2 := own_ne hOwn.out (g := w.heap.size + 1) (by omega)
    have h1 := keepGrow hgrow hne1 (keep3 (below2 _ _ _) h1)
    have h2 := keepGrow hgrow hne2 (keep3 (below2 _ _ _) h2)
    have hA := (hA.trans ((below2 w3 _ _).mono zA)).grown hgrow (by simp; omega) (fun k hk => by have := own_ge hOwn.out k hk; omega)
    have zB' : w.heap.size + 2 ≤ w4.heap.size := by have := hgrow.size; simp at this; omega
    have hOwn4 := Lib.hid hown4
    clear hown4 hgrow hOwn hb zB zA hne1 hne2
    go_wp2
    go_roundw
    case rel => exact ⟨j + 1, by omega, by go_num, hOwn4.out, h1, h2, hA, zB'⟩
    case measure => simp [intOf]; omega
  · obtain rfl : j = 6 := by omega
    go_wp2
    go_ret
    exact ⟨rfl, hA⟩

set_option maxRecDepth 100000 in
set_option maxHeartbeats 4000000 in
theorem less_known (k n : Int) (s : ByteArray) (k' n' : Int) (s' : ByteArray) (w : World) (f : Int → Int) (hf : Hid ((f 8 = 0 ∧ f 9 = 1 ∧ f 10 = 1 ∧ f 11 = 1 ∧ f 12 = 0 ∧ f 13 = 0) ∨ (f 8 = 1 ∧ f 9 = 0 ∧ f 10 = 0 ∧ f 11 = 1 ∧ f 12 = 0 ∧ f 13 = 1) ∨ (f 8 = 0 ∧ f 9 = 1 ∧ f 10 = 0 ∧ f 11 = 0 ∧ f 12 = 1 ∧ f 13 = 1))) (E : Int) (hN : Hid (inR n = true)) (hM : Hid (inR n' = true)) (hC : Hid (cmpKnown k n s k' n' s' = true ∧ cmpE k n s k' n' s' = E))
    (hR : Hid (∀ op, 8 ≤ op → op ≤ 13 → recK op k n s k' n' s' = 2 ∧ recN op k n s k' n' s' = (f) op ∧ recE op k n s k' n' s' = E)) :
    Calls Try.prog 8 #[.agg #[.int .i64 k, .int .i64 n, .string s], .agg #[.int .i64 k', .int .i64 n', .string s']] w fun e w' => e = .returned (.bool true) ∧ Below w.heap.size w w' := by
  obtain ⟨i0, hi, hz0, hz1, hz2⟩ := info_parts Try.info23
  go_enter Try.func8, Try.ntmps8
  go_upto_region 1 with (fail)
  obtain ⟨h1, h2⟩ := two_boxes k n s k' n' s' w
  have hA := below2 w (.cells #[.int .i64 k, .int .i64 n, .string s] 23) (.cells #[.int .i64 k', .int .i64 n', .string s'] 23)
  generalize hW : (w.alloc (.cells #[.int .i64 k, .int .i64 n, .string s] 23)).alloc (.cells #[.int .i64 k', .int .i64 n', .string s'] 23) = X0 at h1 h2 hA ⊢
  clear hW
  go_upto_region 3 with (first | (go_at_call 17; refine (alive_any _).mono ?_; rintro e w0 ⟨rfl, hb⟩; have hA : Below w.heap.size w w0 := (by (repeat (first | exact hA | exact Below.refl _ _ | (refine Below.setCell ?_ (by first | omega | (simp; done) | (simp; omega)) _) | (refine Below.alloc ?_ (by first | omega | (simp; done) | (simp; omega)) _) | (refine below_drewN ?_ _) | (refine Below.drew ?_) | (refine below_call hb (by first | omega | (simp; done) | (simp; omega)) ?_)))); have zA := hA.size; have h1 := keep3 hb h1; have h2 := keep3 hb h2))
  go_upto_region 4 with (first | (go_at_call 10; refine (compare_lit _ _ _ _ _ _ _ _ hC.out _).mono ?_; rintro e w1 ⟨rfl, hb⟩; have hA : Below w.heap.size w w1 := (by (repeat (first | exact hA | exact Below.refl _ _ | (refine Below.setCell ?_ (by first | omega | (simp; done) | (simp; omega)) _) | (refine Below.alloc ?_ (by first | omega | (simp; done) | (simp; omega)) _) | (refine below_drewN ?_ _) | (refine Below.drew ?_) | (refine below_call hb (by first | omega | (simp; done) | (simp; omega)) ?_)))); have zA := hA.size; have h1 := keep3 hb h1; have h2 := keep3 hb h2))
  have zB : w.heap.size + 2 ≤ w1.heap.size := by omega
  go_wp2_with fail
  go_loopw [9, 10] (fun v i wr => ∃ j : Nat, j ≤ 6 ∧ i = .int .i64 (8 + j) ∧ wr.ownsRow (w.heap.size + 2) 23 3 v j (XS 2 (f) j) ∧ (w.heap.size < wr.heap.size ∧ wr.cell? ⟨w.heap.size, 0, none⟩ = some (.int .i64 k) ∧ wr.cell? ⟨w.heap.size, 1, none⟩ = some (.int .i64 n) ∧ wr.cell? ⟨w.heap.size, 2, none⟩ = some (.string s)) ∧ (w.heap.size + 1 < wr.heap.size ∧ wr.cell? ⟨w.heap.size + 1, 0, none⟩ = some (.int .i64 k') ∧ wr.cell? ⟨w.heap.size + 1, 1, none⟩ = some (.int .i64 n') ∧ wr.cell? ⟨w.heap.size + 1, 2, none⟩ = some (.string s')) ∧ Below w.heap.size w wr ∧ w.heap.size + 2 ≤ wr.heap.size) (fun _ i _ => (14 - intOf i).toNat)
  case atStart => exact ⟨0, by omega, rfl, World.ownsRow_nil _ _ _ _, h1, h2, hA, zB⟩
  case round =>
  clear h1 h2 hA zA zB hb
  obtain ⟨j, hj, rfl, hown, h1, h2, hA, zB⟩ := hrel
  have hOwn := Lib.hid hown
  clear hown
  by_cases hlt : j < 6
  · go_wp2_with (first | (go_at_call 18; refine (reckon_less _ _ _ _ _ _ _ 2 E (f) hN.out hM.out hR.out (by omega) (by omega) _).mono ?_; rintro e w3 ⟨rfl, hb⟩; have hA : Below w.heap.size w w3 := (by (repeat (first | exact hA | exact Below.refl _ _ | (refine Below.setCell ?_ (by first | omega | (simp; done) | (simp; omega)) _) | (refine Below.alloc ?_ (by first | omega | (simp; done) | (simp; omega)) _) | (refine below_drewN ?_ _) | (refine Below.drew ?_) | (refine below_call hb (by first | omega | (simp; done) | (simp; omega)) ?_)))); have zA := hA.size; have h1 := keep3 hb h1; have h2 := keep3 hb h2; have hOwn := Lib.hid (ownsRow_below hb hOwn.out)) | (at_builtin; refine wpList_append_own _ rfl (.tmp 45) (.tmp 47) 47 rfl (w.heap.size + 2) 23 i0 (.agg #[.int .i64 0, .int .i64 0, .string ⟨#[]⟩]) 3 32 Try.underlying47 hi hz0 hz1 hz2 rfl (by decide) _ j _ rfl ((hOwn.out.alloc _).alloc _) ⟨w3.heap.size + 1, 0, none⟩ 1 1 [.int .i64 2, .int .i64 ((f) (8 + j)), .string ⟨#[]⟩] rfl rfl ?c1 ?c2 ?c3 ?c4 ?c5 ?_))
    case c2 => first | exact ⟨rfl, rfl, rfl⟩ | (intro u hu; simp at hu; rcases hu with rfl | rfl | rfl <;> rfl)
    case c1 =>
      intro j1 u hj1
      have hc := cell_last (w3.alloc (.cells #[.int .i64 2, .int .i64 ((f) (8 + j)), .string ⟨#[]⟩] 23)) #[.int .i64 2, .int .i64 ((f) (8 + j)), .string ⟨#[]⟩] 23 (w3.heap.size + 1) j1 (by simp)
      have e : (Addr.add ⟨w3.heap.size + 1, 0, none⟩ j1) = ⟨w3.heap.size + 1, j1, none⟩ := by unfold Addr.add; split <;> simp_all
      rw [e, hc]
      simpa using hj1
    case c3 => unfold maxLen; omega
    case c4 => omega
    case c5 => simp; omega
    intro v' w4 hown4 hgrow _
    have hne1 := own_ne hOwn.out (g := w.heap.size) (by omega)
    have hne2 := own_ne hOwn.out (g := w.heap.size + 1) (by omega)
    have h1 := keepGrow hgrow hne1 (keep3 (below2 _ _ _) h1)
    have h2 := keepGrow hgrow hne2 (keep3 (below2 _ _ _) h2)
    have hA := (hA.trans ((below2 w3 _ _).mono zA)).grown hgrow (by simp; omega) (fun k hk => by have := own_ge hOwn.out k hk; omega)
    have zB' : w.heap.size + 2 ≤ w4.heap.size := by have := hgrow.size; simp at this; omega
    have hOwn4 := Lib.hid hown4
    clear hown4 hgrow hOwn hb zB zA hne1 hne2
    go_wp2
    go_roundw
    case rel => exact ⟨j + 1, by omega, by go_num, hOwn4.out, h1, h2, hA, zB'⟩
    case measure => simp [intOf]; omega
  · obtain rfl : j = 6 := by omega
    obtain ⟨g, cap, rfl, hcap, hcells⟩ := own_cells hOwn.out (by omega)
    have c0 : wr.cell? ⟨g, 1, none⟩ = some (.int .i64 (f 8)) := (hcells 1 (by simp [XS])).trans (by simp [XS])
    have c1 : wr.cell? ⟨g, 4, none⟩ = some (.int .i64 (f 9)) := (hcells 4 (by simp [XS])).trans (by simp [XS])
    have c2 : wr.cell? ⟨g, 7, none⟩ = some (.int .i64 (f 10)) := (hcells 7 (by simp [XS])).trans (by simp [XS])
    have c3 : wr.cell? ⟨g, 10, none⟩ = some (.int .i64 (f 11)) := (hcells 10 (by simp [XS])).trans (by simp [XS])
    have c4 : wr.cell? ⟨g, 13, none⟩ = some (.int .i64 (f 12)) := (hcells 13 (by simp [XS])).trans (by simp [XS])
    have c5 : wr.cell? ⟨g, 16, none⟩ = some (.int .i64 (f 13)) := (hcells 16 (by simp [XS])).trans (by simp [XS])
    clear hcells hOwn
    rcases hf.out with ⟨e0, e1, e2, e3, e4, e5⟩ | ⟨e0, e1, e2, e3, e4, e5⟩ | ⟨e0, e1, e2, e3, e4, e5⟩
    all_goals
      rw [e0] at c0; rw [e1] at c1; rw [e2] at c2; rw [e3] at c3; rw [e4] at c4; rw [e5] at c5
      clear e0 e1 e2 e3 e4 e5
      go_wp2_with fail
      go_quiet (fail)
      go_wp2_with fail
      go_quiet (fail)
      go_wp2
      go_ret
      exact ⟨rfl, below_drewN (below_drewN hA _) _⟩

theorem known_f (c : Int) (h : c = -1 ∨ c = 0 ∨ c = 1) : (b2i (holdsB 8 c) = 0 ∧ b2i (holdsB 9 c) = 1 ∧ b2i (holdsB 10 c) = 1 ∧ b2i (holdsB 11 c) = 1 ∧ b2i (holdsB 12 c) = 0 ∧ b2i (holdsB 13 c) = 0) ∨ (b2i (holdsB 8 c) = 1 ∧ b2i (holdsB 9 c) = 0 ∧ b2i (holdsB 10 c) = 0 ∧ b2i (holdsB 11 c) = 1 ∧ b2i (holdsB 12 c) = 0 ∧ b2i (holdsB 13 c) = 1) ∨ (b2i (holdsB 8 c) = 0 ∧ b2i (holdsB 9 c) = 1 ∧ b2i (holdsB 10 c) = 0 ∧ b2i (holdsB 11 c) = 0 ∧ b2i (holdsB 12 c) = 1 ∧ b2i (holdsB 13 c) = 1) := by
  rcases h with rfl | rfl | rfl <;> decide +kernel
theorem less_any (k n : Int) (s : ByteArray) (k' n' : Int) (s' : ByteArray) (w : World) (ha : inR n = true) (hb : inR n' = true) :
    Calls Try.prog 8 #[.agg #[.int .i64 k, .int .i64 n, .string s], .agg #[.int .i64 k', .int .i64 n', .string s']] w fun e w' => e = .returned (.bool true) ∧ Below w.heap.size w w' := by
  cases hk : cmpKnown k n s k' n' s'
  · refine less_unknown k n s k' n' s' w (cmpE k n s k' n' s') ha hb ⟨hk, rfl⟩ ?_
    intro op h1 h2
    have h3 : ¬ (op < 4 ∨ 13 < op) := by omega
    have h4 : ¬ op < 8 := by omega
    simp [recK, recN, recE, if_neg h3, if_neg h4, rtK, rtN, hk]
  · have hbd := cmpC_bd k n s k' n' s'
    refine less_known k n s k' n' s' w (fun op => b2i (holdsB op (cmpC k n s k' n' s'))) (known_f _ (by omega)) (cmpE k n s k' n' s') ha hb ⟨hk, rfl⟩ ?_
    intro op h1 h2
    have h3 : ¬ (op < 4 ∨ 13 < op) := by omega
    have h4 : ¬ op < 8 := by omega
    simp [recK, recN, recE, if_neg h3, if_neg h4, rtK, rtN, hk]

end Go.Proofs.Ythcipdhfolikaaa
