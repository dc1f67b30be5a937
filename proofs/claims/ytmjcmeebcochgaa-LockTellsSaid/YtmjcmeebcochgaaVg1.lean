/- What slices.Insert of one lock makes of a list of locks in memory of the call's own, where there is room: the walk. Conditions: a place within the list; at most 600 locks. -/
import Derived.Test.YtmjcmeebcochgaaVg0
namespace Go.Proofs.Ytmjcmeebcochgaa
open Go.RowKit Go.Sort Go.Maps
set_option linter.unusedSimpArgs false
set_option linter.unusedVariables false

set_option maxRecDepth 100000 in
set_option maxHeartbeats 4000000 in
theorem insertT_shift (B i g cap : Nat) (xs : List Lk) (x : Lk) (vb : Nat) (w : World) (hown : w.ownsRow B 34 3 (.slice (some ⟨g, 0, none⟩) xs.length cap) xs.length (lks xs)) (hi : i < xs.length) (hn : xs.length ≤ 600) (hcap : xs.length + 1 ≤ cap)
    (hx : w.heap[vb]? = some (.cells (lkC x).toArray 34 (0, 0))) (hvb : vb ≠ g) :
    Calls Try.prog 48 #[.slice (some ⟨g, 0, none⟩) xs.length cap, .int .i64 i, .slice (some ⟨vb, 0, none⟩) 1 1] w fun e w' => e = .returned (.slice (some ⟨g, 0, none⟩) (xs.length + 1) cap) ∧ w' = (w.drew.setCells g ((i + 1) * 3) ((lks xs).drop (i * 3))).setCells g (i * 3) (lkC x) := by
  obtain ⟨i0, hi0, hz0, hz1, hz2⟩ := info_parts Try.infoV
  have hcl0 := lks_len xs
  obtain ⟨cs, hcs⟩ : ∃ cs, cs = lks xs := ⟨_, rfl⟩
  have hcs1 : ∀ u ∈ cs, u.oneCell' = true := by rw [hcs]; exact lks_one xs
  rw [← hcs] at hown hcl0 ⊢
  obtain ⟨cur, hg, hcm, hsz, htk⟩ : ∃ cur, w.heap[g]? = some (.cells cur 34 (0, 0)) ∧ cap ≤ maxLen ∧ cur.size = cap * 3 ∧ cur.toList.take (xs.length * 3) = cs := by
    rcases hown.2 with ⟨h', _⟩ | ⟨g', cap', cur, h', _, h0, _, h3, h4, h5⟩
    · cases h'
    · injection h' with h6 _ h7
      injection h6 with h6
      injection h6 with h6
      subst h6 h7
      exact ⟨cur, h0, h3, by simpa using h4, by simpa using h5⟩
  clear hown
  have hcell : ∀ j, w.cell? ⟨g, j, none⟩ = cur[j]? := fun j => by rw [cell_of_row w g j cur _ (0, 0) hg]
  have hfz : ∀ j, w.frozen? ⟨g, j, none⟩ = false := fun j => frozen_of_row w g j cur _ hg
  have hcc : ∀ j v, cs[j]? = some v → w.cell? ⟨g, j, none⟩ = some v := fun j v hv => by
    have hj := (List.getElem?_eq_some_iff.1 hv).1
    rw [hcell j, ← hv]
    conv => rhs; rw [← htk]
    rw [List.getElem?_take, if_pos (by omega), Array.getElem?_toList]
  have hsp : ∀ j, j < cap * 3 → (w.cell? ⟨g, j, none⟩).isSome = true := fun j hj => by rw [hcell j, Array.getElem?_eq_getElem (by omega)]; rfl
  have hxc : ∀ j u, (lkC x)[j]? = some u → w.cell? ⟨vb, j, none⟩ = some u := fun j u hu => by rw [cell_of_row w vb j _ _ (0, 0) hx]; simpa using hu
  have hsz0 : (Try.prog.info? 34).map (·.size) = some 3 := by rw [hi0]; simp [hz1]
  have hdl : (cs.drop (i * 3)).length = (xs.length - i) * 3 := by rw [List.length_drop, hcl0]; omega
  have hov : ∀ lb cb, (callFunc 57 #[.slice (some ⟨vb, 0, none⟩) 1 1, .slice (some ⟨g, (i + 1) * 3, none⟩) lb cb]).run Try.prog w = .ok (.value (.bool false)) w := fun lb cb => by
    rw [run_callFunc_extern Try.func57 (by kernel_rfl) (by kernel_rfl) (by kernel_rfl) (e := Extern.SlicesOverlaps.overlaps #[27, 27] #[4]) (by kernel_rfl),
      Lib.run_overlaps_apart w 27 4 34 Try.underlying27 3 (fun W => by simp [sizeOf, typeInfo, hi0, hz1]) ⟨vb, 0, none⟩ ⟨g, (i + 1) * 3, none⟩ 1 1 lb cb hvb 34 34 3 (cap * 3) (by simp [World.shape?, hx, lkC]) (by simp [World.shape?, hg, hsz]) (by omega) (frozen_of_row w vb 0 _ _ hx) (frozen_of_row w vb 3 _ _ hx)]
    rfl
  have hcp1 : ∀ ty dc sc, (Builtin.copy_ #[27, 27] ty #[.slice (some ⟨g, (i + 1) * 3, none⟩) (xs.length - i) dc, .slice (some ⟨g, i * 3, none⟩) (xs.length + 1 - i) sc]).run Try.prog w.drew = .ok (goInt ((xs.length - i : Nat) : Int)) (w.drew.setCells g ((i + 1) * 3) (cs.drop (i * 3))) := fun ty dc sc =>
    run_copyK w.drew _ _ ty 34 3 (xs.length - i) g ((i + 1) * 3) (xs.length - i) dc ⟨g, i * 3, none⟩ (xs.length + 1 - i) sc (cs.drop (i * 3)) Try.underlying27 hsz0 (by simp only [Nat.min_def]; split <;> omega) hdl
      (fun j v hj => by rw [Addr.add_lit]; exact hcc (i * 3 + j) v (by rwa [List.getElem?_drop] at hj))
      (fun j hj => hsp _ (by omega)) (fun j hj => hfz _) (fun v hv => hcs1 v (List.mem_of_mem_drop hv))
  obtain ⟨W1, hW1⟩ : ∃ W1, W1 = w.drew.setCells g ((i + 1) * 3) (cs.drop (i * 3)) := ⟨_, rfl⟩
  have hcp2 : ∀ (W : World), (∀ p, W.cell? p = W1.cell? p) → (∀ p, W.frozen? p = W1.frozen? p) → ∀ ty dc, (Builtin.copy_ #[27, 27] ty #[.slice (some ⟨g, i * 3, none⟩) (xs.length + 1 - i) dc, .slice (some ⟨vb, 0, none⟩) 1 1]).run Try.prog W = .ok (goInt 1) (W.setCells g (i * 3) (lkC x)) := fun W hWc hWf ty dc =>
    run_copyK W _ _ ty 34 3 1 g (i * 3) (xs.length + 1 - i) dc ⟨vb, 0, none⟩ 1 1 (lkC x) Try.underlying27 hsz0 (by simp only [Nat.min_def]; split <;> omega) (by rw [lkC_len])
      (fun j v hj => by rw [Addr.add_lit, Nat.zero_add, hWc, hW1, World.cell?_setCells_out g _ _ _ _ (fun h _ => absurd h hvb)]; exact hxc j v hj)
      (fun j hj => by rw [hWc, hW1]; exact World.isSome_setCells g _ _ _ _ (hsp _ (by rw [lkC_len] at hj; omega))) (fun j hj => by rw [hWf, hW1, World.frozen?_setCells]; exact hfz _) (fun v hv => lks_one [x] v (by simpa [lks] using hv))
  rw [← hW1] at hcp1
  unfold maxLen at hcm
  have mixed : Try.prog.follows Departure.mixedOrders = true := by kernel_rfl
  have hz1' : ¬ ((1 : Int) = 0) := by decide
  have hz2' : ¬ ((i : Int) = (xs.length : Int)) := by omega
  have hw1 : IntKind.i64.wrap ((i : Int) + 1) = (i : Int) + 1 := by rw [IntKind.wrap_i64]; omega
  have hb1 : (0 : Int) ≤ (i : Int) + 1 := by omega
  have htn : ((i : Int) + 1).toNat = i + 1 := by omega
  have hin : i ≤ xs.length := by omega
  have hb2 : ¬ (cap = i + 1) := by omega
  have hb4 : ¬ (cap = i) := by omega
  have hb5 : xs.length ≤ cap := by omega
  have hb3 : (i : Int) ≤ (xs.length : Int) + 1 := by omega
  have hb6 : (i : Int) ≤ (xs.length : Int) := by omega
  have htn2 : ((xs.length : Int) + 1).toNat = xs.length + 1 := by omega
  clear hg hsz htk hcell hfz hcc hsp hxc hx hdl hcs hcs1 hcl0
  go_enter Try.func48, Try.ntmps48
  go_wp2_with (simp only [hov])
  go_region_law_o (refine copy_step rfl _ _ 27 27 rfl _ _ (by simp [Act.eval, Act.put]) (by simp [Act.eval, Act.put]) (hcp1 _ _ _) ?_)
  go_wp2_with (at_builtin; refine copy_list _ rfl _ _ 27 27 rfl _ _ rfl rfl (hcp2 _ (fun _ => rfl) (fun _ => rfl) _ _) ?_)
  go_ret
  first | exact ⟨rfl, rfl⟩ | exact ⟨rfl, by rw [hW1]⟩
end Go.Proofs.Ytmjcmeebcochgaa
