/- What slices.Insert of one lock makes of a full list of locks in memory of the call's own: the walk. Conditions: a place within the list; at most 600 locks. -/
import Derived.Test.YtmjcmeebcochgaaVg1
namespace Go.Proofs.Ytmjcmeebcochgaa
open Go.RowKit Go.Sort Go.Maps
set_option linter.unusedSimpArgs false
set_option linter.unusedVariables false

/-- No lock. -/
def zA : Value := .agg #[.int .i64 0, .string ⟨#[]⟩, .string ⟨#[]⟩]
theorem zeroT_len (n : Nat) : (Builtin.zeroCells zA.cells n).size = n * 3 := by simp [Builtin.zeroCells, zA, Value.cells]
set_option maxRecDepth 100000 in
set_option maxHeartbeats 4000000 in
theorem insertT_grow (B i g : Nat) (xs : List Lk) (x : Lk) (vb : Nat) (w : World) (hown : w.ownsRow B 34 3 (.slice (some ⟨g, 0, none⟩) xs.length xs.length) xs.length (lks xs)) (hi : i < xs.length) (hn : xs.length ≤ 600)
    (hx : ∀ j u, (lkC x)[j]? = some u → w.cell? ⟨vb, j, none⟩ = some u) :
    Calls Try.prog 48 #[.slice (some ⟨g, 0, none⟩) xs.length xs.length, .int .i64 i, .slice (some ⟨vb, 0, none⟩) 1 1] w fun e w' =>
      e = .returned (.slice (some ⟨w.heap.size, 0, none⟩) (xs.length + 1) (grownCap w (xs.length + 1) xs.length 34)) ∧
      w' = (((w.alloc (.cells (((lks xs).take (i * 3)).toArray ++ Builtin.zeroCells zA.cells (xs.length + 1 - i) ++ Builtin.zeroCells zA.cells (grownCap w (xs.length + 1) xs.length 34 - (xs.length + 1))) 34)).drew.setCells w.heap.size (i * 3) (lkC x)).drew).setCells w.heap.size ((i + 1) * 3) ((lks xs).drop (i * 3)) := by
  obtain ⟨i0, hi0, hz0, hzs, hzb⟩ := info_parts Try.infoV
  have hcl0 := lks_len xs
  obtain ⟨cs, hcs⟩ : ∃ cs, cs = lks xs := ⟨_, rfl⟩
  have hcs1 : ∀ u ∈ cs, u.oneCell' = true := by rw [hcs]; exact lks_one xs
  rw [← hcs] at hown hcl0 ⊢
  have hcc : ∀ j v, cs[j]? = some v → w.cell? ⟨g, j, none⟩ = some v := fun j v hv => by
    have := hown.cells (g := g) rfl j v hv
    rwa [add_lit, Nat.zero_add] at this
  have mixed : Try.prog.follows Departure.mixedOrders = true := by kernel_rfl
  have hz1 : ¬ ((1 : Int) = 0) := by decide
  have hz2 : ¬ ((i : Int) = (xs.length : Int)) := by omega
  have hz3 : (xs.length : Int) < (xs.length : Int) + 1 := by omega
  have hsz : (Try.prog.info? 34).map (·.size) = some 3 := by rw [hi0]; simp [hzs]
  have hbw : g < w.heap.size := cell_lt (hcc 0 _ (List.getElem?_eq_getElem (by omega)))
  have hvw : vb < w.heap.size := cell_lt (hx 0 _ rfl)
  have hkk : (xs.length : Int) + 1 - (i : Int) = ((xs.length + 1 - i : Nat) : Int) := by omega
  have hik : i + (xs.length + 1 - i) = xs.length + 1 := by omega
  have hold : (Builtin.firstCells i0.size i (.slice (some ⟨g, 0, none⟩) i xs.length)).run Try.prog w.drew = .ok (cs.take (i * 3)).toArray w.drew := by
    rw [hzs]
    exact run_firstCells_some w.drew 3 i ⟨g, 0, none⟩ i xs.length (cs.take (i * 3)) (by rw [List.length_take]; omega) (fun j v hj => by
      rw [Addr.add_lit, Nat.zero_add]
      rw [List.getElem?_take] at hj
      split at hj
      · exact hcc j v hj
      · cases hj)
  have hrz : ∀ ty, (Builtin.append_ #[27, 3] ty #[.slice (some ⟨g, 0, none⟩) i xs.length, .int .i64 ((xs.length : Int) + 1 - (i : Int))]).run Try.prog w =
      .ok (.slice (some ⟨w.heap.size, 0, none⟩) (xs.length + 1) (grownCap w (xs.length + 1) xs.length 34)) (w.drew.alloc (.cells ((cs.take (i * 3)).toArray ++ Builtin.zeroCells zA.cells (xs.length + 1 - i) ++ Builtin.zeroCells zA.cells (grownCap w (xs.length + 1) xs.length 34 - (xs.length + 1))) 34)) := fun ty => by
    have h := Lib.run_append_grow_zeros w 27 3 ty 34 i0 _ .i64 .i64 Try.underlying27 Try.underlying3 hi0 hz0 (some ⟨g, 0, none⟩) i xs.length (cs.take (i * 3)) hold (xs.length + 1 - i) (by omega) (by omega) (by omega) (by omega) (by rw [hzb]; omega) (by rw [hzb, hik]; exact growslice_fits (by omega) (by omega))
    rw [hik] at h
    rw [hkk]
    exact h
  obtain ⟨G, hG⟩ : ∃ G, G = grownCap w (xs.length + 1) xs.length 34 := ⟨_, rfl⟩
  obtain ⟨ROW, hROW⟩ : ∃ ROW : Array Value, ROW = (cs.take (i * 3)).toArray ++ Builtin.zeroCells zA.cells (xs.length + 1 - i) ++ Builtin.zeroCells zA.cells (G - (xs.length + 1)) := ⟨_, rfl⟩
  rw [← hG] at hrz ⊢
  rw [← hROW] at hrz ⊢
  have hRl : (xs.length + 1) * 3 ≤ ROW.size := by
    rw [hROW]
    simp only [Array.size_append, List.size_toArray, List.length_take, zeroT_len]
    omega
  obtain ⟨W1, hW1⟩ : ∃ W1, W1 = w.drew.alloc (.cells ROW 34) := ⟨_, rfl⟩
  rw [← hW1] at hrz
  have hN : ∀ j, j < (xs.length + 1) * 3 → (W1.cell? ⟨w.heap.size, j, none⟩).isSome = true := fun j hj => by
    rw [hW1, World.cell?_alloc_at (w := w.drew) ROW _ w.heap.size j rfl, Array.getElem?_eq_getElem (by omega)]; rfl
  have hNf : ∀ j, W1.frozen? ⟨w.heap.size, j, none⟩ = false := fun j => by rw [hW1]; exact World.frozen?_alloc_at (w := w.drew) ROW _ w.heap.size j rfl
  have hOb : ∀ j v, w.cell? ⟨g, j, none⟩ = some v → W1.cell? ⟨g, j, none⟩ = some v := fun j v h => by rw [hW1, World.cell?_alloc_past (w := w.drew) _ g j hbw]; exact h
  have hOv : ∀ j u, (lkC x)[j]? = some u → W1.cell? ⟨vb, j, none⟩ = some u := fun j u h => by rw [hW1, World.cell?_alloc_past (w := w.drew) _ vb j hvw]; exact hx j u h
  have hcpA : ∀ (W : World), (∀ p, W.cell? p = W1.cell? p) → (∀ p, W.frozen? p = W1.frozen? p) → ∀ ty dc, (Builtin.copy_ #[27, 27] ty #[.slice (some ⟨w.heap.size, i * 3, none⟩) (xs.length + 1 - i) dc, .slice (some ⟨vb, 0, none⟩) 1 1]).run Try.prog W = .ok (goInt 1) (W.setCells w.heap.size (i * 3) (lkC x)) := fun W hWc hWf ty dc =>
    run_copyK W _ _ ty 34 3 1 w.heap.size (i * 3) (xs.length + 1 - i) dc ⟨vb, 0, none⟩ 1 1 (lkC x) Try.underlying27 hsz (by simp only [Nat.min_def]; split <;> omega) (by rw [lkC_len])
      (fun j v hj => by rw [Addr.add_lit, Nat.zero_add, hWc]; exact hOv j v hj)
      (fun j hj => by rw [hWc]; exact hN _ (by rw [lkC_len] at hj; omega)) (fun j hj => by rw [hWf]; exact hNf _) (fun v hv => lks_one [x] v (by simpa [lks] using hv))
  have hGn : xs.length + 1 ≤ G := by rw [hG]; exact grownCap_ge w _ _ _
  have hG63 : G ≤ 9223372036854775807 := by
    have := grownCap_le_maxLen w (xs.length + 1) xs.length 34 (by unfold maxLen; omega)
    rw [← hG] at this
    unfold maxLen at this
    omega
  have hGi : ¬ (G = i) := by omega
  have hGim : ¬ (G = i + 1) := by omega
  have hci : ¬ (xs.length = i) := by omega
  have hbN : g ≠ w.heap.size := by omega
  have hdl : (cs.drop (i * 3)).length = (xs.length - i) * 3 := by rw [List.length_drop, hcl0]; omega
  have hcpB : ∀ (W : World), (∀ p, W.cell? p = (W1.setCells w.heap.size (i * 3) (lkC x)).cell? p) → (∀ p, W.frozen? p = (W1.setCells w.heap.size (i * 3) (lkC x)).frozen? p) → ∀ ty dc sc, (Builtin.copy_ #[27, 27] ty #[.slice (some ⟨w.heap.size, (i + 1) * 3, none⟩) (xs.length - i) dc, .slice (some ⟨g, i * 3, none⟩) (xs.length - i) sc]).run Try.prog W = .ok (goInt ((xs.length - i : Nat) : Int)) (W.setCells w.heap.size ((i + 1) * 3) (cs.drop (i * 3))) := fun W hWc hWf ty dc sc =>
    run_copyK W _ _ ty 34 3 (xs.length - i) w.heap.size ((i + 1) * 3) (xs.length - i) dc ⟨g, i * 3, none⟩ (xs.length - i) sc (cs.drop (i * 3)) Try.underlying27 hsz (by simp only [Nat.min_def]; split <;> omega) hdl
      (fun j v hj => by
        rw [Addr.add_lit, hWc, World.cell?_setCells_out _ _ _ _ _ (fun h _ => absurd h hbN)]
        exact hOb _ v (hcc (i * 3 + j) v (by rwa [List.getElem?_drop] at hj)))
      (fun j hj => by rw [hWc]; exact World.isSome_setCells _ _ _ _ _ (hN _ (by omega)))
      (fun j hj => by rw [hWf, World.frozen?_setCells]; exact hNf _) (fun v hv => hcs1 v (List.mem_of_mem_drop hv))
  subst hW1
  have hE1 : ∀ p, ((w.alloc (.cells ROW 34)).drew).cell? p = (w.drew.alloc (.cells ROW 34)).cell? p := fun _ => rfl
  have hE2 : ∀ p, ((w.alloc (.cells ROW 34)).drew).frozen? p = (w.drew.alloc (.cells ROW 34)).frozen? p := fun _ => rfl
  have hF1 : ∀ p, (((w.alloc (.cells ROW 34)).drew.setCells w.heap.size (i * 3) (lkC x)).drew).cell? p = ((w.drew.alloc (.cells ROW 34)).setCells w.heap.size (i * 3) (lkC x)).cell? p := fun _ => rfl
  have hF2 : ∀ p, (((w.alloc (.cells ROW 34)).drew.setCells w.heap.size (i * 3) (lkC x)).drew).frozen? p = ((w.drew.alloc (.cells ROW 34)).setCells w.heap.size (i * 3) (lkC x)).frozen? p := fun _ => rfl
  have hw1 : IntKind.i64.wrap ((i : Int) + 1) = (i : Int) + 1 := by rw [IntKind.wrap_i64]; omega
  have hb1 : (0 : Int) ≤ (i : Int) + 1 := by omega
  have hin : i ≤ xs.length := by omega
  have htn : ((i : Int) + 1).toNat = i + 1 := by omega
  have hb3 : (i : Int) ≤ (xs.length : Int) := by omega
  clear hkk hik hold hROW hG hRl hN hNf hOb hOv hcc hdl hcs hcs1 hcl0 hx
  go_enter Try.func48, Try.ntmps48
  go_wp2_with (first
    | (at_builtin; refine Lib.wpList_append_run _ rfl _ _ _ _ rfl _ _ rfl rfl _ _ (hrz _) ?_)
    | (at_builtin; refine copy_list _ rfl _ _ 27 27 rfl _ _ rfl rfl (hcpA _ hE1 hE2 _ _) ?_))
  go_region_law_o (refine copy_step rfl _ _ 27 27 rfl (.slice (some ⟨w.heap.size, (i + 1) * 3, none⟩) (xs.length - i) (G - (i + 1))) (.slice (some ⟨g, i * 3, none⟩) (xs.length - i) (xs.length - i)) (by simp [Act.eval, Act.put]) (by simp [Act.eval, Act.put]) (hcpB _ hF1 hF2 3 (G - (i + 1)) (xs.length - i)) ?_)
  go_wp2
  go_ret
  exact ⟨rfl, rfl⟩
end Go.Proofs.Ytmjcmeebcochgaa
