/- isFirst, without and mayGrow of package version over any chain: the walks. Conditions: chains that are read in memory. -/
import Derived.Test.YtclcidcjeoajaaaVe
import Derived.Laws.EntriesVeiled
import Derived.RegionTactic
import Derived.Deep.RegionWith
namespace Go.Proofs.Ytclcidcjeoajaaa
open Go.RowKit Go.Sort
set_option linter.unusedSimpArgs false
set_option linter.unusedVariables false

theorem Rd.head {w : World} {A : Option Addr} {n c : Nat} {v : Ver} {r : List Ver} (h : Rd w A n c (v :: r)) : ∃ ad, A = some ad ∧ n = r.length + 1 ∧ w.cell? ad = some (.int .i64 v.t) ∧ w.cell? ⟨ad.block, ad.off + 1, none⟩ = some (.int .i64 v.x) ∧ w.cell? ⟨ad.block, ad.off + 2, none⟩ = some (.bool v.g) ∧ w.cell? ⟨ad.block, ad.off + 3, none⟩ = some (.string v.v) := by
  obtain ⟨ad, e, hc⟩ := h.at_ (k := 0) (by simp)
  rw [Nat.zero_mul, add_zero] at hc
  exact ⟨ad, e, by have := h.len; simp at this; omega, hc⟩
set_option maxHeartbeats 1000000 in
theorem isFirst_any (A : Option Addr) (n c : Nat) (l : List Ver) (x : Int) (w : World) (hr : Rd w A n c l) :
    Calls Try.prog 26 #[.slice A n c, .int .i64 x] w fun e w' => e = .returned (.bool (fstB x l)) ∧ Below w.heap.size w w' := by
  cases l with
  | nil =>
    have hn := hr.len
    simp at hn
    subst hn
    go_enter Try.func26, Try.ntmps26
    go_wp2
    go_ret
    exact ⟨rfl, Below.refl _ _⟩
  | cons v r =>
    obtain ⟨ad, rfl, hn, c0, c1, c2, c3⟩ := hr.head
    have hcap := hr.cap
    have hle := hr.le
    have hpos : (0 : Int) < (n : Int) := by omega
    have hpos' : 0 < n := by omega
    have HN := Lib.hid hn
    have HO := Lib.hid fun W => isOpen_any v x W
    clear hr hn
    go_enter Try.func26, Try.ntmps26
    go_wp2_with (go_at_call 22; (with_reducible refine (HO.out _).mono ?_); rintro e w1 ⟨rfl, hb1⟩)
    go_ret
    exact ⟨rfl, hb1⟩
/-- What reads as the chain l. -/
def RdX (l : List Ver) (w : World) (e : Ending) (w' : World) : Prop := ∃ A n c, e = .returned (.slice A n c) ∧ Rd w' A n c l ∧ Below w.heap.size w w'
set_option maxHeartbeats 1000000 in
theorem without_any (A : Option Addr) (n c : Nat) (l : List Ver) (x : Int) (w : World) (hr : Rd w A n c l) :
    Calls Try.prog 28 #[.slice A n c, .int .i64 x] w (RdX (wout x l) w) := by
  have HI := Lib.hid (isFirst_any A n c l x w hr)
  have HR := Lib.hid hr
  have hF : fstB x l = true → 1 ≤ n := fun h => by
    cases l with
    | nil => cases h
    | cons v r => have := hr.len; simp at this; omega
  have hW : wout x l = if fstB x l = true then l.drop 1 else l := rfl
  have HWO := Lib.hid hW
  clear hr hW
  generalize fstB x l = F at *
  cases F
  · clear hF
    go_enter Try.func28, Try.ntmps28
    go_wp2_with (go_at_call 26; (with_reducible refine HI.out.mono ?_); rintro e w1 ⟨rfl, hb1⟩)
    go_ret
    refine ⟨A, n, c, rfl, ?_, hb1⟩
    rw [HWO.out]
    exact HR.out.below hb1
  · have h1 := hF rfl
    clear hF
    have hfr : ∀ w, (Instr.slice 24 (.slice A n c) (some (.int .i64 1)) none none).run Try.prog w = .ok (.slice (cutA A c 1) (n - 1) (c - 1)) w := fun w => fromV A n c 1 h1 w
    go_enter Try.func28, Try.ntmps28
    go_wp2_with (go_at_call 26; (with_reducible refine HI.out.mono ?_); rintro e w1 ⟨rfl, hb1⟩)
    go_ret
    refine ⟨cutA A c 1, n - 1, c - 1, rfl, ?_, hb1⟩
    rw [HWO.out]
    exact (HR.out.below hb1).drop h1
set_option maxHeartbeats 4000000 in
theorem mayGrow_any (A : Option Addr) (n c : Nat) (l : List Ver) (m : Int) (w : World) (hr : Rd w A n c l) (h64 : n ≤ 64) :
    Calls Try.prog 27 #[.slice A n c, .int .i64 m] w fun e w' => e = .returned (.int .i64 (grwE m l)) ∧ Below w.heap.size w w' := by
  cases l with
  | nil =>
    have hn := hr.len
    simp at hn
    subst hn
    go_enter Try.func27, Try.ntmps27
    go_wp2_with fail
    go_quiet (fail)
    go_wp2
    go_ret
    exact ⟨rfl, below_drewN (Below.refl _ _) _⟩
  | cons v r =>
    obtain ⟨ad, rfl, hn, c0, c1, c2, c3⟩ := hr.head
    have hcap := hr.cap
    have hle := hr.le
    have hpos : (0 : Int) < (n : Int) := by omega
    have hpos' : 0 < n := by omega
    have HN := Lib.hid hn
    have HC := Lib.hid fun W => committedBy_any m W
    have HO := Lib.hid fun q W (hq : W.cell? q = some (.int .i64 m)) => isOld_any v m q W hq
    have hE : grwE m (v :: r) = if cmtB m v = true then (if n = 64 then 51 else 0) else 95 := by simp [grwE, hn]
    rw [hE]
    clear hr hn hE
    have hb0 := cell_lt c0
    generalize cmtB m v = B at *
    go_enter Try.func27, Try.ntmps27
    go_wp2_with fail
    have hbW := (Below.refl w.heap.size w).drew
    have hSo : ∀ W', Below w.heap.size w W' → Below w.heap.size w W' ∧ W'.cell? ad = some (.int .i64 v.t) ∧ W'.cell? ⟨ad.block, ad.off + 1, none⟩ = some (.int .i64 v.x) ∧ W'.cell? ⟨ad.block, ad.off + 2, none⟩ = some (.bool v.g) ∧ W'.cell? ⟨ad.block, ad.off + 3, none⟩ = some (.string v.v) := fun W' hb => ⟨hb, cell_keep c0 hb, cell_keep c1 hb, cell_keep c2 hb, cell_keep c3 hb⟩
    go_region_held3 (fun W' => Below w.heap.size w W' ∧ W'.cell? ad = some (.int .i64 v.t) ∧ W'.cell? ⟨ad.block, ad.off + 1, none⟩ = some (.int .i64 v.x) ∧ W'.cell? ⟨ad.block, ad.off + 2, none⟩ = some (.bool v.g) ∧ W'.cell? ⟨ad.block, ad.off + 3, none⟩ = some (.string v.v))
      (first | exact hSo _ hbW | exact hSo _ hq2 | (obtain ⟨s0, _, _, _, _⟩ := ‹Below w.heap.size w _ ∧ _›; exact hSo _ (s0.alloc s0.size _)))
      (first | (go_at_call 17; (with_reducible refine (HC.out _).mono ?_); rintro e w1 ⟨rfl, rfl⟩) | (go_at_call 29; refine (HO.out _ _ (cell_last _ _ _ _ _ (by simp))).mono ?_; rintro e w2 ⟨rfl, hb2⟩; have hq2 : Below w.heap.size w w2 := thn (And.left ‹Below w.heap.size w _ ∧ _›) hb2; clear hb2))
    cases B
    · go_wp2
      go_ret
      exact ⟨rfl, hq2⟩
    · clear c0 c1 c2 c3 hbW hSo
      by_cases h6 : n = 64
      · have h6' : ((n : Int) == 64) = true := by simp; omega
        go_wp2
        go_ret
        exact ⟨ret_int (by simp [h6]), hq2⟩
      · have h6' : ((n : Int) == 64) = false := by simp; omega
        go_wp2
        go_ret
        exact ⟨ret_int (by simp [h6]), hq2⟩
end Go.Proofs.Ytclcidcjeoajaaa
