/- What inOrder of package lock answers for any two locks: the walk. Conditions: texts that every machine keeps. -/
import Derived.Test.YtmjcmeebcochgaaVa
import Derived.Laws.EntriesVeiled
import Derived.RegionTactic
import Derived.Deep.RegionWith
namespace Go.Proofs.Ytmjcmeebcochgaa
open Go.RowKit
set_option linter.unusedSimpArgs false
set_option linter.unusedVariables false

set_option maxHeartbeats 8000000 in
theorem inOrder_any (a b : Lk) (w : World) :
    Calls Try.prog 42 #[.agg #[.int .i64 a.t, .string a.lo.s, .string a.hi.s], .agg #[.int .i64 b.t, .string b.lo.s, .string b.hi.s]] w fun e w' => e = .returned (.int .i64 (inOrd a b)) ∧ Below w.heap.size w w' := by
  have H1 := Lib.hid fun W => cmpI_any a.t b.t W
  have H2 := Lib.hid fun W => cmpS_any a.lo b.lo W
  have H3 := Lib.hid fun W => order_any a.hi b.hi W
  have HI : Hid (inOrd a b = if ordI a.t b.t ≠ 0 then ordI a.t b.t else if ordK a.lo b.lo ≠ 0 then ordK a.lo b.lo else ordE a.hi b.hi) := Lib.hid rfl
  generalize ordI a.t b.t = x at *
  generalize ordK a.lo b.lo = y at *
  generalize ordE a.hi b.hi = z at *
  rw [HI.out]
  clear HI
  have HR := Lib.hid fun W (p : Addr) h0 h1 h2 => or_any x y z p W h0 h1 h2
  generalize (if x ≠ 0 then x else if y ≠ 0 then y else z) = R at *
  have b0 := below2 w (.cells #[.int .i64 a.t, .string a.lo.s, .string a.hi.s] 34) (.cells #[.int .i64 b.t, .string b.lo.s, .string b.hi.s] 34)
  have HB0 := Lib.hid b0
  clear b0
  go_enter Try.func42, Try.ntmps42
  go_upto_region 1 with fail
  have hk := below1 (w.alloc (.cells #[.int .i64 a.t, .string a.lo.s, .string a.hi.s] 34)) (.cells #[.int .i64 b.t, .string b.lo.s, .string b.hi.s] 34)
  have a0 := cell_keep (cell_last w #[.int .i64 a.t, .string a.lo.s, .string a.hi.s] 34 w.heap.size 0 rfl) hk
  have a1 := cell_keep (cell_last w #[.int .i64 a.t, .string a.lo.s, .string a.hi.s] 34 w.heap.size 1 rfl) hk
  have a2 := cell_keep (cell_last w #[.int .i64 a.t, .string a.lo.s, .string a.hi.s] 34 w.heap.size 2 rfl) hk
  have e1 : (w.alloc (.cells #[.int .i64 a.t, .string a.lo.s, .string a.hi.s] 34)).heap.size = w.heap.size + 1 := by simp
  have b0 := cell_last (w.alloc (.cells #[.int .i64 a.t, .string a.lo.s, .string a.hi.s] 34)) #[.int .i64 b.t, .string b.lo.s, .string b.hi.s] 34 (w.heap.size + 1) 0 e1.symm
  have b1 := cell_last (w.alloc (.cells #[.int .i64 a.t, .string a.lo.s, .string a.hi.s] 34)) #[.int .i64 b.t, .string b.lo.s, .string b.hi.s] 34 (w.heap.size + 1) 1 e1.symm
  have b2 := cell_last (w.alloc (.cells #[.int .i64 a.t, .string a.lo.s, .string a.hi.s] 34)) #[.int .i64 b.t, .string b.lo.s, .string b.hi.s] 34 (w.heap.size + 1) 2 e1.symm
  have hs : ((w.alloc (.cells #[.int .i64 a.t, .string a.lo.s, .string a.hi.s] 34)).alloc (.cells #[.int .i64 b.t, .string b.lo.s, .string b.hi.s] 34)).heap.size = w.heap.size + 2 := by simp
  clear hk
  generalize (w.alloc (.cells #[.int .i64 a.t, .string a.lo.s, .string a.hi.s] 34)).alloc (.cells #[.int .i64 b.t, .string b.lo.s, .string b.hi.s] 34) = W1 at *
  clear e1
  have hSo : ∀ W', Below W1.heap.size W1 W' → Below W1.heap.size W1 W' ∧ W'.cell? ⟨w.heap.size, 0, none⟩ = some (.int .i64 a.t) ∧ W'.cell? ⟨w.heap.size, 1, none⟩ = some (.string a.lo.s) ∧ W'.cell? ⟨w.heap.size, 2, none⟩ = some (.string a.hi.s) ∧ W'.cell? ⟨w.heap.size + 1, 0, none⟩ = some (.int .i64 b.t) ∧ W'.cell? ⟨w.heap.size + 1, 1, none⟩ = some (.string b.lo.s) ∧ W'.cell? ⟨w.heap.size + 1, 2, none⟩ = some (.string b.hi.s) := fun W' hb => ⟨hb, cell_keep a0 hb, cell_keep a1 hb, cell_keep a2 hb, cell_keep b0 hb, cell_keep b1 hb, cell_keep b2 hb⟩
  have hbW := (Below.refl W1.heap.size W1).drew
  have hN : ∀ o v, (#[Value.int .i64 x, Value.int .i64 y, Value.int .i64 z] : Array Value)[o]? = some v → (W1.alloc (.cells #[.int .i64 x, .int .i64 y, .int .i64 z] 3)).drew.cell? ⟨w.heap.size + 2, o, none⟩ = some v := fun o v h => (cell_last W1 _ _ _ o hs.symm).trans h
  have HR2 := Lib.hid (HR.out _ _ (hN 0 _ rfl) (hN 1 _ rfl) (hN 2 _ rfl))
  clear hN
  clear a0 a1 a2 b0 b1 b2
  go_region_held3 (fun W' => Below W1.heap.size W1 W' ∧ W'.cell? ⟨w.heap.size, 0, none⟩ = some (.int .i64 a.t) ∧ W'.cell? ⟨w.heap.size, 1, none⟩ = some (.string a.lo.s) ∧ W'.cell? ⟨w.heap.size, 2, none⟩ = some (.string a.hi.s) ∧ W'.cell? ⟨w.heap.size + 1, 0, none⟩ = some (.int .i64 b.t) ∧ W'.cell? ⟨w.heap.size + 1, 1, none⟩ = some (.string b.lo.s) ∧ W'.cell? ⟨w.heap.size + 1, 2, none⟩ = some (.string b.hi.s))
    (first | exact hSo _ hbW | exact hSo _ hq2 | assumption | (obtain ⟨s0, _⟩ := ‹Below W1.heap.size W1 _ ∧ _›; exact hSo _ (s0.alloc s0.size _)))
    (first | (go_at_call 54; (with_reducible refine (H1.out _).mono ?_); rintro e w1 ⟨rfl, rfl⟩) | (go_at_call 55; (with_reducible refine (H2.out _).mono ?_); rintro e w1 ⟨rfl, rfl⟩) | (go_at_call 45; (with_reducible refine (H3.out _).mono ?_); rintro e w1 ⟨rfl, rfl⟩) | (go_at_call 53; (with_reducible refine HR2.out.mono ?_); rintro e w2 ⟨rfl, hb2⟩; have hq2 : Below W1.heap.size W1 w2 := thn (And.left ‹Below W1.heap.size W1 _ ∧ _›) hb2; clear hb2))
  go_wp2
  go_ret
  exact ⟨rfl, HB0.out.trans (hq2.mono HB0.out.size)⟩
end Go.Proofs.Ytmjcmeebcochgaa
