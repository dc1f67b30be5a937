/- SyntaxExprs answers true: the walk. Conditions: an expression that is read in memory; the tables that strconv and strings read, as they are laid. -/
import Derived.Test.YtlehmnbigocgdaaDoorUk
import Derived.Lib.QuietBelow
namespace Go.Proofs.YtlehmnbigocgdaaDoor
open Go.RowKit Go.Sort
set_option linter.unusedSimpArgs false
set_option linter.unusedVariables false

theorem wnum_b (n : Int) (w : World) : Calls Tryd.prog 9 #[.int .i64 n] w fun e w' => e = .returned (.int .i64 n) ∧ Below w.heap.size w w' :=
  (wnum_any n w).mono fun e w' ⟨h, hw⟩ => ⟨h, hw ▸ Below.refl _ _⟩
theorem eqX_self {α : Type} (x : α) : eqX x x = true := eqX_iff.2 rfl

set_option maxHeartbeats 4000000 in
set_option maxRecDepth 100000 in
theorem exprs_walk {n : Nat} (x : ExN (Ar n)) (a : Option Addr) (cc : Nat) (w : World) (hr : RdE w n a cc x.l) (he : Env w.heap.size w) :
    Calls Tryd.prog 3 #[x.val a cc] w fun e w' => e = .returned (.bool true) ∧ Below w.heap.size w w' := by
  have hCp := copyExpr_any x a cc (w.alloc (.cells #[.int .i64 x.op, .int .i64 x.v.k, .int .i64 x.v.n, .string x.v.s, .string x.t, .string x.m, .slice a x.l.length cc] 26)) (hr.below (KE_ok n) (below1 w _))
  have HP := Lib.hid fun (a' : Option Addr) (c' : Nat) (w' : World) (hb : Below w.heap.size w w') (h : RdE w' n a' c' x.l) => sPrintExpr_any x a' c' w' h ((he.below hb).mono hb.size)
  have HQ := Lib.hid fun (w' : World) (hb : Below w.heap.size w w') => rPrintExpr_any x a cc w' (RdK.below (KE_ok n) (w := w) hr hb)
  have HC := Lib.hid fun (a' : Option Addr) (c' : Nat) (w' : World) (h : RdE w' n a' c' x.l) => sCheckExpr_any x a' c' w' h
  have HD := Lib.hid fun (w' : World) (hb : Below w.heap.size w w') => rCheckExpr_any x a cc w' (RdK.below (KE_ok n) (w := w) hr hb)
  have HS := Lib.hid fun (a' : Option Addr) (c' : Nat) (w' : World) (hb : Below w.heap.size w w') (h : RdE w' n a' c' x.l) => by
    have h2 := sameExpr_any x x a' a c' cc w' h (RdK.below (KE_ok n) (w := w) hr hb)
    rw [eqX_self] at h2
    exact h2
  have HA := Lib.hid fun (w' : World) (hb : Below w.heap.size w w') => alive_any w.heap.size w' (he.below hb) hb.size
  have HCp := Lib.hid hCp
  clear hCp hr he
  generalize txX x = T at *
  generalize chkX x = E at *
  obtain ⟨op, ⟨k, m, s, hv⟩, t, nm, ls⟩ := x
  unfold ExN.val at HCp HP HQ HC HD HS ⊢
  dsimp only at HCp HP HQ HC HD HS ⊢
  go_enter Tryd.func3, Tryd.ntmps3
  go_upto_region 2 with (go_at_call 6; refine HCp.out.mono ?_; rintro e w1 ⟨a', c', rfl, hrd, hb⟩)
  have hX := heap_keep_alloc (heap1 hb) (.cells #[.int .i64 op, .int .i64 k, .int .i64 m, .string s, .string t, .string nm, .slice a' ls.length c'] 26)
  have hO := heap_alloc_new w1 (.cells #[.int .i64 op, .int .i64 k, .int .i64 m, .string s, .string t, .string nm, .slice a' ls.length c'] 26)
  have hB0 := below_of1 hb
  have hB := hB0.alloc hB0.size (.cells #[.int .i64 op, .int .i64 k, .int .i64 m, .string s, .string t, .string nm, .slice a' ls.length c'] 26)
  have hR : RdE (w1.alloc (.cells #[.int .i64 op, .int .i64 k, .int .i64 m, .string s, .string t, .string nm, .slice a' ls.length c'] 26)) n a' c' ls := (RdK.any (KE_ok n) hrd).below (KE_ok n) (below1 _ _)
  clear hrd hb hB0
  generalize (w1.alloc (.cells #[.int .i64 op, .int .i64 k, .int .i64 m, .string s, .string t, .string nm, .slice a' ls.length c'] 26)) = W at *
  generalize w1.heap.size = g at *
  obtain ⟨o0, o1, o2, o3, o4, o5, o6⟩ := cells7 hO
  have HX := Lib.hid hX
  have HO := Lib.hid hO
  have HB := Lib.hid hB
  have HR := Lib.hid hR
  clear hX hO hB hR
  go_upto_region 3 with (go_at_call 7; refine (HP.out a' c' _ HB.out HR.out).mono ?_; rintro e w2 ⟨rfl, hb⟩)
  replace HX := Lib.hid ((hb.block _ (blk_lt HX.out)).trans HX.out)
  replace HO := Lib.hid ((hb.block _ (blk_lt HO.out)).trans HO.out)
  replace HB := Lib.hid (below_call hb HB.out HB.out.size)
  replace HR := Lib.hid (RdK.below (KE_ok n) HR.out hb)
  clear o0 o1 o2 o3 o4 o5 o6 hb
  obtain ⟨x0, x1, x2, x3, x4, x5, x6⟩ := cells7 HX.out
  go_upto_region 4 with (go_at_call 8; refine (HQ.out _ HB.out).mono ?_; rintro e w3 ⟨rfl, hb⟩)
  replace HX := Lib.hid ((hb.block _ (blk_lt HX.out)).trans HX.out)
  replace HO := Lib.hid ((hb.block _ (blk_lt HO.out)).trans HO.out)
  replace HB := Lib.hid (below_call hb HB.out HB.out.size)
  replace HR := Lib.hid (RdK.below (KE_ok n) HR.out hb)
  clear x0 x1 x2 x3 x4 x5 x6 hb
  obtain ⟨x0, x1, x2, x3, x4, x5, x6⟩ := cells7 HX.out
  obtain ⟨o0, o1, o2, o3, o4, o5, o6⟩ := cells7 HO.out
  have hbr := fun d os => HB.out.trans ((below_regrown w3 d os).mono HB.out.size)
  have hrr := fun d os => RdK.below (KE_ok n) HR.out (below_regrown w3 d os)
  have c10 := fun d os => HC.out a' c' (grow (redrawn w3 d) os) (hrr d os)
  have c11 := fun d os => HD.out (grow (redrawn w3 d) os) (hbr d os)
  have c12 := fun d os => HS.out a' c' (grow (redrawn w3 d) os) (hbr d os) (hrr d os)
  have c13 := fun d os => HA.out (grow (redrawn w3 d) os) (hbr d os)
  have c9 := fun d os => wnum_b E (grow (redrawn w3 d) os)
  clear HC HD HS HA HP HQ HCp hbr hrr
  have y0 := cell_regrown x0
  have y1 := cell_regrown x1
  have y2 := cell_regrown x2
  have y3 := cell_regrown x3
  have y4 := cell_regrown x4
  have y5 := cell_regrown x5
  have y6 := cell_regrown x6
  have z0 := cell_regrown o0
  have z1 := cell_regrown o1
  have z2 := cell_regrown o2
  have z3 := cell_regrown o3
  have z4 := cell_regrown o4
  have z5 := cell_regrown o5
  have z6 := cell_regrown o6
  have hEE : (E == E) = true := by simp
  have hTT : (T.toList == T.toList) = true := by simp
  clear x0 x1 x2 x3 x4 x5 x6 o0 o1 o2 o3 o4 o5 o6
  refine wp_region_quiet_below (by kernel_rfl) (by kernel_rfl) ?_
  repeat (go_big_quiet_step (first | exact Calls.regrown_of (c9 _ _) | exact Calls.regrown_of (c10 _ _) | exact Calls.regrown_of (c11 _ _) | exact Calls.regrown_of (c12 _ _) | exact Calls.regrown_of (c13 _ _)))
  refine wpQuiet_nil ?_
  intro w5 hw5
  obtain ⟨p, rfl⟩ := hw5
  have HB5 := Lib.hid (HB.out.trans ((below_regrown w3 p.d p.os).mono HB.out.size))
  clear c9 c10 c11 c12 c13 y0 y1 y2 y3 y4 y5 y6 z0 z1 z2 z3 z4 z5 z6
  go_wp2_with fail
  go_ret
  exact ⟨rfl, HB5.out⟩
end Go.Proofs.YtlehmnbigocgdaaDoor
