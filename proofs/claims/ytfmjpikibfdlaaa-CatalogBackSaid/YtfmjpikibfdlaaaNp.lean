/- The statements' own example: alive: the walk. Conditions: none. -/
import Derived.Test.YtfmjpikibfdlaaaNn
import Derived.Test.YtfmjpikibfdlaaaNo
namespace Go.Proofs.Ytfmjpikibfdlaaa
open Go.RowKit Go.Sort Go.Maps
set_option linter.unusedSimpArgs false
set_option linter.unusedVariables false

theorem num_any (n : Int) (w : World) : Calls Try.prog 9 #[.int .i64 n] w fun e w' => e = .returned (.int .i64 n) ∧ w = w' := by
  go_enter Try.func9, Try.ntmps9
  go_wp2
  go_ret
  exact ⟨rfl, rfl⟩
def x0 : Sy.St 0 := ⟨1, ⟨#[116]⟩, [⟨⟨#[97]⟩, 1, false⟩], ⟨#[97]⟩, ⟨#[]⟩, [], [], [], ⟨#[]⟩, [], [], [], [], 0⟩
def h0 (g : Nat) : Sy.Hs := ⟨⟨some ⟨g, 0, none⟩, 1⟩, ⟨none, 0⟩, ⟨none, 0⟩, ⟨none, 0⟩, ⟨none, 0⟩, ⟨none, 0⟩, ⟨none, 0⟩, ⟨none, 0⟩⟩
def t0 : Tb := ⟨⟨#[116]⟩, [⟨⟨#[97]⟩, 1, true⟩], 0, []⟩
theorem cre_alive : creF [] x0 = (0, [t0]) := by kernel_rfl
theorem rd_alive (w : World) (g : Nat) (hg : g = w.heap.size) : Sy.RdSt Sy.Any (w.alloc (.cells #[.string ⟨#[97]⟩, .int .i64 1, .bool false] 63)) x0 (h0 g) := by
  subst hg
  refine ⟨⟨⟨(fun e => by cases e), Nat.le_refl 1, show 1 ≤ 9223372036854775807 by decide⟩, by decide, fun ad e j y hj => ?_⟩, Sy.RdK_nil _ _ _, Sy.RdK_nil _ _ _, Sy.RdK_nil _ _ _, Sy.RdK_nil _ _ _, Sy.RdK_nil _ _ _, Sy.RdK_nil _ _ _, Sy.RdK_nil _ _ _⟩
  injection e with e
  subst e
  match j, hj with
  | 0, hj =>
    injection hj with hj
    subst hj
    refine ⟨trivial, none, 0, fun i v hv => ?_, trivial⟩
    match i, hv with
    | 0, hv => injection hv with hv; subst hv; rw [add_lit, cell_last _ _ _ _ _ rfl]; rfl
    | 1, hv => injection hv with hv; subst hv; rw [add_lit, cell_last _ _ _ _ _ rfl]; rfl
    | 2, hv => injection hv with hv; subst hv; rw [add_lit, cell_last _ _ _ _ _ rfl]; rfl
    | i + 3, hv => cases hv
  | j + 1, hj => cases hj
theorem of_one {xs : List Tr} {t : Tb} (h : xs.map Tr.t = [t]) : ∀ y ∈ xs, y.t = t := fun y hy => by
  have h1 := List.mem_map_of_mem (f := Tr.t) hy
  rw [h] at h1
  simpa using h1
theorem create_0 (w : World) : Calls Try.prog 7 #[.agg #[.slice none 0 0], .agg #[.int .i64 1, .string ⟨#[116]⟩, .slice (some ⟨w.heap.size, 0, none⟩) 1 1, .string ⟨#[97]⟩, .string ⟨#[]⟩, .slice none 0 0, .slice none 0 0, .slice none 0 0, .string ⟨#[]⟩, .slice none 0 0, .slice none 0 0, .slice none 0 0, .slice none 0 0, .int .i64 0]] (w.alloc (.cells #[.string ⟨#[97]⟩, .int .i64 1, .bool false] 63)) (ChgPost (w.alloc (.cells #[.string ⟨#[97]⟩, .int .i64 1, .bool false] 63)) (0, [t0])) := by
  have h := create_any none 0 [] x0 (h0 w.heap.size) (w.alloc (.cells #[.string ⟨#[97]⟩, .int .i64 1, .bool false] 63)) (fun e => absurd rfl e) (by decide) (rd_alive w _ rfl) insOk_zero
  rw [cre_alive] at h
  exact h

set_option maxRecDepth 100000 in
set_option maxHeartbeats 4000000 in
theorem alive_any (w : World) : Calls Try.prog 6 #[] w fun e w' => e = .returned (.bool true) ∧ Below w.heap.size w w' := by
  have HC := Lib.hid (create_0 w)
  have HB1 := Lib.hid (below1 w (.cells #[.string ⟨#[97]⟩, .int .i64 1, .bool false] 63))
  go_enter Try.func6, Try.ntmps6
  go_upto_region 2 with (go_at_call 7; (with_reducible refine HC.out.mono ?_); intro e w2 hp; obtain ⟨v, xs, he, htb, hxs⟩ := hp.2.1 rfl; have hb := thn HB1.out hp.2.2; subst he; have htb2 := htb; obtain ⟨A2, c2, rfl, hrd, _⟩ := htb2.rd (fun y hy => by rw [of_one hxs y hy]; exact ⟨by decide, by decide⟩); rw [hxs] at hrd ⊢; have HRD := Lib.hid hrd; have HB2 := Lib.hid hb; clear hp htb htb2 hxs hrd hb)
  have hb3 := below1 w2 (.cells #[.slice A2 1 c2] 35)
  have HB3 := Lib.hid (thn HB2.out hb3)
  have q0 := cell_of_box (w := w2) (v := .slice A2 1 c2) (T := 35) rfl (Below.refl _ _)
  obtain ⟨ad, e, cA, iA, cc, ic, k0, k1, k2, k3, hT⟩ := (HRD.out.below hb3).at_ (j := 0) (by decide)
  subst e
  obtain ⟨bd, e1, m0, m1, m2⟩ := hT.c.at_ (j := 0) (by decide)
  subst e1
  rw [Nat.zero_mul, add0] at k0 k1 k2 k3 m0 m1 m2
  have k1' : (w2.alloc (.cells #[.slice (some ad) 1 c2] 35)).cell? ⟨ad.block, ad.off + 1, none⟩ = some (.slice (some bd) 1 cc) := k1
  have m2' : (w2.alloc (.cells #[.slice (some ad) 1 c2] 35)).cell? ⟨bd.block, bd.off + 2, none⟩ = some (.bool true) := m2
  clear k0 k1 k2 k3 m0 m1 m2 hT
  go_wp2_with (go_at_call 9; refine (num_any _ _).mono ?_; rintro e w9 ⟨rfl, rfl⟩)
  go_ret
  exact ⟨rfl, HB3.out⟩
end Go.Proofs.Ytfmjpikibfdlaaa
