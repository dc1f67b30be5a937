/- A tree read out of a state: the walk of the reader's branch. Conditions: a state that is read in memory, of at most 2048 nodes; a reader in a block of its own. -/
import Derived.Test.YtkpjkglheegmgaaQb
import Derived.Deep.RegionLaw
import Derived.RegionTactic
namespace Go.Proofs.Ytkpjkglheegmgaa
open Go.RowKit
set_option linter.unusedSimpArgs false
set_option linter.unusedVariables false

/-- What reading a node and all below it comes to. -/
def BrPost (R : Option (Tr × Sr)) (deep gr gm : Nat) (A : Option Addr) (n c : Nat) (root : Int) (w : World) (e : Ending) (w' : World) : Prop :=
  match R with
  | none => e = .panicked [{ v := .iface 30 (.int .i64 9), recovered := false }] ∧ Rg gr gm w w'
  | some (t, s') => ∃ (g : Nat) (F : List Nat), e = .returned (ptr g) ∧ RdN (s'.L - deep) w' g t F ∧ (∀ b ∈ F, w.heap.size ≤ b) ∧ F.Nodup ∧ Rdr w' gr gm A n c root s' ∧ Rg gr gm w w'
/-- What is so whenever a node is to be read. -/
structure Ask (nodes : List Nd) (root : Int) (f deep : Nat) (a : Int) (s : Sr) : Prop where
  fine : Fine nodes.length s
  fuel : nodes.length ≤ f + s.M.length
  root : (deep = 1 ∧ a = root) ∨ (1 < deep ∧ 0 ≤ root ∧ root.toNat ∈ s.M)
  deep : 1 ≤ deep ∧ deep ≤ s.M.length + 1
  p : s.p ≤ 2048
  wf : -9223372036854775808 ≤ a ∧ a ≤ 9223372036854775807
theorem rd_none {nodes : List Nd} {f : Nat} {lo hi : Bd} {deep : Nat} {a : Int} {s : Sr} (h : ∀ x, 0 ≤ a → nodes[a.toNat]? = some x → a.toNat ∉ s.M → Formed deep x → Holds lo hi x.ks → 0 < f → False) : rd nodes f lo hi deep a s = none := by
  cases f with
  | zero => rw [rd]
  | succ f =>
    cases hr : rd nodes (f + 1) lo hi deep a s with
    | none => rfl
    | some r =>
      obtain ⟨h1, x, h2, h3, h4, h5, _⟩ := rd_some.1 hr
      exact (h x h1 h2 h3 h4 h5 (by omega)).elim
theorem Ask.least {nodes : List Nd} {root : Int} {f deep : Nat} {a : Int} {s : Sr} (h : Ask nodes root f deep a s) (ha : 0 ≤ a) (hm : a.toNat ∉ s.M) : (if ((a.toNat : Nat) : Int) = root then 1 else 2) = least deep := by
  unfold Proofs.Ytkpjkglheegmgaa.least
  rcases h.root with ⟨h1, h2⟩ | ⟨h1, h2, h3⟩
  · rw [if_pos (by omega), if_pos h1]
  · rw [if_neg, if_neg (by omega)]
    intro e
    apply hm
    have : a.toNat = root.toNat := by omega
    rw [this]; exact h3
/-- What does not depend on how a node is met. -/
theorem BrPost.no {R : Option (Tr × Sr)} (h : R = none) {deep gr gm n c : Nat} {A : Option Addr} {root : Int} {w w' : World} (hg : Rg gr gm w w') : BrPost R deep gr gm A n c root w (.panicked [{ v := .iface 30 (.int .i64 9), recovered := false }]) w' := by
  subst h; exact ⟨rfl, hg⟩
theorem BrPost.yes {R : Option (Tr × Sr)} {t : Tr} {s' : Sr} (h : R = some (t, s')) {deep gr gm n c g : Nat} {F : List Nat} {A : Option Addr} {root : Int} {w w' : World} (h1 : RdN (s'.L - deep) w' g t F) (h2 : ∀ b ∈ F, w.heap.size ≤ b) (h3 : F.Nodup) (h4 : Rdr w' gr gm A n c root s') (hg : Rg gr gm w w') : BrPost R deep gr gm A n c root w (.returned (ptr g)) w' := by
  subst h; exact ⟨g, F, rfl, h1, h2, h3, h4, hg⟩

set_option maxRecDepth 100000 in
set_option maxHeartbeats 4000000 in
/-- A node that is none, or was met. -/
theorem branch_out (nodes : List Nd) (gr gm n c deep : Nat) (A : Option Addr) (root : Int) (lo hi : Bd) (a : Int) (s : Sr) (w : World) (R : Option (Tr × Sr)) (hR : Rdr w gr gm A n c root s) (hS : RdS w A n nodes) (hno : R = none) (ho : (a < 0 ∨ (n : Int) ≤ a) ∨ (∃ i : Nat, a = i ∧ i < n ∧ i ∈ s.M)) :
    Calls Try.prog 58 #[ptr gr, .int .i64 a, spanV lo hi, .int .i64 deep] w (BrPost R deep gr gm A n c root w) := by
  have hB := below1 w (.cells #[.string (bs lo), .string (bs hi), .bool hi.isSome] 111)
  have hR1 := hR.below hB
  have hm : Calls Try.prog 69 #[ptr gr, .int .i64 a] (w.alloc (.cells #[.string (bs lo), .string (bs hi), .bool hi.isSome] 111)) fun e w' => e = .panicked [{ v := .iface 30 (.int .i64 9), recovered := false }] ∧ Rg gr gm (w.alloc (.cells #[.string (bs lo), .string (bs hi), .bool hi.isSome] 111)) w' := by
    rcases ho with ho | ⟨i, rfl, hi, hm⟩
    · exact meet_out gr gm n c A root s a _ hR1 hS.max ho
    · exact meet_again gr gm n c i A root s _ hR1 hS.max hi hm
  have HB := Lib.hid (Rg.of_below (gr := gr) (gm := gm) hB)
  have HNO := Lib.hid hno
  clear hR hR1 hS hno ho hB
  go_enter Try.func58, Try.ntmps58
  go_wp2_with (go_at_call 69; refine hm.mono ?_; rintro e w1 ⟨rfl, hG⟩)
  exact ⟨rfl, BrPost.no HNO.out (HB.out.trans hG)⟩
set_option maxRecDepth 100000 in
set_option maxHeartbeats 4000000 in
/-- A node that is not formed, or whose keys do not rise within their span. -/
theorem branch_bad (nodes : List Nd) (gr gm n c deep i : Nat) (A : Option Addr) (root : Int) (lo hi : Bd) (s : Sr) (x : Nd) (w w0 : World) (R : Option (Tr × Sr)) (hR : Rdr w gr gm A n c root s) (hS : Base w0 gr gm A n nodes w) (hno : R = none) (hx : nodes[i]? = some x) (hm : i ∉ s.M) (hM : s.M.length ≤ 1000000)
    (hl : (if (i : Int) = root then 1 else 2) = least deep) (hbad : ¬ (Formed deep x ∧ Holds lo hi x.ks)) :
    Calls Try.prog 58 #[ptr gr, .int .i64 i, spanV lo hi, .int .i64 deep] w (BrPost R deep gr gm A n c root w) := by
  have hB := below1 w (.cells #[.string (bs lo), .string (bs hi), .bool hi.isSome] 111)
  have hR1 := hR.below hB
  have hS1 := hS.to (Rg.of_below hB)
  have hme := meet_new gr gm n c i A root s nodes x _ w0 hR1 hS1 hx hm hM
  have HX := Lib.hid (World.cell?_alloc_mark w #[.string (bs lo), .string (bs hi), .bool hi.isSome] 111 (0, 0))
  have HB := Lib.hid (Rg.of_below (gr := gr) (gm := gm) hB)
  have HNO := Lib.hid hno
  have HBAD := Lib.hid hbad
  have HL := Lib.hid hl
  have HGX := Lib.hid hx
  have HS := Lib.hid hS1
  have hwr := hR.lt
  have hR0 := hR1
  clear hR hR1 hS hS1 hno hbad hl hx hm
  cases hfo : formB (least deep) x.ks.length x.vs.length x.kids.length
  · have HFO := Lib.hid hfo
    clear hfo
    go_enter Try.func58, Try.ntmps58
    go_wp2_with (first
      | (go_at_call 69; (with_reducible refine hme.mono ?_); rintro e w1 ⟨h, rfl, hk, hv, hc, hr1, hg1⟩; have HR1 := Lib.hid hr1; have HG1 := Lib.hid hg1; have HIF := Lib.hid (isFormed_any gr gm n c i A root _ nodes x _ (hr1.below (below1 w1 (.cells #[.slice h.kA x.ks.length h.kc, .slice h.vA x.vs.length h.vc, .slice h.cA x.kids.length h.cc] 66))) ((HS.out.to hg1).to (Rg.of_below (below1 w1 (.cells #[.slice h.kA x.ks.length h.kc, .slice h.vA x.vs.length h.vc, .slice h.cA x.kids.length h.cc] 66)))).rd HGX.out); clear hr1 hg1 hk hv hc)
      | (go_at_call 70; (with_reducible refine HIF.out.mono ?_); rintro e w2 ⟨rfl, hb2⟩; have HB2 := Lib.hid hb2; clear hb2; rw [HL.out, HFO.out])
      | (go_at_call 57; (with_reducible refine (must_no _).mono ?_); rintro e w3 ⟨rfl, rfl⟩))
    exact ⟨rfl, BrPost.no HNO.out (HB.out.trans (HG1.out.trans ((Rg.of_below (below1 _ _)).trans (Rg.of_below HB2.out))))⟩
  · have HFO := Lib.hid hfo
    have hho : holdsB lo hi x.ks = false := holdsB_no fun h => HBAD.out ⟨formB_iff.1 hfo, h⟩
    have HHO := Lib.hid hho
    have HR0 := Lib.hid hR0
    have HBL := Lib.hid (heap_alloc_new w (.cells #[.string (bs lo), .string (bs hi), .bool hi.isSome] 111))
    have hzw : w.heap.size ≠ gr ∧ w.heap.size ≠ gm := ⟨by omega, by omega⟩
    clear hfo hho hR0
    go_enter Try.func58, Try.ntmps58
    go_wp2_with (first
      | (go_at_call 69; (with_reducible refine hme.mono ?_); rintro e w1 ⟨h, rfl, hk, hv, hc, hr1, hg1⟩; have HR1 := Lib.hid hr1; have HG1 := Lib.hid hg1; have HBL1 := Lib.hid ((hg1.block w.heap.size (by simp) hzw.1 hzw.2).trans HBL.out); have HK1 := Lib.hid (hk.below (HS.out.to hg1).bel); have HIF := Lib.hid (isFormed_any gr gm n c i A root _ nodes x _ (hr1.below (below1 w1 (.cells #[.slice h.kA x.ks.length h.kc, .slice h.vA x.vs.length h.vc, .slice h.cA x.kids.length h.cc] 66))) ((HS.out.to hg1).to (Rg.of_below (below1 w1 (.cells #[.slice h.kA x.ks.length h.kc, .slice h.vA x.vs.length h.vc, .slice h.cA x.kids.length h.cc] 66)))).rd HGX.out); clear hr1 hg1 hk hv hc)
      | (go_at_call 70; (with_reducible refine HIF.out.mono ?_); rintro e w2 ⟨rfl, hb2⟩; have HB2 := Lib.hid hb2; rw [HL.out, HFO.out]; obtain ⟨x0, x1, x2, _, _, _⟩ := three_of ((hb2.block w.heap.size (by have := heap_lt HBL1.out; simp; omega)).trans ((Below.heap_alloc w1 _ w.heap.size (heap_lt HBL1.out)).trans HBL1.out)); obtain ⟨y0, y1, y2, _, _, _⟩ := three_of ((hb2.block w1.heap.size (by simp)).trans (heap_alloc_new w1 (.cells #[.slice h.kA x.ks.length h.kc, .slice h.vA x.vs.length h.vc, .slice h.cA x.kids.length h.cc] 66))); have HH := Lib.hid (holds_any lo hi h.kA x.ks.length h.kc x.ks w2 rfl ((HK1.out.below (below1 _ _)).below hb2) (by have := HK1.out.le; have := HK1.out.cap; omega)); clear hb2)
      | (go_at_call 71; (with_reducible refine HH.out.mono ?_); rintro e w4 ⟨rfl, hb4⟩; have HB4 := Lib.hid hb4; clear hb4; rw [HHO.out])
      | (go_at_call 57; (with_reducible refine (must_no _).mono ?_); rintro e w3 ⟨rfl, rfl⟩))
    exact ⟨rfl, BrPost.no HNO.out (HB.out.trans (HG1.out.trans ((Rg.of_below (below1 _ _)).trans ((Rg.of_below HB2.out).trans (Rg.of_below HB4.out)))))⟩
end Go.Proofs.Ytkpjkglheegmgaa
