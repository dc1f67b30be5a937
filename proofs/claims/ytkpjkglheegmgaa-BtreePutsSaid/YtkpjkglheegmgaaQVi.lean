/- A tree read out of a state: the walk of the reader's branch, where a node is formed. Conditions: a state that is read in memory, of at most 2048 nodes; a reader in a block of its own. -/
import Derived.Test.YtkpjkglheegmgaaQVh
import Derived.Laws.OwnMore
namespace Go.Proofs.Ytkpjkglheegmgaa
open Go.RowKit
set_option linter.unusedSimpArgs false
set_option linter.unusedVariables false

/-- m addresses that are nil. -/
def nils (m : Nat) : Array Value := (List.replicate m (.pointer none)).toArray
theorem run_nils (m : Nat) (hm : m ≤ 1000000) (W : World) : (Instr.makeSlice 97 (.int .i64 (m : Int)) (.int .i64 (m : Int))).run Try.prog W = .ok (.slice (some ⟨W.heap.size, 0, none⟩) m m) (W.alloc (.cells (nils m) 67)) := by
  obtain ⟨i0, hi, hz0, hz1, hz2⟩ := info_parts Try.infoB
  have h := run_make (P := Try.prog) W 97 67 i0 (.pointer none) Try.underlying97 hi hz0 .i64 .i64 (m : Int) (m : Int) (by omega) (Int.le_refl _) (by rw [hz2]; omega) (by omega)
  simp only [Int.toNat_natCast, hz1, Nat.mul_one] at h
  have e : madeCells (Value.pointer none).cells m = nils m := by
    have : madeCells (Value.pointer none).cells m = madeCells #[.pointer none] m := rfl
    rw [this, ← Array.toList_inj, toList_madeCells_one]
    rfl
  rw [h, e]
set_option maxRecDepth 100000 in
set_option maxHeartbeats 4000000 in
/-- A leaf that stands elsewhere than the others, or of too many pairs. -/
theorem branch_leaf_no (nodes : List Nd) (gr gm n c deep i : Nat) (A : Option Addr) (root : Int) (lo hi : Bd) (s : Sr) (x : Nd) (w w0 : World) (R : Option (Tr × Sr)) (hR : Rdr w gr gm A n c root s) (hS : Base w0 gr gm A n nodes w) (hx : nodes[i]? = some x) (hm : i ∉ s.M) (hM : s.M.length ≤ 1000000)
    (hl : (if (i : Int) = root then 1 else 2) = least deep) (hgood : Formed deep x ∧ Holds lo hi x.ks) (hd : 1 ≤ deep ∧ deep ≤ 1000000) (hp : s.p ≤ 2048) (hkids : x.kids = []) (hbad : (s.L ≠ 0 ∧ s.L ≠ deep) ∨ 2048 < s.p + x.ks.length) (hno : R = none) :
    Calls Try.prog 58 #[ptr gr, .int .i64 i, spanV lo hi, .int .i64 deep] w (BrPost R deep gr gm A n c root w) := by
  have hB := below1 w (.cells #[.string (bs lo), .string (bs hi), .bool hi.isSome] 111)
  have hR1 := hR.below hB
  have hS1 := hS.to (Rg.of_below hB)
  have hme := meet_new gr gm n c i A root s nodes x _ w0 hR1 hS1 hx hm hM
  have HB := Lib.hid (Rg.of_below (gr := gr) (gm := gm) hB)
  have HL := Lib.hid hl
  have HGX := Lib.hid hx
  have HS := Lib.hid hS1
  have HFO := Lib.hid (formB_iff.2 hgood.1)
  have HHO := Lib.hid (holdsB_yes hgood.2)
  have HGOOD := Lib.hid hgood
  have HR0 := Lib.hid hR1
  have HBL := Lib.hid (heap_alloc_new w (.cells #[.string (bs lo), .string (bs hi), .bool hi.isSome] 111))
  have hwr := hR.lt
  have hzw : w.heap.size ≠ gr ∧ w.heap.size ≠ gm := ⟨by omega, by omega⟩
  obtain ⟨hd1, hd2⟩ := hd
  have hk4 : x.ks.length ≤ 4 := hgood.1.2.1
  have HKI := Lib.hid hkids
  have HNO := Lib.hid hno
  have HBAD := Lib.hid hbad
  have hl0 : x.kids.length = 0 := by rw [hkids]; rfl
  have hmk := run_nils x.kids.length (by omega)
  clear hl0
  have hkz : ((x.kids.length : Int) == 0) = true := by rw [hkids]; rfl
  clear hR hR1 hS hS1 hl hx hm hgood hkids hno hbad
  go_enter Try.func58, Try.ntmps58
  go_wp2_with (first
      | (go_at_call 69; (with_reducible refine hme.mono ?_); rintro e w1 ⟨h, rfl, hk, hv, hc, hr1, hg1⟩; have HR1 := Lib.hid hr1; have HG1 := Lib.hid hg1; have HBL1 := Lib.hid ((hg1.block w.heap.size (by simp) hzw.1 hzw.2).trans HBL.out); have HK1 := Lib.hid (hk.below (HS.out.to hg1).bel); have HV1 := Lib.hid (hv.below (HS.out.to hg1).bel);  have HIF := Lib.hid (isFormed_any gr gm n c i A root _ nodes x _ (hr1.below (below1 w1 (.cells #[.slice h.kA x.ks.length h.kc, .slice h.vA x.vs.length h.vc, .slice h.cA x.kids.length h.cc] 66))) ((HS.out.to hg1).to (Rg.of_below (below1 w1 (.cells #[.slice h.kA x.ks.length h.kc, .slice h.vA x.vs.length h.vc, .slice h.cA x.kids.length h.cc] 66)))).rd HGX.out); clear hr1 hg1 hk hv hc)
      | (go_at_call 70; (with_reducible refine HIF.out.mono ?_); rintro e w2 ⟨rfl, hb2⟩; have HB2 := Lib.hid hb2; rw [HL.out, HFO.out]; have HXB2 := Lib.hid ((hb2.block w.heap.size (by have := heap_lt HBL1.out; simp; omega)).trans ((Below.heap_alloc w1 _ w.heap.size (heap_lt HBL1.out)).trans HBL1.out)); have HNB2 := Lib.hid ((hb2.block w1.heap.size (by simp)).trans (heap_alloc_new w1 (.cells #[.slice h.kA x.ks.length h.kc, .slice h.vA x.vs.length h.vc, .slice h.cA x.kids.length h.cc] 66))); obtain ⟨x0, x1, x2, _, _, _⟩ := three_of HXB2.out; obtain ⟨y0, y1, y2, _, _, _⟩ := three_of HNB2.out; have HK2 := Lib.hid ((HK1.out.below (below1 _ _)).below hb2); have HV2 := Lib.hid ((HV1.out.below (below1 _ _)).below hb2);  have HR2 := Lib.hid ((HR1.out.below (below1 w1 (.cells #[.slice h.kA x.ks.length h.kc, .slice h.vA x.vs.length h.vc, .slice h.cA x.kids.length h.cc] 66))).below hb2); have HG2 := Lib.hid (HB.out.trans (HG1.out.trans ((Rg.of_below (below1 _ _)).trans (Rg.of_below hb2)))); have HH := Lib.hid (holds_any lo hi h.kA x.ks.length h.kc x.ks w2 rfl HK2.out (by have := HK1.out.le; have := HK1.out.cap; omega)); have hz2 := heap_lt HNB2.out; have hz1 := heap_lt HBL1.out; clear hb2)
      | (go_at_call 71; (with_reducible refine HH.out.mono ?_); rintro e w4 ⟨rfl, hb4⟩; clear x0 x1 x2 y0 y1 y2; have HB4 := Lib.hid hb4; have HXB4 := Lib.hid ((hb4.block w.heap.size (by omega)).trans HXB2.out); have HNB4 := Lib.hid ((hb4.block w1.heap.size hz2).trans HNB2.out); obtain ⟨x0, x1, x2, _, _, _⟩ := three_of HXB4.out; obtain ⟨y0, y1, y2, _, _, _⟩ := three_of HNB4.out; have HK4 := Lib.hid (HK2.out.below hb4); have HV4 := Lib.hid (HV2.out.below hb4);  have HR4 := Lib.hid (HR2.out.below hb4); have HG4 := Lib.hid (HG2.out.trans (Rg.of_below hb4)); have hz4 := heap_lt HNB4.out; clear hb4 HB4 HXB2 HNB2 HK2 HV2 HR2 HG2 HH; rw [HHO.out])
      | (go_at_call 57; (with_reducible refine (must_yes _).mono ?_); rintro e w3 ⟨rfl, rfl⟩)
      | (go_at_call 72; (with_reducible refine (leaf_bad gr gm n c x.ks.length deep A root ⟨i :: s.M, s.p, s.L⟩ _ HR4.out HBAD.out (by omega) (by show s.p ≤ _; omega) hd1 hd2).mono ?_); rintro e w5 ⟨rfl, hg5⟩; have HG5 := Lib.hid hg5; clear hg5))
  exact ⟨rfl, BrPost.no HNO.out (HG4.out.trans HG5.out)⟩
set_option maxRecDepth 100000 in
set_option maxHeartbeats 4000000 in
/-- A leaf. -/
theorem branch_leaf (nodes : List Nd) (gr gm n c deep i : Nat) (A : Option Addr) (root : Int) (lo hi : Bd) (s : Sr) (x : Nd) (w w0 : World) (R : Option (Tr × Sr)) (hR : Rdr w gr gm A n c root s) (hS : Base w0 gr gm A n nodes w) (hx : nodes[i]? = some x) (hm : i ∉ s.M) (hM : s.M.length ≤ 1000000)
    (hl : (if (i : Int) = root then 1 else 2) = least deep) (hgood : Formed deep x ∧ Holds lo hi x.ks) (hd : 1 ≤ deep ∧ deep ≤ 1000000) (hp : s.p ≤ 2048) (hkids : x.kids = []) (hL : s.L = 0 ∨ s.L = deep) (hpk : s.p + x.ks.length ≤ 2048) (hyes : R = some (.mk x.ks x.vs [], ⟨i :: s.M, s.p + x.ks.length, deep⟩)) :
    Calls Try.prog 58 #[ptr gr, .int .i64 i, spanV lo hi, .int .i64 deep] w (BrPost R deep gr gm A n c root w) := by
  have hB := below1 w (.cells #[.string (bs lo), .string (bs hi), .bool hi.isSome] 111)
  have hR1 := hR.below hB
  have hS1 := hS.to (Rg.of_below hB)
  have hme := meet_new gr gm n c i A root s nodes x _ w0 hR1 hS1 hx hm hM
  have HB := Lib.hid (Rg.of_below (gr := gr) (gm := gm) hB)
  have HL := Lib.hid hl
  have HGX := Lib.hid hx
  have HS := Lib.hid hS1
  have HFO := Lib.hid (formB_iff.2 hgood.1)
  have HHO := Lib.hid (holdsB_yes hgood.2)
  have HGOOD := Lib.hid hgood
  have HR0 := Lib.hid hR1
  have HBL := Lib.hid (heap_alloc_new w (.cells #[.string (bs lo), .string (bs hi), .bool hi.isSome] 111))
  have hwr := hR.lt
  have hzw : w.heap.size ≠ gr ∧ w.heap.size ≠ gm := ⟨by omega, by omega⟩
  obtain ⟨hd1, hd2⟩ := hd
  have hk4 : x.ks.length ≤ 4 := hgood.1.2.1
  have HKI := Lib.hid hkids
  have HYES := Lib.hid hyes
  have HLL := Lib.hid hL
  have hl0 : x.kids.length = 0 := by rw [hkids]; rfl
  have hmk := run_nils x.kids.length (by omega)
  clear hl0
  have hkz : ((x.kids.length : Int) == 0) = true := by rw [hkids]; rfl
  clear hR hR1 hS hS1 hl hx hm hgood hkids hyes hL
  go_enter Try.func58, Try.ntmps58
  go_wp2_with (first
      | (go_at_call 69; (with_reducible refine hme.mono ?_); rintro e w1 ⟨h, rfl, hk, hv, hc, hr1, hg1⟩; have HR1 := Lib.hid hr1; have HG1 := Lib.hid hg1; have HBL1 := Lib.hid ((hg1.block w.heap.size (by simp) hzw.1 hzw.2).trans HBL.out); have HK1 := Lib.hid (hk.below (HS.out.to hg1).bel); have HV1 := Lib.hid (hv.below (HS.out.to hg1).bel);  have HIF := Lib.hid (isFormed_any gr gm n c i A root _ nodes x _ (hr1.below (below1 w1 (.cells #[.slice h.kA x.ks.length h.kc, .slice h.vA x.vs.length h.vc, .slice h.cA x.kids.length h.cc] 66))) ((HS.out.to hg1).to (Rg.of_below (below1 w1 (.cells #[.slice h.kA x.ks.length h.kc, .slice h.vA x.vs.length h.vc, .slice h.cA x.kids.length h.cc] 66)))).rd HGX.out); clear hr1 hg1 hk hv hc)
      | (go_at_call 70; (with_reducible refine HIF.out.mono ?_); rintro e w2 ⟨rfl, hb2⟩; have HB2 := Lib.hid hb2; rw [HL.out, HFO.out]; have HXB2 := Lib.hid ((hb2.block w.heap.size (by have := heap_lt HBL1.out; simp; omega)).trans ((Below.heap_alloc w1 _ w.heap.size (heap_lt HBL1.out)).trans HBL1.out)); have HNB2 := Lib.hid ((hb2.block w1.heap.size (by simp)).trans (heap_alloc_new w1 (.cells #[.slice h.kA x.ks.length h.kc, .slice h.vA x.vs.length h.vc, .slice h.cA x.kids.length h.cc] 66))); obtain ⟨x0, x1, x2, _, _, _⟩ := three_of HXB2.out; obtain ⟨y0, y1, y2, _, _, _⟩ := three_of HNB2.out; have HK2 := Lib.hid ((HK1.out.below (below1 _ _)).below hb2); have HV2 := Lib.hid ((HV1.out.below (below1 _ _)).below hb2);  have HR2 := Lib.hid ((HR1.out.below (below1 w1 (.cells #[.slice h.kA x.ks.length h.kc, .slice h.vA x.vs.length h.vc, .slice h.cA x.kids.length h.cc] 66))).below hb2); have HG2 := Lib.hid (HB.out.trans (HG1.out.trans ((Rg.of_below (below1 _ _)).trans (Rg.of_below hb2)))); have HH := Lib.hid (holds_any lo hi h.kA x.ks.length h.kc x.ks w2 rfl HK2.out (by have := HK1.out.le; have := HK1.out.cap; omega)); have hz2 := heap_lt HNB2.out; have hz1 := heap_lt HBL1.out; clear hb2)
      | (go_at_call 71; (with_reducible refine HH.out.mono ?_); rintro e w4 ⟨rfl, hb4⟩; clear x0 x1 x2 y0 y1 y2; have HB4 := Lib.hid hb4; have HXB4 := Lib.hid ((hb4.block w.heap.size (by omega)).trans HXB2.out); have HNB4 := Lib.hid ((hb4.block w1.heap.size hz2).trans HNB2.out); obtain ⟨x0, x1, x2, _, _, _⟩ := three_of HXB4.out; obtain ⟨y0, y1, y2, _, _, _⟩ := three_of HNB4.out; have HK4 := Lib.hid (HK2.out.below hb4); have HV4 := Lib.hid (HV2.out.below hb4);  have HR4 := Lib.hid (HR2.out.below hb4); have HG4 := Lib.hid (HG2.out.trans (Rg.of_below hb4)); have hz4 := heap_lt HNB4.out; clear hb4 HB4 HXB2 HNB2 HK2 HV2 HR2 HG2 HH; rw [HHO.out])
      | (go_at_call 57; (with_reducible refine (must_yes _).mono ?_); rintro e w3 ⟨rfl, rfl⟩)
      | (go_at_call 72; (with_reducible refine (leaf_ok gr gm n c x.ks.length deep A root ⟨i :: s.M, s.p, s.L⟩ _ HR4.out HLL.out hpk hd1 hd2).mono ?_); rintro e w5 ⟨rfl, hr5, hg5⟩; have HG5 := Lib.hid (HG4.out.trans hg5); have HR5 := Lib.hid hr5; have HNB5 := Lib.hid ((hg5.block w1.heap.size hz4 (by omega) (by omega)).trans HNB4.out); have HK5 := Lib.hid (HK4.out.kv (strs_firm _) (hg5.kv HR4.out)); have HV5 := Lib.hid (HV4.out.kv (strs_firm _) (hg5.kv HR4.out)); clear hr5 hg5 x0 x1 x2 y0 y1 y2; obtain ⟨y0, y1, y2, _, _, _⟩ := three_of HNB5.out; have hz5 := heap_lt HNB5.out))
  go_region
  have hb6 : Below w5.heap.size w5 ((w5.alloc (.cells (nils x.kids.length) 67)).alloc (.cells #[.slice h.kA x.ks.length h.kc, .slice h.vA x.vs.length h.vc, .slice (some ⟨w5.heap.size, 0, none⟩) x.kids.length x.kids.length] 99)).drew := (below2 w5 _ _).drew
  have hg6 : ((w5.alloc (.cells (nils x.kids.length) 67)).alloc (.cells #[.slice h.kA x.ks.length h.kc, .slice h.vA x.vs.length h.vc, .slice (some ⟨w5.heap.size, 0, none⟩) x.kids.length x.kids.length] 99)).drew.heap[w5.heap.size + 1]? = some (.cells #[.slice h.kA x.ks.length h.kc, .slice h.vA x.vs.length h.vc, .slice (some ⟨w5.heap.size, 0, none⟩) x.kids.length x.kids.length] 99 (0, 0)) := by
    have := heap_alloc_new (w5.alloc (.cells (nils x.kids.length) 67)) (.cells #[.slice h.kA x.ks.length h.kc, .slice h.vA x.vs.length h.vc, .slice (some ⟨w5.heap.size, 0, none⟩) x.kids.length x.kids.length] 99)
    rw [World.size_alloc] at this
    exact this
  have HB6 := Lib.hid hb6
  have HG6 := Lib.hid hg6
  clear hb6 hg6 y0 y1 y2 hmk
  generalize ((w5.alloc (.cells (nils x.kids.length) 67)).alloc (.cells #[.slice h.kA x.ks.length h.kc, .slice h.vA x.vs.length h.vc, .slice (some ⟨w5.heap.size, 0, none⟩) x.kids.length x.kids.length] 99)).drew = w6 at HB6 HG6 ⊢
  obtain ⟨y0, y1, y2, _, _, _⟩ := three_of ((HB6.out.block w1.heap.size hz5).trans HNB5.out)
  have hmx : ((x.kids.length : Nat) : Int) ≤ 0 := by rw [HKI.out]; simp
  go_wp2
  refine wp_loop_rounds 1 ?_
  rw [rounds_succ]
  go_wp2
  go_ret
  have hl0 : x.kids.length = 0 := by rw [HKI.out]; rfl
  have hg := HG6.out
  rw [hl0] at hg
  refine BrPost.yes (F := [w5.heap.size + 1]) HYES.out ?_ ?_ (by simp) (HR5.out.below HB6.out) (HG5.out.trans (Rg.of_below HB6.out))
  · show RdN (deep - deep) w6 (w5.heap.size + 1) (.mk x.ks x.vs []) [w5.heap.size + 1]
    rw [Nat.sub_self]
    exact ⟨rfl, rfl, ⟨h.kA, h.kc, h.vA, h.vc, some ⟨w5.heap.size, 0, none⟩, 0⟩, ⟨hg, HK5.out.below HB6.out, HV5.out.below HB6.out, ⟨rfl, by simp, by simp, (fun e => by cases e), fun ad e j u hj => by simp [ptrs] at hj⟩⟩⟩
  · intro b hb
    simp at hb
    have := HG5.out.size
    omega
end Go.Proofs.Ytkpjkglheegmgaa
