/- A new root where the old one is too wide, the only kid where it has one: the walk of root. Conditions: a tree that is read in memory. -/
import Derived.Test.YtkpjkglheegmgaaQWa
import Derived.BigRegion
/- A kid cut in two: the walk of split where the kid is a leaf. Conditions: nodes that are read in memory. -/
namespace Go.Proofs.Ytkpjkglheegmgaa
open Go.RowKit
set_option linter.unusedSimpArgs false
set_option linter.unusedVariables false

theorem strs_ins (l : List Key) (i : Nat) (x : Key) : strs (ins1 l i x) = ins1 (strs l) i (.string x.s) := by simp [strs, ins1, List.map_take, List.map_drop]
theorem ptrs_ins (l : List Nat) (i : Nat) (x : Nat) : ptrs (ins1 l i x) = ins1 (ptrs l) i (ptr x) := by simp [ptrs, ins1, List.map_take, List.map_drop]
/-- What split leaves: the parent at g, the kid at gl, a new node. -/
def SplitPost (w w' : World) (g gl i : Nat) (p t : Tr) (gs gs2 : List Nat) : Prop :=
  ∃ gr h1 h2 h3, w.heap.size ≤ gr ∧ RdB w' g (splitT p i) (ins1 gs (i + 1) gr) h1 ∧ RdB w' gl (cutL t) (gs2.take (mid t + 1)) h2 ∧ RdB w' gr (cutR t) (gs2.drop (mid t + 1)) h3 ∧ Fr (fun b => b = g ∨ b = gl) w w'

set_option maxRecDepth 100000 in
set_option maxHeartbeats 1000000 in
theorem split_leaf (g gl i : Nat) (p t : Tr) (gs gs2 : List Nat) (h h2 : Hd) (w : World) (hb : RdB w g p gs h) (hb2 : RdB w gl t [] h2) (hne : g ≠ gl) (hi : p.cs[i]? = some t) (hg : gs[i]? = some gl) (hil : i ≤ p.ks.length) (hpk : p.ks.length ≤ 1000) (hpc : p.cs.length ≤ 1000)
    (htk : t.ks.length ≤ 1000) (ht0 : 1 ≤ t.ks.length) (hv : t.vs.length = t.ks.length) (hc : t.cs = []) :
    Calls Try.prog 51 #[ptr g, .int .i64 i] w fun e w' => e = .returned (.tuple #[]) ∧ SplitPost w w' g gl i p t gs [] := by
  obtain ⟨c0, c1, c2⟩ := hb.cells
  obtain ⟨d0, d1, d2⟩ := hb2.cells
  have hic : i < p.cs.length := (List.getElem?_eq_some_iff.1 hi).1
  obtain ⟨ad, ha, q0⟩ := hb.c.at_ (show (ptrs gs)[i]? = some (ptr gl) by simp [ptrs, hg])
  have hm : mid t < t.ks.length := by unfold mid; omega
  have hm2 : mid t = t.ks.length / 2 := rfl
  obtain ⟨ad2, ha2, q1⟩ := hb2.k.at_ (strs_at hm)
  have hcut : cutK t = t.ks[mid t] := by unfold cutK; rw [List.getD_eq_getElem?_getD, List.getElem?_eq_getElem hm]; rfl
  rw [← hcut] at q1
  have HST := Lib.hid fun (W : World) (gr : Nat) (X : Hd) (hX : RdB W g (.mk (ins1 p.ks i (cutK t)) p.vs (ins1 (p.cs.set i (cutL t)) (i + 1) (cutR t))) (ins1 gs (i + 1) gr) X) => show RdB W g (splitT p i) (ins1 gs (i + 1) gr) X by unfold splitT; rw [hi]; exact hX
  have HLT := Lib.hid fun (W : World) (X : Hd) (hX : RdB W gl (.mk (t.ks.take (mid t)) (t.vs.take (mid t)) t.cs) [] X) => show RdB W gl (cutL t) (([] : List Nat).take (mid t + 1)) X by unfold cutL; rw [List.take_nil]; exact hX.same rfl rfl (by rw [hc]; rfl)
  have HRT := Lib.hid fun (W : World) (gr0 : Nat) (X : Hd) (hX : RdB W gr0 (.mk (t.ks.drop (mid t)) (t.vs.drop (mid t)) []) [] X) => show RdB W gr0 (cutR t) (([] : List Nat).drop (mid t + 1)) X by unfold cutR; rw [hc, List.drop_nil]; exact hX
  have HB := Lib.hid hb
  have HB2 := Lib.hid hb2
  rw [ha] at c2
  rw [ha2] at d0
  have hlt1 := hb.lt
  have hlt2 := hb2.lt
  have hlt3 := cell_lt q0
  have hlt4 := cell_lt q1
  rw [add_block] at hlt3 hlt4
  clear hb hb2 hcut
  have hlf := fun (W : World) (hw : RdB W gl t [] h2) => isLeaf_any gl t [] h2 W hw
  go_enter Try.func51, Try.ntmps51
  go_upto_region 2 with fail
  rw [show ((t.ks.length : Int) / 2) = ((mid t : Nat) : Int) by omega]
  have HW : Below w.heap.size w (w.alloc (.cells #[.slice none 0 0, .slice none 0 0, .slice none 0 0] 99)) := below1 _ _
  have HN := Lib.hid (RdB.new w)
  have HG := Lib.hid (HB.out.below HW)
  have HL := Lib.hid (HB2.out.below HW)
  have HF := Lib.hid (Fr.of_below (S := fun b => b = g ∨ b = gl) HW)
  have n1 : g ≠ w.heap.size := by omega
  have n2 : gl ≠ w.heap.size := by omega
  have q1' := cell_keep q1 HW
  have hmi : ((mid t : Nat) : Int) < (t.ks.length : Int) := by omega
  clear HW q0 q1 c0 c1 c2 d0 d1 d2 hlt1 hlt2 hlt3 hlt4 hi hg ha hm2 HB HB2
  generalize hgr : w.heap.size = gr at HN n1 n2 ⊢
  generalize w.alloc (.cells #[.slice none 0 0, .slice none 0 0, .slice none 0 0] 99) = W0 at HN HG HL HF q1' ⊢
  obtain ⟨c0, c1, c2⟩ := HG.out.cells
  obtain ⟨d0, d1, d2⟩ := HL.out.cells
  obtain ⟨e0, e1, e2⟩ := HN.out.cells
  rw [ha2] at d0
  have hlfc := hlf _ HL.out
  rw [hc] at hlfc
  go_upto_region 4 with (first | (go_at_call 47; (with_reducible refine hlfc.mono ?_); rintro e w1 ⟨rfl, rfl⟩))
  clear hlf hlfc q1'
  have hmc : (mid t : Int) ≤ (h2.kc : Int) := by have := HL.out.k.le; omega
  have hmv : (mid t : Int) ≤ (t.vs.length : Int) := by omega
  have hmw : (mid t : Int) ≤ (h2.vc : Int) := by have := HL.out.v.le; omega
  have es1 := fun w => run_from (t := 55) Try.underlying55 (size_of Try.infoS) (some ad2) t.ks.length h2.kc (mid t) (by omega) w
  have HKD := Lib.hid ((ha2 ▸ HL.out.k).drop (k := mid t) (by omega))
  have HKT := Lib.hid ((ha2 ▸ HL.out.k).take (k := mid t) (by omega))
  have HVD := Lib.hid (HL.out.v.drop (k := mid t) (by omega))
  have HVT := Lib.hid (HL.out.v.take (k := mid t) (by omega))
  rw [strs_drop] at HKD HVD
  rw [strs_take] at HKT HVT
  generalize cutA (some ad2) h2.kc (mid t) = BK at es1 HKD
  unfold cutA at HVD
  rw [hv] at HVD
  have fr0 := HN.out.free 0
  go_upto_region 5 with (first | (rw [es1]))
  have HN1 := Lib.hid (HN.out.setK HKD.out)
  have hs1 := Fr.set (.slice BK (t.ks.length - mid t) (h2.kc - mid t)) HN.out.cells.1 rfl
  have HG1 := Lib.hid (HG.out.fr hs1 n1)
  have HL1 := Lib.hid (HL.out.fr hs1 n2)
  have HF1 := Lib.hid (HF.out.trans hs1 fun x hx hl => by omega)
  have HKT1 := Lib.hid (HKT.out.kv (strs_firm _) hs1.kv)
  have HVT1 := Lib.hid (HVT.out.kv (strs_firm _) hs1.kv)
  have HVD1 := Lib.hid (HVD.out.kv (strs_firm _) hs1.kv)
  clear c0 c1 c2 d0 d1 d2 e0 e1 e2 fr0 HN HG HL HF HKD HKT HVD HVT hs1 es1
  generalize W0.setCell ⟨gr, 0, none⟩ (.slice BK (t.ks.length - mid t) (h2.kc - mid t)) = W1 at HN1 HG1 HL1 HF1 HKT1 HVT1 HVD1 ⊢
  obtain ⟨c0, c1, c2⟩ := HG1.out.cells
  obtain ⟨d0, d1, d2⟩ := HL1.out.cells
  obtain ⟨e0, e1, e2⟩ := HN1.out.cells
  have fr0 := HN1.out.free 1
  have fr1 := HL1.out.free 1
  go_region
  have hs2 := Fr.set (.slice h2.vA (mid t) h2.vc) HL1.out.cells.2.1 rfl
  have hN2 := HN1.out.fr hs2 (Ne.symm n2)
  have HVD2 := HVD1.out.kv (strs_firm _) hs2.kv
  generalize (if h2.vc = mid t then h2.vA else Option.map (fun x => x.add (mid t)) h2.vA) = BV at HVD1 HVD2 ⊢
  have hs3 := Fr.set (.slice BV (t.ks.length - mid t) (h2.vc - mid t)) hN2.cells.2.1 rfl
  have HN3 := Lib.hid ((hN2.setV HVD2).below (Below.refl _ _).drew)
  have HL3 := Lib.hid (((HL1.out.setV HVT1.out).fr hs3 n2).below (Below.refl _ _).drew)
  have HG3 := Lib.hid (((HG1.out.fr hs2 hne).fr hs3 n1).below (Below.refl _ _).drew)
  have HF3 := Lib.hid (((HF1.out.trans hs2 fun x hx hl => .inr hx).trans hs3 fun x hx hl => by omega).drew)
  have HKT3 := Lib.hid (((HKT1.out.kv (strs_firm _) hs2.kv).kv (strs_firm _) hs3.kv).below (Below.refl _ _).drew)
  clear c0 c1 c2 d0 d1 d2 e0 e1 e2 fr0 fr1 HN1 HG1 HL1 HF1 HKT1 HVT1 HVD1 hN2 HVD2 hs2 hs3
  rw [← ha2] at HKT3
  clear ha2
  generalize World.drew _ = W3 at HN3 HG3 HL3 HF3 HKT3 ⊢
  obtain ⟨c0, c1, c2⟩ := HG3.out.cells
  obtain ⟨d0, d1, d2⟩ := HL3.out.cells
  obtain ⟨e0, e1, e2⟩ := HN3.out.cells
  have fr0 := HL3.out.free 0
  go_upto_region 9 with fail
  have hs4 := Fr.set (.slice h2.kA (mid t) h2.kc) HL3.out.cells.1 rfl
  have HG4 := Lib.hid (HG3.out.fr hs4 hne)
  have HL4 := Lib.hid (HL3.out.setK HKT3.out)
  have HN4 := Lib.hid (HN3.out.fr hs4 (Ne.symm n2))
  have HF4 := Lib.hid (HF3.out.trans hs4 fun x hx hl => .inr hx)
  clear c0 c1 c2 d0 d1 d2 e0 e1 e2 fr0 HN3 HG3 HL3 HF3 HKT3 hs4
  generalize World.setCell _ _ _ = W4 at HG4 HL4 HN4 HF4 ⊢
  obtain ⟨c0, c1, c2⟩ := HG4.out.cells
  have HCS := Lib.hid fun (W : World) (hw : Below W4.heap.size W4 W) => insS_any h.kA p.ks.length h.kc i (strs p.ks) (cutK t) W (HG4.out.below hw).k (strs_one _) (by omega) hil
  have HCB := Lib.hid fun (W : World) (hw : Below W4.heap.size W4 W) => insB_any h.cA p.cs.length h.cc (i + 1) (ptrs gs) gr W (HG4.out.below hw).c (ptrs_one _) (by omega) hic
  push_cast at HCB
  have hw1 : IntKind.i64.wrap ((i : Int) + 1) = (i : Int) + 1 := IntWalk.i64_in _ (by omega)
  refine region_anyT (fun w' => w'.cell? ⟨g, 0, none⟩ = some (.slice h.kA p.ks.length h.kc) ∧ w'.cell? ⟨g, 2, none⟩ = some (.slice h.cA p.cs.length h.cc)) [5, 8, 12] (by kernel_rfl) ⟨c0, c2⟩ ?_
  intro hcl hS
  clear c0 c1 c2
  refine anyT_free (i := 0) (v := ?v0) rfl (by kernel_rfl) (by kernel_rfl) (by kernel_rfl) (by kernel_rfl) (fun _ _ _ h => h) (Or.inl ⟨by rfl, ?hy0⟩) hcl ?rest0
  case hy0 => intro w' _; go_simp; with_reducible rfl
  clear hcl
  intro hcl
  try simp only [Act.put, List.setIfInBounds_toArray, List.set_cons_zero, List.set_cons_succ]
  refine anyT_free (i := 1) (v := ?v1) rfl (by kernel_rfl) (by kernel_rfl) (by kernel_rfl) (by kernel_rfl) (fun _ _ _ h => h) (Or.inl ⟨by rfl, ?hy1⟩) hcl ?rest1
  case hy1 => intro w' _; go_simp; with_reducible rfl
  clear hcl
  intro hcl
  try simp only [Act.put, List.setIfInBounds_toArray, List.set_cons_zero, List.set_cons_succ]
  refine anyT_free (i := 2) (v := ?v2) rfl (by kernel_rfl) (by kernel_rfl) (by kernel_rfl) (by kernel_rfl) (fun _ _ _ h => h) (Or.inl ⟨by rfl, ?hy2⟩) hcl ?rest2
  case hy2 => intro w' _; go_simp; with_reducible rfl
  clear hcl
  intro hcl
  try simp only [Act.put, List.setIfInBounds_toArray, List.set_cons_zero, List.set_cons_succ]
  refine anyT_free (i := 3) (v := ?v3) rfl (by kernel_rfl) (by kernel_rfl) (by kernel_rfl) (by kernel_rfl) (fun _ _ _ h => h) (Or.inl ⟨by rfl, ?hy3⟩) hcl ?rest3
  case hy3 => intro w' _; go_simp; with_reducible rfl
  clear hcl
  intro hcl
  try simp only [Act.put, List.setIfInBounds_toArray, List.set_cons_zero, List.set_cons_succ]
  refine anyT_free (i := 4) (v := ?v4) rfl (by kernel_rfl) (by kernel_rfl) (by kernel_rfl) (by kernel_rfl) (fun _ _ _ h => h) (Or.inl ⟨by rfl, ?hy4⟩) hcl ?rest4
  case hy4 => intro w' _; go_simp; with_reducible rfl
  clear hcl
  intro hcl
  try simp only [Act.put, List.setIfInBounds_toArray, List.set_cons_zero, List.set_cons_succ]
  refine anyT_free (i := 6) (v := ?v6) rfl (by kernel_rfl) (by kernel_rfl) (by kernel_rfl) (by kernel_rfl) (fun _ _ _ h => h) (Or.inl ⟨by rfl, ?hy6⟩) hcl ?rest6
  case hy6 => intro w' _; go_simp; with_reducible rfl
  clear hcl
  intro hcl
  try simp only [Act.put, List.setIfInBounds_toArray, List.set_cons_zero, List.set_cons_succ]
  refine anyT_free (i := 7) (v := ?v7) rfl (by kernel_rfl) (by kernel_rfl) (by kernel_rfl) (by kernel_rfl) (fun _ _ _ h => h) (Or.inl ⟨by rfl, ?hy7⟩) hcl ?rest7
  case hy7 => intro w' _; go_simp; with_reducible rfl
  clear hcl
  intro hcl
  try simp only [Act.put, List.setIfInBounds_toArray, List.set_cons_zero, List.set_cons_succ]
  refine anyT_free (i := 9) (v := ?v9) rfl (by kernel_rfl) (by kernel_rfl) (by kernel_rfl) (by kernel_rfl) (fun _ _ _ h => h) (Or.inl ⟨by rfl, ?hy9⟩) hcl ?rest9
  case hy9 => intro w' _; go_simp; with_reducible rfl
  clear hcl
  intro hcl
  try simp only [Act.put, List.setIfInBounds_toArray, List.set_cons_zero, List.set_cons_succ]
  refine anyT_free (i := 10) (v := ?v10) rfl (by kernel_rfl) (by kernel_rfl) (by kernel_rfl) (by kernel_rfl) (fun _ _ _ h => h) (Or.inl ⟨by rfl, ?hy10⟩) hcl ?rest10
  case hy10 => intro w' _; go_simp; with_reducible rfl
  clear hcl
  intro hcl
  try simp only [Act.put, List.setIfInBounds_toArray, List.set_cons_zero, List.set_cons_succ]
  refine anyT_free (i := 11) (v := ?v11) rfl (by kernel_rfl) (by kernel_rfl) (by kernel_rfl) (by kernel_rfl) (fun _ _ _ h => h) (Or.inl ⟨by rfl, ?hy11⟩) hcl ?rest11
  case hy11 => intro w' _; go_simp; with_reducible rfl
  clear hcl
  intro hcl
  try simp only [Act.put, List.setIfInBounds_toArray, List.set_cons_zero, List.set_cons_succ]
  refine anyT_free (i := 13) (v := ?v13) rfl (by kernel_rfl) (by kernel_rfl) (by kernel_rfl) (by kernel_rfl) (fun _ _ _ h => h) (Or.inl ⟨by rfl, ?hy13⟩) hcl ?rest13
  case hy13 => intro w' _; go_simp; with_reducible rfl
  clear hcl
  intro hcl
  try simp only [Act.put, List.setIfInBounds_toArray, List.set_cons_zero, List.set_cons_succ]
  refine anyT_free (i := 14) (v := ?v14) rfl (by kernel_rfl) (by kernel_rfl) (by kernel_rfl) (by kernel_rfl) (fun _ _ _ h => h) (Or.inl ⟨by rfl, ?hy14⟩) hcl ?rest14
  case hy14 => intro w' _; go_simp; with_reducible rfl
  clear hcl
  intro hcl
  try simp only [Act.put, List.setIfInBounds_toArray, List.set_cons_zero, List.set_cons_succ]
  refine anyT_free (i := 15) (v := ?v15) rfl (by kernel_rfl) (by kernel_rfl) (by kernel_rfl) (by kernel_rfl) (fun _ _ _ h => h) (Or.inl ⟨by rfl, ?hy15⟩) hcl ?rest15
  case hy15 => intro w' _; go_simp; with_reducible rfl
  clear hcl
  intro hcl
  try simp only [Act.put, List.setIfInBounds_toArray, List.set_cons_zero, List.set_cons_succ]
  refine anyT_take (i := 5) (v := .slice h.kA p.ks.length h.kc) rfl (by kernel_rfl) (by kernel_rfl) (by kernel_rfl) (by kernel_rfl) (fun _ _ _ h => h) (Or.inl ⟨by rfl, ?hy5⟩) hS hcl ?rest5
  case hy5 => intro w' hSw; obtain ⟨q0, q2⟩ := hSw; go_simp; try rfl
  clear hcl
  intro hcl
  try simp only [Act.put, List.setIfInBounds_toArray, List.set_cons_zero, List.set_cons_succ]
  refine anyT_take (i := 12) (v := .slice h.cA p.cs.length h.cc) rfl (by kernel_rfl) (by kernel_rfl) (by kernel_rfl) (by kernel_rfl) (fun _ _ _ h => h) (Or.inl ⟨by rfl, ?hy12⟩) hS hcl ?rest12
  case hy12 => intro w' hSw; obtain ⟨q0, q2⟩ := hSw; go_simp; try rfl
  clear hcl
  intro hcl
  try simp only [Act.put, List.setIfInBounds_toArray, List.set_cons_zero, List.set_cons_succ]
  refine anyT_step (k := 8) rfl (by kernel_rfl) hcl ?_
  intro K hK
  go_simp
  go_at_call 63
  (with_reducible refine (HCS.out _ (Below.refl _ _).drew).mono ?_)
  rintro e w1 ⟨v1, rfl, hO1, hB1⟩
  obtain ⟨A1, n1c, rfl, hR1⟩ := Rd.of_own hO1
  have HB1 := Lib.hid (show Below W4.heap.size W4 w1 from (Below.refl _ _).drew.trans hB1)
  have HR1 := Lib.hid hR1
  clear hO1 hB1 hR1 hS hcl
  refine hK.out _ _ (by obtain ⟨c0, c1, c2⟩ := (HG4.out.below HB1.out).cells; exact ⟨c0, c2⟩) (fun hS hcl => ?_)
  clear hK K hS
  try simp only [Act.put, List.setIfInBounds_toArray, List.set_cons_zero, List.set_cons_succ]
  refine anyT_last (k := 16) rfl (by kernel_rfl) (by kernel_rfl) hcl ?_
  intro K hK
  go_simp
  go_at_call 64
  (with_reducible refine (HCB.out _ HB1.out).mono ?_)
  rintro e w2 ⟨v2, rfl, hO2, hB2⟩
  obtain ⟨A2, n2c, rfl, hR2⟩ := Rd.of_own hO2
  have hB := HB1.out.trans (hB2.mono HB1.out.size)
  have hR1 := HR1.out.below hB2
  have hG := HG4.out.below hB
  have HL5 := Lib.hid (HL4.out.below hB)
  have HN5 := Lib.hid (HN4.out.below hB)
  have HF5 := Lib.hid (HF4.out.thn hB)
  clear hO2 hB2 hcl HB1 HR1 HCS HCB hw1
  have HK5 := Lib.hid hR1
  have HC5 := Lib.hid hR2
  have HG5 := Lib.hid hG
  obtain ⟨c0, c1, c2⟩ := hG.cells
  have fr0 := hG.free 0
  have fr2 := hG.free 2
  clear hR1 hR2 hG hB
  refine hK.out _ _ (fun hcl => ?_)
  clear hK K
  try simp only [Act.put, List.setIfInBounds_toArray, List.set_cons_zero, List.set_cons_succ]
  refine anyT_free (i := 17) (v := ?v17) rfl (by kernel_rfl) (by kernel_rfl) (by kernel_rfl) (by kernel_rfl) (fun _ _ _ h => h) (Or.inl ⟨by rfl, ?hy17⟩) hcl ?rest17
  case hy17 => intro w' _; go_simp; with_reducible rfl
  clear hcl
  intro hcl
  try simp only [Act.put, List.setIfInBounds_toArray, List.set_cons_zero, List.set_cons_succ]
  refine anyT_free (i := 18) (v := ?v18) rfl (by kernel_rfl) (by kernel_rfl) (by kernel_rfl) (by kernel_rfl) (fun _ _ _ h => h) (Or.inl ⟨by rfl, ?hy18⟩) hcl ?rest18
  case hy18 => intro w' _; go_simp; with_reducible rfl
  clear hcl
  intro hcl
  try simp only [Act.put, List.setIfInBounds_toArray, List.set_cons_zero, List.set_cons_succ]
  refine anyT_last (k := 19) rfl (by kernel_rfl) (by kernel_rfl) hcl ?_
  intro K hK
  go_simp
  clear hcl
  have hs5 := Fr.set (.slice A1 (p.ks.length + 1) n1c) HG5.out.cells.1 rfl
  have HG6 := Lib.hid (HG5.out.setK (ks := ins1 p.ks i (cutK t)) (by rw [strs_ins]; exact HK5.out))
  have HC6 := Lib.hid (HC5.out.kv (fun u hu => ptrs_firm (ins1 gs (i + 1) gr) u (by rw [ptrs_ins]; exact hu)) hs5.kv)
  have HL6 := Lib.hid (HL5.out.fr hs5 (Ne.symm hne))
  have HN6 := Lib.hid (HN5.out.fr hs5 (Ne.symm n1))
  have HF6 := Lib.hid (HF5.out.trans hs5 fun x hx hl => .inl hx)
  clear HK5 HC5 HL5 HN5 HF5 HG5 hs5 fr0 fr2 c0 c1 c2 HG4 HL4 HN4 HF4
  generalize World.setCell _ _ _ = W6 at HG6 HC6 HL6 HN6 HF6 hK ⊢
  obtain ⟨c0, c1, c2⟩ := HG6.out.cells
  have fr2 := HG6.out.free 2
  refine hK.out _ _ (fun hcl => ?_)
  clear hK K
  try simp only [Act.put, List.setIfInBounds_toArray, List.set_cons_zero, List.set_cons_succ]
  refine anyT_free (i := 20) (v := ?v20) rfl (by kernel_rfl) (by kernel_rfl) (by kernel_rfl) (by kernel_rfl) (fun _ _ _ h => h) (Or.inl ⟨by rfl, ?hy20⟩) hcl ?rest20
  case hy20 => intro w' _; go_simp; with_reducible rfl
  clear hcl
  intro hcl
  try simp only [Act.put, List.setIfInBounds_toArray, List.set_cons_zero, List.set_cons_succ]
  refine anyT_free (i := 21) (v := ?v21) rfl (by kernel_rfl) (by kernel_rfl) (by kernel_rfl) (by kernel_rfl) (fun _ _ _ h => h) (Or.inl ⟨by rfl, ?hy21⟩) hcl ?rest21
  case hy21 => intro w' _; go_simp; with_reducible rfl
  clear hcl
  intro hcl
  try simp only [Act.put, List.setIfInBounds_toArray, List.set_cons_zero, List.set_cons_succ]
  refine anyT_last (k := 22) rfl (by kernel_rfl) (by kernel_rfl) hcl ?_
  intro K hK
  go_simp
  clear hcl
  have hs7 := Fr.set (.slice A2 (p.cs.length + 1) n2c) HG6.out.cells.2.2 rfl
  have HG7 := Lib.hid (HG6.out.setC (gs' := ins1 gs (i + 1) gr) (by rw [ptrs_ins]; exact HC6.out) (ins1 (p.cs.set i (cutL t)) (i + 1) (cutR t)) (by rw [ins1_len, List.length_set]))
  have HL7 := Lib.hid (HL6.out.fr hs7 (Ne.symm hne))
  have HN7 := Lib.hid (HN6.out.fr hs7 (Ne.symm n1))
  have HF7 := Lib.hid (HF6.out.trans hs7 fun x hx hl => .inl hx)
  refine hK.out _ _ (fun hcl => ?_)
  clear hK K
  refine anyT_done (by kernel_rfl) ?_ _
  go_simp
  exact bodyPost_end (v := .tuple #[]) (by simp [results, Try.results51, go_sem]) rfl ⟨rfl, gr, _, _, _, Nat.le_of_eq hgr, HST.out _ _ _ HG7.out, HLT.out _ _ HL7.out, HRT.out _ _ _ HN7.out, HF7.out⟩
end Go.Proofs.Ytkpjkglheegmgaa
/- A kid cut in two: the walk of split where the kid has kids. Conditions: nodes that are read in memory. -/
namespace Go.Proofs.Ytkpjkglheegmgaa
open Go.RowKit
set_option linter.unusedSimpArgs false
set_option linter.unusedVariables false

set_option maxRecDepth 100000 in
set_option maxHeartbeats 1000000 in
theorem split_inner (g gl i : Nat) (p t : Tr) (gs gs2 : List Nat) (h h2 : Hd) (w : World) (hb : RdB w g p gs h) (hb2 : RdB w gl t gs2 h2) (hne : g ≠ gl) (hi : p.cs[i]? = some t) (hg : gs[i]? = some gl) (hil : i ≤ p.ks.length) (hpk : p.ks.length ≤ 1000) (hpc : p.cs.length ≤ 1000)
    (htk : t.ks.length ≤ 1000) (ht0 : 1 ≤ t.ks.length) (hv : t.vs = []) (hc : t.cs.length = t.ks.length + 1) :
    Calls Try.prog 51 #[ptr g, .int .i64 i] w fun e w' => e = .returned (.tuple #[]) ∧ SplitPost w w' g gl i p t gs gs2 := by
  obtain ⟨c0, c1, c2⟩ := hb.cells
  obtain ⟨d0, d1, d2⟩ := hb2.cells
  have hic : i < p.cs.length := (List.getElem?_eq_some_iff.1 hi).1
  obtain ⟨ad, ha, q0⟩ := hb.c.at_ (show (ptrs gs)[i]? = some (ptr gl) by simp [ptrs, hg])
  have hm : mid t < t.ks.length := by unfold mid; omega
  have hm2 : mid t = t.ks.length / 2 := rfl
  obtain ⟨ad2, ha2, q1⟩ := hb2.k.at_ (strs_at hm)
  have hcut : cutK t = t.ks[mid t] := by unfold cutK; rw [List.getD_eq_getElem?_getD, List.getElem?_eq_getElem hm]; rfl
  rw [← hcut] at q1
  have HST := Lib.hid fun (W : World) (gr : Nat) (X : Hd) (hX : RdB W g (.mk (ins1 p.ks i (cutK t)) p.vs (ins1 (p.cs.set i (cutL t)) (i + 1) (cutR t))) (ins1 gs (i + 1) gr) X) => show RdB W g (splitT p i) (ins1 gs (i + 1) gr) X by unfold splitT; rw [hi]; exact hX
  have hce : t.cs.isEmpty = false := by
    cases hx : t.cs with
    | nil => rw [hx] at hc; simp at hc
    | cons _ _ => rfl
  have HLT := Lib.hid fun (W : World) (X : Hd) (hX : RdB W gl (.mk (t.ks.take (mid t)) t.vs (t.cs.take (mid t + 1))) (gs2.take (mid t + 1)) X) => show RdB W gl (cutL t) (gs2.take (mid t + 1)) X by unfold cutL; exact hX.same rfl (by rw [hv]; simp) rfl
  have HRT := Lib.hid fun (W : World) (gr0 : Nat) (X : Hd) (hX : RdB W gr0 (.mk (t.ks.drop (mid t + 1)) [] (t.cs.drop (mid t + 1))) (gs2.drop (mid t + 1)) X) => show RdB W gr0 (cutR t) (gs2.drop (mid t + 1)) X by unfold cutR; rw [hce]; exact hX
  have HB := Lib.hid hb
  have HB2 := Lib.hid hb2
  rw [ha] at c2
  rw [ha2] at d0
  have hlt1 := hb.lt
  have hlt2 := hb2.lt
  have hlt3 := cell_lt q0
  have hlt4 := cell_lt q1
  rw [add_block] at hlt3 hlt4
  clear hb hb2 hcut
  have hlf := fun (W : World) (hw : RdB W gl t gs2 h2) => isLeaf_any gl t gs2 h2 W hw
  go_enter Try.func51, Try.ntmps51
  go_upto_region 2 with fail
  rw [show ((t.ks.length : Int) / 2) = ((mid t : Nat) : Int) by omega]
  have HW : Below w.heap.size w (w.alloc (.cells #[.slice none 0 0, .slice none 0 0, .slice none 0 0] 99)) := below1 _ _
  have HN := Lib.hid (RdB.new w)
  have HG := Lib.hid (HB.out.below HW)
  have HL := Lib.hid (HB2.out.below HW)
  have HF := Lib.hid (Fr.of_below (S := fun b => b = g ∨ b = gl) HW)
  have n1 : g ≠ w.heap.size := by omega
  have n2 : gl ≠ w.heap.size := by omega
  have q1' := cell_keep q1 HW
  have hmi : ((mid t : Nat) : Int) < (t.ks.length : Int) := by omega
  clear HW q0 q1 c0 c1 c2 d0 d1 d2 hlt1 hlt2 hlt3 hlt4 hi hg ha hm2 HB HB2
  generalize hgr : w.heap.size = gr at HN n1 n2 ⊢
  generalize w.alloc (.cells #[.slice none 0 0, .slice none 0 0, .slice none 0 0] 99) = W0 at HN HG HL HF q1' ⊢
  obtain ⟨c0, c1, c2⟩ := HG.out.cells
  obtain ⟨d0, d1, d2⟩ := HL.out.cells
  obtain ⟨e0, e1, e2⟩ := HN.out.cells
  rw [ha2] at d0
  have hlfc := hlf _ HL.out
  rw [hce] at hlfc
  go_upto_region 6 with (first | (go_at_call 47; (with_reducible refine hlfc.mono ?_); rintro e w1 ⟨rfl, rfl⟩))
  clear hlf hlfc q1'
  have hm1 : (mid t : Int) + 1 ≤ (t.ks.length : Int) := by omega
  have hm0 : 0 ≤ (mid t : Int) + 1 := by omega
  have hmc : (mid t : Int) ≤ (h2.kc : Int) := by have := HL.out.k.le; omega
  have hmd : (mid t : Int) + 1 ≤ (h2.cc : Int) := by have := HL.out.c.le; omega
  have hme : (mid t : Int) + 1 ≤ (t.cs.length : Int) := by omega
  have hw0 : IntKind.i64.wrap ((mid t : Int) + 1) = (mid t : Int) + 1 := IntWalk.i64_in _ (by omega)
  have es1 : ∀ w, (Instr.slice 55 (.slice (some ad2) t.ks.length h2.kc) (some (.int .i64 ((mid t : Int) + 1))) none none).run Try.prog w = .ok (.slice (cutA (some ad2) h2.kc (mid t + 1)) (t.ks.length - (mid t + 1)) (h2.kc - (mid t + 1))) w := fun w => by
    have := run_from (t := 55) Try.underlying55 (size_of Try.infoS) (some ad2) t.ks.length h2.kc (mid t + 1) (by omega) w
    push_cast at this
    exact this
  have HKD := Lib.hid ((ha2 ▸ HL.out.k).drop (k := mid t + 1) (by omega))
  have HKT := Lib.hid ((ha2 ▸ HL.out.k).take (k := mid t) (by omega))
  have HVD := Lib.hid (HL.out.c.drop (k := mid t + 1) (by omega))
  have HVT := Lib.hid (HL.out.c.take (k := mid t + 1) (by omega))
  rw [strs_drop] at HKD
  rw [ptrs_drop] at HVD
  rw [strs_take] at HKT
  rw [ptrs_take] at HVT
  generalize cutA (some ad2) h2.kc (mid t + 1) = BK at es1 HKD
  have hBV : cutA h2.cA h2.cc (mid t + 1) = (if h2.cc = mid t + 1 then h2.cA else Option.map (fun x => ⟨x.block, x.off + (mid t + 1), none⟩) h2.cA) := by
    unfold cutA
    cases h2.cA <;> simp [add_ne]
  rw [hBV, show t.cs.length - (mid t + 1) = t.ks.length - mid t by omega] at HVD
  clear hBV
  have hcl1 : (t.cs.take (mid t + 1)).length = mid t + 1 := by rw [List.length_take]; omega
  have hcl2 : (t.cs.drop (mid t + 1)).length = t.ks.length - mid t := by rw [List.length_drop]; omega
  have fr0 := HN.out.free 0
  go_upto_region 7 with (first | (rw [es1]))
  have HN1 := Lib.hid (HN.out.setK HKD.out)
  have hs1 := Fr.set (.slice BK (t.ks.length - (mid t + 1)) (h2.kc - (mid t + 1))) HN.out.cells.1 rfl
  have HG1 := Lib.hid (HG.out.fr hs1 n1)
  have HL1 := Lib.hid (HL.out.fr hs1 n2)
  have HF1 := Lib.hid (HF.out.trans hs1 fun x hx hl => by omega)
  have HKT1 := Lib.hid (HKT.out.kv (strs_firm _) hs1.kv)
  have HVT1 := Lib.hid (HVT.out.kv (ptrs_firm _) hs1.kv)
  have HVD1 := Lib.hid (HVD.out.kv (ptrs_firm _) hs1.kv)
  clear c0 c1 c2 d0 d1 d2 e0 e1 e2 fr0 HN HG HL HF HKD HKT HVD HVT hs1 es1
  generalize W0.setCell ⟨gr, 0, none⟩ (.slice BK (t.ks.length - (mid t + 1)) (h2.kc - (mid t + 1))) = W1 at HN1 HG1 HL1 HF1 HKT1 HVT1 HVD1 ⊢
  obtain ⟨c0, c1, c2⟩ := HG1.out.cells
  obtain ⟨d0, d1, d2⟩ := HL1.out.cells
  obtain ⟨e0, e1, e2⟩ := HN1.out.cells
  have fr0 := HN1.out.free 2
  have fr1 := HL1.out.free 2
  go_region
  have hs2 := Fr.set (.slice h2.cA (mid t + 1) h2.cc) HL1.out.cells.2.2 rfl
  have hN2 := HN1.out.fr hs2 (Ne.symm n2)
  have HVD2 := HVD1.out.kv (ptrs_firm _) hs2.kv
  generalize (if h2.cc = mid t + 1 then h2.cA else Option.map (fun (x : Addr) => (⟨x.block, x.off + (mid t + 1), none⟩ : Addr)) h2.cA) = BV at HVD1 HVD2 ⊢
  have hs3 := Fr.set (.slice BV (t.ks.length - mid t) (h2.cc - (mid t + 1))) hN2.cells.2.2 rfl
  have HN3 := Lib.hid ((hN2.setC HVD2 (t.cs.drop (mid t + 1)) hcl2).below (Below.refl _ _).drew)
  have HL3 := Lib.hid (((HL1.out.setC HVT1.out (t.cs.take (mid t + 1)) hcl1).fr hs3 n2).below (Below.refl _ _).drew)
  have HG3 := Lib.hid (((HG1.out.fr hs2 hne).fr hs3 n1).below (Below.refl _ _).drew)
  have HF3 := Lib.hid (((HF1.out.trans hs2 fun x hx hl => .inr hx).trans hs3 fun x hx hl => by omega).drew)
  have HKT3 := Lib.hid (((HKT1.out.kv (strs_firm _) hs2.kv).kv (strs_firm _) hs3.kv).below (Below.refl _ _).drew)
  clear c0 c1 c2 d0 d1 d2 e0 e1 e2 fr0 fr1 HN1 HG1 HL1 HF1 HKT1 HVT1 HVD1 hN2 HVD2 hs2 hs3
  rw [← ha2] at HKT3
  clear ha2
  generalize World.drew _ = W3 at HN3 HG3 HL3 HF3 HKT3 ⊢
  obtain ⟨c0, c1, c2⟩ := HG3.out.cells
  obtain ⟨d0, d1, d2⟩ := HL3.out.cells
  obtain ⟨e0, e1, e2⟩ := HN3.out.cells
  have fr0 := HL3.out.free 0
  go_upto_region 9 with fail
  have hs4 := Fr.set (.slice h2.kA (mid t) h2.kc) HL3.out.cells.1 rfl
  have HG4 := Lib.hid (HG3.out.fr hs4 hne)
  have HL4 := Lib.hid (HL3.out.setK HKT3.out)
  have HN4 := Lib.hid (HN3.out.fr hs4 (Ne.symm n2))
  have HF4 := Lib.hid (HF3.out.trans hs4 fun x hx hl => .inr hx)
  clear c0 c1 c2 d0 d1 d2 e0 e1 e2 fr0 HN3 HG3 HL3 HF3 HKT3 hs4
  generalize World.setCell _ _ _ = W4 at HG4 HL4 HN4 HF4 ⊢
  obtain ⟨c0, c1, c2⟩ := HG4.out.cells
  have HCS := Lib.hid fun (W : World) (hw : Below W4.heap.size W4 W) => insS_any h.kA p.ks.length h.kc i (strs p.ks) (cutK t) W (HG4.out.below hw).k (strs_one _) (by omega) hil
  have HCB := Lib.hid fun (W : World) (hw : Below W4.heap.size W4 W) => insB_any h.cA p.cs.length h.cc (i + 1) (ptrs gs) gr W (HG4.out.below hw).c (ptrs_one _) (by omega) hic
  push_cast at HCB
  have hw1 : IntKind.i64.wrap ((i : Int) + 1) = (i : Int) + 1 := IntWalk.i64_in _ (by omega)
  refine region_anyT (fun w' => w'.cell? ⟨g, 0, none⟩ = some (.slice h.kA p.ks.length h.kc) ∧ w'.cell? ⟨g, 2, none⟩ = some (.slice h.cA p.cs.length h.cc)) [5, 8, 12] (by kernel_rfl) ⟨c0, c2⟩ ?_
  intro hcl hS
  clear c0 c1 c2
  refine anyT_free (i := 0) (v := ?v0) rfl (by kernel_rfl) (by kernel_rfl) (by kernel_rfl) (by kernel_rfl) (fun _ _ _ h => h) (Or.inl ⟨by rfl, ?hy0⟩) hcl ?rest0
  case hy0 => intro w' _; go_simp; with_reducible rfl
  clear hcl
  intro hcl
  try simp only [Act.put, List.setIfInBounds_toArray, List.set_cons_zero, List.set_cons_succ]
  refine anyT_free (i := 1) (v := ?v1) rfl (by kernel_rfl) (by kernel_rfl) (by kernel_rfl) (by kernel_rfl) (fun _ _ _ h => h) (Or.inl ⟨by rfl, ?hy1⟩) hcl ?rest1
  case hy1 => intro w' _; go_simp; with_reducible rfl
  clear hcl
  intro hcl
  try simp only [Act.put, List.setIfInBounds_toArray, List.set_cons_zero, List.set_cons_succ]
  refine anyT_free (i := 2) (v := ?v2) rfl (by kernel_rfl) (by kernel_rfl) (by kernel_rfl) (by kernel_rfl) (fun _ _ _ h => h) (Or.inl ⟨by rfl, ?hy2⟩) hcl ?rest2
  case hy2 => intro w' _; go_simp; with_reducible rfl
  clear hcl
  intro hcl
  try simp only [Act.put, List.setIfInBounds_toArray, List.set_cons_zero, List.set_cons_succ]
  refine anyT_free (i := 3) (v := ?v3) rfl (by kernel_rfl) (by kernel_rfl) (by kernel_rfl) (by kernel_rfl) (fun _ _ _ h => h) (Or.inl ⟨by rfl, ?hy3⟩) hcl ?rest3
  case hy3 => intro w' _; go_simp; with_reducible rfl
  clear hcl
  intro hcl
  try simp only [Act.put, List.setIfInBounds_toArray, List.set_cons_zero, List.set_cons_succ]
  refine anyT_free (i := 4) (v := ?v4) rfl (by kernel_rfl) (by kernel_rfl) (by kernel_rfl) (by kernel_rfl) (fun _ _ _ h => h) (Or.inl ⟨by rfl, ?hy4⟩) hcl ?rest4
  case hy4 => intro w' _; go_simp; with_reducible rfl
  clear hcl
  intro hcl
  try simp only [Act.put, List.setIfInBounds_toArray, List.set_cons_zero, List.set_cons_succ]
  refine anyT_free (i := 6) (v := ?v6) rfl (by kernel_rfl) (by kernel_rfl) (by kernel_rfl) (by kernel_rfl) (fun _ _ _ h => h) (Or.inl ⟨by rfl, ?hy6⟩) hcl ?rest6
  case hy6 => intro w' _; go_simp; with_reducible rfl
  clear hcl
  intro hcl
  try simp only [Act.put, List.setIfInBounds_toArray, List.set_cons_zero, List.set_cons_succ]
  refine anyT_free (i := 7) (v := ?v7) rfl (by kernel_rfl) (by kernel_rfl) (by kernel_rfl) (by kernel_rfl) (fun _ _ _ h => h) (Or.inl ⟨by rfl, ?hy7⟩) hcl ?rest7
  case hy7 => intro w' _; go_simp; with_reducible rfl
  clear hcl
  intro hcl
  try simp only [Act.put, List.setIfInBounds_toArray, List.set_cons_zero, List.set_cons_succ]
  refine anyT_free (i := 9) (v := ?v9) rfl (by kernel_rfl) (by kernel_rfl) (by kernel_rfl) (by kernel_rfl) (fun _ _ _ h => h) (Or.inl ⟨by rfl, ?hy9⟩) hcl ?rest9
  case hy9 => intro w' _; go_simp; with_reducible rfl
  clear hcl
  intro hcl
  try simp only [Act.put, List.setIfInBounds_toArray, List.set_cons_zero, List.set_cons_succ]
  refine anyT_free (i := 10) (v := ?v10) rfl (by kernel_rfl) (by kernel_rfl) (by kernel_rfl) (by kernel_rfl) (fun _ _ _ h => h) (Or.inl ⟨by rfl, ?hy10⟩) hcl ?rest10
  case hy10 => intro w' _; go_simp; with_reducible rfl
  clear hcl
  intro hcl
  try simp only [Act.put, List.setIfInBounds_toArray, List.set_cons_zero, List.set_cons_succ]
  refine anyT_free (i := 11) (v := ?v11) rfl (by kernel_rfl) (by kernel_rfl) (by kernel_rfl) (by kernel_rfl) (fun _ _ _ h => h) (Or.inl ⟨by rfl, ?hy11⟩) hcl ?rest11
  case hy11 => intro w' _; go_simp; with_reducible rfl
  clear hcl
  intro hcl
  try simp only [Act.put, List.setIfInBounds_toArray, List.set_cons_zero, List.set_cons_succ]
  refine anyT_free (i := 13) (v := ?v13) rfl (by kernel_rfl) (by kernel_rfl) (by kernel_rfl) (by kernel_rfl) (fun _ _ _ h => h) (Or.inl ⟨by rfl, ?hy13⟩) hcl ?rest13
  case hy13 => intro w' _; go_simp; with_reducible rfl
  clear hcl
  intro hcl
  try simp only [Act.put, List.setIfInBounds_toArray, List.set_cons_zero, List.set_cons_succ]
  refine anyT_free (i := 14) (v := ?v14) rfl (by kernel_rfl) (by kernel_rfl) (by kernel_rfl) (by kernel_rfl) (fun _ _ _ h => h) (Or.inl ⟨by rfl, ?hy14⟩) hcl ?rest14
  case hy14 => intro w' _; go_simp; with_reducible rfl
  clear hcl
  intro hcl
  try simp only [Act.put, List.setIfInBounds_toArray, List.set_cons_zero, List.set_cons_succ]
  refine anyT_free (i := 15) (v := ?v15) rfl (by kernel_rfl) (by kernel_rfl) (by kernel_rfl) (by kernel_rfl) (fun _ _ _ h => h) (Or.inl ⟨by rfl, ?hy15⟩) hcl ?rest15
  case hy15 => intro w' _; go_simp; with_reducible rfl
  clear hcl
  intro hcl
  try simp only [Act.put, List.setIfInBounds_toArray, List.set_cons_zero, List.set_cons_succ]
  refine anyT_take (i := 5) (v := .slice h.kA p.ks.length h.kc) rfl (by kernel_rfl) (by kernel_rfl) (by kernel_rfl) (by kernel_rfl) (fun _ _ _ h => h) (Or.inl ⟨by rfl, ?hy5⟩) hS hcl ?rest5
  case hy5 => intro w' hSw; obtain ⟨q0, q2⟩ := hSw; go_simp; try rfl
  clear hcl
  intro hcl
  try simp only [Act.put, List.setIfInBounds_toArray, List.set_cons_zero, List.set_cons_succ]
  refine anyT_take (i := 12) (v := .slice h.cA p.cs.length h.cc) rfl (by kernel_rfl) (by kernel_rfl) (by kernel_rfl) (by kernel_rfl) (fun _ _ _ h => h) (Or.inl ⟨by rfl, ?hy12⟩) hS hcl ?rest12
  case hy12 => intro w' hSw; obtain ⟨q0, q2⟩ := hSw; go_simp; try rfl
  clear hcl
  intro hcl
  try simp only [Act.put, List.setIfInBounds_toArray, List.set_cons_zero, List.set_cons_succ]
  refine anyT_step (k := 8) rfl (by kernel_rfl) hcl ?_
  intro K hK
  go_simp
  go_at_call 63
  (with_reducible refine (HCS.out _ (Below.refl _ _).drew).mono ?_)
  rintro e w1 ⟨v1, rfl, hO1, hB1⟩
  obtain ⟨A1, n1c, rfl, hR1⟩ := Rd.of_own hO1
  have HB1 := Lib.hid (show Below W4.heap.size W4 w1 from (Below.refl _ _).drew.trans hB1)
  have HR1 := Lib.hid hR1
  clear hO1 hB1 hR1 hS hcl
  refine hK.out _ _ (by obtain ⟨c0, c1, c2⟩ := (HG4.out.below HB1.out).cells; exact ⟨c0, c2⟩) (fun hS hcl => ?_)
  clear hK K hS
  try simp only [Act.put, List.setIfInBounds_toArray, List.set_cons_zero, List.set_cons_succ]
  refine anyT_last (k := 16) rfl (by kernel_rfl) (by kernel_rfl) hcl ?_
  intro K hK
  go_simp
  go_at_call 64
  (with_reducible refine (HCB.out _ HB1.out).mono ?_)
  rintro e w2 ⟨v2, rfl, hO2, hB2⟩
  obtain ⟨A2, n2c, rfl, hR2⟩ := Rd.of_own hO2
  have hB := HB1.out.trans (hB2.mono HB1.out.size)
  have hR1 := HR1.out.below hB2
  have hG := HG4.out.below hB
  have HL5 := Lib.hid (HL4.out.below hB)
  have HN5 := Lib.hid (HN4.out.below hB)
  have HF5 := Lib.hid (HF4.out.thn hB)
  clear hO2 hB2 hcl HB1 HR1 HCS HCB hw1
  have HK5 := Lib.hid hR1
  have HC5 := Lib.hid hR2
  have HG5 := Lib.hid hG
  obtain ⟨c0, c1, c2⟩ := hG.cells
  have fr0 := hG.free 0
  have fr2 := hG.free 2
  clear hR1 hR2 hG hB
  refine hK.out _ _ (fun hcl => ?_)
  clear hK K
  try simp only [Act.put, List.setIfInBounds_toArray, List.set_cons_zero, List.set_cons_succ]
  refine anyT_free (i := 17) (v := ?v17) rfl (by kernel_rfl) (by kernel_rfl) (by kernel_rfl) (by kernel_rfl) (fun _ _ _ h => h) (Or.inl ⟨by rfl, ?hy17⟩) hcl ?rest17
  case hy17 => intro w' _; go_simp; with_reducible rfl
  clear hcl
  intro hcl
  try simp only [Act.put, List.setIfInBounds_toArray, List.set_cons_zero, List.set_cons_succ]
  refine anyT_free (i := 18) (v := ?v18) rfl (by kernel_rfl) (by kernel_rfl) (by kernel_rfl) (by kernel_rfl) (fun _ _ _ h => h) (Or.inl ⟨by rfl, ?hy18⟩) hcl ?rest18
  case hy18 => intro w' _; go_simp; with_reducible rfl
  clear hcl
  intro hcl
  try simp only [Act.put, List.setIfInBounds_toArray, List.set_cons_zero, List.set_cons_succ]
  refine anyT_last (k := 19) rfl (by kernel_rfl) (by kernel_rfl) hcl ?_
  intro K hK
  go_simp
  clear hcl
  have hs5 := Fr.set (.slice A1 (p.ks.length + 1) n1c) HG5.out.cells.1 rfl
  have HG6 := Lib.hid (HG5.out.setK (ks := ins1 p.ks i (cutK t)) (by rw [strs_ins]; exact HK5.out))
  have HC6 := Lib.hid (HC5.out.kv (fun u hu => ptrs_firm (ins1 gs (i + 1) gr) u (by rw [ptrs_ins]; exact hu)) hs5.kv)
  have HL6 := Lib.hid (HL5.out.fr hs5 (Ne.symm hne))
  have HN6 := Lib.hid (HN5.out.fr hs5 (Ne.symm n1))
  have HF6 := Lib.hid (HF5.out.trans hs5 fun x hx hl => .inl hx)
  clear HK5 HC5 HL5 HN5 HF5 HG5 hs5 fr0 fr2 c0 c1 c2 HG4 HL4 HN4 HF4
  generalize World.setCell _ _ _ = W6 at HG6 HC6 HL6 HN6 HF6 hK ⊢
  obtain ⟨c0, c1, c2⟩ := HG6.out.cells
  have fr2 := HG6.out.free 2
  refine hK.out _ _ (fun hcl => ?_)
  clear hK K
  try simp only [Act.put, List.setIfInBounds_toArray, List.set_cons_zero, List.set_cons_succ]
  refine anyT_free (i := 20) (v := ?v20) rfl (by kernel_rfl) (by kernel_rfl) (by kernel_rfl) (by kernel_rfl) (fun _ _ _ h => h) (Or.inl ⟨by rfl, ?hy20⟩) hcl ?rest20
  case hy20 => intro w' _; go_simp; with_reducible rfl
  clear hcl
  intro hcl
  try simp only [Act.put, List.setIfInBounds_toArray, List.set_cons_zero, List.set_cons_succ]
  refine anyT_free (i := 21) (v := ?v21) rfl (by kernel_rfl) (by kernel_rfl) (by kernel_rfl) (by kernel_rfl) (fun _ _ _ h => h) (Or.inl ⟨by rfl, ?hy21⟩) hcl ?rest21
  case hy21 => intro w' _; go_simp; with_reducible rfl
  clear hcl
  intro hcl
  try simp only [Act.put, List.setIfInBounds_toArray, List.set_cons_zero, List.set_cons_succ]
  refine anyT_last (k := 22) rfl (by kernel_rfl) (by kernel_rfl) hcl ?_
  intro K hK
  go_simp
  clear hcl
  have hs7 := Fr.set (.slice A2 (p.cs.length + 1) n2c) HG6.out.cells.2.2 rfl
  have HG7 := Lib.hid (HG6.out.setC (gs' := ins1 gs (i + 1) gr) (by rw [ptrs_ins]; exact HC6.out) (ins1 (p.cs.set i (cutL t)) (i + 1) (cutR t)) (by rw [ins1_len, List.length_set]))
  have HL7 := Lib.hid (HL6.out.fr hs7 (Ne.symm hne))
  have HN7 := Lib.hid (HN6.out.fr hs7 (Ne.symm n1))
  have HF7 := Lib.hid (HF6.out.trans hs7 fun x hx hl => .inl hx)
  refine hK.out _ _ (fun hcl => ?_)
  clear hK K
  refine anyT_done (by kernel_rfl) ?_ _
  go_simp
  exact bodyPost_end (v := .tuple #[]) (by simp [results, Try.results51, go_sem]) rfl ⟨rfl, gr, _, _, _, Nat.le_of_eq hgr, HST.out _ _ _ HG7.out, HLT.out _ _ HL7.out, HRT.out _ _ _ HN7.out, HF7.out⟩
end Go.Proofs.Ytkpjkglheegmgaa
/- A kid cut in two, trees as a whole. Conditions: trees that are read in memory, each node in a block of its own. -/
namespace Go.Proofs.Ytkpjkglheegmgaa
open Go.RowKit
set_option linter.unusedSimpArgs false
set_option linter.unusedVariables false

section
variable {α : Type} {l : List α} {i j : Nat} {x y : α}
theorem two_eq (h : i < l.length) : ins1 (l.set i x) (i + 1) y = l.take i ++ x :: y :: l.drop (i + 1) := by
  have h1 : l.set i x = l.take i ++ x :: l.drop (i + 1) := by rw [List.set_eq_take_append_cons_drop, if_pos h]
  have := ins1_at (l.take i) (l.drop (i + 1)) x y
  rw [List.length_take, Nat.min_eq_left (by omega)] at this
  rw [h1]; exact this
theorem two_lt (h : j < i) (hi : i ≤ l.length) : (l.take i ++ x :: y :: l.drop (i + 1))[j]? = l[j]? := by
  rw [List.getElem?_append_left (by simp; omega), List.getElem?_take, if_pos h]
theorem two_i (hi : i ≤ l.length) : (l.take i ++ x :: y :: l.drop (i + 1))[i]? = some x := by
  have h1 : (l.take i).length = i := by rw [List.length_take]; omega
  rw [List.getElem?_append_right (by omega), h1, Nat.sub_self]; rfl
theorem two_i1 (hi : i ≤ l.length) : (l.take i ++ x :: y :: l.drop (i + 1))[i + 1]? = some y := by
  have h1 : (l.take i).length = i := by rw [List.length_take]; omega
  rw [List.getElem?_append_right (by omega), h1, show i + 1 - i = 1 by omega]; rfl
theorem two_gt (h : i + 1 < j) (hi : i ≤ l.length) : (l.take i ++ x :: y :: l.drop (i + 1))[j]? = l[j - 1]? := by
  rw [List.getElem?_append_right (by simp; omega)]
  simp only [List.length_take, Nat.min_eq_left hi]
  obtain ⟨k, rfl⟩ : ∃ k, j = i + 2 + k := ⟨j - (i + 2), by omega⟩
  rw [show i + 2 + k - i = k + 2 by omega]
  simp only [List.getElem?_cons_succ, List.getElem?_drop]
  congr 1; omega
end
/-- What a write makes of the tree at g: another one, of its own blocks and new ones. -/
def Upd (n : Nat) (w w' : World) (g : Nat) (t : Tr) (F : List Nat) : Prop :=
  ∃ F', RdN n w' g t F' ∧ F'.Nodup ∧ (∀ b ∈ F', b ∈ F ∨ w.heap.size ≤ b) ∧ Fr (fun b => b ∈ F) w w'
/-- Keys and values of a node, as they stand in leaves and above. -/
def Shape : Nat → Tr → Prop
  | 0, t => t.vs.length = t.ks.length
  | _ + 1, t => t.vs = [] ∧ t.cs.length = t.ks.length + 1
theorem Ok.shape : {n a b : Nat} → {lo hi : Bd} → {t : Tr} → Ok n a b lo hi t → Shape n t
  | 0, _, _, _, _, _, h => h.2.2.2.1
  | _ + 1, _, _, _, _, _, h => ⟨h.2.2.2.1, h.kids⟩
theorem cutR_cs (t : Tr) : (cutR t).cs = if t.cs.isEmpty = true then [] else t.cs.drop (mid t + 1) := by unfold cutR; split <;> rfl
/-- The two nodes that a kid becomes. -/
theorem kid_cut {n : Nat} {w w' : World} {g gl gr : Nat} {t : Tr} {f gs2 : List Nat} {h2 h3 h4 : Hd} (hr : RdN n w gl t f) (hn : f.Nodup) (hg : g ∉ f) (hm : mid t < t.ks.length) (hs : Shape n t) (hb : RdB w gl t gs2 h2)
    (h1 : RdB w' gl (cutL t) (gs2.take (mid t + 1)) h3) (hR : RdB w' gr (cutR t) (gs2.drop (mid t + 1)) h4) (hf : Fr (fun b => b = g ∨ b = gl) w w') :
    ∃ fL fR, RdN n w' gl (cutL t) fL ∧ RdN n w' gr (cutR t) fR ∧ (fL ++ fR).Perm (gr :: f) := by
  cases n with
  | zero =>
    obtain ⟨rfl, hc, _⟩ := hr
    have hz : gs2 = [] := List.eq_nil_of_length_eq_zero (by rw [hb.n, hc]; rfl)
    subst hz
    rw [List.take_nil] at h1
    rw [List.drop_nil] at hR
    exact ⟨[gl], [gr], ⟨rfl, by simp [cutL, hc], _, h1⟩, ⟨rfl, by rw [cutR_cs, hc]; rfl, _, hR⟩, List.Perm.swap _ _ _⟩
  | succ n =>
    obtain ⟨gs, Fs, h, rfl, hc, hb', hl, hk⟩ := hr
    obtain ⟨hv, hcl⟩ := hs
    have hgs : gs = gs2 := by
      have e1 := hb.blk.symm.trans hb'.blk
      have e2 : h2.cA = h.cA ∧ h2.cc = h.cc := by
        simp only [Option.some.injEq, Obj.cells.injEq, Hd.cells] at e1
        simp at e1
        exact ⟨e1.2.2.1, e1.2.2.2⟩
      refine List.ext_getElem? fun j => ?_
      by_cases hj : j < t.cs.length
      · have a1 : j < gs.length := by rw [hb'.n]; exact hj
        have a2 : j < gs2.length := by rw [hb.n]; exact hj
        obtain ⟨ad, ea, q⟩ := hb'.c.at_ (ptrs_at a1)
        have := hb.c.cells ad (by rw [e2.1]; exact ea) j _ (ptrs_at a2)
        rw [q] at this
        simp at this
        rw [List.getElem?_eq_getElem a1, List.getElem?_eq_getElem a2, this]
      · rw [List.getElem?_eq_none (by rw [hb'.n]; omega), List.getElem?_eq_none (by rw [hb.n]; omega)]
    subst hgs
    simp only [List.nodup_cons, List.mem_cons, not_or] at hn hg
    have hkid : ∀ (i : Nat) (g' : Nat) (c : Tr) (f : List Nat), gs[i]? = some g' → t.cs[i]? = some c → Fs[i]? = some f → RdN n w' g' c f := fun i g' c f k1 k2 k3 => by
      have hr := hk i g' c f k1 k2 k3
      refine hr.keep hf.kv fun b hb => hf.block b (hr.lt b hb) ?_
      have hbF : b ∈ Fs.flatten := List.mem_flatten.2 ⟨f, List.mem_of_getElem? k3, hb⟩
      rintro (rfl | rfl)
      · exact hg.2 hbF
      · exact hn.1 hbF
    have hce : t.cs.isEmpty = false := by
      cases hx : t.cs with
      | nil => rw [hx] at hcl; simp at hcl
      | cons _ _ => rfl
    refine ⟨gl :: (Fs.take (mid t + 1)).flatten, gr :: (Fs.drop (mid t + 1)).flatten, ⟨_, Fs.take (mid t + 1), _, rfl, ?_, h1, ?_, fun i g' c f k1 k2 k3 => ?_⟩, ⟨_, Fs.drop (mid t + 1), _, rfl, ?_, hR, ?_, fun i g' c f k1 k2 k3 => ?_⟩, ?_⟩
    · intro e
      have h0 : (t.cs.take (mid t + 1)).length = 0 := by rw [show t.cs.take (mid t + 1) = [] from e]; rfl
      rw [List.length_take] at h0
      omega
    · simp [cutL, hl]
    · simp only [cutL, Tr.cs_mk] at k2
      rw [List.getElem?_take] at k1 k2 k3
      split at k1
      · rename_i hlt
        rw [if_pos hlt] at k2 k3
        exact hkid i g' c f k1 k2 k3
      · cases k1
    · rw [cutR_cs, hce]
      intro e
      have := congrArg List.length e
      simp at this
      omega
    · rw [cutR_cs, hce]; simp [hl]
    · rw [cutR_cs, hce] at k2
      simp only [Bool.false_eq_true, if_false] at k2
      rw [List.getElem?_drop] at k1 k2 k3
      exact hkid _ g' c f k1 k2 k3
    · have e : Fs.flatten = (Fs.take (mid t + 1)).flatten ++ (Fs.drop (mid t + 1)).flatten := by rw [← List.flatten_append, List.take_append_drop]
      rw [e]
      have := @List.perm_middle _ gr (gl :: (Fs.take (mid t + 1)).flatten) (Fs.drop (mid t + 1)).flatten
      exact this
theorem RdN.inner {n : Nat} {w : World} {g : Nat} {p : Tr} {F : List Nat} (h : RdN (n + 1) w g p F) : ∃ (gs : List Nat) (Fs : List (List Nat)) (h : Hd), F = g :: Fs.flatten ∧ p.cs ≠ [] ∧ RdB w g p gs h ∧ Fs.length = p.cs.length ∧
      ∀ (i : Nat) (g' : Nat) (c : Tr) (f : List Nat), gs[i]? = some g' → p.cs[i]? = some c → Fs[i]? = some f → RdN n w g' c f := h
theorem flat_at {Fs : List (List Nat)} {i : Nat} {f : List Nat} (h : Fs[i]? = some f) : Fs = Fs.take i ++ f :: Fs.drop (i + 1) := by
  obtain ⟨hi, rfl⟩ := List.getElem?_eq_some_iff.1 h
  rw [← List.drop_eq_getElem_cons hi, List.take_append_drop]
theorem nodup_flat {Fs : List (List Nat)} (h : Fs.flatten.Nodup) : (∀ f ∈ Fs, f.Nodup) ∧ Fs.Pairwise fun a b => ∀ x ∈ a, ∀ y ∈ b, x ≠ y := List.pairwise_flatten.1 h
/-- Kids of a node stand apart. -/
theorem kids_apart {g : Nat} {Fs : List (List Nat)} {i j : Nat} {f f' : List Nat} (hn : (g :: Fs.flatten).Nodup) (hi : Fs[i]? = some f) (hj : Fs[j]? = some f') (hij : i ≠ j) : ∀ b ∈ f', b ≠ g ∧ b ∉ f := by
  obtain ⟨h1, h2⟩ := List.nodup_cons.1 hn
  obtain ⟨_, h4⟩ := nodup_flat h2
  intro b hb
  refine ⟨fun e => h1 (e ▸ List.mem_flatten.2 ⟨f', List.mem_of_getElem? hj, hb⟩), fun hbf => ?_⟩
  obtain ⟨hi', rfl⟩ := List.getElem?_eq_some_iff.1 hi
  obtain ⟨hj', rfl⟩ := List.getElem?_eq_some_iff.1 hj
  rw [List.pairwise_iff_getElem] at h4
  rcases Nat.lt_or_gt_of_ne hij with hlt | hlt
  · exact h4 i j hi' hj' hlt b hbf b hb rfl
  · exact h4 j i hj' hi' hlt b hb b hbf rfl

theorem split_any {n : Nat} {g i : Nat} {p t : Tr} {w : World} {F : List Nat} (hr : RdN (n + 1) w g p F) (hn : F.Nodup) (hi : p.cs[i]? = some t) (hil : i ≤ p.ks.length) (hpk : p.ks.length ≤ 1000) (hpc : p.cs.length ≤ 1000)
    (htk : t.ks.length ≤ 1000) (ht0 : 1 ≤ t.ks.length) (hs : Shape n t) :
    Calls Try.prog 51 #[ptr g, .int .i64 i] w fun e w' => e = .returned (.tuple #[]) ∧ Upd (n + 1) w w' g (splitT p i) F := by
  obtain ⟨gs, Fs, h, rfl, hc, hb, hl, hk⟩ := hr.inner
  have hic : i < p.cs.length := (List.getElem?_eq_some_iff.1 hi).1
  obtain ⟨gl, hgi⟩ : ∃ gl, gs[i]? = some gl := ⟨_, List.getElem?_eq_getElem (by rw [hb.n]; exact hic)⟩
  obtain ⟨f, hfi⟩ : ∃ f, Fs[i]? = some f := ⟨_, List.getElem?_eq_getElem (by rw [hl]; exact hic)⟩
  have hkt := hk i gl t f hgi hi hfi
  obtain ⟨gs2, h2, hb2⟩ := hkt.node
  obtain ⟨hg1, hg2⟩ := List.nodup_cons.1 hn
  have hff : ∀ b ∈ f, b ∈ Fs.flatten := fun b hb => List.mem_flatten.2 ⟨f, List.mem_of_getElem? hfi, hb⟩
  have hgf : g ∉ f := fun h => hg1 (hff g h)
  have hgl : gl ∈ f := hkt.head
  have hne : g ≠ gl := fun e => hgf (e ▸ hgl)
  have hm : mid t < t.ks.length := by unfold mid; omega
  have hfn : f.Nodup := (nodup_flat hg2).1 f (List.mem_of_getElem? hfi)
  have main : Calls Try.prog 51 #[ptr g, .int .i64 i] w fun e w' => e = .returned (.tuple #[]) ∧ SplitPost w w' g gl i p t gs gs2 := by
    cases n with
    | zero =>
      have hce : t.cs = [] := hkt.2.1
      have hz : gs2 = [] := List.eq_nil_of_length_eq_zero (by rw [hb2.n, hce]; rfl)
      subst hz
      exact split_leaf g gl i p t gs [] h h2 w hb hb2 hne hi hgi hil hpk hpc htk ht0 hs hce
    | succ m => exact split_inner g gl i p t gs gs2 h h2 w hb hb2 hne hi hgi hil hpk hpc htk ht0 hs.1 hs.2
  refine main.mono ?_
  rintro e w' ⟨rfl, gr, h3, h4, h5, hgr, k1, k2, k3, hf⟩
  refine ⟨rfl, ?_⟩
  obtain ⟨fL, fR, rL, rR, hp⟩ := kid_cut hkt hfn hgf hm hs hb2 k2 k3 hf
  have hfl : ∀ b ∈ g :: Fs.flatten, b < w.heap.size := hr.lt
  have hFs : Fs = Fs.take i ++ f :: Fs.drop (i + 1) := flat_at hfi
  have hFL : (g :: (Fs.take i ++ fL :: fR :: Fs.drop (i + 1)).flatten).Perm (gr :: g :: Fs.flatten) := by
    conv => rhs; rw [hFs]
    simp only [List.flatten_append, List.flatten_cons]
    refine List.Perm.trans (List.Perm.cons g ?_) (List.Perm.swap _ _ _)
    rw [← List.append_assoc fL]
    refine List.Perm.trans (List.Perm.append_left _ (List.Perm.append_right _ hp)) ?_
    exact List.perm_middle
  have hsp : splitT p i = .mk (ins1 p.ks i (cutK t)) p.vs (p.cs.take i ++ cutL t :: cutR t :: p.cs.drop (i + 1)) := by unfold splitT; rw [hi, ← two_eq hic]
  have hgs : ins1 gs (i + 1) gr = gs.take i ++ gl :: gr :: gs.drop (i + 1) := by
    rw [← two_eq (by rw [hb.n]; exact hic)]
    congr 1
    refine List.ext_getElem? fun j => ?_
    rw [List.getElem?_set]
    split
    · rename_i e; subst e; rw [hgi]; simp [hb.n, hic]
    · rfl
  rw [hsp, hgs] at k1
  refine ⟨_, ⟨_, Fs.take i ++ fL :: fR :: Fs.drop (i + 1), _, rfl, by rw [hsp]; simp, by rw [hsp]; exact k1, by rw [hsp]; simp [hl], fun j g' c f' e1 e2 e3 => ?_⟩, ?_, fun b hb => ?_, hf.mono ?_⟩
  · rw [hsp] at e2
    simp only [Tr.cs_mk] at e2
    have hgl' : i ≤ gs.length := by rw [hb.n]; omega
    have hcl' : i ≤ p.cs.length := by omega
    have hfl' : i ≤ Fs.length := by rw [hl]; omega
    have old : ∀ j', j' ≠ i → gs[j']? = some g' → p.cs[j']? = some c → Fs[j']? = some f' → RdN n w' g' c f' := fun j' hj a1 a2 a3 => by
      have hr := hk j' g' c f' a1 a2 a3
      refine hr.keep hf.kv fun b hb => hf.block b (hr.lt b hb) ?_
      obtain ⟨b1, b2⟩ := kids_apart hn hfi a3 (Ne.symm hj) b hb
      rintro (rfl | rfl)
      · exact b1 rfl
      · exact b2 hgl
    by_cases q1 : j < i
    · rw [two_lt q1 hgl'] at e1
      rw [two_lt q1 hcl'] at e2
      rw [two_lt q1 hfl'] at e3
      exact old j (by omega) e1 e2 e3
    · by_cases q2 : j = i
      · subst q2
        rw [two_i hgl'] at e1
        rw [two_i hcl'] at e2
        rw [two_i hfl'] at e3
        injection e1 with e1; injection e2 with e2; injection e3 with e3
        subst e1 e2 e3; exact rL
      · by_cases q3 : j = i + 1
        · subst q3
          rw [two_i1 hgl'] at e1
          rw [two_i1 hcl'] at e2
          rw [two_i1 hfl'] at e3
          injection e1 with e1; injection e2 with e2; injection e3 with e3
          subst e1 e2 e3; exact rR
        · rw [two_gt (by omega) hgl'] at e1
          rw [two_gt (by omega) hcl'] at e2
          rw [two_gt (by omega) hfl'] at e3
          exact old (j - 1) (by omega) e1 e2 e3
  · rw [hFL.nodup_iff]
    exact List.nodup_cons.2 ⟨fun h => by have := hfl gr h; omega, hn⟩
  · rcases List.mem_cons.1 (hFL.mem_iff.1 hb) with rfl | hb
    · exact .inr hgr
    · exact .inl hb
  · rintro x (rfl | rfl) _
    · simp
    · exact List.mem_cons_of_mem _ (hff _ hgl)
end Go.Proofs.Ytkpjkglheegmgaa
/- A pair put into a leaf: the walk of putHere. Conditions: a node that is read in memory, its keys rising. -/
namespace Go.Proofs.Ytkpjkglheegmgaa
open Go.RowKit
set_option linter.unusedSimpArgs false
set_option linter.unusedVariables false

theorem strs_rem (l : List Key) (i : Nat) : strs (rem1 l i) = rem1 (strs l) i := by simp [strs, rem1, List.map_take, List.map_drop]
theorem ptrs_rem (l : List Nat) (i : Nat) : ptrs (rem1 l i) = rem1 (ptrs l) i := by simp [ptrs, rem1, List.map_take, List.map_drop]

set_option maxRecDepth 100000 in
set_option maxHeartbeats 1000000 in
theorem putHere_any (g : Nat) (t : Tr) (gs : List Nat) (h : Hd) (k v : Key) (w : World) (hb : RdB w g t gs h) (hs : Asc t.ks) (hn : t.ks.length ≤ 1000) (hv : t.vs.length = t.ks.length) :
    Calls Try.prog 50 #[ptr g, .string k.s, .string v.s] w fun e w' => e = .returned (.tuple #[]) ∧ ∃ h', RdB w' g (.mk (putK t.ks k) (putV t.ks t.vs k v) t.cs) gs h' ∧ Fr (fun b => b = g) w w' := by
  obtain ⟨c0, c1, c2⟩ := hb.cells
  have hp := pos_le t.ks k
  have HSR := Lib.hid (search_any h.kA t.ks.length h.kc t.ks k w rfl hb.k hs (by omega))
  have HB := Lib.hid hb
  have hmem := mem_pos (x := k) hs
  clear hb
  by_cases hk : k ∈ t.ks
  · obtain ⟨hpl, _⟩ := hmem.1 hk
    have e1 : putK t.ks k = t.ks := by unfold putK; rw [if_pos hk]
    have e2 : putV t.ks t.vs k v = ins1 (rem1 t.vs (pos t.ks k)) (pos t.ks k) v := by unfold putV; rw [if_pos hk]
    rw [e1, e2]
    rw [decide_eq_true hk] at HSR
    clear e1 e2 hmem hs hk
    generalize pos t.ks k = j at *
    have HCR := Lib.hid (remS_any h.vA t.vs.length h.vc j (strs t.vs) w HB.out.v (strs_one _) (by omega) (by omega))
    rw [hv] at HCR c1
    go_enter Try.func50, Try.ntmps50
    go_upto_region 2 with (first | (go_at_call 49; (with_reducible refine HSR.out.mono ?_); rintro e w1 ⟨rfl, rfl⟩))
    go_upto_region 4 with (first | (go_at_call 62; (with_reducible refine HCR.out.mono ?_); rintro e w1 ⟨v1, rfl, hO, hB⟩; obtain ⟨A1, k1, rfl, hR⟩ := Rd.of_own hO; have HB1 := Lib.hid (HB.out.below hB); have HR1 := Lib.hid hR; have HF1 := Lib.hid (Fr.of_below (S := fun b => b = g) hB); obtain ⟨d0, d1, _⟩ := HB1.out.cells; have fr := HB1.out.free 1; clear hO hB hR))
    clear c0 c1 c2
    have hs1 := Fr.set (.slice A1 (t.ks.length - 1) k1) HB1.out.cells.2.1 rfl
    have HB2 := Lib.hid (HB1.out.setV (vs := rem1 t.vs j) (by rw [strs_rem]; exact HR1.out))
    have HF2 := Lib.hid (HF1.out.trans hs1 fun x hx hl => hx)
    clear hs1 fr d0 d1 HB1 HF1 HR1
    generalize World.setCell _ _ _ = W2 at HB2 HF2 ⊢
    obtain ⟨c0, c1, c2⟩ := HB2.out.cells
    simp only [Tr.ks_mk, Tr.vs_mk, Tr.cs_mk] at c0 c1 c2
    have HV2 := HB2.out.v
    simp only [Tr.vs_mk] at HV2
    have hrl : (rem1 t.vs j).length = t.ks.length - 1 := by rw [rem1_len _ _ (by omega)]; omega
    rw [hrl] at c1 HV2
    have HCI := Lib.hid (insS_any A1 (t.ks.length - 1) k1 j (strs (rem1 t.vs j)) v W2 HV2 (strs_one _) (by omega) (by omega))
    rw [show t.ks.length - 1 + 1 = t.ks.length by omega] at HCI
    clear HV2
    go_wp2_with (first | (go_at_call 63; (with_reducible refine HCI.out.mono ?_); rintro e w3 ⟨v3, rfl, hO, hB⟩; obtain ⟨A3, k3, rfl, hR⟩ := Rd.of_own hO; have HB3 := Lib.hid (HB2.out.below hB); have HR3 := Lib.hid hR; have HF3 := Lib.hid (HF2.out.thn hB); obtain ⟨d0, d1, _⟩ := HB3.out.cells; have fr := HB3.out.free 1; clear hO hB hR))
    have hs1 := Fr.set (.slice A3 (t.ks.length) k3) HB3.out.cells.2.1 rfl
    have HB9 := Lib.hid (HB3.out.setV (vs := ins1 (rem1 t.vs j) j v) (by rw [strs_ins]; exact HR3.out))
    have HF9 := Lib.hid (HF3.out.trans hs1 fun x hx hl => hx)
    clear hs1 fr d0 d1 HB3 HF3 HR3
    generalize World.setCell _ _ _ = W9 at HB9 HF9 ⊢
    exact bodyPost_end (v := .tuple #[]) (by simp [results, Try.results50, go_sem]) rfl ⟨rfl, _, HB9.out, HF9.out⟩
  · have e1 : putK t.ks k = ins1 t.ks (pos t.ks k) k := by unfold putK; rw [if_neg hk]
    have e2 : putV t.ks t.vs k v = ins1 t.vs (pos t.ks k) v := by unfold putV; rw [if_neg hk]
    rw [e1, e2]
    rw [decide_eq_false hk] at HSR
    clear e1 e2 hmem hs hk
    generalize pos t.ks k = j at *
    have HCR := Lib.hid (insS_any h.kA t.ks.length h.kc j (strs t.ks) k w HB.out.k (strs_one _) (by omega) (by omega))
    go_enter Try.func50, Try.ntmps50
    go_upto_region 3 with (first | (go_at_call 49; (with_reducible refine HSR.out.mono ?_); rintro e w1 ⟨rfl, rfl⟩))
    go_upto_region 4 with (first | (go_at_call 63; (with_reducible refine HCR.out.mono ?_); rintro e w1 ⟨v1, rfl, hO, hB⟩; obtain ⟨A1, k1, rfl, hR⟩ := Rd.of_own hO; have HB1 := Lib.hid (HB.out.below hB); have HR1 := Lib.hid hR; have HF1 := Lib.hid (Fr.of_below (S := fun b => b = g) hB); obtain ⟨d0, d1, _⟩ := HB1.out.cells; have fr := HB1.out.free 0; clear hO hB hR))
    clear c0 c1 c2
    have hs1 := Fr.set (.slice A1 (t.ks.length + 1) k1) HB1.out.cells.1 rfl
    have HB2 := Lib.hid (HB1.out.setK (ks := ins1 t.ks j k) (by rw [strs_ins]; exact HR1.out))
    have HF2 := Lib.hid (HF1.out.trans hs1 fun x hx hl => hx)
    clear hs1 fr d0 d1 HB1 HF1 HR1
    generalize World.setCell _ _ _ = W2 at HB2 HF2 ⊢
    obtain ⟨c0, c1, c2⟩ := HB2.out.cells
    simp only [Tr.ks_mk, Tr.vs_mk, Tr.cs_mk] at c0 c1 c2
    have HV2 := HB2.out.v
    simp only [Tr.vs_mk] at HV2
    have HCI := Lib.hid (insS_any h.vA t.vs.length h.vc j (strs t.vs) v W2 HV2 (strs_one _) (by omega) (by omega))
    rw [hv] at HCI c1
    clear HV2
    go_wp2_with (first | (go_at_call 63; (with_reducible refine HCI.out.mono ?_); rintro e w3 ⟨v3, rfl, hO, hB⟩; obtain ⟨A3, k3, rfl, hR⟩ := Rd.of_own hO; have HB3 := Lib.hid (HB2.out.below hB); have HR3 := Lib.hid hR; have HF3 := Lib.hid (HF2.out.thn hB); obtain ⟨d0, d1, _⟩ := HB3.out.cells; have fr := HB3.out.free 1; clear hO hB hR))
    have hs1 := Fr.set (.slice A3 (t.ks.length + 1) k3) HB3.out.cells.2.1 rfl
    have HB9 := Lib.hid (HB3.out.setV (vs := ins1 t.vs j v) (by rw [strs_ins]; exact HR3.out))
    have HF9 := Lib.hid (HF3.out.trans hs1 fun x hx hl => hx)
    clear hs1 fr d0 d1 HB3 HF3 HR3
    generalize World.setCell _ _ _ = W9 at HB9 HF9 ⊢
    exact bodyPost_end (v := .tuple #[]) (by simp [results, Try.results50, go_sem]) rfl ⟨rfl, _, HB9.out, HF9.out⟩
end Go.Proofs.Ytkpjkglheegmgaa
/- A pair put into a tree: the walk of put. Conditions: a tree that may be, read in memory. -/
namespace Go.Proofs.Ytkpjkglheegmgaa
open Go.RowKit
set_option linter.unusedSimpArgs false
set_option linter.unusedVariables false

theorem Upd.trans {n : Nat} {a b c : World} {g : Nat} {t : Tr} {F F' : List Nat} (hs : ∀ x ∈ F', x ∈ F ∨ a.heap.size ≤ x) (hf : Fr (fun x => x ∈ F) a b) (u : Upd n b c g t F') : Upd n a c g t F := by
  obtain ⟨F2, h1, h2, h3, h4⟩ := u
  refine ⟨F2, h1, h2, fun x hx => ?_, hf.trans h4 fun x hx hl => ?_⟩
  · rcases h3 x hx with h | h
    · exact hs x h
    · exact .inr (Nat.le_trans hf.size h)
  · rcases hs x hx with h | h
    · exact h
    · omega
/-- Another tree in a kid's place. -/
theorem kid_upd {n : Nat} {w w' : World} {g gl i : Nat} {p c c' : Tr} {gs : List Nat} {Fs : List (List Nat)} {f : List Nat} {h : Hd} (hn : (g :: Fs.flatten).Nodup) (hc : p.cs ≠ []) (hb : RdB w g p gs h) (hl : Fs.length = p.cs.length)
    (hk : ∀ (i : Nat) (g' : Nat) (c : Tr) (f : List Nat), gs[i]? = some g' → p.cs[i]? = some c → Fs[i]? = some f → RdN n w g' c f) (hg : gs[i]? = some gl) (hi : p.cs[i]? = some c) (hf : Fs[i]? = some f) (u : Upd n w w' gl c' f) :
    RdB w' g (.mk p.ks p.vs (p.cs.set i c')) gs h ∧ Upd (n + 1) w w' g (.mk p.ks p.vs (p.cs.set i c')) (g :: Fs.flatten) := by
  obtain ⟨f', r', n', s', fr⟩ := u
  have hall : RdN (n + 1) w g p (g :: Fs.flatten) := ⟨gs, Fs, h, rfl, hc, hb, hl, hk⟩
  have hlt := hall.lt
  obtain ⟨hg1, hg2⟩ := List.nodup_cons.1 hn
  have hff : ∀ b ∈ f, b ∈ Fs.flatten := fun b hb => List.mem_flatten.2 ⟨f, List.mem_of_getElem? hf, hb⟩
  have hB : RdB w' g (.mk p.ks p.vs (p.cs.set i c')) gs h := (hb.fr fr fun h => hg1 (hff g h)).same rfl rfl (by simp)
  obtain ⟨hi', rfl⟩ := List.getElem?_eq_some_iff.1 hf
  have e1 : Fs.flatten = (Fs.take i).flatten ++ (Fs[i] ++ (Fs.drop (i + 1)).flatten) := by
    have e := congrArg List.flatten (flat_at hf)
    rw [List.flatten_append, List.flatten_cons] at e
    exact e
  have e2 : (Fs.set i f').flatten = (Fs.take i).flatten ++ (f' ++ (Fs.drop (i + 1)).flatten) := by
    rw [List.set_eq_take_append_cons_drop, if_pos hi']
    simp
  have pm : ∀ x, (g :: ((Fs.take i).flatten ++ (x ++ (Fs.drop (i + 1)).flatten))).Perm (x ++ g :: ((Fs.take i).flatten ++ (Fs.drop (i + 1)).flatten)) := fun x =>
    ((List.perm_append_comm_assoc _ _ _).cons g).trans List.perm_middle.symm
  have hnd := hn
  rw [e1, (pm _).nodup_iff, List.nodup_append] at hnd
  refine ⟨hB, g :: (Fs.set i f').flatten, ⟨gs, Fs.set i f', h, rfl, fun e => ?_, hB, by simp [hl], fun j g' c2 f2 k1 k2 k3 => ?_⟩, ?_, fun b hb => ?_, fr.mono fun x hx _ => List.mem_cons_of_mem _ (hff x hx)⟩
  · have := congrArg List.length e
    simp at this
    exact hc this
  · simp only [Tr.cs_mk] at k2
    by_cases hj : i = j
    · subst hj
      rw [List.getElem?_set_self (List.getElem?_eq_some_iff.1 hi).1] at k2
      rw [List.getElem?_set_self hi'] at k3
      rw [hg] at k1
      injection k1 with k1; injection k2 with k2; injection k3 with k3
      subst k1 k2 k3
      exact r'
    · rw [List.getElem?_set_ne hj] at k2 k3
      have hr := hk j g' c2 f2 k1 k2 k3
      exact hr.keep fr.kv fun b hb => fr.block b (hr.lt b hb) (kids_apart hn hf k3 hj b hb).2
  · rw [e2, (pm _).nodup_iff, List.nodup_append]
    refine ⟨n', hnd.2.1, fun x hx y hy e => ?_⟩
    subst e
    rcases s' x hx with h | h
    · exact hnd.2.2 x h x hy rfl
    · have : x < w.heap.size := hlt x (by rw [e1]; exact (pm Fs[i]).mem_iff.2 (List.mem_append_right _ hy))
      omega
  · rw [e2] at hb
    rcases List.mem_append.1 ((pm _).mem_iff.1 hb) with h | h
    · rcases s' b h with h | h
      · exact .inl (List.mem_cons_of_mem _ (hff b h))
      · exact .inr h
    · left
      rw [e1]
      exact (pm _).mem_iff.2 (List.mem_append_right _ h)

set_option maxRecDepth 100000 in
set_option maxHeartbeats 1000000 in
theorem put_any : ∀ (n : Nat) (a : Nat) (lo hi : Bd) (t : Tr) (g : Nat) (F : List Nat) (k v : Key) (w : World), Ok n a 4 lo hi t → Ge lo k → Bel k hi → (n = 0 ∨ 1 ≤ a) → RdN n w g t F → F.Nodup →
    Calls Try.prog 35 #[ptr g, .string k.s, .string v.s] w fun e w' => e = .returned (.tuple #[]) ∧ Upd n w w' g (putT n t k v) F
  | 0, a, lo, hi, t, g, F, k, v, w, ho, h1, h2, h0, hr, hn => by
    obtain ⟨rfl, hc, h, hb⟩ := hr
    have HI := Lib.hid (isLeaf_any g t [] h w hb)
    rw [hc] at HI
    have HP := Lib.hid (putHere_any g t [] h k v w hb ho.asc (by have := ho.len; omega) ho.shape)
    clear hb ho h1 h2 h0
    go_enter Try.func35, Try.ntmps35
    go_wp2_with (first | (go_at_call 47; (with_reducible refine HI.out.mono ?_); rintro e w1 ⟨rfl, rfl⟩) | (go_at_call 50; (with_reducible refine HP.out.mono ?_); rintro e w1 ⟨rfl, h', hb', hf⟩; have HB' := Lib.hid hb'; have HF := Lib.hid hf; clear hb' hf))
    exact bodyPost_ret (v := .tuple #[]) (by simp [results, Try.results35, go_sem]) rfl ⟨rfl, [g], ⟨rfl, hc, h', HB'.out⟩, hn, fun b hb => .inl hb, HF.out.mono fun x hx _ => by rw [hx]; simp⟩
  | n + 1, a, lo, hi, t, g, F, k, v, w, ho, h1, h2, h0, hr, hn => by
    obtain ⟨c, e, hab, hco⟩ := ho.about (tow_le t.ks k)
    obtain ⟨t1, t2⟩ := tow_split ho.asc k
    have hil := tow_le t.ks k
    have k1 := lst_ge t1 h1
    have k2 := hed_bel t2 h2
    obtain ⟨pc, _, _, pl⟩ := put_ok n hco k v k1 k2 (.inr (by decide))
    obtain ⟨gs, Fs, h, rfl, hc, hb, hl, hk⟩ := hr.inner
    have hic : tow t.ks k < t.cs.length := (List.getElem?_eq_some_iff.1 e).1
    obtain ⟨gl, hgi⟩ : ∃ gl, gs[tow t.ks k]? = some gl := ⟨_, List.getElem?_eq_getElem (by rw [hb.n]; exact hic)⟩
    obtain ⟨f, hfi⟩ : ∃ f, Fs[tow t.ks k]? = some f := ⟨_, List.getElem?_eq_getElem (by rw [hl]; exact hic)⟩
    have hkt := hk _ gl c f hgi e hfi
    have hfn : f.Nodup := (nodup_flat (List.nodup_cons.1 hn).2).1 f (List.mem_of_getElem? hfi)
    have IH := put_any n 2 _ _ c gl f k v w hco k1 k2 (.inr (by decide)) hkt hfn
    have HI := Lib.hid (isLeaf_any g t gs h w hb)
    have hce : t.cs.isEmpty = false := by
      cases hx : t.cs with
      | nil => exact absurd hx hc
      | cons _ _ => rfl
    rw [hce] at HI
    have htl := ho.len
    have HT := Lib.hid (toward_any g t gs h k w hb ho.asc (by omega))
    have hpt : putT (n + 1) t k v = if 4 < (putT n c k v).ks.length then splitT (.mk t.ks t.vs (t.cs.set (tow t.ks k) (putT n c k v))) (tow t.ks k) else .mk t.ks t.vs (t.cs.set (tow t.ks k) (putT n c k v)) := by rw [putT, e]
    rw [hpt]
    have hcl := ho.kids
    have hpl := pc.len
    have hsh := pc.shape
    have HK := Lib.hid fun (w' : World) (u : Upd n w w' gl (putT n c k v) f) => kid_upd hn hc hb hl hk hgi e hfi u
    have hset : (t.cs.set (tow t.ks k) (putT n c k v))[tow t.ks k]? = some (putT n c k v) := List.getElem?_set_self hic
    clear hpt hab hco t1 t2 k1 k2 pc hkt hfn hk
    generalize putT n c k v = c' at *
    generalize tow t.ks k = i at *
    obtain ⟨ad, ha, q0⟩ := hb.c.at_ (show (ptrs gs)[i]? = some (ptr gl) by simp [ptrs, hgi])
    obtain ⟨c0, c1, c2⟩ := hb.cells
    rw [ha] at c2
    have HIH := Lib.hid IH
    have HB := Lib.hid hb
    have hset' := Lib.hid hset
    clear IH hb hset ho h1 h2 h0 hce hc hgi hfi hl e hr
    go_enter Try.func35, Try.ntmps35
    go_upto_region 4 with (first | (go_at_call 47; (with_reducible refine HI.out.mono ?_); rintro e w1 ⟨rfl, rfl⟩) | (go_at_call 48; (with_reducible refine HT.out.mono ?_); rintro e w1 ⟨rfl, rfl⟩) | (go_at_call 35; (with_reducible refine HIH.out.mono ?_); rintro e w1 ⟨rfl, hu⟩; have HU := Lib.hid hu; clear hu))
    obtain ⟨hB1, U1⟩ := HK.out w1 HU.out
    obtain ⟨f', r', _, _, fr⟩ := HU.out
    obtain ⟨gs2, h2, hb2⟩ := r'.node
    obtain ⟨d0, d1, d2⟩ := hB1.cells
    simp only [Tr.cs_mk, List.length_set] at d2
    rw [ha] at d2
    have q1 := fr.kv _ _ q0 rfl
    obtain ⟨e0, _, _⟩ := hb2.cells
    have HU1 := Lib.hid U1
    clear c0 c1 c2 q0 fr hB1 U1 d0 d1 hb2 HI HT HIH HK HU ha HB
    by_cases hw : 4 < c'.ks.length
    · have hwi : (4 : Int) < (c'.ks.length : Int) := by omega
      obtain ⟨F1, r1, n1, s1, f1⟩ := HU1.out
      have HS := Lib.hid (split_any r1 n1 hset'.out (by simp; exact hil) (by simp; omega) (by simp; omega) (by omega) (by omega) hsh)
      go_wp2_with (first | (go_at_call 51; (with_reducible refine HS.out.mono ?_); rintro e w2 ⟨rfl, hu⟩; have HU2 := Lib.hid hu; clear hu))
      exact bodyPost_end (v := .tuple #[]) (by simp [results, Try.results35, go_sem]) rfl ⟨rfl, Upd.trans s1 f1 HU2.out⟩
    · have hwi : ¬ (4 : Int) < (c'.ks.length : Int) := by omega
      go_wp2
      exact bodyPost_end (v := .tuple #[]) (by simp [results, Try.results35, go_sem]) rfl ⟨rfl, HU1.out⟩
end Go.Proofs.Ytkpjkglheegmgaa
namespace Go.Proofs.Ytkpjkglheegmgaa
open Go.RowKit
set_option linter.unusedSimpArgs false
set_option linter.unusedVariables false

set_option maxRecDepth 100000 in
set_option maxHeartbeats 1000000 in
theorem root_of (n : Nat) (t : Tr) (g : Nat) (F : List Nat) (w : World) (hr : RdN n w g t F) (hn : F.Nodup) (hk : t.ks.length ≤ 1000) (hc : t.cs.length ≤ 1000) (hs : Shape n t) (h0 : n = 0 → t.cs = []) :
    Calls Try.prog 38 #[ptr g] w fun e w' => ∃ g' F', e = .returned (ptr g') ∧ RdN (rootT n t).1 w' g' (rootT n t).2 F' ∧ F'.Nodup ∧ (∀ b ∈ F', b ∈ F ∨ w.heap.size ≤ b) ∧ Fr (fun b => b ∈ F) w w' := by
  obtain ⟨gs, h, hb⟩ := hr.node
  obtain ⟨c0, c1, c2⟩ := hb.cells
  have hlt := hb.lt
  by_cases hw : 4 < t.ks.length
  · have hwi : (4 : Int) < (t.ks.length : Int) := by omega
    have HW : Below w.heap.size w ((w.alloc (.cells #[ptr g] 67)).alloc (.cells #[.slice none 0 0, .slice none 0 0, .slice (some ⟨w.heap.size, 0, none⟩) 1 1] 99)) := below2 _ _ _
    have HR := Lib.hid (hr.below HW)
    have HF := Lib.hid (Fr.of_below (S := fun b => b ∈ F) HW)
    have HN : Hid (RdB ((w.alloc (.cells #[ptr g] 67)).alloc (.cells #[.slice none 0 0, .slice none 0 0, .slice (some ⟨w.heap.size, 0, none⟩) 1 1] 99)) (w.heap.size + 1) (.mk [] [] [t]) [g] ⟨none, 0, none, 0, some ⟨w.heap.size, 0, none⟩, 1⟩) :=
      Lib.hid ⟨by have := heap_alloc_new (w.alloc (.cells #[ptr g] 67)) (.cells #[.slice none 0 0, .slice none 0 0, .slice (some ⟨w.heap.size, 0, none⟩) 1 1] 99); simpa using this, Rd.nothing _, Rd.nothing _, one_cell.below (below1 _ _)⟩
    have hlF := hr.lt
    have HR2 : Hid (RdN (n + 1) ((w.alloc (.cells #[ptr g] 67)).alloc (.cells #[.slice none 0 0, .slice none 0 0, .slice (some ⟨w.heap.size, 0, none⟩) 1 1] 99)) (w.heap.size + 1) (.mk [] [] [t]) ((w.heap.size + 1) :: F)) := Lib.hid ⟨[g], [F], _, by simp, by simp, HN.out, rfl, fun i g' c f e1 e2 e3 => by
      match i, e1, e2, e3 with
      | 0, e1, e2, e3 =>
        simp at e1 e2 e3
        subst e1 e2 e3
        exact HR.out⟩
    have HS : Hid (Calls Try.prog _ #[ptr (w.heap.size + 1), .int .i64 0] _ _) := Lib.hid (split_any (i := 0) (t := t) HR2.out (List.nodup_cons.2 ⟨fun h => by have := hlF _ h; omega, hn⟩) rfl (by simp) (by simp) (by simp) hk (by omega) hs)
    have hrt : rootT n t = (n + 1, splitT (.mk [] [] [t]) 0) := by unfold rootT; rw [if_pos hw]
    rw [hrt]
    clear hw hrt hr hb h0
    go_enter Try.func38, Try.ntmps38
    go_wp2_with (first | (go_at_call 51; (with_reducible refine HS.out.mono ?_); rintro e w2 ⟨rfl, hu⟩; have HU2 := Lib.hid hu; clear hu))
    go_ret
    obtain ⟨F2, r2, n2, s2, f2⟩ := HU2.out
    refine ⟨_, F2, rfl, r2, n2, fun b hb => ?_, HF.out.trans f2 fun x hx hl => ?_⟩
    · rcases s2 b hb with h | h
      · rcases List.mem_cons.1 h with rfl | h
        · exact .inr (by omega)
        · exact .inl h
      · simp at h
        exact .inr (by omega)
    · rcases List.mem_cons.1 hx with rfl | h
      · omega
      · exact h
  · have hwi : ¬ (4 : Int) < (t.ks.length : Int) := by omega
    have hlen := h.cA
    by_cases h1 : t.cs.length = 1
    · obtain ⟨c, hc1⟩ := List.length_eq_one_iff.1 h1
      have hrt : rootT n t = (n - 1, c) := by unfold rootT; rw [if_neg hw, hc1]
      rw [hrt]
      cases n with
      | zero => rw [h0 rfl] at hc1; cases hc1
      | succ n =>
        obtain ⟨gs', Fs, h', rfl, _, hb', hl, hk'⟩ := hr.inner
        clear c0 c1 c2
        obtain ⟨c0, c1, c2⟩ := hb'.cells
        have hkk := hb'.k.cap
        have hgl : gs'.length = 1 := by rw [hb'.n, h1]
        obtain ⟨gl, rfl⟩ := List.length_eq_one_iff.1 hgl
        obtain ⟨f, rfl⟩ := List.length_eq_one_iff.1 (show Fs.length = 1 by omega)
        have hkt := hk' 0 gl c f rfl (by rw [hc1]; rfl) rfl
        obtain ⟨ad, ha, q0⟩ := hb'.c.at_ (show (ptrs [gl])[0]? = some (ptr gl) by simp [ptrs])
        rw [add_zero] at q0
        rw [ha, h1] at c2
        clear hr hb hrt hb' hlen hs h0 hc1 h1 ha
        go_enter Try.func38, Try.ntmps38
        go_wp2
        go_ret
        exact ⟨gl, rfl, f, hkt, by simpa using (List.nodup_cons.1 hn).2, fun b hb => .inl (by simp [hb]), Fr.refl _⟩
    · have hrt : rootT n t = (n, t) := by
        unfold rootT
        rw [if_neg hw]
        match ht : t.cs with
        | [] => rfl
        | [c] => rw [ht] at h1; exact absurd rfl h1
        | _ :: _ :: _ => rfl
      rw [hrt]
      have h1i : ¬ (t.cs.length : Int) = 1 := by omega
      clear hrt hb hlen
      go_enter Try.func38, Try.ntmps38
      go_wp2
      go_ret
      exact ⟨g, rfl, F, hr, hn, fun b hb => .inl hb, Fr.refl _⟩
end Go.Proofs.Ytkpjkglheegmgaa
