/- A pair taken out of a leaf: the walk of deleteHere. Conditions: a node that is read in memory, its keys rising. -/
import Derived.Test.YthjjhldmfmnflaaQh
/- One kid made of two: the walk of refill, at the three nodes. Conditions: nodes that are read in memory. -/
namespace Go.Proofs.Ythjjhldmfmnflaa
open Go.RowKit
set_option linter.unusedSimpArgs false
set_option linter.unusedVariables false

theorem flt_two (a b : List Value) : flt [a, b] = a ++ b := by simp [flt]
theorem flt_three (a b c : List Value) : flt [a, b, c] = a ++ (b ++ c) := by simp [flt]
set_option maxRecDepth 100000 in
set_option maxHeartbeats 4000000 in
theorem refill_nodes (Q : World → Prop) (g gl gr i0 i : Nat) (p l r : Tr) (gs gsl gsr : List Nat) (h hl hr : Hd) (w : World) (hb : RdB w g p gs h) (hbl : RdB w gl l gsl hl) (hbr : RdB w gr r gsr hr) (n1 : g ≠ gl) (n2 : g ≠ gr) (n3 : gl ≠ gr)
    (hii : i = min i0 (p.cs.length - 2)) (hi : p.cs[i]? = some l) (hi1 : p.cs[i + 1]? = some r) (hg : gs[i]? = some gl) (hg1 : gs[i + 1]? = some gr) (hik : i < p.ks.length) (hpk : p.ks.length ≤ 1000) (hpc : p.cs.length ≤ 1000) (hi0 : i0 ≤ 1000)
    (hlk : l.ks.length ≤ 1000) (hrk : r.ks.length ≤ 1000) (hlv : l.vs.length ≤ 1000) (hrv : r.vs.length ≤ 1000) (hlc : l.cs.length ≤ 1000) (hrc : r.cs.length ≤ 1000)
    (hN : ¬ 4 < (mergeT l (p.ks.getD i noKey) r).ks.length → ∀ W X Y, RdB W g (.mk (rem1 p.ks i) p.vs (rem1 (p.cs.set i (mergeT l (p.ks.getD i noKey) r)) (i + 1))) (rem1 gs (i + 1)) X → RdB W gl (mergeT l (p.ks.getD i noKey) r) (gsl ++ gsr) Y → Fr (fun b => b = g ∨ b = gl) w W → Q W)
    (hS : 4 < (mergeT l (p.ks.getD i noKey) r).ks.length → ∀ W X Y, RdB W g (.mk (rem1 p.ks i) p.vs (rem1 (p.cs.set i (mergeT l (p.ks.getD i noKey) r)) (i + 1))) (rem1 gs (i + 1)) X → RdB W gl (mergeT l (p.ks.getD i noKey) r) (gsl ++ gsr) Y → Fr (fun b => b = g ∨ b = gl) w W → Calls Try.prog 51 #[ptr g, .int .i64 i] W fun e w' => e = .returned (.tuple #[]) ∧ Q w') :
    Calls Try.prog 55 #[ptr g, .int .i64 i0] w fun e w' => e = .returned (.tuple #[]) ∧ Q w' := by
  obtain ⟨c0, c1, c2⟩ := hb.cells
  obtain ⟨d0, d1, d2⟩ := hbl.cells
  obtain ⟨e0, e1, e2⟩ := hbr.cells
  have hic : i + 1 < p.cs.length := (List.getElem?_eq_some_iff.1 hi1).1
  obtain ⟨ad, ha, q0⟩ := hb.c.at_ (show (ptrs gs)[i]? = some (ptr gl) by simp [ptrs, hg])
  obtain ⟨ad', ha', q1⟩ := hb.c.at_ (show (ptrs gs)[i + 1]? = some (ptr gr) by simp [ptrs, hg1])
  rw [ha] at ha'
  rw [← Option.some.inj ha'] at q1
  rw [add_ne (by omega)] at q1
  obtain ⟨ak, hak, q2⟩ := hb.k.at_ (strs_at hik)
  have hkd : p.ks.getD i noKey = p.ks[i] := by rw [List.getD_eq_getElem?_getD, List.getElem?_eq_getElem hik]; rfl
  rw [← hkd] at q2
  have HNQ := Lib.hid hN
  have HSQ := Lib.hid hS
  have HB := Lib.hid hb
  have HL := Lib.hid hbl
  have HR := Lib.hid hbr
  have HI := Lib.hid hii
  have hmin : min (i0 : Int) ((p.cs.length : Int) - 2) = (i : Int) := by omega
  have HIL := Lib.hid fun (W : World) (hw : RdB W gl l gsl hl) => isLeaf_any gl l gsl hl W hw
  have hw1 : IntKind.i64.wrap ((i : Int) + 1) = (i : Int) + 1 := IntWalk.i64_in _ (by omega)
  have hwm : IntKind.i64.wrap ((p.cs.length : Int) - 2) = (p.cs.length : Int) - 2 := IntWalk.i64_in _ (by omega)
  have hi1i : ((i : Int) + 1) < (p.cs.length : Int) := by omega
  have hii2 : (i : Int) < (p.cs.length : Int) := by omega
  have hn0 : 0 ≤ (i : Int) + 1 := by omega
  have ht1 : ((i : Int) + 1).toNat = i + 1 := by omega
  rw [ha] at c2
  clear hb hbl hbr hN hS hii hi hi1 hg hg1 ha' hkd
  generalize p.ks.getD i noKey = k at *
  go_enter Try.func55, Try.ntmps55
  go_upto_region 1 with fail
  go_region
  have hbd : Below w.heap.size w w.drew := (Below.refl _ _).drew
  have HB1 := Lib.hid (HB.out.below hbd)
  have HL1 := Lib.hid (HL.out.below hbd)
  have HR1 := Lib.hid (HR.out.below hbd)
  have HF1 := Lib.hid (Fr.of_below (S := fun b => b = g ∨ b = gl) hbd)
  have q2' := cell_keep q2 hbd
  clear c0 c1 c2 d0 d1 d2 e0 e1 e2 q0 q1 q2 HB HL HR hbd hmin hwm hii2 hi1i
  generalize w.drew = W at *
  obtain ⟨c0, c1, c2⟩ := HB1.out.cells
  rw [hak] at c0
  have hil := HIL.out _ HL1.out
  generalize hd1 : l.cs.isEmpty = d1 at hil
  have HD1 := Lib.hid hd1
  clear hd1
  go_upto_if 32 with (first | (go_at_call 47; (with_reducible refine hil.mono ?_); rintro e w1 ⟨rfl, rfl⟩))
  have HKB := Lib.hid ((HB1.out.k))
  trace_state
  go_cut [6] (fun v wx => wx = W ∧ ∃ Ab nb cb, v = .slice Ab nb cb ∧ Rd W Ab nb cb (strs (if l.cs.isEmpty = true then [] else [k])))
  case first =>
    cases d1 with
    | true =>
      have HE := Lib.hid (show Rd W none 0 0 (strs (if l.cs.isEmpty = true then [] else [k])) by rw [HD1.out]; exact Rd.nothing W)
      go_wp2
      go_meet
      exact ⟨rfl, none, 0, 0, rfl, HE.out⟩
    | false =>
      have hkc := HB1.out.k.le
      have hle : (i : Int) + 1 ≤ (h.kc : Int) := by omega
      have hle0 : (i : Int) ≤ (i : Int) + 1 := by omega
      go_wp2
      have HE := Lib.hid (show Rd W (some (ak.add i)) 1 (h.kc - i) (strs (if l.cs.isEmpty = true then [] else [k])) by
        rw [HD1.out]
        refine ⟨rfl, by omega, by have := HB1.out.k.cap; omega, fun e => (by cases e), fun a e j u hj => ?_⟩
        have e2 := Option.some.inj e
        subst e2
        match j, hj with
        | 0, hj => rw [← Option.some.inj hj, add_zero]; exact q2'
        | _ + 1, hj => simp [strs] at hj)
      go_meet
      exact ⟨rfl, _, _, _, rfl, HE.out⟩
  case rest =>
    obtain ⟨rfl, Ab, nb, cb, rfl, hbt⟩ := hcut
    have HBT := Lib.hid hbt
    clear hbt hil q2' HD1 d1
    generalize hbtw : (if l.cs.isEmpty = true then [] else [k]) = btw at *
    have HBW := Lib.hid hbtw
    clear hbtw
    have hbl : btw.length ≤ 1 := by rw [← HBW.out]; split <;> simp
    have HL1n := Lib.hid (show gsl.length = l.cs.length from HL1.out.n)
    have HR1n := Lib.hid (show gsr.length = r.cs.length from HR1.out.n)
    obtain ⟨c0, c1, c2⟩ := HB1.out.cells
    obtain ⟨d0, d1, d2⟩ := HL1.out.cells
    obtain ⟨e0, e1, e2⟩ := HR1.out.cells
    try simp only [Tr.ks_mk, Tr.vs_mk, Tr.cs_mk] at d0 d1 d2
    go_upto_region 5 with fail
    have HCC := Lib.hid (show Calls Try.prog 66 #[.slice (some ⟨wc.heap.size, 0, none⟩) 3 3] ((wc.alloc (.cells #[.slice hl.kA l.ks.length hl.kc, .slice Ab nb cb, .slice hr.kA r.ks.length hr.kc] 55)).drew) _ from concatS_any _ 3 3 [strs l.ks, strs btw, strs r.ks] _ rfl ((three_parts HL1.out.k HBT.out HR1.out.k).below (Below.refl _ _).drew) (fun x hx => by simp at hx; rcases hx with rfl | rfl | rfl <;> exact strs_one _) (by simp [tot, strs_len]; omega) (by simp))
    refine region_anyT (fun w' => w'.cell? ⟨gl, 0, none⟩ = some (.slice hl.kA l.ks.length hl.kc) ∧ w'.cell? ⟨gr, 0, none⟩ = some (.slice hr.kA r.ks.length hr.kc)) [1, 2, 3, 4, 5, 6, 7, 8, 9] (by kernel_rfl) ⟨d0, e0⟩ ?_
    intro hcl hS
    clear c0 c1 c2 d0 d1 d2 e0 e1 e2
    refine anyT_free (i := 0) (oi := ?oa0) (v := ?va0) ?hia0 ?haa0 ?hba0 ?hca0 ?hda0 ?hqa0 (Or.inl ⟨?hwa0, ?hya0⟩) hcl ?resta0
    case hia0 => simp only [List.getElem?_toArray, List.getElem?_cons_succ, List.getElem?_cons_zero]; rfl
    case hqa0 => exact fun _ _ _ h => h
    case haa0 => kernel_rfl
    case hba0 => kernel_rfl
    case hca0 => kernel_rfl
    case hda0 => kernel_rfl
    case hwa0 => rfl
    case hya0 => intro w' _; go_simp; try with_reducible rfl
    clear hcl
    intro hcl
    try simp only [Act.put, List.setIfInBounds_toArray, List.set_cons_zero, List.set_cons_succ]
    refine anyT_take (i := 1) (oi := ?oa1) (v := ?va1) ?hia1 ?haa1 ?hba1 ?hca1 ?hda1 ?hqa1 (Or.inl ⟨?hwa1, ?hya1⟩) hS hcl ?resta1
    case hia1 => simp only [List.getElem?_toArray, List.getElem?_cons_succ, List.getElem?_cons_zero]; rfl
    case hqa1 => exact fun _ _ _ h => h
    case haa1 => kernel_rfl
    case hba1 => kernel_rfl
    case hca1 => kernel_rfl
    case hda1 => kernel_rfl
    case hwa1 => rfl
    case hya1 => intro w' hSw; obtain ⟨s0, s1⟩ := hSw; go_simp; try with_reducible rfl
    clear hcl
    intro hcl
    try simp only [Act.put, List.setIfInBounds_toArray, List.set_cons_zero, List.set_cons_succ]
    refine anyT_take (i := 2) (oi := ?oa2) (v := ?va2) ?hia2 ?haa2 ?hba2 ?hca2 ?hda2 ?hqa2 (Or.inl ⟨?hwa2, ?hya2⟩) hS hcl ?resta2
    case hia2 => simp only [List.getElem?_toArray, List.getElem?_cons_succ, List.getElem?_cons_zero]; rfl
    case hqa2 => exact fun _ _ _ h => h
    case haa2 => kernel_rfl
    case hba2 => kernel_rfl
    case hca2 => kernel_rfl
    case hda2 => kernel_rfl
    case hwa2 => rfl
    case hya2 => intro w' hSw; obtain ⟨s0, s1⟩ := hSw; go_simp; try with_reducible rfl
    clear hcl
    intro hcl
    try simp only [Act.put, List.setIfInBounds_toArray, List.set_cons_zero, List.set_cons_succ]
    refine anyT_take (i := 3) (oi := ?oa3) (v := ?va3) ?hia3 ?haa3 ?hba3 ?hca3 ?hda3 ?hqa3 (Or.inl ⟨?hwa3, ?hya3⟩) hS hcl ?resta3
    case hia3 => simp only [List.getElem?_toArray, List.getElem?_cons_succ, List.getElem?_cons_zero]; rfl
    case hqa3 => exact fun _ _ _ h => h
    case haa3 => kernel_rfl
    case hba3 => kernel_rfl
    case hca3 => kernel_rfl
    case hda3 => kernel_rfl
    case hwa3 => rfl
    case hya3 => intro w' hSw; obtain ⟨s0, s1⟩ := hSw; go_simp; try with_reducible rfl
    clear hcl
    intro hcl
    try simp only [Act.put, List.setIfInBounds_toArray, List.set_cons_zero, List.set_cons_succ]
    refine anyT_take (i := 4) (oi := ?oa4) (v := ?va4) ?hia4 ?haa4 ?hba4 ?hca4 ?hda4 ?hqa4 (Or.inl ⟨?hwa4, ?hya4⟩) hS hcl ?resta4
    case hia4 => simp only [List.getElem?_toArray, List.getElem?_cons_succ, List.getElem?_cons_zero]; rfl
    case hqa4 => exact fun _ _ _ h => h
    case haa4 => kernel_rfl
    case hba4 => kernel_rfl
    case hca4 => kernel_rfl
    case hda4 => kernel_rfl
    case hwa4 => rfl
    case hya4 => intro w' hSw; obtain ⟨s0, s1⟩ := hSw; go_simp; try with_reducible rfl
    clear hcl
    intro hcl
    try simp only [Act.put, List.setIfInBounds_toArray, List.set_cons_zero, List.set_cons_succ]
    refine anyT_take (i := 5) (oi := ?oa5) (v := ?va5) ?hia5 ?haa5 ?hba5 ?hca5 ?hda5 ?hqa5 (Or.inl ⟨?hwa5, ?hya5⟩) hS hcl ?resta5
    case hia5 => simp only [List.getElem?_toArray, List.getElem?_cons_succ, List.getElem?_cons_zero]; rfl
    case hqa5 => exact fun _ _ _ h => h
    case haa5 => kernel_rfl
    case hba5 => kernel_rfl
    case hca5 => kernel_rfl
    case hda5 => kernel_rfl
    case hwa5 => rfl
    case hya5 => intro w' hSw; obtain ⟨s0, s1⟩ := hSw; go_simp; try with_reducible rfl
    clear hcl
    intro hcl
    try simp only [Act.put, List.setIfInBounds_toArray, List.set_cons_zero, List.set_cons_succ]
    refine anyT_take (i := 6) (oi := ?oa6) (v := ?va6) ?hia6 ?haa6 ?hba6 ?hca6 ?hda6 ?hqa6 (Or.inl ⟨?hwa6, ?hya6⟩) hS hcl ?resta6
    case hia6 => simp only [List.getElem?_toArray, List.getElem?_cons_succ, List.getElem?_cons_zero]; rfl
    case hqa6 => exact fun _ _ _ h => h
    case haa6 => kernel_rfl
    case hba6 => kernel_rfl
    case hca6 => kernel_rfl
    case hda6 => kernel_rfl
    case hwa6 => rfl
    case hya6 => intro w' hSw; obtain ⟨s0, s1⟩ := hSw; go_simp; try with_reducible rfl
    clear hcl
    intro hcl
    try simp only [Act.put, List.setIfInBounds_toArray, List.set_cons_zero, List.set_cons_succ]
    refine anyT_take (i := 7) (oi := ?oa7) (v := ?va7) ?hia7 ?haa7 ?hba7 ?hca7 ?hda7 ?hqa7 (Or.inl ⟨?hwa7, ?hya7⟩) hS hcl ?resta7
    case hia7 => simp only [List.getElem?_toArray, List.getElem?_cons_succ, List.getElem?_cons_zero]; rfl
    case hqa7 => exact fun _ _ _ h => h
    case haa7 => kernel_rfl
    case hba7 => kernel_rfl
    case hca7 => kernel_rfl
    case hda7 => kernel_rfl
    case hwa7 => rfl
    case hya7 => intro w' hSw; obtain ⟨s0, s1⟩ := hSw; go_simp; try with_reducible rfl
    clear hcl
    intro hcl
    try simp only [Act.put, List.setIfInBounds_toArray, List.set_cons_zero, List.set_cons_succ]
    refine anyT_take (i := 8) (oi := ?oa8) (v := ?va8) ?hia8 ?haa8 ?hba8 ?hca8 ?hda8 ?hqa8 (Or.inl ⟨?hwa8, ?hya8⟩) hS hcl ?resta8
    case hia8 => simp only [List.getElem?_toArray, List.getElem?_cons_succ, List.getElem?_cons_zero]; rfl
    case hqa8 => exact fun _ _ _ h => h
    case haa8 => kernel_rfl
    case hba8 => kernel_rfl
    case hca8 => kernel_rfl
    case hda8 => kernel_rfl
    case hwa8 => rfl
    case hya8 => intro w' hSw; obtain ⟨s0, s1⟩ := hSw; go_simp; try with_reducible rfl
    clear hcl
    intro hcl
    try simp only [Act.put, List.setIfInBounds_toArray, List.set_cons_zero, List.set_cons_succ]
    refine anyT_take (i := 9) (oi := ?oa9) (v := ?va9) ?hia9 ?haa9 ?hba9 ?hca9 ?hda9 ?hqa9 (Or.inl ⟨?hwa9, ?hya9⟩) hS hcl ?resta9
    case hia9 => simp only [List.getElem?_toArray, List.getElem?_cons_succ, List.getElem?_cons_zero]; rfl
    case hqa9 => exact fun _ _ _ h => h
    case haa9 => kernel_rfl
    case hba9 => kernel_rfl
    case hca9 => kernel_rfl
    case hda9 => kernel_rfl
    case hwa9 => rfl
    case hya9 => intro w' hSw; obtain ⟨s0, s1⟩ := hSw; go_simp; try with_reducible rfl
    clear hcl
    intro hcl
    try simp only [Act.put, List.setIfInBounds_toArray, List.set_cons_zero, List.set_cons_succ]
    refine anyT_last (k := 10) (o := ?oa10) ?hia10 (by kernel_rfl) (by kernel_rfl) hcl ?resta10
    case hia10 => simp only [List.getElem?_toArray, List.getElem?_cons_succ, List.getElem?_cons_zero]; rfl
    intro K hK
    go_simp
    clear hS
    refine hK.out _ _ (fun hcl => ?_)
    clear hK K
    try simp only [Act.put, List.setIfInBounds_toArray, List.set_cons_zero, List.set_cons_succ]
    refine anyT_last (k := 11) (o := ?oa11) ?hia11 (by kernel_rfl) (by kernel_rfl) hcl ?resta11
    case hia11 => simp only [List.getElem?_toArray, List.getElem?_cons_succ, List.getElem?_cons_zero]; rfl
    intro K hK
    go_simp
    go_at_call 66
    (with_reducible refine HCC.out.mono ?_)
    rintro e w3 ⟨v3, rfl, hO, hB⟩
    obtain ⟨A3, k3, rfl, hR⟩ := Rd.of_own hO
    have hB3 : Below wc.heap.size wc w3 := thn ((below1 _ _).drew) hB
    have htot : tot [strs l.ks, strs btw, strs r.ks] = l.ks.length + (btw.length + r.ks.length) := by simp [tot, strs_len]
    have hflt : flt [strs l.ks, strs btw, strs r.ks] = strs (l.ks ++ (btw ++ r.ks)) := by simp [flt, strs_app]
    rw [htot, hflt] at hR
    rw [htot]
    have HBm := Lib.hid (HB1.out.below hB3)
    have HLn := Lib.hid (HL1.out.below hB3)
    have HRm := Lib.hid (HR1.out.below hB3)
    have HFm := Lib.hid (HF1.out.thn hB3)
    have HRD := Lib.hid hR
    clear hO hB hcl hR HCC htot hflt hB3
    obtain ⟨d0, d1, d2⟩ := HLn.out.cells
    have fr0 := HLn.out.free 0
    refine hK.out _ _ (fun hcl => ?_)
    clear hK K
    try simp only [Act.put, List.setIfInBounds_toArray, List.set_cons_zero, List.set_cons_succ]
    refine anyT_free (i := 12) (oi := ?oa12) (v := ?va12) ?hia12 ?haa12 ?hba12 ?hca12 ?hda12 ?hqa12 (Or.inl ⟨?hwa12, ?hya12⟩) hcl ?resta12
    case hia12 => simp only [List.getElem?_toArray, List.getElem?_cons_succ, List.getElem?_cons_zero]; rfl
    case hqa12 => exact fun _ _ _ h => h
    case haa12 => kernel_rfl
    case hba12 => kernel_rfl
    case hca12 => kernel_rfl
    case hda12 => kernel_rfl
    case hwa12 => rfl
    case hya12 => intro w' _; go_simp; try with_reducible rfl
    clear hcl
    intro hcl
    try simp only [Act.put, List.setIfInBounds_toArray, List.set_cons_zero, List.set_cons_succ]
    refine anyT_free (i := 13) (oi := ?oa13) (v := ?va13) ?hia13 ?haa13 ?hba13 ?hca13 ?hda13 ?hqa13 (Or.inl ⟨?hwa13, ?hya13⟩) hcl ?resta13
    case hia13 => simp only [List.getElem?_toArray, List.getElem?_cons_succ, List.getElem?_cons_zero]; rfl
    case hqa13 => exact fun _ _ _ h => h
    case haa13 => kernel_rfl
    case hba13 => kernel_rfl
    case hca13 => kernel_rfl
    case hda13 => kernel_rfl
    case hwa13 => rfl
    case hya13 => intro w' _; go_simp; try with_reducible rfl
    clear hcl
    intro hcl
    try simp only [Act.put, List.setIfInBounds_toArray, List.set_cons_zero, List.set_cons_succ]
    refine anyT_last (k := 14) (o := ?oa14) ?hia14 (by kernel_rfl) (by kernel_rfl) hcl ?resta14
    case hia14 => simp only [List.getElem?_toArray, List.getElem?_cons_succ, List.getElem?_cons_zero]; rfl
    intro K hK
    go_simp
    clear hcl
    have hs1 := Fr.set (.slice A3 (l.ks.length + (btw.length + r.ks.length)) k3) HLn.out.cells.1 rfl
    have HL2 := Lib.hid (HLn.out.setK (ks := l.ks ++ (btw ++ r.ks)) HRD.out)
    have HB2 := Lib.hid (HBm.out.fr hs1 n1)
    have HR2 := Lib.hid (HRm.out.fr hs1 (Ne.symm n3))
    have HF2 := Lib.hid (HFm.out.trans hs1 fun x hx hl => .inr hx)
    clear hs1 fr0 d0 d1 d2 HLn HBm HRm HFm HRD
    generalize World.setCell _ _ _ = W2 at HL2 HB2 HR2 HF2 hK ⊢
    refine hK.out _ _ (fun hcl => ?_)
    clear hK K
    refine anyT_done (by kernel_rfl) ?_ _
    go_simp
    clear hcl
    obtain ⟨c0, c1, c2⟩ := HB2.out.cells
    obtain ⟨d0, d1, d2⟩ := HL2.out.cells
    obtain ⟨e0, e1, e2⟩ := HR2.out.cells
    try simp only [Tr.ks_mk, Tr.vs_mk, Tr.cs_mk] at d0 d1 d2
    go_upto_region 6 with fail
    have HCC := Lib.hid (show Calls Try.prog 66 #[.slice (some ⟨W2.heap.size, 0, none⟩) 2 2] ((W2.alloc (.cells #[.slice hl.vA l.vs.length hl.vc, .slice hr.vA r.vs.length hr.vc] 55)).drew) _ from concatS_any _ 2 2 [strs l.vs, strs r.vs] _ rfl ((two_parts HL2.out.v HR2.out.v).below (Below.refl _ _).drew) (fun x hx => by simp at hx; rcases hx with rfl | rfl <;> exact strs_one _) (by simp [tot, strs_len]; omega) (by simp))
    refine region_anyT (fun w' => w'.cell? ⟨gl, 1, none⟩ = some (.slice hl.vA l.vs.length hl.vc) ∧ w'.cell? ⟨gr, 1, none⟩ = some (.slice hr.vA r.vs.length hr.vc)) [1, 2, 3, 4, 5, 6, 7, 8] (by kernel_rfl) ⟨d1, e1⟩ ?_
    intro hcl hS
    clear c0 c1 c2 d0 d1 d2 e0 e1 e2
    refine anyT_free (i := 0) (oi := ?ob0) (v := ?vb0) ?hib0 ?hab0 ?hbb0 ?hcb0 ?hdb0 ?hqb0 (Or.inl ⟨?hwb0, ?hyb0⟩) hcl ?restb0
    case hib0 => simp only [List.getElem?_toArray, List.getElem?_cons_succ, List.getElem?_cons_zero]; rfl
    case hqb0 => exact fun _ _ _ h => h
    case hab0 => kernel_rfl
    case hbb0 => kernel_rfl
    case hcb0 => kernel_rfl
    case hdb0 => kernel_rfl
    case hwb0 => rfl
    case hyb0 => intro w' _; go_simp; try with_reducible rfl
    clear hcl
    intro hcl
    try simp only [Act.put, List.setIfInBounds_toArray, List.set_cons_zero, List.set_cons_succ]
    refine anyT_take (i := 1) (oi := ?ob1) (v := ?vb1) ?hib1 ?hab1 ?hbb1 ?hcb1 ?hdb1 ?hqb1 (Or.inl ⟨?hwb1, ?hyb1⟩) hS hcl ?restb1
    case hib1 => simp only [List.getElem?_toArray, List.getElem?_cons_succ, List.getElem?_cons_zero]; rfl
    case hqb1 => exact fun _ _ _ h => h
    case hab1 => kernel_rfl
    case hbb1 => kernel_rfl
    case hcb1 => kernel_rfl
    case hdb1 => kernel_rfl
    case hwb1 => rfl
    case hyb1 => intro w' hSw; obtain ⟨s0, s1⟩ := hSw; go_simp; try with_reducible rfl
    clear hcl
    intro hcl
    try simp only [Act.put, List.setIfInBounds_toArray, List.set_cons_zero, List.set_cons_succ]
    refine anyT_take (i := 2) (oi := ?ob2) (v := ?vb2) ?hib2 ?hab2 ?hbb2 ?hcb2 ?hdb2 ?hqb2 (Or.inl ⟨?hwb2, ?hyb2⟩) hS hcl ?restb2
    case hib2 => simp only [List.getElem?_toArray, List.getElem?_cons_succ, List.getElem?_cons_zero]; rfl
    case hqb2 => exact fun _ _ _ h => h
    case hab2 => kernel_rfl
    case hbb2 => kernel_rfl
    case hcb2 => kernel_rfl
    case hdb2 => kernel_rfl
    case hwb2 => rfl
    case hyb2 => intro w' hSw; obtain ⟨s0, s1⟩ := hSw; go_simp; try with_reducible rfl
    clear hcl
    intro hcl
    try simp only [Act.put, List.setIfInBounds_toArray, List.set_cons_zero, List.set_cons_succ]
    refine anyT_take (i := 3) (oi := ?ob3) (v := ?vb3) ?hib3 ?hab3 ?hbb3 ?hcb3 ?hdb3 ?hqb3 (Or.inl ⟨?hwb3, ?hyb3⟩) hS hcl ?restb3
    case hib3 => simp only [List.getElem?_toArray, List.getElem?_cons_succ, List.getElem?_cons_zero]; rfl
    case hqb3 => exact fun _ _ _ h => h
    case hab3 => kernel_rfl
    case hbb3 => kernel_rfl
    case hcb3 => kernel_rfl
    case hdb3 => kernel_rfl
    case hwb3 => rfl
    case hyb3 => intro w' hSw; obtain ⟨s0, s1⟩ := hSw; go_simp; try with_reducible rfl
    clear hcl
    intro hcl
    try simp only [Act.put, List.setIfInBounds_toArray, List.set_cons_zero, List.set_cons_succ]
    refine anyT_take (i := 4) (oi := ?ob4) (v := ?vb4) ?hib4 ?hab4 ?hbb4 ?hcb4 ?hdb4 ?hqb4 (Or.inl ⟨?hwb4, ?hyb4⟩) hS hcl ?restb4
    case hib4 => simp only [List.getElem?_toArray, List.getElem?_cons_succ, List.getElem?_cons_zero]; rfl
    case hqb4 => exact fun _ _ _ h => h
    case hab4 => kernel_rfl
    case hbb4 => kernel_rfl
    case hcb4 => kernel_rfl
    case hdb4 => kernel_rfl
    case hwb4 => rfl
    case hyb4 => intro w' hSw; obtain ⟨s0, s1⟩ := hSw; go_simp; try with_reducible rfl
    clear hcl
    intro hcl
    try simp only [Act.put, List.setIfInBounds_toArray, List.set_cons_zero, List.set_cons_succ]
    refine anyT_take (i := 5) (oi := ?ob5) (v := ?vb5) ?hib5 ?hab5 ?hbb5 ?hcb5 ?hdb5 ?hqb5 (Or.inl ⟨?hwb5, ?hyb5⟩) hS hcl ?restb5
    case hib5 => simp only [List.getElem?_toArray, List.getElem?_cons_succ, List.getElem?_cons_zero]; rfl
    case hqb5 => exact fun _ _ _ h => h
    case hab5 => kernel_rfl
    case hbb5 => kernel_rfl
    case hcb5 => kernel_rfl
    case hdb5 => kernel_rfl
    case hwb5 => rfl
    case hyb5 => intro w' hSw; obtain ⟨s0, s1⟩ := hSw; go_simp; try with_reducible rfl
    clear hcl
    intro hcl
    try simp only [Act.put, List.setIfInBounds_toArray, List.set_cons_zero, List.set_cons_succ]
    refine anyT_take (i := 6) (oi := ?ob6) (v := ?vb6) ?hib6 ?hab6 ?hbb6 ?hcb6 ?hdb6 ?hqb6 (Or.inl ⟨?hwb6, ?hyb6⟩) hS hcl ?restb6
    case hib6 => simp only [List.getElem?_toArray, List.getElem?_cons_succ, List.getElem?_cons_zero]; rfl
    case hqb6 => exact fun _ _ _ h => h
    case hab6 => kernel_rfl
    case hbb6 => kernel_rfl
    case hcb6 => kernel_rfl
    case hdb6 => kernel_rfl
    case hwb6 => rfl
    case hyb6 => intro w' hSw; obtain ⟨s0, s1⟩ := hSw; go_simp; try with_reducible rfl
    clear hcl
    intro hcl
    try simp only [Act.put, List.setIfInBounds_toArray, List.set_cons_zero, List.set_cons_succ]
    refine anyT_take (i := 7) (oi := ?ob7) (v := ?vb7) ?hib7 ?hab7 ?hbb7 ?hcb7 ?hdb7 ?hqb7 (Or.inl ⟨?hwb7, ?hyb7⟩) hS hcl ?restb7
    case hib7 => simp only [List.getElem?_toArray, List.getElem?_cons_succ, List.getElem?_cons_zero]; rfl
    case hqb7 => exact fun _ _ _ h => h
    case hab7 => kernel_rfl
    case hbb7 => kernel_rfl
    case hcb7 => kernel_rfl
    case hdb7 => kernel_rfl
    case hwb7 => rfl
    case hyb7 => intro w' hSw; obtain ⟨s0, s1⟩ := hSw; go_simp; try with_reducible rfl
    clear hcl
    intro hcl
    try simp only [Act.put, List.setIfInBounds_toArray, List.set_cons_zero, List.set_cons_succ]
    refine anyT_take (i := 8) (oi := ?ob8) (v := ?vb8) ?hib8 ?hab8 ?hbb8 ?hcb8 ?hdb8 ?hqb8 (Or.inl ⟨?hwb8, ?hyb8⟩) hS hcl ?restb8
    case hib8 => simp only [List.getElem?_toArray, List.getElem?_cons_succ, List.getElem?_cons_zero]; rfl
    case hqb8 => exact fun _ _ _ h => h
    case hab8 => kernel_rfl
    case hbb8 => kernel_rfl
    case hcb8 => kernel_rfl
    case hdb8 => kernel_rfl
    case hwb8 => rfl
    case hyb8 => intro w' hSw; obtain ⟨s0, s1⟩ := hSw; go_simp; try with_reducible rfl
    clear hcl
    intro hcl
    try simp only [Act.put, List.setIfInBounds_toArray, List.set_cons_zero, List.set_cons_succ]
    refine anyT_last (k := 9) (o := ?ob9) ?hib9 (by kernel_rfl) (by kernel_rfl) hcl ?restb9
    case hib9 => simp only [List.getElem?_toArray, List.getElem?_cons_succ, List.getElem?_cons_zero]; rfl
    intro K hK
    go_simp
    clear hS
    refine hK.out _ _ (fun hcl => ?_)
    clear hK K
    try simp only [Act.put, List.setIfInBounds_toArray, List.set_cons_zero, List.set_cons_succ]
    refine anyT_last (k := 10) (o := ?ob10) ?hib10 (by kernel_rfl) (by kernel_rfl) hcl ?restb10
    case hib10 => simp only [List.getElem?_toArray, List.getElem?_cons_succ, List.getElem?_cons_zero]; rfl
    intro K hK
    go_simp
    go_at_call 66
    (with_reducible refine HCC.out.mono ?_)
    rintro e w3 ⟨v3, rfl, hO, hB⟩
    obtain ⟨A3, k3, rfl, hR⟩ := Rd.of_own hO
    have hB3 : Below W2.heap.size W2 w3 := thn ((below1 _ _).drew) hB
    have htot : tot [strs l.vs, strs r.vs] = l.vs.length + r.vs.length := by simp [tot, strs_len]
    have hflt : flt [strs l.vs, strs r.vs] = strs (l.vs ++ r.vs) := by simp [flt, strs_app]
    rw [htot, hflt] at hR
    rw [htot]
    have HBm := Lib.hid (HB2.out.below hB3)
    have HLn := Lib.hid (HL2.out.below hB3)
    have HRm := Lib.hid (HR2.out.below hB3)
    have HFm := Lib.hid (HF2.out.thn hB3)
    have HRD := Lib.hid hR
    clear hO hB hcl hR HCC htot hflt hB3
    obtain ⟨d0, d1, d2⟩ := HLn.out.cells
    have fr1 := HLn.out.free 1
    refine hK.out _ _ (fun hcl => ?_)
    clear hK K
    try simp only [Act.put, List.setIfInBounds_toArray, List.set_cons_zero, List.set_cons_succ]
    refine anyT_free (i := 11) (oi := ?ob11) (v := ?vb11) ?hib11 ?hab11 ?hbb11 ?hcb11 ?hdb11 ?hqb11 (Or.inl ⟨?hwb11, ?hyb11⟩) hcl ?restb11
    case hib11 => simp only [List.getElem?_toArray, List.getElem?_cons_succ, List.getElem?_cons_zero]; rfl
    case hqb11 => exact fun _ _ _ h => h
    case hab11 => kernel_rfl
    case hbb11 => kernel_rfl
    case hcb11 => kernel_rfl
    case hdb11 => kernel_rfl
    case hwb11 => rfl
    case hyb11 => intro w' _; go_simp; try with_reducible rfl
    clear hcl
    intro hcl
    try simp only [Act.put, List.setIfInBounds_toArray, List.set_cons_zero, List.set_cons_succ]
    refine anyT_free (i := 12) (oi := ?ob12) (v := ?vb12) ?hib12 ?hab12 ?hbb12 ?hcb12 ?hdb12 ?hqb12 (Or.inl ⟨?hwb12, ?hyb12⟩) hcl ?restb12
    case hib12 => simp only [List.getElem?_toArray, List.getElem?_cons_succ, List.getElem?_cons_zero]; rfl
    case hqb12 => exact fun _ _ _ h => h
    case hab12 => kernel_rfl
    case hbb12 => kernel_rfl
    case hcb12 => kernel_rfl
    case hdb12 => kernel_rfl
    case hwb12 => rfl
    case hyb12 => intro w' _; go_simp; try with_reducible rfl
    clear hcl
    intro hcl
    try simp only [Act.put, List.setIfInBounds_toArray, List.set_cons_zero, List.set_cons_succ]
    refine anyT_last (k := 13) (o := ?ob13) ?hib13 (by kernel_rfl) (by kernel_rfl) hcl ?restb13
    case hib13 => simp only [List.getElem?_toArray, List.getElem?_cons_succ, List.getElem?_cons_zero]; rfl
    intro K hK
    go_simp
    clear hcl
    have hs1 := Fr.set (.slice A3 (l.vs.length + r.vs.length) k3) HLn.out.cells.2.1 rfl
    have HL3 := Lib.hid (HLn.out.setV (vs := l.vs ++ r.vs) HRD.out)
    have HB3 := Lib.hid (HBm.out.fr hs1 n1)
    have HR3 := Lib.hid (HRm.out.fr hs1 (Ne.symm n3))
    have HF3 := Lib.hid (HFm.out.trans hs1 fun x hx hl => .inr hx)
    clear hs1 fr1 d0 d1 d2 HLn HBm HRm HFm HRD
    generalize World.setCell _ _ _ = W3 at HL3 HB3 HR3 HF3 hK ⊢
    refine hK.out _ _ (fun hcl => ?_)
    clear hK K
    refine anyT_done (by kernel_rfl) ?_ _
    go_simp
    clear hcl
    obtain ⟨c0, c1, c2⟩ := HB3.out.cells
    obtain ⟨d0, d1, d2⟩ := HL3.out.cells
    obtain ⟨e0, e1, e2⟩ := HR3.out.cells
    try simp only [Tr.ks_mk, Tr.vs_mk, Tr.cs_mk] at d0 d1 d2
    go_upto_region 7 with fail
    have HCC := Lib.hid (show Calls Try.prog 67 #[.slice (some ⟨W3.heap.size, 0, none⟩) 2 2] ((W3.alloc (.cells #[.slice hl.cA l.cs.length hl.cc, .slice hr.cA r.cs.length hr.cc] 97)).drew) _ from concatB_any _ 2 2 [ptrs gsl, ptrs gsr] _ rfl ((two_parts HL3.out.c HR3.out.c).below (Below.refl _ _).drew) (fun x hx => by simp at hx; rcases hx with rfl | rfl <;> exact ptrs_one _) (by simp [tot, ptrs_len, HL1n.out, HR1n.out]; omega) (by simp))
    refine region_anyT (fun w' => w'.cell? ⟨gl, 2, none⟩ = some (.slice hl.cA l.cs.length hl.cc) ∧ w'.cell? ⟨gr, 2, none⟩ = some (.slice hr.cA r.cs.length hr.cc)) [1, 2, 3, 4, 5, 6, 7, 8] (by kernel_rfl) ⟨d2, e2⟩ ?_
    intro hcl hS
    clear c0 c1 c2 d0 d1 d2 e0 e1 e2
    refine anyT_free (i := 0) (oi := ?oc0) (v := ?vc0) ?hic0 ?hac0 ?hbc0 ?hcc0 ?hdc0 ?hqc0 (Or.inl ⟨?hwc0, ?hyc0⟩) hcl ?restc0
    case hic0 => simp only [List.getElem?_toArray, List.getElem?_cons_succ, List.getElem?_cons_zero]; rfl
    case hqc0 => exact fun _ _ _ h => h
    case hac0 => kernel_rfl
    case hbc0 => kernel_rfl
    case hcc0 => kernel_rfl
    case hdc0 => kernel_rfl
    case hwc0 => rfl
    case hyc0 => intro w' _; go_simp; try with_reducible rfl
    clear hcl
    intro hcl
    try simp only [Act.put, List.setIfInBounds_toArray, List.set_cons_zero, List.set_cons_succ]
    refine anyT_take (i := 1) (oi := ?oc1) (v := ?vc1) ?hic1 ?hac1 ?hbc1 ?hcc1 ?hdc1 ?hqc1 (Or.inl ⟨?hwc1, ?hyc1⟩) hS hcl ?restc1
    case hic1 => simp only [List.getElem?_toArray, List.getElem?_cons_succ, List.getElem?_cons_zero]; rfl
    case hqc1 => exact fun _ _ _ h => h
    case hac1 => kernel_rfl
    case hbc1 => kernel_rfl
    case hcc1 => kernel_rfl
    case hdc1 => kernel_rfl
    case hwc1 => rfl
    case hyc1 => intro w' hSw; obtain ⟨s0, s1⟩ := hSw; go_simp; try with_reducible rfl
    clear hcl
    intro hcl
    try simp only [Act.put, List.setIfInBounds_toArray, List.set_cons_zero, List.set_cons_succ]
    refine anyT_take (i := 2) (oi := ?oc2) (v := ?vc2) ?hic2 ?hac2 ?hbc2 ?hcc2 ?hdc2 ?hqc2 (Or.inl ⟨?hwc2, ?hyc2⟩) hS hcl ?restc2
    case hic2 => simp only [List.getElem?_toArray, List.getElem?_cons_succ, List.getElem?_cons_zero]; rfl
    case hqc2 => exact fun _ _ _ h => h
    case hac2 => kernel_rfl
    case hbc2 => kernel_rfl
    case hcc2 => kernel_rfl
    case hdc2 => kernel_rfl
    case hwc2 => rfl
    case hyc2 => intro w' hSw; obtain ⟨s0, s1⟩ := hSw; go_simp; try with_reducible rfl
    clear hcl
    intro hcl
    try simp only [Act.put, List.setIfInBounds_toArray, List.set_cons_zero, List.set_cons_succ]
    refine anyT_take (i := 3) (oi := ?oc3) (v := ?vc3) ?hic3 ?hac3 ?hbc3 ?hcc3 ?hdc3 ?hqc3 (Or.inl ⟨?hwc3, ?hyc3⟩) hS hcl ?restc3
    case hic3 => simp only [List.getElem?_toArray, List.getElem?_cons_succ, List.getElem?_cons_zero]; rfl
    case hqc3 => exact fun _ _ _ h => h
    case hac3 => kernel_rfl
    case hbc3 => kernel_rfl
    case hcc3 => kernel_rfl
    case hdc3 => kernel_rfl
    case hwc3 => rfl
    case hyc3 => intro w' hSw; obtain ⟨s0, s1⟩ := hSw; go_simp; try with_reducible rfl
    clear hcl
    intro hcl
    try simp only [Act.put, List.setIfInBounds_toArray, List.set_cons_zero, List.set_cons_succ]
    refine anyT_take (i := 4) (oi := ?oc4) (v := ?vc4) ?hic4 ?hac4 ?hbc4 ?hcc4 ?hdc4 ?hqc4 (Or.inl ⟨?hwc4, ?hyc4⟩) hS hcl ?restc4
    case hic4 => simp only [List.getElem?_toArray, List.getElem?_cons_succ, List.getElem?_cons_zero]; rfl
    case hqc4 => exact fun _ _ _ h => h
    case hac4 => kernel_rfl
    case hbc4 => kernel_rfl
    case hcc4 => kernel_rfl
    case hdc4 => kernel_rfl
    case hwc4 => rfl
    case hyc4 => intro w' hSw; obtain ⟨s0, s1⟩ := hSw; go_simp; try with_reducible rfl
    clear hcl
    intro hcl
    try simp only [Act.put, List.setIfInBounds_toArray, List.set_cons_zero, List.set_cons_succ]
    refine anyT_take (i := 5) (oi := ?oc5) (v := ?vc5) ?hic5 ?hac5 ?hbc5 ?hcc5 ?hdc5 ?hqc5 (Or.inl ⟨?hwc5, ?hyc5⟩) hS hcl ?restc5
    case hic5 => simp only [List.getElem?_toArray, List.getElem?_cons_succ, List.getElem?_cons_zero]; rfl
    case hqc5 => exact fun _ _ _ h => h
    case hac5 => kernel_rfl
    case hbc5 => kernel_rfl
    case hcc5 => kernel_rfl
    case hdc5 => kernel_rfl
    case hwc5 => rfl
    case hyc5 => intro w' hSw; obtain ⟨s0, s1⟩ := hSw; go_simp; try with_reducible rfl
    clear hcl
    intro hcl
    try simp only [Act.put, List.setIfInBounds_toArray, List.set_cons_zero, List.set_cons_succ]
    refine anyT_take (i := 6) (oi := ?oc6) (v := ?vc6) ?hic6 ?hac6 ?hbc6 ?hcc6 ?hdc6 ?hqc6 (Or.inl ⟨?hwc6, ?hyc6⟩) hS hcl ?restc6
    case hic6 => simp only [List.getElem?_toArray, List.getElem?_cons_succ, List.getElem?_cons_zero]; rfl
    case hqc6 => exact fun _ _ _ h => h
    case hac6 => kernel_rfl
    case hbc6 => kernel_rfl
    case hcc6 => kernel_rfl
    case hdc6 => kernel_rfl
    case hwc6 => rfl
    case hyc6 => intro w' hSw; obtain ⟨s0, s1⟩ := hSw; go_simp; try with_reducible rfl
    clear hcl
    intro hcl
    try simp only [Act.put, List.setIfInBounds_toArray, List.set_cons_zero, List.set_cons_succ]
    refine anyT_take (i := 7) (oi := ?oc7) (v := ?vc7) ?hic7 ?hac7 ?hbc7 ?hcc7 ?hdc7 ?hqc7 (Or.inl ⟨?hwc7, ?hyc7⟩) hS hcl ?restc7
    case hic7 => simp only [List.getElem?_toArray, List.getElem?_cons_succ, List.getElem?_cons_zero]; rfl
    case hqc7 => exact fun _ _ _ h => h
    case hac7 => kernel_rfl
    case hbc7 => kernel_rfl
    case hcc7 => kernel_rfl
    case hdc7 => kernel_rfl
    case hwc7 => rfl
    case hyc7 => intro w' hSw; obtain ⟨s0, s1⟩ := hSw; go_simp; try with_reducible rfl
    clear hcl
    intro hcl
    try simp only [Act.put, List.setIfInBounds_toArray, List.set_cons_zero, List.set_cons_succ]
    refine anyT_take (i := 8) (oi := ?oc8) (v := ?vc8) ?hic8 ?hac8 ?hbc8 ?hcc8 ?hdc8 ?hqc8 (Or.inl ⟨?hwc8, ?hyc8⟩) hS hcl ?restc8
    case hic8 => simp only [List.getElem?_toArray, List.getElem?_cons_succ, List.getElem?_cons_zero]; rfl
    case hqc8 => exact fun _ _ _ h => h
    case hac8 => kernel_rfl
    case hbc8 => kernel_rfl
    case hcc8 => kernel_rfl
    case hdc8 => kernel_rfl
    case hwc8 => rfl
    case hyc8 => intro w' hSw; obtain ⟨s0, s1⟩ := hSw; go_simp; try with_reducible rfl
    clear hcl
    intro hcl
    try simp only [Act.put, List.setIfInBounds_toArray, List.set_cons_zero, List.set_cons_succ]
    refine anyT_last (k := 9) (o := ?oc9) ?hic9 (by kernel_rfl) (by kernel_rfl) hcl ?restc9
    case hic9 => simp only [List.getElem?_toArray, List.getElem?_cons_succ, List.getElem?_cons_zero]; rfl
    intro K hK
    go_simp
    clear hS
    refine hK.out _ _ (fun hcl => ?_)
    clear hK K
    try simp only [Act.put, List.setIfInBounds_toArray, List.set_cons_zero, List.set_cons_succ]
    refine anyT_last (k := 10) (o := ?oc10) ?hic10 (by kernel_rfl) (by kernel_rfl) hcl ?restc10
    case hic10 => simp only [List.getElem?_toArray, List.getElem?_cons_succ, List.getElem?_cons_zero]; rfl
    intro K hK
    go_simp
    go_at_call 67
    (with_reducible refine HCC.out.mono ?_)
    rintro e w3 ⟨v3, rfl, hO, hB⟩
    obtain ⟨A3, k3, rfl, hR⟩ := Rd.of_own hO
    have hB3 : Below W3.heap.size W3 w3 := thn ((below1 _ _).drew) hB
    have htot : tot [ptrs gsl, ptrs gsr] = l.cs.length + r.cs.length := by simp [tot, ptrs_len, HL1n.out, HR1n.out]
    have hflt : flt [ptrs gsl, ptrs gsr] = ptrs (gsl ++ gsr) := by simp [flt, ptrs_app]
    rw [htot, hflt] at hR
    rw [htot]
    have HBm := Lib.hid (HB3.out.below hB3)
    have HLn := Lib.hid (HL3.out.below hB3)
    have HRm := Lib.hid (HR3.out.below hB3)
    have HFm := Lib.hid (HF3.out.thn hB3)
    have HRD := Lib.hid hR
    clear hO hB hcl hR HCC htot hflt hB3
    obtain ⟨d0, d1, d2⟩ := HLn.out.cells
    have fr2 := HLn.out.free 2
    refine hK.out _ _ (fun hcl => ?_)
    clear hK K
    try simp only [Act.put, List.setIfInBounds_toArray, List.set_cons_zero, List.set_cons_succ]
    refine anyT_free (i := 11) (oi := ?oc11) (v := ?vc11) ?hic11 ?hac11 ?hbc11 ?hcc11 ?hdc11 ?hqc11 (Or.inl ⟨?hwc11, ?hyc11⟩) hcl ?restc11
    case hic11 => simp only [List.getElem?_toArray, List.getElem?_cons_succ, List.getElem?_cons_zero]; rfl
    case hqc11 => exact fun _ _ _ h => h
    case hac11 => kernel_rfl
    case hbc11 => kernel_rfl
    case hcc11 => kernel_rfl
    case hdc11 => kernel_rfl
    case hwc11 => rfl
    case hyc11 => intro w' _; go_simp; try with_reducible rfl
    clear hcl
    intro hcl
    try simp only [Act.put, List.setIfInBounds_toArray, List.set_cons_zero, List.set_cons_succ]
    refine anyT_free (i := 12) (oi := ?oc12) (v := ?vc12) ?hic12 ?hac12 ?hbc12 ?hcc12 ?hdc12 ?hqc12 (Or.inl ⟨?hwc12, ?hyc12⟩) hcl ?restc12
    case hic12 => simp only [List.getElem?_toArray, List.getElem?_cons_succ, List.getElem?_cons_zero]; rfl
    case hqc12 => exact fun _ _ _ h => h
    case hac12 => kernel_rfl
    case hbc12 => kernel_rfl
    case hcc12 => kernel_rfl
    case hdc12 => kernel_rfl
    case hwc12 => rfl
    case hyc12 => intro w' _; go_simp; try with_reducible rfl
    clear hcl
    intro hcl
    try simp only [Act.put, List.setIfInBounds_toArray, List.set_cons_zero, List.set_cons_succ]
    refine anyT_last (k := 13) (o := ?oc13) ?hic13 (by kernel_rfl) (by kernel_rfl) hcl ?restc13
    case hic13 => simp only [List.getElem?_toArray, List.getElem?_cons_succ, List.getElem?_cons_zero]; rfl
    intro K hK
    go_simp
    clear hcl
    have hs1 := Fr.set (.slice A3 (l.cs.length + r.cs.length) k3) HLn.out.cells.2.2 rfl
    have HL4 := Lib.hid (HLn.out.setC (gs' := gsl ++ gsr) HRD.out (l.cs ++ r.cs) (by simp))
    have HB4 := Lib.hid (HBm.out.fr hs1 n1)
    have HR4 := Lib.hid (HRm.out.fr hs1 (Ne.symm n3))
    have HF4 := Lib.hid (HFm.out.trans hs1 fun x hx hl => .inr hx)
    clear hs1 fr2 d0 d1 d2 HLn HBm HRm HFm HRD
    generalize World.setCell _ _ _ = W4 at HL4 HB4 HR4 HF4 hK ⊢
    refine hK.out _ _ (fun hcl => ?_)
    clear hK K
    refine anyT_done (by kernel_rfl) ?_ _
    go_simp
    clear hcl
    clear HR4 HR1n HBT HKB hbl hak ha
    obtain ⟨c0, c1, c2⟩ := HB4.out.cells
    have HCS := Lib.hid (remS_any h.kA p.ks.length h.kc i (strs p.ks) W4.drew (HB4.out.below (Below.refl _ _).drew).k (strs_one _) (by omega) hik)
    have HCB := Lib.hid fun (W : World) (hw : Below W4.heap.size W4 W) => remB_any h.cA p.cs.length h.cc (i + 1) (ptrs gs) W (HB4.out.below hw).c (ptrs_one _) (by omega) hic
    push_cast at HCB
    go_upto_region 8 with fail
    refine region_anyT (fun w' => w'.cell? ⟨g, 0, none⟩ = some (.slice h.kA p.ks.length h.kc) ∧ w'.cell? ⟨g, 2, none⟩ = some (.slice h.cA p.cs.length h.cc)) [5, 7, 11] (by kernel_rfl) ⟨c0, c2⟩ ?_
    intro hcl hS
    clear c0 c1 c2
    refine anyT_free (i := 0) (oi := ?od0) (v := ?vd0) ?hid0 ?had0 ?hbd0 ?hcd0 ?hdd0 ?hqd0 (Or.inl ⟨?hwd0, ?hyd0⟩) hcl ?restd0
    case hid0 => simp only [List.getElem?_toArray, List.getElem?_cons_succ, List.getElem?_cons_zero]; rfl
    case hqd0 => exact fun _ _ _ h => h
    case had0 => kernel_rfl
    case hbd0 => kernel_rfl
    case hcd0 => kernel_rfl
    case hdd0 => kernel_rfl
    case hwd0 => rfl
    case hyd0 => intro w' _; go_simp; try with_reducible rfl
    clear hcl
    intro hcl
    try simp only [Act.put, List.setIfInBounds_toArray, List.set_cons_zero, List.set_cons_succ]
    refine anyT_free (i := 1) (oi := ?od1) (v := ?vd1) ?hid1 ?had1 ?hbd1 ?hcd1 ?hdd1 ?hqd1 (Or.inl ⟨?hwd1, ?hyd1⟩) hcl ?restd1
    case hid1 => simp only [List.getElem?_toArray, List.getElem?_cons_succ, List.getElem?_cons_zero]; rfl
    case hqd1 => exact fun _ _ _ h => h
    case had1 => kernel_rfl
    case hbd1 => kernel_rfl
    case hcd1 => kernel_rfl
    case hdd1 => kernel_rfl
    case hwd1 => rfl
    case hyd1 => intro w' _; go_simp; try with_reducible rfl
    clear hcl
    intro hcl
    try simp only [Act.put, List.setIfInBounds_toArray, List.set_cons_zero, List.set_cons_succ]
    refine anyT_free (i := 2) (oi := ?od2) (v := ?vd2) ?hid2 ?had2 ?hbd2 ?hcd2 ?hdd2 ?hqd2 (Or.inl ⟨?hwd2, ?hyd2⟩) hcl ?restd2
    case hid2 => simp only [List.getElem?_toArray, List.getElem?_cons_succ, List.getElem?_cons_zero]; rfl
    case hqd2 => exact fun _ _ _ h => h
    case had2 => kernel_rfl
    case hbd2 => kernel_rfl
    case hcd2 => kernel_rfl
    case hdd2 => kernel_rfl
    case hwd2 => rfl
    case hyd2 => intro w' _; go_simp; try with_reducible rfl
    clear hcl
    intro hcl
    try simp only [Act.put, List.setIfInBounds_toArray, List.set_cons_zero, List.set_cons_succ]
    refine anyT_free (i := 3) (oi := ?od3) (v := ?vd3) ?hid3 ?had3 ?hbd3 ?hcd3 ?hdd3 ?hqd3 (Or.inl ⟨?hwd3, ?hyd3⟩) hcl ?restd3
    case hid3 => simp only [List.getElem?_toArray, List.getElem?_cons_succ, List.getElem?_cons_zero]; rfl
    case hqd3 => exact fun _ _ _ h => h
    case had3 => kernel_rfl
    case hbd3 => kernel_rfl
    case hcd3 => kernel_rfl
    case hdd3 => kernel_rfl
    case hwd3 => rfl
    case hyd3 => intro w' _; go_simp; try with_reducible rfl
    clear hcl
    intro hcl
    try simp only [Act.put, List.setIfInBounds_toArray, List.set_cons_zero, List.set_cons_succ]
    refine anyT_free (i := 4) (oi := ?od4) (v := ?vd4) ?hid4 ?had4 ?hbd4 ?hcd4 ?hdd4 ?hqd4 (Or.inl ⟨?hwd4, ?hyd4⟩) hcl ?restd4
    case hid4 => simp only [List.getElem?_toArray, List.getElem?_cons_succ, List.getElem?_cons_zero]; rfl
    case hqd4 => exact fun _ _ _ h => h
    case had4 => kernel_rfl
    case hbd4 => kernel_rfl
    case hcd4 => kernel_rfl
    case hdd4 => kernel_rfl
    case hwd4 => rfl
    case hyd4 => intro w' _; go_simp; try with_reducible rfl
    clear hcl
    intro hcl
    try simp only [Act.put, List.setIfInBounds_toArray, List.set_cons_zero, List.set_cons_succ]
    refine anyT_free (i := 6) (oi := ?od6) (v := ?vd6) ?hid6 ?had6 ?hbd6 ?hcd6 ?hdd6 ?hqd6 (Or.inl ⟨?hwd6, ?hyd6⟩) hcl ?restd6
    case hid6 => simp only [List.getElem?_toArray, List.getElem?_cons_succ, List.getElem?_cons_zero]; rfl
    case hqd6 => exact fun _ _ _ h => h
    case had6 => kernel_rfl
    case hbd6 => kernel_rfl
    case hcd6 => kernel_rfl
    case hdd6 => kernel_rfl
    case hwd6 => rfl
    case hyd6 => intro w' _; go_simp; try with_reducible rfl
    clear hcl
    intro hcl
    try simp only [Act.put, List.setIfInBounds_toArray, List.set_cons_zero, List.set_cons_succ]
    refine anyT_free (i := 8) (oi := ?od8) (v := ?vd8) ?hid8 ?had8 ?hbd8 ?hcd8 ?hdd8 ?hqd8 (Or.inl ⟨?hwd8, ?hyd8⟩) hcl ?restd8
    case hid8 => simp only [List.getElem?_toArray, List.getElem?_cons_succ, List.getElem?_cons_zero]; rfl
    case hqd8 => exact fun _ _ _ h => h
    case had8 => kernel_rfl
    case hbd8 => kernel_rfl
    case hcd8 => kernel_rfl
    case hdd8 => kernel_rfl
    case hwd8 => rfl
    case hyd8 => intro w' _; go_simp; try with_reducible rfl
    clear hcl
    intro hcl
    try simp only [Act.put, List.setIfInBounds_toArray, List.set_cons_zero, List.set_cons_succ]
    refine anyT_free (i := 9) (oi := ?od9) (v := ?vd9) ?hid9 ?had9 ?hbd9 ?hcd9 ?hdd9 ?hqd9 (Or.inl ⟨?hwd9, ?hyd9⟩) hcl ?restd9
    case hid9 => simp only [List.getElem?_toArray, List.getElem?_cons_succ, List.getElem?_cons_zero]; rfl
    case hqd9 => exact fun _ _ _ h => h
    case had9 => kernel_rfl
    case hbd9 => kernel_rfl
    case hcd9 => kernel_rfl
    case hdd9 => kernel_rfl
    case hwd9 => rfl
    case hyd9 => intro w' _; go_simp; try with_reducible rfl
    clear hcl
    intro hcl
    try simp only [Act.put, List.setIfInBounds_toArray, List.set_cons_zero, List.set_cons_succ]
    refine anyT_free (i := 10) (oi := ?od10) (v := ?vd10) ?hid10 ?had10 ?hbd10 ?hcd10 ?hdd10 ?hqd10 (Or.inl ⟨?hwd10, ?hyd10⟩) hcl ?restd10
    case hid10 => simp only [List.getElem?_toArray, List.getElem?_cons_succ, List.getElem?_cons_zero]; rfl
    case hqd10 => exact fun _ _ _ h => h
    case had10 => kernel_rfl
    case hbd10 => kernel_rfl
    case hcd10 => kernel_rfl
    case hdd10 => kernel_rfl
    case hwd10 => rfl
    case hyd10 => intro w' _; go_simp; try with_reducible rfl
    clear hcl
    intro hcl
    try simp only [Act.put, List.setIfInBounds_toArray, List.set_cons_zero, List.set_cons_succ]
    refine anyT_free (i := 12) (oi := ?od12) (v := ?vd12) ?hid12 ?had12 ?hbd12 ?hcd12 ?hdd12 ?hqd12 (Or.inl ⟨?hwd12, ?hyd12⟩) hcl ?restd12
    case hid12 => simp only [List.getElem?_toArray, List.getElem?_cons_succ, List.getElem?_cons_zero]; rfl
    case hqd12 => exact fun _ _ _ h => h
    case had12 => kernel_rfl
    case hbd12 => kernel_rfl
    case hcd12 => kernel_rfl
    case hdd12 => kernel_rfl
    case hwd12 => rfl
    case hyd12 => intro w' _; go_simp; try with_reducible rfl
    clear hcl
    intro hcl
    try simp only [Act.put, List.setIfInBounds_toArray, List.set_cons_zero, List.set_cons_succ]
    refine anyT_free (i := 13) (oi := ?od13) (v := ?vd13) ?hid13 ?had13 ?hbd13 ?hcd13 ?hdd13 ?hqd13 (Or.inl ⟨?hwd13, ?hyd13⟩) hcl ?restd13
    case hid13 => simp only [List.getElem?_toArray, List.getElem?_cons_succ, List.getElem?_cons_zero]; rfl
    case hqd13 => exact fun _ _ _ h => h
    case had13 => kernel_rfl
    case hbd13 => kernel_rfl
    case hcd13 => kernel_rfl
    case hdd13 => kernel_rfl
    case hwd13 => rfl
    case hyd13 => intro w' _; go_simp; try with_reducible rfl
    clear hcl
    intro hcl
    try simp only [Act.put, List.setIfInBounds_toArray, List.set_cons_zero, List.set_cons_succ]
    refine anyT_take (i := 5) (oi := ?od5) (v := ?vd5) ?hid5 ?had5 ?hbd5 ?hcd5 ?hdd5 ?hqd5 (Or.inl ⟨?hwd5, ?hyd5⟩) hS hcl ?restd5
    case hid5 => simp only [List.getElem?_toArray, List.getElem?_cons_succ, List.getElem?_cons_zero]; rfl
    case hqd5 => exact fun _ _ _ h => h
    case had5 => kernel_rfl
    case hbd5 => kernel_rfl
    case hcd5 => kernel_rfl
    case hdd5 => kernel_rfl
    case hwd5 => rfl
    case hyd5 => intro w' hSw; obtain ⟨s0, s1⟩ := hSw; go_simp; try with_reducible rfl
    clear hcl
    intro hcl
    try simp only [Act.put, List.setIfInBounds_toArray, List.set_cons_zero, List.set_cons_succ]
    refine anyT_take (i := 11) (oi := ?od11) (v := ?vd11) ?hid11 ?had11 ?hbd11 ?hcd11 ?hdd11 ?hqd11 (Or.inl ⟨?hwd11, ?hyd11⟩) hS hcl ?restd11
    case hid11 => simp only [List.getElem?_toArray, List.getElem?_cons_succ, List.getElem?_cons_zero]; rfl
    case hqd11 => exact fun _ _ _ h => h
    case had11 => kernel_rfl
    case hbd11 => kernel_rfl
    case hcd11 => kernel_rfl
    case hdd11 => kernel_rfl
    case hwd11 => rfl
    case hyd11 => intro w' hSw; obtain ⟨s0, s1⟩ := hSw; go_simp; try with_reducible rfl
    clear hcl
    intro hcl
    try simp only [Act.put, List.setIfInBounds_toArray, List.set_cons_zero, List.set_cons_succ]
    refine anyT_step (k := 7) (o := ?od7) ?hid7 (by kernel_rfl) hcl ?restd7
    case hid7 => simp only [List.getElem?_toArray, List.getElem?_cons_succ, List.getElem?_cons_zero]; rfl
    intro K hK
    go_simp
    go_at_call 62
    (with_reducible refine HCS.out.mono ?_)
    rintro e w5 ⟨v5, rfl, hO, hB⟩
    obtain ⟨A5, k5, rfl, hR5⟩ := Rd.of_own hO
    have HB5 := Lib.hid (show Below W4.heap.size W4 w5 from (Below.refl _ _).drew.trans hB)
    have HR5 := Lib.hid hR5
    clear hO hB hR5 hS hcl
    refine hK.out _ _ (by obtain ⟨c0, c1, c2⟩ := (HB4.out.below HB5.out).cells; exact ⟨c0, c2⟩) (fun hS hcl => ?_)
    clear hK K hS
    try simp only [Act.put, List.setIfInBounds_toArray, List.set_cons_zero, List.set_cons_succ]
    refine anyT_last (k := 14) (o := ?od14) ?hid14 (by kernel_rfl) (by kernel_rfl) hcl ?restd14
    case hid14 => simp only [List.getElem?_toArray, List.getElem?_cons_succ, List.getElem?_cons_zero]; rfl
    intro K hK
    go_simp
    go_at_call 68
    (with_reducible refine (HCB.out _ HB5.out).mono ?_)
    rintro e w6 ⟨v6, rfl, hO2, hB2⟩
    obtain ⟨A6, k6, rfl, hR6⟩ := Rd.of_own hO2
    have hB6 := HB5.out.trans (hB2.mono HB5.out.size)
    have HG6 := Lib.hid (HB4.out.below hB6)
    have HL6 := Lib.hid (HL4.out.below hB6)
    have HF6 := Lib.hid (HF4.out.thn hB6)
    have HK6 := Lib.hid (HR5.out.below hB2)
    have HC6 := Lib.hid hR6
    clear hO2 hB2 hcl HB5 HR5 HCS HCB hR6 hB6
    obtain ⟨c0, c1, c2⟩ := HG6.out.cells
    have fr0 := HG6.out.free 0
    refine hK.out _ _ (fun hcl => ?_)
    clear hK K
    try simp only [Act.put, List.setIfInBounds_toArray, List.set_cons_zero, List.set_cons_succ]
    refine anyT_free (i := 15) (oi := ?od15) (v := ?vd15) ?hid15 ?had15 ?hbd15 ?hcd15 ?hdd15 ?hqd15 (Or.inl ⟨?hwd15, ?hyd15⟩) hcl ?restd15
    case hid15 => simp only [List.getElem?_toArray, List.getElem?_cons_succ, List.getElem?_cons_zero]; rfl
    case hqd15 => exact fun _ _ _ h => h
    case had15 => kernel_rfl
    case hbd15 => kernel_rfl
    case hcd15 => kernel_rfl
    case hdd15 => kernel_rfl
    case hwd15 => rfl
    case hyd15 => intro w' _; go_simp; try with_reducible rfl
    clear hcl
    intro hcl
    try simp only [Act.put, List.setIfInBounds_toArray, List.set_cons_zero, List.set_cons_succ]
    refine anyT_free (i := 16) (oi := ?od16) (v := ?vd16) ?hid16 ?had16 ?hbd16 ?hcd16 ?hdd16 ?hqd16 (Or.inl ⟨?hwd16, ?hyd16⟩) hcl ?restd16
    case hid16 => simp only [List.getElem?_toArray, List.getElem?_cons_succ, List.getElem?_cons_zero]; rfl
    case hqd16 => exact fun _ _ _ h => h
    case had16 => kernel_rfl
    case hbd16 => kernel_rfl
    case hcd16 => kernel_rfl
    case hdd16 => kernel_rfl
    case hwd16 => rfl
    case hyd16 => intro w' _; go_simp; try with_reducible rfl
    clear hcl
    intro hcl
    try simp only [Act.put, List.setIfInBounds_toArray, List.set_cons_zero, List.set_cons_succ]
    refine anyT_last (k := 17) (o := ?od17) ?hid17 (by kernel_rfl) (by kernel_rfl) hcl ?restd17
    case hid17 => simp only [List.getElem?_toArray, List.getElem?_cons_succ, List.getElem?_cons_zero]; rfl
    intro K hK
    go_simp
    clear hcl
    have hs5 := Fr.set (.slice A5 (p.ks.length - 1) k5) HG6.out.cells.1 rfl
    have HG7 := Lib.hid (HG6.out.setK (ks := rem1 p.ks i) (by rw [strs_rem]; exact HK6.out))
    have HC7 := Lib.hid (HC6.out.kv (fun u hu => ptrs_firm (rem1 gs (i + 1)) u (by rw [ptrs_rem]; exact hu)) hs5.kv)
    have HL7 := Lib.hid (HL6.out.fr hs5 (Ne.symm n1))
    have HF7 := Lib.hid (HF6.out.trans hs5 fun x hx hl => .inl hx)
    clear hs5 fr0 c0 c1 c2 HG6 HL6 HF6 HK6 HC6 HB4 HL4 HF4
    generalize w6.setCell ⟨g, 0, none⟩ (.slice A5 (p.ks.length - 1) k5) = W7 at *
    obtain ⟨c0, c1, c2⟩ := HG7.out.cells
    have fr2 := HG7.out.free 2
    refine hK.out _ _ (fun hcl => ?_)
    clear hK K
    try simp only [Act.put, List.setIfInBounds_toArray, List.set_cons_zero, List.set_cons_succ]
    refine anyT_free (i := 18) (oi := ?od18) (v := ?vd18) ?hid18 ?had18 ?hbd18 ?hcd18 ?hdd18 ?hqd18 (Or.inl ⟨?hwd18, ?hyd18⟩) hcl ?restd18
    case hid18 => simp only [List.getElem?_toArray, List.getElem?_cons_succ, List.getElem?_cons_zero]; rfl
    case hqd18 => exact fun _ _ _ h => h
    case had18 => kernel_rfl
    case hbd18 => kernel_rfl
    case hcd18 => kernel_rfl
    case hdd18 => kernel_rfl
    case hwd18 => rfl
    case hyd18 => intro w' _; go_simp; try with_reducible rfl
    clear hcl
    intro hcl
    try simp only [Act.put, List.setIfInBounds_toArray, List.set_cons_zero, List.set_cons_succ]
    refine anyT_free (i := 19) (oi := ?od19) (v := ?vd19) ?hid19 ?had19 ?hbd19 ?hcd19 ?hdd19 ?hqd19 (Or.inl ⟨?hwd19, ?hyd19⟩) hcl ?restd19
    case hid19 => simp only [List.getElem?_toArray, List.getElem?_cons_succ, List.getElem?_cons_zero]; rfl
    case hqd19 => exact fun _ _ _ h => h
    case had19 => kernel_rfl
    case hbd19 => kernel_rfl
    case hcd19 => kernel_rfl
    case hdd19 => kernel_rfl
    case hwd19 => rfl
    case hyd19 => intro w' _; go_simp; try with_reducible rfl
    clear hcl
    intro hcl
    try simp only [Act.put, List.setIfInBounds_toArray, List.set_cons_zero, List.set_cons_succ]
    refine anyT_last (k := 20) (o := ?od20) ?hid20 (by kernel_rfl) (by kernel_rfl) hcl ?restd20
    case hid20 => simp only [List.getElem?_toArray, List.getElem?_cons_succ, List.getElem?_cons_zero]; rfl
    intro K hK
    go_simp
    clear hcl
    have hs7 := Fr.set (.slice A6 (p.cs.length - 1) k6) HG7.out.cells.2.2 rfl
    have HG8 := Lib.hid (HG7.out.setC (gs' := rem1 gs (i + 1)) (by rw [ptrs_rem]; exact HC7.out) (rem1 (p.cs.set i (mergeT l k r)) (i + 1)) (by rw [rem1_len _ _ (by rw [List.length_set]; exact hic), List.length_set]))
    have HL8 := Lib.hid (HL7.out.fr hs7 (Ne.symm n1))
    have HF8 := Lib.hid (HF7.out.trans hs7 fun x hx hl => .inl hx)
    clear hs7 fr2 c0 c1 c2 HG7 HC7 HL7 HF7
    generalize W7.setCell ⟨g, 2, none⟩ (.slice A6 (p.cs.length - 1) k6) = W8 at *
    refine hK.out _ _ (fun hcl => ?_)
    clear hK K
    refine anyT_done (by kernel_rfl) ?_ _
    go_simp
    clear hcl
    have hX := HG8.out
    simp only [Tr.ks_mk, Tr.vs_mk, Tr.cs_mk] at hX
    have hY := HL8.out
    simp only [Tr.ks_mk, Tr.vs_mk, Tr.cs_mk] at hY
    have hM : (Tr.mk (l.ks ++ (btw ++ r.ks)) (l.vs ++ r.vs) (l.cs ++ r.cs)) = mergeT l k r := by
      unfold mergeT
      rw [HBW.out]
    rw [hM] at hY
    have HX := Lib.hid hX
    have HY := Lib.hid hY
    clear hX hY hM HG8 HL8
    obtain ⟨e0, _, _⟩ := HY.out.cells
    generalize mergeT l k r = mm at *
    by_cases hbig : 4 < mm.ks.length
    · have hbi : (4 : Int) < (mm.ks.length : Int) := by omega
      have HC := Lib.hid (HSQ.out hbig W8 _ _ HX.out HY.out HF8.out)
      go_wp2_with (first | (go_at_call 51; (with_reducible refine HC.out.mono ?_); rintro e w9 ⟨rfl, hq⟩; have HQ9 := Lib.hid hq; clear hq))
      exact bodyPost_end (v := .tuple #[]) (by simp [results, Try.results55, go_sem]) rfl ⟨rfl, HQ9.out⟩
    · have hbi : ¬ (4 : Int) < (mm.ks.length : Int) := by omega
      have HQ9 := Lib.hid (HNQ.out hbig W8 _ _ HX.out HY.out HF8.out)
      go_wp2
      exact bodyPost_end (v := .tuple #[]) (by simp [results, Try.results55, go_sem]) rfl ⟨rfl, HQ9.out⟩
end Go.Proofs.Ythjjhldmfmnflaa
namespace Go.Proofs.Ythjjhldmfmnflaa
open Go.RowKit
set_option linter.unusedSimpArgs false
set_option linter.unusedVariables false

set_option maxRecDepth 100000 in
set_option maxHeartbeats 4000000 in
theorem deleteHere_any (g : Nat) (t : Tr) (gs : List Nat) (h : Hd) (k : Key) (w : World) (hb : RdB w g t gs h) (hs : Asc t.ks) (hn : t.ks.length ≤ 1000) (hv : t.vs.length = t.ks.length) :
    Calls Try.prog 54 #[ptr g, .string k.s] w fun e w' => e = .returned (.bool (decide (k ∈ t.ks))) ∧ ∃ h', RdB w' g (.mk (delK t.ks k) (delV t.ks t.vs k) t.cs) gs h' ∧ Fr (fun b => b = g) w w' := by
  obtain ⟨c0, c1, c2⟩ := hb.cells
  have hp := pos_le t.ks k
  have HSR := Lib.hid (search_any h.kA t.ks.length h.kc t.ks k w rfl hb.k hs (by omega))
  have HB := Lib.hid hb
  have HV := Lib.hid hv
  have hmem := mem_pos (x := k) hs
  clear hb
  by_cases hk : k ∈ t.ks
  · obtain ⟨hpl, _⟩ := hmem.1 hk
    have e1 : delK t.ks k = rem1 t.ks (pos t.ks k) := by unfold delK; rw [if_pos hk]
    have e2 : delV t.ks t.vs k = rem1 t.vs (pos t.ks k) := by unfold delV; rw [if_pos hk]
    rw [e1, e2]
    rw [decide_eq_true hk] at HSR ⊢
    clear e1 e2 hmem hs hk
    generalize pos t.ks k = j at *
    have HCS := Lib.hid (remS_any h.kA t.ks.length h.kc j (strs t.ks) w.drew (HB.out.below (Below.refl _ _).drew).k (strs_one _) (by omega) hpl)
    have HCB := Lib.hid fun (W : World) (hw : Below w.heap.size w W) => remS_any h.vA t.vs.length h.vc j (strs t.vs) W (HB.out.below hw).v (strs_one _) (by omega) (by omega)
    rw [hv] at HCB c1
    clear hv
    go_enter Try.func54, Try.ntmps54
    go_upto_region 3 with (first | (go_at_call 49; (with_reducible refine HSR.out.mono ?_); rintro e w1 ⟨rfl, rfl⟩))
    refine region_anyT (fun w' => w'.cell? ⟨g, 0, none⟩ = some (.slice h.kA t.ks.length h.kc) ∧ w'.cell? ⟨g, 1, none⟩ = some (.slice h.vA t.ks.length h.vc)) [5, 7, 11] (by kernel_rfl) ⟨c0, c1⟩ ?_
    intro hcl hS
    clear c0 c1 c2
    refine anyT_free (i := 0) (oi := ?oh0) (v := ?vh0) ?hih0 ?hah0 ?hbh0 ?hch0 ?hdh0 ?hqh0 (Or.inl ⟨?hwh0, ?hyh0⟩) hcl ?resth0
    case hih0 => simp only [List.getElem?_toArray, List.getElem?_cons_succ, List.getElem?_cons_zero]; rfl
    case hqh0 => exact fun _ _ _ h => h
    case hah0 => kernel_rfl
    case hbh0 => kernel_rfl
    case hch0 => kernel_rfl
    case hdh0 => kernel_rfl
    case hwh0 => rfl
    case hyh0 => intro w' _; go_simp; try with_reducible rfl
    clear hcl
    intro hcl
    try simp only [Act.put, List.setIfInBounds_toArray, List.set_cons_zero, List.set_cons_succ]
    refine anyT_free (i := 1) (oi := ?oh1) (v := ?vh1) ?hih1 ?hah1 ?hbh1 ?hch1 ?hdh1 ?hqh1 (Or.inl ⟨?hwh1, ?hyh1⟩) hcl ?resth1
    case hih1 => simp only [List.getElem?_toArray, List.getElem?_cons_succ, List.getElem?_cons_zero]; rfl
    case hqh1 => exact fun _ _ _ h => h
    case hah1 => kernel_rfl
    case hbh1 => kernel_rfl
    case hch1 => kernel_rfl
    case hdh1 => kernel_rfl
    case hwh1 => rfl
    case hyh1 => intro w' _; go_simp; try with_reducible rfl
    clear hcl
    intro hcl
    try simp only [Act.put, List.setIfInBounds_toArray, List.set_cons_zero, List.set_cons_succ]
    refine anyT_free (i := 2) (oi := ?oh2) (v := ?vh2) ?hih2 ?hah2 ?hbh2 ?hch2 ?hdh2 ?hqh2 (Or.inl ⟨?hwh2, ?hyh2⟩) hcl ?resth2
    case hih2 => simp only [List.getElem?_toArray, List.getElem?_cons_succ, List.getElem?_cons_zero]; rfl
    case hqh2 => exact fun _ _ _ h => h
    case hah2 => kernel_rfl
    case hbh2 => kernel_rfl
    case hch2 => kernel_rfl
    case hdh2 => kernel_rfl
    case hwh2 => rfl
    case hyh2 => intro w' _; go_simp; try with_reducible rfl
    clear hcl
    intro hcl
    try simp only [Act.put, List.setIfInBounds_toArray, List.set_cons_zero, List.set_cons_succ]
    refine anyT_free (i := 3) (oi := ?oh3) (v := ?vh3) ?hih3 ?hah3 ?hbh3 ?hch3 ?hdh3 ?hqh3 (Or.inl ⟨?hwh3, ?hyh3⟩) hcl ?resth3
    case hih3 => simp only [List.getElem?_toArray, List.getElem?_cons_succ, List.getElem?_cons_zero]; rfl
    case hqh3 => exact fun _ _ _ h => h
    case hah3 => kernel_rfl
    case hbh3 => kernel_rfl
    case hch3 => kernel_rfl
    case hdh3 => kernel_rfl
    case hwh3 => rfl
    case hyh3 => intro w' _; go_simp; try with_reducible rfl
    clear hcl
    intro hcl
    try simp only [Act.put, List.setIfInBounds_toArray, List.set_cons_zero, List.set_cons_succ]
    refine anyT_free (i := 4) (oi := ?oh4) (v := ?vh4) ?hih4 ?hah4 ?hbh4 ?hch4 ?hdh4 ?hqh4 (Or.inl ⟨?hwh4, ?hyh4⟩) hcl ?resth4
    case hih4 => simp only [List.getElem?_toArray, List.getElem?_cons_succ, List.getElem?_cons_zero]; rfl
    case hqh4 => exact fun _ _ _ h => h
    case hah4 => kernel_rfl
    case hbh4 => kernel_rfl
    case hch4 => kernel_rfl
    case hdh4 => kernel_rfl
    case hwh4 => rfl
    case hyh4 => intro w' _; go_simp; try with_reducible rfl
    clear hcl
    intro hcl
    try simp only [Act.put, List.setIfInBounds_toArray, List.set_cons_zero, List.set_cons_succ]
    refine anyT_free (i := 6) (oi := ?oh6) (v := ?vh6) ?hih6 ?hah6 ?hbh6 ?hch6 ?hdh6 ?hqh6 (Or.inl ⟨?hwh6, ?hyh6⟩) hcl ?resth6
    case hih6 => simp only [List.getElem?_toArray, List.getElem?_cons_succ, List.getElem?_cons_zero]; rfl
    case hqh6 => exact fun _ _ _ h => h
    case hah6 => kernel_rfl
    case hbh6 => kernel_rfl
    case hch6 => kernel_rfl
    case hdh6 => kernel_rfl
    case hwh6 => rfl
    case hyh6 => intro w' _; go_simp; try with_reducible rfl
    clear hcl
    intro hcl
    try simp only [Act.put, List.setIfInBounds_toArray, List.set_cons_zero, List.set_cons_succ]
    refine anyT_free (i := 8) (oi := ?oh8) (v := ?vh8) ?hih8 ?hah8 ?hbh8 ?hch8 ?hdh8 ?hqh8 (Or.inl ⟨?hwh8, ?hyh8⟩) hcl ?resth8
    case hih8 => simp only [List.getElem?_toArray, List.getElem?_cons_succ, List.getElem?_cons_zero]; rfl
    case hqh8 => exact fun _ _ _ h => h
    case hah8 => kernel_rfl
    case hbh8 => kernel_rfl
    case hch8 => kernel_rfl
    case hdh8 => kernel_rfl
    case hwh8 => rfl
    case hyh8 => intro w' _; go_simp; try with_reducible rfl
    clear hcl
    intro hcl
    try simp only [Act.put, List.setIfInBounds_toArray, List.set_cons_zero, List.set_cons_succ]
    refine anyT_free (i := 9) (oi := ?oh9) (v := ?vh9) ?hih9 ?hah9 ?hbh9 ?hch9 ?hdh9 ?hqh9 (Or.inl ⟨?hwh9, ?hyh9⟩) hcl ?resth9
    case hih9 => simp only [List.getElem?_toArray, List.getElem?_cons_succ, List.getElem?_cons_zero]; rfl
    case hqh9 => exact fun _ _ _ h => h
    case hah9 => kernel_rfl
    case hbh9 => kernel_rfl
    case hch9 => kernel_rfl
    case hdh9 => kernel_rfl
    case hwh9 => rfl
    case hyh9 => intro w' _; go_simp; try with_reducible rfl
    clear hcl
    intro hcl
    try simp only [Act.put, List.setIfInBounds_toArray, List.set_cons_zero, List.set_cons_succ]
    refine anyT_free (i := 10) (oi := ?oh10) (v := ?vh10) ?hih10 ?hah10 ?hbh10 ?hch10 ?hdh10 ?hqh10 (Or.inl ⟨?hwh10, ?hyh10⟩) hcl ?resth10
    case hih10 => simp only [List.getElem?_toArray, List.getElem?_cons_succ, List.getElem?_cons_zero]; rfl
    case hqh10 => exact fun _ _ _ h => h
    case hah10 => kernel_rfl
    case hbh10 => kernel_rfl
    case hch10 => kernel_rfl
    case hdh10 => kernel_rfl
    case hwh10 => rfl
    case hyh10 => intro w' _; go_simp; try with_reducible rfl
    clear hcl
    intro hcl
    try simp only [Act.put, List.setIfInBounds_toArray, List.set_cons_zero, List.set_cons_succ]
    refine anyT_free (i := 12) (oi := ?oh12) (v := ?vh12) ?hih12 ?hah12 ?hbh12 ?hch12 ?hdh12 ?hqh12 (Or.inl ⟨?hwh12, ?hyh12⟩) hcl ?resth12
    case hih12 => simp only [List.getElem?_toArray, List.getElem?_cons_succ, List.getElem?_cons_zero]; rfl
    case hqh12 => exact fun _ _ _ h => h
    case hah12 => kernel_rfl
    case hbh12 => kernel_rfl
    case hch12 => kernel_rfl
    case hdh12 => kernel_rfl
    case hwh12 => rfl
    case hyh12 => intro w' _; go_simp; try with_reducible rfl
    clear hcl
    intro hcl
    try simp only [Act.put, List.setIfInBounds_toArray, List.set_cons_zero, List.set_cons_succ]
    refine anyT_take (i := 5) (oi := ?oh5) (v := ?vh5) ?hih5 ?hah5 ?hbh5 ?hch5 ?hdh5 ?hqh5 (Or.inl ⟨?hwh5, ?hyh5⟩) hS hcl ?resth5
    case hih5 => simp only [List.getElem?_toArray, List.getElem?_cons_succ, List.getElem?_cons_zero]; rfl
    case hqh5 => exact fun _ _ _ h => h
    case hah5 => kernel_rfl
    case hbh5 => kernel_rfl
    case hch5 => kernel_rfl
    case hdh5 => kernel_rfl
    case hwh5 => rfl
    case hyh5 => intro w' hSw; obtain ⟨s0, s1⟩ := hSw; go_simp; try with_reducible rfl
    clear hcl
    intro hcl
    try simp only [Act.put, List.setIfInBounds_toArray, List.set_cons_zero, List.set_cons_succ]
    refine anyT_take (i := 11) (oi := ?oh11) (v := ?vh11) ?hih11 ?hah11 ?hbh11 ?hch11 ?hdh11 ?hqh11 (Or.inl ⟨?hwh11, ?hyh11⟩) hS hcl ?resth11
    case hih11 => simp only [List.getElem?_toArray, List.getElem?_cons_succ, List.getElem?_cons_zero]; rfl
    case hqh11 => exact fun _ _ _ h => h
    case hah11 => kernel_rfl
    case hbh11 => kernel_rfl
    case hch11 => kernel_rfl
    case hdh11 => kernel_rfl
    case hwh11 => rfl
    case hyh11 => intro w' hSw; obtain ⟨s0, s1⟩ := hSw; go_simp; try with_reducible rfl
    clear hcl
    intro hcl
    try simp only [Act.put, List.setIfInBounds_toArray, List.set_cons_zero, List.set_cons_succ]
    refine anyT_step (k := 7) (o := ?oh7) ?hih7 (by kernel_rfl) hcl ?resth7
    case hih7 => simp only [List.getElem?_toArray, List.getElem?_cons_succ, List.getElem?_cons_zero]; rfl
    intro K hK
    go_simp
    go_at_call 62
    (with_reducible refine HCS.out.mono ?_)
    rintro e w5 ⟨v5, rfl, hO, hB⟩
    obtain ⟨A5, k5, rfl, hR5⟩ := Rd.of_own hO
    have HB5 := Lib.hid (show Below w.heap.size w w5 from (Below.refl _ _).drew.trans hB)
    have HR5 := Lib.hid hR5
    clear hO hB hR5 hS hcl
    refine hK.out _ _ (by obtain ⟨c0, c1, c2⟩ := (HB.out.below HB5.out).cells; rw [HV.out] at c1; exact ⟨c0, c1⟩) (fun hS hcl => ?_)
    clear hK K hS
    try simp only [Act.put, List.setIfInBounds_toArray, List.set_cons_zero, List.set_cons_succ]
    refine anyT_last (k := 13) (o := ?oh13) ?hih13 (by kernel_rfl) (by kernel_rfl) hcl ?resth13
    case hih13 => simp only [List.getElem?_toArray, List.getElem?_cons_succ, List.getElem?_cons_zero]; rfl
    intro K hK
    go_simp
    go_at_call 62
    (with_reducible refine (HCB.out _ HB5.out).mono ?_)
    rintro e w6 ⟨v6, rfl, hO2, hB2⟩
    obtain ⟨A6, k6, rfl, hR6⟩ := Rd.of_own hO2
    have hB6 := HB5.out.trans (hB2.mono HB5.out.size)
    have HG6 := Lib.hid (HB.out.below hB6)
    have HF6 := Lib.hid (Fr.of_below (S := fun b => b = g) hB6)
    have HK6 := Lib.hid (HR5.out.below hB2)
    have HC6 := Lib.hid hR6
    clear hO2 hB2 hcl HB5 HR5 HCS HCB hR6 hB6
    obtain ⟨c0, c1, c2⟩ := HG6.out.cells
    have fr0 := HG6.out.free 0
    refine hK.out _ _ (fun hcl => ?_)
    clear hK K
    try simp only [Act.put, List.setIfInBounds_toArray, List.set_cons_zero, List.set_cons_succ]
    refine anyT_free (i := 14) (oi := ?oh14) (v := ?vh14) ?hih14 ?hah14 ?hbh14 ?hch14 ?hdh14 ?hqh14 (Or.inl ⟨?hwh14, ?hyh14⟩) hcl ?resth14
    case hih14 => simp only [List.getElem?_toArray, List.getElem?_cons_succ, List.getElem?_cons_zero]; rfl
    case hqh14 => exact fun _ _ _ h => h
    case hah14 => kernel_rfl
    case hbh14 => kernel_rfl
    case hch14 => kernel_rfl
    case hdh14 => kernel_rfl
    case hwh14 => rfl
    case hyh14 => intro w' _; go_simp; try with_reducible rfl
    clear hcl
    intro hcl
    try simp only [Act.put, List.setIfInBounds_toArray, List.set_cons_zero, List.set_cons_succ]
    refine anyT_free (i := 15) (oi := ?oh15) (v := ?vh15) ?hih15 ?hah15 ?hbh15 ?hch15 ?hdh15 ?hqh15 (Or.inl ⟨?hwh15, ?hyh15⟩) hcl ?resth15
    case hih15 => simp only [List.getElem?_toArray, List.getElem?_cons_succ, List.getElem?_cons_zero]; rfl
    case hqh15 => exact fun _ _ _ h => h
    case hah15 => kernel_rfl
    case hbh15 => kernel_rfl
    case hch15 => kernel_rfl
    case hdh15 => kernel_rfl
    case hwh15 => rfl
    case hyh15 => intro w' _; go_simp; try with_reducible rfl
    clear hcl
    intro hcl
    try simp only [Act.put, List.setIfInBounds_toArray, List.set_cons_zero, List.set_cons_succ]
    refine anyT_last (k := 16) (o := ?oh16) ?hih16 (by kernel_rfl) (by kernel_rfl) hcl ?resth16
    case hih16 => simp only [List.getElem?_toArray, List.getElem?_cons_succ, List.getElem?_cons_zero]; rfl
    intro K hK
    go_simp
    clear hcl
    have hs5 := Fr.set (.slice A5 (t.ks.length - 1) k5) HG6.out.cells.1 rfl
    have HG7 := Lib.hid (HG6.out.setK (ks := rem1 t.ks j) (by rw [strs_rem]; exact HK6.out))
    have HC7 := Lib.hid (HC6.out.kv (fun u hu => strs_firm (rem1 t.vs j) u (by rw [strs_rem]; exact hu)) hs5.kv)
    have HF7 := Lib.hid (HF6.out.trans hs5 fun x hx hl => hx)
    clear hs5 fr0 c0 c1 c2 HG6 HF6 HK6 HC6
    generalize w6.setCell ⟨g, 0, none⟩ (.slice A5 (t.ks.length - 1) k5) = W7 at *
    obtain ⟨c0, c1, c2⟩ := HG7.out.cells
    have fr1 := HG7.out.free 1
    refine hK.out _ _ (fun hcl => ?_)
    clear hK K
    try simp only [Act.put, List.setIfInBounds_toArray, List.set_cons_zero, List.set_cons_succ]
    refine anyT_free (i := 17) (oi := ?oh17) (v := ?vh17) ?hih17 ?hah17 ?hbh17 ?hch17 ?hdh17 ?hqh17 (Or.inl ⟨?hwh17, ?hyh17⟩) hcl ?resth17
    case hih17 => simp only [List.getElem?_toArray, List.getElem?_cons_succ, List.getElem?_cons_zero]; rfl
    case hqh17 => exact fun _ _ _ h => h
    case hah17 => kernel_rfl
    case hbh17 => kernel_rfl
    case hch17 => kernel_rfl
    case hdh17 => kernel_rfl
    case hwh17 => rfl
    case hyh17 => intro w' _; go_simp; try with_reducible rfl
    clear hcl
    intro hcl
    try simp only [Act.put, List.setIfInBounds_toArray, List.set_cons_zero, List.set_cons_succ]
    refine anyT_free (i := 18) (oi := ?oh18) (v := ?vh18) ?hih18 ?hah18 ?hbh18 ?hch18 ?hdh18 ?hqh18 (Or.inl ⟨?hwh18, ?hyh18⟩) hcl ?resth18
    case hih18 => simp only [List.getElem?_toArray, List.getElem?_cons_succ, List.getElem?_cons_zero]; rfl
    case hqh18 => exact fun _ _ _ h => h
    case hah18 => kernel_rfl
    case hbh18 => kernel_rfl
    case hch18 => kernel_rfl
    case hdh18 => kernel_rfl
    case hwh18 => rfl
    case hyh18 => intro w' _; go_simp; try with_reducible rfl
    clear hcl
    intro hcl
    try simp only [Act.put, List.setIfInBounds_toArray, List.set_cons_zero, List.set_cons_succ]
    refine anyT_last (k := 19) (o := ?oh19) ?hih19 (by kernel_rfl) (by kernel_rfl) hcl ?resth19
    case hih19 => simp only [List.getElem?_toArray, List.getElem?_cons_succ, List.getElem?_cons_zero]; rfl
    intro K hK
    go_simp
    clear hcl
    have hs7 := Fr.set (.slice A6 (t.ks.length - 1) k6) HG7.out.cells.2.1 rfl
    have HG8 := Lib.hid (HG7.out.setV (vs := rem1 t.vs j) (by rw [strs_rem]; exact HC7.out))
    have HF8 := Lib.hid (HF7.out.trans hs7 fun x hx hl => hx)
    clear hs7 fr1 c0 c1 c2 HG7 HC7 HF7
    generalize W7.setCell ⟨g, 1, none⟩ (.slice A6 (t.ks.length - 1) k6) = W8 at *
    refine hK.out _ _ (fun hcl => ?_)
    clear hK K
    refine anyT_done (by kernel_rfl) ?_ _
    go_simp
    clear hcl
    go_wp2
    go_ret
    first | exact ⟨rfl, ⟨_, HG8.out⟩, HF8.out⟩ | exact ⟨rfl, _, HG8.out, HF8.out⟩
  · have e1 : delK t.ks k = t.ks := by unfold delK; rw [if_neg hk]
    have e2 : delV t.ks t.vs k = t.vs := by unfold delV; rw [if_neg hk]
    rw [e1, e2, Tr.eta]
    rw [decide_eq_false hk] at HSR ⊢
    clear e1 e2 hmem hs hk
    go_enter Try.func54, Try.ntmps54
    go_wp2_with (first | (go_at_call 49; (with_reducible refine HSR.out.mono ?_); rintro e w1 ⟨rfl, rfl⟩))
    go_ret
    exact ⟨rfl, _, HB.out, Fr.refl _⟩
end Go.Proofs.Ythjjhldmfmnflaa
