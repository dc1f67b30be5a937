/- What the law's alive and reads answer: the walks. Conditions: a state that is read in memory. -/
import Derived.Test.YtmjcmeebcochgaaVp
namespace Go.Proofs.Ytmjcmeebcochgaa
open Go.RowKit Go.Sort Go.Maps
set_option linter.unusedSimpArgs false
set_option linter.unusedVariables false

theorem stoodV : Try.prog.stoodInHeld 34 = false := by kernel_rfl
theorem underV : Try.prog.underlying 34 = some (.struct (Try.prog.fieldsOf 34)) := by simp only [Program.fieldsOf, Try.underlying34]
theorem guardV : Try.prog.eqGuardType Try.prog.depth 34 = false := by kernel_rfl
theorem run_eqV (t : Int) (lo hi : ByteArray) (w : World) : (binOp .eql 34 (.agg #[.int .i64 t, .string lo, .string hi]) (.agg #[.int .i64 t, .string lo, .string hi])).run Try.prog w = .ok (.bool true) w := by
  rw [run_eql_struct, run_equalIn_agg w 9999 34 _ _ underV stoodV]
  simp [go_sem, Try.underlying34]
theorem run_neqV (t : Int) (lo hi : ByteArray) (w : World) : (binOp .neq 34 (.agg #[.int .i64 t, .string lo, .string hi]) (.agg #[.int .i64 t, .string lo, .string hi])).run Try.prog w = .ok (.bool false) w := by
  rw [run_neq_struct, run_equalIn_agg w 9999 34 _ _ underV stoodV]
  simp [go_sem, Try.underlying34]
def kA : Key := ⟨⟨#[97]⟩, by decide⟩
def kC : Key := ⟨⟨#[99]⟩, by decide⟩
def kE : Key := ⟨⟨#[101]⟩, by decide⟩
theorem add_a : addR [] ⟨1, kA, kC⟩ = ([⟨1, kA, kC⟩], 0) := by decide +kernel
theorem add_c : addR [⟨1, kA, kC⟩] ⟨1, kC, kE⟩ = ([⟨1, kA, kE⟩], 0) := by decide +kernel
set_option maxHeartbeats 4000000 in
theorem alive_any (w : World) : Calls Try.prog 24 #[] w fun e w' => e = .returned (.bool true) ∧ Below w.heap.size w w' := by
  have HA : Hid (∀ W, Calls Try.prog 10 #[.agg #[.slice none 0 0], .agg #[.int .i64 1, .string ⟨#[97]⟩, .string ⟨#[99]⟩]] W (PairS [⟨1, kA, kC⟩] 0 W)) := Lib.hid fun W => by
    have := add_any none 0 0 [] ⟨1, kA, kC⟩ W (Rd.nothing W)
    rw [add_a] at this
    exact this
  have HC : Hid (∀ A n c W, Rd W A n c [⟨1, kA, kC⟩] → Calls Try.prog 10 #[.agg #[.slice A n c], .agg #[.int .i64 1, .string ⟨#[99]⟩, .string ⟨#[101]⟩]] W (PairS [⟨1, kA, kE⟩] 0 W)) := Lib.hid fun A n c W hr => by
    have := add_any A n c [⟨1, kA, kC⟩] ⟨1, kC, kE⟩ W hr
    rw [add_c] at this
    exact this
  have hgv := guardV
  have hq := run_eqV 1 ⟨#[97]⟩ ⟨#[101]⟩
  go_enter Try.func24, Try.ntmps24
  go_upto_region 2 with (go_at_call 10; (with_reducible refine (HA.out _).mono ?_); rintro e w1 ⟨A1, n1, c1, rfl, hr1, hb⟩; have HR1 := Lib.hid hr1; have HB1 := Lib.hid hb; clear hr1 hb)
  have HRx := Lib.hid (HR1.out.below (below1 w1 (.cells #[.slice A1 n1 c1] 29)))
  have HBx := Lib.hid (thn HB1.out (below1 w1 (.cells #[.slice A1 n1 c1] 29)))
  have hsx := cell_last w1 #[.slice A1 n1 c1] 29 w1.heap.size 0 rfl
  have hfx := World.frozen?_alloc_at (w := w1) #[.slice A1 n1 c1] 29 w1.heap.size 0 rfl
  have hgx : w.heap.size ≤ w1.heap.size := HB1.out.size
  clear HR1 HB1
  generalize w1.alloc (.cells #[.slice A1 n1 c1] 29) = W1 at *
  generalize w1.heap.size = gs at *
  have HSX := Lib.hid hsx
  have HFX := Lib.hid hfx
  have HGX := Lib.hid hgx
  have hs1 : W1.cell? ⟨gs, 0, none⟩ = some (.slice A1 n1 c1) := hsx
  clear hsx hfx hgx
  go_upto_region 3 with (go_at_call 10; (with_reducible refine (HC.out _ _ _ _ HRx.out).mono ?_); rintro e w2 ⟨A2, n2, c2, rfl, hr2, hb⟩; have HR2 := Lib.hid hr2; have HB2 := Lib.hid (thn HBx.out hb); have hs2 := cell_keep HSX.out hb; have hf2 := (hb.frozen (p := ⟨gs, 0, none⟩) (cell_lt HSX.out)).trans HFX.out; clear hb hr2)
  clear hs1
  obtain rfl : n2 = 1 := HR2.out.len.symm
  have HR3 := Lib.hid (HR2.out.slot hs2 (.slice A2 1 c2))
  have HB3 := Lib.hid (HB2.out.setCell (p := ⟨gs, 0, none⟩) HGX.out (.slice A2 1 c2))
  have hs3 := set_same (.slice A2 1 c2) hs2
  generalize w2.setCell ⟨gs, 0, none⟩ (.slice A2 1 c2) = W3 at *
  obtain ⟨ad, rfl, k0, k1, k2⟩ := HR3.out.at_ (k := 0) (by simp)
  rw [Nat.zero_mul, add_zero] at k0 k1 k2
  have k0' : W3.cell? ad = some (.int .i64 1) := k0
  have k1' : W3.cell? ⟨ad.block, ad.off + 1, none⟩ = some (.string ⟨#[97]⟩) := k1
  have k2' : W3.cell? ⟨ad.block, ad.off + 2, none⟩ = some (.string ⟨#[101]⟩) := k2
  clear k0 k1 k2 hs2 hf2
  go_wp2_with (go_at_call 21; (with_reducible refine (num_any _ _).mono ?_); rintro e w7 ⟨rfl, rfl⟩)
  all_goals go_ret
  all_goals exact ⟨rfl, HB3.out⟩
set_option maxHeartbeats 4000000 in
theorem reads_any (A : Option Addr) (n c : Nat) (l : List Lk) (t : Int) (k : Key) (w : World) (hr : Rd w A n c l) :
    Calls Try.prog 25 #[.agg #[.slice A n c], .int .i64 t, .string k.s] w fun e w' => e = .returned (.bool (rdsB l t k)) ∧ Below w.heap.size w w' := by
  have hrr : ∃ r E, (rdsR l k) = (r, E) ∧ (t ∈ r → rdsB l t k = true ∧ E = 0) ∧ (t ∉ r → rdsB l t k = false) ∧ r.length ≤ 1000000 := by
    unfold rdsR rdsB
    by_cases h : Ok l
    · refine ⟨comp (who l k), 0, by rw [if_pos h], fun hm => ⟨?_, rfl⟩, fun hm => ?_, ?_⟩
      · rw [mem_comp, who_mem] at hm
        rw [hm]
        simpa using h
      · rw [mem_comp, who_mem] at hm
        simp [hm]
      · have h1 := comp_len (who l k)
        have h2 := who_len l k l.length
        rw [List.take_length] at h2
        have := h.1
        omega
    · exact ⟨[], 9, by rw [if_neg h], fun hm => absurd hm (by simp), fun _ => by simp [h], by simp⟩
  obtain ⟨r, E, hrE, hin, hout, hlen⟩ := hrr
  have HRD := Lib.hid fun W (hb : Below w.heap.size w W) => readers_any A n c l k W (hr.below hb)
  rw [hrE] at HRD
  simp only at HRD
  generalize rdsB l t k = b at *
  have HIN := Lib.hid hin
  have HOUT := Lib.hid hout
  have HB0 := Lib.hid (below1 w (.cells #[.slice A n c] 29))
  clear hr hrE hin hout
  go_enter Try.func25, Try.ntmps25
  go_upto_region 2 with (go_at_call 14; (with_reducible refine (HRD.out _ HB0.out).mono ?_); rintro e w1 ⟨A1, n1, c1, rfl, hr1, hb⟩; have HR1 := Lib.hid hr1; have HB1 := Lib.hid (thn HB0.out hb); clear hr1 hb)
  obtain rfl : n1 = r.length := HR1.out.len.symm
  go_wp2
  go_loopw [9] (fun i wr => ∃ j : Nat, i = .int .i64 j ∧ j ≤ r.length ∧ (∀ i (h : i < r.length), i < j → r[i] ≠ t) ∧ Below w.heap.size w wr ∧ Below w1.heap.size w1 wr) (fun i _ => r.length - (intOf i).toNat)
  case atStart => exact ⟨0, rfl, by omega, fun i h h0 => by omega, HB1.out, Below.refl _ _⟩
  case round =>
    obtain ⟨j, rfl, hj, hno, hB, hB1⟩ := hrel
    have HN := Lib.hid hno
    have HBB := Lib.hid hB
    have HBW := Lib.hid hB1
    clear hno hB hB1
    by_cases hlt : j < r.length
    · obtain ⟨ad, rfl, c0⟩ := (HR1.out.below HBW.out).at_ hlt
      have hb0 := cell_lt c0
      rw [add_block] at hb0
      have HMEM := Lib.hid (List.getElem_mem hlt)
      generalize hv : r[j] = v at *
      have HV := Lib.hid hv
      clear hv
      have hlt' : (j : Int) < (r.length : Int) := by omega
      by_cases hvt : v = t
      · have HE := HIN.out (hvt ▸ HMEM.out)
        obtain ⟨hb, hE⟩ := HE
        have hq : (v == t) = true := by simpa using hvt
        have HVT := Lib.hid hvt
        clear hvt
        subst hE
        go_wp2_with (go_at_call 21; (with_reducible refine (num_any _ _).mono ?_); rintro e w7 ⟨rfl, rfl⟩)
        all_goals go_ret
        all_goals exact ⟨ret_bool hb.symm, HBB.out⟩
      · have hq : (v == t) = false := by simpa using hvt
        go_wp2_with fail
        go_roundw
        case rel => exact ⟨j + 1, by go_num, hlt, fun i h h0 => by
          rcases Nat.lt_or_ge i j with h1 | h1
          · exact HN.out i h h1
          · have e : i = j := by omega
            subst e
            rw [HV.out]
            exact hvt, HBB.out, HBW.out⟩
        case measure => simp [intOf]; omega
    · obtain rfl : j = r.length := by omega
      have HF := Lib.hid (HOUT.out fun hm => by
        obtain ⟨i, hi, he⟩ := List.getElem_of_mem hm
        exact HN.out i hi hi he)
      go_wp2
      go_ret
      exact ⟨ret_bool HF.out.symm, HBB.out⟩
end Go.Proofs.Ytmjcmeebcochgaa
