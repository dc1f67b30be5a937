/- The kids of a node in the document's walk: the walk of their loop. Conditions: a walk in memory, a node that is read, a contract for each kid. -/
import Derived.Test.YtkpjkglheegmgaaQr
import Derived.Test.YtkpjkglheegmgaaQo
namespace Go.Proofs.Ytkpjkglheegmgaa
open Go.RowKit
set_option linter.unusedSimpArgs false
set_option linter.unusedVariables false

/-- The loops of a code, in their order. -/
def loops : Code → List Code
  | .loop c => [c]
  | .seq a b => loops a ++ loops b
  | .block _ c => loops c
  | .scope c => loops c
  | .cond _ a b => loops a ++ loops b
  | _ => []
noncomputable def nodeKids : Code := ((((Try.f46.body.map loops).getD [])[1]?).getD .skip)
set_option maxRecDepth 1000000 in
set_option maxHeartbeats 8000000 in
theorem kids_loop (w0 W2 : World) (gw gm bx : Nat) (ad : Addr) (n c : Nat) (root : Int) (vo : Value) (out : List Pr) (nodes : List Nd) (N f deep : Nat) (lo hi' : Bd) (lv hv : Value) (x : Nd) (h : Hd) (R1 : Option (List Tr × Sr)) (px : Addr)
    (hbw : ∀ W, Fw gw gm vo W2 W → Below w0.heap.size w0 W)
    (hbx : ∀ W, Fw gw gm vo W2 W → W.heap[bx]? = some (.cells #[.slice h.kA x.ks.length h.kc, .slice h.vA x.vs.length h.vc, .slice h.cA x.kids.length h.cc] 65 (0, 0)))
    (hx0 : RdX w0 px x h) (hlv : BdV w0 lv lo) (hhv : BdV w0 hv hi') (hwx : ∀ a ∈ x.kids, -9223372036854775808 ≤ a ∧ a ≤ 9223372036854775807) (hkpos : 0 < x.kids.length) (hdN : deep ≤ 100000000000000)
    (IH : ∀ (a : Int) (lo' hi'' : Bd) (lv' hv' : Value) (W : World) (s : Sr) (vo'' : Value) (out'' : List Pr), Wk W w0.heap.size gw gm (some ad) n c root s.M vo'' out'' s.L false → Below w0.heap.size w0 W → AskR nodes N f (deep + 1) s out'' → (-9223372036854775808 ≤ a ∧ a ≤ 9223372036854775807) → BdV w0 lv' lo' → BdV w0 hv' hi'' →
      Calls Try.prog 46 #[ptr gw, .int .i64 a, .int .i64 ((deep + 1 : Nat) : Int), lv', hv'] W fun e w' => e = .returned (.tuple #[]) ∧ NdPost W w' w0.heap.size gw gm (some ad) n c root vo'' out'' (deep + 1) (rd nodes f lo' hi'' (deep + 1) a s))
    (W5 : World) (b0 : Bool) (hst : KidR nodes N f deep w0.heap.size gw gm (some ad) n c root vo out lo hi' x R1 W2 W5 0 b0)
    (Q0 : Exit → Act → World → Prop) (hexit : ∀ a' w'', a'.defers = [] → NdPost W2 w'' w0.heap.size gw gm (some ad) n c root vo out deep (R1.map (fun q => (Tr.mk x.ks x.vs q.1, q.2))) → Q0 (.exit 2) a' w'')
    (c1 c5 c6 c7 c8 c9 c11 c12 c14 c15 c16 c17 c18 c19 c20 c21 c22 c23 c24 c25 c26 c27 c28 c29 c30 c31 c32 c33 c34 c35 c36 c37 c38 c39 c40 c41 c42 c43 c44 c45 c46 c47 c48 c49 c50 c51 c52 c53 c54 c55 c56 c57 c58 c59 c60 c61 c62 c63 c64 c65 c66 c67 c68 c69 c70 c71 c72 c73 c74 c75 c76 c77 c78 c79 c80 c81 c82 c83 c84 c85 c86 c87 c88 c89 c90 c91 c92 c93 c94 c95 c96 c97 c98 c99 c100 c101 c102 c103 c104 c105 c106 c107 c108 c109 c110 c111 c112 c113 c114 c115 c116 c117 c118 c119 c120 c121 c122 c123 c124 c125 c126 c127 c128 c129 c130 c131 c132 c133 c134 c135 c136 c137 c138 c139 c140 c141 c142 c143 c144 c145 c146 c147 c148 c149 c150 c151 c152 c153 c154 c155 c156 c157 c158 c159 c160 c161 c162 c163 c164 c165 c166 c167 c168 c169 c170 c171 c172 c173 c174 c175 c176 c177 c178 c179 c180 c181 c182 c183 c184 c185 c186 c187 c188 c189 c190 c191 c192 c193 c194 c195 c196 c197 c198 c199 c200 c201 c202 c203 c204 c205 c206 c207 c208 c209 c210 c211 c212 c213 c214 c215 c216 : Value) : Code.wp Try.prog (Code.loop nodeKids) Q0 ⟨(ptr gw :: c1 :: .int .i64 deep :: lv :: hv :: c5 :: c6 :: c7 :: c8 :: c9 :: .pointer (some ⟨bx, 0, none⟩) :: c11 :: c12 :: .int .i64 0 :: c14 :: c15 :: c16 :: c17 :: c18 :: c19 :: c20 :: c21 :: c22 :: c23 :: c24 :: c25 :: c26 :: c27 :: c28 :: c29 :: c30 :: c31 :: c32 :: c33 :: c34 :: c35 :: c36 :: c37 :: c38 :: c39 :: c40 :: c41 :: c42 :: c43 :: c44 :: c45 :: c46 :: c47 :: c48 :: c49 :: c50 :: c51 :: c52 :: c53 :: c54 :: c55 :: c56 :: c57 :: c58 :: c59 :: c60 :: c61 :: c62 :: c63 :: c64 :: c65 :: c66 :: c67 :: c68 :: c69 :: c70 :: c71 :: c72 :: c73 :: c74 :: c75 :: c76 :: c77 :: c78 :: c79 :: c80 :: c81 :: c82 :: c83 :: c84 :: c85 :: c86 :: c87 :: c88 :: c89 :: c90 :: c91 :: c92 :: c93 :: c94 :: c95 :: c96 :: c97 :: c98 :: c99 :: c100 :: c101 :: c102 :: c103 :: c104 :: c105 :: c106 :: c107 :: c108 :: c109 :: c110 :: c111 :: c112 :: c113 :: c114 :: c115 :: c116 :: c117 :: c118 :: c119 :: c120 :: c121 :: c122 :: c123 :: c124 :: c125 :: c126 :: c127 :: c128 :: c129 :: c130 :: c131 :: c132 :: c133 :: c134 :: c135 :: c136 :: c137 :: c138 :: c139 :: c140 :: c141 :: c142 :: c143 :: c144 :: c145 :: c146 :: c147 :: c148 :: c149 :: c150 :: c151 :: c152 :: c153 :: c154 :: c155 :: c156 :: c157 :: c158 :: c159 :: c160 :: c161 :: c162 :: c163 :: c164 :: c165 :: c166 :: c167 :: c168 :: c169 :: c170 :: c171 :: c172 :: c173 :: c174 :: c175 :: c176 :: c177 :: c178 :: c179 :: c180 :: c181 :: c182 :: c183 :: c184 :: c185 :: c186 :: c187 :: c188 :: c189 :: c190 :: c191 :: c192 :: c193 :: c194 :: c195 :: c196 :: c197 :: c198 :: c199 :: c200 :: c201 :: c202 :: c203 :: c204 :: c205 :: c206 :: c207 :: c208 :: c209 :: c210 :: c211 :: c212 :: c213 :: c214 :: c215 :: c216 :: ([] : List Value)).toArray, []⟩ W5 := by
  have HEX := Lib.hid hexit
  have HBW0 := Lib.hid hbw
  have HBX := Lib.hid hbx
  have HX0 := Lib.hid hx0
  have HLV := Lib.hid (And.intro hlv hhv)
  have HWX := Lib.hid hwx
  have HIH := Lib.hid IH
  have HST := Lib.hid hst
  have HKP := Lib.hid hkpos
  clear hexit hbw hbx hx0 hlv hhv hwx IH hst hkpos
  conv => arg 2; arg 1; whnf
  go_loopw [13, 14, 15] (fun iv _ _ wr => ∃ (j : Nat) (b : Bool), iv = .int .i64 j ∧ j ≤ x.kids.length ∧ KidR nodes N f deep w0.heap.size gw gm (some ad) n c root vo out lo hi' x R1 W2 wr j b) (fun iv _ _ _ => x.kids.length - (intOf iv).toNat)
  case atStart => exact ⟨0, b0, rfl, by omega, HST.out⟩
  case round =>
    obtain ⟨j, b, rfl, hj, vo', hfw, how, hcase⟩ := hrel
    clear HST
    obtain ⟨t0, t1, t2, _⟩ := three_of (HBX.out wr hfw)
    have HFW := Lib.hid (And.intro hfw how)
    have hbw : Below w0.heap.size w0 wr := HBW0.out wr hfw
    have HBW := Lib.hid hbw
    clear hfw how
    rcases hcase with ⟨rfl, hkl, ts, s, out', kj, hA', hout', htl, hjL, hrest⟩ | ⟨rfl, M', out', L', kj, hnone⟩
    · have c5' := kj.cells.2.2.2.2.2.1
      by_cases hlt : j < x.kids.length
      · have hlt' : (j : Int) < (x.kids.length : Int) := by omega
        obtain ⟨ac, hac, q2⟩ := (HX0.out.c.below hbw).at_ (show (ints x.kids)[j]? = some (.int .i64 x.kids[j]) by simp [ints, hlt])
        rw [hac] at t2
        have hdw : IntKind.i64.wrap ((deep : Int) + 1) = (deep : Int) + 1 := IntWalk.i64_in _ (by omega)
        have hcast : ((deep + 1 : Nat) : Int) = (deep : Int) + 1 := by omega
        have HSTEP := Lib.hid fun (w5 : World) hp => KidR.step (B := w0.heap.size) (gw := gw) (gm := gm) (A := some ad) (n := n) (c := c) (root := root) HFW.out.1 HFW.out.2 hkl hA' hout' htl hjL hrest hlt (w5 := w5) hp
        have HCALL := Lib.hid fun (lo' hi'' : Bd) (lv' hv' : Value) h1 h2 => HIH.out x.kids[j] lo' hi'' lv' hv' wr s vo' out' kj hbw hA' (HWX.out _ (List.getElem_mem hlt)) h1 h2
        rw [hcast] at HCALL
        have HKL := Lib.hid hkl
        have HJ := Lib.hid hlt
        have hwj : IntKind.i64.wrap ((j : Int) + 1) = (j : Int) + 1 := IntWalk.i64_in _ (by have := HX0.out.c.mx; omega)
        have hmk := HX0.out.k.mx
        clear kj hA' hout' htl hjL hrest hbw hcast hkl
        generalize x.kids[j] = cj at *
        have hlo : ∃ d1 : Bool, decide (0 < j) = d1 ∧ ((d1 = false ∧ BdV w0 lv (lst lo (x.ks.take j))) ∨ (d1 = true ∧ ∃ ak, h.kA = some ak ∧ IntKind.i64.wrap ((j : Int) - 1) = ((j - 1 : Nat) : Int) ∧ (∀ w, (Instr.slice 55 (.slice (some ak) x.ks.length h.kc) (some (.int .i64 ((j - 1 : Nat) : Int))) (some (.int .i64 (j : Int))) none).run Try.prog w = .ok (.slice (some (ak.add (j - 1))) 1 (h.kc - (j - 1))) w) ∧ BdV w0 (.slice (some (ak.add (j - 1))) 1 (h.kc - (j - 1))) (lst lo (x.ks.take j)))) := by
          have hkl := HKL.out
          rcases Nat.eq_zero_or_pos j with h0 | h0
          · refine ⟨false, decide_eq_false (by omega), .inl ⟨rfl, ?_⟩⟩
            rw [h0]
            exact HLV.out.1
          · have h2 : j - 1 < x.ks.length := by omega
            obtain ⟨ak, hak, q1⟩ := HX0.out.k.at_ (strs_at h2)
            have hle := HX0.out.k.le
            refine ⟨true, decide_eq_true (by omega), .inr ⟨rfl, ak, hak, by rw [IntWalk.i64_in _ (by omega)]; omega, fun w => run_lh Try.underlying55 (size_of Try.infoS) ak x.ks.length h.kc (j - 1) _ _ rfl (by omega) (by omega) w, ?_⟩⟩
            have e := lst_take_succ lo x.ks (j - 1) h2
            rw [show j - 1 + 1 = j by omega] at e
            rw [e]
            exact ⟨_, _, rfl, q1⟩
        have hhi : ∃ d2 : Bool, decide (j < x.ks.length) = d2 ∧ ((d2 = false ∧ BdV w0 hv (hed hi' (x.ks.drop j))) ∨ (d2 = true ∧ ∃ ak, h.kA = some ak ∧ (∀ w, (Instr.slice 55 (.slice (some ak) x.ks.length h.kc) (some (.int .i64 (j : Int))) (some (.int .i64 ((j : Int) + 1))) none).run Try.prog w = .ok (.slice (some (ak.add j)) 1 (h.kc - j)) w) ∧ BdV w0 (.slice (some (ak.add j)) 1 (h.kc - j)) (hed hi' (x.ks.drop j)))) := by
          by_cases h0 : j < x.ks.length
          · obtain ⟨ak, hak, q1⟩ := HX0.out.k.at_ (strs_at h0)
            have hle := HX0.out.k.le
            have hcap := HX0.out.k.cap
            refine ⟨true, decide_eq_true (by omega), .inr ⟨rfl, ak, hak, fun w => run_lh Try.underlying55 (size_of Try.infoS) ak x.ks.length h.kc j _ _ rfl rfl (by omega) w, ?_⟩⟩
            rw [List.drop_eq_getElem_cons h0]
            exact ⟨_, _, rfl, q1⟩
          · refine ⟨false, decide_eq_false (by omega), .inl ⟨rfl, ?_⟩⟩
            rw [List.drop_of_length_le (by omega)]
            exact HLV.out.2
        obtain ⟨d1, hd1, hlo⟩ := hlo
        obtain ⟨d2, hd2, hhi⟩ := hhi
        have HLO := Lib.hid hlo
        have HHI := Lib.hid hhi
        clear hlo hhi
        go_upto_if 188 with fail
        clear hd1
        go_cut [14] from 171 to 216 (fun av wx => wx = wr ∧ BdV w0 av (lst lo (x.ks.take j)))
        case first =>
          clear hd2 HHI
          rcases HLO.out with ⟨rfl, hbl⟩ | ⟨rfl, ak, hak, hwm, e1, hbl⟩
          · have HBL := Lib.hid hbl
            clear hbl HLO
            go_wp2
            go_meet
            exact ⟨rfl, HBL.out⟩
          · rw [hak] at t0
            have HBL := Lib.hid hbl
            clear hbl HLO
            go_wp2
            go_meet
            exact ⟨rfl, HBL.out⟩
        case rest =>
          obtain ⟨rfl, hbl⟩ := hcut
          have HBL := Lib.hid hbl
          clear hbl HLO
          go_upto_if 199 with fail
          clear hd2
          go_cut [15] from 171 to 216 (fun bv wx => wx = wc ∧ BdV w0 bv (hed hi' (x.ks.drop j)))
          case first =>
            rcases HHI.out with ⟨rfl, hbh⟩ | ⟨rfl, ak, hak, e2, hbh⟩
            · have HBH := Lib.hid hbh
              clear hbh HHI
              go_wp2
              go_meet
              exact ⟨rfl, HBH.out⟩
            · rw [hak] at t0
              have HBH := Lib.hid hbh
              clear hbh HHI
              go_wp2
              go_meet
              exact ⟨rfl, HBH.out⟩
          case rest =>
            obtain ⟨rfl, hbh⟩ := hcut
            have HCL := Lib.hid (HCALL.out _ _ _ _ HBL.out hbh)
            clear HCALL HBL hbh HHI
            go_upto_region 23 with fail
            go_wp2_with (first | (go_at_call 46; (with_reducible refine HCL.out.mono ?_); rintro e w5 ⟨rfl, hnp⟩; have HNP := Lib.hid hnp; clear hnp))
            go_roundw
            case rel =>
              obtain ⟨b, h1⟩ := HSTEP.out _ HNP.out
              exact ⟨j + 1, b, by go_num, HJ.out, h1⟩
            case measure => have := HJ.out; simp [intOf]; omega
      · obtain rfl : j = x.kids.length := by omega
        have hlt' : ¬ ((x.kids.length : Int) < (x.kids.length : Int)) := by omega
        rw [rest_end] at hrest
        have hpr : prs (s.L - deep) (.mk x.ks x.vs ts) = ts.flatMap (prs (s.L - (deep + 1))) := by
          have := hjL HKP.out
          rw [show s.L - deep = (s.L - (deep + 1)) + 1 by omega, prs_succ]
          rfl
        have HFIN := Lib.hid (show NdPost W2 wr w0.heap.size gw gm (some ad) n c root vo out deep (R1.map (fun q => (Tr.mk x.ks x.vs q.1, q.2))) by
          rw [← hrest]
          refine ⟨vo', HFW.out.1, HFW.out.2, ?_⟩
          show Wk wr w0.heap.size gw gm (some ad) n c root s.M vo' (out ++ prs (s.L - deep) (.mk x.ks x.vs ts)) s.L false
          rw [hpr, ← hout']
          exact kj)
        clear kj hA' hout' hrest hpr hbw
        go_wp2
        exact HEX.out _ _ rfl HFIN.out
    · have c5' := kj.cells.2.2.2.2.2.1
      have HFIN := Lib.hid (show NdPost W2 wr w0.heap.size gw gm (some ad) n c root vo out deep (R1.map (fun q => (Tr.mk x.ks x.vs q.1, q.2))) by
        rw [hnone]
        exact ⟨vo', HFW.out.1, HFW.out.2, _, _, _, kj⟩)
      clear kj hnone hbw
      by_cases hlt : j < x.kids.length
      · have hlt' : (j : Int) < (x.kids.length : Int) := by omega
        go_wp2
        exact HEX.out _ _ rfl HFIN.out
      · have hlt' : ¬ ((j : Int) < (x.kids.length : Int)) := by omega
        go_wp2
        exact HEX.out _ _ rfl HFIN.out
end Go.Proofs.Ytkpjkglheegmgaa
