/- The keys of a node in the document's walk: the walk of their loop. Conditions: a walk in memory, a node that is read. -/
import Derived.Test.YtkpjkglheegmgaaQs
import Derived.Test.YtkpjkglheegmgaaQp
namespace Go.Proofs.Ytkpjkglheegmgaa
open Go.RowKit
set_option linter.unusedSimpArgs false
set_option linter.unusedVariables false

noncomputable def nodeKeys : Code := ((((Try.f46.body.map loops).getD [])[0]?).getD .skip)
set_option maxRecDepth 1000000 in
set_option maxHeartbeats 8000000 in
theorem keys_loop (w0 W2 : World) (gw gm bx : Nat) (A : Option Addr) (n c : Nat) (root : Int) (M1 : List Nat) (vo : Value) (out : List Pr) (L deep : Nat) (lo hi' : Bd) (lv hv : Value) (x : Nd) (h : Hd) (px : Addr)
    (hbw : ∀ W, Fw gw gm vo W2 W → Below w0.heap.size w0 W)
    (hbx : ∀ W, Fw gw gm vo W2 W → W.heap[bx]? = some (.cells #[.slice h.kA x.ks.length h.kc, .slice h.vA x.vs.length h.vc, .slice h.cA x.kids.length h.cc] 65 (0, 0)))
    (hx : ∀ W, Below w0.heap.size w0 W → RdX W px x h) (hlv : BdV w0 lv lo) (hhv : BdV w0 hv hi')
    (W5 : World) (b0 : Bool) (k5 : Wk W5 w0.heap.size gw gm A n c root M1 vo out L b0) (f5 : Fw gw gm vo W2 W5) (hb5 : b0 = false ↔ KeysOk deep lo hi' x 0)
    (c1 c2 c5 c6 c7 c8 c9 c11 c13 c14 c15 c16 c17 c18 c19 c20 c21 c22 c23 c24 c25 c26 c27 c28 c29 c30 c31 c32 c33 c34 c35 c36 c37 c38 c39 c40 c41 c42 c43 c44 c45 c46 c47 c48 c49 c50 c51 c52 c53 c54 c55 c56 c57 c58 c59 c60 c61 c62 c63 c64 c65 c66 c67 c68 c69 c70 c71 c72 c73 c74 c75 c76 c77 c78 c79 c80 c81 c82 c83 c84 c85 c86 c87 c88 c89 c90 c91 c92 c93 c94 c95 c96 c97 c98 c99 c100 c101 c102 c103 c104 c105 c106 c107 c108 c109 c110 c111 c112 c113 c114 c115 c116 c117 c118 c119 c120 c121 c122 c123 c124 c125 c126 c127 c128 c129 c130 c131 c132 c133 c134 c135 c136 c137 c138 c139 c140 c141 c142 c143 c144 c145 c146 c147 c148 c149 c150 c151 c152 c153 c154 c155 c156 c157 c158 c159 c160 c161 c162 c163 c164 c165 c166 c167 c168 c169 c170 c171 c172 c173 c174 c175 c176 c177 c178 c179 c180 c181 c182 c183 c184 c185 c186 c187 c188 c189 c190 c191 c192 c193 c194 c195 c196 c197 c198 c199 c200 c201 c202 c203 c204 c205 c206 c207 c208 c209 c210 c211 c212 c213 c214 c215 c216 : Value) (Q0 : Exit → Act → World → Prop) (hexit : ∀ (u76 u77 u78 u79 u80 u81 u82 u83 u84 u85 u86 u87 u88 u89 u90 u91 u92 u93 u94 u95 u96 u97 u98 u99 u100 u101 u102 u103 u104 u105 u106 u107 u108 u109 u110 u111 u112 u113 u114 u115 u116 u117 u118 u119 u120 u121 u122 u123 u124 u125 u126 u127 u128 u129 u130 u131 u132 u133 u134 u135 u136 u137 u138 u139 : Value) (wr : World) (b : Bool), Wk wr w0.heap.size gw gm A n c root M1 vo out L b → Fw gw gm vo W2 wr → (b = false ↔ KeysOk deep lo hi' x x.ks.length) → Q0 (.exit 0) ⟨(ptr gw :: c1 :: c2 :: lv :: hv :: c5 :: c6 :: c7 :: c8 :: c9 :: .pointer (some ⟨bx, 0, none⟩) :: c11 :: .int .i64 x.ks.length :: c13 :: c14 :: c15 :: c16 :: c17 :: c18 :: c19 :: c20 :: c21 :: c22 :: c23 :: c24 :: c25 :: c26 :: c27 :: c28 :: c29 :: c30 :: c31 :: c32 :: c33 :: c34 :: c35 :: c36 :: c37 :: c38 :: c39 :: c40 :: c41 :: c42 :: c43 :: c44 :: c45 :: c46 :: c47 :: c48 :: c49 :: c50 :: c51 :: c52 :: c53 :: c54 :: c55 :: c56 :: c57 :: c58 :: c59 :: c60 :: c61 :: c62 :: c63 :: c64 :: c65 :: c66 :: c67 :: c68 :: c69 :: c70 :: c71 :: c72 :: c73 :: c74 :: c75 :: u76 :: u77 :: u78 :: u79 :: u80 :: u81 :: u82 :: u83 :: u84 :: u85 :: u86 :: u87 :: u88 :: u89 :: u90 :: u91 :: u92 :: u93 :: u94 :: u95 :: u96 :: u97 :: u98 :: u99 :: u100 :: u101 :: u102 :: u103 :: u104 :: u105 :: u106 :: u107 :: u108 :: u109 :: u110 :: u111 :: u112 :: u113 :: u114 :: u115 :: u116 :: u117 :: u118 :: u119 :: u120 :: u121 :: u122 :: u123 :: u124 :: u125 :: u126 :: u127 :: u128 :: u129 :: u130 :: u131 :: u132 :: u133 :: u134 :: u135 :: u136 :: u137 :: u138 :: u139 :: c140 :: c141 :: c142 :: c143 :: c144 :: c145 :: c146 :: c147 :: c148 :: c149 :: c150 :: c151 :: c152 :: c153 :: c154 :: c155 :: c156 :: c157 :: c158 :: c159 :: c160 :: c161 :: c162 :: c163 :: c164 :: c165 :: c166 :: c167 :: c168 :: c169 :: c170 :: c171 :: c172 :: c173 :: c174 :: c175 :: c176 :: c177 :: c178 :: c179 :: c180 :: c181 :: c182 :: c183 :: c184 :: c185 :: c186 :: c187 :: c188 :: c189 :: c190 :: c191 :: c192 :: c193 :: c194 :: c195 :: c196 :: c197 :: c198 :: c199 :: c200 :: c201 :: c202 :: c203 :: c204 :: c205 :: c206 :: c207 :: c208 :: c209 :: c210 :: c211 :: c212 :: c213 :: c214 :: c215 :: c216 :: ([] : List Value)).toArray, []⟩ wr) : Code.wp Try.prog (Code.loop nodeKeys) Q0 ⟨(ptr gw :: c1 :: c2 :: lv :: hv :: c5 :: c6 :: c7 :: c8 :: c9 :: .pointer (some ⟨bx, 0, none⟩) :: c11 :: .int .i64 0 :: c13 :: c14 :: c15 :: c16 :: c17 :: c18 :: c19 :: c20 :: c21 :: c22 :: c23 :: c24 :: c25 :: c26 :: c27 :: c28 :: c29 :: c30 :: c31 :: c32 :: c33 :: c34 :: c35 :: c36 :: c37 :: c38 :: c39 :: c40 :: c41 :: c42 :: c43 :: c44 :: c45 :: c46 :: c47 :: c48 :: c49 :: c50 :: c51 :: c52 :: c53 :: c54 :: c55 :: c56 :: c57 :: c58 :: c59 :: c60 :: c61 :: c62 :: c63 :: c64 :: c65 :: c66 :: c67 :: c68 :: c69 :: c70 :: c71 :: c72 :: c73 :: c74 :: c75 :: c76 :: c77 :: c78 :: c79 :: c80 :: c81 :: c82 :: c83 :: c84 :: c85 :: c86 :: c87 :: c88 :: c89 :: c90 :: c91 :: c92 :: c93 :: c94 :: c95 :: c96 :: c97 :: c98 :: c99 :: c100 :: c101 :: c102 :: c103 :: c104 :: c105 :: c106 :: c107 :: c108 :: c109 :: c110 :: c111 :: c112 :: c113 :: c114 :: c115 :: c116 :: c117 :: c118 :: c119 :: c120 :: c121 :: c122 :: c123 :: c124 :: c125 :: c126 :: c127 :: c128 :: c129 :: c130 :: c131 :: c132 :: c133 :: c134 :: c135 :: c136 :: c137 :: c138 :: c139 :: c140 :: c141 :: c142 :: c143 :: c144 :: c145 :: c146 :: c147 :: c148 :: c149 :: c150 :: c151 :: c152 :: c153 :: c154 :: c155 :: c156 :: c157 :: c158 :: c159 :: c160 :: c161 :: c162 :: c163 :: c164 :: c165 :: c166 :: c167 :: c168 :: c169 :: c170 :: c171 :: c172 :: c173 :: c174 :: c175 :: c176 :: c177 :: c178 :: c179 :: c180 :: c181 :: c182 :: c183 :: c184 :: c185 :: c186 :: c187 :: c188 :: c189 :: c190 :: c191 :: c192 :: c193 :: c194 :: c195 :: c196 :: c197 :: c198 :: c199 :: c200 :: c201 :: c202 :: c203 :: c204 :: c205 :: c206 :: c207 :: c208 :: c209 :: c210 :: c211 :: c212 :: c213 :: c214 :: c215 :: c216 :: ([] : List Value)).toArray, []⟩ W5 := by
  have HEX := Lib.hid hexit
  have HBW0 := Lib.hid hbw
  have HBX := Lib.hid hbx
  have HX := Lib.hid hx
  have HC3 := Lib.hid (And.intro k5 (And.intro f5 hb5))
  clear hexit hbw hbx hx k5 f5 hb5
  conv => arg 2; arg 1; whnf
  go_loopw [12] (fun iv wr => ∃ (j : Nat) (b : Bool), iv = .int .i64 j ∧ j ≤ x.ks.length ∧ Wk wr w0.heap.size gw gm A n c root M1 vo out L b ∧ Fw gw gm vo W2 wr ∧ (b = false ↔ KeysOk deep lo hi' x j)) (fun iv _ => x.ks.length - (intOf iv).toNat)
  case atStart =>
    obtain ⟨h1, h2, h3⟩ := HC3.out
    exact ⟨0, b0, rfl, by omega, h1, h2, h3⟩
  case round =>
    obtain ⟨j, b, rfl, hj, kj, hfj, hbj⟩ := hrel
    clear HC3
    obtain ⟨t0, t1, t2, _⟩ := three_of (HBX.out wr hfj)
    obtain ⟨_, _, _, _, _, cq5, cf⟩ := kj.cells
    have cf5 := cf 5
    have hbw0 : Below w0.heap.size w0 wr := HBW0.out wr hfj
    have HKJ := Lib.hid kj
    have HFJ := Lib.hid hfj
    have HBJ := Lib.hid hbj
    have HBW := Lib.hid hbw0
    clear kj hfj hbj cf hbw0
    by_cases hlt : j < x.ks.length
    · have hlt' : (j : Int) < (x.ks.length : Int) := by omega
      go_upto_region 11 with fail
      obtain ⟨ak, hak, q0⟩ := (((HX.out wr HBW.out).k)).at_ (strs_at hlt)
      rw [hak] at t0
      have hwj : IntKind.i64.wrap ((j : Int) + 1) = (j : Int) + 1 := IntWalk.i64_in _ (by have := (HX.out wr HBW.out).k.mx; omega)
      have hdb : Below wr.heap.size wr wr.drew := (Below.refl _ _).drew
      have hLL1 : ∃ L1 : Bool, (L1 = true ↔ (0 < j → ∀ h2 : j - 1 < x.ks.length, x.ks[j - 1] < x.ks[j])) ∧ (0 < j → ∃ prev : ByteArray, wr.drew.cell? (ak.add (j - 1)) = some (.string prev) ∧ (Op.bytesLess x.ks[j].s.toList prev.toList || x.ks[j].s.toList == prev.toList) = !L1) ∧ (¬ 0 < j → L1 = true) := by
        by_cases h0 : 0 < j
        · have h2 : j - 1 < x.ks.length := by omega
          obtain ⟨ak', hak', q1⟩ := (((HX.out wr HBW.out).k)).at_ (strs_at h2)
          rw [hak] at hak'
          rw [← Option.some.inj hak'] at q1
          refine ⟨decide (x.ks[j - 1] < x.ks[j]), ?_, fun _ => ⟨_, cell_keep q1 hdb, leq_dec _ _⟩, fun h => absurd h0 h⟩
          rw [decide_eq_true_iff]
          exact ⟨fun h _ _ => h, fun h => h h0 h2⟩
        · exact ⟨true, ⟨fun _ h => absurd h h0, fun _ => rfl⟩, fun h => absurd h h0, fun _ => rfl⟩
      obtain ⟨L1, hL1, hp1, hn1⟩ := hLL1
      obtain ⟨L2, A2, n2, cq2, hL2, rfl, hw2⟩ := bd_lo hlv (HBW.out.trans (hdb.mono HBW.out.size)) x.ks[j]
      obtain ⟨L3, A3, n3, cq3, hL3, rfl, hw3⟩ := bd_hi hhv (HBW.out.trans (hdb.mono HBW.out.size)) x.ks[j]
      have HNEW := Lib.hid (show (((b || !L1) || !L2) || !L3) = false ↔ KeysOk deep lo hi' x (j + 1) by
        rw [keysOk_succ hlt, ← HBJ.out, ← hL1, ← hL2, ← hL3]
        cases b <;> cases L1 <;> cases L2 <;> cases L3 <;> simp)
      have HKD := Lib.hid (HKJ.out.below hdb)
      have HFD := Lib.hid (HFJ.out.trans (Fw.of_below hdb) (fun b hb => .inl hb))
      have t0 := cell_keep t0 hdb
      have q0 := cell_keep q0 hdb
      have cq5 := cell_keep cq5 hdb
      have hlj : ((j - 1 : Nat) : Int) < (x.ks.length : Int) := by omega
      have hwm : 0 < j → IntKind.i64.wrap ((j : Int) - 1) = ((j - 1 : Nat) : Int) := fun h => by rw [IntWalk.i64_in _ (by have := (HX.out wr HBW.out).k.mx; omega)]; omega
      clear hL1 hL2 hL3 HKJ HFJ HBJ t1 t2 hlv hhv hdb cf5
      generalize x.ks[j].s = s at *
      refine region_named 55 83 (by kernel_rfl) (by kernel_rfl) (by kernel_rfl) ?_
      intro OPS KK a0 HDS hK ha0
      have HSZ : a0.tmps.size = 217 := by rw [ha0]; rfl
      have z0 : a0.tmps[0]? = some (ptr gw) := by rw [ha0]; rfl
      have z3 : a0.tmps[3]? = some (.slice A2 n2 cq2) := by rw [ha0]; rfl
      have z4 : a0.tmps[4]? = some (.slice A3 n3 cq3) := by rw [ha0]; rfl
      have z10 : a0.tmps[10]? = some (.pointer (some ⟨bx, 0, none⟩)) := by rw [ha0]; rfl
      have z12 : a0.tmps[12]? = some (.int .i64 j) := by rw [ha0]; rfl
      have HA0 := Lib.hid ha0
      have HKK := Lib.hid hK
      clear ha0 hK
      generalize wr.drew = wd at *
      simp only [List.take_succ_cons, List.take_zero, List.drop_succ_cons, List.drop_zero]
      refine still_cut 24 (fun a => Kp 83 138 a0 a ∧ a.tmps[106]? = some (.bool (b || !L1)) ∧ a.tmps[83]? = some (ptr gw)) ?p1 ?_
      case p1 =>
        simp only [List.take_succ_cons, List.take_zero, List.drop_succ_cons, List.drop_zero]
        refine (show ∀ a, Kp 83 138 a0 a → wpStill Try.prog OPS wd _ _ a from ?_) a0 (Kp.refl _ _ _)
        intro a kp
        clear hw2 hw3 hak HA0 HKK HKD HFD HNEW HBW
        cases b with
        | true =>
          refine st_val (d := 83) (v := (ptr gw)) (wanted_none rfl) rfl (by have e0 := eval_at ((kp.keep 0 (by decide)).trans z0); have ec : ∀ v, a.eval (.const v) = v := fun _ => rfl; generalize a.eval = ev at *; clear kp HDS; go_simp; try with_reducible rfl) (by rw [kp.size, HSZ]; decide) (fun a on s83 => ?_)
          replace kp := kp.only on (by decide)
          clear on
          refine st_val (d := 84) (v := (ptr gw)) (wanted_none rfl) rfl (by have e0 := eval_at ((kp.keep 0 (by decide)).trans z0); have ec : ∀ v, a.eval (.const v) = v := fun _ => rfl; generalize a.eval = ev at *; clear kp HDS; go_simp; try with_reducible rfl) (by rw [kp.size, HSZ]; decide) (fun a on s84 => ?_)
          replace kp := kp.only on (by decide)
          replace s83 := on.keep _ _ s83 (by decide)
          clear on
          refine st_val (d := 85) (v := (ptr gw)) (wanted_none rfl) rfl (by have e84 := eval_at s84; have ec : ∀ v, a.eval (.const v) = v := fun _ => rfl; generalize a.eval = ev at *; clear kp HDS; go_simp; try with_reducible rfl) (by rw [kp.size, HSZ]; decide) (fun a on s85 => ?_)
          replace kp := kp.only on (by decide)
          replace s83 := on.keep _ _ s83 (by decide)
          clear on s84
          refine st_val (d := 86) (v := (.pointer (some ⟨gw, 5, none⟩))) (wanted_none rfl) rfl (by have e85 := eval_at s85; have ec : ∀ v, a.eval (.const v) = v := fun _ => rfl; generalize a.eval = ev at *; clear kp HDS; go_simp; try with_reducible rfl) (by rw [kp.size, HSZ]; decide) (fun a on s86 => ?_)
          replace kp := kp.only on (by decide)
          replace s83 := on.keep _ _ s83 (by decide)
          clear on s85
          refine st_val (d := 87) (v := (.bool true)) (wanted_none rfl) rfl (by have e86 := eval_at s86; have ec : ∀ v, a.eval (.const v) = v := fun _ => rfl; generalize a.eval = ev at *; clear kp HDS; go_simp; try with_reducible rfl) (by rw [kp.size, HSZ]; decide) (fun a on s87 => ?_)
          replace kp := kp.only on (by decide)
          replace s83 := on.keep _ _ s83 (by decide)
          clear on s86
          refine st_val (d := 88) (v := (.bool true)) (wanted_none rfl) rfl (by have e87 := eval_at s87; have ec : ∀ v, a.eval (.const v) = v := fun _ => rfl; generalize a.eval = ev at *; clear kp HDS; go_simp; try with_reducible rfl) (by rw [kp.size, HSZ]; decide) (fun a on s88 => ?_)
          replace kp := kp.only on (by decide)
          replace s83 := on.keep _ _ s83 (by decide)
          clear on s87
          refine st_skip (d := 89) (wanted_off rfl (show (OPS[5]?).bind (·.dst) = some 88 from HDS 5 (by decide)) s88 (by decide)) rfl (by rw [kp.size, HSZ]; decide) (fun a on s89 => ?_)
          replace kp := kp.only on (by decide)
          replace s83 := on.keep _ _ s83 (by decide)
          replace s88 := on.keep _ _ s88 (by decide)
          clear on
          clear s89
          refine st_skip (d := 90) (wanted_off rfl (show (OPS[5]?).bind (·.dst) = some 88 from HDS 5 (by decide)) s88 (by decide)) rfl (by rw [kp.size, HSZ]; decide) (fun a on s90 => ?_)
          replace kp := kp.only on (by decide)
          replace s83 := on.keep _ _ s83 (by decide)
          replace s88 := on.keep _ _ s88 (by decide)
          clear on
          clear s90
          refine st_skip (d := 91) (wanted_off rfl (show (OPS[5]?).bind (·.dst) = some 88 from HDS 5 (by decide)) s88 (by decide)) rfl (by rw [kp.size, HSZ]; decide) (fun a on s91 => ?_)
          replace kp := kp.only on (by decide)
          replace s83 := on.keep _ _ s83 (by decide)
          replace s88 := on.keep _ _ s88 (by decide)
          clear on
          refine st_skip (d := 92) (wanted_undef rfl (show (OPS[8]?).bind (·.dst) = some 91 from HDS 8 (by decide)) s91) rfl (by rw [kp.size, HSZ]; decide) (fun a on s92 => ?_)
          replace kp := kp.only on (by decide)
          replace s83 := on.keep _ _ s83 (by decide)
          replace s88 := on.keep _ _ s88 (by decide)
          replace s91 := on.keep _ _ s91 (by decide)
          clear on
          clear s92
          refine st_skip (d := 93) (wanted_undef rfl (show (OPS[8]?).bind (·.dst) = some 91 from HDS 8 (by decide)) s91) rfl (by rw [kp.size, HSZ]; decide) (fun a on s93 => ?_)
          replace kp := kp.only on (by decide)
          replace s83 := on.keep _ _ s83 (by decide)
          replace s88 := on.keep _ _ s88 (by decide)
          replace s91 := on.keep _ _ s91 (by decide)
          clear on
          clear s93
          refine st_skip (d := 94) (wanted_undef rfl (show (OPS[8]?).bind (·.dst) = some 91 from HDS 8 (by decide)) s91) rfl (by rw [kp.size, HSZ]; decide) (fun a on s94 => ?_)
          replace kp := kp.only on (by decide)
          replace s83 := on.keep _ _ s83 (by decide)
          replace s88 := on.keep _ _ s88 (by decide)
          replace s91 := on.keep _ _ s91 (by decide)
          clear on
          clear s94
          refine st_skip (d := 95) (wanted_undef rfl (show (OPS[8]?).bind (·.dst) = some 91 from HDS 8 (by decide)) s91) rfl (by rw [kp.size, HSZ]; decide) (fun a on s95 => ?_)
          replace kp := kp.only on (by decide)
          replace s83 := on.keep _ _ s83 (by decide)
          replace s88 := on.keep _ _ s88 (by decide)
          replace s91 := on.keep _ _ s91 (by decide)
          clear on
          clear s95
          refine st_skip (d := 96) (wanted_undef rfl (show (OPS[8]?).bind (·.dst) = some 91 from HDS 8 (by decide)) s91) rfl (by rw [kp.size, HSZ]; decide) (fun a on s96 => ?_)
          replace kp := kp.only on (by decide)
          replace s83 := on.keep _ _ s83 (by decide)
          replace s88 := on.keep _ _ s88 (by decide)
          replace s91 := on.keep _ _ s91 (by decide)
          clear on
          clear s96
          refine st_skip (d := 97) (wanted_undef rfl (show (OPS[8]?).bind (·.dst) = some 91 from HDS 8 (by decide)) s91) rfl (by rw [kp.size, HSZ]; decide) (fun a on s97 => ?_)
          replace kp := kp.only on (by decide)
          replace s83 := on.keep _ _ s83 (by decide)
          replace s88 := on.keep _ _ s88 (by decide)
          replace s91 := on.keep _ _ s91 (by decide)
          clear on
          clear s97
          refine st_skip (d := 98) (wanted_undef rfl (show (OPS[8]?).bind (·.dst) = some 91 from HDS 8 (by decide)) s91) rfl (by rw [kp.size, HSZ]; decide) (fun a on s98 => ?_)
          replace kp := kp.only on (by decide)
          replace s83 := on.keep _ _ s83 (by decide)
          replace s88 := on.keep _ _ s88 (by decide)
          replace s91 := on.keep _ _ s91 (by decide)
          clear on
          clear s98
          refine st_skip (d := 99) (wanted_undef rfl (show (OPS[8]?).bind (·.dst) = some 91 from HDS 8 (by decide)) s91) rfl (by rw [kp.size, HSZ]; decide) (fun a on s99 => ?_)
          replace kp := kp.only on (by decide)
          replace s83 := on.keep _ _ s83 (by decide)
          replace s88 := on.keep _ _ s88 (by decide)
          replace s91 := on.keep _ _ s91 (by decide)
          clear on
          clear s99
          refine st_skip (d := 100) (wanted_undef rfl (show (OPS[8]?).bind (·.dst) = some 91 from HDS 8 (by decide)) s91) rfl (by rw [kp.size, HSZ]; decide) (fun a on s100 => ?_)
          replace kp := kp.only on (by decide)
          replace s83 := on.keep _ _ s83 (by decide)
          replace s88 := on.keep _ _ s88 (by decide)
          replace s91 := on.keep _ _ s91 (by decide)
          clear on
          clear s100
          refine st_skip (d := 101) (wanted_undef rfl (show (OPS[8]?).bind (·.dst) = some 91 from HDS 8 (by decide)) s91) rfl (by rw [kp.size, HSZ]; decide) (fun a on s101 => ?_)
          replace kp := kp.only on (by decide)
          replace s83 := on.keep _ _ s83 (by decide)
          replace s88 := on.keep _ _ s88 (by decide)
          replace s91 := on.keep _ _ s91 (by decide)
          clear on
          clear s101
          refine st_skip (d := 102) (wanted_undef rfl (show (OPS[8]?).bind (·.dst) = some 91 from HDS 8 (by decide)) s91) rfl (by rw [kp.size, HSZ]; decide) (fun a on s102 => ?_)
          replace kp := kp.only on (by decide)
          replace s83 := on.keep _ _ s83 (by decide)
          replace s88 := on.keep _ _ s88 (by decide)
          replace s91 := on.keep _ _ s91 (by decide)
          clear on
          clear s102
          refine st_skip (d := 103) (wanted_undef rfl (show (OPS[8]?).bind (·.dst) = some 91 from HDS 8 (by decide)) s91) rfl (by rw [kp.size, HSZ]; decide) (fun a on s103 => ?_)
          replace kp := kp.only on (by decide)
          replace s83 := on.keep _ _ s83 (by decide)
          replace s88 := on.keep _ _ s88 (by decide)
          replace s91 := on.keep _ _ s91 (by decide)
          clear on
          clear s103
          refine st_skip (d := 104) (wanted_off rfl (show (OPS[5]?).bind (·.dst) = some 88 from HDS 5 (by decide)) s88 (by decide)) rfl (by rw [kp.size, HSZ]; decide) (fun a on s104 => ?_)
          replace kp := kp.only on (by decide)
          replace s83 := on.keep _ _ s83 (by decide)
          replace s88 := on.keep _ _ s88 (by decide)
          clear on s91
          clear s104
          refine st_val (d := 105) (v := (.bool true)) (wanted_none rfl) rfl (by have e88 := eval_at s88; have ec : ∀ v, a.eval (.const v) = v := fun _ => rfl; generalize a.eval = ev at *; clear kp HDS; go_simp; try with_reducible rfl) (by rw [kp.size, HSZ]; decide) (fun a on s105 => ?_)
          replace kp := kp.only on (by decide)
          replace s83 := on.keep _ _ s83 (by decide)
          clear on s88
          refine st_val (d := 106) (v := (.bool true)) (wanted_none rfl) rfl (by have e105 := eval_at s105; have ec : ∀ v, a.eval (.const v) = v := fun _ => rfl; generalize a.eval = ev at *; clear kp HDS; go_simp; try with_reducible rfl) (by rw [kp.size, HSZ]; decide) (fun a on s106 => ?_)
          replace kp := kp.only on (by decide)
          replace s83 := on.keep _ _ s83 (by decide)
          clear on s105
          refine wpStill_nil ?_
          exact ⟨kp, s106, s83⟩
        | false =>
          by_cases h0 : 0 < j
          · obtain ⟨prev, q1, hb1⟩ := hp1 h0
            have h0i : (0 : Int) < (j : Int) := by omega
            have hwm := hwm h0
            clear hp1 hn1
            refine st_val (d := 83) (v := (ptr gw)) (wanted_none rfl) rfl (by have e0 := eval_at ((kp.keep 0 (by decide)).trans z0); have ec : ∀ v, a.eval (.const v) = v := fun _ => rfl; generalize a.eval = ev at *; clear kp HDS; go_simp; try with_reducible rfl) (by rw [kp.size, HSZ]; decide) (fun a on s83 => ?_)
            replace kp := kp.only on (by decide)
            clear on
            refine st_val (d := 84) (v := (ptr gw)) (wanted_none rfl) rfl (by have e0 := eval_at ((kp.keep 0 (by decide)).trans z0); have ec : ∀ v, a.eval (.const v) = v := fun _ => rfl; generalize a.eval = ev at *; clear kp HDS; go_simp; try with_reducible rfl) (by rw [kp.size, HSZ]; decide) (fun a on s84 => ?_)
            replace kp := kp.only on (by decide)
            replace s83 := on.keep _ _ s83 (by decide)
            clear on
            refine st_val (d := 85) (v := (ptr gw)) (wanted_none rfl) rfl (by have e84 := eval_at s84; have ec : ∀ v, a.eval (.const v) = v := fun _ => rfl; generalize a.eval = ev at *; clear kp HDS; go_simp; try with_reducible rfl) (by rw [kp.size, HSZ]; decide) (fun a on s85 => ?_)
            replace kp := kp.only on (by decide)
            replace s83 := on.keep _ _ s83 (by decide)
            clear on s84
            refine st_val (d := 86) (v := (.pointer (some ⟨gw, 5, none⟩))) (wanted_none rfl) rfl (by have e85 := eval_at s85; have ec : ∀ v, a.eval (.const v) = v := fun _ => rfl; generalize a.eval = ev at *; clear kp HDS; go_simp; try with_reducible rfl) (by rw [kp.size, HSZ]; decide) (fun a on s86 => ?_)
            replace kp := kp.only on (by decide)
            replace s83 := on.keep _ _ s83 (by decide)
            clear on s85
            refine st_val (d := 87) (v := (.bool false)) (wanted_none rfl) rfl (by have e86 := eval_at s86; have ec : ∀ v, a.eval (.const v) = v := fun _ => rfl; generalize a.eval = ev at *; clear kp HDS; go_simp; try with_reducible rfl) (by rw [kp.size, HSZ]; decide) (fun a on s87 => ?_)
            replace kp := kp.only on (by decide)
            replace s83 := on.keep _ _ s83 (by decide)
            clear on s86
            refine st_val (d := 88) (v := (.bool false)) (wanted_none rfl) rfl (by have e87 := eval_at s87; have ec : ∀ v, a.eval (.const v) = v := fun _ => rfl; generalize a.eval = ev at *; clear kp HDS; go_simp; try with_reducible rfl) (by rw [kp.size, HSZ]; decide) (fun a on s88 => ?_)
            replace kp := kp.only on (by decide)
            replace s83 := on.keep _ _ s83 (by decide)
            clear on s87
            refine st_val (d := 89) (v := (.int .i64 j)) (wanted_on rfl (show (OPS[5]?).bind (·.dst) = some 88 from HDS 5 (by decide)) s88) rfl (by have e12 := eval_at ((kp.keep 12 (by decide)).trans z12); have ec : ∀ v, a.eval (.const v) = v := fun _ => rfl; generalize a.eval = ev at *; clear kp HDS; go_simp; try with_reducible rfl) (by rw [kp.size, HSZ]; decide) (fun a on s89 => ?_)
            replace kp := kp.only on (by decide)
            replace s83 := on.keep _ _ s83 (by decide)
            replace s88 := on.keep _ _ s88 (by decide)
            clear on
            refine st_val (d := 90) (v := (.bool true)) (wanted_on rfl (show (OPS[5]?).bind (·.dst) = some 88 from HDS 5 (by decide)) s88) rfl (by have e89 := eval_at s89; have ec : ∀ v, a.eval (.const v) = v := fun _ => rfl; generalize a.eval = ev at *; clear kp HDS; go_simp; try with_reducible rfl) (by rw [kp.size, HSZ]; decide) (fun a on s90 => ?_)
            replace kp := kp.only on (by decide)
            replace s83 := on.keep _ _ s83 (by decide)
            replace s88 := on.keep _ _ s88 (by decide)
            clear on s89
            refine st_val (d := 91) (v := (.bool true)) (wanted_on rfl (show (OPS[5]?).bind (·.dst) = some 88 from HDS 5 (by decide)) s88) rfl (by have e90 := eval_at s90; have ec : ∀ v, a.eval (.const v) = v := fun _ => rfl; generalize a.eval = ev at *; clear kp HDS; go_simp; try with_reducible rfl) (by rw [kp.size, HSZ]; decide) (fun a on s91 => ?_)
            replace kp := kp.only on (by decide)
            replace s83 := on.keep _ _ s83 (by decide)
            replace s88 := on.keep _ _ s88 (by decide)
            clear on s90
            refine st_val (d := 92) (v := (.pointer (some ⟨bx, 0, none⟩))) (wanted_on rfl (show (OPS[8]?).bind (·.dst) = some 91 from HDS 8 (by decide)) s91) rfl (by have e10 := eval_at ((kp.keep 10 (by decide)).trans z10); have ec : ∀ v, a.eval (.const v) = v := fun _ => rfl; generalize a.eval = ev at *; clear kp HDS; go_simp; try with_reducible rfl) (by rw [kp.size, HSZ]; decide) (fun a on s92 => ?_)
            replace kp := kp.only on (by decide)
            replace s83 := on.keep _ _ s83 (by decide)
            replace s88 := on.keep _ _ s88 (by decide)
            replace s91 := on.keep _ _ s91 (by decide)
            clear on
            refine st_val (d := 93) (v := (.slice (some ak) x.ks.length h.kc)) (wanted_on rfl (show (OPS[8]?).bind (·.dst) = some 91 from HDS 8 (by decide)) s91) rfl (by have e92 := eval_at s92; have ec : ∀ v, a.eval (.const v) = v := fun _ => rfl; generalize a.eval = ev at *; clear kp HDS; go_simp; try with_reducible rfl) (by rw [kp.size, HSZ]; decide) (fun a on s93 => ?_)
            replace kp := kp.only on (by decide)
            replace s83 := on.keep _ _ s83 (by decide)
            replace s88 := on.keep _ _ s88 (by decide)
            replace s91 := on.keep _ _ s91 (by decide)
            clear on s92
            refine st_val (d := 94) (v := (.int .i64 j)) (wanted_on rfl (show (OPS[8]?).bind (·.dst) = some 91 from HDS 8 (by decide)) s91) rfl (by have e12 := eval_at ((kp.keep 12 (by decide)).trans z12); have ec : ∀ v, a.eval (.const v) = v := fun _ => rfl; generalize a.eval = ev at *; clear kp HDS; go_simp; try with_reducible rfl) (by rw [kp.size, HSZ]; decide) (fun a on s94 => ?_)
            replace kp := kp.only on (by decide)
            replace s83 := on.keep _ _ s83 (by decide)
            replace s88 := on.keep _ _ s88 (by decide)
            replace s91 := on.keep _ _ s91 (by decide)
            replace s93 := on.keep _ _ s93 (by decide)
            clear on
            refine st_val (d := 95) (v := (.pointer (some (ak.add j)))) (wanted_on rfl (show (OPS[8]?).bind (·.dst) = some 91 from HDS 8 (by decide)) s91) rfl (by have e93 := eval_at s93; have e94 := eval_at s94; have ec : ∀ v, a.eval (.const v) = v := fun _ => rfl; generalize a.eval = ev at *; clear kp HDS; go_simp; try with_reducible rfl) (by rw [kp.size, HSZ]; decide) (fun a on s95 => ?_)
            replace kp := kp.only on (by decide)
            replace s83 := on.keep _ _ s83 (by decide)
            replace s88 := on.keep _ _ s88 (by decide)
            replace s91 := on.keep _ _ s91 (by decide)
            clear on s93 s94
            refine st_val (d := 96) (v := (.string s)) (wanted_on rfl (show (OPS[8]?).bind (·.dst) = some 91 from HDS 8 (by decide)) s91) rfl (by have e95 := eval_at s95; have ec : ∀ v, a.eval (.const v) = v := fun _ => rfl; generalize a.eval = ev at *; clear kp HDS; go_simp; try with_reducible rfl) (by rw [kp.size, HSZ]; decide) (fun a on s96 => ?_)
            replace kp := kp.only on (by decide)
            replace s83 := on.keep _ _ s83 (by decide)
            replace s88 := on.keep _ _ s88 (by decide)
            replace s91 := on.keep _ _ s91 (by decide)
            clear on s95
            refine st_val (d := 97) (v := (.pointer (some ⟨bx, 0, none⟩))) (wanted_on rfl (show (OPS[8]?).bind (·.dst) = some 91 from HDS 8 (by decide)) s91) rfl (by have e10 := eval_at ((kp.keep 10 (by decide)).trans z10); have ec : ∀ v, a.eval (.const v) = v := fun _ => rfl; generalize a.eval = ev at *; clear kp HDS; go_simp; try with_reducible rfl) (by rw [kp.size, HSZ]; decide) (fun a on s97 => ?_)
            replace kp := kp.only on (by decide)
            replace s83 := on.keep _ _ s83 (by decide)
            replace s88 := on.keep _ _ s88 (by decide)
            replace s91 := on.keep _ _ s91 (by decide)
            replace s96 := on.keep _ _ s96 (by decide)
            clear on
            refine st_val (d := 98) (v := (.slice (some ak) x.ks.length h.kc)) (wanted_on rfl (show (OPS[8]?).bind (·.dst) = some 91 from HDS 8 (by decide)) s91) rfl (by have e97 := eval_at s97; have ec : ∀ v, a.eval (.const v) = v := fun _ => rfl; generalize a.eval = ev at *; clear kp HDS; go_simp; try with_reducible rfl) (by rw [kp.size, HSZ]; decide) (fun a on s98 => ?_)
            replace kp := kp.only on (by decide)
            replace s83 := on.keep _ _ s83 (by decide)
            replace s88 := on.keep _ _ s88 (by decide)
            replace s91 := on.keep _ _ s91 (by decide)
            replace s96 := on.keep _ _ s96 (by decide)
            clear on s97
            refine st_val (d := 99) (v := (.int .i64 j)) (wanted_on rfl (show (OPS[8]?).bind (·.dst) = some 91 from HDS 8 (by decide)) s91) rfl (by have e12 := eval_at ((kp.keep 12 (by decide)).trans z12); have ec : ∀ v, a.eval (.const v) = v := fun _ => rfl; generalize a.eval = ev at *; clear kp HDS; go_simp; try with_reducible rfl) (by rw [kp.size, HSZ]; decide) (fun a on s99 => ?_)
            replace kp := kp.only on (by decide)
            replace s83 := on.keep _ _ s83 (by decide)
            replace s88 := on.keep _ _ s88 (by decide)
            replace s91 := on.keep _ _ s91 (by decide)
            replace s96 := on.keep _ _ s96 (by decide)
            replace s98 := on.keep _ _ s98 (by decide)
            clear on
            refine st_val (d := 100) (v := (.int .i64 ((j - 1 : Nat) : Int))) (wanted_on rfl (show (OPS[8]?).bind (·.dst) = some 91 from HDS 8 (by decide)) s91) rfl (by have e99 := eval_at s99; have ec : ∀ v, a.eval (.const v) = v := fun _ => rfl; generalize a.eval = ev at *; clear kp HDS; go_simp; try with_reducible rfl) (by rw [kp.size, HSZ]; decide) (fun a on s100 => ?_)
            replace kp := kp.only on (by decide)
            replace s83 := on.keep _ _ s83 (by decide)
            replace s88 := on.keep _ _ s88 (by decide)
            replace s91 := on.keep _ _ s91 (by decide)
            replace s96 := on.keep _ _ s96 (by decide)
            replace s98 := on.keep _ _ s98 (by decide)
            clear on s99
            refine st_val (d := 101) (v := (.pointer (some (ak.add (j - 1))))) (wanted_on rfl (show (OPS[8]?).bind (·.dst) = some 91 from HDS 8 (by decide)) s91) rfl (by have e98 := eval_at s98; have e100 := eval_at s100; have ec : ∀ v, a.eval (.const v) = v := fun _ => rfl; generalize a.eval = ev at *; clear kp HDS; go_simp; try with_reducible rfl) (by rw [kp.size, HSZ]; decide) (fun a on s101 => ?_)
            replace kp := kp.only on (by decide)
            replace s83 := on.keep _ _ s83 (by decide)
            replace s88 := on.keep _ _ s88 (by decide)
            replace s91 := on.keep _ _ s91 (by decide)
            replace s96 := on.keep _ _ s96 (by decide)
            clear on s98 s100
            refine st_val (d := 102) (v := (.string prev)) (wanted_on rfl (show (OPS[8]?).bind (·.dst) = some 91 from HDS 8 (by decide)) s91) rfl (by have e101 := eval_at s101; have ec : ∀ v, a.eval (.const v) = v := fun _ => rfl; generalize a.eval = ev at *; clear kp HDS; go_simp; try with_reducible rfl) (by rw [kp.size, HSZ]; decide) (fun a on s102 => ?_)
            replace kp := kp.only on (by decide)
            replace s83 := on.keep _ _ s83 (by decide)
            replace s88 := on.keep _ _ s88 (by decide)
            replace s91 := on.keep _ _ s91 (by decide)
            replace s96 := on.keep _ _ s96 (by decide)
            clear on s101
            refine st_val (d := 103) (v := (.bool (!L1))) (wanted_on rfl (show (OPS[8]?).bind (·.dst) = some 91 from HDS 8 (by decide)) s91) rfl (by have e96 := eval_at s96; have e102 := eval_at s102; have ec : ∀ v, a.eval (.const v) = v := fun _ => rfl; generalize a.eval = ev at *; clear kp HDS; go_simp; try with_reducible rfl) (by rw [kp.size, HSZ]; decide) (fun a on s103 => ?_)
            replace kp := kp.only on (by decide)
            replace s83 := on.keep _ _ s83 (by decide)
            replace s88 := on.keep _ _ s88 (by decide)
            replace s91 := on.keep _ _ s91 (by decide)
            clear on s96 s102
            refine st_val (d := 104) (v := (.bool (!L1))) (wanted_on rfl (show (OPS[5]?).bind (·.dst) = some 88 from HDS 5 (by decide)) s88) rfl (by have e91 := eval_at s91; have e103 := eval_at s103; have ec : ∀ v, a.eval (.const v) = v := fun _ => rfl; generalize a.eval = ev at *; clear kp HDS; go_simp; try with_reducible rfl) (by rw [kp.size, HSZ]; decide) (fun a on s104 => ?_)
            replace kp := kp.only on (by decide)
            replace s83 := on.keep _ _ s83 (by decide)
            replace s88 := on.keep _ _ s88 (by decide)
            clear on s91 s103
            refine st_val (d := 105) (v := (.bool (!L1))) (wanted_none rfl) rfl (by have e88 := eval_at s88; have e104 := eval_at s104; have ec : ∀ v, a.eval (.const v) = v := fun _ => rfl; generalize a.eval = ev at *; clear kp HDS; go_simp; try with_reducible rfl) (by rw [kp.size, HSZ]; decide) (fun a on s105 => ?_)
            replace kp := kp.only on (by decide)
            replace s83 := on.keep _ _ s83 (by decide)
            clear on s88 s104
            refine st_val (d := 106) (v := (.bool (!L1))) (wanted_none rfl) rfl (by have e105 := eval_at s105; have ec : ∀ v, a.eval (.const v) = v := fun _ => rfl; generalize a.eval = ev at *; clear kp HDS; go_simp; try with_reducible rfl) (by rw [kp.size, HSZ]; decide) (fun a on s106 => ?_)
            replace kp := kp.only on (by decide)
            replace s83 := on.keep _ _ s83 (by decide)
            clear on s105
            refine wpStill_nil ?_
            exact ⟨kp, s106, s83⟩
          · have h0i : ¬ (0 : Int) < (j : Int) := by omega
            obtain rfl := hn1 h0
            clear hp1 hn1 hwm
            refine st_val (d := 83) (v := (ptr gw)) (wanted_none rfl) rfl (by have e0 := eval_at ((kp.keep 0 (by decide)).trans z0); have ec : ∀ v, a.eval (.const v) = v := fun _ => rfl; generalize a.eval = ev at *; clear kp HDS; go_simp; try with_reducible rfl) (by rw [kp.size, HSZ]; decide) (fun a on s83 => ?_)
            replace kp := kp.only on (by decide)
            clear on
            refine st_val (d := 84) (v := (ptr gw)) (wanted_none rfl) rfl (by have e0 := eval_at ((kp.keep 0 (by decide)).trans z0); have ec : ∀ v, a.eval (.const v) = v := fun _ => rfl; generalize a.eval = ev at *; clear kp HDS; go_simp; try with_reducible rfl) (by rw [kp.size, HSZ]; decide) (fun a on s84 => ?_)
            replace kp := kp.only on (by decide)
            replace s83 := on.keep _ _ s83 (by decide)
            clear on
            refine st_val (d := 85) (v := (ptr gw)) (wanted_none rfl) rfl (by have e84 := eval_at s84; have ec : ∀ v, a.eval (.const v) = v := fun _ => rfl; generalize a.eval = ev at *; clear kp HDS; go_simp; try with_reducible rfl) (by rw [kp.size, HSZ]; decide) (fun a on s85 => ?_)
            replace kp := kp.only on (by decide)
            replace s83 := on.keep _ _ s83 (by decide)
            clear on s84
            refine st_val (d := 86) (v := (.pointer (some ⟨gw, 5, none⟩))) (wanted_none rfl) rfl (by have e85 := eval_at s85; have ec : ∀ v, a.eval (.const v) = v := fun _ => rfl; generalize a.eval = ev at *; clear kp HDS; go_simp; try with_reducible rfl) (by rw [kp.size, HSZ]; decide) (fun a on s86 => ?_)
            replace kp := kp.only on (by decide)
            replace s83 := on.keep _ _ s83 (by decide)
            clear on s85
            refine st_val (d := 87) (v := (.bool false)) (wanted_none rfl) rfl (by have e86 := eval_at s86; have ec : ∀ v, a.eval (.const v) = v := fun _ => rfl; generalize a.eval = ev at *; clear kp HDS; go_simp; try with_reducible rfl) (by rw [kp.size, HSZ]; decide) (fun a on s87 => ?_)
            replace kp := kp.only on (by decide)
            replace s83 := on.keep _ _ s83 (by decide)
            clear on s86
            refine st_val (d := 88) (v := (.bool false)) (wanted_none rfl) rfl (by have e87 := eval_at s87; have ec : ∀ v, a.eval (.const v) = v := fun _ => rfl; generalize a.eval = ev at *; clear kp HDS; go_simp; try with_reducible rfl) (by rw [kp.size, HSZ]; decide) (fun a on s88 => ?_)
            replace kp := kp.only on (by decide)
            replace s83 := on.keep _ _ s83 (by decide)
            clear on s87
            refine st_val (d := 89) (v := (.int .i64 j)) (wanted_on rfl (show (OPS[5]?).bind (·.dst) = some 88 from HDS 5 (by decide)) s88) rfl (by have e12 := eval_at ((kp.keep 12 (by decide)).trans z12); have ec : ∀ v, a.eval (.const v) = v := fun _ => rfl; generalize a.eval = ev at *; clear kp HDS; go_simp; try with_reducible rfl) (by rw [kp.size, HSZ]; decide) (fun a on s89 => ?_)
            replace kp := kp.only on (by decide)
            replace s83 := on.keep _ _ s83 (by decide)
            replace s88 := on.keep _ _ s88 (by decide)
            clear on
            refine st_val (d := 90) (v := (.bool false)) (wanted_on rfl (show (OPS[5]?).bind (·.dst) = some 88 from HDS 5 (by decide)) s88) rfl (by have e89 := eval_at s89; have ec : ∀ v, a.eval (.const v) = v := fun _ => rfl; generalize a.eval = ev at *; clear kp HDS; go_simp; try with_reducible rfl) (by rw [kp.size, HSZ]; decide) (fun a on s90 => ?_)
            replace kp := kp.only on (by decide)
            replace s83 := on.keep _ _ s83 (by decide)
            replace s88 := on.keep _ _ s88 (by decide)
            clear on s89
            refine st_val (d := 91) (v := (.bool false)) (wanted_on rfl (show (OPS[5]?).bind (·.dst) = some 88 from HDS 5 (by decide)) s88) rfl (by have e90 := eval_at s90; have ec : ∀ v, a.eval (.const v) = v := fun _ => rfl; generalize a.eval = ev at *; clear kp HDS; go_simp; try with_reducible rfl) (by rw [kp.size, HSZ]; decide) (fun a on s91 => ?_)
            replace kp := kp.only on (by decide)
            replace s83 := on.keep _ _ s83 (by decide)
            replace s88 := on.keep _ _ s88 (by decide)
            clear on s90
            refine st_skip (d := 92) (wanted_off rfl (show (OPS[8]?).bind (·.dst) = some 91 from HDS 8 (by decide)) s91 (by decide)) rfl (by rw [kp.size, HSZ]; decide) (fun a on s92 => ?_)
            replace kp := kp.only on (by decide)
            replace s83 := on.keep _ _ s83 (by decide)
            replace s88 := on.keep _ _ s88 (by decide)
            replace s91 := on.keep _ _ s91 (by decide)
            clear on
            clear s92
            refine st_skip (d := 93) (wanted_off rfl (show (OPS[8]?).bind (·.dst) = some 91 from HDS 8 (by decide)) s91 (by decide)) rfl (by rw [kp.size, HSZ]; decide) (fun a on s93 => ?_)
            replace kp := kp.only on (by decide)
            replace s83 := on.keep _ _ s83 (by decide)
            replace s88 := on.keep _ _ s88 (by decide)
            replace s91 := on.keep _ _ s91 (by decide)
            clear on
            clear s93
            refine st_skip (d := 94) (wanted_off rfl (show (OPS[8]?).bind (·.dst) = some 91 from HDS 8 (by decide)) s91 (by decide)) rfl (by rw [kp.size, HSZ]; decide) (fun a on s94 => ?_)
            replace kp := kp.only on (by decide)
            replace s83 := on.keep _ _ s83 (by decide)
            replace s88 := on.keep _ _ s88 (by decide)
            replace s91 := on.keep _ _ s91 (by decide)
            clear on
            clear s94
            refine st_skip (d := 95) (wanted_off rfl (show (OPS[8]?).bind (·.dst) = some 91 from HDS 8 (by decide)) s91 (by decide)) rfl (by rw [kp.size, HSZ]; decide) (fun a on s95 => ?_)
            replace kp := kp.only on (by decide)
            replace s83 := on.keep _ _ s83 (by decide)
            replace s88 := on.keep _ _ s88 (by decide)
            replace s91 := on.keep _ _ s91 (by decide)
            clear on
            clear s95
            refine st_skip (d := 96) (wanted_off rfl (show (OPS[8]?).bind (·.dst) = some 91 from HDS 8 (by decide)) s91 (by decide)) rfl (by rw [kp.size, HSZ]; decide) (fun a on s96 => ?_)
            replace kp := kp.only on (by decide)
            replace s83 := on.keep _ _ s83 (by decide)
            replace s88 := on.keep _ _ s88 (by decide)
            replace s91 := on.keep _ _ s91 (by decide)
            clear on
            clear s96
            refine st_skip (d := 97) (wanted_off rfl (show (OPS[8]?).bind (·.dst) = some 91 from HDS 8 (by decide)) s91 (by decide)) rfl (by rw [kp.size, HSZ]; decide) (fun a on s97 => ?_)
            replace kp := kp.only on (by decide)
            replace s83 := on.keep _ _ s83 (by decide)
            replace s88 := on.keep _ _ s88 (by decide)
            replace s91 := on.keep _ _ s91 (by decide)
            clear on
            clear s97
            refine st_skip (d := 98) (wanted_off rfl (show (OPS[8]?).bind (·.dst) = some 91 from HDS 8 (by decide)) s91 (by decide)) rfl (by rw [kp.size, HSZ]; decide) (fun a on s98 => ?_)
            replace kp := kp.only on (by decide)
            replace s83 := on.keep _ _ s83 (by decide)
            replace s88 := on.keep _ _ s88 (by decide)
            replace s91 := on.keep _ _ s91 (by decide)
            clear on
            clear s98
            refine st_skip (d := 99) (wanted_off rfl (show (OPS[8]?).bind (·.dst) = some 91 from HDS 8 (by decide)) s91 (by decide)) rfl (by rw [kp.size, HSZ]; decide) (fun a on s99 => ?_)
            replace kp := kp.only on (by decide)
            replace s83 := on.keep _ _ s83 (by decide)
            replace s88 := on.keep _ _ s88 (by decide)
            replace s91 := on.keep _ _ s91 (by decide)
            clear on
            clear s99
            refine st_skip (d := 100) (wanted_off rfl (show (OPS[8]?).bind (·.dst) = some 91 from HDS 8 (by decide)) s91 (by decide)) rfl (by rw [kp.size, HSZ]; decide) (fun a on s100 => ?_)
            replace kp := kp.only on (by decide)
            replace s83 := on.keep _ _ s83 (by decide)
            replace s88 := on.keep _ _ s88 (by decide)
            replace s91 := on.keep _ _ s91 (by decide)
            clear on
            clear s100
            refine st_skip (d := 101) (wanted_off rfl (show (OPS[8]?).bind (·.dst) = some 91 from HDS 8 (by decide)) s91 (by decide)) rfl (by rw [kp.size, HSZ]; decide) (fun a on s101 => ?_)
            replace kp := kp.only on (by decide)
            replace s83 := on.keep _ _ s83 (by decide)
            replace s88 := on.keep _ _ s88 (by decide)
            replace s91 := on.keep _ _ s91 (by decide)
            clear on
            clear s101
            refine st_skip (d := 102) (wanted_off rfl (show (OPS[8]?).bind (·.dst) = some 91 from HDS 8 (by decide)) s91 (by decide)) rfl (by rw [kp.size, HSZ]; decide) (fun a on s102 => ?_)
            replace kp := kp.only on (by decide)
            replace s83 := on.keep _ _ s83 (by decide)
            replace s88 := on.keep _ _ s88 (by decide)
            replace s91 := on.keep _ _ s91 (by decide)
            clear on
            clear s102
            refine st_skip (d := 103) (wanted_off rfl (show (OPS[8]?).bind (·.dst) = some 91 from HDS 8 (by decide)) s91 (by decide)) rfl (by rw [kp.size, HSZ]; decide) (fun a on s103 => ?_)
            replace kp := kp.only on (by decide)
            replace s83 := on.keep _ _ s83 (by decide)
            replace s88 := on.keep _ _ s88 (by decide)
            replace s91 := on.keep _ _ s91 (by decide)
            clear on
            clear s103
            refine st_val (d := 104) (v := (.bool false)) (wanted_on rfl (show (OPS[5]?).bind (·.dst) = some 88 from HDS 5 (by decide)) s88) rfl (by have e91 := eval_at s91; have ec : ∀ v, a.eval (.const v) = v := fun _ => rfl; generalize a.eval = ev at *; clear kp HDS; go_simp; try with_reducible rfl) (by rw [kp.size, HSZ]; decide) (fun a on s104 => ?_)
            replace kp := kp.only on (by decide)
            replace s83 := on.keep _ _ s83 (by decide)
            replace s88 := on.keep _ _ s88 (by decide)
            clear on s91
            refine st_val (d := 105) (v := (.bool false)) (wanted_none rfl) rfl (by have e88 := eval_at s88; have e104 := eval_at s104; have ec : ∀ v, a.eval (.const v) = v := fun _ => rfl; generalize a.eval = ev at *; clear kp HDS; go_simp; try with_reducible rfl) (by rw [kp.size, HSZ]; decide) (fun a on s105 => ?_)
            replace kp := kp.only on (by decide)
            replace s83 := on.keep _ _ s83 (by decide)
            clear on s88 s104
            refine st_val (d := 106) (v := (.bool false)) (wanted_none rfl) rfl (by have e105 := eval_at s105; have ec : ∀ v, a.eval (.const v) = v := fun _ => rfl; generalize a.eval = ev at *; clear kp HDS; go_simp; try with_reducible rfl) (by rw [kp.size, HSZ]; decide) (fun a on s106 => ?_)
            replace kp := kp.only on (by decide)
            replace s83 := on.keep _ _ s83 (by decide)
            clear on s105
            refine wpStill_nil ?_
            exact ⟨kp, s106, s83⟩
      simp only [List.take_succ_cons, List.take_zero, List.drop_succ_cons, List.drop_zero]
      rintro a1 ⟨kp1, s106, s83⟩
      refine still_cut 16 (fun a => Kp 83 138 a0 a ∧ a.tmps[122]? = some (.bool ((b || !L1) || !L2)) ∧ a.tmps[83]? = some (ptr gw)) ?p2 ?_
      case p2 =>
        simp only [List.take_succ_cons, List.take_zero, List.drop_succ_cons, List.drop_zero]
        revert s106 s83 kp1
        generalize (b || !L1) = B1
        revert a1
        intro a kp s106 s83
        clear hw3 hak HA0 HKK HKD HFD HNEW HBW hp1 hn1 hwm
        cases B1 with
        | true =>
          refine st_skip (d := 107) (wanted_off rfl (show (OPS[23]?).bind (·.dst) = some 106 from HDS 23 (by decide)) s106 (by decide)) rfl (by rw [kp.size, HSZ]; decide) (fun a on s107 => ?_)
          replace kp := kp.only on (by decide)
          replace s106 := on.keep _ _ s106 (by decide)
          replace s83 := on.keep _ _ s83 (by decide)
          clear on
          clear s107
          refine st_skip (d := 108) (wanted_off rfl (show (OPS[23]?).bind (·.dst) = some 106 from HDS 23 (by decide)) s106 (by decide)) rfl (by rw [kp.size, HSZ]; decide) (fun a on s108 => ?_)
          replace kp := kp.only on (by decide)
          replace s106 := on.keep _ _ s106 (by decide)
          replace s83 := on.keep _ _ s83 (by decide)
          clear on
          clear s108
          refine st_skip (d := 109) (wanted_off rfl (show (OPS[23]?).bind (·.dst) = some 106 from HDS 23 (by decide)) s106 (by decide)) rfl (by rw [kp.size, HSZ]; decide) (fun a on s109 => ?_)
          replace kp := kp.only on (by decide)
          replace s106 := on.keep _ _ s106 (by decide)
          replace s83 := on.keep _ _ s83 (by decide)
          clear on
          clear s109
          refine st_skip (d := 110) (wanted_off rfl (show (OPS[23]?).bind (·.dst) = some 106 from HDS 23 (by decide)) s106 (by decide)) rfl (by rw [kp.size, HSZ]; decide) (fun a on s110 => ?_)
          replace kp := kp.only on (by decide)
          replace s106 := on.keep _ _ s106 (by decide)
          replace s83 := on.keep _ _ s83 (by decide)
          clear on
          refine st_skip (d := 111) (wanted_undef rfl (show (OPS[27]?).bind (·.dst) = some 110 from HDS 27 (by decide)) s110) rfl (by rw [kp.size, HSZ]; decide) (fun a on s111 => ?_)
          replace kp := kp.only on (by decide)
          replace s106 := on.keep _ _ s106 (by decide)
          replace s83 := on.keep _ _ s83 (by decide)
          replace s110 := on.keep _ _ s110 (by decide)
          clear on
          clear s111
          refine st_skip (d := 112) (wanted_undef rfl (show (OPS[27]?).bind (·.dst) = some 110 from HDS 27 (by decide)) s110) rfl (by rw [kp.size, HSZ]; decide) (fun a on s112 => ?_)
          replace kp := kp.only on (by decide)
          replace s106 := on.keep _ _ s106 (by decide)
          replace s83 := on.keep _ _ s83 (by decide)
          replace s110 := on.keep _ _ s110 (by decide)
          clear on
          clear s112
          refine st_skip (d := 113) (wanted_undef rfl (show (OPS[27]?).bind (·.dst) = some 110 from HDS 27 (by decide)) s110) rfl (by rw [kp.size, HSZ]; decide) (fun a on s113 => ?_)
          replace kp := kp.only on (by decide)
          replace s106 := on.keep _ _ s106 (by decide)
          replace s83 := on.keep _ _ s83 (by decide)
          replace s110 := on.keep _ _ s110 (by decide)
          clear on
          clear s113
          refine st_skip (d := 114) (wanted_undef rfl (show (OPS[27]?).bind (·.dst) = some 110 from HDS 27 (by decide)) s110) rfl (by rw [kp.size, HSZ]; decide) (fun a on s114 => ?_)
          replace kp := kp.only on (by decide)
          replace s106 := on.keep _ _ s106 (by decide)
          replace s83 := on.keep _ _ s83 (by decide)
          replace s110 := on.keep _ _ s110 (by decide)
          clear on
          clear s114
          refine st_skip (d := 115) (wanted_undef rfl (show (OPS[27]?).bind (·.dst) = some 110 from HDS 27 (by decide)) s110) rfl (by rw [kp.size, HSZ]; decide) (fun a on s115 => ?_)
          replace kp := kp.only on (by decide)
          replace s106 := on.keep _ _ s106 (by decide)
          replace s83 := on.keep _ _ s83 (by decide)
          replace s110 := on.keep _ _ s110 (by decide)
          clear on
          clear s115
          refine st_skip (d := 116) (wanted_undef rfl (show (OPS[27]?).bind (·.dst) = some 110 from HDS 27 (by decide)) s110) rfl (by rw [kp.size, HSZ]; decide) (fun a on s116 => ?_)
          replace kp := kp.only on (by decide)
          replace s106 := on.keep _ _ s106 (by decide)
          replace s83 := on.keep _ _ s83 (by decide)
          replace s110 := on.keep _ _ s110 (by decide)
          clear on
          clear s116
          refine st_skip (d := 117) (wanted_undef rfl (show (OPS[27]?).bind (·.dst) = some 110 from HDS 27 (by decide)) s110) rfl (by rw [kp.size, HSZ]; decide) (fun a on s117 => ?_)
          replace kp := kp.only on (by decide)
          replace s106 := on.keep _ _ s106 (by decide)
          replace s83 := on.keep _ _ s83 (by decide)
          replace s110 := on.keep _ _ s110 (by decide)
          clear on
          clear s117
          refine st_skip (d := 118) (wanted_undef rfl (show (OPS[27]?).bind (·.dst) = some 110 from HDS 27 (by decide)) s110) rfl (by rw [kp.size, HSZ]; decide) (fun a on s118 => ?_)
          replace kp := kp.only on (by decide)
          replace s106 := on.keep _ _ s106 (by decide)
          replace s83 := on.keep _ _ s83 (by decide)
          replace s110 := on.keep _ _ s110 (by decide)
          clear on
          clear s118
          refine st_skip (d := 119) (wanted_undef rfl (show (OPS[27]?).bind (·.dst) = some 110 from HDS 27 (by decide)) s110) rfl (by rw [kp.size, HSZ]; decide) (fun a on s119 => ?_)
          replace kp := kp.only on (by decide)
          replace s106 := on.keep _ _ s106 (by decide)
          replace s83 := on.keep _ _ s83 (by decide)
          replace s110 := on.keep _ _ s110 (by decide)
          clear on
          clear s119
          refine st_skip (d := 120) (wanted_off rfl (show (OPS[23]?).bind (·.dst) = some 106 from HDS 23 (by decide)) s106 (by decide)) rfl (by rw [kp.size, HSZ]; decide) (fun a on s120 => ?_)
          replace kp := kp.only on (by decide)
          replace s106 := on.keep _ _ s106 (by decide)
          replace s83 := on.keep _ _ s83 (by decide)
          clear on s110
          clear s120
          refine st_val (d := 121) (v := (.bool true)) (wanted_none rfl) rfl (by have e106 := eval_at s106; have ec : ∀ v, a.eval (.const v) = v := fun _ => rfl; generalize a.eval = ev at *; clear kp HDS; go_simp; try with_reducible rfl) (by rw [kp.size, HSZ]; decide) (fun a on s121 => ?_)
          replace kp := kp.only on (by decide)
          replace s83 := on.keep _ _ s83 (by decide)
          clear on s106
          refine st_val (d := 122) (v := (.bool true)) (wanted_none rfl) rfl (by have e121 := eval_at s121; have ec : ∀ v, a.eval (.const v) = v := fun _ => rfl; generalize a.eval = ev at *; clear kp HDS; go_simp; try with_reducible rfl) (by rw [kp.size, HSZ]; decide) (fun a on s122 => ?_)
          replace kp := kp.only on (by decide)
          replace s83 := on.keep _ _ s83 (by decide)
          clear on s121
          refine wpStill_nil ?_
          exact ⟨kp, s122, s83⟩
        | false =>
          rcases hw2 with ⟨rfl, rfl⟩ | ⟨rfl, ab, lim, rfl, q2, hb2⟩
          · refine st_val (d := 107) (v := (.slice A2 0 cq2)) (wanted_on rfl (show (OPS[23]?).bind (·.dst) = some 106 from HDS 23 (by decide)) s106) rfl (by have e3 := eval_at ((kp.keep 3 (by decide)).trans z3); have ec : ∀ v, a.eval (.const v) = v := fun _ => rfl; generalize a.eval = ev at *; clear kp HDS; go_simp; try with_reducible rfl) (by rw [kp.size, HSZ]; decide) (fun a on s107 => ?_)
            replace kp := kp.only on (by decide)
            replace s106 := on.keep _ _ s106 (by decide)
            replace s83 := on.keep _ _ s83 (by decide)
            clear on
            refine st_val (d := 108) (v := (.int .i64 ((0 : Nat) : Int))) (wanted_on rfl (show (OPS[23]?).bind (·.dst) = some 106 from HDS 23 (by decide)) s106) rfl (by have e107 := eval_at s107; have ec : ∀ v, a.eval (.const v) = v := fun _ => rfl; generalize a.eval = ev at *; clear kp HDS; go_simp; try with_reducible rfl) (by rw [kp.size, HSZ]; decide) (fun a on s108 => ?_)
            replace kp := kp.only on (by decide)
            replace s106 := on.keep _ _ s106 (by decide)
            replace s83 := on.keep _ _ s83 (by decide)
            clear on s107
            refine st_val (d := 109) (v := (.bool false)) (wanted_on rfl (show (OPS[23]?).bind (·.dst) = some 106 from HDS 23 (by decide)) s106) rfl (by have e108 := eval_at s108; have ec : ∀ v, a.eval (.const v) = v := fun _ => rfl; generalize a.eval = ev at *; clear kp HDS; go_simp; try with_reducible rfl) (by rw [kp.size, HSZ]; decide) (fun a on s109 => ?_)
            replace kp := kp.only on (by decide)
            replace s106 := on.keep _ _ s106 (by decide)
            replace s83 := on.keep _ _ s83 (by decide)
            clear on s108
            refine st_val (d := 110) (v := (.bool false)) (wanted_on rfl (show (OPS[23]?).bind (·.dst) = some 106 from HDS 23 (by decide)) s106) rfl (by have e109 := eval_at s109; have ec : ∀ v, a.eval (.const v) = v := fun _ => rfl; generalize a.eval = ev at *; clear kp HDS; go_simp; try with_reducible rfl) (by rw [kp.size, HSZ]; decide) (fun a on s110 => ?_)
            replace kp := kp.only on (by decide)
            replace s106 := on.keep _ _ s106 (by decide)
            replace s83 := on.keep _ _ s83 (by decide)
            clear on s109
            refine st_skip (d := 111) (wanted_off rfl (show (OPS[27]?).bind (·.dst) = some 110 from HDS 27 (by decide)) s110 (by decide)) rfl (by rw [kp.size, HSZ]; decide) (fun a on s111 => ?_)
            replace kp := kp.only on (by decide)
            replace s106 := on.keep _ _ s106 (by decide)
            replace s83 := on.keep _ _ s83 (by decide)
            replace s110 := on.keep _ _ s110 (by decide)
            clear on
            clear s111
            refine st_skip (d := 112) (wanted_off rfl (show (OPS[27]?).bind (·.dst) = some 110 from HDS 27 (by decide)) s110 (by decide)) rfl (by rw [kp.size, HSZ]; decide) (fun a on s112 => ?_)
            replace kp := kp.only on (by decide)
            replace s106 := on.keep _ _ s106 (by decide)
            replace s83 := on.keep _ _ s83 (by decide)
            replace s110 := on.keep _ _ s110 (by decide)
            clear on
            clear s112
            refine st_skip (d := 113) (wanted_off rfl (show (OPS[27]?).bind (·.dst) = some 110 from HDS 27 (by decide)) s110 (by decide)) rfl (by rw [kp.size, HSZ]; decide) (fun a on s113 => ?_)
            replace kp := kp.only on (by decide)
            replace s106 := on.keep _ _ s106 (by decide)
            replace s83 := on.keep _ _ s83 (by decide)
            replace s110 := on.keep _ _ s110 (by decide)
            clear on
            clear s113
            refine st_skip (d := 114) (wanted_off rfl (show (OPS[27]?).bind (·.dst) = some 110 from HDS 27 (by decide)) s110 (by decide)) rfl (by rw [kp.size, HSZ]; decide) (fun a on s114 => ?_)
            replace kp := kp.only on (by decide)
            replace s106 := on.keep _ _ s106 (by decide)
            replace s83 := on.keep _ _ s83 (by decide)
            replace s110 := on.keep _ _ s110 (by decide)
            clear on
            clear s114
            refine st_skip (d := 115) (wanted_off rfl (show (OPS[27]?).bind (·.dst) = some 110 from HDS 27 (by decide)) s110 (by decide)) rfl (by rw [kp.size, HSZ]; decide) (fun a on s115 => ?_)
            replace kp := kp.only on (by decide)
            replace s106 := on.keep _ _ s106 (by decide)
            replace s83 := on.keep _ _ s83 (by decide)
            replace s110 := on.keep _ _ s110 (by decide)
            clear on
            clear s115
            refine st_skip (d := 116) (wanted_off rfl (show (OPS[27]?).bind (·.dst) = some 110 from HDS 27 (by decide)) s110 (by decide)) rfl (by rw [kp.size, HSZ]; decide) (fun a on s116 => ?_)
            replace kp := kp.only on (by decide)
            replace s106 := on.keep _ _ s106 (by decide)
            replace s83 := on.keep _ _ s83 (by decide)
            replace s110 := on.keep _ _ s110 (by decide)
            clear on
            clear s116
            refine st_skip (d := 117) (wanted_off rfl (show (OPS[27]?).bind (·.dst) = some 110 from HDS 27 (by decide)) s110 (by decide)) rfl (by rw [kp.size, HSZ]; decide) (fun a on s117 => ?_)
            replace kp := kp.only on (by decide)
            replace s106 := on.keep _ _ s106 (by decide)
            replace s83 := on.keep _ _ s83 (by decide)
            replace s110 := on.keep _ _ s110 (by decide)
            clear on
            clear s117
            refine st_skip (d := 118) (wanted_off rfl (show (OPS[27]?).bind (·.dst) = some 110 from HDS 27 (by decide)) s110 (by decide)) rfl (by rw [kp.size, HSZ]; decide) (fun a on s118 => ?_)
            replace kp := kp.only on (by decide)
            replace s106 := on.keep _ _ s106 (by decide)
            replace s83 := on.keep _ _ s83 (by decide)
            replace s110 := on.keep _ _ s110 (by decide)
            clear on
            clear s118
            refine st_skip (d := 119) (wanted_off rfl (show (OPS[27]?).bind (·.dst) = some 110 from HDS 27 (by decide)) s110 (by decide)) rfl (by rw [kp.size, HSZ]; decide) (fun a on s119 => ?_)
            replace kp := kp.only on (by decide)
            replace s106 := on.keep _ _ s106 (by decide)
            replace s83 := on.keep _ _ s83 (by decide)
            replace s110 := on.keep _ _ s110 (by decide)
            clear on
            clear s119
            refine st_val (d := 120) (v := (.bool false)) (wanted_on rfl (show (OPS[23]?).bind (·.dst) = some 106 from HDS 23 (by decide)) s106) rfl (by have e110 := eval_at s110; have ec : ∀ v, a.eval (.const v) = v := fun _ => rfl; generalize a.eval = ev at *; clear kp HDS; go_simp; try with_reducible rfl) (by rw [kp.size, HSZ]; decide) (fun a on s120 => ?_)
            replace kp := kp.only on (by decide)
            replace s106 := on.keep _ _ s106 (by decide)
            replace s83 := on.keep _ _ s83 (by decide)
            clear on s110
            refine st_val (d := 121) (v := (.bool false)) (wanted_none rfl) rfl (by have e106 := eval_at s106; have e120 := eval_at s120; have ec : ∀ v, a.eval (.const v) = v := fun _ => rfl; generalize a.eval = ev at *; clear kp HDS; go_simp; try with_reducible rfl) (by rw [kp.size, HSZ]; decide) (fun a on s121 => ?_)
            replace kp := kp.only on (by decide)
            replace s83 := on.keep _ _ s83 (by decide)
            clear on s106 s120
            refine st_val (d := 122) (v := (.bool false)) (wanted_none rfl) rfl (by have e121 := eval_at s121; have ec : ∀ v, a.eval (.const v) = v := fun _ => rfl; generalize a.eval = ev at *; clear kp HDS; go_simp; try with_reducible rfl) (by rw [kp.size, HSZ]; decide) (fun a on s122 => ?_)
            replace kp := kp.only on (by decide)
            replace s83 := on.keep _ _ s83 (by decide)
            clear on s121
            refine wpStill_nil ?_
            exact ⟨kp, s122, s83⟩
          · refine st_val (d := 107) (v := (.slice (some ab) 1 cq2)) (wanted_on rfl (show (OPS[23]?).bind (·.dst) = some 106 from HDS 23 (by decide)) s106) rfl (by have e3 := eval_at ((kp.keep 3 (by decide)).trans z3); have ec : ∀ v, a.eval (.const v) = v := fun _ => rfl; generalize a.eval = ev at *; clear kp HDS; go_simp; try with_reducible rfl) (by rw [kp.size, HSZ]; decide) (fun a on s107 => ?_)
            replace kp := kp.only on (by decide)
            replace s106 := on.keep _ _ s106 (by decide)
            replace s83 := on.keep _ _ s83 (by decide)
            clear on
            refine st_val (d := 108) (v := (.int .i64 ((1 : Nat) : Int))) (wanted_on rfl (show (OPS[23]?).bind (·.dst) = some 106 from HDS 23 (by decide)) s106) rfl (by have e107 := eval_at s107; have ec : ∀ v, a.eval (.const v) = v := fun _ => rfl; generalize a.eval = ev at *; clear kp HDS; go_simp; try with_reducible rfl) (by rw [kp.size, HSZ]; decide) (fun a on s108 => ?_)
            replace kp := kp.only on (by decide)
            replace s106 := on.keep _ _ s106 (by decide)
            replace s83 := on.keep _ _ s83 (by decide)
            clear on s107
            refine st_val (d := 109) (v := (.bool true)) (wanted_on rfl (show (OPS[23]?).bind (·.dst) = some 106 from HDS 23 (by decide)) s106) rfl (by have e108 := eval_at s108; have ec : ∀ v, a.eval (.const v) = v := fun _ => rfl; generalize a.eval = ev at *; clear kp HDS; go_simp; try with_reducible rfl) (by rw [kp.size, HSZ]; decide) (fun a on s109 => ?_)
            replace kp := kp.only on (by decide)
            replace s106 := on.keep _ _ s106 (by decide)
            replace s83 := on.keep _ _ s83 (by decide)
            clear on s108
            refine st_val (d := 110) (v := (.bool true)) (wanted_on rfl (show (OPS[23]?).bind (·.dst) = some 106 from HDS 23 (by decide)) s106) rfl (by have e109 := eval_at s109; have ec : ∀ v, a.eval (.const v) = v := fun _ => rfl; generalize a.eval = ev at *; clear kp HDS; go_simp; try with_reducible rfl) (by rw [kp.size, HSZ]; decide) (fun a on s110 => ?_)
            replace kp := kp.only on (by decide)
            replace s106 := on.keep _ _ s106 (by decide)
            replace s83 := on.keep _ _ s83 (by decide)
            clear on s109
            refine st_val (d := 111) (v := (.pointer (some ⟨bx, 0, none⟩))) (wanted_on rfl (show (OPS[27]?).bind (·.dst) = some 110 from HDS 27 (by decide)) s110) rfl (by have e10 := eval_at ((kp.keep 10 (by decide)).trans z10); have ec : ∀ v, a.eval (.const v) = v := fun _ => rfl; generalize a.eval = ev at *; clear kp HDS; go_simp; try with_reducible rfl) (by rw [kp.size, HSZ]; decide) (fun a on s111 => ?_)
            replace kp := kp.only on (by decide)
            replace s106 := on.keep _ _ s106 (by decide)
            replace s83 := on.keep _ _ s83 (by decide)
            replace s110 := on.keep _ _ s110 (by decide)
            clear on
            refine st_val (d := 112) (v := (.slice (some ak) x.ks.length h.kc)) (wanted_on rfl (show (OPS[27]?).bind (·.dst) = some 110 from HDS 27 (by decide)) s110) rfl (by have e111 := eval_at s111; have ec : ∀ v, a.eval (.const v) = v := fun _ => rfl; generalize a.eval = ev at *; clear kp HDS; go_simp; try with_reducible rfl) (by rw [kp.size, HSZ]; decide) (fun a on s112 => ?_)
            replace kp := kp.only on (by decide)
            replace s106 := on.keep _ _ s106 (by decide)
            replace s83 := on.keep _ _ s83 (by decide)
            replace s110 := on.keep _ _ s110 (by decide)
            clear on s111
            refine st_val (d := 113) (v := (.int .i64 j)) (wanted_on rfl (show (OPS[27]?).bind (·.dst) = some 110 from HDS 27 (by decide)) s110) rfl (by have e12 := eval_at ((kp.keep 12 (by decide)).trans z12); have ec : ∀ v, a.eval (.const v) = v := fun _ => rfl; generalize a.eval = ev at *; clear kp HDS; go_simp; try with_reducible rfl) (by rw [kp.size, HSZ]; decide) (fun a on s113 => ?_)
            replace kp := kp.only on (by decide)
            replace s106 := on.keep _ _ s106 (by decide)
            replace s83 := on.keep _ _ s83 (by decide)
            replace s110 := on.keep _ _ s110 (by decide)
            replace s112 := on.keep _ _ s112 (by decide)
            clear on
            refine st_val (d := 114) (v := (.pointer (some (ak.add j)))) (wanted_on rfl (show (OPS[27]?).bind (·.dst) = some 110 from HDS 27 (by decide)) s110) rfl (by have e112 := eval_at s112; have e113 := eval_at s113; have ec : ∀ v, a.eval (.const v) = v := fun _ => rfl; generalize a.eval = ev at *; clear kp HDS; go_simp; try with_reducible rfl) (by rw [kp.size, HSZ]; decide) (fun a on s114 => ?_)
            replace kp := kp.only on (by decide)
            replace s106 := on.keep _ _ s106 (by decide)
            replace s83 := on.keep _ _ s83 (by decide)
            replace s110 := on.keep _ _ s110 (by decide)
            clear on s112 s113
            refine st_val (d := 115) (v := (.string s)) (wanted_on rfl (show (OPS[27]?).bind (·.dst) = some 110 from HDS 27 (by decide)) s110) rfl (by have e114 := eval_at s114; have ec : ∀ v, a.eval (.const v) = v := fun _ => rfl; generalize a.eval = ev at *; clear kp HDS; go_simp; try with_reducible rfl) (by rw [kp.size, HSZ]; decide) (fun a on s115 => ?_)
            replace kp := kp.only on (by decide)
            replace s106 := on.keep _ _ s106 (by decide)
            replace s83 := on.keep _ _ s83 (by decide)
            replace s110 := on.keep _ _ s110 (by decide)
            clear on s114
            refine st_val (d := 116) (v := (.slice (some ab) 1 cq2)) (wanted_on rfl (show (OPS[27]?).bind (·.dst) = some 110 from HDS 27 (by decide)) s110) rfl (by have e3 := eval_at ((kp.keep 3 (by decide)).trans z3); have ec : ∀ v, a.eval (.const v) = v := fun _ => rfl; generalize a.eval = ev at *; clear kp HDS; go_simp; try with_reducible rfl) (by rw [kp.size, HSZ]; decide) (fun a on s116 => ?_)
            replace kp := kp.only on (by decide)
            replace s106 := on.keep _ _ s106 (by decide)
            replace s83 := on.keep _ _ s83 (by decide)
            replace s110 := on.keep _ _ s110 (by decide)
            replace s115 := on.keep _ _ s115 (by decide)
            clear on
            refine st_val (d := 117) (v := (.pointer (some ab))) (wanted_on rfl (show (OPS[27]?).bind (·.dst) = some 110 from HDS 27 (by decide)) s110) rfl (by have e116 := eval_at s116; have ec : ∀ v, a.eval (.const v) = v := fun _ => rfl; generalize a.eval = ev at *; clear kp HDS; go_simp; try with_reducible rfl) (by rw [kp.size, HSZ]; decide) (fun a on s117 => ?_)
            replace kp := kp.only on (by decide)
            replace s106 := on.keep _ _ s106 (by decide)
            replace s83 := on.keep _ _ s83 (by decide)
            replace s110 := on.keep _ _ s110 (by decide)
            replace s115 := on.keep _ _ s115 (by decide)
            clear on s116
            refine st_val (d := 118) (v := (.string lim)) (wanted_on rfl (show (OPS[27]?).bind (·.dst) = some 110 from HDS 27 (by decide)) s110) rfl (by have e117 := eval_at s117; have ec : ∀ v, a.eval (.const v) = v := fun _ => rfl; generalize a.eval = ev at *; clear kp HDS; go_simp; try with_reducible rfl) (by rw [kp.size, HSZ]; decide) (fun a on s118 => ?_)
            replace kp := kp.only on (by decide)
            replace s106 := on.keep _ _ s106 (by decide)
            replace s83 := on.keep _ _ s83 (by decide)
            replace s110 := on.keep _ _ s110 (by decide)
            replace s115 := on.keep _ _ s115 (by decide)
            clear on s117
            refine st_val (d := 119) (v := (.bool (!L2))) (wanted_on rfl (show (OPS[27]?).bind (·.dst) = some 110 from HDS 27 (by decide)) s110) rfl (by have e115 := eval_at s115; have e118 := eval_at s118; have ec : ∀ v, a.eval (.const v) = v := fun _ => rfl; generalize a.eval = ev at *; clear kp HDS; go_simp; try with_reducible rfl) (by rw [kp.size, HSZ]; decide) (fun a on s119 => ?_)
            replace kp := kp.only on (by decide)
            replace s106 := on.keep _ _ s106 (by decide)
            replace s83 := on.keep _ _ s83 (by decide)
            replace s110 := on.keep _ _ s110 (by decide)
            clear on s115 s118
            refine st_val (d := 120) (v := (.bool (!L2))) (wanted_on rfl (show (OPS[23]?).bind (·.dst) = some 106 from HDS 23 (by decide)) s106) rfl (by have e110 := eval_at s110; have e119 := eval_at s119; have ec : ∀ v, a.eval (.const v) = v := fun _ => rfl; generalize a.eval = ev at *; clear kp HDS; go_simp; try with_reducible rfl) (by rw [kp.size, HSZ]; decide) (fun a on s120 => ?_)
            replace kp := kp.only on (by decide)
            replace s106 := on.keep _ _ s106 (by decide)
            replace s83 := on.keep _ _ s83 (by decide)
            clear on s110 s119
            refine st_val (d := 121) (v := (.bool (!L2))) (wanted_none rfl) rfl (by have e106 := eval_at s106; have e120 := eval_at s120; have ec : ∀ v, a.eval (.const v) = v := fun _ => rfl; generalize a.eval = ev at *; clear kp HDS; go_simp; try with_reducible rfl) (by rw [kp.size, HSZ]; decide) (fun a on s121 => ?_)
            replace kp := kp.only on (by decide)
            replace s83 := on.keep _ _ s83 (by decide)
            clear on s106 s120
            refine st_val (d := 122) (v := (.bool (!L2))) (wanted_none rfl) rfl (by have e121 := eval_at s121; have ec : ∀ v, a.eval (.const v) = v := fun _ => rfl; generalize a.eval = ev at *; clear kp HDS; go_simp; try with_reducible rfl) (by rw [kp.size, HSZ]; decide) (fun a on s122 => ?_)
            replace kp := kp.only on (by decide)
            replace s83 := on.keep _ _ s83 (by decide)
            clear on s121
            refine wpStill_nil ?_
            exact ⟨kp, s122, s83⟩
      simp only [List.take_succ_cons, List.take_zero, List.drop_succ_cons, List.drop_zero]
      rintro a2 ⟨kp2, s122, s83⟩
      revert s122 s83 kp2
      generalize hB2 : ((b || !L1) || !L2) = B2 at *
      revert a2
      intro a kp s122 s83
      refine still_mono (R := fun a => Kp 83 138 a0 a ∧ a.tmps[137]? = some (.bool (B2 || !L3)) ∧ a.tmps[83]? = some (ptr gw)) ?_ ?p3
      case p3 =>
        clear hw2 hak HA0 HKK HKD HFD HNEW HBW hp1 hn1 hwm
        cases B2 with
        | true =>
          refine st_skip (d := 123) (wanted_off rfl (show (OPS[39]?).bind (·.dst) = some 122 from HDS 39 (by decide)) s122 (by decide)) rfl (by rw [kp.size, HSZ]; decide) (fun a on s123 => ?_)
          replace kp := kp.only on (by decide)
          replace s122 := on.keep _ _ s122 (by decide)
          replace s83 := on.keep _ _ s83 (by decide)
          clear on
          clear s123
          refine st_skip (d := 124) (wanted_off rfl (show (OPS[39]?).bind (·.dst) = some 122 from HDS 39 (by decide)) s122 (by decide)) rfl (by rw [kp.size, HSZ]; decide) (fun a on s124 => ?_)
          replace kp := kp.only on (by decide)
          replace s122 := on.keep _ _ s122 (by decide)
          replace s83 := on.keep _ _ s83 (by decide)
          clear on
          clear s124
          refine st_skip (d := 125) (wanted_off rfl (show (OPS[39]?).bind (·.dst) = some 122 from HDS 39 (by decide)) s122 (by decide)) rfl (by rw [kp.size, HSZ]; decide) (fun a on s125 => ?_)
          replace kp := kp.only on (by decide)
          replace s122 := on.keep _ _ s122 (by decide)
          replace s83 := on.keep _ _ s83 (by decide)
          clear on
          clear s125
          refine st_skip (d := 126) (wanted_off rfl (show (OPS[39]?).bind (·.dst) = some 122 from HDS 39 (by decide)) s122 (by decide)) rfl (by rw [kp.size, HSZ]; decide) (fun a on s126 => ?_)
          replace kp := kp.only on (by decide)
          replace s122 := on.keep _ _ s122 (by decide)
          replace s83 := on.keep _ _ s83 (by decide)
          clear on
          refine st_skip (d := 127) (wanted_undef rfl (show (OPS[43]?).bind (·.dst) = some 126 from HDS 43 (by decide)) s126) rfl (by rw [kp.size, HSZ]; decide) (fun a on s127 => ?_)
          replace kp := kp.only on (by decide)
          replace s122 := on.keep _ _ s122 (by decide)
          replace s83 := on.keep _ _ s83 (by decide)
          replace s126 := on.keep _ _ s126 (by decide)
          clear on
          clear s127
          refine st_skip (d := 128) (wanted_undef rfl (show (OPS[43]?).bind (·.dst) = some 126 from HDS 43 (by decide)) s126) rfl (by rw [kp.size, HSZ]; decide) (fun a on s128 => ?_)
          replace kp := kp.only on (by decide)
          replace s122 := on.keep _ _ s122 (by decide)
          replace s83 := on.keep _ _ s83 (by decide)
          replace s126 := on.keep _ _ s126 (by decide)
          clear on
          clear s128
          refine st_skip (d := 129) (wanted_undef rfl (show (OPS[43]?).bind (·.dst) = some 126 from HDS 43 (by decide)) s126) rfl (by rw [kp.size, HSZ]; decide) (fun a on s129 => ?_)
          replace kp := kp.only on (by decide)
          replace s122 := on.keep _ _ s122 (by decide)
          replace s83 := on.keep _ _ s83 (by decide)
          replace s126 := on.keep _ _ s126 (by decide)
          clear on
          clear s129
          refine st_skip (d := 130) (wanted_undef rfl (show (OPS[43]?).bind (·.dst) = some 126 from HDS 43 (by decide)) s126) rfl (by rw [kp.size, HSZ]; decide) (fun a on s130 => ?_)
          replace kp := kp.only on (by decide)
          replace s122 := on.keep _ _ s122 (by decide)
          replace s83 := on.keep _ _ s83 (by decide)
          replace s126 := on.keep _ _ s126 (by decide)
          clear on
          clear s130
          refine st_skip (d := 131) (wanted_undef rfl (show (OPS[43]?).bind (·.dst) = some 126 from HDS 43 (by decide)) s126) rfl (by rw [kp.size, HSZ]; decide) (fun a on s131 => ?_)
          replace kp := kp.only on (by decide)
          replace s122 := on.keep _ _ s122 (by decide)
          replace s83 := on.keep _ _ s83 (by decide)
          replace s126 := on.keep _ _ s126 (by decide)
          clear on
          clear s131
          refine st_skip (d := 132) (wanted_undef rfl (show (OPS[43]?).bind (·.dst) = some 126 from HDS 43 (by decide)) s126) rfl (by rw [kp.size, HSZ]; decide) (fun a on s132 => ?_)
          replace kp := kp.only on (by decide)
          replace s122 := on.keep _ _ s122 (by decide)
          replace s83 := on.keep _ _ s83 (by decide)
          replace s126 := on.keep _ _ s126 (by decide)
          clear on
          clear s132
          refine st_skip (d := 133) (wanted_undef rfl (show (OPS[43]?).bind (·.dst) = some 126 from HDS 43 (by decide)) s126) rfl (by rw [kp.size, HSZ]; decide) (fun a on s133 => ?_)
          replace kp := kp.only on (by decide)
          replace s122 := on.keep _ _ s122 (by decide)
          replace s83 := on.keep _ _ s83 (by decide)
          replace s126 := on.keep _ _ s126 (by decide)
          clear on
          clear s133
          refine st_skip (d := 134) (wanted_undef rfl (show (OPS[43]?).bind (·.dst) = some 126 from HDS 43 (by decide)) s126) rfl (by rw [kp.size, HSZ]; decide) (fun a on s134 => ?_)
          replace kp := kp.only on (by decide)
          replace s122 := on.keep _ _ s122 (by decide)
          replace s83 := on.keep _ _ s83 (by decide)
          replace s126 := on.keep _ _ s126 (by decide)
          clear on
          clear s134
          refine st_skip (d := 135) (wanted_undef rfl (show (OPS[43]?).bind (·.dst) = some 126 from HDS 43 (by decide)) s126) rfl (by rw [kp.size, HSZ]; decide) (fun a on s135 => ?_)
          replace kp := kp.only on (by decide)
          replace s122 := on.keep _ _ s122 (by decide)
          replace s83 := on.keep _ _ s83 (by decide)
          replace s126 := on.keep _ _ s126 (by decide)
          clear on
          clear s135
          refine st_skip (d := 136) (wanted_off rfl (show (OPS[39]?).bind (·.dst) = some 122 from HDS 39 (by decide)) s122 (by decide)) rfl (by rw [kp.size, HSZ]; decide) (fun a on s136 => ?_)
          replace kp := kp.only on (by decide)
          replace s122 := on.keep _ _ s122 (by decide)
          replace s83 := on.keep _ _ s83 (by decide)
          clear on s126
          clear s136
          refine st_val (d := 137) (v := (.bool true)) (wanted_none rfl) rfl (by have e122 := eval_at s122; have ec : ∀ v, a.eval (.const v) = v := fun _ => rfl; generalize a.eval = ev at *; clear kp HDS; go_simp; try with_reducible rfl) (by rw [kp.size, HSZ]; decide) (fun a on s137 => ?_)
          replace kp := kp.only on (by decide)
          replace s83 := on.keep _ _ s83 (by decide)
          clear on s122
          refine wpStill_nil ?_
          exact ⟨kp, s137, s83⟩
        | false =>
          rcases hw3 with ⟨rfl, rfl⟩ | ⟨rfl, ab, lim, rfl, q2, hb2⟩
          · refine st_val (d := 123) (v := (.slice A3 0 cq3)) (wanted_on rfl (show (OPS[39]?).bind (·.dst) = some 122 from HDS 39 (by decide)) s122) rfl (by have e4 := eval_at ((kp.keep 4 (by decide)).trans z4); have ec : ∀ v, a.eval (.const v) = v := fun _ => rfl; generalize a.eval = ev at *; clear kp HDS; go_simp; try with_reducible rfl) (by rw [kp.size, HSZ]; decide) (fun a on s123 => ?_)
            replace kp := kp.only on (by decide)
            replace s122 := on.keep _ _ s122 (by decide)
            replace s83 := on.keep _ _ s83 (by decide)
            clear on
            refine st_val (d := 124) (v := (.int .i64 ((0 : Nat) : Int))) (wanted_on rfl (show (OPS[39]?).bind (·.dst) = some 122 from HDS 39 (by decide)) s122) rfl (by have e123 := eval_at s123; have ec : ∀ v, a.eval (.const v) = v := fun _ => rfl; generalize a.eval = ev at *; clear kp HDS; go_simp; try with_reducible rfl) (by rw [kp.size, HSZ]; decide) (fun a on s124 => ?_)
            replace kp := kp.only on (by decide)
            replace s122 := on.keep _ _ s122 (by decide)
            replace s83 := on.keep _ _ s83 (by decide)
            clear on s123
            refine st_val (d := 125) (v := (.bool false)) (wanted_on rfl (show (OPS[39]?).bind (·.dst) = some 122 from HDS 39 (by decide)) s122) rfl (by have e124 := eval_at s124; have ec : ∀ v, a.eval (.const v) = v := fun _ => rfl; generalize a.eval = ev at *; clear kp HDS; go_simp; try with_reducible rfl) (by rw [kp.size, HSZ]; decide) (fun a on s125 => ?_)
            replace kp := kp.only on (by decide)
            replace s122 := on.keep _ _ s122 (by decide)
            replace s83 := on.keep _ _ s83 (by decide)
            clear on s124
            refine st_val (d := 126) (v := (.bool false)) (wanted_on rfl (show (OPS[39]?).bind (·.dst) = some 122 from HDS 39 (by decide)) s122) rfl (by have e125 := eval_at s125; have ec : ∀ v, a.eval (.const v) = v := fun _ => rfl; generalize a.eval = ev at *; clear kp HDS; go_simp; try with_reducible rfl) (by rw [kp.size, HSZ]; decide) (fun a on s126 => ?_)
            replace kp := kp.only on (by decide)
            replace s122 := on.keep _ _ s122 (by decide)
            replace s83 := on.keep _ _ s83 (by decide)
            clear on s125
            refine st_skip (d := 127) (wanted_off rfl (show (OPS[43]?).bind (·.dst) = some 126 from HDS 43 (by decide)) s126 (by decide)) rfl (by rw [kp.size, HSZ]; decide) (fun a on s127 => ?_)
            replace kp := kp.only on (by decide)
            replace s122 := on.keep _ _ s122 (by decide)
            replace s83 := on.keep _ _ s83 (by decide)
            replace s126 := on.keep _ _ s126 (by decide)
            clear on
            clear s127
            refine st_skip (d := 128) (wanted_off rfl (show (OPS[43]?).bind (·.dst) = some 126 from HDS 43 (by decide)) s126 (by decide)) rfl (by rw [kp.size, HSZ]; decide) (fun a on s128 => ?_)
            replace kp := kp.only on (by decide)
            replace s122 := on.keep _ _ s122 (by decide)
            replace s83 := on.keep _ _ s83 (by decide)
            replace s126 := on.keep _ _ s126 (by decide)
            clear on
            clear s128
            refine st_skip (d := 129) (wanted_off rfl (show (OPS[43]?).bind (·.dst) = some 126 from HDS 43 (by decide)) s126 (by decide)) rfl (by rw [kp.size, HSZ]; decide) (fun a on s129 => ?_)
            replace kp := kp.only on (by decide)
            replace s122 := on.keep _ _ s122 (by decide)
            replace s83 := on.keep _ _ s83 (by decide)
            replace s126 := on.keep _ _ s126 (by decide)
            clear on
            clear s129
            refine st_skip (d := 130) (wanted_off rfl (show (OPS[43]?).bind (·.dst) = some 126 from HDS 43 (by decide)) s126 (by decide)) rfl (by rw [kp.size, HSZ]; decide) (fun a on s130 => ?_)
            replace kp := kp.only on (by decide)
            replace s122 := on.keep _ _ s122 (by decide)
            replace s83 := on.keep _ _ s83 (by decide)
            replace s126 := on.keep _ _ s126 (by decide)
            clear on
            clear s130
            refine st_skip (d := 131) (wanted_off rfl (show (OPS[43]?).bind (·.dst) = some 126 from HDS 43 (by decide)) s126 (by decide)) rfl (by rw [kp.size, HSZ]; decide) (fun a on s131 => ?_)
            replace kp := kp.only on (by decide)
            replace s122 := on.keep _ _ s122 (by decide)
            replace s83 := on.keep _ _ s83 (by decide)
            replace s126 := on.keep _ _ s126 (by decide)
            clear on
            clear s131
            refine st_skip (d := 132) (wanted_off rfl (show (OPS[43]?).bind (·.dst) = some 126 from HDS 43 (by decide)) s126 (by decide)) rfl (by rw [kp.size, HSZ]; decide) (fun a on s132 => ?_)
            replace kp := kp.only on (by decide)
            replace s122 := on.keep _ _ s122 (by decide)
            replace s83 := on.keep _ _ s83 (by decide)
            replace s126 := on.keep _ _ s126 (by decide)
            clear on
            clear s132
            refine st_skip (d := 133) (wanted_off rfl (show (OPS[43]?).bind (·.dst) = some 126 from HDS 43 (by decide)) s126 (by decide)) rfl (by rw [kp.size, HSZ]; decide) (fun a on s133 => ?_)
            replace kp := kp.only on (by decide)
            replace s122 := on.keep _ _ s122 (by decide)
            replace s83 := on.keep _ _ s83 (by decide)
            replace s126 := on.keep _ _ s126 (by decide)
            clear on
            clear s133
            refine st_skip (d := 134) (wanted_off rfl (show (OPS[43]?).bind (·.dst) = some 126 from HDS 43 (by decide)) s126 (by decide)) rfl (by rw [kp.size, HSZ]; decide) (fun a on s134 => ?_)
            replace kp := kp.only on (by decide)
            replace s122 := on.keep _ _ s122 (by decide)
            replace s83 := on.keep _ _ s83 (by decide)
            replace s126 := on.keep _ _ s126 (by decide)
            clear on
            clear s134
            refine st_skip (d := 135) (wanted_off rfl (show (OPS[43]?).bind (·.dst) = some 126 from HDS 43 (by decide)) s126 (by decide)) rfl (by rw [kp.size, HSZ]; decide) (fun a on s135 => ?_)
            replace kp := kp.only on (by decide)
            replace s122 := on.keep _ _ s122 (by decide)
            replace s83 := on.keep _ _ s83 (by decide)
            replace s126 := on.keep _ _ s126 (by decide)
            clear on
            clear s135
            refine st_val (d := 136) (v := (.bool false)) (wanted_on rfl (show (OPS[39]?).bind (·.dst) = some 122 from HDS 39 (by decide)) s122) rfl (by have e126 := eval_at s126; have ec : ∀ v, a.eval (.const v) = v := fun _ => rfl; generalize a.eval = ev at *; clear kp HDS; go_simp; try with_reducible rfl) (by rw [kp.size, HSZ]; decide) (fun a on s136 => ?_)
            replace kp := kp.only on (by decide)
            replace s122 := on.keep _ _ s122 (by decide)
            replace s83 := on.keep _ _ s83 (by decide)
            clear on s126
            refine st_val (d := 137) (v := (.bool false)) (wanted_none rfl) rfl (by have e122 := eval_at s122; have e136 := eval_at s136; have ec : ∀ v, a.eval (.const v) = v := fun _ => rfl; generalize a.eval = ev at *; clear kp HDS; go_simp; try with_reducible rfl) (by rw [kp.size, HSZ]; decide) (fun a on s137 => ?_)
            replace kp := kp.only on (by decide)
            replace s83 := on.keep _ _ s83 (by decide)
            clear on s122 s136
            refine wpStill_nil ?_
            exact ⟨kp, s137, s83⟩
          · refine st_val (d := 123) (v := (.slice (some ab) 1 cq3)) (wanted_on rfl (show (OPS[39]?).bind (·.dst) = some 122 from HDS 39 (by decide)) s122) rfl (by have e4 := eval_at ((kp.keep 4 (by decide)).trans z4); have ec : ∀ v, a.eval (.const v) = v := fun _ => rfl; generalize a.eval = ev at *; clear kp HDS; go_simp; try with_reducible rfl) (by rw [kp.size, HSZ]; decide) (fun a on s123 => ?_)
            replace kp := kp.only on (by decide)
            replace s122 := on.keep _ _ s122 (by decide)
            replace s83 := on.keep _ _ s83 (by decide)
            clear on
            refine st_val (d := 124) (v := (.int .i64 ((1 : Nat) : Int))) (wanted_on rfl (show (OPS[39]?).bind (·.dst) = some 122 from HDS 39 (by decide)) s122) rfl (by have e123 := eval_at s123; have ec : ∀ v, a.eval (.const v) = v := fun _ => rfl; generalize a.eval = ev at *; clear kp HDS; go_simp; try with_reducible rfl) (by rw [kp.size, HSZ]; decide) (fun a on s124 => ?_)
            replace kp := kp.only on (by decide)
            replace s122 := on.keep _ _ s122 (by decide)
            replace s83 := on.keep _ _ s83 (by decide)
            clear on s123
            refine st_val (d := 125) (v := (.bool true)) (wanted_on rfl (show (OPS[39]?).bind (·.dst) = some 122 from HDS 39 (by decide)) s122) rfl (by have e124 := eval_at s124; have ec : ∀ v, a.eval (.const v) = v := fun _ => rfl; generalize a.eval = ev at *; clear kp HDS; go_simp; try with_reducible rfl) (by rw [kp.size, HSZ]; decide) (fun a on s125 => ?_)
            replace kp := kp.only on (by decide)
            replace s122 := on.keep _ _ s122 (by decide)
            replace s83 := on.keep _ _ s83 (by decide)
            clear on s124
            refine st_val (d := 126) (v := (.bool true)) (wanted_on rfl (show (OPS[39]?).bind (·.dst) = some 122 from HDS 39 (by decide)) s122) rfl (by have e125 := eval_at s125; have ec : ∀ v, a.eval (.const v) = v := fun _ => rfl; generalize a.eval = ev at *; clear kp HDS; go_simp; try with_reducible rfl) (by rw [kp.size, HSZ]; decide) (fun a on s126 => ?_)
            replace kp := kp.only on (by decide)
            replace s122 := on.keep _ _ s122 (by decide)
            replace s83 := on.keep _ _ s83 (by decide)
            clear on s125
            refine st_val (d := 127) (v := (.pointer (some ⟨bx, 0, none⟩))) (wanted_on rfl (show (OPS[43]?).bind (·.dst) = some 126 from HDS 43 (by decide)) s126) rfl (by have e10 := eval_at ((kp.keep 10 (by decide)).trans z10); have ec : ∀ v, a.eval (.const v) = v := fun _ => rfl; generalize a.eval = ev at *; clear kp HDS; go_simp; try with_reducible rfl) (by rw [kp.size, HSZ]; decide) (fun a on s127 => ?_)
            replace kp := kp.only on (by decide)
            replace s122 := on.keep _ _ s122 (by decide)
            replace s83 := on.keep _ _ s83 (by decide)
            replace s126 := on.keep _ _ s126 (by decide)
            clear on
            refine st_val (d := 128) (v := (.slice (some ak) x.ks.length h.kc)) (wanted_on rfl (show (OPS[43]?).bind (·.dst) = some 126 from HDS 43 (by decide)) s126) rfl (by have e127 := eval_at s127; have ec : ∀ v, a.eval (.const v) = v := fun _ => rfl; generalize a.eval = ev at *; clear kp HDS; go_simp; try with_reducible rfl) (by rw [kp.size, HSZ]; decide) (fun a on s128 => ?_)
            replace kp := kp.only on (by decide)
            replace s122 := on.keep _ _ s122 (by decide)
            replace s83 := on.keep _ _ s83 (by decide)
            replace s126 := on.keep _ _ s126 (by decide)
            clear on s127
            refine st_val (d := 129) (v := (.int .i64 j)) (wanted_on rfl (show (OPS[43]?).bind (·.dst) = some 126 from HDS 43 (by decide)) s126) rfl (by have e12 := eval_at ((kp.keep 12 (by decide)).trans z12); have ec : ∀ v, a.eval (.const v) = v := fun _ => rfl; generalize a.eval = ev at *; clear kp HDS; go_simp; try with_reducible rfl) (by rw [kp.size, HSZ]; decide) (fun a on s129 => ?_)
            replace kp := kp.only on (by decide)
            replace s122 := on.keep _ _ s122 (by decide)
            replace s83 := on.keep _ _ s83 (by decide)
            replace s126 := on.keep _ _ s126 (by decide)
            replace s128 := on.keep _ _ s128 (by decide)
            clear on
            refine st_val (d := 130) (v := (.pointer (some (ak.add j)))) (wanted_on rfl (show (OPS[43]?).bind (·.dst) = some 126 from HDS 43 (by decide)) s126) rfl (by have e128 := eval_at s128; have e129 := eval_at s129; have ec : ∀ v, a.eval (.const v) = v := fun _ => rfl; generalize a.eval = ev at *; clear kp HDS; go_simp; try with_reducible rfl) (by rw [kp.size, HSZ]; decide) (fun a on s130 => ?_)
            replace kp := kp.only on (by decide)
            replace s122 := on.keep _ _ s122 (by decide)
            replace s83 := on.keep _ _ s83 (by decide)
            replace s126 := on.keep _ _ s126 (by decide)
            clear on s128 s129
            refine st_val (d := 131) (v := (.string s)) (wanted_on rfl (show (OPS[43]?).bind (·.dst) = some 126 from HDS 43 (by decide)) s126) rfl (by have e130 := eval_at s130; have ec : ∀ v, a.eval (.const v) = v := fun _ => rfl; generalize a.eval = ev at *; clear kp HDS; go_simp; try with_reducible rfl) (by rw [kp.size, HSZ]; decide) (fun a on s131 => ?_)
            replace kp := kp.only on (by decide)
            replace s122 := on.keep _ _ s122 (by decide)
            replace s83 := on.keep _ _ s83 (by decide)
            replace s126 := on.keep _ _ s126 (by decide)
            clear on s130
            refine st_val (d := 132) (v := (.slice (some ab) 1 cq3)) (wanted_on rfl (show (OPS[43]?).bind (·.dst) = some 126 from HDS 43 (by decide)) s126) rfl (by have e4 := eval_at ((kp.keep 4 (by decide)).trans z4); have ec : ∀ v, a.eval (.const v) = v := fun _ => rfl; generalize a.eval = ev at *; clear kp HDS; go_simp; try with_reducible rfl) (by rw [kp.size, HSZ]; decide) (fun a on s132 => ?_)
            replace kp := kp.only on (by decide)
            replace s122 := on.keep _ _ s122 (by decide)
            replace s83 := on.keep _ _ s83 (by decide)
            replace s126 := on.keep _ _ s126 (by decide)
            replace s131 := on.keep _ _ s131 (by decide)
            clear on
            refine st_val (d := 133) (v := (.pointer (some ab))) (wanted_on rfl (show (OPS[43]?).bind (·.dst) = some 126 from HDS 43 (by decide)) s126) rfl (by have e132 := eval_at s132; have ec : ∀ v, a.eval (.const v) = v := fun _ => rfl; generalize a.eval = ev at *; clear kp HDS; go_simp; try with_reducible rfl) (by rw [kp.size, HSZ]; decide) (fun a on s133 => ?_)
            replace kp := kp.only on (by decide)
            replace s122 := on.keep _ _ s122 (by decide)
            replace s83 := on.keep _ _ s83 (by decide)
            replace s126 := on.keep _ _ s126 (by decide)
            replace s131 := on.keep _ _ s131 (by decide)
            clear on s132
            refine st_val (d := 134) (v := (.string lim)) (wanted_on rfl (show (OPS[43]?).bind (·.dst) = some 126 from HDS 43 (by decide)) s126) rfl (by have e133 := eval_at s133; have ec : ∀ v, a.eval (.const v) = v := fun _ => rfl; generalize a.eval = ev at *; clear kp HDS; go_simp; try with_reducible rfl) (by rw [kp.size, HSZ]; decide) (fun a on s134 => ?_)
            replace kp := kp.only on (by decide)
            replace s122 := on.keep _ _ s122 (by decide)
            replace s83 := on.keep _ _ s83 (by decide)
            replace s126 := on.keep _ _ s126 (by decide)
            replace s131 := on.keep _ _ s131 (by decide)
            clear on s133
            refine st_val (d := 135) (v := (.bool (!L3))) (wanted_on rfl (show (OPS[43]?).bind (·.dst) = some 126 from HDS 43 (by decide)) s126) rfl (by have e131 := eval_at s131; have e134 := eval_at s134; have ec : ∀ v, a.eval (.const v) = v := fun _ => rfl; generalize a.eval = ev at *; clear kp HDS; go_simp; try with_reducible rfl) (by rw [kp.size, HSZ]; decide) (fun a on s135 => ?_)
            replace kp := kp.only on (by decide)
            replace s122 := on.keep _ _ s122 (by decide)
            replace s83 := on.keep _ _ s83 (by decide)
            replace s126 := on.keep _ _ s126 (by decide)
            clear on s131 s134
            refine st_val (d := 136) (v := (.bool (!L3))) (wanted_on rfl (show (OPS[39]?).bind (·.dst) = some 122 from HDS 39 (by decide)) s122) rfl (by have e126 := eval_at s126; have e135 := eval_at s135; have ec : ∀ v, a.eval (.const v) = v := fun _ => rfl; generalize a.eval = ev at *; clear kp HDS; go_simp; try with_reducible rfl) (by rw [kp.size, HSZ]; decide) (fun a on s136 => ?_)
            replace kp := kp.only on (by decide)
            replace s122 := on.keep _ _ s122 (by decide)
            replace s83 := on.keep _ _ s83 (by decide)
            clear on s126 s135
            refine st_val (d := 137) (v := (.bool (!L3))) (wanted_none rfl) rfl (by have e122 := eval_at s122; have e136 := eval_at s136; have ec : ∀ v, a.eval (.const v) = v := fun _ => rfl; generalize a.eval = ev at *; clear kp HDS; go_simp; try with_reducible rfl) (by rw [kp.size, HSZ]; decide) (fun a on s137 => ?_)
            replace kp := kp.only on (by decide)
            replace s83 := on.keep _ _ s83 (by decide)
            clear on s122 s136
            refine wpStill_nil ?_
            exact ⟨kp, s137, s83⟩
      rintro a3 ⟨kp3, s137, s83⟩
      refine HKK.out _ ?_
      generalize (B2 || !L3) = B3 at *
      obtain ⟨m, hm, he⟩ := kept_frame kp3 (by decide) (by rw [HSZ]; decide)
      rw [HA0.out] at he
      obtain ⟨x0, x1, x2, x3, x4, x5, x6, x7, x8, x9, x10, x11, x12, x13, x14, x15, x16, x17, x18, x19, x20, x21, x22, x23, x24, x25, x26, x27, x28, x29, x30, x31, x32, x33, x34, x35, x36, x37, x38, x39, x40, x41, x42, x43, x44, x45, x46, x47, x48, x49, x50, x51, x52, x53, x54, rfl⟩ := list55 hm
      rw [he] at s137 s83
      have hx0 := Option.some.inj (show some x0 = some (ptr gw) from s83)
      subst hx0
      have hx54 := Option.some.inj (show some x54 = some (.bool B3) from s137)
      subst hx54
      simp only [List.take_succ_cons, List.take_zero, List.drop_succ_cons, List.drop_zero, List.cons_append, List.nil_append] at he
      subst he
      clear s137 s83 hwm hp1 hn1 hw2 hw3 t0 q0 hm HA0 HKK z0 z3 z4 z10 z12 HSZ kp3 HDS
      have cq5 := HKD.out.cells.2.2.2.2.2.1
      have cf5 := HKD.out.cells.2.2.2.2.2.2 5
      clear hlj hak
      go_wp2
      go_roundw
      case rel => exact ⟨j + 1, B3, by go_num, hlt, HKD.out.setBad B3, HFD.out.trans (Fw.set _) (fun b hb => .inl hb), HNEW.out⟩
      case measure => simp [intOf]; omega
    · obtain rfl : j = x.ks.length := by omega
      have hlt' : ¬ (x.ks.length : Int) < (x.ks.length : Int) := by omega
      go_wp2
      exact HEX.out _ _ _ _ _ _ _ _ _ _ _ _ _ _ _ _ _ _ _ _ _ _ _ _ _ _ _ _ _ _ _ _ _ _ _ _ _ _ _ _ _ _ _ _ _ _ _ _ _ _ _ _ _ _ _ _ _ _ _ _ _ _ _ _ wr b HKJ.out HFJ.out HBJ.out
end Go.Proofs.Ytkpjkglheegmgaa
