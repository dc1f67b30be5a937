/- The document's walk below any number: the walk of node. Conditions: a walk in memory, a state that is read. -/
import Derived.Test.YtkpjkglheegmgaaQt
/- The document's walk at a node: the walk of node. Conditions: a walk in memory, a state that is read. -/
namespace Go.Proofs.Ytkpjkglheegmgaa
open Go.RowKit
set_option linter.unusedSimpArgs false
set_option linter.unusedVariables false

set_option maxRecDepth 100000 in
set_option maxHeartbeats 8000000 in
theorem node_inner (w0 w : World) (gw gm : Nat) (A : Option Addr) (n c : Nat) (root : Int) (M : List Nat) (vo : Value) (out : List Pr) (L : Nat) (k : Wk w w0.heap.size gw gm A n c root M vo out L false) (hB : Below w0.heap.size w0 w) (nodes : List Nd) (hS : RdS w0 A n nodes) (i : Nat) (hi : i < n) (hM : i ∉ M) (x : Nd) (hx : nodes[i]? = some x) (deep : Nat) (hd : 1 ≤ deep ∧ deep ≤ 1000000000000000) (hl : L ≤ 1000000000000000) (hout : out.length ≤ 2048) (lo hi' : Bd) (lv hv : Value) (hlv : BdV w0 lv lo) (hhv : BdV w0 hv hi') (hk0 : x.kids.isEmpty = false) (N f : Nat) (hN : N ≤ 100000000000000) (hA : AskR nodes N (f + 1) deep ⟨M, out.length, L⟩ out) (hWf : Wfn nodes)
    (IH : ∀ (a : Int) (lo' hi'' : Bd) (lv' hv' : Value) (W : World) (s : Sr) (vo'' : Value) (out'' : List Pr), Wk W w0.heap.size gw gm A n c root s.M vo'' out'' s.L false → Below w0.heap.size w0 W → AskR nodes N f (deep + 1) s out'' → (-9223372036854775808 ≤ a ∧ a ≤ 9223372036854775807) → BdV w0 lv' lo' → BdV w0 hv' hi'' →
      Calls Try.prog 46 #[ptr gw, .int .i64 a, .int .i64 ((deep + 1 : Nat) : Int), lv', hv'] W fun e w' => e = .returned (.tuple #[]) ∧ NdPost W w' w0.heap.size gw gm A n c root vo'' out'' (deep + 1) (rd nodes f lo' hi'' (deep + 1) a s)) :
    Calls Try.prog 46 #[ptr gw, .int .i64 i, .int .i64 deep, lv, hv] w fun e w' => e = .returned (.tuple #[]) ∧ NdPost w w' w0.heap.size gw gm A n c root vo out deep (rd nodes (f + 1) lo hi' deep (i : Int) ⟨M, out.length, L⟩) := by
  obtain ⟨R1, hR1, hR2, hRF⟩ : ∃ R1, ((Formed deep x ∧ Holds lo hi' x.ks) → rdK (fun lo hi c s => rd nodes f lo hi (deep + 1) c s) lo hi' x.ks x.kids ⟨i :: M, out.length, L⟩ = R1) ∧ (¬ (Formed deep x ∧ Holds lo hi' x.ks) → R1 = none) ∧ rd nodes (f + 1) lo hi' deep (i : Int) ⟨M, out.length, L⟩ = R1.map (fun q => (Tr.mk x.ks x.vs q.1, q.2)) := by
    by_cases hg : Formed deep x ∧ Holds lo hi' x.ks
    · refine ⟨_, fun _ => rfl, fun h => absurd hg h, ?_⟩
      exact rd_inner (a := (i : Int)) (s := ⟨M, out.length, L⟩) (by omega) (by rw [Int.toNat_natCast]; exact hx) (by rw [Int.toNat_natCast]; exact hM) hg hk0
    · refine ⟨none, fun h => absurd h hg, fun _ => rfl, ?_⟩
      rw [rd, if_pos (by omega), Int.toNat_natCast, hx]
      simp only
      rw [if_neg hM, if_neg hg]
      rfl
  rw [hRF]
  have hkpos : 0 < x.kids.length := by
    cases hx0 : x.kids with
    | nil => rw [hx0] at hk0; cases hk0
    | cons _ _ => simp
  have hki : ((x.kids.length : Int) == 0) = false := beq_false_of_ne (by omega)
  have HR1 := Lib.hid (And.intro hR1 (And.intro hR2 hRF))
  have HA := Lib.hid hA
  have HIH := Lib.hid IH
  have HLV := Lib.hid (And.intro hlv hhv)
  have HWX := Lib.hid (show ∀ a ∈ x.kids, -9223372036854775808 ≤ a ∧ a ≤ 9223372036854775807 from hWf x (List.mem_of_getElem? hx))
  have hfm : Formed deep x ↔ (least deep ≤ x.ks.length ∧ x.ks.length ≤ 4) ∧ x.vs.length = 0 ∧ x.kids.length = x.ks.length + 1 := by
    unfold Formed
    rw [hk0, if_neg (by decide), and_assoc]
  have HFM := Lib.hid hfm
  have hn15 : n ≤ 9223372036854775807 := by have := hS.len; have := hS.max; omega
  clear hR1 hR2 hRF hA IH hWf hfm
  obtain ⟨ad, h, rfl, hX⟩ := hS.at_ i x hx
  have hX0 : RdX w0 (ad.add (i * 3)) x h := hX
  have hXB : ∀ W, Below w0.heap.size w0 W → RdX W (ad.add (i * 3)) x h := fun W hb => hX.below hb
  obtain ⟨x0, x1, x2, rk, rv, rc⟩ := hXB w hB
  have hX3 := hXB
  obtain ⟨m0, mf⟩ := k.metAt hi
  rw [decide_eq_false hM] at m0
  obtain ⟨c0, _, c2, _, _, c5, cf⟩ := k.cells
  have hgm := cell_lt m0
  have hgw := cell_lt c5
  have hii : (i : Int) < (n : Int) := by omega
  have k1 := k.setMet hi
  have kne := k.ne
  have hf1 : Fw gw gm vo w (w.setCell ⟨gm, i, none⟩ (.bool true)) := Fw.setM _
  have hb1 := k.fr hf1 hB.size
  obtain ⟨y0, y1, y2, _, _, _⟩ := hXB _ (hB.trans hb1)
  have c0' := k1.cells.1
  have HK := Lib.hid k
  have HB := Lib.hid hB
  have HX := Lib.hid hXB
  have HD := Lib.hid hd
  have HX0 := Lib.hid hX0
  clear hX hX0 hXB hX3 rk rv rc cf hB hS hd
  go_enter Try.func46, Try.ntmps46
  go_upto_region 3 with fail
  go_upto_region 4 with fail
  have hbA := below1 (w.setCell ⟨gm, i, none⟩ (.bool true)) (.cells #[.slice h.kA x.ks.length h.kc, .slice h.vA x.vs.length h.vc, .slice h.cA x.kids.length h.cc] 65)
  have hbx := heap_alloc_new (w.setCell ⟨gm, i, none⟩ (.bool true)) (.cells #[.slice h.kA x.ks.length h.kc, .slice h.vA x.vs.length h.vc, .slice h.cA x.kids.length h.cc] 65)
  have hsz : (w.setCell ⟨gm, i, none⟩ (.bool true)).heap.size = w.heap.size := by simp [World.setCell]
  rw [hsz] at hbx
  have hf2 : Fw gw gm vo w ((w.setCell ⟨gm, i, none⟩ (.bool true)).alloc (.cells #[.slice h.kA x.ks.length h.kc, .slice h.vA x.vs.length h.vc, .slice h.cA x.kids.length h.cc] 65)) := hf1.trans (Fw.of_below hbA) (fun b hb => .inl hb)
  have k2 := k1.below hbA
  have HBX := Lib.hid fun (W : World) hf => Wk.boxed (W := W) HK.out hbx (Nat.le_refl _) hf
  clear c0 c2 c5 m0 mf x0 x1 x2 y0 y1 y2 c0' k1 hf1 hb1 hbA hsz
  generalize (w.setCell ⟨gm, i, none⟩ (.bool true)).alloc (.cells #[.slice h.kA x.ks.length h.kc, .slice h.vA x.vs.length h.vc, .slice h.cA x.kids.length h.cc] 65) = W2 at *
  generalize hbxe : w.heap.size = bx at *
  have HK2 := Lib.hid (And.intro k2 hf2)
  have HBE := Lib.hid hbxe
  clear k2 hf2 hbxe
  have hfew : ∃ d1 : Bool, ((deep : Int) == 1) = d1 ∧ ((if d1 = true then 1 else 2 : Int) = (least deep : Nat)) := by
    refine ⟨_, rfl, ?_⟩
    by_cases h1 : deep = 1
    · subst h1; rfl
    · have : ((deep : Int) == 1) = false := by simp; omega
      rw [this]
      unfold least
      rw [if_neg h1]; rfl
  obtain ⟨d1, hd1, hfw⟩ := hfew
  have HFEW := Lib.hid hfw
  clear hfw
  go_upto_if 61 with fail
  clear hd1
  go_cut [11] (fun f wx => f = .int .i64 (least deep) ∧ wx = W2)
  case first =>
    cases d1 with
    | true =>
      have HL1 := Lib.hid (show (1 : Int) = (least deep : Nat) from HFEW.out)
      go_wp2
      go_meet
      exact ⟨by rw [HL1.out], rfl⟩
    | false =>
      have HL1 := Lib.hid (show (2 : Int) = (least deep : Nat) from HFEW.out)
      go_wp2
      go_meet
      exact ⟨by rw [HL1.out], rfl⟩
  case rest =>
    obtain ⟨rfl, rfl⟩ := hcut
    clear HFEW d1
    go_upto_region 7 with fail
    generalize wc = W2 at *
    go_cut [] (fun wx => ∃ b0, Wk wx w0.heap.size gw gm (some ad) n c root (i :: M) vo out L b0 ∧ Fw gw gm vo W2 wx ∧ (b0 = false ↔ KeysOk deep lo hi' x 0))
    case first =>
      obtain ⟨k2, hf2⟩ := HK2.out
      obtain ⟨t0, _, _, _⟩ := three_of (HBX.out W2 (Fw.of_below (Below.refl _ _)))
      obtain ⟨_, _, _, _, _, c5, cf⟩ := k2.cells
      have cf5 := cf 5
      have hway : x.ks.length < least deep ∨ (¬ x.ks.length < least deep ∧ 4 < x.ks.length) ∨ (¬ x.ks.length < least deep ∧ ¬ 4 < x.ks.length) := by omega
      clear k2 hf2 cf
      rcases hway with h1 | ⟨h1, h2⟩ | ⟨h1, h2⟩
      · have h1i : (x.ks.length : Int) < (least deep : Nat) := by omega
        have HNO := Lib.hid (show (true = false ↔ KeysOk deep lo hi' x 0) from ⟨fun e => (by cases e), fun e => by have := keysOk_zero.1 e; omega⟩)
        clear h1
        go_wp2
        go_meet
        exact ⟨true, HK2.out.1.setBad true, Fw.set _, HNO.out⟩
      · have h1i : ¬ (x.ks.length : Int) < (least deep : Nat) := by omega
        have h2i : (4 : Int) < (x.ks.length : Int) := by omega
        have HNO := Lib.hid (show (true = false ↔ KeysOk deep lo hi' x 0) from ⟨fun e => (by cases e), fun e => by have := keysOk_zero.1 e; omega⟩)
        clear h1 h2
        go_wp2
        go_meet
        exact ⟨true, HK2.out.1.setBad true, Fw.set _, HNO.out⟩
      · have h1i : ¬ (x.ks.length : Int) < (least deep : Nat) := by omega
        have h2i : ¬ (4 : Int) < (x.ks.length : Int) := by omega
        have HNO := Lib.hid (show KeysOk deep lo hi' x 0 from keysOk_zero.2 ⟨by omega, by omega⟩)
        clear h1 h2
        go_wp2
        go_meet
        exact ⟨false, HK2.out.1.setBad false, Fw.set _, ⟨fun _ => HNO.out, fun _ => rfl⟩⟩
    case rest =>
      have HC3 := Lib.hid hcut
      clear hcut
      go_wp2
      obtain ⟨b0, h1, h2, h3⟩ := HC3.out
      refine keys_loop w0 W2 gw gm bx (some ad) n c root (i :: M) vo out L deep lo hi' lv hv x h (ad.add (i * 3)) (fun W hf => HB.out.trans (HK.out.fr (HK2.out.2.trans hf (fun b hb => .inl hb)) HB.out.size)) (fun W hf => HBX.out W hf) HX.out HLV.out.1 HLV.out.2 _ b0 h1 h2 h3 _ _ _ _ _ _ _ _ _ _ _ _ _ _ _ _ _ _ _ _ _ _ _ _ _ _ _ _ _ _ _ _ _ _ _ _ _ _ _ _ _ _ _ _ _ _ _ _ _ _ _ _ _ _ _ _ _ _ _ _ _ _ _ _ _ _ _ _ _ _ _ _ _ _ _ _ _ _ _ _ _ _ _ _ _ _ _ _ _ _ _ _ _ _ _ _ _ _ _ _ _ _ _ _ _ _ _ _ _ _ _ _ _ _ _ _ _ _ _ _ _ _ _ _ _ _ _ _ _ _ _ _ _ _ _ _ _ _ _ _ _ _ _ _ _ _ _ _ _ _ _ _ _ _ _ _ _ _ _ _ _ _ _ _ _ _ _ _ _ _ _ _ _ _ _ _ _ _ _ _ _ _ _ _ _ _ _ _ _ _ _ _ _ _ _ _ _ _ _ _ _ _ _ _ _ _ _ _ _ _ _ _ _ ?_
      clear h1 h2 h3 HC3
      intro u76 u77 u78 u79 u80 u81 u82 u83 u84 u85 u86 u87 u88 u89 u90 u91 u92 u93 u94 u95 u96 u97 u98 u99 u100 u101 u102 u103 u104 u105 u106 u107 u108 u109 u110 u111 u112 u113 u114 u115 u116 u117 u118 u119 u120 u121 u122 u123 u124 u125 u126 u127 u128 u129 u130 u131 u132 u133 u134 u135 u136 u137 u138 u139 wr b kj hfj hbj
      obtain ⟨t0, t1, t2, _⟩ := three_of (HBX.out wr hfj)
      obtain ⟨_, _, _, _, _, c5, cf⟩ := kj.cells
      have cf5 := cf 5
      have hbw0 : Below w0.heap.size w0 wr := HB.out.trans (HK.out.fr (HK2.out.2.trans hfj (fun b hb => .inl hb)) HB.out.size)
      have HKJ := Lib.hid kj
      have HFJ := Lib.hid hfj
      have HBJ := Lib.hid hbj
      have HBW := Lib.hid hbw0
      clear kj hfj hbj cf hbw0
      simp only [Exit.inBlock, if_true]
      have hml := (HX.out wr HBW.out).k.mx
      have HKE := Lib.hid (keysOk_end (deep := deep) (lo := lo) (hi := hi') (x := x))
      go_upto_region 14 with fail
      go_cut [] (fun wx => ∃ b1, Wk wx w0.heap.size gw gm (some ad) n c root (i :: M) vo out L b1 ∧ Fw gw gm vo W2 wx ∧ (b1 = false ↔ Formed deep x ∧ Holds lo hi' x.ks))
      case first =>
        have hway : b = true ∨ (b = false ∧ x.vs.length ≠ 0) ∨ (b = false ∧ x.vs.length = 0 ∧ x.kids.length ≠ x.ks.length + 1) ∨ (b = false ∧ x.vs.length = 0 ∧ x.kids.length = x.ks.length + 1) := by
          cases b
          · by_cases h1 : x.vs.length = 0
            · by_cases h2 : x.kids.length = x.ks.length + 1
              · exact .inr (.inr (.inr ⟨rfl, h1, h2⟩))
              · exact .inr (.inr (.inl ⟨rfl, h1, h2⟩))
            · exact .inr (.inl ⟨rfl, h1⟩)
          · exact .inl rfl
        rcases hway with rfl | ⟨rfl, h1⟩ | ⟨rfl, h1, h2⟩ | ⟨rfl, h1, h2⟩
        · have HNO := Lib.hid (show (true = false ↔ Formed deep x ∧ Holds lo hi' x.ks) from ⟨fun e => (by cases e), fun e => by
            have := HBJ.out.2 (HKE.out.2 ⟨(HFM.out.1 e.1).1, e.2⟩); cases this⟩)
          go_wp2
          go_meet
          exact ⟨true, HKJ.out.setBad true, HFJ.out.trans (Fw.set _) (fun b hb => .inl hb), HNO.out⟩
        · have h1b : ((x.vs.length : Int) != 0) = true := bne_iff_ne.2 (by omega)
          have HNO := Lib.hid (show (true = false ↔ Formed deep x ∧ Holds lo hi' x.ks) from ⟨fun e => (by cases e), fun e => absurd (HFM.out.1 e.1).2.1 h1⟩)
          clear h1
          go_wp2
          go_meet
          exact ⟨true, HKJ.out.setBad true, HFJ.out.trans (Fw.set _) (fun b hb => .inl hb), HNO.out⟩
        · have hwk : IntKind.i64.wrap ((x.ks.length : Int) + 1) = (x.ks.length : Int) + 1 := IntWalk.i64_in _ (by have := (HKE.out.1 (HBJ.out.1 rfl)).1.2; omega)
          have h1b : ((x.vs.length : Int) != 0) = false := bne_eq_false_iff_eq.2 (by omega)
          have h2b : ((x.kids.length : Int) != (x.ks.length : Int) + 1) = true := bne_iff_ne.2 (by omega)
          have HNO := Lib.hid (show (true = false ↔ Formed deep x ∧ Holds lo hi' x.ks) from ⟨fun e => (by cases e), fun e => absurd (HFM.out.1 e.1).2.2 h2⟩)
          clear h1 h2
          go_wp2
          go_meet
          exact ⟨true, HKJ.out.setBad true, HFJ.out.trans (Fw.set _) (fun b hb => .inl hb), HNO.out⟩
        · have hwk : IntKind.i64.wrap ((x.ks.length : Int) + 1) = (x.ks.length : Int) + 1 := IntWalk.i64_in _ (by have := (HKE.out.1 (HBJ.out.1 rfl)).1.2; omega)
          have h1b : ((x.vs.length : Int) != 0) = false := bne_eq_false_iff_eq.2 (by omega)
          have h2b : ((x.kids.length : Int) != (x.ks.length : Int) + 1) = false := bne_eq_false_iff_eq.2 (by omega)
          have HNO := Lib.hid (show Formed deep x ∧ Holds lo hi' x.ks by
            obtain ⟨g1, g2⟩ := HKE.out.1 (HBJ.out.1 rfl)
            exact ⟨HFM.out.2 ⟨g1, h1, h2⟩, g2⟩)
          clear h1 h2
          go_wp2
          go_meet
          exact ⟨false, HKJ.out.setBad false, HFJ.out.trans (Fw.set _) (fun b hb => .inl hb), ⟨fun _ => HNO.out, fun _ => rfl⟩⟩
      case rest =>
        obtain ⟨b1, k14, f14, hb14⟩ := hcut
        have hst : ∃ b, KidR nodes N f deep w0.heap.size gw gm (some ad) n c root vo out lo hi' x R1 W2 wc 0 b := by
          cases b1 with
          | true =>
            refine ⟨true, vo, f14, fun k hk => .inl hk, .inr ⟨rfl, _, _, _, k14, HR1.out.2.1 fun hg => ?_⟩⟩
            have := hb14.2 hg
            cases this
          | false =>
            have hg := hb14.1 rfl
            refine ⟨false, vo, f14, fun k hk => .inl hk, .inl ⟨rfl, (HFM.out.1 hg.1).2.2, [], ⟨i :: M, out.length, L⟩, out, k14, ⟨rfl, ⟨List.nodup_cons.2 ⟨hM, HA.out.fine.1⟩, fun y hy => ?_⟩, ?_, HA.out.L, HA.out.p1, by omega, by have := HA.out.d; omega⟩, by simp, rfl, fun h => by omega, ?_⟩⟩
            · rcases List.mem_cons.1 hy with rfl | hy
              · exact (List.getElem?_eq_some_iff.1 hx).1
              · exact HA.out.fine.2 y hy
            · have := HA.out.fuel
              simp at this ⊢
              omega
            · rw [rest_zero hkpos]
              exact HR1.out.1 hg
        have HST := Lib.hid hst
        clear c5 cf5 t0 t1 t2 HKJ HFJ HBJ HBW HKE hst k14 f14 hb14
        go_wp2
        obtain ⟨b9, h9⟩ := HST.out
        refine kids_loop w0 W2 gw gm bx ad n c root vo out nodes N f deep lo hi' lv hv x h R1 (ad.add (i * 3)) (fun W hf => HB.out.trans (HK.out.fr (HK2.out.2.trans hf (fun b hb => .inl hb)) HB.out.size)) (fun W hf => HBX.out W hf) HX0.out HLV.out.1 HLV.out.2 HWX.out hkpos (by have := HA.out.d; omega) HIH.out wc b9 h9 _ ?_ _ _ _ _ _ _ _ _ _ _ _ _ _ _ _ _ _ _ _ _ _ _ _ _ _ _ _ _ _ _ _ _ _ _ _ _ _ _ _ _ _ _ _ _ _ _ _ _ _ _ _ _ _ _ _ _ _ _ _ _ _ _ _ _ _ _ _ _ _ _ _ _ _ _ _ _ _ _ _ _ _ _ _ _ _ _ _ _ _ _ _ _ _ _ _ _ _ _ _ _ _ _ _ _ _ _ _ _ _ _ _ _ _ _ _ _ _ _ _ _ _ _ _ _ _ _ _ _ _ _ _ _ _ _ _ _ _ _ _ _ _ _ _ _ _ _ _ _ _ _ _ _ _ _ _ _ _ _ _ _ _ _ _ _ _ _ _ _ _ _ _ _ _ _ _ _ _ _ _ _ _ _ _ _ _ _ _ _ _ _ _ _ _ _ _ _ _ _ _ _ _ _ _ _ _ _ _ _ _ _ _
        rintro ⟨aT, aD⟩ w9 hd9 hp9
        have HFIN := Lib.hid (show NdPost w w9 w0.heap.size gw gm (some ad) n c root vo out deep (R1.map (fun q => (Tr.mk x.ks x.vs q.1, q.2))) by
          obtain ⟨vo', g1, g2, g3⟩ := hp9
          exact ⟨vo', HK2.out.2.trans g1 (fun b hb => .inl hb), fun k hk => (g2 k hk).elim .inl (fun h1 => .inr (Nat.le_trans HK2.out.2.size h1)), g3⟩)
        simp only at hd9
        subst hd9
        clear hp9
        simp only [Exit.inBlock, if_true]
        exact bodyPost_end (v := .tuple #[]) (by simp [results, Try.results46, go_sem]) rfl ⟨rfl, HFIN.out⟩
end Go.Proofs.Ytkpjkglheegmgaa
namespace Go.Proofs.Ytkpjkglheegmgaa
open Go.RowKit
set_option linter.unusedSimpArgs false
set_option linter.unusedVariables false

theorem node_any (w0 : World) (nodes : List Nd) (N : Nat) (hN : N ≤ 100000000000000) (hWf : Wfn nodes) (gw gm : Nat) (A : Option Addr) (n c : Nat) (root : Int) (hS : RdS w0 A n nodes) :
    ∀ (f deep : Nat) (lo hi : Bd) (a : Int) (s : Sr) (w : World) (vo : Value) (out : List Pr) (lv hv : Value), Wk w w0.heap.size gw gm A n c root s.M vo out s.L false → Below w0.heap.size w0 w → AskR nodes N f deep s out → (-9223372036854775808 ≤ a ∧ a ≤ 9223372036854775807) → BdV w0 lv lo → BdV w0 hv hi →
      Calls Try.prog 46 #[ptr gw, .int .i64 a, .int .i64 deep, lv, hv] w fun e w' => e = .returned (.tuple #[]) ∧ NdPost w w' w0.heap.size gw gm A n c root vo out deep (rd nodes f lo hi deep a s) := by
  have hn := hS.len
  have hmx := hS.max
  intro f
  induction f with
  | zero =>
    intro deep lo hi a s w vo out lv hv k hB hA ha hl hh
    have e : rd nodes 0 lo hi deep a s = none := by rw [rd]
    rw [e]
    refine node_out w0 w gw gm A n c root s.M vo out s.L k a deep lv hv (by omega) ?_
    by_cases h1 : a < 0 ∨ (n : Int) ≤ a
    · rcases h1 with h1 | h1
      · exact .inl h1
      · exact .inr (.inl h1)
    · exact .inr (.inr ⟨a.toNat, by omega, by omega, nodup_full hA.fine.1 hA.fine.2 (by have := hA.fuel; omega) _ (by omega)⟩)
  | succ f ih =>
    intro deep lo hi a s w vo out lv hv k hB hA ha hl hh
    obtain ⟨M, p, L⟩ := s
    have hp : p = out.length := hA.p
    subst hp
    by_cases h1 : a < 0 ∨ (n : Int) ≤ a ∨ ∃ i : Nat, a = i ∧ i < n ∧ i ∈ M
    · have e : rd nodes (f + 1) lo hi deep a ⟨M, out.length, L⟩ = none := by
        rw [rd]
        rcases h1 with h1 | h1 | ⟨i, rfl, h2, h3⟩
        · rw [if_neg (by omega)]
        · rw [if_pos (by omega), List.getElem?_eq_none (by omega)]
        · rw [if_pos (by omega), Int.toNat_natCast, List.getElem?_eq_getElem (by omega)]
          simp only
          rw [if_pos h3]
      rw [e]
      exact node_out w0 w gw gm A n c root M vo out L k a deep lv hv (by omega) h1
    · simp only [not_or, not_exists, not_and] at h1
      obtain ⟨h2, h3, h4⟩ := h1
      obtain ⟨i, rfl⟩ : ∃ i : Nat, a = i := ⟨a.toNat, by omega⟩
      have hi' : i < n := by omega
      have hM : i ∉ M := h4 i rfl hi'
      obtain ⟨x, hx⟩ : ∃ x, nodes[i]? = some x := ⟨_, List.getElem?_eq_getElem (by omega)⟩
      have hd := hA.d
      have hd1 := hA.d1
      have hLL : L ≤ N := hA.L
      have hp1 : out.length ≤ 2048 := hA.p1
      by_cases hk : x.kids.isEmpty = true
      · exact node_leaf w0 w gw gm A n c root M vo out L k hB nodes hS i hi' hM x hx deep ⟨hd1, by omega⟩ (by omega) hp1 lo hi lv hv hl hh (List.isEmpty_iff.1 hk) f
      · exact node_inner w0 w gw gm A n c root M vo out L k hB nodes hS i hi' hM x hx deep ⟨hd1, by omega⟩ (by omega) hp1 lo hi lv hv hl hh (by simpa using hk) N f hN hA hWf
          (fun a lo' hi'' lv' hv' W s vo'' out'' k' hB' hA' ha' hl' hh' => ih (deep + 1) lo' hi'' a s W vo'' out'' lv' hv' k' hB' hA' ha' hl' hh')
end Go.Proofs.Ytkpjkglheegmgaa
